import Derived.Test.YtaklngfibnbmcaaGreatDoorVc07
import Derived.Test.YtaklngfibnbmcaaGreatDoorVc03
import Derived.Test.YtaklngfibnbmcaaGreatDoorVc15
import Derived.Laws.Tables
import Derived.Laws.AppendOwnNone
import Derived.Deep.WholeRow
namespace Go.Proofs.YtaklngfibnbmcaaGreatDoor.Instr
end Go.Proofs.YtaklngfibnbmcaaGreatDoor.Instr
namespace Go.Proofs.YtaklngfibnbmcaaGreatDoor.Kind
end Go.Proofs.YtaklngfibnbmcaaGreatDoor.Kind
namespace Go.Proofs.YtaklngfibnbmcaaGreatDoor.Mod
end Go.Proofs.YtaklngfibnbmcaaGreatDoor.Mod
namespace Go.Proofs.YtaklngfibnbmcaaGreatDoor.Body
set_option linter.unusedVariables false
open Go.RowKit Go.Proofs.YtaklngfibnbmcaaGreatDoor.Instr
open Go.Proofs.YtaklngfibnbmcaaGreatDoor.Kind (Rd)

theorem RcIs.belowB {B : Nat} {w w' : World} {k : Nat} {v : Value} {s : Rd} {n : Int} (h : RcIs w k v s n) (hb : Below B w w') (hk : k < B) : RcIs w' k v s n :=
  ⟨h.toRdIs.belowB hb hk, (hb.cell hk).trans h.c4, (hb.frozen hk).trans h.f4⟩
theorem Bx.belowB {B : Nat} {w w' : World} {g : Nat} {x : Ix} (h : Bx g x w) (hb : Below B w w') (hg : g < B) : Bx g x w' :=
  ⟨⟨(hb.cell hg).trans h.at_.c0, (hb.cell hg).trans h.at_.c1, (hb.cell hg).trans h.at_.c2, (hb.cell hg).trans h.at_.c3, (hb.cell hg).trans h.at_.c4, (hb.cell hg).trans h.at_.c5, (hb.cell hg).trans h.at_.c6, (hb.cell hg).trans h.at_.c7⟩,
    (hb.frozen hg).trans h.f0, (hb.frozen hg).trans h.f1, (hb.frozen hg).trans h.f2, (hb.frozen hg).trans h.f3, (hb.frozen hg).trans h.f4, (hb.frozen hg).trans h.f5, (hb.frozen hg).trans h.f6, (hb.frozen hg).trans h.f7⟩
/-- While an instruction is read: the reader, the result's block, the instruction's block behind it. -/
structure Mid (w : World) (k : Nat) (v : Value) (n : Int) (s : Rd) (x : Ix) (W : World) : Prop where
  r : RcIs W k v s n
  sv : Save k w W
  res : Bx w.heap.size zeroX W
  box : Bx (w.heap.size + 1) x W
  lt : k < w.heap.size
section
variable {w W W' : World} {k : Nat} {v : Value} {n : Int} {s s' : Rd} {x : Ix}
theorem Mid.call {n' : Int} (M : Mid w k v n s x W) (h : RcIs W' k v s' n') (hs : Save k W W') : Mid w k v n' s' x W' := ⟨h, M.sv.trans hs, M.res.save hs (by have := M.lt; omega), M.box.save hs (by have := M.lt; omega), M.lt⟩
end
/-- An instruction is written into the result's block. -/
def fin (w : World) (g : Nat) (x : Ix) : World :=
  (((((((w.setCell ⟨g, 0, none⟩ (.int .i64 x.op)).setCell ⟨g, 1, none⟩ (.int .i64 x.res)).setCell ⟨g, 2, none⟩ (.int .u32 x.a)).setCell ⟨g, 3, none⟩ (.int .u32 x.b)).setCell ⟨g, 4, none⟩ (.int .i32 x.n)).setCell ⟨g, 5, none⟩ (.slice x.ta x.tags.length x.tc)).setCell ⟨g, 6, none⟩ (.slice x.la x.ln x.lc)).setCell ⟨g, 7, none⟩ (.slice x.ea x.en x.ec)
end Go.Proofs.YtaklngfibnbmcaaGreatDoor.Body

/-
  BODY: the document's own reading of an instruction with labels, by contract.
-/
namespace Go.Proofs.YtaklngfibnbmcaaGreatDoor.Body
set_option linter.unusedVariables false
open Go.RowKit Go.Proofs.YtaklngfibnbmcaaGreatDoor.Instr
open Go.Proofs.YtaklngfibnbmcaaGreatDoor.Kind (Rd)

theorem Mid.more {w W W' : World} {k : Nat} {v : Value} {n : Int} {s : Rd} {x : Ix} (M : Mid w k v n s x W) (hB : Below (w.heap.size + 2) W W') : Mid w k v n s x W' :=
  ⟨M.r.belowB hB (by have := M.lt; omega), save_under M.sv (hB.mono (by omega)), M.res.belowB hB (by omega), M.box.belowB hB (by omega), M.lt⟩
end Go.Proofs.YtaklngfibnbmcaaGreatDoor.Body

/-
  BODY: the document's own reading of lists: what a list, and an instruction with lists, give; the list that is read so far (plain, and in memory).
-/
namespace Go.Proofs.YtaklngfibnbmcaaGreatDoor.Body
set_option linter.unusedVariables false
open Go.RowKit Go.Proofs.YtaklngfibnbmcaaGreatDoor.Instr
open Go.Proofs.YtaklngfibnbmcaaGreatDoor.Kind (Rd)

/-- The list that has been read so far, in memory of its own. -/
structure LOk (w : World) (out : Value) (t : Il) (W : World) : Prop where
  row : W.ownsRow w.heap.size 61 8 out t.len t.cells
  kids : t.kids W
  low : ∀ q ∈ t.foot, w.heap.size ≤ q
  apart : ∀ q ∈ t.foot, out.ownBlock ≠ some q
theorem LOk.start (w W : World) : LOk w (.slice none 0 0) .nil W := ⟨World.ownsRow_nil _ _ _ _, trivial, by simp [Il.foot], by simp [Il.foot]⟩
theorem LOk.touch {S : Nat → Prop} {w W W' : World} {out : Value} {t : Il} (h : LOk w out t W) (ht : Touch S W W') (hs : ∀ q, w.heap.size ≤ q → ¬ S q) : LOk w out t W' :=
  ⟨touch_row h.row ht (fun g hg => hs g (World.ownsRow.lt h.row g hg).1), kids_touch ht h.kids (fun q hq => hs q (h.low q hq)), h.low, h.apart⟩
theorem LOk.save {k : Nat} {w W W' : World} {out : Value} {t : Il} (h : LOk w out t W) (hs : Save k W W') (hk : k < w.heap.size) : LOk w out t W' :=
  h.touch (.of_save hs) (fun q hq e => by omega)
theorem LOk.value {w W : World} {out : Value} {t : Il} (h : LOk w out t W) : ∃ a c, out = .slice a t.len c ∧ ListAt W.heap.size W a t.len t ∧ ∀ q ∈ blkOf t.len a ++ t.foot, w.heap.size ≤ q := by
  obtain ⟨a, c, e1, e2, e3⟩ := list_of_row h.row h.kids
  refine ⟨a, c, e1, e2, fun q hq => ?_⟩
  rcases List.mem_append.1 hq with hq | hq
  · rw [e3] at hq
    split at hq
    · simp at hq
    · split at hq
      · rename_i g hg
        simp at hq
        subst hq
        exact (World.ownsRow.lt h.row q hg).1
      · simp at hq
  · exact h.low q hq
theorem LOk.snoc {w W W2 W3 : World} {out : Value} {t : Il} {y : Ix} {l f : Il} {g cap : Nat} {o : Obj} (h : LOk w out t W) (h2 : LOk w out t W2) (hk : (Il.cons y l f .nil).kids W2) (hlo : ∀ q ∈ (Il.cons y l f .nil).foot, W.heap.size ≤ q) (hw : w.heap.size ≤ W.heap.size)
    (hown : W3.ownsRow w.heap.size 61 8 (.slice (some ⟨g, 0, none⟩) (t.len + 1) cap) (t.len + 1) (t.cells ++ y.vals.toList)) (hg : (W2.alloc o).grownBy W3 out.ownBlock) (hat : out.ownBlock = some g ∨ g = (W2.alloc o).heap.size) :
    LOk w (.slice (some ⟨g, 0, none⟩) (t.len + 1) cap) (t.app (.cons y l f .nil)) W3 := by
  have ht : Touch (fun j => out.ownBlock = some j) W2 W3 := (Touch.of_below (thenA (Below.refl _ _) o)).trans (Touch.of_grown hg)
  have hne : ∀ q ∈ (Il.cons y l f .nil).foot, out.ownBlock ≠ some q := fun q hq e => by
    have h1 := hlo q hq
    have h3 := (World.ownsRow.lt h.row q e).2
    omega
  have hlt : ∀ q ∈ t.foot, q < W2.heap.size := kids_lt h2.kids
  have hlt2 : ∀ q ∈ (Il.cons y l f .nil).foot, q < W2.heap.size := kids_lt hk
  have hsz : (W2.alloc o).heap.size = W2.heap.size + 1 := by simp
  refine ⟨?_, kids_app _ _ (kids_touch ht h2.kids h2.apart) (kids_touch ht hk hne), ?_, ?_⟩
  · rw [app_len, cells_app]
    simp only [Il.len, Il.cells, List.append_nil, Nat.zero_add]
    exact hown
  · intro q hq
    rw [foot_app] at hq
    rcases List.mem_append.1 hq with hq | hq
    · exact h2.low q hq
    · exact Nat.le_trans hw (hlo q hq)
  · intro q hq e
    simp only [Value.ownBlock, Option.some.injEq] at e
    subst e
    rw [foot_app] at hq
    rcases hat with hat | hat
    · rcases List.mem_append.1 hq with hq | hq
      · exact h2.apart g hq hat
      · exact hne g hq hat
    · rcases List.mem_append.1 hq with hq | hq
      · have := hlt g hq; omega
      · have := hlt2 g hq; omega
section
variable {ops : Array Oper} {rest : List Oper} {o : Oper} {act : Act} {Q : Exit → Act → World → Prop}
/-- An instruction is appended. -/
theorem append_ins (hgd : o.guard = none) (s x : Operand) (ho : o.op = .call { callee := .builtin .append, args := #[s, x], argTypes := #[43, 43] })
    {base n : Nat} {wr : World} {v : Value} {xs : List Value} (y : Ix) (hs : act.eval s = v) (hown : wr.ownsRow base 61 8 v n xs) (hbase : base ≤ wr.heap.size)
    (hx : act.eval x = .slice (some ⟨wr.heap.size, 0, none⟩) 1 1) (hn : n ≤ 1000000)
    (h : ∀ g cap w', w'.ownsRow base 61 8 (.slice (some ⟨g, 0, none⟩) (n + 1) cap) (n + 1) (xs ++ y.vals.toList) → (wr.alloc (.cells y.vals 61)).grownBy w' v.ownBlock → (v.ownBlock = some g ∨ g = (wr.alloc (.cells y.vals 61)).heap.size) → wpList Tryz.prog ops Q rest (act.put o.dst (.slice (some ⟨g, 0, none⟩) (n + 1) cap)) w') :
    wpList Tryz.prog ops Q (o :: rest) act (wr.alloc (.cells y.vals 61)) := by
  obtain ⟨i0, hi, hz0, hz1, hz2⟩ := info_parts infoI
  refine wpList_append_lies _ hgd s x 43 ho base 61 i0 zeroI 8 104 Tryz.underlying43 hi hz0 hz1 hz2 rfl (by decide) v n xs hs (World.ownsRow.alloc hown _) ⟨wr.heap.size, 0, none⟩ 1 1 y.vals.toList hx rfl
    (World.news_of_block (heap_alloc_new wr _)) ?_ (by omega) ?_ ?_ ?_ _ rfl (fun g cap w' h1 h2 h3 _ => h g cap w' h1 h2 h3)
  · intro u hu
    simp only [Ix.vals, List.mem_cons, List.not_mem_nil, or_false] at hu
    rcases hu with rfl | rfl | rfl | rfl | rfl | rfl | rfl | rfl <;> rfl
  · unfold maxLen; omega
  · omega
  · simp; omega
end
end Go.Proofs.YtaklngfibnbmcaaGreatDoor.Body

/-
  BODY: the document's own reading of an instruction that has lists, by contract. (tools/gen_bodyrefb.py)
-/
namespace Go.Proofs.YtaklngfibnbmcaaGreatDoor.Body
set_option linter.unusedVariables false
open Go.RowKit Go.Proofs.YtaklngfibnbmcaaGreatDoor.Instr
open Go.Proofs.YtaklngfibnbmcaaGreatDoor.Kind (Rd)

theorem Bx.setL {g : Nat} {x : Ix} {w : World} (h : Bx g x w) (a : Option Addr) (n c : Nat) : Bx g ⟨x.op, x.res, x.a, x.b, x.n, x.tags, x.ta, x.tc, a, n, c, x.ea, x.en, x.ec⟩ (w.setCell ⟨g, 6, none⟩ (.slice a n c)) := by
  obtain ⟨⟨c0, c1, c2, c3, c4, c5, c6, c7⟩, f0, f1, f2, f3, f4, f5, f6, f7⟩ := h
  refine ⟨⟨?_, ?_, ?_, ?_, ?_, ?_, ?_, ?_⟩, ?_, ?_, ?_, ?_, ?_, ?_, ?_, ?_⟩ <;> simp [go_sem, *]
theorem Bx.setE {g : Nat} {x : Ix} {w : World} (h : Bx g x w) (a : Option Addr) (n c : Nat) : Bx g ⟨x.op, x.res, x.a, x.b, x.n, x.tags, x.ta, x.tc, x.la, x.ln, x.lc, a, n, c⟩ (w.setCell ⟨g, 7, none⟩ (.slice a n c)) := by
  obtain ⟨⟨c0, c1, c2, c3, c4, c5, c6, c7⟩, f0, f1, f2, f3, f4, f5, f6, f7⟩ := h
  refine ⟨⟨?_, ?_, ?_, ?_, ?_, ?_, ?_, ?_⟩, ?_, ?_, ?_, ?_, ?_, ?_, ?_, ?_⟩ <;> simp [go_sem, *]
/-- While an instruction with lists is read: the reader, the instruction's block, the result's behind it. -/
structure Blk (w : World) (k : Nat) (v : Value) (n : Int) (s : Rd) (x : Ix) (W : World) : Prop where
  r : RcIs W k v s n
  sv : Save k w W
  box : Bx w.heap.size x W
  res : Bx (w.heap.size + 1) zeroX W
  lt : k < w.heap.size
section
variable {w W W' : World} {k : Nat} {v : Value} {n : Int} {s s' : Rd} {x : Ix}
theorem Blk.call {n' : Int} (M : Blk w k v n s x W) (h : RcIs W' k v s' n') (hs : Save k W W') : Blk w k v n' s' x W' := ⟨h, M.sv.trans hs, M.box.save hs (by have := M.lt; omega), M.res.save hs (by have := M.lt; omega), M.lt⟩
theorem Blk.size (M : Blk w k v n s x W) : w.heap.size + 2 ≤ W.heap.size := by
  have := World.block_lt_of_cell? W _ M.res.at_.c0
  simp only at this
  omega
end
end Go.Proofs.YtaklngfibnbmcaaGreatDoor.Body

/-
  BODY: the document's own one and list, by contract. (tools/gen_bodyrefl.py)
-/
namespace Go.Proofs.YtaklngfibnbmcaaGreatDoor.Body
set_option linter.unusedVariables false
open Go.RowKit Go.Proofs.YtaklngfibnbmcaaGreatDoor.Instr
open Go.Proofs.YtaklngfibnbmcaaGreatDoor.Kind (Rd)

theorem Mid.size {w W : World} {k : Nat} {v : Value} {n : Int} {s : Rd} {x : Ix} (M : Mid w k v n s x W) : w.heap.size + 2 ≤ W.heap.size := by
  have := World.block_lt_of_cell? W _ M.box.at_.c0
  simp only at this
  omega
end Go.Proofs.YtaklngfibnbmcaaGreatDoor.Body

/-
  BODY: the document's own list, by contract. (tools/gen_bodyrefm.py)
-/
namespace Go.Proofs.YtaklngfibnbmcaaGreatDoor.Body
set_option linter.unusedVariables false
open Go.RowKit Go.Proofs.YtaklngfibnbmcaaGreatDoor.Instr
open Go.Proofs.YtaklngfibnbmcaaGreatDoor.Kind (Rd)

theorem below_grown {w W W' : World} {out : Value} {n : Nat} {xs : List Value} {o : Obj} (h : W.ownsRow w.heap.size 61 8 out n xs) (hw : w.heap.size ≤ W.heap.size) (hg : (W.alloc o).grownBy W' out.ownBlock) : Below w.heap.size W W' :=
  ((Below.refl w.heap.size W).alloc hw o).grown hg (by simp; omega) (fun j hj => (World.ownsRow.lt h j hj).1)

end Go.Proofs.YtaklngfibnbmcaaGreatDoor.Body

/-
  BODY: the document's own Get, by contract.
-/
namespace Go.Proofs.YtaklngfibnbmcaaGreatDoor.Body
set_option linter.unusedVariables false
open Go.RowKit Go.Proofs.YtaklngfibnbmcaaGreatDoor.Instr
open Go.Proofs.YtaklngfibnbmcaaGreatDoor.Kind (Rd)

/-- Two cells that are there. -/
structure Duq (T : Nat) (x y : Value) (w : World) : Prop where
  c0 : w.cell? ⟨T, 0, none⟩ = some x
  c1 : w.cell? ⟨T, 1, none⟩ = some y
  f0 : w.frozen? ⟨T, 0, none⟩ = false
  f1 : w.frozen? ⟨T, 1, none⟩ = false
theorem Duq.save {k T : Nat} {x y : Value} {w w' : World} (h : Duq T x y w) (hs : Save k w w') (hk : T ≠ k) : Duq T x y w' :=
  have hl := World.block_lt_of_cell? w _ h.c0
  ⟨hs.cell hk h.c0, hs.cell hk h.c1, hs.frozen hl hk h.f0, hs.frozen hl hk h.f1⟩
theorem alloc_bq (w : World) (o : Obj) : Below w.heap.size w (w.alloc o) := (Below.refl _ _).alloc (Nat.le_refl _) o
end Go.Proofs.YtaklngfibnbmcaaGreatDoor.Body

namespace Go.Proofs.YtaklngfibnbmcaaGreatDoor.Instr
open Go.RowKit

def Il.weight : Il → Nat
  | .nil => 0
  | .cons x l e r => 1 + x.tags.length + l.weight + e.weight + r.weight
def tagsMin (x : Ix) (most : Int) : Int := min (x.tags.length : Int) most
/-- Counted on from n, no further than beyond 'most'. -/
def Il.go : Il → Int → Int → Int
  | .nil, n, _ => n
  | .cons x l e r, n, most =>
    if n ≤ most then
      r.go (if (if n + 1 + tagsMin x most ≤ most then n + 1 + tagsMin x most + l.go 0 (most - (n + 1 + tagsMin x most)) else n + 1 + tagsMin x most) ≤ most
        then (if n + 1 + tagsMin x most ≤ most then n + 1 + tagsMin x most + l.go 0 (most - (n + 1 + tagsMin x most)) else n + 1 + tagsMin x most) + e.go 0 (most - (if n + 1 + tagsMin x most ≤ most then n + 1 + tagsMin x most + l.go 0 (most - (n + 1 + tagsMin x most)) else n + 1 + tagsMin x most))
        else (if n + 1 + tagsMin x most ≤ most then n + 1 + tagsMin x most + l.go 0 (most - (n + 1 + tagsMin x most)) else n + 1 + tagsMin x most)) most
    else n
/-- Behind one of them. -/
def next1 (n m : Int) (most : Int) : Int := if n ≤ most then n + m else n
theorem next1_pos {n m most : Int} (h : n ≤ most) : next1 n m most = n + m := if_pos h
theorem next1_neg {n m most : Int} (h : ¬ n ≤ most) : next1 n m most = n := if_neg h
theorem go_cons (x : Ix) (l e r : Il) (n most : Int) (h : n ≤ most) : (Il.cons x l e r).go n most =
    r.go (next1 (next1 (n + 1 + tagsMin x most) (l.go 0 (most - (n + 1 + tagsMin x most))) most) (e.go 0 (most - next1 (n + 1 + tagsMin x most) (l.go 0 (most - (n + 1 + tagsMin x most))) most)) most) most := by
  rw [Il.go, if_pos h]; rfl
theorem go_over (t : Il) (n most : Int) (h : most < n) : t.go n most = n := by
  cases t with
  | nil => rfl
  | cons x l e r => rw [Il.go, if_neg (by omega)]
theorem tagsMin_bounds (x : Ix) (most : Int) (h : 0 ≤ most) : 0 ≤ tagsMin x most ∧ tagsMin x most ≤ most ∧ tagsMin x most ≤ x.tags.length := by unfold tagsMin; omega
theorem go_bounds : ∀ (t : Il) (n most : Int), 0 ≤ n → 0 ≤ most → n ≤ 2 * most + 1 → n ≤ t.go n most ∧ t.go n most ≤ 2 * most + 1 ∧ (t.go n most ≤ most → n + t.weight ≤ t.go n most)
  | .nil, n, most, h0, h1, h2 => by simp [Il.go, Il.weight, h2]
  | .cons x l e r, n, most, h0, h1, h2 => by
    by_cases h : n ≤ most
    · rw [go_cons x l e r n most h]
      have hT := tagsMin_bounds x most h1
      obtain ⟨T, hTT⟩ : ∃ T, tagsMin x most = T := ⟨_, rfl⟩
      have hx : T = most ∨ T = x.tags.length := by rw [← hTT]; unfold tagsMin; omega
      rw [hTT] at hT ⊢
      have A : ∀ (N2 : Int), next1 (n + 1 + T) (l.go 0 (most - (n + 1 + T))) most = N2 → n + 1 + T ≤ N2 ∧ N2 ≤ 2 * most + 1 ∧ (N2 ≤ most → n + 1 + T + l.weight ≤ N2 ∧ n + 1 + T ≤ most) := by
        intro N2 h
        subst h
        unfold next1
        split
        · have := go_bounds l 0 (most - (n + 1 + T)) (by omega) (by omega) (by omega)
          refine ⟨by omega, by omega, fun hh => ⟨?_, by omega⟩⟩
          have := this.2.2 (by omega)
          omega
        · exact ⟨by omega, by omega, fun hh => by omega⟩
      obtain ⟨N2, h2'⟩ : ∃ N2, next1 (n + 1 + T) (l.go 0 (most - (n + 1 + T))) most = N2 := ⟨_, rfl⟩
      have a := A N2 h2'
      rw [h2']
      have B : ∀ (N3 : Int), next1 N2 (e.go 0 (most - N2)) most = N3 → N2 ≤ N3 ∧ N3 ≤ 2 * most + 1 ∧ (N3 ≤ most → N2 + e.weight ≤ N3 ∧ N2 ≤ most) := by
        intro N3 h
        subst h
        unfold next1
        split
        · have := go_bounds e 0 (most - N2) (by omega) (by omega) (by omega)
          refine ⟨by omega, by omega, fun hh => ⟨?_, by omega⟩⟩
          have := this.2.2 (by omega)
          omega
        · exact ⟨by omega, by omega, fun hh => by omega⟩
      obtain ⟨N3, h3'⟩ : ∃ N3, next1 N2 (e.go 0 (most - N2)) most = N3 := ⟨_, rfl⟩
      have b := B N3 h3'
      rw [h3']
      have c := go_bounds r N3 most (by omega) h1 (by omega)
      refine ⟨by omega, c.2.1, fun hh => ?_⟩
      have c3 := c.2.2 hh
      have b3 := b.2.2 (by omega)
      have a3 := a.2.2 (by omega)
      simp only [Il.weight]
      omega
    · rw [go_over _ _ _ (by omega)]
      exact ⟨by omega, by omega, fun hh => by omega⟩
theorem weight_count : ∀ t : Il, t.count ≤ t.weight
  | .nil => Nat.le_refl _
  | .cons x l e r => by have := weight_count l; have := weight_count e; have := weight_count r; simp only [Il.count, Il.weight]; omega

set_option maxRecDepth 100000 in
set_option maxHeartbeats 1600000 in
theorem Instrs_any : ∀ (m : Nat) (t : Il) (a : Option Addr) (len c : Nat) (most : Int) (w : World), t.count ≤ m → ListAt w.heap.size w a len t → len ≤ 140737488351232 → 0 ≤ most → most ≤ 5000 →
    Calls Tryz.prog 18 #[.slice a len c, .int .i64 most] w fun e w' => e = .returned (.int .i64 (t.go 0 most)) ∧ w = w' := by
  intro m
  induction m with
  | zero =>
    intro t a len c most w hm hL hlen hm0 hm1
    cases t with
    | cons x l e r => simp only [Il.count] at hm; omega
    | nil =>
      have h0 : len = 0 := hL.1.symm
      subst h0
      clear hm hL
      go_enter Tryz.func18, Tryz.ntmps18
      go_wp2
      go_loopw [5, 6] (fun sn si wr => si = .int .i64 0 ∧ sn = .int .i64 0 ∧ wr = w) (fun _ _ _ => 0)
      case atStart => exact ⟨rfl, rfl, rfl⟩
      case round =>
        obtain ⟨rfl, rfl, rfl⟩ := hrel
        go_wp2
        go_ret
        exact ⟨rfl, rfl⟩
  | succ m ih =>
    intro t a len c most w hm hL hlen hm0 hm1
    obtain ⟨hL1, hL2⟩ := hL
    have HM := hid hm
    have HL1 := hid hL1
    have HG : Hid (t.go 0 most = t.go 0 most) := hid rfl
    clear hm hL1
    rcases hL2 with rfl | ⟨b, off, rfl, hi⟩
    · have h0 : len = 0 := HL1.out.symm
      subst h0
      clear ih
      go_enter Tryz.func18, Tryz.ntmps18
      go_wp2
      go_loopw [5, 6] (fun sn si wr => si = .int .i64 0 ∧ sn = .int .i64 0 ∧ wr = w) (fun _ _ _ => 0)
      case atStart => exact ⟨rfl, rfl, rfl⟩
      case round =>
        obtain ⟨rfl, rfl, rfl⟩ := hrel
        go_wp2
        go_ret
        exact ⟨rfl, rfl⟩
    · go_enter Tryz.func18, Tryz.ntmps18
      go_wp2
      go_loopw [5, 6] (fun sn si wr => ∃ (k : Nat) (n : Int) (rest : Il), si = .int .i64 k ∧ sn = .int .i64 n ∧ k ≤ len ∧ 0 ≤ n ∧ n ≤ 2 * most + 1 ∧ Hid (k + rest.len = len ∧ rest.go n most = t.go 0 most ∧ rest.count ≤ t.count) ∧ Items w.heap.size w b (off + k * 8) rest ∧ wr = w)
        (fun _ si _ => len - (intOf si).toNat)
      case atStart => exact ⟨0, 0, t, rfl, rfl, Nat.zero_le _, by omega, by omega, ⟨by have := HL1.out; omega, rfl, Nat.le_refl _⟩, by simpa using hi, rfl⟩
      case round =>
        obtain ⟨k, n, rest, rfl, rfl, hk, hn0, hn1, HR, hir, rfl⟩ := hrel
        cases rest with
        | nil =>
          obtain ⟨r1, r2, _⟩ := HR.out
          have hkl : k = len := by simpa [Il.len] using r1
          subst hkl
          have R2 : Hid (n = t.go 0 most) := by show _ = _; rw [← r2]; rfl
          clear r2
          go_wp2
          go_ret
          exact ⟨ret_int R2.out, rfl⟩
        | cons x tl te r =>
          obtain ⟨hbn, hx, ⟨c0, c1, c2, c3, c4, c5, c6, c7⟩, ht, hLl, hLe, hir'⟩ := hir
          have hlt : k < len := by have := HR.out.1; simp only [Il.len] at this; omega
          by_cases hnm : n ≤ most
          · have hcnt : tl.count + te.count + 1 ≤ m + 1 := by have h1 := HR.out.2.2; have h2 := HM.out; simp only [Il.count] at h1; omega
            have htn := hx.tn
            have hLn := hx.ln
            have hEn := hx.en
            have hTb := tagsMin_bounds x most hm0
            rcases (Int.lt_or_le most (x.tags.length : Int)).symm with hle | hle
            · have hT : min (x.tags.length : Int) most = (x.tags.length : Int) := by omega
              have HT : Hid (tagsMin x most = (x.tags.length : Int)) := hid (show tagsMin x most = _ from hT)
              rw [HT.out] at hTb
              obtain ⟨tb0, tb1, _⟩ := hTb
              by_cases c1 : n + 1 + (x.tags.length : Int) ≤ most
              · have ih1 := ih tl x.la x.ln x.lc (most - (n + 1 + (x.tags.length : Int))) wr (by omega) hLl hLn (by omega) (by omega)
                have b1 := go_bounds tl 0 (most - (n + 1 + (x.tags.length : Int))) (by omega) (by omega) (by omega)
                obtain ⟨g1, hg1⟩ : ∃ g1, tl.go 0 (most - (n + 1 + (x.tags.length : Int))) = g1 := ⟨_, rfl⟩
                rw [hg1] at ih1 b1
                obtain ⟨b10, b11, _⟩ := b1
                have G1 := hid hg1
                have I1 := hid ih1
                clear hg1 ih1
                by_cases c2 : n + 1 + (x.tags.length : Int) + g1 ≤ most
                · have ih2 := ih te x.ea x.en x.ec (most - (n + 1 + (x.tags.length : Int) + g1)) wr (by omega) hLe hEn (by omega) (by omega)
                  have b2 := go_bounds te 0 (most - (n + 1 + (x.tags.length : Int) + g1)) (by omega) (by omega) (by omega)
                  obtain ⟨g2, hg2⟩ : ∃ g2, te.go 0 (most - (n + 1 + (x.tags.length : Int) + g1)) = g2 := ⟨_, rfl⟩
                  rw [hg2] at ih2 b2
                  obtain ⟨b20, b21, _⟩ := b2
                  have G2 := hid hg2
                  have I2 := hid ih2
                  clear hg2 ih2
                  go_wp2_with fail
                  refine I1.out.mono ?_
                  clear I1
                  rintro e1 w1 ⟨rfl, rfl⟩
                  go_wp2_with fail
                  refine I2.out.mono ?_
                  clear I2
                  rintro e1 w1 ⟨rfl, rfl⟩
                  go_wp2
                  go_roundw
                  case rel =>
                    refine ⟨k + 1, n + 1 + (x.tags.length : Int) + g1 + g2, r, by simp, by first | rfl | simp, by omega, by omega, by omega, ⟨by have := HR.out.1; simp only [Il.len] at this; omega, ?_, by have := HR.out.2.2; simp only [Il.count] at this; omega⟩, by rw [show off + (k + 1) * 8 = off + k * 8 + 8 by omega]; exact hir', by first | rfl | trivial⟩
                    rw [← HR.out.2.1, go_cons x tl te r n most hnm]
                    rw [HT.out, G1.out, next1_pos c1, G2.out, next1_pos c2]
                  case measure => simp [intOf]; omega

                · have c2' : most < n + 1 + (x.tags.length : Int) + g1 := by omega
                  clear ih
                  go_wp2_with fail
                  refine I1.out.mono ?_
                  clear I1
                  rintro e1 w1 ⟨rfl, rfl⟩
                  go_wp2
                  go_roundw
                  case rel =>
                    refine ⟨k + 1, n + 1 + (x.tags.length : Int) + g1, r, by simp, by first | rfl | simp, by omega, by omega, by omega, ⟨by have := HR.out.1; simp only [Il.len] at this; omega, ?_, by have := HR.out.2.2; simp only [Il.count] at this; omega⟩, by rw [show off + (k + 1) * 8 = off + k * 8 + 8 by omega]; exact hir', by first | rfl | trivial⟩
                    rw [← HR.out.2.1, go_cons x tl te r n most hnm]
                    rw [HT.out, G1.out, next1_pos c1, next1_neg (n := n + 1 + (x.tags.length : Int) + g1) (by omega)]
                  case measure => simp [intOf]; omega

              · have c1' : most < n + 1 + (x.tags.length : Int) := by omega
                clear ih
                go_wp2
                go_roundw
                case rel =>
                  refine ⟨k + 1, n + 1 + (x.tags.length : Int), r, by simp, by first | rfl | simp, by omega, by omega, by omega, ⟨by have := HR.out.1; simp only [Il.len] at this; omega, ?_, by have := HR.out.2.2; simp only [Il.count] at this; omega⟩, by rw [show off + (k + 1) * 8 = off + k * 8 + 8 by omega]; exact hir', by first | rfl | trivial⟩
                  rw [← HR.out.2.1, go_cons x tl te r n most hnm]
                  rw [HT.out, next1_neg (n := n + 1 + (x.tags.length : Int)) (by omega), next1_neg (n := n + 1 + (x.tags.length : Int)) (by omega)]
                case measure => simp [intOf]; omega
            · have hT : min (x.tags.length : Int) most = most := by omega
              have HT : Hid (tagsMin x most = most) := hid (show tagsMin x most = _ from hT)
              rw [HT.out] at hTb
              obtain ⟨tb0, tb1, _⟩ := hTb
              have c1 : ¬ n + 1 + most ≤ most := by omega
              have c1' : most < n + 1 + most := by omega
              clear ih
              go_wp2
              go_roundw
              case rel =>
                refine ⟨k + 1, n + 1 + most, r, by simp, by first | rfl | simp, by omega, by omega, by omega, ⟨by have := HR.out.1; simp only [Il.len] at this; omega, ?_, by have := HR.out.2.2; simp only [Il.count] at this; omega⟩, by rw [show off + (k + 1) * 8 = off + k * 8 + 8 by omega]; exact hir', by first | rfl | trivial⟩
                rw [← HR.out.2.1, go_cons x tl te r n most hnm]
                rw [HT.out, next1_neg (n := n + 1 + most) (by omega), next1_neg (n := n + 1 + most) (by omega)]
              case measure => simp [intOf]; omega
          · have R2 : Hid (n = t.go 0 most) := by show _ = _; rw [← HR.out.2.1, go_over _ _ _ (by omega)]
            have hnm' : most < n := by omega
            go_wp2
            go_ret
            exact ⟨ret_int R2.out, rfl⟩
end Go.Proofs.YtaklngfibnbmcaaGreatDoor.Instr

namespace Go.Proofs.YtaklngfibnbmcaaGreatDoor.Body
set_option linter.unusedVariables false
open Go.RowKit Go.Proofs.YtaklngfibnbmcaaGreatDoor.Instr

theorem run_append_none (w : World) (base : Nat) (t ty e : TypeId) (i : TypeInfo) (size c : Nat) (ht : Tryz.prog.underlying t = some (.slice e)) (hi : Tryz.prog.info? e = some i)
    (v : Value) (n : Nat) (xs : List Value) (hown : w.ownsRow base e size v n xs) :
    (Builtin.append_ #[t, t] ty #[v, .slice none 0 c]).run Tryz.prog w = .ok v w := by
  rcases hown.2 with ⟨rfl, rfl⟩ | ⟨g, cap, cur, rfl, _, _, hnc, _⟩
  · simp [Builtin.append_, run_underlying ht, sizeOf, typeInfo, hi, Builtin.lenOf, Builtin.firstCells]
  · simp [Builtin.append_, run_underlying ht, sizeOf, typeInfo, hi, Builtin.lenOf, Builtin.firstCells, hnc, storeCells]
section
variable {ops : Array Oper} {rest : List Oper} {o : Oper} {act : Act} {Q : Exit → Act → World → Prop}
theorem append_none (hgd : o.guard = none) (s x : Operand) (t : TypeId) (ho : o.op = .call { callee := .builtin .append, args := #[s, x], argTypes := #[t, t] })
    {w : World} (base : Nat) (e : TypeId) (i : TypeInfo) (size c : Nat) (ht : Tryz.prog.underlying t = some (.slice e)) (hi : Tryz.prog.info? e = some i)
    (v : Value) (n : Nat) (xs : List Value) (hs : act.eval s = v) (hown : w.ownsRow base e size v n xs) (hx : act.eval x = .slice none 0 c)
    (h : wpList Tryz.prog ops Q rest (act.put o.dst v) w) : wpList Tryz.prog ops Q (o :: rest) act w := by
  refine wpList_plain hgd fun K hK => ?_
  have hrun := run_append_none w base t o.type e i size c ht hi v n xs hown
  unfold Oper.wp
  simp [execOp, ho, resolve, invoke, builtin, hs, hx, hrun, Result.andThen]
  exact hK _ _ h
theorem append_u32s (hgd : o.guard = none) (s x : Operand) (ho : o.op = .call { callee := .builtin .append, args := #[s, x], argTypes := #[59, 59] })
    {base : Nat} {w0 wr : World} {v : Value} {xs ys : List Int} (hs : act.eval s = v) (hown : OwnK 28 .u32 base wr v xs) (hb : Below base w0 wr) (hbase : base ≤ wr.heap.size)
    (a2 : Option Addr) (n c : Nat) (hx : act.eval x = .slice a2 n c) (hn : ys.length = n) (hy : TagsAt wr.heap.size wr a2 ys) (hl : xs.length + ys.length ≤ 8796093022208)
    (h : ∀ v' w', OwnK 28 .u32 base w' v' (xs ++ ys) → Below base w0 w' → base ≤ w'.heap.size → wpList Tryz.prog ops Q rest (act.put o.dst v') w') :
    wpList Tryz.prog ops Q (o :: rest) act wr := by
  obtain ⟨i0, hi, hz0, hz1, hz2⟩ := info_parts infoU32
  subst hn
  have fin : ∀ v' w', w'.ownsRow base 28 1 v' (xs.length + ys.length) (xs.map (Value.int .u32) ++ ys.map (Value.int .u32)) → wr.grownBy w' v.ownBlock → wpList Tryz.prog ops Q rest (act.put o.dst v') w' := by
    intro v' w' hown' hgrow
    refine h v' w' ?_ (hb.grown hgrow (by omega) (fun k hk => (World.ownsRow.lt hown k hk).1)) (by have := hgrow.size; omega)
    unfold OwnK; rw [List.length_append, List.map_append]; exact hown'
  rcases hy with h0 | ⟨b, off, rfl, hlt, hc⟩
  · subst h0
    cases a2 with
    | none => exact append_none hgd s x 59 ho base 28 i0 1 c Tryz.underlying59 hi v xs.length _ hs hown hx (h v wr (by simpa using hown) hb hbase)
    | some ad =>
      refine wpList_append_own _ hgd s x 59 ho base 28 i0 (.int .u32 0) 1 4 Tryz.underlying59 hi hz0 hz1 hz2 rfl (by decide) v xs.length _ hs hown ad 0 c [] hx rfl
        (by simp) (by simp) ?_ ?_ hbase (fun v' w' hown' hgrow _ => fin v' w' (by simpa using hown') hgrow)
      · unfold maxLen; simp at hl; omega
      · simp at hl; omega
  · refine wpList_append_own _ hgd s x 59 ho base 28 i0 (.int .u32 0) 1 4 Tryz.underlying59 hi hz0 hz1 hz2 rfl (by decide) v xs.length _ hs hown ⟨b, off, none⟩ ys.length c (ys.map (Value.int .u32)) hx (by simp)
      ?_ ?_ ?_ ?_ hbase (fun v' w' hown' hgrow _ => fin v' w' hown' hgrow)
    · intro j u hj
      have hjl : j < ys.length := by
        rcases Nat.lt_or_ge j ys.length with h | h
        · exact h
        · rw [List.getElem?_eq_none (by simpa using h)] at hj; cases hj
      have hplain : (⟨b, off, none⟩ : Addr).add j = ⟨b, off + j, none⟩ := by unfold Addr.add; split <;> simp_all
      rw [hplain, hc j hjl]
      rw [← hj, getD_lt hjl]; simp [hjl]
    · intro u hu
      obtain ⟨n, _, rfl⟩ := List.mem_map.1 hu
      rfl
    · unfold maxLen; omega
    · omega
end
section
variable {ops : Array Oper} {rest : List Oper} {o : Oper} {act : Act} {Q : Exit → Act → World → Prop}
theorem append_insG (hgd : o.guard = none) (s x : Operand) (ho : o.op = .call { callee := .builtin .append, args := #[s, x], argTypes := #[43, 43] })
    {base n : Nat} {wr : World} {v : Value} {xs : List Value} (y : Ix) (hs : act.eval s = v) (hown : wr.ownsRow base 61 8 v n xs) (hbase : base ≤ wr.heap.size) (g0 : Nat) (hg0 : g0 = wr.heap.size)
    (hx : act.eval x = .slice (some ⟨g0, 0, none⟩) 1 1) (hn : n ≤ 1000000)
    (h : ∀ g cap w', w'.ownsRow base 61 8 (.slice (some ⟨g, 0, none⟩) (n + 1) cap) (n + 1) (xs ++ y.vals.toList) → (wr.alloc (.cells y.vals 61)).grownBy w' v.ownBlock → (v.ownBlock = some g ∨ g = (wr.alloc (.cells y.vals 61)).heap.size) → wpList Tryz.prog ops Q rest (act.put o.dst (.slice (some ⟨g, 0, none⟩) (n + 1) cap)) w') :
    wpList Tryz.prog ops Q (o :: rest) act (wr.alloc (.cells y.vals 61)) := by
  subst hg0
  exact append_ins hgd s x ho y hs hown hbase hx hn h
end
/-- What CopyInstrs gives. -/
def GotCopy (w : World) (n : Nat) (t : Il) (e : Ending) (w' : World) : Prop :=
  ∃ (a : Option Addr) (c : Nat) (u : Il), e = .returned (.slice a n c) ∧ Below w.heap.size w w' ∧ ListAt w'.heap.size w' a n u ∧ (∀ q ∈ blkOf n a ++ u.foot, w.heap.size ≤ q) ∧ u.bare = t.bare
theorem own_none32 (w : World) : OwnK 28 .u32 w.heap.size (w.alloc (.cells #[] 28)) (.slice (some ⟨w.heap.size, 0, none⟩) 0 0) [] := World.ownsRow_made w #[] 0 (Nat.le_refl _) (by unfold maxLen; omega) rfl
/-- What is still to be copied. -/
def Left (w : World) (a : Option Addr) (k : Nat) (r : Il) : Prop := r = .nil ∨ ∃ b off, a = some ⟨b, off, none⟩ ∧ Items w.heap.size w b (off + k * 8) r

set_option maxRecDepth 100000 in
set_option maxHeartbeats 6400000 in
theorem copy_any : ∀ (m : Nat) (t : Il) (a : Option Addr) (n c : Nat) (w : World), t.weight ≤ m → m ≤ 100000 → ListAt w.heap.size w a n t →
    Calls Tryz.prog 21 #[.slice a n c] w (GotCopy w n t) := by
  intro m
  induction m using Nat.strongRecOn with
  | ind m ih =>
    intro t a n c w hm hm1 hL
    have hIH : ∀ (t' : Il) (a' : Option Addr) (n' c' : Nat) (w' : World), t'.weight < m → ListAt w'.heap.size w' a' n' t' → Calls Tryz.prog 21 #[.slice a' n' c'] w' (GotCopy w' n' t') :=
      fun t' a' n' c' w' h1 h2 => ih t'.weight h1 t' a' n' c' w' (Nat.le_refl _) (by omega) h2
    have IH := hid hIH
    have HW := hid hm
    have H0 := hid (show Left w a 0 t from by
      rcases hL.2 with h | ⟨b, off, h1, h2⟩
      · exact .inl h
      · exact .inr ⟨b, off, h1, by simpa using h2⟩)
    have HLN := hid hL.1
    clear hIH ih hm hL
    go_enter Tryz.func21, Tryz.ntmps21
    go_wp2
    go_loopw [3, 4, 5] (fun vo vi v5 wr => ∃ (k : Nat) (u r : Il), vi = .int .i64 k ∧ u.len = k ∧ r.len + k = n ∧ r.weight + k ≤ m ∧ Hid (LOk w vo u wr) ∧ Hid (Below w.heap.size w wr) ∧ Hid (Left w a k r) ∧ Hid (u.bare.app r.bare = t.bare)) (fun _ vi _ _ => n - (intOf vi).toNat)
    case atStart => exact ⟨0, .nil, t, rfl, rfl, HLN.out, HW.out, LOk.start w w, Below.refl _ _, H0, rfl⟩
    case round =>
      clear H0 HW HLN
      obtain ⟨k, u, r, rfl, hu, hr, hw, HO, HB, HI, HE⟩ := hrel
      cases r with
      | nil =>
        simp only [Il.len] at hr
        obtain rfl : k = n := by omega
        obtain ⟨a0, c0, rfl, hl, hlow⟩ := HO.out.value
        rw [hu] at hl hlow ⊢
        have HLL := hid hl
        have HLW := hid hlow
        have hE := HE.out
        simp only [Il.bare, app_nil] at hE
        have HE2 := hid hE
        clear hl hlow hE HO HI HE
        go_wp2
        go_ret
        exact ⟨a0, c0, u, rfl, HB.out, HLL.out, HLW.out, HE2.out⟩
      | cons x l e r =>
        simp only [Il.len] at hr
        simp only [Il.weight] at hw
        have hkn : (k : Int) < (n : Int) := by omega
        obtain ⟨b, off, rfl, hits⟩ : ∃ b off, a = some ⟨b, off, none⟩ ∧ Items w.heap.size w b (off + k * 8) (.cons x l e r) := by
          rcases HI.out with h | h
          · cases h
          · exact h
        obtain ⟨op, res, xa, xb, xn, tags, ta, tc, la, ln, lc, ea, en, ec⟩ := x
        obtain ⟨hb, hx, ⟨c0, c1, c2, c3, c4, c5, c6, c7⟩, htg, hl, he, hrr⟩ := hits
        have HX := hid hx
        dsimp only at c0 c1 c2 c3 c4 c5 c6 c7 htg hl he hw
        have cc : ∀ i v, w.cell? ⟨b, i, none⟩ = some v → wr.cell? ⟨b, i, none⟩ = some v := fun i v h => (HB.out.cell (p := ⟨b, i, none⟩) hb).trans h
        have c0 := cc _ _ c0
        have c1 := cc _ _ c1
        have c2 := cc _ _ c2
        have c3 := cc _ _ c3
        have c4 := cc _ _ c4
        have c5 := cc _ _ c5
        have c6 := cc _ _ c6
        have c7 := cc _ _ c7
        have HR2 := hid (show Left w (some ⟨b, off, none⟩) (k + 1) r from .inr ⟨b, off, rfl, by rw [show off + (k + 1) * 8 = off + k * 8 + 8 by omega]; exact hrr⟩)
        have C1 := hid (fun W (hb : Below w.heap.size w W) => IH.out l la ln lc W (by omega) (show ListAt W.heap.size W la ln l from ListAt.on (w := w) hl hb))
        have C2 := hid (fun W (hb : Below w.heap.size w W) => IH.out e ea en ec W (by omega) (show ListAt W.heap.size W ea en e from ListAt.on (w := w) he hb))
        have hTG : TagsAt w.heap.size w ta tags := htg
        have HTG := hid (fun W (hb : Below w.heap.size w W) => (hTG.below hb).more hb.size)
        have htl : tags.length ≤ 100000 := by omega
        have Y0 := bx_made ⟨op, res, xa, xb, xn, tags, ta, tc, la, ln, lc, ea, en, ec⟩ wr
        have W0B := hid (alloc_bq wr (.cells #[.int .i64 op, .int .i64 res, .int .u32 xa, .int .u32 xb, .int .i32 xn, .slice ta tags.length tc, .slice la ln lc, .slice ea en ec] 61))
        have Y1 := hid (Y0.alloc (.cells #[] 28))
        have OW := own_none32 (wr.alloc (.cells (⟨op, res, xa, xb, xn, tags, ta, tc, la, ln, lc, ea, en, ec⟩ : Ix).vals 61))
        rw [show (wr.alloc (.cells (⟨op, res, xa, xb, xn, tags, ta, tc, la, ln, lc, ea, en, ec⟩ : Ix).vals 61)).heap.size = wr.heap.size + 1 by simp] at OW
        have HOW := hid OW
        obtain ⟨⟨-, -, -, -, -, b5, -, -⟩, -, -, -, -, -, g5, -, -⟩ := Y1.out
        dsimp only [Ix.vals] at b5 g5
        clear hb htg hl he hrr cc hx HI Y0 OW hTG
        have BW1 := hid (HB.out.trans ((thenA W0B.out (.cells #[] 28)).mono HB.out.size))
        have SZ1 := hid (show wr.heap.size + 1 ≤ ((wr.alloc (.cells #[.int .i64 op, .int .i64 res, .int .u32 xa, .int .u32 xb, .int .i32 xn, .slice ta tags.length tc, .slice la ln lc, .slice ea en ec] 61)).alloc (.cells #[] 28)).heap.size by simp)
        have HTL := hid htl
        clear htl
        go_wp2_with (first
          | (at_builtin; refine append_u32s rfl (.tmp 16) (.tmp 18) rfl rfl HOW.out (Below.refl _ _) SZ1.out ta tags.length tc rfl rfl (HTG.out _ BW1.out) (by have := HTL.out; simp; omega) ?_; intro v6 w6 ho6 hb6 hs6; rw [List.nil_append] at ho6; obtain ⟨a6, c6', rfl⟩ := ho6.sliceN (n := tags.length) rfl; have O6 := hid ho6; have B6 := hid hb6; clear b5 g5 ho6 hb6; have Y6 := hid (Y1.out.belowB B6.out (Nat.lt_succ_self _)); have b5 := Y6.out.at_.c5; have g5 := Y6.out.f5; dsimp only at b5; refine Hid.out ?_))
        refine hid ?_
        have Y7 := hid (Y6.out.setT tags a6 c6')
        have BR6 := hid ((thenA W0B.out (.cells #[] 28)).trans (B6.out.mono (Nat.le_succ _)))
        have BR7 := hid (BR6.out.setCell (p := ⟨wr.heap.size, 5, none⟩) (Nat.le_refl _) (.slice a6 tags.length c6'))
        have BW7 := hid (HB.out.trans (BR7.out.mono HB.out.size))
        have TG6 := hid (tags_of O6.out)
        have SV67 := hid ((Save.refl wr.heap.size w6).setCell (p := ⟨wr.heap.size, 5, none⟩) (.inl rfl) (.slice a6 tags.length c6'))
        have D1 := hid (C1.out _ BW7.out)
        obtain ⟨⟨-, -, -, -, -, -, b6, -⟩, -, -, -, -, -, -, g6, -⟩ := Y7.out
        dsimp only at b6 g6
        clear C1 Y6 Y1 HOW HTG W0B BW1 SZ1 B6
        go_wp2_with fail
        refine D1.out.mono ?_
        clear D1 b5 g5
        rintro e1 w8 ⟨a8, c8, u8, rfl, hb8, hl8, hlow8, hbr8⟩
        have Y8 := hid (Y7.out.belowB hb8 (by have := World.block_lt_of_cell? _ _ Y7.out.at_.c0; simpa using this))
        have BR8 := hid (BR7.out.trans (hb8.mono BR7.out.size))
        have SV68 := hid (SV67.out.trans (Save.of_below hb8))
        have HL8 := hid hl8
        have HLW8 := hid (fun q hq => Nat.le_trans (show w6.heap.size ≤ (w6.setCell ⟨wr.heap.size, 5, none⟩ (.slice a6 tags.length c6')).heap.size from by simp [World.setCell]) (hlow8 q hq))
        have HBR8 := hid hbr8
        obtain ⟨⟨-, -, -, -, -, -, b6, -⟩, -, -, -, -, -, -, g6, -⟩ := Y8.out
        dsimp only at b6 g6
        have Y9 := hid (Y8.out.setL a8 ln c8)
        have BR9 := hid (BR8.out.setCell (p := ⟨wr.heap.size, 6, none⟩) (Nat.le_refl _) (.slice a8 ln c8))
        have SV89 := hid ((Save.refl wr.heap.size w8).setCell (p := ⟨wr.heap.size, 6, none⟩) (.inl rfl) (.slice a8 ln c8))
        have BW9 := hid (HB.out.trans (BR9.out.mono HB.out.size))
        have D2 := hid (C2.out _ BW9.out)
        obtain ⟨⟨-, -, -, -, -, -, -, b7⟩, -, -, -, -, -, -, -, g7⟩ := Y9.out
        dsimp only at b7 g7
        clear C2 Y7 Y8 hb8 hl8 hlow8 hbr8 BR7 BR8 SV67
        go_wp2_with fail
        refine D2.out.mono ?_
        clear D2 b6 g6
        rintro e2 w10 ⟨a10, c10, u10, rfl, hb10, hl10, hlow10, hbr10⟩
        have Y10 := hid (Y9.out.belowB hb10 (by have := World.block_lt_of_cell? _ _ Y9.out.at_.c0; simpa using this))
        have BR10 := hid (BR9.out.trans (hb10.mono BR9.out.size))
        have SV810 := hid (SV89.out.trans (Save.of_below hb10))
        have HL10 := hid hl10
        have HLW10 := hid (fun q hq => Nat.le_trans (show w8.heap.size ≤ (w8.setCell ⟨wr.heap.size, 6, none⟩ (.slice a8 ln c8)).heap.size from by simp [World.setCell]) (hlow10 q hq))
        have HBR10 := hid hbr10
        have Y11 := hid (Y10.out.setE a10 en c10)
        have BR11 := hid (BR10.out.setCell (p := ⟨wr.heap.size, 7, none⟩) (Nat.le_refl _) (.slice a10 en c10))
        have SV1011 := hid ((Save.refl wr.heap.size w10).setCell (p := ⟨wr.heap.size, 7, none⟩) (.inl rfl) (.slice a10 en c10))
        obtain ⟨⟨-, -, -, -, -, -, -, b7⟩, -, -, -, -, -, -, -, g7⟩ := Y10.out
        dsimp only at b7 g7
        obtain ⟨⟨z0, z1, z2, z3, z4, z5, z6, z7⟩, -, -, -, -, -, -, -, -⟩ := Y11.out
        dsimp only at z0 z1 z2 z3 z4 z5 z6 z7
        clear Y9 Y10 hb10 hl10 hlow10 hbr10 BR9 BR10 SV89
        have SZ6 := hid (show wr.heap.size + 1 ≤ w6.heap.size from hs6)
        have SZ8 := hid (show w6.heap.size ≤ w8.heap.size from SV68.out.size)
        have kids : (Il.cons ⟨op, res, xa, xb, xn, tags, a6, c6', a8, ln, c8, a10, en, c10⟩ u8 u10 .nil).kids (w10.setCell ⟨wr.heap.size, 7, none⟩ (.slice a10 en c10)) := by
          have hx := HX.out
          refine ⟨⟨hx.op, hx.res, hx.a, hx.b, hx.n, hx.tags, hx.tn, hx.ln, hx.en⟩, ?_, ?_, ?_, trivial⟩
          · have T := (SV68.out.trans SV810.out).trans SV1011.out
            refine (TG6.out.1.touch (.of_save T) (fun q hq h => ?_)).more T.size
            have := TG6.out.2.1 q hq
            omega
          · have T := SV810.out.trans SV1011.out
            refine ListAt.more T.size (HL8.out.touch (.of_save T) (fun q hq h => ?_))
            have h1 := HLW8.out q hq
            have h2 := SZ6.out
            omega
          · refine ListAt.more SV1011.out.size (HL10.out.touch (.of_save SV1011.out) (fun q hq h => ?_))
            have h1 := HLW10.out q hq
            have h2 := SZ6.out
            have h3 := SZ8.out
            omega
        have hlo : ∀ q ∈ (Il.cons ⟨op, res, xa, xb, xn, tags, a6, c6', a8, ln, c8, a10, en, c10⟩ u8 u10 .nil).foot, wr.heap.size ≤ q := by
          intro q hq
          simp only [Il.foot, List.append_nil] at hq
          have h2 := SZ6.out
          have h3 := SZ8.out
          rcases List.mem_append.1 hq with hq | hq
          · rcases List.mem_append.1 hq with hq | hq
            · have := TG6.out.2.1 q hq; omega
            · have := HLW8.out q hq; omega
          · have := HLW10.out q hq; omega
        have KD := hid kids
        have HLO := hid hlo
        have HO11 := hid (HO.out.touch (S := fun _ => False) (.of_below BR11.out) (fun _ _ h => h))
        have hsz11 : w.heap.size ≤ (w10.setCell ⟨wr.heap.size, 7, none⟩ (.slice a10 en c10)).heap.size := Nat.le_trans HB.out.size BR11.out.size
        have hu1 : u.len ≤ 1000000 := by omega
        have ROW := hid HO11.out.row
        clear kids hlo
        go_wp2_with (first
          | (at_builtin; refine append_insG rfl (.tmp 29) (.tmp 31) rfl ⟨op, res, xa, xb, xn, tags, a6, c6', a8, ln, c8, a10, en, c10⟩ rfl ROW.out hsz11 w10.heap.size (by simp [World.setCell]) rfl hu1 ?_; intro g cap6 w12 hown hgrow hat; have HOWN := hid hown; have HGR := hid hgrow; have HAT := hid hat; clear hown hgrow hat; refine Hid.out ?_))
        refine hid ?_
        go_wp2
        go_roundw
        case rel =>
          have hsn := HO.out.snoc HO11.out KD.out HLO.out HB.out.size HOWN.out HGR.out HAT.out
          have hB := below_grown HO11.out.row hsz11 HGR.out
          rw [hu] at hsn
          refine ⟨k + 1, u.app (.cons ⟨op, res, xa, xb, xn, tags, a6, c6', a8, ln, c8, a10, en, c10⟩ u8 u10 .nil), r, by go_num, by rw [app_len]; simp only [Il.len]; omega, by omega, by omega, hsn, (HB.out.trans (BR11.out.mono HB.out.size)).trans hB, HR2, ?_⟩
          show (u.app (.cons ⟨op, res, xa, xb, xn, tags, a6, c6', a8, ln, c8, a10, en, c10⟩ u8 u10 .nil)).bare.app r.bare = t.bare
          rw [bare_app, app_assoc, ← HE.out]
          simp only [Il.bare, Ix.bare, HBR8.out, HBR10.out, Il.app]
        case measure => simp [intOf]; omega
end Go.Proofs.YtaklngfibnbmcaaGreatDoor.Body

namespace Go.Proofs.YtaklngfibnbmcaaGreatDoor.Val
open Go.RowKit Go.Proofs.YtaklngfibnbmcaaGreatDoor.Instr Go.Proofs.YtaklngfibnbmcaaGreatDoor.Mod
set_option linter.unusedVariables false

theorem cbare_all : ∀ t : Il, t.bare.all = t.all
  | .nil => rfl
  | .cons x l e r => by simp only [Il.bare, Il.all, cbare_all l, cbare_all e, cbare_all r]; rfl
theorem cbare_count : ∀ t : Il, t.bare.count = t.count
  | .nil => rfl
  | .cons x l e r => by simp [Il.bare, Il.count, cbare_count l, cbare_count e, cbare_count r]
theorem cbare_deep : ∀ t : Il, t.bare.deep = t.deep
  | .nil => rfl
  | .cons x l e r => by simp [Il.bare, Il.deep, cbare_deep l, cbare_deep e, cbare_deep r]
theorem cbare_tags : ∀ t : Il, t.bare.tags = t.tags
  | .nil => rfl
  | .cons x l e r => by simp only [Il.bare, Il.tags, cbare_tags l, cbare_tags e, cbare_tags r]; rfl
theorem cbare_check (t : Il) : checkP t.bare = checkP t := by unfold checkP; rw [cbare_all, cbare_count, cbare_deep, cbare_tags]
theorem constP_bare (t : Il) : constP t.bare = constP t := by
  cases t with
  | nil => rfl
  | cons x l e r =>
    cases r with
    | nil =>
      have h := cbare_check (.cons x l e .nil)
      simp only [Il.bare] at h ⊢
      show (if x.bare.op = 65 ∧ checkP (.cons x.bare l.bare e.bare .nil) = 0 then (IntKind.u32.wrap x.bare.n, (0 : Int)) else (0, 210)) = (if x.op = 65 ∧ checkP (.cons x l e .nil) = 0 then (IntKind.u32.wrap x.n, (0 : Int)) else (0, 210))
      rw [h]; rfl
    | cons x' l' e' r' => rfl
set_option maxHeartbeats 1000000 in
theorem refConst_m (t : Il) (a : Option Addr) (n c : Nat) (w : World) (hL : ListAt w.heap.size w a n t) (hn : n ≤ 140737488351232) (hct : t.count ≤ 4611686018427387900) :
    Calls Tryz.prog 22 #[.slice a n c] w fun e w' => e = .returned (.tuple #[.int .u32 (constP t).1, .int .i64 (constP t).2]) ∧ Below w.heap.size w w' := by
  have CC := hid (Body.checkDoc_any t a n c w hL hn hct)
  by_cases h1 : t.len = 1
  · cases t with
    | nil => simp [Il.len] at h1
    | cons x l e r =>
      cases r with
      | cons x' l' e' r' => simp [Il.len] at h1
      | nil =>
        obtain ⟨hl1, hl2⟩ := hL
        have hn1 : n = 1 := by rw [← hl1]; rfl
        subst hn1
        rcases hl2 with h | ⟨b, off, rfl, hb, hx, ⟨c0, c1, c2, c3, c4, c5, c6, c7⟩, -⟩
        · cases h
        have HE : Hid (constP (.cons x l e .nil) = if x.op = 65 ∧ checkP (.cons x l e .nil) = 0 then (IntKind.u32.wrap x.n, 0) else (0, 210)) := hid rfl
        obtain ⟨q, hq⟩ : ∃ q, checkP (.cons x l e .nil) = q := ⟨_, rfl⟩
        rw [hq] at CC HE
        obtain ⟨op, hop⟩ : ∃ o, x.op = o := ⟨_, rfl⟩
        rw [hop] at c0 HE
        have hnn := hx.n
        clear h1 hl1 hq hx hb c1 c2 c3 c5 c6 c7 hct hn
        by_cases h2 : op = 65
        · subst h2
          by_cases h3 : q = 0
          · subst h3
            have HV := hid (show constP (.cons x l e .nil) = (IntKind.u32.wrap x.n, 0) by rw [HE.out, if_pos ⟨rfl, rfl⟩])
            obtain ⟨xn, hxn⟩ : ∃ z, x.n = z := ⟨_, rfl⟩
            rw [hxn] at c4 HV
            clear HE hxn hop hnn
            go_enter Tryz.func22, Tryz.ntmps22
            go_wp2_with fail
            refine CC.out.mono ?_
            rintro e1 w1 ⟨rfl, hb1⟩
            have k0 := Go.Proofs.YtaklngfibnbmcaaGreatDoor.keep hb1 c0
            have k4 := Go.Proofs.YtaklngfibnbmcaaGreatDoor.keep hb1 c4
            have HB := hid hb1
            clear CC hb1 c0 c4
            go_wp2
            go_ret2
            refine ⟨?_, HB.out⟩
            rw [HV.out]; rfl
          · have HV := hid (show constP (.cons x l e .nil) = (0, 210) by rw [HE.out, if_neg (fun h => h3 h.2)])
            have h3b : (q == 0) = false := by simpa using h3
            clear HE hop hnn c4
            go_enter Tryz.func22, Tryz.ntmps22
            go_wp2_with fail
            refine CC.out.mono ?_
            rintro e1 w1 ⟨rfl, hb1⟩
            have HB := hid hb1
            clear CC hb1 c0
            go_wp2
            go_ret2
            refine ⟨?_, HB.out⟩
            rw [HV.out]; rfl
        · have HV := hid (show constP (.cons x l e .nil) = (0, 210) by rw [HE.out, if_neg (fun h => h2 h.1)])
          have h2b : (op == 65) = false := by simpa using h2
          clear HE hop hnn c4 CC
          go_enter Tryz.func22, Tryz.ntmps22
          go_wp2
          go_ret2
          refine ⟨?_, Below.refl _ _⟩
          rw [HV.out]; rfl
  · have HV := hid (constP_len h1)
    have hn1 : (n : Int) ≠ 1 := by have := hL.1; omega
    have hnb : ((n : Int) == 1) = false := by simpa using hn1
    clear CC hL h1 hct
    go_enter Tryz.func22, Tryz.ntmps22
    go_wp2
    go_ret2
    refine ⟨?_, Below.refl _ _⟩
    rw [HV.out]; rfl
set_option maxHeartbeats 1000000 in
theorem constW_big (w : World) (a : Option Addr) (len cap : Nat) (t : Il) (hl : ListAt w.heap.size w a len t) (hx : len ≤ 140737488351232) (hg : ¬ t.go 0 2000 ≤ 2000) :
    Calls Tryz.prog 5 #[.slice a len cap] w fun e w' => e = .returned (.bool true) ∧ Below w.heap.size w w' := by
  have IC := hid (Instrs_any t.count t a len cap 2000 w (Nat.le_refl _) hl hx (by omega) (by omega))
  obtain ⟨g, hgg⟩ : ∃ g, t.go 0 2000 = g := ⟨_, rfl⟩
  rw [hgg] at IC hg
  have hg2 : 2000 < g := by omega
  clear hgg hl hx hg
  go_enter Tryz.func5, Tryz.ntmps5
  go_wp2_with fail
  refine IC.out.mono ?_
  clear IC
  rintro e w2 ⟨rfl, rfl⟩
  go_wp2
  go_ret
  exact ⟨rfl, Below.refl _ _⟩
set_option maxHeartbeats 1000000 in
theorem constW_go (w : World) (a : Option Addr) (len cap : Nat) (t : Il) (hl : ListAt w.heap.size w a len t) (hx : len ≤ 140737488351232) (hg : t.go 0 2000 ≤ 2000) (hT : Tb w) :
    Calls Tryz.prog 5 #[.slice a len cap] w fun e w' => e = .returned (.bool true) ∧ Below w.heap.size w w' := by
  have hwt : t.weight ≤ 2000 := by have := (go_bounds t 0 2000 (by omega) (by omega) (by omega)).2.2 hg; omega
  have hct : t.count ≤ 2000 := Nat.le_trans (weight_count t) hwt
  have IC := hid (Instrs_any t.count t a len cap 2000 w (Nat.le_refl _) hl hx (by omega) (by omega))
  have CC := hid (Body.copy_any 2000 t a len cap w hwt (by omega) hl)
  have HP : Hid (∀ u : Il, u.bare = t.bare → constP u = constP t ∧ u.count ≤ 2000) := hid fun u hu => ⟨by rw [← constP_bare u, hu, constP_bare], by rw [← cbare_count u, hu, cbare_count]; exact hct⟩
  have CD := hid (fun w' (hb : Below w.heap.size w w') => refConst_m t a len cap w' (hl.on hb) hx (by omega))
  obtain ⟨⟨p, q⟩, hpq⟩ : ∃ r, constP t = r := ⟨_, rfl⟩
  simp only [hpq] at CD HP
  have HT := hid hT
  have HX := hid hx
  obtain ⟨g, hgg⟩ : ∃ g, t.go 0 2000 = g := ⟨_, rfl⟩
  rw [hgg] at IC hg
  clear hgg hl hx hwt hct hpq hT
  go_enter Tryz.func5, Tryz.ntmps5
  go_wp2_with fail
  refine IC.out.mono ?_
  clear IC
  rintro e w2 ⟨rfl, rfl⟩
  go_wp2_with fail
  refine CC.out.mono ?_
  clear CC
  rintro e w2 ⟨a2, c2, u, rfl, hb2, hL2, hlow, hbare⟩
  have HB2 := hid hb2
  have CV := hid (const_m u a2 len c2 w2 hL2 HX.out (by have := (HP.out u hbare).2; omega) (HT.out.on hb2).nt)
  rw [(HP.out u hbare).1] at CV
  clear hb2 hL2 hlow hbare HP
  go_wp2_with fail
  refine CV.out.mono ?_
  clear CV
  rintro e w3 ⟨rfl, hb3⟩
  have HB3 := hid (thenB HB2.out hb3)
  clear hb3 HB2
  go_wp2_with fail
  refine (CD.out w3 HB3.out).mono ?_
  clear CD
  rintro e w4 ⟨rfl, hb4⟩
  have HB4 := hid (thenB HB3.out hb4)
  clear hb4 HB3
  go_wp2_with fail
  refine (awake_m w4 (HT.out.on HB4.out)).mono ?_
  rintro e w5 ⟨rfl, hb5⟩
  have HB5 := hid (thenB HB4.out hb5)
  clear hb5 HB4
  go_wp2
  go_ret
  exact ⟨rfl, HB5.out⟩
end Go.Proofs.YtaklngfibnbmcaaGreatDoor.Val
namespace Go.Proofs.YtaklngfibnbmcaaGreatDoor
open Go.RowKit
theorem validConst_walk (w : World) (a : Option Addr) (len cap : Nat) (t : Instr.Il) (hl : Instr.ListAt w.heap.size w a len t) (_hc : len ≤ cap) (hx : len ≤ 140737488351232) (hT : Instr.Nams w ∧ Utf.Tabs w ∧ Num.Arit w) :
    Calls Tryz.prog 5 #[.slice a len cap] w fun e w' => e = .returned (.bool true) ∧ Below w.heap.size w w' := by
  by_cases hg : t.go 0 2000 ≤ 2000
  · exact Val.constW_go w a len cap t hl hx hg (Val.Tb.mk hT.1 hT.2.1 hT.2.2)
  · exact Val.constW_big w a len cap t hl hx hg
end Go.Proofs.YtaklngfibnbmcaaGreatDoor
