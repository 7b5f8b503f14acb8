/-
  INSTR: many instructions are built: a table of labels; a block around what there is; one more behind what there is.
-/
import Derived.Test.YtolbdioijbdlmaaDoorInstrRefAll
import Derived.Test.YtolbdioijbdlmaaDoorInstrPick
import Derived.Test.YtolbdioijbdlmaaDoorInts
import Derived.Laws.OwnMore
namespace Go.Proofs.YtolbdioijbdlmaaDoor
open Go.RowKit

theorem OwnK.heap {e : TypeId} {k : IntKind} {base n g : Nat} {w : World} {L : List Int} (h : OwnK e k base w (.slice (some ⟨g, 0, none⟩) n n) L) (hn : L.length = n) : base ≤ g ∧ w.heap[g]? = some (.cells (L.map (Value.int k)).toArray e (0, 0)) := by
  subst hn
  rcases h.2 with ⟨h', _⟩ | ⟨g', cap, cur, hv, hb, hh, hnc, _, hcs, ht⟩
  · cases h'
  · simp only [Value.slice.injEq, Option.some.injEq, Addr.mk.injEq, and_true, true_and] at hv
    obtain ⟨rfl, rfl⟩ := hv
    refine ⟨hb, ?_⟩
    rw [List.take_of_length_le (by simp; omega)] at ht
    rw [hh, ← ht]
theorem OwnK.of_heap {e : TypeId} {k : IntKind} {base n g : Nat} {w : World} {L : List Int} (hb : base ≤ g) (hh : w.heap[g]? = some (.cells (L.map (Value.int k)).toArray e (0, 0))) (hn : L.length = n) (hl : n ≤ 140737488355328) :
    OwnK e k base w (.slice (some ⟨g, 0, none⟩) n n) L := by
  subst hn
  exact ⟨by simp, .inr ⟨g, L.length, (L.map (Value.int k)).toArray, rfl, hb, hh, Nat.le_refl _, by unfold maxLen; omega, by simp, by rw [List.take_of_length_le (by simp)]⟩⟩

theorem make_zeros {e ts : TypeId} {k : IntKind} {nb : Nat} (inf : (Tryd.prog.info? e).map (fun i => (i.zero, i.size, i.bytes)) = some (some (.int k 0), 1, nb)) (ut : Tryd.prog.underlying ts = some (.slice e)) (w : World) (n : Nat)
    (hl : nb * n ≤ 281474976710656) (hc : n ≤ 140737488355328) :
    ∃ w', (∀ x : Int, x = n → (Instr.makeSlice ts (.int .i64 x) (.int .i64 x)).run Tryd.prog w = .ok (.slice (some ⟨w.heap.size, 0, none⟩) n n) w') ∧ w'.heap[w.heap.size]? = some (.cells ((List.replicate n (0 : Int)).map (Value.int k)).toArray e (0, 0)) ∧ Below w.heap.size w w' := by
  obtain ⟨i0, hi, hz0, hz1, hz2⟩ := info_parts inf
  obtain ⟨w', h1, h2, h3⟩ := run_make_full w w.heap.size ts e i0 (.int k 0) 1 ut hi hz0 hz1 .i64 .i64 n (by rw [hz2]; exact hl) (by unfold maxLen; omega) (Nat.le_refl _)
  refine ⟨w', fun x hx => by rw [hx]; exact h1, ?_, (Below.refl _ _).grown h3 (Nat.le_refl _) (fun k h => by cases h)⟩
  have hcells : (Value.int k 0).cells = #[Value.int k 0] := rfl
  rw [hcells, toList_madeCells_one] at h2
  have h4 : OwnK e k w.heap.size w' (.slice (some ⟨w.heap.size, 0, none⟩) n n) (List.replicate n 0) := by
    unfold OwnK
    simpa using h2
  exact (h4.heap (by simp)).2

theorem nums_of_heap {e : TypeId} {k : IntKind} {g : Nat} {w : World} {L : List Int} (hh : w.heap[g]? = some (.cells (L.map (Value.int k)).toArray e (0, 0))) : ∀ i, i < L.length → w.cell? ⟨g, 0 + i, none⟩ = some (.int k (L.getD i 0)) := by
  intro i hi
  simp [World.cell?, hh, hi]
namespace Instr
theorem infoU32 : (Tryd.prog.info? 24).map (fun i => (i.zero, i.size, i.bytes)) = some (some (.int .u32 0), 1, 4) := by kernel_rfl
def zeroI : Value := .agg #[.int .i64 0, .int .i64 0, .int .u32 0, .int .u32 0, .int .i32 0, .slice none 0 0, .slice none 0 0, .slice none 0 0]
theorem infoI : (Tryd.prog.info? 34).map (fun i => (i.zero, i.size, i.bytes)) = some (some zeroI, 8, 104) := by kernel_rfl

/-- What the first loop has built: i blocks in one another, the outermost in block g. -/
structure Nest (w : World) (g : Nat) (i : Nat) (x : Ix) (l : Il) : Prop where
  box : w.heap[g]? = some (.cells x.vals 34)
  ok : x.ok
  tags : TagsAt g w x.ta x.tags
  lst : ListAt g w x.la x.ln l
  en : x.en = 0
  good : Good x
  goodl : GoodT l
  count : l.count + 1 = i
  deep : l.deep + 1 = i
theorem Nest.lt {w : World} {g i : Nat} {x : Ix} {l : Il} (h : Nest w g i x l) : g < w.heap.size := (Array.getElem?_eq_some_iff.1 h.box).1
theorem Nest.list {w : World} {g i : Nat} {x : Ix} {l : Il} (h : Nest w g i x l) : ListAt w.heap.size w (some ⟨g, 0, none⟩) 1 (.cons x l .nil .nil) := by
  have hb := at_box h.box
  have hg := h.lt
  exact ⟨rfl, .inr ⟨g, 0, rfl, hg, h.ok, ⟨hb.c0, hb.c1, hb.c2, hb.c3, hb.c4, hb.c5, hb.c6, hb.c7⟩, h.tags.more (by omega), ListAt.more (by omega) h.lst, ⟨h.en.symm, .inl rfl⟩, trivial⟩⟩
theorem kB_ok (g : Nat) : (kB (some ⟨g, 0, none⟩) 1 1).ok := by constructor <;> simp [kB]
theorem kC_ok : kC.ok := by constructor <;> simp [kC]
theorem Nest.next {w : World} {g i : Nat} {x : Ix} {l : Il} (h : Nest w g i x l) : Nest (w.alloc (.cells (kB (some ⟨g, 0, none⟩) 1 1).vals 34)) w.heap.size (i + 1) (kB (some ⟨g, 0, none⟩) 1 1) (.cons x l .nil .nil) := by
  have hb : Below w.heap.size w (w.alloc (.cells (kB (some ⟨g, 0, none⟩) 1 1).vals 34)) := thenA (Below.refl _ _) _
  refine ⟨box_made _ w, kB_ok g, .inl rfl, h.list.below hb, rfl, .inr (.inl ⟨_, _, _, rfl⟩), ⟨h.good, h.goodl, trivial, trivial⟩, ?_, ?_⟩
  · have := h.count; simp only [Il.count]; omega
  · have := h.deep; simp only [Il.deep]; omega
theorem Nest.first {w w1 : World} (n : Nat) (hn : n ≤ 20000) (hh : w1.heap[w.heap.size]? = some (.cells ((List.replicate n (0 : Int)).map (Value.int .u32)).toArray 24 (0, 0))) (hs : w.heap.size < w1.heap.size) :
    Nest (w1.alloc (.cells (kA (List.replicate n 0) (some ⟨w.heap.size, 0, none⟩) n).vals 34)) w1.heap.size 1 (kA (List.replicate n 0) (some ⟨w.heap.size, 0, none⟩) n) .nil := by
  have hb1 : Below w1.heap.size w1 (w1.alloc (.cells (kA (List.replicate n 0) (some ⟨w.heap.size, 0, none⟩) n).vals 34)) := thenA (Below.refl _ _) _
  have ht : TagsAt w1.heap.size w1 (some ⟨w.heap.size, 0, none⟩) (List.replicate n 0) := by
    by_cases h0 : n = 0
    · subst h0; exact .inl rfl
    · exact .inr ⟨_, 0, rfl, hs, nums_of_heap hh⟩
  refine ⟨box_made _ w1, ?_, ht.below hb1, ⟨rfl, .inl rfl⟩, rfl, .inl ⟨_, _, _, rfl⟩, trivial, rfl, rfl⟩
  constructor <;> simp [kA]
  omega

def nops : Nat → Il
  | 0 => .nil
  | k + 1 => .cons kC .nil .nil (nops k)
def nopCells : Nat → List Value
  | 0 => []
  | k + 1 => kC.vals.toList ++ nopCells k
theorem nopCells_snoc : ∀ k, nopCells (k + 1) = nopCells k ++ kC.vals.toList
  | 0 => by simp [nopCells]
  | k + 1 => by
    show kC.vals.toList ++ nopCells (k + 1) = (kC.vals.toList ++ nopCells k) ++ kC.vals.toList
    rw [nopCells_snoc k, List.append_assoc]
theorem nopCells_length : ∀ k, (nopCells k).length = k * 8
  | 0 => rfl
  | k + 1 => by rw [nopCells, List.length_append, nopCells_length k]; simp [kC, Ix.vals]; omega
theorem nops_len : ∀ k, (nops k).len = k
  | 0 => rfl
  | k + 1 => by rw [nops, Il.len, nops_len k]
theorem nops_count : ∀ k, (nops k).count = k
  | 0 => rfl
  | k + 1 => by simp only [nops, Il.count, nops_count k]; omega
theorem nops_deep : ∀ k, (nops k).deep ≤ 1
  | 0 => by simp [nops, Il.deep]
  | k + 1 => by have := nops_deep k; simp only [nops, Il.deep]; omega
theorem nops_good : ∀ k, GoodT (nops k)
  | 0 => trivial
  | k + 1 => ⟨.inr (.inr rfl), trivial, trivial, nops_good k⟩
theorem items_nops {n₀ : Nat} {w : World} {b : Nat} (hb : b < n₀) : ∀ (k off : Nat), (∀ q u, (nopCells k)[q]? = some u → w.cell? ⟨b, off + q, none⟩ = some u) → Items n₀ w b off (nops k)
  | 0, _, _ => trivial
  | k + 1, off, h => by
    have h8 : ∀ q u, q < 8 → kC.vals.toList[q]? = some u → w.cell? ⟨b, off + q, none⟩ = some u := fun q u hq hu => h q u (by
      rw [nopCells, List.getElem?_append_left (by simpa [kC, Ix.vals] using hq)]; exact hu)
    refine ⟨hb, kC_ok, ⟨?_, ?_, ?_, ?_, ?_, ?_, ?_, ?_⟩, .inl rfl, ⟨rfl, .inl rfl⟩, ⟨rfl, .inl rfl⟩, items_nops hb k (off + 8) (fun q u hu => ?_)⟩
    · exact h8 0 _ (by omega) rfl
    · exact h8 1 _ (by omega) rfl
    · exact h8 2 _ (by omega) rfl
    · exact h8 3 _ (by omega) rfl
    · exact h8 4 _ (by omega) rfl
    · exact h8 5 _ (by omega) rfl
    · exact h8 6 _ (by omega) rfl
    · exact h8 7 _ (by omega) rfl
    · have := h (8 + q) u (by
        rw [nopCells, List.getElem?_append_right (by simp [kC, Ix.vals])]
        simpa [kC, Ix.vals] using hu)
      rw [show off + 8 + q = off + (8 + q) by omega]
      exact this
theorem plainAdd0 (b i : Nat) : (⟨b, 0, none⟩ : Addr).add i = ⟨b, i, none⟩ := by unfold Addr.add; split <;> simp_all
/-- What the second loop has built. -/
theorem many_list {w1 w : World} {g i k : Nat} {x : Ix} {l : Il} {v : Value} (h : Nest w1 g i x l) (hb : Below g w1 w) (ho : w.ownsRow g 34 8 v (k + 1) (x.vals.toList ++ nopCells k)) :
    ∃ g' cap, v = .slice (some ⟨g', 0, none⟩) (k + 1) cap ∧ ListAt w.heap.size w (some ⟨g', 0, none⟩) (k + 1) (.cons x l .nil (nops k)) := by
  have hoo := ho
  rcases ho.2 with ⟨_, h0⟩ | ⟨g', cap, cur, rfl, hg', hh, _⟩
  · omega
  have hlt : g' < w.heap.size := (Array.getElem?_eq_some_iff.1 hh).1
  have hc : ∀ q u, (x.vals.toList ++ nopCells k)[q]? = some u → w.cell? ⟨g', q, none⟩ = some u := by
    intro q u hu
    have := hoo.cells (g := g') rfl q u hu
    rw [plainAdd0] at this
    exact this
  have h8 : ∀ q u, q < 8 → x.vals.toList[q]? = some u → w.cell? ⟨g', 0 + q, none⟩ = some u := fun q u hq hu => by
    rw [Nat.zero_add]
    exact hc q u (by rw [List.getElem?_append_left (by simpa [Ix.vals] using hq)]; exact hu)
  refine ⟨g', cap, rfl, by rw [Il.len, nops_len], .inr ⟨g', 0, rfl, hlt, h.ok, ⟨?_, ?_, ?_, ?_, ?_, ?_, ?_, ?_⟩, (h.tags.below hb).more (by omega), ListAt.more (by omega) (ListAt.below hb h.lst), ⟨h.en.symm, .inl rfl⟩, ?_⟩⟩
  · exact h8 0 _ (by omega) rfl
  · exact h8 1 _ (by omega) rfl
  · exact h8 2 _ (by omega) rfl
  · exact h8 3 _ (by omega) rfl
  · exact h8 4 _ (by omega) rfl
  · exact h8 5 _ (by omega) rfl
  · exact h8 6 _ (by omega) rfl
  · exact h8 7 _ (by omega) rfl
  · refine items_nops hlt k 8 (fun q u hu => hc (8 + q) u ?_)
    rw [List.getElem?_append_right (by simp [Ix.vals])]
    simpa [Ix.vals] using hu
section
variable {ops : Array Oper} {rest : List Oper} {o : Oper} {act : Act} {Q : Exit → Act → World → Prop}
theorem append_nop (hgd : o.guard = none) (s x : Operand) (ho : o.op = .call { callee := .builtin .append, args := #[s, x], argTypes := #[32, 32] })
    {g n : Nat} {w0 wr : World} {v : Value} {xs : List Value} (hs : act.eval s = v) (hown : wr.ownsRow g 34 8 v n xs) (hb : Below g w0 wr) (hbase : g ≤ wr.heap.size)
    (hx : act.eval x = .slice (some ⟨wr.heap.size, 0, none⟩) 1 1) (hn : n ≤ 1000000)
    (h : ∀ v' w', w'.ownsRow g 34 8 v' (n + 1) (xs ++ kC.vals.toList) → Below g w0 w' → g ≤ w'.heap.size → wpList Tryd.prog ops Q rest (act.put o.dst v') w') :
    wpList Tryd.prog ops Q (o :: rest) act (wr.alloc (.cells kC.vals 34)) := by
  obtain ⟨i0, hi, hz0, hz1, hz2⟩ := info_parts infoI
  have hm := At.made kC wr
  refine wpList_append_own _ hgd s x 32 ho g 34 i0 zeroI 8 104 Tryd.underlying32 hi hz0 hz1 hz2 rfl (by decide) v n xs hs (World.ownsRow.alloc hown _) ⟨wr.heap.size, 0, none⟩ 1 1 kC.vals.toList hx rfl
    ?_ ?_ ?_ ?_ ?_ (fun v' w' hown' hgrow _ => ?_)
  · intro j u hj
    rw [plainAdd0]
    match j, hj with
    | 0, hj => simp [kC, Ix.vals] at hj; subst hj; exact hm.c0
    | 1, hj => simp [kC, Ix.vals] at hj; subst hj; exact hm.c1
    | 2, hj => simp [kC, Ix.vals] at hj; subst hj; exact hm.c2
    | 3, hj => simp [kC, Ix.vals] at hj; subst hj; exact hm.c3
    | 4, hj => simp [kC, Ix.vals] at hj; subst hj; exact hm.c4
    | 5, hj => simp [kC, Ix.vals] at hj; subst hj; exact hm.c5
    | 6, hj => simp [kC, Ix.vals] at hj; subst hj; exact hm.c6
    | 7, hj => simp [kC, Ix.vals] at hj; subst hj; exact hm.c7
    | j + 8, hj => simp [kC, Ix.vals] at hj
  · intro u hu
    simp [kC, Ix.vals] at hu
    rcases hu with rfl | rfl | rfl | rfl | rfl <;> rfl
  · unfold maxLen; omega
  · omega
  · simp; omega
  · have hb' : Below g w0 w' := (hb.alloc hbase _).grown hgrow (by simp; omega) (fun k hk => (World.ownsRow.lt hown k hk).1)
    refine h v' w' hown' hb' ?_
    have := hgrow.size; simp at this; omega
end
end Instr
end Go.Proofs.YtolbdioijbdlmaaDoor
