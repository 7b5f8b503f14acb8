import Derived.Test.YtaibfefmehhldaaGreatDoorSa12
import Derived.Test.YtaibfefmehhldaaGreatDoorSa01
import Derived.Test.YtaibfefmehhldaaGreatDoorSa09
import Derived.Test.YtaibfefmehhldaaGreatDoorSa06
import Derived.Test.YtaibfefmehhldaaGreatDoorSa04
import Derived.Deep.Cut
namespace Go.Proofs.YtaibfefmehhldaaGreatDoor.Instr
end Go.Proofs.YtaibfefmehhldaaGreatDoor.Instr
namespace Go.Proofs.YtaibfefmehhldaaGreatDoor.Mod
open Go.RowKit

/-- All that a row's block holds are bytes. -/
def Full (v : Value) (w : World) : Prop := ∀ g, v.ownBlock = some g → ∃ (cs : Array Value) (e : TypeId) (m : Nat × Nat), w.heap[g]? = some (.cells cs e m) ∧ ∀ u ∈ cs.toList, ∃ z, u = Value.int .u8 z
theorem Full.none (a : Nat) (c : Nat) (w : World) : Full (.slice none a c) w := fun g hg => by simp [Value.ownBlock] at hg
theorem Full.touch {S : Nat → Prop} {v : Value} {w w' : World} (h : Full v w) (ht : Touch S w w') (hk : ∀ g, v.ownBlock = some g → ¬ S g) : Full v w' := fun g hg => by
  obtain ⟨cs, e, m, hh, hc⟩ := h g hg
  exact ⟨cs, e, m, (ht.block g (Array.getElem?_eq_some_iff.1 hh).1 (hk g hg)).trans hh, hc⟩
theorem Full.below {v : Value} {w w' : World} (h : Full v w) (hb : Below w.heap.size w w') : Full v w' := h.touch (S := fun _ => False) (.of_below hb) (fun _ _ h => h)
theorem Full.new {w : World} {g n c : Nat} {cs : Array Value} {e : TypeId} {m : Nat × Nat} (hg : g = w.heap.size) (hc : ∀ u ∈ cs.toList, ∃ z, u = Value.int .u8 z) : Full (.slice (some ⟨g, 0, Option.none⟩) n c) (w.alloc (.cells cs e m)) := fun q hq => by
  simp only [Value.ownBlock, Option.some.injEq] at hq
  subst hq; subst hg
  exact ⟨cs, e, m, heap_alloc_new w _, hc⟩
theorem zeros_full (n : Nat) : ∀ u ∈ (Builtin.zeroCells (Value.int .u8 0).cells n).toList, ∃ z, u = Value.int .u8 z := by
  intro u hu
  simp [Builtin.zeroCells, Value.cells] at hu
  obtain ⟨a, _, h⟩ := hu
  rw [Nat.mod_one] at h
  exact ⟨0, by simpa using h.symm⟩
theorem ints_full (l : List Int) : ∀ u ∈ l.map (Value.int .u8), ∃ z, u = Value.int .u8 z := by
  intro u hu
  obtain ⟨z, _, rfl⟩ := List.mem_map.1 hu
  exact ⟨z, rfl⟩
/-- An append of bytes to such a row gives such a row. -/
theorem append_full (t ty : TypeId) (ht : Tryz.prog.underlying t = some (.slice 5)) {B : Nat} {wr w' : World} {v v' : Value} {xs ys : List Int} (hown : Own B wr v xs) (ad : Addr) (n c : Nat) (hn : ys.length = n)
    (hnews : ∀ (j : Nat) (u : Value), (ys.map (Value.int .u8))[j]? = some u → wr.cell? (ad.add j) = some u) (hl : xs.length + ys.length ≤ 140737488351232)
    (hr : (Builtin.append_ #[t, t] ty #[v, .slice (some ad) n c]).run Tryz.prog wr = .ok v' w') (hF : Full v wr) : Full v' w' := by
  obtain ⟨i0, hi, hz0, hz1, hz2⟩ := info_parts infoByte
  subst hn
  have hnl : (ys.map (Value.int .u8)).length = ys.length * i0.size := by rw [hz1]; simp
  rcases hown.2 with ⟨rfl, h0⟩ | ⟨g, cap, cur, rfl, hbg, hg, hnc, hcm, hcs, htake⟩
  · by_cases hm : ys.length = 0
    · have hy : ys = [] := List.eq_nil_of_length_eq_zero hm
      subst hy
      have : (Builtin.append_ #[t, t] ty #[.slice Option.none 0 0, .slice (some ad) ([] : List Int).length c]).run Tryz.prog wr = .ok (.slice Option.none 0 0) wr := by
        simp [Builtin.append_, run_underlying ht, sizeOf, typeInfo, hi, Builtin.lenOf, Builtin.firstCells, loadCells, loadCellsFrom]
      rw [this] at hr
      simp only [Result.ok.injEq] at hr
      obtain ⟨rfl, rfl⟩ := hr
      exact hF
    · have h2 := run_append_nil (P := Tryz.prog) wr t ty 5 i0 (.int .u8 0) ht hi hz0 ad ys.length c (ys.map (Value.int .u8)) hnl hnews (by omega) (by omega) (by rw [hz2]; omega)
      rw [h2] at hr
      simp only [Result.ok.injEq] at hr
      obtain ⟨rfl, rfl⟩ := hr
      refine Full.new (w := wr.drew) rfl fun u hu => ?_
      rw [Array.toList_append] at hu
      rcases List.mem_append.1 hu with h | h
      · exact ints_full ys u (by simpa using h)
      · exact zeros_full _ u h
  · by_cases hroom : xs.length + ys.length ≤ cap
    · have h2 := run_append_room (P := Tryz.prog) wr t ty 5 i0 ht hi g xs.length cap cur hg ad ys.length c (ys.map (Value.int .u8)) hnl hnews (fun u hu => by obtain ⟨n, _, rfl⟩ := List.mem_map.1 hu; rfl) hroom (by rw [hz1, hcs]; simp; omega)
      rw [h2] at hr
      simp only [Result.ok.injEq] at hr
      obtain ⟨rfl, rfl⟩ := hr
      intro q hq
      simp only [Value.ownBlock, Option.some.injEq] at hq
      subst hq
      refine ⟨_, _, _, setRow_heap wr g cur _ 5 _ hg, fun u hu => ?_⟩
      obtain ⟨cs, e, m, hh, hc⟩ := hF g rfl
      rw [hg] at hh
      simp only [Option.some.injEq, Obj.cells.injEq] at hh
      obtain ⟨rfl, rfl, rfl⟩ := hh
      rw [List.toList_toArray] at hu
      rcases List.mem_append.1 hu with h | h
      · rcases List.mem_append.1 h with h | h
        · exact hc u (List.mem_of_mem_take h)
        · exact ints_full ys u h
      · exact hc u (List.mem_of_mem_drop h)
    · have holds : ∀ (j : Nat) (u : Value), (xs.map (Value.int .u8))[j]? = some u → wr.cell? ((⟨g, 0, Option.none⟩ : Addr).add j) = some u := by
        intro j u hj
        have := World.ownsRow.cells (show wr.ownsRow B 5 1 (.slice (some ⟨g, 0, Option.none⟩) xs.length cap) xs.length (xs.map (Value.int .u8)) from hown) (g := g) rfl j u hj
        exact this
      have h2 := run_append_grow (P := Tryz.prog) wr t ty 5 i0 (.int .u8 0) ht hi hz0 ⟨g, 0, Option.none⟩ xs.length cap (xs.map (Value.int .u8)) (by rw [hz1]; simp) holds ad ys.length c (ys.map (Value.int .u8)) hnl hnews (by omega) (by omega) (growslice_fits (by omega) (by rw [hz2]; omega))
      rw [h2] at hr
      simp only [Result.ok.injEq] at hr
      obtain ⟨rfl, rfl⟩ := hr
      refine Full.new (w := wr.drew) rfl fun u hu => ?_
      simp only [Array.toList_append] at hu
      rcases List.mem_append.1 hu with h | h
      · rcases List.mem_append.1 h with h | h
        · exact ints_full xs u (by simpa using h)
        · exact ints_full ys u (by simpa using h)
      · exact zeros_full _ u h
end Go.Proofs.YtaibfefmehhldaaGreatDoor.Mod

namespace Go.Proofs.YtaibfefmehhldaaGreatDoor.Mod
open Go.RowKit Go.Proofs.YtaibfefmehhldaaGreatDoor.Instr
set_option linter.unusedVariables false

/-- Bytes of a copy, and room behind them. -/
def BytesO (lo hi : Nat) (w : World) (a : Option Addr) (zs : List Int) (c : Nat) : Prop := RoomO lo hi w a zs.length c ∧ BytesAt hi w a zs
theorem RoomO.frame {lo hi n c : Nat} {w w' : World} (s : Same2 lo hi w w') {a : Option Addr} (h : RoomO lo hi w a n c) : RoomO lo hi w' a n c := by
  refine ⟨h.1, h.2.1, ?_⟩
  rcases h.2.2 with h | ⟨b, off, h1, h2, h3⟩
  · exact .inl h
  · exact .inr ⟨b, off, h1, h2.frame s, fun i hi => by obtain ⟨z, hz⟩ := h3 i hi; exact ⟨z, (s.cell h2.1 h2.2.1).trans hz⟩⟩
theorem RoomO.mono {lo hi lo' hi' n c : Nat} {w : World} (g1 : lo' ≤ lo) (g2 : hi ≤ hi') {a : Option Addr} (h : RoomO lo hi w a n c) : RoomO lo' hi' w a n c := by
  refine ⟨h.1, h.2.1, ?_⟩
  rcases h.2.2 with h | ⟨b, off, h1, h2, h3⟩
  · exact .inl h
  · exact .inr ⟨b, off, h1, h2.mono g1 g2, h3⟩
theorem BytesO.frame {lo hi c : Nat} {w w' : World} (s : Same2 lo hi w w') {a : Option Addr} {zs : List Int} (h : BytesO lo hi w a zs c) : BytesO lo hi w' a zs c := by
  refine ⟨h.1.frame s, ?_⟩
  rcases h.2 with h2 | ⟨b, off, ha, hb, hc⟩
  · exact .inl h2
  · rcases h.1.2.2 with ⟨h3, h4⟩ | ⟨b', off', h1, h2, h3⟩
    · rw [ha] at h3; cases h3
    · rw [ha] at h1
      simp only [Option.some.injEq, Addr.mk.injEq, and_true] at h1
      obtain ⟨rfl, rfl⟩ := h1
      exact .inr ⟨b, off, ha, hb, fun i hi => (s.cell h2.1 h2.2.1).trans (hc i hi)⟩
theorem BytesO.mono {lo hi lo' hi' c : Nat} {w : World} (g1 : lo' ≤ lo) (g2 : hi ≤ hi') {a : Option Addr} {zs : List Int} (h : BytesO lo hi w a zs c) : BytesO lo' hi' w a zs c := ⟨h.1.mono g1 g2, h.2.more g2⟩
section
variable {α : Type}
theorem exists_listG {P : Nat → α → Prop} : ∀ n : Nat, (∀ i, i < n → ∃ a, P i a) → ∃ l : List α, l.length = n ∧ ∀ (i : Nat) (h : i < l.length), P i l[i]
  | 0, _ => ⟨[], rfl, fun i h => absurd h (Nat.not_lt_zero _)⟩
  | n + 1, h => by
    obtain ⟨l, hl, hp⟩ := exists_listG n (fun i hi => h i (by omega))
    obtain ⟨a, ha⟩ := h n (by omega)
    refine ⟨l ++ [a], by simp [hl], fun i hi => ?_⟩
    by_cases hn : i < l.length
    · rw [List.getElem_append_left hn]; exact hp i hn
    · have : i = n := by simp at hi; omega
      subst this
      rw [List.getElem_append_right (by omega)]
      simpa [hl] using ha
/-- Kinds of items: their cells, their bare form, what they hold in blocks of a copy. -/
structure Kin (α : Type) where
  V : α → List Value
  sz : Nat
  br : α → α
  own : Nat → Nat → World → α → Prop
  len : ∀ x, (V x).length = sz
  pos : 0 < sz
  frame : ∀ {lo hi : Nat} {w w' : World} {x : α}, Same2 lo hi w w' → own lo hi w x → own lo hi w' x
  mono : ∀ {lo hi lo' hi' : Nat} {w : World} {x : α}, lo' ≤ lo → hi ≤ hi' → own lo hi w x → own lo' hi' w x
/-- Behind k rounds. -/
structure InvG (K : Kin α) (l : List α) (lo g k : Nat) (w : World) : Prop where
  soft : ∃ cs e, w.heap[g]? = some (.cells cs e (0, 0))
  done : ∀ j (h : j < l.length), j < k → ∃ x', (∀ q v, (K.V x')[q]? = some v → w.cell? ⟨g, j * K.sz + q, none⟩ = some v) ∧ K.own lo w.heap.size w x' ∧ K.br x' = K.br l[j]
  left : ∀ j (h : j < l.length), k ≤ j → ∀ q v, (K.V l[j])[q]? = some v → w.cell? ⟨g, j * K.sz + q, none⟩ = some v
theorem sets_size (g : Nat) : ∀ (us : List Value) (o : Nat) (v : World), (v.setCells g o us).heap.size = v.heap.size
  | [], _, _ => rfl
  | u :: r, o, v => by rw [World.setCells, sets_size g r]; simp [World.setCell]
theorem sets_oth (g : Nat) : ∀ (us : List Value) (o : Nat) (v : World) (q : Nat), q ≠ g → (v.setCells g o us).heap[q]? = v.heap[q]?
  | [], _, _, _, _ => rfl
  | u :: r, o, v, q, hq => by rw [World.setCells, sets_oth g r _ _ _ hq]; exact Below.heap_setCell v ⟨g, o, none⟩ u q hq
theorem sets_soft (g : Nat) : ∀ (us : List Value) (o : Nat) (v : World), (∃ cs e, v.heap[g]? = some (.cells cs e (0, 0))) → ∃ cs e, (v.setCells g o us).heap[g]? = some (.cells cs e (0, 0))
  | [], _, _, h => h
  | u :: r, o, v, ⟨cs, e, h⟩ => by
    rw [World.setCells]
    exact sets_soft g r _ _ ⟨_, _, heap_setCell_same v g o cs e u h⟩
theorem InvG.step {K : Kin α} {l : List α} {lo g k : Nat} {w W w2 : World} (h : InvG K l lo g k w) (hg : g < lo) (hlo : lo ≤ w.heap.size) (hW : Below w.heap.size w W) (hWs : w.heap.size ≤ W.heap.size) (hb : Below W.heap.size W w2) (hk : k < l.length) {x' : α}
    (hc : K.own W.heap.size w2.heap.size w2 x') (hbr : K.br x' = K.br l[k]) : InvG K l lo g (k + 1) (w2.setCells g (k * K.sz) (K.V x')) := by
  have hbb : Below w.heap.size w w2 := hW.trans (hb.mono hWs)
  have hgl : g < w.heap.size := by omega
  have c2 : ∀ j, w2.cell? ⟨g, j, none⟩ = w.cell? ⟨g, j, none⟩ := fun j => hbb.cell (p := ⟨g, j, none⟩) hgl
  have hlen := K.len x'
  have hout : ∀ j, (j < k * K.sz ∨ k * K.sz + K.sz ≤ j) → (w2.setCells g (k * K.sz) (K.V x')).cell? ⟨g, j, none⟩ = w.cell? ⟨g, j, none⟩ := fun j hj => (World.cell?_setCells_out g _ _ _ _ (fun _ _ => by rw [hlen]; exact hj)).trans (c2 j)
  have hlt : ∀ (x : α) (q : Nat) (v : Value), (K.V x)[q]? = some v → q < K.sz := fun x q v hv => by
    rcases Nat.lt_or_ge q K.sz with h | h
    · exact h
    · rw [List.getElem?_eq_none (by rw [K.len]; exact h)] at hv; cases hv
  have hne : ∀ j q, j < k → q < K.sz → j * K.sz + q < k * K.sz := fun j q hj hq => by
    have : (j + 1) * K.sz ≤ k * K.sz := Nat.mul_le_mul_right _ hj
    rw [Nat.succ_mul] at this
    omega
  refine ⟨sets_soft g _ _ _ ?_, fun j hj hjk => ?_, fun j hj hjk q v hv => ?_⟩
  · obtain ⟨cs, e, h⟩ := h.soft
    exact ⟨cs, e, (hbb.block g hgl).trans h⟩
  · by_cases e : j = k
    · subst e
      refine ⟨x', fun q v hv => ?_, ?_, hbr⟩
      · have hq : q < (K.V x').length := by rw [hlen]; exact hlt _ _ _ hv
        rw [World.cell?_setCells_in g (K.V x') (j * K.sz) w2 (fun i hi => by
          rw [c2]
          have h8 : i < (K.V l[j]).length := by rw [K.len]; rw [hlen] at hi; exact hi
          rw [h.left j hj (Nat.le_refl _) i _ (List.getElem?_eq_getElem h8)]; rfl) q hq]
        rw [List.getElem?_eq_getElem hq] at hv
        exact hv
      · exact K.mono (by omega) (by rw [sets_size]; exact Nat.le_refl _) (K.frame (fun b b1 b2 => sets_oth g _ _ _ _ (by omega)) hc)
    · obtain ⟨x1, g1, g2, g3⟩ := h.done j hj (by omega)
      refine ⟨x1, fun q v hv => ?_, ?_, g3⟩
      · rw [hout _ (.inl (hne j q (by omega) (hlt _ _ _ hv)))]; exact g1 q v hv
      · exact K.mono (Nat.le_refl _) (by rw [sets_size]; exact hbb.size) (K.frame (fun b b1 b2 => (sets_oth g _ _ _ _ (by omega)).trans (hbb.block b b2)) g2)
  · rw [hout _ (.inr (by
      have : (k + 1) * K.sz ≤ j * K.sz := Nat.mul_le_mul_right _ (by omega)
      rw [Nat.succ_mul] at this
      omega))]
    exact h.left j hj (by omega) q v hv
/-- What mapped tells of a list. -/
def MapP (K : Kin α) (l : List α) (lo : Nat) (w' : World) (v : Value) : Prop :=
  ∃ a c l', v = .slice a l.length c ∧ l'.length = l.length ∧ l'.map K.br = l.map K.br ∧ (l' = [] ∨ ∃ b off, a = some ⟨b, off, none⟩ ∧ Blk lo w'.heap.size w' b) ∧ Rows w'.heap.size w' a K.sz (l'.map K.V) ∧ ∀ x ∈ l', K.own lo w'.heap.size w' x
theorem InvG.end {K : Kin α} {l : List α} {lo g c : Nat} {w : World} (h : InvG K l lo g l.length w) {lo' : Nat} (hl : lo' ≤ lo) (hg : lo' ≤ g) (hgs : g < w.heap.size) : MapP K l lo' w (.slice (some ⟨g, 0, none⟩) l.length c) := by
  obtain ⟨l', h1, h2⟩ := exists_listG (P := fun i x' => ∀ (hi : i < l.length), (∀ q v, (K.V x')[q]? = some v → w.cell? ⟨g, i * K.sz + q, none⟩ = some v) ∧ K.own lo w.heap.size w x' ∧ K.br x' = K.br l[i]) l.length (fun i hi => by
    obtain ⟨x', g1, g2, g3⟩ := h.done i hi hi
    exact ⟨x', fun _ => ⟨g1, g2, g3⟩⟩)
  refine ⟨_, c, l', rfl, h1, ?_, .inr ⟨g, 0, rfl, hg, hgs, h.soft⟩, .inr ⟨g, 0, rfl, hgs, fun i hi j hj v hv => ?_⟩, fun x hx => ?_⟩
  · apply List.ext_getElem (by simp [h1])
    intro i i1 i2
    rw [List.getElem_map, List.getElem_map]
    rw [List.length_map] at i1 i2
    exact (h2 i i1 i2).2.2
  · rw [List.length_map] at hi
    rw [List.getD_eq_getElem?_getD, List.getElem?_map, List.getElem?_eq_getElem hi] at hv
    rw [Nat.zero_add]
    exact (h2 i hi (by omega)).1 j v hv
  · obtain ⟨i, hi, rfl⟩ := List.mem_iff_getElem.1 hx
    exact K.mono hl (Nat.le_refl _) (h2 i hi (by omega)).2.1
/-- What slices.Clone made holds what was there. -/
theorem InvG.start {K : Kin α} {l : List α} {e : TypeId} {base : Nat} {w : World} {g n c : Nat} (h : OwnR e K.sz base w (.slice (some ⟨g, 0, none⟩) n c) (l.map K.V)) (hn : l.length = n) (lo : Nat) : InvG K l lo g 0 w := by
  rcases h.row.2 with ⟨h1, _⟩ | ⟨g', cap, cur, hv, hg, hh, hc, hm, hs, ht⟩
  · simp at h1
  · rw [List.length_map] at hv ht
    simp only [Value.slice.injEq, Option.some.injEq, Addr.mk.injEq, and_true] at hv
    obtain ⟨rfl, _, rfl⟩ := hv
    refine ⟨⟨cur, e, hh⟩, fun j _ h => absurd h (Nat.not_lt_zero _), fun j hj _ q v hv => ?_⟩
    have hq : q < K.sz := by
      rcases Nat.lt_or_ge q K.sz with h | h
      · exact h
      · rw [List.getElem?_eq_none (by rw [K.len]; exact h)] at hv; cases hv
    have hf := flat_get (l.map K.V) h.len j q (by simpa using hj) hq
    have hrow : (l.map K.V).getD j [] = K.V l[j] := by rw [List.getD_eq_getElem?_getD, List.getElem?_map, List.getElem?_eq_getElem hj]; rfl
    rw [hrow, hv] at hf
    have h5 := congrArg (fun l => l[j * K.sz + q]?) ht
    have hjn : j * K.sz + q < l.length * K.sz := by
      have : (j + 1) * K.sz ≤ l.length * K.sz := Nat.mul_le_mul_right _ hj
      rw [Nat.succ_mul] at this
      omega
    simp only [List.getElem?_take, if_pos hjn] at h5
    rw [hf] at h5
    have h6 : cur[j * K.sz + q]? = some v := by rw [← Array.getElem?_toList]; exact h5
    simp [World.cell?, hh, h6]
end
end Go.Proofs.YtaibfefmehhldaaGreatDoor.Mod

namespace Go.Proofs.YtaibfefmehhldaaGreatDoor.Mod
open Go.RowKit Go.Proofs.YtaibfefmehhldaaGreatDoor.Instr
set_option linter.unusedVariables false

/-- An append of bytes that lie somewhere, to a row of one's own all of whose block holds bytes. -/
theorem wpList_bytes_full {ops : Array Oper} {rest : List Oper} {o : Oper} {act : Act} {Q : Exit → Act → World → Prop} (hgd : o.guard = none) (s x : Operand) (t : TypeId) (ut : Tryz.prog.underlying t = some (.slice 5)) (ho : o.op = .call { callee := .builtin .append, args := #[s, x], argTypes := #[t, t] })
    {base : Nat} {wr : World} {v : Value} {ys : List Int} (hs : act.eval s = v) (hown : Own base wr v []) (hF : Full v wr) (hbase : base ≤ wr.heap.size) (a2 : Option Addr) (n c : Nat) (hx : act.eval x = .slice a2 n c) (hn : ys.length = n) (hy : BytesAt wr.heap.size wr a2 ys) (hl : ys.length ≤ 1000000000)
    (h : ∀ v' w', Own base w' v' ys → Full v' w' → Below base wr w' → wpList Tryz.prog ops Q rest (act.put o.dst v') w') : wpList Tryz.prog ops Q (o :: rest) act wr := by
  obtain ⟨i0, hi, hz0, hz1, hz2⟩ := info_parts infoByte
  subst hn
  cases ha : a2 with
  | none =>
    subst ha
    have h0 : ys = [] := by
      rcases hy with h | ⟨b, off, h, _⟩
      · exact h
      · cases h
    subst h0
    exact Body.append_none hgd s x t ho base 5 i0 1 c ut hi v _ _ hs hown hx (h v wr hown hF (Below.refl _ _))
  | some ad =>
    subst ha
    have hnews : ∀ (j : Nat) (u : Value), (ys.map (Value.int .u8))[j]? = some u → wr.cell? (ad.add j) = some u := by
      intro j u hj
      have hjl : j < ys.length := by
        rcases Nat.lt_or_ge j ys.length with h | h
        · exact h
        · rw [List.getElem?_eq_none (by simpa using h)] at hj; cases hj
      rcases hy with h | ⟨b, off, h, _, hc⟩
      · rw [h] at hjl; simp at hjl
      · simp only [Option.some.injEq] at h
        subst h
        have hplain : (⟨b, off, none⟩ : Addr).add j = ⟨b, off + j, none⟩ := by unfold Addr.add; split <;> simp_all
        rw [hplain, hc j hjl, ← hj, getD_lt hjl]; simp [hjl]
    obtain ⟨v', w', hr, h2, h3, _⟩ := run_append_own (P := Tryz.prog) wr base t o.type 5 i0 (.int .u8 0) 1 1 ut hi hz0 hz1 hz2 rfl (by omega) v 0 [] hown ad ys.length c (ys.map (Value.int .u8)) (by simp) hnews (fun u hu => by obtain ⟨n, _, rfl⟩ := List.mem_map.1 hu; rfl) (by unfold maxLen; omega) (by omega) hbase
    refine wpList_plain hgd fun K hK => ?_
    unfold Oper.wp
    simp [execOp, ho, resolve, invoke, builtin, hs, hx, hr, Result.andThen]
    exact hK _ _ (h v' w' (by unfold Own; simpa using h2) (append_full t o.type ut hown ad ys.length c rfl hnews (by simp; omega) hr hF) ((Below.refl base wr).grown h3 hbase (fun k hk => (World.ownsRow.lt hown k hk).1)))
/-- Such a row is bytes of a copy. -/
theorem own_bytesO {base : Nat} {w : World} {v : Value} {zs : List Int} (h : Own base w v zs) (hF : Full v w) : ∃ a c, v = .slice a zs.length c ∧ BytesO base w.heap.size w a zs c := by
  rcases h.2 with ⟨rfl, h0⟩ | ⟨g, cap, cur, rfl, hb, hg, h1, h2, h3, h4⟩
  · have : zs = [] := List.eq_nil_of_length_eq_zero h0
    subst this
    exact ⟨none, 0, rfl, ⟨Nat.le_refl _, by omega, .inl ⟨rfl, rfl⟩⟩, .inl rfl⟩
  · have hgl : g < w.heap.size := (Array.getElem?_eq_some_iff.1 hg).1
    refine ⟨_, cap, rfl, ⟨h1, by simpa [maxLen] using h2, .inr ⟨g, 0, rfl, ⟨hb, hgl, cur, _, hg⟩, fun i hi => ?_⟩⟩, .inr ⟨g, 0, rfl, hgl, fun i hi => ?_⟩⟩
    · obtain ⟨cs, e, m, hh, hc⟩ := hF g rfl
      rw [hg] at hh
      simp only [Option.some.injEq, Obj.cells.injEq] at hh
      obtain ⟨rfl, -, -⟩ := hh
      have hx : cur[i]? = some (cur[i]'(by omega)) := Array.getElem?_eq_getElem (by omega)
      obtain ⟨z, hz⟩ := hc _ (by rw [Array.mem_toList_iff]; exact Array.getElem_mem (h := by omega) (i := i))
      refine ⟨z, ?_⟩
      rw [Nat.zero_add, ← hz]
      simp [World.cell?, hg, hx]
    · have hj : (zs.map (Value.int .u8))[i]? = some (.int .u8 (zs.getD i 0)) := by rw [getD_lt hi]; simp [hi]
      have := World.ownsRow.cells (show w.ownsRow base 5 1 (.slice (some ⟨g, 0, none⟩) zs.length cap) zs.length (zs.map (Value.int .u8)) from h) (g := g) rfl i _ hj
      have hplain : (⟨g, 0, none⟩ : Addr).add i = ⟨g, 0 + i, none⟩ := by unfold Addr.add; split <;> simp_all
      rw [hplain] at this
      exact this
theorem own_made8 (w : World) (g : Nat) (hg : g = w.heap.size) : Own g (w.alloc (.cells #[] 5)) (.slice (some ⟨g, 0, none⟩) 0 0) [] := by
  subst hg
  exact World.ownsRow_made w #[] 0 (Nat.le_refl _) (by unfold maxLen; omega) (by simp)
set_option maxHeartbeats 2000000 in
theorem clone_bytes (w : World) (a : Option Addr) (n c : Nat) (zs : List Int) (hn : zs.length = n) (hr : BytesAt w.heap.size w a zs) (hl : zs.length ≤ 1000000000) :
    Calls Tryz.prog 56 #[.slice a n c] w fun e w' => ∃ a' c', e = .returned (.slice a' n c') ∧ BytesO w.heap.size w'.heap.size w' a' zs c' ∧ Below w.heap.size w w' := by
  have HN := hid hn
  have HR := hid hr
  have HM := hid hl
  clear hn hr hl
  cases a with
  | none =>
    have HY : Hid (zs = []) := hid (HR.out.elim id (fun ⟨b, off, h, _⟩ => by cases h))
    have qn := Lib.run_eql_slice_nil (P := Tryz.prog) w 49 5 none n c 0 0 Tryz.underlying49
    rw [Option.isNone_none] at qn
    go_enter Tryz.func56, Tryz.ntmps56
    go_wp2
    go_ret
    have h0 : n = 0 := by rw [← HN.out, HY.out]; rfl
    subst h0
    exact ⟨none, 0, rfl, by rw [HY.out]; exact ⟨⟨Nat.le_refl _, by omega, .inl ⟨rfl, rfl⟩⟩, .inl rfl⟩, Below.refl _ _⟩
  | some ad =>
    have qn := Lib.run_eql_slice_nil (P := Tryz.prog) w 49 5 (some ad) n c 0 0 Tryz.underlying49
    rw [Option.isNone_some] at qn
    go_enter Tryz.func56, Tryz.ntmps56
    go_wp2_with (at_builtin; refine wpList_bytes_full rfl (.tmp 5) (.tmp 6) 49 Tryz.underlying49 rfl rfl (own_made8 w _ rfl) (Full.new rfl (by simp)) (by simp) _ _ _ rfl HN.out ((HR.out.below ((Below.refl _ _).alloc (Nat.le_refl _) _)).more (by simp)) HM.out ?_; intro v1 u1 ho hF hb)
    go_ret
    obtain ⟨a', c', rfl, hB⟩ := own_bytesO ho hF
    rw [HN.out]
    exact ⟨a', c', rfl, hB, (((Below.refl w.heap.size w).alloc (Nat.le_refl _) _).trans hb)⟩
end Go.Proofs.YtaibfefmehhldaaGreatDoor.Mod

namespace Go.Proofs.YtaibfefmehhldaaGreatDoor.Mod
open Go.RowKit Go.Proofs.YtaibfefmehhldaaGreatDoor.Instr
set_option linter.unusedVariables false

theorem two_boxesG (w : World) (cs zs : Array Value) (t : TypeId) : ∃ W0, W0 = (w.alloc (.cells cs t)).alloc (.cells zs t) ∧ Below w.heap.size w W0 ∧ W0.heap[w.heap.size]? = some (.cells cs t (0, 0)) ∧ W0.heap[w.heap.size + 1]? = some (.cells zs t (0, 0)) ∧ W0.heap.size = w.heap.size + 2 := by
  refine ⟨_, rfl, ((Below.refl w.heap.size w).alloc (Nat.le_refl _) _).alloc (by simp) _, ?_, ?_, by simp⟩
  · exact (((Below.refl _ _).alloc (Nat.le_refl _) _).block w.heap.size (by simp)).trans (heap_alloc_new w _)
  · have h := heap_alloc_new (w.alloc (.cells cs t)) (.cells zs t)
    rw [World.size_alloc] at h
    exact h
def Fn.own (lo hi : Nat) (w : World) (x : Fn) : Prop := ListO lo hi w x.l.a x.l.t.len x.l.t
def Gl.own (lo hi : Nat) (w : World) (x : Gl) : Prop := ListO lo hi w x.l.a x.l.t.len x.l.t
def El.own (lo hi : Nat) (w : World) (x : El) : Prop := ListO lo hi w x.l.a x.l.t.len x.l.t ∧ TagsO lo hi w x.fa x.fs
def Da.own (lo hi : Nat) (w : World) (x : Da) : Prop := ListO lo hi w x.l.a x.l.t.len x.l.t ∧ BytesO lo hi w x.ba x.bs x.bc
def kFn : Kin Fn := ⟨Fn.v, 3, Fn.bare, Fn.own, fun _ => rfl, by omega, fun s h => ListO.frame s h, fun a b h => ListO.mono a b h⟩
def kGl : Kin Gl := ⟨Gl.v, 2, Gl.bare, Gl.own, fun _ => rfl, by omega, fun s h => ListO.frame s h, fun a b h => ListO.mono a b h⟩
def kEl : Kin El := ⟨El.v, 2, El.bare, El.own, fun _ => rfl, by omega, fun s h => ⟨ListO.frame s h.1, TagsO.frame s h.2⟩, fun a b h => ⟨ListO.mono a b h.1, TagsO.mono a b h.2⟩⟩
def kDa : Kin Da := ⟨Da.v, 2, Da.bare, Da.own, fun _ => rfl, by omega, fun s h => ⟨ListO.frame s h.1, BytesO.frame s h.2⟩, fun a b h => ⟨ListO.mono a b h.1, BytesO.mono a b h.2⟩⟩
theorem lst_bare {a a' : Option Addr} {c c' : Nat} {t u : Il} (h : u.bare = t.bare) : (⟨a', c', u⟩ : Lst).bare = (⟨a, c, t⟩ : Lst).bare := by unfold Lst.bare; rw [h]
/-- What an item that is copied has. -/
def Fn.inp (w : World) (x : Fn) : Prop := ListAt w.heap.size w x.l.a x.l.t.len x.l.t ∧ x.l.t.weight ≤ 1000000000 ∧ x.l.t.len ≤ 140737488351232
set_option maxRecDepth 100000 in
set_option maxHeartbeats 4000000 in
theorem cpyFn (x : Fn) (w : World) (hi : x.inp w) :
    Calls Tryz.prog 19 #[.agg #[.int .i64 x.ty, .int .i64 x.lo, .slice x.l.a x.l.t.len x.l.c]] w fun e w' => (∃ x' : Fn, e = .returned (.agg #[.int .i64 x'.ty, .int .i64 x'.lo, .slice x'.l.a x'.l.t.len x'.l.c]) ∧ x'.own w.heap.size w'.heap.size w' ∧ x'.bare = x.bare) ∧ Below w.heap.size w w' := by
  obtain ⟨ty, lo, ⟨la, lc, lt⟩⟩ := x
  obtain ⟨hl, hw, hn⟩ := hi
  dsimp only at hl hw hn ⊢
  have HU : Hid (∀ u : Il, u.bare = lt.bare → u.len = lt.len) := hid (fun u h => by have := congrArg Il.len h; rwa [bare_len, bare_len] at this)
  obtain ⟨n, hln⟩ : ∃ n, lt.len = n := ⟨_, rfl⟩
  rw [hln] at hl hn HU ⊢
  obtain ⟨W0, hW0, hb, hr, hs, hz⟩ := two_boxesG w #[.int .i64 ty, .int .i64 lo, .slice la n lc] #[.int .i64 0, .int .i64 0, .slice none 0 0] 43
  have CL := hid (fun (W : World) (hb : Below w.heap.size w W) => copyList_any lt la n lc W hw ((hl.below hb).more hb.size) hn)
  have HB := hid hb
  have HR := hid hr
  have HS := hid hs
  have HZ := hid hz
  have HW := hid hW0
  have c2 := cs_cell hr (i := 2) rfl
  clear hl hw hn hln hb hr hs hz hW0
  go_enter Tryz.func19, Tryz.ntmps19
  go_upto_region 1 with fail
  rw [← HW.out]
  go_wp2_with fail
  refine (CL.out _ HB.out).mono ?_
  rintro r w1 ⟨⟨la1, lc1, u1, rfl, hL, hbare⟩, hb1⟩
  have HBA := hid hbare
  have rw1 := (hb1.block w.heap.size (by have := HZ.out; omega)).trans HR.out
  have sw1 := (hb1.block (w.heap.size + 1) (by have := HZ.out; omega)).trans HS.out
  have zw1 : w.heap.size + 2 ≤ w1.heap.size := by have := hb1.size; have := HZ.out; omega
  have cz := cs_cell rw1 (i := 2) rfl
  have fz := frozen_of_row w1 w.heap.size 2 _ _ rw1
  have HRa := hid rw1
  have HSa := hid sw1
  have HZa := hid zw1
  have HBa := hid (HB.out.trans (hb1.mono HB.out.size))
  have HLa := hid hL
  have HBb := hid hb1
  clear rw1 sw1 zw1 hL hb1 c2 hbare
  go_upto_region 2 with fail
  obtain ⟨w2, hw2⟩ : ∃ u, u = w1.setCell ⟨w.heap.size, 2, none⟩ (.slice la1 n lc1) := ⟨_, rfl⟩
  rw [← hw2]
  have rw2 : w2.heap[w.heap.size]? = some (.cells #[.int .i64 ty, .int .i64 lo, .slice la1 n lc1] 43 (0, 0)) := by rw [hw2]; exact heap_setCell_same w1 w.heap.size 2 _ _ _ HRa.out
  have sw2 : w2.heap[w.heap.size + 1]? = some (.cells #[.int .i64 0, .int .i64 0, .slice none 0 0] 43 (0, 0)) := by rw [hw2]; exact (Below.heap_setCell w1 ⟨w.heap.size, 2, none⟩ _ (w.heap.size + 1) (by simp)).trans HSa.out
  have ew2 : w2.heap.size = w1.heap.size := by rw [hw2]; simp [World.setCell]
  have HZ1 : Hid (w.heap.size + 2 ≤ w2.heap.size) := hid (by rw [ew2]; exact HZa.out)
  have HB1 : Hid (Below w.heap.size w w2) := hid (by rw [hw2]; exact HBa.out.setCell (by simp) _)
  have SM : Same2 (w.heap.size + 2) w1.heap.size w1 w2 := by rw [hw2]; exact Same2.set (.inl (by omega))
  have HO1 : Hid (ListO (w.heap.size + 2) w2.heap.size w2 la1 n u1) := hid (ListO.mono (Nat.le_refl _) (Nat.le_of_eq ew2.symm) (ListO.frame SM (ListO.mono (by have := HZ.out; omega) (Nat.le_refl _) HLa.out)))
  have HR1 := hid rw2
  have HS1 := hid sw2
  have x0 := cs_cell rw2 (i := 0) rfl
  have y0 := cs_cell sw2 (i := 0) rfl
  have v0 := frozen_of_row w2 (w.heap.size + 1) 0 _ _ sw2
  have x1 := cs_cell rw2 (i := 1) rfl
  have y1 := cs_cell sw2 (i := 1) rfl
  have v1 := frozen_of_row w2 (w.heap.size + 1) 1 _ _ sw2
  have x2 := cs_cell rw2 (i := 2) rfl
  have y2 := cs_cell sw2 (i := 2) rfl
  have v2 := frozen_of_row w2 (w.heap.size + 1) 2 _ _ sw2
  clear hw2 rw2 sw2 ew2 SM cz fz HRa HSa HZa HBa HLa HBb
  go_wp2
  have E8 : (((w2.setCell ⟨w.heap.size + 1, 0, none⟩ (.int .i64 ty)).setCell ⟨w.heap.size + 1, 1, none⟩ (.int .i64 lo)).setCell ⟨w.heap.size + 1, 2, none⟩ (.slice la1 n lc1)).heap.size = w2.heap.size := by simp [World.setCell]
  have F8 : Same2 (w.heap.size + 2) w2.heap.size w2 (((w2.setCell ⟨w.heap.size + 1, 0, none⟩ (.int .i64 ty)).setCell ⟨w.heap.size + 1, 1, none⟩ (.int .i64 lo)).setCell ⟨w.heap.size + 1, 2, none⟩ (.slice la1 n lc1)) := ((Same2.set (b := w.heap.size + 1) (.inl (by omega))).trans (Same2.set (b := w.heap.size + 1) (.inl (by omega)))).trans (Same2.set (b := w.heap.size + 1) (.inl (by omega)))
  have R8 := (heap_setCell_same _ (w.heap.size + 1) 2 _ _ (.slice la1 n lc1) (heap_setCell_same _ (w.heap.size + 1) 1 _ _ (.int .i64 lo) (heap_setCell_same _ (w.heap.size + 1) 0 _ _ (.int .i64 ty) HS1.out)))
  have B8 := (((HB1.out.setCell (p := ⟨w.heap.size + 1, 0, none⟩) (by simp) (.int .i64 ty)).setCell (p := ⟨w.heap.size + 1, 1, none⟩) (by simp) (.int .i64 lo)).setCell (p := ⟨w.heap.size + 1, 2, none⟩) (by simp) (.slice la1 n lc1))
  obtain ⟨w8, hw8⟩ : ∃ w8, w8 = (((w2.setCell ⟨w.heap.size + 1, 0, none⟩ (.int .i64 ty)).setCell ⟨w.heap.size + 1, 1, none⟩ (.int .i64 lo)).setCell ⟨w.heap.size + 1, 2, none⟩ (.slice la1 n lc1)) := ⟨_, rfl⟩
  rw [← hw8] at E8 F8 R8 B8 ⊢
  have hlu := HU.out u1 HBA.out
  have KHO1 : ListO w.heap.size w8.heap.size w8 la1 n u1 := ListO.mono (by omega) (by omega) (ListO.frame F8 HO1.out)
  refine bodyPost_ret (v := .agg #[.int .i64 ty, .int .i64 lo, .slice la1 n lc1]) (results_cell_row Tryz.results19 _ w8 (w.heap.size + 1) _ _ _ _ rfl R8 Tryz.underlying43 rfl (by kernel_rfl)) rfl ⟨⟨⟨ty, lo, ⟨la1, lc1, u1⟩⟩, by dsimp only; rw [hlu], (by show Fn.own _ _ _ _; unfold Fn.own; dsimp only; rw [hlu]; exact KHO1), congrArg (Fn.mk ty lo) (lst_bare HBA.out)⟩, B8⟩
/-- What an item that is copied has. -/
def Gl.inp (w : World) (x : Gl) : Prop := ListAt w.heap.size w x.l.a x.l.t.len x.l.t ∧ x.l.t.weight ≤ 1000000000 ∧ x.l.t.len ≤ 140737488351232
set_option maxRecDepth 100000 in
set_option maxHeartbeats 4000000 in
theorem cpyGl (x : Gl) (w : World) (hi : x.inp w) :
    Calls Tryz.prog 22 #[.agg #[.bool x.mu, .slice x.l.a x.l.t.len x.l.c]] w fun e w' => (∃ x' : Gl, e = .returned (.agg #[.bool x'.mu, .slice x'.l.a x'.l.t.len x'.l.c]) ∧ x'.own w.heap.size w'.heap.size w' ∧ x'.bare = x.bare) ∧ Below w.heap.size w w' := by
  obtain ⟨mu, ⟨la, lc, lt⟩⟩ := x
  obtain ⟨hl, hw, hn⟩ := hi
  dsimp only at hl hw hn ⊢
  have HU : Hid (∀ u : Il, u.bare = lt.bare → u.len = lt.len) := hid (fun u h => by have := congrArg Il.len h; rwa [bare_len, bare_len] at this)
  obtain ⟨n, hln⟩ : ∃ n, lt.len = n := ⟨_, rfl⟩
  rw [hln] at hl hn HU ⊢
  obtain ⟨W0, hW0, hb, hr, hs, hz⟩ := two_boxesG w #[.bool mu, .slice la n lc] #[.bool false, .slice none 0 0] 45
  have CL := hid (fun (W : World) (hb : Below w.heap.size w W) => copyList_any lt la n lc W hw ((hl.below hb).more hb.size) hn)
  have HB := hid hb
  have HR := hid hr
  have HS := hid hs
  have HZ := hid hz
  have HW := hid hW0
  have c1 := cs_cell hr (i := 1) rfl
  clear hl hw hn hln hb hr hs hz hW0
  go_enter Tryz.func22, Tryz.ntmps22
  go_upto_region 1 with fail
  rw [← HW.out]
  go_wp2_with fail
  refine (CL.out _ HB.out).mono ?_
  rintro r w1 ⟨⟨la1, lc1, u1, rfl, hL, hbare⟩, hb1⟩
  have HBA := hid hbare
  have rw1 := (hb1.block w.heap.size (by have := HZ.out; omega)).trans HR.out
  have sw1 := (hb1.block (w.heap.size + 1) (by have := HZ.out; omega)).trans HS.out
  have zw1 : w.heap.size + 2 ≤ w1.heap.size := by have := hb1.size; have := HZ.out; omega
  have cz := cs_cell rw1 (i := 1) rfl
  have fz := frozen_of_row w1 w.heap.size 1 _ _ rw1
  have HRa := hid rw1
  have HSa := hid sw1
  have HZa := hid zw1
  have HBa := hid (HB.out.trans (hb1.mono HB.out.size))
  have HLa := hid hL
  have HBb := hid hb1
  clear rw1 sw1 zw1 hL hb1 c1 hbare
  go_upto_region 2 with fail
  obtain ⟨w2, hw2⟩ : ∃ u, u = w1.setCell ⟨w.heap.size, 1, none⟩ (.slice la1 n lc1) := ⟨_, rfl⟩
  rw [← hw2]
  have rw2 : w2.heap[w.heap.size]? = some (.cells #[.bool mu, .slice la1 n lc1] 45 (0, 0)) := by rw [hw2]; exact heap_setCell_same w1 w.heap.size 1 _ _ _ HRa.out
  have sw2 : w2.heap[w.heap.size + 1]? = some (.cells #[.bool false, .slice none 0 0] 45 (0, 0)) := by rw [hw2]; exact (Below.heap_setCell w1 ⟨w.heap.size, 1, none⟩ _ (w.heap.size + 1) (by simp)).trans HSa.out
  have ew2 : w2.heap.size = w1.heap.size := by rw [hw2]; simp [World.setCell]
  have HZ1 : Hid (w.heap.size + 2 ≤ w2.heap.size) := hid (by rw [ew2]; exact HZa.out)
  have HB1 : Hid (Below w.heap.size w w2) := hid (by rw [hw2]; exact HBa.out.setCell (by simp) _)
  have SM : Same2 (w.heap.size + 2) w1.heap.size w1 w2 := by rw [hw2]; exact Same2.set (.inl (by omega))
  have HO1 : Hid (ListO (w.heap.size + 2) w2.heap.size w2 la1 n u1) := hid (ListO.mono (Nat.le_refl _) (Nat.le_of_eq ew2.symm) (ListO.frame SM (ListO.mono (by have := HZ.out; omega) (Nat.le_refl _) HLa.out)))
  have HR1 := hid rw2
  have HS1 := hid sw2
  have x0 := cs_cell rw2 (i := 0) rfl
  have y0 := cs_cell sw2 (i := 0) rfl
  have v0 := frozen_of_row w2 (w.heap.size + 1) 0 _ _ sw2
  have x1 := cs_cell rw2 (i := 1) rfl
  have y1 := cs_cell sw2 (i := 1) rfl
  have v1 := frozen_of_row w2 (w.heap.size + 1) 1 _ _ sw2
  clear hw2 rw2 sw2 ew2 SM cz fz HRa HSa HZa HBa HLa HBb
  go_wp2
  have E8 : ((w2.setCell ⟨w.heap.size + 1, 0, none⟩ (.bool mu)).setCell ⟨w.heap.size + 1, 1, none⟩ (.slice la1 n lc1)).heap.size = w2.heap.size := by simp [World.setCell]
  have F8 : Same2 (w.heap.size + 2) w2.heap.size w2 ((w2.setCell ⟨w.heap.size + 1, 0, none⟩ (.bool mu)).setCell ⟨w.heap.size + 1, 1, none⟩ (.slice la1 n lc1)) := (Same2.set (b := w.heap.size + 1) (.inl (by omega))).trans (Same2.set (b := w.heap.size + 1) (.inl (by omega)))
  have R8 := (heap_setCell_same _ (w.heap.size + 1) 1 _ _ (.slice la1 n lc1) (heap_setCell_same _ (w.heap.size + 1) 0 _ _ (.bool mu) HS1.out))
  have B8 := ((HB1.out.setCell (p := ⟨w.heap.size + 1, 0, none⟩) (by simp) (.bool mu)).setCell (p := ⟨w.heap.size + 1, 1, none⟩) (by simp) (.slice la1 n lc1))
  obtain ⟨w8, hw8⟩ : ∃ w8, w8 = ((w2.setCell ⟨w.heap.size + 1, 0, none⟩ (.bool mu)).setCell ⟨w.heap.size + 1, 1, none⟩ (.slice la1 n lc1)) := ⟨_, rfl⟩
  rw [← hw8] at E8 F8 R8 B8 ⊢
  have hlu := HU.out u1 HBA.out
  have KHO1 : ListO w.heap.size w8.heap.size w8 la1 n u1 := ListO.mono (by omega) (by omega) (ListO.frame F8 HO1.out)
  refine bodyPost_ret (v := .agg #[.bool mu, .slice la1 n lc1]) (results_cell_row Tryz.results22 _ w8 (w.heap.size + 1) _ _ _ _ rfl R8 Tryz.underlying45 rfl (by kernel_rfl)) rfl ⟨⟨⟨mu, ⟨la1, lc1, u1⟩⟩, by dsimp only; rw [hlu], (by show Gl.own _ _ _ _; unfold Gl.own; dsimp only; rw [hlu]; exact KHO1), congrArg (Gl.mk mu) (lst_bare HBA.out)⟩, B8⟩
/-- What an item that is copied has. -/
def El.inp (w : World) (x : El) : Prop := ListAt w.heap.size w x.l.a x.l.t.len x.l.t ∧ x.l.t.weight ≤ 1000000000 ∧ x.l.t.len ≤ 140737488351232 ∧ TagsAt w.heap.size w x.fa x.fs ∧ x.fs.length ≤ 1000000000
set_option maxRecDepth 100000 in
set_option maxHeartbeats 4000000 in
theorem cpyEl (x : El) (w : World) (hi : x.inp w) :
    Calls Tryz.prog 25 #[.agg #[.slice x.l.a x.l.t.len x.l.c, .slice x.fa x.fs.length x.fc]] w fun e w' => (∃ x' : El, e = .returned (.agg #[.slice x'.l.a x'.l.t.len x'.l.c, .slice x'.fa x'.fs.length x'.fc]) ∧ x'.own w.heap.size w'.heap.size w' ∧ x'.bare = x.bare) ∧ Below w.heap.size w w' := by
  obtain ⟨⟨la, lc, lt⟩, fa, fc, fs⟩ := x
  obtain ⟨hl, hw, hn, h4, h5⟩ := hi
  dsimp only at hl hw hn h4 h5 ⊢
  have HU : Hid (∀ u : Il, u.bare = lt.bare → u.len = lt.len) := hid (fun u h => by have := congrArg Il.len h; rwa [bare_len, bare_len] at this)
  obtain ⟨n, hln⟩ : ∃ n, lt.len = n := ⟨_, rfl⟩
  rw [hln] at hl hn HU ⊢
  obtain ⟨W0, hW0, hb, hr, hs, hz⟩ := two_boxesG w #[.slice la n lc, .slice fa fs.length fc] #[.slice none 0 0, .slice none 0 0] 48
  have CL := hid (fun (W : World) (hb : Below w.heap.size w W) => copyList_any lt la n lc W hw ((hl.below hb).more hb.size) hn)
  have CT := hid (fun (W : World) (hb : Below w.heap.size w W) => clone_u4 W fa fs.length fc (oneU fs) (by unfold oneU; rw [List.length_map]) ((rows_tags (h4.below hb)).more hb.size) (oneU_len fs) (oneU_one fs) (by unfold oneU; rw [List.length_map]; exact h5))
  have HB := hid hb
  have HR := hid hr
  have HS := hid hs
  have HZ := hid hz
  have HW := hid hW0
  have c0 := cs_cell hr (i := 0) rfl
  clear hl hw hn hln hb hr hs hz hW0 h4 h5
  go_enter Tryz.func25, Tryz.ntmps25
  go_upto_region 1 with fail
  rw [← HW.out]
  go_wp2_with fail
  refine (CL.out _ HB.out).mono ?_
  rintro r w1 ⟨⟨la1, lc1, u1, rfl, hL, hbare⟩, hb1⟩
  have HBA := hid hbare
  have rw1 := (hb1.block w.heap.size (by have := HZ.out; omega)).trans HR.out
  have sw1 := (hb1.block (w.heap.size + 1) (by have := HZ.out; omega)).trans HS.out
  have zw1 : w.heap.size + 2 ≤ w1.heap.size := by have := hb1.size; have := HZ.out; omega
  have cz := cs_cell rw1 (i := 0) rfl
  have fz := frozen_of_row w1 w.heap.size 0 _ _ rw1
  have HRa := hid rw1
  have HSa := hid sw1
  have HZa := hid zw1
  have HBa := hid (HB.out.trans (hb1.mono HB.out.size))
  have HLa := hid hL
  have HBb := hid hb1
  clear rw1 sw1 zw1 hL hb1 c0 hbare
  go_upto_region 2 with fail
  obtain ⟨w2, hw2⟩ : ∃ u, u = w1.setCell ⟨w.heap.size, 0, none⟩ (.slice la1 n lc1) := ⟨_, rfl⟩
  rw [← hw2]
  have rw2 : w2.heap[w.heap.size]? = some (.cells #[.slice la1 n lc1, .slice fa fs.length fc] 48 (0, 0)) := by rw [hw2]; exact heap_setCell_same w1 w.heap.size 0 _ _ _ HRa.out
  have sw2 : w2.heap[w.heap.size + 1]? = some (.cells #[.slice none 0 0, .slice none 0 0] 48 (0, 0)) := by rw [hw2]; exact (Below.heap_setCell w1 ⟨w.heap.size, 0, none⟩ _ (w.heap.size + 1) (by simp)).trans HSa.out
  have ew2 : w2.heap.size = w1.heap.size := by rw [hw2]; simp [World.setCell]
  have HZ1 : Hid (w.heap.size + 2 ≤ w2.heap.size) := hid (by rw [ew2]; exact HZa.out)
  have HB1 : Hid (Below w.heap.size w w2) := hid (by rw [hw2]; exact HBa.out.setCell (by simp) _)
  have SM : Same2 (w.heap.size + 2) w1.heap.size w1 w2 := by rw [hw2]; exact Same2.set (.inl (by omega))
  have HO1 : Hid (ListO (w.heap.size + 2) w2.heap.size w2 la1 n u1) := hid (ListO.mono (Nat.le_refl _) (Nat.le_of_eq ew2.symm) (ListO.frame SM (ListO.mono (by have := HZ.out; omega) (Nat.le_refl _) HLa.out)))
  have HR1 := hid rw2
  have HS1 := hid sw2
  have c1 := cs_cell rw2 (i := 1) rfl
  clear hw2 rw2 sw2 ew2 SM cz fz HRa HSa HZa HBa HLa HBb
  go_wp2_with fail
  refine (CT.out _ HB1.out).mono ?_
  rintro r w3 ⟨v, rfl, ho, hb2⟩
  obtain ⟨fa1, fc1, rfl, hL⟩ := own_tags ho
  have rw3 := (hb2.block w.heap.size (by have := HZ1.out; omega)).trans HR1.out
  have sw3 := (hb2.block (w.heap.size + 1) (by have := HZ1.out; omega)).trans HS1.out
  have zw3 : w.heap.size + 2 ≤ w3.heap.size := by have := hb2.size; have := HZ1.out; omega
  have cz := cs_cell rw3 (i := 1) rfl
  have fz := frozen_of_row w3 w.heap.size 1 _ _ rw3
  have HRa := hid rw3
  have HSa := hid sw3
  have HZa := hid zw3
  have HBa := hid (HB1.out.trans (hb2.mono HB1.out.size))
  have HLa := hid hL
  have HBb := hid hb2
  clear rw3 sw3 zw3 hL hb2 c1 ho
  go_upto_region 3 with fail
  obtain ⟨w4, hw4⟩ : ∃ u, u = w3.setCell ⟨w.heap.size, 1, none⟩ (.slice fa1 fs.length fc1) := ⟨_, rfl⟩
  rw [← hw4]
  have rw4 : w4.heap[w.heap.size]? = some (.cells #[.slice la1 n lc1, .slice fa1 fs.length fc1] 48 (0, 0)) := by rw [hw4]; exact heap_setCell_same w3 w.heap.size 1 _ _ _ HRa.out
  have sw4 : w4.heap[w.heap.size + 1]? = some (.cells #[.slice none 0 0, .slice none 0 0] 48 (0, 0)) := by rw [hw4]; exact (Below.heap_setCell w3 ⟨w.heap.size, 1, none⟩ _ (w.heap.size + 1) (by simp)).trans HSa.out
  have ew4 : w4.heap.size = w3.heap.size := by rw [hw4]; simp [World.setCell]
  have HZ2 : Hid (w.heap.size + 2 ≤ w4.heap.size) := hid (by rw [ew4]; exact HZa.out)
  have HB2 : Hid (Below w.heap.size w w4) := hid (by rw [hw4]; exact HBa.out.setCell (by simp) _)
  have SM : Same2 (w.heap.size + 2) w3.heap.size w3 w4 := by rw [hw4]; exact Same2.set (.inl (by omega))
  have HO1 : Hid (ListO (w.heap.size + 2) w4.heap.size w4 la1 n u1) := hid (ListO.mono (Nat.le_refl _) (by rw [ew4]; exact HBb.out.size) (HO1.out.frame ((Same2.of_below HBb.out (Nat.le_refl _)).trans (fun q q1 q2 => SM q q1 (Nat.lt_of_lt_of_le q2 HBb.out.size)))))
  have HO2 : Hid (TagsO (w.heap.size + 2) w4.heap.size w4 fa1 fs) := hid (TagsO.mono (Nat.le_refl _) (Nat.le_of_eq ew4.symm) (TagsO.frame SM (TagsO.mono (by have := HZ1.out; omega) (Nat.le_refl _) HLa.out)))
  have HR2 := hid rw4
  have HS2 := hid sw4
  have x0 := cs_cell rw4 (i := 0) rfl
  have y0 := cs_cell sw4 (i := 0) rfl
  have v0 := frozen_of_row w4 (w.heap.size + 1) 0 _ _ sw4
  have x1 := cs_cell rw4 (i := 1) rfl
  have y1 := cs_cell sw4 (i := 1) rfl
  have v1 := frozen_of_row w4 (w.heap.size + 1) 1 _ _ sw4
  clear hw4 rw4 sw4 ew4 SM cz fz HRa HSa HZa HBa HLa HBb
  go_wp2
  have E8 : ((w4.setCell ⟨w.heap.size + 1, 0, none⟩ (.slice la1 n lc1)).setCell ⟨w.heap.size + 1, 1, none⟩ (.slice fa1 fs.length fc1)).heap.size = w4.heap.size := by simp [World.setCell]
  have F8 : Same2 (w.heap.size + 2) w4.heap.size w4 ((w4.setCell ⟨w.heap.size + 1, 0, none⟩ (.slice la1 n lc1)).setCell ⟨w.heap.size + 1, 1, none⟩ (.slice fa1 fs.length fc1)) := (Same2.set (b := w.heap.size + 1) (.inl (by omega))).trans (Same2.set (b := w.heap.size + 1) (.inl (by omega)))
  have R8 := (heap_setCell_same _ (w.heap.size + 1) 1 _ _ (.slice fa1 fs.length fc1) (heap_setCell_same _ (w.heap.size + 1) 0 _ _ (.slice la1 n lc1) HS2.out))
  have B8 := ((HB2.out.setCell (p := ⟨w.heap.size + 1, 0, none⟩) (by simp) (.slice la1 n lc1)).setCell (p := ⟨w.heap.size + 1, 1, none⟩) (by simp) (.slice fa1 fs.length fc1))
  obtain ⟨w8, hw8⟩ : ∃ w8, w8 = ((w4.setCell ⟨w.heap.size + 1, 0, none⟩ (.slice la1 n lc1)).setCell ⟨w.heap.size + 1, 1, none⟩ (.slice fa1 fs.length fc1)) := ⟨_, rfl⟩
  rw [← hw8] at E8 F8 R8 B8 ⊢
  have hlu := HU.out u1 HBA.out
  have KHO1 : ListO w.heap.size w8.heap.size w8 la1 n u1 := ListO.mono (by omega) (by omega) (ListO.frame F8 HO1.out)
  have KHO2 : TagsO w.heap.size w8.heap.size w8 fa1 fs := TagsO.mono (by omega) (by omega) (TagsO.frame F8 HO2.out)
  refine bodyPost_ret (v := .agg #[.slice la1 n lc1, .slice fa1 fs.length fc1]) (results_cell_row Tryz.results25 _ w8 (w.heap.size + 1) _ _ _ _ rfl R8 Tryz.underlying48 rfl (by kernel_rfl)) rfl ⟨⟨⟨⟨la1, lc1, u1⟩, fa1, fc1, fs⟩, by dsimp only; rw [hlu], (by show El.own _ _ _ _; unfold El.own; dsimp only; rw [hlu]; exact ⟨KHO1, KHO2⟩), (by unfold El.bare; rw [lst_bare (a := la) (c := lc) HBA.out])⟩, B8⟩
/-- What an item that is copied has. -/
def Da.inp (w : World) (x : Da) : Prop := ListAt w.heap.size w x.l.a x.l.t.len x.l.t ∧ x.l.t.weight ≤ 1000000000 ∧ x.l.t.len ≤ 140737488351232 ∧ BytesAt w.heap.size w x.ba x.bs ∧ x.bs.length ≤ 1000000000
set_option maxRecDepth 100000 in
set_option maxHeartbeats 4000000 in
theorem cpyDa (x : Da) (w : World) (hi : x.inp w) :
    Calls Tryz.prog 27 #[.agg #[.slice x.l.a x.l.t.len x.l.c, .slice x.ba x.bs.length x.bc]] w fun e w' => (∃ x' : Da, e = .returned (.agg #[.slice x'.l.a x'.l.t.len x'.l.c, .slice x'.ba x'.bs.length x'.bc]) ∧ x'.own w.heap.size w'.heap.size w' ∧ x'.bare = x.bare) ∧ Below w.heap.size w w' := by
  obtain ⟨⟨la, lc, lt⟩, ba, bc, bs⟩ := x
  obtain ⟨hl, hw, hn, h4, h5⟩ := hi
  dsimp only at hl hw hn h4 h5 ⊢
  have HU : Hid (∀ u : Il, u.bare = lt.bare → u.len = lt.len) := hid (fun u h => by have := congrArg Il.len h; rwa [bare_len, bare_len] at this)
  obtain ⟨n, hln⟩ : ∃ n, lt.len = n := ⟨_, rfl⟩
  rw [hln] at hl hn HU ⊢
  obtain ⟨W0, hW0, hb, hr, hs, hz⟩ := two_boxesG w #[.slice la n lc, .slice ba bs.length bc] #[.slice none 0 0, .slice none 0 0] 51
  have CL := hid (fun (W : World) (hb : Below w.heap.size w W) => copyList_any lt la n lc W hw ((hl.below hb).more hb.size) hn)
  have CT := hid (fun (W : World) (hb : Below w.heap.size w W) => clone_bytes W ba bs.length bc bs rfl ((h4.below hb).more hb.size) h5)
  have HB := hid hb
  have HR := hid hr
  have HS := hid hs
  have HZ := hid hz
  have HW := hid hW0
  have c0 := cs_cell hr (i := 0) rfl
  clear hl hw hn hln hb hr hs hz hW0 h4 h5
  go_enter Tryz.func27, Tryz.ntmps27
  go_upto_region 1 with fail
  rw [← HW.out]
  go_wp2_with fail
  refine (CL.out _ HB.out).mono ?_
  rintro r w1 ⟨⟨la1, lc1, u1, rfl, hL, hbare⟩, hb1⟩
  have HBA := hid hbare
  have rw1 := (hb1.block w.heap.size (by have := HZ.out; omega)).trans HR.out
  have sw1 := (hb1.block (w.heap.size + 1) (by have := HZ.out; omega)).trans HS.out
  have zw1 : w.heap.size + 2 ≤ w1.heap.size := by have := hb1.size; have := HZ.out; omega
  have cz := cs_cell rw1 (i := 0) rfl
  have fz := frozen_of_row w1 w.heap.size 0 _ _ rw1
  have HRa := hid rw1
  have HSa := hid sw1
  have HZa := hid zw1
  have HBa := hid (HB.out.trans (hb1.mono HB.out.size))
  have HLa := hid hL
  have HBb := hid hb1
  clear rw1 sw1 zw1 hL hb1 c0 hbare
  go_upto_region 2 with fail
  obtain ⟨w2, hw2⟩ : ∃ u, u = w1.setCell ⟨w.heap.size, 0, none⟩ (.slice la1 n lc1) := ⟨_, rfl⟩
  rw [← hw2]
  have rw2 : w2.heap[w.heap.size]? = some (.cells #[.slice la1 n lc1, .slice ba bs.length bc] 51 (0, 0)) := by rw [hw2]; exact heap_setCell_same w1 w.heap.size 0 _ _ _ HRa.out
  have sw2 : w2.heap[w.heap.size + 1]? = some (.cells #[.slice none 0 0, .slice none 0 0] 51 (0, 0)) := by rw [hw2]; exact (Below.heap_setCell w1 ⟨w.heap.size, 0, none⟩ _ (w.heap.size + 1) (by simp)).trans HSa.out
  have ew2 : w2.heap.size = w1.heap.size := by rw [hw2]; simp [World.setCell]
  have HZ1 : Hid (w.heap.size + 2 ≤ w2.heap.size) := hid (by rw [ew2]; exact HZa.out)
  have HB1 : Hid (Below w.heap.size w w2) := hid (by rw [hw2]; exact HBa.out.setCell (by simp) _)
  have SM : Same2 (w.heap.size + 2) w1.heap.size w1 w2 := by rw [hw2]; exact Same2.set (.inl (by omega))
  have HO1 : Hid (ListO (w.heap.size + 2) w2.heap.size w2 la1 n u1) := hid (ListO.mono (Nat.le_refl _) (Nat.le_of_eq ew2.symm) (ListO.frame SM (ListO.mono (by have := HZ.out; omega) (Nat.le_refl _) HLa.out)))
  have HR1 := hid rw2
  have HS1 := hid sw2
  have c1 := cs_cell rw2 (i := 1) rfl
  clear hw2 rw2 sw2 ew2 SM cz fz HRa HSa HZa HBa HLa HBb
  go_wp2_with fail
  refine (CT.out _ HB1.out).mono ?_
  rintro r w3 ⟨ba1, bc1, rfl, hL, hb2⟩
  have rw3 := (hb2.block w.heap.size (by have := HZ1.out; omega)).trans HR1.out
  have sw3 := (hb2.block (w.heap.size + 1) (by have := HZ1.out; omega)).trans HS1.out
  have zw3 : w.heap.size + 2 ≤ w3.heap.size := by have := hb2.size; have := HZ1.out; omega
  have cz := cs_cell rw3 (i := 1) rfl
  have fz := frozen_of_row w3 w.heap.size 1 _ _ rw3
  have HRa := hid rw3
  have HSa := hid sw3
  have HZa := hid zw3
  have HBa := hid (HB1.out.trans (hb2.mono HB1.out.size))
  have HLa := hid hL
  have HBb := hid hb2
  clear rw3 sw3 zw3 hL hb2 c1
  go_upto_region 3 with fail
  obtain ⟨w4, hw4⟩ : ∃ u, u = w3.setCell ⟨w.heap.size, 1, none⟩ (.slice ba1 bs.length bc1) := ⟨_, rfl⟩
  rw [← hw4]
  have rw4 : w4.heap[w.heap.size]? = some (.cells #[.slice la1 n lc1, .slice ba1 bs.length bc1] 51 (0, 0)) := by rw [hw4]; exact heap_setCell_same w3 w.heap.size 1 _ _ _ HRa.out
  have sw4 : w4.heap[w.heap.size + 1]? = some (.cells #[.slice none 0 0, .slice none 0 0] 51 (0, 0)) := by rw [hw4]; exact (Below.heap_setCell w3 ⟨w.heap.size, 1, none⟩ _ (w.heap.size + 1) (by simp)).trans HSa.out
  have ew4 : w4.heap.size = w3.heap.size := by rw [hw4]; simp [World.setCell]
  have HZ2 : Hid (w.heap.size + 2 ≤ w4.heap.size) := hid (by rw [ew4]; exact HZa.out)
  have HB2 : Hid (Below w.heap.size w w4) := hid (by rw [hw4]; exact HBa.out.setCell (by simp) _)
  have SM : Same2 (w.heap.size + 2) w3.heap.size w3 w4 := by rw [hw4]; exact Same2.set (.inl (by omega))
  have HO1 : Hid (ListO (w.heap.size + 2) w4.heap.size w4 la1 n u1) := hid (ListO.mono (Nat.le_refl _) (by rw [ew4]; exact HBb.out.size) (HO1.out.frame ((Same2.of_below HBb.out (Nat.le_refl _)).trans (fun q q1 q2 => SM q q1 (Nat.lt_of_lt_of_le q2 HBb.out.size)))))
  have HO2 : Hid (BytesO (w.heap.size + 2) w4.heap.size w4 ba1 bs bc1) := hid (BytesO.mono (Nat.le_refl _) (Nat.le_of_eq ew4.symm) (BytesO.frame SM (BytesO.mono (by have := HZ1.out; omega) (Nat.le_refl _) HLa.out)))
  have HR2 := hid rw4
  have HS2 := hid sw4
  have x0 := cs_cell rw4 (i := 0) rfl
  have y0 := cs_cell sw4 (i := 0) rfl
  have v0 := frozen_of_row w4 (w.heap.size + 1) 0 _ _ sw4
  have x1 := cs_cell rw4 (i := 1) rfl
  have y1 := cs_cell sw4 (i := 1) rfl
  have v1 := frozen_of_row w4 (w.heap.size + 1) 1 _ _ sw4
  clear hw4 rw4 sw4 ew4 SM cz fz HRa HSa HZa HBa HLa HBb
  go_wp2
  have E8 : ((w4.setCell ⟨w.heap.size + 1, 0, none⟩ (.slice la1 n lc1)).setCell ⟨w.heap.size + 1, 1, none⟩ (.slice ba1 bs.length bc1)).heap.size = w4.heap.size := by simp [World.setCell]
  have F8 : Same2 (w.heap.size + 2) w4.heap.size w4 ((w4.setCell ⟨w.heap.size + 1, 0, none⟩ (.slice la1 n lc1)).setCell ⟨w.heap.size + 1, 1, none⟩ (.slice ba1 bs.length bc1)) := (Same2.set (b := w.heap.size + 1) (.inl (by omega))).trans (Same2.set (b := w.heap.size + 1) (.inl (by omega)))
  have R8 := (heap_setCell_same _ (w.heap.size + 1) 1 _ _ (.slice ba1 bs.length bc1) (heap_setCell_same _ (w.heap.size + 1) 0 _ _ (.slice la1 n lc1) HS2.out))
  have B8 := ((HB2.out.setCell (p := ⟨w.heap.size + 1, 0, none⟩) (by simp) (.slice la1 n lc1)).setCell (p := ⟨w.heap.size + 1, 1, none⟩) (by simp) (.slice ba1 bs.length bc1))
  obtain ⟨w8, hw8⟩ : ∃ w8, w8 = ((w4.setCell ⟨w.heap.size + 1, 0, none⟩ (.slice la1 n lc1)).setCell ⟨w.heap.size + 1, 1, none⟩ (.slice ba1 bs.length bc1)) := ⟨_, rfl⟩
  rw [← hw8] at E8 F8 R8 B8 ⊢
  have hlu := HU.out u1 HBA.out
  have KHO1 : ListO w.heap.size w8.heap.size w8 la1 n u1 := ListO.mono (by omega) (by omega) (ListO.frame F8 HO1.out)
  have KHO2 : BytesO w.heap.size w8.heap.size w8 ba1 bs bc1 := BytesO.mono (by omega) (by omega) (BytesO.frame F8 HO2.out)
  refine bodyPost_ret (v := .agg #[.slice la1 n lc1, .slice ba1 bs.length bc1]) (results_cell_row Tryz.results27 _ w8 (w.heap.size + 1) _ _ _ _ rfl R8 Tryz.underlying51 rfl (by kernel_rfl)) rfl ⟨⟨⟨⟨la1, lc1, u1⟩, ba1, bc1, bs⟩, by dsimp only; rw [hlu], (by show Da.own _ _ _ _; unfold Da.own; dsimp only; rw [hlu]; exact ⟨KHO1, KHO2⟩), (by unfold Da.bare; rw [lst_bare (a := la) (c := lc) HBA.out])⟩, B8⟩
end Go.Proofs.YtaibfefmehhldaaGreatDoor.Mod

namespace Go.Proofs.YtaibfefmehhldaaGreatDoor.Mod
open Go.RowKit Go.Proofs.YtaibfefmehhldaaGreatDoor.Instr
set_option linter.unusedVariables false

theorem Fn.inp.on {w W : World} {x : Fn} (h : x.inp w) (hb : Below w.heap.size w W) : x.inp W := ⟨(h.1.below hb).more hb.size, h.2.1, h.2.2⟩
theorem Fn.ones (l : List Fn) : ∀ r ∈ l.map Fn.v, ∀ u ∈ r, u.oneCell' = true := by
  intro r hr u hu
  obtain ⟨f, _, rfl⟩ := List.mem_map.1 hr
  simp only [Fn.v, Lst.val, List.mem_cons, List.not_mem_nil, or_false] at hu
  rcases hu with rfl | rfl | rfl <;> rfl
theorem Fn.lens (l : List Fn) : ∀ r ∈ l.map Fn.v, r.length = 3 := by
  intro r hr
  obtain ⟨f, _, rfl⟩ := List.mem_map.1 hr
  rfl
set_option maxRecDepth 100000 in
set_option maxHeartbeats 4000000 in
theorem mapFn (l : List Fn) (a : Option Addr) (n c : Nat) (w : World) (hn : l.length = n) (hr : Rows w.heap.size w a 3 (l.map Fn.v)) (hi : ∀ x ∈ l, x.inp w) (hl : n ≤ 1000000) :
    Calls Tryz.prog 18 #[.slice a n c, .func (.func 19) #[] #[]] w fun e w' => ∃ v, e = .returned v ∧ MapP kFn l w.heap.size w' v ∧ Below w.heap.size w w' := by
  have CC := hid (clone_fu w a n c (l.map Fn.v) (by simpa using hn) hr (Fn.lens l) (Fn.ones l) (by rw [List.length_map, hn]; omega))
  have HLN := hid hn
  have HI := hid hi
  clear hn hi hr
  go_enter Tryz.func18, Tryz.ntmps18
  go_wp2_with fail
  refine CC.out.mono ?_
  rintro r w1 ⟨v, rfl, ho, hb1⟩
  have HB1 := hid hb1
  rcases ho.row.2 with ⟨rfl, h0⟩ | ⟨g, cap, cur, rfl, hbg, hg, -⟩
  · have h00 : l = [] := by rw [List.length_map] at h0; exact List.eq_nil_of_length_eq_zero h0
    subst h00
    obtain rfl : n = 0 := by rw [← HLN.out]; rfl
    clear ho hb1 h0 CC
    go_wp2
    go_loopw [6, 12] (fun _ vi wr => vi = .int .i64 0 ∧ wr = w1) (fun _ _ _ => 0)
    case atStart => exact ⟨rfl, rfl⟩
    case round =>
      obtain ⟨rfl, rfl⟩ := hrel
      go_wp2
      go_ret
      exact ⟨_, rfl, ⟨none, 0, [], rfl, rfl, rfl, .inl rfl, .inl rfl, by simp⟩, HB1.out⟩
  · have hll : (l.map Fn.v).length = n := by rw [List.length_map]; exact HLN.out
    rw [hll] at ho ⊢
    have HV := hid (InvG.start (K := kFn) ho HLN.out w1.heap.size)
    have HG := hid (show g < w1.heap.size from (Array.getElem?_eq_some_iff.1 hg).1)
    have HBG := hid hbg
    clear ho hb1 CC hg hbg hll cur
    go_wp2
    go_loopw [6, 12] (fun _ vi wr => ∃ k : Nat, vi = .int .i64 k ∧ k ≤ n ∧ Hid (Below w.heap.size w wr) ∧ Hid (w1.heap.size ≤ wr.heap.size) ∧ Hid (InvG kFn l w1.heap.size g k wr)) (fun _ vi _ => n - (intOf vi).toNat)
    case atStart => exact ⟨0, rfl, Nat.zero_le _, HB1, Nat.le_refl _, HV⟩
    case round =>
      obtain ⟨k, rfl, hk, HB, HZ, HV⟩ := hrel
      by_cases hlt : k < n
      · have hkl : k < l.length := by rw [HLN.out]; exact hlt
        have hy := HI.out _ (List.getElem_mem hkl)
        have hleft := HV.out.left k hkl (Nat.le_refl _)
        have HST := hid (fun (W w2 : World) (x' : Fn) (h1 : Below wr.heap.size wr W) (h2 : Below W.heap.size W w2) (hc : x'.own W.heap.size w2.heap.size w2) (hbr : x'.bare = l[k].bare) => HV.out.step (K := kFn) HG.out HZ.out h1 h1.size h2 hkl hc hbr)
        have HCI := hid (fun (W : World) (h1 : Below w.heap.size w W) => cpyFn l[k] W (hy.on h1))
        obtain ⟨y, hye⟩ : ∃ y, l[k] = y := ⟨_, rfl⟩
        rw [hye] at hleft HST HCI
        obtain ⟨ty, lo, ⟨la, lc, lt⟩⟩ := y
        dsimp only at hleft HST HCI
        obtain ⟨ln, hln⟩ : ∃ ln, lt.len = ln := ⟨_, rfl⟩
        rw [hln] at HCI
        have c0 : wr.cell? ⟨g, k * 3, none⟩ = some (.int .i64 ty) := by have h := hleft 0 _ rfl; exact h
        have c1 : wr.cell? ⟨g, k * 3 + 1, none⟩ = some (.int .i64 lo) := by have h := hleft 1 _ rfl; exact h
        have c2 : wr.cell? ⟨g, k * 3 + 2, none⟩ = some (.slice la ln lc) := by have h := hleft 2 _ rfl; dsimp only [Lst.val] at h; rw [hln] at h; exact h
        have hki : (k : Int) < (n : Int) := by omega
        have HSO := hid HV.out.soft
        clear hye hleft hy HV hln
        go_wp2_with fail
        refine (HCI.out _ (HB.out.alloc (HB.out.size) _)).mono ?_
        rintro r w2 ⟨⟨x', rfl, hc, hbr⟩, hb2⟩
        have hA := (Below.refl wr.heap.size wr).alloc (Nat.le_refl _) (.cells #[.int .i64 ty, .int .i64 lo, .slice la ln lc] 43)
        have HN := hid (HST.out _ w2 x' hA hb2 hc hbr)
        have hA2 : Below wr.heap.size wr w2 := hA.trans (hb2.mono hA.size)
        have hgr : g < wr.heap.size := Nat.lt_of_lt_of_le HG.out HZ.out
        have HBF := hid (below_sets (g := g) (x'.v) (k * 3) (HB.out.trans (hA2.mono HB.out.size)) HBG.out)
        have HZF := hid (show w1.heap.size ≤ (w2.setCells g (k * 3) x'.v).heap.size by rw [sets_size]; exact Nat.le_trans HZ.out hA2.size)
        have hso2 : ∃ cs e, w2.heap[g]? = some (.cells cs e (0, 0)) := by
          obtain ⟨cs, e, h⟩ := HSO.out
          exact ⟨cs, e, (hA2.block g hgr).trans h⟩
        obtain ⟨cs, te, hcs⟩ := hso2
        have z := fun j => frozen_of_row w2 g j cs te hcs
        have z0 := z (k * 3)
        have c0 := Go.Proofs.YtaibfefmehhldaaGreatDoor.keep hA2 c0
        have z1 := z (k * 3 + 1)
        have c1 := Go.Proofs.YtaibfefmehhldaaGreatDoor.keep hA2 c1
        have z2 := z (k * 3 + 2)
        have c2 := Go.Proofs.YtaibfefmehhldaaGreatDoor.keep hA2 c2
        clear hc hb2 hA hA2 HST HCI HSO z hcs HB HZ hbr
        obtain ⟨ty1, lo1, ⟨la1, lc1, lt1⟩⟩ := x'
        dsimp only [Fn.v, Lst.val, kFn, World.setCells] at HN HBF HZF ⊢
        go_wp2
        go_roundw
        case rel => exact ⟨k + 1, by go_num, by omega, HBF, HZF, HN⟩
        case measure => simp [intOf]; omega
      · obtain rfl : k = n := by omega
        have HE := hid (InvG.end (K := kFn) (c := cap) (by rw [HLN.out]; exact HV.out) HB1.out.size HBG.out (by have := HG.out; have := HZ.out; omega))
        have HX : Hid (MapP kFn l w.heap.size wr (.slice (some ⟨g, 0, none⟩) k cap)) := hid (by have h := HE.out; rw [HLN.out] at h; exact h)
        clear HV hlt hk HE
        go_wp2
        go_ret
        exact ⟨_, rfl, HX.out, HB.out⟩
theorem Gl.inp.on {w W : World} {x : Gl} (h : x.inp w) (hb : Below w.heap.size w W) : x.inp W := ⟨(h.1.below hb).more hb.size, h.2.1, h.2.2⟩
theorem Gl.ones (l : List Gl) : ∀ r ∈ l.map Gl.v, ∀ u ∈ r, u.oneCell' = true := by
  intro r hr u hu
  obtain ⟨f, _, rfl⟩ := List.mem_map.1 hr
  simp only [Gl.v, Lst.val, List.mem_cons, List.not_mem_nil, or_false] at hu
  rcases hu with rfl | rfl <;> rfl
theorem Gl.lens (l : List Gl) : ∀ r ∈ l.map Gl.v, r.length = 2 := by
  intro r hr
  obtain ⟨f, _, rfl⟩ := List.mem_map.1 hr
  rfl
set_option maxRecDepth 100000 in
set_option maxHeartbeats 4000000 in
theorem mapGl (l : List Gl) (a : Option Addr) (n c : Nat) (w : World) (hn : l.length = n) (hr : Rows w.heap.size w a 2 (l.map Gl.v)) (hi : ∀ x ∈ l, x.inp w) (hl : n ≤ 1000000) :
    Calls Tryz.prog 21 #[.slice a n c, .func (.func 22) #[] #[]] w fun e w' => ∃ v, e = .returned v ∧ MapP kGl l w.heap.size w' v ∧ Below w.heap.size w w' := by
  have CC := hid (clone_gl w a n c (l.map Gl.v) (by simpa using hn) hr (Gl.lens l) (Gl.ones l) (by rw [List.length_map, hn]; omega))
  have HLN := hid hn
  have HI := hid hi
  clear hn hi hr
  go_enter Tryz.func21, Tryz.ntmps21
  go_wp2_with fail
  refine CC.out.mono ?_
  rintro r w1 ⟨v, rfl, ho, hb1⟩
  have HB1 := hid hb1
  rcases ho.row.2 with ⟨rfl, h0⟩ | ⟨g, cap, cur, rfl, hbg, hg, -⟩
  · have h00 : l = [] := by rw [List.length_map] at h0; exact List.eq_nil_of_length_eq_zero h0
    subst h00
    obtain rfl : n = 0 := by rw [← HLN.out]; rfl
    clear ho hb1 h0 CC
    go_wp2
    go_loopw [6, 12] (fun _ vi wr => vi = .int .i64 0 ∧ wr = w1) (fun _ _ _ => 0)
    case atStart => exact ⟨rfl, rfl⟩
    case round =>
      obtain ⟨rfl, rfl⟩ := hrel
      go_wp2
      go_ret
      exact ⟨_, rfl, ⟨none, 0, [], rfl, rfl, rfl, .inl rfl, .inl rfl, by simp⟩, HB1.out⟩
  · have hll : (l.map Gl.v).length = n := by rw [List.length_map]; exact HLN.out
    rw [hll] at ho ⊢
    have HV := hid (InvG.start (K := kGl) ho HLN.out w1.heap.size)
    have HG := hid (show g < w1.heap.size from (Array.getElem?_eq_some_iff.1 hg).1)
    have HBG := hid hbg
    clear ho hb1 CC hg hbg hll cur
    go_wp2
    go_loopw [6, 12] (fun _ vi wr => ∃ k : Nat, vi = .int .i64 k ∧ k ≤ n ∧ Hid (Below w.heap.size w wr) ∧ Hid (w1.heap.size ≤ wr.heap.size) ∧ Hid (InvG kGl l w1.heap.size g k wr)) (fun _ vi _ => n - (intOf vi).toNat)
    case atStart => exact ⟨0, rfl, Nat.zero_le _, HB1, Nat.le_refl _, HV⟩
    case round =>
      obtain ⟨k, rfl, hk, HB, HZ, HV⟩ := hrel
      by_cases hlt : k < n
      · have hkl : k < l.length := by rw [HLN.out]; exact hlt
        have hy := HI.out _ (List.getElem_mem hkl)
        have hleft := HV.out.left k hkl (Nat.le_refl _)
        have HST := hid (fun (W w2 : World) (x' : Gl) (h1 : Below wr.heap.size wr W) (h2 : Below W.heap.size W w2) (hc : x'.own W.heap.size w2.heap.size w2) (hbr : x'.bare = l[k].bare) => HV.out.step (K := kGl) HG.out HZ.out h1 h1.size h2 hkl hc hbr)
        have HCI := hid (fun (W : World) (h1 : Below w.heap.size w W) => cpyGl l[k] W (hy.on h1))
        obtain ⟨y, hye⟩ : ∃ y, l[k] = y := ⟨_, rfl⟩
        rw [hye] at hleft HST HCI
        obtain ⟨mu, ⟨la, lc, lt⟩⟩ := y
        dsimp only at hleft HST HCI
        obtain ⟨ln, hln⟩ : ∃ ln, lt.len = ln := ⟨_, rfl⟩
        rw [hln] at HCI
        have c0 : wr.cell? ⟨g, k * 2, none⟩ = some (.bool mu) := by have h := hleft 0 _ rfl; exact h
        have c1 : wr.cell? ⟨g, k * 2 + 1, none⟩ = some (.slice la ln lc) := by have h := hleft 1 _ rfl; dsimp only [Lst.val] at h; rw [hln] at h; exact h
        have hki : (k : Int) < (n : Int) := by omega
        have HSO := hid HV.out.soft
        clear hye hleft hy HV hln
        go_wp2_with fail
        refine (HCI.out _ (HB.out.alloc (HB.out.size) _)).mono ?_
        rintro r w2 ⟨⟨x', rfl, hc, hbr⟩, hb2⟩
        have hA := (Below.refl wr.heap.size wr).alloc (Nat.le_refl _) (.cells #[.bool mu, .slice la ln lc] 45)
        have HN := hid (HST.out _ w2 x' hA hb2 hc hbr)
        have hA2 : Below wr.heap.size wr w2 := hA.trans (hb2.mono hA.size)
        have hgr : g < wr.heap.size := Nat.lt_of_lt_of_le HG.out HZ.out
        have HBF := hid (below_sets (g := g) (x'.v) (k * 2) (HB.out.trans (hA2.mono HB.out.size)) HBG.out)
        have HZF := hid (show w1.heap.size ≤ (w2.setCells g (k * 2) x'.v).heap.size by rw [sets_size]; exact Nat.le_trans HZ.out hA2.size)
        have hso2 : ∃ cs e, w2.heap[g]? = some (.cells cs e (0, 0)) := by
          obtain ⟨cs, e, h⟩ := HSO.out
          exact ⟨cs, e, (hA2.block g hgr).trans h⟩
        obtain ⟨cs, te, hcs⟩ := hso2
        have z := fun j => frozen_of_row w2 g j cs te hcs
        have z0 := z (k * 2)
        have c0 := Go.Proofs.YtaibfefmehhldaaGreatDoor.keep hA2 c0
        have z1 := z (k * 2 + 1)
        have c1 := Go.Proofs.YtaibfefmehhldaaGreatDoor.keep hA2 c1
        clear hc hb2 hA hA2 HST HCI HSO z hcs HB HZ hbr
        obtain ⟨mu1, ⟨la1, lc1, lt1⟩⟩ := x'
        dsimp only [Gl.v, Lst.val, kGl, World.setCells] at HN HBF HZF ⊢
        go_wp2
        go_roundw
        case rel => exact ⟨k + 1, by go_num, by omega, HBF, HZF, HN⟩
        case measure => simp [intOf]; omega
      · obtain rfl : k = n := by omega
        have HE := hid (InvG.end (K := kGl) (c := cap) (by rw [HLN.out]; exact HV.out) HB1.out.size HBG.out (by have := HG.out; have := HZ.out; omega))
        have HX : Hid (MapP kGl l w.heap.size wr (.slice (some ⟨g, 0, none⟩) k cap)) := hid (by have h := HE.out; rw [HLN.out] at h; exact h)
        clear HV hlt hk HE
        go_wp2
        go_ret
        exact ⟨_, rfl, HX.out, HB.out⟩
theorem El.inp.on {w W : World} {x : El} (h : x.inp w) (hb : Below w.heap.size w W) : x.inp W := ⟨(h.1.below hb).more hb.size, h.2.1, h.2.2.1, (h.2.2.2.1.below hb).more hb.size, h.2.2.2.2⟩
theorem El.ones (l : List El) : ∀ r ∈ l.map El.v, ∀ u ∈ r, u.oneCell' = true := by
  intro r hr u hu
  obtain ⟨f, _, rfl⟩ := List.mem_map.1 hr
  simp only [El.v, Lst.val, List.mem_cons, List.not_mem_nil, or_false] at hu
  rcases hu with rfl | rfl <;> rfl
theorem El.lens (l : List El) : ∀ r ∈ l.map El.v, r.length = 2 := by
  intro r hr
  obtain ⟨f, _, rfl⟩ := List.mem_map.1 hr
  rfl
set_option maxRecDepth 100000 in
set_option maxHeartbeats 4000000 in
theorem mapEl (l : List El) (a : Option Addr) (n c : Nat) (w : World) (hn : l.length = n) (hr : Rows w.heap.size w a 2 (l.map El.v)) (hi : ∀ x ∈ l, x.inp w) (hl : n ≤ 1000000) :
    Calls Tryz.prog 24 #[.slice a n c, .func (.func 25) #[] #[]] w fun e w' => ∃ v, e = .returned v ∧ MapP kEl l w.heap.size w' v ∧ Below w.heap.size w w' := by
  have CC := hid (clone_el w a n c (l.map El.v) (by simpa using hn) hr (El.lens l) (El.ones l) (by rw [List.length_map, hn]; omega))
  have HLN := hid hn
  have HI := hid hi
  clear hn hi hr
  go_enter Tryz.func24, Tryz.ntmps24
  go_wp2_with fail
  refine CC.out.mono ?_
  rintro r w1 ⟨v, rfl, ho, hb1⟩
  have HB1 := hid hb1
  rcases ho.row.2 with ⟨rfl, h0⟩ | ⟨g, cap, cur, rfl, hbg, hg, -⟩
  · have h00 : l = [] := by rw [List.length_map] at h0; exact List.eq_nil_of_length_eq_zero h0
    subst h00
    obtain rfl : n = 0 := by rw [← HLN.out]; rfl
    clear ho hb1 h0 CC
    go_wp2
    go_loopw [6, 12] (fun _ vi wr => vi = .int .i64 0 ∧ wr = w1) (fun _ _ _ => 0)
    case atStart => exact ⟨rfl, rfl⟩
    case round =>
      obtain ⟨rfl, rfl⟩ := hrel
      go_wp2
      go_ret
      exact ⟨_, rfl, ⟨none, 0, [], rfl, rfl, rfl, .inl rfl, .inl rfl, by simp⟩, HB1.out⟩
  · have hll : (l.map El.v).length = n := by rw [List.length_map]; exact HLN.out
    rw [hll] at ho ⊢
    have HV := hid (InvG.start (K := kEl) ho HLN.out w1.heap.size)
    have HG := hid (show g < w1.heap.size from (Array.getElem?_eq_some_iff.1 hg).1)
    have HBG := hid hbg
    clear ho hb1 CC hg hbg hll cur
    go_wp2
    go_loopw [6, 12] (fun _ vi wr => ∃ k : Nat, vi = .int .i64 k ∧ k ≤ n ∧ Hid (Below w.heap.size w wr) ∧ Hid (w1.heap.size ≤ wr.heap.size) ∧ Hid (InvG kEl l w1.heap.size g k wr)) (fun _ vi _ => n - (intOf vi).toNat)
    case atStart => exact ⟨0, rfl, Nat.zero_le _, HB1, Nat.le_refl _, HV⟩
    case round =>
      obtain ⟨k, rfl, hk, HB, HZ, HV⟩ := hrel
      by_cases hlt : k < n
      · have hkl : k < l.length := by rw [HLN.out]; exact hlt
        have hy := HI.out _ (List.getElem_mem hkl)
        have hleft := HV.out.left k hkl (Nat.le_refl _)
        have HST := hid (fun (W w2 : World) (x' : El) (h1 : Below wr.heap.size wr W) (h2 : Below W.heap.size W w2) (hc : x'.own W.heap.size w2.heap.size w2) (hbr : x'.bare = l[k].bare) => HV.out.step (K := kEl) HG.out HZ.out h1 h1.size h2 hkl hc hbr)
        have HCI := hid (fun (W : World) (h1 : Below w.heap.size w W) => cpyEl l[k] W (hy.on h1))
        obtain ⟨y, hye⟩ : ∃ y, l[k] = y := ⟨_, rfl⟩
        rw [hye] at hleft HST HCI
        obtain ⟨⟨la, lc, lt⟩, fa, fc, fs⟩ := y
        dsimp only at hleft HST HCI
        obtain ⟨ln, hln⟩ : ∃ ln, lt.len = ln := ⟨_, rfl⟩
        rw [hln] at HCI
        have c0 : wr.cell? ⟨g, k * 2, none⟩ = some (.slice la ln lc) := by have h := hleft 0 _ rfl; dsimp only [Lst.val] at h; rw [hln] at h; exact h
        have c1 : wr.cell? ⟨g, k * 2 + 1, none⟩ = some (.slice fa fs.length fc) := by have h := hleft 1 _ rfl; exact h
        have hki : (k : Int) < (n : Int) := by omega
        have HSO := hid HV.out.soft
        clear hye hleft hy HV hln
        go_wp2_with fail
        refine (HCI.out _ (HB.out.alloc (HB.out.size) _)).mono ?_
        rintro r w2 ⟨⟨x', rfl, hc, hbr⟩, hb2⟩
        have hA := (Below.refl wr.heap.size wr).alloc (Nat.le_refl _) (.cells #[.slice la ln lc, .slice fa fs.length fc] 48)
        have HN := hid (HST.out _ w2 x' hA hb2 hc hbr)
        have hA2 : Below wr.heap.size wr w2 := hA.trans (hb2.mono hA.size)
        have hgr : g < wr.heap.size := Nat.lt_of_lt_of_le HG.out HZ.out
        have HBF := hid (below_sets (g := g) (x'.v) (k * 2) (HB.out.trans (hA2.mono HB.out.size)) HBG.out)
        have HZF := hid (show w1.heap.size ≤ (w2.setCells g (k * 2) x'.v).heap.size by rw [sets_size]; exact Nat.le_trans HZ.out hA2.size)
        have hso2 : ∃ cs e, w2.heap[g]? = some (.cells cs e (0, 0)) := by
          obtain ⟨cs, e, h⟩ := HSO.out
          exact ⟨cs, e, (hA2.block g hgr).trans h⟩
        obtain ⟨cs, te, hcs⟩ := hso2
        have z := fun j => frozen_of_row w2 g j cs te hcs
        have z0 := z (k * 2)
        have c0 := Go.Proofs.YtaibfefmehhldaaGreatDoor.keep hA2 c0
        have z1 := z (k * 2 + 1)
        have c1 := Go.Proofs.YtaibfefmehhldaaGreatDoor.keep hA2 c1
        clear hc hb2 hA hA2 HST HCI HSO z hcs HB HZ hbr
        obtain ⟨⟨la1, lc1, lt1⟩, fa1, fc1, fs1⟩ := x'
        dsimp only [El.v, Lst.val, kEl, World.setCells] at HN HBF HZF ⊢
        go_wp2
        go_roundw
        case rel => exact ⟨k + 1, by go_num, by omega, HBF, HZF, HN⟩
        case measure => simp [intOf]; omega
      · obtain rfl : k = n := by omega
        have HE := hid (InvG.end (K := kEl) (c := cap) (by rw [HLN.out]; exact HV.out) HB1.out.size HBG.out (by have := HG.out; have := HZ.out; omega))
        have HX : Hid (MapP kEl l w.heap.size wr (.slice (some ⟨g, 0, none⟩) k cap)) := hid (by have h := HE.out; rw [HLN.out] at h; exact h)
        clear HV hlt hk HE
        go_wp2
        go_ret
        exact ⟨_, rfl, HX.out, HB.out⟩
theorem Da.inp.on {w W : World} {x : Da} (h : x.inp w) (hb : Below w.heap.size w W) : x.inp W := ⟨(h.1.below hb).more hb.size, h.2.1, h.2.2.1, (h.2.2.2.1.below hb).more hb.size, h.2.2.2.2⟩
theorem Da.ones (l : List Da) : ∀ r ∈ l.map Da.v, ∀ u ∈ r, u.oneCell' = true := by
  intro r hr u hu
  obtain ⟨f, _, rfl⟩ := List.mem_map.1 hr
  simp only [Da.v, Lst.val, List.mem_cons, List.not_mem_nil, or_false] at hu
  rcases hu with rfl | rfl <;> rfl
theorem Da.lens (l : List Da) : ∀ r ∈ l.map Da.v, r.length = 2 := by
  intro r hr
  obtain ⟨f, _, rfl⟩ := List.mem_map.1 hr
  rfl
set_option maxRecDepth 100000 in
set_option maxHeartbeats 4000000 in
theorem mapDa (l : List Da) (a : Option Addr) (n c : Nat) (w : World) (hn : l.length = n) (hr : Rows w.heap.size w a 2 (l.map Da.v)) (hi : ∀ x ∈ l, x.inp w) (hl : n ≤ 1000000) :
    Calls Tryz.prog 26 #[.slice a n c, .func (.func 27) #[] #[]] w fun e w' => ∃ v, e = .returned v ∧ MapP kDa l w.heap.size w' v ∧ Below w.heap.size w w' := by
  have CC := hid (clone_da w a n c (l.map Da.v) (by simpa using hn) hr (Da.lens l) (Da.ones l) (by rw [List.length_map, hn]; omega))
  have HLN := hid hn
  have HI := hid hi
  clear hn hi hr
  go_enter Tryz.func26, Tryz.ntmps26
  go_wp2_with fail
  refine CC.out.mono ?_
  rintro r w1 ⟨v, rfl, ho, hb1⟩
  have HB1 := hid hb1
  rcases ho.row.2 with ⟨rfl, h0⟩ | ⟨g, cap, cur, rfl, hbg, hg, -⟩
  · have h00 : l = [] := by rw [List.length_map] at h0; exact List.eq_nil_of_length_eq_zero h0
    subst h00
    obtain rfl : n = 0 := by rw [← HLN.out]; rfl
    clear ho hb1 h0 CC
    go_wp2
    go_loopw [6, 12] (fun _ vi wr => vi = .int .i64 0 ∧ wr = w1) (fun _ _ _ => 0)
    case atStart => exact ⟨rfl, rfl⟩
    case round =>
      obtain ⟨rfl, rfl⟩ := hrel
      go_wp2
      go_ret
      exact ⟨_, rfl, ⟨none, 0, [], rfl, rfl, rfl, .inl rfl, .inl rfl, by simp⟩, HB1.out⟩
  · have hll : (l.map Da.v).length = n := by rw [List.length_map]; exact HLN.out
    rw [hll] at ho ⊢
    have HV := hid (InvG.start (K := kDa) ho HLN.out w1.heap.size)
    have HG := hid (show g < w1.heap.size from (Array.getElem?_eq_some_iff.1 hg).1)
    have HBG := hid hbg
    clear ho hb1 CC hg hbg hll cur
    go_wp2
    go_loopw [6, 12] (fun _ vi wr => ∃ k : Nat, vi = .int .i64 k ∧ k ≤ n ∧ Hid (Below w.heap.size w wr) ∧ Hid (w1.heap.size ≤ wr.heap.size) ∧ Hid (InvG kDa l w1.heap.size g k wr)) (fun _ vi _ => n - (intOf vi).toNat)
    case atStart => exact ⟨0, rfl, Nat.zero_le _, HB1, Nat.le_refl _, HV⟩
    case round =>
      obtain ⟨k, rfl, hk, HB, HZ, HV⟩ := hrel
      by_cases hlt : k < n
      · have hkl : k < l.length := by rw [HLN.out]; exact hlt
        have hy := HI.out _ (List.getElem_mem hkl)
        have hleft := HV.out.left k hkl (Nat.le_refl _)
        have HST := hid (fun (W w2 : World) (x' : Da) (h1 : Below wr.heap.size wr W) (h2 : Below W.heap.size W w2) (hc : x'.own W.heap.size w2.heap.size w2) (hbr : x'.bare = l[k].bare) => HV.out.step (K := kDa) HG.out HZ.out h1 h1.size h2 hkl hc hbr)
        have HCI := hid (fun (W : World) (h1 : Below w.heap.size w W) => cpyDa l[k] W (hy.on h1))
        obtain ⟨y, hye⟩ : ∃ y, l[k] = y := ⟨_, rfl⟩
        rw [hye] at hleft HST HCI
        obtain ⟨⟨la, lc, lt⟩, ba, bc, bs⟩ := y
        dsimp only at hleft HST HCI
        obtain ⟨ln, hln⟩ : ∃ ln, lt.len = ln := ⟨_, rfl⟩
        rw [hln] at HCI
        have c0 : wr.cell? ⟨g, k * 2, none⟩ = some (.slice la ln lc) := by have h := hleft 0 _ rfl; dsimp only [Lst.val] at h; rw [hln] at h; exact h
        have c1 : wr.cell? ⟨g, k * 2 + 1, none⟩ = some (.slice ba bs.length bc) := by have h := hleft 1 _ rfl; exact h
        have hki : (k : Int) < (n : Int) := by omega
        have HSO := hid HV.out.soft
        clear hye hleft hy HV hln
        go_wp2_with fail
        refine (HCI.out _ (HB.out.alloc (HB.out.size) _)).mono ?_
        rintro r w2 ⟨⟨x', rfl, hc, hbr⟩, hb2⟩
        have hA := (Below.refl wr.heap.size wr).alloc (Nat.le_refl _) (.cells #[.slice la ln lc, .slice ba bs.length bc] 51)
        have HN := hid (HST.out _ w2 x' hA hb2 hc hbr)
        have hA2 : Below wr.heap.size wr w2 := hA.trans (hb2.mono hA.size)
        have hgr : g < wr.heap.size := Nat.lt_of_lt_of_le HG.out HZ.out
        have HBF := hid (below_sets (g := g) (x'.v) (k * 2) (HB.out.trans (hA2.mono HB.out.size)) HBG.out)
        have HZF := hid (show w1.heap.size ≤ (w2.setCells g (k * 2) x'.v).heap.size by rw [sets_size]; exact Nat.le_trans HZ.out hA2.size)
        have hso2 : ∃ cs e, w2.heap[g]? = some (.cells cs e (0, 0)) := by
          obtain ⟨cs, e, h⟩ := HSO.out
          exact ⟨cs, e, (hA2.block g hgr).trans h⟩
        obtain ⟨cs, te, hcs⟩ := hso2
        have z := fun j => frozen_of_row w2 g j cs te hcs
        have z0 := z (k * 2)
        have c0 := Go.Proofs.YtaibfefmehhldaaGreatDoor.keep hA2 c0
        have z1 := z (k * 2 + 1)
        have c1 := Go.Proofs.YtaibfefmehhldaaGreatDoor.keep hA2 c1
        clear hc hb2 hA hA2 HST HCI HSO z hcs HB HZ hbr
        obtain ⟨⟨la1, lc1, lt1⟩, ba1, bc1, bs1⟩ := x'
        dsimp only [Da.v, Lst.val, kDa, World.setCells] at HN HBF HZF ⊢
        go_wp2
        go_roundw
        case rel => exact ⟨k + 1, by go_num, by omega, HBF, HZF, HN⟩
        case measure => simp [intOf]; omega
      · obtain rfl : k = n := by omega
        have HE := hid (InvG.end (K := kDa) (c := cap) (by rw [HLN.out]; exact HV.out) HB1.out.size HBG.out (by have := HG.out; have := HZ.out; omega))
        have HX : Hid (MapP kDa l w.heap.size wr (.slice (some ⟨g, 0, none⟩) k cap)) := hid (by have h := HE.out; rw [HLN.out] at h; exact h)
        clear HV hlt hk HE
        go_wp2
        go_ret
        exact ⟨_, rfl, HX.out, HB.out⟩
end Go.Proofs.YtaibfefmehhldaaGreatDoor.Mod

namespace Go.Proofs.YtaibfefmehhldaaGreatDoor.Mod
open Go.RowKit Go.Proofs.YtaibfefmehhldaaGreatDoor.Instr

theorem wrongN_any (n : Int) (w : World) : Calls Tryz.prog 103 #[.int .i64 n] w fun e w' => e = .returned (.bool (wrongN n)) ∧ w = w' := by
  have H : Hid (wrongN n = (decide (n < 0) || decide (2147483647 < n))) := rfl
  by_cases h : n < 0
  · have HE : Hid (wrongN n = true) := by show _ = _; rw [H.out]; simp [h]
    go_enter Tryz.func103, Tryz.ntmps103
    go_wp2
    go_ret
    exact ⟨ret_bool HE.out.symm, rfl⟩
  · have h' : decide (n < 0) = false := by simpa using h
    have HE : Hid (wrongN n = decide (2147483647 < n)) := by show _ = _; rw [H.out, h', Bool.false_or]
    clear H
    go_enter Tryz.func103, Tryz.ntmps103
    go_wp2
    go_ret
    exact ⟨ret_bool HE.out.symm, rfl⟩
theorem wrongI_any (x : Imp) (w : World) : Calls Tryz.prog 78 #[.agg #[.string x.mo, .string x.na, .int .i64 x.ty]] w fun e w' => e = .returned (.bool (wrongI x)) ∧ Below w.heap.size w w' := by
  unfold wrongI
  obtain ⟨q, hq⟩ : ∃ q, wrongN x.ty = q := ⟨_, rfl⟩
  have C := hid (fun w => wrongN_any x.ty w)
  rw [hq] at C ⊢
  clear hq
  go_enter Tryz.func78, Tryz.ntmps78
  go_wp2_with fail
  refine (C.out _).mono ?_
  rintro e w1 ⟨rfl, rfl⟩
  go_wp2
  go_ret
  exact ⟨rfl, (Below.refl _ _).alloc (Nat.le_refl _) _⟩
set_option maxHeartbeats 800000 in
theorem wrongF_any (x : Fn) (w : World) : Calls Tryz.prog 81 #[.agg #[.int .i64 x.ty, .int .i64 x.lo, .slice x.l.a x.l.t.len x.l.c]] w fun e w' => e = .returned (.bool (wrongF x)) ∧ Below w.heap.size w w' := by
  have H : Hid (wrongF x = (wrongN x.ty || (decide (x.lo < 0) || decide (50000 < x.lo)))) := rfl
  obtain ⟨q, hq⟩ : ∃ q, wrongN x.ty = q := ⟨_, rfl⟩
  have C := hid (fun w => wrongN_any x.ty w)
  rw [hq] at C H
  clear hq
  obtain ⟨lo, hlo⟩ : ∃ lo, x.lo = lo := ⟨_, rfl⟩
  rw [hlo] at H ⊢
  clear hlo
  cases q with
  | true =>
    have HE : Hid (wrongF x = true) := by show _ = _; rw [H.out]; rfl
    go_enter Tryz.func81, Tryz.ntmps81
    go_wp2_with fail
    refine (C.out _).mono ?_
    rintro e w1 ⟨rfl, rfl⟩
    go_wp2
    go_ret
    exact ⟨ret_bool HE.out.symm, (Below.refl _ _).alloc (Nat.le_refl _) _⟩
  | false =>
    by_cases h : lo < 0
    · have HE : Hid (wrongF x = true) := by show _ = _; rw [H.out]; simp [h]
      go_enter Tryz.func81, Tryz.ntmps81
      go_wp2_with fail
      refine (C.out _).mono ?_
      rintro e w1 ⟨rfl, rfl⟩
      go_wp2
      go_ret
      exact ⟨ret_bool HE.out.symm, (Below.refl _ _).alloc (Nat.le_refl _) _⟩
    · have h' : decide (lo < 0) = false := by simpa using h
      have HE : Hid (wrongF x = decide (50000 < lo)) := by show _ = _; rw [H.out, h', Bool.false_or, Bool.false_or]
      go_enter Tryz.func81, Tryz.ntmps81
      go_wp2_with fail
      refine (C.out _).mono ?_
      rintro e w1 ⟨rfl, rfl⟩
      go_wp2
      go_ret
      exact ⟨ret_bool HE.out.symm, (Below.refl _ _).alloc (Nat.le_refl _) _⟩
theorem wrongE_any (x : Ex) (w : World) : Calls Tryz.prog 84 #[.agg #[.string x.na, .int .i64 x.k, .int .u32 x.i]] w fun e w' => e = .returned (.bool (wrongE x)) ∧ Below w.heap.size w w' := by
  have H : Hid (wrongE x = (decide (x.k < 0) || decide (3 < x.k))) := rfl
  obtain ⟨lo, hlo⟩ : ∃ lo, x.k = lo := ⟨_, rfl⟩
  rw [hlo] at H ⊢
  clear hlo
  by_cases h : lo < 0
  · have HE : Hid (wrongE x = true) := by show _ = _; rw [H.out]; simp [h]
    go_enter Tryz.func84, Tryz.ntmps84
    go_wp2
    go_ret
    exact ⟨ret_bool HE.out.symm, (Below.refl _ _).alloc (Nat.le_refl _) _⟩
  · have h' : decide (lo < 0) = false := by simpa using h
    have HE : Hid (wrongE x = decide (3 < lo)) := by show _ = _; rw [H.out, h', Bool.false_or]
    go_enter Tryz.func84, Tryz.ntmps84
    go_wp2
    go_ret
    exact ⟨ret_bool HE.out.symm, (Below.refl _ _).alloc (Nat.le_refl _) _⟩
theorem isLong_any (s : ByteArray) (w : World) : Calls Tryz.prog 67 #[.string s] w fun e w' => e = .returned (.bool (longS s)) ∧ Below w.heap.size w w' := by
  have HE : Hid (longS s = decide (1000 < s.size)) := rfl
  go_enter Tryz.func67, Tryz.ntmps67
  go_wp2
  go_ret
  exact ⟨ret_bool (by rw [HE.out]; simp; omega), Below.refl _ _⟩
theorem wrongT_any (x : Int × Int) (w : World) : Calls Tryz.prog 75 #[.agg #[.int .i64 x.1, .int .i64 x.2]] w fun e w' => e = .returned (.bool (wrongT x)) ∧ Below w.heap.size w w' := by
  have C := hid (fun w => Kind.check_any x.1 x.2 w)
  unfold Kind.codeType at C
  unfold wrongT
  obtain ⟨q, hq⟩ : ∃ q, Kind.okType x.1 x.2 = q := ⟨_, rfl⟩
  rw [hq] at C ⊢
  clear hq
  cases q
  all_goals
    simp only [Bool.false_eq_true, if_true, if_false] at C
    go_enter Tryz.func75, Tryz.ntmps75
    go_wp2_with fail
    refine (C.out _).mono ?_
    rintro e w1 ⟨rfl, hb1⟩
    go_wp2
    go_ret
    exact ⟨rfl, thenB ((Below.refl _ _).alloc (Nat.le_refl _) _) hb1⟩
theorem beyond_any (x : Li) (g : Nat) (most : Int) (w : World) (hc : w.cell? ⟨g, 0, none⟩ = some (.int .u32 most)) :
    Calls Tryz.prog 106 #[.agg #[.int .u32 x.n, .int .u32 x.x, .bool x.c], .pointer (some ⟨g, 0, none⟩)] w fun e w' => e = .returned (.bool (beyond most x)) ∧ Below w.heap.size w w' := by
  have C := hid (fun w => Kind.checkLimits_any x.n x.x x.c most w)
  unfold Kind.codeLim at C
  unfold beyond
  obtain ⟨q, hq⟩ : ∃ q, Kind.okLim x.n x.x x.c most = q := ⟨_, rfl⟩
  rw [hq] at C ⊢
  clear hq
  have hg := World.block_lt_of_cell? w _ hc
  cases q
  all_goals
    simp only [Bool.false_eq_true, if_true, if_false] at C
    go_enter Tryz.func106, Tryz.ntmps106
    go_wp2_with fail
    refine (C.out _).mono ?_
    rintro e w1 ⟨rfl, hb1⟩
    go_wp2
    go_ret
    exact ⟨rfl, thenB ((Below.refl _ _).alloc (Nat.le_refl _) _) hb1⟩
end Go.Proofs.YtaibfefmehhldaaGreatDoor.Mod

namespace Go.Proofs.YtaibfefmehhldaaGreatDoor.Mod
open Go.RowKit Go.Shelf Go.Proofs.YtaibfefmehhldaaGreatDoor.Instr

theorem entersB : ∀ args w, (callFunc 106 args).run Tryz.prog w = .ok (.enter 106 args) w := enters_of Tryz.func106 (by kernel_rfl) rfl
set_option maxHeartbeats 1000000 in
theorem anyBeyond_any (l : List Li) (a : Option Addr) (n c : Nat) (most : Int) (w : World) (hn : l.length = n) (hr : Rows w.heap.size w a 3 (l.map Li.v)) (hl : n ≤ 140737488351232) :
    Calls Tryz.prog 86 #[.slice a n c, .int .u32 most] w fun e w' => e = .returned (.bool (l.any (beyond most))) ∧ Below w.heap.size w w' := by
  have hB := (Below.refl w.heap.size w).alloc (Nat.le_refl _) (.cells #[.int .u32 most] 28)
  have hc : (w.alloc (.cells #[.int .u32 most] 28)).cell? ⟨w.heap.size, 0, none⟩ = some (.int .u32 most) := by go_simp
  have C := hid (any_li l a n c (w.alloc (.cells #[.int .u32 most] 28)) hn ((hr.below hB).more hB.size) hl 106 #[.pointer (some ⟨w.heap.size, 0, none⟩)] entersB (beyond most)
    (fun W x _ hW => beyond_any x _ most W (Go.Proofs.YtaibfefmehhldaaGreatDoor.keep hW hc)))
  have HB := hid hB
  clear hB hc hn hr
  go_enter Tryz.func86, Tryz.ntmps86
  go_wp2_with fail
  refine C.out.mono ?_
  rintro e w1 ⟨rfl, hb1⟩
  clear C
  go_wp2
  go_ret
  exact ⟨rfl, HB.out.trans (hb1.mono HB.out.size)⟩

theorem Bad_any (zs : List Int) (a : Option Addr) (n c : Nat) (w : World) (hT : Utf.Tabs w) (hn : zs.length = n) (hz : Bytes w a zs) :
    Calls Tryz.prog 99 #[.slice a n c] w fun e w' => e = .returned (.int .i64 (Utf.badL zs)) ∧ Below w.heap.size w w' := by
  have e1 := str_of hz n c hn
  have C := hid (Utf.bad_any zs hz.byte w hT)
  clear hn hz
  go_enter Tryz.func99, Tryz.ntmps99
  go_wp2_with fail
  refine C.out.mono ?_
  rintro e w1 ⟨rfl, hb1⟩
  clear C
  go_wp2
  go_ret
  exact ⟨rfl, hb1⟩
set_option maxHeartbeats 400000 in
theorem isNoText_any (s : ByteArray) (w : World) (hT : Utf.Tabs w) (hs : s.size ≤ 140737488351232) : Calls Tryz.prog 72 #[.string s] w fun e w' => e = .returned (.bool (noText s)) ∧ Below w.heap.size w w' := by
  unfold noText
  obtain ⟨b, c, w1, e1, hz, hb1⟩ := bytes_of (numsOf s) (numsOf_bytes s) (by rw [numsOf_length]; exact hs) w
  rw [str_numsOf] at e1
  have C := hid (Bad_any (numsOf s) _ _ c w1 (hT.below hb1) rfl hz)
  obtain ⟨q, hq⟩ : ∃ q, Utf.badL (numsOf s) = q := ⟨_, rfl⟩
  rw [hq] at C ⊢
  obtain ⟨n, hn⟩ : ∃ n, (numsOf s).length = n := ⟨_, rfl⟩
  rw [hn] at C e1
  have HB := hid hb1
  clear hq hn hz hb1 hT
  go_enter Tryz.func72, Tryz.ntmps72
  go_wp2_with fail
  refine C.out.mono ?_
  rintro e w2 ⟨rfl, hb2⟩
  clear C e1
  go_wp2
  go_ret
  exact ⟨rfl, thenB HB.out hb2⟩
theorem asks_long (w : World) : Asks w 67 longS := ⟨enters_of Tryz.func67 (by kernel_rfl) rfl, fun W s _ _ => isLong_any s W⟩
theorem asks_text (w : World) (hT : Utf.Tabs w) : Asks w 72 noText := ⟨enters_of Tryz.func72 (by kernel_rfl) rfl, fun W s hs hW => isNoText_any s W (hT.below hW) hs⟩
end Go.Proofs.YtaibfefmehhldaaGreatDoor.Mod

namespace Go.Proofs.YtaibfefmehhldaaGreatDoor.Instr
open Go.RowKit Go.Shelf

attribute [local go_sem] Oper.semAt_some

set_option maxRecDepth 100000 in
set_option maxHeartbeats 2000000 in
theorem Count_any (a : Option Addr) (len cap : Nat) (t : Il) (w : World) (hl : ListAt w.heap.size w a len t) (hc : t.count ≤ 4611686018427387900) (hlen : len ≤ 140737488351232) :
    Calls Tryz.prog 90 #[.slice a len cap] w fun e w' => e = .returned (.int .i64 t.count) ∧ Below w.heap.size w w' := by
  have HC := hid hc
  clear hc
  refine (callsIn_wide (n := 3)).1 ?_
  refine callsIn_of_wp_marks Tryz.func90 rfl trivial ?_ rfl
  simp only [Tryz.ntmps90, List.size_toArray, List.length_cons, List.length_nil, Nat.reduceAdd, Nat.reduceSub, Array.replicate_succ, Array.replicate_zero, List.push_toArray, List.append_toArray, List.nil_append, List.cons_append]
  gi_wp2_with (refine ⟨trivial, ?_⟩; refine (within_in _ _ _ _ _).mono ?_; rintro e w' ⟨rfl, rfl⟩)
  have hs := cell_new w (.int .i64 0) 3
  have hb := cell_new (w.alloc (.cells #[.int .i64 0] 3)) (.slice a len cap) 39
  rw [World.size_alloc] at hb
  have hB0 : Below w.heap.size w ((w.alloc (.cells #[.int .i64 0] 3)).alloc (.cells #[.slice a len cap] 39)) := thenA (thenA (Below.refl _ _) _) _
  refine wpIn_rangeFunc_ownF rfl (by omega) (gf := 118) (lb := #[.pointer (some ⟨w.heap.size + 1, 0, none⟩)]) rfl trivial (enters_of Tryz.func118 (by kernel_rfl) rfl)
    (within_stops _ w.heap.size (w.heap.size + 2) (w.heap.size + 1) a len cap t _ (by simp) (by omega) (by simp) hb.1 (hl.below hB0) (by have := HC.out; have := deep_le_count t; omega) hlen) (fun h k => h.trans k) (kept_b (by simp; omega)) (Below.refl _ _) (fun _ => rfl)
    (fun pre W => (W.cell? ⟨w.heap.size, 0, none⟩ = some (.int .i64 pre.length) ∧ W.frozen? ⟨w.heap.size, 0, none⟩ = false) ∧ Below w.heap.size w W)
    (fun _ _ _ => False)
    (OwnFrom.and (Own.from (fun s A B row hs hg hr => ⟨cell_kept hs.1 hg hr, (frozen_kept hs.1 hg hr).trans hs.2⟩) _) (ownFrom_below (Nat.le_refl _) (by simp; omega)))
    (fun _ _ _ _ _ hs _ _ => hs)
    ⟨⟨cell_alloc' _ hs.1, frozen_alloc' _ hs.1 hs.2⟩, hB0⟩
    (fun x => { tmps := #[.slice a len cap, undef, .int .i64 0, .pointer (some ⟨w.heap.size, 0, none⟩), .slice a len cap, .func (.func 118) #[] #[.pointer (some ⟨w.heap.size + 1, 0, none⟩)], .int .i64 x.1, .agg x.2.vals, undef, undef, undef], defers := [] }) ?assign ?body ?done ?stop
  case assign =>
    intro l x W K hK
    gi_wp2
    simpa [encs] using hK
  case body =>
    rintro l pre x W ⟨⟨hc, hf⟩, hB⟩ hlt
    have hw1 : IntKind.i64.wrap ((pre.length : Int) + 1) = ((pre ++ [x]).length : Int) := by have := HC.out; rw [IntKind.wrap_i64]; simp; omega
    gi_wp2
    exact ⟨KeepsOthers.setCell _ _ _, (Kept.refl _ _ W).setCell (p := ⟨w.heap.size, 0, none⟩) (Nat.le_refl _) (by simp) _, ⟨by rw [show (((pre ++ [x]).length : Nat) : Int) = (pre.length : Int) + 1 by simp]; exact World.cell?_setCell_same' _ _ _ (by rw [hc]; rfl), by rw [World.frozen?_setCell]; exact hf⟩, hB.setCell (p := ⟨w.heap.size, 0, none⟩) (Nat.le_refl _) _⟩
  case done =>
    rintro D ys W hD rfl ⟨⟨hc, _⟩, hB⟩ hK
    rw [walk_length] at hc
    gi_wp2
    refine ⟨by simp, .inl ⟨_, _, rfl, run_takeDeferred hK, ?_⟩⟩
    exact ⟨_, results_tmp rfl _ _ _, rfl, hB.trans (belowK_b (w := w) (Nat.le_refl _) W D _ _ (by simp at hD; omega) hK rfl rfl)⟩
  case stop =>
    rintro D c pre W _ _ h _
    exact h.elim
end Go.Proofs.YtaibfefmehhldaaGreatDoor.Instr
