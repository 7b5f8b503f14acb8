/-
  MEMORY: copy of bytes within blocks that are known whole, as a law; get by contract.
-/
import Derived.Test.YtcgjlbpokmlkbaaDoorMemLow
import Derived.Deep.RegionLaw
namespace Go.Proofs.YtcgjlbpokmlkbaaDoor.Mem
open Go.RowKit
open Go.Maps (Keyed int_keyed IsMap)
set_option linter.unusedVariables false

theorem save_setRow (w : World) (g : Nat) (cs : Array Value) : Save g w (w.setRow g cs) :=
  ⟨rfl, rfl, rfl, by simp [World.setRow], fun j _ hj => setRow_other w g j cs (by omega)⟩
theorem infoB1 : (Tryd.prog.info? 5).map (·.size) = some 1 := by kernel_rfl
section
variable {ops : Array Oper} {rest : List Oper} {o : Oper} {act : Act} {w : World}
/-- The row behind a copy. -/
def over (R xs : List Int) (off : Nat) : List Int := R.take off ++ xs ++ R.drop (off + xs.length)
theorem over_length {R xs : List Int} {off : Nat} (h : off + xs.length ≤ R.length) : (over R xs off).length = R.length := by
  simp [over]; omega
theorem over_getD {R xs : List Int} {off : Nat} (h : off + xs.length ≤ R.length) (i : Nat) : (over R xs off).getD i 0 = if off ≤ i ∧ i < off + xs.length then xs.getD (i - off) 0 else R.getD i 0 := by
  have hl : (R.take off).length = off := by simp; omega
  unfold over
  simp only [List.getD_eq_getElem?_getD]
  by_cases h1 : i < off
  · rw [if_neg (by omega), List.append_assoc, List.getElem?_append_left (by omega), List.getElem?_take_of_lt h1]
  · by_cases h2 : i < off + xs.length
    · rw [if_pos (by omega), List.append_assoc, List.getElem?_append_right (by omega), hl, List.getElem?_append_left (by omega)]
    · rw [if_neg (by omega), List.getElem?_append_right (by simp; omega), List.length_append, hl, List.getElem?_drop]
      congr 2
      omega
theorem copy_run (dT : TypeId) (hu : Tryd.prog.underlying dT = some (.slice 5)) {g off dl dc sl sc q o2 M : Nat} {R xs : List Int} {T : TypeId} (t : TypeId) (hh : w.heap[g]? = some (.cells (R.map (Value.int .u8)).toArray T (0, 0))) (hM : xs.length = M)
    (hmin : M = Nat.min sl dl) (hfit : off + M ≤ R.length) (hsrc : ∀ j, j < M → w.cell? ⟨q, o2 + j, none⟩ = some (.int .u8 (xs.getD j 0))) :
    ∃ w', (Builtin.copy_ #[dT, dT] t #[.slice (some ⟨g, off, none⟩) dl dc, .slice (some ⟨q, o2, none⟩) sl sc]).run Tryd.prog w = .ok (.int .i64 M) w' ∧ w'.heap[g]? = some (.cells ((over R xs off).map (Value.int .u8)).toArray T (0, 0)) ∧ Save g w w' ∧ w'.heap.size = w.heap.size := by
  have hl : (xs.map (Value.int .u8)).length = M := by simp [hM]
  have hr := run_copy_row (P := Tryd.prog) w dT dT t 5 g off dl dc ⟨q, o2, none⟩ sl sc (R.map (Value.int .u8)).toArray T (xs.map (Value.int .u8)) hu infoB1 hh (by rw [hl]; exact hmin) (fun j v hj => by
    have hjl : j < xs.length := by
      rcases Nat.lt_or_ge j xs.length with h | h
      · exact h
      · simp [List.getElem?_eq_none (show (xs.map (Value.int .u8)).length ≤ j by simpa using h)] at hj
    have hplain : (⟨q, o2, none⟩ : Addr).add j = ⟨q, o2 + j, none⟩ := by unfold Addr.add; split <;> simp_all
    rw [hplain, hsrc j (by omega)]
    simp [List.getElem?_eq_getElem hjl] at hj
    subst hj
    simp [List.getD, List.getElem?_eq_getElem hjl]) (by simp; omega) (fun v hv => by
    obtain ⟨z, _, rfl⟩ := List.mem_map.1 hv
    rfl)
  refine ⟨_, hr.trans (by rw [hl]; rfl), ?_, save_setRow _ _ _, by simp [World.setRow]⟩
  rw [setRow_heap w g _ _ T _ hh]
  simp [over, List.map_take, List.map_drop, hM]
theorem copy_wp {K : Act → World → Prop} {Q : Exit → Act → World → Prop} (dT : TypeId) (hu : Tryd.prog.underlying dT = some (.slice 5)) (d s : Operand) (ho : o.op = .call { callee := .builtin .copy, args := #[d, s], argTypes := #[dT, dT] })
    {g off dl dc sl sc q o2 M : Nat} {R xs : List Int} {T : TypeId} (hd : act.eval d = .slice (some ⟨g, off, none⟩) dl dc) (hs : act.eval s = .slice (some ⟨q, o2, none⟩) sl sc) (hh : w.heap[g]? = some (.cells (R.map (Value.int .u8)).toArray T (0, 0))) (hM : xs.length = M)
    (hmin : M = Nat.min sl dl) (hfit : off + M ≤ R.length) (hsrc : ∀ j, j < M → w.cell? ⟨q, o2 + j, none⟩ = some (.int .u8 (xs.getD j 0)))
    (h : ∀ w', Hid (w'.heap[g]? = some (.cells ((over R xs off).map (Value.int .u8)).toArray T (0, 0))) → Save g w w' → w'.heap.size = w.heap.size → K (act.put o.dst (.int .i64 M)) w') : Oper.wp Tryd.prog o act w K Q := by
  obtain ⟨w', hrun, h1, h2, h3⟩ := copy_run (w := w) dT hu o.type hh hM hmin hfit hsrc
  unfold Oper.wp
  simp [execOp, ho, resolve, invoke, builtin, hd, hs, Result.andThen]
  rw [hrun]
  exact h w' h1 h2 h3
theorem copy_list {Q : Exit → Act → World → Prop} (hgd : o.guard = none) (d s : Operand) (ho : o.op = .call { callee := .builtin .copy, args := #[d, s], argTypes := #[35, 35] })
    {g off dl dc sl sc q o2 M : Nat} {R xs : List Int} {T : TypeId} (hd : act.eval d = .slice (some ⟨g, off, none⟩) dl dc) (hs : act.eval s = .slice (some ⟨q, o2, none⟩) sl sc) (hh : w.heap[g]? = some (.cells (R.map (Value.int .u8)).toArray T (0, 0))) (hM : xs.length = M)
    (hmin : M = Nat.min sl dl) (hfit : off + M ≤ R.length) (hsrc : ∀ j, j < M → w.cell? ⟨q, o2 + j, none⟩ = some (.int .u8 (xs.getD j 0)))
    (h : ∀ w', Hid (w'.heap[g]? = some (.cells ((over R xs off).map (Value.int .u8)).toArray T (0, 0))) → Save g w w' → w'.heap.size = w.heap.size → wpList Tryd.prog ops Q rest (act.put o.dst (.int .i64 M)) w') : wpList Tryd.prog ops Q (o :: rest) act w :=
  wpList_plain hgd fun K hK => copy_wp 35 Tryd.underlying35 d s ho hd hs hh hM hmin hfit hsrc fun w' h1 h2 h3 => hK _ _ (h w' h1 h2 h3)
theorem copy_step {K : Act → World → Prop} {Q : Exit → Act → World → Prop} {E : Prop} (hgd : o.guard = none) (d s : Operand) (ho : o.op = .call { callee := .builtin .copy, args := #[d, s], argTypes := #[35, 35] })
    {g off dl dc sl sc q o2 M : Nat} {R xs : List Int} {T : TypeId} (hd : act.eval d = .slice (some ⟨g, off, none⟩) dl dc) (hs : act.eval s = .slice (some ⟨q, o2, none⟩) sl sc) (hh : w.heap[g]? = some (.cells (R.map (Value.int .u8)).toArray T (0, 0))) (hM : xs.length = M)
    (hmin : M = Nat.min sl dl) (hfit : off + M ≤ R.length) (hsrc : ∀ j, j < M → w.cell? ⟨q, o2 + j, none⟩ = some (.int .u8 (xs.getD j 0)))
    (h : ∀ w', Hid (w'.heap[g]? = some (.cells ((over R xs off).map (Value.int .u8)).toArray T (0, 0))) → Save g w w' → w'.heap.size = w.heap.size → K (act.put o.dst (.int .i64 M)) w') :
    if Region.wanted o (yielded ops act.tmps) = true then Oper.wp Tryd.prog o act w K Q else E := by
  have hw : Region.wanted o (yielded ops act.tmps) = true := by simp [Region.wanted, hgd]
  rw [if_pos hw]
  exact copy_wp 35 Tryd.underlying35 d s ho hd hs hh hM hmin hfit hsrc h
end
/-- A page's bytes from one on, as a slice. -/
theorem slice_page (g q : Nat) (hq : q < 65536) (w : World) : (Instr.sliceAt 93 (.pointer (some ⟨g, 0, none⟩)) (some (.int .u64 (q : Int))) none none).run Tryd.prog w = .ok (.slice (some ⟨g, q, none⟩) (65536 - q) (65536 - q)) w := by
  have hl : Tryd.prog.arrayLen 93 = 65536 := by simp [Program.arrayLen, Tryd.underlying93]
  have he : Tryd.prog.elem 93 = 5 := by simp [Program.elem, Tryd.underlying93]
  have hu : Tryd.prog.underlying 93 = some (.array (Tryd.prog.arrayLen 93) (Tryd.prog.elem 93)) := by rw [hl, he]; exact Tryd.underlying93
  rw [run_sliceAt_array_l w 93 ⟨g, 0, none⟩ hu .u64 (q : Int) (by omega) (by rw [hl]; omega), hl, he]
  have hne : ¬ (65536 : Nat) = q := by omega
  have hadd : (⟨g, 0, none⟩ : Addr).add q = ⟨g, q, none⟩ := by unfold Addr.add; split <;> simp_all
  simp [slicedAt, hne, hadd, Tryd.sizeOf5]
theorem MemAt.cells {B : Nat} {W : World} {p mb K : Nat} {D : DataW Unit} {m : Mm} (h : MemAt B W p mb K D m) : W.cell? ⟨p, 0, none⟩ = some (.pointer (some ⟨p, 0, none⟩)) ∧ W.cell? ⟨p, 1, none⟩ = some (.int .u32 m.n) ∧ W.cell? ⟨p, 2, none⟩ = some (.int .u32 m.most) ∧ W.cell? ⟨p, 3, none⟩ = some (.map (some mb)) := by
  have := h.box
  refine ⟨?_, ?_, ?_, ?_⟩ <;> simp [World.cell?, this]
theorem MemAt.page_lt {B : Nat} {W : World} {p mb K : Nat} {D : DataW Unit} {m : Mm} (h : MemAt B W p mb K D m) (k g : Nat) (hg : D.atKey (.int .u64 k) .nil = .lit (.int .i64 g)) : g < W.heap.size := by
  rcases h.at_ k with ⟨h1, _⟩ | ⟨g', _, h1, L, h2, _⟩
  · rw [hg] at h1; cases h1
  · rw [hg] at h1
    have : g = g' := by simp at h1; omega
    rw [this]
    exact (Array.getElem?_eq_some_iff.1 h2).1
theorem wf64 {k : Nat} (h : k < 18446744073709551616) : (Lit.int .u64 (k : Int)).wf = true := by
  have e : IntKind.u64.min = 0 := rfl
  have e2 : IntKind.u64.max = 18446744073709551615 := rfl
  simp [Lit.wf, e, e2]
  omega
/-- A look-up in the map of pages: none, and all noughts; or a page. -/
theorem MemAt.look {B : Nat} {W : World} {p mb K : Nat} {D : DataW Unit} {m : Mm} (h : MemAt B W p mb K D m) (k : Nat) (hk : k < 18446744073709551616) :
    ((Instr.lookup 45 (.map (some mb)) (.int .u64 k) false).run Tryd.prog W = .ok (.pointer none) W ∧ D.atKey (.int .u64 k) .nil = .nil ∧ ∀ i, i < 65536 → m.f (k * 65536 + i) = 0) ∨
    ∃ g, B ≤ g ∧ (Instr.lookup 45 (.map (some mb)) (.int .u64 k) false).run Tryd.prog W = .ok (.pointer (some ⟨g, 0, none⟩)) W ∧ D.atKey (.int .u64 k) .nil = .lit (.int .i64 g) ∧ PageAt W g m.f k := by
  obtain ⟨v, ps, hrun, hv⟩ := h.map.lookup keyed Tryd.underlying45 (z := .pointer none) (by simp [Tryd.zeroValue87]) (zd := .nil) (zp := []) rfl (key := .int .u64 k) (Maps.keyOf_int_mk Tryd.underlying58 (wf64 hk))
  rcases h.at_ k with ⟨h1, h2⟩ | ⟨g, hB, h1, h2⟩
  · rw [h1] at hv
    rcases ptrElem_inv hv with ⟨rfl, _⟩ | ⟨g, _, h3⟩
    · exact .inl ⟨hrun, h1, h2⟩
    · cases h3
  · rw [h1] at hv
    rcases ptrElem_inv hv with ⟨_, h3⟩ | ⟨g', rfl, h3⟩
    · cases h3
    · have : g = g' := by simp at h3; omega
      subst this
      exact .inr ⟨g, hB, hrun, h1, h2⟩
end Go.Proofs.YtcgjlbpokmlkbaaDoor.Mem
