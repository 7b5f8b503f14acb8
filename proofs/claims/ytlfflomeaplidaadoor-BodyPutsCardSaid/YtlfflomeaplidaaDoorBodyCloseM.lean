import Derived.Test.YtlfflomeaplidaaDoorBodyStack
import Derived.Test.YtlfflomeaplidaaDoorBodyIns
import Derived.BigQuiet
import Derived.Deep.RegionHeldLaw
import Derived.Deep.RegionLaw
/-
  BODY: the open lists' small calls, by contract: divisible, divide, closeTop.
-/
namespace Go.Proofs.YtlfflomeaplidaaDoor.Body
open Go.RowKit Go.Proofs.YtlfflomeaplidaaDoor.Instr
open Go.Proofs.YtlfflomeaplidaaDoor.Kind (Rd numR refuseR startR numR_good numR_bounds refuseR_good getL_next)

theorem divisible_any (g p : Nat) (op : Int) (oth : Bool) (w : World) (h0 : w.cell? ⟨g, p, none⟩ = some (.int .i64 op)) (h9 : w.cell? ⟨g, p + 9, none⟩ = some (.bool oth)) :
    Calls Tryd.prog 110 #[.pointer (some ⟨g, p, none⟩)] w fun e w' => e = .returned (.bool (decide (op = 4) && !oth)) ∧ w = w' := by
  by_cases h : op = 4
  · subst h
    go_enter Tryd.func110, Tryd.ntmps110
    go_wp2
    go_ret
    exact ⟨ret_bool (by simp), rfl⟩
  · have hb : decide (op = 4) = false := by simp [h]
    rw [hb]
    go_enter Tryd.func110, Tryd.ntmps110
    go_wp2
    go_ret
    exact ⟨rfl, rfl⟩
def divided (w : World) (g p : Nat) (v : Value) : World := ((w.setCell ⟨g, p + 6, none⟩ v).setCell ⟨g, p + 8, none⟩ (.slice none 0 0)).setCell ⟨g, p + 9, none⟩ (.bool true)
theorem divide_any (g p : Nat) (a a' : Option Addr) (n c n' c' : Nat) (oth : Bool) (w : World) (h6 : w.cell? ⟨g, p + 6, none⟩ = some (.slice a' n' c')) (h8 : w.cell? ⟨g, p + 8, none⟩ = some (.slice a n c)) (h9 : w.cell? ⟨g, p + 9, none⟩ = some (.bool oth))
    (f6 : w.frozen? ⟨g, p + 6, none⟩ = false) (f8 : w.frozen? ⟨g, p + 8, none⟩ = false) (f9 : w.frozen? ⟨g, p + 9, none⟩ = false) :
    Calls Tryd.prog 111 #[.pointer (some ⟨g, p, none⟩)] w fun e w' => e = .returned (.tuple #[]) ∧ w' = divided w g p (.slice a n c) := by
  unfold divided
  go_enter Tryd.func111, Tryd.ntmps111
  go_wp2
  go_end0
  exact ⟨rfl, rfl⟩
/-- From the first list of an If to the second. -/
theorem StackOk.divide {base : Nat} {w : World} {gs cap : Nat} {os : List Og} {o : Og} (h : StackOk base w gs cap (os ++ [o])) (hoth : o.oth = false) :
    ∃ o', StackOk base (divided w gs (os.length * 10) o.v) gs cap (os ++ [o']) ∧ o'.fr = ⟨o.fr.x, o.fr.t, .nil, true⟩ := by
  have ho := h.each o (by simp)
  obtain ⟨a, c, hv, hl, hb⟩ := list_of_row ho.row ho.half.kids
  obtain ⟨h1, h2, h3, h4, h5, h6, h7, h8, h9, h10⟩ := ho.half
  have hsoft := ho.soft
  obtain ⟨hla, hln, hlc⟩ := h7 hoth
  have hR := h.ready
  have hap := h.apart
  rw [List.flatMap_append, List.flatMap_cons, List.flatMap_nil, List.append_nil] at hap
  have hfl : o.fl.foot = [] := by
    have := h2.1
    rw [hln] at this
    rw [list_of_row.len_zero this]; rfl
  have hbl : ∀ q ∈ blkOf o.t.len a, q ∈ rowBlk o.v := by
    intro q hq
    rw [hb] at hq
    split at hq
    · simp at hq
    · exact hq
  have hlow := ho.low
  have t1 : Touch (fun j => j = gs) w (divided w gs (os.length * 10) o.v) := by
    have step : ∀ (a b : World) (q : Addr) (v : Value), q.block = gs → Touch (fun j => j = gs) a b → Touch (fun j => j = gs) a (b.setCell q v) := fun a b q v hq h => h.setCell (.inl hq) v
    unfold divided
    exact step _ _ _ _ rfl (step _ _ _ _ rfl (step _ _ _ _ rfl (Touch.refl _ w)))
  have hout : ∀ q ∈ os.flatMap Og.foot ++ o.foot, ¬ q = gs := fun q hq e => (List.nodup_cons.1 hap).1 (e ▸ hq)
  have hrow := ((((hR.row.stored (os.length * 10 + 6) o.v).1).stored (os.length * 10 + 8) (.slice none 0 0)).1.stored (os.length * 10 + 9) (.bool true)).1
  rw [set_top, set_top, set_top] at hrow
  have hinner : ∀ q ∈ o.t.foot, q ∈ o.foot := fun q hq => by simp only [Og.foot, Og.inner, List.mem_append]; exact .inr (.inl hq)
  refine ⟨⟨⟨o.x.op, o.x.res, o.x.a, o.x.b, o.x.n, o.x.tags, o.x.ta, o.x.tc, a, o.t.len, c, o.x.ea, o.x.en, o.x.ec⟩, o.t, .nil, .slice none 0 0, true⟩, Ready.done ?_ (fun q hq => (h.each q (by simp [hq])).touch t1 (fun r hr => hout r (List.mem_append_left _ (List.mem_flatMap.2 ⟨q, hq, hr⟩)))) ⟨⟨trivial, ?_, h3, h4, ?_, h6, ?_, ?_, ?_, ?_⟩, rfl, .inl ⟨rfl, rfl⟩⟩ ?_, rfl⟩
  · simpa [Og.cells, Ix.vals, divided, hv] using hrow
  · refine ListAt.more t1.size (hl.touch t1 (fun q hq => ?_))
    rcases List.mem_append.1 hq with hq | hq
    · exact hout q (List.mem_append_right _ (List.mem_append_left _ (hbl q hq)))
    · exact hout q (List.mem_append_right _ (hinner q hq))
  · exact ⟨h5.op, h5.res, h5.a, h5.b, h5.n, h5.tags, h5.tn, by simp only; omega, h5.en⟩
  · intro h; cases h
  · intro q hq
    simp only [Og.inner, Il.foot, List.nil_append] at hq
    rcases List.mem_append.1 hq with hq | hq
    · exact hlow q (List.mem_append_left _ (hbl q hq))
    · exact hlow q (hinner q hq)
  · simp [Il.len]
  · intro q hq
    simp only [Og.inner, Il.foot, List.nil_append] at hq
    rcases List.mem_append.1 hq with hq | hq
    · exact (hsoft q (List.mem_append_left _ (hbl q hq))).touch t1 (hout q (List.mem_append_right _ (List.mem_append_left _ (hbl q hq))))
    · exact (hsoft q (hinner q hq)).touch t1 (hout q (List.mem_append_right _ (hinner q hq)))
  · refine List.Nodup.sublist (List.Sublist.cons_cons _ (List.Sublist.append (List.Sublist.refl _) ?_)) hap
    simp only [Og.foot, Og.inner, rowBlk, Value.ownBlock, Il.foot, List.nil_append, hfl, List.append_nil]
    rw [hb]
    split
    · simp only [List.nil_append]
      exact (List.sublist_append_left _ _).trans (List.sublist_append_right _ _)
    · exact List.Sublist.append (List.Sublist.refl _) (List.sublist_append_left _ _)

/-- The owner, all of which has been read, with its lists where they lie. -/
def Og.ox (o : Og) (a : Option Addr) (c : Nat) : Ix :=
  if o.oth then ⟨o.x.op, o.x.res, o.x.a, o.x.b, o.x.n, o.x.tags, o.x.ta, o.x.tc, o.x.la, o.x.ln, o.x.lc, a, o.t.len, c⟩
  else ⟨o.x.op, o.x.res, o.x.a, o.x.b, o.x.n, o.x.tags, o.x.ta, o.x.tc, a, o.t.len, c, o.x.ea, o.x.en, o.x.ec⟩
def Og.ol (o : Og) : Il := if o.oth then o.fl else o.t
def Og.oe (o : Og) : Il := if o.oth then o.t else .nil
def zeroI : Value := .agg #[.int .i64 0, .int .i64 0, .int .u32 0, .int .u32 0, .int .i32 0, .slice none 0 0, .slice none 0 0, .slice none 0 0]
theorem infoI : (Tryd.prog.info? 61).map (fun i => (i.zero, i.size, i.bytes)) = some (some zeroI, 8, 104) := by kernel_rfl

section
variable {ops : Array Oper} {o : Oper} {act : Act} {K : Act → World → Prop} {Q : Exit → Act → World → Prop} {E : Prop}
/-- A nought is appended to a list of one's own, in a region that draws its order. -/
theorem step_append_zero (hgd : o.guard = none) (s x : Operand) (ho : o.op = .call { callee := .builtin .append, args := #[s, x], argTypes := #[22, 22] })
    {base : Nat} {w : World} {v : Value} {t : Il} {g : Nat} (hs : act.eval s = v) (hx : act.eval x = .slice (some ⟨g, 0, none⟩) 1 1) (hz : ∀ j u, zeroX.vals.toList[j]? = some u → w.cell? ⟨g, j, none⟩ = some u)
    (hown : w.ownsRow base 61 8 v t.len t.cells) (hn : t.len < 4000000) (hbase : base ≤ w.heap.size)
    (h : ∀ g' cap' w', w'.ownsRow base 61 8 (.slice (some ⟨g', 0, none⟩) (t.len + 1) cap') (t.len + 1) (t.cells ++ zeroX.vals.toList) → w.grownBy w' v.ownBlock → (v.ownBlock = some g' ∨ g' = w.heap.size) → g' < w'.heap.size → K (act.put o.dst (.slice (some ⟨g', 0, none⟩) (t.len + 1) cap')) w') :
    if Region.wanted o (yielded ops act.tmps) = true then Oper.wp Tryd.prog o act w K Q else E := by
  obtain ⟨i0, hi, hz0, hz1, hz2⟩ := info_parts infoI
  refine step_append_lies w hgd s x 22 ho base 61 i0 zeroI 8 104 Tryd.underlying22 hi hz0 hz1 hz2 rfl (by decide) v t.len t.cells hs hown ⟨g, 0, none⟩ 1 1 zeroX.vals.toList hx rfl (fun j u hj => by rw [plain_add]; exact hz j u hj) ?_ (by decide) (by unfold maxLen; omega) (by omega) hbase _ rfl h
  intro u hu
  simp [zeroX, plainX, Ix.vals] at hu
  rcases hu with rfl | rfl | rfl | rfl <;> rfl
end
end Go.Proofs.YtlfflomeaplidaaDoor.Body

/-
  BODY: closeTop, by contract.
-/
namespace Go.Proofs.YtlfflomeaplidaaDoor.Body
open Go.RowKit Go.Proofs.YtlfflomeaplidaaDoor.Instr
open Go.Proofs.YtlfflomeaplidaaDoor.Kind (Rd numR refuseR startR numR_good numR_bounds refuseR_good getL_next)

/-- The cells that an append to an open list's slice reads: that slice, and the instruction. -/
def Tops (gs p T : Nat) (gv : Value) (y : Ix) (w : World) : Prop := w.cell? ⟨gs, p, none⟩ = some gv ∧ At y T w
theorem Tops.touch {gs p T : Nat} {gv : Value} {y : Ix} {S : Nat → Prop} {w w' : World} (h : Tops gs p T gv y w) (ht : Touch S w w') (h1 : ¬ S gs) (h2 : ¬ S T) : w'.cell? ⟨gs, p, none⟩ = some gv ∧ w'.cell? ⟨T, 0, none⟩ = some (.int .i64 y.op) ∧ w'.cell? ⟨T, 1, none⟩ = some (.int .i64 y.res) ∧
    w'.cell? ⟨T, 2, none⟩ = some (.int .u32 y.a) ∧ w'.cell? ⟨T, 3, none⟩ = some (.int .u32 y.b) ∧ w'.cell? ⟨T, 4, none⟩ = some (.int .i32 y.n) ∧ w'.cell? ⟨T, 5, none⟩ = some (.slice y.ta y.tags.length y.tc) ∧ w'.cell? ⟨T, 6, none⟩ = some (.slice y.la y.ln y.lc) ∧ w'.cell? ⟨T, 7, none⟩ = some (.slice y.ea y.en y.ec) := by
  obtain ⟨h0, ⟨c0, c1, c2, c3, c4, c5, c6, c7⟩⟩ := h
  exact ⟨ht.cell h1 h0, ht.cell h2 c0, ht.cell h2 c1, ht.cell h2 c2, ht.cell h2 c3, ht.cell h2 c4, ht.cell h2 c5, ht.cell h2 c6, ht.cell h2 c7⟩
theorem Tops.keep {gs p T : Nat} {gv : Value} {y : Ix} {w w' : World} (h : Tops gs p T gv y w) (ht : Touch (fun j => j ≠ T) w w') : w'.cell? ⟨T, 0, none⟩ = some (.int .i64 y.op) ∧ w'.cell? ⟨T, 1, none⟩ = some (.int .i64 y.res) ∧
    w'.cell? ⟨T, 2, none⟩ = some (.int .u32 y.a) ∧ w'.cell? ⟨T, 3, none⟩ = some (.int .u32 y.b) ∧ w'.cell? ⟨T, 4, none⟩ = some (.int .i32 y.n) ∧ w'.cell? ⟨T, 5, none⟩ = some (.slice y.ta y.tags.length y.tc) ∧ w'.cell? ⟨T, 6, none⟩ = some (.slice y.la y.ln y.lc) ∧ w'.cell? ⟨T, 7, none⟩ = some (.slice y.ea y.en y.ec) := by
  obtain ⟨_, ⟨c0, c1, c2, c3, c4, c5, c6, c7⟩⟩ := h
  have n : ¬ T ≠ T := fun h => h rfl
  exact ⟨ht.cell n c0, ht.cell n c1, ht.cell n c2, ht.cell n c3, ht.cell n c4, ht.cell n c5, ht.cell n c6, ht.cell n c7⟩
theorem tset {T : Nat} {a b : World} {p : Addr} {v : Value} (h : Touch (fun j => j ≠ T) a b) (hp : p.block ≠ T) : Touch (fun j => j ≠ T) a (b.setCell p v) := h.setCell (.inl hp) v
theorem zero_cells (w : World) : ∀ j u, zeroX.vals.toList[j]? = some u → (w.alloc (.cells #[.int .i64 0, .int .i64 0, .int .u32 0, .int .u32 0, .int .i32 0, .slice none 0 0, .slice none 0 0, .slice none 0 0] 61)).cell? ⟨w.heap.size, j, none⟩ = some u := by
  intro j u hj
  have hm := (bx_made zeroX w).at_
  match j, hj with
  | 0, hj => simp [zeroX, plainX, Ix.vals] at hj; subst hj; exact hm.c0
  | 1, hj => simp [zeroX, plainX, Ix.vals] at hj; subst hj; exact hm.c1
  | 2, hj => simp [zeroX, plainX, Ix.vals] at hj; subst hj; exact hm.c2
  | 3, hj => simp [zeroX, plainX, Ix.vals] at hj; subst hj; exact hm.c3
  | 4, hj => simp [zeroX, plainX, Ix.vals] at hj; subst hj; exact hm.c4
  | 5, hj => simp [zeroX, plainX, Ix.vals] at hj; subst hj; exact hm.c5
  | 6, hj => simp [zeroX, plainX, Ix.vals] at hj; subst hj; exact hm.c6
  | 7, hj => simp [zeroX, plainX, Ix.vals] at hj; subst hj; exact hm.c7
  | j + 8, hj => simp [zeroX, plainX, Ix.vals] at hj

theorem setCell_comm (w : World) {p q : Addr} (u v : Value) (h : p.block ≠ q.block) : (w.setCell p u).setCell q v = (w.setCell q v).setCell p u := by
  unfold World.setCell
  simp only [World.mk.injEq, and_self, and_true]
  apply Array.ext_getElem?
  intro i
  simp only [Array.getElem?_modify]
  by_cases h1 : p.block = i
  · have h2 : ¬ q.block = i := fun e => h (h1.trans e.symm)
    simp [h1, h2]
  · by_cases h2 : q.block = i
    · simp [h1, h2]
    · simp [h1, h2]
theorem store8_comm (w : World) {g off gs p : Nat} (x : Ix) (v : Value) (h : g ≠ gs) : store8 (w.setCell ⟨gs, p, none⟩ v) g off x = (store8 w g off x).setCell ⟨gs, p, none⟩ v := by
  unfold store8
  have c : ∀ (W : World) (j : Nat) (u : Value), (W.setCell ⟨gs, p, none⟩ v).setCell ⟨g, j, none⟩ u = (W.setCell ⟨g, j, none⟩ u).setCell ⟨gs, p, none⟩ v := fun W j u => setCell_comm W v u (fun e => h e.symm)
  rw [c, c, c, c, c, c, c, c]
theorem store8_A (w : World) (g off gs p : Nat) (x : Ix) (v : Value) : ((((((((w.setCell ⟨g, off, none⟩ (.int .i64 x.op)).setCell ⟨g, off + 1, none⟩ (.int .i64 x.res)).setCell ⟨g, off + 2, none⟩ (.int .u32 x.a)).setCell ⟨g, off + 3, none⟩ (.int .u32 x.b)).setCell ⟨g, off + 4, none⟩ (.int .i32 x.n)).setCell
    ⟨g, off + 5, none⟩ (.slice x.ta x.tags.length x.tc)).setCell ⟨g, off + 6, none⟩ (.slice x.la x.ln x.lc)).setCell ⟨g, off + 7, none⟩ (.slice x.ea x.en x.ec)).setCell ⟨gs, p, none⟩ v = (store8 w g off x).setCell ⟨gs, p, none⟩ v := rfl
theorem store8_B (w : World) (g off gs p : Nat) (x : Ix) (v : Value) (h : g ≠ gs) : ((((((((w.setCell ⟨gs, p, none⟩ v).setCell ⟨g, off, none⟩ (.int .i64 x.op)).setCell ⟨g, off + 1, none⟩ (.int .i64 x.res)).setCell ⟨g, off + 2, none⟩ (.int .u32 x.a)).setCell ⟨g, off + 3, none⟩ (.int .u32 x.b)).setCell ⟨g, off + 4, none⟩ (.int .i32 x.n)).setCell
    ⟨g, off + 5, none⟩ (.slice x.ta x.tags.length x.tc)).setCell ⟨g, off + 6, none⟩ (.slice x.la x.ln x.lc)).setCell ⟨g, off + 7, none⟩ (.slice x.ea x.en x.ec) = (store8 w g off x).setCell ⟨gs, p, none⟩ v := store8_comm w x v h
/-- What an item more leaves: the top list's slice, its cells, and the stack's cell. -/
def Itemed (base gs p : Nat) (y : Ix) (ga : Option Addr) (gc : Nat) (gt : Il) (w w' : World) : Prop :=
  ∃ w1 g' cap', Touch (fun j => Value.ownBlock (.slice ga gt.len gc) = some j) w w1 ∧ w1.ownsRow base 61 8 (.slice (some ⟨g', 0, none⟩) (gt.len + 1) cap') (gt.len + 1) (gt.cells ++ zeroX.vals.toList) ∧ (Value.ownBlock (.slice ga gt.len gc) = some g' ∨ w.heap.size ≤ g') ∧
    w' = (store8 w1 g' (gt.len * 8) y).setCell ⟨gs, p, none⟩ (.slice (some ⟨g', 0, none⟩) (gt.len + 1) cap')
def Closed (base m gs cap : Nat) (y : Ix) (ga : Option Addr) (gc : Nat) (gt : Il) (w : World) (e : Ending) (w' : World) : Prop := e = .returned (.slice (some ⟨gs, 0, none⟩) (m + 1) cap) ∧ Itemed base gs (m * 10 + 8) y ga gc gt w w'
/-- What the eight cells hold that were appended, and that they may be written. -/
theorem zero_at {w : World} {base g cap : Nat} {t : Il} (h : w.ownsRow base 61 8 (.slice (some ⟨g, 0, none⟩) (t.len + 1) cap) (t.len + 1) (t.cells ++ zeroX.vals.toList)) :
    (w.cell? ⟨g, t.len * 8, none⟩ = some (.int .i64 0) ∧ w.cell? ⟨g, t.len * 8 + 1, none⟩ = some (.int .i64 0) ∧ w.cell? ⟨g, t.len * 8 + 2, none⟩ = some (.int .u32 0) ∧ w.cell? ⟨g, t.len * 8 + 3, none⟩ = some (.int .u32 0) ∧ w.cell? ⟨g, t.len * 8 + 4, none⟩ = some (.int .i32 0) ∧
      w.cell? ⟨g, t.len * 8 + 5, none⟩ = some (.slice none 0 0) ∧ w.cell? ⟨g, t.len * 8 + 6, none⟩ = some (.slice none 0 0) ∧ w.cell? ⟨g, t.len * 8 + 7, none⟩ = some (.slice none 0 0)) ∧
    (w.frozen? ⟨g, t.len * 8, none⟩ = false ∧ w.frozen? ⟨g, t.len * 8 + 1, none⟩ = false ∧ w.frozen? ⟨g, t.len * 8 + 2, none⟩ = false ∧ w.frozen? ⟨g, t.len * 8 + 3, none⟩ = false ∧ w.frozen? ⟨g, t.len * 8 + 4, none⟩ = false ∧ w.frozen? ⟨g, t.len * 8 + 5, none⟩ = false ∧ w.frozen? ⟨g, t.len * 8 + 6, none⟩ = false ∧ w.frozen? ⟨g, t.len * 8 + 7, none⟩ = false) := by
  have c : ∀ j u, j < 8 → zeroX.vals.toList[j]? = some u → w.cell? ⟨g, t.len * 8 + j, none⟩ = some u := by
    intro j u hj hu
    rw [h.cellAt (t.len * 8 + j) (by omega), List.getElem?_append_right (by rw [cells_length]; omega), cells_length, show t.len * 8 + j - t.len * 8 = j by omega]
    exact hu
  exact ⟨⟨c 0 _ (by omega) rfl, c 1 _ (by omega) rfl, c 2 _ (by omega) rfl, c 3 _ (by omega) rfl, c 4 _ (by omega) rfl, c 5 _ (by omega) rfl, c 6 _ (by omega) rfl, c 7 _ (by omega) rfl⟩,
    h.frozenAt _, h.frozenAt _, h.frozenAt _, h.frozenAt _, h.frozenAt _, h.frozenAt _, h.frozenAt _, h.frozenAt _⟩

set_option maxHeartbeats 3200000 in
theorem closeTop_two (base m gs cap : Nat) (x : Ix) (a : Option Addr) (n c : Nat) (ga : Option Addr) (gc : Nat) (gt : Il) (w : World) (hm : m ≤ 1000)
    (c0 : w.cell? ⟨gs, (m + 1) * 10, none⟩ = some (.int .i64 x.op)) (c1 : w.cell? ⟨gs, (m + 1) * 10 + 1, none⟩ = some (.int .i64 x.res)) (c2 : w.cell? ⟨gs, (m + 1) * 10 + 2, none⟩ = some (.int .u32 x.a)) (c3 : w.cell? ⟨gs, (m + 1) * 10 + 3, none⟩ = some (.int .u32 x.b))
    (c4 : w.cell? ⟨gs, (m + 1) * 10 + 4, none⟩ = some (.int .i32 x.n)) (c5 : w.cell? ⟨gs, (m + 1) * 10 + 5, none⟩ = some (.slice x.ta x.tags.length x.tc)) (c6 : w.cell? ⟨gs, (m + 1) * 10 + 6, none⟩ = some (.slice x.la x.ln x.lc)) (c7 : w.cell? ⟨gs, (m + 1) * 10 + 7, none⟩ = some (.slice x.ea x.en x.ec))
    (c8 : w.cell? ⟨gs, (m + 1) * 10 + 8, none⟩ = some (.slice a n c)) (c9 : w.cell? ⟨gs, (m + 1) * 10 + 9, none⟩ = some (.bool true)) (hcap : m + 2 ≤ cap) (_hcap2 : cap ≤ 9223372036854775807)
    (g8 : w.cell? ⟨gs, m * 10 + 8, none⟩ = some (.slice ga gt.len gc)) (gf : w.frozen? ⟨gs, m * 10 + 8, none⟩ = false) (hgn : gt.len < 4000000) (hown : w.ownsRow base 61 8 (.slice ga gt.len gc) gt.len gt.cells) (hbase : base ≤ w.heap.size) (hne : ∀ q, Value.ownBlock (.slice ga gt.len gc) = some q → q ≠ gs) :
    Calls Tryd.prog 112 #[.slice (some ⟨gs, 0, none⟩) (m + 2) cap] w (Closed base m gs cap ⟨x.op, x.res, x.a, x.b, x.n, x.tags, x.ta, x.tc, x.la, x.ln, x.lc, a, n, c⟩ ga gc gt w) := by
  have hgs : gs < w.heap.size := World.block_lt_of_cell? w _ g8
  have hT : Tops gs (m * 10 + 8) w.heap.size (.slice ga gt.len gc) ⟨x.op, x.res, x.a, x.b, x.n, x.tags, x.ta, x.tc, x.la, x.ln, x.lc, a, n, c⟩ (w.alloc (.cells #[.int .i64 x.op, .int .i64 x.res, .int .u32 x.a, .int .u32 x.b, .int .i32 x.n, .slice x.ta x.tags.length x.tc, .slice x.la x.ln x.lc, .slice a n c, .slice a n c, .bool true] 148)) := by
    refine ⟨keepA g8 _, ?_⟩
    constructor <;> simp [go_sem]
  have hto : Touch (fun _ => False) w (w.alloc (.cells #[.int .i64 x.op, .int .i64 x.res, .int .u32 x.a, .int .u32 x.b, .int .i32 x.n, .slice x.ta x.tags.length x.tc, .slice x.la x.ln x.lc, .slice a n c, .slice a n c, .bool true] 148)) := (Touch.refl _ w).alloc _
  have hsz : w.heap.size < (w.alloc (.cells #[.int .i64 x.op, .int .i64 x.res, .int .u32 x.a, .int .u32 x.b, .int .i32 x.n, .slice x.ta x.tags.length x.tc, .slice x.la x.ln x.lc, .slice a n c, .slice a n c, .bool true] 148)).heap.size := by simp
  have hfz : (w.alloc (.cells #[.int .i64 x.op, .int .i64 x.res, .int .u32 x.a, .int .u32 x.b, .int .i32 x.n, .slice x.ta x.tags.length x.tc, .slice x.la x.ln x.lc, .slice a n c, .slice a n c, .bool true] 148)).frozen? ⟨gs, m * 10 + 8, none⟩ = false := (((Below.refl w.heap.size w).alloc (Nat.le_refl _) _).frozen (p := ⟨gs, m * 10 + 8, none⟩) hgs).trans gf
  have HT := hid hT
  have HS := hid hsz
  have HTO := hid hto
  have HW := hid (fun (q : Nat) (h : Value.ownBlock (.slice ga gt.len gc) = some q) => (World.ownsRow.lt hown q h).2)
  clear hT hsz hto gf
  go_enter Tryd.func112, Tryd.ntmps112
  go_wp2
  generalize w.alloc (.cells #[.int .i64 x.op, .int .i64 x.res, .int .u32 x.a, .int .u32 x.b, .int .i32 x.n, .slice x.ta x.tags.length x.tc, .slice x.la x.ln x.lc, .slice a n c, .slice a n c, .bool true] 148) = W0 at *
  clear c0 c1 c2 c3 c4 c5 c6 c7 c8 c9 g8
  have t8 := HT.out.1
  have t8z := keepA t8 (.cells #[.int .i64 0, .int .i64 0, .int .u32 0, .int .u32 0, .int .i32 0, .slice none 0 0, .slice none 0 0, .slice none 0 0] 61)
  have hgT : gs ≠ w.heap.size := by omega
  have hO := touch_row hown (HTO.out.trans ((Touch.of_below (S := fun _ => False) ((Below.refl W0.heap.size W0).alloc (Nat.le_refl _) (.cells #[.int .i64 0, .int .i64 0, .int .u32 0, .int .u32 0, .int .i32 0, .slice none 0 0, .slice none 0 0, .slice none 0 0] 61)).drew))) (fun _ _ h => h)
  have HO := hid hO
  have HZ := hid (zero_cells W0)
  have HB : Hid (base ≤ ((W0.alloc (.cells #[.int .i64 0, .int .i64 0, .int .u32 0, .int .u32 0, .int .i32 0, .slice none 0 0, .slice none 0 0, .slice none 0 0] 61)).drew).heap.size) := by have := HS.out; show _ ≤ _; simp; omega
  have TZ : Hid (Touch (fun j => Value.ownBlock (.slice ga gt.len gc) = some j) W0 ((W0.alloc (.cells #[.int .i64 0, .int .i64 0, .int .u32 0, .int .u32 0, .int .i32 0, .slice none 0 0, .slice none 0 0, .slice none 0 0] 61)).drew)) := hid (Touch.of_below ((Below.refl W0.heap.size W0).alloc (Nat.le_refl _) _).drew)
  have HN := hid hne
  have TA : Hid (Touch (fun j => j ≠ w.heap.size) W0 ((W0.alloc (.cells #[.int .i64 0, .int .i64 0, .int .u32 0, .int .u32 0, .int .i32 0, .slice none 0 0, .slice none 0 0, .slice none 0 0] 61)).drew)) := hid (Touch.of_below ((Below.refl W0.heap.size W0).alloc (Nat.le_refl _) _).drew)
  clear hO hown hbase hne
  obtain ⟨d0, d1, d2, d3, d4, d5, d6, d7⟩ := HT.out.keep (Touch.refl (fun j => j ≠ w.heap.size) W0)
  obtain ⟨z0, z1, z2, z3, z4, z5, z6, z7⟩ := HT.out.keep TA.out
  have hlt1 : (gt.len : Int) < (gt.len : Int) + 1 := by omega
  go_region_law
    (first
      | (refine step_append_zero rfl (.tmp 34) (.tmp 38) rfl (base := base) (t := gt) (g := W0.heap.size) rfl rfl HZ.out HO.out hgn HB.out ?_
         intro g' cap' w1 hown1 hgrow hat hlt
         have ht2 := hid (TZ.out.trans (Touch.of_grown hgrow))
         have hg'T : g' ≠ w.heap.size := by
           rcases hat with h | h
           · have := HW.out _ h; omega
           · have := HS.out; simp at h; omega
         have ht1 : Touch (fun j => j ≠ w.heap.size) W0 w1 := ht2.out.mono (fun j hj => by have := HW.out _ hj; omega)
         have hgg : g' ≠ gs := by
           rcases hat with h | h
           · exact HN.out _ h
           · have := HS.out; simp at h; omega
         have f8 : w1.frozen? ⟨gs, m * 10 + 8, none⟩ = false := (World.frozen?_of_block (w := W0) (ht2.out.block gs (by have := HS.out; omega) (fun h => HN.out _ h rfl))).trans hfz
         have f8c : w1.cell? ⟨gs, m * 10 + 8, none⟩ = some (.slice ga gt.len gc) := ht2.out.cell (fun h => HN.out _ h rfl) t8
         obtain ⟨⟨k0, k1, k2, k3, k4, k5, k6, k7⟩, q0, q1, q2, q3, q4, q5, q6, q7⟩ := zero_at hown1))
  all_goals go_wp2
  all_goals go_ret
  all_goals
    refine ⟨rfl, w1, g', cap', (HTO.out.mono (fun _ h => h.elim)).trans ht2.out, hown1, ?_, ?_⟩
    · rcases hat with h | h
      · exact .inl h
      · refine .inr ?_
        have := HS.out
        simp at h
        omega
    · first
        | with_reducible exact store8_A w1 g' _ gs _ ⟨x.op, x.res, x.a, x.b, x.n, x.tags, x.ta, x.tc, x.la, x.ln, x.lc, a, n, c⟩ _
        | with_reducible exact store8_B w1 g' _ gs _ ⟨x.op, x.res, x.a, x.b, x.n, x.tags, x.ta, x.tc, x.la, x.ln, x.lc, a, n, c⟩ _ hgg
set_option maxHeartbeats 3200000 in
theorem closeTop_one (base m gs cap : Nat) (x : Ix) (a : Option Addr) (n c : Nat) (ga : Option Addr) (gc : Nat) (gt : Il) (w : World) (hm : m ≤ 1000)
    (c0 : w.cell? ⟨gs, (m + 1) * 10, none⟩ = some (.int .i64 x.op)) (c1 : w.cell? ⟨gs, (m + 1) * 10 + 1, none⟩ = some (.int .i64 x.res)) (c2 : w.cell? ⟨gs, (m + 1) * 10 + 2, none⟩ = some (.int .u32 x.a)) (c3 : w.cell? ⟨gs, (m + 1) * 10 + 3, none⟩ = some (.int .u32 x.b))
    (c4 : w.cell? ⟨gs, (m + 1) * 10 + 4, none⟩ = some (.int .i32 x.n)) (c5 : w.cell? ⟨gs, (m + 1) * 10 + 5, none⟩ = some (.slice x.ta x.tags.length x.tc)) (c6 : w.cell? ⟨gs, (m + 1) * 10 + 6, none⟩ = some (.slice x.la x.ln x.lc)) (c7 : w.cell? ⟨gs, (m + 1) * 10 + 7, none⟩ = some (.slice x.ea x.en x.ec))
    (c8 : w.cell? ⟨gs, (m + 1) * 10 + 8, none⟩ = some (.slice a n c)) (c9 : w.cell? ⟨gs, (m + 1) * 10 + 9, none⟩ = some (.bool false)) (hcap : m + 2 ≤ cap) (_hcap2 : cap ≤ 9223372036854775807)
    (g8 : w.cell? ⟨gs, m * 10 + 8, none⟩ = some (.slice ga gt.len gc)) (gf : w.frozen? ⟨gs, m * 10 + 8, none⟩ = false) (hgn : gt.len < 4000000) (hown : w.ownsRow base 61 8 (.slice ga gt.len gc) gt.len gt.cells) (hbase : base ≤ w.heap.size) (hne : ∀ q, Value.ownBlock (.slice ga gt.len gc) = some q → q ≠ gs) :
    Calls Tryd.prog 112 #[.slice (some ⟨gs, 0, none⟩) (m + 2) cap] w (Closed base m gs cap ⟨x.op, x.res, x.a, x.b, x.n, x.tags, x.ta, x.tc, a, n, c, x.ea, x.en, x.ec⟩ ga gc gt w) := by
  have hgs : gs < w.heap.size := World.block_lt_of_cell? w _ g8
  have hT : Tops gs (m * 10 + 8) w.heap.size (.slice ga gt.len gc) ⟨x.op, x.res, x.a, x.b, x.n, x.tags, x.ta, x.tc, a, n, c, x.ea, x.en, x.ec⟩ (w.alloc (.cells #[.int .i64 x.op, .int .i64 x.res, .int .u32 x.a, .int .u32 x.b, .int .i32 x.n, .slice x.ta x.tags.length x.tc, .slice a n c, .slice x.ea x.en x.ec, .slice a n c, .bool false] 148)) := by
    refine ⟨keepA g8 _, ?_⟩
    constructor <;> simp [go_sem]
  have hto : Touch (fun _ => False) w (w.alloc (.cells #[.int .i64 x.op, .int .i64 x.res, .int .u32 x.a, .int .u32 x.b, .int .i32 x.n, .slice x.ta x.tags.length x.tc, .slice a n c, .slice x.ea x.en x.ec, .slice a n c, .bool false] 148)) := (Touch.refl _ w).alloc _
  have hsz : w.heap.size < (w.alloc (.cells #[.int .i64 x.op, .int .i64 x.res, .int .u32 x.a, .int .u32 x.b, .int .i32 x.n, .slice x.ta x.tags.length x.tc, .slice a n c, .slice x.ea x.en x.ec, .slice a n c, .bool false] 148)).heap.size := by simp
  have hfz : (w.alloc (.cells #[.int .i64 x.op, .int .i64 x.res, .int .u32 x.a, .int .u32 x.b, .int .i32 x.n, .slice x.ta x.tags.length x.tc, .slice a n c, .slice x.ea x.en x.ec, .slice a n c, .bool false] 148)).frozen? ⟨gs, m * 10 + 8, none⟩ = false := (((Below.refl w.heap.size w).alloc (Nat.le_refl _) _).frozen (p := ⟨gs, m * 10 + 8, none⟩) hgs).trans gf
  have HT := hid hT
  have HS := hid hsz
  have HTO := hid hto
  have HW := hid (fun (q : Nat) (h : Value.ownBlock (.slice ga gt.len gc) = some q) => (World.ownsRow.lt hown q h).2)
  clear hT hsz hto gf
  go_enter Tryd.func112, Tryd.ntmps112
  go_wp2
  generalize w.alloc (.cells #[.int .i64 x.op, .int .i64 x.res, .int .u32 x.a, .int .u32 x.b, .int .i32 x.n, .slice x.ta x.tags.length x.tc, .slice a n c, .slice x.ea x.en x.ec, .slice a n c, .bool false] 148) = W0 at *
  clear c0 c1 c2 c3 c4 c5 c6 c7 c8 c9 g8
  have t8 := HT.out.1
  have t8z := keepA t8 (.cells #[.int .i64 0, .int .i64 0, .int .u32 0, .int .u32 0, .int .i32 0, .slice none 0 0, .slice none 0 0, .slice none 0 0] 61)
  have hgT : gs ≠ w.heap.size := by omega
  have hO := touch_row hown (HTO.out.trans ((Touch.of_below (S := fun _ => False) ((Below.refl W0.heap.size W0).alloc (Nat.le_refl _) (.cells #[.int .i64 0, .int .i64 0, .int .u32 0, .int .u32 0, .int .i32 0, .slice none 0 0, .slice none 0 0, .slice none 0 0] 61)).drew))) (fun _ _ h => h)
  have HO := hid hO
  have HZ := hid (zero_cells W0)
  have HB : Hid (base ≤ ((W0.alloc (.cells #[.int .i64 0, .int .i64 0, .int .u32 0, .int .u32 0, .int .i32 0, .slice none 0 0, .slice none 0 0, .slice none 0 0] 61)).drew).heap.size) := by have := HS.out; show _ ≤ _; simp; omega
  have TZ : Hid (Touch (fun j => Value.ownBlock (.slice ga gt.len gc) = some j) W0 ((W0.alloc (.cells #[.int .i64 0, .int .i64 0, .int .u32 0, .int .u32 0, .int .i32 0, .slice none 0 0, .slice none 0 0, .slice none 0 0] 61)).drew)) := hid (Touch.of_below ((Below.refl W0.heap.size W0).alloc (Nat.le_refl _) _).drew)
  have HN := hid hne
  have TA : Hid (Touch (fun j => j ≠ w.heap.size) W0 ((W0.alloc (.cells #[.int .i64 0, .int .i64 0, .int .u32 0, .int .u32 0, .int .i32 0, .slice none 0 0, .slice none 0 0, .slice none 0 0] 61)).drew)) := hid (Touch.of_below ((Below.refl W0.heap.size W0).alloc (Nat.le_refl _) _).drew)
  clear hO hown hbase hne
  obtain ⟨d0, d1, d2, d3, d4, d5, d6, d7⟩ := HT.out.keep (Touch.refl (fun j => j ≠ w.heap.size) W0)
  obtain ⟨z0, z1, z2, z3, z4, z5, z6, z7⟩ := HT.out.keep TA.out
  have hlt1 : (gt.len : Int) < (gt.len : Int) + 1 := by omega
  go_region_law
    (first
      | (refine step_append_zero rfl (.tmp 34) (.tmp 38) rfl (base := base) (t := gt) (g := W0.heap.size) rfl rfl HZ.out HO.out hgn HB.out ?_
         intro g' cap' w1 hown1 hgrow hat hlt
         have ht2 := hid (TZ.out.trans (Touch.of_grown hgrow))
         have hg'T : g' ≠ w.heap.size := by
           rcases hat with h | h
           · have := HW.out _ h; omega
           · have := HS.out; simp at h; omega
         have ht1 : Touch (fun j => j ≠ w.heap.size) W0 w1 := ht2.out.mono (fun j hj => by have := HW.out _ hj; omega)
         have hgg : g' ≠ gs := by
           rcases hat with h | h
           · exact HN.out _ h
           · have := HS.out; simp at h; omega
         have f8 : w1.frozen? ⟨gs, m * 10 + 8, none⟩ = false := (World.frozen?_of_block (w := W0) (ht2.out.block gs (by have := HS.out; omega) (fun h => HN.out _ h rfl))).trans hfz
         have f8c : w1.cell? ⟨gs, m * 10 + 8, none⟩ = some (.slice ga gt.len gc) := ht2.out.cell (fun h => HN.out _ h rfl) t8
         obtain ⟨⟨k0, k1, k2, k3, k4, k5, k6, k7⟩, q0, q1, q2, q3, q4, q5, q6, q7⟩ := zero_at hown1))
  all_goals go_wp2
  all_goals go_ret
  all_goals
    refine ⟨rfl, w1, g', cap', (HTO.out.mono (fun _ h => h.elim)).trans ht2.out, hown1, ?_, ?_⟩
    · rcases hat with h | h
      · exact .inl h
      · refine .inr ?_
        have := HS.out
        simp at h
        omega
    · first
        | with_reducible exact store8_A w1 g' _ gs _ ⟨x.op, x.res, x.a, x.b, x.n, x.tags, x.ta, x.tc, a, n, c, x.ea, x.en, x.ec⟩ _
        | with_reducible exact store8_B w1 g' _ gs _ ⟨x.op, x.res, x.a, x.b, x.n, x.tags, x.ta, x.tc, a, n, c, x.ea, x.en, x.ec⟩ _ hgg
end Go.Proofs.YtlfflomeaplidaaDoor.Body

/-
  BODY: closeTop, by contract, on the stack of open lists.
-/
namespace Go.Proofs.YtlfflomeaplidaaDoor.Body
open Go.RowKit Go.Proofs.YtlfflomeaplidaaDoor.Instr
open Go.Proofs.YtlfflomeaplidaaDoor.Kind (Rd numR refuseR startR numR_good numR_bounds refuseR_good getL_next)

theorem own_blk {v : Value} {q : Nat} (h : v.ownBlock = some q) : q ∈ rowBlk v := by simp [rowBlk, h]
theorem blk_own {v : Value} {q : Nat} (h : q ∈ rowBlk v) : v.ownBlock = some q := by
  unfold rowBlk at h
  split at h
  · rename_i g hg; simp at h; rw [hg, h]
  · simp at h
/-- One item more in the top list, whichever row it lies in by then. -/
theorem StackOk.item {base : Nat} {w w' : World} {gs cap : Nat} {os : List Og} {o : Og} {y : Ix} {l e : Il} {ga : Option Addr} {gc : Nat} (h : StackOk base w gs cap (os ++ [o])) (hv : o.v = .slice ga o.t.len gc)
    (hI : Itemed base gs (os.length * 10 + 8) y ga gc o.t w w') (hy : (Il.cons y l e .nil).kids w) (hn : (Il.cons y l e .nil).foot.Nodup) (hlo : ∀ q ∈ (Il.cons y l e .nil).foot, base ≤ q ∧ q ∉ gs :: (os.flatMap Og.foot ++ o.foot)) (hfew : o.t.len < 4000000) (hsf : ∀ q ∈ (Il.cons y l e .nil).foot, Soft w q) :
    ∃ v', StackOk base w' gs cap (os ++ [⟨o.x, o.fl, o.t.app (.cons y l e .nil), v', o.oth⟩]) := by
  obtain ⟨w1, g', cap', ht, hown, hat, rfl⟩ := hI
  have hap := h.apart
  rw [List.flatMap_append, List.flatMap_cons, List.flatMap_nil, List.append_nil] at hap
  have hR := h.ready
  have hlt := hR.lt
  have hkl := kids_lt hy
  have hown2 : ∀ j, Value.ownBlock (.slice ga o.t.len gc) = some j → j ∈ rowBlk o.v := fun j hj => own_blk (by rw [hv]; exact hj)
  simp only [Og.foot, List.nodup_cons, List.mem_append, not_or, List.nodup_append] at hap
  obtain ⟨⟨n1, n2, n3⟩, m1, ⟨m2, m3, m4⟩, m5⟩ := hap
  have hS : ∀ q ∈ gs :: (os.flatMap Og.foot ++ o.inner), ¬ Value.ownBlock (.slice ga o.t.len gc) = some q := by
    intro q hq hj
    have hj := hown2 q hj
    rcases List.mem_cons.1 hq with rfl | hq
    · exact n2 hj
    · rcases List.mem_append.1 hq with hq | hq
      · exact m5 q hq q (.inl hj) rfl
      · exact m4 q hj q hq rfl
  have hR1 := hR.touch ht hS
  have hlo2 : ∀ q ∈ (Il.cons y l e .nil).foot, q ∉ gs :: (os.flatMap Og.foot ++ o.inner) := by
    intro q hq hm
    refine (hlo q hq).2 ?_
    rcases List.mem_cons.1 hm with rfl | hm
    · simp
    · rcases List.mem_append.1 hm with hm | hm
      · exact List.mem_cons_of_mem _ (List.mem_append_left _ hm)
      · exact List.mem_cons_of_mem _ (List.mem_append_right _ (List.mem_append_right _ hm))
  refine ⟨_, hR1.item hown (kids_touch ht hy (fun q hq hj => (hlo q hq).2 (List.mem_cons_of_mem _ (List.mem_append_right _ (List.mem_append_left _ (hown2 q hj)))))) hn (fun q hq => ⟨(hlo q hq).1, ?_, hlo2 q hq⟩) ?_ hfew (fun q hq => (hsf q hq).touch ht (fun hj => (hlo q hq).2 (List.mem_cons_of_mem _ (List.mem_append_right _ (List.mem_append_left _ (hown2 q hj))))))⟩
  · rintro rfl
    rcases hat with h | h
    · exact (hlo _ hq).2 (List.mem_cons_of_mem _ (List.mem_append_right _ (List.mem_append_left _ (hown2 _ h))))
    · have := hkl _ hq; omega
  · intro hm
    rcases hat with h | h
    · exact hS g' hm h
    · have := hlt g' hm; omega
theorem StackOk.pop {base : Nat} {w : World} {gs cap : Nat} {os : List Og} {o : Og} (h : StackOk base w gs cap (os ++ [o])) (_hne : 0 < os.length) : StackOk base w gs cap os := by
  have hr := h.row
  rw [flat_snoc, List.length_append] at hr
  have hr2 := ownsRow_pop (by rw [flat_ten]) hr
  refine ⟨hr2, fun q hq => h.each q (by simp [hq]), ?_⟩
  have hap := h.apart
  rw [List.flatMap_append] at hap
  exact List.Nodup.sublist (List.Sublist.cons_cons _ (List.sublist_append_left _ _)) hap
theorem StackOk.caps {base : Nat} {w : World} {gs cap : Nat} {os : List Og} (h : StackOk base w gs cap os) : os.length ≤ cap ∧ cap ≤ 9223372036854775807 := by
  rcases h.row.2 with ⟨h', _⟩ | ⟨g, c, cur, h', _, _, h1, h2, _⟩
  · cases h'
  · simp only [Value.slice.injEq] at h'
    obtain ⟨_, _, rfl⟩ := h'
    exact ⟨h1, by unfold maxLen at h2; omega⟩
theorem bare_nums {x : Ix} (h : x.tags = []) (hz : x.a = 0 ∧ x.b = 0 ∧ x.n = 0) : ∀ l e : Il, Ix.hold (plainX x.op x.res 0 0 0 []) l e = Ix.bare ⟨x.op, x.res, x.a, x.b, x.n, x.tags, x.ta, x.tc, none, l.len, 0, none, e.len, 0⟩ := by
  intro l e
  simp [Ix.hold, plainX, Ix.bare, h, hz.1, hz.2.1, hz.2.2]

theorem closeTop_any {base : Nat} {w : World} {gs cap : Nat} {os : List Og} {g o : Og} (h : StackOk base w gs cap (os ++ [g] ++ [o])) (hm : os.length ≤ 1000) (hfew : g.t.len < 4000000) (hb : base ≤ w.heap.size) :
    Calls Tryd.prog 112 #[.slice (some ⟨gs, 0, none⟩) (os.length + 2) cap] w fun e w' => e = .returned (.slice (some ⟨gs, 0, none⟩) (os.length + 1) cap) ∧ Below base w w' ∧
      ∃ g', StackOk base w' gs cap (os ++ [g']) ∧ g'.fr = ⟨g.fr.x, g.fr.fl, g.fr.t.app o.fr.one, g.fr.oth⟩ ∧ g'.t.len = g.t.len + 1 := by
  have ho := h.each o (by simp)
  have hp := h.pop (by simp)
  have hg := hp.each g (by simp)
  have hcaps := h.caps
  simp only [List.length_append, List.length_cons, List.length_nil] at hcaps
  obtain ⟨a, c, hov, hol, hbk⟩ := list_of_row ho.row ho.half.kids
  obtain ⟨ga, gc, hgv, hgl, _⟩ := list_of_row hg.row hg.half.kids
  have oc : ∀ {j : Nat}, j < 10 → w.cell? ⟨gs, (os.length + 1) * 10 + j, none⟩ = o.cells[j]? := fun {j} hj => by
    have := h.cell hj
    simpa using this
  have gc8 := hp.cell (j := 8) (by omega)
  have gf8 := World.ownsRow.frozenAt hp.row (os.length * 10 + 8)
  have hgr := hg.row
  rw [hgv] at hgr
  have hap := h.apart
  rw [List.flatMap_append, List.flatMap_append, List.flatMap_cons, List.flatMap_nil, List.append_nil, List.flatMap_cons, List.flatMap_nil, List.append_nil, List.append_assoc] at hap
  have hap0 := hap
  simp only [List.nodup_cons, List.mem_append, not_or, List.nodup_append] at hap
  obtain ⟨⟨n1, n2, n3⟩, m1, ⟨m2, m3, m4⟩, m5⟩ := hap
  have hne : ∀ q, Value.ownBlock (.slice ga g.t.len gc) = some q → q ≠ gs := by
    rintro q hq rfl
    exact n2 (List.mem_append_left _ (own_blk (by rw [hgv]; exact hq)))
  have hshape := ho.half
  have hwalk : Calls Tryd.prog 112 #[.slice (some ⟨gs, 0, none⟩) (os.length + 2) cap] w (Closed base os.length gs cap (o.ox a c) ga gc g.t w) := by
    unfold Og.ox
    cases hoth : o.oth
    · exact closeTop_one base os.length gs cap o.x a o.t.len c ga gc g.t w hm (oc (j := 0) (by omega)) (oc (j := 1) (by omega)) (oc (j := 2) (by omega)) (oc (j := 3) (by omega)) (oc (j := 4) (by omega)) (oc (j := 5) (by omega)) (oc (j := 6) (by omega)) (oc (j := 7) (by omega))
        (by rw [oc (j := 8) (by omega)]; simp [Og.cells, Ix.vals, hov]) (by rw [oc (j := 9) (by omega)]; simp [Og.cells, Ix.vals, hoth]) hcaps.1 hcaps.2 (by rw [gc8]; simp [Og.cells, Ix.vals, hgv]) gf8 hfew hgr hb hne
    · exact closeTop_two base os.length gs cap o.x a o.t.len c ga gc g.t w hm (oc (j := 0) (by omega)) (oc (j := 1) (by omega)) (oc (j := 2) (by omega)) (oc (j := 3) (by omega)) (oc (j := 4) (by omega)) (oc (j := 5) (by omega)) (oc (j := 6) (by omega)) (oc (j := 7) (by omega))
        (by rw [oc (j := 8) (by omega)]; simp [Og.cells, Ix.vals, hov]) (by rw [oc (j := 9) (by omega)]; simp [Og.cells, Ix.vals, hoth]) hcaps.1 hcaps.2 (by rw [gc8]; simp [Og.cells, Ix.vals, hgv]) gf8 hfew hgr hb hne
  refine hwalk.mono fun e w' ⟨he, hI⟩ => ⟨he, ?_, ?_⟩
  · obtain ⟨w1, g', cap', ht, _, hat, rfl⟩ := hI
    have hlow := hg.low
    have h1 : Below base w w1 := ht.below hb (fun j hj => hlow j (List.mem_append_left _ (own_blk (by rw [hgv]; exact hj))))
    have hgs := hp.low
    have hg' : base ≤ g' := by
      rcases hat with h | h
      · exact hlow g' (List.mem_append_left _ (own_blk (by rw [hgv]; exact h)))
      · omega
    exact (h1.trans ((store8_touch w1 g' (g.t.len * 8) (o.ox a c)).below (Nat.le_trans hb ht.size) (fun j hj => by have hj' : j = g' := hj; omega))).setCell hgs.1 _
  · -- the item's own blocks
    have hblk : ∀ q ∈ blkOf o.t.len a, q ∈ rowBlk o.v := by
      intro q hq
      rw [hbk] at hq
      split at hq
      · simp at hq
      · exact hq
    have hbn : (blkOf o.t.len a).Sublist (rowBlk o.v) := by
      rw [hbk]
      split
      · exact List.nil_sublist _
      · exact List.Sublist.refl _
    have kids : (Il.cons (o.ox a c) o.ol o.oe .nil).kids w := by
      have h1 := hshape.own
      have h5 := hshape.ok
      have h6 := hshape.en
      unfold Og.ox Og.ol Og.oe
      cases hoth : o.oth
      · refine ⟨⟨h5.op, h5.res, h5.a, h5.b, h5.n, h5.tags, h5.tn, ?_, h5.en⟩, .inl hshape.tags, hol, ⟨?_, .inl rfl⟩, trivial⟩
        · have := hshape.few; show o.t.len ≤ _; omega
        · exact h6.2.1.symm
      · refine ⟨⟨h5.op, h5.res, h5.a, h5.b, h5.n, h5.tags, h5.tn, h5.ln, ?_⟩, .inl hshape.tags, h1, hol, trivial⟩
        have := hshape.few; show o.t.len ≤ _; omega
    have hft : (Il.cons (o.ox a c) o.ol o.oe .nil).foot = if o.oth then (blkOf o.x.ln o.x.la ++ o.fl.foot) ++ (blkOf o.t.len a ++ o.t.foot) else blkOf o.t.len a ++ o.t.foot := by
      unfold Og.ox Og.ol Og.oe
      cases hoth : o.oth <;> simp [Il.foot, blkOf, hshape.tags, hshape.en.2.1]
    have hsub : ∀ q ∈ (Il.cons (o.ox a c) o.ol o.oe .nil).foot, q ∈ o.foot := by
      intro q hq
      rw [hft] at hq
      simp only [Og.foot, Og.inner, List.mem_append]
      split at hq
      · simp only [List.mem_append] at hq
        rcases hq with (hq | hq) | (hq | hq)
        · exact .inr (.inr (.inl hq))
        · exact .inr (.inr (.inr hq))
        · exact .inl (hblk q hq)
        · exact .inr (.inl hq)
      · rcases List.mem_append.1 hq with hq | hq
        · exact .inl (hblk q hq)
        · exact .inr (.inl hq)
    have hnd : (Il.cons (o.ox a c) o.ol o.oe .nil).foot.Nodup := by
      rw [hft]
      have hs : (blkOf o.t.len a ++ o.t.foot ++ (blkOf o.x.ln o.x.la ++ o.fl.foot)).Nodup := by
        refine List.Nodup.sublist ?_ m3
        have e : o.foot = rowBlk o.v ++ o.t.foot ++ (blkOf o.x.ln o.x.la ++ o.fl.foot) := by simp [Og.foot, Og.inner]
        rw [e]
        exact List.Sublist.append (List.Sublist.append hbn (List.Sublist.refl _)) (List.Sublist.refl _)
      split
      · refine (List.Perm.nodup_iff ?_).1 hs
        exact List.perm_append_comm
      · exact (List.nodup_append.1 hs).1
    have hlo : ∀ q ∈ (Il.cons (o.ox a c) o.ol o.oe .nil).foot, base ≤ q ∧ q ∉ gs :: (os.flatMap Og.foot ++ g.foot) := by
      intro q hq
      have hq := hsub q hq
      refine ⟨ho.low q hq, fun hm => ?_⟩
      rcases List.mem_cons.1 hm with rfl | hm
      · exact n3 hq
      · rcases List.mem_append.1 hm with hm | hm
        · exact m5 q hm q (.inr hq) rfl
        · exact m4 q hm q hq rfl
    obtain ⟨v', hst⟩ := hp.item hgv hI kids hnd hlo hfew (fun q hq => ho.soft q (hsub q hq))
    refine ⟨_, hst, ?_, by simp [app_len, Il.len]⟩
    have hz := hshape.zero
    have htg := hshape.tags
    have hen := hshape.en
    unfold Og.fr Fr.one
    simp only [bare_app, Il.bare, Fr.mk.injEq, true_and, and_true]
    congr 1
    unfold Og.ox Og.ol Og.oe
    cases hoth : o.oth
    · simp [Ix.hold, plainX, Ix.bare, htg, hz.1, hz.2.1, hz.2.2, hen.2.1, bare_len, Il.bare, Il.len]
    · have hl := hshape.own.1
      simp [Ix.hold, plainX, Ix.bare, htg, hz.1, hz.2.1, hz.2.2, bare_len, hl]
end Go.Proofs.YtlfflomeaplidaaDoor.Body
