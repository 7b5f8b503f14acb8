import Derived.Test.YtaibfefmehhldaaGreatDoorSa16
import Derived.Test.YtaibfefmehhldaaGreatDoorSa12
import Derived.Test.YtaibfefmehhldaaGreatDoorSa11
namespace Go.Proofs.YtaibfefmehhldaaGreatDoor.Instr
end Go.Proofs.YtaibfefmehhldaaGreatDoor.Instr
namespace Go.Proofs.YtaibfefmehhldaaGreatDoor.Body
end Go.Proofs.YtaibfefmehhldaaGreatDoor.Body
namespace Go.Proofs.YtaibfefmehhldaaGreatDoor.Mod
open Go.RowKit Go.Proofs.YtaibfefmehhldaaGreatDoor.Instr
set_option linter.unusedVariables false

/-- Blocks of cells from lo to hi are the same. -/
def SameC (lo hi : Nat) (w w' : World) : Prop := ∀ (b : Nat) (o : Obj), lo ≤ b → b < hi → w.heap[b]? = some o → o.isCells = true → w'.heap[b]? = some o
theorem SameC.of_below {n lo hi : Nat} {w w' : World} (h : Below n w w') (hn : hi ≤ n) : SameC lo hi w w' := fun b o _ h2 h3 _ => (h.block b (by omega)).trans h3
theorem SameC.blk {lo hi b : Nat} {w w' : World} (s : SameC lo hi w w') (hb : Blk lo hi w b) : w'.heap[b]? = w.heap[b]? := by
  obtain ⟨h1, h2, cs, e, h3⟩ := hb
  rw [h3]
  exact s b _ h1 h2 h3 rfl
theorem SameC.cell {lo hi b i : Nat} {w w' : World} (s : SameC lo hi w w') (hb : Blk lo hi w b) : w'.cell? ⟨b, i, none⟩ = w.cell? ⟨b, i, none⟩ := World.cell?_of_block (w := w) (a := ⟨b, i, none⟩) (s.blk hb)
theorem Blk.frameC {lo hi b : Nat} {w w' : World} (s : SameC lo hi w w') (h : Blk lo hi w b) : Blk lo hi w' b := ⟨h.1, h.2.1, by rw [s.blk h]; exact h.2.2⟩
theorem TagsO.frameC {lo hi : Nat} {w w' : World} (s : SameC lo hi w w') {a : Option Addr} {zs : List Int} (h : TagsO lo hi w a zs) : TagsO lo hi w' a zs := by
  rcases h with h | ⟨b, off, ha, hb, hc⟩
  · exact .inl h
  · exact .inr ⟨b, off, ha, hb.frameC s, fun i hi => (s.cell hb).trans (hc i hi)⟩
theorem ItemsO.frameC {lo hi : Nat} {w w' : World} (s : SameC lo hi w w') : ∀ {t : Il} {b off : Nat}, ItemsO lo hi w b off t → ItemsO lo hi w' b off t
  | .nil, _, _, _ => trivial
  | .cons x l e r, b, off, ⟨hb, hx, hc, ht, ⟨l1, l2⟩, ⟨e1, e2⟩, hr⟩ => by
    refine ⟨hb.frameC s, hx, fun j v hj => (s.cell hb).trans (hc j v hj), ht.frameC s, ⟨l1, ?_⟩, ⟨e1, ?_⟩, ItemsO.frameC s hr⟩
    · rcases l2 with h | ⟨b', o', h1, h2⟩
      · exact .inl h
      · exact .inr ⟨b', o', h1, ItemsO.frameC s h2⟩
    · rcases e2 with h | ⟨b', o', h1, h2⟩
      · exact .inl h
      · exact .inr ⟨b', o', h1, ItemsO.frameC s h2⟩
theorem ListO.frameC {lo hi n : Nat} {w w' : World} (s : SameC lo hi w w') {a : Option Addr} {t : Il} (h : ListO lo hi w a n t) : ListO lo hi w' a n t := by
  refine ⟨h.1, ?_⟩
  rcases h.2 with h | ⟨b, off, h1, h2⟩
  · exact .inl h
  · exact .inr ⟨b, off, h1, h2.frameC s⟩
theorem RoomO.frameC {lo hi n c : Nat} {w w' : World} (s : SameC lo hi w w') {a : Option Addr} (h : RoomO lo hi w a n c) : RoomO lo hi w' a n c := by
  refine ⟨h.1, h.2.1, ?_⟩
  rcases h.2.2 with h | ⟨b, off, h1, h2, h3⟩
  · exact .inl h
  · exact .inr ⟨b, off, h1, h2.frameC s, fun i hi => by obtain ⟨z, hz⟩ := h3 i hi; exact ⟨z, (s.cell h2).trans hz⟩⟩
theorem BytesO.frameC {lo hi c : Nat} {w w' : World} (s : SameC lo hi w w') {a : Option Addr} {zs : List Int} (h : BytesO lo hi w a zs c) : BytesO lo hi w' a zs c := by
  refine ⟨h.1.frameC s, ?_⟩
  rcases h.2 with h2 | ⟨b, off, ha, hb, hc⟩
  · exact .inl h2
  · rcases h.1.2.2 with ⟨h3, h4⟩ | ⟨b', off', h1, h2, h3⟩
    · rw [ha] at h3; cases h3
    · rw [ha] at h1
      simp only [Option.some.injEq, Addr.mk.injEq, and_true] at h1
      obtain ⟨rfl, rfl⟩ := h1
      exact .inr ⟨b, off, ha, hb, fun i hi => (s.cell h2).trans (hc i hi)⟩
theorem CellO.frameC {lo hi : Nat} {w w' : World} (s : SameC lo hi w w') {k : Kd} {v : Value} (h : CellO lo hi w k v) : CellO lo hi w' k v := by
  cases k with
  | i64 => exact h
  | u32 => exact h
  | bool => exact h
  | str => exact h
  | lst => obtain ⟨a, n, c, t, h1, h2, h3⟩ := h; exact ⟨a, n, c, t, h1, h2.frameC s, h3⟩
  | tags => obtain ⟨a, n, c, zs, h1, h2, h3, h4, h5⟩ := h; exact ⟨a, n, c, zs, h1, h2, h3.frameC s, h4, h5⟩
  | room => obtain ⟨a, n, c, h1, h2⟩ := h; exact ⟨a, n, c, h1, h2.frameC s⟩
theorem RowO.frameC {lo hi n : Nat} {w w' : World} (s : SameC lo hi w w') {ks : List Kd} {a : Option Addr} (h : RowO lo hi w ks a n) : RowO lo hi w' ks a n := by
  rcases h with h | ⟨b, off, h1, h2, h3⟩
  · exact .inl h
  · refine .inr ⟨b, off, h1, h2.frameC s, fun i hi j k hk => ?_⟩
    obtain ⟨v, g1, g2⟩ := h3 i hi j k hk
    exact ⟨v, (s.cell h2).trans g1, g2.frameC s⟩
theorem ModO.frameC {lo hi : Nat} {w w' : World} (s : SameC lo hi w w') {m : Md} (h : ModO lo hi w m) : ModO lo hi w' m :=
  ⟨h.ty.frameC s, h.im.frameC s, h.fu.frameC s, h.gl.frameC s, h.ex.frameC s, h.el.frameC s, h.da.frameC s⟩
theorem MapQ.onC {α : Type} {K : Kin α} {l l' : List α} {lo : Nat} {w w' : World} {a : Option Addr} (h : MapQ K l lo w a l') (s : SameC lo w.heap.size w w') (hz : w.heap.size ≤ w'.heap.size) (hK : ∀ x, K.own lo w.heap.size w x → K.own lo w.heap.size w' x) : MapQ K l lo w' a l' := by
  refine ⟨h.len, h.br, ?_, ?_, fun x hx => K.mono (Nat.le_refl _) hz (hK x (h.own x hx))⟩
  · rcases h.blk with h1 | ⟨b, off, h1, h2⟩
    · exact .inl h1
    · exact .inr ⟨b, off, h1, (h2.frameC s).mono (Nat.le_refl _) hz⟩
  · rcases h.blk with h1 | ⟨b, off, h1, h2⟩
    · exact .inl (by rw [h1]; rfl)
    · rcases h.rows with h3 | ⟨b', off', h3, h4, h5⟩
      · exact .inl h3
      · rw [h1] at h3
        simp only [Option.some.injEq, Addr.mk.injEq, and_true] at h3
        obtain ⟨rfl, rfl⟩ := h3
        exact .inr ⟨b, off, h1, by omega, fun i hi j hj v hv => (s.cell h2).trans (h5 i hi j hj v hv)⟩
/-- One module is a copy of another one, in blocks of its own. -/
structure OwnM (lo : Nat) (w : World) (m d : Md) : Prop where
  cps : Cps lo w m d.ty'.a d.im'.a d.fu'.a d.tb'.a d.me'.a d.gl'.a d.ex'.a d.el'.a d.da'.a d.ty d.im d.fu d.tb d.me d.gl d.ex d.el d.da
  st : d.st = m.st
  sn : d.sn = m.sn
theorem OwnM.on {lo : Nat} {w w' : World} {m d : Md} (h : OwnM lo w m d) (s : SameC lo w.heap.size w w') (hz : w.heap.size ≤ w'.heap.size) : OwnM lo w' m d :=
  ⟨⟨h.cps.ty.onC s hz (fun _ h => h), h.cps.im.onC s hz (fun _ h => h), h.cps.fu.onC s hz (fun x h => ListO.frameC s h), h.cps.tb.onC s hz (fun _ h => h), h.cps.me.onC s hz (fun _ h => h), h.cps.gl.onC s hz (fun x h => ListO.frameC s h), h.cps.ex.onC s hz (fun _ h => h), h.cps.el.onC s hz (fun x h => ⟨ListO.frameC s h.1, TagsO.frameC s h.2⟩), h.cps.da.onC s hz (fun x h => ⟨ListO.frameC s h.1, BytesO.frameC s h.2⟩)⟩, h.st, h.sn⟩
theorem OwnM.bare {lo : Nat} {w : World} {m d : Md} (h : OwnM lo w m d) : d.bare = m.bare := same_iff.2 ⟨id_br h.cps.ty.br, id_br h.cps.im.br, h.cps.fu.br, id_br h.cps.tb.br, id_br h.cps.me.br, h.cps.gl.br, id_br h.cps.ex.br, h.st, h.sn, h.cps.el.br, h.cps.da.br⟩
theorem OwnM.facts {lo : Nat} {w : World} {m d : Md} (h : OwnM lo w m d) (hf : m.fits) (hr : ∀ e ∈ m.el, ∀ z ∈ e.fs, 0 ≤ z ∧ z < 4294967296) : ModAt w.heap.size w d ∧ ModO lo w.heap.size w d ∧ d.fits := by
  have hff := fits_coreS h.bare hf
  have lfu' : ∀ x ∈ d.fu, x.l.t.len ≤ 140737488351232 := fun x hx => hff.ls x.l (by unfold Md.codes; exact List.mem_append_left _ (List.mem_map.2 ⟨x, hx, rfl⟩))
  have lgl' : ∀ x ∈ d.gl, x.l.t.len ≤ 140737488351232 := fun x hx => hff.ls x.l (by unfold Md.codes; exact List.mem_append_right _ (List.mem_append_left _ (List.mem_map.2 ⟨x, hx, rfl⟩)))
  have lel' : ∀ x ∈ d.el, x.l.t.len ≤ 140737488351232 := fun x hx => hff.ls x.l (by unfold Md.codes; exact List.mem_append_right _ (List.mem_append_right _ (List.mem_append_left _ (List.mem_map.2 ⟨x, hx, rfl⟩))))
  have lda' : ∀ x ∈ d.da, x.l.t.len ≤ 140737488351232 := fun x hx => hff.ls x.l (by unfold Md.codes; exact List.mem_append_right _ (List.mem_append_right _ (List.mem_append_right _ (List.mem_map.2 ⟨x, hx, rfl⟩))))
  refine ⟨⟨h.cps.ty.rows, h.cps.im.rows, h.cps.fu.rows, h.cps.tb.rows, h.cps.me.rows, h.cps.gl.rows, h.cps.ex.rows, h.cps.el.rows, h.cps.da.rows, fun l hl => ?_, fun e he => (h.cps.el.own e he).2.at, fun d hd => (h.cps.da.own d hd).2.2⟩, ⟨?_, ?_, ?_, ?_, ?_, ?_, ?_⟩, hff⟩
  · unfold Md.codes at hl
    rcases List.mem_append.1 hl with hl | hl
    · obtain ⟨x, hx, rfl⟩ := List.mem_map.1 hl
      exact (h.cps.fu.own x hx).at
    · rcases List.mem_append.1 hl with hl | hl
      · obtain ⟨x, hx, rfl⟩ := List.mem_map.1 hl
        exact (h.cps.gl.own x hx).at
      · rcases List.mem_append.1 hl with hl | hl
        · obtain ⟨x, hx, rfl⟩ := List.mem_map.1 hl
          exact (h.cps.el.own x hx).1.at
        · obtain ⟨x, hx, rfl⟩ := List.mem_map.1 hl
          exact (h.cps.da.own x hx).1.at
  · refine h.cps.ty.rowO (K := kTy) rfl fun x _ _ j k hjk => ?_
    match j, hjk with
    | 0, e => cases e; exact ⟨_, rfl, _, rfl⟩
    | 1, e => cases e; exact ⟨_, rfl, _, rfl⟩
    | j + 2, e => simp at e
  · refine h.cps.im.rowO (K := kIm) rfl fun x _ _ j k hjk => ?_
    match j, hjk with
    | 0, e => cases e; exact ⟨_, rfl, _, rfl⟩
    | 1, e => cases e; exact ⟨_, rfl, _, rfl⟩
    | 2, e => cases e; exact ⟨_, rfl, _, rfl⟩
    | j + 3, e => simp at e
  · refine h.cps.fu.rowO (K := kFn) rfl fun x hx ho j k hjk => ?_
    match j, hjk with
    | 0, e => cases e; exact ⟨_, rfl, _, rfl⟩
    | 1, e => cases e; exact ⟨_, rfl, _, rfl⟩
    | 2, e => cases e; exact ⟨_, rfl, _, _, _, _, rfl, ho, lfu' x hx⟩
    | j + 3, e => simp at e
  · refine h.cps.gl.rowO (K := kGl) rfl fun x hx ho j k hjk => ?_
    match j, hjk with
    | 0, e => cases e; exact ⟨_, rfl, _, rfl⟩
    | 1, e => cases e; exact ⟨_, rfl, _, _, _, _, rfl, ho, lgl' x hx⟩
    | j + 2, e => simp at e
  · refine h.cps.ex.rowO (K := kEx) rfl fun x _ _ j k hjk => ?_
    match j, hjk with
    | 0, e => cases e; exact ⟨_, rfl, _, rfl⟩
    | 1, e => cases e; exact ⟨_, rfl, _, rfl⟩
    | 2, e => cases e; exact ⟨_, rfl, _, rfl⟩
    | j + 3, e => simp at e
  · refine h.cps.el.rowO (K := kEl) rfl fun x hx ho j k hjk => ?_
    match j, hjk with
    | 0, e => cases e; exact ⟨_, rfl, _, _, _, _, rfl, ho.1, lel' x hx⟩
    | 1, e =>
      cases e
      refine ⟨_, rfl, _, _, _, _, rfl, rfl, ho.2, ?_, hff.fs x hx⟩
      obtain ⟨y, hy, hxy⟩ := mem_br h.cps.el.br hx
      have e : El.bare x = El.bare y := hxy
      have e2 := congrArg El.fs e
      have : x.fs = y.fs := e2
      rw [this]
      exact hr y hy
    | j + 2, e => simp at e
  · refine h.cps.da.rowO (K := kDa) rfl fun x hx ho j k hjk => ?_
    match j, hjk with
    | 0, e => cases e; exact ⟨_, rfl, _, _, _, _, rfl, ho.1, lda' x hx⟩
    | 1, e => cases e; exact ⟨_, rfl, _, _, _, rfl, ho.2.1⟩
    | j + 2, e => simp at e
/-- module.Copy: another module of the same bare content, whose blocks are its own. -/
theorem Copy_own (m : Md) (w : World) (hi : m.inp w) : Calls Tryz.prog 8 #[.agg m.v] w fun e w' => ∃ d : Md, e = .returned (.agg d.v) ∧ OwnM w.heap.size w' m d ∧ Below w.heap.size w w' := by
  refine (Copy_any m w hi).mono ?_
  rintro e w' ⟨aty, cty, aim, cim, afu, cfu, atb, ctb, ame, cme, agl, cgl, aex, cex, ael, cel, ada, cda, lty, lim, lfu, ltb, lme, lgl, lex, lel, lda, rfl, hc, hb⟩
  refine ⟨⟨lty, lim, lfu, ltb, lme, lgl, lex, m.st, m.sn, lel, lda, ⟨aty, cty⟩, ⟨aim, cim⟩, ⟨afu, cfu⟩, ⟨atb, ctb⟩, ⟨ame, cme⟩, ⟨agl, cgl⟩, ⟨aex, cex⟩, ⟨ael, cel⟩, ⟨ada, cda⟩⟩, ?_, ⟨hc, rfl, rfl⟩, hb⟩
  unfold Md.v
  dsimp only
  rw [hc.ty.len, hc.im.len, hc.fu.len, hc.tb.len, hc.me.len, hc.gl.len, hc.ex.len, hc.el.len, hc.da.len]
theorem codes_Fn {m : Md} {x : Fn} (h : x ∈ m.fu) : x.l ∈ m.codes := by unfold Md.codes; exact List.mem_append_left _ (List.mem_map.2 ⟨x, h, rfl⟩)
theorem codes_Gl {m : Md} {x : Gl} (h : x ∈ m.gl) : x.l ∈ m.codes := by unfold Md.codes; exact List.mem_append_right _ (List.mem_append_left _ (List.mem_map.2 ⟨x, h, rfl⟩))
theorem codes_El {m : Md} {x : El} (h : x ∈ m.el) : x.l ∈ m.codes := by unfold Md.codes; exact List.mem_append_right _ (List.mem_append_right _ (List.mem_append_left _ (List.mem_map.2 ⟨x, h, rfl⟩)))
theorem codes_Da {m : Md} {x : Da} (h : x ∈ m.da) : x.l ∈ m.codes := by unfold Md.codes; exact List.mem_append_right _ (List.mem_append_right _ (List.mem_append_right _ (List.mem_map.2 ⟨x, h, rfl⟩)))
mutual
theorem weight_bare : ∀ t : Il, t.bare.weight = t.weight
  | .nil => rfl
  | .cons x l e r => by simp only [Il.bare, Il.weight, weight_bare l, weight_bare e, weight_bare r]; rfl
end
/-- What module.Copy wants of a copy of a small module. -/
theorem inp_core {a c : Md} {w : World} (h : c.bare = a.bare) (hs : a.small 5000) (hf : a.fits) (hm : ModAt w.heap.size w c) : c.inp w := by
  have S := same_iff.1 h
  have hl := hs.lens
  have hcf := fits_coreS h hf
  have hw : ∀ l ∈ c.codes, l.t.weight ≤ 1000000000 := fun l hl => by
    obtain ⟨r, hr, e⟩ := codes_coreS h hl
    rw [← weight_bare, ← e, weight_bare]
    exact Nat.le_trans (hs.ls r hr) (by omega)
  have l3 := map_lenS S.fu
  have l6 := map_lenS S.gl
  have l8 := map_lenS S.el
  have l9 := map_lenS S.da
  refine ⟨hm, by rw [S.ty]; omega, by rw [S.im]; omega, by omega, by rw [S.tb]; omega, by rw [S.me]; omega, by omega, by rw [S.ex]; omega, by omega, by omega, fun x hx => ?_, fun x hx => ?_, fun x hx => ?_, fun x hx => ?_⟩
  · exact ⟨hm.ls _ (codes_Fn hx), hw _ (codes_Fn hx), hcf.ls _ (codes_Fn hx)⟩
  · exact ⟨hm.ls _ (codes_Gl hx), hw _ (codes_Gl hx), hcf.ls _ (codes_Gl hx)⟩
  · refine ⟨hm.ls _ (codes_El hx), hw _ (codes_El hx), hcf.ls _ (codes_El hx), hm.fs x hx, ?_⟩
    obtain ⟨y, hy, e⟩ := map_memS S.el hx
    unfold El.bare at e
    simp only [El.mk.injEq, true_and] at e
    rw [← e.2]
    exact Nat.le_trans (hs.fs y hy) (by omega)
  · refine ⟨hm.ls _ (codes_Da hx), hw _ (codes_Da hx), hcf.ls _ (codes_Da hx), hm.bs x hx, ?_⟩
    obtain ⟨y, hy, e⟩ := map_memS S.da hx
    unfold Da.bare at e
    simp only [Da.mk.injEq, true_and] at e
    rw [← e.2]
    exact Nat.le_trans (hs.bs y hy) (by omega)
theorem ef_core {a b : Md} (h : b.bare = a.bare) (f : ∀ e ∈ a.el, ∀ z ∈ e.fs, 0 ≤ z ∧ z < 4294967296) : ∀ e ∈ b.el, ∀ z ∈ e.fs, 0 ≤ z ∧ z < 4294967296 := fun e he => by
  obtain ⟨x, hx, e⟩ := map_memS (same_iff.1 h).el he
  unfold El.bare at e
  simp only [El.mk.injEq, true_and] at e
  rw [← e.2]; exact f x hx
theorem db_core {a b : Md} (h : b.bare = a.bare) (f : ∀ d ∈ a.da, ∀ z ∈ d.bs, 0 ≤ z ∧ z < 256) : ∀ d ∈ b.da, ∀ z ∈ d.bs, 0 ≤ z ∧ z < 256 := fun d hd => by
  obtain ⟨x, hx, e⟩ := map_memS (same_iff.1 h).da hd
  unfold Da.bare at e
  simp only [Da.mk.injEq, true_and] at e
  rw [← e.2]; exact f x hx
/-- What is written over keeps what lies behind it. -/
theorem Ov.same {lo hi lo' hi' : Nat} {w w' : World} (h : Ov lo hi w w') (hh : hi ≤ lo') (hs : hi' ≤ w.heap.size) : SameC lo' hi' w w' := fun b o h1 _ h3 h4 => h.kept.cells b o h3 h4 (by omega)
theorem OwnM.box {lo : Nat} {w : World} {m d : Md} (h : OwnM lo w m d) (o : Obj) : OwnM lo (w.alloc o) m d := h.on (SameC.of_below ((Below.refl w.heap.size w).alloc (Nat.le_refl _) o) (Nat.le_refl _)) (by simp)
end Go.Proofs.YtaibfefmehhldaaGreatDoor.Mod

namespace Go.Proofs.YtaibfefmehhldaaGreatDoor.Mod
open Go.RowKit Go.Proofs.YtaibfefmehhldaaGreatDoor.Instr
open Go.Proofs.YtaibfefmehhldaaGreatDoor.Body (drewn)

theorem map_all {α β : Type} {f : α → β} {l r : List α} {n : Nat} (hl : l.length = n) (hr : r.length = n) (h : ∀ j (h1 : j < l.length) (h2 : j < r.length), j < n → f l[j] = f r[j]) : is (l.map f = r.map f) = true :=
  is_yes (p := l.map f = r.map f) (List.ext_getElem (by simp [hl, hr]) fun j h1 h2 => by rw [List.getElem_map, List.getElem_map]; rw [List.length_map] at h1 h2; exact h j h1 h2 (by omega))
theorem map_no {α β : Type} {f : α → β} {l r : List α} {k : Nat} (h1 : k < l.length) (h2 : k < r.length) (h : ¬ f l[k] = f r[k]) : is (l.map f = r.map f) = false := is_no (p := l.map f = r.map f) (fun e => h (map_at e h1 h2))
theorem map_step {α β : Type} {f : α → β} {l r : List α} {k : Nat} (h1 : k < l.length) (h2 : k < r.length) (h : ∀ j (h1 : j < l.length) (h2 : j < r.length), j < k → f l[j] = f r[j]) (hx : f l[k] = f r[k]) : ∀ j (h1 : j < l.length) (h2 : j < r.length), j < k + 1 → f l[j] = f r[j] := by
  intro j g1 g2 hj
  by_cases e : j = k
  · subst e; exact hx
  · exact h j g1 g2 (by omega)
theorem eqm_len {α β : Type} {f : α → β} {l r : List α} {n m : Nat} (hl : l.length = n) (hr : r.length = m) (h : ¬ n = m) : is (l.map f = r.map f) = false := is_no (p := l.map f = r.map f) (fun e => h (by have := congrArg List.length e; simp only [List.length_map] at this; omega))
theorem three_boxes (w : World) (u v : Array Value) (t e : TypeId) : BoxAt (((w.alloc (.cells #[] e)).alloc (.cells u t)).alloc (.cells v t)) (w.heap.size + 1) u ∧ BoxAt (((w.alloc (.cells #[] e)).alloc (.cells u t)).alloc (.cells v t)) (w.heap.size + 2) v ∧ Below w.heap.size w (((w.alloc (.cells #[] e)).alloc (.cells u t)).alloc (.cells v t)) := by
  refine ⟨?_, ?_, ?_⟩
  · have h := (BoxAt.made (w.alloc (.cells #[] e)) u t).keep ((Below.refl _ _).alloc (Nat.le_refl _) (.cells v t))
    rw [World.size_alloc] at h
    exact h
  · have h := BoxAt.made ((w.alloc (.cells #[] e)).alloc (.cells u t)) v t
    rw [World.size_alloc, World.size_alloc] at h
    exact h
  · exact (((Below.refl w.heap.size w).alloc (Nat.le_refl _) _).alloc (by simp only [World.size_alloc]; omega) _).alloc (by simp only [World.size_alloc]; omega) _

set_option maxRecDepth 100000 in
set_option maxHeartbeats 4000000 in
theorem eqo_fu (ty lo : Int) (la : Option Addr) (lc : Nat) (lt : Il) (ty' lo' : Int) (la' : Option Addr) (lc' : Nat) (lt' : Il) (n₀ : Nat) (w : World) (h1 : ListAt n₀ w la lt.len lt) (h2 : ListAt n₀ w la' lt'.len lt') (hn : n₀ ≤ w.heap.size) (b1 : lt.len ≤ 140737488351232) (b2 : lt'.len ≤ 140737488351232) :
    Calls Tryz.prog 38 #[.agg #[], .agg #[.int .i64 ty, .int .i64 lo, .slice la lt.len lc], .agg #[.int .i64 ty', .int .i64 lo', .slice la' lt'.len lc']] w fun e w' => e = .returned (.bool (is (ty = ty' ∧ lo = lo' ∧ lt.bare = lt'.bare))) ∧ Below w.heap.size w w' := by
  have SL := hid (fun (W : World) (hb : Below w.heap.size w W) => lists_any n₀ lt lt' la la' lt.len lt'.len lc lc' W (h1.below (hb.mono hn)) (h2.below (hb.mono hn)) (Nat.le_trans hn hb.size) b1 b2)
  clear h1 h2 hn b1 b2
  have HY := hid (fun (h : ty = ty' ∧ lo = lo' ∧ lt.bare = lt'.bare) => is_yes h)
  have HN := hid (fun (h : ¬ (ty = ty' ∧ lo = lo' ∧ lt.bare = lt'.bare)) => is_no h)
  have H0 := hid (fun (h : ty = ty' ∧ lo = lo' ∧ lt.bare = lt'.bare) => h)
  obtain ⟨R, hR⟩ : ∃ R, is (ty = ty' ∧ lo = lo' ∧ lt.bare = lt'.bare) = R := ⟨_, rfl⟩
  rw [hR] at HY HN ⊢
  obtain ⟨S, hS⟩ : ∃ S, (ty = ty' ∧ lo = lo' ∧ lt.bare = lt'.bare) = S := ⟨_, rfl⟩
  have HC := hid (fun (h : ty = ty' ∧ lo = lo' ∧ lt.bare = lt'.bare) => (by rw [← hS]; exact h : S))
  have HK := hid (fun (h : S) => (by rw [← hS] at h; exact h : ty = ty' ∧ lo = lo' ∧ lt.bare = lt'.bare))
  rw [hS] at HN HY
  clear hR hS H0
  obtain ⟨n1, hn1⟩ : ∃ n, lt.len = n := ⟨_, rfl⟩
  obtain ⟨n2, hn2⟩ : ∃ n, lt'.len = n := ⟨_, rfl⟩
  rw [hn1, hn2] at SL ⊢
  clear hn1 hn2
  obtain ⟨w1, hw1, hX, hY, hb1⟩ : ∃ w1, w1 = (((w.alloc (.cells #[] 57)).alloc (.cells #[.int .i64 ty, .int .i64 lo, .slice la n1 lc] 43)).alloc (.cells #[.int .i64 ty', .int .i64 lo', .slice la' n2 lc'] 43)) ∧ BoxAt w1 (w.heap.size + 1) #[.int .i64 ty, .int .i64 lo, .slice la n1 lc] ∧ BoxAt w1 (w.heap.size + 2) #[.int .i64 ty', .int .i64 lo', .slice la' n2 lc'] ∧ Below w.heap.size w w1 := ⟨_, rfl, three_boxes w _ _ _ _⟩
  have HB1 := hid hb1
  have HW := hid hw1
  have x0 := hX 0 _ rfl
  have y0 := hY 0 _ rfl
  have x1 := hX 1 _ rfl
  have y1 := hY 1 _ rfl
  have x2 := hX 2 _ rfl
  have y2 := hY 2 _ rfl
  clear hw1 hb1 hX hY
  go_enter Tryz.func38, Tryz.ntmps38
  by_cases g0 : ty = ty'
  rotate_left
  · have HE := hid (HN.out (fun s => g0 (by have h := HK.out s; exact h.1)))
    have q1 : (ty == ty') = false := by simp [g0]
    have q2 : (ty != ty') = true := by simp [g0]
    clear SL HY HN HC HK
    go_wp2
    rw [← HW.out]
    go_wp2
    go_ret
    exact ⟨ret_bool HE.out.symm, HB1.out⟩
  subst g0
  by_cases g1 : lo = lo'
  rotate_left
  · have HE := hid (HN.out (fun s => g1 (by have h := HK.out s; exact h.2.1)))
    have q1 : (lo == lo') = false := by simp [g1]
    have q2 : (lo != lo') = true := by simp [g1]
    clear SL HY HN HC HK
    go_wp2
    rw [← HW.out]
    go_wp2
    go_ret
    exact ⟨ret_bool HE.out.symm, HB1.out⟩
  subst g1
  go_wp2_with fail
  rw [← HW.out]
  go_wp2_with fail
  obtain ⟨r2, h2⟩ : ∃ r, is (lt.bare = lt'.bare) = r := ⟨_, rfl⟩
  rw [h2] at SL
  refine (SL.out _ HB1.out).mono ?_
  rintro r w2 ⟨rfl, hb2⟩
  have HB2 := hid (HB1.out.trans (hb2.mono HB1.out.size))
  clear HB1 hb2 SL x0 x1 x2 y0 y1 y2 HW
  cases r2 with
  | false =>
    have HE := hid (HN.out (fun s => by have h := HK.out s; have := is_yes h.2.2; rw [h2] at this; cases this))
    clear HY HN HC HK h2
    go_wp2
    go_ret
    exact ⟨ret_bool HE.out.symm, HB2.out⟩
  | true =>
    have G2 : Hid (lt.bare = lt'.bare) := hid (by apply Classical.byContradiction; intro h; rw [is_no h] at h2; cases h2)
    clear h2
    have HE := hid (HY.out (HC.out ⟨(by trivial), (by trivial), G2.out⟩))
    clear HY HN HC HK
    go_wp2
    go_ret
    exact ⟨ret_bool HE.out.symm, HB2.out⟩

set_option maxRecDepth 100000 in
set_option maxHeartbeats 4000000 in
theorem eqo_gl (mu : Bool) (la : Option Addr) (lc : Nat) (lt : Il) (mu' : Bool) (la' : Option Addr) (lc' : Nat) (lt' : Il) (n₀ : Nat) (w : World) (h1 : ListAt n₀ w la lt.len lt) (h2 : ListAt n₀ w la' lt'.len lt') (hn : n₀ ≤ w.heap.size) (b1 : lt.len ≤ 140737488351232) (b2 : lt'.len ≤ 140737488351232) :
    Calls Tryz.prog 41 #[.agg #[], .agg #[.bool mu, .slice la lt.len lc], .agg #[.bool mu', .slice la' lt'.len lc']] w fun e w' => e = .returned (.bool (is (mu = mu' ∧ lt.bare = lt'.bare))) ∧ Below w.heap.size w w' := by
  have SL := hid (fun (W : World) (hb : Below w.heap.size w W) => lists_any n₀ lt lt' la la' lt.len lt'.len lc lc' W (h1.below (hb.mono hn)) (h2.below (hb.mono hn)) (Nat.le_trans hn hb.size) b1 b2)
  clear h1 h2 hn b1 b2
  have HY := hid (fun (h : mu = mu' ∧ lt.bare = lt'.bare) => is_yes h)
  have HN := hid (fun (h : ¬ (mu = mu' ∧ lt.bare = lt'.bare)) => is_no h)
  have H0 := hid (fun (h : mu = mu' ∧ lt.bare = lt'.bare) => h)
  obtain ⟨R, hR⟩ : ∃ R, is (mu = mu' ∧ lt.bare = lt'.bare) = R := ⟨_, rfl⟩
  rw [hR] at HY HN ⊢
  obtain ⟨S, hS⟩ : ∃ S, (mu = mu' ∧ lt.bare = lt'.bare) = S := ⟨_, rfl⟩
  have HC := hid (fun (h : mu = mu' ∧ lt.bare = lt'.bare) => (by rw [← hS]; exact h : S))
  have HK := hid (fun (h : S) => (by rw [← hS] at h; exact h : mu = mu' ∧ lt.bare = lt'.bare))
  rw [hS] at HN HY
  clear hR hS H0
  obtain ⟨n1, hn1⟩ : ∃ n, lt.len = n := ⟨_, rfl⟩
  obtain ⟨n2, hn2⟩ : ∃ n, lt'.len = n := ⟨_, rfl⟩
  rw [hn1, hn2] at SL ⊢
  clear hn1 hn2
  obtain ⟨w1, hw1, hX, hY, hb1⟩ : ∃ w1, w1 = (((w.alloc (.cells #[] 57)).alloc (.cells #[.bool mu, .slice la n1 lc] 45)).alloc (.cells #[.bool mu', .slice la' n2 lc'] 45)) ∧ BoxAt w1 (w.heap.size + 1) #[.bool mu, .slice la n1 lc] ∧ BoxAt w1 (w.heap.size + 2) #[.bool mu', .slice la' n2 lc'] ∧ Below w.heap.size w w1 := ⟨_, rfl, three_boxes w _ _ _ _⟩
  have HB1 := hid hb1
  have HW := hid hw1
  have x0 := hX 0 _ rfl
  have y0 := hY 0 _ rfl
  have x1 := hX 1 _ rfl
  have y1 := hY 1 _ rfl
  clear hw1 hb1 hX hY
  go_enter Tryz.func41, Tryz.ntmps41
  by_cases g0 : mu = mu'
  rotate_left
  · have HE := hid (HN.out (fun s => g0 (by have h := HK.out s; exact h.1)))
    have q1 : (mu == mu') = false := by simp [g0]
    have q2 : (mu != mu') = true := by simp [g0]
    clear SL HY HN HC HK
    go_wp2
    rw [← HW.out]
    go_wp2
    go_ret
    exact ⟨ret_bool HE.out.symm, HB1.out⟩
  subst g0
  go_wp2_with fail
  rw [← HW.out]
  go_wp2_with fail
  obtain ⟨r1, h1⟩ : ∃ r, is (lt.bare = lt'.bare) = r := ⟨_, rfl⟩
  rw [h1] at SL
  refine (SL.out _ HB1.out).mono ?_
  rintro r w2 ⟨rfl, hb2⟩
  have HB2 := hid (HB1.out.trans (hb2.mono HB1.out.size))
  clear HB1 hb2 SL x0 x1 y0 y1 HW
  cases r1 with
  | false =>
    have HE := hid (HN.out (fun s => by have h := HK.out s; have := is_yes h.2; rw [h1] at this; cases this))
    clear HY HN HC HK h1
    go_wp2
    go_ret
    exact ⟨ret_bool HE.out.symm, HB2.out⟩
  | true =>
    have G1 : Hid (lt.bare = lt'.bare) := hid (by apply Classical.byContradiction; intro h; rw [is_no h] at h1; cases h1)
    clear h1
    have HE := hid (HY.out (HC.out ⟨(by trivial), G1.out⟩))
    clear HY HN HC HK
    go_wp2
    go_ret
    exact ⟨ret_bool HE.out.symm, HB2.out⟩

set_option maxRecDepth 100000 in
set_option maxHeartbeats 4000000 in
theorem eqo_el (fa : Option Addr) (fc : Nat) (fs : List Int) (la : Option Addr) (lc : Nat) (lt : Il) (fa' : Option Addr) (fc' : Nat) (fs' : List Int) (la' : Option Addr) (lc' : Nat) (lt' : Il) (n₀ : Nat) (w : World) (h1 : ListAt n₀ w la lt.len lt) (h2 : ListAt n₀ w la' lt'.len lt') (hn : n₀ ≤ w.heap.size) (b1 : lt.len ≤ 140737488351232) (b2 : lt'.len ≤ 140737488351232) (t1 : TagsAt n₀ w fa fs) (t2 : TagsAt n₀ w fa' fs') (d1 : fs.length ≤ 140737488351232) (d2 : fs'.length ≤ 140737488351232) :
    Calls Tryz.prog 44 #[.agg #[], .agg #[.slice la lt.len lc, .slice fa fs.length fc], .agg #[.slice la' lt'.len lc', .slice fa' fs'.length fc']] w fun e w' => e = .returned (.bool (is (lt.bare = lt'.bare ∧ fs = fs'))) ∧ Below w.heap.size w w' := by
  have SL := hid (fun (W : World) (hb : Below w.heap.size w W) => lists_any n₀ lt lt' la la' lt.len lt'.len lc lc' W (h1.below (hb.mono hn)) (h2.below (hb.mono hn)) (Nat.le_trans hn hb.size) b1 b2)
  have ST := hid (fun (W : World) (hb : Below w.heap.size w W) => equal_tags n₀ fs fs' fa fa' fs.length fs'.length fc fc' W rfl rfl (t1.below (hb.mono hn)) (t2.below (hb.mono hn)) (Nat.le_trans hn hb.size) d1 d2)
  clear t1 t2 d1 d2
  clear h1 h2 hn b1 b2
  have HY := hid (fun (h : lt.bare = lt'.bare ∧ fs = fs') => is_yes h)
  have HN := hid (fun (h : ¬ (lt.bare = lt'.bare ∧ fs = fs')) => is_no h)
  have H0 := hid (fun (h : lt.bare = lt'.bare ∧ fs = fs') => h)
  obtain ⟨R, hR⟩ : ∃ R, is (lt.bare = lt'.bare ∧ fs = fs') = R := ⟨_, rfl⟩
  rw [hR] at HY HN ⊢
  obtain ⟨S, hS⟩ : ∃ S, (lt.bare = lt'.bare ∧ fs = fs') = S := ⟨_, rfl⟩
  have HC := hid (fun (h : lt.bare = lt'.bare ∧ fs = fs') => (by rw [← hS]; exact h : S))
  have HK := hid (fun (h : S) => (by rw [← hS] at h; exact h : lt.bare = lt'.bare ∧ fs = fs'))
  rw [hS] at HN HY
  clear hR hS H0
  obtain ⟨n1, hn1⟩ : ∃ n, lt.len = n := ⟨_, rfl⟩
  obtain ⟨n2, hn2⟩ : ∃ n, lt'.len = n := ⟨_, rfl⟩
  rw [hn1, hn2] at SL ⊢
  clear hn1 hn2
  obtain ⟨w1, hw1, hX, hY, hb1⟩ : ∃ w1, w1 = (((w.alloc (.cells #[] 57)).alloc (.cells #[.slice la n1 lc, .slice fa fs.length fc] 48)).alloc (.cells #[.slice la' n2 lc', .slice fa' fs'.length fc'] 48)) ∧ BoxAt w1 (w.heap.size + 1) #[.slice la n1 lc, .slice fa fs.length fc] ∧ BoxAt w1 (w.heap.size + 2) #[.slice la' n2 lc', .slice fa' fs'.length fc'] ∧ Below w.heap.size w w1 := ⟨_, rfl, three_boxes w _ _ _ _⟩
  have HB1 := hid hb1
  have HW := hid hw1
  have x0 := hX 0 _ rfl
  have y0 := hY 0 _ rfl
  have x1 := hX 1 _ rfl
  have y1 := hY 1 _ rfl
  clear hw1 hb1 hX hY
  go_enter Tryz.func44, Tryz.ntmps44
  go_wp2_with fail
  rw [← HW.out]
  go_wp2_with fail
  obtain ⟨r0, h0⟩ : ∃ r, is (lt.bare = lt'.bare) = r := ⟨_, rfl⟩
  rw [h0] at SL
  refine (SL.out _ HB1.out).mono ?_
  rintro r w2 ⟨rfl, hb2⟩
  have HB2 := hid (HB1.out.trans (hb2.mono HB1.out.size))
  have x1 := Go.Proofs.YtaibfefmehhldaaGreatDoor.keep hb2 x1
  have y1 := Go.Proofs.YtaibfefmehhldaaGreatDoor.keep hb2 y1
  clear HB1 hb2 SL x0 y0 HW
  cases r0 with
  | false =>
    have HE := hid (HN.out (fun s => by have h := HK.out s; have := is_yes h.1; rw [h0] at this; cases this))
    clear ST HY HN HC HK h0
    go_wp2
    go_ret
    exact ⟨ret_bool HE.out.symm, HB2.out⟩
  | true =>
    have G0 : Hid (lt.bare = lt'.bare) := hid (by apply Classical.byContradiction; intro h; rw [is_no h] at h0; cases h0)
    clear h0
    go_wp2_with fail
    obtain ⟨r1, h1⟩ : ∃ r, is (fs = fs') = r := ⟨_, rfl⟩
    rw [h1] at ST
    refine (ST.out _ HB2.out).mono ?_
    rintro r w3 ⟨rfl, hb3⟩
    have HB3 := hid (HB2.out.trans (hb3.mono HB2.out.size))
    clear HB2 hb3 ST x1 y1
    cases r1 with
    | false =>
      have HE := hid (HN.out (fun s => by have h := HK.out s; have := is_yes h.2; rw [h1] at this; cases this))
      clear HY HN HC HK h1
      go_wp2
      go_ret
      exact ⟨ret_bool HE.out.symm, HB3.out⟩
    | true =>
      have G1 : Hid (fs = fs') := hid (by apply Classical.byContradiction; intro h; rw [is_no h] at h1; cases h1)
      clear h1
      have HE := hid (HY.out (HC.out ⟨G0.out, G1.out⟩))
      clear HY HN HC HK
      go_wp2
      go_ret
      exact ⟨ret_bool HE.out.symm, HB3.out⟩

set_option maxRecDepth 100000 in
set_option maxHeartbeats 4000000 in
theorem eqo_da (fa : Option Addr) (fc : Nat) (fs : List Int) (la : Option Addr) (lc : Nat) (lt : Il) (fa' : Option Addr) (fc' : Nat) (fs' : List Int) (la' : Option Addr) (lc' : Nat) (lt' : Il) (n₀ : Nat) (w : World) (h1 : ListAt n₀ w la lt.len lt) (h2 : ListAt n₀ w la' lt'.len lt') (hn : n₀ ≤ w.heap.size) (b1 : lt.len ≤ 140737488351232) (b2 : lt'.len ≤ 140737488351232) (t1 : BytesAt n₀ w fa fs) (t2 : BytesAt n₀ w fa' fs') (d1 : fs.length ≤ 140737488351232) (d2 : fs'.length ≤ 140737488351232) :
    Calls Tryz.prog 46 #[.agg #[], .agg #[.slice la lt.len lc, .slice fa fs.length fc], .agg #[.slice la' lt'.len lc', .slice fa' fs'.length fc']] w fun e w' => e = .returned (.bool (is (lt.bare = lt'.bare ∧ fs = fs'))) ∧ Below w.heap.size w w' := by
  have SL := hid (fun (W : World) (hb : Below w.heap.size w W) => lists_any n₀ lt lt' la la' lt.len lt'.len lc lc' W (h1.below (hb.mono hn)) (h2.below (hb.mono hn)) (Nat.le_trans hn hb.size) b1 b2)
  have ST := hid (fun (W : World) (hb : Below w.heap.size w W) => equal_bytes n₀ fs fs' fa fa' fs.length fs'.length fc fc' W rfl rfl (t1.below (hb.mono hn)) (t2.below (hb.mono hn)) (Nat.le_trans hn hb.size) d1 d2)
  clear t1 t2 d1 d2
  clear h1 h2 hn b1 b2
  have HY := hid (fun (h : lt.bare = lt'.bare ∧ fs = fs') => is_yes h)
  have HN := hid (fun (h : ¬ (lt.bare = lt'.bare ∧ fs = fs')) => is_no h)
  have H0 := hid (fun (h : lt.bare = lt'.bare ∧ fs = fs') => h)
  obtain ⟨R, hR⟩ : ∃ R, is (lt.bare = lt'.bare ∧ fs = fs') = R := ⟨_, rfl⟩
  rw [hR] at HY HN ⊢
  obtain ⟨S, hS⟩ : ∃ S, (lt.bare = lt'.bare ∧ fs = fs') = S := ⟨_, rfl⟩
  have HC := hid (fun (h : lt.bare = lt'.bare ∧ fs = fs') => (by rw [← hS]; exact h : S))
  have HK := hid (fun (h : S) => (by rw [← hS] at h; exact h : lt.bare = lt'.bare ∧ fs = fs'))
  rw [hS] at HN HY
  clear hR hS H0
  obtain ⟨n1, hn1⟩ : ∃ n, lt.len = n := ⟨_, rfl⟩
  obtain ⟨n2, hn2⟩ : ∃ n, lt'.len = n := ⟨_, rfl⟩
  rw [hn1, hn2] at SL ⊢
  clear hn1 hn2
  obtain ⟨w1, hw1, hX, hY, hb1⟩ : ∃ w1, w1 = (((w.alloc (.cells #[] 57)).alloc (.cells #[.slice la n1 lc, .slice fa fs.length fc] 51)).alloc (.cells #[.slice la' n2 lc', .slice fa' fs'.length fc'] 51)) ∧ BoxAt w1 (w.heap.size + 1) #[.slice la n1 lc, .slice fa fs.length fc] ∧ BoxAt w1 (w.heap.size + 2) #[.slice la' n2 lc', .slice fa' fs'.length fc'] ∧ Below w.heap.size w w1 := ⟨_, rfl, three_boxes w _ _ _ _⟩
  have HB1 := hid hb1
  have HW := hid hw1
  have x0 := hX 0 _ rfl
  have y0 := hY 0 _ rfl
  have x1 := hX 1 _ rfl
  have y1 := hY 1 _ rfl
  clear hw1 hb1 hX hY
  go_enter Tryz.func46, Tryz.ntmps46
  go_wp2_with fail
  rw [← HW.out]
  go_wp2_with fail
  obtain ⟨r0, h0⟩ : ∃ r, is (lt.bare = lt'.bare) = r := ⟨_, rfl⟩
  rw [h0] at SL
  refine (SL.out _ HB1.out).mono ?_
  rintro r w2 ⟨rfl, hb2⟩
  have HB2 := hid (HB1.out.trans (hb2.mono HB1.out.size))
  have x1 := Go.Proofs.YtaibfefmehhldaaGreatDoor.keep hb2 x1
  have y1 := Go.Proofs.YtaibfefmehhldaaGreatDoor.keep hb2 y1
  clear HB1 hb2 SL x0 y0 HW
  cases r0 with
  | false =>
    have HE := hid (HN.out (fun s => by have h := HK.out s; have := is_yes h.1; rw [h0] at this; cases this))
    clear ST HY HN HC HK h0
    go_wp2
    go_ret
    exact ⟨ret_bool HE.out.symm, HB2.out⟩
  | true =>
    have G0 : Hid (lt.bare = lt'.bare) := hid (by apply Classical.byContradiction; intro h; rw [is_no h] at h0; cases h0)
    clear h0
    go_wp2_with fail
    obtain ⟨r1, h1⟩ : ∃ r, is (fs = fs') = r := ⟨_, rfl⟩
    rw [h1] at ST
    refine (ST.out _ HB2.out).mono ?_
    rintro r w3 ⟨rfl, hb3⟩
    have HB3 := hid (HB2.out.trans (hb3.mono HB2.out.size))
    clear HB2 hb3 ST x1 y1
    cases r1 with
    | false =>
      have HE := hid (HN.out (fun s => by have h := HK.out s; have := is_yes h.2; rw [h1] at this; cases this))
      clear HY HN HC HK h1
      go_wp2
      go_ret
      exact ⟨ret_bool HE.out.symm, HB3.out⟩
    | true =>
      have G1 : Hid (fs = fs') := hid (by apply Classical.byContradiction; intro h; rw [is_no h] at h1; cases h1)
      clear h1
      have HE := hid (HY.out (HC.out ⟨G0.out, G1.out⟩))
      clear HY HN HC HK
      go_wp2
      go_ret
      exact ⟨ret_bool HE.out.symm, HB3.out⟩
end Go.Proofs.YtaibfefmehhldaaGreatDoor.Mod

namespace Go.Proofs.YtaibfefmehhldaaGreatDoor.Mod
open Go.RowKit Go.Proofs.YtaibfefmehhldaaGreatDoor.Instr
open Go.Proofs.YtaibfefmehhldaaGreatDoor.Body (drewn)

theorem bare_fu (x y : Fn) : Fn.bare x = Fn.bare y ↔ x.ty = y.ty ∧ x.lo = y.lo ∧ x.l.t.bare = y.l.t.bare := by simp [Fn.bare, Lst.bare]
set_option maxRecDepth 100000 in
set_option maxHeartbeats 4000000 in
theorem equalF_fu (n₀ : Nat) (l r : List Fn) (a1 a2 : Option Addr) (n m c1 c2 : Nat) (w : World) (hn : l.length = n) (hm : r.length = m) (hx : Rows n₀ w a1 3 (l.map Fn.v)) (hy : Rows n₀ w a2 3 (r.map Fn.v)) (hn0 : n₀ ≤ w.heap.size) (hb1 : n ≤ 140737488351232) (hb2 : m ≤ 140737488351232)
    (hL : ∀ x ∈ l, (ListAt n₀ w x.l.a x.l.t.len x.l.t ∧ x.l.t.len ≤ 140737488351232)) (hR : ∀ x ∈ r, (ListAt n₀ w x.l.a x.l.t.len x.l.t ∧ x.l.t.len ≤ 140737488351232)) :
    Calls Tryz.prog 37 #[.slice a1 n c1, .slice a2 m c2, .func (.func 38) #[.agg #[]] #[]] w fun e w' => e = .returned (.bool (is (l.map Fn.bare = r.map Fn.bare))) ∧ Below w.heap.size w w' := by
  by_cases hnn : n = m
  · subst hnn
    have LL := hid hn
    have LR := hid hm
    have HX := hid hx
    have HY := hid hy
    have HN := hid hn0
    have HTL := hid hL
    have HTR := hid hR
    clear hn hm hx hy hn0 hb2 hL hR
    go_enter Tryz.func37, Tryz.ntmps37
    go_wp2
    go_loopw [7, 17] (fun _ vi wr => ∃ k : Nat, vi = .int .i64 k ∧ k ≤ n ∧ Hid (Below w.heap.size w wr) ∧ Hid (∀ j (h1 : j < l.length) (h2 : j < r.length), j < k → Fn.bare l[j] = Fn.bare r[j])) (fun _ vi _ => n - (intOf vi).toNat)
    case atStart => exact ⟨0, rfl, Nat.zero_le _, Below.refl _ _, fun j _ _ h => absurd h (Nat.not_lt_zero _)⟩
    case round =>
      obtain ⟨k, rfl, hk, HW, HQ⟩ := hrel
      by_cases hlt : k < n
      · have hka : k < l.length := by rw [LL.out]; exact hlt
        have hkb : k < r.length := by rw [LR.out]; exact hlt
        obtain ⟨b1, o1, rfl, hl1, hc1⟩ := Mod.Rows.get HX.out hka
        obtain ⟨b2, o2, rfl, hl2, hc2⟩ := Mod.Rows.get HY.out hkb
        have tx := HTL.out _ (List.getElem_mem hka)
        have ty := HTR.out _ (List.getElem_mem hkb)
        have HS := hid (fun h => map_step (f := Fn.bare) hka hkb HQ.out h)
        have HF := hid (fun h => map_no (f := Fn.bare) (l := l) (r := r) hka hkb h)
        obtain ⟨x, hxe⟩ : ∃ x, l[k] = x := ⟨_, rfl⟩
        obtain ⟨y, hye⟩ : ∃ y, r[k] = y := ⟨_, rfl⟩
        rw [hxe] at hc1 HS HF tx
        rw [hye] at hc2 HS HF ty
        have c0 : wr.cell? ⟨b1, o1 + k * 3, none⟩ = some (.int .i64 x.ty) := (HW.out.cell (p := ⟨b1, o1 + k * 3 + 0, none⟩) (Nat.lt_of_lt_of_le hl1 HN.out)).trans (hc1 0 (by omega) _ rfl)
        have c1 : wr.cell? ⟨b1, o1 + k * 3 + 1, none⟩ = some (.int .i64 x.lo) := (HW.out.cell (p := ⟨b1, o1 + k * 3 + 1, none⟩) (Nat.lt_of_lt_of_le hl1 HN.out)).trans (hc1 1 (by omega) _ rfl)
        have c2 : wr.cell? ⟨b1, o1 + k * 3 + 2, none⟩ = some (.slice x.l.a x.l.t.len x.l.c) := (HW.out.cell (p := ⟨b1, o1 + k * 3 + 2, none⟩) (Nat.lt_of_lt_of_le hl1 HN.out)).trans (hc1 2 (by omega) _ rfl)
        have d0 : wr.cell? ⟨b2, o2 + k * 3, none⟩ = some (.int .i64 y.ty) := (HW.out.cell (p := ⟨b2, o2 + k * 3 + 0, none⟩) (Nat.lt_of_lt_of_le hl2 HN.out)).trans (hc2 0 (by omega) _ rfl)
        have d1 : wr.cell? ⟨b2, o2 + k * 3 + 1, none⟩ = some (.int .i64 y.lo) := (HW.out.cell (p := ⟨b2, o2 + k * 3 + 1, none⟩) (Nat.lt_of_lt_of_le hl2 HN.out)).trans (hc2 1 (by omega) _ rfl)
        have d2 : wr.cell? ⟨b2, o2 + k * 3 + 2, none⟩ = some (.slice y.l.a y.l.t.len y.l.c) := (HW.out.cell (p := ⟨b2, o2 + k * 3 + 2, none⟩) (Nat.lt_of_lt_of_le hl2 HN.out)).trans (hc2 2 (by omega) _ rfl)
        have hki : (k : Int) < (n : Int) := by omega
        have hsz := HW.out.size
        have hnn0 := HN.out
        have e1 : b1 < wr.heap.size := by omega
        have e2 : b2 < wr.heap.size := by omega
        have CI := hid (fun (W : World) (hb : Below wr.heap.size wr W) => (fun (hbn : Below n₀ w W) => eqo_fu x.ty x.lo x.l.a x.l.c x.l.t y.ty y.lo y.l.a y.l.c y.l.t n₀ W (tx.1.below hbn) (ty.1.below hbn) (Nat.le_trans (Nat.le_trans hnn0 hsz) hb.size) tx.2 ty.2) ((HW.out.mono hnn0).trans (hb.mono (Nat.le_trans hnn0 hsz))))
        rw [← bare_fu x y] at CI
        obtain ⟨q, hq⟩ : ∃ q, (Fn.bare x = Fn.bare y) = q := ⟨_, rfl⟩
        obtain ⟨z, hz⟩ : ∃ z, is q = z := ⟨_, rfl⟩
        rw [hq] at CI HS HF
        rw [hz] at CI
        have HZ := hid hz
        clear hq hz hc1 hc2 hl1 hl2 hxe hye hka hkb hsz hnn0 HQ HX HY tx ty HTL HTR
        generalize x.l.t.len = n1 at *
        generalize y.l.t.len = n2 at *
        go_wp2_with fail
        refine (CI.out _ (((Below.refl wr.heap.size wr).alloc (Nat.le_refl _) _).alloc (by simp only [World.size_alloc]; omega) _)).mono ?_
        rintro r w2 ⟨rfl, hb2⟩
        have hb3 : Below wr.heap.size wr w2 := (((Below.refl wr.heap.size wr).alloc (Nat.le_refl _) _).alloc (by simp only [World.size_alloc]; omega) _).trans (hb2.mono (by simp only [World.size_alloc]; omega))
        have HB2 := hid (HW.out.trans (hb3.mono HW.out.size))
        clear hb2 hb3 CI HW c0 d0 c1 d1 c2 d2 e1 e2
        cases z with
        | false =>
          have HE := hid (HF.out (fun g => by have h1 := HZ.out; rw [is_yes g] at h1; cases h1))
          clear HF HS HZ
          go_wp2
          go_ret
          exact ⟨ret_bool HE.out.symm, HB2.out⟩
        | true =>
          have HE := hid (HS.out (Classical.byContradiction (fun g => by have h1 := HZ.out; rw [is_no g] at h1; cases h1)))
          clear HF HS HZ
          go_wp2
          go_roundw
          case rel => exact ⟨k + 1, by go_num, by omega, HB2, HE⟩
          case measure => simp [intOf]; omega
      · obtain rfl : k = n := by omega
        have HE := hid (map_all (f := Fn.bare) LL.out LR.out HQ.out)
        clear HQ hlt hk
        go_wp2
        go_ret
        exact ⟨ret_bool HE.out.symm, HW.out⟩
  · have HE := hid (eqm_len (f := Fn.bare) hn hm hnn)
    have hni : ¬ (n : Int) = (m : Int) := by omega
    have q1 : ((n : Int) == (m : Int)) = false := beq_eq_false_iff_ne.2 hni
    have q2 : ((n : Int) != (m : Int)) = true := bne_iff_ne.2 hni
    clear hx hy hn hm hnn hL hR
    go_enter Tryz.func37, Tryz.ntmps37
    go_wp2
    go_ret
    exact ⟨ret_bool HE.out.symm, Below.refl _ _⟩

theorem bare_gl (x y : Gl) : Gl.bare x = Gl.bare y ↔ x.mu = y.mu ∧ x.l.t.bare = y.l.t.bare := by simp [Gl.bare, Lst.bare]
set_option maxRecDepth 100000 in
set_option maxHeartbeats 4000000 in
theorem equalF_gl (n₀ : Nat) (l r : List Gl) (a1 a2 : Option Addr) (n m c1 c2 : Nat) (w : World) (hn : l.length = n) (hm : r.length = m) (hx : Rows n₀ w a1 2 (l.map Gl.v)) (hy : Rows n₀ w a2 2 (r.map Gl.v)) (hn0 : n₀ ≤ w.heap.size) (hb1 : n ≤ 140737488351232) (hb2 : m ≤ 140737488351232)
    (hL : ∀ x ∈ l, (ListAt n₀ w x.l.a x.l.t.len x.l.t ∧ x.l.t.len ≤ 140737488351232)) (hR : ∀ x ∈ r, (ListAt n₀ w x.l.a x.l.t.len x.l.t ∧ x.l.t.len ≤ 140737488351232)) :
    Calls Tryz.prog 40 #[.slice a1 n c1, .slice a2 m c2, .func (.func 41) #[.agg #[]] #[]] w fun e w' => e = .returned (.bool (is (l.map Gl.bare = r.map Gl.bare))) ∧ Below w.heap.size w w' := by
  by_cases hnn : n = m
  · subst hnn
    have LL := hid hn
    have LR := hid hm
    have HX := hid hx
    have HY := hid hy
    have HN := hid hn0
    have HTL := hid hL
    have HTR := hid hR
    clear hn hm hx hy hn0 hb2 hL hR
    go_enter Tryz.func40, Tryz.ntmps40
    go_wp2
    go_loopw [7, 17] (fun _ vi wr => ∃ k : Nat, vi = .int .i64 k ∧ k ≤ n ∧ Hid (Below w.heap.size w wr) ∧ Hid (∀ j (h1 : j < l.length) (h2 : j < r.length), j < k → Gl.bare l[j] = Gl.bare r[j])) (fun _ vi _ => n - (intOf vi).toNat)
    case atStart => exact ⟨0, rfl, Nat.zero_le _, Below.refl _ _, fun j _ _ h => absurd h (Nat.not_lt_zero _)⟩
    case round =>
      obtain ⟨k, rfl, hk, HW, HQ⟩ := hrel
      by_cases hlt : k < n
      · have hka : k < l.length := by rw [LL.out]; exact hlt
        have hkb : k < r.length := by rw [LR.out]; exact hlt
        obtain ⟨b1, o1, rfl, hl1, hc1⟩ := Mod.Rows.get HX.out hka
        obtain ⟨b2, o2, rfl, hl2, hc2⟩ := Mod.Rows.get HY.out hkb
        have tx := HTL.out _ (List.getElem_mem hka)
        have ty := HTR.out _ (List.getElem_mem hkb)
        have HS := hid (fun h => map_step (f := Gl.bare) hka hkb HQ.out h)
        have HF := hid (fun h => map_no (f := Gl.bare) (l := l) (r := r) hka hkb h)
        obtain ⟨x, hxe⟩ : ∃ x, l[k] = x := ⟨_, rfl⟩
        obtain ⟨y, hye⟩ : ∃ y, r[k] = y := ⟨_, rfl⟩
        rw [hxe] at hc1 HS HF tx
        rw [hye] at hc2 HS HF ty
        have c0 : wr.cell? ⟨b1, o1 + k * 2, none⟩ = some (.bool x.mu) := (HW.out.cell (p := ⟨b1, o1 + k * 2 + 0, none⟩) (Nat.lt_of_lt_of_le hl1 HN.out)).trans (hc1 0 (by omega) _ rfl)
        have c1 : wr.cell? ⟨b1, o1 + k * 2 + 1, none⟩ = some (.slice x.l.a x.l.t.len x.l.c) := (HW.out.cell (p := ⟨b1, o1 + k * 2 + 1, none⟩) (Nat.lt_of_lt_of_le hl1 HN.out)).trans (hc1 1 (by omega) _ rfl)
        have d0 : wr.cell? ⟨b2, o2 + k * 2, none⟩ = some (.bool y.mu) := (HW.out.cell (p := ⟨b2, o2 + k * 2 + 0, none⟩) (Nat.lt_of_lt_of_le hl2 HN.out)).trans (hc2 0 (by omega) _ rfl)
        have d1 : wr.cell? ⟨b2, o2 + k * 2 + 1, none⟩ = some (.slice y.l.a y.l.t.len y.l.c) := (HW.out.cell (p := ⟨b2, o2 + k * 2 + 1, none⟩) (Nat.lt_of_lt_of_le hl2 HN.out)).trans (hc2 1 (by omega) _ rfl)
        have hki : (k : Int) < (n : Int) := by omega
        have hsz := HW.out.size
        have hnn0 := HN.out
        have e1 : b1 < wr.heap.size := by omega
        have e2 : b2 < wr.heap.size := by omega
        have CI := hid (fun (W : World) (hb : Below wr.heap.size wr W) => (fun (hbn : Below n₀ w W) => eqo_gl x.mu x.l.a x.l.c x.l.t y.mu y.l.a y.l.c y.l.t n₀ W (tx.1.below hbn) (ty.1.below hbn) (Nat.le_trans (Nat.le_trans hnn0 hsz) hb.size) tx.2 ty.2) ((HW.out.mono hnn0).trans (hb.mono (Nat.le_trans hnn0 hsz))))
        rw [← bare_gl x y] at CI
        obtain ⟨q, hq⟩ : ∃ q, (Gl.bare x = Gl.bare y) = q := ⟨_, rfl⟩
        obtain ⟨z, hz⟩ : ∃ z, is q = z := ⟨_, rfl⟩
        rw [hq] at CI HS HF
        rw [hz] at CI
        have HZ := hid hz
        clear hq hz hc1 hc2 hl1 hl2 hxe hye hka hkb hsz hnn0 HQ HX HY tx ty HTL HTR
        generalize x.l.t.len = n1 at *
        generalize y.l.t.len = n2 at *
        go_wp2_with fail
        refine (CI.out _ (((Below.refl wr.heap.size wr).alloc (Nat.le_refl _) _).alloc (by simp only [World.size_alloc]; omega) _)).mono ?_
        rintro r w2 ⟨rfl, hb2⟩
        have hb3 : Below wr.heap.size wr w2 := (((Below.refl wr.heap.size wr).alloc (Nat.le_refl _) _).alloc (by simp only [World.size_alloc]; omega) _).trans (hb2.mono (by simp only [World.size_alloc]; omega))
        have HB2 := hid (HW.out.trans (hb3.mono HW.out.size))
        clear hb2 hb3 CI HW c0 d0 c1 d1 e1 e2
        cases z with
        | false =>
          have HE := hid (HF.out (fun g => by have h1 := HZ.out; rw [is_yes g] at h1; cases h1))
          clear HF HS HZ
          go_wp2
          go_ret
          exact ⟨ret_bool HE.out.symm, HB2.out⟩
        | true =>
          have HE := hid (HS.out (Classical.byContradiction (fun g => by have h1 := HZ.out; rw [is_no g] at h1; cases h1)))
          clear HF HS HZ
          go_wp2
          go_roundw
          case rel => exact ⟨k + 1, by go_num, by omega, HB2, HE⟩
          case measure => simp [intOf]; omega
      · obtain rfl : k = n := by omega
        have HE := hid (map_all (f := Gl.bare) LL.out LR.out HQ.out)
        clear HQ hlt hk
        go_wp2
        go_ret
        exact ⟨ret_bool HE.out.symm, HW.out⟩
  · have HE := hid (eqm_len (f := Gl.bare) hn hm hnn)
    have hni : ¬ (n : Int) = (m : Int) := by omega
    have q1 : ((n : Int) == (m : Int)) = false := beq_eq_false_iff_ne.2 hni
    have q2 : ((n : Int) != (m : Int)) = true := bne_iff_ne.2 hni
    clear hx hy hn hm hnn hL hR
    go_enter Tryz.func40, Tryz.ntmps40
    go_wp2
    go_ret
    exact ⟨ret_bool HE.out.symm, Below.refl _ _⟩

theorem bare_el (x y : El) : El.bare x = El.bare y ↔ x.l.t.bare = y.l.t.bare ∧ x.fs = y.fs := by simp [El.bare, Lst.bare]
set_option maxRecDepth 100000 in
set_option maxHeartbeats 4000000 in
theorem equalF_el (n₀ : Nat) (l r : List El) (a1 a2 : Option Addr) (n m c1 c2 : Nat) (w : World) (hn : l.length = n) (hm : r.length = m) (hx : Rows n₀ w a1 2 (l.map El.v)) (hy : Rows n₀ w a2 2 (r.map El.v)) (hn0 : n₀ ≤ w.heap.size) (hb1 : n ≤ 140737488351232) (hb2 : m ≤ 140737488351232)
    (hL : ∀ x ∈ l, (ListAt n₀ w x.l.a x.l.t.len x.l.t ∧ x.l.t.len ≤ 140737488351232) ∧ TagsAt n₀ w x.fa x.fs ∧ x.fs.length ≤ 140737488351232) (hR : ∀ x ∈ r, (ListAt n₀ w x.l.a x.l.t.len x.l.t ∧ x.l.t.len ≤ 140737488351232) ∧ TagsAt n₀ w x.fa x.fs ∧ x.fs.length ≤ 140737488351232) :
    Calls Tryz.prog 43 #[.slice a1 n c1, .slice a2 m c2, .func (.func 44) #[.agg #[]] #[]] w fun e w' => e = .returned (.bool (is (l.map El.bare = r.map El.bare))) ∧ Below w.heap.size w w' := by
  by_cases hnn : n = m
  · subst hnn
    have LL := hid hn
    have LR := hid hm
    have HX := hid hx
    have HY := hid hy
    have HN := hid hn0
    have HTL := hid hL
    have HTR := hid hR
    clear hn hm hx hy hn0 hb2 hL hR
    go_enter Tryz.func43, Tryz.ntmps43
    go_wp2
    go_loopw [7, 17] (fun _ vi wr => ∃ k : Nat, vi = .int .i64 k ∧ k ≤ n ∧ Hid (Below w.heap.size w wr) ∧ Hid (∀ j (h1 : j < l.length) (h2 : j < r.length), j < k → El.bare l[j] = El.bare r[j])) (fun _ vi _ => n - (intOf vi).toNat)
    case atStart => exact ⟨0, rfl, Nat.zero_le _, Below.refl _ _, fun j _ _ h => absurd h (Nat.not_lt_zero _)⟩
    case round =>
      obtain ⟨k, rfl, hk, HW, HQ⟩ := hrel
      by_cases hlt : k < n
      · have hka : k < l.length := by rw [LL.out]; exact hlt
        have hkb : k < r.length := by rw [LR.out]; exact hlt
        obtain ⟨b1, o1, rfl, hl1, hc1⟩ := Mod.Rows.get HX.out hka
        obtain ⟨b2, o2, rfl, hl2, hc2⟩ := Mod.Rows.get HY.out hkb
        have tx := HTL.out _ (List.getElem_mem hka)
        have ty := HTR.out _ (List.getElem_mem hkb)
        have HS := hid (fun h => map_step (f := El.bare) hka hkb HQ.out h)
        have HF := hid (fun h => map_no (f := El.bare) (l := l) (r := r) hka hkb h)
        obtain ⟨x, hxe⟩ : ∃ x, l[k] = x := ⟨_, rfl⟩
        obtain ⟨y, hye⟩ : ∃ y, r[k] = y := ⟨_, rfl⟩
        rw [hxe] at hc1 HS HF tx
        rw [hye] at hc2 HS HF ty
        have c0 : wr.cell? ⟨b1, o1 + k * 2, none⟩ = some (.slice x.l.a x.l.t.len x.l.c) := (HW.out.cell (p := ⟨b1, o1 + k * 2 + 0, none⟩) (Nat.lt_of_lt_of_le hl1 HN.out)).trans (hc1 0 (by omega) _ rfl)
        have c1 : wr.cell? ⟨b1, o1 + k * 2 + 1, none⟩ = some (.slice x.fa x.fs.length x.fc) := (HW.out.cell (p := ⟨b1, o1 + k * 2 + 1, none⟩) (Nat.lt_of_lt_of_le hl1 HN.out)).trans (hc1 1 (by omega) _ rfl)
        have d0 : wr.cell? ⟨b2, o2 + k * 2, none⟩ = some (.slice y.l.a y.l.t.len y.l.c) := (HW.out.cell (p := ⟨b2, o2 + k * 2 + 0, none⟩) (Nat.lt_of_lt_of_le hl2 HN.out)).trans (hc2 0 (by omega) _ rfl)
        have d1 : wr.cell? ⟨b2, o2 + k * 2 + 1, none⟩ = some (.slice y.fa y.fs.length y.fc) := (HW.out.cell (p := ⟨b2, o2 + k * 2 + 1, none⟩) (Nat.lt_of_lt_of_le hl2 HN.out)).trans (hc2 1 (by omega) _ rfl)
        have hki : (k : Int) < (n : Int) := by omega
        have hsz := HW.out.size
        have hnn0 := HN.out
        have e1 : b1 < wr.heap.size := by omega
        have e2 : b2 < wr.heap.size := by omega
        have CI := hid (fun (W : World) (hb : Below wr.heap.size wr W) => (fun (hbn : Below n₀ w W) => eqo_el x.fa x.fc x.fs x.l.a x.l.c x.l.t y.fa y.fc y.fs y.l.a y.l.c y.l.t n₀ W (tx.1.1.below hbn) (ty.1.1.below hbn) (Nat.le_trans (Nat.le_trans hnn0 hsz) hb.size) tx.1.2 ty.1.2 (tx.2.1.below hbn) (ty.2.1.below hbn) tx.2.2 ty.2.2) ((HW.out.mono hnn0).trans (hb.mono (Nat.le_trans hnn0 hsz))))
        rw [← bare_el x y] at CI
        obtain ⟨q, hq⟩ : ∃ q, (El.bare x = El.bare y) = q := ⟨_, rfl⟩
        obtain ⟨z, hz⟩ : ∃ z, is q = z := ⟨_, rfl⟩
        rw [hq] at CI HS HF
        rw [hz] at CI
        have HZ := hid hz
        clear hq hz hc1 hc2 hl1 hl2 hxe hye hka hkb hsz hnn0 HQ HX HY tx ty HTL HTR
        generalize x.l.t.len = n1 at *
        generalize y.l.t.len = n2 at *
        go_wp2_with fail
        refine (CI.out _ (((Below.refl wr.heap.size wr).alloc (Nat.le_refl _) _).alloc (by simp only [World.size_alloc]; omega) _)).mono ?_
        rintro r w2 ⟨rfl, hb2⟩
        have hb3 : Below wr.heap.size wr w2 := (((Below.refl wr.heap.size wr).alloc (Nat.le_refl _) _).alloc (by simp only [World.size_alloc]; omega) _).trans (hb2.mono (by simp only [World.size_alloc]; omega))
        have HB2 := hid (HW.out.trans (hb3.mono HW.out.size))
        clear hb2 hb3 CI HW c0 d0 c1 d1 e1 e2
        cases z with
        | false =>
          have HE := hid (HF.out (fun g => by have h1 := HZ.out; rw [is_yes g] at h1; cases h1))
          clear HF HS HZ
          go_wp2
          go_ret
          exact ⟨ret_bool HE.out.symm, HB2.out⟩
        | true =>
          have HE := hid (HS.out (Classical.byContradiction (fun g => by have h1 := HZ.out; rw [is_no g] at h1; cases h1)))
          clear HF HS HZ
          go_wp2
          go_roundw
          case rel => exact ⟨k + 1, by go_num, by omega, HB2, HE⟩
          case measure => simp [intOf]; omega
      · obtain rfl : k = n := by omega
        have HE := hid (map_all (f := El.bare) LL.out LR.out HQ.out)
        clear HQ hlt hk
        go_wp2
        go_ret
        exact ⟨ret_bool HE.out.symm, HW.out⟩
  · have HE := hid (eqm_len (f := El.bare) hn hm hnn)
    have hni : ¬ (n : Int) = (m : Int) := by omega
    have q1 : ((n : Int) == (m : Int)) = false := beq_eq_false_iff_ne.2 hni
    have q2 : ((n : Int) != (m : Int)) = true := bne_iff_ne.2 hni
    clear hx hy hn hm hnn hL hR
    go_enter Tryz.func43, Tryz.ntmps43
    go_wp2
    go_ret
    exact ⟨ret_bool HE.out.symm, Below.refl _ _⟩

theorem bare_da (x y : Da) : Da.bare x = Da.bare y ↔ x.l.t.bare = y.l.t.bare ∧ x.bs = y.bs := by simp [Da.bare, Lst.bare]
set_option maxRecDepth 100000 in
set_option maxHeartbeats 4000000 in
theorem equalF_da (n₀ : Nat) (l r : List Da) (a1 a2 : Option Addr) (n m c1 c2 : Nat) (w : World) (hn : l.length = n) (hm : r.length = m) (hx : Rows n₀ w a1 2 (l.map Da.v)) (hy : Rows n₀ w a2 2 (r.map Da.v)) (hn0 : n₀ ≤ w.heap.size) (hb1 : n ≤ 140737488351232) (hb2 : m ≤ 140737488351232)
    (hL : ∀ x ∈ l, (ListAt n₀ w x.l.a x.l.t.len x.l.t ∧ x.l.t.len ≤ 140737488351232) ∧ BytesAt n₀ w x.ba x.bs ∧ x.bs.length ≤ 140737488351232) (hR : ∀ x ∈ r, (ListAt n₀ w x.l.a x.l.t.len x.l.t ∧ x.l.t.len ≤ 140737488351232) ∧ BytesAt n₀ w x.ba x.bs ∧ x.bs.length ≤ 140737488351232) :
    Calls Tryz.prog 45 #[.slice a1 n c1, .slice a2 m c2, .func (.func 46) #[.agg #[]] #[]] w fun e w' => e = .returned (.bool (is (l.map Da.bare = r.map Da.bare))) ∧ Below w.heap.size w w' := by
  by_cases hnn : n = m
  · subst hnn
    have LL := hid hn
    have LR := hid hm
    have HX := hid hx
    have HY := hid hy
    have HN := hid hn0
    have HTL := hid hL
    have HTR := hid hR
    clear hn hm hx hy hn0 hb2 hL hR
    go_enter Tryz.func45, Tryz.ntmps45
    go_wp2
    go_loopw [7, 17] (fun _ vi wr => ∃ k : Nat, vi = .int .i64 k ∧ k ≤ n ∧ Hid (Below w.heap.size w wr) ∧ Hid (∀ j (h1 : j < l.length) (h2 : j < r.length), j < k → Da.bare l[j] = Da.bare r[j])) (fun _ vi _ => n - (intOf vi).toNat)
    case atStart => exact ⟨0, rfl, Nat.zero_le _, Below.refl _ _, fun j _ _ h => absurd h (Nat.not_lt_zero _)⟩
    case round =>
      obtain ⟨k, rfl, hk, HW, HQ⟩ := hrel
      by_cases hlt : k < n
      · have hka : k < l.length := by rw [LL.out]; exact hlt
        have hkb : k < r.length := by rw [LR.out]; exact hlt
        obtain ⟨b1, o1, rfl, hl1, hc1⟩ := Mod.Rows.get HX.out hka
        obtain ⟨b2, o2, rfl, hl2, hc2⟩ := Mod.Rows.get HY.out hkb
        have tx := HTL.out _ (List.getElem_mem hka)
        have ty := HTR.out _ (List.getElem_mem hkb)
        have HS := hid (fun h => map_step (f := Da.bare) hka hkb HQ.out h)
        have HF := hid (fun h => map_no (f := Da.bare) (l := l) (r := r) hka hkb h)
        obtain ⟨x, hxe⟩ : ∃ x, l[k] = x := ⟨_, rfl⟩
        obtain ⟨y, hye⟩ : ∃ y, r[k] = y := ⟨_, rfl⟩
        rw [hxe] at hc1 HS HF tx
        rw [hye] at hc2 HS HF ty
        have c0 : wr.cell? ⟨b1, o1 + k * 2, none⟩ = some (.slice x.l.a x.l.t.len x.l.c) := (HW.out.cell (p := ⟨b1, o1 + k * 2 + 0, none⟩) (Nat.lt_of_lt_of_le hl1 HN.out)).trans (hc1 0 (by omega) _ rfl)
        have c1 : wr.cell? ⟨b1, o1 + k * 2 + 1, none⟩ = some (.slice x.ba x.bs.length x.bc) := (HW.out.cell (p := ⟨b1, o1 + k * 2 + 1, none⟩) (Nat.lt_of_lt_of_le hl1 HN.out)).trans (hc1 1 (by omega) _ rfl)
        have d0 : wr.cell? ⟨b2, o2 + k * 2, none⟩ = some (.slice y.l.a y.l.t.len y.l.c) := (HW.out.cell (p := ⟨b2, o2 + k * 2 + 0, none⟩) (Nat.lt_of_lt_of_le hl2 HN.out)).trans (hc2 0 (by omega) _ rfl)
        have d1 : wr.cell? ⟨b2, o2 + k * 2 + 1, none⟩ = some (.slice y.ba y.bs.length y.bc) := (HW.out.cell (p := ⟨b2, o2 + k * 2 + 1, none⟩) (Nat.lt_of_lt_of_le hl2 HN.out)).trans (hc2 1 (by omega) _ rfl)
        have hki : (k : Int) < (n : Int) := by omega
        have hsz := HW.out.size
        have hnn0 := HN.out
        have e1 : b1 < wr.heap.size := by omega
        have e2 : b2 < wr.heap.size := by omega
        have CI := hid (fun (W : World) (hb : Below wr.heap.size wr W) => (fun (hbn : Below n₀ w W) => eqo_da x.ba x.bc x.bs x.l.a x.l.c x.l.t y.ba y.bc y.bs y.l.a y.l.c y.l.t n₀ W (tx.1.1.below hbn) (ty.1.1.below hbn) (Nat.le_trans (Nat.le_trans hnn0 hsz) hb.size) tx.1.2 ty.1.2 (tx.2.1.below hbn) (ty.2.1.below hbn) tx.2.2 ty.2.2) ((HW.out.mono hnn0).trans (hb.mono (Nat.le_trans hnn0 hsz))))
        rw [← bare_da x y] at CI
        obtain ⟨q, hq⟩ : ∃ q, (Da.bare x = Da.bare y) = q := ⟨_, rfl⟩
        obtain ⟨z, hz⟩ : ∃ z, is q = z := ⟨_, rfl⟩
        rw [hq] at CI HS HF
        rw [hz] at CI
        have HZ := hid hz
        clear hq hz hc1 hc2 hl1 hl2 hxe hye hka hkb hsz hnn0 HQ HX HY tx ty HTL HTR
        generalize x.l.t.len = n1 at *
        generalize y.l.t.len = n2 at *
        go_wp2_with fail
        refine (CI.out _ (((Below.refl wr.heap.size wr).alloc (Nat.le_refl _) _).alloc (by simp only [World.size_alloc]; omega) _)).mono ?_
        rintro r w2 ⟨rfl, hb2⟩
        have hb3 : Below wr.heap.size wr w2 := (((Below.refl wr.heap.size wr).alloc (Nat.le_refl _) _).alloc (by simp only [World.size_alloc]; omega) _).trans (hb2.mono (by simp only [World.size_alloc]; omega))
        have HB2 := hid (HW.out.trans (hb3.mono HW.out.size))
        clear hb2 hb3 CI HW c0 d0 c1 d1 e1 e2
        cases z with
        | false =>
          have HE := hid (HF.out (fun g => by have h1 := HZ.out; rw [is_yes g] at h1; cases h1))
          clear HF HS HZ
          go_wp2
          go_ret
          exact ⟨ret_bool HE.out.symm, HB2.out⟩
        | true =>
          have HE := hid (HS.out (Classical.byContradiction (fun g => by have h1 := HZ.out; rw [is_no g] at h1; cases h1)))
          clear HF HS HZ
          go_wp2
          go_roundw
          case rel => exact ⟨k + 1, by go_num, by omega, HB2, HE⟩
          case measure => simp [intOf]; omega
      · obtain rfl : k = n := by omega
        have HE := hid (map_all (f := Da.bare) LL.out LR.out HQ.out)
        clear HQ hlt hk
        go_wp2
        go_ret
        exact ⟨ret_bool HE.out.symm, HW.out⟩
  · have HE := hid (eqm_len (f := Da.bare) hn hm hnn)
    have hni : ¬ (n : Int) = (m : Int) := by omega
    have q1 : ((n : Int) == (m : Int)) = false := beq_eq_false_iff_ne.2 hni
    have q2 : ((n : Int) != (m : Int)) = true := bne_iff_ne.2 hni
    clear hx hy hn hm hnn hL hR
    go_enter Tryz.func45, Tryz.ntmps45
    go_wp2
    go_ret
    exact ⟨ret_bool HE.out.symm, Below.refl _ _⟩

set_option maxRecDepth 100000 in
set_option maxHeartbeats 8000000 in
theorem modules_any (a b : Md) (w : World) (ha : ModAt w.heap.size w a) (hb : ModAt w.heap.size w b) (fa : a.fits) (fb : b.fits) :
    Calls Tryz.prog 12 #[.agg #[], .agg a.v, .agg b.v] w fun e w' => e = .returned (.bool (is (Same a b))) ∧ Below w.heap.size w w' := by
  have Cty := hid (fun (W : World) (h : Below w.heap.size w W) => equal_ty w.heap.size a.ty b.ty a.ty'.a b.ty'.a a.ty.length b.ty.length a.ty'.c b.ty'.c W rfl rfl (ha.ty.below h) (hb.ty.below h) h.size fa.ty fb.ty)
  have Cim := hid (fun (W : World) (h : Below w.heap.size w W) => equal_im w.heap.size a.im b.im a.im'.a b.im'.a a.im.length b.im.length a.im'.c b.im'.c W rfl rfl (ha.im.below h) (hb.im.below h) h.size fa.im fb.im)
  have Cfu := hid (fun (W : World) (h : Below w.heap.size w W) => equalF_fu w.heap.size a.fu b.fu a.fu'.a b.fu'.a a.fu.length b.fu.length a.fu'.c b.fu'.c W rfl rfl (ha.fu.below h) (hb.fu.below h) h.size fa.fu fb.fu (fun x hx => ⟨(ha.ls _ (mem_fuC hx)).below h, fa.ls _ (mem_fuC hx)⟩) (fun x hx => ⟨(hb.ls _ (mem_fuC hx)).below h, fb.ls _ (mem_fuC hx)⟩))
  have Ctb := hid (fun (W : World) (h : Below w.heap.size w W) => equal_li w.heap.size a.tb b.tb a.tb'.a b.tb'.a a.tb.length b.tb.length a.tb'.c b.tb'.c W rfl rfl (ha.tb.below h) (hb.tb.below h) h.size fa.tb fb.tb)
  have Cme := hid (fun (W : World) (h : Below w.heap.size w W) => equal_li w.heap.size a.me b.me a.me'.a b.me'.a a.me.length b.me.length a.me'.c b.me'.c W rfl rfl (ha.me.below h) (hb.me.below h) h.size fa.me fb.me)
  have Cgl := hid (fun (W : World) (h : Below w.heap.size w W) => equalF_gl w.heap.size a.gl b.gl a.gl'.a b.gl'.a a.gl.length b.gl.length a.gl'.c b.gl'.c W rfl rfl (ha.gl.below h) (hb.gl.below h) h.size fa.gl fb.gl (fun x hx => ⟨(ha.ls _ (mem_glC hx)).below h, fa.ls _ (mem_glC hx)⟩) (fun x hx => ⟨(hb.ls _ (mem_glC hx)).below h, fb.ls _ (mem_glC hx)⟩))
  have Cex := hid (fun (W : World) (h : Below w.heap.size w W) => equal_ex w.heap.size a.ex b.ex a.ex'.a b.ex'.a a.ex.length b.ex.length a.ex'.c b.ex'.c W rfl rfl (ha.ex.below h) (hb.ex.below h) h.size fa.ex fb.ex)
  have Cel := hid (fun (W : World) (h : Below w.heap.size w W) => equalF_el w.heap.size a.el b.el a.el'.a b.el'.a a.el.length b.el.length a.el'.c b.el'.c W rfl rfl (ha.el.below h) (hb.el.below h) h.size fa.el fb.el (fun x hx => ⟨⟨(ha.ls _ (mem_elC hx)).below h, fa.ls _ (mem_elC hx)⟩, (ha.fs x hx).below h, fa.fs x hx⟩) (fun x hx => ⟨⟨(hb.ls _ (mem_elC hx)).below h, fb.ls _ (mem_elC hx)⟩, (hb.fs x hx).below h, fb.fs x hx⟩))
  have Cda := hid (fun (W : World) (h : Below w.heap.size w W) => equalF_da w.heap.size a.da b.da a.da'.a b.da'.a a.da.length b.da.length a.da'.c b.da'.c W rfl rfl (ha.da.below h) (hb.da.below h) h.size fa.da fb.da (fun x hx => ⟨⟨(ha.ls _ (mem_daC hx)).below h, fa.ls _ (mem_daC hx)⟩, (ha.bs x hx).below h, fa.bs x hx⟩) (fun x hx => ⟨⟨(hb.ls _ (mem_daC hx)).below h, fb.ls _ (mem_daC hx)⟩, (hb.bs x hx).below h, fb.bs x hx⟩))
  obtain ⟨rty, hrty⟩ : ∃ r, is (a.ty = b.ty) = r := ⟨_, rfl⟩
  rw [hrty] at Cty
  have Nty := hid (fun (h : rty = false) => is_no (p := Same a b) (fun e => by have h1 := is_yes e.ty; rw [hrty, h] at h1; cases h1))
  have Tty : Hid (rty = true → a.ty = b.ty) := hid (fun h => Classical.byContradiction (fun g => by rw [is_no g] at hrty; subst hrty; cases h))
  obtain ⟨rim, hrim⟩ : ∃ r, is (a.im = b.im) = r := ⟨_, rfl⟩
  rw [hrim] at Cim
  have Nim := hid (fun (h : rim = false) => is_no (p := Same a b) (fun e => by have h1 := is_yes e.im; rw [hrim, h] at h1; cases h1))
  have Tim : Hid (rim = true → a.im = b.im) := hid (fun h => Classical.byContradiction (fun g => by rw [is_no g] at hrim; subst hrim; cases h))
  obtain ⟨rfu, hrfu⟩ : ∃ r, is (a.fu.map Mod.Fn.bare = b.fu.map Mod.Fn.bare) = r := ⟨_, rfl⟩
  rw [hrfu] at Cfu
  have Nfu := hid (fun (h : rfu = false) => is_no (p := Same a b) (fun e => by have h1 := is_yes e.fu; rw [hrfu, h] at h1; cases h1))
  have Tfu : Hid (rfu = true → a.fu.map Mod.Fn.bare = b.fu.map Mod.Fn.bare) := hid (fun h => Classical.byContradiction (fun g => by rw [is_no g] at hrfu; subst hrfu; cases h))
  obtain ⟨rtb, hrtb⟩ : ∃ r, is (a.tb = b.tb) = r := ⟨_, rfl⟩
  rw [hrtb] at Ctb
  have Ntb := hid (fun (h : rtb = false) => is_no (p := Same a b) (fun e => by have h1 := is_yes e.tb; rw [hrtb, h] at h1; cases h1))
  have Ttb : Hid (rtb = true → a.tb = b.tb) := hid (fun h => Classical.byContradiction (fun g => by rw [is_no g] at hrtb; subst hrtb; cases h))
  obtain ⟨rme, hrme⟩ : ∃ r, is (a.me = b.me) = r := ⟨_, rfl⟩
  rw [hrme] at Cme
  have Nme := hid (fun (h : rme = false) => is_no (p := Same a b) (fun e => by have h1 := is_yes e.me; rw [hrme, h] at h1; cases h1))
  have Tme : Hid (rme = true → a.me = b.me) := hid (fun h => Classical.byContradiction (fun g => by rw [is_no g] at hrme; subst hrme; cases h))
  obtain ⟨rgl, hrgl⟩ : ∃ r, is (a.gl.map Gl.bare = b.gl.map Gl.bare) = r := ⟨_, rfl⟩
  rw [hrgl] at Cgl
  have Ngl := hid (fun (h : rgl = false) => is_no (p := Same a b) (fun e => by have h1 := is_yes e.gl; rw [hrgl, h] at h1; cases h1))
  have Tgl : Hid (rgl = true → a.gl.map Gl.bare = b.gl.map Gl.bare) := hid (fun h => Classical.byContradiction (fun g => by rw [is_no g] at hrgl; subst hrgl; cases h))
  obtain ⟨rex, hrex⟩ : ∃ r, is (a.ex = b.ex) = r := ⟨_, rfl⟩
  rw [hrex] at Cex
  have Nex := hid (fun (h : rex = false) => is_no (p := Same a b) (fun e => by have h1 := is_yes e.ex; rw [hrex, h] at h1; cases h1))
  have Tex : Hid (rex = true → a.ex = b.ex) := hid (fun h => Classical.byContradiction (fun g => by rw [is_no g] at hrex; subst hrex; cases h))
  obtain ⟨rel, hrel⟩ : ∃ r, is (a.el.map El.bare = b.el.map El.bare) = r := ⟨_, rfl⟩
  rw [hrel] at Cel
  have Nel := hid (fun (h : rel = false) => is_no (p := Same a b) (fun e => by have h1 := is_yes e.el; rw [hrel, h] at h1; cases h1))
  have Tel : Hid (rel = true → a.el.map El.bare = b.el.map El.bare) := hid (fun h => Classical.byContradiction (fun g => by rw [is_no g] at hrel; subst hrel; cases h))
  obtain ⟨rda, hrda⟩ : ∃ r, is (a.da.map Da.bare = b.da.map Da.bare) = r := ⟨_, rfl⟩
  rw [hrda] at Cda
  have Nda := hid (fun (h : rda = false) => is_no (p := Same a b) (fun e => by have h1 := is_yes e.da; rw [hrda, h] at h1; cases h1))
  have Tda : Hid (rda = true → a.da.map Da.bare = b.da.map Da.bare) := hid (fun h => Classical.byContradiction (fun g => by rw [is_no g] at hrda; subst hrda; cases h))
  have Nst := hid (fun (h : ¬ a.st = b.st) => is_no (p := Same a b) (fun e => h e.st))
  have Nsn := hid (fun (h : ¬ a.sn = b.sn) => is_no (p := Same a b) (fun e => h e.sn))
  have YY := hid (fun h1 h2 h3 h4 h5 h6 h7 h8 h9 h10 h11 => is_yes (p := Same a b) ⟨h1, h2, h3, h4, h5, h6, h7, h8, h9, h10, h11⟩)
  have hva0 : a.v = a.v := rfl
  have hvb0 : b.v = b.v := rfl
  unfold Md.v at hva0 hvb0 ⊢
  clear hva0 hvb0 hrty hrim hrfu hrtb hrme hrgl hrex hrel hrda ha hb fa fb
  obtain ⟨R, hR⟩ : ∃ R, is (Same a b) = R := ⟨_, rfl⟩
  rw [hR] at YY Nty Nim Nfu Ntb Nme Ngl Nex Nel Nda Nst Nsn ⊢
  clear hR
  generalize a.ty.length = nty at Cty ⊢
  generalize b.ty.length = mty at Cty ⊢
  generalize a.ty'.a = paty at Cty ⊢
  generalize b.ty'.a = pbty at Cty ⊢
  generalize a.ty'.c = qaty at Cty ⊢
  generalize b.ty'.c = qbty at Cty ⊢
  generalize a.im.length = nim at Cim ⊢
  generalize b.im.length = mim at Cim ⊢
  generalize a.im'.a = paim at Cim ⊢
  generalize b.im'.a = pbim at Cim ⊢
  generalize a.im'.c = qaim at Cim ⊢
  generalize b.im'.c = qbim at Cim ⊢
  generalize a.fu.length = nfu at Cfu ⊢
  generalize b.fu.length = mfu at Cfu ⊢
  generalize a.fu'.a = pafu at Cfu ⊢
  generalize b.fu'.a = pbfu at Cfu ⊢
  generalize a.fu'.c = qafu at Cfu ⊢
  generalize b.fu'.c = qbfu at Cfu ⊢
  generalize a.tb.length = ntb at Ctb ⊢
  generalize b.tb.length = mtb at Ctb ⊢
  generalize a.tb'.a = patb at Ctb ⊢
  generalize b.tb'.a = pbtb at Ctb ⊢
  generalize a.tb'.c = qatb at Ctb ⊢
  generalize b.tb'.c = qbtb at Ctb ⊢
  generalize a.me.length = nme at Cme ⊢
  generalize b.me.length = mme at Cme ⊢
  generalize a.me'.a = pame at Cme ⊢
  generalize b.me'.a = pbme at Cme ⊢
  generalize a.me'.c = qame at Cme ⊢
  generalize b.me'.c = qbme at Cme ⊢
  generalize a.gl.length = ngl at Cgl ⊢
  generalize b.gl.length = mgl at Cgl ⊢
  generalize a.gl'.a = pagl at Cgl ⊢
  generalize b.gl'.a = pbgl at Cgl ⊢
  generalize a.gl'.c = qagl at Cgl ⊢
  generalize b.gl'.c = qbgl at Cgl ⊢
  generalize a.ex.length = nex at Cex ⊢
  generalize b.ex.length = mex at Cex ⊢
  generalize a.ex'.a = paex at Cex ⊢
  generalize b.ex'.a = pbex at Cex ⊢
  generalize a.ex'.c = qaex at Cex ⊢
  generalize b.ex'.c = qbex at Cex ⊢
  generalize a.el.length = nel at Cel ⊢
  generalize b.el.length = mel at Cel ⊢
  generalize a.el'.a = pael at Cel ⊢
  generalize b.el'.a = pbel at Cel ⊢
  generalize a.el'.c = qael at Cel ⊢
  generalize b.el'.c = qbel at Cel ⊢
  generalize a.da.length = nda at Cda ⊢
  generalize b.da.length = mda at Cda ⊢
  generalize a.da'.a = pada at Cda ⊢
  generalize b.da'.a = pbda at Cda ⊢
  generalize a.da'.c = qada at Cda ⊢
  generalize b.da'.c = qbda at Cda ⊢
  generalize a.st = ast at Nst YY ⊢
  generalize b.st = bst at Nst YY ⊢
  generalize a.sn = asn at Nsn YY ⊢
  generalize b.sn = bsn at Nsn YY ⊢
  obtain ⟨w1, hw1, hX, hY, hb1⟩ : ∃ w1, w1 = (((w.alloc (.cells #[] 57)).alloc (.cells #[.slice paty nty qaty, .slice paim nim qaim, .slice pafu nfu qafu, .slice patb ntb qatb, .slice pame nme qame, .slice pagl ngl qagl, .slice paex nex qaex, .bool ast, .int .u32 asn, .slice pael nel qael, .slice pada nda qada] 32)).alloc (.cells #[.slice pbty mty qbty, .slice pbim mim qbim, .slice pbfu mfu qbfu, .slice pbtb mtb qbtb, .slice pbme mme qbme, .slice pbgl mgl qbgl, .slice pbex mex qbex, .bool bst, .int .u32 bsn, .slice pbel mel qbel, .slice pbda mda qbda] 32)) ∧ BoxAt w1 (w.heap.size + 1) #[.slice paty nty qaty, .slice paim nim qaim, .slice pafu nfu qafu, .slice patb ntb qatb, .slice pame nme qame, .slice pagl ngl qagl, .slice paex nex qaex, .bool ast, .int .u32 asn, .slice pael nel qael, .slice pada nda qada] ∧ BoxAt w1 (w.heap.size + 2) #[.slice pbty mty qbty, .slice pbim mim qbim, .slice pbfu mfu qbfu, .slice pbtb mtb qbtb, .slice pbme mme qbme, .slice pbgl mgl qbgl, .slice pbex mex qbex, .bool bst, .int .u32 bsn, .slice pbel mel qbel, .slice pbda mda qbda] ∧ Below w.heap.size w w1 := ⟨_, rfl, three_boxes w _ _ _ _⟩
  have HB1 := hid hb1
  have HW := hid hw1
  have HX := hid hX
  have HY := hid hY
  have x0 := hX 0 _ rfl
  have y0 := hY 0 _ rfl
  clear hw1 hb1 hX hY
  go_enter Tryz.func12, Tryz.ntmps12
  simp only [List.append_eq, List.cons_append, List.nil_append]
  go_wp2_with fail
  rw [← HW.out]
  clear HW
  go_wp2_with fail
  refine (Cty.out _ HB1.out).mono ?_
  rintro r w2 ⟨rfl, hb2⟩
  have HB2 := hid (HB1.out.trans (hb2.mono HB1.out.size))
  have HX1 := hid (HX.out.keep hb2)
  have HY1 := hid (HY.out.keep hb2)
  clear HX HY HB1 hb2 Cty x0 y0
  have HX := HX1
  have HY := HY1
  clear HX1 HY1
  cases rty with
  | false =>
    have HE := hid (Nty.out rfl)
    clear YY HX HY Nty Tty Cim Nim Tim Cfu Nfu Tfu Ctb Ntb Ttb Cme Nme Tme Cgl Ngl Tgl Cex Nex Tex Nst Nsn Cel Nel Tel Cda Nda Tda
    go_wp2
    go_ret
    exact ⟨ret_bool HE.out.symm, HB2.out⟩
  | true =>
    have Gty := hid (Tty.out rfl)
    clear Nty Tty
    have x1 := HX.out 1 _ rfl
    have y1 := HY.out 1 _ rfl
    go_wp2_with fail
    refine (Cim.out _ HB2.out).mono ?_
    rintro r w3 ⟨rfl, hb3⟩
    have HB3 := hid (HB2.out.trans (hb3.mono HB2.out.size))
    have HX1 := hid (HX.out.keep hb3)
    have HY1 := hid (HY.out.keep hb3)
    clear HX HY HB2 hb3 Cim x1 y1
    have HX := HX1
    have HY := HY1
    clear HX1 HY1
    cases rim with
    | false =>
      have HE := hid (Nim.out rfl)
      clear YY HX HY Nim Tim Cfu Nfu Tfu Ctb Ntb Ttb Cme Nme Tme Cgl Ngl Tgl Cex Nex Tex Nst Nsn Cel Nel Tel Cda Nda Tda
      go_wp2
      go_ret
      exact ⟨ret_bool HE.out.symm, HB3.out⟩
    | true =>
      have Gim := hid (Tim.out rfl)
      clear Nim Tim
      have x2 := HX.out 2 _ rfl
      have y2 := HY.out 2 _ rfl
      go_wp2_with fail
      refine (Cfu.out _ HB3.out).mono ?_
      rintro r w4 ⟨rfl, hb4⟩
      have HB4 := hid (HB3.out.trans (hb4.mono HB3.out.size))
      have HX1 := hid (HX.out.keep hb4)
      have HY1 := hid (HY.out.keep hb4)
      clear HX HY HB3 hb4 Cfu x2 y2
      have HX := HX1
      have HY := HY1
      clear HX1 HY1
      cases rfu with
      | false =>
        have HE := hid (Nfu.out rfl)
        clear YY HX HY Nfu Tfu Ctb Ntb Ttb Cme Nme Tme Cgl Ngl Tgl Cex Nex Tex Nst Nsn Cel Nel Tel Cda Nda Tda
        go_wp2
        go_ret
        exact ⟨ret_bool HE.out.symm, HB4.out⟩
      | true =>
        have Gfu := hid (Tfu.out rfl)
        clear Nfu Tfu
        have x3 := HX.out 3 _ rfl
        have y3 := HY.out 3 _ rfl
        go_wp2_with fail
        refine (Ctb.out _ HB4.out).mono ?_
        rintro r w5 ⟨rfl, hb5⟩
        have HB5 := hid (HB4.out.trans (hb5.mono HB4.out.size))
        have HX1 := hid (HX.out.keep hb5)
        have HY1 := hid (HY.out.keep hb5)
        clear HX HY HB4 hb5 Ctb x3 y3
        have HX := HX1
        have HY := HY1
        clear HX1 HY1
        cases rtb with
        | false =>
          have HE := hid (Ntb.out rfl)
          clear YY HX HY Ntb Ttb Cme Nme Tme Cgl Ngl Tgl Cex Nex Tex Nst Nsn Cel Nel Tel Cda Nda Tda
          go_wp2
          go_ret
          exact ⟨ret_bool HE.out.symm, HB5.out⟩
        | true =>
          have Gtb := hid (Ttb.out rfl)
          clear Ntb Ttb
          have x4 := HX.out 4 _ rfl
          have y4 := HY.out 4 _ rfl
          go_wp2_with fail
          refine (Cme.out _ HB5.out).mono ?_
          rintro r w6 ⟨rfl, hb6⟩
          have HB6 := hid (HB5.out.trans (hb6.mono HB5.out.size))
          have HX1 := hid (HX.out.keep hb6)
          have HY1 := hid (HY.out.keep hb6)
          clear HX HY HB5 hb6 Cme x4 y4
          have HX := HX1
          have HY := HY1
          clear HX1 HY1
          cases rme with
          | false =>
            have HE := hid (Nme.out rfl)
            clear YY HX HY Nme Tme Cgl Ngl Tgl Cex Nex Tex Nst Nsn Cel Nel Tel Cda Nda Tda
            go_wp2
            go_ret
            exact ⟨ret_bool HE.out.symm, HB6.out⟩
          | true =>
            have Gme := hid (Tme.out rfl)
            clear Nme Tme
            have x5 := HX.out 5 _ rfl
            have y5 := HY.out 5 _ rfl
            go_wp2_with fail
            refine (Cgl.out _ HB6.out).mono ?_
            rintro r w7 ⟨rfl, hb7⟩
            have HB7 := hid (HB6.out.trans (hb7.mono HB6.out.size))
            have HX1 := hid (HX.out.keep hb7)
            have HY1 := hid (HY.out.keep hb7)
            clear HX HY HB6 hb7 Cgl x5 y5
            have HX := HX1
            have HY := HY1
            clear HX1 HY1
            cases rgl with
            | false =>
              have HE := hid (Ngl.out rfl)
              clear YY HX HY Ngl Tgl Cex Nex Tex Nst Nsn Cel Nel Tel Cda Nda Tda
              go_wp2
              go_ret
              exact ⟨ret_bool HE.out.symm, HB7.out⟩
            | true =>
              have Ggl := hid (Tgl.out rfl)
              clear Ngl Tgl
              have x6 := HX.out 6 _ rfl
              have y6 := HY.out 6 _ rfl
              go_wp2_with fail
              refine (Cex.out _ HB7.out).mono ?_
              rintro r w8 ⟨rfl, hb8⟩
              have HB8 := hid (HB7.out.trans (hb8.mono HB7.out.size))
              have HX1 := hid (HX.out.keep hb8)
              have HY1 := hid (HY.out.keep hb8)
              clear HX HY HB7 hb8 Cex x6 y6
              have HX := HX1
              have HY := HY1
              clear HX1 HY1
              cases rex with
              | false =>
                have HE := hid (Nex.out rfl)
                clear YY HX HY Nex Tex Nst Nsn Cel Nel Tel Cda Nda Tda
                go_wp2
                go_ret
                exact ⟨ret_bool HE.out.symm, HB8.out⟩
              | true =>
                have Gex := hid (Tex.out rfl)
                clear Nex Tex
                have x7 := HX.out 7 _ rfl
                have y7 := HY.out 7 _ rfl
                have x8 := HX.out 8 _ rfl
                have y8 := HY.out 8 _ rfl
                by_cases gst : ast = bst
                rotate_left
                · have HE := hid (Nst.out gst)
                  have q1 : (ast == bst) = false := by simp [gst]
                  have q2 : (ast != bst) = true := by simp [gst]
                  clear YY HX HY Nsn Cel Nel Tel Cda Nda Tda Nst
                  go_wp2
                  go_ret
                  exact ⟨ret_bool HE.out.symm, HB8.out⟩
                subst gst
                clear Nst
                by_cases gsn : asn = bsn
                rotate_left
                · have HE := hid (Nsn.out gsn)
                  have q1 : (asn == bsn) = false := by simp [gsn]
                  have q2 : (asn != bsn) = true := by simp [gsn]
                  clear YY HX HY Cel Nel Tel Cda Nda Tda Nsn
                  go_wp2
                  go_ret
                  exact ⟨ret_bool HE.out.symm, HB8.out⟩
                subst gsn
                clear Nsn
                have x9 := HX.out 9 _ rfl
                have y9 := HY.out 9 _ rfl
                go_wp2_with fail
                refine (Cel.out _ HB8.out).mono ?_
                rintro r w9 ⟨rfl, hb9⟩
                have HB9 := hid (HB8.out.trans (hb9.mono HB8.out.size))
                have HX1 := hid (HX.out.keep hb9)
                have HY1 := hid (HY.out.keep hb9)
                clear HX HY HB8 hb9 Cel x9 y9 x7 y7 x8 y8
                have HX := HX1
                have HY := HY1
                clear HX1 HY1
                cases rel with
                | false =>
                  have HE := hid (Nel.out rfl)
                  clear YY HX HY Nel Tel Cda Nda Tda
                  go_wp2
                  go_ret
                  exact ⟨ret_bool HE.out.symm, HB9.out⟩
                | true =>
                  have Gel := hid (Tel.out rfl)
                  clear Nel Tel
                  have x10 := HX.out 10 _ rfl
                  have y10 := HY.out 10 _ rfl
                  go_wp2_with fail
                  refine (Cda.out _ HB9.out).mono ?_
                  rintro r w10 ⟨rfl, hb10⟩
                  have HB10 := hid (HB9.out.trans (hb10.mono HB9.out.size))
                  have HX1 := hid (HX.out.keep hb10)
                  have HY1 := hid (HY.out.keep hb10)
                  clear HX HY HB9 hb10 Cda x10 y10
                  have HX := HX1
                  have HY := HY1
                  clear HX1 HY1
                  cases rda with
                  | false =>
                    have HE := hid (Nda.out rfl)
                    clear YY HX HY Nda Tda 
                    go_wp2
                    go_ret
                    exact ⟨ret_bool HE.out.symm, HB10.out⟩
                  | true =>
                    have Gda := hid (Tda.out rfl)
                    clear Nda Tda
                    have HE := hid (YY.out Gty.out Gim.out Gfu.out Gtb.out Gme.out Ggl.out Gex.out (by trivial) (by trivial) Gel.out Gda.out)
                    clear YY HX HY Gty Gim Gfu Gtb Gme Ggl Gex Gel Gda
                    go_wp2
                    go_ret
                    exact ⟨ret_bool HE.out.symm, HB10.out⟩

set_option maxRecDepth 100000 in
set_option maxHeartbeats 4000000 in
theorem Same_any (a b : Md) (w : World) (ha : ModAt w.heap.size w a) (hb : ModAt w.heap.size w b) (fa : a.fits) (fb : b.fits) :
    Calls Tryz.prog 5 #[.agg a.v, .agg b.v] w fun e w' => e = .returned (.bool (is (Same a b))) ∧ Below w.heap.size w w' := by
  have hb0 := (Below.refl w.heap.size w).alloc (Nat.le_refl _) (.cells a.v 32)
  have hb1 := thenA hb0 (.cells b.v 32)
  have C := hid (modules_any a b ((w.alloc (.cells a.v 32)).alloc (.cells b.v 32)) (ha.on hb1) (hb.on hb1) fa fb)
  have HB := hid hb1
  have hX := (BoxAt.made w a.v 32).keep ((Below.refl _ _).alloc (Nat.le_refl _) (.cells b.v 32))
  have hY := BoxAt.made (w.alloc (.cells a.v 32)) b.v 32
  rw [World.size_alloc] at hY
  obtain ⟨R, hR⟩ : ∃ R, is (Same a b) = R := ⟨_, rfl⟩
  rw [hR] at C ⊢
  clear hR ha hb fa fb hb0 hb1
  unfold Md.v at C HB hX hY ⊢
  generalize a.ty.length = nty at C HB hX hY ⊢
  generalize b.ty.length = mty at C HB hX hY ⊢
  generalize a.im.length = nim at C HB hX hY ⊢
  generalize b.im.length = mim at C HB hX hY ⊢
  generalize a.fu.length = nfu at C HB hX hY ⊢
  generalize b.fu.length = mfu at C HB hX hY ⊢
  generalize a.tb.length = ntb at C HB hX hY ⊢
  generalize b.tb.length = mtb at C HB hX hY ⊢
  generalize a.me.length = nme at C HB hX hY ⊢
  generalize b.me.length = mme at C HB hX hY ⊢
  generalize a.gl.length = ngl at C HB hX hY ⊢
  generalize b.gl.length = mgl at C HB hX hY ⊢
  generalize a.ex.length = nex at C HB hX hY ⊢
  generalize b.ex.length = mex at C HB hX hY ⊢
  generalize a.el.length = nel at C HB hX hY ⊢
  generalize b.el.length = mel at C HB hX hY ⊢
  generalize a.da.length = nda at C HB hX hY ⊢
  generalize b.da.length = mda at C HB hX hY ⊢
  have x0 := hX 0 _ rfl
  have y0 := hY 0 _ rfl
  have x1 := hX 1 _ rfl
  have y1 := hY 1 _ rfl
  have x2 := hX 2 _ rfl
  have y2 := hY 2 _ rfl
  have x3 := hX 3 _ rfl
  have y3 := hY 3 _ rfl
  have x4 := hX 4 _ rfl
  have y4 := hY 4 _ rfl
  have x5 := hX 5 _ rfl
  have y5 := hY 5 _ rfl
  have x6 := hX 6 _ rfl
  have y6 := hY 6 _ rfl
  have x7 := hX 7 _ rfl
  have y7 := hY 7 _ rfl
  have x8 := hX 8 _ rfl
  have y8 := hY 8 _ rfl
  have x9 := hX 9 _ rfl
  have y9 := hY 9 _ rfl
  have x10 := hX 10 _ rfl
  have y10 := hY 10 _ rfl
  clear hX hY
  go_enter Tryz.func5, Tryz.ntmps5
  go_wp2_with fail
  refine C.out.mono ?_
  rintro r w2 ⟨rfl, hb2⟩
  have HB2 := hid (HB.out.trans (hb2.mono HB.out.size))
  clear C hb2 HB
  go_wp2
  go_ret
  exact ⟨rfl, HB2.out⟩
end Go.Proofs.YtaibfefmehhldaaGreatDoor.Mod
