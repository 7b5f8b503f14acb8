import Derived.Test.YtckdnhafookcgaaGreatDoorPa16
import Derived.Test.YtckdnhafookcgaaGreatDoorPa12
import Derived.Test.YtckdnhafookcgaaGreatDoorPa14
import Derived.Test.YtckdnhafookcgaaGreatDoorPa11
import Derived.Test.YtckdnhafookcgaaGreatDoorPa06
import Derived.Test.YtckdnhafookcgaaGreatDoorPa15
import Derived.Test.YtckdnhafookcgaaGreatDoorPa08
import Derived.Test.YtckdnhafookcgaaGreatDoorPa04
import Derived.RegionTactic
import Derived.Deep.RegionHeld3
import Derived.Deep.Cut
import Derived.ChangeKeysEq
import Derived.Laws.StructEq
import Derived.MapKept
namespace Go.Proofs.YtckdnhafookcgaaGreatDoor.Instr
end Go.Proofs.YtckdnhafookcgaaGreatDoor.Instr
namespace Go.Proofs.YtckdnhafookcgaaGreatDoor.Mod
end Go.Proofs.YtckdnhafookcgaaGreatDoor.Mod
namespace Go.Proofs.YtckdnhafookcgaaGreatDoor.Val
end Go.Proofs.YtckdnhafookcgaaGreatDoor.Val
namespace Go.Proofs.YtckdnhafookcgaaGreatDoor.Mem
end Go.Proofs.YtckdnhafookcgaaGreatDoor.Mem
namespace Go.Proofs.YtckdnhafookcgaaGreatDoor.Kind
end Go.Proofs.YtckdnhafookcgaaGreatDoor.Kind
namespace Go.Proofs.YtckdnhafookcgaaGreatDoor.Mod
open Go.RowKit Go.Proofs.YtckdnhafookcgaaGreatDoor.Instr
set_option linter.unusedVariables false

/-- Blocks of cells from lo to hi are the same. -/
def SameC (lo hi : Nat) (w w' : World) : Prop := ∀ (b : Nat) (o : Obj), lo ≤ b → b < hi → w.heap[b]? = some o → o.isCells = true → w'.heap[b]? = some o
theorem SameC.of_below {n lo hi : Nat} {w w' : World} (h : Below n w w') (hn : hi ≤ n) : SameC lo hi w w' := fun b o _ h2 h3 _ => (h.block b (by omega)).trans h3
theorem SameC.blk {lo hi b : Nat} {w w' : World} (s : SameC lo hi w w') (hb : Blk lo hi w b) : w'.heap[b]? = w.heap[b]? := by
  obtain ⟨h1, h2, cs, e, h3⟩ := hb
  rw [h3]
  exact s b _ h1 h2 h3 rfl
theorem SameC.cell {lo hi b i : Nat} {w w' : World} (s : SameC lo hi w w') (hb : Blk lo hi w b) : w'.cell? ⟨b, i, none⟩ = w.cell? ⟨b, i, none⟩ := World.cell?_of_block (w := w) (a := ⟨b, i, none⟩) (s.blk hb)
theorem Blk.frameC {lo hi b : Nat} {w w' : World} (s : SameC lo hi w w') (h : Blk lo hi w b) : Blk lo hi w' b := ⟨h.1, h.2.1, by rw [s.blk h]; exact h.2.2⟩
theorem TagsO.frameC {lo hi : Nat} {w w' : World} (s : SameC lo hi w w') {a : Option Addr} {zs : List Int} (h : TagsO lo hi w a zs) : TagsO lo hi w' a zs := by
  rcases h with h | ⟨b, off, ha, hb, hc⟩
  · exact .inl h
  · exact .inr ⟨b, off, ha, hb.frameC s, fun i hi => (s.cell hb).trans (hc i hi)⟩
theorem ItemsO.frameC {lo hi : Nat} {w w' : World} (s : SameC lo hi w w') : ∀ {t : Il} {b off : Nat}, ItemsO lo hi w b off t → ItemsO lo hi w' b off t
  | .nil, _, _, _ => trivial
  | .cons x l e r, b, off, ⟨hb, hx, hc, ht, ⟨l1, l2⟩, ⟨e1, e2⟩, hr⟩ => by
    refine ⟨hb.frameC s, hx, fun j v hj => (s.cell hb).trans (hc j v hj), ht.frameC s, ⟨l1, ?_⟩, ⟨e1, ?_⟩, ItemsO.frameC s hr⟩
    · rcases l2 with h | ⟨b', o', h1, h2⟩
      · exact .inl h
      · exact .inr ⟨b', o', h1, ItemsO.frameC s h2⟩
    · rcases e2 with h | ⟨b', o', h1, h2⟩
      · exact .inl h
      · exact .inr ⟨b', o', h1, ItemsO.frameC s h2⟩
theorem ListO.frameC {lo hi n : Nat} {w w' : World} (s : SameC lo hi w w') {a : Option Addr} {t : Il} (h : ListO lo hi w a n t) : ListO lo hi w' a n t := by
  refine ⟨h.1, ?_⟩
  rcases h.2 with h | ⟨b, off, h1, h2⟩
  · exact .inl h
  · exact .inr ⟨b, off, h1, h2.frameC s⟩
theorem RoomO.frameC {lo hi n c : Nat} {w w' : World} (s : SameC lo hi w w') {a : Option Addr} (h : RoomO lo hi w a n c) : RoomO lo hi w' a n c := by
  refine ⟨h.1, h.2.1, ?_⟩
  rcases h.2.2 with h | ⟨b, off, h1, h2, h3⟩
  · exact .inl h
  · exact .inr ⟨b, off, h1, h2.frameC s, fun i hi => by obtain ⟨z, hz⟩ := h3 i hi; exact ⟨z, (s.cell h2).trans hz⟩⟩
theorem BytesO.frameC {lo hi c : Nat} {w w' : World} (s : SameC lo hi w w') {a : Option Addr} {zs : List Int} (h : BytesO lo hi w a zs c) : BytesO lo hi w' a zs c := by
  refine ⟨h.1.frameC s, ?_⟩
  rcases h.2 with h2 | ⟨b, off, ha, hb, hc⟩
  · exact .inl h2
  · rcases h.1.2.2 with ⟨h3, h4⟩ | ⟨b', off', h1, h2, h3⟩
    · rw [ha] at h3; cases h3
    · rw [ha] at h1
      simp only [Option.some.injEq, Addr.mk.injEq, and_true] at h1
      obtain ⟨rfl, rfl⟩ := h1
      exact .inr ⟨b, off, ha, hb, fun i hi => (s.cell h2).trans (hc i hi)⟩
theorem CellO.frameC {lo hi : Nat} {w w' : World} (s : SameC lo hi w w') {k : Kd} {v : Value} (h : CellO lo hi w k v) : CellO lo hi w' k v := by
  cases k with
  | i64 => exact h
  | u32 => exact h
  | bool => exact h
  | str => exact h
  | lst => obtain ⟨a, n, c, t, h1, h2, h3⟩ := h; exact ⟨a, n, c, t, h1, h2.frameC s, h3⟩
  | tags => obtain ⟨a, n, c, zs, h1, h2, h3, h4, h5⟩ := h; exact ⟨a, n, c, zs, h1, h2, h3.frameC s, h4, h5⟩
  | room => obtain ⟨a, n, c, h1, h2⟩ := h; exact ⟨a, n, c, h1, h2.frameC s⟩
theorem RowO.frameC {lo hi n : Nat} {w w' : World} (s : SameC lo hi w w') {ks : List Kd} {a : Option Addr} (h : RowO lo hi w ks a n) : RowO lo hi w' ks a n := by
  rcases h with h | ⟨b, off, h1, h2, h3⟩
  · exact .inl h
  · refine .inr ⟨b, off, h1, h2.frameC s, fun i hi j k hk => ?_⟩
    obtain ⟨v, g1, g2⟩ := h3 i hi j k hk
    exact ⟨v, (s.cell h2).trans g1, g2.frameC s⟩
theorem ModO.frameC {lo hi : Nat} {w w' : World} (s : SameC lo hi w w') {m : Md} (h : ModO lo hi w m) : ModO lo hi w' m :=
  ⟨h.ty.frameC s, h.im.frameC s, h.fu.frameC s, h.gl.frameC s, h.ex.frameC s, h.el.frameC s, h.da.frameC s⟩
theorem MapQ.onC {α : Type} {K : Kin α} {l l' : List α} {lo : Nat} {w w' : World} {a : Option Addr} (h : MapQ K l lo w a l') (s : SameC lo w.heap.size w w') (hz : w.heap.size ≤ w'.heap.size) (hK : ∀ x, K.own lo w.heap.size w x → K.own lo w.heap.size w' x) : MapQ K l lo w' a l' := by
  refine ⟨h.len, h.br, ?_, ?_, fun x hx => K.mono (Nat.le_refl _) hz (hK x (h.own x hx))⟩
  · rcases h.blk with h1 | ⟨b, off, h1, h2⟩
    · exact .inl h1
    · exact .inr ⟨b, off, h1, (h2.frameC s).mono (Nat.le_refl _) hz⟩
  · rcases h.blk with h1 | ⟨b, off, h1, h2⟩
    · exact .inl (by rw [h1]; rfl)
    · rcases h.rows with h3 | ⟨b', off', h3, h4, h5⟩
      · exact .inl h3
      · rw [h1] at h3
        simp only [Option.some.injEq, Addr.mk.injEq, and_true] at h3
        obtain ⟨rfl, rfl⟩ := h3
        exact .inr ⟨b, off, h1, by omega, fun i hi j hj v hv => (s.cell h2).trans (h5 i hi j hj v hv)⟩
/-- One module is a copy of another one, in blocks of its own. -/
structure OwnM (lo : Nat) (w : World) (m d : Md) : Prop where
  cps : Cps lo w m d.ty'.a d.im'.a d.fu'.a d.tb'.a d.me'.a d.gl'.a d.ex'.a d.el'.a d.da'.a d.ty d.im d.fu d.tb d.me d.gl d.ex d.el d.da
  st : d.st = m.st
  sn : d.sn = m.sn
theorem OwnM.on {lo : Nat} {w w' : World} {m d : Md} (h : OwnM lo w m d) (s : SameC lo w.heap.size w w') (hz : w.heap.size ≤ w'.heap.size) : OwnM lo w' m d :=
  ⟨⟨h.cps.ty.onC s hz (fun _ h => h), h.cps.im.onC s hz (fun _ h => h), h.cps.fu.onC s hz (fun x h => ListO.frameC s h), h.cps.tb.onC s hz (fun _ h => h), h.cps.me.onC s hz (fun _ h => h), h.cps.gl.onC s hz (fun x h => ListO.frameC s h), h.cps.ex.onC s hz (fun _ h => h), h.cps.el.onC s hz (fun x h => ⟨ListO.frameC s h.1, TagsO.frameC s h.2⟩), h.cps.da.onC s hz (fun x h => ⟨ListO.frameC s h.1, BytesO.frameC s h.2⟩)⟩, h.st, h.sn⟩
theorem OwnM.bare {lo : Nat} {w : World} {m d : Md} (h : OwnM lo w m d) : d.bare = m.bare := same_iff.2 ⟨id_br h.cps.ty.br, id_br h.cps.im.br, h.cps.fu.br, id_br h.cps.tb.br, id_br h.cps.me.br, h.cps.gl.br, id_br h.cps.ex.br, h.st, h.sn, h.cps.el.br, h.cps.da.br⟩
theorem OwnM.facts {lo : Nat} {w : World} {m d : Md} (h : OwnM lo w m d) (hf : m.fits) (hr : ∀ e ∈ m.el, ∀ z ∈ e.fs, 0 ≤ z ∧ z < 4294967296) : ModAt w.heap.size w d ∧ ModO lo w.heap.size w d ∧ d.fits := by
  have hff := fits_coreS h.bare hf
  have lfu' : ∀ x ∈ d.fu, x.l.t.len ≤ 140737488351232 := fun x hx => hff.ls x.l (by unfold Md.codes; exact List.mem_append_left _ (List.mem_map.2 ⟨x, hx, rfl⟩))
  have lgl' : ∀ x ∈ d.gl, x.l.t.len ≤ 140737488351232 := fun x hx => hff.ls x.l (by unfold Md.codes; exact List.mem_append_right _ (List.mem_append_left _ (List.mem_map.2 ⟨x, hx, rfl⟩)))
  have lel' : ∀ x ∈ d.el, x.l.t.len ≤ 140737488351232 := fun x hx => hff.ls x.l (by unfold Md.codes; exact List.mem_append_right _ (List.mem_append_right _ (List.mem_append_left _ (List.mem_map.2 ⟨x, hx, rfl⟩))))
  have lda' : ∀ x ∈ d.da, x.l.t.len ≤ 140737488351232 := fun x hx => hff.ls x.l (by unfold Md.codes; exact List.mem_append_right _ (List.mem_append_right _ (List.mem_append_right _ (List.mem_map.2 ⟨x, hx, rfl⟩))))
  refine ⟨⟨h.cps.ty.rows, h.cps.im.rows, h.cps.fu.rows, h.cps.tb.rows, h.cps.me.rows, h.cps.gl.rows, h.cps.ex.rows, h.cps.el.rows, h.cps.da.rows, fun l hl => ?_, fun e he => (h.cps.el.own e he).2.at, fun d hd => (h.cps.da.own d hd).2.2⟩, ⟨?_, ?_, ?_, ?_, ?_, ?_, ?_⟩, hff⟩
  · unfold Md.codes at hl
    rcases List.mem_append.1 hl with hl | hl
    · obtain ⟨x, hx, rfl⟩ := List.mem_map.1 hl
      exact (h.cps.fu.own x hx).at
    · rcases List.mem_append.1 hl with hl | hl
      · obtain ⟨x, hx, rfl⟩ := List.mem_map.1 hl
        exact (h.cps.gl.own x hx).at
      · rcases List.mem_append.1 hl with hl | hl
        · obtain ⟨x, hx, rfl⟩ := List.mem_map.1 hl
          exact (h.cps.el.own x hx).1.at
        · obtain ⟨x, hx, rfl⟩ := List.mem_map.1 hl
          exact (h.cps.da.own x hx).1.at
  · refine h.cps.ty.rowO (K := kTy) rfl fun x _ _ j k hjk => ?_
    match j, hjk with
    | 0, e => cases e; exact ⟨_, rfl, _, rfl⟩
    | 1, e => cases e; exact ⟨_, rfl, _, rfl⟩
    | j + 2, e => simp at e
  · refine h.cps.im.rowO (K := kIm) rfl fun x _ _ j k hjk => ?_
    match j, hjk with
    | 0, e => cases e; exact ⟨_, rfl, _, rfl⟩
    | 1, e => cases e; exact ⟨_, rfl, _, rfl⟩
    | 2, e => cases e; exact ⟨_, rfl, _, rfl⟩
    | j + 3, e => simp at e
  · refine h.cps.fu.rowO (K := kFn) rfl fun x hx ho j k hjk => ?_
    match j, hjk with
    | 0, e => cases e; exact ⟨_, rfl, _, rfl⟩
    | 1, e => cases e; exact ⟨_, rfl, _, rfl⟩
    | 2, e => cases e; exact ⟨_, rfl, _, _, _, _, rfl, ho, lfu' x hx⟩
    | j + 3, e => simp at e
  · refine h.cps.gl.rowO (K := kGl) rfl fun x hx ho j k hjk => ?_
    match j, hjk with
    | 0, e => cases e; exact ⟨_, rfl, _, rfl⟩
    | 1, e => cases e; exact ⟨_, rfl, _, _, _, _, rfl, ho, lgl' x hx⟩
    | j + 2, e => simp at e
  · refine h.cps.ex.rowO (K := kEx) rfl fun x _ _ j k hjk => ?_
    match j, hjk with
    | 0, e => cases e; exact ⟨_, rfl, _, rfl⟩
    | 1, e => cases e; exact ⟨_, rfl, _, rfl⟩
    | 2, e => cases e; exact ⟨_, rfl, _, rfl⟩
    | j + 3, e => simp at e
  · refine h.cps.el.rowO (K := kEl) rfl fun x hx ho j k hjk => ?_
    match j, hjk with
    | 0, e => cases e; exact ⟨_, rfl, _, _, _, _, rfl, ho.1, lel' x hx⟩
    | 1, e =>
      cases e
      refine ⟨_, rfl, _, _, _, _, rfl, rfl, ho.2, ?_, hff.fs x hx⟩
      obtain ⟨y, hy, hxy⟩ := mem_br h.cps.el.br hx
      have e : El.bare x = El.bare y := hxy
      have e2 := congrArg El.fs e
      have : x.fs = y.fs := e2
      rw [this]
      exact hr y hy
    | j + 2, e => simp at e
  · refine h.cps.da.rowO (K := kDa) rfl fun x hx ho j k hjk => ?_
    match j, hjk with
    | 0, e => cases e; exact ⟨_, rfl, _, _, _, _, rfl, ho.1, lda' x hx⟩
    | 1, e => cases e; exact ⟨_, rfl, _, _, _, rfl, ho.2.1⟩
    | j + 2, e => simp at e
/-- module.Copy: another module of the same bare content, whose blocks are its own. -/
theorem Copy_own (m : Md) (w : World) (hi : m.inp w) : Calls Tryz.prog 44 #[.agg m.v] w fun e w' => ∃ d : Md, e = .returned (.agg d.v) ∧ OwnM w.heap.size w' m d ∧ Below w.heap.size w w' := by
  refine (Copy_any m w hi).mono ?_
  rintro e w' ⟨aty, cty, aim, cim, afu, cfu, atb, ctb, ame, cme, agl, cgl, aex, cex, ael, cel, ada, cda, lty, lim, lfu, ltb, lme, lgl, lex, lel, lda, rfl, hc, hb⟩
  refine ⟨⟨lty, lim, lfu, ltb, lme, lgl, lex, m.st, m.sn, lel, lda, ⟨aty, cty⟩, ⟨aim, cim⟩, ⟨afu, cfu⟩, ⟨atb, ctb⟩, ⟨ame, cme⟩, ⟨agl, cgl⟩, ⟨aex, cex⟩, ⟨ael, cel⟩, ⟨ada, cda⟩⟩, ?_, ⟨hc, rfl, rfl⟩, hb⟩
  unfold Md.v
  dsimp only
  rw [hc.ty.len, hc.im.len, hc.fu.len, hc.tb.len, hc.me.len, hc.gl.len, hc.ex.len, hc.el.len, hc.da.len]
theorem codes_Fn {m : Md} {x : Fn} (h : x ∈ m.fu) : x.l ∈ m.codes := by unfold Md.codes; exact List.mem_append_left _ (List.mem_map.2 ⟨x, h, rfl⟩)
theorem codes_Gl {m : Md} {x : Gl} (h : x ∈ m.gl) : x.l ∈ m.codes := by unfold Md.codes; exact List.mem_append_right _ (List.mem_append_left _ (List.mem_map.2 ⟨x, h, rfl⟩))
theorem codes_El {m : Md} {x : El} (h : x ∈ m.el) : x.l ∈ m.codes := by unfold Md.codes; exact List.mem_append_right _ (List.mem_append_right _ (List.mem_append_left _ (List.mem_map.2 ⟨x, h, rfl⟩)))
theorem codes_Da {m : Md} {x : Da} (h : x ∈ m.da) : x.l ∈ m.codes := by unfold Md.codes; exact List.mem_append_right _ (List.mem_append_right _ (List.mem_append_right _ (List.mem_map.2 ⟨x, h, rfl⟩)))
mutual
theorem weight_bare : ∀ t : Il, t.bare.weight = t.weight
  | .nil => rfl
  | .cons x l e r => by simp only [Il.bare, Il.weight, weight_bare l, weight_bare e, weight_bare r]; rfl
end
/-- What module.Copy wants of a copy of a small module. -/
theorem inp_core {a c : Md} {w : World} (h : c.bare = a.bare) (hs : a.small 5000) (hf : a.fits) (hm : ModAt w.heap.size w c) : c.inp w := by
  have S := same_iff.1 h
  have hl := hs.lens
  have hcf := fits_coreS h hf
  have hw : ∀ l ∈ c.codes, l.t.weight ≤ 1000000000 := fun l hl => by
    obtain ⟨r, hr, e⟩ := codes_coreS h hl
    rw [← weight_bare, ← e, weight_bare]
    exact Nat.le_trans (hs.ls r hr) (by omega)
  have l3 := map_lenS S.fu
  have l6 := map_lenS S.gl
  have l8 := map_lenS S.el
  have l9 := map_lenS S.da
  refine ⟨hm, by rw [S.ty]; omega, by rw [S.im]; omega, by omega, by rw [S.tb]; omega, by rw [S.me]; omega, by omega, by rw [S.ex]; omega, by omega, by omega, fun x hx => ?_, fun x hx => ?_, fun x hx => ?_, fun x hx => ?_⟩
  · exact ⟨hm.ls _ (codes_Fn hx), hw _ (codes_Fn hx), hcf.ls _ (codes_Fn hx)⟩
  · exact ⟨hm.ls _ (codes_Gl hx), hw _ (codes_Gl hx), hcf.ls _ (codes_Gl hx)⟩
  · refine ⟨hm.ls _ (codes_El hx), hw _ (codes_El hx), hcf.ls _ (codes_El hx), hm.fs x hx, ?_⟩
    obtain ⟨y, hy, e⟩ := map_memS S.el hx
    unfold El.bare at e
    simp only [El.mk.injEq, true_and] at e
    rw [← e.2]
    exact Nat.le_trans (hs.fs y hy) (by omega)
  · refine ⟨hm.ls _ (codes_Da hx), hw _ (codes_Da hx), hcf.ls _ (codes_Da hx), hm.bs x hx, ?_⟩
    obtain ⟨y, hy, e⟩ := map_memS S.da hx
    unfold Da.bare at e
    simp only [Da.mk.injEq, true_and] at e
    rw [← e.2]
    exact Nat.le_trans (hs.bs y hy) (by omega)
theorem db_core {a b : Md} (h : b.bare = a.bare) (f : ∀ d ∈ a.da, ∀ z ∈ d.bs, 0 ≤ z ∧ z < 256) : ∀ d ∈ b.da, ∀ z ∈ d.bs, 0 ≤ z ∧ z < 256 := fun d hd => by
  obtain ⟨x, hx, e⟩ := map_memS (same_iff.1 h).da hd
  unfold Da.bare at e
  simp only [Da.mk.injEq, true_and] at e
  rw [← e.2]; exact f x hx
/-- What is written over keeps what lies behind it. -/
theorem Ov.same {lo hi lo' hi' : Nat} {w w' : World} (h : Ov lo hi w w') (hh : hi ≤ lo') (hs : hi' ≤ w.heap.size) : SameC lo' hi' w w' := fun b o h1 _ h3 h4 => h.kept.cells b o h3 h4 (by omega)
theorem OwnM.box {lo : Nat} {w : World} {m d : Md} (h : OwnM lo w m d) (o : Obj) : OwnM lo (w.alloc o) m d := h.on (SameC.of_below ((Below.refl w.heap.size w).alloc (Nat.le_refl _) o) (Nat.le_refl _)) (by simp)
end Go.Proofs.YtckdnhafookcgaaGreatDoor.Mod

namespace Go.Proofs.YtckdnhafookcgaaGreatDoor.Pl
open Go.RowKit Go.Shelf Go.Proofs.YtckdnhafookcgaaGreatDoor.Instr Go.Proofs.YtckdnhafookcgaaGreatDoor.Mod Go.Proofs.YtckdnhafookcgaaGreatDoor.Val
open Go.Proofs.YtckdnhafookcgaaGreatDoor.Mem (MemIs Wrote Keep isOwn)
set_option linter.unusedVariables false

/-- A pointer of a table: to a number in blocks from lo on, below hi; or nil. -/
def PtrO (lo hi : Nat) (w : World) (v : Value) : Option Int → Prop
  | none => v = .pointer none
  | some z => ∃ b i, v = .pointer (some ⟨b, i, none⟩) ∧ Blk lo hi w b ∧ w.cell? ⟨b, i, none⟩ = some (.int .u32 z)
theorem PtrO.below {lo hi : Nat} {w w' : World} (hb : Below hi w w') {v : Value} : ∀ {o : Option Int}, PtrO lo hi w v o → PtrO lo hi w' v o
  | none, h => h
  | some z, ⟨b, i, h1, h2, h3⟩ => ⟨b, i, h1, h2.frame (Same2.of_below hb (Nat.le_refl _)), (hb.cell (p := ⟨b, i, none⟩) h2.2.1).trans h3⟩
/-- A table's row of pointers. -/
def TabAt (lo hi : Nat) (w : World) (T : Nat) (tb : List (Option Int)) : Prop :=
  ∃ cs : Array Value, w.heap[T]? = some (.cells cs 132 (0, 0)) ∧ cs.size = tb.length ∧ ∀ i, i < tb.length → ∃ v, cs[i]? = some v ∧ PtrO lo hi w v (tb.getD i none)
theorem TabAt.below {lo hi T : Nat} {w w' : World} {tb : List (Option Int)} (hb : Below hi w w') (hT : w'.heap[T]? = w.heap[T]?) (h : TabAt lo hi w T tb) : TabAt lo hi w' T tb := by
  obtain ⟨cs, h1, h2, h3⟩ := h
  exact ⟨cs, hT.trans h1, h2, fun i hi' => by obtain ⟨v, h4, h5⟩ := h3 i hi'; exact ⟨v, h4, h5.below hb⟩⟩
theorem TabAt.cell {lo hi T : Nat} {w : World} {tb : List (Option Int)} (h : TabAt lo hi w T tb) {i : Nat} (hi' : i < tb.length) : ∃ v, w.cell? ⟨T, i, none⟩ = some v ∧ PtrO lo hi w v (tb.getD i none) := by
  obtain ⟨cs, h1, h2, h3⟩ := h
  obtain ⟨v, h4, h5⟩ := h3 i hi'
  exact ⟨v, by simp [World.cell?, h1, h4], h5⟩
theorem TabAt.lt {lo hi T : Nat} {w : World} {tb : List (Option Int)} (h : TabAt lo hi w T tb) : T < w.heap.size := by
  obtain ⟨cs, h1, h2, h3⟩ := h
  exact (Array.getElem?_eq_some_iff.1 h1).1
/-- Where a table lies. -/
def TabIs (lo hi : Nat) (w : World) (v : Value) (tb : List (Option Int)) : Prop :=
  (v = .slice none 0 0 ∧ tb = []) ∨ ∃ T, v = .slice (some ⟨T, 0, none⟩) tb.length tb.length ∧ hi ≤ T ∧ TabAt lo hi w T tb
/-- Numbers in a block. -/
def Words (k : IntKind) (t : TypeId) (w : World) (g : Nat) (zs : List Int) : Prop := w.heap[g]? = some (.cells (zs.map (Value.int k)).toArray t (0, 0))
theorem Words.cell {k : IntKind} {t : TypeId} {w : World} {g : Nat} {zs : List Int} (h : Words k t w g zs) {i : Nat} (hi : i < zs.length) : w.cell? ⟨g, i, none⟩ = some (.int k (zs.getD i 0)) := by
  unfold Words at h
  simp [World.cell?, h, hi]
theorem Words.lt {k : IntKind} {t : TypeId} {w : World} {g : Nat} {zs : List Int} (h : Words k t w g zs) : g < w.heap.size := (Array.getElem?_eq_some_iff.1 h).1
def MemVal (hi K : Nat) (w : World) (v : Value) : Option Mem.Mm → Prop
  | none => v = .pointer none
  | some x => ∃ p, v = .pointer (some ⟨p, 0, none⟩) ∧ MemIs hi w p K x
/-- A place; its module's copy lies from lo on, below hi, and all that turns from hi on. -/
structure PlAt (lo hi : Nat) (w : World) (p H gb K : Nat) (d : Md) (tv mv : Value) (x : Pc) : Prop where
  box : w.heap[p]? = some (.cells #[.pointer (some ⟨p, 0, none⟩), .slice d.ty'.a d.ty.length d.ty'.c, .slice d.im'.a d.im.length d.im'.c, .slice d.fu'.a d.fu.length d.fu'.c, .slice d.tb'.a d.tb.length d.tb'.c, .slice d.me'.a d.me.length d.me'.c, .slice d.gl'.a d.gl.length d.gl'.c, .slice d.ex'.a d.ex.length d.ex'.c, .bool d.st, .int .u32 d.sn, .slice d.el'.a d.el.length d.el'.c, .slice d.da'.a d.da.length d.da'.c, .slice (some ⟨H, 0, none⟩) x.hs.length x.hs.length, .slice (some ⟨gb, 0, none⟩) x.gs.length x.gs.length, tv, mv] 63 (0, 0))
  lh : lo ≤ hi
  hp : hi ≤ p
  hH : lo ≤ H
  Hh : H < hi
  hg : hi ≤ gb
  at_ : ModAt hi w d
  own : ModO lo hi w d
  fit : d.fits
  hs : Words .i64 3 w H x.hs
  gs : Words .u32 28 w gb x.gs
  tb : TabIs lo hi w tv x.tb
  me : MemVal hi K w mv x.me
  ls : x.hs.length ≤ 1000000 ∧ x.gs.length ≤ 1000000 ∧ x.tb.length ≤ 4294967295
  gl : x.gs.length = d.gl.length
theorem PlAt.ne_gb {lo hi p H gb K : Nat} {w : World} {d : Md} {tv mv : Value} {x : Pc} (h : PlAt lo hi w p H gb K d tv mv x) : p ≠ gb := by
  intro e
  have h1 := h.box
  have h2 := h.gs
  unfold Words at h2
  rw [e, h2] at h1
  simp at h1
theorem MemVal.below {hi K : Nat} {w w' : World} {v : Value} (hb : Below w.heap.size w w') : ∀ {o : Option Mem.Mm}, MemVal hi K w v o → MemVal hi K w' v o
  | none, h => h
  | some x, ⟨p, h1, h2⟩ => ⟨p, h1, h2.below hb⟩
theorem MemVal.save {hi K g : Nat} {w w' : World} {v : Value} {o' : Obj} (hs : Save g w w') (hg : w.heap[g]? = some o') (ho : isOwn o' = false) : ∀ {o : Option Mem.Mm}, MemVal hi K w v o → MemVal hi K w' v o
  | none, h => h
  | some x, ⟨p, h1, h2⟩ => ⟨p, h1, h2.save hs hg ho⟩
theorem Words.block {k : IntKind} {t : TypeId} {w w' : World} {g : Nat} {zs : List Int} (h : Words k t w g zs) (hb : w'.heap[g]? = w.heap[g]?) : Words k t w' g zs := by
  unfold Words at h ⊢
  exact hb.trans h
/-- More is made. -/
theorem PlAt.below {lo hi p H gb K : Nat} {w w' : World} {d : Md} {tv mv : Value} {x : Pc} (h : PlAt lo hi w p H gb K d tv mv x) (hb : Below w.heap.size w w') : PlAt lo hi w' p H gb K d tv mv x := by
  have lp := (Array.getElem?_eq_some_iff.1 h.box).1
  have hhi : Below hi w w' := hb.mono (by have := h.hp; omega)
  refine ⟨(hb.block p lp).trans h.box, h.lh, h.hp, h.hH, h.Hh, h.hg, h.at_.below hhi, h.own.frameC (SameC.of_below hhi (Nat.le_refl _)), h.fit, h.hs.block (hb.block _ h.hs.lt), h.gs.block (hb.block _ h.gs.lt), ?_, h.me.below hb, h.ls, h.gl⟩
  rcases h.tb with h1 | ⟨T, h1, h2, h3⟩
  · exact .inl h1
  · exact .inr ⟨T, h1, h2, h3.below hhi (hb.block _ h3.lt)⟩
/-- A global's word is set. -/
theorem PlAt.setG {lo hi p H gb K i : Nat} {w : World} {d : Md} {tv mv : Value} {x : Pc} (h : PlAt lo hi w p H gb K d tv mv x) (hi' : i < x.gs.length) (v : Int) : PlAt lo hi (w.setCell ⟨gb, i, none⟩ (.int .u32 v)) p H gb K d tv mv { x with gs := x.gs.set i v } := by
  have hs : Save gb w (w.setCell ⟨gb, i, none⟩ (.int .u32 v)) := Save.setCell (p := ⟨gb, i, none⟩) (Save.refl gb w) (.inl rfl) _
  have hb : Below hi w (w.setCell ⟨gb, i, none⟩ (.int .u32 v)) := (Below.refl hi w).setCell h.hg _
  have lp := (Array.getElem?_eq_some_iff.1 h.box).1
  refine ⟨(hs.block p lp h.ne_gb).trans h.box |>.trans (by simp), h.lh, h.hp, h.hH, h.Hh, h.hg, h.at_.below hb, h.own.frameC (SameC.of_below hb (Nat.le_refl _)), h.fit, h.hs.block (hb.block _ h.Hh), ?_, ?_, h.me.save hs h.gs rfl, by simpa using h.ls, by simpa using h.gl⟩
  · have h1 := h.gs
    unfold Words at h1 ⊢
    rw [heap_setCell_same w gb i _ _ _ h1]
    simp [List.map_set]
  · rcases h.tb with h4 | ⟨T, h4, h5, h6⟩
    · exact .inl h4
    · refine .inr ⟨T, h4, h5, h6.below hb (hs.block _ h6.lt ?_)⟩
      obtain ⟨cs, h7, _⟩ := h6
      intro e
      have h8 := h.gs
      unfold Words at h8
      rw [e, h8] at h7
      simp at h7
end Go.Proofs.YtckdnhafookcgaaGreatDoor.Pl

namespace Go.Proofs.YtckdnhafookcgaaGreatDoor.Pl
open Go.RowKit Go.Shelf Go.Proofs.YtckdnhafookcgaaGreatDoor.Instr Go.Proofs.YtckdnhafookcgaaGreatDoor.Mod Go.Proofs.YtckdnhafookcgaaGreatDoor.Val
set_option linter.unusedVariables false

theorem infoWord : (Tryz.prog.info? 28).map (fun i => (i.zero, i.size, i.bytes)) = some (some (.int .u32 0), 1, 4) := by kernel_rfl
theorem infoInt : (Tryz.prog.info? 3).map (fun i => (i.zero, i.size, i.bytes)) = some (some (.int .i64 0), 1, 8) := by kernel_rfl
/-- Of a row that is written from its beginning on. -/
def midRow (zs : List Int) (k n : Nat) : List Int := zs.take k ++ List.replicate (n - k) 0
theorem midRow_set {zs : List Int} {k n : Nat} (hz : zs.length = n) (hk : k < n) : (midRow zs k n).set k (zs.getD k 0) = midRow zs (k + 1) n := by
  apply List.ext_getElem
  · simp [midRow, hz]; omega
  · intro i h1 h2
    simp only [midRow, List.getElem_set]
    by_cases hik : k = i
    · subst hik
      rw [if_pos rfl, List.getElem_append_left (by simp; omega)]
      simp [hz, hk]
    · rw [if_neg hik]
      by_cases hlt : i < k
      · rw [List.getElem_append_left (by simp; omega), List.getElem_append_left (by simp; omega)]
        simp
      · rw [List.getElem_append_right (by simp; omega), List.getElem_append_right (by simp; omega)]
        simp
theorem midRow_len {zs : List Int} {k n : Nat} (hz : zs.length = n) (hk : k ≤ n) : (midRow zs k n).length = n := by simp [midRow, hz]; omega
theorem midRow_full {zs : List Int} {n : Nat} (hz : zs.length = n) : midRow zs n n = zs := by simp [midRow, ← hz]
theorem midRow_start (zs : List Int) (n : Nat) : midRow zs 0 n = List.replicate n 0 := by simp [midRow]
/-- A row of numbers that is being written, in block G; all else stands. -/
structure RowW (k : IntKind) (t : TypeId) (zs : List Int) (n : Nat) (W1 : World) (G j : Nat) (w : World) : Prop where
  row : w.heap[G]? = some (.cells ((midRow zs j n).map (Value.int k)).toArray t (0, 0))
  sv : Save G W1 w
theorem RowW.below {k : IntKind} {t : TypeId} {zs : List Int} {n G j : Nat} {W1 w w' : World} (h : RowW k t zs n W1 G j w) (hb : Below w.heap.size w w') : RowW k t zs n W1 G j w' :=
  ⟨(hb.block G (Array.getElem?_eq_some_iff.1 h.row).1).trans h.row, h.sv.trans (Save.of_below hb)⟩
theorem RowW.set {k : IntKind} {t : TypeId} {zs : List Int} {n G j : Nat} {W1 w : World} (h : RowW k t zs n W1 G j w) (hz : zs.length = n) (hj : j < n) {v : Int} (hv : v = zs.getD j 0) : RowW k t zs n W1 G (j + 1) (w.setCell ⟨G, j, none⟩ (.int k v)) := by
  refine ⟨?_, h.sv.setCell (.inl rfl) _⟩
  rw [set_heap h.row, hv, midRow_set hz hj]
theorem RowW.cell {k : IntKind} {t : TypeId} {zs : List Int} {n G j : Nat} {W1 w : World} (h : RowW k t zs n W1 G j w) (hz : zs.length = n) (hj : j < n) : (∃ v, w.cell? ⟨G, j, none⟩ = some v) ∧ w.frozen? ⟨G, j, none⟩ = false := by
  refine ⟨⟨.int k ((midRow zs j n).getD j 0), ?_⟩, frozen_heap h.row j⟩
  have := nums_of_heap h.row j (by rw [midRow_len hz (by omega)]; exact hj)
  simpa using this
def WordsQ (k : IntKind) (t : TypeId) (zs : List Int) (w : World) (e : Ending) (w' : World) : Prop := ∃ G, e = .returned (.slice (some ⟨G, 0, none⟩) zs.length zs.length) ∧ w.heap.size ≤ G ∧ Words k t w' G zs ∧ Below w.heap.size w w'
set_option maxHeartbeats 2000000 in
theorem globalsOf_any (m : Md) (w : World) (hm : ModAt w.heap.size w m) (hf : m.few) (hT : Nams w) :
    Calls Tryz.prog 47 #[.agg m.v] w (WordsQ .u32 28 (globs m) w) := by
  have hb0 := (Below.refl w.heap.size w).alloc (Nat.le_refl _) (.cells m.v 32)
  have hm0 := hm.on hb0
  have HM := hid hm0
  have HR := hid hm0.gl
  have HB := hid hb0
  have HX := hid (BoxAt.made w m.v 32)
  have HT := hid (hT.below hb0)
  have hl := hf.lens.2.2.2.2.2.1
  have HC := hid (fun (g : Gl) (hg : g ∈ m.gl) => (⟨hf.cs g.l (codes_Gl hg), hf.fit.ls g.l (codes_Gl hg)⟩ : g.l.t.count ≤ 1000000 ∧ g.l.t.len ≤ 140737488351232))
  obtain ⟨n, hn⟩ : ∃ n, m.gl.length = n := ⟨_, rfl⟩
  have hgl : (globs m).length = n := by unfold globs; simpa using hn
  have HN := hid hn
  unfold WordsQ
  rw [hgl]
  have HGL := hid hgl
  rw [hn] at hl
  unfold Md.v at HX HB HR HM HT ⊢
  rw [hn] at HX HB HR HM HT ⊢
  clear hm hf hb0 hT hm0 hn hgl
  generalize m.gl'.a = a at HR HB HX HM HT ⊢
  obtain ⟨W1, hmk, hh1, hb1⟩ := make_zeros infoWord Tryz.underlying50 (w.alloc (.cells #[.slice m.ty'.a m.ty.length m.ty'.c, .slice m.im'.a m.im.length m.im'.c, .slice m.fu'.a m.fu.length m.fu'.c, .slice m.tb'.a m.tb.length m.tb'.c, .slice m.me'.a m.me.length m.me'.c, .slice a n m.gl'.c, .slice m.ex'.a m.ex.length m.ex'.c, .bool m.st, .int .u32 m.sn, .slice m.el'.a m.el.length m.el'.c, .slice m.da'.a m.da.length m.da'.c] 32)) n (by omega) (by omega)
  have hmk1 := hmk n rfl
  clear hmk
  have x5 := Go.Proofs.YtckdnhafookcgaaGreatDoor.keep hb1 (HX.out 5 _ rfl)
  generalize hW0 : w.alloc (.cells #[.slice m.ty'.a m.ty.length m.ty'.c, .slice m.im'.a m.im.length m.im'.c, .slice m.fu'.a m.fu.length m.fu'.c, .slice m.tb'.a m.tb.length m.tb'.c, .slice m.me'.a m.me.length m.me'.c, .slice a n m.gl'.c, .slice m.ex'.a m.ex.length m.ex'.c, .bool m.st, .int .u32 m.sn, .slice m.el'.a m.el.length m.el'.c, .slice m.da'.a m.da.length m.da'.c] 32) = W0 at *
  have y5 := HX.out 5 _ rfl
  have HW0 := hid hW0
  have HB1 := hid (HB.out.trans (hb1.mono HB.out.size))
  have HGS := hid (show W0.heap.size < W1.heap.size from (Array.getElem?_eq_some_iff.1 hh1).1)
  have HR0 := hid (show RowW .u32 28 (globs m) n W1 W0.heap.size 0 W1 from ⟨by rw [midRow_start]; exact hh1, Save.refl _ _⟩)
  have HWG := hid (show w.heap.size ≤ W0.heap.size from HB.out.size)
  have HBB := hid hb1
  have HCM := hid (fun x (hx : x ∈ m.gl) => HM.out.ls x.l (codes_Gl hx))
  have hb1c := hb1
  clear hb1 hh1 HX HB HM
  go_enter Tryz.func47, Tryz.ntmps47
  go_upto_region 1 with fail
  clear hW0
  go_wp2
  clear x5 y5 hmk1 hb1c
  go_loopw [13] (fun vi wr => ∃ k : Nat, vi = .int .i64 k ∧ k ≤ n ∧ Hid (RowW .u32 28 (globs m) n W1 W0.heap.size k wr)) (fun vi _ => n - (intOf vi).toNat)
  case atStart => exact ⟨0, rfl, Nat.zero_le _, HR0⟩
  case round =>
    obtain ⟨k, rfl, hk, HRW⟩ := hrel
    by_cases hlt : k < n
    · have hkl : k < m.gl.length := by rw [HN.out]; exact hlt
      obtain ⟨b, off, rfl, hb, hc⟩ := Rows.get HR.out hkl
      have hmem := List.getElem_mem hkl
      have hgv : (globs m).getD k 0 = (constP (m.gl[k]).l.t).1 := by unfold globs; simp [hkl]
      obtain ⟨x, hxe⟩ : ∃ x, m.gl[k] = x := ⟨_, rfl⟩
      rw [hxe] at hc hmem hgv
      have hbw : Below W0.heap.size W0 wr := HBB.out.trans (HRW.out.sv.below (by have := HGS.out; omega) (Nat.le_refl _))
      have cc : ∀ j, j < 2 → ∀ v, x.v[j]? = some v → wr.cell? ⟨b, off + k * 2 + j, none⟩ = some v := fun j hj v hv => (hbw.cell (p := ⟨b, off + k * 2 + j, none⟩) hb).trans (hc j hj v hv)
      have c0 : wr.cell? ⟨b, off + k * 2, none⟩ = some (.bool x.mu) := cc 0 (by omega) _ rfl
      have c1 : wr.cell? ⟨b, off + k * 2 + 1, none⟩ = some (.slice x.l.a x.l.t.len x.l.c) := cc 1 (by omega) _ rfl
      have hki : (k : Int) < (n : Int) := by omega
      have hbw2 : Below W0.heap.size W0 (wr.alloc (.cells #[.bool x.mu, .slice x.l.a x.l.t.len x.l.c] 94)) := hbw.alloc hbw.size _
      have CC := hid (const_m x.l.t x.l.a x.l.t.len x.l.c (wr.alloc (.cells #[.bool x.mu, .slice x.l.a x.l.t.len x.l.c] 94)) (((HCM.out x hmem).below hbw2).more hbw2.size) (HC.out x hmem).2 (by have := (HC.out x hmem).1; omega) (HT.out.below hbw2))
      have HV := hid hgv
      have HRA := hid (HRW.out.below (belowAlloc wr (.cells #[.bool x.mu, .slice x.l.a x.l.t.len x.l.c] 94)))
      obtain ⟨q, hq⟩ : ∃ q, constP x.l.t = q := ⟨_, rfl⟩
      rw [hq] at CC HV
      clear hxe hc cc hb hmem hgv hbw hbw2 hq HRW
      go_wp2_with fail
      refine CC.out.mono ?_
      rintro e wc ⟨rfl, hbc⟩
      have HRC := hid (HRA.out.below hbc)
      obtain ⟨⟨v0, g0⟩, g1⟩ := HRC.out.cell HGL.out hlt
      have HRN := hid (HRC.out.set HGL.out hlt HV.out.symm)
      clear CC hbc c0 c1
      go_wp2
      go_roundw
      case rel => exact ⟨k + 1, by go_num, by omega, HRN⟩
      case measure => simp [intOf]; omega
    · obtain rfl : k = n := by omega
      have HE := hid (show Words .u32 28 wr W0.heap.size (globs m) by have := HRW.out.row; rw [midRow_full HGL.out] at this; exact this)
      have HF := hid (HB1.out.trans (HRW.out.sv.below (by have := HB1.out.size; omega) HWG.out))
      go_wp2
      go_ret
      exact ⟨W0.heap.size, rfl, HWG.out, HE.out, HF.out⟩
end Go.Proofs.YtckdnhafookcgaaGreatDoor.Pl

namespace Go.Proofs.YtckdnhafookcgaaGreatDoor.Pl
open Go.RowKit Go.Shelf Go.Proofs.YtckdnhafookcgaaGreatDoor.Instr Go.Proofs.YtckdnhafookcgaaGreatDoor.Mod Go.Proofs.YtckdnhafookcgaaGreatDoor.Val
set_option linter.unusedVariables false

theorem infoPtr : (Tryz.prog.info? 132).map (fun i => (i.zero, i.size, i.bytes)) = some (some (.pointer none), 1, 8) := by kernel_rfl
/-- make([]*uint32, n). -/
theorem make_ptrs (lo hi : Nat) (w : World) (n : Nat) (hl : n ≤ 4294967295) :
    ∃ w', (∀ x : Int, x = n → (Instr.makeSlice 61 (.int .u32 x) (.int .u32 x)).run Tryz.prog w = .ok (.slice (some ⟨w.heap.size, 0, none⟩) n n) w') ∧ TabAt lo hi w' w.heap.size (List.replicate n none) ∧ Below w.heap.size w w' := by
  obtain ⟨i0, hi0, hz0, hz1, hz2⟩ := info_parts infoPtr
  obtain ⟨w', h1, h2, h3⟩ := run_make_full w w.heap.size 61 132 i0 (.pointer none) 1 Tryz.underlying61 hi0 hz0 hz1 .u32 .u32 n (by rw [hz2]; omega) (by unfold maxLen; omega) (Nat.le_refl _)
  refine ⟨w', fun x hx => by rw [hx]; exact h1, ?_, (Below.refl _ _).grown h3 (Nat.le_refl _) (fun k h => by cases h)⟩
  have hcells : (Value.pointer none).cells = #[Value.pointer none] := rfl
  rw [hcells, toList_madeCells_one] at h2
  rcases h2.2 with ⟨h', _⟩ | ⟨g', cap, cur, hv, hb, hh, hnc, _, hcs, ht⟩
  · cases h'
  · simp only [Value.slice.injEq, Option.some.injEq, Addr.mk.injEq, and_true, true_and] at hv
    obtain ⟨rfl, rfl⟩ := hv
    rw [List.take_of_length_le (by simp; omega)] at ht
    refine ⟨cur, hh, by simp; omega, fun i hi' => ⟨.pointer none, ?_, ?_⟩⟩
    · simp at hi'
      rw [← Array.getElem?_toList, ht]
      simp [hi']
    · simp at hi'
      simp [hi', PtrO]
theorem layF_snoc : ∀ (zs : List Int) (tb : List (Option Int)) (s : Nat) (z : Int), layF tb s (zs ++ [z]) = (layF tb s zs).set (s + zs.length) (some z)
  | [], tb, s, z => by simp [layF]
  | y :: r, tb, s, z => by
    simp only [List.cons_append, layF, layF_snoc r, List.length_cons]
    congr 1; omega
theorem layF_step {zs : List Int} {k : Nat} (hk : k < zs.length) (tb : List (Option Int)) (s : Nat) : layF tb s (zs.take (k + 1)) = (layF tb s (zs.take k)).set (s + k) (some (zs.getD k 0)) := by
  have e : zs.take (k + 1) = zs.take k ++ [zs[k]] := by rw [List.take_succ_eq_append_getElem hk]
  rw [e, layF_snoc]
  have hl : (zs.take k).length = k := by simp; omega
  rw [hl]; simp [hk]
/-- A table that is being filled, in block T; all else stands. -/
structure TabW (lo hi : Nat) (W1 : World) (T : Nat) (tb : List (Option Int)) (w : World) : Prop where
  tab : TabAt lo hi w T tb
  sv : Save T W1 w
theorem TabW.below {lo hi T : Nat} {W1 w w' : World} {tb : List (Option Int)} (h : TabW lo hi W1 T tb w) (hT : hi ≤ w.heap.size) (hb : Below w.heap.size w w') : TabW lo hi W1 T tb w' :=
  ⟨h.tab.below (hb.mono hT) (hb.block T h.tab.lt), h.sv.trans (Save.of_below hb)⟩
theorem TabW.set {lo hi T i : Nat} {W1 w : World} {tb : List (Option Int)} (h : TabW lo hi W1 T tb w) (hT : hi ≤ T) {v : Value} {z : Int} (hi' : i < tb.length) (hv : PtrO lo hi w v (some z)) : TabW lo hi W1 T (tb.set i (some z)) (w.setCell ⟨T, i, none⟩ v) := by
  have hb : Below hi w (w.setCell ⟨T, i, none⟩ v) := (Below.refl hi w).setCell hT _
  refine ⟨?_, h.sv.setCell (.inl rfl) _⟩
  obtain ⟨cs, h1, h2, h3⟩ := h.tab
  refine ⟨cs.setIfInBounds i v, heap_setCell_same w T i cs _ v h1, by simp [h2], fun j hj => ?_⟩
  rw [List.length_set] at hj
  by_cases e : i = j
  · subst e
    refine ⟨v, by simp [h2, hi'], ?_⟩
    have : (tb.set i (some z)).getD i none = some z := by simp [hi']
    rw [this]; exact hv.below hb
  · obtain ⟨u, h4, h5⟩ := h3 j hj
    refine ⟨u, by simp [e, h4], ?_⟩
    have : (tb.set i (some z)).getD j none = tb.getD j none := by simp [e]
    rw [this]; exact h5.below hb
theorem TabW.cell {lo hi T i : Nat} {W1 w : World} {tb : List (Option Int)} (h : TabW lo hi W1 T tb w) (hi' : i < tb.length) : (∃ v, w.cell? ⟨T, i, none⟩ = some v) ∧ w.frozen? ⟨T, i, none⟩ = false := by
  obtain ⟨cs, h1, h2, h3⟩ := h.tab
  obtain ⟨v, h4, _⟩ := h3 i hi'
  exact ⟨⟨v, by simp [World.cell?, h1, h4]⟩, frozen_of_row w T i cs _ h1⟩
def TabQ (lo hi : Nat) (m : Md) (w : World) (e : Ending) (w' : World) : Prop :=
  ((tabP m = none ∧ e = .returned (.tuple #[.slice none 0 0, .int .i64 220])) ∨ ∃ t tv, tabP m = some t ∧ e = .returned (.tuple #[tv, .int .i64 0]) ∧ TabIs lo hi w' tv t) ∧ Below w.heap.size w w'
/-- A pointer to one of an element's numbers. -/
theorem ptr_tag {lo hi b off k : Nat} {w : World} {fs : List Int} (h : TagsO lo hi w (some ⟨b, off, none⟩) fs) (hk : k < fs.length) : PtrO lo hi w (.pointer (some ⟨b, off + k, none⟩)) (some (fs.getD k 0)) := by
  rcases h with h | ⟨b', off', ha, hb, hc⟩
  · rw [h] at hk; simp at hk
  · cases ha
    exact ⟨b, off + k, rfl, hb, hc k hk⟩
theorem tags_addr {lo hi : Nat} {w : World} {a : Option Addr} {fs : List Int} (h : TagsO lo hi w a fs) (hk : fs ≠ []) : ∃ b off, a = some ⟨b, off, none⟩ := by
  rcases h with h | ⟨b', off', ha, hb, hc⟩
  · exact absurd h hk
  · exact ⟨b', off', ha⟩
theorem TagsO.belowHi {lo hi : Nat} {w w' : World} {a : Option Addr} {fs : List Int} (h : TagsO lo hi w a fs) (hb : Below hi w w') : TagsO lo hi w' a fs := h.frame (Same2.of_below hb (Nat.le_refl _))
theorem constP_range (t : Il) : 0 ≤ (constP t).1 ∧ (constP t).1 < 4294967296 := by
  unfold constP
  split
  · split
    · simp only [IntKind.wrap_u32]; omega
    · simp
  · simp
theorem tab0_at (l : List Li) (h : 0 < l.length) : (match l with | [] => ([] : List (Option Int)) | x :: _ => List.replicate x.n.toNat none) = List.replicate (l[0]).n.toNat none := by
  cases l with
  | nil => simp at h
  | cons x r => rfl
set_option maxRecDepth 100000 in
set_option maxHeartbeats 4000000 in
theorem tableOf_any (lo hi : Nat) (m : Md) (w : World) (hm : ModAt w.heap.size w m) (hf : m.few) (hT : Nams w) (hhi : hi ≤ w.heap.size) (ho : ∀ e ∈ m.el, TagsO lo hi w e.fa e.fs) (hr : ∀ t ∈ m.tb, 0 ≤ t.n ∧ t.n < 4294967296) :
    Calls Tryz.prog 45 #[.agg m.v] w (TabQ lo hi m w) := by
  have hb0 := (Below.refl w.heap.size w).alloc (Nat.le_refl _) (.cells m.v 32)
  have HM := hid hm
  have HTT := hid hT
  have HB := hid hb0
  have HX := hid (BoxAt.made w m.v 32)
  have HO := hid ho
  have HHI := hid hhi
  have hl := hf.lens.2.2.2.1
  have hle := hf.lens.2.2.2.2.2.2.2.1
  have HC := hid (fun (g : El) (hg : g ∈ m.el) => (⟨hf.cs g.l (codes_El hg), hf.fit.ls g.l (codes_El hg)⟩ : g.l.t.count ≤ 1000000 ∧ g.l.t.len ≤ 140737488351232))
  have HCL := hid (fun (g : El) (hg : g ∈ m.el) => hf.fit.fs g hg)
  have HP : Hid (tabP m = if m.tb.length = 0 then some [] else elemsP m.el (tab0 m)) := hid rfl
  have HRT := hid hm.tb
  have HRE := hid hm.el
  have HRR := hid hr
  unfold TabQ
  obtain ⟨n, hn⟩ : ∃ n, m.tb.length = n := ⟨_, rfl⟩
  obtain ⟨ne, hne⟩ : ∃ ne, m.el.length = ne := ⟨_, rfl⟩
  have HN := hid hn
  have HNE := hid hne
  unfold Md.v at HX HB ⊢
  rw [hn] at hl HX HB ⊢
  rw [hne] at hle HX HB ⊢
  clear hm hf hT hb0 hhi ho hr hn hne
  generalize m.tb'.a = a at HRT HB HX ⊢
  generalize m.el'.a = ae at HRE HB HX ⊢
  obtain ⟨W0, hW0⟩ : ∃ W0, W0 = w.alloc (.cells #[.slice m.ty'.a m.ty.length m.ty'.c, .slice m.im'.a m.im.length m.im'.c, .slice m.fu'.a m.fu.length m.fu'.c, .slice a n m.tb'.c, .slice m.me'.a m.me.length m.me'.c, .slice m.gl'.a m.gl.length m.gl'.c, .slice m.ex'.a m.ex.length m.ex'.c, .bool m.st, .int .u32 m.sn, .slice ae ne m.el'.c, .slice m.da'.a m.da.length m.da'.c] 32) := ⟨_, rfl⟩
  rw [← hW0] at HX HB
  have HW0 := hid hW0
  clear hW0
  have x3 := HX.out 3 _ rfl
  by_cases h0 : n = 0
  · have hnb : ((n : Int) == 0) = true := by simp [h0]
    have HQ := hid (show tabP m = some [] by rw [HP.out, if_pos (by rw [HN.out]; exact h0)])
    clear h0
    go_enter Tryz.func45, Tryz.ntmps45
    go_upto_region 1 with fail
    rw [← HW0.out]
    clear HW0
    go_wp2
    go_ret2
    exact ⟨.inr ⟨[], _, HQ.out, rfl, .inl ⟨rfl, rfl⟩⟩, HB.out⟩
  · have hnb : ((n : Int) == 0) = false := by simpa using h0
    have h0n : 0 < m.tb.length := by rw [HN.out]; omega
    obtain ⟨b3, off3, rfl, hb3, hc3⟩ := Rows.get HRT.out h0n
    have hrr := HRR.out _ (List.getElem_mem h0n)
    have htab : tab0 m = List.replicate (m.tb[0]).n.toNat none := tab0_at m.tb h0n
    have hpt : tabP m = elemsP m.el (tab0 m) := by rw [HP.out, if_neg (by omega)]
    obtain ⟨x, hxe⟩ : ∃ x, m.tb[0] = x := ⟨_, rfl⟩
    rw [hxe] at hc3 hrr htab
    obtain ⟨N, hN⟩ : ∃ N : Nat, x.n = (N : Int) := ⟨x.n.toNat, by omega⟩
    have hNb : N ≤ 4294967295 := by omega
    have hNt : x.n.toNat = N := by omega
    rw [hNt] at htab
    have hbw := HB.out
    have c0 : W0.cell? ⟨b3, off3, none⟩ = some (.int .u32 (N : Int)) := by
      have := (hbw.cell (p := ⟨b3, off3 + 0 * 3 + 0, none⟩) hb3).trans (hc3 0 (by omega) (.int .u32 x.n) rfl)
      rw [hN] at this
      simpa using this
    obtain ⟨W1, hmk, hh1, hb1⟩ := make_ptrs lo hi W0 N hNb
    have hmk1 := hmk N rfl
    have HPT := hid (show tabP m = elemsP m.el (List.replicate N none) by rw [hpt, htab])
    have HBB := hid hb1
    have HR0 := hid (show TabW lo hi W1 W0.heap.size (List.replicate N none) W1 from ⟨hh1, Save.refl _ _⟩)
    have x9 := (HX.out.keep hb1) 9 _ rfl
    have hnpos : (0 : Int) < (n : Int) := by omega
    have HWG := hid (show w.heap.size ≤ W0.heap.size from HB.out.size)
    clear hmk h0 h0n hc3 hb3 hrr htab hpt hxe hN hNt hbw hb1 hh1
    go_enter Tryz.func45, Tryz.ntmps45
    go_upto_region 1 with fail
    rw [← HW0.out]
    clear HW0
    go_wp2
    clear x3 hnb c0 hmk1 x9 hnpos
    go_loopw [23] (fun vi wr => ∃ (k : Nat) (tb : List (Option Int)), vi = .int .i64 k ∧ k ≤ ne ∧ Hid (tabP m = elemsP (m.el.drop k) tb) ∧ Hid (tb.length = N) ∧ Hid (TabW lo hi W1 W0.heap.size tb wr)) (fun vi _ => ne - (intOf vi).toNat)
    case atStart => exact ⟨0, _, rfl, Nat.zero_le _, HPT, by simp [Hid], HR0⟩
    case round =>
      obtain ⟨k, tb, rfl, hk, HPK, HTL, HRW⟩ := hrel
      by_cases hlt : k < ne
      · have hkl : k < m.el.length := by rw [HNE.out]; exact hlt
        obtain ⟨b, off, rfl, hb, hc⟩ := Rows.get HRE.out hkl
        have hmem := List.getElem_mem hkl
        have hdrop : m.el.drop k = m.el[k] :: m.el.drop (k + 1) := List.drop_eq_getElem_cons hkl
        obtain ⟨x, hxe⟩ : ∃ x, m.el[k] = x := ⟨_, rfl⟩
        rw [hxe] at hc hmem hdrop
        have hbw : Below w.heap.size w wr := HB.out.trans ((HBB.out.mono HB.out.size).trans (HRW.out.sv.below (by have := HBB.out.size; have := HWG.out; omega) HWG.out))
        have cc : ∀ j, j < 2 → ∀ v, x.v[j]? = some v → wr.cell? ⟨b, off + k * 2 + j, none⟩ = some v := fun j hj v hv => (hbw.cell (p := ⟨b, off + k * 2 + j, none⟩) hb).trans (hc j hj v hv)
        have c0 : wr.cell? ⟨b, off + k * 2, none⟩ = some (.slice x.l.a x.l.t.len x.l.c) := cc 0 (by omega) _ rfl
        have c1 : wr.cell? ⟨b, off + k * 2 + 1, none⟩ = some (.slice x.fa x.fs.length x.fc) := cc 1 (by omega) _ rfl
        have hki : (k : Int) < (ne : Int) := by omega
        have hbw2 : Below w.heap.size w (wr.alloc (.cells #[.slice x.l.a x.l.t.len x.l.c, .slice x.fa x.fs.length x.fc] 109)) := hbw.alloc hbw.size _
        have CC := hid (const_m x.l.t x.l.a x.l.t.len x.l.c (wr.alloc (.cells #[.slice x.l.a x.l.t.len x.l.c, .slice x.fa x.fs.length x.fc] 109)) (((HM.out.ls x.l (codes_El hmem)).below hbw2).more hbw2.size) (HC.out x hmem).2 (by have := (HC.out x hmem).1; omega) (HTT.out.below hbw2))
        have hhw : hi ≤ wr.heap.size := by have := HHI.out; have := hbw.size; omega
        have HRA := hid (HRW.out.below hhw (belowAlloc wr (.cells #[.slice x.l.a x.l.t.len x.l.c, .slice x.fa x.fs.length x.fc] 109)))
        have HBX := hid (BoxAt.made wr #[.slice x.l.a x.l.t.len x.l.c, .slice x.fa x.fs.length x.fc] 109)
        have hfl := HCL.out x hmem
        have HOX := hid (HO.out x hmem)
        have hrng := constP_range x.l.t
        have hst : tabP m = if (constP x.l.t).1.toNat + x.fs.length ≤ tb.length then elemsP (m.el.drop (k + 1)) (layF tb (constP x.l.t).1.toNat x.fs) else none := by rw [HPK.out, hdrop]; rfl
        obtain ⟨⟨A, er⟩, hq⟩ : ∃ q, constP x.l.t = q := ⟨_, rfl⟩
        rw [hq] at CC hrng hst
        simp only at CC hrng hst
        obtain ⟨s, rfl⟩ : ∃ s : Nat, A = (s : Int) := ⟨A.toNat, by omega⟩
        rw [Int.toNat_natCast, HTL.out] at hst
        have hsb : s < 4294967296 := by omega
        have HST := hid hst
        have HGB0 := hid (show W0.heap.size < wr.heap.size from Nat.lt_of_lt_of_le HR0.out.tab.lt HRW.out.sv.size)
        have HHW := hid hhw
        have HBW2 := hid hbw2
        obtain ⟨L, hL⟩ : ∃ L, x.fs.length = L := ⟨_, rfl⟩
        have HL := hid hL
        rw [hL] at CC HRA HBX hfl HST HBW2 c1
        clear hxe hc cc hb hmem hdrop hbw hbw2 hq hhw hrng hst hL HRW HPK
        go_wp2_with fail
        refine CC.out.mono ?_
        rintro e wc ⟨rfl, hbc⟩
        have HRC := hid (HRA.out.below (by have := HHW.out; simp; omega) hbc)
        have e1 := (HBX.out.keep hbc) 1 _ rfl
        have HBC := hid (thenB HBW2.out hbc)
        have w1 : IntKind.u64.wrap (s : Int) = (s : Int) := by rw [IntKind.wrap_u64]; omega
        have w2 : IntKind.u64.wrap (L : Int) = (L : Int) := by rw [IntKind.wrap_u64]; omega
        have w3 : IntKind.u64.wrap ((s : Int) + (L : Int)) = (s : Int) + (L : Int) := by rw [IntKind.wrap_u64]; omega
        have w4 : IntKind.u64.wrap (N : Int) = (N : Int) := by rw [IntKind.wrap_u64]; omega
        clear CC hbc c0 c1
        by_cases hin : s + L ≤ N
        · have hng : ¬ ((N : Int) < (s : Int) + (L : Int)) := by omega
          have HST2 := hid (show tabP m = elemsP (m.el.drop (k + 1)) (layF tb s x.fs) by rw [HST.out, if_pos hin])
          have HIN := hid hin
          obtain ⟨gB, hgB⟩ : ∃ gB, wr.heap.size = gB := ⟨_, rfl⟩
          rw [hgB] at e1
          have HR2 := hid (show TabW lo hi W1 W0.heap.size (layF tb s (x.fs.take 0)) wc from HRC.out)
          have HE1 := hid e1
          have HGB := hid (show W0.heap.size < gB by rw [← hgB]; exact HGB0.out)
          clear hin HST HRC
          rw [hgB]
          clear hgB
          go_wp2
          clear e1 w1 w2 w3 w4 hng
          go_loopw [47] (fun vi wx => ∃ j : Nat, vi = .int .i64 j ∧ j ≤ L ∧ Hid (TabW lo hi W1 W0.heap.size (layF tb s (x.fs.take j)) wx) ∧ Hid (wx.cell? ⟨gB, 1, none⟩ = some (.slice x.fa L x.fc))) (fun vi _ => L - (intOf vi).toNat)
          case atStart => exact ⟨0, rfl, Nat.zero_le _, HR2, HE1⟩
          case round =>
            clear HR2 HE1
            obtain ⟨j, rfl, hj, HRX, HEX⟩ := hrel
            by_cases hjl : j < L
            · have hjf : j < x.fs.length := by rw [HL.out]; exact hjl
              obtain ⟨fb, foff, hfa⟩ := tags_addr HOX.out (by intro h; rw [h] at hjf; simp at hjf)
              have HOY := hid (TagsO.belowHi HOX.out (show Below hi w wr from (((HB.out.trans ((HBB.out.mono HB.out.size).trans (HRX.out.sv.below (by have := HBB.out.size; have := HWG.out; omega) HWG.out))).mono HHI.out))))
              rw [hfa] at HEX HOY
              have hpt := ptr_tag HOY.out hjf
              have hsj : s + j < (layF tb s (x.fs.take j)).length := by rw [layF_length, HTL.out]; have := HIN.out; omega
              obtain ⟨⟨v0, g0⟩, g1⟩ := HRX.out.cell hsj
              have HRN := hid (show TabW lo hi W1 W0.heap.size (layF tb s (x.fs.take (j + 1))) (wr.setCell ⟨W0.heap.size, s + j, none⟩ (.pointer (some ⟨fb, foff + j, none⟩))) by
                rw [layF_step hjf]
                exact HRX.out.set (by have := HHI.out; have := HWG.out; omega) hsj hpt)
              have HEN := hid (show (wr.setCell ⟨W0.heap.size, s + j, none⟩ (.pointer (some ⟨fb, foff + j, none⟩))).cell? ⟨gB, 1, none⟩ = some (.slice x.fa L x.fc) by
                rw [hfa]
                exact (Save.setCell (p := ⟨W0.heap.size, s + j, none⟩) (Save.refl W0.heap.size wr) (.inl rfl) _).cell (p := ⟨gB, 1, none⟩) (by have := HGB.out; simp; omega) HEX.out)
              have e1 := HEX.out
              have hji : (j : Int) < (L : Int) := by omega
              obtain ⟨Q, hQ⟩ : ∃ Q : Nat, Q = s + j := ⟨_, rfl⟩
              rw [← hQ] at g0 g1 HRN HEN
              have hqi : (s : Int) + (j : Int) = (Q : Int) := by omega
              have hqn : (Q : Int) < (N : Int) := by have := HIN.out; omega
              have w1 : IntKind.i64.wrap (s : Int) = (s : Int) := by rw [IntKind.wrap_i64]; omega
              clear hpt hsj hfa hQ HRX HEX HOY
              go_wp2
              go_roundw
              case rel => exact ⟨j + 1, by go_num, by omega, HRN, HEN⟩
              case measure => simp [intOf]; omega
            · obtain rfl : j = L := by omega
              have HRN := hid (show TabW lo hi W1 W0.heap.size (layF tb s x.fs) wr by have := HRX.out; rw [← HL.out, List.take_length] at this; exact this)
              have HTN := hid (show (layF tb s x.fs).length = N by rw [layF_length]; exact HTL.out)
              go_wp2
              go_roundw
              case rel => exact ⟨k + 1, _, by go_num, by omega, HST2, HTN, HRN⟩
              case measure => simp [intOf]; omega
        · have hgt : (N : Int) < (s : Int) + (L : Int) := by omega
          have HQ := hid (show tabP m = none by rw [HST.out, if_neg hin])
          clear hin
          go_wp2
          go_ret2
          exact ⟨.inl ⟨HQ.out, rfl⟩, HBC.out⟩
      · obtain rfl : k = ne := by omega
        have HQ := hid (show tabP m = some tb by rw [HPK.out, ← HNE.out, List.drop_length]; rfl)
        have HF := hid (HB.out.trans ((HBB.out.mono HB.out.size).trans (HRW.out.sv.below (by have := HBB.out.size; have := HWG.out; omega) HWG.out)))
        have HE := hid (show TabIs lo hi wr (.slice (some ⟨W0.heap.size, 0, none⟩) N N) tb from .inr ⟨W0.heap.size, by rw [HTL.out], by have := HHI.out; have := HWG.out; omega, HRW.out.tab⟩)
        go_wp2
        go_ret2
        exact ⟨.inr ⟨tb, _, HQ.out, rfl, HE.out⟩, HF.out⟩
end Go.Proofs.YtckdnhafookcgaaGreatDoor.Pl

namespace Go.Proofs.YtckdnhafookcgaaGreatDoor.Pl
open Go.RowKit Go.Shelf Go.Proofs.YtckdnhafookcgaaGreatDoor.Instr Go.Proofs.YtckdnhafookcgaaGreatDoor.Mod Go.Proofs.YtckdnhafookcgaaGreatDoor.Val
open Go.Proofs.YtckdnhafookcgaaGreatDoor.Mem (MemIs MemAt Wrote Keep isOwn Mm NewTo New_true New_false Write_anyC)
open Go.Proofs.YtckdnhafookcgaaGreatDoor.Kind (okLim codeLim)
set_option linter.unusedVariables false

theorem MemIs_base {B B' : Nat} {W : World} {p K : Nat} {m : Mm} (h : MemIs B W p K m) (hb : B' ≤ B) : MemIs B' W p K m := by
  obtain ⟨mb, D, K', hK, h⟩ := h
  refine ⟨mb, D, K', hK, h.box, Nat.le_trans hb h.bp, Nat.le_trans hb h.bm, h.map, h.isMap, h.ok, fun k => ?_, h.apart⟩
  rcases h.at_ k with h1 | ⟨g, hg, h1, h2⟩
  · exact .inl h1
  · exact .inr ⟨g, Nat.le_trans hb hg, h1, h2⟩
/-- Limits as they should be. -/
structure LimOk (l : Li) : Prop where
  n : 0 ≤ l.n ∧ l.n < 4294967296
  x : 0 ≤ l.x ∧ l.x < 4294967296
  ok : okLim l.n l.x l.c 65536 = true
theorem New_ok (l : Li) (W : World) (h : LimOk l) : Calls Tryz.prog 99 #[.agg #[.int .u32 l.n, .int .u32 l.x, .bool l.c]] W (NewTo W l.n.toNat (if l.c then l.x.toNat else 65536)) := by
  obtain ⟨n, x, c⟩ := l
  obtain ⟨⟨h1, h2⟩, ⟨h3, h4⟩, h5⟩ := h
  simp only at *
  obtain ⟨N, rfl⟩ : ∃ N : Nat, n = (N : Int) := ⟨n.toNat, by omega⟩
  obtain ⟨X, rfl⟩ : ∃ X : Nat, x = (X : Int) := ⟨x.toNat, by omega⟩
  have hc : codeLim N X c 65536 = 0 := by unfold codeLim; rw [if_pos h5]
  cases c
  · exact New_false N X W hc
  · exact New_true N X W hc
theorem write_cases (m : Mm) (s : Nat) (zs : List Int) : (m.write s zs).2 = 0 ∨ (m.write s zs).2 = 220 := by
  unfold Mm.write; split
  · exact .inl rfl
  · exact .inr rfl
def MemoQ (hi : Nat) (m : Md) (w : World) (e : Ending) (w' : World) : Prop :=
  ((memP m = none ∧ e = .returned (.tuple #[.pointer none, .int .i64 220])) ∨ ∃ o mv, memP m = some o ∧ e = .returned (.tuple #[mv, .int .i64 0]) ∧ MemVal hi 1048576 w' mv o) ∧ Below w.heap.size w w'
def memL : List Li → List Da → Option (Option Mm)
  | [], _ => some none
  | l :: _, x => (datasP x (mem0 l)).map some
theorem memP_eq (m : Md) : memP m = memL m.me m.da := by
  unfold memP
  generalize m.me = l
  cases l <;> rfl
theorem memL_cons (l : List Li) (x : List Da) (h : 0 < l.length) : memL l x = (datasP x (mem0 (l[0]))).map some := by
  cases l with
  | nil => simp at h
  | cons y r => rfl
theorem memP_cons {m : Md} (h : 0 < m.me.length) : memP m = (datasP m.da (mem0 (m.me[0]))).map some := (memP_eq m).trans (memL_cons m.me m.da h)
theorem memP_nil {m : Md} (h : m.me.length = 0) : memP m = some none := by
  unfold memP
  cases hm : m.me with
  | nil => rfl
  | cons l r => rw [hm] at h; simp at h
set_option maxRecDepth 100000 in
set_option maxHeartbeats 4000000 in
theorem memoryOf_any (hi : Nat) (m : Md) (w : World) (hm : ModAt w.heap.size w m) (hf : m.few) (hT : Nams w) (hhi : hi ≤ w.heap.size) (hL : ∀ l ∈ m.me, LimOk l) (hby : ∀ d ∈ m.da, ∀ z ∈ d.bs, 0 ≤ z ∧ z < 256) (hda : ∀ d ∈ m.da, d.bs.length ≤ d.bc ∧ d.bc ≤ 9223372036854775807) (hh : sumB m.da ≤ 1048576) :
    Calls Tryz.prog 46 #[.agg m.v] w (MemoQ hi m w) := by
  have hb0 := (Below.refl w.heap.size w).alloc (Nat.le_refl _) (.cells m.v 32)
  have HM := hid hm
  have HTT := hid hT
  have HB := hid hb0
  have HX := hid (BoxAt.made w m.v 32)
  have HHI := hid hhi
  have hl := hf.lens.2.2.2.2.1
  have hle := hf.lens.2.2.2.2.2.2.2.2
  have HC := hid (fun (g : Da) (hg : g ∈ m.da) => (⟨hf.cs g.l (codes_Da hg), hf.fit.ls g.l (codes_Da hg)⟩ : g.l.t.count ≤ 1000000 ∧ g.l.t.len ≤ 140737488351232))
  have HBY := hid hby
  have HDA := hid hda
  have HH := hid hh
  have HRM := hid hm.me
  have HRD := hid hm.da
  have HLL := hid hL
  have HMN := hid (fun h => memP_nil (m := m) h)
  have HMC := hid (fun h => memP_cons (m := m) h)
  unfold MemoQ
  obtain ⟨n, hn⟩ : ∃ n, m.me.length = n := ⟨_, rfl⟩
  obtain ⟨ne, hne⟩ : ∃ ne, m.da.length = ne := ⟨_, rfl⟩
  have HN := hid hn
  have HNE := hid hne
  unfold Md.v at HX HB ⊢
  rw [hn] at hl HX HB ⊢
  rw [hne] at hle HX HB ⊢
  clear hm hf hT hb0 hhi hby hda hh hL hn hne
  generalize m.me'.a = a at HRM HB HX ⊢
  generalize m.da'.a = ae at HRD HB HX ⊢
  obtain ⟨W0, hW0⟩ : ∃ W0, W0 = w.alloc (.cells #[.slice m.ty'.a m.ty.length m.ty'.c, .slice m.im'.a m.im.length m.im'.c, .slice m.fu'.a m.fu.length m.fu'.c, .slice m.tb'.a m.tb.length m.tb'.c, .slice a n m.me'.c, .slice m.gl'.a m.gl.length m.gl'.c, .slice m.ex'.a m.ex.length m.ex'.c, .bool m.st, .int .u32 m.sn, .slice m.el'.a m.el.length m.el'.c, .slice ae ne m.da'.c] 32) := ⟨_, rfl⟩
  rw [← hW0] at HX HB
  have HW0 := hid hW0
  clear hW0
  have x4 := HX.out 4 _ rfl
  by_cases h0 : n = 0
  · have hnb : ((n : Int) == 0) = true := by simp [h0]
    have HQ := hid (HMN.out (by rw [HN.out]; exact h0))
    clear h0
    go_enter Tryz.func46, Tryz.ntmps46
    go_upto_region 1 with fail
    rw [← HW0.out]
    clear HW0
    go_wp2
    go_ret2
    exact ⟨.inr ⟨none, _, HQ.out, rfl, rfl⟩, HB.out⟩
  · have hnb : ((n : Int) == 0) = false := by simpa using h0
    have h0n : 0 < m.me.length := by rw [HN.out]; omega
    obtain ⟨b3, off3, rfl, hb3, hc3⟩ := Rows.get HRM.out h0n
    have hll := HLL.out _ (List.getElem_mem h0n)
    have hmp := HMC.out h0n
    obtain ⟨l, hxe⟩ : ∃ l, m.me[0] = l := ⟨_, rfl⟩
    rw [hxe] at hc3 hll hmp
    have hbw := HB.out
    have cc : ∀ j, j < 3 → ∀ v, l.v[j]? = some v → W0.cell? ⟨b3, off3 + j, none⟩ = some v := fun j hj v hv => by
      have := (hbw.cell (p := ⟨b3, off3 + 0 * 3 + j, none⟩) hb3).trans (hc3 j hj v hv)
      simpa using this
    have c0 : W0.cell? ⟨b3, off3, none⟩ = some (.int .u32 l.n) := cc 0 (by omega) _ rfl
    have c1 : W0.cell? ⟨b3, off3 + 1, none⟩ = some (.int .u32 l.x) := cc 1 (by omega) _ rfl
    have c2 : W0.cell? ⟨b3, off3 + 2, none⟩ = some (.bool l.c) := cc 2 (by omega) _ rfl
    have CN := hid (New_ok l W0 hll)
    have HMP := hid hmp
    have hnpos : (0 : Int) < (n : Int) := by omega
    have HWG := hid (show w.heap.size ≤ W0.heap.size from HB.out.size)
    obtain ⟨M0, hM0⟩ : ∃ M0, (⟨l.n.toNat, if l.c then l.x.toNat else 65536, fun _ => 0⟩ : Mm) = M0 := ⟨_, rfl⟩
    have HM0 := hid (show mem0 l = M0 from hM0)
    unfold NewTo at CN
    rw [hM0] at CN
    clear h0 h0n hc3 hb3 hll hmp hxe hbw cc hM0
    go_enter Tryz.func46, Tryz.ntmps46
    go_upto_region 1 with fail
    rw [← HW0.out]
    clear HW0
    go_wp2_with fail
    refine CN.out.mono ?_
    rintro e wa ⟨p, rfl, hmi, hba⟩
    have HBB := hid hba
    have HR0 := hid hmi
    have HPT := hid (show memP m = (datasP (m.da.drop 0) M0).map some by rw [HMP.out, HM0.out]; rfl)
    have x10 := (HX.out.keep hba) 10 _ rfl
    clear CN hmi hba x4 hnb c0 c1 c2 hnpos
    go_wp2
    clear x10
    go_loopw [26] (fun vi wr => ∃ (k : Nat) (mm : Mm), vi = .int .i64 k ∧ k ≤ ne ∧ Hid (memP m = (datasP (m.da.drop k) mm).map some) ∧ Hid (MemIs W0.heap.size wr p (sumB (m.da.take k)) mm) ∧ Hid (Below W0.heap.size W0 wr)) (fun vi _ => ne - (intOf vi).toNat)
    case atStart => exact ⟨0, _, rfl, Nat.zero_le _, HPT, HR0, HBB⟩
    case round =>
      obtain ⟨k, mm, rfl, hk, HPK, HMI, HBW⟩ := hrel
      by_cases hlt : k < ne
      · have hkl : k < m.da.length := by rw [HNE.out]; exact hlt
        obtain ⟨b, off, rfl, hb, hc⟩ := Rows.get HRD.out hkl
        have hmem := List.getElem_mem hkl
        have hdrop : m.da.drop k = m.da[k] :: m.da.drop (k + 1) := List.drop_eq_getElem_cons hkl
        have hsum : sumB (m.da.take (k + 1)) = sumB (m.da.take k) + m.da[k].bs.length := sumB_step hkl
        have hsum2 := sumB_take m.da (k + 1)
        obtain ⟨x, hxe⟩ : ∃ x, m.da[k] = x := ⟨_, rfl⟩
        rw [hxe] at hc hmem hdrop hsum
        have hbw : Below w.heap.size w wr := HB.out.trans (HBW.out.mono HB.out.size)
        have cc : ∀ j, j < 2 → ∀ v, x.v[j]? = some v → wr.cell? ⟨b, off + k * 2 + j, none⟩ = some v := fun j hj v hv => (hbw.cell (p := ⟨b, off + k * 2 + j, none⟩) hb).trans (hc j hj v hv)
        have c0 : wr.cell? ⟨b, off + k * 2, none⟩ = some (.slice x.l.a x.l.t.len x.l.c) := cc 0 (by omega) _ rfl
        have c1 : wr.cell? ⟨b, off + k * 2 + 1, none⟩ = some (.slice x.ba x.bs.length x.bc) := cc 1 (by omega) _ rfl
        have hki : (k : Int) < (ne : Int) := by omega
        have hbw2 : Below w.heap.size w (wr.alloc (.cells #[.slice x.l.a x.l.t.len x.l.c, .slice x.ba x.bs.length x.bc] 88)) := hbw.alloc hbw.size _
        have CC := hid (const_m x.l.t x.l.a x.l.t.len x.l.c (wr.alloc (.cells #[.slice x.l.a x.l.t.len x.l.c, .slice x.ba x.bs.length x.bc] 88)) (((HM.out.ls x.l (codes_Da hmem)).below hbw2).more hbw2.size) (HC.out x hmem).2 (by have := (HC.out x hmem).1; omega) (HTT.out.below hbw2))
        have HBX := hid (BoxAt.made wr #[.slice x.l.a x.l.t.len x.l.c, .slice x.ba x.bs.length x.bc] 88)
        have HMA := hid (HMI.out.below (belowAlloc wr (.cells #[.slice x.l.a x.l.t.len x.l.c, .slice x.ba x.bs.length x.bc] 88)))
        have HB0 := hid (HBW.out.alloc HBW.out.size (.cells #[.slice x.l.a x.l.t.len x.l.c, .slice x.ba x.bs.length x.bc] 88))
        have HBS := hid (HM.out.bs x hmem)
        have HBR := hid (HBY.out x hmem)
        have HBC := hid (HDA.out x hmem)
        have hrng := constP_range x.l.t
        have hst : memP m = (if (mm.write (constP x.l.t).1.toNat x.bs).2 = 0 then datasP (m.da.drop (k + 1)) (mm.write (constP x.l.t).1.toNat x.bs).1 else none).map some := by rw [HPK.out, hdrop]; rfl
        obtain ⟨⟨A, er⟩, hq⟩ : ∃ q, constP x.l.t = q := ⟨_, rfl⟩
        rw [hq] at CC hrng hst
        simp only at CC hrng hst
        obtain ⟨s, rfl⟩ : ∃ s : Nat, A = (s : Int) := ⟨A.toNat, by omega⟩
        rw [Int.toNat_natCast] at hst
        have hsb : s ≤ 4294967295 := by omega
        have HST := hid hst
        have HBW2 := hid hbw2
        have HSUM := hid hsum
        have HSUM2 := hid (show sumB (m.da.take (k + 1)) ≤ 1048576 by have := HH.out; omega)
        have HSB := hid hsb
        clear hxe hc cc hb hmem hdrop hbw hbw2 hq hrng hst hsum hsum2 hsb HPK HMI HBW
        go_wp2_with fail
        refine CC.out.mono ?_
        rintro e wc ⟨rfl, hbc⟩
        have e1 := (HBX.out.keep hbc) 1 _ rfl
        have hb2 := HBW2.out
        have hbwc : Below w.heap.size w wc := thenB hb2 hbc
        have CW := hid (Write_anyC (HMA.out.below hbc) (B := W0.heap.size) (by have h1 := HB0.out.size; have h2 := hbc.size; exact Nat.le_trans h1 h2) (match x.ba with | some q => q.block | none => 0) (match x.ba with | some q => q.off | none => 0) x.ba x.bs.length x.bc s x.bs rfl HBR.out HBC.out.1 HBC.out.2 HSB.out (fun hpos => by
          rcases HBS.out with h | ⟨b', o', ha, hlb, hcs⟩
          · rw [h] at hpos; simp at hpos
          · rw [ha]
            have hcell := fun i hi => (hbwc.cell (p := ⟨b', o' + i, none⟩) hlb).trans (hcs i hi)
            have hlt2 := World.block_lt_of_cell? wc _ (hcell 0 hpos)
            exact ⟨rfl, hcell, wc.heap[b'], Array.getElem?_eq_getElem hlt2, .inr (by have := HWG.out; simp; omega)⟩) (by have := HSUM.out; have := HSUM2.out; omega))
        have HBF := hid (HB0.out.trans (hbc.mono HB0.out.size))
        clear CC hbc c0 c1 hb2 hbwc HBS HBR HBC
        have hwc := write_cases mm s x.bs
        obtain ⟨⟨m2, ew⟩, hwq⟩ : ∃ q, mm.write s x.bs = q := ⟨_, rfl⟩
        rw [hwq] at CW HST hwc
        simp only at CW HST hwc
        clear hwq
        go_wp2_with fail
        refine CW.out.mono ?_
        rintro e wd ⟨rfl, hwr⟩
        have HMD := hid (show MemIs W0.heap.size wd p (sumB (m.da.take (k + 1))) m2 by rw [HSUM.out]; exact hwr.1)
        have HBD := hid (HBF.out.trans hwr.2.2)
        clear CW hwr e1
        rcases hwc with rfl | rfl
        · have HP2 := hid (show memP m = (datasP (m.da.drop (k + 1)) m2).map some by rw [HST.out, if_pos rfl])
          go_wp2
          go_roundw
          case rel => exact ⟨k + 1, _, by go_num, by omega, HP2, HMD, HBD⟩
          case measure => simp [intOf]; omega
        · have HQ := hid (show memP m = none by rw [HST.out, if_neg (by decide)]; rfl)
          have HF := hid (HB.out.trans (HBD.out.mono HB.out.size))
          go_wp2
          go_ret2
          exact ⟨.inl ⟨HQ.out, rfl⟩, HF.out⟩
      · obtain rfl : k = ne := by omega
        have HQ := hid (show memP m = some (some mm) by rw [HPK.out, ← HNE.out, List.drop_length]; rfl)
        have HF := hid (HB.out.trans (HBW.out.mono HB.out.size))
        have HE := hid (show MemVal hi 1048576 wr (.pointer (some ⟨p, 0, none⟩)) (some mm) from ⟨p, rfl, (MemIs_base HMI.out (by have := HHI.out; have := HWG.out; omega)).mono (by rw [← HNE.out, List.take_length]; exact HH.out)⟩)
        go_wp2
        go_ret2
        exact ⟨.inr ⟨_, _, HQ.out, rfl, HE.out⟩, HF.out⟩
end Go.Proofs.YtckdnhafookcgaaGreatDoor.Pl

namespace Go.Proofs.YtckdnhafookcgaaGreatDoor.Pl
open Go.RowKit Go.Shelf Go.Proofs.YtckdnhafookcgaaGreatDoor.Instr Go.Proofs.YtckdnhafookcgaaGreatDoor.Mod Go.Proofs.YtckdnhafookcgaaGreatDoor.Val
set_option linter.unusedVariables false

theorem plainStr : Tryz.prog.plainKey 9 = true := by kernel_rfl
theorem eq_str (d : Nat) (a b : ByteArray) (w : World) : (Op.equalIn (d + 1) 9 (.string a) (.string b)).run Tryz.prog w = .ok (a == b) w := by
  simp [Op.equalIn, run_underlying Tryz.underlying9]
theorem part_two (x y : Value) (w : World) : (part 9 #[x, y] 0).run Tryz.prog w = .ok x w ∧ (part 9 #[x, y] 1).run Tryz.prog w = .ok y w :=
  ⟨run_part_plain (w := w) plainStr (by rfl), run_part_plain (w := w) plainStr (by rfl)⟩
theorem eq_names (a b c d : ByteArray) (w : World) : (Op.equalIn 10000 157 (.agg #[.string a, .string b]) (.agg #[.string c, .string d])).run Tryz.prog w = .ok (a == c && b == d) w := by
  obtain ⟨i, hi⟩ := info_of_underlying Tryz.underlying9
  rw [show (10000 : Nat) = 9998 + 1 + 1 from rfl, run_equalIn_array w (9998 + 1) _ _ Tryz.underlying157 hi]
  have hc : Tryz.prog.cellsOf 9 = 1 := by kernel_rfl
  rw [hc]
  have p1 := part_two (.string a) (.string b) w
  have p2 := part_two (.string c) (.string d) w
  simp only [List.range_succ, List.range_zero, List.nil_append, List.cons_append, Op.eqItems, Sem.run_bind, Nat.zero_mul, Nat.one_mul, p1.1, p2.1, Result.andThen_ok]
  have q1 := eq_str 9998 a c w
  have q2 := eq_str 9998 b d w
  cases h1 : a == c <;> cases h2 : b == d <;> rw [h1] at q1 <;> rw [h2] at q2 <;> simp [p1.2, p2.2, q1, q2]
theorem key_str (em : Bool) (d : Nat) (s : ByteArray) (w : World) : (Instr.checkKey em (d + 1) 9 (.string s)).run Tryz.prog w = .ok () w := by
  simp [Instr.checkKey, run_underlying Tryz.underlying9]
theorem key_two (em : Bool) (d : Nat) (a b : ByteArray) (w : World) : (Instr.checkKey em (d + 1 + 1) 157 (.agg #[.string a, .string b])).run Tryz.prog w = .ok () w := by
  obtain ⟨i, hi⟩ := info_of_underlying Tryz.underlying9
  have hs := run_sizeOf (P := Tryz.prog) w hi
  rw [show Tryz.prog.cellsOf 9 = 1 by kernel_rfl] at hs
  have p1 := part_two (.string a) (.string b) w
  have c1 := fun s => key_str em d s w
  rw [Instr.checkKey]
  simp [run_underlying Tryz.underlying157, Std.Legacy.Range.forIn_eq_forIn_range', Std.Legacy.Range.size, List.range', hs, p1.1, p1.2, c1]
theorem guard_names (em : Bool) (a b : ByteArray) (w : World) : (Instr.checkKey em 10000 157 (.agg #[.string a, .string b])).run Tryz.prog w = .ok () w := key_two em 9998 a b w
def kG : Value := .agg #[.string ⟨#[104, 111, 115, 116]⟩, .string ⟨#[103, 101, 116, 99]⟩]
def kP : Value := .agg #[.string ⟨#[104, 111, 115, 116]⟩, .string ⟨#[112, 117, 116, 99]⟩]
def vG : Value := .agg #[.int .i64 1, .int .i64 0, .int .i64 1]
def vP : Value := .agg #[.int .i64 2, .int .i64 1, .int .i64 0]
/-- The map of the host's functions. -/
def HostAt (w : World) (g : Nat) : Prop := ∃ b1 b2 ck, w.heap[g]? = some (.map #[⟨kG, vG, b1⟩, ⟨kP, vP, b2⟩] ck) ∨ w.heap[g]? = some (.map #[⟨kP, vP, b1⟩, ⟨kG, vG, b2⟩] ck)
theorem HostAt.below {w w' : World} {g : Nat} (h : HostAt w g) (hb : Below w.heap.size w w') : HostAt w' g := by
  obtain ⟨b1, b2, ck, h⟩ := h
  rcases h with h | h
  · exact ⟨b1, b2, ck, .inl ((hb.block g (Array.getElem?_eq_some_iff.1 h).1).trans h)⟩
  · exact ⟨b1, b2, ck, .inr ((hb.block g (Array.getElem?_eq_some_iff.1 h).1).trans h)⟩
theorem find_names (x : Value) (es : List MapEntry) (w : World) : (Instr.findKey 157 x es).run Tryz.prog w = (Instr.findAsking 157 x es).run Tryz.prog w := by
  have u := run_underlying (P := Tryz.prog) Tryz.underlying157
  cases es with
  | nil => simp [Instr.findKey, u, Instr.findNow, Instr.findAsking]
  | cons e es => simp [Instr.findKey, u, Instr.findNow, Instr.sameNow]
theorem eqG (a b : ByteArray) (w : World) : (Op.equal 157 (.agg #[.string a, .string b]) kG).run Tryz.prog w = .ok (a == ⟨#[104, 111, 115, 116]⟩ && b == ⟨#[103, 101, 116, 99]⟩) w := eq_names a b _ _ w
theorem eqP (a b : ByteArray) (w : World) : (Op.equal 157 (.agg #[.string a, .string b]) kP).run Tryz.prog w = .ok (a == ⟨#[104, 111, 115, 116]⟩ && b == ⟨#[112, 117, 116, 99]⟩) w := eq_names a b _ _ w
/-- What is looked up. -/
def lookV (a b : ByteArray) : Value × Bool :=
  if a = strHost ∧ b = strGet then (vG, true) else if a = strHost ∧ b = strPut then (vP, true) else (.agg #[.int .i64 0, .int .i64 0, .int .i64 0], false)
theorem zeroHost (w : World) : (zeroValue 155).run Tryz.prog w = .ok (.agg #[.int .i64 0, .int .i64 0, .int .i64 0]) w := by rw [Tryz.zeroValue155]
theorem beq_dec (a s : ByteArray) : (a == s) = decide (a = s) := by
  cases h : a == s
  · exact (decide_eq_false (fun e => by rw [(MapKept.bytes_beq a s).2 e] at h; cases h)).symm
  · exact (decide_eq_true ((MapKept.bytes_beq a s).1 h)).symm
theorem getPut : strGet ≠ strPut := by decide
theorem look_any {w : World} {g : Nat} (h : HostAt w g) (a b : ByteArray) : (Instr.lookup 152 (.map (some g)) (.agg #[.string a, .string b]) true).run Tryz.prog w = .ok (.tuple #[(lookV a b).1, .bool (lookV a b).2]) w := by
  have u := run_underlying (P := Tryz.prog) Tryz.underlying152
  have f1 := fun es => find_names (.agg #[.string a, .string b]) es w
  have g1 := fun em => guard_names em a b w
  have e1 := eqG a b w
  have e2 := eqP a b w
  have z := zeroHost w
  obtain ⟨b1, b2, ck, h⟩ := h
  have hG : (a == (⟨#[104, 111, 115, 116]⟩ : ByteArray) && b == ⟨#[103, 101, 116, 99]⟩) = decide (a = strHost ∧ b = strGet) := by
    rw [Bool.decide_and, ← beq_dec, ← beq_dec]; rfl
  have hP : (a == (⟨#[104, 111, 115, 116]⟩ : ByteArray) && b == ⟨#[112, 117, 116, 99]⟩) = decide (a = strHost ∧ b = strPut) := by
    rw [Bool.decide_and, ← beq_dec, ← beq_dec]; rfl
  rw [hG] at e1
  rw [hP] at e2
  unfold lookV
  rcases h with h | h
  all_goals
    have go := MapKept.run_getObj_map (P := Tryz.prog) h
    by_cases c1 : a = strHost ∧ b = strGet
    · have c2 : ¬ (a = strHost ∧ b = strPut) := fun c => getPut (c1.2.symm.trans c.2)
      rw [if_pos c1]
      rw [decide_eq_true c1] at e1
      rw [decide_eq_false c2] at e2
      simp [Instr.lookup, u, go, g1, f1, Instr.findAsking, e1, e2]
    · rw [if_neg c1]
      rw [decide_eq_false c1] at e1
      by_cases c2 : a = strHost ∧ b = strPut
      · rw [if_pos c2]
        rw [decide_eq_true c2] at e2
        simp [Instr.lookup, u, go, g1, f1, Instr.findAsking, e1, e2]
      · rw [if_neg c2]
        rw [decide_eq_false c2] at e2
        simp [Instr.lookup, u, go, g1, f1, Instr.findAsking, e1, e2, z]
theorem set_new (W : World) (o o' : Obj) : { W.alloc o with heap := (W.alloc o).heap.setIfInBounds W.heap.size o' } = W.alloc o' := by
  have e : (W.heap.push o).setIfInBounds W.heap.size o' = W.heap.push o' := by
    apply Array.ext'
    rw [Array.toList_setIfInBounds, Array.toList_push, Array.toList_push, List.set_append_right _ _ (by simp)]
    simp
  show ({ (W.alloc o) with heap := (W.heap.push o).setIfInBounds W.heap.size o' } : World) = W.alloc o'
  rw [e]; rfl
/-- An entry more. -/
theorem put_names (W : World) (a b : ByteArray) (v : Value) (es : Array MapEntry) (ck : Nat) (hf : (Instr.findAsking 157 (.agg #[.string a, .string b]) es.toList).run Tryz.prog (W.alloc (.map es ck)) = .ok none (W.alloc (.map es ck))) :
    (Instr.mapUpdate 152 (.map (some W.heap.size)) (.agg #[.string a, .string b]) v).run Tryz.prog (W.alloc (.map es ck)) = .ok () (W.alloc (.map (es.push ⟨.agg #[.string a, .string b], v, ck⟩) (ck + 1))) := by
  have u := run_underlying (P := Tryz.prog) Tryz.underlying152
  have hb : (W.alloc (.map es ck)).heap[W.heap.size]? = some (.map es ck) := (MapKept.heap_alloc W _).1
  have f1 := find_names (.agg #[.string a, .string b]) es.toList (W.alloc (.map es ck))
  have g1 := guard_names false a b (W.alloc (.map es ck))
  simp [Instr.mapUpdate, u, MapKept.run_getObj_map hb, g1, f1, hf, MapKept.run_setObj_map _ hb, Result.andThen]
  exact set_new W _ _
theorem put_drew (W : World) (a b : ByteArray) (v : Value) (es : Array MapEntry) (ck : Nat) (hf : ∀ W' : World, (Instr.findAsking 157 (.agg #[.string a, .string b]) es.toList).run Tryz.prog W' = .ok none W') :
    (Instr.mapUpdate 152 (.map (some W.heap.size)) (.agg #[.string a, .string b]) v).run Tryz.prog (W.alloc (.map es ck)).drew = .ok () (W.alloc (.map (es.push ⟨.agg #[.string a, .string b], v, ck⟩) (ck + 1))).drew := put_names W.drew a b v es ck (hf _)
set_option maxRecDepth 100000 in
theorem hostFunctions_any (w : World) : Calls Tryz.prog 84 #[] w fun e w' => e = .returned (.map (some w.heap.size)) ∧ HostAt w' w.heap.size ∧ Below w.heap.size w w' := by
  have hmm := @run_makeMap Tryz.prog
  have e1 := eqG ⟨#[104, 111, 115, 116]⟩ ⟨#[112, 117, 116, 99]⟩
  have e2 := eqP ⟨#[104, 111, 115, 116]⟩ ⟨#[103, 101, 116, 99]⟩
  have hA := put_drew w ⟨#[104, 111, 115, 116]⟩ ⟨#[103, 101, 116, 99]⟩ vG #[] 0 (by simp [Instr.findAsking])
  have hB := put_drew w ⟨#[104, 111, 115, 116]⟩ ⟨#[112, 117, 116, 99]⟩ vP #[] 0 (by simp [Instr.findAsking])
  have hAB := put_drew w ⟨#[104, 111, 115, 116]⟩ ⟨#[112, 117, 116, 99]⟩ vP #[⟨kG, vG, 0⟩] 1 (by simp [Instr.findAsking, e1]; decide)
  have hBA := put_drew w ⟨#[104, 111, 115, 116]⟩ ⟨#[103, 101, 116, 99]⟩ vG #[⟨kP, vP, 0⟩] 1 (by simp [Instr.findAsking, e2]; decide)
  have hAH := hid (show HostAt (w.alloc (.map #[⟨kG, vG, 0⟩, ⟨kP, vP, 1⟩] 2)).drew w.heap.size from ⟨0, 1, 2, .inl (MapKept.heap_alloc w.drew _).1⟩)
  have hBH := hid (show HostAt (w.alloc (.map #[⟨kP, vP, 0⟩, ⟨kG, vG, 1⟩] 2)).drew w.heap.size from ⟨0, 1, 2, .inr (MapKept.heap_alloc w.drew _).1⟩)
  simp only [List.push_toArray, List.nil_append, List.cons_append, vG, vP, kG, kP] at hA hB hAB hBA hAH hBH
  clear e1 e2
  go_enter Tryz.func84, Tryz.ntmps84
  go_upto_region 1 with fail
  go_region
  all_goals go_wp2
  all_goals go_ret
  all_goals first | exact ⟨rfl, hAH.out, (thenA (Below.refl _ _) _).drew⟩ | exact ⟨rfl, hBH.out, (thenA (Below.refl _ _) _).drew⟩
end Go.Proofs.YtckdnhafookcgaaGreatDoor.Pl

namespace Go.Proofs.YtckdnhafookcgaaGreatDoor.Pl
open Go.RowKit Go.Shelf Go.Proofs.YtckdnhafookcgaaGreatDoor.Instr Go.Proofs.YtckdnhafookcgaaGreatDoor.Mod Go.Proofs.YtckdnhafookcgaaGreatDoor.Val
open Go.Proofs.YtckdnhafookcgaaGreatDoor.Kind (eqType guardType)
set_option linter.unusedVariables false

theorem HostAt.save {w w' : World} {g k : Nat} (h : HostAt w g) (hs : Save k w w') (hk : g ≠ k) : HostAt w' g := by
  obtain ⟨b1, b2, ck, h⟩ := h
  rcases h with h | h
  · exact ⟨b1, b2, ck, .inl ((hs.block g (Array.getElem?_eq_some_iff.1 h).1 hk).trans h)⟩
  · exact ⟨b1, b2, ck, .inr ((hs.block g (Array.getElem?_eq_some_iff.1 h).1 hk).trans h)⟩
theorem HostAt.lt {w : World} {g : Nat} (h : HostAt w g) : g < w.heap.size := by
  obtain ⟨b1, b2, ck, h⟩ := h
  rcases h with h | h <;> exact (Array.getElem?_eq_some_iff.1 h).1
theorem hostsL_len (m : Md) : (hostsL m).length = m.im.length := by simp [hostsL]
theorem hostsL_at {m : Md} {k : Nat} (hk : k < m.im.length) : (hostsL m).getD k 0 = hostI m k := by simp [hostsL, hk]
theorem lookV_cases (mo na : ByteArray) : ∃ num p r is, lookV mo na = (.agg #[.int .i64 num, .int .i64 p, .int .i64 r], is) ∧ ((is = false ∧ ∀ t, hostP mo na t = 0) ∨ (is = true ∧ num ≠ 0 ∧ ∀ t, hostP mo na t = if t = (p, r) then num else 0)) := by
  unfold lookV hostP
  by_cases h1 : mo = strHost ∧ na = strGet
  · exact ⟨1, 0, 1, true, by rw [if_pos h1]; rfl, .inr ⟨rfl, by decide, fun t => by rw [if_pos h1]⟩⟩
  · by_cases h2 : mo = strHost ∧ na = strPut
    · exact ⟨2, 1, 0, true, by rw [if_neg h1, if_pos h2]; rfl, .inr ⟨rfl, by decide, fun t => by rw [if_neg h1, if_pos h2]⟩⟩
    · exact ⟨0, 0, 0, false, by rw [if_neg h1, if_neg h2], .inl ⟨rfl, fun t => by rw [if_neg h1, if_neg h2]⟩⟩
theorem box_sv {W W' : World} {k b : Nat} {v : Array Value} (h : BoxAt W b v) (hs : Save k W W') (hk : b ≠ k) : BoxAt W' b v := fun j x hj => hs.cell hk (h j x hj)
def HostsQ (m : Md) (w : World) (e : Ending) (w' : World) : Prop :=
  ((hostsOk m = true ∧ ∃ H, e = .returned (.tuple #[.slice (some ⟨H, 0, none⟩) m.im.length m.im.length, .bool true]) ∧ w.heap.size ≤ H ∧ Words .i64 3 w' H (hostsL m)) ∨ (hostsOk m = false ∧ e = .returned (.tuple #[.slice none 0 0, .bool false]))) ∧ Below w.heap.size w w'
set_option maxRecDepth 100000 in
set_option maxHeartbeats 4000000 in
theorem hostsOf_any (m : Md) (w : World) (hm : ModAt w.heap.size w m) (hf : m.few) :
    Calls Tryz.prog 43 #[.agg m.v] w (HostsQ m w) := by
  have hb0 := (Below.refl w.heap.size w).alloc (Nat.le_refl _) (.cells m.v 32)
  have HM := hid hm
  have HR := hid hm.im
  have HB := hid hb0
  have HX := hid (BoxAt.made w m.v 32)
  have hl := hf.lens.2.1
  have HFF := hid hf.fit
  have HOY := hid (fun h => hostsOk_yes (m := m) h)
  have HON := hid (fun k hk h => hostsOk_no (m := m) (k := k) hk h)
  have HLA := hid (fun k hk => hostsL_at (m := m) (k := k) hk)
  have HLN := hid (hostsL_len m)
  have CT := hid (fun (k : Nat) (W : World) hW hk => TypeOf_any m k W hW hf.fit hk)
  obtain ⟨n, hn⟩ : ∃ n, m.im.length = n := ⟨_, rfl⟩
  have HN := hid hn
  unfold HostsQ
  unfold Md.v at HX HB CT ⊢
  rw [hn] at hl HX HB HLN CT ⊢
  clear hm hf hb0 hn
  generalize m.im'.a = a at HR HB HX CT ⊢
  have q1 := eqType
  have q2 := guardType
  obtain ⟨W0, hW0⟩ : ∃ W0, W0 = w.alloc (.cells #[.slice m.ty'.a m.ty.length m.ty'.c, .slice a n m.im'.c, .slice m.fu'.a m.fu.length m.fu'.c, .slice m.tb'.a m.tb.length m.tb'.c, .slice m.me'.a m.me.length m.me'.c, .slice m.gl'.a m.gl.length m.gl'.c, .slice m.ex'.a m.ex.length m.ex'.c, .bool m.st, .int .u32 m.sn, .slice m.el'.a m.el.length m.el'.c, .slice m.da'.a m.da.length m.da'.c] 32) := ⟨_, rfl⟩
  rw [← hW0] at HX HB
  have HW0 := hid hW0
  clear hW0
  go_enter Tryz.func43, Tryz.ntmps43
  go_upto_region 1 with fail
  rw [← HW0.out]
  clear HW0
  go_wp2_with fail
  refine (hostFunctions_any W0).mono ?_
  rintro e wa ⟨rfl, hha, hba⟩
  obtain ⟨gm, hgm⟩ : ∃ gm, W0.heap.size = gm := ⟨_, rfl⟩
  rw [hgm] at hha ⊢
  obtain ⟨W1, hmk, hh1, hb1⟩ := make_zeros infoInt Tryz.underlying60 wa n (by omega) (by omega)
  have hmk1 := hmk n rfl
  have hb01 := hid (thenB HB.out (hba.trans (hb1.mono hba.size)))
  have HX1 := hid ((HX.out.keep hba).keep hb1)
  have x1 := (HX.out.keep hba) 1 _ rfl
  have y1 := ((HX.out.keep hba).keep hb1) 1 _ rfl
  have hgs := (Array.getElem?_eq_some_iff.1 hh1).1
  have HGS := hid hgs
  have HMP := hid (hha.below hb1)
  have HGM := hid (show gm ≠ wa.heap.size by have := hha.lt; omega)
  have HWG := hid (show w.heap.size < wa.heap.size by have := hha.lt; have := HB.out.size; have := World.block_lt_of_cell? W0 _ (HX.out 0 _ rfl); simp only at this; omega)
  obtain ⟨G, hG⟩ : ∃ G, wa.heap.size = G := ⟨_, rfl⟩
  rw [hG] at hmk1 hh1 HGS HGM HWG
  have HR0 := hid (show RowW .i64 3 (hostsL m) n W1 G 0 W1 from ⟨by rw [midRow_start]; exact hh1, Save.refl _ _⟩)
  clear hmk hh1 hb1 hba hha hgm hG HX HB hgs
  go_wp2
  clear hmk1 x1 y1
  go_loopw [20] (fun vi wr => ∃ k : Nat, vi = .int .i64 k ∧ k ≤ n ∧ Hid (RowW .i64 3 (hostsL m) n W1 G k wr) ∧ Hid (∀ j, j < k → hostI m j ≠ 0)) (fun vi _ => n - (intOf vi).toNat)
  case atStart => exact ⟨0, rfl, Nat.zero_le _, HR0, fun j hj => absurd hj (Nat.not_lt_zero _)⟩
  case round =>
    obtain ⟨k, rfl, hk, HRW, HJ⟩ := hrel
    by_cases hlt : k < n
    · have hkl : k < m.im.length := by rw [HN.out]; exact hlt
      obtain ⟨b, off, rfl, hb, hc⟩ := Rows.get HR.out hkl
      have hat : imAt m k = m.im[k] := by simp [imAt, hkl]
      obtain ⟨x, hxe⟩ : ∃ x, m.im[k] = x := ⟨_, rfl⟩
      rw [hxe] at hc hat
      have hbw : Below w.heap.size w wr := hb01.out.trans (HRW.out.sv.below (by have := hb01.out.size; omega) (Nat.le_of_lt HWG.out))
      have cc : ∀ j, j < 3 → ∀ v, x.v[j]? = some v → wr.cell? ⟨b, off + k * 3 + j, none⟩ = some v := fun j hj v hv => (hbw.cell (p := ⟨b, off + k * 3 + j, none⟩) hb).trans (hc j hj v hv)
      have c0 : wr.cell? ⟨b, off + k * 3, none⟩ = some (.string x.mo) := cc 0 (by omega) _ rfl
      have c1 : wr.cell? ⟨b, off + k * 3 + 1, none⟩ = some (.string x.na) := cc 1 (by omega) _ rfl
      have c2 : wr.cell? ⟨b, off + k * 3 + 2, none⟩ = some (.int .i64 x.ty) := cc 2 (by omega) _ rfl
      have hki : (k : Int) < (n : Int) := by omega
      have hku : IntKind.u32.wrap (k : Int) = (k : Int) := by rw [IntKind.wrap_u32]; omega
      obtain ⟨num, p, r, is, hlv, hcase⟩ := lookV_cases x.mo x.na
      have HCS := hid hcase
      have hl1 := look_any ((HMP.out.save HRW.out.sv HGM.out).below (belowAlloc wr (.cells #[.string x.mo, .string x.na, .int .i64 x.ty] 90))) x.mo x.na
      rw [hlv] at hl1
      simp only at hl1
      obtain ⟨n0, n1, n2, n3, n4, n5, n6, n7, n8, n9, n10⟩ := BoxAt.mod (((box_sv HX1.out HRW.out.sv (by have := HWG.out; omega)).keep (belowAlloc wr (.cells #[.string x.mo, .string x.na, .int .i64 x.ty] 90))).keep (belowAlloc _ (.cells #[.int .i64 num, .int .i64 p, .int .i64 r] 155)))
      have hbw2 : Below w.heap.size w ((wr.alloc (.cells #[.string x.mo, .string x.na, .int .i64 x.ty] 90)).alloc (.cells #[.int .i64 num, .int .i64 p, .int .i64 r] 155)) := thenA (thenA hbw _) _
      have CC := hid (CT.out k ((wr.alloc (.cells #[.string x.mo, .string x.na, .int .i64 x.ty] 90)).alloc (.cells #[.int .i64 num, .int .i64 p, .int .i64 r] 155)) ((HM.out.below hbw2).more hbw2.size) (by omega))
      have hbx := BoxAt.made (wr.alloc (.cells #[.string x.mo, .string x.na, .int .i64 x.ty] 90)) #[.int .i64 num, .int .i64 p, .int .i64 r] 155
      rw [World.size_alloc] at hbx
      have HBX := hid hbx
      have HRA := hid ((HRW.out.below (belowAlloc wr (.cells #[.string x.mo, .string x.na, .int .i64 x.ty] 90))).below (belowAlloc _ (.cells #[.int .i64 num, .int .i64 p, .int .i64 r] 155)))
      have HBW2 := hid hbw2
      have hhi : hostI m k = hostP x.mo x.na (m.typeOf k).1 := by unfold hostI; rw [hat]
      have hlv2 := HLA.out k hkl
      obtain ⟨⟨⟨tp, tr⟩, ti⟩, hq⟩ : ∃ q, m.typeOf k = q := ⟨_, rfl⟩
      rw [hq] at CC hhi
      simp only at CC hhi
      have HHI := hid hhi
      have HLV := hid hlv2
      clear hxe hc cc hb hat hbw hbw2 hq hlv hcase hbx hhi hlv2 HRW
      go_wp2_with fail
      refine CC.out.mono ?_
      rintro e wt ⟨rfl, hbt⟩
      have HRC := hid ((HRA.out.below hbt).below (belowAlloc wt (.cells #[.int .i64 tp, .int .i64 tr] 92)))
      obtain ⟨⟨v0, g0⟩, g1⟩ := HRC.out.cell HLN.out hlt
      have e0 := ((HBX.out.keep hbt).keep (belowAlloc wt (.cells #[.int .i64 tp, .int .i64 tr] 92))) 0 _ rfl
      have e1 := ((HBX.out.keep hbt).keep (belowAlloc wt (.cells #[.int .i64 tp, .int .i64 tr] 92))) 1 _ rfl
      have e2 := ((HBX.out.keep hbt).keep (belowAlloc wt (.cells #[.int .i64 tp, .int .i64 tr] 92))) 2 _ rfl
      have HBT := hid (thenB HBW2.out hbt)
      clear CC hl1 hbt c0 c1 c2 n0 n1 n2 n3 n4 n5 n6 n7 n8 n9 n10
      rcases HCS.out with ⟨rfl, hz⟩ | ⟨rfl, hnz, hz⟩
      · have HNO := hid (HON.out k hkl (by rw [HHI.out]; exact hz _))
        have HBF := hid (thenA HBT.out (.cells #[.int .i64 tp, .int .i64 tr] 92))
        clear hz
        go_wp2
        go_ret2
        exact ⟨.inr ⟨HNO.out, rfl⟩, HBF.out⟩
      · by_cases ht : (tp, tr) = (p, r)
        · have hv : hostI m k = num := by rw [HHI.out, hz, if_pos ht]
          simp only [Prod.mk.injEq] at ht
          obtain ⟨rfl, rfl⟩ := ht
          have HRN := hid (HRC.out.set HLN.out hlt (v := num) (by rw [HLV.out, hv]))
          have HJ2 := hid (show ∀ j, j < k + 1 → hostI m j ≠ 0 from fun j hj => by
            rcases Nat.lt_or_ge j k with h | h
            · exact HJ.out j h
            · obtain rfl : j = k := by omega
              rw [hv]; exact hnz)
          clear hz hnz hv
          go_wp2
          go_roundw
          case rel => exact ⟨k + 1, by go_num, by omega, HRN, HJ2⟩
          case measure => simp [intOf]; omega
        · have hv : hostI m k = 0 := by rw [HHI.out, hz, if_neg ht]
          have HNO := hid (HON.out k hkl hv)
          have hne : (tp == p && tr == r) = false := by
            cases h : (tp == p && tr == r)
            · rfl
            · simp only [Bool.and_eq_true, beq_iff_eq] at h
              exact absurd (by rw [h.1, h.2]) ht
          have HBF := hid (thenA HBT.out (.cells #[.int .i64 tp, .int .i64 tr] 92))
          clear hz hnz hv ht
          go_wp2
          go_ret2
          exact ⟨.inr ⟨HNO.out, rfl⟩, HBF.out⟩
    · obtain rfl : k = n := by omega
      have HOK := hid (HOY.out (fun j hj => HJ.out j (by rw [HN.out] at hj; exact hj)))
      have HE := hid (show Words .i64 3 wr G (hostsL m) by have := HRW.out.row; rw [midRow_full HLN.out] at this; exact this)
      have HF := hid (hb01.out.trans (HRW.out.sv.below (by have := hb01.out.size; omega) (Nat.le_of_lt HWG.out)))
      go_wp2
      go_ret2
      exact ⟨.inl ⟨HOK.out, G, rfl, Nat.le_of_lt HWG.out, HE.out⟩, HF.out⟩
end Go.Proofs.YtckdnhafookcgaaGreatDoor.Pl
