/-
  MODULE: a module without one of its items: it may be, if the whole may be; it lies where the whole lies.
-/
import Derived.Test.YtlfflomeaplidaaDoorModHeap
namespace Go.Proofs.YtlfflomeaplidaaDoor.Mod
open Go.RowKit Go.Proofs.YtlfflomeaplidaaDoor.Instr

/-- What slices reach is no less than what they hold. -/
structure Md.caps (m : Md) : Prop where
  ty : m.ty.length ≤ m.ty'.c
  im : m.im.length ≤ m.im'.c
  fu : m.fu.length ≤ m.fu'.c
  gl : m.gl.length ≤ m.gl'.c
  ex : m.ex.length ≤ m.ex'.c
  el : m.el.length ≤ m.el'.c
  da : m.da.length ≤ m.da'.c
def Md.less (m : Md) (i : Nat) : Md :=
  if i = 0 then { m with ty := m.ty.dropLast }
  else if i = 1 then { m with im := m.im.dropLast }
  else if i = 2 then { m with fu := m.fu.dropLast }
  else if i = 3 then { m with tb := [], tb' := ⟨none, 0⟩, me := [], me' := ⟨none, 0⟩ }
  else if i = 4 then { m with gl := m.gl.dropLast }
  else if i = 5 then { m with ex := m.ex.dropLast }
  else if i = 6 then { m with el := m.el.dropLast }
  else if i = 7 then { m with da := m.da.dropLast }
  else if i = 8 then { m with st := false, sn := 0 }
  else m
/-- One has no more than the other. -/
structure Sub (m' m : Md) : Prop where
  ty : m'.ty <+: m.ty
  im : m'.im <+: m.im
  fu : m'.fu <+: m.fu
  tb : m'.tb <+: m.tb
  me : m'.me <+: m.me
  gl : m'.gl <+: m.gl
  ex : m'.ex <+: m.ex
  el : m'.el <+: m.el
  da : m'.da <+: m.da
  st : (m'.st = m.st ∧ m'.sn = m.sn) ∨ m'.sn = 0
theorem less_sub (m : Md) (i : Nat) : Sub (m.less i) m := by
  have d : ∀ {α : Type} (l : List α), l.dropLast <+: l := fun l => List.dropLast_prefix l
  have r : ∀ {α : Type} (l : List α), l <+: l := fun l => List.prefix_refl l
  unfold Md.less
  (repeat' split) <;> (constructor <;> first | exact d _ | exact r _ | exact List.nil_prefix | exact .inl ⟨rfl, rfl⟩ | exact .inr rfl)
theorem codes_mem {m' m : Md} (h : Sub m' m) : ∀ l ∈ m'.codes, l ∈ m.codes := by
  intro l hl
  unfold Md.codes at hl ⊢
  simp only [List.mem_append, List.mem_map] at hl ⊢
  rcases hl with ⟨x, hx, rfl⟩ | ⟨x, hx, rfl⟩ | ⟨x, hx, rfl⟩ | ⟨x, hx, rfl⟩
  · exact .inl ⟨x, h.fu.subset hx, rfl⟩
  · exact .inr (.inl ⟨x, h.gl.subset hx, rfl⟩)
  · exact .inr (.inr (.inl ⟨x, h.el.subset hx, rfl⟩))
  · exact .inr (.inr (.inr ⟨x, h.da.subset hx, rfl⟩))
theorem any_sub {α : Type} {l' l : List α} (h : l' <+: l) (p : α → Bool) (hf : l.any p = false) : l'.any p = false := by
  rw [List.any_eq_false] at hf ⊢
  exact fun x hx => hf x (h.subset hx)
theorem check_zero (m : Md) : m.check = 0 ↔ m.crowded = false ∧ (∀ y ∈ m.codes, checkP y.t = 0) ∧ m.anyName longS = false ∧ m.heavy = false ∧ m.wrong = false := by
  rw [← codeP_zero]
  unfold Md.check
  have hc := codeP_cases m.codes
  constructor
  · intro h
    split at h
    · cases h
    split at h
    · cases h
    split at h
    · cases h
    split at h
    · cases h
    split at h
    · cases h
    split at h
    · cases h
    rename_i h1 h2 h3 h4 h5 h6
    exact ⟨by simpa using h1, by omega, by simpa using h3, by simpa using h4, by simpa using h6⟩
  · rintro ⟨h1, h2, h3, h4, h5⟩
    rw [h1, h2, h3, h4, h5]
    rfl
theorem sumB_sub {l' l : List Da} (h : l' <+: l) : sumB l' ≤ sumB l := by
  obtain ⟨r, rfl⟩ := h
  rw [sumB_append]; omega
theorem check_sub {m' m : Md} (h : Sub m' m) (hc : m.check = 0) : m'.check = 0 := by
  rw [check_zero] at hc ⊢
  obtain ⟨h1, h2, h3, h4, h5⟩ := hc
  refine ⟨?_, fun y hy => h2 y (codes_mem h y hy), ?_, ?_, ?_⟩
  · unfold Md.crowded at h1 ⊢
    simp only [Bool.or_eq_false_iff, decide_eq_false_iff_not] at h1 ⊢
    obtain ⟨⟨⟨⟨⟨⟨⟨⟨⟨a1, a2⟩, a3⟩, a4⟩, a5⟩, a6⟩, a7⟩, a8⟩, a9⟩, a10⟩ := h1
    have := h.ty.length_le; have := h.im.length_le; have := h.fu.length_le; have := h.gl.length_le; have := h.ex.length_le; have := h.el.length_le; have := h.da.length_le; have := h.tb.length_le; have := h.me.length_le
    exact ⟨⟨⟨⟨⟨⟨⟨⟨⟨by omega, by omega⟩, by omega⟩, by omega⟩, by omega⟩, by omega⟩, by omega⟩, any_sub h.el _ a8⟩, by omega⟩, by omega⟩
  · unfold Md.anyName at h3 ⊢
    simp only [Bool.or_eq_false_iff] at h3 ⊢
    exact ⟨any_sub h.im _ h3.1, any_sub h.ex _ h3.2⟩
  · unfold Md.heavy at h4 ⊢
    simp only [decide_eq_false_iff_not] at h4 ⊢
    have := sumB_sub h.da
    omega
  · unfold Md.wrong Md.anyName at h5 ⊢
    simp only [Bool.or_eq_false_iff] at h5 ⊢
    obtain ⟨⟨⟨⟨⟨⟨⟨⟨a1, a1'⟩, a2⟩, a3⟩, a4⟩, a5⟩, a6⟩, a7⟩, a8⟩ := h5
    refine ⟨⟨⟨⟨⟨⟨⟨⟨any_sub h.im _ a1, any_sub h.ex _ a1'⟩, any_sub h.ty _ a2⟩, any_sub h.im _ a3⟩, any_sub h.fu _ a4⟩, any_sub h.ex _ a5⟩, any_sub h.tb _ a6⟩, any_sub h.me _ a7⟩, ?_⟩
    rcases h.st with ⟨e1, e2⟩ | e
    · rw [e1, e2]; exact a8
    · rw [e]; simp
theorem few_sub {m' m : Md} (h : Sub m' m) (hf : m.few) : m'.few := by
  have := h.ty.length_le; have := h.im.length_le; have := h.fu.length_le; have := h.gl.length_le; have := h.ex.length_le; have := h.el.length_le; have := h.da.length_le; have := h.tb.length_le; have := h.me.length_le
  have := hf.fit.ty; have := hf.fit.im; have := hf.fit.fu; have := hf.fit.gl; have := hf.fit.ex; have := hf.fit.el; have := hf.fit.da; have := hf.fit.tb; have := hf.fit.me
  have := hf.lens
  exact ⟨⟨by omega, by omega, by omega, by omega, by omega, by omega, by omega, by omega, by omega, fun l hl => hf.fit.ls l (codes_mem h l hl), fun e he => hf.fit.fs e (h.el.subset he), fun e he => hf.fit.bs e (h.da.subset he), fun e he => hf.fit.iS e (h.im.subset he), fun e he => hf.fit.eS e (h.ex.subset he)⟩,
    fun l hl => hf.cs l (codes_mem h l hl), by omega⟩
theorem Rows.sub {α : Type} {f : α → List Value} {l' l : List α} {n₀ sz : Nat} {w : World} {a : Option Addr} (h : Rows n₀ w a sz (l.map f)) (hp : l' <+: l) : Rows n₀ w a sz (l'.map f) := by
  obtain ⟨r, rfl⟩ := hp
  rcases h with h | ⟨b, off, ha, hl, hc⟩
  · left
    rw [List.map_eq_nil_iff, List.append_eq_nil_iff] at h
    rw [h.1]; rfl
  · refine .inr ⟨b, off, ha, hl, fun i hi j hj v hv => hc i (by simp at hi ⊢; omega) j hj v ?_⟩
    simp only [List.length_map] at hi
    rw [List.getD_eq_getElem?_getD, List.getElem?_map] at hv ⊢
    rw [List.getElem?_append_left hi]
    exact hv
/-- The lists lie where they lay, or are empty. -/
structure Lies (m' m : Md) : Prop where
  ty : m'.ty' = m.ty' ∨ m'.ty = []
  im : m'.im' = m.im' ∨ m'.im = []
  fu : m'.fu' = m.fu' ∨ m'.fu = []
  tb : m'.tb' = m.tb' ∨ m'.tb = []
  me : m'.me' = m.me' ∨ m'.me = []
  gl : m'.gl' = m.gl' ∨ m'.gl = []
  ex : m'.ex' = m.ex' ∨ m'.ex = []
  el : m'.el' = m.el' ∨ m'.el = []
  da : m'.da' = m.da' ∨ m'.da = []
theorem less_lies (m : Md) (i : Nat) : Lies (m.less i) m := by
  unfold Md.less
  (repeat' split) <;> (constructor <;> first | exact .inl rfl | exact .inr rfl)
theorem Rows.lie {α : Type} {f : α → List Value} {l' l : List α} {n₀ sz : Nat} {w : World} {s s' : Sl} (h : Rows n₀ w s.a sz (l.map f)) (hp : l' <+: l) (hs : s' = s ∨ l' = []) : Rows n₀ w s'.a sz (l'.map f) := by
  rcases hs with rfl | rfl
  · exact h.sub hp
  · exact .inl rfl
theorem at_sub {n₀ : Nat} {w : World} {m' m : Md} (h : Sub m' m) (hl : Lies m' m) (hm : ModAt n₀ w m) : ModAt n₀ w m' :=
  ⟨hm.ty.lie h.ty hl.ty, hm.im.lie h.im hl.im, hm.fu.lie h.fu hl.fu, hm.tb.lie h.tb hl.tb, hm.me.lie h.me hl.me, hm.gl.lie h.gl hl.gl, hm.ex.lie h.ex hl.ex, hm.el.lie h.el hl.el, hm.da.lie h.da hl.da,
    fun l hx => hm.ls l (codes_mem h l hx), fun e he => hm.fs e (h.el.subset he), fun d hd => hm.bs d (h.da.subset hd)⟩
end Go.Proofs.YtlfflomeaplidaaDoor.Mod
