import Derived.Test.YtiadgkdkjinnjaaGreatDoorBun12
import Derived.Test.YtiadgkdkjinnjaaGreatDoorBun13
/-
  ENCODE: what is known of a module that may be; the writer in memory.
-/
namespace Go.Proofs.YtiadgkdkjinnjaaGreatDoor.Enc
open Go.RowKit Go.Proofs.YtiadgkdkjinnjaaGreatDoor.Leb Go.Proofs.YtiadgkdkjinnjaaGreatDoor.Instr Go.Proofs.YtiadgkdkjinnjaaGreatDoor.Mod
open Go.Proofs.YtiadgkdkjinnjaaGreatDoor.Body (encL codeL)

/-- Numbers as large as their types let them be. -/
structure Sized (m : Md) : Prop where
  n0 : ∀ l ∈ m.tb ++ m.me, 0 ≤ l.n
  ei : ∀ e ∈ m.ex, 0 ≤ e.i ∧ e.i < 4294967296
  ef : ∀ e ∈ m.el, ∀ z ∈ e.fs, 0 ≤ z ∧ z < 4294967296
  db : ∀ d ∈ m.da, ∀ z ∈ d.bs, 0 ≤ z ∧ z < 256
  sn : 0 ≤ m.sn ∧ m.sn < 4294967296
/-- A module that may be, in memory. -/
structure Fine (w0 : World) (m : Md) : Prop where
  at_ : ModAt w0.heap.size w0 m
  few : m.few
  nam : Nams w0
  tab : Utf.Tabs w0
  chk : m.check = 0
  enc : ∀ l ∈ m.codes, (encL l.t).length ≤ 90000
  siz : Sized m
theorem check_zero {m : Md} (h : m.check = 0) : m.crowded = false ∧ codeP m.codes = 0 ∧ m.anyName longS = false ∧ m.heavy = false ∧ m.wrong = false := by
  unfold Md.check at h
  cases h1 : m.crowded
  · rw [h1] at h
    simp only [Bool.false_eq_true, if_false] at h
    by_cases h2 : codeP m.codes = 141
    · rw [if_pos h2] at h; simp at h
    · rw [if_neg h2] at h
      cases h3 : m.anyName longS
      · rw [h3] at h
        simp only [Bool.false_eq_true, if_false] at h
        cases h4 : m.heavy
        · rw [h4] at h
          simp only [Bool.false_eq_true, if_false] at h
          by_cases h5 : codeP m.codes = 2
          · rw [if_pos h5] at h; simp at h
          · rw [if_neg h5] at h
            cases h6 : m.wrong
            · exact ⟨rfl, by have := codeP_cases m.codes; omega, rfl, rfl, rfl⟩
            · rw [h6] at h; simp at h
        · rw [h4] at h; simp at h
      · rw [h3] at h; simp at h
  · rw [h1] at h; simp at h
theorem wrong_parts {m : Md} (h : m.wrong = false) : m.anyName noText = false ∧ m.ty.any wrongT = false ∧ m.im.any wrongI = false ∧ m.fu.any wrongF = false ∧ m.ex.any wrongE = false ∧ m.tb.any (beyond 1048576) = false ∧ m.me.any (beyond 65536) = false ∧ (m.st = false → m.sn = 0) := by
  unfold Md.wrong at h
  simp only [Bool.or_eq_false_iff] at h
  obtain ⟨⟨⟨⟨⟨⟨⟨h1, h2⟩, h3⟩, h4⟩, h5⟩, h6⟩, h7⟩, h8⟩ := h
  refine ⟨h1, h2, h3, h4, h5, h6, h7, fun hs => ?_⟩
  rw [hs] at h8
  simpa using h8
theorem any_not {α : Type} {p : α → Bool} {l : List α} (h : l.any p = false) {x : α} (hx : x ∈ l) : p x = false := by
  rw [List.any_eq_false] at h
  simpa using h x hx
structure Fine.Facts (m : Md) : Prop where
  ty : ∀ x ∈ m.ty, Kind.okType x.1 x.2 = true
  im : ∀ x ∈ m.im, x.mo.size ≤ 1000 ∧ x.na.size ≤ 1000 ∧ noText x.mo = false ∧ noText x.na = false ∧ 0 ≤ x.ty ∧ x.ty ≤ 2147483647
  fu : ∀ x ∈ m.fu, 0 ≤ x.ty ∧ x.ty ≤ 2147483647 ∧ 0 ≤ x.lo ∧ x.lo ≤ 50000
  tb : ∀ x ∈ m.tb, Kind.okLim x.n x.x x.c 1048576 = true
  me : ∀ x ∈ m.me, Kind.okLim x.n x.x x.c 65536 = true
  ex : ∀ x ∈ m.ex, x.na.size ≤ 1000 ∧ noText x.na = false ∧ 0 ≤ x.k ∧ x.k ≤ 3
  el : ∀ x ∈ m.el, x.fs.length ≤ 16384
  da : sumB m.da ≤ 1048576
  ck : ∀ l ∈ m.codes, checkP l.t = 0
  lens : m.ty.length ≤ 16384 ∧ m.im.length ≤ 16384 ∧ m.fu.length ≤ 16384 ∧ m.tb.length ≤ 1 ∧ m.me.length ≤ 1 ∧ m.gl.length ≤ 16384 ∧ m.ex.length ≤ 16384 ∧ m.el.length ≤ 16384 ∧ m.da.length ≤ 16384
  st : m.st = false → m.sn = 0
theorem facts_of {m : Md} (h : m.check = 0) : Fine.Facts m := by
  obtain ⟨h1, h2, h3, h4, h5⟩ := check_zero h
  obtain ⟨k1, k2, k3, k4, k5, k6, k7, k8⟩ := wrong_parts h5
  have e3 := h3
  have e1 := k1
  unfold Md.anyName at e3 e1
  simp only [Bool.or_eq_false_iff] at e3 e1
  have hc := h1
  unfold Md.crowded at hc
  simp only [Bool.or_eq_false_iff, decide_eq_false_iff_not] at hc
  obtain ⟨⟨⟨⟨⟨⟨⟨⟨⟨c1, c2⟩, c3⟩, c4⟩, c5⟩, c6⟩, c7⟩, c8⟩, c9⟩, c10⟩ := hc
  refine ⟨fun x hx => ?_, fun x hx => ?_, fun x hx => ?_, fun x hx => ?_, fun x hx => ?_, fun x hx => ?_, fun x hx => ?_, ?_, (codeP_zero _).1 h2, ⟨by omega, by omega, by omega, by omega, by omega, by omega, by omega, by omega, by omega⟩, k8⟩
  · have := any_not k2 hx
    unfold wrongT at this
    simpa using this
  · have a1 := any_not e3.1 hx
    have a2 := any_not e1.1 hx
    have a3 := any_not k3 hx
    simp only [Bool.or_eq_false_iff] at a1 a2
    unfold wrongI wrongN at a3
    unfold longS at a1
    simp only [Bool.or_eq_false_iff, decide_eq_false_iff_not] at a1 a3
    exact ⟨by omega, by omega, a2.1, a2.2, by omega, by omega⟩
  · have a3 := any_not k4 hx
    unfold wrongF wrongN at a3
    simp only [Bool.or_eq_false_iff, decide_eq_false_iff_not] at a3
    exact ⟨by omega, by omega, by omega, by omega⟩
  · have := any_not k6 hx
    unfold beyond at this
    simpa using this
  · have := any_not k7 hx
    unfold beyond at this
    simpa using this
  · have a1 := any_not e3.2 hx
    have a2 := any_not e1.2 hx
    have a3 := any_not k5 hx
    unfold wrongE at a3
    unfold longS at a1
    simp only [Bool.or_eq_false_iff, decide_eq_false_iff_not] at a1 a3
    exact ⟨by omega, a2, by omega, by omega⟩
  · have := any_not c8 hx
    simpa using this
  · unfold Md.heavy at h4
    have := of_decide_eq_false h4
    omega
theorem bytes_few {l : List Da} {d : Da} (h : d ∈ l) : d.bs.length ≤ sumB l := by
  induction l with
  | nil => cases h
  | cons x r ih =>
    rcases List.mem_cons.1 h with rfl | h
    · simp [sumB]
    · have := ih h
      simp only [sumB]; omega
theorem okLim_le {n x most : Int} {c : Bool} (h : Kind.okLim n x c most = true) (h0 : 0 ≤ n) (hm : most ≤ 4294967295) : (0 ≤ n ∧ n ≤ 4294967295) ∧ (0 ≤ x ∧ x ≤ 4294967295) := by
  unfold Kind.okLim at h
  cases c
  · simp at h; omega
  · simp at h; omega
/-- The writer in block g: its buffer, the module, how much is of use. -/
structure Wr (w0 : World) (m : Md) (g B : Nat) (most : Int) (v : Value) (zs : List Int) (W : World) : Prop where
  buf : Buf g B v W v zs W
  low : Below w0.heap.size w0 W
  hg : w0.heap.size < g
  box : ∀ j x, m.v[j]? = some x → W.cell? ⟨g, 1 + j, none⟩ = some x
  most : W.cell? ⟨g, 12, none⟩ = some (.int .i64 most)
theorem mem_fu {m : Md} {x : Mod.Fn} (h : x ∈ m.fu) : x.l ∈ m.codes := by unfold Md.codes; exact List.mem_append_left _ (List.mem_map.2 ⟨_, h, rfl⟩)
theorem mem_gl {m : Md} {x : Gl} (h : x ∈ m.gl) : x.l ∈ m.codes := by unfold Md.codes; exact List.mem_append_right _ (List.mem_append_left _ (List.mem_map.2 ⟨_, h, rfl⟩))
theorem mem_el {m : Md} {x : El} (h : x ∈ m.el) : x.l ∈ m.codes := by unfold Md.codes; exact List.mem_append_right _ (List.mem_append_right _ (List.mem_append_left _ (List.mem_map.2 ⟨_, h, rfl⟩)))
theorem mem_da {m : Md} {x : Da} (h : x ∈ m.da) : x.l ∈ m.codes := by unfold Md.codes; exact List.mem_append_right _ (List.mem_append_right _ (List.mem_append_right _ (List.mem_map.2 ⟨_, h, rfl⟩)))
end Go.Proofs.YtiadgkdkjinnjaaGreatDoor.Enc
