import Derived.Test.YtckdnhafookcgaaGreatDoorPr16
import Derived.Test.YtckdnhafookcgaaGreatDoorPr12
import Derived.Test.YtckdnhafookcgaaGreatDoorPr14
import Derived.Test.YtckdnhafookcgaaGreatDoorPr11
import Derived.RegionTactic
import Derived.Deep.RegionHeld3
import Derived.Deep.Cut
namespace Go.Proofs.YtckdnhafookcgaaGreatDoor.Instr
end Go.Proofs.YtckdnhafookcgaaGreatDoor.Instr
namespace Go.Proofs.YtckdnhafookcgaaGreatDoor.Mod
end Go.Proofs.YtckdnhafookcgaaGreatDoor.Mod
namespace Go.Proofs.YtckdnhafookcgaaGreatDoor.Val
end Go.Proofs.YtckdnhafookcgaaGreatDoor.Val
namespace Go.Proofs.YtckdnhafookcgaaGreatDoor.Mem
end Go.Proofs.YtckdnhafookcgaaGreatDoor.Mem
namespace Go.Proofs.YtckdnhafookcgaaGreatDoor.Mod
open Go.RowKit Go.Proofs.YtckdnhafookcgaaGreatDoor.Instr
set_option linter.unusedVariables false

section
variable {α : Type}
/-- A list in blocks of its own, the same as another one but for where its parts lie. -/
structure MapQ (K : Kin α) (l : List α) (lo : Nat) (w : World) (a : Option Addr) (l' : List α) : Prop where
  len : l'.length = l.length
  br : l'.map K.br = l.map K.br
  blk : l' = [] ∨ ∃ b off, a = some ⟨b, off, none⟩ ∧ Blk lo w.heap.size w b
  rows : Rows w.heap.size w a K.sz (l'.map K.V)
  own : ∀ x ∈ l', K.own lo w.heap.size w x
theorem MapP.q {K : Kin α} {l : List α} {lo : Nat} {w : World} {v : Value} (h : MapP K l lo w v) : ∃ a c l', v = .slice a l.length c ∧ MapQ K l lo w a l' := by
  obtain ⟨a, c, l', h1, h2, h3, h4, h5, h6⟩ := h
  exact ⟨a, c, l', h1, h2, h3, h4, h5, h6⟩
theorem MapQ.on {K : Kin α} {l l' : List α} {lo : Nat} {w w' : World} {a : Option Addr} (h : MapQ K l lo w a l') (s : Same2 lo w.heap.size w w') (hz : w.heap.size ≤ w'.heap.size) : MapQ K l lo w' a l' := by
  refine ⟨h.len, h.br, ?_, ?_, fun x hx => K.mono (Nat.le_refl _) hz (K.frame s (h.own x hx))⟩
  · rcases h.blk with h1 | ⟨b, off, h1, h2⟩
    · exact .inl h1
    · exact .inr ⟨b, off, h1, (h2.frame s).mono (Nat.le_refl _) hz⟩
  · rcases h.blk with h1 | ⟨b, off, h1, h2⟩
    · exact .inl (by rw [h1]; rfl)
    · rcases h.rows with h3 | ⟨b', off', h3, h4, h5⟩
      · exact .inl h3
      · rw [h1] at h3
        simp only [Option.some.injEq, Addr.mk.injEq, and_true] at h3
        obtain ⟨rfl, rfl⟩ := h3
        exact .inr ⟨b, off, h1, by omega, fun i hi j hj v hv => (s.cell h2.1 h2.2.1).trans (h5 i hi j hj v hv)⟩
theorem MapQ.low {K : Kin α} {l l' : List α} {lo lo' : Nat} {w : World} {a : Option Addr} (h : MapQ K l lo w a l') (hl : lo' ≤ lo) : MapQ K l lo' w a l' := by
  refine ⟨h.len, h.br, ?_, h.rows, fun x hx => K.mono hl (Nat.le_refl _) (h.own x hx)⟩
  rcases h.blk with h1 | ⟨b, off, h1, h2⟩
  · exact .inl h1
  · exact .inr ⟨b, off, h1, h2.mono hl (Nat.le_refl _)⟩
theorem own_mapQ {K : Kin α} {l : List α} {e : TypeId} {base : Nat} {w : World} {v : Value} (h : OwnR e K.sz base w v (l.map K.V)) (ho : ∀ lo hi w x, K.own lo hi w x) : ∃ a c, v = .slice a l.length c ∧ MapQ K l base w a l := by
  obtain ⟨a, c, hv, hr, hb⟩ := OwnR.rows h
  rw [List.length_map] at hv
  refine ⟨a, c, hv, rfl, rfl, ?_, hr, fun x _ => ho _ _ _ x⟩
  rcases h.row.2 with ⟨h1, h0⟩ | ⟨g, cap, cur, h1, hg, hh, _⟩
  · rw [List.length_map] at h0
    exact .inl (List.eq_nil_of_length_eq_zero h0)
  · rw [hv] at h1
    simp only [Value.slice.injEq] at h1
    exact .inr ⟨g, 0, h1.1, hg, (Array.getElem?_eq_some_iff.1 hh).1, cur, e, hh⟩
theorem MapQ.rowO {K : Kin α} {l l' : List α} {lo : Nat} {w : World} {a : Option Addr} (h : MapQ K l lo w a l') {ks : List Kd} (hk : ks.length = K.sz) (hc : ∀ x ∈ l', K.own lo w.heap.size w x → ∀ (j : Nat) (k : Kd), ks[j]? = some k → ∃ v, (K.V x)[j]? = some v ∧ CellO lo w.heap.size w k v) : RowO lo w.heap.size w ks a l'.length := by
  rcases h.blk with h1 | ⟨b, off, h1, h2⟩
  · exact .inl (by rw [h1]; rfl)
  · refine .inr ⟨b, off, h1, h2, fun i hi j k hjk => ?_⟩
    rcases h.rows with h3 | ⟨b', off', h3, h4, h5⟩
    · rw [List.map_eq_nil_iff] at h3; rw [h3] at hi; simp at hi
    · rw [h1] at h3
      simp only [Option.some.injEq, Addr.mk.injEq, and_true] at h3
      obtain ⟨rfl, rfl⟩ := h3
      have hx := List.getElem_mem hi
      obtain ⟨v, hv, hcv⟩ := hc _ hx (h.own _ hx) j k hjk
      have hj : j < K.sz := by rw [← hk]; exact (List.getElem?_eq_some_iff.1 hjk).1
      refine ⟨v, ?_, hcv⟩
      rw [hk]
      exact h5 i (by simpa using hi) j hj v (by rw [List.getD_eq_getElem?_getD, List.getElem?_map, List.getElem?_eq_getElem hi]; exact hv)
end
def kTy : Kin (Int × Int) := ⟨tyV, 2, id, fun _ _ _ _ => True, fun _ => rfl, by omega, fun _ h => h, fun _ _ h => h⟩
theorem kTy_ones (l : List (Int × Int)) : ∀ r ∈ l.map tyV, ∀ u ∈ r, u.oneCell' = true := by
  intro r hr u hu
  obtain ⟨f, _, rfl⟩ := List.mem_map.1 hr
  simp only [tyV, List.mem_cons, List.not_mem_nil, or_false] at hu
  rcases hu with rfl | rfl <;> rfl
theorem kTy_lens (l : List (Int × Int)) : ∀ r ∈ l.map tyV, r.length = 2 := by
  intro r hr
  obtain ⟨f, _, rfl⟩ := List.mem_map.1 hr
  rfl
def kIm : Kin Imp := ⟨Imp.v, 3, id, fun _ _ _ _ => True, fun _ => rfl, by omega, fun _ h => h, fun _ _ h => h⟩
theorem kIm_ones (l : List Imp) : ∀ r ∈ l.map Imp.v, ∀ u ∈ r, u.oneCell' = true := by
  intro r hr u hu
  obtain ⟨f, _, rfl⟩ := List.mem_map.1 hr
  simp only [Imp.v, List.mem_cons, List.not_mem_nil, or_false] at hu
  rcases hu with rfl | rfl | rfl <;> rfl
theorem kIm_lens (l : List Imp) : ∀ r ∈ l.map Imp.v, r.length = 3 := by
  intro r hr
  obtain ⟨f, _, rfl⟩ := List.mem_map.1 hr
  rfl
def kLi : Kin Li := ⟨Li.v, 3, id, fun _ _ _ _ => True, fun _ => rfl, by omega, fun _ h => h, fun _ _ h => h⟩
theorem kLi_ones (l : List Li) : ∀ r ∈ l.map Li.v, ∀ u ∈ r, u.oneCell' = true := by
  intro r hr u hu
  obtain ⟨f, _, rfl⟩ := List.mem_map.1 hr
  simp only [Li.v, List.mem_cons, List.not_mem_nil, or_false] at hu
  rcases hu with rfl | rfl | rfl <;> rfl
theorem kLi_lens (l : List Li) : ∀ r ∈ l.map Li.v, r.length = 3 := by
  intro r hr
  obtain ⟨f, _, rfl⟩ := List.mem_map.1 hr
  rfl
def kEx : Kin Ex := ⟨Ex.v, 3, id, fun _ _ _ _ => True, fun _ => rfl, by omega, fun _ h => h, fun _ _ h => h⟩
theorem kEx_ones (l : List Ex) : ∀ r ∈ l.map Ex.v, ∀ u ∈ r, u.oneCell' = true := by
  intro r hr u hu
  obtain ⟨f, _, rfl⟩ := List.mem_map.1 hr
  simp only [Ex.v, List.mem_cons, List.not_mem_nil, or_false] at hu
  rcases hu with rfl | rfl | rfl <;> rfl
theorem kEx_lens (l : List Ex) : ∀ r ∈ l.map Ex.v, r.length = 3 := by
  intro r hr
  obtain ⟨f, _, rfl⟩ := List.mem_map.1 hr
  rfl
/-- What a module that is copied has. -/
structure Md.inp (w : World) (m : Md) : Prop where
  at_ : ModAt w.heap.size w m
  nty : m.ty.length ≤ 1000000
  nim : m.im.length ≤ 1000000
  nfu : m.fu.length ≤ 1000000
  ntb : m.tb.length ≤ 1000000
  nme : m.me.length ≤ 1000000
  ngl : m.gl.length ≤ 1000000
  nex : m.ex.length ≤ 1000000
  nel : m.el.length ≤ 1000000
  nda : m.da.length ≤ 1000000
  fu : ∀ x ∈ m.fu, x.inp w
  gl : ∀ x ∈ m.gl, x.inp w
  el : ∀ x ∈ m.el, x.inp w
  da : ∀ x ∈ m.da, x.inp w
/-- A copy's lists. -/
structure Cps (lo : Nat) (w : World) (m : Md) (aty aim afu atb ame agl aex ael ada : Option Addr) (lty : List (Int × Int)) (lim : List Imp) (lfu : List Fn) (ltb lme : List Li) (lgl : List Gl) (lex : List Ex) (lel : List El) (lda : List Da) : Prop where
  ty : MapQ kTy m.ty lo w aty lty
  im : MapQ kIm m.im lo w aim lim
  fu : MapQ kFn m.fu lo w afu lfu
  tb : MapQ kLi m.tb lo w atb ltb
  me : MapQ kLi m.me lo w ame lme
  gl : MapQ kGl m.gl lo w agl lgl
  ex : MapQ kEx m.ex lo w aex lex
  el : MapQ kEl m.el lo w ael lel
  da : MapQ kDa m.da lo w ada lda
set_option maxRecDepth 100000 in
set_option maxHeartbeats 8000000 in
theorem Copy_any (m : Md) (w : World) (hi : m.inp w) :
    Calls Tryz.prog 44 #[.agg m.v] w fun e w' => ∃ aty cty aim cim afu cfu atb ctb ame cme agl cgl aex cex ael cel ada cda lty lim lfu ltb lme lgl lex lel lda, e = .returned (.agg #[.slice aty m.ty.length cty, .slice aim m.im.length cim, .slice afu m.fu.length cfu, .slice atb m.tb.length ctb, .slice ame m.me.length cme, .slice agl m.gl.length cgl, .slice aex m.ex.length cex, .bool m.st, .int .u32 m.sn, .slice ael m.el.length cel, .slice ada m.da.length cda]) ∧ Cps w.heap.size w' m aty aim afu atb ame agl aex ael ada lty lim lfu ltb lme lgl lex lel lda ∧ Below w.heap.size w w' := by
  obtain ⟨nty, hnty⟩ : ∃ n, m.ty.length = n := ⟨_, rfl⟩
  obtain ⟨nim, hnim⟩ : ∃ n, m.im.length = n := ⟨_, rfl⟩
  obtain ⟨nfu, hnfu⟩ : ∃ n, m.fu.length = n := ⟨_, rfl⟩
  obtain ⟨ntb, hntb⟩ : ∃ n, m.tb.length = n := ⟨_, rfl⟩
  obtain ⟨nme, hnme⟩ : ∃ n, m.me.length = n := ⟨_, rfl⟩
  obtain ⟨ngl, hngl⟩ : ∃ n, m.gl.length = n := ⟨_, rfl⟩
  obtain ⟨nex, hnex⟩ : ∃ n, m.ex.length = n := ⟨_, rfl⟩
  obtain ⟨nel, hnel⟩ : ∃ n, m.el.length = n := ⟨_, rfl⟩
  obtain ⟨nda, hnda⟩ : ∃ n, m.da.length = n := ⟨_, rfl⟩
  have Cty := hid (fun (W : World) (hb : Below w.heap.size w W) => clone_ty W m.ty'.a nty m.ty'.c (m.ty.map tyV) (by rw [List.length_map]; exact hnty) ((hi.at_.ty.below hb).more hb.size) (kTy_lens _) (kTy_ones _) (by rw [List.length_map]; have := hi.nty; omega))
  have Cim := hid (fun (W : World) (hb : Below w.heap.size w W) => clone_im W m.im'.a nim m.im'.c (m.im.map Imp.v) (by rw [List.length_map]; exact hnim) ((hi.at_.im.below hb).more hb.size) (kIm_lens _) (kIm_ones _) (by rw [List.length_map]; have := hi.nim; omega))
  have Cfu := hid (fun (W : World) (hb : Below w.heap.size w W) => mapFn m.fu m.fu'.a nfu m.fu'.c W hnfu ((hi.at_.fu.below hb).more hb.size) (fun x hx => (hi.fu x hx).on hb) (by rw [← hnfu]; exact hi.nfu))
  have Ctb := hid (fun (W : World) (hb : Below w.heap.size w W) => clone_li W m.tb'.a ntb m.tb'.c (m.tb.map Li.v) (by rw [List.length_map]; exact hntb) ((hi.at_.tb.below hb).more hb.size) (kLi_lens _) (kLi_ones _) (by rw [List.length_map]; have := hi.ntb; omega))
  have Cme := hid (fun (W : World) (hb : Below w.heap.size w W) => clone_li W m.me'.a nme m.me'.c (m.me.map Li.v) (by rw [List.length_map]; exact hnme) ((hi.at_.me.below hb).more hb.size) (kLi_lens _) (kLi_ones _) (by rw [List.length_map]; have := hi.nme; omega))
  have Cgl := hid (fun (W : World) (hb : Below w.heap.size w W) => mapGl m.gl m.gl'.a ngl m.gl'.c W hngl ((hi.at_.gl.below hb).more hb.size) (fun x hx => (hi.gl x hx).on hb) (by rw [← hngl]; exact hi.ngl))
  have Cex := hid (fun (W : World) (hb : Below w.heap.size w W) => clone_ex W m.ex'.a nex m.ex'.c (m.ex.map Ex.v) (by rw [List.length_map]; exact hnex) ((hi.at_.ex.below hb).more hb.size) (kEx_lens _) (kEx_ones _) (by rw [List.length_map]; have := hi.nex; omega))
  have Cel := hid (fun (W : World) (hb : Below w.heap.size w W) => mapEl m.el m.el'.a nel m.el'.c W hnel ((hi.at_.el.below hb).more hb.size) (fun x hx => (hi.el x hx).on hb) (by rw [← hnel]; exact hi.nel))
  have Cda := hid (fun (W : World) (hb : Below w.heap.size w W) => mapDa m.da m.da'.a nda m.da'.c W hnda ((hi.at_.da.below hb).more hb.size) (fun x hx => (hi.da x hx).on hb) (by rw [← hnda]; exact hi.nda))
  show Calls _ _ #[.agg m.v] w _
  unfold Md.v
  rw [hnty, hnim, hnfu, hntb, hnme, hngl, hnex, hnel, hnda]
  obtain ⟨W0, hW0, hb, hr, hs, hz⟩ := two_boxesG w #[.slice m.ty'.a nty m.ty'.c, .slice m.im'.a nim m.im'.c, .slice m.fu'.a nfu m.fu'.c, .slice m.tb'.a ntb m.tb'.c, .slice m.me'.a nme m.me'.c, .slice m.gl'.a ngl m.gl'.c, .slice m.ex'.a nex m.ex'.c, .bool m.st, .int .u32 m.sn, .slice m.el'.a nel m.el'.c, .slice m.da'.a nda m.da'.c] #[.slice none 0 0, .slice none 0 0, .slice none 0 0, .slice none 0 0, .slice none 0 0, .slice none 0 0, .slice none 0 0, .bool false, .int .u32 0, .slice none 0 0, .slice none 0 0] 32
  have HB0 := hid hb
  have HR0 := hid hr
  have HS0 := hid hs
  have HZ0 := hid (Nat.le_of_eq hz.symm)
  have HW := hid hW0
  have HNty := hid hnty
  have HNim := hid hnim
  have HNfu := hid hnfu
  have HNtb := hid hntb
  have HNme := hid hnme
  have HNgl := hid hngl
  have HNex := hid hnex
  have HNel := hid hnel
  have HNda := hid hnda
  clear hi hb hr hs hz hW0 hnty hnim hnfu hntb hnme hngl hnex hnel hnda
  go_enter Tryz.func44, Tryz.ntmps44
  go_upto_region 1 with fail
  rw [← HW.out]
  have cj := cs_cell HR0.out (i := 0) rfl
  go_wp2_with fail
  refine (Cty.out _ HB0.out).mono ?_
  rintro r x1 ⟨v, rfl, ho, hb⟩
  obtain ⟨aty, cty, rfl, hq⟩ := own_mapQ (K := kTy) ho (fun _ _ _ _ => trivial)
  obtain ⟨lty, hlty⟩ : ∃ l', l' = m.ty := ⟨_, rfl⟩
  have HQ := hid (show MapQ kTy m.ty W0.heap.size x1 aty lty by rw [hlty]; exact hq)
  clear ho hq hlty
  rw [HNty.out]
  have ra := (hb.block w.heap.size (by have := HZ0.out; omega)).trans HR0.out
  have sa := (hb.block (w.heap.size + 1) (by have := HZ0.out; omega)).trans HS0.out
  have za : w.heap.size + 2 ≤ x1.heap.size := by have := hb.size; have := HZ0.out; omega
  have cz := cs_cell ra (i := 0) rfl
  have fz := frozen_of_row x1 w.heap.size 0 _ _ ra
  have RA := hid ra
  have SA := hid sa
  have ZA := hid za
  have BA := hid (HB0.out.trans (hb.mono HB0.out.size))
  have HBB := hid hb
  clear ra sa za hb cj Cty
  go_upto_region 2 with fail
  obtain ⟨W1, hW1⟩ : ∃ u, u = x1.setCell ⟨w.heap.size, 0, none⟩ (.slice aty nty cty) := ⟨_, rfl⟩
  rw [← hW1]
  have eW1 : W1.heap.size = x1.heap.size := by rw [hW1]; simp [World.setCell]
  have HR1 : Hid (W1.heap[w.heap.size]? = some (.cells #[.slice aty nty cty, .slice m.im'.a nim m.im'.c, .slice m.fu'.a nfu m.fu'.c, .slice m.tb'.a ntb m.tb'.c, .slice m.me'.a nme m.me'.c, .slice m.gl'.a ngl m.gl'.c, .slice m.ex'.a nex m.ex'.c, .bool m.st, .int .u32 m.sn, .slice m.el'.a nel m.el'.c, .slice m.da'.a nda m.da'.c] 32 (0, 0))) := hid (by rw [hW1]; exact heap_setCell_same x1 w.heap.size 0 _ _ _ RA.out)
  have HS1 : Hid (W1.heap[w.heap.size + 1]? = some (.cells #[.slice none 0 0, .slice none 0 0, .slice none 0 0, .slice none 0 0, .slice none 0 0, .slice none 0 0, .slice none 0 0, .bool false, .int .u32 0, .slice none 0 0, .slice none 0 0] 32 (0, 0))) := hid (by rw [hW1]; exact (Below.heap_setCell x1 ⟨w.heap.size, 0, none⟩ _ (w.heap.size + 1) (by simp)).trans SA.out)
  have HZ1 : Hid (w.heap.size + 2 ≤ W1.heap.size) := hid (by rw [eW1]; exact ZA.out)
  have HB1 : Hid (Below w.heap.size w W1) := hid (by rw [hW1]; exact BA.out.setCell (by simp) _)
  have SM : Hid (∀ hi, Same2 (w.heap.size + 2) hi x1 W1) := hid (fun hi => by rw [hW1]; exact Same2.set (.inl (by omega)))
  have Mty := hid ((HQ.out.low (lo' := w.heap.size + 2) HZ0.out).on (SM.out _) (Nat.le_of_eq eW1.symm))
  clear cz fz RA SA ZA BA HBB SM HQ hW1 eW1 HR0 HS0 HZ0 HB0
  have cj := cs_cell HR1.out (i := 1) rfl
  go_wp2_with fail
  refine (Cim.out _ HB1.out).mono ?_
  rintro r x2 ⟨v, rfl, ho, hb⟩
  obtain ⟨aim, cim, rfl, hq⟩ := own_mapQ (K := kIm) ho (fun _ _ _ _ => trivial)
  obtain ⟨lim, hlim⟩ : ∃ l', l' = m.im := ⟨_, rfl⟩
  have HQ := hid (show MapQ kIm m.im W1.heap.size x2 aim lim by rw [hlim]; exact hq)
  clear ho hq hlim
  rw [HNim.out]
  have ra := (hb.block w.heap.size (by have := HZ1.out; omega)).trans HR1.out
  have sa := (hb.block (w.heap.size + 1) (by have := HZ1.out; omega)).trans HS1.out
  have za : w.heap.size + 2 ≤ x2.heap.size := by have := hb.size; have := HZ1.out; omega
  have cz := cs_cell ra (i := 1) rfl
  have fz := frozen_of_row x2 w.heap.size 1 _ _ ra
  have RA := hid ra
  have SA := hid sa
  have ZA := hid za
  have BA := hid (HB1.out.trans (hb.mono HB1.out.size))
  have HBB := hid hb
  clear ra sa za hb cj Cim
  go_upto_region 3 with fail
  obtain ⟨W2, hW2⟩ : ∃ u, u = x2.setCell ⟨w.heap.size, 1, none⟩ (.slice aim nim cim) := ⟨_, rfl⟩
  rw [← hW2]
  have eW2 : W2.heap.size = x2.heap.size := by rw [hW2]; simp [World.setCell]
  have HR2 : Hid (W2.heap[w.heap.size]? = some (.cells #[.slice aty nty cty, .slice aim nim cim, .slice m.fu'.a nfu m.fu'.c, .slice m.tb'.a ntb m.tb'.c, .slice m.me'.a nme m.me'.c, .slice m.gl'.a ngl m.gl'.c, .slice m.ex'.a nex m.ex'.c, .bool m.st, .int .u32 m.sn, .slice m.el'.a nel m.el'.c, .slice m.da'.a nda m.da'.c] 32 (0, 0))) := hid (by rw [hW2]; exact heap_setCell_same x2 w.heap.size 1 _ _ _ RA.out)
  have HS2 : Hid (W2.heap[w.heap.size + 1]? = some (.cells #[.slice none 0 0, .slice none 0 0, .slice none 0 0, .slice none 0 0, .slice none 0 0, .slice none 0 0, .slice none 0 0, .bool false, .int .u32 0, .slice none 0 0, .slice none 0 0] 32 (0, 0))) := hid (by rw [hW2]; exact (Below.heap_setCell x2 ⟨w.heap.size, 1, none⟩ _ (w.heap.size + 1) (by simp)).trans SA.out)
  have HZ2 : Hid (w.heap.size + 2 ≤ W2.heap.size) := hid (by rw [eW2]; exact ZA.out)
  have HB2 : Hid (Below w.heap.size w W2) := hid (by rw [hW2]; exact BA.out.setCell (by simp) _)
  have SM : Hid (∀ hi, Same2 (w.heap.size + 2) hi x2 W2) := hid (fun hi => by rw [hW2]; exact Same2.set (.inl (by omega)))
  replace Mty := hid ((Mty.out.on (Same2.of_below HBB.out (Nat.le_refl _)) HBB.out.size).on (SM.out _) (Nat.le_of_eq eW2.symm))
  have Mim := hid ((HQ.out.low (lo' := w.heap.size + 2) HZ1.out).on (SM.out _) (Nat.le_of_eq eW2.symm))
  clear cz fz RA SA ZA BA HBB SM HQ hW2 eW2 HR1 HS1 HZ1 HB1
  have cj := cs_cell HR2.out (i := 2) rfl
  go_wp2_with fail
  refine (Cfu.out _ HB2.out).mono ?_
  rintro r x3 ⟨v, rfl, hq, hb⟩
  obtain ⟨afu, cfu, lfu, rfl, hq2⟩ := hq.q
  have HQ := hid hq2
  clear hq2 hq
  rw [HNfu.out]
  have ra := (hb.block w.heap.size (by have := HZ2.out; omega)).trans HR2.out
  have sa := (hb.block (w.heap.size + 1) (by have := HZ2.out; omega)).trans HS2.out
  have za : w.heap.size + 2 ≤ x3.heap.size := by have := hb.size; have := HZ2.out; omega
  have cz := cs_cell ra (i := 2) rfl
  have fz := frozen_of_row x3 w.heap.size 2 _ _ ra
  have RA := hid ra
  have SA := hid sa
  have ZA := hid za
  have BA := hid (HB2.out.trans (hb.mono HB2.out.size))
  have HBB := hid hb
  clear ra sa za hb cj Cfu
  go_upto_region 4 with fail
  obtain ⟨W3, hW3⟩ : ∃ u, u = x3.setCell ⟨w.heap.size, 2, none⟩ (.slice afu nfu cfu) := ⟨_, rfl⟩
  rw [← hW3]
  have eW3 : W3.heap.size = x3.heap.size := by rw [hW3]; simp [World.setCell]
  have HR3 : Hid (W3.heap[w.heap.size]? = some (.cells #[.slice aty nty cty, .slice aim nim cim, .slice afu nfu cfu, .slice m.tb'.a ntb m.tb'.c, .slice m.me'.a nme m.me'.c, .slice m.gl'.a ngl m.gl'.c, .slice m.ex'.a nex m.ex'.c, .bool m.st, .int .u32 m.sn, .slice m.el'.a nel m.el'.c, .slice m.da'.a nda m.da'.c] 32 (0, 0))) := hid (by rw [hW3]; exact heap_setCell_same x3 w.heap.size 2 _ _ _ RA.out)
  have HS3 : Hid (W3.heap[w.heap.size + 1]? = some (.cells #[.slice none 0 0, .slice none 0 0, .slice none 0 0, .slice none 0 0, .slice none 0 0, .slice none 0 0, .slice none 0 0, .bool false, .int .u32 0, .slice none 0 0, .slice none 0 0] 32 (0, 0))) := hid (by rw [hW3]; exact (Below.heap_setCell x3 ⟨w.heap.size, 2, none⟩ _ (w.heap.size + 1) (by simp)).trans SA.out)
  have HZ3 : Hid (w.heap.size + 2 ≤ W3.heap.size) := hid (by rw [eW3]; exact ZA.out)
  have HB3 : Hid (Below w.heap.size w W3) := hid (by rw [hW3]; exact BA.out.setCell (by simp) _)
  have SM : Hid (∀ hi, Same2 (w.heap.size + 2) hi x3 W3) := hid (fun hi => by rw [hW3]; exact Same2.set (.inl (by omega)))
  replace Mty := hid ((Mty.out.on (Same2.of_below HBB.out (Nat.le_refl _)) HBB.out.size).on (SM.out _) (Nat.le_of_eq eW3.symm))
  replace Mim := hid ((Mim.out.on (Same2.of_below HBB.out (Nat.le_refl _)) HBB.out.size).on (SM.out _) (Nat.le_of_eq eW3.symm))
  have Mfu := hid ((HQ.out.low (lo' := w.heap.size + 2) HZ2.out).on (SM.out _) (Nat.le_of_eq eW3.symm))
  clear cz fz RA SA ZA BA HBB SM HQ hW3 eW3 HR2 HS2 HZ2 HB2
  have cj := cs_cell HR3.out (i := 3) rfl
  go_wp2_with fail
  refine (Ctb.out _ HB3.out).mono ?_
  rintro r x4 ⟨v, rfl, ho, hb⟩
  obtain ⟨atb, ctb, rfl, hq⟩ := own_mapQ (K := kLi) ho (fun _ _ _ _ => trivial)
  obtain ⟨ltb, hltb⟩ : ∃ l', l' = m.tb := ⟨_, rfl⟩
  have HQ := hid (show MapQ kLi m.tb W3.heap.size x4 atb ltb by rw [hltb]; exact hq)
  clear ho hq hltb
  rw [HNtb.out]
  have ra := (hb.block w.heap.size (by have := HZ3.out; omega)).trans HR3.out
  have sa := (hb.block (w.heap.size + 1) (by have := HZ3.out; omega)).trans HS3.out
  have za : w.heap.size + 2 ≤ x4.heap.size := by have := hb.size; have := HZ3.out; omega
  have cz := cs_cell ra (i := 3) rfl
  have fz := frozen_of_row x4 w.heap.size 3 _ _ ra
  have RA := hid ra
  have SA := hid sa
  have ZA := hid za
  have BA := hid (HB3.out.trans (hb.mono HB3.out.size))
  have HBB := hid hb
  clear ra sa za hb cj Ctb
  go_upto_region 5 with fail
  obtain ⟨W4, hW4⟩ : ∃ u, u = x4.setCell ⟨w.heap.size, 3, none⟩ (.slice atb ntb ctb) := ⟨_, rfl⟩
  rw [← hW4]
  have eW4 : W4.heap.size = x4.heap.size := by rw [hW4]; simp [World.setCell]
  have HR4 : Hid (W4.heap[w.heap.size]? = some (.cells #[.slice aty nty cty, .slice aim nim cim, .slice afu nfu cfu, .slice atb ntb ctb, .slice m.me'.a nme m.me'.c, .slice m.gl'.a ngl m.gl'.c, .slice m.ex'.a nex m.ex'.c, .bool m.st, .int .u32 m.sn, .slice m.el'.a nel m.el'.c, .slice m.da'.a nda m.da'.c] 32 (0, 0))) := hid (by rw [hW4]; exact heap_setCell_same x4 w.heap.size 3 _ _ _ RA.out)
  have HS4 : Hid (W4.heap[w.heap.size + 1]? = some (.cells #[.slice none 0 0, .slice none 0 0, .slice none 0 0, .slice none 0 0, .slice none 0 0, .slice none 0 0, .slice none 0 0, .bool false, .int .u32 0, .slice none 0 0, .slice none 0 0] 32 (0, 0))) := hid (by rw [hW4]; exact (Below.heap_setCell x4 ⟨w.heap.size, 3, none⟩ _ (w.heap.size + 1) (by simp)).trans SA.out)
  have HZ4 : Hid (w.heap.size + 2 ≤ W4.heap.size) := hid (by rw [eW4]; exact ZA.out)
  have HB4 : Hid (Below w.heap.size w W4) := hid (by rw [hW4]; exact BA.out.setCell (by simp) _)
  have SM : Hid (∀ hi, Same2 (w.heap.size + 2) hi x4 W4) := hid (fun hi => by rw [hW4]; exact Same2.set (.inl (by omega)))
  replace Mty := hid ((Mty.out.on (Same2.of_below HBB.out (Nat.le_refl _)) HBB.out.size).on (SM.out _) (Nat.le_of_eq eW4.symm))
  replace Mim := hid ((Mim.out.on (Same2.of_below HBB.out (Nat.le_refl _)) HBB.out.size).on (SM.out _) (Nat.le_of_eq eW4.symm))
  replace Mfu := hid ((Mfu.out.on (Same2.of_below HBB.out (Nat.le_refl _)) HBB.out.size).on (SM.out _) (Nat.le_of_eq eW4.symm))
  have Mtb := hid ((HQ.out.low (lo' := w.heap.size + 2) HZ3.out).on (SM.out _) (Nat.le_of_eq eW4.symm))
  clear cz fz RA SA ZA BA HBB SM HQ hW4 eW4 HR3 HS3 HZ3 HB3
  have cj := cs_cell HR4.out (i := 4) rfl
  go_wp2_with fail
  refine (Cme.out _ HB4.out).mono ?_
  rintro r x5 ⟨v, rfl, ho, hb⟩
  obtain ⟨ame, cme, rfl, hq⟩ := own_mapQ (K := kLi) ho (fun _ _ _ _ => trivial)
  obtain ⟨lme, hlme⟩ : ∃ l', l' = m.me := ⟨_, rfl⟩
  have HQ := hid (show MapQ kLi m.me W4.heap.size x5 ame lme by rw [hlme]; exact hq)
  clear ho hq hlme
  rw [HNme.out]
  have ra := (hb.block w.heap.size (by have := HZ4.out; omega)).trans HR4.out
  have sa := (hb.block (w.heap.size + 1) (by have := HZ4.out; omega)).trans HS4.out
  have za : w.heap.size + 2 ≤ x5.heap.size := by have := hb.size; have := HZ4.out; omega
  have cz := cs_cell ra (i := 4) rfl
  have fz := frozen_of_row x5 w.heap.size 4 _ _ ra
  have RA := hid ra
  have SA := hid sa
  have ZA := hid za
  have BA := hid (HB4.out.trans (hb.mono HB4.out.size))
  have HBB := hid hb
  clear ra sa za hb cj Cme
  go_upto_region 6 with fail
  obtain ⟨W5, hW5⟩ : ∃ u, u = x5.setCell ⟨w.heap.size, 4, none⟩ (.slice ame nme cme) := ⟨_, rfl⟩
  rw [← hW5]
  have eW5 : W5.heap.size = x5.heap.size := by rw [hW5]; simp [World.setCell]
  have HR5 : Hid (W5.heap[w.heap.size]? = some (.cells #[.slice aty nty cty, .slice aim nim cim, .slice afu nfu cfu, .slice atb ntb ctb, .slice ame nme cme, .slice m.gl'.a ngl m.gl'.c, .slice m.ex'.a nex m.ex'.c, .bool m.st, .int .u32 m.sn, .slice m.el'.a nel m.el'.c, .slice m.da'.a nda m.da'.c] 32 (0, 0))) := hid (by rw [hW5]; exact heap_setCell_same x5 w.heap.size 4 _ _ _ RA.out)
  have HS5 : Hid (W5.heap[w.heap.size + 1]? = some (.cells #[.slice none 0 0, .slice none 0 0, .slice none 0 0, .slice none 0 0, .slice none 0 0, .slice none 0 0, .slice none 0 0, .bool false, .int .u32 0, .slice none 0 0, .slice none 0 0] 32 (0, 0))) := hid (by rw [hW5]; exact (Below.heap_setCell x5 ⟨w.heap.size, 4, none⟩ _ (w.heap.size + 1) (by simp)).trans SA.out)
  have HZ5 : Hid (w.heap.size + 2 ≤ W5.heap.size) := hid (by rw [eW5]; exact ZA.out)
  have HB5 : Hid (Below w.heap.size w W5) := hid (by rw [hW5]; exact BA.out.setCell (by simp) _)
  have SM : Hid (∀ hi, Same2 (w.heap.size + 2) hi x5 W5) := hid (fun hi => by rw [hW5]; exact Same2.set (.inl (by omega)))
  replace Mty := hid ((Mty.out.on (Same2.of_below HBB.out (Nat.le_refl _)) HBB.out.size).on (SM.out _) (Nat.le_of_eq eW5.symm))
  replace Mim := hid ((Mim.out.on (Same2.of_below HBB.out (Nat.le_refl _)) HBB.out.size).on (SM.out _) (Nat.le_of_eq eW5.symm))
  replace Mfu := hid ((Mfu.out.on (Same2.of_below HBB.out (Nat.le_refl _)) HBB.out.size).on (SM.out _) (Nat.le_of_eq eW5.symm))
  replace Mtb := hid ((Mtb.out.on (Same2.of_below HBB.out (Nat.le_refl _)) HBB.out.size).on (SM.out _) (Nat.le_of_eq eW5.symm))
  have Mme := hid ((HQ.out.low (lo' := w.heap.size + 2) HZ4.out).on (SM.out _) (Nat.le_of_eq eW5.symm))
  clear cz fz RA SA ZA BA HBB SM HQ hW5 eW5 HR4 HS4 HZ4 HB4
  have cj := cs_cell HR5.out (i := 5) rfl
  go_wp2_with fail
  refine (Cgl.out _ HB5.out).mono ?_
  rintro r x6 ⟨v, rfl, hq, hb⟩
  obtain ⟨agl, cgl, lgl, rfl, hq2⟩ := hq.q
  have HQ := hid hq2
  clear hq2 hq
  rw [HNgl.out]
  have ra := (hb.block w.heap.size (by have := HZ5.out; omega)).trans HR5.out
  have sa := (hb.block (w.heap.size + 1) (by have := HZ5.out; omega)).trans HS5.out
  have za : w.heap.size + 2 ≤ x6.heap.size := by have := hb.size; have := HZ5.out; omega
  have cz := cs_cell ra (i := 5) rfl
  have fz := frozen_of_row x6 w.heap.size 5 _ _ ra
  have RA := hid ra
  have SA := hid sa
  have ZA := hid za
  have BA := hid (HB5.out.trans (hb.mono HB5.out.size))
  have HBB := hid hb
  clear ra sa za hb cj Cgl
  go_upto_region 7 with fail
  obtain ⟨W6, hW6⟩ : ∃ u, u = x6.setCell ⟨w.heap.size, 5, none⟩ (.slice agl ngl cgl) := ⟨_, rfl⟩
  rw [← hW6]
  have eW6 : W6.heap.size = x6.heap.size := by rw [hW6]; simp [World.setCell]
  have HR6 : Hid (W6.heap[w.heap.size]? = some (.cells #[.slice aty nty cty, .slice aim nim cim, .slice afu nfu cfu, .slice atb ntb ctb, .slice ame nme cme, .slice agl ngl cgl, .slice m.ex'.a nex m.ex'.c, .bool m.st, .int .u32 m.sn, .slice m.el'.a nel m.el'.c, .slice m.da'.a nda m.da'.c] 32 (0, 0))) := hid (by rw [hW6]; exact heap_setCell_same x6 w.heap.size 5 _ _ _ RA.out)
  have HS6 : Hid (W6.heap[w.heap.size + 1]? = some (.cells #[.slice none 0 0, .slice none 0 0, .slice none 0 0, .slice none 0 0, .slice none 0 0, .slice none 0 0, .slice none 0 0, .bool false, .int .u32 0, .slice none 0 0, .slice none 0 0] 32 (0, 0))) := hid (by rw [hW6]; exact (Below.heap_setCell x6 ⟨w.heap.size, 5, none⟩ _ (w.heap.size + 1) (by simp)).trans SA.out)
  have HZ6 : Hid (w.heap.size + 2 ≤ W6.heap.size) := hid (by rw [eW6]; exact ZA.out)
  have HB6 : Hid (Below w.heap.size w W6) := hid (by rw [hW6]; exact BA.out.setCell (by simp) _)
  have SM : Hid (∀ hi, Same2 (w.heap.size + 2) hi x6 W6) := hid (fun hi => by rw [hW6]; exact Same2.set (.inl (by omega)))
  replace Mty := hid ((Mty.out.on (Same2.of_below HBB.out (Nat.le_refl _)) HBB.out.size).on (SM.out _) (Nat.le_of_eq eW6.symm))
  replace Mim := hid ((Mim.out.on (Same2.of_below HBB.out (Nat.le_refl _)) HBB.out.size).on (SM.out _) (Nat.le_of_eq eW6.symm))
  replace Mfu := hid ((Mfu.out.on (Same2.of_below HBB.out (Nat.le_refl _)) HBB.out.size).on (SM.out _) (Nat.le_of_eq eW6.symm))
  replace Mtb := hid ((Mtb.out.on (Same2.of_below HBB.out (Nat.le_refl _)) HBB.out.size).on (SM.out _) (Nat.le_of_eq eW6.symm))
  replace Mme := hid ((Mme.out.on (Same2.of_below HBB.out (Nat.le_refl _)) HBB.out.size).on (SM.out _) (Nat.le_of_eq eW6.symm))
  have Mgl := hid ((HQ.out.low (lo' := w.heap.size + 2) HZ5.out).on (SM.out _) (Nat.le_of_eq eW6.symm))
  clear cz fz RA SA ZA BA HBB SM HQ hW6 eW6 HR5 HS5 HZ5 HB5
  have cj := cs_cell HR6.out (i := 6) rfl
  go_wp2_with fail
  refine (Cex.out _ HB6.out).mono ?_
  rintro r x7 ⟨v, rfl, ho, hb⟩
  obtain ⟨aex, cex, rfl, hq⟩ := own_mapQ (K := kEx) ho (fun _ _ _ _ => trivial)
  obtain ⟨lex, hlex⟩ : ∃ l', l' = m.ex := ⟨_, rfl⟩
  have HQ := hid (show MapQ kEx m.ex W6.heap.size x7 aex lex by rw [hlex]; exact hq)
  clear ho hq hlex
  rw [HNex.out]
  have ra := (hb.block w.heap.size (by have := HZ6.out; omega)).trans HR6.out
  have sa := (hb.block (w.heap.size + 1) (by have := HZ6.out; omega)).trans HS6.out
  have za : w.heap.size + 2 ≤ x7.heap.size := by have := hb.size; have := HZ6.out; omega
  have cz := cs_cell ra (i := 6) rfl
  have fz := frozen_of_row x7 w.heap.size 6 _ _ ra
  have RA := hid ra
  have SA := hid sa
  have ZA := hid za
  have BA := hid (HB6.out.trans (hb.mono HB6.out.size))
  have HBB := hid hb
  clear ra sa za hb cj Cex
  go_upto_region 8 with fail
  obtain ⟨W7, hW7⟩ : ∃ u, u = x7.setCell ⟨w.heap.size, 6, none⟩ (.slice aex nex cex) := ⟨_, rfl⟩
  rw [← hW7]
  have eW7 : W7.heap.size = x7.heap.size := by rw [hW7]; simp [World.setCell]
  have HR7 : Hid (W7.heap[w.heap.size]? = some (.cells #[.slice aty nty cty, .slice aim nim cim, .slice afu nfu cfu, .slice atb ntb ctb, .slice ame nme cme, .slice agl ngl cgl, .slice aex nex cex, .bool m.st, .int .u32 m.sn, .slice m.el'.a nel m.el'.c, .slice m.da'.a nda m.da'.c] 32 (0, 0))) := hid (by rw [hW7]; exact heap_setCell_same x7 w.heap.size 6 _ _ _ RA.out)
  have HS7 : Hid (W7.heap[w.heap.size + 1]? = some (.cells #[.slice none 0 0, .slice none 0 0, .slice none 0 0, .slice none 0 0, .slice none 0 0, .slice none 0 0, .slice none 0 0, .bool false, .int .u32 0, .slice none 0 0, .slice none 0 0] 32 (0, 0))) := hid (by rw [hW7]; exact (Below.heap_setCell x7 ⟨w.heap.size, 6, none⟩ _ (w.heap.size + 1) (by simp)).trans SA.out)
  have HZ7 : Hid (w.heap.size + 2 ≤ W7.heap.size) := hid (by rw [eW7]; exact ZA.out)
  have HB7 : Hid (Below w.heap.size w W7) := hid (by rw [hW7]; exact BA.out.setCell (by simp) _)
  have SM : Hid (∀ hi, Same2 (w.heap.size + 2) hi x7 W7) := hid (fun hi => by rw [hW7]; exact Same2.set (.inl (by omega)))
  replace Mty := hid ((Mty.out.on (Same2.of_below HBB.out (Nat.le_refl _)) HBB.out.size).on (SM.out _) (Nat.le_of_eq eW7.symm))
  replace Mim := hid ((Mim.out.on (Same2.of_below HBB.out (Nat.le_refl _)) HBB.out.size).on (SM.out _) (Nat.le_of_eq eW7.symm))
  replace Mfu := hid ((Mfu.out.on (Same2.of_below HBB.out (Nat.le_refl _)) HBB.out.size).on (SM.out _) (Nat.le_of_eq eW7.symm))
  replace Mtb := hid ((Mtb.out.on (Same2.of_below HBB.out (Nat.le_refl _)) HBB.out.size).on (SM.out _) (Nat.le_of_eq eW7.symm))
  replace Mme := hid ((Mme.out.on (Same2.of_below HBB.out (Nat.le_refl _)) HBB.out.size).on (SM.out _) (Nat.le_of_eq eW7.symm))
  replace Mgl := hid ((Mgl.out.on (Same2.of_below HBB.out (Nat.le_refl _)) HBB.out.size).on (SM.out _) (Nat.le_of_eq eW7.symm))
  have Mex := hid ((HQ.out.low (lo' := w.heap.size + 2) HZ6.out).on (SM.out _) (Nat.le_of_eq eW7.symm))
  clear cz fz RA SA ZA BA HBB SM HQ hW7 eW7 HR6 HS6 HZ6 HB6
  have cj := cs_cell HR7.out (i := 9) rfl
  go_wp2_with fail
  refine (Cel.out _ HB7.out).mono ?_
  rintro r x8 ⟨v, rfl, hq, hb⟩
  obtain ⟨ael, cel, lel, rfl, hq2⟩ := hq.q
  have HQ := hid hq2
  clear hq2 hq
  rw [HNel.out]
  have ra := (hb.block w.heap.size (by have := HZ7.out; omega)).trans HR7.out
  have sa := (hb.block (w.heap.size + 1) (by have := HZ7.out; omega)).trans HS7.out
  have za : w.heap.size + 2 ≤ x8.heap.size := by have := hb.size; have := HZ7.out; omega
  have cz := cs_cell ra (i := 9) rfl
  have fz := frozen_of_row x8 w.heap.size 9 _ _ ra
  have RA := hid ra
  have SA := hid sa
  have ZA := hid za
  have BA := hid (HB7.out.trans (hb.mono HB7.out.size))
  have HBB := hid hb
  clear ra sa za hb cj Cel
  go_upto_region 9 with fail
  obtain ⟨W8, hW8⟩ : ∃ u, u = x8.setCell ⟨w.heap.size, 9, none⟩ (.slice ael nel cel) := ⟨_, rfl⟩
  rw [← hW8]
  have eW8 : W8.heap.size = x8.heap.size := by rw [hW8]; simp [World.setCell]
  have HR8 : Hid (W8.heap[w.heap.size]? = some (.cells #[.slice aty nty cty, .slice aim nim cim, .slice afu nfu cfu, .slice atb ntb ctb, .slice ame nme cme, .slice agl ngl cgl, .slice aex nex cex, .bool m.st, .int .u32 m.sn, .slice ael nel cel, .slice m.da'.a nda m.da'.c] 32 (0, 0))) := hid (by rw [hW8]; exact heap_setCell_same x8 w.heap.size 9 _ _ _ RA.out)
  have HS8 : Hid (W8.heap[w.heap.size + 1]? = some (.cells #[.slice none 0 0, .slice none 0 0, .slice none 0 0, .slice none 0 0, .slice none 0 0, .slice none 0 0, .slice none 0 0, .bool false, .int .u32 0, .slice none 0 0, .slice none 0 0] 32 (0, 0))) := hid (by rw [hW8]; exact (Below.heap_setCell x8 ⟨w.heap.size, 9, none⟩ _ (w.heap.size + 1) (by simp)).trans SA.out)
  have HZ8 : Hid (w.heap.size + 2 ≤ W8.heap.size) := hid (by rw [eW8]; exact ZA.out)
  have HB8 : Hid (Below w.heap.size w W8) := hid (by rw [hW8]; exact BA.out.setCell (by simp) _)
  have SM : Hid (∀ hi, Same2 (w.heap.size + 2) hi x8 W8) := hid (fun hi => by rw [hW8]; exact Same2.set (.inl (by omega)))
  replace Mty := hid ((Mty.out.on (Same2.of_below HBB.out (Nat.le_refl _)) HBB.out.size).on (SM.out _) (Nat.le_of_eq eW8.symm))
  replace Mim := hid ((Mim.out.on (Same2.of_below HBB.out (Nat.le_refl _)) HBB.out.size).on (SM.out _) (Nat.le_of_eq eW8.symm))
  replace Mfu := hid ((Mfu.out.on (Same2.of_below HBB.out (Nat.le_refl _)) HBB.out.size).on (SM.out _) (Nat.le_of_eq eW8.symm))
  replace Mtb := hid ((Mtb.out.on (Same2.of_below HBB.out (Nat.le_refl _)) HBB.out.size).on (SM.out _) (Nat.le_of_eq eW8.symm))
  replace Mme := hid ((Mme.out.on (Same2.of_below HBB.out (Nat.le_refl _)) HBB.out.size).on (SM.out _) (Nat.le_of_eq eW8.symm))
  replace Mgl := hid ((Mgl.out.on (Same2.of_below HBB.out (Nat.le_refl _)) HBB.out.size).on (SM.out _) (Nat.le_of_eq eW8.symm))
  replace Mex := hid ((Mex.out.on (Same2.of_below HBB.out (Nat.le_refl _)) HBB.out.size).on (SM.out _) (Nat.le_of_eq eW8.symm))
  have Mel := hid ((HQ.out.low (lo' := w.heap.size + 2) HZ7.out).on (SM.out _) (Nat.le_of_eq eW8.symm))
  clear cz fz RA SA ZA BA HBB SM HQ hW8 eW8 HR7 HS7 HZ7 HB7
  have cj := cs_cell HR8.out (i := 10) rfl
  go_wp2_with fail
  refine (Cda.out _ HB8.out).mono ?_
  rintro r x9 ⟨v, rfl, hq, hb⟩
  obtain ⟨ada, cda, lda, rfl, hq2⟩ := hq.q
  have HQ := hid hq2
  clear hq2 hq
  rw [HNda.out]
  have ra := (hb.block w.heap.size (by have := HZ8.out; omega)).trans HR8.out
  have sa := (hb.block (w.heap.size + 1) (by have := HZ8.out; omega)).trans HS8.out
  have za : w.heap.size + 2 ≤ x9.heap.size := by have := hb.size; have := HZ8.out; omega
  have cz := cs_cell ra (i := 10) rfl
  have fz := frozen_of_row x9 w.heap.size 10 _ _ ra
  have RA := hid ra
  have SA := hid sa
  have ZA := hid za
  have BA := hid (HB8.out.trans (hb.mono HB8.out.size))
  have HBB := hid hb
  clear ra sa za hb cj Cda
  go_upto_region 10 with fail
  obtain ⟨W9, hW9⟩ : ∃ u, u = x9.setCell ⟨w.heap.size, 10, none⟩ (.slice ada nda cda) := ⟨_, rfl⟩
  rw [← hW9]
  have eW9 : W9.heap.size = x9.heap.size := by rw [hW9]; simp [World.setCell]
  have HR9 : Hid (W9.heap[w.heap.size]? = some (.cells #[.slice aty nty cty, .slice aim nim cim, .slice afu nfu cfu, .slice atb ntb ctb, .slice ame nme cme, .slice agl ngl cgl, .slice aex nex cex, .bool m.st, .int .u32 m.sn, .slice ael nel cel, .slice ada nda cda] 32 (0, 0))) := hid (by rw [hW9]; exact heap_setCell_same x9 w.heap.size 10 _ _ _ RA.out)
  have HS9 : Hid (W9.heap[w.heap.size + 1]? = some (.cells #[.slice none 0 0, .slice none 0 0, .slice none 0 0, .slice none 0 0, .slice none 0 0, .slice none 0 0, .slice none 0 0, .bool false, .int .u32 0, .slice none 0 0, .slice none 0 0] 32 (0, 0))) := hid (by rw [hW9]; exact (Below.heap_setCell x9 ⟨w.heap.size, 10, none⟩ _ (w.heap.size + 1) (by simp)).trans SA.out)
  have HZ9 : Hid (w.heap.size + 2 ≤ W9.heap.size) := hid (by rw [eW9]; exact ZA.out)
  have HB9 : Hid (Below w.heap.size w W9) := hid (by rw [hW9]; exact BA.out.setCell (by simp) _)
  have SM : Hid (∀ hi, Same2 (w.heap.size + 2) hi x9 W9) := hid (fun hi => by rw [hW9]; exact Same2.set (.inl (by omega)))
  replace Mty := hid ((Mty.out.on (Same2.of_below HBB.out (Nat.le_refl _)) HBB.out.size).on (SM.out _) (Nat.le_of_eq eW9.symm))
  replace Mim := hid ((Mim.out.on (Same2.of_below HBB.out (Nat.le_refl _)) HBB.out.size).on (SM.out _) (Nat.le_of_eq eW9.symm))
  replace Mfu := hid ((Mfu.out.on (Same2.of_below HBB.out (Nat.le_refl _)) HBB.out.size).on (SM.out _) (Nat.le_of_eq eW9.symm))
  replace Mtb := hid ((Mtb.out.on (Same2.of_below HBB.out (Nat.le_refl _)) HBB.out.size).on (SM.out _) (Nat.le_of_eq eW9.symm))
  replace Mme := hid ((Mme.out.on (Same2.of_below HBB.out (Nat.le_refl _)) HBB.out.size).on (SM.out _) (Nat.le_of_eq eW9.symm))
  replace Mgl := hid ((Mgl.out.on (Same2.of_below HBB.out (Nat.le_refl _)) HBB.out.size).on (SM.out _) (Nat.le_of_eq eW9.symm))
  replace Mex := hid ((Mex.out.on (Same2.of_below HBB.out (Nat.le_refl _)) HBB.out.size).on (SM.out _) (Nat.le_of_eq eW9.symm))
  replace Mel := hid ((Mel.out.on (Same2.of_below HBB.out (Nat.le_refl _)) HBB.out.size).on (SM.out _) (Nat.le_of_eq eW9.symm))
  have Mda := hid ((HQ.out.low (lo' := w.heap.size + 2) HZ8.out).on (SM.out _) (Nat.le_of_eq eW9.symm))
  clear cz fz RA SA ZA BA HBB SM HQ hW9 eW9 HR8 HS8 HZ8 HB8
  have x0 := cs_cell HR9.out (i := 0) rfl
  have y0 := cs_cell HS9.out (i := 0) rfl
  have v0 := frozen_of_row W9 (w.heap.size + 1) 0 _ _ HS9.out
  have x1 := cs_cell HR9.out (i := 1) rfl
  have y1 := cs_cell HS9.out (i := 1) rfl
  have v1 := frozen_of_row W9 (w.heap.size + 1) 1 _ _ HS9.out
  have x2 := cs_cell HR9.out (i := 2) rfl
  have y2 := cs_cell HS9.out (i := 2) rfl
  have v2 := frozen_of_row W9 (w.heap.size + 1) 2 _ _ HS9.out
  have x3 := cs_cell HR9.out (i := 3) rfl
  have y3 := cs_cell HS9.out (i := 3) rfl
  have v3 := frozen_of_row W9 (w.heap.size + 1) 3 _ _ HS9.out
  have x4 := cs_cell HR9.out (i := 4) rfl
  have y4 := cs_cell HS9.out (i := 4) rfl
  have v4 := frozen_of_row W9 (w.heap.size + 1) 4 _ _ HS9.out
  have x5 := cs_cell HR9.out (i := 5) rfl
  have y5 := cs_cell HS9.out (i := 5) rfl
  have v5 := frozen_of_row W9 (w.heap.size + 1) 5 _ _ HS9.out
  have x6 := cs_cell HR9.out (i := 6) rfl
  have y6 := cs_cell HS9.out (i := 6) rfl
  have v6 := frozen_of_row W9 (w.heap.size + 1) 6 _ _ HS9.out
  have x7 := cs_cell HR9.out (i := 7) rfl
  have y7 := cs_cell HS9.out (i := 7) rfl
  have v7 := frozen_of_row W9 (w.heap.size + 1) 7 _ _ HS9.out
  have x8 := cs_cell HR9.out (i := 8) rfl
  have y8 := cs_cell HS9.out (i := 8) rfl
  have v8 := frozen_of_row W9 (w.heap.size + 1) 8 _ _ HS9.out
  have x9 := cs_cell HR9.out (i := 9) rfl
  have y9 := cs_cell HS9.out (i := 9) rfl
  have v9 := frozen_of_row W9 (w.heap.size + 1) 9 _ _ HS9.out
  have x10 := cs_cell HR9.out (i := 10) rfl
  have y10 := cs_cell HS9.out (i := 10) rfl
  have v10 := frozen_of_row W9 (w.heap.size + 1) 10 _ _ HS9.out
  go_wp2
  clear x0 y0 v0 x1 y1 v1 x2 y2 v2 x3 y3 v3 x4 y4 v4 x5 y5 v5 x6 y6 v6 x7 y7 v7 x8 y8 v8 x9 y9 v9 x10 y10 v10
  have HEV0 := hid (rfl : W9.heap.size = W9.heap.size)
  have HFV0 : Hid (Same2 (w.heap.size + 2) W9.heap.size W9 W9) := hid (fun _ _ _ => rfl)
  have HRV0 := HS9
  have HBV0 := HB9
  obtain ⟨V1, hV1⟩ : ∃ u, u = W9.setCell ⟨w.heap.size + 1, 0, none⟩ (.slice aty nty cty) := ⟨_, rfl⟩
  rw [← hV1]
  have HRV1 : Hid (V1.heap[w.heap.size + 1]? = some (.cells #[.slice aty nty cty, .slice none 0 0, .slice none 0 0, .slice none 0 0, .slice none 0 0, .slice none 0 0, .slice none 0 0, .bool false, .int .u32 0, .slice none 0 0, .slice none 0 0] 32 (0, 0))) := hid (by rw [hV1]; exact heap_setCell_same W9 (w.heap.size + 1) 0 _ _ _ HRV0.out)
  have HEV1 : Hid (V1.heap.size = W9.heap.size) := hid (by rw [hV1, ← HEV0.out]; simp [World.setCell])
  have HFV1 : Hid (Same2 (w.heap.size + 2) W9.heap.size W9 V1) := hid (by rw [hV1]; exact HFV0.out.trans (Same2.set (.inl (by omega))))
  have HBV1 : Hid (Below w.heap.size w V1) := hid (by rw [hV1]; exact HBV0.out.setCell (by simp) _)
  clear hV1 HRV0 HEV0 HFV0 HBV0
  obtain ⟨V2, hV2⟩ : ∃ u, u = V1.setCell ⟨w.heap.size + 1, 1, none⟩ (.slice aim nim cim) := ⟨_, rfl⟩
  rw [← hV2]
  have HRV2 : Hid (V2.heap[w.heap.size + 1]? = some (.cells #[.slice aty nty cty, .slice aim nim cim, .slice none 0 0, .slice none 0 0, .slice none 0 0, .slice none 0 0, .slice none 0 0, .bool false, .int .u32 0, .slice none 0 0, .slice none 0 0] 32 (0, 0))) := hid (by rw [hV2]; exact heap_setCell_same V1 (w.heap.size + 1) 1 _ _ _ HRV1.out)
  have HEV2 : Hid (V2.heap.size = W9.heap.size) := hid (by rw [hV2, ← HEV1.out]; simp [World.setCell])
  have HFV2 : Hid (Same2 (w.heap.size + 2) W9.heap.size W9 V2) := hid (by rw [hV2]; exact HFV1.out.trans (Same2.set (.inl (by omega))))
  have HBV2 : Hid (Below w.heap.size w V2) := hid (by rw [hV2]; exact HBV1.out.setCell (by simp) _)
  clear hV2 HRV1 HEV1 HFV1 HBV1
  obtain ⟨V3, hV3⟩ : ∃ u, u = V2.setCell ⟨w.heap.size + 1, 2, none⟩ (.slice afu nfu cfu) := ⟨_, rfl⟩
  rw [← hV3]
  have HRV3 : Hid (V3.heap[w.heap.size + 1]? = some (.cells #[.slice aty nty cty, .slice aim nim cim, .slice afu nfu cfu, .slice none 0 0, .slice none 0 0, .slice none 0 0, .slice none 0 0, .bool false, .int .u32 0, .slice none 0 0, .slice none 0 0] 32 (0, 0))) := hid (by rw [hV3]; exact heap_setCell_same V2 (w.heap.size + 1) 2 _ _ _ HRV2.out)
  have HEV3 : Hid (V3.heap.size = W9.heap.size) := hid (by rw [hV3, ← HEV2.out]; simp [World.setCell])
  have HFV3 : Hid (Same2 (w.heap.size + 2) W9.heap.size W9 V3) := hid (by rw [hV3]; exact HFV2.out.trans (Same2.set (.inl (by omega))))
  have HBV3 : Hid (Below w.heap.size w V3) := hid (by rw [hV3]; exact HBV2.out.setCell (by simp) _)
  clear hV3 HRV2 HEV2 HFV2 HBV2
  obtain ⟨V4, hV4⟩ : ∃ u, u = V3.setCell ⟨w.heap.size + 1, 3, none⟩ (.slice atb ntb ctb) := ⟨_, rfl⟩
  rw [← hV4]
  have HRV4 : Hid (V4.heap[w.heap.size + 1]? = some (.cells #[.slice aty nty cty, .slice aim nim cim, .slice afu nfu cfu, .slice atb ntb ctb, .slice none 0 0, .slice none 0 0, .slice none 0 0, .bool false, .int .u32 0, .slice none 0 0, .slice none 0 0] 32 (0, 0))) := hid (by rw [hV4]; exact heap_setCell_same V3 (w.heap.size + 1) 3 _ _ _ HRV3.out)
  have HEV4 : Hid (V4.heap.size = W9.heap.size) := hid (by rw [hV4, ← HEV3.out]; simp [World.setCell])
  have HFV4 : Hid (Same2 (w.heap.size + 2) W9.heap.size W9 V4) := hid (by rw [hV4]; exact HFV3.out.trans (Same2.set (.inl (by omega))))
  have HBV4 : Hid (Below w.heap.size w V4) := hid (by rw [hV4]; exact HBV3.out.setCell (by simp) _)
  clear hV4 HRV3 HEV3 HFV3 HBV3
  obtain ⟨V5, hV5⟩ : ∃ u, u = V4.setCell ⟨w.heap.size + 1, 4, none⟩ (.slice ame nme cme) := ⟨_, rfl⟩
  rw [← hV5]
  have HRV5 : Hid (V5.heap[w.heap.size + 1]? = some (.cells #[.slice aty nty cty, .slice aim nim cim, .slice afu nfu cfu, .slice atb ntb ctb, .slice ame nme cme, .slice none 0 0, .slice none 0 0, .bool false, .int .u32 0, .slice none 0 0, .slice none 0 0] 32 (0, 0))) := hid (by rw [hV5]; exact heap_setCell_same V4 (w.heap.size + 1) 4 _ _ _ HRV4.out)
  have HEV5 : Hid (V5.heap.size = W9.heap.size) := hid (by rw [hV5, ← HEV4.out]; simp [World.setCell])
  have HFV5 : Hid (Same2 (w.heap.size + 2) W9.heap.size W9 V5) := hid (by rw [hV5]; exact HFV4.out.trans (Same2.set (.inl (by omega))))
  have HBV5 : Hid (Below w.heap.size w V5) := hid (by rw [hV5]; exact HBV4.out.setCell (by simp) _)
  clear hV5 HRV4 HEV4 HFV4 HBV4
  obtain ⟨V6, hV6⟩ : ∃ u, u = V5.setCell ⟨w.heap.size + 1, 5, none⟩ (.slice agl ngl cgl) := ⟨_, rfl⟩
  rw [← hV6]
  have HRV6 : Hid (V6.heap[w.heap.size + 1]? = some (.cells #[.slice aty nty cty, .slice aim nim cim, .slice afu nfu cfu, .slice atb ntb ctb, .slice ame nme cme, .slice agl ngl cgl, .slice none 0 0, .bool false, .int .u32 0, .slice none 0 0, .slice none 0 0] 32 (0, 0))) := hid (by rw [hV6]; exact heap_setCell_same V5 (w.heap.size + 1) 5 _ _ _ HRV5.out)
  have HEV6 : Hid (V6.heap.size = W9.heap.size) := hid (by rw [hV6, ← HEV5.out]; simp [World.setCell])
  have HFV6 : Hid (Same2 (w.heap.size + 2) W9.heap.size W9 V6) := hid (by rw [hV6]; exact HFV5.out.trans (Same2.set (.inl (by omega))))
  have HBV6 : Hid (Below w.heap.size w V6) := hid (by rw [hV6]; exact HBV5.out.setCell (by simp) _)
  clear hV6 HRV5 HEV5 HFV5 HBV5
  obtain ⟨V7, hV7⟩ : ∃ u, u = V6.setCell ⟨w.heap.size + 1, 6, none⟩ (.slice aex nex cex) := ⟨_, rfl⟩
  rw [← hV7]
  have HRV7 : Hid (V7.heap[w.heap.size + 1]? = some (.cells #[.slice aty nty cty, .slice aim nim cim, .slice afu nfu cfu, .slice atb ntb ctb, .slice ame nme cme, .slice agl ngl cgl, .slice aex nex cex, .bool false, .int .u32 0, .slice none 0 0, .slice none 0 0] 32 (0, 0))) := hid (by rw [hV7]; exact heap_setCell_same V6 (w.heap.size + 1) 6 _ _ _ HRV6.out)
  have HEV7 : Hid (V7.heap.size = W9.heap.size) := hid (by rw [hV7, ← HEV6.out]; simp [World.setCell])
  have HFV7 : Hid (Same2 (w.heap.size + 2) W9.heap.size W9 V7) := hid (by rw [hV7]; exact HFV6.out.trans (Same2.set (.inl (by omega))))
  have HBV7 : Hid (Below w.heap.size w V7) := hid (by rw [hV7]; exact HBV6.out.setCell (by simp) _)
  clear hV7 HRV6 HEV6 HFV6 HBV6
  obtain ⟨V8, hV8⟩ : ∃ u, u = V7.setCell ⟨w.heap.size + 1, 7, none⟩ (.bool m.st) := ⟨_, rfl⟩
  rw [← hV8]
  have HRV8 : Hid (V8.heap[w.heap.size + 1]? = some (.cells #[.slice aty nty cty, .slice aim nim cim, .slice afu nfu cfu, .slice atb ntb ctb, .slice ame nme cme, .slice agl ngl cgl, .slice aex nex cex, .bool m.st, .int .u32 0, .slice none 0 0, .slice none 0 0] 32 (0, 0))) := hid (by rw [hV8]; exact heap_setCell_same V7 (w.heap.size + 1) 7 _ _ _ HRV7.out)
  have HEV8 : Hid (V8.heap.size = W9.heap.size) := hid (by rw [hV8, ← HEV7.out]; simp [World.setCell])
  have HFV8 : Hid (Same2 (w.heap.size + 2) W9.heap.size W9 V8) := hid (by rw [hV8]; exact HFV7.out.trans (Same2.set (.inl (by omega))))
  have HBV8 : Hid (Below w.heap.size w V8) := hid (by rw [hV8]; exact HBV7.out.setCell (by simp) _)
  clear hV8 HRV7 HEV7 HFV7 HBV7
  obtain ⟨V9, hV9⟩ : ∃ u, u = V8.setCell ⟨w.heap.size + 1, 8, none⟩ (.int .u32 m.sn) := ⟨_, rfl⟩
  rw [← hV9]
  have HRV9 : Hid (V9.heap[w.heap.size + 1]? = some (.cells #[.slice aty nty cty, .slice aim nim cim, .slice afu nfu cfu, .slice atb ntb ctb, .slice ame nme cme, .slice agl ngl cgl, .slice aex nex cex, .bool m.st, .int .u32 m.sn, .slice none 0 0, .slice none 0 0] 32 (0, 0))) := hid (by rw [hV9]; exact heap_setCell_same V8 (w.heap.size + 1) 8 _ _ _ HRV8.out)
  have HEV9 : Hid (V9.heap.size = W9.heap.size) := hid (by rw [hV9, ← HEV8.out]; simp [World.setCell])
  have HFV9 : Hid (Same2 (w.heap.size + 2) W9.heap.size W9 V9) := hid (by rw [hV9]; exact HFV8.out.trans (Same2.set (.inl (by omega))))
  have HBV9 : Hid (Below w.heap.size w V9) := hid (by rw [hV9]; exact HBV8.out.setCell (by simp) _)
  clear hV9 HRV8 HEV8 HFV8 HBV8
  obtain ⟨V10, hV10⟩ : ∃ u, u = V9.setCell ⟨w.heap.size + 1, 9, none⟩ (.slice ael nel cel) := ⟨_, rfl⟩
  rw [← hV10]
  have HRV10 : Hid (V10.heap[w.heap.size + 1]? = some (.cells #[.slice aty nty cty, .slice aim nim cim, .slice afu nfu cfu, .slice atb ntb ctb, .slice ame nme cme, .slice agl ngl cgl, .slice aex nex cex, .bool m.st, .int .u32 m.sn, .slice ael nel cel, .slice none 0 0] 32 (0, 0))) := hid (by rw [hV10]; exact heap_setCell_same V9 (w.heap.size + 1) 9 _ _ _ HRV9.out)
  have HEV10 : Hid (V10.heap.size = W9.heap.size) := hid (by rw [hV10, ← HEV9.out]; simp [World.setCell])
  have HFV10 : Hid (Same2 (w.heap.size + 2) W9.heap.size W9 V10) := hid (by rw [hV10]; exact HFV9.out.trans (Same2.set (.inl (by omega))))
  have HBV10 : Hid (Below w.heap.size w V10) := hid (by rw [hV10]; exact HBV9.out.setCell (by simp) _)
  clear hV10 HRV9 HEV9 HFV9 HBV9
  obtain ⟨V11, hV11⟩ : ∃ u, u = V10.setCell ⟨w.heap.size + 1, 10, none⟩ (.slice ada nda cda) := ⟨_, rfl⟩
  rw [← hV11]
  have HRV11 : Hid (V11.heap[w.heap.size + 1]? = some (.cells #[.slice aty nty cty, .slice aim nim cim, .slice afu nfu cfu, .slice atb ntb ctb, .slice ame nme cme, .slice agl ngl cgl, .slice aex nex cex, .bool m.st, .int .u32 m.sn, .slice ael nel cel, .slice ada nda cda] 32 (0, 0))) := hid (by rw [hV11]; exact heap_setCell_same V10 (w.heap.size + 1) 10 _ _ _ HRV10.out)
  have HEV11 : Hid (V11.heap.size = W9.heap.size) := hid (by rw [hV11, ← HEV10.out]; simp [World.setCell])
  have HFV11 : Hid (Same2 (w.heap.size + 2) W9.heap.size W9 V11) := hid (by rw [hV11]; exact HFV10.out.trans (Same2.set (.inl (by omega))))
  have HBV11 : Hid (Below w.heap.size w V11) := hid (by rw [hV11]; exact HBV10.out.setCell (by simp) _)
  clear hV11 HRV10 HEV10 HFV10 HBV10
  refine bodyPost_ret (v := .agg #[.slice aty nty cty, .slice aim nim cim, .slice afu nfu cfu, .slice atb ntb ctb, .slice ame nme cme, .slice agl ngl cgl, .slice aex nex cex, .bool m.st, .int .u32 m.sn, .slice ael nel cel, .slice ada nda cda]) (results_cell_row Tryz.results44 _ V11 (w.heap.size + 1) _ _ _ _ rfl HRV11.out Tryz.underlying32 rfl (by kernel_rfl)) rfl ?_
  refine ⟨aty, cty, aim, cim, afu, cfu, atb, ctb, ame, cme, agl, cgl, aex, cex, ael, cel, ada, cda, lty, lim, lfu, ltb, lme, lgl, lex, lel, lda, rfl, ⟨(Mty.out.on HFV11.out (Nat.le_of_eq HEV11.out.symm)).low (by omega), (Mim.out.on HFV11.out (Nat.le_of_eq HEV11.out.symm)).low (by omega), (Mfu.out.on HFV11.out (Nat.le_of_eq HEV11.out.symm)).low (by omega), (Mtb.out.on HFV11.out (Nat.le_of_eq HEV11.out.symm)).low (by omega), (Mme.out.on HFV11.out (Nat.le_of_eq HEV11.out.symm)).low (by omega), (Mgl.out.on HFV11.out (Nat.le_of_eq HEV11.out.symm)).low (by omega), (Mex.out.on HFV11.out (Nat.le_of_eq HEV11.out.symm)).low (by omega), (Mel.out.on HFV11.out (Nat.le_of_eq HEV11.out.symm)).low (by omega), (Mda.out.on HFV11.out (Nat.le_of_eq HEV11.out.symm)).low (by omega)⟩, HBV11.out⟩
end Go.Proofs.YtckdnhafookcgaaGreatDoor.Mod

namespace Go.Proofs.YtckdnhafookcgaaGreatDoor.Mod
open Go.RowKit Go.Proofs.YtckdnhafookcgaaGreatDoor.Instr
set_option linter.unusedVariables false

theorem map_memS {α β : Type} {f : α → β} {l r : List α} (h : l.map f = r.map f) {x : α} (hx : x ∈ l) : ∃ y ∈ r, f y = f x := by
  have : f x ∈ r.map f := by rw [← h]; exact List.mem_map_of_mem hx
  obtain ⟨y, hy, e⟩ := List.mem_map.1 this
  exact ⟨y, hy, e⟩
theorem map_lenS {α β : Type} {f : α → β} {l r : List α} (h : l.map f = r.map f) : l.length = r.length := by
  have := congrArg List.length h
  simpa using this
theorem codes_coreS {a b : Md} (h : b.bare = a.bare) {l : Lst} (hl : l ∈ b.codes) : ∃ r ∈ a.codes, r.t.bare = l.t.bare := by
  have e : b.codes.map Lst.bare = a.codes.map Lst.bare := by rw [← bare_codes, ← bare_codes, h]
  obtain ⟨r, hr, he⟩ := map_memS e hl
  unfold Lst.bare at he
  simp only [Lst.mk.injEq, true_and] at he
  exact ⟨r, hr, he⟩
theorem fits_coreS {a b : Md} (h : b.bare = a.bare) (f : a.fits) : b.fits := by
  have S := same_iff.1 h
  refine ⟨by rw [S.ty]; exact f.ty, by rw [S.im]; exact f.im, by rw [map_lenS S.fu]; exact f.fu, by rw [S.tb]; exact f.tb, by rw [S.me]; exact f.me, by rw [map_lenS S.gl]; exact f.gl, by rw [S.ex]; exact f.ex, by rw [map_lenS S.el]; exact f.el, by rw [map_lenS S.da]; exact f.da, fun l hl => ?_, fun e he => ?_, fun d hd => ?_, by rw [S.im]; exact f.iS, by rw [S.ex]; exact f.eS⟩
  · obtain ⟨r, hr, e⟩ := codes_coreS h hl
    rw [← bare_len, ← e, bare_len]; exact f.ls r hr
  · obtain ⟨x, hx, e⟩ := map_memS S.el he
    unfold El.bare at e
    simp only [El.mk.injEq, true_and] at e
    rw [← e.2]; exact f.fs x hx
  · obtain ⟨x, hx, e⟩ := map_memS S.da hd
    unfold Da.bare at e
    simp only [Da.mk.injEq, true_and] at e
    rw [← e.2]; exact f.bs x hx
theorem mem_br {α : Type} {f : α → α} {l l' : List α} (h : l'.map f = l.map f) {x : α} (hx : x ∈ l') : ∃ y ∈ l, f x = f y := by
  have : f x ∈ l.map f := by rw [← h]; exact List.mem_map.2 ⟨x, hx, rfl⟩
  obtain ⟨y, hy, e⟩ := List.mem_map.1 this
  exact ⟨y, hy, e.symm⟩
theorem id_br {α : Type} {l l' : List α} (h : l'.map id = l.map id) : l' = l := by simpa using h
end Go.Proofs.YtckdnhafookcgaaGreatDoor.Mod

namespace Go.Proofs.YtckdnhafookcgaaGreatDoor.Mod.S
open Go.RowKit Go.Proofs.YtckdnhafookcgaaGreatDoor.Instr
set_option linter.unusedVariables false

/-- What an item holds besides its own cells. -/
structure Part where
  l : Lst
  ta : Option Addr
  ts : List Int
  ba : Option Addr
  bc : Nat
  bs : List Int
def blkA : Option Addr → List Nat
  | none => []
  | some p => [p.block]
def Part.foot (p : Part) : List Nat := (blkOf p.l.t.len p.l.a ++ p.l.t.foot) ++ (blkOf p.ts.length p.ta ++ blkA p.ba)
def Part.lies (p : Part) (w : World) : Prop := ListAt w.heap.size w p.l.a p.l.t.len p.l.t ∧ TagsAt w.heap.size w p.ta p.ts ∧ (∀ q ∈ blkOf p.l.t.len p.l.a ++ p.l.t.foot, Soft w q) ∧ (∀ q ∈ blkOf p.ts.length p.ta, Soft w q) ∧ BytesO 0 w.heap.size w p.ba p.bs p.bc
theorem bytes_touch {S : Nat → Prop} {w w' : World} {a : Option Addr} {zs : List Int} {c : Nat} (h : BytesO 0 w.heap.size w a zs c) (ht : Touch S w w') (hk : ∀ q ∈ blkA a, ¬ S q) : BytesO 0 w'.heap.size w' a zs c := by
  obtain ⟨⟨h1, h2, h3⟩, h4⟩ := h
  refine ⟨⟨h1, h2, ?_⟩, ?_⟩
  · rcases h3 with h | ⟨b, off, rfl, ⟨_, hlt, cs, e, hh⟩, hc⟩
    · exact .inl h
    · refine .inr ⟨b, off, rfl, ⟨Nat.zero_le _, Nat.lt_of_lt_of_le hlt ht.size, cs, e, (ht.block b hlt (hk b (by simp [blkA]))).trans hh⟩, fun i hi => ?_⟩
      obtain ⟨z, hz⟩ := hc i hi
      exact ⟨z, ht.cell (p := ⟨b, off + i, none⟩) (hk b (by simp [blkA])) hz⟩
  · rcases h4 with h | ⟨b, off, rfl, hl, hc⟩
    · exact .inl h
    · exact .inr ⟨b, off, rfl, Nat.lt_of_lt_of_le hl ht.size, fun i hi => ht.cell (p := ⟨b, off + i, none⟩) (hk b (by simp [blkA])) (hc i hi)⟩
theorem bytes_blk {lo hi : Nat} {w : World} {a : Option Addr} {zs : List Int} {c : Nat} (h : BytesO lo hi w a zs c) : ∀ q ∈ blkA a, lo ≤ q ∧ q < hi := by
  intro q hq
  rcases h.1.2.2 with ⟨h, _⟩ | ⟨b, off, h, hb, _⟩
  · rw [h] at hq; simp [blkA] at hq
  · rw [h] at hq
    simp only [blkA, List.mem_singleton] at hq
    subst hq
    exact ⟨hb.1, hb.2.1⟩
theorem Part.touch {S : Nat → Prop} {p : Part} {w w' : World} (h : p.lies w) (ht : Touch S w w') (hk : ∀ q ∈ p.foot, ¬ S q) : p.lies w' := by
  obtain ⟨h1, h2, h3, h4, h5⟩ := h
  have k1 : ∀ q ∈ blkOf p.l.t.len p.l.a ++ p.l.t.foot, ¬ S q := fun q hq => hk q (List.mem_append_left _ hq)
  have k2 : ∀ q ∈ blkOf p.ts.length p.ta, ¬ S q := fun q hq => hk q (List.mem_append_right _ (List.mem_append_left _ hq))
  have k3 : ∀ q ∈ blkA p.ba, ¬ S q := fun q hq => hk q (List.mem_append_right _ (List.mem_append_right _ hq))
  exact ⟨(h1.touch ht k1).more ht.size, (h2.touch ht k2).more ht.size, fun q hq => (h3 q hq).touch ht (k1 q hq), fun q hq => (h4 q hq).touch ht (k2 q hq), bytes_touch h5 ht k3⟩

section
variable {α : Type}
/-- Items that have been copied so far, in memory of their own. -/
structure Got (e : TypeId) (sz base : Nat) (f : α → List Value) (p : α → Part) (W : World) (v : Value) (us : List α) : Prop where
  row : OwnR e sz base W v (us.map f)
  kids : ∀ x ∈ us, (p x).lies W
  low : ∀ x ∈ us, ∀ q ∈ (p x).foot, base ≤ q
  lt : ∀ x ∈ us, ∀ q ∈ (p x).foot, q < W.heap.size
  apart : ∀ x ∈ us, ∀ q ∈ (p x).foot, v.ownBlock ≠ some q
theorem Got.touch {e : TypeId} {sz base : Nat} {f : α → List Value} {p : α → Part} {S : Nat → Prop} {W W' : World} {v : Value} {us : List α} (h : Got e sz base f p W v us) (ht : Touch S W W') (hs : ∀ q, base ≤ q → q < W.heap.size → ¬ S q) : Got e sz base f p W' v us :=
  ⟨h.row.touch ht (fun g hg => hs g (World.ownsRow.lt h.row.row g hg).1 (World.ownsRow.lt h.row.row g hg).2), fun x hx => Part.touch (h.kids x hx) ht (fun q hq => hs q (h.low x hx q hq) (h.lt x hx q hq)), h.low, fun x hx q hq => Nat.lt_of_lt_of_le (h.lt x hx q hq) ht.size, h.apart⟩
/-- Behind what turns one block, that lies below them. -/
theorem Got.save {e : TypeId} {sz base k : Nat} {f : α → List Value} {p : α → Part} {W W' : World} {v : Value} {us : List α} (h : Got e sz base f p W v us) (hs : Save k W W') (hk : k < base) : Got e sz base f p W' v us :=
  h.touch (.of_save hs) (fun q hq _ e => by omega)
theorem Got.below {e : TypeId} {sz base : Nat} {f : α → List Value} {p : α → Part} {W W' : World} {v : Value} {us : List α} (h : Got e sz base f p W v us) (hb : Below W.heap.size W W') : Got e sz base f p W' v us :=
  h.touch (S := fun _ => False) (.of_below hb) (fun _ _ _ h => h)
/-- One more. -/
theorem Got.snoc {e : TypeId} {sz base : Nat} {f : α → List Value} {p : α → Part} {W W3 : World} {v v' : Value} {us : List α} {x : α} {n0 : Nat} (h : Got e sz base f p W v us) (hx : (p x).lies W) (hlo : ∀ q ∈ (p x).foot, n0 ≤ q) (hlt : ∀ q ∈ (p x).foot, q < W.heap.size) (hb : base ≤ n0) (hv : ∀ g, v.ownBlock = some g → g < n0)
    (hown : OwnR e sz base W3 v' (us.map f ++ [f x])) (hg : W.grownBy W3 v.ownBlock) (hat : ∀ g, v'.ownBlock = some g → v.ownBlock = some g ∨ W.heap.size ≤ g) : Got e sz base f p W3 v' (us ++ [x]) := by
  have ht : Touch (fun j => v.ownBlock = some j) W W3 := Touch.of_grown hg
  have hne : ∀ q ∈ (p x).foot, v.ownBlock ≠ some q := fun q hq e => by
    have h1 := hlo q hq
    have h2 := hv q e
    omega
  refine ⟨by rw [List.map_append]; exact hown, ?_, ?_, ?_, ?_⟩
  · intro y hy
    rcases List.mem_append.1 hy with hy | hy
    · exact Part.touch (h.kids y hy) ht (h.apart y hy)
    · rw [List.mem_singleton] at hy; subst hy
      exact Part.touch hx ht hne
  · intro y hy q hq
    rcases List.mem_append.1 hy with hy | hy
    · exact h.low y hy q hq
    · rw [List.mem_singleton] at hy; subst hy
      exact Nat.le_trans hb (hlo q hq)
  · intro y hy q hq
    rcases List.mem_append.1 hy with hy | hy
    · exact Nat.lt_of_lt_of_le (h.lt y hy q hq) ht.size
    · rw [List.mem_singleton] at hy; subst hy
      exact Nat.lt_of_lt_of_le (hlt q hq) ht.size
  · intro y hy q hq e
    rcases List.mem_append.1 hy with hy | hy
    · rcases hat q e with e2 | e2
      · exact h.apart y hy q hq e2
      · have := h.lt y hy q hq; omega
    · rw [List.mem_singleton] at hy; subst hy
      rcases hat q e with e2 | e2
      · exact hne q hq e2
      · have := hlt q hq; omega
end
theorem foot_lt {p : Part} {w : World} (h : p.lies w) : ∀ q ∈ p.foot, q < w.heap.size := by
  obtain ⟨h1, h2, _, _, h5⟩ := h
  intro q hq
  rcases List.mem_append.1 hq with hq | hq
  · exact list_lt h1 q hq
  · rcases List.mem_append.1 hq with hq | hq
    · exact tags_lt h2 q hq
    · exact (bytes_blk h5 q hq).2
end Go.Proofs.YtckdnhafookcgaaGreatDoor.Mod.S

namespace Go.Proofs.YtckdnhafookcgaaGreatDoor.Mod.S
open Go.RowKit Go.Proofs.YtckdnhafookcgaaGreatDoor.Instr
set_option linter.unusedVariables false

section
variable {α : Type}
/-- What an append of one item gives. -/
theorem Got.more {e : TypeId} {sz nb base n0 : Nat} {f : α → List Value} {p : α → Part} {W w' : World} {v : Value} {us : List α} (x0 : α) (hG : Got e sz base f p W v us) (hlen : (f x0).length = sz) (hlie : (p x0).lies W) (hlo : ∀ q ∈ (p x0).foot, n0 ≤ q) (hb : base ≤ n0) (hv : ∀ g, v.ownBlock = some g → g < n0) {g cap : Nat}
    (hown : w'.ownsRow base e sz (.slice (some ⟨g, 0, none⟩) (us.length + 1) cap) (us.length + 1) ((us.map f).flatten ++ f x0)) (hgrow : (W.alloc (.cells (f x0).toArray e)).grownBy w' v.ownBlock) (hat : v.ownBlock = some g ∨ g = W.heap.size + 1) :
    Got e sz base f p w' (.slice (some ⟨g, 0, none⟩) (us.length + 1) cap) (us ++ [x0]) := by
  have hb1 := (Below.refl W.heap.size W).alloc (Nat.le_refl _) (.cells (f x0).toArray e)
  have hG1 := hG.below hb1
  have hs1 : (W.alloc (.cells (f x0).toArray e)).heap.size = W.heap.size + 1 := by simp
  refine Got.snoc (n0 := n0) hG1 (Part.touch (S := fun _ => False) hlie (.of_below hb1) (fun _ _ h => h)) hlo (fun q hq => by have := foot_lt hlie q hq; omega) hb hv ⟨?_, ?_⟩ hgrow (fun q hq => ?_)
  · rw [List.flatten_append, List.length_append, List.length_map]
    simpa using hown
  · intro r hr
    rcases List.mem_append.1 hr with hr | hr
    · exact hG.row.len r hr
    · rw [List.mem_singleton] at hr; subst hr; exact hlen
  · simp only [Value.ownBlock, Option.some.injEq] at hq
    subst hq
    rcases hat with h | h
    · exact .inl h
    · right; omega
end
section
variable {ops : Array Oper} {rest : List Oper} {o : Oper} {act : Act} {Q : Exit → Act → World → Prop} {α : Type}
end
theorem Got.rows {α : Type} {e : TypeId} {sz base : Nat} {f : α → List Value} {p : α → Part} {W : World} {v : Value} {us : List α} (h : Got e sz base f p W v us) : ∃ a c, v = .slice a us.length c ∧ Rows W.heap.size W a sz (us.map f) := by
  obtain ⟨a, c, hv, hr, _⟩ := h.row.rows
  rw [List.length_map] at hv
  exact ⟨a, c, hv, hr⟩
end Go.Proofs.YtckdnhafookcgaaGreatDoor.Mod.S

namespace Go.Proofs.YtckdnhafookcgaaGreatDoor.Mod
open Go.RowKit Go.Proofs.YtckdnhafookcgaaGreatDoor.Instr
set_option linter.unusedVariables false

/-- Blocks of cells from lo to hi are the same. -/
def SameC (lo hi : Nat) (w w' : World) : Prop := ∀ (b : Nat) (o : Obj), lo ≤ b → b < hi → w.heap[b]? = some o → o.isCells = true → w'.heap[b]? = some o
theorem SameC.of_below {n lo hi : Nat} {w w' : World} (h : Below n w w') (hn : hi ≤ n) : SameC lo hi w w' := fun b o _ h2 h3 _ => (h.block b (by omega)).trans h3
theorem SameC.blk {lo hi b : Nat} {w w' : World} (s : SameC lo hi w w') (hb : Blk lo hi w b) : w'.heap[b]? = w.heap[b]? := by
  obtain ⟨h1, h2, cs, e, h3⟩ := hb
  rw [h3]
  exact s b _ h1 h2 h3 rfl
theorem SameC.cell {lo hi b i : Nat} {w w' : World} (s : SameC lo hi w w') (hb : Blk lo hi w b) : w'.cell? ⟨b, i, none⟩ = w.cell? ⟨b, i, none⟩ := World.cell?_of_block (w := w) (a := ⟨b, i, none⟩) (s.blk hb)
theorem Blk.frameC {lo hi b : Nat} {w w' : World} (s : SameC lo hi w w') (h : Blk lo hi w b) : Blk lo hi w' b := ⟨h.1, h.2.1, by rw [s.blk h]; exact h.2.2⟩
theorem TagsO.frameC {lo hi : Nat} {w w' : World} (s : SameC lo hi w w') {a : Option Addr} {zs : List Int} (h : TagsO lo hi w a zs) : TagsO lo hi w' a zs := by
  rcases h with h | ⟨b, off, ha, hb, hc⟩
  · exact .inl h
  · exact .inr ⟨b, off, ha, hb.frameC s, fun i hi => (s.cell hb).trans (hc i hi)⟩
theorem ItemsO.frameC {lo hi : Nat} {w w' : World} (s : SameC lo hi w w') : ∀ {t : Il} {b off : Nat}, ItemsO lo hi w b off t → ItemsO lo hi w' b off t
  | .nil, _, _, _ => trivial
  | .cons x l e r, b, off, ⟨hb, hx, hc, ht, ⟨l1, l2⟩, ⟨e1, e2⟩, hr⟩ => by
    refine ⟨hb.frameC s, hx, fun j v hj => (s.cell hb).trans (hc j v hj), ht.frameC s, ⟨l1, ?_⟩, ⟨e1, ?_⟩, ItemsO.frameC s hr⟩
    · rcases l2 with h | ⟨b', o', h1, h2⟩
      · exact .inl h
      · exact .inr ⟨b', o', h1, ItemsO.frameC s h2⟩
    · rcases e2 with h | ⟨b', o', h1, h2⟩
      · exact .inl h
      · exact .inr ⟨b', o', h1, ItemsO.frameC s h2⟩
theorem ListO.frameC {lo hi n : Nat} {w w' : World} (s : SameC lo hi w w') {a : Option Addr} {t : Il} (h : ListO lo hi w a n t) : ListO lo hi w' a n t := by
  refine ⟨h.1, ?_⟩
  rcases h.2 with h | ⟨b, off, h1, h2⟩
  · exact .inl h
  · exact .inr ⟨b, off, h1, h2.frameC s⟩
theorem RoomO.frameC {lo hi n c : Nat} {w w' : World} (s : SameC lo hi w w') {a : Option Addr} (h : RoomO lo hi w a n c) : RoomO lo hi w' a n c := by
  refine ⟨h.1, h.2.1, ?_⟩
  rcases h.2.2 with h | ⟨b, off, h1, h2, h3⟩
  · exact .inl h
  · exact .inr ⟨b, off, h1, h2.frameC s, fun i hi => by obtain ⟨z, hz⟩ := h3 i hi; exact ⟨z, (s.cell h2).trans hz⟩⟩
theorem BytesO.frameC {lo hi c : Nat} {w w' : World} (s : SameC lo hi w w') {a : Option Addr} {zs : List Int} (h : BytesO lo hi w a zs c) : BytesO lo hi w' a zs c := by
  refine ⟨h.1.frameC s, ?_⟩
  rcases h.2 with h2 | ⟨b, off, ha, hb, hc⟩
  · exact .inl h2
  · rcases h.1.2.2 with ⟨h3, h4⟩ | ⟨b', off', h1, h2, h3⟩
    · rw [ha] at h3; cases h3
    · rw [ha] at h1
      simp only [Option.some.injEq, Addr.mk.injEq, and_true] at h1
      obtain ⟨rfl, rfl⟩ := h1
      exact .inr ⟨b, off, ha, hb, fun i hi => (s.cell h2).trans (hc i hi)⟩
theorem CellO.frameC {lo hi : Nat} {w w' : World} (s : SameC lo hi w w') {k : Kd} {v : Value} (h : CellO lo hi w k v) : CellO lo hi w' k v := by
  cases k with
  | i64 => exact h
  | u32 => exact h
  | bool => exact h
  | str => exact h
  | lst => obtain ⟨a, n, c, t, h1, h2, h3⟩ := h; exact ⟨a, n, c, t, h1, h2.frameC s, h3⟩
  | tags => obtain ⟨a, n, c, zs, h1, h2, h3, h4, h5⟩ := h; exact ⟨a, n, c, zs, h1, h2, h3.frameC s, h4, h5⟩
  | room => obtain ⟨a, n, c, h1, h2⟩ := h; exact ⟨a, n, c, h1, h2.frameC s⟩
theorem RowO.frameC {lo hi n : Nat} {w w' : World} (s : SameC lo hi w w') {ks : List Kd} {a : Option Addr} (h : RowO lo hi w ks a n) : RowO lo hi w' ks a n := by
  rcases h with h | ⟨b, off, h1, h2, h3⟩
  · exact .inl h
  · refine .inr ⟨b, off, h1, h2.frameC s, fun i hi j k hk => ?_⟩
    obtain ⟨v, g1, g2⟩ := h3 i hi j k hk
    exact ⟨v, (s.cell h2).trans g1, g2.frameC s⟩
theorem ModO.frameC {lo hi : Nat} {w w' : World} (s : SameC lo hi w w') {m : Md} (h : ModO lo hi w m) : ModO lo hi w' m :=
  ⟨h.ty.frameC s, h.im.frameC s, h.fu.frameC s, h.gl.frameC s, h.ex.frameC s, h.el.frameC s, h.da.frameC s⟩
theorem MapQ.onC {α : Type} {K : Kin α} {l l' : List α} {lo : Nat} {w w' : World} {a : Option Addr} (h : MapQ K l lo w a l') (s : SameC lo w.heap.size w w') (hz : w.heap.size ≤ w'.heap.size) (hK : ∀ x, K.own lo w.heap.size w x → K.own lo w.heap.size w' x) : MapQ K l lo w' a l' := by
  refine ⟨h.len, h.br, ?_, ?_, fun x hx => K.mono (Nat.le_refl _) hz (hK x (h.own x hx))⟩
  · rcases h.blk with h1 | ⟨b, off, h1, h2⟩
    · exact .inl h1
    · exact .inr ⟨b, off, h1, (h2.frameC s).mono (Nat.le_refl _) hz⟩
  · rcases h.blk with h1 | ⟨b, off, h1, h2⟩
    · exact .inl (by rw [h1]; rfl)
    · rcases h.rows with h3 | ⟨b', off', h3, h4, h5⟩
      · exact .inl h3
      · rw [h1] at h3
        simp only [Option.some.injEq, Addr.mk.injEq, and_true] at h3
        obtain ⟨rfl, rfl⟩ := h3
        exact .inr ⟨b, off, h1, by omega, fun i hi j hj v hv => (s.cell h2).trans (h5 i hi j hj v hv)⟩
/-- One module is a copy of another one, in blocks of its own. -/
structure OwnM (lo : Nat) (w : World) (m d : Md) : Prop where
  cps : Cps lo w m d.ty'.a d.im'.a d.fu'.a d.tb'.a d.me'.a d.gl'.a d.ex'.a d.el'.a d.da'.a d.ty d.im d.fu d.tb d.me d.gl d.ex d.el d.da
  st : d.st = m.st
  sn : d.sn = m.sn
theorem OwnM.on {lo : Nat} {w w' : World} {m d : Md} (h : OwnM lo w m d) (s : SameC lo w.heap.size w w') (hz : w.heap.size ≤ w'.heap.size) : OwnM lo w' m d :=
  ⟨⟨h.cps.ty.onC s hz (fun _ h => h), h.cps.im.onC s hz (fun _ h => h), h.cps.fu.onC s hz (fun x h => ListO.frameC s h), h.cps.tb.onC s hz (fun _ h => h), h.cps.me.onC s hz (fun _ h => h), h.cps.gl.onC s hz (fun x h => ListO.frameC s h), h.cps.ex.onC s hz (fun _ h => h), h.cps.el.onC s hz (fun x h => ⟨ListO.frameC s h.1, TagsO.frameC s h.2⟩), h.cps.da.onC s hz (fun x h => ⟨ListO.frameC s h.1, BytesO.frameC s h.2⟩)⟩, h.st, h.sn⟩
theorem OwnM.bare {lo : Nat} {w : World} {m d : Md} (h : OwnM lo w m d) : d.bare = m.bare := same_iff.2 ⟨id_br h.cps.ty.br, id_br h.cps.im.br, h.cps.fu.br, id_br h.cps.tb.br, id_br h.cps.me.br, h.cps.gl.br, id_br h.cps.ex.br, h.st, h.sn, h.cps.el.br, h.cps.da.br⟩
theorem OwnM.facts {lo : Nat} {w : World} {m d : Md} (h : OwnM lo w m d) (hf : m.fits) (hr : ∀ e ∈ m.el, ∀ z ∈ e.fs, 0 ≤ z ∧ z < 4294967296) : ModAt w.heap.size w d ∧ ModO lo w.heap.size w d ∧ d.fits := by
  have hff := fits_coreS h.bare hf
  have lfu' : ∀ x ∈ d.fu, x.l.t.len ≤ 140737488351232 := fun x hx => hff.ls x.l (by unfold Md.codes; exact List.mem_append_left _ (List.mem_map.2 ⟨x, hx, rfl⟩))
  have lgl' : ∀ x ∈ d.gl, x.l.t.len ≤ 140737488351232 := fun x hx => hff.ls x.l (by unfold Md.codes; exact List.mem_append_right _ (List.mem_append_left _ (List.mem_map.2 ⟨x, hx, rfl⟩)))
  have lel' : ∀ x ∈ d.el, x.l.t.len ≤ 140737488351232 := fun x hx => hff.ls x.l (by unfold Md.codes; exact List.mem_append_right _ (List.mem_append_right _ (List.mem_append_left _ (List.mem_map.2 ⟨x, hx, rfl⟩))))
  have lda' : ∀ x ∈ d.da, x.l.t.len ≤ 140737488351232 := fun x hx => hff.ls x.l (by unfold Md.codes; exact List.mem_append_right _ (List.mem_append_right _ (List.mem_append_right _ (List.mem_map.2 ⟨x, hx, rfl⟩))))
  refine ⟨⟨h.cps.ty.rows, h.cps.im.rows, h.cps.fu.rows, h.cps.tb.rows, h.cps.me.rows, h.cps.gl.rows, h.cps.ex.rows, h.cps.el.rows, h.cps.da.rows, fun l hl => ?_, fun e he => (h.cps.el.own e he).2.at, fun d hd => (h.cps.da.own d hd).2.2⟩, ⟨?_, ?_, ?_, ?_, ?_, ?_, ?_⟩, hff⟩
  · unfold Md.codes at hl
    rcases List.mem_append.1 hl with hl | hl
    · obtain ⟨x, hx, rfl⟩ := List.mem_map.1 hl
      exact (h.cps.fu.own x hx).at
    · rcases List.mem_append.1 hl with hl | hl
      · obtain ⟨x, hx, rfl⟩ := List.mem_map.1 hl
        exact (h.cps.gl.own x hx).at
      · rcases List.mem_append.1 hl with hl | hl
        · obtain ⟨x, hx, rfl⟩ := List.mem_map.1 hl
          exact (h.cps.el.own x hx).1.at
        · obtain ⟨x, hx, rfl⟩ := List.mem_map.1 hl
          exact (h.cps.da.own x hx).1.at
  · refine h.cps.ty.rowO (K := kTy) rfl fun x _ _ j k hjk => ?_
    match j, hjk with
    | 0, e => cases e; exact ⟨_, rfl, _, rfl⟩
    | 1, e => cases e; exact ⟨_, rfl, _, rfl⟩
    | j + 2, e => simp at e
  · refine h.cps.im.rowO (K := kIm) rfl fun x _ _ j k hjk => ?_
    match j, hjk with
    | 0, e => cases e; exact ⟨_, rfl, _, rfl⟩
    | 1, e => cases e; exact ⟨_, rfl, _, rfl⟩
    | 2, e => cases e; exact ⟨_, rfl, _, rfl⟩
    | j + 3, e => simp at e
  · refine h.cps.fu.rowO (K := kFn) rfl fun x hx ho j k hjk => ?_
    match j, hjk with
    | 0, e => cases e; exact ⟨_, rfl, _, rfl⟩
    | 1, e => cases e; exact ⟨_, rfl, _, rfl⟩
    | 2, e => cases e; exact ⟨_, rfl, _, _, _, _, rfl, ho, lfu' x hx⟩
    | j + 3, e => simp at e
  · refine h.cps.gl.rowO (K := kGl) rfl fun x hx ho j k hjk => ?_
    match j, hjk with
    | 0, e => cases e; exact ⟨_, rfl, _, rfl⟩
    | 1, e => cases e; exact ⟨_, rfl, _, _, _, _, rfl, ho, lgl' x hx⟩
    | j + 2, e => simp at e
  · refine h.cps.ex.rowO (K := kEx) rfl fun x _ _ j k hjk => ?_
    match j, hjk with
    | 0, e => cases e; exact ⟨_, rfl, _, rfl⟩
    | 1, e => cases e; exact ⟨_, rfl, _, rfl⟩
    | 2, e => cases e; exact ⟨_, rfl, _, rfl⟩
    | j + 3, e => simp at e
  · refine h.cps.el.rowO (K := kEl) rfl fun x hx ho j k hjk => ?_
    match j, hjk with
    | 0, e => cases e; exact ⟨_, rfl, _, _, _, _, rfl, ho.1, lel' x hx⟩
    | 1, e =>
      cases e
      refine ⟨_, rfl, _, _, _, _, rfl, rfl, ho.2, ?_, hff.fs x hx⟩
      obtain ⟨y, hy, hxy⟩ := mem_br h.cps.el.br hx
      have e : El.bare x = El.bare y := hxy
      have e2 := congrArg El.fs e
      have : x.fs = y.fs := e2
      rw [this]
      exact hr y hy
    | j + 2, e => simp at e
  · refine h.cps.da.rowO (K := kDa) rfl fun x hx ho j k hjk => ?_
    match j, hjk with
    | 0, e => cases e; exact ⟨_, rfl, _, _, _, _, rfl, ho.1, lda' x hx⟩
    | 1, e => cases e; exact ⟨_, rfl, _, _, _, rfl, ho.2.1⟩
    | j + 2, e => simp at e
/-- module.Copy: another module of the same bare content, whose blocks are its own. -/
theorem Copy_own (m : Md) (w : World) (hi : m.inp w) : Calls Tryz.prog 44 #[.agg m.v] w fun e w' => ∃ d : Md, e = .returned (.agg d.v) ∧ OwnM w.heap.size w' m d ∧ Below w.heap.size w w' := by
  refine (Copy_any m w hi).mono ?_
  rintro e w' ⟨aty, cty, aim, cim, afu, cfu, atb, ctb, ame, cme, agl, cgl, aex, cex, ael, cel, ada, cda, lty, lim, lfu, ltb, lme, lgl, lex, lel, lda, rfl, hc, hb⟩
  refine ⟨⟨lty, lim, lfu, ltb, lme, lgl, lex, m.st, m.sn, lel, lda, ⟨aty, cty⟩, ⟨aim, cim⟩, ⟨afu, cfu⟩, ⟨atb, ctb⟩, ⟨ame, cme⟩, ⟨agl, cgl⟩, ⟨aex, cex⟩, ⟨ael, cel⟩, ⟨ada, cda⟩⟩, ?_, ⟨hc, rfl, rfl⟩, hb⟩
  unfold Md.v
  dsimp only
  rw [hc.ty.len, hc.im.len, hc.fu.len, hc.tb.len, hc.me.len, hc.gl.len, hc.ex.len, hc.el.len, hc.da.len]
theorem codes_Fn {m : Md} {x : Fn} (h : x ∈ m.fu) : x.l ∈ m.codes := by unfold Md.codes; exact List.mem_append_left _ (List.mem_map.2 ⟨x, h, rfl⟩)
theorem codes_Gl {m : Md} {x : Gl} (h : x ∈ m.gl) : x.l ∈ m.codes := by unfold Md.codes; exact List.mem_append_right _ (List.mem_append_left _ (List.mem_map.2 ⟨x, h, rfl⟩))
theorem codes_El {m : Md} {x : El} (h : x ∈ m.el) : x.l ∈ m.codes := by unfold Md.codes; exact List.mem_append_right _ (List.mem_append_right _ (List.mem_append_left _ (List.mem_map.2 ⟨x, h, rfl⟩)))
theorem codes_Da {m : Md} {x : Da} (h : x ∈ m.da) : x.l ∈ m.codes := by unfold Md.codes; exact List.mem_append_right _ (List.mem_append_right _ (List.mem_append_right _ (List.mem_map.2 ⟨x, h, rfl⟩)))
mutual
theorem weight_bare : ∀ t : Il, t.bare.weight = t.weight
  | .nil => rfl
  | .cons x l e r => by simp only [Il.bare, Il.weight, weight_bare l, weight_bare e, weight_bare r]; rfl
end
/-- What module.Copy wants of a copy of a small module. -/
theorem inp_core {a c : Md} {w : World} (h : c.bare = a.bare) (hs : a.small 5000) (hf : a.fits) (hm : ModAt w.heap.size w c) : c.inp w := by
  have S := same_iff.1 h
  have hl := hs.lens
  have hcf := fits_coreS h hf
  have hw : ∀ l ∈ c.codes, l.t.weight ≤ 1000000000 := fun l hl => by
    obtain ⟨r, hr, e⟩ := codes_coreS h hl
    rw [← weight_bare, ← e, weight_bare]
    exact Nat.le_trans (hs.ls r hr) (by omega)
  have l3 := map_lenS S.fu
  have l6 := map_lenS S.gl
  have l8 := map_lenS S.el
  have l9 := map_lenS S.da
  refine ⟨hm, by rw [S.ty]; omega, by rw [S.im]; omega, by omega, by rw [S.tb]; omega, by rw [S.me]; omega, by omega, by rw [S.ex]; omega, by omega, by omega, fun x hx => ?_, fun x hx => ?_, fun x hx => ?_, fun x hx => ?_⟩
  · exact ⟨hm.ls _ (codes_Fn hx), hw _ (codes_Fn hx), hcf.ls _ (codes_Fn hx)⟩
  · exact ⟨hm.ls _ (codes_Gl hx), hw _ (codes_Gl hx), hcf.ls _ (codes_Gl hx)⟩
  · refine ⟨hm.ls _ (codes_El hx), hw _ (codes_El hx), hcf.ls _ (codes_El hx), hm.fs x hx, ?_⟩
    obtain ⟨y, hy, e⟩ := map_memS S.el hx
    unfold El.bare at e
    simp only [El.mk.injEq, true_and] at e
    rw [← e.2]
    exact Nat.le_trans (hs.fs y hy) (by omega)
  · refine ⟨hm.ls _ (codes_Da hx), hw _ (codes_Da hx), hcf.ls _ (codes_Da hx), hm.bs x hx, ?_⟩
    obtain ⟨y, hy, e⟩ := map_memS S.da hx
    unfold Da.bare at e
    simp only [Da.mk.injEq, true_and] at e
    rw [← e.2]
    exact Nat.le_trans (hs.bs y hy) (by omega)
theorem db_core {a b : Md} (h : b.bare = a.bare) (f : ∀ d ∈ a.da, ∀ z ∈ d.bs, 0 ≤ z ∧ z < 256) : ∀ d ∈ b.da, ∀ z ∈ d.bs, 0 ≤ z ∧ z < 256 := fun d hd => by
  obtain ⟨x, hx, e⟩ := map_memS (same_iff.1 h).da hd
  unfold Da.bare at e
  simp only [Da.mk.injEq, true_and] at e
  rw [← e.2]; exact f x hx
/-- What is written over keeps what lies behind it. -/
theorem Ov.same {lo hi lo' hi' : Nat} {w w' : World} (h : Ov lo hi w w') (hh : hi ≤ lo') (hs : hi' ≤ w.heap.size) : SameC lo' hi' w w' := fun b o h1 _ h3 h4 => h.kept.cells b o h3 h4 (by omega)
theorem OwnM.box {lo : Nat} {w : World} {m d : Md} (h : OwnM lo w m d) (o : Obj) : OwnM lo (w.alloc o) m d := h.on (SameC.of_below ((Below.refl w.heap.size w).alloc (Nat.le_refl _) o) (Nat.le_refl _)) (by simp)
end Go.Proofs.YtckdnhafookcgaaGreatDoor.Mod

namespace Go.Proofs.YtckdnhafookcgaaGreatDoor.Pl
open Go.RowKit Go.Shelf Go.Proofs.YtckdnhafookcgaaGreatDoor.Instr Go.Proofs.YtckdnhafookcgaaGreatDoor.Mod Go.Proofs.YtckdnhafookcgaaGreatDoor.Val
open Go.Proofs.YtckdnhafookcgaaGreatDoor.Mem (MemIs Wrote Keep isOwn)
set_option linter.unusedVariables false

/-- A pointer of a table: to a number in blocks from lo on, below hi; or nil. -/
def PtrO (lo hi : Nat) (w : World) (v : Value) : Option Int → Prop
  | none => v = .pointer none
  | some z => ∃ b i, v = .pointer (some ⟨b, i, none⟩) ∧ Blk lo hi w b ∧ w.cell? ⟨b, i, none⟩ = some (.int .u32 z)
theorem PtrO.below {lo hi : Nat} {w w' : World} (hb : Below hi w w') {v : Value} : ∀ {o : Option Int}, PtrO lo hi w v o → PtrO lo hi w' v o
  | none, h => h
  | some z, ⟨b, i, h1, h2, h3⟩ => ⟨b, i, h1, h2.frame (Same2.of_below hb (Nat.le_refl _)), (hb.cell (p := ⟨b, i, none⟩) h2.2.1).trans h3⟩
/-- A table's row of pointers. -/
def TabAt (lo hi : Nat) (w : World) (T : Nat) (tb : List (Option Int)) : Prop :=
  ∃ cs : Array Value, w.heap[T]? = some (.cells cs 132 (0, 0)) ∧ cs.size = tb.length ∧ ∀ i, i < tb.length → ∃ v, cs[i]? = some v ∧ PtrO lo hi w v (tb.getD i none)
theorem TabAt.below {lo hi T : Nat} {w w' : World} {tb : List (Option Int)} (hb : Below hi w w') (hT : w'.heap[T]? = w.heap[T]?) (h : TabAt lo hi w T tb) : TabAt lo hi w' T tb := by
  obtain ⟨cs, h1, h2, h3⟩ := h
  exact ⟨cs, hT.trans h1, h2, fun i hi' => by obtain ⟨v, h4, h5⟩ := h3 i hi'; exact ⟨v, h4, h5.below hb⟩⟩
theorem TabAt.cell {lo hi T : Nat} {w : World} {tb : List (Option Int)} (h : TabAt lo hi w T tb) {i : Nat} (hi' : i < tb.length) : ∃ v, w.cell? ⟨T, i, none⟩ = some v ∧ PtrO lo hi w v (tb.getD i none) := by
  obtain ⟨cs, h1, h2, h3⟩ := h
  obtain ⟨v, h4, h5⟩ := h3 i hi'
  exact ⟨v, by simp [World.cell?, h1, h4], h5⟩
theorem TabAt.lt {lo hi T : Nat} {w : World} {tb : List (Option Int)} (h : TabAt lo hi w T tb) : T < w.heap.size := by
  obtain ⟨cs, h1, h2, h3⟩ := h
  exact (Array.getElem?_eq_some_iff.1 h1).1
/-- Where a table lies. -/
def TabIs (lo hi : Nat) (w : World) (v : Value) (tb : List (Option Int)) : Prop :=
  (v = .slice none 0 0 ∧ tb = []) ∨ ∃ T, v = .slice (some ⟨T, 0, none⟩) tb.length tb.length ∧ hi ≤ T ∧ TabAt lo hi w T tb
/-- Numbers in a block. -/
def Words (k : IntKind) (t : TypeId) (w : World) (g : Nat) (zs : List Int) : Prop := w.heap[g]? = some (.cells (zs.map (Value.int k)).toArray t (0, 0))
theorem Words.cell {k : IntKind} {t : TypeId} {w : World} {g : Nat} {zs : List Int} (h : Words k t w g zs) {i : Nat} (hi : i < zs.length) : w.cell? ⟨g, i, none⟩ = some (.int k (zs.getD i 0)) := by
  unfold Words at h
  simp [World.cell?, h, hi]
theorem Words.lt {k : IntKind} {t : TypeId} {w : World} {g : Nat} {zs : List Int} (h : Words k t w g zs) : g < w.heap.size := (Array.getElem?_eq_some_iff.1 h).1
def MemVal (hi K : Nat) (w : World) (v : Value) : Option Mem.Mm → Prop
  | none => v = .pointer none
  | some x => ∃ p, v = .pointer (some ⟨p, 0, none⟩) ∧ MemIs hi w p K x
/-- A place; its module's copy lies from lo on, below hi, and all that turns from hi on. -/
structure PlAt (lo hi : Nat) (w : World) (p H gb K : Nat) (d : Md) (tv mv : Value) (x : Pc) : Prop where
  box : w.heap[p]? = some (.cells #[.pointer (some ⟨p, 0, none⟩), .slice d.ty'.a d.ty.length d.ty'.c, .slice d.im'.a d.im.length d.im'.c, .slice d.fu'.a d.fu.length d.fu'.c, .slice d.tb'.a d.tb.length d.tb'.c, .slice d.me'.a d.me.length d.me'.c, .slice d.gl'.a d.gl.length d.gl'.c, .slice d.ex'.a d.ex.length d.ex'.c, .bool d.st, .int .u32 d.sn, .slice d.el'.a d.el.length d.el'.c, .slice d.da'.a d.da.length d.da'.c, .slice (some ⟨H, 0, none⟩) x.hs.length x.hs.length, .slice (some ⟨gb, 0, none⟩) x.gs.length x.gs.length, tv, mv] 63 (0, 0))
  lh : lo ≤ hi
  hp : hi ≤ p
  hH : lo ≤ H
  Hh : H < hi
  hg : hi ≤ gb
  at_ : ModAt hi w d
  own : ModO lo hi w d
  fit : d.fits
  hs : Words .i64 3 w H x.hs
  gs : Words .u32 28 w gb x.gs
  tb : TabIs lo hi w tv x.tb
  me : MemVal hi K w mv x.me
  ls : x.hs.length ≤ 1000000 ∧ x.gs.length ≤ 1000000 ∧ x.tb.length ≤ 4294967295
  gl : x.gs.length = d.gl.length
theorem MemVal.below {hi K : Nat} {w w' : World} {v : Value} (hb : Below w.heap.size w w') : ∀ {o : Option Mem.Mm}, MemVal hi K w v o → MemVal hi K w' v o
  | none, h => h
  | some x, ⟨p, h1, h2⟩ => ⟨p, h1, h2.below hb⟩
theorem MemVal.save {hi K g : Nat} {w w' : World} {v : Value} {o' : Obj} (hs : Save g w w') (hg : w.heap[g]? = some o') (ho : isOwn o' = false) : ∀ {o : Option Mem.Mm}, MemVal hi K w v o → MemVal hi K w' v o
  | none, h => h
  | some x, ⟨p, h1, h2⟩ => ⟨p, h1, h2.save hs hg ho⟩
theorem Words.block {k : IntKind} {t : TypeId} {w w' : World} {g : Nat} {zs : List Int} (h : Words k t w g zs) (hb : w'.heap[g]? = w.heap[g]?) : Words k t w' g zs := by
  unfold Words at h ⊢
  exact hb.trans h
/-- More is made. -/
theorem PlAt.below {lo hi p H gb K : Nat} {w w' : World} {d : Md} {tv mv : Value} {x : Pc} (h : PlAt lo hi w p H gb K d tv mv x) (hb : Below w.heap.size w w') : PlAt lo hi w' p H gb K d tv mv x := by
  have lp := (Array.getElem?_eq_some_iff.1 h.box).1
  have hhi : Below hi w w' := hb.mono (by have := h.hp; omega)
  refine ⟨(hb.block p lp).trans h.box, h.lh, h.hp, h.hH, h.Hh, h.hg, h.at_.below hhi, h.own.frameC (SameC.of_below hhi (Nat.le_refl _)), h.fit, h.hs.block (hb.block _ h.hs.lt), h.gs.block (hb.block _ h.gs.lt), ?_, h.me.below hb, h.ls, h.gl⟩
  rcases h.tb with h1 | ⟨T, h1, h2, h3⟩
  · exact .inl h1
  · exact .inr ⟨T, h1, h2, h3.below hhi (hb.block _ h3.lt)⟩
end Go.Proofs.YtckdnhafookcgaaGreatDoor.Pl

namespace Go.Proofs.YtckdnhafookcgaaGreatDoor.Pl
open Go.RowKit Go.Shelf Go.Proofs.YtckdnhafookcgaaGreatDoor.Instr Go.Proofs.YtckdnhafookcgaaGreatDoor.Mod Go.Proofs.YtckdnhafookcgaaGreatDoor.Val
set_option linter.unusedVariables false

theorem infoWord : (Tryz.prog.info? 28).map (fun i => (i.zero, i.size, i.bytes)) = some (some (.int .u32 0), 1, 4) := by kernel_rfl
theorem infoInt : (Tryz.prog.info? 3).map (fun i => (i.zero, i.size, i.bytes)) = some (some (.int .i64 0), 1, 8) := by kernel_rfl
/-- Of a row that is written from its beginning on. -/
def midRow (zs : List Int) (k n : Nat) : List Int := zs.take k ++ List.replicate (n - k) 0
theorem midRow_set {zs : List Int} {k n : Nat} (hz : zs.length = n) (hk : k < n) : (midRow zs k n).set k (zs.getD k 0) = midRow zs (k + 1) n := by
  apply List.ext_getElem
  · simp [midRow, hz]; omega
  · intro i h1 h2
    simp only [midRow, List.getElem_set]
    by_cases hik : k = i
    · subst hik
      rw [if_pos rfl, List.getElem_append_left (by simp; omega)]
      simp [hz, hk]
    · rw [if_neg hik]
      by_cases hlt : i < k
      · rw [List.getElem_append_left (by simp; omega), List.getElem_append_left (by simp; omega)]
        simp
      · rw [List.getElem_append_right (by simp; omega), List.getElem_append_right (by simp; omega)]
        simp
theorem midRow_len {zs : List Int} {k n : Nat} (hz : zs.length = n) (hk : k ≤ n) : (midRow zs k n).length = n := by simp [midRow, hz]; omega
theorem midRow_full {zs : List Int} {n : Nat} (hz : zs.length = n) : midRow zs n n = zs := by simp [midRow, ← hz]
theorem midRow_start (zs : List Int) (n : Nat) : midRow zs 0 n = List.replicate n 0 := by simp [midRow]
/-- A row of numbers that is being written, in block G; all else stands. -/
structure RowW (k : IntKind) (t : TypeId) (zs : List Int) (n : Nat) (W1 : World) (G j : Nat) (w : World) : Prop where
  row : w.heap[G]? = some (.cells ((midRow zs j n).map (Value.int k)).toArray t (0, 0))
  sv : Save G W1 w
theorem RowW.below {k : IntKind} {t : TypeId} {zs : List Int} {n G j : Nat} {W1 w w' : World} (h : RowW k t zs n W1 G j w) (hb : Below w.heap.size w w') : RowW k t zs n W1 G j w' :=
  ⟨(hb.block G (Array.getElem?_eq_some_iff.1 h.row).1).trans h.row, h.sv.trans (Save.of_below hb)⟩
theorem RowW.set {k : IntKind} {t : TypeId} {zs : List Int} {n G j : Nat} {W1 w : World} (h : RowW k t zs n W1 G j w) (hz : zs.length = n) (hj : j < n) {v : Int} (hv : v = zs.getD j 0) : RowW k t zs n W1 G (j + 1) (w.setCell ⟨G, j, none⟩ (.int k v)) := by
  refine ⟨?_, h.sv.setCell (.inl rfl) _⟩
  rw [set_heap h.row, hv, midRow_set hz hj]
theorem RowW.cell {k : IntKind} {t : TypeId} {zs : List Int} {n G j : Nat} {W1 w : World} (h : RowW k t zs n W1 G j w) (hz : zs.length = n) (hj : j < n) : (∃ v, w.cell? ⟨G, j, none⟩ = some v) ∧ w.frozen? ⟨G, j, none⟩ = false := by
  refine ⟨⟨.int k ((midRow zs j n).getD j 0), ?_⟩, frozen_heap h.row j⟩
  have := nums_of_heap h.row j (by rw [midRow_len hz (by omega)]; exact hj)
  simpa using this
def WordsQ (k : IntKind) (t : TypeId) (zs : List Int) (w : World) (e : Ending) (w' : World) : Prop := ∃ G, e = .returned (.slice (some ⟨G, 0, none⟩) zs.length zs.length) ∧ w.heap.size ≤ G ∧ Words k t w' G zs ∧ Below w.heap.size w w'
set_option maxHeartbeats 2000000 in
theorem globalsOf_any (m : Md) (w : World) (hm : ModAt w.heap.size w m) (hf : m.few) (hT : Nams w) :
    Calls Tryz.prog 47 #[.agg m.v] w (WordsQ .u32 28 (globs m) w) := by
  have hb0 := (Below.refl w.heap.size w).alloc (Nat.le_refl _) (.cells m.v 32)
  have hm0 := hm.on hb0
  have HM := hid hm0
  have HR := hid hm0.gl
  have HB := hid hb0
  have HX := hid (BoxAt.made w m.v 32)
  have HT := hid (hT.below hb0)
  have hl := hf.lens.2.2.2.2.2.1
  have HC := hid (fun (g : Gl) (hg : g ∈ m.gl) => (⟨hf.cs g.l (codes_Gl hg), hf.fit.ls g.l (codes_Gl hg)⟩ : g.l.t.count ≤ 1000000 ∧ g.l.t.len ≤ 140737488351232))
  obtain ⟨n, hn⟩ : ∃ n, m.gl.length = n := ⟨_, rfl⟩
  have hgl : (globs m).length = n := by unfold globs; simpa using hn
  have HN := hid hn
  unfold WordsQ
  rw [hgl]
  have HGL := hid hgl
  rw [hn] at hl
  unfold Md.v at HX HB HR HM HT ⊢
  rw [hn] at HX HB HR HM HT ⊢
  clear hm hf hb0 hT hm0 hn hgl
  generalize m.gl'.a = a at HR HB HX HM HT ⊢
  obtain ⟨W1, hmk, hh1, hb1⟩ := make_zeros infoWord Tryz.underlying50 (w.alloc (.cells #[.slice m.ty'.a m.ty.length m.ty'.c, .slice m.im'.a m.im.length m.im'.c, .slice m.fu'.a m.fu.length m.fu'.c, .slice m.tb'.a m.tb.length m.tb'.c, .slice m.me'.a m.me.length m.me'.c, .slice a n m.gl'.c, .slice m.ex'.a m.ex.length m.ex'.c, .bool m.st, .int .u32 m.sn, .slice m.el'.a m.el.length m.el'.c, .slice m.da'.a m.da.length m.da'.c] 32)) n (by omega) (by omega)
  have hmk1 := hmk n rfl
  clear hmk
  have x5 := Go.Proofs.YtckdnhafookcgaaGreatDoor.keep hb1 (HX.out 5 _ rfl)
  generalize hW0 : w.alloc (.cells #[.slice m.ty'.a m.ty.length m.ty'.c, .slice m.im'.a m.im.length m.im'.c, .slice m.fu'.a m.fu.length m.fu'.c, .slice m.tb'.a m.tb.length m.tb'.c, .slice m.me'.a m.me.length m.me'.c, .slice a n m.gl'.c, .slice m.ex'.a m.ex.length m.ex'.c, .bool m.st, .int .u32 m.sn, .slice m.el'.a m.el.length m.el'.c, .slice m.da'.a m.da.length m.da'.c] 32) = W0 at *
  have y5 := HX.out 5 _ rfl
  have HW0 := hid hW0
  have HB1 := hid (HB.out.trans (hb1.mono HB.out.size))
  have HGS := hid (show W0.heap.size < W1.heap.size from (Array.getElem?_eq_some_iff.1 hh1).1)
  have HR0 := hid (show RowW .u32 28 (globs m) n W1 W0.heap.size 0 W1 from ⟨by rw [midRow_start]; exact hh1, Save.refl _ _⟩)
  have HWG := hid (show w.heap.size ≤ W0.heap.size from HB.out.size)
  have HBB := hid hb1
  have HCM := hid (fun x (hx : x ∈ m.gl) => HM.out.ls x.l (codes_Gl hx))
  have hb1c := hb1
  clear hb1 hh1 HX HB HM
  go_enter Tryz.func47, Tryz.ntmps47
  go_upto_region 1 with fail
  clear hW0
  go_wp2
  clear x5 y5 hmk1 hb1c
  go_loopw [13] (fun vi wr => ∃ k : Nat, vi = .int .i64 k ∧ k ≤ n ∧ Hid (RowW .u32 28 (globs m) n W1 W0.heap.size k wr)) (fun vi _ => n - (intOf vi).toNat)
  case atStart => exact ⟨0, rfl, Nat.zero_le _, HR0⟩
  case round =>
    obtain ⟨k, rfl, hk, HRW⟩ := hrel
    by_cases hlt : k < n
    · have hkl : k < m.gl.length := by rw [HN.out]; exact hlt
      obtain ⟨b, off, rfl, hb, hc⟩ := Rows.get HR.out hkl
      have hmem := List.getElem_mem hkl
      have hgv : (globs m).getD k 0 = (constP (m.gl[k]).l.t).1 := by unfold globs; simp [hkl]
      obtain ⟨x, hxe⟩ : ∃ x, m.gl[k] = x := ⟨_, rfl⟩
      rw [hxe] at hc hmem hgv
      have hbw : Below W0.heap.size W0 wr := HBB.out.trans (HRW.out.sv.below (by have := HGS.out; omega) (Nat.le_refl _))
      have cc : ∀ j, j < 2 → ∀ v, x.v[j]? = some v → wr.cell? ⟨b, off + k * 2 + j, none⟩ = some v := fun j hj v hv => (hbw.cell (p := ⟨b, off + k * 2 + j, none⟩) hb).trans (hc j hj v hv)
      have c0 : wr.cell? ⟨b, off + k * 2, none⟩ = some (.bool x.mu) := cc 0 (by omega) _ rfl
      have c1 : wr.cell? ⟨b, off + k * 2 + 1, none⟩ = some (.slice x.l.a x.l.t.len x.l.c) := cc 1 (by omega) _ rfl
      have hki : (k : Int) < (n : Int) := by omega
      have hbw2 : Below W0.heap.size W0 (wr.alloc (.cells #[.bool x.mu, .slice x.l.a x.l.t.len x.l.c] 94)) := hbw.alloc hbw.size _
      have CC := hid (const_m x.l.t x.l.a x.l.t.len x.l.c (wr.alloc (.cells #[.bool x.mu, .slice x.l.a x.l.t.len x.l.c] 94)) (((HCM.out x hmem).below hbw2).more hbw2.size) (HC.out x hmem).2 (by have := (HC.out x hmem).1; omega) (HT.out.below hbw2))
      have HV := hid hgv
      have HRA := hid (HRW.out.below (belowAlloc wr (.cells #[.bool x.mu, .slice x.l.a x.l.t.len x.l.c] 94)))
      obtain ⟨q, hq⟩ : ∃ q, constP x.l.t = q := ⟨_, rfl⟩
      rw [hq] at CC HV
      clear hxe hc cc hb hmem hgv hbw hbw2 hq HRW
      go_wp2_with fail
      refine CC.out.mono ?_
      rintro e wc ⟨rfl, hbc⟩
      have HRC := hid (HRA.out.below hbc)
      obtain ⟨⟨v0, g0⟩, g1⟩ := HRC.out.cell HGL.out hlt
      have HRN := hid (HRC.out.set HGL.out hlt HV.out.symm)
      clear CC hbc c0 c1
      go_wp2
      go_roundw
      case rel => exact ⟨k + 1, by go_num, by omega, HRN⟩
      case measure => simp [intOf]; omega
    · obtain rfl : k = n := by omega
      have HE := hid (show Words .u32 28 wr W0.heap.size (globs m) by have := HRW.out.row; rw [midRow_full HGL.out] at this; exact this)
      have HF := hid (HB1.out.trans (HRW.out.sv.below (by have := HB1.out.size; omega) HWG.out))
      go_wp2
      go_ret
      exact ⟨W0.heap.size, rfl, HWG.out, HE.out, HF.out⟩
end Go.Proofs.YtckdnhafookcgaaGreatDoor.Pl
