import Derived.Test.YtckdnhafookcgaaGreatDoorPa14
import Derived.Test.YtckdnhafookcgaaGreatDoorPa11
import Derived.Test.YtckdnhafookcgaaGreatDoorPa12
import Derived.Test.YtckdnhafookcgaaGreatDoorPa01
import Derived.Test.YtckdnhafookcgaaGreatDoorPa04
import Derived.Deep.Cut
import Derived.Laws.StructEq
import Derived.RegionTactic
namespace Go.Proofs.YtckdnhafookcgaaGreatDoor.Instr
end Go.Proofs.YtckdnhafookcgaaGreatDoor.Instr
namespace Go.Proofs.YtckdnhafookcgaaGreatDoor.Num
end Go.Proofs.YtckdnhafookcgaaGreatDoor.Num
namespace Go.Proofs.YtckdnhafookcgaaGreatDoor.Kind
end Go.Proofs.YtckdnhafookcgaaGreatDoor.Kind
namespace Go.Proofs.YtckdnhafookcgaaGreatDoor.Mod
end Go.Proofs.YtckdnhafookcgaaGreatDoor.Mod
namespace Go.Proofs.YtckdnhafookcgaaGreatDoor.Mod
open Go.RowKit Go.Proofs.YtckdnhafookcgaaGreatDoor.Instr

def Il.rows : Il → List (List Value)
  | .nil => []
  | .cons x _ _ r => x.vals.toList :: Il.rows r
theorem rows_len : ∀ t : Il, (Il.rows t).length = t.len
  | .nil => rfl
  | .cons _ _ _ r => by simp only [Il.rows, List.length_cons, Il.len, rows_len r]
theorem rows_eight : ∀ t : Il, ∀ r ∈ Il.rows t, r.length = 8
  | .nil, r, h => by simp [Il.rows] at h
  | .cons x _ _ s, r, h => by
    simp only [Il.rows, List.mem_cons] at h
    rcases h with rfl | h
    · rfl
    · exact rows_eight s r h
theorem rows_one : ∀ t : Il, ∀ r ∈ Il.rows t, ∀ u ∈ r, u.oneCell' = true
  | .nil, r, h => by simp [Il.rows] at h
  | .cons x _ _ s, r, h => by
    simp only [Il.rows, List.mem_cons] at h
    rcases h with rfl | h
    · intro u hu
      simp only [Ix.vals, List.mem_cons, List.not_mem_nil, or_false] at hu
      rcases hu with rfl | rfl | rfl | rfl | rfl | rfl | rfl | rfl <;> rfl
    · exact rows_one s r h
theorem rows_at {n₀ : Nat} {w : World} : ∀ {t : Il} {b off i : Nat}, Items n₀ w b off t → i < (Il.rows t).length → ∀ j, j < 8 → ∀ v, ((Il.rows t).getD i [])[j]? = some v → w.cell? ⟨b, off + i * 8 + j, none⟩ = some v
  | .nil, _, _, _, _, h => absurd h (Nat.not_lt_zero _)
  | .cons x l e r, b, off, 0, ⟨_, _, ⟨c0, c1, c2, c3, c4, c5, c6, c7⟩, _, _, _, _⟩, _ => by
    intro j hj v hv
    simp only [Il.rows, List.getD_cons_zero] at hv
    rw [Nat.zero_mul, Nat.add_zero]
    match j, hj with
    | 0, _ => cases hv; exact c0
    | 1, _ => cases hv; exact c1
    | 2, _ => cases hv; exact c2
    | 3, _ => cases hv; exact c3
    | 4, _ => cases hv; exact c4
    | 5, _ => cases hv; exact c5
    | 6, _ => cases hv; exact c6
    | 7, _ => cases hv; exact c7
  | .cons x l e r, b, off, i + 1, ⟨_, _, _, _, _, _, hr⟩, h => by
    intro j hj v hv
    simp only [Il.rows, List.getD_cons_succ] at hv
    rw [show off + (i + 1) * 8 + j = off + 8 + i * 8 + j by omega]
    exact rows_at (i := i) hr (by simp only [Il.rows, List.length_cons] at h; omega) j hj v hv
theorem rows_list {n₀ n : Nat} {w : World} {a : Option Addr} {t : Il} (hb : ∀ b off, Items n₀ w b off t → t = .nil ∨ b < n₀) (h : ListAt n₀ w a n t) : Rows n₀ w a 8 (Il.rows t) := by
  rcases h.2 with rfl | ⟨b, off, ha, hi⟩
  · exact .inl rfl
  · rcases hb b off hi with rfl | hlt
    · exact .inl rfl
    · exact .inr ⟨b, off, ha, hlt, fun i hi' j hj v hv => rows_at hi hi' j hj v hv⟩
theorem items_lt {n₀ : Nat} {w : World} {t : Il} (b off : Nat) (h : Items n₀ w b off t) : t = .nil ∨ b < n₀ := by
  cases t with
  | nil => exact .inl rfl
  | cons x l e r => exact .inr h.1
/-- The instructions of a list, each with its two sublists. -/
def Il.items : Il → List (Ix × Il × Il)
  | .nil => []
  | .cons x l e r => (x, l, e) :: Il.items r
theorem items_len : ∀ t : Il, (Il.items t).length = t.len
  | .nil => rfl
  | .cons _ _ _ r => by simp only [Il.items, List.length_cons, Il.len, items_len r]
/-- At a place lies a copy of an instruction with its sublists. -/
def CpyAt (lo hi : Nat) (w : World) (b o : Nat) (y : Ix × Il × Il) : Prop :=
  ∃ x' l' e', x'.ok ∧ (∀ q v, x'.vals[q]? = some v → w.cell? ⟨b, o + q, none⟩ = some v) ∧ TagsO lo hi w x'.ta x'.tags ∧ ListO lo hi w x'.la x'.ln l' ∧ ListO lo hi w x'.ea x'.en e' ∧ AllSame x' y.1 l' e' y.2.1 y.2.2 ∧ y.2.1.len = y.1.ln ∧ y.2.2.len = y.1.en
/-- A list all of whose places are copies is a copy of the list. -/
theorem put_together {lo hi : Nat} {w : World} {b : Nat} (hb : Blk lo hi w b) : ∀ (t : Il) (off : Nat), (∀ i (h : i < (Il.items t).length), CpyAt lo hi w b (off + i * 8) (Il.items t)[i]) → ∃ u : Il, u.bare = t.bare ∧ u.len = t.len ∧ ItemsO lo hi w b off u
  | .nil, _, _ => ⟨.nil, rfl, rfl, trivial⟩
  | .cons x l e r, off, h => by
    obtain ⟨u, h1, h2, h3⟩ := put_together hb r (off + 8) (fun i hi' => by
      have := h (i + 1) (by simp only [Il.items, List.length_cons]; omega)
      simp only [Il.items, List.getElem_cons_succ] at this
      rw [show off + 8 + i * 8 = off + (i + 1) * 8 by omega]
      exact this)
    have h0 := h 0 (by simp only [Il.items, List.length_cons]; omega)
    simp only [Il.items, List.getElem_cons_zero, Nat.zero_mul, Nat.add_zero] at h0
    obtain ⟨x', l', e', g1, g2, g3, g4, g5, g6, g7, g8⟩ := h0
    exact ⟨.cons x' l' e' u, (cons_same g4.1 g5.1 g7 g8).2 ⟨g6, h1⟩, by simp only [Il.len, h2], hb, g1, g2, g3, ⟨g4.1, g4.2⟩, ⟨g5.1, g5.2⟩, h3⟩
end Go.Proofs.YtckdnhafookcgaaGreatDoor.Mod

namespace Go.Proofs.YtckdnhafookcgaaGreatDoor.Mod
open Go.RowKit Go.Proofs.YtckdnhafookcgaaGreatDoor.Instr

/-- What is known of each instruction of a list that lies somewhere. -/
structure ItemIn (n₀ : Nat) (w : World) (t : Il) (y : Ix × Il × Il) : Prop where
  ok : y.1.ok
  tags : TagsAt n₀ w y.1.ta y.1.tags
  l : ListAt n₀ w y.1.la y.1.ln y.2.1
  e : ListAt n₀ w y.1.ea y.1.en y.2.2
  cl : y.2.1.count < t.count
  ce : y.2.2.count < t.count
  wt : y.1.tags.length ≤ t.weight
  wl : y.2.1.weight ≤ t.weight
  we : y.2.2.weight ≤ t.weight
theorem items_in {n₀ : Nat} {w : World} : ∀ {t : Il} {b off : Nat}, Items n₀ w b off t → ∀ y ∈ Il.items t, ItemIn n₀ w t y
  | .nil, _, _, _, y, h => by simp [Il.items] at h
  | .cons x l e r, b, off, ⟨_, hx, _, ht, hl, he, hr⟩, y, h => by
    simp only [Il.items, List.mem_cons] at h
    rcases h with rfl | h
    · exact ⟨hx, ht, ⟨hl.1, hl.2⟩, ⟨he.1, he.2⟩, by simp only [Il.count]; omega, by simp only [Il.count]; omega, by simp only [Il.weight]; omega, by simp only [Il.weight]; omega, by simp only [Il.weight]; omega⟩
    · have g := items_in hr y h
      exact ⟨g.ok, g.tags, g.l, g.e, by have := g.cl; simp only [Il.count]; omega, by have := g.ce; simp only [Il.count]; omega, by have := g.wt; simp only [Il.weight]; omega, by have := g.wl; simp only [Il.weight]; omega, by have := g.we; simp only [Il.weight]; omega⟩
theorem items_in_list {n₀ n : Nat} {w : World} {a : Option Addr} {t : Il} (h : ListAt n₀ w a n t) : ∀ y ∈ Il.items t, ItemIn n₀ w t y := by
  rcases h.2 with rfl | ⟨b, off, _, hi⟩
  · intro y hy; simp [Il.items] at hy
  · exact items_in hi
theorem len_weight : ∀ t : Il, t.len ≤ t.weight
  | .nil => Nat.le_refl _
  | .cons _ _ _ r => by have := len_weight r; simp only [Il.len, Il.weight]; omega
theorem rows_items : ∀ t : Il, Il.rows t = (Il.items t).map fun y => y.1.vals.toList
  | .nil => rfl
  | .cons _ _ _ r => by simp only [Il.rows, Il.items, List.map_cons, rows_items r]
/-- Behind k rounds: the first k places hold copies, the others what was there. -/
structure InvM (t : Il) (lo g k : Nat) (w : World) : Prop where
  soft : ∃ cs e, w.heap[g]? = some (.cells cs e (0, 0))
  done : ∀ j (h : j < (Il.items t).length), j < k → CpyAt lo w.heap.size w g (0 + j * 8) (Il.items t)[j]
  left : ∀ j (h : j < (Il.items t).length), k ≤ j → ∀ q v, (Il.items t)[j].1.vals[q]? = some v → w.cell? ⟨g, j * 8 + q, none⟩ = some v
theorem CpyAt.frame {lo hi hi' b o : Nat} {w w' : World} {y : Ix × Il × Il} (s : Same2 lo hi w w') (hh : hi ≤ hi') (hc : ∀ q, q < 8 → w'.cell? ⟨b, o + q, none⟩ = w.cell? ⟨b, o + q, none⟩) (h : CpyAt lo hi w b o y) : CpyAt lo hi' w' b o y := by
  obtain ⟨x', l', e', g1, g2, g3, g4, g5, g6⟩ := h
  refine ⟨x', l', e', g1, fun q v hv => ?_, (g3.frame s).mono (Nat.le_refl _) hh, (g4.frame s).mono (Nat.le_refl _) hh, (g5.frame s).mono (Nat.le_refl _) hh, g6⟩
  have hq : q < 8 := by
    rcases Nat.lt_or_ge q 8 with h | h
    · exact h
    · rw [Array.getElem?_eq_none (by simpa [Ix.vals] using h)] at hv; cases hv
  rw [hc q hq]; exact g2 q v hv
/-- One round more. -/
theorem InvM.step {t : Il} {lo g k : Nat} {w W w2 : World} (h : InvM t lo g k w) (hg : g < lo) (hlo : lo ≤ w.heap.size) (hW : Below w.heap.size w W) (hWs : w.heap.size ≤ W.heap.size) (hb : Below W.heap.size W w2) (hk : k < (Il.items t).length) {x' : Ix} {l' e' : Il}
    (hc : CpyX W.heap.size w2 x' (Il.items t)[k].1 l' (Il.items t)[k].2.1 e' (Il.items t)[k].2.2) (h1 : (Il.items t)[k].2.1.len = (Il.items t)[k].1.ln) (h2 : (Il.items t)[k].2.2.len = (Il.items t)[k].1.en) :
    InvM t lo g (k + 1) (w2.setCells g (k * 8) x'.vals.toList) := by
  have hbb : Below w.heap.size w w2 := hW.trans (hb.mono hWs)
  have hgl : g < w.heap.size := by omega
  have sz : ∀ (us : List Value) (o : Nat) (v : World), (v.setCells g o us).heap.size = v.heap.size := by
    intro us
    induction us with
    | nil => intro o v; rfl
    | cons u r ih => intro o v; rw [World.setCells, ih]; simp [World.setCell]
  have oth : ∀ (us : List Value) (o : Nat) (v : World) (q : Nat), q ≠ g → (v.setCells g o us).heap[q]? = v.heap[q]? := by
    intro us
    induction us with
    | nil => intro o v q _; rfl
    | cons u r ih => intro o v q hq; rw [World.setCells, ih _ _ _ hq]; exact Below.heap_setCell v ⟨g, o, none⟩ u q hq
  have sof : ∀ (us : List Value) (o : Nat) (v : World), (∃ cs e, v.heap[g]? = some (.cells cs e (0, 0))) → ∃ cs e, (v.setCells g o us).heap[g]? = some (.cells cs e (0, 0)) := by
    intro us
    induction us with
    | nil => intro o v h; exact h
    | cons u r ih =>
      intro o v ⟨cs, e, h⟩
      rw [World.setCells]
      exact ih _ _ ⟨_, _, heap_setCell_same v g o cs e u h⟩
  have c2 : ∀ j, w2.cell? ⟨g, j, none⟩ = w.cell? ⟨g, j, none⟩ := fun j => hbb.cell (p := ⟨g, j, none⟩) hgl
  have hout : ∀ j, (j < k * 8 ∨ k * 8 + 8 ≤ j) → (w2.setCells g (k * 8) x'.vals.toList).cell? ⟨g, j, none⟩ = w.cell? ⟨g, j, none⟩ := fun j hj => (World.cell?_setCells_out g _ _ _ _ (fun _ _ => by simpa [Ix.vals] using hj)).trans (c2 j)
  refine ⟨sof _ _ _ ?_, fun j hj hjk => ?_, fun j hj hjk q v hv => ?_⟩
  · obtain ⟨cs, e, h⟩ := h.soft
    exact ⟨cs, e, (hbb.block g hgl).trans h⟩
  · by_cases e : j = k
    · subst e
      refine ⟨x', l', e', hc.ok, fun q v hv => ?_, ?_, ?_, ?_, hc.same, h1, h2⟩
      · have hq : q < x'.vals.toList.length := by
          rcases Nat.lt_or_ge q x'.vals.toList.length with h | h
          · exact h
          · rw [Array.getElem?_eq_none (by simpa using h)] at hv; cases hv
        rw [Nat.zero_add]
        rw [World.cell?_setCells_in g x'.vals.toList (j * 8) w2 (fun i hi => by
          have hi8 : i < 8 := by simpa [Ix.vals] using hi
          rw [c2]
          have h8 : i < (Il.items t)[j].1.vals.size := by simpa [Ix.vals] using hi8
          rw [h.left j hj (Nat.le_refl _) i _ (Array.getElem?_eq_getElem h8)]; rfl) q hq]
        rw [← Array.getElem?_toList, List.getElem?_eq_getElem hq] at hv
        exact hv
      · exact (hc.tags.frame (fun b b1 b2 => oth _ _ _ _ (by omega))).mono (by omega) (by rw [sz]; exact Nat.le_refl _)
      · exact (hc.ls.frame (fun b b1 b2 => oth _ _ _ _ (by omega))).mono (by omega) (by rw [sz]; exact Nat.le_refl _)
      · exact (hc.es.frame (fun b b1 b2 => oth _ _ _ _ (by omega))).mono (by omega) (by rw [sz]; exact Nat.le_refl _)
    · exact (h.done j hj (by omega)).frame (fun b b1 b2 => (oth _ _ _ _ (by omega)).trans (hbb.block b b2)) (by rw [sz]; exact hbb.size) (fun q hq => hout _ (by omega))
  · have hq : q < 8 := by
      rcases Nat.lt_or_ge q 8 with h | h
      · exact h
      · rw [Array.getElem?_eq_none (by simpa [Ix.vals] using h)] at hv; cases hv
    rw [hout _ (by omega)]
    exact h.left j hj (by omega) q v hv
end Go.Proofs.YtckdnhafookcgaaGreatDoor.Mod

namespace Go.Proofs.YtckdnhafookcgaaGreatDoor.Mod
open Go.RowKit Go.Proofs.YtckdnhafookcgaaGreatDoor.Instr

theorem size_sets (g : Nat) : ∀ (us : List Value) (o : Nat) (v : World), (v.setCells g o us).heap.size = v.heap.size
  | [], _, _ => rfl
  | u :: r, o, v => by rw [World.setCells, size_sets g r]; simp [World.setCell]
theorem below_sets {B g : Nat} {w : World} : ∀ (us : List Value) (o : Nat) {W : World}, Below B w W → B ≤ g → Below B w (W.setCells g o us)
  | [], _, _, h, _ => h
  | u :: r, o, W, h, hg => by
    rw [World.setCells]
    exact below_sets r (o + 1) (h.setCell (p := ⟨g, o, none⟩) hg u) hg
set_option maxRecDepth 100000 in
set_option maxHeartbeats 4000000 in
theorem mapI (m : Nat) (ih : CpyC m) (t : Il) (a : Option Addr) (n c : Nat) (w : World) (hm : t.count ≤ m) (hw : t.weight ≤ 1000000000) (hl : ListAt w.heap.size w a n t) (hn : n ≤ 140737488351232) :
    Calls Tryz.prog 205 #[.slice a n c, .func (.func 206) #[] #[]] w fun e w' => (∃ a' c' u, e = .returned (.slice a' n c') ∧ ListO w.heap.size w'.heap.size w' a' n u ∧ u.bare = t.bare) ∧ Below w.heap.size w w' := by
  have hln : (Il.rows t).length = n := (rows_len t).trans hl.1
  have hin : (Il.items t).length = n := (items_len t).trans hl.1
  have CC := hid (clone_in w a n c (Il.rows t) hln (rows_list items_lt hl) (rows_eight t) (rows_one t) (by rw [rows_len]; have := len_weight t; omega))
  have HI := hid (items_in_list hl)
  have HLN := hid hln
  have HIN := hid hin
  have HM := hid hm
  have HWT := hid hw
  have IH := hid ih
  have HL := hid hl
  clear hln hin hl hm hw ih
  go_enter Tryz.func205, Tryz.ntmps205
  go_wp2_with fail
  refine CC.out.mono ?_
  rintro r w1 ⟨v, rfl, ho, hb1⟩
  have HB1 := hid hb1
  rcases ho.row.2 with ⟨rfl, h0⟩ | ⟨g, cap, cur, rfl, hbg, hg, hnc, hcm, hcs, htake⟩
  · obtain rfl : n = 0 := by rw [← HLN.out]; exact h0
    have ht : t = .nil := by
      have := HL.out.1
      cases t with
      | nil => rfl
      | cons x l e r => simp only [Il.len] at this; omega
    subst ht
    clear ho hb1 h0 CC
    go_wp2
    go_loopw [6, 12] (fun _ vi wr => vi = .int .i64 0 ∧ wr = w1) (fun _ _ _ => 0)
    case atStart => exact ⟨rfl, rfl⟩
    case round =>
      obtain ⟨rfl, rfl⟩ := hrel
      go_wp2
      go_ret
      exact ⟨⟨none, 0, .nil, rfl, ⟨rfl, .inl rfl⟩, rfl⟩, HB1.out⟩
  · rw [HLN.out] at hnc htake ⊢
    have hgl : g < w1.heap.size := by
      rcases Nat.lt_or_ge g w1.heap.size with h | h
      · exact h
      · rw [Array.getElem?_eq_none h] at hg; cases hg
    have HV : Hid (InvM t w1.heap.size g 0 w1) := hid (by
      refine ⟨⟨cur, _, hg⟩, fun j _ h => absurd h (Nat.not_lt_zero _), fun j hj _ q v hv => ?_⟩
      have hq : q < 8 := by
        rcases Nat.lt_or_ge q 8 with h | h
        · exact h
        · rw [Array.getElem?_eq_none (by simpa [Ix.vals] using h)] at hv; cases hv
      have hjr : j < (Il.rows t).length := by rw [rows_len, ← items_len]; exact hj
      have hf := flat_get (Il.rows t) (rows_eight t) j q hjr hq
      have hrow : (Il.rows t).getD j [] = (Il.items t)[j].1.vals.toList := by
        rw [rows_items t]; simp [hj]
      have hv2 : (Il.items t)[j].1.vals.toList[q]? = some v := by rw [Array.getElem?_toList]; exact hv
      rw [hrow, hv2] at hf
      have hjn : j < n := by rw [← HIN.out]; exact hj
      have h5 := congrArg (fun l => l[j * 8 + q]?) htake
      simp only [List.getElem?_take, if_pos (show j * 8 + q < n * 8 by omega)] at h5
      rw [hf] at h5
      have h6 : cur[j * 8 + q]? = some v := by rw [← Array.getElem?_toList]; exact h5
      simp [World.cell?, hg, h6])
    have HG := hid hgl
    have HBG := hid hbg
    clear ho hb1 CC hcs htake hcm hg hgl hbg
    go_wp2
    go_loopw [6, 12] (fun _ vi wr => ∃ k : Nat, vi = .int .i64 k ∧ k ≤ n ∧ Hid (Below w1.heap.size w1 wr ∨ True) ∧ Hid (Below w.heap.size w wr) ∧ Hid (w1.heap.size ≤ wr.heap.size) ∧ Hid (InvM t w1.heap.size g k wr)) (fun _ vi _ => n - (intOf vi).toNat)
    case atStart => exact ⟨0, rfl, Nat.zero_le _, .inr trivial, HB1, Nat.le_refl _, HV⟩
    case round =>
      obtain ⟨k, rfl, hk, _, HB, HZ, HV⟩ := hrel
      by_cases hlt : k < n
      · have hkl : k < (Il.items t).length := by rw [HIN.out]; exact hlt
        have hy := HI.out _ (List.getElem_mem hkl)
        have hleft := HV.out.left k hkl (Nat.le_refl _)
        have HST := hid (fun (W w2 : World) (x' : Ix) (l' e' : Il) (h1 : Below wr.heap.size wr W) (h2 : Below W.heap.size W w2) (hc : CpyX W.heap.size w2 x' (Il.items t)[k].1 l' (Il.items t)[k].2.1 e' (Il.items t)[k].2.2) => HV.out.step HG.out HZ.out h1 h1.size h2 hkl hc hy.l.1 hy.e.1)
        have HCI := hid (fun (W : World) (h1 : Below w.heap.size w W) => cpyI m IH.out (Il.items t)[k].1 (Il.items t)[k].2.1 (Il.items t)[k].2.2 W hy.ok ((hy.tags.below h1).more h1.size) ((hy.l.below h1).more h1.size) ((hy.e.below h1).more h1.size) (by have := hy.cl; have := HM.out; omega) (by have := hy.ce; have := HM.out; omega) (by have := hy.wt; have := HWT.out; omega) (by have := hy.wl; have := HWT.out; omega) (by have := hy.we; have := HWT.out; omega))
        obtain ⟨y, hye⟩ : ∃ y, (Il.items t)[k] = y := ⟨_, rfl⟩
        rw [hye] at hleft HST HCI
        obtain ⟨⟨op, res, xa, xb, xn, tags, ta, tc, la, ln, lc, ea, en, ec⟩, l, e⟩ := y
        dsimp only at hleft HST HCI
        have c0 : wr.cell? ⟨g, k * 8, none⟩ = some (.int .i64 op) := hleft 0 _ rfl
        have c1 : wr.cell? ⟨g, k * 8 + 1, none⟩ = some (.int .i64 res) := hleft 1 _ rfl
        have c2 : wr.cell? ⟨g, k * 8 + 2, none⟩ = some (.int .u32 xa) := hleft 2 _ rfl
        have c3 : wr.cell? ⟨g, k * 8 + 3, none⟩ = some (.int .u32 xb) := hleft 3 _ rfl
        have c4 : wr.cell? ⟨g, k * 8 + 4, none⟩ = some (.int .i32 xn) := hleft 4 _ rfl
        have c5 : wr.cell? ⟨g, k * 8 + 5, none⟩ = some (.slice ta tags.length tc) := hleft 5 _ rfl
        have c6 : wr.cell? ⟨g, k * 8 + 6, none⟩ = some (.slice la ln lc) := hleft 6 _ rfl
        have c7 : wr.cell? ⟨g, k * 8 + 7, none⟩ = some (.slice ea en ec) := hleft 7 _ rfl
        have hki : (k : Int) < (n : Int) := by omega
        have HSO := hid HV.out.soft
        clear hye hleft hy HV
        go_wp2_with fail
        refine (HCI.out _ (HB.out.alloc (HB.out.size) _)).mono ?_
        rintro r w2 ⟨⟨x', l', e', rfl, hc⟩, hb2⟩
        have hA := (Below.refl wr.heap.size wr).alloc (Nat.le_refl _) (.cells #[.int .i64 op, .int .i64 res, .int .u32 xa, .int .u32 xb, .int .i32 xn, .slice ta tags.length tc, .slice la ln lc, .slice ea en ec] 105)
        have HN := hid (HST.out _ w2 x' l' e' hA hb2 hc)
        have hA2 : Below wr.heap.size wr w2 := hA.trans (hb2.mono hA.size)
        have hgr : g < wr.heap.size := Nat.lt_of_lt_of_le HG.out HZ.out
        have HBF := hid (below_sets (g := g) x'.vals.toList (k * 8) (HB.out.trans (hA2.mono HB.out.size)) HBG.out)
        have HZF := hid (show w1.heap.size ≤ (w2.setCells g (k * 8) x'.vals.toList).heap.size by rw [size_sets]; exact Nat.le_trans HZ.out hA2.size)
        have hso2 : ∃ cs e, w2.heap[g]? = some (.cells cs e (0, 0)) := by
          obtain ⟨cs, e, h⟩ := HSO.out
          exact ⟨cs, e, (hA2.block g hgr).trans h⟩
        obtain ⟨cs, te, hcs⟩ := hso2
        have z := fun j => frozen_of_row w2 g j cs te hcs
        have z0 := z (k * 8)
        have z1 := z (k * 8 + 1)
        have z2 := z (k * 8 + 2)
        have z3 := z (k * 8 + 3)
        have z4 := z (k * 8 + 4)
        have z5 := z (k * 8 + 5)
        have z6 := z (k * 8 + 6)
        have z7 := z (k * 8 + 7)
        have c0 := Go.Proofs.YtckdnhafookcgaaGreatDoor.keep hA2 c0
        have c1 := Go.Proofs.YtckdnhafookcgaaGreatDoor.keep hA2 c1
        have c2 := Go.Proofs.YtckdnhafookcgaaGreatDoor.keep hA2 c2
        have c3 := Go.Proofs.YtckdnhafookcgaaGreatDoor.keep hA2 c3
        have c4 := Go.Proofs.YtckdnhafookcgaaGreatDoor.keep hA2 c4
        have c5 := Go.Proofs.YtckdnhafookcgaaGreatDoor.keep hA2 c5
        have c6 := Go.Proofs.YtckdnhafookcgaaGreatDoor.keep hA2 c6
        have c7 := Go.Proofs.YtckdnhafookcgaaGreatDoor.keep hA2 c7
        clear hc hb2 hA hA2 HST HCI HSO z hcs HB HZ
        obtain ⟨op', res', xa', xb', xn', tags', ta', tc', la', ln', lc', ea', en', ec'⟩ := x'
        dsimp only [Ix.vals] at HN HBF HZF ⊢
        go_wp2
        go_roundw
        case rel => exact ⟨k + 1, by go_num, by omega, .inr trivial, HBF, HZF, HN⟩
        case measure => simp [intOf]; omega
      · obtain rfl : k = n := by omega
        have HE := hid (put_together (lo := w.heap.size) (hi := wr.heap.size) (w := wr) (b := g) ⟨HBG.out, by have := HG.out; have := HZ.out; omega, HV.out.soft⟩ t 0 (fun i hi => by
          have := HV.out.done i hi (by rw [← HIN.out]; exact hi)
          exact this.frame (hi' := wr.heap.size) (fun b _ _ => rfl) (Nat.le_refl _) (fun _ _ => rfl) |> fun h => by
            obtain ⟨x', l', e', g1, g2, g3, g4, g5, g6⟩ := h
            have hb := HB1.out.size
            exact ⟨x', l', e', g1, g2, g3.mono hb (Nat.le_refl _), g4.mono hb (Nat.le_refl _), g5.mono hb (Nat.le_refl _), g6⟩))
        have HLT := hid HL.out.1
        clear HV hlt hk
        go_wp2
        go_ret
        obtain ⟨u, h1, h2, h3⟩ := HE.out
        exact ⟨⟨_, _, u, rfl, ⟨h2.trans HLT.out, .inr ⟨g, 0, rfl, h3⟩⟩, h1⟩, HB.out⟩
set_option maxRecDepth 100000 in
set_option maxHeartbeats 4000000 in
theorem cpyC : ∀ m, CpyC m := by
  intro m
  induction m with
  | zero => intro t a n c w hm; omega
  | succ m ih =>
    intro t a n c w hm hw hl hn
    have C := hid (mapI m ih t a n c w (by omega) hw hl hn)
    clear hm hw hl ih
    go_enter Tryz.func166, Tryz.ntmps166
    go_wp2_with fail
    refine C.out.mono ?_
    rintro r w2 ⟨⟨a', c', u, rfl, h1, h2⟩, hb⟩
    have H1 := hid h1
    have H2 := hid h2
    have HB := hid hb
    clear h1 h2 hb C
    go_wp2
    go_ret
    exact ⟨⟨a', c', u, rfl, H1.out, H2.out⟩, HB.out⟩
/-- copyList of any list. -/
theorem copyList_any (t : Il) (a : Option Addr) (n c : Nat) (w : World) (hw : t.weight ≤ 1000000000) (hl : ListAt w.heap.size w a n t) (hn : n ≤ 140737488351232) :
    Calls Tryz.prog 166 #[.slice a n c] w fun e w' => (∃ a' c' u, e = .returned (.slice a' n c') ∧ ListO w.heap.size w'.heap.size w' a' n u ∧ u.bare = t.bare) ∧ Below w.heap.size w w' :=
  cpyC (t.count + 1) t a n c w (Nat.lt_succ_self _) hw hl hn
end Go.Proofs.YtckdnhafookcgaaGreatDoor.Mod

namespace Go.Proofs.YtckdnhafookcgaaGreatDoor.Mod
open Go.RowKit

/-- All that a row's block holds are bytes. -/
def Full (v : Value) (w : World) : Prop := ∀ g, v.ownBlock = some g → ∃ (cs : Array Value) (e : TypeId) (m : Nat × Nat), w.heap[g]? = some (.cells cs e m) ∧ ∀ u ∈ cs.toList, ∃ z, u = Value.int .u8 z
theorem Full.touch {S : Nat → Prop} {v : Value} {w w' : World} (h : Full v w) (ht : Touch S w w') (hk : ∀ g, v.ownBlock = some g → ¬ S g) : Full v w' := fun g hg => by
  obtain ⟨cs, e, m, hh, hc⟩ := h g hg
  exact ⟨cs, e, m, (ht.block g (Array.getElem?_eq_some_iff.1 hh).1 (hk g hg)).trans hh, hc⟩
theorem Full.below {v : Value} {w w' : World} (h : Full v w) (hb : Below w.heap.size w w') : Full v w' := h.touch (S := fun _ => False) (.of_below hb) (fun _ _ h => h)
theorem Full.new {w : World} {g n c : Nat} {cs : Array Value} {e : TypeId} {m : Nat × Nat} (hg : g = w.heap.size) (hc : ∀ u ∈ cs.toList, ∃ z, u = Value.int .u8 z) : Full (.slice (some ⟨g, 0, Option.none⟩) n c) (w.alloc (.cells cs e m)) := fun q hq => by
  simp only [Value.ownBlock, Option.some.injEq] at hq
  subst hq; subst hg
  exact ⟨cs, e, m, heap_alloc_new w _, hc⟩
theorem zeros_full (n : Nat) : ∀ u ∈ (Builtin.zeroCells (Value.int .u8 0).cells n).toList, ∃ z, u = Value.int .u8 z := by
  intro u hu
  simp [Builtin.zeroCells, Value.cells] at hu
  obtain ⟨a, _, h⟩ := hu
  rw [Nat.mod_one] at h
  exact ⟨0, by simpa using h.symm⟩
theorem ints_full (l : List Int) : ∀ u ∈ l.map (Value.int .u8), ∃ z, u = Value.int .u8 z := by
  intro u hu
  obtain ⟨z, _, rfl⟩ := List.mem_map.1 hu
  exact ⟨z, rfl⟩
/-- An append of bytes to such a row gives such a row. -/
theorem append_full (t ty : TypeId) (ht : Tryz.prog.underlying t = some (.slice 5)) {B : Nat} {wr w' : World} {v v' : Value} {xs ys : List Int} (hown : Own B wr v xs) (ad : Addr) (n c : Nat) (hn : ys.length = n)
    (hnews : ∀ (j : Nat) (u : Value), (ys.map (Value.int .u8))[j]? = some u → wr.cell? (ad.add j) = some u) (hl : xs.length + ys.length ≤ 140737488351232)
    (hr : (Builtin.append_ #[t, t] ty #[v, .slice (some ad) n c]).run Tryz.prog wr = .ok v' w') (hF : Full v wr) : Full v' w' := by
  obtain ⟨i0, hi, hz0, hz1, hz2⟩ := info_parts infoByte
  subst hn
  have hnl : (ys.map (Value.int .u8)).length = ys.length * i0.size := by rw [hz1]; simp
  rcases hown.2 with ⟨rfl, h0⟩ | ⟨g, cap, cur, rfl, hbg, hg, hnc, hcm, hcs, htake⟩
  · by_cases hm : ys.length = 0
    · have hy : ys = [] := List.eq_nil_of_length_eq_zero hm
      subst hy
      have : (Builtin.append_ #[t, t] ty #[.slice Option.none 0 0, .slice (some ad) ([] : List Int).length c]).run Tryz.prog wr = .ok (.slice Option.none 0 0) wr := by
        simp [Builtin.append_, run_underlying ht, sizeOf, typeInfo, hi, Builtin.lenOf, Builtin.firstCells, loadCells, loadCellsFrom]
      rw [this] at hr
      simp only [Result.ok.injEq] at hr
      obtain ⟨rfl, rfl⟩ := hr
      exact hF
    · have h2 := run_append_nil (P := Tryz.prog) wr t ty 5 i0 (.int .u8 0) ht hi hz0 ad ys.length c (ys.map (Value.int .u8)) hnl hnews (by omega) (by omega) (by rw [hz2]; omega)
      rw [h2] at hr
      simp only [Result.ok.injEq] at hr
      obtain ⟨rfl, rfl⟩ := hr
      refine Full.new (w := wr.drew) rfl fun u hu => ?_
      rw [Array.toList_append] at hu
      rcases List.mem_append.1 hu with h | h
      · exact ints_full ys u (by simpa using h)
      · exact zeros_full _ u h
  · by_cases hroom : xs.length + ys.length ≤ cap
    · have h2 := run_append_room (P := Tryz.prog) wr t ty 5 i0 ht hi g xs.length cap cur hg ad ys.length c (ys.map (Value.int .u8)) hnl hnews (fun u hu => by obtain ⟨n, _, rfl⟩ := List.mem_map.1 hu; rfl) hroom (by rw [hz1, hcs]; simp; omega)
      rw [h2] at hr
      simp only [Result.ok.injEq] at hr
      obtain ⟨rfl, rfl⟩ := hr
      intro q hq
      simp only [Value.ownBlock, Option.some.injEq] at hq
      subst hq
      refine ⟨_, _, _, setRow_heap wr g cur _ 5 _ hg, fun u hu => ?_⟩
      obtain ⟨cs, e, m, hh, hc⟩ := hF g rfl
      rw [hg] at hh
      simp only [Option.some.injEq, Obj.cells.injEq] at hh
      obtain ⟨rfl, rfl, rfl⟩ := hh
      rw [List.toList_toArray] at hu
      rcases List.mem_append.1 hu with h | h
      · rcases List.mem_append.1 h with h | h
        · exact hc u (List.mem_of_mem_take h)
        · exact ints_full ys u h
      · exact hc u (List.mem_of_mem_drop h)
    · have holds : ∀ (j : Nat) (u : Value), (xs.map (Value.int .u8))[j]? = some u → wr.cell? ((⟨g, 0, Option.none⟩ : Addr).add j) = some u := by
        intro j u hj
        have := World.ownsRow.cells (show wr.ownsRow B 5 1 (.slice (some ⟨g, 0, Option.none⟩) xs.length cap) xs.length (xs.map (Value.int .u8)) from hown) (g := g) rfl j u hj
        exact this
      have h2 := run_append_grow (P := Tryz.prog) wr t ty 5 i0 (.int .u8 0) ht hi hz0 ⟨g, 0, Option.none⟩ xs.length cap (xs.map (Value.int .u8)) (by rw [hz1]; simp) holds ad ys.length c (ys.map (Value.int .u8)) hnl hnews (by omega) (by omega) (growslice_fits (by omega) (by rw [hz2]; omega))
      rw [h2] at hr
      simp only [Result.ok.injEq] at hr
      obtain ⟨rfl, rfl⟩ := hr
      refine Full.new (w := wr.drew) rfl fun u hu => ?_
      simp only [Array.toList_append] at hu
      rcases List.mem_append.1 hu with h | h
      · rcases List.mem_append.1 h with h | h
        · exact ints_full xs u (by simpa using h)
        · exact ints_full ys u (by simpa using h)
      · exact zeros_full _ u h
end Go.Proofs.YtckdnhafookcgaaGreatDoor.Mod

namespace Go.Proofs.YtckdnhafookcgaaGreatDoor.Mod
open Go.RowKit Go.Proofs.YtckdnhafookcgaaGreatDoor.Instr
set_option linter.unusedVariables false

/-- Bytes of a copy, and room behind them. -/
def BytesO (lo hi : Nat) (w : World) (a : Option Addr) (zs : List Int) (c : Nat) : Prop := RoomO lo hi w a zs.length c ∧ BytesAt hi w a zs
theorem RoomO.frame {lo hi n c : Nat} {w w' : World} (s : Same2 lo hi w w') {a : Option Addr} (h : RoomO lo hi w a n c) : RoomO lo hi w' a n c := by
  refine ⟨h.1, h.2.1, ?_⟩
  rcases h.2.2 with h | ⟨b, off, h1, h2, h3⟩
  · exact .inl h
  · exact .inr ⟨b, off, h1, h2.frame s, fun i hi => by obtain ⟨z, hz⟩ := h3 i hi; exact ⟨z, (s.cell h2.1 h2.2.1).trans hz⟩⟩
theorem RoomO.mono {lo hi lo' hi' n c : Nat} {w : World} (g1 : lo' ≤ lo) (g2 : hi ≤ hi') {a : Option Addr} (h : RoomO lo hi w a n c) : RoomO lo' hi' w a n c := by
  refine ⟨h.1, h.2.1, ?_⟩
  rcases h.2.2 with h | ⟨b, off, h1, h2, h3⟩
  · exact .inl h
  · exact .inr ⟨b, off, h1, h2.mono g1 g2, h3⟩
theorem BytesO.frame {lo hi c : Nat} {w w' : World} (s : Same2 lo hi w w') {a : Option Addr} {zs : List Int} (h : BytesO lo hi w a zs c) : BytesO lo hi w' a zs c := by
  refine ⟨h.1.frame s, ?_⟩
  rcases h.2 with h2 | ⟨b, off, ha, hb, hc⟩
  · exact .inl h2
  · rcases h.1.2.2 with ⟨h3, h4⟩ | ⟨b', off', h1, h2, h3⟩
    · rw [ha] at h3; cases h3
    · rw [ha] at h1
      simp only [Option.some.injEq, Addr.mk.injEq, and_true] at h1
      obtain ⟨rfl, rfl⟩ := h1
      exact .inr ⟨b, off, ha, hb, fun i hi => (s.cell h2.1 h2.2.1).trans (hc i hi)⟩
theorem BytesO.mono {lo hi lo' hi' c : Nat} {w : World} (g1 : lo' ≤ lo) (g2 : hi ≤ hi') {a : Option Addr} {zs : List Int} (h : BytesO lo hi w a zs c) : BytesO lo' hi' w a zs c := ⟨h.1.mono g1 g2, h.2.more g2⟩
section
variable {α : Type}
theorem exists_listG {P : Nat → α → Prop} : ∀ n : Nat, (∀ i, i < n → ∃ a, P i a) → ∃ l : List α, l.length = n ∧ ∀ (i : Nat) (h : i < l.length), P i l[i]
  | 0, _ => ⟨[], rfl, fun i h => absurd h (Nat.not_lt_zero _)⟩
  | n + 1, h => by
    obtain ⟨l, hl, hp⟩ := exists_listG n (fun i hi => h i (by omega))
    obtain ⟨a, ha⟩ := h n (by omega)
    refine ⟨l ++ [a], by simp [hl], fun i hi => ?_⟩
    by_cases hn : i < l.length
    · rw [List.getElem_append_left hn]; exact hp i hn
    · have : i = n := by simp at hi; omega
      subst this
      rw [List.getElem_append_right (by omega)]
      simpa [hl] using ha
/-- Kinds of items: their cells, their bare form, what they hold in blocks of a copy. -/
structure Kin (α : Type) where
  V : α → List Value
  sz : Nat
  br : α → α
  own : Nat → Nat → World → α → Prop
  len : ∀ x, (V x).length = sz
  pos : 0 < sz
  frame : ∀ {lo hi : Nat} {w w' : World} {x : α}, Same2 lo hi w w' → own lo hi w x → own lo hi w' x
  mono : ∀ {lo hi lo' hi' : Nat} {w : World} {x : α}, lo' ≤ lo → hi ≤ hi' → own lo hi w x → own lo' hi' w x
/-- Behind k rounds. -/
structure InvG (K : Kin α) (l : List α) (lo g k : Nat) (w : World) : Prop where
  soft : ∃ cs e, w.heap[g]? = some (.cells cs e (0, 0))
  done : ∀ j (h : j < l.length), j < k → ∃ x', (∀ q v, (K.V x')[q]? = some v → w.cell? ⟨g, j * K.sz + q, none⟩ = some v) ∧ K.own lo w.heap.size w x' ∧ K.br x' = K.br l[j]
  left : ∀ j (h : j < l.length), k ≤ j → ∀ q v, (K.V l[j])[q]? = some v → w.cell? ⟨g, j * K.sz + q, none⟩ = some v
theorem sets_size (g : Nat) : ∀ (us : List Value) (o : Nat) (v : World), (v.setCells g o us).heap.size = v.heap.size
  | [], _, _ => rfl
  | u :: r, o, v => by rw [World.setCells, sets_size g r]; simp [World.setCell]
theorem sets_oth (g : Nat) : ∀ (us : List Value) (o : Nat) (v : World) (q : Nat), q ≠ g → (v.setCells g o us).heap[q]? = v.heap[q]?
  | [], _, _, _, _ => rfl
  | u :: r, o, v, q, hq => by rw [World.setCells, sets_oth g r _ _ _ hq]; exact Below.heap_setCell v ⟨g, o, none⟩ u q hq
theorem sets_soft (g : Nat) : ∀ (us : List Value) (o : Nat) (v : World), (∃ cs e, v.heap[g]? = some (.cells cs e (0, 0))) → ∃ cs e, (v.setCells g o us).heap[g]? = some (.cells cs e (0, 0))
  | [], _, _, h => h
  | u :: r, o, v, ⟨cs, e, h⟩ => by
    rw [World.setCells]
    exact sets_soft g r _ _ ⟨_, _, heap_setCell_same v g o cs e u h⟩
theorem InvG.step {K : Kin α} {l : List α} {lo g k : Nat} {w W w2 : World} (h : InvG K l lo g k w) (hg : g < lo) (hlo : lo ≤ w.heap.size) (hW : Below w.heap.size w W) (hWs : w.heap.size ≤ W.heap.size) (hb : Below W.heap.size W w2) (hk : k < l.length) {x' : α}
    (hc : K.own W.heap.size w2.heap.size w2 x') (hbr : K.br x' = K.br l[k]) : InvG K l lo g (k + 1) (w2.setCells g (k * K.sz) (K.V x')) := by
  have hbb : Below w.heap.size w w2 := hW.trans (hb.mono hWs)
  have hgl : g < w.heap.size := by omega
  have c2 : ∀ j, w2.cell? ⟨g, j, none⟩ = w.cell? ⟨g, j, none⟩ := fun j => hbb.cell (p := ⟨g, j, none⟩) hgl
  have hlen := K.len x'
  have hout : ∀ j, (j < k * K.sz ∨ k * K.sz + K.sz ≤ j) → (w2.setCells g (k * K.sz) (K.V x')).cell? ⟨g, j, none⟩ = w.cell? ⟨g, j, none⟩ := fun j hj => (World.cell?_setCells_out g _ _ _ _ (fun _ _ => by rw [hlen]; exact hj)).trans (c2 j)
  have hlt : ∀ (x : α) (q : Nat) (v : Value), (K.V x)[q]? = some v → q < K.sz := fun x q v hv => by
    rcases Nat.lt_or_ge q K.sz with h | h
    · exact h
    · rw [List.getElem?_eq_none (by rw [K.len]; exact h)] at hv; cases hv
  have hne : ∀ j q, j < k → q < K.sz → j * K.sz + q < k * K.sz := fun j q hj hq => by
    have : (j + 1) * K.sz ≤ k * K.sz := Nat.mul_le_mul_right _ hj
    rw [Nat.succ_mul] at this
    omega
  refine ⟨sets_soft g _ _ _ ?_, fun j hj hjk => ?_, fun j hj hjk q v hv => ?_⟩
  · obtain ⟨cs, e, h⟩ := h.soft
    exact ⟨cs, e, (hbb.block g hgl).trans h⟩
  · by_cases e : j = k
    · subst e
      refine ⟨x', fun q v hv => ?_, ?_, hbr⟩
      · have hq : q < (K.V x').length := by rw [hlen]; exact hlt _ _ _ hv
        rw [World.cell?_setCells_in g (K.V x') (j * K.sz) w2 (fun i hi => by
          rw [c2]
          have h8 : i < (K.V l[j]).length := by rw [K.len]; rw [hlen] at hi; exact hi
          rw [h.left j hj (Nat.le_refl _) i _ (List.getElem?_eq_getElem h8)]; rfl) q hq]
        rw [List.getElem?_eq_getElem hq] at hv
        exact hv
      · exact K.mono (by omega) (by rw [sets_size]; exact Nat.le_refl _) (K.frame (fun b b1 b2 => sets_oth g _ _ _ _ (by omega)) hc)
    · obtain ⟨x1, g1, g2, g3⟩ := h.done j hj (by omega)
      refine ⟨x1, fun q v hv => ?_, ?_, g3⟩
      · rw [hout _ (.inl (hne j q (by omega) (hlt _ _ _ hv)))]; exact g1 q v hv
      · exact K.mono (Nat.le_refl _) (by rw [sets_size]; exact hbb.size) (K.frame (fun b b1 b2 => (sets_oth g _ _ _ _ (by omega)).trans (hbb.block b b2)) g2)
  · rw [hout _ (.inr (by
      have : (k + 1) * K.sz ≤ j * K.sz := Nat.mul_le_mul_right _ (by omega)
      rw [Nat.succ_mul] at this
      omega))]
    exact h.left j hj (by omega) q v hv
/-- What mapped tells of a list. -/
def MapP (K : Kin α) (l : List α) (lo : Nat) (w' : World) (v : Value) : Prop :=
  ∃ a c l', v = .slice a l.length c ∧ l'.length = l.length ∧ l'.map K.br = l.map K.br ∧ (l' = [] ∨ ∃ b off, a = some ⟨b, off, none⟩ ∧ Blk lo w'.heap.size w' b) ∧ Rows w'.heap.size w' a K.sz (l'.map K.V) ∧ ∀ x ∈ l', K.own lo w'.heap.size w' x
theorem InvG.end {K : Kin α} {l : List α} {lo g c : Nat} {w : World} (h : InvG K l lo g l.length w) {lo' : Nat} (hl : lo' ≤ lo) (hg : lo' ≤ g) (hgs : g < w.heap.size) : MapP K l lo' w (.slice (some ⟨g, 0, none⟩) l.length c) := by
  obtain ⟨l', h1, h2⟩ := exists_listG (P := fun i x' => ∀ (hi : i < l.length), (∀ q v, (K.V x')[q]? = some v → w.cell? ⟨g, i * K.sz + q, none⟩ = some v) ∧ K.own lo w.heap.size w x' ∧ K.br x' = K.br l[i]) l.length (fun i hi => by
    obtain ⟨x', g1, g2, g3⟩ := h.done i hi hi
    exact ⟨x', fun _ => ⟨g1, g2, g3⟩⟩)
  refine ⟨_, c, l', rfl, h1, ?_, .inr ⟨g, 0, rfl, hg, hgs, h.soft⟩, .inr ⟨g, 0, rfl, hgs, fun i hi j hj v hv => ?_⟩, fun x hx => ?_⟩
  · apply List.ext_getElem (by simp [h1])
    intro i i1 i2
    rw [List.getElem_map, List.getElem_map]
    rw [List.length_map] at i1 i2
    exact (h2 i i1 i2).2.2
  · rw [List.length_map] at hi
    rw [List.getD_eq_getElem?_getD, List.getElem?_map, List.getElem?_eq_getElem hi] at hv
    rw [Nat.zero_add]
    exact (h2 i hi (by omega)).1 j v hv
  · obtain ⟨i, hi, rfl⟩ := List.mem_iff_getElem.1 hx
    exact K.mono hl (Nat.le_refl _) (h2 i hi (by omega)).2.1
/-- What slices.Clone made holds what was there. -/
theorem InvG.start {K : Kin α} {l : List α} {e : TypeId} {base : Nat} {w : World} {g n c : Nat} (h : OwnR e K.sz base w (.slice (some ⟨g, 0, none⟩) n c) (l.map K.V)) (hn : l.length = n) (lo : Nat) : InvG K l lo g 0 w := by
  rcases h.row.2 with ⟨h1, _⟩ | ⟨g', cap, cur, hv, hg, hh, hc, hm, hs, ht⟩
  · simp at h1
  · rw [List.length_map] at hv ht
    simp only [Value.slice.injEq, Option.some.injEq, Addr.mk.injEq, and_true] at hv
    obtain ⟨rfl, _, rfl⟩ := hv
    refine ⟨⟨cur, e, hh⟩, fun j _ h => absurd h (Nat.not_lt_zero _), fun j hj _ q v hv => ?_⟩
    have hq : q < K.sz := by
      rcases Nat.lt_or_ge q K.sz with h | h
      · exact h
      · rw [List.getElem?_eq_none (by rw [K.len]; exact h)] at hv; cases hv
    have hf := flat_get (l.map K.V) h.len j q (by simpa using hj) hq
    have hrow : (l.map K.V).getD j [] = K.V l[j] := by rw [List.getD_eq_getElem?_getD, List.getElem?_map, List.getElem?_eq_getElem hj]; rfl
    rw [hrow, hv] at hf
    have h5 := congrArg (fun l => l[j * K.sz + q]?) ht
    have hjn : j * K.sz + q < l.length * K.sz := by
      have : (j + 1) * K.sz ≤ l.length * K.sz := Nat.mul_le_mul_right _ hj
      rw [Nat.succ_mul] at this
      omega
    simp only [List.getElem?_take, if_pos hjn] at h5
    rw [hf] at h5
    have h6 : cur[j * K.sz + q]? = some v := by rw [← Array.getElem?_toList]; exact h5
    simp [World.cell?, hh, h6]
end
end Go.Proofs.YtckdnhafookcgaaGreatDoor.Mod

namespace Go.Proofs.YtckdnhafookcgaaGreatDoor.Mod
open Go.RowKit Go.Proofs.YtckdnhafookcgaaGreatDoor.Instr
set_option linter.unusedVariables false

/-- An append of bytes that lie somewhere, to a row of one's own all of whose block holds bytes. -/
theorem wpList_bytes_full {ops : Array Oper} {rest : List Oper} {o : Oper} {act : Act} {Q : Exit → Act → World → Prop} (hgd : o.guard = none) (s x : Operand) (t : TypeId) (ut : Tryz.prog.underlying t = some (.slice 5)) (ho : o.op = .call { callee := .builtin .append, args := #[s, x], argTypes := #[t, t] })
    {base : Nat} {wr : World} {v : Value} {ys : List Int} (hs : act.eval s = v) (hown : Own base wr v []) (hF : Full v wr) (hbase : base ≤ wr.heap.size) (a2 : Option Addr) (n c : Nat) (hx : act.eval x = .slice a2 n c) (hn : ys.length = n) (hy : BytesAt wr.heap.size wr a2 ys) (hl : ys.length ≤ 1000000000)
    (h : ∀ v' w', Own base w' v' ys → Full v' w' → Below base wr w' → wpList Tryz.prog ops Q rest (act.put o.dst v') w') : wpList Tryz.prog ops Q (o :: rest) act wr := by
  obtain ⟨i0, hi, hz0, hz1, hz2⟩ := info_parts infoByte
  subst hn
  cases ha : a2 with
  | none =>
    subst ha
    have h0 : ys = [] := by
      rcases hy with h | ⟨b, off, h, _⟩
      · exact h
      · cases h
    subst h0
    exact Body.append_none hgd s x t ho base 5 i0 1 c ut hi v _ _ hs hown hx (h v wr hown hF (Below.refl _ _))
  | some ad =>
    subst ha
    have hnews : ∀ (j : Nat) (u : Value), (ys.map (Value.int .u8))[j]? = some u → wr.cell? (ad.add j) = some u := by
      intro j u hj
      have hjl : j < ys.length := by
        rcases Nat.lt_or_ge j ys.length with h | h
        · exact h
        · rw [List.getElem?_eq_none (by simpa using h)] at hj; cases hj
      rcases hy with h | ⟨b, off, h, _, hc⟩
      · rw [h] at hjl; simp at hjl
      · simp only [Option.some.injEq] at h
        subst h
        have hplain : (⟨b, off, none⟩ : Addr).add j = ⟨b, off + j, none⟩ := by unfold Addr.add; split <;> simp_all
        rw [hplain, hc j hjl, ← hj, getD_lt hjl]; simp [hjl]
    obtain ⟨v', w', hr, h2, h3, _⟩ := run_append_own (P := Tryz.prog) wr base t o.type 5 i0 (.int .u8 0) 1 1 ut hi hz0 hz1 hz2 rfl (by omega) v 0 [] hown ad ys.length c (ys.map (Value.int .u8)) (by simp) hnews (fun u hu => by obtain ⟨n, _, rfl⟩ := List.mem_map.1 hu; rfl) (by unfold maxLen; omega) (by omega) hbase
    refine wpList_plain hgd fun K hK => ?_
    unfold Oper.wp
    simp [execOp, ho, resolve, invoke, builtin, hs, hx, hr, Result.andThen]
    exact hK _ _ (h v' w' (by unfold Own; simpa using h2) (append_full t o.type ut hown ad ys.length c rfl hnews (by simp; omega) hr hF) ((Below.refl base wr).grown h3 hbase (fun k hk => (World.ownsRow.lt hown k hk).1)))
/-- Such a row is bytes of a copy. -/
theorem own_bytesO {base : Nat} {w : World} {v : Value} {zs : List Int} (h : Own base w v zs) (hF : Full v w) : ∃ a c, v = .slice a zs.length c ∧ BytesO base w.heap.size w a zs c := by
  rcases h.2 with ⟨rfl, h0⟩ | ⟨g, cap, cur, rfl, hb, hg, h1, h2, h3, h4⟩
  · have : zs = [] := List.eq_nil_of_length_eq_zero h0
    subst this
    exact ⟨none, 0, rfl, ⟨Nat.le_refl _, by omega, .inl ⟨rfl, rfl⟩⟩, .inl rfl⟩
  · have hgl : g < w.heap.size := (Array.getElem?_eq_some_iff.1 hg).1
    refine ⟨_, cap, rfl, ⟨h1, by simpa [maxLen] using h2, .inr ⟨g, 0, rfl, ⟨hb, hgl, cur, _, hg⟩, fun i hi => ?_⟩⟩, .inr ⟨g, 0, rfl, hgl, fun i hi => ?_⟩⟩
    · obtain ⟨cs, e, m, hh, hc⟩ := hF g rfl
      rw [hg] at hh
      simp only [Option.some.injEq, Obj.cells.injEq] at hh
      obtain ⟨rfl, -, -⟩ := hh
      have hx : cur[i]? = some (cur[i]'(by omega)) := Array.getElem?_eq_getElem (by omega)
      obtain ⟨z, hz⟩ := hc _ (by rw [Array.mem_toList_iff]; exact Array.getElem_mem (h := by omega) (i := i))
      refine ⟨z, ?_⟩
      rw [Nat.zero_add, ← hz]
      simp [World.cell?, hg, hx]
    · have hj : (zs.map (Value.int .u8))[i]? = some (.int .u8 (zs.getD i 0)) := by rw [getD_lt hi]; simp [hi]
      have := World.ownsRow.cells (show w.ownsRow base 5 1 (.slice (some ⟨g, 0, none⟩) zs.length cap) zs.length (zs.map (Value.int .u8)) from h) (g := g) rfl i _ hj
      have hplain : (⟨g, 0, none⟩ : Addr).add i = ⟨g, 0 + i, none⟩ := by unfold Addr.add; split <;> simp_all
      rw [hplain] at this
      exact this
theorem own_made8 (w : World) (g : Nat) (hg : g = w.heap.size) : Own g (w.alloc (.cells #[] 5)) (.slice (some ⟨g, 0, none⟩) 0 0) [] := by
  subst hg
  exact World.ownsRow_made w #[] 0 (Nat.le_refl _) (by unfold maxLen; omega) (by simp)
set_option maxHeartbeats 2000000 in
theorem clone_bytes (w : World) (a : Option Addr) (n c : Nat) (zs : List Int) (hn : zs.length = n) (hr : BytesAt w.heap.size w a zs) (hl : zs.length ≤ 1000000000) :
    Calls Tryz.prog 171 #[.slice a n c] w fun e w' => ∃ a' c', e = .returned (.slice a' n c') ∧ BytesO w.heap.size w'.heap.size w' a' zs c' ∧ Below w.heap.size w w' := by
  have HN := hid hn
  have HR := hid hr
  have HM := hid hl
  clear hn hr hl
  cases a with
  | none =>
    have HY : Hid (zs = []) := hid (HR.out.elim id (fun ⟨b, off, h, _⟩ => by cases h))
    have qn := Lib.run_eql_slice_nil (P := Tryz.prog) w 73 5 none n c 0 0 Tryz.underlying73
    rw [Option.isNone_none] at qn
    go_enter Tryz.func171, Tryz.ntmps171
    go_wp2
    go_ret
    have h0 : n = 0 := by rw [← HN.out, HY.out]; rfl
    subst h0
    exact ⟨none, 0, rfl, by rw [HY.out]; exact ⟨⟨Nat.le_refl _, by omega, .inl ⟨rfl, rfl⟩⟩, .inl rfl⟩, Below.refl _ _⟩
  | some ad =>
    have qn := Lib.run_eql_slice_nil (P := Tryz.prog) w 73 5 (some ad) n c 0 0 Tryz.underlying73
    rw [Option.isNone_some] at qn
    go_enter Tryz.func171, Tryz.ntmps171
    go_wp2_with (at_builtin; refine wpList_bytes_full rfl (.tmp 5) (.tmp 6) 73 Tryz.underlying73 rfl rfl (own_made8 w _ rfl) (Full.new rfl (by simp)) (by simp) _ _ _ rfl HN.out ((HR.out.below ((Below.refl _ _).alloc (Nat.le_refl _) _)).more (by simp)) HM.out ?_; intro v1 u1 ho hF hb)
    go_ret
    obtain ⟨a', c', rfl, hB⟩ := own_bytesO ho hF
    rw [HN.out]
    exact ⟨a', c', rfl, hB, (((Below.refl w.heap.size w).alloc (Nat.le_refl _) _).trans hb)⟩
end Go.Proofs.YtckdnhafookcgaaGreatDoor.Mod

namespace Go.Proofs.YtckdnhafookcgaaGreatDoor.Mod
open Go.RowKit Go.Proofs.YtckdnhafookcgaaGreatDoor.Instr
set_option linter.unusedVariables false

theorem two_boxesG (w : World) (cs zs : Array Value) (t : TypeId) : ∃ W0, W0 = (w.alloc (.cells cs t)).alloc (.cells zs t) ∧ Below w.heap.size w W0 ∧ W0.heap[w.heap.size]? = some (.cells cs t (0, 0)) ∧ W0.heap[w.heap.size + 1]? = some (.cells zs t (0, 0)) ∧ W0.heap.size = w.heap.size + 2 := by
  refine ⟨_, rfl, ((Below.refl w.heap.size w).alloc (Nat.le_refl _) _).alloc (by simp) _, ?_, ?_, by simp⟩
  · exact (((Below.refl _ _).alloc (Nat.le_refl _) _).block w.heap.size (by simp)).trans (heap_alloc_new w _)
  · have h := heap_alloc_new (w.alloc (.cells cs t)) (.cells zs t)
    rw [World.size_alloc] at h
    exact h
def Fn.own (lo hi : Nat) (w : World) (x : Fn) : Prop := ListO lo hi w x.l.a x.l.t.len x.l.t
def Gl.own (lo hi : Nat) (w : World) (x : Gl) : Prop := ListO lo hi w x.l.a x.l.t.len x.l.t
def El.own (lo hi : Nat) (w : World) (x : El) : Prop := ListO lo hi w x.l.a x.l.t.len x.l.t ∧ TagsO lo hi w x.fa x.fs
def Da.own (lo hi : Nat) (w : World) (x : Da) : Prop := ListO lo hi w x.l.a x.l.t.len x.l.t ∧ BytesO lo hi w x.ba x.bs x.bc
def kFn : Kin Fn := ⟨Fn.v, 3, Fn.bare, Fn.own, fun _ => rfl, by omega, fun s h => ListO.frame s h, fun a b h => ListO.mono a b h⟩
def kGl : Kin Gl := ⟨Gl.v, 2, Gl.bare, Gl.own, fun _ => rfl, by omega, fun s h => ListO.frame s h, fun a b h => ListO.mono a b h⟩
def kEl : Kin El := ⟨El.v, 2, El.bare, El.own, fun _ => rfl, by omega, fun s h => ⟨ListO.frame s h.1, TagsO.frame s h.2⟩, fun a b h => ⟨ListO.mono a b h.1, TagsO.mono a b h.2⟩⟩
def kDa : Kin Da := ⟨Da.v, 2, Da.bare, Da.own, fun _ => rfl, by omega, fun s h => ⟨ListO.frame s h.1, BytesO.frame s h.2⟩, fun a b h => ⟨ListO.mono a b h.1, BytesO.mono a b h.2⟩⟩
theorem lst_bare {a a' : Option Addr} {c c' : Nat} {t u : Il} (h : u.bare = t.bare) : (⟨a', c', u⟩ : Lst).bare = (⟨a, c, t⟩ : Lst).bare := by unfold Lst.bare; rw [h]
/-- What an item that is copied has. -/
def Fn.inp (w : World) (x : Fn) : Prop := ListAt w.heap.size w x.l.a x.l.t.len x.l.t ∧ x.l.t.weight ≤ 1000000000 ∧ x.l.t.len ≤ 140737488351232
set_option maxRecDepth 100000 in
set_option maxHeartbeats 4000000 in
theorem cpyFn (x : Fn) (w : World) (hi : x.inp w) :
    Calls Tryz.prog 89 #[.agg #[.int .i64 x.ty, .int .i64 x.lo, .slice x.l.a x.l.t.len x.l.c]] w fun e w' => (∃ x' : Fn, e = .returned (.agg #[.int .i64 x'.ty, .int .i64 x'.lo, .slice x'.l.a x'.l.t.len x'.l.c]) ∧ x'.own w.heap.size w'.heap.size w' ∧ x'.bare = x.bare) ∧ Below w.heap.size w w' := by
  obtain ⟨ty, lo, ⟨la, lc, lt⟩⟩ := x
  obtain ⟨hl, hw, hn⟩ := hi
  dsimp only at hl hw hn ⊢
  have HU : Hid (∀ u : Il, u.bare = lt.bare → u.len = lt.len) := hid (fun u h => by have := congrArg Il.len h; rwa [bare_len, bare_len] at this)
  obtain ⟨n, hln⟩ : ∃ n, lt.len = n := ⟨_, rfl⟩
  rw [hln] at hl hn HU ⊢
  obtain ⟨W0, hW0, hb, hr, hs, hz⟩ := two_boxesG w #[.int .i64 ty, .int .i64 lo, .slice la n lc] #[.int .i64 0, .int .i64 0, .slice none 0 0] 101
  have CL := hid (fun (W : World) (hb : Below w.heap.size w W) => copyList_any lt la n lc W hw ((hl.below hb).more hb.size) hn)
  have HB := hid hb
  have HR := hid hr
  have HS := hid hs
  have HZ := hid hz
  have HW := hid hW0
  have c2 := cs_cell hr (i := 2) rfl
  clear hl hw hn hln hb hr hs hz hW0
  go_enter Tryz.func89, Tryz.ntmps89
  go_upto_region 1 with fail
  rw [← HW.out]
  go_wp2_with fail
  refine (CL.out _ HB.out).mono ?_
  rintro r w1 ⟨⟨la1, lc1, u1, rfl, hL, hbare⟩, hb1⟩
  have HBA := hid hbare
  have rw1 := (hb1.block w.heap.size (by have := HZ.out; omega)).trans HR.out
  have sw1 := (hb1.block (w.heap.size + 1) (by have := HZ.out; omega)).trans HS.out
  have zw1 : w.heap.size + 2 ≤ w1.heap.size := by have := hb1.size; have := HZ.out; omega
  have cz := cs_cell rw1 (i := 2) rfl
  have fz := frozen_of_row w1 w.heap.size 2 _ _ rw1
  have HRa := hid rw1
  have HSa := hid sw1
  have HZa := hid zw1
  have HBa := hid (HB.out.trans (hb1.mono HB.out.size))
  have HLa := hid hL
  have HBb := hid hb1
  clear rw1 sw1 zw1 hL hb1 c2 hbare
  go_upto_region 2 with fail
  obtain ⟨w2, hw2⟩ : ∃ u, u = w1.setCell ⟨w.heap.size, 2, none⟩ (.slice la1 n lc1) := ⟨_, rfl⟩
  rw [← hw2]
  have rw2 : w2.heap[w.heap.size]? = some (.cells #[.int .i64 ty, .int .i64 lo, .slice la1 n lc1] 101 (0, 0)) := by rw [hw2]; exact heap_setCell_same w1 w.heap.size 2 _ _ _ HRa.out
  have sw2 : w2.heap[w.heap.size + 1]? = some (.cells #[.int .i64 0, .int .i64 0, .slice none 0 0] 101 (0, 0)) := by rw [hw2]; exact (Below.heap_setCell w1 ⟨w.heap.size, 2, none⟩ _ (w.heap.size + 1) (by simp)).trans HSa.out
  have ew2 : w2.heap.size = w1.heap.size := by rw [hw2]; simp [World.setCell]
  have HZ1 : Hid (w.heap.size + 2 ≤ w2.heap.size) := hid (by rw [ew2]; exact HZa.out)
  have HB1 : Hid (Below w.heap.size w w2) := hid (by rw [hw2]; exact HBa.out.setCell (by simp) _)
  have SM : Same2 (w.heap.size + 2) w1.heap.size w1 w2 := by rw [hw2]; exact Same2.set (.inl (by omega))
  have HO1 : Hid (ListO (w.heap.size + 2) w2.heap.size w2 la1 n u1) := hid (ListO.mono (Nat.le_refl _) (Nat.le_of_eq ew2.symm) (ListO.frame SM (ListO.mono (by have := HZ.out; omega) (Nat.le_refl _) HLa.out)))
  have HR1 := hid rw2
  have HS1 := hid sw2
  have x0 := cs_cell rw2 (i := 0) rfl
  have y0 := cs_cell sw2 (i := 0) rfl
  have v0 := frozen_of_row w2 (w.heap.size + 1) 0 _ _ sw2
  have x1 := cs_cell rw2 (i := 1) rfl
  have y1 := cs_cell sw2 (i := 1) rfl
  have v1 := frozen_of_row w2 (w.heap.size + 1) 1 _ _ sw2
  have x2 := cs_cell rw2 (i := 2) rfl
  have y2 := cs_cell sw2 (i := 2) rfl
  have v2 := frozen_of_row w2 (w.heap.size + 1) 2 _ _ sw2
  clear hw2 rw2 sw2 ew2 SM cz fz HRa HSa HZa HBa HLa HBb
  go_wp2
  have E8 : (((w2.setCell ⟨w.heap.size + 1, 0, none⟩ (.int .i64 ty)).setCell ⟨w.heap.size + 1, 1, none⟩ (.int .i64 lo)).setCell ⟨w.heap.size + 1, 2, none⟩ (.slice la1 n lc1)).heap.size = w2.heap.size := by simp [World.setCell]
  have F8 : Same2 (w.heap.size + 2) w2.heap.size w2 (((w2.setCell ⟨w.heap.size + 1, 0, none⟩ (.int .i64 ty)).setCell ⟨w.heap.size + 1, 1, none⟩ (.int .i64 lo)).setCell ⟨w.heap.size + 1, 2, none⟩ (.slice la1 n lc1)) := ((Same2.set (b := w.heap.size + 1) (.inl (by omega))).trans (Same2.set (b := w.heap.size + 1) (.inl (by omega)))).trans (Same2.set (b := w.heap.size + 1) (.inl (by omega)))
  have R8 := (heap_setCell_same _ (w.heap.size + 1) 2 _ _ (.slice la1 n lc1) (heap_setCell_same _ (w.heap.size + 1) 1 _ _ (.int .i64 lo) (heap_setCell_same _ (w.heap.size + 1) 0 _ _ (.int .i64 ty) HS1.out)))
  have B8 := (((HB1.out.setCell (p := ⟨w.heap.size + 1, 0, none⟩) (by simp) (.int .i64 ty)).setCell (p := ⟨w.heap.size + 1, 1, none⟩) (by simp) (.int .i64 lo)).setCell (p := ⟨w.heap.size + 1, 2, none⟩) (by simp) (.slice la1 n lc1))
  obtain ⟨w8, hw8⟩ : ∃ w8, w8 = (((w2.setCell ⟨w.heap.size + 1, 0, none⟩ (.int .i64 ty)).setCell ⟨w.heap.size + 1, 1, none⟩ (.int .i64 lo)).setCell ⟨w.heap.size + 1, 2, none⟩ (.slice la1 n lc1)) := ⟨_, rfl⟩
  rw [← hw8] at E8 F8 R8 B8 ⊢
  have hlu := HU.out u1 HBA.out
  have KHO1 : ListO w.heap.size w8.heap.size w8 la1 n u1 := ListO.mono (by omega) (by omega) (ListO.frame F8 HO1.out)
  refine bodyPost_ret (v := .agg #[.int .i64 ty, .int .i64 lo, .slice la1 n lc1]) (results_cell_row Tryz.results89 _ w8 (w.heap.size + 1) _ _ _ _ rfl R8 Tryz.underlying101 rfl (by kernel_rfl)) rfl ⟨⟨⟨ty, lo, ⟨la1, lc1, u1⟩⟩, by dsimp only; rw [hlu], (by show Fn.own _ _ _ _; unfold Fn.own; dsimp only; rw [hlu]; exact KHO1), congrArg (Fn.mk ty lo) (lst_bare HBA.out)⟩, B8⟩
/-- What an item that is copied has. -/
def Gl.inp (w : World) (x : Gl) : Prop := ListAt w.heap.size w x.l.a x.l.t.len x.l.t ∧ x.l.t.weight ≤ 1000000000 ∧ x.l.t.len ≤ 140737488351232
set_option maxRecDepth 100000 in
set_option maxHeartbeats 4000000 in
theorem cpyGl (x : Gl) (w : World) (hi : x.inp w) :
    Calls Tryz.prog 92 #[.agg #[.bool x.mu, .slice x.l.a x.l.t.len x.l.c]] w fun e w' => (∃ x' : Gl, e = .returned (.agg #[.bool x'.mu, .slice x'.l.a x'.l.t.len x'.l.c]) ∧ x'.own w.heap.size w'.heap.size w' ∧ x'.bare = x.bare) ∧ Below w.heap.size w w' := by
  obtain ⟨mu, ⟨la, lc, lt⟩⟩ := x
  obtain ⟨hl, hw, hn⟩ := hi
  dsimp only at hl hw hn ⊢
  have HU : Hid (∀ u : Il, u.bare = lt.bare → u.len = lt.len) := hid (fun u h => by have := congrArg Il.len h; rwa [bare_len, bare_len] at this)
  obtain ⟨n, hln⟩ : ∃ n, lt.len = n := ⟨_, rfl⟩
  rw [hln] at hl hn HU ⊢
  obtain ⟨W0, hW0, hb, hr, hs, hz⟩ := two_boxesG w #[.bool mu, .slice la n lc] #[.bool false, .slice none 0 0] 94
  have CL := hid (fun (W : World) (hb : Below w.heap.size w W) => copyList_any lt la n lc W hw ((hl.below hb).more hb.size) hn)
  have HB := hid hb
  have HR := hid hr
  have HS := hid hs
  have HZ := hid hz
  have HW := hid hW0
  have c1 := cs_cell hr (i := 1) rfl
  clear hl hw hn hln hb hr hs hz hW0
  go_enter Tryz.func92, Tryz.ntmps92
  go_upto_region 1 with fail
  rw [← HW.out]
  go_wp2_with fail
  refine (CL.out _ HB.out).mono ?_
  rintro r w1 ⟨⟨la1, lc1, u1, rfl, hL, hbare⟩, hb1⟩
  have HBA := hid hbare
  have rw1 := (hb1.block w.heap.size (by have := HZ.out; omega)).trans HR.out
  have sw1 := (hb1.block (w.heap.size + 1) (by have := HZ.out; omega)).trans HS.out
  have zw1 : w.heap.size + 2 ≤ w1.heap.size := by have := hb1.size; have := HZ.out; omega
  have cz := cs_cell rw1 (i := 1) rfl
  have fz := frozen_of_row w1 w.heap.size 1 _ _ rw1
  have HRa := hid rw1
  have HSa := hid sw1
  have HZa := hid zw1
  have HBa := hid (HB.out.trans (hb1.mono HB.out.size))
  have HLa := hid hL
  have HBb := hid hb1
  clear rw1 sw1 zw1 hL hb1 c1 hbare
  go_upto_region 2 with fail
  obtain ⟨w2, hw2⟩ : ∃ u, u = w1.setCell ⟨w.heap.size, 1, none⟩ (.slice la1 n lc1) := ⟨_, rfl⟩
  rw [← hw2]
  have rw2 : w2.heap[w.heap.size]? = some (.cells #[.bool mu, .slice la1 n lc1] 94 (0, 0)) := by rw [hw2]; exact heap_setCell_same w1 w.heap.size 1 _ _ _ HRa.out
  have sw2 : w2.heap[w.heap.size + 1]? = some (.cells #[.bool false, .slice none 0 0] 94 (0, 0)) := by rw [hw2]; exact (Below.heap_setCell w1 ⟨w.heap.size, 1, none⟩ _ (w.heap.size + 1) (by simp)).trans HSa.out
  have ew2 : w2.heap.size = w1.heap.size := by rw [hw2]; simp [World.setCell]
  have HZ1 : Hid (w.heap.size + 2 ≤ w2.heap.size) := hid (by rw [ew2]; exact HZa.out)
  have HB1 : Hid (Below w.heap.size w w2) := hid (by rw [hw2]; exact HBa.out.setCell (by simp) _)
  have SM : Same2 (w.heap.size + 2) w1.heap.size w1 w2 := by rw [hw2]; exact Same2.set (.inl (by omega))
  have HO1 : Hid (ListO (w.heap.size + 2) w2.heap.size w2 la1 n u1) := hid (ListO.mono (Nat.le_refl _) (Nat.le_of_eq ew2.symm) (ListO.frame SM (ListO.mono (by have := HZ.out; omega) (Nat.le_refl _) HLa.out)))
  have HR1 := hid rw2
  have HS1 := hid sw2
  have x0 := cs_cell rw2 (i := 0) rfl
  have y0 := cs_cell sw2 (i := 0) rfl
  have v0 := frozen_of_row w2 (w.heap.size + 1) 0 _ _ sw2
  have x1 := cs_cell rw2 (i := 1) rfl
  have y1 := cs_cell sw2 (i := 1) rfl
  have v1 := frozen_of_row w2 (w.heap.size + 1) 1 _ _ sw2
  clear hw2 rw2 sw2 ew2 SM cz fz HRa HSa HZa HBa HLa HBb
  go_wp2
  have E8 : ((w2.setCell ⟨w.heap.size + 1, 0, none⟩ (.bool mu)).setCell ⟨w.heap.size + 1, 1, none⟩ (.slice la1 n lc1)).heap.size = w2.heap.size := by simp [World.setCell]
  have F8 : Same2 (w.heap.size + 2) w2.heap.size w2 ((w2.setCell ⟨w.heap.size + 1, 0, none⟩ (.bool mu)).setCell ⟨w.heap.size + 1, 1, none⟩ (.slice la1 n lc1)) := (Same2.set (b := w.heap.size + 1) (.inl (by omega))).trans (Same2.set (b := w.heap.size + 1) (.inl (by omega)))
  have R8 := (heap_setCell_same _ (w.heap.size + 1) 1 _ _ (.slice la1 n lc1) (heap_setCell_same _ (w.heap.size + 1) 0 _ _ (.bool mu) HS1.out))
  have B8 := ((HB1.out.setCell (p := ⟨w.heap.size + 1, 0, none⟩) (by simp) (.bool mu)).setCell (p := ⟨w.heap.size + 1, 1, none⟩) (by simp) (.slice la1 n lc1))
  obtain ⟨w8, hw8⟩ : ∃ w8, w8 = ((w2.setCell ⟨w.heap.size + 1, 0, none⟩ (.bool mu)).setCell ⟨w.heap.size + 1, 1, none⟩ (.slice la1 n lc1)) := ⟨_, rfl⟩
  rw [← hw8] at E8 F8 R8 B8 ⊢
  have hlu := HU.out u1 HBA.out
  have KHO1 : ListO w.heap.size w8.heap.size w8 la1 n u1 := ListO.mono (by omega) (by omega) (ListO.frame F8 HO1.out)
  refine bodyPost_ret (v := .agg #[.bool mu, .slice la1 n lc1]) (results_cell_row Tryz.results92 _ w8 (w.heap.size + 1) _ _ _ _ rfl R8 Tryz.underlying94 rfl (by kernel_rfl)) rfl ⟨⟨⟨mu, ⟨la1, lc1, u1⟩⟩, by dsimp only; rw [hlu], (by show Gl.own _ _ _ _; unfold Gl.own; dsimp only; rw [hlu]; exact KHO1), congrArg (Gl.mk mu) (lst_bare HBA.out)⟩, B8⟩
/-- What an item that is copied has. -/
def El.inp (w : World) (x : El) : Prop := ListAt w.heap.size w x.l.a x.l.t.len x.l.t ∧ x.l.t.weight ≤ 1000000000 ∧ x.l.t.len ≤ 140737488351232 ∧ TagsAt w.heap.size w x.fa x.fs ∧ x.fs.length ≤ 1000000000
set_option maxRecDepth 100000 in
set_option maxHeartbeats 4000000 in
theorem cpyEl (x : El) (w : World) (hi : x.inp w) :
    Calls Tryz.prog 95 #[.agg #[.slice x.l.a x.l.t.len x.l.c, .slice x.fa x.fs.length x.fc]] w fun e w' => (∃ x' : El, e = .returned (.agg #[.slice x'.l.a x'.l.t.len x'.l.c, .slice x'.fa x'.fs.length x'.fc]) ∧ x'.own w.heap.size w'.heap.size w' ∧ x'.bare = x.bare) ∧ Below w.heap.size w w' := by
  obtain ⟨⟨la, lc, lt⟩, fa, fc, fs⟩ := x
  obtain ⟨hl, hw, hn, h4, h5⟩ := hi
  dsimp only at hl hw hn h4 h5 ⊢
  have HU : Hid (∀ u : Il, u.bare = lt.bare → u.len = lt.len) := hid (fun u h => by have := congrArg Il.len h; rwa [bare_len, bare_len] at this)
  obtain ⟨n, hln⟩ : ∃ n, lt.len = n := ⟨_, rfl⟩
  rw [hln] at hl hn HU ⊢
  obtain ⟨W0, hW0, hb, hr, hs, hz⟩ := two_boxesG w #[.slice la n lc, .slice fa fs.length fc] #[.slice none 0 0, .slice none 0 0] 109
  have CL := hid (fun (W : World) (hb : Below w.heap.size w W) => copyList_any lt la n lc W hw ((hl.below hb).more hb.size) hn)
  have CT := hid (fun (W : World) (hb : Below w.heap.size w W) => clone_u4 W fa fs.length fc (oneU fs) (by unfold oneU; rw [List.length_map]) ((rows_tags (h4.below hb)).more hb.size) (oneU_len fs) (oneU_one fs) (by unfold oneU; rw [List.length_map]; exact h5))
  have HB := hid hb
  have HR := hid hr
  have HS := hid hs
  have HZ := hid hz
  have HW := hid hW0
  have c0 := cs_cell hr (i := 0) rfl
  clear hl hw hn hln hb hr hs hz hW0 h4 h5
  go_enter Tryz.func95, Tryz.ntmps95
  go_upto_region 1 with fail
  rw [← HW.out]
  go_wp2_with fail
  refine (CL.out _ HB.out).mono ?_
  rintro r w1 ⟨⟨la1, lc1, u1, rfl, hL, hbare⟩, hb1⟩
  have HBA := hid hbare
  have rw1 := (hb1.block w.heap.size (by have := HZ.out; omega)).trans HR.out
  have sw1 := (hb1.block (w.heap.size + 1) (by have := HZ.out; omega)).trans HS.out
  have zw1 : w.heap.size + 2 ≤ w1.heap.size := by have := hb1.size; have := HZ.out; omega
  have cz := cs_cell rw1 (i := 0) rfl
  have fz := frozen_of_row w1 w.heap.size 0 _ _ rw1
  have HRa := hid rw1
  have HSa := hid sw1
  have HZa := hid zw1
  have HBa := hid (HB.out.trans (hb1.mono HB.out.size))
  have HLa := hid hL
  have HBb := hid hb1
  clear rw1 sw1 zw1 hL hb1 c0 hbare
  go_upto_region 2 with fail
  obtain ⟨w2, hw2⟩ : ∃ u, u = w1.setCell ⟨w.heap.size, 0, none⟩ (.slice la1 n lc1) := ⟨_, rfl⟩
  rw [← hw2]
  have rw2 : w2.heap[w.heap.size]? = some (.cells #[.slice la1 n lc1, .slice fa fs.length fc] 109 (0, 0)) := by rw [hw2]; exact heap_setCell_same w1 w.heap.size 0 _ _ _ HRa.out
  have sw2 : w2.heap[w.heap.size + 1]? = some (.cells #[.slice none 0 0, .slice none 0 0] 109 (0, 0)) := by rw [hw2]; exact (Below.heap_setCell w1 ⟨w.heap.size, 0, none⟩ _ (w.heap.size + 1) (by simp)).trans HSa.out
  have ew2 : w2.heap.size = w1.heap.size := by rw [hw2]; simp [World.setCell]
  have HZ1 : Hid (w.heap.size + 2 ≤ w2.heap.size) := hid (by rw [ew2]; exact HZa.out)
  have HB1 : Hid (Below w.heap.size w w2) := hid (by rw [hw2]; exact HBa.out.setCell (by simp) _)
  have SM : Same2 (w.heap.size + 2) w1.heap.size w1 w2 := by rw [hw2]; exact Same2.set (.inl (by omega))
  have HO1 : Hid (ListO (w.heap.size + 2) w2.heap.size w2 la1 n u1) := hid (ListO.mono (Nat.le_refl _) (Nat.le_of_eq ew2.symm) (ListO.frame SM (ListO.mono (by have := HZ.out; omega) (Nat.le_refl _) HLa.out)))
  have HR1 := hid rw2
  have HS1 := hid sw2
  have c1 := cs_cell rw2 (i := 1) rfl
  clear hw2 rw2 sw2 ew2 SM cz fz HRa HSa HZa HBa HLa HBb
  go_wp2_with fail
  refine (CT.out _ HB1.out).mono ?_
  rintro r w3 ⟨v, rfl, ho, hb2⟩
  obtain ⟨fa1, fc1, rfl, hL⟩ := own_tags ho
  have rw3 := (hb2.block w.heap.size (by have := HZ1.out; omega)).trans HR1.out
  have sw3 := (hb2.block (w.heap.size + 1) (by have := HZ1.out; omega)).trans HS1.out
  have zw3 : w.heap.size + 2 ≤ w3.heap.size := by have := hb2.size; have := HZ1.out; omega
  have cz := cs_cell rw3 (i := 1) rfl
  have fz := frozen_of_row w3 w.heap.size 1 _ _ rw3
  have HRa := hid rw3
  have HSa := hid sw3
  have HZa := hid zw3
  have HBa := hid (HB1.out.trans (hb2.mono HB1.out.size))
  have HLa := hid hL
  have HBb := hid hb2
  clear rw3 sw3 zw3 hL hb2 c1 ho
  go_upto_region 3 with fail
  obtain ⟨w4, hw4⟩ : ∃ u, u = w3.setCell ⟨w.heap.size, 1, none⟩ (.slice fa1 fs.length fc1) := ⟨_, rfl⟩
  rw [← hw4]
  have rw4 : w4.heap[w.heap.size]? = some (.cells #[.slice la1 n lc1, .slice fa1 fs.length fc1] 109 (0, 0)) := by rw [hw4]; exact heap_setCell_same w3 w.heap.size 1 _ _ _ HRa.out
  have sw4 : w4.heap[w.heap.size + 1]? = some (.cells #[.slice none 0 0, .slice none 0 0] 109 (0, 0)) := by rw [hw4]; exact (Below.heap_setCell w3 ⟨w.heap.size, 1, none⟩ _ (w.heap.size + 1) (by simp)).trans HSa.out
  have ew4 : w4.heap.size = w3.heap.size := by rw [hw4]; simp [World.setCell]
  have HZ2 : Hid (w.heap.size + 2 ≤ w4.heap.size) := hid (by rw [ew4]; exact HZa.out)
  have HB2 : Hid (Below w.heap.size w w4) := hid (by rw [hw4]; exact HBa.out.setCell (by simp) _)
  have SM : Same2 (w.heap.size + 2) w3.heap.size w3 w4 := by rw [hw4]; exact Same2.set (.inl (by omega))
  have HO1 : Hid (ListO (w.heap.size + 2) w4.heap.size w4 la1 n u1) := hid (ListO.mono (Nat.le_refl _) (by rw [ew4]; exact HBb.out.size) (HO1.out.frame ((Same2.of_below HBb.out (Nat.le_refl _)).trans (fun q q1 q2 => SM q q1 (Nat.lt_of_lt_of_le q2 HBb.out.size)))))
  have HO2 : Hid (TagsO (w.heap.size + 2) w4.heap.size w4 fa1 fs) := hid (TagsO.mono (Nat.le_refl _) (Nat.le_of_eq ew4.symm) (TagsO.frame SM (TagsO.mono (by have := HZ1.out; omega) (Nat.le_refl _) HLa.out)))
  have HR2 := hid rw4
  have HS2 := hid sw4
  have x0 := cs_cell rw4 (i := 0) rfl
  have y0 := cs_cell sw4 (i := 0) rfl
  have v0 := frozen_of_row w4 (w.heap.size + 1) 0 _ _ sw4
  have x1 := cs_cell rw4 (i := 1) rfl
  have y1 := cs_cell sw4 (i := 1) rfl
  have v1 := frozen_of_row w4 (w.heap.size + 1) 1 _ _ sw4
  clear hw4 rw4 sw4 ew4 SM cz fz HRa HSa HZa HBa HLa HBb
  go_wp2
  have E8 : ((w4.setCell ⟨w.heap.size + 1, 0, none⟩ (.slice la1 n lc1)).setCell ⟨w.heap.size + 1, 1, none⟩ (.slice fa1 fs.length fc1)).heap.size = w4.heap.size := by simp [World.setCell]
  have F8 : Same2 (w.heap.size + 2) w4.heap.size w4 ((w4.setCell ⟨w.heap.size + 1, 0, none⟩ (.slice la1 n lc1)).setCell ⟨w.heap.size + 1, 1, none⟩ (.slice fa1 fs.length fc1)) := (Same2.set (b := w.heap.size + 1) (.inl (by omega))).trans (Same2.set (b := w.heap.size + 1) (.inl (by omega)))
  have R8 := (heap_setCell_same _ (w.heap.size + 1) 1 _ _ (.slice fa1 fs.length fc1) (heap_setCell_same _ (w.heap.size + 1) 0 _ _ (.slice la1 n lc1) HS2.out))
  have B8 := ((HB2.out.setCell (p := ⟨w.heap.size + 1, 0, none⟩) (by simp) (.slice la1 n lc1)).setCell (p := ⟨w.heap.size + 1, 1, none⟩) (by simp) (.slice fa1 fs.length fc1))
  obtain ⟨w8, hw8⟩ : ∃ w8, w8 = ((w4.setCell ⟨w.heap.size + 1, 0, none⟩ (.slice la1 n lc1)).setCell ⟨w.heap.size + 1, 1, none⟩ (.slice fa1 fs.length fc1)) := ⟨_, rfl⟩
  rw [← hw8] at E8 F8 R8 B8 ⊢
  have hlu := HU.out u1 HBA.out
  have KHO1 : ListO w.heap.size w8.heap.size w8 la1 n u1 := ListO.mono (by omega) (by omega) (ListO.frame F8 HO1.out)
  have KHO2 : TagsO w.heap.size w8.heap.size w8 fa1 fs := TagsO.mono (by omega) (by omega) (TagsO.frame F8 HO2.out)
  refine bodyPost_ret (v := .agg #[.slice la1 n lc1, .slice fa1 fs.length fc1]) (results_cell_row Tryz.results95 _ w8 (w.heap.size + 1) _ _ _ _ rfl R8 Tryz.underlying109 rfl (by kernel_rfl)) rfl ⟨⟨⟨⟨la1, lc1, u1⟩, fa1, fc1, fs⟩, by dsimp only; rw [hlu], (by show El.own _ _ _ _; unfold El.own; dsimp only; rw [hlu]; exact ⟨KHO1, KHO2⟩), (by unfold El.bare; rw [lst_bare (a := la) (c := lc) HBA.out])⟩, B8⟩
/-- What an item that is copied has. -/
def Da.inp (w : World) (x : Da) : Prop := ListAt w.heap.size w x.l.a x.l.t.len x.l.t ∧ x.l.t.weight ≤ 1000000000 ∧ x.l.t.len ≤ 140737488351232 ∧ BytesAt w.heap.size w x.ba x.bs ∧ x.bs.length ≤ 1000000000
set_option maxRecDepth 100000 in
set_option maxHeartbeats 4000000 in
theorem cpyDa (x : Da) (w : World) (hi : x.inp w) :
    Calls Tryz.prog 97 #[.agg #[.slice x.l.a x.l.t.len x.l.c, .slice x.ba x.bs.length x.bc]] w fun e w' => (∃ x' : Da, e = .returned (.agg #[.slice x'.l.a x'.l.t.len x'.l.c, .slice x'.ba x'.bs.length x'.bc]) ∧ x'.own w.heap.size w'.heap.size w' ∧ x'.bare = x.bare) ∧ Below w.heap.size w w' := by
  obtain ⟨⟨la, lc, lt⟩, ba, bc, bs⟩ := x
  obtain ⟨hl, hw, hn, h4, h5⟩ := hi
  dsimp only at hl hw hn h4 h5 ⊢
  have HU : Hid (∀ u : Il, u.bare = lt.bare → u.len = lt.len) := hid (fun u h => by have := congrArg Il.len h; rwa [bare_len, bare_len] at this)
  obtain ⟨n, hln⟩ : ∃ n, lt.len = n := ⟨_, rfl⟩
  rw [hln] at hl hn HU ⊢
  obtain ⟨W0, hW0, hb, hr, hs, hz⟩ := two_boxesG w #[.slice la n lc, .slice ba bs.length bc] #[.slice none 0 0, .slice none 0 0] 88
  have CL := hid (fun (W : World) (hb : Below w.heap.size w W) => copyList_any lt la n lc W hw ((hl.below hb).more hb.size) hn)
  have CT := hid (fun (W : World) (hb : Below w.heap.size w W) => clone_bytes W ba bs.length bc bs rfl ((h4.below hb).more hb.size) h5)
  have HB := hid hb
  have HR := hid hr
  have HS := hid hs
  have HZ := hid hz
  have HW := hid hW0
  have c0 := cs_cell hr (i := 0) rfl
  clear hl hw hn hln hb hr hs hz hW0 h4 h5
  go_enter Tryz.func97, Tryz.ntmps97
  go_upto_region 1 with fail
  rw [← HW.out]
  go_wp2_with fail
  refine (CL.out _ HB.out).mono ?_
  rintro r w1 ⟨⟨la1, lc1, u1, rfl, hL, hbare⟩, hb1⟩
  have HBA := hid hbare
  have rw1 := (hb1.block w.heap.size (by have := HZ.out; omega)).trans HR.out
  have sw1 := (hb1.block (w.heap.size + 1) (by have := HZ.out; omega)).trans HS.out
  have zw1 : w.heap.size + 2 ≤ w1.heap.size := by have := hb1.size; have := HZ.out; omega
  have cz := cs_cell rw1 (i := 0) rfl
  have fz := frozen_of_row w1 w.heap.size 0 _ _ rw1
  have HRa := hid rw1
  have HSa := hid sw1
  have HZa := hid zw1
  have HBa := hid (HB.out.trans (hb1.mono HB.out.size))
  have HLa := hid hL
  have HBb := hid hb1
  clear rw1 sw1 zw1 hL hb1 c0 hbare
  go_upto_region 2 with fail
  obtain ⟨w2, hw2⟩ : ∃ u, u = w1.setCell ⟨w.heap.size, 0, none⟩ (.slice la1 n lc1) := ⟨_, rfl⟩
  rw [← hw2]
  have rw2 : w2.heap[w.heap.size]? = some (.cells #[.slice la1 n lc1, .slice ba bs.length bc] 88 (0, 0)) := by rw [hw2]; exact heap_setCell_same w1 w.heap.size 0 _ _ _ HRa.out
  have sw2 : w2.heap[w.heap.size + 1]? = some (.cells #[.slice none 0 0, .slice none 0 0] 88 (0, 0)) := by rw [hw2]; exact (Below.heap_setCell w1 ⟨w.heap.size, 0, none⟩ _ (w.heap.size + 1) (by simp)).trans HSa.out
  have ew2 : w2.heap.size = w1.heap.size := by rw [hw2]; simp [World.setCell]
  have HZ1 : Hid (w.heap.size + 2 ≤ w2.heap.size) := hid (by rw [ew2]; exact HZa.out)
  have HB1 : Hid (Below w.heap.size w w2) := hid (by rw [hw2]; exact HBa.out.setCell (by simp) _)
  have SM : Same2 (w.heap.size + 2) w1.heap.size w1 w2 := by rw [hw2]; exact Same2.set (.inl (by omega))
  have HO1 : Hid (ListO (w.heap.size + 2) w2.heap.size w2 la1 n u1) := hid (ListO.mono (Nat.le_refl _) (Nat.le_of_eq ew2.symm) (ListO.frame SM (ListO.mono (by have := HZ.out; omega) (Nat.le_refl _) HLa.out)))
  have HR1 := hid rw2
  have HS1 := hid sw2
  have c1 := cs_cell rw2 (i := 1) rfl
  clear hw2 rw2 sw2 ew2 SM cz fz HRa HSa HZa HBa HLa HBb
  go_wp2_with fail
  refine (CT.out _ HB1.out).mono ?_
  rintro r w3 ⟨ba1, bc1, rfl, hL, hb2⟩
  have rw3 := (hb2.block w.heap.size (by have := HZ1.out; omega)).trans HR1.out
  have sw3 := (hb2.block (w.heap.size + 1) (by have := HZ1.out; omega)).trans HS1.out
  have zw3 : w.heap.size + 2 ≤ w3.heap.size := by have := hb2.size; have := HZ1.out; omega
  have cz := cs_cell rw3 (i := 1) rfl
  have fz := frozen_of_row w3 w.heap.size 1 _ _ rw3
  have HRa := hid rw3
  have HSa := hid sw3
  have HZa := hid zw3
  have HBa := hid (HB1.out.trans (hb2.mono HB1.out.size))
  have HLa := hid hL
  have HBb := hid hb2
  clear rw3 sw3 zw3 hL hb2 c1
  go_upto_region 3 with fail
  obtain ⟨w4, hw4⟩ : ∃ u, u = w3.setCell ⟨w.heap.size, 1, none⟩ (.slice ba1 bs.length bc1) := ⟨_, rfl⟩
  rw [← hw4]
  have rw4 : w4.heap[w.heap.size]? = some (.cells #[.slice la1 n lc1, .slice ba1 bs.length bc1] 88 (0, 0)) := by rw [hw4]; exact heap_setCell_same w3 w.heap.size 1 _ _ _ HRa.out
  have sw4 : w4.heap[w.heap.size + 1]? = some (.cells #[.slice none 0 0, .slice none 0 0] 88 (0, 0)) := by rw [hw4]; exact (Below.heap_setCell w3 ⟨w.heap.size, 1, none⟩ _ (w.heap.size + 1) (by simp)).trans HSa.out
  have ew4 : w4.heap.size = w3.heap.size := by rw [hw4]; simp [World.setCell]
  have HZ2 : Hid (w.heap.size + 2 ≤ w4.heap.size) := hid (by rw [ew4]; exact HZa.out)
  have HB2 : Hid (Below w.heap.size w w4) := hid (by rw [hw4]; exact HBa.out.setCell (by simp) _)
  have SM : Same2 (w.heap.size + 2) w3.heap.size w3 w4 := by rw [hw4]; exact Same2.set (.inl (by omega))
  have HO1 : Hid (ListO (w.heap.size + 2) w4.heap.size w4 la1 n u1) := hid (ListO.mono (Nat.le_refl _) (by rw [ew4]; exact HBb.out.size) (HO1.out.frame ((Same2.of_below HBb.out (Nat.le_refl _)).trans (fun q q1 q2 => SM q q1 (Nat.lt_of_lt_of_le q2 HBb.out.size)))))
  have HO2 : Hid (BytesO (w.heap.size + 2) w4.heap.size w4 ba1 bs bc1) := hid (BytesO.mono (Nat.le_refl _) (Nat.le_of_eq ew4.symm) (BytesO.frame SM (BytesO.mono (by have := HZ1.out; omega) (Nat.le_refl _) HLa.out)))
  have HR2 := hid rw4
  have HS2 := hid sw4
  have x0 := cs_cell rw4 (i := 0) rfl
  have y0 := cs_cell sw4 (i := 0) rfl
  have v0 := frozen_of_row w4 (w.heap.size + 1) 0 _ _ sw4
  have x1 := cs_cell rw4 (i := 1) rfl
  have y1 := cs_cell sw4 (i := 1) rfl
  have v1 := frozen_of_row w4 (w.heap.size + 1) 1 _ _ sw4
  clear hw4 rw4 sw4 ew4 SM cz fz HRa HSa HZa HBa HLa HBb
  go_wp2
  have E8 : ((w4.setCell ⟨w.heap.size + 1, 0, none⟩ (.slice la1 n lc1)).setCell ⟨w.heap.size + 1, 1, none⟩ (.slice ba1 bs.length bc1)).heap.size = w4.heap.size := by simp [World.setCell]
  have F8 : Same2 (w.heap.size + 2) w4.heap.size w4 ((w4.setCell ⟨w.heap.size + 1, 0, none⟩ (.slice la1 n lc1)).setCell ⟨w.heap.size + 1, 1, none⟩ (.slice ba1 bs.length bc1)) := (Same2.set (b := w.heap.size + 1) (.inl (by omega))).trans (Same2.set (b := w.heap.size + 1) (.inl (by omega)))
  have R8 := (heap_setCell_same _ (w.heap.size + 1) 1 _ _ (.slice ba1 bs.length bc1) (heap_setCell_same _ (w.heap.size + 1) 0 _ _ (.slice la1 n lc1) HS2.out))
  have B8 := ((HB2.out.setCell (p := ⟨w.heap.size + 1, 0, none⟩) (by simp) (.slice la1 n lc1)).setCell (p := ⟨w.heap.size + 1, 1, none⟩) (by simp) (.slice ba1 bs.length bc1))
  obtain ⟨w8, hw8⟩ : ∃ w8, w8 = ((w4.setCell ⟨w.heap.size + 1, 0, none⟩ (.slice la1 n lc1)).setCell ⟨w.heap.size + 1, 1, none⟩ (.slice ba1 bs.length bc1)) := ⟨_, rfl⟩
  rw [← hw8] at E8 F8 R8 B8 ⊢
  have hlu := HU.out u1 HBA.out
  have KHO1 : ListO w.heap.size w8.heap.size w8 la1 n u1 := ListO.mono (by omega) (by omega) (ListO.frame F8 HO1.out)
  have KHO2 : BytesO w.heap.size w8.heap.size w8 ba1 bs bc1 := BytesO.mono (by omega) (by omega) (BytesO.frame F8 HO2.out)
  refine bodyPost_ret (v := .agg #[.slice la1 n lc1, .slice ba1 bs.length bc1]) (results_cell_row Tryz.results97 _ w8 (w.heap.size + 1) _ _ _ _ rfl R8 Tryz.underlying88 rfl (by kernel_rfl)) rfl ⟨⟨⟨⟨la1, lc1, u1⟩, ba1, bc1, bs⟩, by dsimp only; rw [hlu], (by show Da.own _ _ _ _; unfold Da.own; dsimp only; rw [hlu]; exact ⟨KHO1, KHO2⟩), (by unfold Da.bare; rw [lst_bare (a := la) (c := lc) HBA.out])⟩, B8⟩
end Go.Proofs.YtckdnhafookcgaaGreatDoor.Mod

namespace Go.Proofs.YtckdnhafookcgaaGreatDoor.Mem
open Go.RowKit Go.Proofs.YtckdnhafookcgaaGreatDoor.Instr Go.Proofs.YtckdnhafookcgaaGreatDoor.Num Go.Proofs.YtckdnhafookcgaaGreatDoor.Kind
open Go.Maps (Keyed int_keyed IsMap)
set_option linter.unusedVariables false

theorem zero_byte : (0 : Int) ≤ 0 ∧ (0 : Int) < 256 := by decide
/-- A memory that was just made. -/
theorem MemAt.new {W0 W : World} {p mb n t : Nat} {es : List Int} (hb : W.heap[p]? = some (.cells #[.pointer (some ⟨p, 0, none⟩), .int .u32 n, .int .u32 t, .map (some mb)] 146 (0, 0))) (hm : W.heap[mb]? = some (.map #[] 0)) (h1 : W0.heap.size ≤ p) (h2 : W0.heap.size ≤ mb) (hn : n ≤ t) (ht : t ≤ 65536) :
    MemAt W0.heap.size W p mb 0 (.map []) ⟨n, t, fun _ => 0⟩ := by
  refine ⟨hb, h1, h2, ⟨#[], 0, hm, ⟨by simp, MapKept.stamped_empty 0, by simp⟩, Nat.le_refl _, rfl⟩, Maps.isMap_empty, ⟨hn, ht, fun _ => zero_byte⟩, fun k => .inl ⟨rfl, fun _ _ => rfl⟩, fun k k' g h => by cases h⟩
/-- What New gives. -/
def NewTo (W : World) (n t : Nat) (e : Ending) (w' : World) : Prop := ∃ p, e = .returned (.tuple #[.pointer (some ⟨p, 0, none⟩), .int .i64 0]) ∧ MemIs W.heap.size w' p 0 ⟨n, t, fun _ => 0⟩ ∧ Below W.heap.size W w'
theorem new_end {W w1 w2 : World} (hb : Below W.heap.size W w1) {n t : Nat} (hn : n ≤ t) (ht : t ≤ 65536)
    (hc : w2.heap[w1.heap.size + 1]? = some (.cells #[.pointer (some ⟨w1.heap.size + 1, 0, none⟩), .int .u32 n, .int .u32 t, .map (some w1.heap.size)] 146 (0, 0))) (hm : w2.heap[w1.heap.size]? = some (.map #[] 0)) (h2 : Below w1.heap.size w1 w2) :
    NewTo W n t (.returned (.tuple #[.pointer (some ⟨w1.heap.size + 1, 0, none⟩), .int .i64 0])) w2 :=
  ⟨w1.heap.size + 1, rfl, ⟨w1.heap.size, .map [], 0, Nat.le_refl _, MemAt.new (es := []) hc hm (by have := hb.size; omega) hb.size hn ht⟩, thenB hb h2⟩
theorem new_made {W w1 : World} (hb : Below W.heap.size W w1) {n t : Nat} (hn : n ≤ t) (ht : t ≤ 65536) :
    NewTo W n t (.returned (.tuple #[.pointer (some ⟨w1.heap.size + 1, 0, none⟩), .int .i64 0])) ((w1.alloc (.map #[] 0)).alloc (.cells #[.pointer (some ⟨w1.heap.size + 1, 0, none⟩), .int .u32 n, .int .u32 t, .map (some w1.heap.size)] 146)) := by
  refine new_end hb hn ht ?_ ?_ (thenA (thenA (Below.refl _ _) _) _)
  · have := (MapKept.heap_alloc (w1.alloc (.map #[] 0)) (.cells #[.pointer (some ⟨w1.heap.size + 1, 0, none⟩), .int .u32 n, .int .u32 t, .map (some w1.heap.size)] 146)).1
    rw [World.size_alloc] at this
    exact this
  · have h1 := (MapKept.heap_alloc w1 (.map #[] 0)).1
    exact ((thenA (Below.refl (w1.alloc (.map #[] 0)).heap.size (w1.alloc (.map #[] 0))) _).block _ (by simp)).trans h1
set_option maxRecDepth 100000 in
set_option maxHeartbeats 1000000 in
theorem New_false (n x : Nat) (W : World) (he : codeLim n x false 65536 = 0) :
    Calls Tryz.prog 99 #[.agg #[.int .u32 n, .int .u32 x, .bool false]] W (NewTo W n 65536) := by
  have C := hid (fun w => checkLimits_any n x false 65536 w)
  rw [he] at C
  have hn : n ≤ 65536 ∧ 65536 ≤ 65536 := by
    unfold codeLim at he
    by_cases h : okLim n x false 65536 = true
    · unfold okLim at h
      simp at h
      omega
    · rw [if_neg h] at he
      exact absurd he (by decide)
  have HN := hid hn
  clear hn he
  have hmm := @run_makeMap Tryz.prog
  go_enter Tryz.func99, Tryz.ntmps99
  go_wp2_with fail
  refine (C.out _).mono ?_
  rintro en w1 ⟨rfl, hb1⟩
  have hb2 := hid (thenB (thenA (Below.refl W.heap.size W) _) hb1)
  have k0 := keep hb1 (show (W.alloc (.cells #[.int .u32 n, .int .u32 x, .bool false] 83)).cell? ⟨W.heap.size, 0, none⟩ = some (.int .u32 n) from by go_simp)
  have k1 := keep hb1 (show (W.alloc (.cells #[.int .u32 n, .int .u32 x, .bool false] 83)).cell? ⟨W.heap.size, 1, none⟩ = some (.int .u32 x) from by go_simp)
  have k2 := keep hb1 (show (W.alloc (.cells #[.int .u32 n, .int .u32 x, .bool false] 83)).cell? ⟨W.heap.size, 2, none⟩ = some (.bool false) from by go_simp)
  have hlt : W.heap.size < w1.heap.size := by have := hb1.size; simp at this; omega
  clear C hb1
  go_wp2
  go_ret2
  exact new_made (t := 65536) hb2.out HN.out.1 HN.out.2
set_option maxRecDepth 100000 in
set_option maxHeartbeats 1000000 in
theorem New_true (n x : Nat) (W : World) (he : codeLim n x true 65536 = 0) :
    Calls Tryz.prog 99 #[.agg #[.int .u32 n, .int .u32 x, .bool true]] W (NewTo W n x) := by
  have C := hid (fun w => checkLimits_any n x true 65536 w)
  rw [he] at C
  have hn : n ≤ x ∧ x ≤ 65536 := by
    unfold codeLim at he
    by_cases h : okLim n x true 65536 = true
    · unfold okLim at h
      simp at h
      omega
    · rw [if_neg h] at he
      exact absurd he (by decide)
  have HN := hid hn
  clear hn he
  have hmm := @run_makeMap Tryz.prog
  go_enter Tryz.func99, Tryz.ntmps99
  go_wp2_with fail
  refine (C.out _).mono ?_
  rintro en w1 ⟨rfl, hb1⟩
  have hb2 := hid (thenB (thenA (Below.refl W.heap.size W) _) hb1)
  have k0 := keep hb1 (show (W.alloc (.cells #[.int .u32 n, .int .u32 x, .bool true] 83)).cell? ⟨W.heap.size, 0, none⟩ = some (.int .u32 n) from by go_simp)
  have k1 := keep hb1 (show (W.alloc (.cells #[.int .u32 n, .int .u32 x, .bool true] 83)).cell? ⟨W.heap.size, 1, none⟩ = some (.int .u32 x) from by go_simp)
  have k2 := keep hb1 (show (W.alloc (.cells #[.int .u32 n, .int .u32 x, .bool true] 83)).cell? ⟨W.heap.size, 2, none⟩ = some (.bool true) from by go_simp)
  have hlt : W.heap.size < w1.heap.size := by have := hb1.size; simp at this; omega
  clear C hb1
  go_wp2
  go_ret2
  exact new_made hb2.out HN.out.1 HN.out.2
end Go.Proofs.YtckdnhafookcgaaGreatDoor.Mem

namespace Go.Proofs.YtckdnhafookcgaaGreatDoor.Val
open Go.RowKit Go.Shelf Go.Proofs.YtckdnhafookcgaaGreatDoor.Instr Go.Proofs.YtckdnhafookcgaaGreatDoor.Mod
set_option linter.unusedVariables false

/-- Rows in a block of their own. -/
theorem rows_box {W : World} {b sz : Nat} {rs : List (List Value)} (hb : b < W.heap.size) (hl : ∀ r ∈ rs, r.length = sz) (h : BoxAt W b (rs.flatten.toArray)) : Mod.Rows W.heap.size W (some ⟨b, 0, none⟩) sz rs :=
  .inr ⟨b, 0, rfl, hb, fun i hi j hj v hv => by
    have hf := Stk.flat_get rs hl i j hi hj
    rw [hv] at hf
    have := h (i * sz + j) v (by simpa using hf)
    simpa using this⟩
/-- Instructions, one behind the other, each with its lists. -/
def mkIl : List (Ix × Il × Il) → Il
  | [] => .nil
  | x :: r => .cons x.1 x.2.1 x.2.2 (mkIl r)
theorem mkIl_len : ∀ l : List (Ix × Il × Il), (mkIl l).len = l.length
  | [] => rfl
  | x :: r => by simp [mkIl, Il.len, mkIl_len r]
/-- What is asked of an instruction in a literal. -/
structure LitOk (n₀ : Nat) (W : World) (x : Ix × Il × Il) : Prop where
  ok : x.1.ok
  tags : TagsAt n₀ W x.1.ta x.1.tags
  l : x.2.1.len = x.1.ln ∧ (x.2.1 = .nil ∨ ∃ b' o', x.1.la = some ⟨b', o', none⟩ ∧ Items n₀ W b' o' x.2.1)
  e : x.2.2.len = x.1.en ∧ (x.2.2 = .nil ∨ ∃ b' o', x.1.ea = some ⟨b', o', none⟩ ∧ Items n₀ W b' o' x.2.2)
theorem items_of {n₀ : Nat} {W : World} {g : Nat} (hg : g < n₀) : ∀ (l : List (Ix × Il × Il)) (off : Nat), (∀ i (hi : i < l.length), ∀ j v, (l[i].1.vals)[j]? = some v → W.cell? ⟨g, off + i * 8 + j, none⟩ = some v) → (∀ x ∈ l, LitOk n₀ W x) → Items n₀ W g off (mkIl l)
  | [], _, _, _ => trivial
  | x :: r, off, h, hx => by
    have c : ∀ j v, (x.1.vals)[j]? = some v → W.cell? ⟨g, off + j, none⟩ = some v := fun j v hv => by have := h 0 (by simp) j v hv; simpa using this
    have hx0 := hx x (by simp)
    refine ⟨hg, hx0.ok, ⟨c 0 _ rfl, c 1 _ rfl, c 2 _ rfl, c 3 _ rfl, c 4 _ rfl, c 5 _ rfl, c 6 _ rfl, c 7 _ rfl⟩, hx0.tags, hx0.l, hx0.e, items_of hg r (off + 8) (fun i hi j v hv => ?_) (fun y hy => hx y (by simp [hy]))⟩
    have := h (i + 1) (by simp; omega) j v hv
    rw [show off + (i + 1) * 8 + j = off + 8 + i * 8 + j by omega] at this
    exact this
theorem list_box {W : World} {g : Nat} {l : List (Ix × Il × Il)} (hg : g < W.heap.size) (h : BoxAt W g ((l.map fun x => x.1.vals.toList).flatten.toArray)) (hx : ∀ x ∈ l, LitOk W.heap.size W x) : ListAt W.heap.size W (some ⟨g, 0, none⟩) l.length (mkIl l) := by
  refine ⟨mkIl_len l, .inr ⟨g, 0, rfl, items_of hg l 0 (fun i hi j v hv => ?_) hx⟩⟩
  have hlen : ∀ r ∈ l.map (fun x => x.1.vals.toList), r.length = 8 := by
    intro r hr
    obtain ⟨x, _, rfl⟩ := List.mem_map.1 hr
    rfl
  have hj : j < 8 := by
    rcases Nat.lt_or_ge j 8 with h | h
    · exact h
    · rw [Array.getElem?_eq_none (by show 8 ≤ j; exact h)] at hv; cases hv
  have hf := Stk.flat_get (l.map fun x => x.1.vals.toList) hlen i j (by simpa using hi) hj
  have hgd : (l.map fun x => x.1.vals.toList).getD i [] = l[i].1.vals.toList := by simp [hi]
  rw [hgd] at hf
  have := h (i * 8 + j) v (by rw [List.getElem?_toArray, hf]; simpa using hv)
  simpa using this
end Go.Proofs.YtckdnhafookcgaaGreatDoor.Val

namespace Go.Proofs.YtckdnhafookcgaaGreatDoor.Val
open Go.RowKit Go.Shelf Go.Proofs.YtckdnhafookcgaaGreatDoor.Instr Go.Proofs.YtckdnhafookcgaaGreatDoor.Mod
set_option linter.unusedVariables false

/-- The tables. -/
structure Tb (w : World) : Prop where
  nt : Nams w
  ut : Utf.Tabs w
  ar : Num.Arit w
theorem Tb.on {w w' : World} (h : Tb w) (hb : Below w.heap.size w w') : Tb w' := ⟨h.nt.below hb, h.ut.below hb, h.ar.below hb⟩
end Go.Proofs.YtckdnhafookcgaaGreatDoor.Val

namespace Go.Proofs.YtckdnhafookcgaaGreatDoor.Mod
open Go.RowKit Go.Shelf Go.Proofs.YtckdnhafookcgaaGreatDoor.Instr

theorem count_le_weight : ∀ t : Il, t.count ≤ t.weight
  | .nil => Nat.le_refl _
  | .cons x l e r => by have := count_le_weight l; have := count_le_weight e; have := count_le_weight r; simp only [Il.count, Il.weight]; omega
theorem small_few' {m : Md} {k : Nat} (h : m.small k) (hk : k ≤ 1000000) (hf : m.fits) : m.few := ⟨hf, fun l hl => by have := h.ls l hl; have := count_le_weight l.t; omega, by have := h.lens; omega⟩
end Go.Proofs.YtckdnhafookcgaaGreatDoor.Mod
namespace Go.Proofs.YtckdnhafookcgaaGreatDoor
open Go.RowKit
end Go.Proofs.YtckdnhafookcgaaGreatDoor

namespace Go.Proofs.YtckdnhafookcgaaGreatDoor.Val
open Go.RowKit Go.Shelf Go.Proofs.YtckdnhafookcgaaGreatDoor.Instr Go.Proofs.YtckdnhafookcgaaGreatDoor.Mod
set_option linter.unusedVariables false

def NB (W : World) (g : Nat) (v : Array Value) : Prop := W.heap[g]? = some (.cells v 32 (0, 0))
theorem NB.lt {W : World} {g : Nat} {v : Array Value} (b : NB W g v) : g < W.heap.size := (Array.getElem?_eq_some_iff.1 b).1
theorem NB.made (W : World) (v : Array Value) : NB (W.alloc (.cells v 32)) W.heap.size v := heap_alloc_new W _
theorem NB.below {W W' : World} {g : Nat} {v : Array Value} (b : NB W g v) (hb : Below W.heap.size W W') : NB W' g v := (hb.block g b.lt).trans b
theorem NB.c {W : World} {g : Nat} {v : Array Value} (b : NB W g v) (j : Nat) : W.cell? ⟨g, j, none⟩ = v[j]? := cell_of_row W g j _ _ _ b
theorem NB.f {W : World} {g : Nat} {v : Array Value} (b : NB W g v) (j : Nat) : W.frozen? ⟨g, j, none⟩ = false := frozen_of_row W g j _ _ b
theorem NB.box {W : World} {g : Nat} {v : Array Value} (b : NB W g v) : BoxAt W g v := fun j x h => (b.c j).trans h
/-- The two boxes: the module's own, and that of what is made of it. -/
def Tw (n₀ : Nat) (w0 : World) (g : Nat) (u v : Array Value) (W : World) : Prop := NB W g v ∧ BoxAt W n₀ u ∧ Below n₀ w0 W ∧ n₀ < g
theorem Tw.below {n₀ g : Nat} {w0 W W' : World} {u v : Array Value} (h : Tw n₀ w0 g u v W) (hs : n₀ ≤ W.heap.size) (hb : Below W.heap.size W W') : Tw n₀ w0 g u v W' :=
  ⟨h.1.below hb, h.2.1.keep hb, h.2.2.1.trans (hb.mono hs), h.2.2.2⟩
theorem NB.fs {W : World} {g : Nat} {v : Array Value} (b : NB W g v) : W.frozen? ⟨g, 0, none⟩ = false ∧ W.frozen? ⟨g, 1, none⟩ = false ∧ W.frozen? ⟨g, 2, none⟩ = false ∧ W.frozen? ⟨g, 3, none⟩ = false ∧ W.frozen? ⟨g, 4, none⟩ = false ∧ W.frozen? ⟨g, 5, none⟩ = false ∧
    W.frozen? ⟨g, 6, none⟩ = false ∧ W.frozen? ⟨g, 7, none⟩ = false ∧ W.frozen? ⟨g, 8, none⟩ = false ∧ W.frozen? ⟨g, 9, none⟩ = false ∧ W.frozen? ⟨g, 10, none⟩ = false := ⟨b.f 0, b.f 1, b.f 2, b.f 3, b.f 4, b.f 5, b.f 6, b.f 7, b.f 8, b.f 9, b.f 10⟩
theorem NB.cs {W : World} {g : Nat} {v0 v1 v2 v3 v4 v5 v6 v7 v8 v9 v10 : Value} (b : NB W g #[v0, v1, v2, v3, v4, v5, v6, v7, v8, v9, v10]) : W.cell? ⟨g, 0, none⟩ = some v0 ∧ W.cell? ⟨g, 1, none⟩ = some v1 ∧ W.cell? ⟨g, 2, none⟩ = some v2 ∧ W.cell? ⟨g, 3, none⟩ = some v3 ∧ W.cell? ⟨g, 4, none⟩ = some v4 ∧ W.cell? ⟨g, 5, none⟩ = some v5 ∧
    W.cell? ⟨g, 6, none⟩ = some v6 ∧ W.cell? ⟨g, 7, none⟩ = some v7 ∧ W.cell? ⟨g, 8, none⟩ = some v8 ∧ W.cell? ⟨g, 9, none⟩ = some v9 ∧ W.cell? ⟨g, 10, none⟩ = some v10 := ⟨b.c 0, b.c 1, b.c 2, b.c 3, b.c 4, b.c 5, b.c 6, b.c 7, b.c 8, b.c 9, b.c 10⟩
end Go.Proofs.YtckdnhafookcgaaGreatDoor.Val
namespace Go.Proofs.YtckdnhafookcgaaGreatDoor
open Go.RowKit
end Go.Proofs.YtckdnhafookcgaaGreatDoor

namespace Go.Proofs.YtckdnhafookcgaaGreatDoor.Mem
open Go.RowKit Go.Proofs.YtckdnhafookcgaaGreatDoor.Instr Go.Proofs.YtckdnhafookcgaaGreatDoor.Num Go.Proofs.YtckdnhafookcgaaGreatDoor.Kind
open Go.Maps (Keyed int_keyed IsMap)
set_option linter.unusedVariables false

/-- A memory of the examples: a word is stored at 8. -/
def m8 : Mm := ⟨1, 2, putF (fun _ => 0) 8 [254, 255, 255, 255]⟩
theorem bytes_heap {w : World} {g : Nat} {zs : List Int} {T : TypeId} (h : w.heap[g]? = some (.cells (zs.map (Value.int .u8)).toArray T (0, 0))) (hz : ∀ z ∈ zs, 0 ≤ z ∧ z < 256) (hl : zs.length ≤ 140737488351232) : Bytes w (some ⟨g, 0, none⟩) zs :=
  ⟨hz, hl, .inr ⟨g, 0, rfl, nums_of_heap h⟩⟩
end Go.Proofs.YtckdnhafookcgaaGreatDoor.Mem
