import Derived.Test.YtcjamlgdidiaeaaDoorBodyGet
import Derived.Test.YtcjamlgdidiaeaaDoorBodySame
import Derived.Test.YtcjamlgdidiaeaaDoorInts
import Derived.Test.YtcjamlgdidiaeaaDoorKitBytes
import Derived.RegionTactic
import Derived.ChangeAlike
import Derived.Deep.QuietTactic
import Derived.BigQuiet
import Derived.Deep.RegionHeld3
import Derived.Laws.CopyOwn
import Derived.Laws.OwnMore
/-
  BODY: the statements' kit: OverInstrs: instructions in memory of their own are written over; nothing else turns.
-/
namespace Go.Proofs.YtcjamlgdidiaeaaDoor.Body
set_option linter.unusedVariables false
open Go.RowKit Go.Proofs.YtcjamlgdidiaeaaDoor.Instr

theorem soft_set {w : World} {q : Nat} (h : Soft w q) (p : Addr) (v : Value) : Soft (w.setCell p v) q := by
  obtain ⟨cs, e, h⟩ := h
  by_cases hq : q = p.block
  · subst hq
    have hlt := (Array.getElem?_eq_some_iff.1 h).1
    have : ∃ cs', (w.setCell p v).heap[p.block]? = some (.cells cs' e (0, 0)) := by
      simp only [World.setCell, Array.getElem?_modify, h, if_pos, Option.map_some]
      exact ⟨_, rfl⟩
    obtain ⟨cs', h'⟩ := this
    exact ⟨cs', e, h'⟩
  · exact ⟨cs, e, (Below.heap_setCell w p v q hq).trans h⟩
theorem put_other {w : World} {b i j : Nat} {u v : Value} (h : w.cell? ⟨b, i, none⟩ = some u) (hij : i ≠ j) : (w.setCell ⟨b, j, none⟩ v).cell? ⟨b, i, none⟩ = some u := by
  simp [go_sem, h]
theorem put_some {w : World} {b i j : Nat} {v : Value} (h : ∃ u, w.cell? ⟨b, i, none⟩ = some u) : ∃ u, (w.setCell ⟨b, j, none⟩ v).cell? ⟨b, i, none⟩ = some u := by
  obtain ⟨u, h⟩ := h
  by_cases hij : i = j
  · subst hij
    exact ⟨v, by simp [go_sem, h]⟩
  · exact ⟨u, put_other h hij⟩
/-- Instructions that lie behind a cell that is turned. -/
theorem Items.put {n₀ : Nat} {w : World} {b o : Nat} {v : Value} : ∀ {r : Il} {off : Nat}, Items n₀ w b off r → o < off → b ∉ r.foot → Items n₀ (w.setCell ⟨b, o, none⟩ v) b off r
  | .nil, _, _, _, _ => trivial
  | .cons x l e r, off, ⟨hb, hx, ⟨c0, c1, c2, c3, c4, c5, c6, c7⟩, ht, hl, he, hr⟩, ho, hf => by
    have T : Touch (fun j => j = b) w (w.setCell ⟨b, o, none⟩ v) := (Touch.refl (fun j => j = b) w).setCell (p := ⟨b, o, none⟩) (.inl rfl) v
    simp only [Il.foot, List.mem_append, not_or] at hf
    obtain ⟨⟨⟨f1, f2, f3⟩, f4, f5⟩, f6⟩ := hf
    refine ⟨hb, hx, ⟨put_other c0 (by omega), put_other c1 (by omega), put_other c2 (by omega), put_other c3 (by omega), put_other c4 (by omega), put_other c5 (by omega), put_other c6 (by omega), put_other c7 (by omega)⟩,
      ht.touch T (fun q hq h => f1 (h ▸ hq)), ListAt.touch (t := l) hl T (fun q hq h => ?_), ListAt.touch (t := e) he T (fun q hq h => ?_), Items.put hr (by omega) f6⟩
    · rcases List.mem_append.1 hq with hq | hq
      · exact f2 (h ▸ hq)
      · exact f3 (h ▸ hq)
    · rcases List.mem_append.1 hq with hq | hq
      · exact f4 (h ▸ hq)
      · exact f5 (h ▸ hq)

/-- What is ahead: from an offset of block b on; only blocks of S have turned. -/
structure Rest (S : Nat → Prop) (w W : World) (b off : Nat) (u : Il) : Prop where
  its : Items W.heap.size W b off u
  out : b ∉ u.foot
  nod : u.foot.Nodup
  soft : ∀ q ∈ u.foot, Soft W q
  ins : ∀ q ∈ u.foot, S q
  sb : Soft W b
  inb : S b
  tch : Touch S w W
theorem write8_soft {w : World} {b off q : Nat} (x : Ix) (h : Soft w q) : Soft (store8 w b off x) q := by
  unfold store8
  exact soft_set (soft_set (soft_set (soft_set (soft_set (soft_set (soft_set (soft_set h _ _) _ _) _ _) _ _) _ _) _ _) _ _) _ _
theorem write8_items {n₀ : Nat} {w : World} {b off : Nat} (x : Ix) {r : Il} (h : Items n₀ w b (off + 8) r) (hb : b ∉ r.foot) : Items n₀ (store8 w b off x) b (off + 8) r := by
  unfold store8
  exact Items.put (Items.put (Items.put (Items.put (Items.put (Items.put (Items.put (Items.put h (by omega) hb) (by omega) hb) (by omega) hb) (by omega) hb) (by omega) hb) (by omega) hb) (by omega) hb) (by omega) hb
def overX : Ix := ⟨999, 0, 0, 0, 0, [], none, 0, none, 0, 0, none, 0, 0⟩
/-- Behind one instruction that has been written over. -/
theorem Rest.next {S : Nat → Prop} {w W w3 : World} {b off : Nat} {x : Ix} {l e r : Il} (h : Rest S w W b off (.cons x l e r)) (ht : Touch (fun j => j ∈ blkOf x.tags.length x.ta ++ (blkOf x.ln x.la ++ l.foot) ++ (blkOf x.en x.ea ++ e.foot)) W w3) :
    Rest S w (store8 w3 b off overX) b (off + 8) r := by
  obtain ⟨⟨hb, hx, hc, htg, hl, he, hr⟩, h2, h3, h4, h5, h6, h7, h8⟩ := h
  have h2' := h2
  simp only [Il.foot] at h2 h3 h4 h5
  obtain ⟨d1, d2, d3⟩ := List.nodup_append.1 h3
  have hbo : b ∉ r.foot := fun h => h2 (List.mem_append_right _ h)
  have hnb : ¬ b ∈ blkOf x.tags.length x.ta ++ (blkOf x.ln x.la ++ l.foot) ++ (blkOf x.en x.ea ++ e.foot) := fun h => h2 (List.mem_append_left _ h)
  have hnr : ∀ q ∈ r.foot, ¬ q ∈ blkOf x.tags.length x.ta ++ (blkOf x.ln x.la ++ l.foot) ++ (blkOf x.en x.ea ++ e.foot) := fun q hq hm => d3 q hm q hq rfl
  have t2 := store8_touch w3 b off overX
  have hsz : W.heap.size ≤ (store8 w3 b off overX).heap.size := Nat.le_trans ht.size t2.size
  refine ⟨Items.more hsz (write8_items _ (Items.touch ht hr hnb hnr) hbo), hbo, d2, fun q hq => write8_soft _ ((h4 q (List.mem_append_right _ hq)).touch ht (hnr q hq)), fun q hq => h5 q (List.mem_append_right _ hq), write8_soft _ (h6.touch ht hnb), h7, ?_⟩
  exact (h8.trans (ht.mono (fun j hj => h5 j (List.mem_append_left _ hj)))).trans (t2.mono (fun j hj => by have : j = b := hj; subst this; exact h7))

set_option maxRecDepth 100000 in
set_option maxHeartbeats 6400000 in
theorem over_any : ∀ (m : Nat) (t : Il) (a : Option Addr) (n c : Nat) (w : World), t.count ≤ m → ListAt w.heap.size w a n t → (blkOf n a ++ t.foot).Nodup → (∀ q ∈ blkOf n a ++ t.foot, Soft w q) → n ≤ 140737488351232 →
    Calls Tryd.prog 23 #[.slice a n c] w fun e w' => e = .returned (.tuple #[]) ∧ Touch (fun j => j ∈ blkOf n a ++ t.foot) w w' := by
  intro m
  induction m with
  | zero =>
    intro t a n c w hm h1 h2 h3 hn
    cases t with
    | cons x l e r => simp only [Il.count] at hm; omega
    | nil =>
      have h0 : n = 0 := h1.1.symm
      subst h0
      clear h1 h2 h3 hm
      go_enter Tryd.func23, Tryd.ntmps23
      go_wp2
      go_loopw [2, 3] (fun vi vj wr => vi = .int .i64 0 ∧ wr = w) (fun _ _ _ => 0)
      case atStart => exact ⟨rfl, rfl⟩
      case round =>
        obtain ⟨rfl, rfl⟩ := hrel
        go_wp2
        go_end0
        exact ⟨rfl, Touch.refl _ _⟩
  | succ m ih =>
    intro t a n c w hm h1 h2 h3 hn
    cases t with
    | nil =>
      have h0 : n = 0 := h1.1.symm
      subst h0
      clear h1 h2 h3 hm ih
      go_enter Tryd.func23, Tryd.ntmps23
      go_wp2
      go_loopw [2, 3] (fun vi vj wr => vi = .int .i64 0 ∧ wr = w) (fun _ _ _ => 0)
      case atStart => exact ⟨rfl, rfl⟩
      case round =>
        obtain ⟨rfl, rfl⟩ := hrel
        go_wp2
        go_end0
        exact ⟨rfl, Touch.refl _ _⟩
    | cons x0 l0 e0 r0 =>
      obtain ⟨hlen, hor⟩ := h1
      rcases hor with h | ⟨b, off, rfl, hits⟩
      · cases h
      have hne : n ≠ 0 := by rw [← hlen]; simp [Il.len]
      have hbk : blkOf n (some ⟨b, off, none⟩) = [b] := by simp [blkOf, hne]
      rw [hbk] at h2 h3 ⊢
      obtain ⟨S, hS⟩ : ∃ S : Nat → Prop, S = fun j => j ∈ [b] ++ (Il.cons x0 l0 e0 r0).foot := ⟨_, rfl⟩
      rw [← hS]
      have HR := hid (show Rest S w w b (off + 0 * 8) (.cons x0 l0 e0 r0) from by
        refine ⟨by simpa using hits, fun h => (List.nodup_cons.1 h2).1 h, (List.nodup_cons.1 h2).2, fun q hq => h3 q (List.mem_append_right _ hq), fun q hq => ?_, h3 b (by simp), ?_, Touch.refl _ _⟩
        · rw [hS]; exact List.mem_append_right _ hq
        · rw [hS]; simp)
      have HL := hid hlen
      have HM := hid hm
      have IH := hid ih
      clear hits h2 h3 hS hlen hm ih hbk hne
      go_enter Tryd.func23, Tryd.ntmps23
      go_wp2
      go_loopw [2, 3] (fun vi vj wr => ∃ (k : Nat) (u : Il), vi = .int .i64 k ∧ u.len + k = n ∧ u.count ≤ m + 1 ∧ Hid (Rest S w wr b (off + k * 8) u)) (fun vi _ _ => n - (intOf vi).toNat)
      case atStart => exact ⟨0, _, rfl, by rw [HL.out]; rfl, HM.out, HR⟩
      case round =>
        clear HR HL HM
        obtain ⟨k, u, rfl, hk, hu, HR⟩ := hrel
        cases u with
        | nil =>
          simp only [Il.len] at hk
          obtain rfl : k = n := by omega
          go_wp2
          go_end0
          exact ⟨rfl, HR.out.tch⟩
        | cons x l e r =>
          simp only [Il.len] at hk
          simp only [Il.count] at hu
          have hkn : (k : Int) < (n : Int) := by omega
          obtain ⟨op, res, xa, xb, xn, tags, ta, tc, la, ln, lc, ea, en, ec⟩ := x
          obtain ⟨⟨hb, hx, ⟨c0, c1, c2, c3, c4, c5, c6, c7⟩, htg, hl, he, hr⟩, r2, r3, r4, r5, r6, r7, r8⟩ := HR.out
          have hln := hx.ln
          have hen := hx.en
          have htn := hx.tn
          simp only [Il.foot] at r2 r3 r4
          dsimp only at c0 c1 c2 c3 c4 c5 c6 c7 htg hl he hln hen htn r2 r3 r4
          obtain ⟨d1, d2, d3⟩ := List.nodup_append.1 r3
          obtain ⟨d4, d5, d6⟩ := List.nodup_append.1 d1
          obtain ⟨d7, d8, d9⟩ := List.nodup_append.1 d4
          have hbl : ¬ b ∈ blkOf ln la ++ l.foot := fun h => r2 (List.mem_append_left _ (List.mem_append_left _ (List.mem_append_right _ h)))
          have hbe : ¬ b ∈ blkOf en ea ++ e.foot := fun h => r2 (List.mem_append_left _ (List.mem_append_right _ h))
          have hbt : ¬ b ∈ blkOf tags.length ta := fun h => r2 (List.mem_append_left _ (List.mem_append_left _ (List.mem_append_left _ h)))
          have C1 := hid (IH.out l la ln lc wr (by omega) hl d8 (fun q hq => r4 q (List.mem_append_left _ (List.mem_append_left _ (List.mem_append_right _ hq)))) hln)
          have C2 := hid (fun w1 (T : Touch (fun j => j ∈ blkOf ln la ++ l.foot) wr w1) => IH.out e ea en ec w1 (by omega) (ListAt.more T.size (ListAt.touch (t := e) he T (fun q hq h => d6 q (List.mem_append_right _ h) q hq rfl))) d5
            (fun q hq => (r4 q (List.mem_append_left _ (List.mem_append_right _ hq))).touch T (fun h => d6 q (List.mem_append_right _ h) q hq rfl)) hen)
          have HTG := hid htg
          have HBL := hid hbl
          have HBE := hid hbe
          have HBT := hid hbt
          have HST := hid (fun q (hq : q ∈ blkOf tags.length ta) => (And.intro (r4 q (List.mem_append_left _ (List.mem_append_left _ (List.mem_append_left _ hq)))) (And.intro (fun h : q ∈ blkOf ln la ++ l.foot => d9 q hq q h rfl) (fun h : q ∈ blkOf en ea ++ e.foot => d6 q (List.mem_append_left _ hq) q h rfl))))
          have HSB := hid r6
          have HC := hid (And.intro c0 (And.intro c1 (And.intro c2 (And.intro c3 (And.intro c4 (And.intro c5 (And.intro c6 c7)))))))
          clear hx htg hl he hr r2 r3 r4 r5 r6 r7 r8 d1 d2 d3 d4 d5 d6 d7 d8 d9 hln hen hbl hbe hbt c0 c1 c2 c3 c4 c5 c7 IH
          go_wp2_with fail
          refine C1.out.mono ?_
          clear C1 c6
          rintro e1 w1 ⟨rfl, T1⟩
          have c7 : w1.cell? ⟨b, off + k * 8 + 7, none⟩ = some (.slice ea en ec) := T1.cell (p := ⟨b, off + k * 8 + 7, none⟩) HBL.out HC.out.2.2.2.2.2.2.2
          have D2 := hid (C2.out w1 T1)
          have HT1 := hid T1
          clear T1 C2
          go_wp2_with fail
          refine D2.out.mono ?_
          clear D2 c7
          rintro e2 w2 ⟨rfl, T2⟩
          have HT2 := hid ((HT1.out.mono (T := fun j => j ∈ blkOf tags.length ta ++ (blkOf ln la ++ l.foot) ++ (blkOf en ea ++ e.foot)) (fun j hj => List.mem_append_left _ (List.mem_append_right _ hj))).trans (T2.mono (fun j hj => List.mem_append_right _ hj)))
          have HNB := hid (show ¬ b ∈ blkOf tags.length ta ++ (blkOf ln la ++ l.foot) ++ (blkOf en ea ++ e.foot) from fun h => by
            rcases List.mem_append.1 h with h | h
            · rcases List.mem_append.1 h with h | h
              · exact HBT.out h
              · exact HBL.out h
            · exact HBE.out h)
          have HS2 := hid (fun q (hq : q ∈ blkOf tags.length ta) => ((HST.out q hq).1.touch HT1.out (HST.out q hq).2.1).touch T2 (HST.out q hq).2.2)
          have HX2 := hid (fun q i v (hq : q ∈ blkOf tags.length ta) (hv : wr.cell? ⟨q, i, none⟩ = some v) => T2.cell (p := ⟨q, i, none⟩) (HST.out q hq).2.2 (HT1.out.cell (p := ⟨q, i, none⟩) (HST.out q hq).2.1 hv))
          clear T2 HT1 HBL HBE HBT HST
          rcases HTG.out with htg | ⟨tb, to, rfl, htb, htc⟩
          · subst htg
            go_wp2
            go_loopw [3] (fun vj W => vj = .int .i64 0 ∧ W = w2) (fun _ _ => 0)
            case atStart => exact ⟨rfl, rfl⟩
            case round =>
              obtain ⟨rfl, rfl⟩ := hrel
              have c5 := HT2.out.cell (p := ⟨b, off + k * 8 + 5, none⟩) HNB.out HC.out.2.2.2.2.2.1
              dsimp only [List.length_nil] at c5
              have WT := HT2
              have c0 := WT.out.cell (p := ⟨b, off + k * 8, none⟩) HNB.out HC.out.1
              have c1 := WT.out.cell (p := ⟨b, off + k * 8 + 1, none⟩) HNB.out HC.out.2.1
              have c2 := WT.out.cell (p := ⟨b, off + k * 8 + 2, none⟩) HNB.out HC.out.2.2.1
              have c3 := WT.out.cell (p := ⟨b, off + k * 8 + 3, none⟩) HNB.out HC.out.2.2.2.1
              have c4 := WT.out.cell (p := ⟨b, off + k * 8 + 4, none⟩) HNB.out HC.out.2.2.2.2.1
              have c6 := WT.out.cell (p := ⟨b, off + k * 8 + 6, none⟩) HNB.out HC.out.2.2.2.2.2.2.1
              have c7 := WT.out.cell (p := ⟨b, off + k * 8 + 7, none⟩) HNB.out HC.out.2.2.2.2.2.2.2
              have sb := HSB.out.touch WT.out HNB.out
              have f0 := sb.frozen (off + k * 8)
              have f1 := sb.frozen (off + k * 8 + 1)
              have f2 := sb.frozen (off + k * 8 + 2)
              have f3 := sb.frozen (off + k * 8 + 3)
              have f4 := sb.frozen (off + k * 8 + 4)
              have f5 := sb.frozen (off + k * 8 + 5)
              have f6 := sb.frozen (off + k * 8 + 6)
              have f7 := sb.frozen (off + k * 8 + 7)
              have HN := hid (HR.out.next WT.out)
              clear sb
              go_wp2
              go_roundw
              case rel => exact ⟨k + 1, r, by go_num, by omega, by omega, hid (by rw [show off + (k + 1) * 8 = off + k * 8 + 8 by omega]; exact HN.out)⟩
              case measure => simp [intOf]; omega
          · have HTC := hid htc
            clear htc htb HTG
            go_wp2
            go_loopw [3] (fun vj W => ∃ j : Nat, vj = .int .i64 j ∧ j ≤ tags.length ∧ Hid (Touch (fun q => q ∈ blkOf tags.length (some ⟨tb, to, none⟩) ++ (blkOf ln la ++ l.foot) ++ (blkOf en ea ++ e.foot)) wr W) ∧ Hid (∀ i, i < tags.length → Soft W tb ∧ ∃ v, W.cell? ⟨tb, to + i, none⟩ = some v)) (fun vj _ => tags.length - (intOf vj).toNat)
            case atStart =>
              refine ⟨0, rfl, Nat.zero_le _, HT2, hid fun i hi => ?_⟩
              have hm : tb ∈ blkOf tags.length (some (⟨tb, to, none⟩ : Addr)) := by
                have : tags.length ≠ 0 := by omega
                simp [blkOf, this]
              exact ⟨HS2.out tb hm, _, HX2.out tb (to + i) _ hm (HTC.out i hi)⟩
            case round =>
              clear HT2 HS2 HX2
              obtain ⟨j, rfl, hj, WT, HE⟩ := hrel
              have c5 := WT.out.cell (p := ⟨b, off + k * 8 + 5, none⟩) HNB.out HC.out.2.2.2.2.2.1
              by_cases hlt : j < tags.length
              · obtain ⟨st, v, hv⟩ := HE.out j hlt
                have ft := st.frozen (to + j)
                have hlt' : (j : Int) < (tags.length : Int) := by omega
                have hm : tb ∈ blkOf tags.length (some (⟨tb, to, none⟩ : Addr)) := by
                  have : tags.length ≠ 0 := by omega
                  simp [blkOf, this]
                have W1 := hid (WT.out.setCell (p := ⟨tb, to + j, none⟩) (.inl (List.mem_append_left _ (List.mem_append_left _ hm))) (.int .u32 77))
                have E1 := hid (fun i (hi : i < tags.length) => And.intro (soft_set (HE.out i hi).1 ⟨tb, to + j, none⟩ (.int .u32 77)) (put_some (j := to + j) (v := .int .u32 77) (HE.out i hi).2))
                clear st hm
                go_wp2
                go_roundw
                case rel => exact ⟨j + 1, by go_num, by omega, W1, E1⟩
                case measure => simp [intOf]; omega
              · have hlt' : ¬ (j : Int) < (tags.length : Int) := by omega
                have c0 := WT.out.cell (p := ⟨b, off + k * 8, none⟩) HNB.out HC.out.1
                have c1 := WT.out.cell (p := ⟨b, off + k * 8 + 1, none⟩) HNB.out HC.out.2.1
                have c2 := WT.out.cell (p := ⟨b, off + k * 8 + 2, none⟩) HNB.out HC.out.2.2.1
                have c3 := WT.out.cell (p := ⟨b, off + k * 8 + 3, none⟩) HNB.out HC.out.2.2.2.1
                have c4 := WT.out.cell (p := ⟨b, off + k * 8 + 4, none⟩) HNB.out HC.out.2.2.2.2.1
                have c6 := WT.out.cell (p := ⟨b, off + k * 8 + 6, none⟩) HNB.out HC.out.2.2.2.2.2.2.1
                have c7 := WT.out.cell (p := ⟨b, off + k * 8 + 7, none⟩) HNB.out HC.out.2.2.2.2.2.2.2
                have sb := HSB.out.touch WT.out HNB.out
                have f0 := sb.frozen (off + k * 8)
                have f1 := sb.frozen (off + k * 8 + 1)
                have f2 := sb.frozen (off + k * 8 + 2)
                have f3 := sb.frozen (off + k * 8 + 3)
                have f4 := sb.frozen (off + k * 8 + 4)
                have f5 := sb.frozen (off + k * 8 + 5)
                have f6 := sb.frozen (off + k * 8 + 6)
                have f7 := sb.frozen (off + k * 8 + 7)
                have HN := hid (HR.out.next WT.out)
                clear sb
                go_wp2
                go_roundw
                case rel => exact ⟨k + 1, r, by go_num, by omega, by omega, hid (by rw [show off + (k + 1) * 8 = off + k * 8 + 8 by omega]; exact HN.out)⟩
                case measure => simp [intOf]; omega
end Go.Proofs.YtcjamlgdidiaeaaDoor.Body

/-
  The statements' kit, bytes alone: LentBytes, KeptBytes.
-/
namespace Go.Proofs.YtcjamlgdidiaeaaDoor
open Go.RowKit

/-- A row of one's own, all of it: what the block holds. -/
theorem OwnK.heap {e : TypeId} {k : IntKind} {base n g : Nat} {w : World} {L : List Int} (h : OwnK e k base w (.slice (some ⟨g, 0, none⟩) n n) L) (hn : L.length = n) : base ≤ g ∧ w.heap[g]? = some (.cells (L.map (Value.int k)).toArray e (0, 0)) := by
  subst hn
  rcases h.2 with ⟨h', _⟩ | ⟨g', cap, cur, hv, hb, hh, hnc, _, hcs, ht⟩
  · cases h'
  · simp only [Value.slice.injEq, Option.some.injEq, Addr.mk.injEq, and_true, true_and] at hv
    obtain ⟨rfl, rfl⟩ := hv
    refine ⟨hb, ?_⟩
    rw [List.take_of_length_le (by simp; omega)] at ht
    rw [hh, ← ht]
theorem OwnK.of_heap {e : TypeId} {k : IntKind} {base n g : Nat} {w : World} {L : List Int} (hb : base ≤ g) (hh : w.heap[g]? = some (.cells (L.map (Value.int k)).toArray e (0, 0))) (hn : L.length = n) (hl : n ≤ 140737488355328) :
    OwnK e k base w (.slice (some ⟨g, 0, none⟩) n n) L := by
  subst hn
  exact ⟨by simp, .inr ⟨g, L.length, (L.map (Value.int k)).toArray, rfl, hb, hh, Nat.le_refl _, by unfold maxLen; omega, by simp, by rw [List.take_of_length_le (by simp)]⟩⟩

/-- make([]T, n). -/
theorem make_zeros {e ts : TypeId} {k : IntKind} {nb : Nat} (inf : (Tryd.prog.info? e).map (fun i => (i.zero, i.size, i.bytes)) = some (some (.int k 0), 1, nb)) (ut : Tryd.prog.underlying ts = some (.slice e)) (w : World) (n : Nat)
    (hl : nb * n ≤ 281474976710656) (hc : n ≤ 140737488355328) :
    ∃ w', (∀ x : Int, x = n → (Instr.makeSlice ts (.int .i64 x) (.int .i64 x)).run Tryd.prog w = .ok (.slice (some ⟨w.heap.size, 0, none⟩) n n) w') ∧ w'.heap[w.heap.size]? = some (.cells ((List.replicate n (0 : Int)).map (Value.int k)).toArray e (0, 0)) ∧ Below w.heap.size w w' := by
  obtain ⟨i0, hi, hz0, hz1, hz2⟩ := info_parts inf
  obtain ⟨w', h1, h2, h3⟩ := run_make_full w w.heap.size ts e i0 (.int k 0) 1 ut hi hz0 hz1 .i64 .i64 n (by rw [hz2]; exact hl) (by unfold maxLen; omega) (Nat.le_refl _)
  refine ⟨w', fun x hx => by rw [hx]; exact h1, ?_, (Below.refl _ _).grown h3 (Nat.le_refl _) (fun k h => by cases h)⟩
  have hcells : (Value.int k 0).cells = #[Value.int k 0] := rfl
  rw [hcells, toList_madeCells_one] at h2
  have h4 : OwnK e k w.heap.size w' (.slice (some ⟨w.heap.size, 0, none⟩) n n) (List.replicate n 0) := by
    unfold OwnK
    simpa using h2
  exact (h4.heap (by simp)).2

/-- Each cell of a block. -/
theorem nums_of_heap {e : TypeId} {k : IntKind} {g : Nat} {w : World} {L : List Int} (hh : w.heap[g]? = some (.cells (L.map (Value.int k)).toArray e (0, 0))) : ∀ i, i < L.length → w.cell? ⟨g, 0 + i, none⟩ = some (.int k (L.getD i 0)) := by
  intro i hi
  simp [World.cell?, hh, hi]
theorem set_heap {e : TypeId} {k : IntKind} {g : Nat} {w : World} {L : List Int} (hh : w.heap[g]? = some (.cells (L.map (Value.int k)).toArray e (0, 0))) (j : Nat) (z : Int) :
    (w.setCell ⟨g, j, none⟩ (.int k z)).heap[g]? = some (.cells ((L.set j z).map (Value.int k)).toArray e (0, 0)) := by
  rw [heap_setCell_same w g j _ e _ hh]
  simp [List.map_set]
theorem frozen_heap {e : TypeId} {k : IntKind} {g : Nat} {w : World} {L : List Int} (hh : w.heap[g]? = some (.cells (L.map (Value.int k)).toArray e (0, 0))) (j : Nat) : w.frozen? ⟨g, j, none⟩ = false := frozen_of_row w g j _ e hh

section
variable {ops : Array Oper} {rest : List Oper} {o : Oper} {act : Act} {Q : Exit → Act → World → Prop}
/-- copy(full, l): a list into the beginning of a longer row of one's own. -/
theorem copy_in {e ts : TypeId} {k : IntKind} {nb : Nat} (inf : (Tryd.prog.info? e).map (fun i => (i.zero, i.size, i.bytes)) = some (some (.int k 0), 1, nb)) (ut : Tryd.prog.underlying ts = some (.slice e))
    (hgd : o.guard = none) (d s : Operand) (ho : o.op = .call { callee := .builtin .copy, args := #[d, s], argTypes := #[ts, ts] })
    {B g n N c : Nat} {w0 w : World} {a : Option Addr} {zs R : List Int} (hd : act.eval d = .slice (some ⟨g, 0, none⟩) N N) (hs : act.eval s = .slice a n c) (hh : w.heap[g]? = some (.cells (R.map (Value.int k)).toArray e (0, 0)))
    (hR : R.length = N) (hz : Nums k w a zs) (hn : zs.length = n) (hnN : n ≤ N) (hb : Below B w0 w) (hB : B ≤ g)
    (h : ∀ w', w'.heap[g]? = some (.cells ((zs ++ R.drop n).map (Value.int k)).toArray e (0, 0)) → Below B w0 w' → wpList Tryd.prog ops Q rest (act.put o.dst (.int .i64 n)) w') :
    wpList Tryd.prog ops Q (o :: rest) act w := by
  obtain ⟨i0, hi, hz0, hz1, hz2⟩ := info_parts inf
  refine wpList_copy_splice hgd d s ts ts ho e ut (by rw [hi]; simp [hz1]) _ _ N N n c hd hs g 0 (R.map (Value.int k)) e hh (zs.map (Value.int k)) (by rw [List.length_map, hn]; exact (Nat.min_eq_left hnN).symm) ?_ (by simp; omega) ?_ B w0 hb hB ?_
  · intro hpos
    refine ⟨rfl, ?_⟩
    rcases hz.at_ with h0 | ⟨b, off, rfl, hc⟩
    · subst h0; simp at hpos
    · refine ⟨⟨b, off, none⟩, rfl, fun j v hj => ?_⟩
      have hjl : j < zs.length := by
        rcases Nat.lt_or_ge j zs.length with h | h
        · exact h
        · simp [List.getElem?_eq_none (show (zs.map (Value.int k)).length ≤ j by simpa using h)] at hj
      have hplain : (⟨b, off, none⟩ : Addr).add j = ⟨b, off + j, none⟩ := by unfold Addr.add; split <;> simp_all
      rw [hplain, hc j hjl]
      simp [List.getElem?_eq_getElem hjl] at hj
      subst hj
      simp [List.getD, List.getElem?_eq_getElem hjl]
  · intro v hv
    obtain ⟨z, _, rfl⟩ := List.mem_map.1 hv
    rfl
  · intro w' hw hb'
    have hl : (zs.map (Value.int k)).length = n := by simpa using hn
    have e1 : goInt (zs.map (Value.int k)).length = .int .i64 n := by rw [hl]; rfl
    rw [e1]
    refine h w' ?_ hb'
    have := hw.out
    rw [this]
    unfold splice
    rw [hl]
    simp
end

/-- The marks behind a list that is lent. -/
def marksBytes (n : Int) : List Int := [160 + n % 90, 160 + (n + 1) % 90, 160 + (n + 2) % 90]
def partBytes (n : Int) : Nat → List Int
  | 0 => [0, 0, 0]
  | 1 => [160 + n % 90, 0, 0]
  | 2 => [160 + n % 90, 160 + (n + 1) % 90, 0]
  | _ => marksBytes n
theorem partBytes_length (n : Int) (j : Nat) : (partBytes n j).length = 3 := by
  match j with
  | 0 | 1 | 2 => rfl
  | _ + 3 => rfl
theorem partBytes_set (zs : List Int) (n j : Nat) (hn : zs.length = n) (hj : j < 3) : (zs ++ partBytes n j).set (n + j) (160 + ((n : Int) + j) % 90) = zs ++ partBytes n (j + 1) := by
  subst hn
  match j, hj with
  | 0, _ => simp [partBytes]
  | 1, _ => simp [partBytes]
  | 2, _ => simp [partBytes, marksBytes]

set_option maxHeartbeats 1600000 in
theorem LentBytes_any (a : Option Addr) (len cap : Nat) (zs : List Int) (w : World) (hlen : zs.length = len) (hz : Nums .u8 w a zs) (hl : len ≤ 8796093022208) :
    Calls Tryd.prog 18 #[.slice a len cap] w fun e w' => e = .returned (.slice (some ⟨w.heap.size, 0, none⟩) len (len + 3)) ∧ w'.heap[w.heap.size]? = some (.cells ((zs ++ marksBytes len).map (Value.int .u8)).toArray 5 (0, 0)) ∧ Below w.heap.size w w' := by
  obtain ⟨w1, hmk, hh1, hb1⟩ := make_zeros infoByte Tryd.underlying27 w (len + 3) (by omega) (by omega)
  have hmk := hmk ((len : Int) + 3) (by omega)
  have HL := hid hlen
  clear hlen
  go_enter Tryd.func18, Tryd.ntmps18
  have hz1 := hz.below hb1
  go_wp2_with (first | (refine copy_in infoByte Tryd.underlying27 rfl (.tmp 9) (.tmp 10) rfl rfl rfl hh1 (by simp) hz1 HL.out (by omega) hb1 (Nat.le_refl _) ?_; intro w2 hh2 hb2))
  have hh3 : Hid (w2.heap[w.heap.size]? = some (.cells ((zs ++ partBytes len 0).map (Value.int .u8)).toArray 5 (0, 0))) := by
    show _ = _
    rw [hh2, show List.drop len (List.replicate (len + 3) (0 : Int)) = partBytes len 0 by rw [List.drop_replicate, show len + 3 - len = 3 by omega]; rfl]
  clear hz hz1 hh1 hb1 hh2 hmk
  go_loopw [4] (fun vi wr => ∃ j : Nat, vi = .int .i64 (len + j : Nat) ∧ j ≤ 3 ∧ wr.heap[w.heap.size]? = some (.cells ((zs ++ partBytes len j).map (Value.int .u8)).toArray 5 (0, 0)) ∧ Below w.heap.size w wr)
    (fun vi _ => len + 3 - (intOf vi).toNat)
  case atStart => exact ⟨0, rfl, by omega, hh3.out, hb2⟩
  case round =>
    obtain ⟨j, rfl, hj, hh, hbw⟩ := hrel
    by_cases hj3 : j < 3
    · have hjl : len + j < (zs ++ partBytes len j).length := by rw [List.length_append, partBytes_length, HL.out]; omega
      have hc := nums_of_heap hh (len + j) hjl
      rw [Nat.zero_add] at hc
      have hf := frozen_heap hh (len + j)
      have hset := set_heap hh (len + j) (160 + ((len : Int) + j) % 90)
      rw [partBytes_set zs len j HL.out hj3] at hset
      have hset := hid hset
      generalize (zs ++ partBytes len j).getD (len + j) 0 = z at *
      clear hh hjl
      have hrem : Int.tmod ((len : Int) + j) 90 = ((len : Int) + j) % 90 := Int.tmod_eq_emod_of_nonneg (by omega)
      go_wp2
      go_roundw
      case rel => exact ⟨j + 1, by go_num, by omega, hset.out, hbw.setCell (Nat.le_refl _) _⟩
      case measure => simp [intOf]; omega
    · obtain rfl : j = 3 := by omega
      have HH := hid hh
      clear hh
      go_wp2
      go_ret
      exact ⟨rfl, HH.out, hbw⟩

theorem Bytes.of_heap {g : Nat} {w : World} {L : List Int} (hb : ∀ z ∈ L, 0 ≤ z ∧ z < 256) (hl : L.length ≤ 140737488351232) (hh : w.heap[g]? = some (.cells (L.map (Value.int .u8)).toArray 5 (0, 0))) : Bytes w (some ⟨g, 0, none⟩) L :=
  ⟨hb, hl, .inr ⟨g, 0, rfl, nums_of_heap hh⟩⟩
theorem marksBytes_bytes {zs : List Int} (hz : ∀ z ∈ zs, 0 ≤ z ∧ z < 256) (n : Int) : ∀ z ∈ zs ++ marksBytes n, 0 ≤ z ∧ z < 256 := by
  intro z hm
  rcases List.mem_append.1 hm with h | h
  · exact hz z h
  · simp only [marksBytes, List.mem_cons, List.not_mem_nil, or_false] at h
    rcases h with rfl | rfl | rfl <;> omega

set_option maxHeartbeats 1600000 in
theorem KeptBytes_yes (a1 a2 : Option Addr) (len c2 : Nat) (zs : List Int) (w : World) (hl : zs.length = len) (hx : Bytes w a1 (zs ++ marksBytes len)) (hy : Bytes w a2 zs) (hbig : len ≤ 8796093022208) :
    Calls Tryd.prog 24 #[.slice a1 len (len + 3), .slice a2 len c2] w fun e w' => e = .returned (.bool true) ∧ Below w.heap.size w w' := by
  have HL := hid hl
  have hw1 : IntKind.i64.wrap ((len : Int) + 3) = (len : Int) + 3 := by rw [IntKind.wrap_i64]; omega
  have hw2 : 0 ≤ (len : Int) + 3 := by omega
  have hw3 : ((len : Int) + 3).toNat = len + 3 := by omega
  have HX : Hid ((zs ++ marksBytes len).length = len + 3) := by show _ = _; simp [marksBytes, hl]
  have HM := hid (marksBytes_bytes hy.byte len)
  have HS : Hid ((zs ++ marksBytes len).length ≤ 140737488351232) := by show _ ≤ _; rw [HX.out]; omega
  clear hl
  go_enter Tryd.func24, Tryd.ntmps24
  go_wp2
  go_region_held3 (fun w' => Below w.heap.size w w') (first | assumption | exact (Below.refl _ _).drew | exact thenB (by assumption) (by assumption))
    (first
      | (go_at_call 18; refine (LentBytes_any _ _ _ zs _ HL.out (hy.nums.below ?_) hbig).mono ?_; (assumption); rintro e w2 ⟨rfl, hh, hb2⟩)
      | (go_at_call 15; refine (SameBytes_yes _ _ _ _ _ _ (zs ++ marksBytes len) _ HX.out HX.out (hx.below (by assumption)) (Bytes.of_heap HM.out HS.out hh)).mono ?_; rintro e w3 ⟨rfl, rfl⟩))
  go_wp2
  go_ret
  exact ⟨rfl, by assumption⟩
end Go.Proofs.YtcjamlgdidiaeaaDoor
