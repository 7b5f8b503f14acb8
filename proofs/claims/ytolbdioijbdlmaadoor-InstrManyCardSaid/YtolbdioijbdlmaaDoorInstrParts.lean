/-
  INSTR: InstrParts: the walk.
-/
import Derived.Test.YtolbdioijbdlmaaDoorInstrKit
import Derived.Deep.RegionHeld3
namespace Go.Proofs.YtolbdioijbdlmaaDoor.Instr
open Go.RowKit

def OKT : Il → Prop
  | .nil => True
  | .cons x l e r => x.ok ∧ OKT l ∧ OKT e ∧ OKT r
theorem Items.okt {n₀ : Nat} {w : World} : ∀ {t : Il} {b off : Nat}, Items n₀ w b off t → OKT t
  | .nil, _, _, _ => trivial
  | .cons x l e r, b, off, ⟨_, hx, _, _, ⟨_, l2⟩, ⟨_, e2⟩, hr⟩ => by
    refine ⟨hx, ?_, ?_, Items.okt hr⟩
    · rcases l2 with rfl | ⟨b', o', _, hi⟩
      · trivial
      · exact Items.okt hi
    · rcases e2 with rfl | ⟨b', o', _, hi⟩
      · trivial
      · exact Items.okt hi
theorem nameTab_len : ∀ j : Fin 121, (nameTab.getD j.val []).length ≤ 13 := by decide +kernel
theorem nameL_len (op : Int) : (nameL op).length ≤ 13 := by
  unfold nameL
  split
  · exact nameTab_len ⟨op.toNat, by omega⟩
  · simp
theorem numT_len (n : Int) (h0 : -9223372036854775808 ≤ n) (h1 : n ≤ 9223372036854775807) : (numT n).length ≤ 22 := by have := decL_length n h0 h1; simp [numT]; omega
theorem flat_bound : ∀ l : List Int, (∀ z ∈ l, 0 ≤ z ∧ z < 4294967296) → (l.flatMap numT).length ≤ 22 * l.length
  | [], _ => by simp
  | z :: l, h => by
    have h1 := h z (by simp)
    have h2 := numT_len z (by omega) (by omega)
    have h3 := flat_bound l (fun y hy => h y (by simp [hy]))
    simp only [List.flatMap_cons, List.length_append, List.length_cons]
    omega
theorem fields_len (x : Ix) (u : Int) (hx : x.ok) : (fieldsL x u).length ≤ 70 + 22 * x.tags.length := by
  have ha := hx.a
  have hb := hx.b
  have hn := hx.n
  have h1 := numT_len x.a (by omega) (by omega)
  have h2 := numT_len x.b (by omega) (by omega)
  have h3 := numT_len x.n (by omega) (by omega)
  have h4 := flat_bound x.tags hx.tags
  unfold fieldsL
  simp only [List.length_append]
  (repeat' split) <;> simp only [List.length_cons, List.length_nil] <;> omega
theorem text_len : ∀ t : Il, OKT t → t.text.length ≤ 120 * t.weight
  | .nil, _ => by simp [Il.text]
  | .cons x l e r, ⟨hx, hl, he, hr⟩ => by
    have h1 := text_len l hl
    have h2 := text_len e he
    have h3 := text_len r hr
    have h4 := nameL_len x.op
    have h5 := fields_len x (usedP x.op) hx
    rw [text_cons, List.length_append, Il.weight]
    unfold oneT
    simp only [List.length_append]
    (repeat' split) <;> simp only [List.length_append, List.length_cons, List.length_nil] <;> omega
/-- What may be, in parts. -/
structure Fine (t : Il) : Prop where
  all : t.all = true
  count : t.count ≤ 2000
  deep : t.deep ≤ 900
  tags : t.tags = false
theorem fine_of {t : Il} (h : checkP t = 0) (hc : t.count ≤ 2000) : Fine t := by
  unfold checkP at h
  cases ha : t.all
  · simp [ha] at h
  · simp only [ha, if_true] at h
    split at h
    · cases h
    · rename_i hn
      refine ⟨rfl.trans ha, hc, by omega, ?_⟩
      cases ht : t.tags
      · rfl
      · exact absurd (.inr (.inr ht)) hn
theorem Fine.check {t : Il} (h : Fine t) : checkP t = 0 := by
  have := h.count; have := h.deep
  unfold checkP
  rw [h.all, if_pos rfl, if_neg]
  simp [h.tags]; omega
theorem Fine.parts {x : Ix} {l e r : Il} (h : Fine (.cons x l e r)) : Fine (.cons x l e .nil) ∧ Fine l ∧ Fine e ∧ Fine r := by
  obtain ⟨h1, h2, h3, h4⟩ := h
  simp only [Il.all, Il.count, Il.deep, Il.tags, Bool.and_eq_true, Bool.or_eq_false_iff] at h1 h2 h3 h4
  obtain ⟨⟨⟨a1, a2⟩, a3⟩, a4⟩ := h1
  obtain ⟨⟨⟨t1, t2⟩, t3⟩, t4⟩ := h4
  refine ⟨⟨?_, ?_, ?_, ?_⟩, ⟨a2, by omega, by omega, t2⟩, ⟨a3, by omega, by omega, t3⟩, ⟨a4, by omega, by omega, t4⟩⟩
  · simp [Il.all, a1, a2, a3]
  · simp only [Il.count]; omega
  · simp only [Il.deep]; omega
  · simp only [Il.tags, Bool.or_eq_false_iff]; exact ⟨⟨⟨t1, t2⟩, t3⟩, trivial⟩
theorem strOf_app (a b : List Int) : strOfNums a ++ strOfNums b = strOfNums (a ++ b) := by
  apply ByteArray.ext
  rw [ByteArray.data_append]
  simp [strOfNums]
theorem held_out {w w1 : World} {g : Nat} {x y : Value} (h : Below w.heap.size w w1 ∧ w1.cell? ⟨g, 6, none⟩ = some x ∧ w1.cell? ⟨g, 7, none⟩ = some y) : Below w.heap.size w w1 := h.1
theorem held_keep {w w1 w2 : World} {g : Nat} {x y : Value} (h : Below w.heap.size w w1 ∧ w1.cell? ⟨g, 6, none⟩ = some x ∧ w1.cell? ⟨g, 7, none⟩ = some y) (hb : Below w1.heap.size w1 w2) :
    Below w.heap.size w w2 ∧ w2.cell? ⟨g, 6, none⟩ = some x ∧ w2.cell? ⟨g, 7, none⟩ = some y := ⟨thenB h.1 hb, keep hb h.2.1, keep hb h.2.2⟩
end Go.Proofs.YtolbdioijbdlmaaDoor.Instr
namespace Go.Proofs.YtolbdioijbdlmaaDoor
open Go.RowKit Go.Proofs.YtolbdioijbdlmaaDoor.Instr
set_option maxRecDepth 100000 in
set_option maxHeartbeats 1600000 in
theorem parts_many (w : World) (a : Option Addr) (len cap : Nat) (t : Il) (hL : ListAt w.heap.size w a len t) (hlen : len ≤ 140737488351232) (hT : Tabs w) (h : 2000 < t.go 0 2000) :
    Calls Tryd.prog 5 #[.slice a len cap] w fun e w' => e = .returned (.bool true) ∧ Below w.heap.size w w' := by
  obtain ⟨g, hg⟩ : ∃ g, t.go 0 2000 = g := ⟨_, rfl⟩
  have CI := fun w' (hl : ListAt w'.heap.size w' a len t) => Instrs_any t.count t a len cap 2000 w' (Nat.le_refl _) hl hlen (by omega) (by omega)
  rw [hg] at h
  simp only [hg] at CI
  clear hg
  go_enter Tryd.func5, Tryd.ntmps5
  go_wp2_with fail
  refine (awake_any w hT).mono ?_
  rintro e w1 ⟨rfl, hb1⟩
  have hL1 := hL.on hb1
  go_wp2_with fail
  refine (CI w1 hL1).mono ?_
  clear CI
  rintro e w2 ⟨rfl, rfl⟩
  go_wp2
  go_ret
  exact ⟨rfl, hb1⟩
set_option maxRecDepth 100000 in
set_option maxHeartbeats 1600000 in
theorem parts_wrong (w : World) (a : Option Addr) (len cap : Nat) (t : Il) (hL : ListAt w.heap.size w a len t) (hlen : len ≤ 140737488351232) (hT : Tabs w) (h0 : t.go 0 2000 ≤ 2000) (h : checkP t ≠ 0) (hc : t.count ≤ 2000) :
    Calls Tryd.prog 5 #[.slice a len cap] w fun e w' => e = .returned (.bool true) ∧ Below w.heap.size w w' := by
  obtain ⟨g, hg⟩ : ∃ g, t.go 0 2000 = g := ⟨_, rfl⟩
  have CI := fun w' (hl : ListAt w'.heap.size w' a len t) => Instrs_any t.count t a len cap 2000 w' (Nat.le_refl _) hl hlen (by omega) (by omega)
  have CC := fun w' (hn : Nams w') (hl : ListAt w'.heap.size w' a len t) => Check_any a len cap t w' hn hl (by omega) hlen
  obtain ⟨q, hq⟩ : ∃ q, checkP t = q := ⟨_, rfl⟩
  rw [hg] at h0
  rw [hq] at h
  simp only [hg] at CI
  simp only [hq] at CC
  clear hg hq
  have hqb : (q != 0) = true := by simpa using h
  go_enter Tryd.func5, Tryd.ntmps5
  go_wp2_with fail
  refine (awake_any w hT).mono ?_
  rintro e w1 ⟨rfl, hb1⟩
  have hL1 := hL.on hb1
  have hT1 := hT.below hb1
  go_wp2_with fail
  refine (CI w1 hL1).mono ?_
  clear CI
  rintro e w2 ⟨rfl, rfl⟩
  go_wp2_with fail
  refine (CC w1 hT1.nm hL1).mono ?_
  clear CC
  rintro e w2 ⟨rfl, hb2⟩
  go_wp2
  go_ret
  exact ⟨rfl, thenB hb1 hb2⟩
set_option maxRecDepth 100000 in
set_option maxHeartbeats 3200000 in
theorem parts_fine (w : World) (b off len cap : Nat) (t : Il) (hl1 : t.len = len) (hi : Items w.heap.size w b off t) (hlc : len ≤ cap) (hlen : len ≤ 140737488351232) (hT : Tabs w) (h0 : t.go 0 2000 ≤ 2000) (hF : Fine t) (htx : t.text.length ≤ 240000) :
    Calls Tryd.prog 5 #[.slice (some ⟨b, off, none⟩) len cap] w fun e w' => e = .returned (.bool true) ∧ Below w.heap.size w w' := by
  have hL : ListAt w.heap.size w (some ⟨b, off, none⟩) len t := ⟨hl1, .inr ⟨b, off, rfl, hi⟩⟩
  have hc := hF.count
  obtain ⟨g, hg⟩ : ∃ g, t.go 0 2000 = g := ⟨_, rfl⟩
  have CI := fun w' (hl : ListAt w'.heap.size w' (some ⟨b, off, none⟩) len t) => Instrs_any t.count t _ len cap 2000 w' (Nat.le_refl _) hl hlen (by omega) (by omega)
  have CC := fun w' (hn : Nams w') (hl : ListAt w'.heap.size w' (some ⟨b, off, none⟩) len t) => Check_any _ len cap t w' hn hl (by omega) hlen
  rw [hg] at h0
  simp only [hg] at CI
  simp only [hF.check] at CC
  clear hg
  have HF := hid hF
  have HL1 := hid hl1
  have HTX := hid htx
  have HC := hid hc
  have HI := hid hi
  clear hF hl1 htx hc hi
  go_enter Tryd.func5, Tryd.ntmps5
  go_wp2_with fail
  refine (awake_any w hT).mono ?_
  rintro e w1 ⟨rfl, hb1⟩
  have hL1 := hL.on hb1
  have hT1 := hT.below hb1
  go_wp2_with fail
  refine (CI w1 hL1).mono ?_
  clear CI
  rintro e w2 ⟨rfl, rfl⟩
  go_wp2_with fail
  refine (CC w1 hT1.nm hL1).mono ?_
  clear CC
  rintro e w2 ⟨rfl, hb2⟩
  have hb2' := thenB hb1 hb2
  clear hL1 hT1 hb1 hb2
  go_wp2
  go_loopw [4, 5, 6, 7] (fun s4 s5 s6 s7 wr => ∃ (k : Nat) (sum dp : Int) (zs : List Int) (rest : Il), s4 = .int .i64 sum ∧ s5 = .string (strOfNums zs) ∧ s6 = .int .i64 dp ∧ s7 = .int .i64 k ∧ k ≤ len ∧ 0 ≤ sum ∧ sum ≤ 2000 ∧ 0 ≤ dp ∧ dp ≤ 900 ∧
      Hid (k + rest.len = len ∧ sum + rest.count = t.count ∧ zs ++ rest.text = t.text ∧ max dp rest.deep = t.deep ∧ Fine rest) ∧ Hid (Items w.heap.size w b (off + k * 8) rest) ∧ Below w.heap.size w wr)
    (fun _ _ _ s7 _ => len - (intOf s7).toNat)
  case atStart =>
    refine ⟨0, 0, 0, [], t, rfl, rfl, rfl, rfl, Nat.zero_le _, by omega, by omega, by omega, by omega, ⟨by have := HL1.out; omega, by omega, rfl, by omega, HF.out⟩, by simpa using HI, hb2'⟩
  case round =>
    obtain ⟨k, sum, dp, zs, rest, rfl, rfl, rfl, rfl, hk, hs0, hs1, hd0, hd1, HR, HIR, hb⟩ := hrel
    cases rest with
    | nil =>
      obtain ⟨r1, r2, r3, r4, _⟩ := HR.out
      have hkl : k = len := by simpa [Il.len] using r1
      subst hkl
      have e1 : sum = t.count := by simp only [Il.count] at r2; omega
      have e2 : zs = t.text := by simpa [Il.text] using r3
      have e3 : dp = t.deep := by simp only [Il.deep] at r4; omega
      subst e1 e2 e3
      have hLr := hL.on hb
      have hTr := hT.below hb
      have hc := HC.out
      have htx := HTX.out
      have CC := fun w' (hl : ListAt w'.heap.size w' (some ⟨b, off, none⟩) t.len t) => Count_any _ t.len cap t w' hl (by omega) (by rw [HL1.out]; exact hlen)
      have CD := fun w' (hl : ListAt w'.heap.size w' (some ⟨b, off, none⟩) t.len t) => Deep_any _ t.len cap t w' hl (by omega) (by rw [HL1.out]; exact hlen)
      have CX := fun w' (hl : ListAt w'.heap.size w' (some ⟨b, off, none⟩) t.len t) (h2 : Tabs w') => Text_any _ t.len cap t w' hl (by omega) (by rw [HL1.out]; exact hlen) h2.pow h2.nm
      rw [HL1.out] at CC CD CX
      obtain ⟨nc, hnc⟩ : ∃ nc : Int, (t.count : Int) = nc := ⟨_, rfl⟩
      obtain ⟨nd, hnd⟩ : ∃ nd : Int, (t.deep : Int) = nd := ⟨_, rfl⟩
      obtain ⟨st, hst⟩ : ∃ st, strOfNums t.text = st := ⟨_, rfl⟩
      rw [hnc] at CC
      rw [hnd] at CD
      rw [hst] at CX
      rw [hnc, hnd, hst]
      clear hnc hnd hst r1 r2 r3 r4 HR HIR hc htx HTX HC HF HI
      have eq1 : (st.toList == st.toList) = true := by simp
      have C1 := hid CC
      have C2 := hid CD
      have C3 := hid CX
      clear CC CD CX
      go_wp2_with fail
      refine (C1.out wr hLr).mono ?_
      clear C1
      rintro e w3 ⟨rfl, hb3⟩
      have hL3 := hLr.on hb3
      have hT3 := hTr.below hb3
      go_wp2_with fail
      refine (C3.out w3 hL3 hT3).mono ?_
      clear C3
      rintro e w4 ⟨rfl, hb4⟩
      have hL4 := hL3.on hb4
      go_wp2_with fail
      refine (C2.out w4 hL4).mono ?_
      clear C2
      rintro e w5 ⟨rfl, hb5⟩
      go_wp2
      go_ret
      exact ⟨rfl, thenB (thenB (thenB hb hb3) hb4) hb5⟩
    | cons x tl te r =>
      obtain ⟨r1, r2, r3, r4, hfr⟩ := HR.out
      have hlt : k < len := by simp only [Il.len] at r1; omega
      obtain ⟨f1, f2, f3, f4⟩ := hfr.parts
      have hir := HIR.out
      obtain ⟨hbn, hx, _, ht, hLl, hLe, hir'⟩ := hir
      have hone : ListAt w.heap.size w (some ⟨b, off + k * 8, none⟩) 1 (.cons x tl te .nil) := ⟨rfl, .inr ⟨b, off + k * 8, rfl, hbn, hx, by assumption, ht, hLl, hLe, trivial⟩⟩
      have hirw := Items.below hb HIR.out
      obtain ⟨_, _, ⟨c0, c1, c2, c3, c4, c5, c6, c7⟩, _⟩ := hirw
      have hbA : Below w.heap.size w (wr.alloc (.cells x.vals 34)) := thenA hb _
      have hbx := At.made x wr
      have hLn := hx.ln
      have hEn := hx.en
      have hw1 : IntKind.i64.wrap ((k : Int) + 1) = (k : Int) + 1 := by rw [IntKind.wrap_i64]; omega
      have hcs : tl.count + te.count + 1 ≤ 2000 ∧ sum + 1 + tl.count + te.count ≤ 2000 ∧ tl.deep + 1 ≤ 900 ∧ te.deep + 1 ≤ 900 := by
        have h1 := hfr.count
        have h2 := hfr.deep
        have h3 := HC.out
        simp only [Il.count, Il.deep] at h1 h2 r2
        omega
      obtain ⟨hcs1, hcs2, hcs3, hcs4⟩ := hcs
      have K1 := fun w' (hb' : Below w.heap.size w w') => Check_any _ 1 (cap - k) _ w' (hT.nm.below hb') (hone.on hb') (by simp only [Il.count]; omega) (by omega)
      have K2 := fun w' (hb' : Below w.heap.size w w') => Check_any x.la x.ln x.lc tl w' (hT.nm.below hb') (ListAt.on hLl hb') (by omega) hLn
      have K3 := fun w' (hb' : Below w.heap.size w w') => Check_any x.ea x.en x.ec te w' (hT.nm.below hb') (ListAt.on hLe hb') (by omega) hEn
      have N2 := fun w' (hb' : Below w.heap.size w w') => Count_any x.la x.ln x.lc tl w' (ListAt.on hLl hb') (by omega) hLn
      have N3 := fun w' (hb' : Below w.heap.size w w') => Count_any x.ea x.en x.ec te w' (ListAt.on hLe hb') (by omega) hEn
      have D2 := fun w' (hb' : Below w.heap.size w w') => Deep_any x.la x.ln x.lc tl w' (ListAt.on hLl hb') (by omega) hLn
      have D3 := fun w' (hb' : Below w.heap.size w w') => Deep_any x.ea x.en x.ec te w' (ListAt.on hLe hb') (by omega) hEn
      have htl : (Il.cons x tl te .nil).text.length ≤ 240000 ∧ zs.length + (Il.cons x tl te .nil).text.length ≤ 240000 := by
        have h1 := congrArg List.length r3
        have h2 := HTX.out
        rw [text_cons, List.length_append, List.length_append] at h1
        rw [text_cons, List.length_append]
        simp only [Il.text, List.length_nil]
        omega
      have X1 := fun w' (hb' : Below w.heap.size w w') => Text_any _ 1 (cap - k) _ w' (hone.on hb') (by omega) (by omega) (hT.below hb').pow (hT.below hb').nm
      simp only [f1.check, f2.check, f3.check] at K1 K2 K3
      obtain ⟨q2, hq2⟩ : ∃ q : Int, (tl.count : Int) = q := ⟨_, rfl⟩
      obtain ⟨q3, hq3⟩ : ∃ q : Int, (te.count : Int) = q := ⟨_, rfl⟩
      obtain ⟨p2, hp2⟩ : ∃ q : Int, (tl.deep : Int) = q := ⟨_, rfl⟩
      obtain ⟨p3, hp3⟩ : ∃ q : Int, (te.deep : Int) = q := ⟨_, rfl⟩
      simp only [hq2, hq3, hp2, hp3] at N2 N3 D2 D3
      have hbnd : 0 ≤ q2 ∧ 0 ≤ q3 ∧ 0 ≤ p2 ∧ 0 ≤ p3 ∧ sum + 1 + q2 + q3 ≤ 2000 ∧ p2 + 1 ≤ 900 ∧ p3 + 1 ≤ 900 := by omega
      obtain ⟨y1, y2, y3, y4, y5, y6, y7⟩ := hbnd
      obtain ⟨ys, hys⟩ : ∃ ys, (Il.cons x tl te .nil).text = ys := ⟨_, rfl⟩
      rw [hys] at htl
      simp only [hys] at X1
      have Q2 := hid hq2
      have Q3 := hid hq3
      have P2 := hid hp2
      have P3 := hid hp3
      have YS := hid hys
      have TL := hid htl
      have HH := hid (And.intro r1 (And.intro r2 (And.intro r3 (And.intro r4 f4))))
      have IR := hid hir'
      have H1 := hid K1
      have H2 := hid K2
      have H3 := hid K3
      have H4 := hid N2
      have H5 := hid N3
      have H6 := hid D2
      have H7 := hid D3
      have H8 := hid X1
      clear K1 K2 K3 N2 N3 D2 D3 X1 hq2 hq3 hp2 hp3 hys htl r1 r2 r3 r4 hfr f1 f2 f3 f4 hir' hcs1 hcs2 hcs3 hcs4 hone HR HIR HF HI HTX HC hLl hLe
      go_wp2_with fail
      refine (H1.out _ hbA).mono ?_
      clear H1
      rintro e w4 ⟨rfl, hb4⟩
      have hbW4 := thenB hbA hb4
      have bx4 := hbx.below hb4
      clear hbx hb4 c0 c1 c2 c3 c4 c5 c6 c7
      obtain ⟨c0, c1, c2, c3, c4, c5, c6, c7⟩ := bx4
      go_wp2_with fail
      refine (H2.out _ hbW4).mono ?_
      clear H2
      rintro e w5 ⟨rfl, hb5⟩
      have hbW5 := thenB hbW4 hb5
      have d6 := keep hb5 c6
      have d7 := keep hb5 c7
      clear hb5 c0 c1 c2 c3 c4 c5 c6 c7
      go_wp2_with fail
      refine (H3.out _ hbW5).mono ?_
      clear H3
      rintro e w6 ⟨rfl, hb6⟩
      have hbW6 := thenB hbW5 hb6
      have c6 := keep hb6 d6
      have c7 := keep hb6 d7
      clear hb6 d6 d7 hbA hbW4 hbW5
      have hsz : ¬ 9223372036854775807 < (strOfNums zs).size + (strOfNums ys).size := by have := TL.out; rw [strOfNums_size, strOfNums_size]; omega
      have hv1 : IntKind.i64.wrap (sum + 1) = sum + 1 := by rw [IntKind.wrap_i64]; omega
      have hv2 : IntKind.i64.wrap (sum + 1 + q2) = sum + 1 + q2 := by rw [IntKind.wrap_i64]; omega
      have hv3 : IntKind.i64.wrap (sum + 1 + q2 + q3) = sum + 1 + q2 + q3 := by rw [IntKind.wrap_i64]; omega
      have hv4 : IntKind.i64.wrap (1 + p2) = 1 + p2 := by rw [IntKind.wrap_i64]; omega
      have hv5 : IntKind.i64.wrap (1 + p3) = 1 + p3 := by rw [IntKind.wrap_i64]; omega
      have hS0 : Below w6.heap.size w6 w6.drew ∧ w6.drew.cell? ⟨wr.heap.size, 6, none⟩ = some (.slice x.la x.ln x.lc) ∧ w6.drew.cell? ⟨wr.heap.size, 7, none⟩ = some (.slice x.ea x.en x.ec) := ⟨(Below.refl _ _).drew, c6, c7⟩
      go_wp2
      (first
        | go_loud (go_region_held3 (fun w' => Below w6.heap.size w6 w' ∧ w'.cell? ⟨wr.heap.size, 6, none⟩ = some (.slice x.la x.ln x.lc) ∧ w'.cell? ⟨wr.heap.size, 7, none⟩ = some (.slice x.ea x.en x.ec))
            (first | assumption | exact held_keep (by assumption) (by assumption))
            (first
              | (go_at_call 17; (with_reducible refine (H4.out _ (thenB hbW6 (held_out (by assumption)))).mono ?_); rintro e w7 ⟨rfl, hb7⟩)
              | (go_at_call 17; (with_reducible refine (H5.out _ (thenB hbW6 (held_out (by assumption)))).mono ?_); rintro e w8 ⟨rfl, hb8⟩)))
        | fail)
      have hS1 : Below w6.heap.size w6 w8 ∧ w8.cell? ⟨wr.heap.size, 6, none⟩ = some (.slice x.la x.ln x.lc) ∧ w8.cell? ⟨wr.heap.size, 7, none⟩ = some (.slice x.ea x.en x.ec) := by assumption
      obtain ⟨hb68, e6, e7⟩ := hS1
      have hbW8 := thenB hbW6 hb68
      clear c6 c7 hS0 hb7 hb8 hb68
      go_wp2_with fail
      refine (H8.out _ hbW8).mono ?_
      clear H8
      rintro e w9 ⟨rfl, hb9⟩
      have hbW9 := thenB hbW8 hb9
      have c6 := keep hb9 e6
      have c7 := keep hb9 e7
      clear hb9 e6 e7 hbW8
      have hS2 : Below w9.heap.size w9 w9.drew ∧ w9.drew.cell? ⟨wr.heap.size, 6, none⟩ = some (.slice x.la x.ln x.lc) ∧ w9.drew.cell? ⟨wr.heap.size, 7, none⟩ = some (.slice x.ea x.en x.ec) := ⟨(Below.refl _ _).drew, c6, c7⟩
      go_wp2
      (first
        | go_loud (go_region_held3 (fun w' => Below w9.heap.size w9 w' ∧ w'.cell? ⟨wr.heap.size, 6, none⟩ = some (.slice x.la x.ln x.lc) ∧ w'.cell? ⟨wr.heap.size, 7, none⟩ = some (.slice x.ea x.en x.ec))
            (first | assumption | exact held_keep (by assumption) (by assumption))
            (first
              | (go_at_call 18; (with_reducible refine (H6.out _ (thenB hbW9 (held_out (by assumption)))).mono ?_); rintro e w17 ⟨rfl, hb17⟩)
              | (go_at_call 18; (with_reducible refine (H7.out _ (thenB hbW9 (held_out (by assumption)))).mono ?_); rintro e w18 ⟨rfl, hb18⟩)))
        | fail)
      go_wp2
      obtain ⟨r1, r2, r3, r4, hfr⟩ := HH.out
      have g2 := Q2.out
      have g3 := Q3.out
      have u2 := P2.out
      have u3 := P3.out
      have hy := YS.out
      rw [text_cons] at r3 hy
      simp only [Il.text, List.append_nil] at hy
      rw [hy] at r3
      simp only [Il.len, Il.count, Il.deep] at r1 r2 r4
      have hfd := hfr.deep
      have hbE := thenB hbW9 (held_out (by assumption))
      refine ⟨⟨k + 1, sum + 1 + q2 + q3, max (max dp (1 + p2)) (1 + p3), zs ++ ys, r, rfl, by rw [strOf_app], ?_, by simp, by omega, by omega, by omega, by omega, by omega, ⟨by omega, by omega, by rw [List.append_assoc]; exact r3, by omega, hfr⟩, ?_, hbE⟩, by simp [intOf]; omega⟩
      · congr 1
        (repeat' split) <;> omega
      · have := IR.out
        rw [show off + (k + 1) * 8 = off + k * 8 + 8 by omega]
        exact this
end Go.Proofs.YtolbdioijbdlmaaDoor
