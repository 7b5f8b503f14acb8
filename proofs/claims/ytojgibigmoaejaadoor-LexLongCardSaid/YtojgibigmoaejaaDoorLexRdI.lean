/-
  LEX: the document's reader: what stands behind a backslash: by contract.
-/
import Derived.Test.YtojgibigmoaejaaDoorLexRdH
import Derived.Test.YtojgibigmoaejaaDoorSave
namespace Go.Proofs.YtojgibigmoaejaaDoor.Lex
open Go.RowKit Go.Proofs.YtojgibigmoaejaaDoor.Utf
set_option linter.unusedSimpArgs false
set_option linter.unusedVariables false

theorem own_save {base k : Nat} {w w' : World} {v : Value} {zs : List Int} (h : Own base w v zs) (hs : Save k w w') (hk : k < base) : Own base w' v zs := by
  refine ⟨h.1, ?_⟩
  rcases h.2 with h0 | ⟨g, cap, cur, hv, hg, hh, rest⟩
  · exact .inl h0
  · exact .inr ⟨g, cap, cur, hv, hg, (hs.block g (Array.getElem?_eq_some_iff.1 hh).1 (by omega)).trans hh, rest⟩
/-- The reader's box, all of it in memory below B. -/
def RLow (w : World) (b : Nat) (zs : List Int) (p f e : Int) (ws : List Wd) (B : Nat) : Prop := ∃ u, RAt u b zs p f e ws ∧ u.heap.size = B ∧ Below B u w
theorem RAt.toLow {w : World} {b : Nat} {zs : List Int} {p f e : Int} {ws : List Wd} (h : RAt w b zs p f e ws) : RLow w b zs p f e ws w.heap.size := ⟨w, h, rfl, Below.refl _ _⟩
section
variable {w : World} {b B : Nat} {zs : List Int} {p f e : Int} {ws : List Wd}
theorem RLow.at (h : RLow w b zs p f e ws B) : RAt w b zs p f e ws := by
  obtain ⟨u, h1, rfl, h3⟩ := h
  exact h1.below h3
theorem RLow.lt (h : RLow w b zs p f e ws B) : b < B := by
  obtain ⟨u, h1, rfl, h3⟩ := h
  exact h1.lt
theorem RLow.le (h : RLow w b zs p f e ws B) : B ≤ w.heap.size := by
  obtain ⟨u, h1, rfl, h3⟩ := h
  exact h3.size
theorem RLow.on (h : RLow w b zs p f e ws B) {w' : World} (hb : Below B w w') : RLow w' b zs p f e ws B := by
  obtain ⟨u, h1, h2, h3⟩ := h
  exact ⟨u, h1, h2, h3.trans hb⟩
theorem RLow.drew (h : RLow w b zs p f e ws B) (n : Nat) : RLow (w.drewN n) b zs p f e ws B := h.on (drewL (Below.refl _ _) n)
theorem below_both {u : World} (h : Below B u w) {cs : Array Value} {T : TypeId} {i : Nat} (hb : b < B) (hu : u.heap[b]? = some (.cells cs T (0, 0))) (x : Value) : Below B (u.setCell ⟨b, i, none⟩ x) (w.setCell ⟨b, i, none⟩ x) := by
  have hw := (h.block b hb).trans hu
  refine ⟨h.os, h.tape, h.output, by have := h.size; simpa [World.setCell] using this, fun k hk => ?_⟩
  by_cases e : k = b
  · subst e
    rw [heap_setCell_same w k i cs T x hw, heap_setCell_same u k i cs T x hu]
  · rw [Below.heap_setCell _ _ _ _ (by simpa using e), Below.heap_setCell _ _ _ _ (by simpa using e)]
    exact h.block k hk
theorem RLow.set1 (h : RLow w b zs p f e ws B) (x : Int) : RLow (w.setCell ⟨b, 1, none⟩ (.int .i64 x)) b zs x f e ws B := by
  have hlt := h.lt
  obtain ⟨u, h1, h2, h3⟩ := h
  obtain ⟨v, hu, _⟩ := id h1
  exact ⟨_, h1.set1 x, by rw [← h2]; simp [World.setCell], below_both h3 hlt hu _⟩
theorem RLow.set3 (h : RLow w b zs p f e ws B) (x : Int) : RLow (w.setCell ⟨b, 3, none⟩ (.int .i64 x)) b zs p f x ws B := by
  have hlt := h.lt
  obtain ⟨u, h1, h2, h3⟩ := h
  obtain ⟨v, hu, _⟩ := id h1
  exact ⟨_, h1.set3 x, by rw [← h2]; simp [World.setCell], below_both h3 hlt hu _⟩
end
theorem save_drew {k : Nat} {a w : World} (h : Save k a w) (n : Nat) : Save k a (w.drewN n) := h.trans (.of_below (drewL (Below.refl _ _) n))
/-- What an escape leaves. -/
def EscOut (w : World) (b : Nat) (zs : List Int) (q : Nat) (f : Int) (ws : List Wd) (B : Nat) (v : Int) : Option (Int × Nat) → Prop
  | none => ∃ q' : Nat, q' ≤ q + 3 ∧ q ≤ q' ∧ RLow w b zs q' f 252 ws B
  | some (x, k) => v = x ∧ RLow w b zs (q + k : Nat) f 0 ws B
/-- The number that digits make. -/
def numI (zs : List Int) (q : Nat) : Nat → Int
  | 0 => 0
  | i + 1 => 10 * numI zs q i + (zs.getD (q + i) 0 - 48)
/-- The bytes from q on are digits, i of them. -/
def Digs (zs : List Int) (q i : Nat) : Prop := ∀ j, j < i → q + j < zs.length ∧ digitB (zs.getD (q + j) 0) = true
theorem digs_more {zs : List Int} {q i : Nat} (h : Digs zs q i) (hl : q + i < zs.length) (hd : digitB (zs.getD (q + i) 0) = true) : Digs zs q (i + 1) := fun j hj => by
  by_cases e : j = i
  · subst e; exact ⟨hl, hd⟩
  · exact h j (by omega)
theorem numI_range {zs : List Int} {q : Nat} : ∀ i, Digs zs q i → 0 ≤ numI zs q i ∧ (i ≤ 2 → numI zs q i < 100) ∧ (i ≤ 3 → numI zs q i < 1000)
  | 0, _ => by simp [numI]
  | 1, h => by
    have h0 := dig_range (h 0 (by omega)).2
    simp only [numI]; omega
  | 2, h => by
    have h0 := dig_range (h 0 (by omega)).2
    have h1 := dig_range (h 1 (by omega)).2
    simp only [numI]; omega
  | 3, h => by
    have h0 := dig_range (h 0 (by omega)).2
    have h1 := dig_range (h 1 (by omega)).2
    have h2 := dig_range (h 2 (by omega)).2
    simp only [numI]; omega
  | i + 4, h => by
    have ih := (numI_range (i + 3) fun j hj => h j (by omega)).1
    have h3 := dig_range (h (i + 3) (by omega)).2
    refine ⟨?_, fun h => by omega, fun h => by omega⟩
    show 0 ≤ 10 * numI zs q (i + 3) + _
    omega
theorem drop_at3 {zs : List Int} {q : Nat} (h : q + 3 ≤ zs.length) : zs.drop q = zs.getD q 0 :: zs.getD (q + 1) 0 :: zs.getD (q + 2) 0 :: zs.drop (q + 3) := by
  rw [drop_at (by omega), drop_at (i := q + 1) (by omega), drop_at (i := q + 1 + 1) (by omega)]
theorem esc_simple {zs : List Int} {q : Nat} (hq : q < zs.length) : (zs.getD q 0 = 110 → escL (zs.drop q) = some (10, 1)) ∧ (zs.getD q 0 = 116 → escL (zs.drop q) = some (9, 1)) ∧ (zs.getD q 0 = 34 → escL (zs.drop q) = some (34, 1)) ∧ (zs.getD q 0 = 92 → escL (zs.drop q) = some (92, 1)) := by
  rw [drop_at hq]
  refine ⟨fun h => by rw [h]; rfl, fun h => by rw [h]; rfl, fun h => by rw [h]; rfl, fun h => by rw [h]; rfl⟩
theorem esc_end (zs : List Int) : escL (zs.drop zs.length) = none := by rw [List.drop_length]; rfl
theorem esc_three {zs : List Int} {q : Nat} (h : Digs zs q 3) : escL (zs.drop q) = if numI zs q 3 ≤ 255 then some (numI zs q 3, 3) else none := by
  have h0 := h 0 (by omega)
  have h1 := h 1 (by omega)
  have h2 := h 2 (by omega)
  rw [drop_at3 (by omega)]
  simp only [Nat.add_zero] at h0
  have r0 := dig_range h0.2
  have e : numI zs q 3 = 100 * (zs.getD q 0 - 48) + 10 * (zs.getD (q + 1) 0 - 48) + (zs.getD (q + 2) 0 - 48) := by simp only [numI, Nat.add_zero]; omega
  rw [e]
  simp only [escL]
  rw [if_neg (by omega), if_neg (by omega), if_neg (by omega), h0.2, h1.2, h2.2]
  simp
theorem esc_fail {zs : List Int} {q i : Nat} (hq : q < zs.length) (hi : i < 3) (h : q + i ≥ zs.length ∨ digitB (zs.getD (q + i) 0) = false) (n1 : ¬ zs.getD q 0 = 110) (n2 : ¬ zs.getD q 0 = 116) (n3 : ¬ zs.getD q 0 = 34) (n4 : ¬ zs.getD q 0 = 92) : escL (zs.drop q) = none := by
  by_cases h3 : q + 3 ≤ zs.length
  · rw [drop_at3 h3]
    simp only [escL]
    rw [if_neg n1, if_neg n2, if_neg (by omega)]
    have hd : digitB (zs.getD (q + i) 0) = false := by rcases h with h | h; omega; exact h
    match i, hi with
    | 0, _ => rw [Nat.add_zero] at hd; rw [hd]; rfl
    | 1, _ => rw [hd]; simp
    | 2, _ => rw [hd]; simp
  · rw [drop_at hq]
    simp only [escL]
    rw [if_neg n1, if_neg n2, if_neg (by omega)]
    have : ∀ t : List Int, t.length < 2 → (match t with | d :: f :: _ => if digitB (zs.getD q 0) && digitB d && digitB f && decide (100 * (zs.getD q 0 - 48) + 10 * (d - 48) + (f - 48) ≤ 255) then some (100 * (zs.getD q 0 - 48) + 10 * (d - 48) + (f - 48), 3) else none | _ => none) = (none : Option (Int × Nat)) := by
      intro t ht
      match t, ht with
      | [], _ => rfl
      | [x], _ => rfl
    exact this _ (by rw [List.length_drop]; omega)
set_option maxHeartbeats 4000000 in
set_option maxRecDepth 10000 in
theorem escapeR_any (b B : Nat) (zs : List Int) (hb : ∀ z ∈ zs, 0 ≤ z ∧ z < 256) (hl : zs.length ≤ 100000) (q : Nat) (hq : q ≤ zs.length) (f : Int) (ws : List Wd) (w : World) (h : RLow w b zs q f 0 ws B) :
    Calls Tryd.prog 44 #[.pointer (some ⟨b, 0, none⟩)] w fun o w' => ∃ v, o = .returned (.int .u8 v) ∧ 0 ≤ v ∧ v < 256 ∧ Save b w w' ∧ EscOut w' b zs q f ws B v (escL (zs.drop q)) := by
  have hs : (strOfNums zs).size = zs.length := strOfNums_size zs
  have HR := hid h
  have HG := hid (fun i h => str_get hb i h)
  have S0 := hid (Save.refl b w)
  have HGD := hid (fun i (hi : i < zs.length) => (getD_lt hi ▸ hb _ (List.getElem_mem hi) : 0 ≤ zs.getD i 0 ∧ zs.getD i 0 < 256))
  have HEE := hid (esc_end zs)
  have HES := hid (fun hq => esc_simple (zs := zs) (q := q) hq)
  have HE3 := hid (fun h => esc_three (zs := zs) (q := q) h)
  have HEF := hid (fun i hq hi h n1 n2 n3 n4 => esc_fail (zs := zs) (q := q) (i := i) hq hi h n1 n2 n3 n4)
  have c0 := h.at.c0
  have c1 := h.at.c1
  clear h hb
  go_enter Tryd.func44, Tryd.ntmps44
  by_cases hge : q = zs.length
  · subst hge
    clear HES HE3 HEF HG HGD
    go_wp2
    go_quiet (fail)
    have R1 := hid (HR.out.drew nq)
    have S1 := hid (save_drew S0.out nq)
    clear c0 c1 HR S0
    generalize hu : w.drewN nq = u at *
    clear hu
    have c3 := R1.out.at.c3
    have f3 := R1.out.at.frozen 3
    have R2 := hid (R1.out.set3 252)
    have S2 := hid (S1.out.setCell (p := ⟨b, 3, none⟩) (.inl rfl) (.int .i64 252))
    clear R1 S1
    go_wp2
    go_ret
    refine ⟨0, rfl, by omega, by omega, S2.out, ?_⟩
    rw [HEE.out]
    exact ⟨zs.length, by omega, Nat.le_refl _, R2.out⟩
  have hlt : q < zs.length := by omega
  clear hge
  have hqi : (q : Int) < (zs.length : Int) := by omega
  have i0 : (((strOfNums zs)[q]'(by rw [hs]; exact hlt)).toNat : Int) = zs.getD q 0 := HG.out q _
  obtain ⟨hx0, hx1⟩ := HGD.out q hlt
  obtain ⟨x, hx⟩ : ∃ x, x = zs.getD q 0 := ⟨_, rfl⟩
  rw [← hx] at i0 hx0 hx1
  have HX := hid hx
  clear hx
  go_wp2
  go_quiet (fail)
  have R1 := hid (HR.out.drew nq)
  have S1 := hid (save_drew S0.out nq)
  clear c0 c1 HR S0
  generalize hu : w.drewN nq = u at *
  clear hu
  have c0 := R1.out.at.c0
  have c1 := R1.out.at.c1
  go_wp2
  go_quiet (fail)
  have R2 := hid (R1.out.drew nq)
  have S2 := hid (save_drew S1.out nq)
  clear c0 c1 R1 S1
  generalize hu : u.drewN nq = u2 at *
  clear hu i0
  have c1 := R2.out.at.c1
  have f1 := R2.out.at.frozen 1
  obtain ⟨q', hq'⟩ : ∃ q', q' = q + 1 := ⟨_, rfl⟩
  have hc : (q' : Int) = (q : Int) + 1 := by omega
  have e2 : IntKind.i64.wrap ((q : Int) + 1) = (q : Int) + 1 := by rw [IntKind.wrap_i64]; omega
  have R3 : Hid (RLow (u2.setCell ⟨b, 1, none⟩ (.int .i64 ((q : Int) + 1))) b zs (q' : Int) f 0 ws B) := by show RLow _ _ _ _ _ _ _ _; rw [← hc]; exact R2.out.set1 _
  have S3 := hid (S2.out.setCell (p := ⟨b, 1, none⟩) (.inl rfl) (.int .i64 ((q : Int) + 1)))
  obtain ⟨s1, s2, s3, s4⟩ := HES.out hlt
  rw [← HX.out] at s1 s2 s3 s4
  have S4 := hid s1
  have S5 := hid s2
  have S6 := hid s3
  have S7 := hid s4
  clear R2 S2 HES s1 s2 s3 s4
  by_cases x1 : x = 110
  · have HF := hid (S4.out x1)
    subst x1
    clear HE3 HEF S4 S5 S6 S7 HEE
    go_wp2
    go_ret
    refine ⟨10, rfl, by omega, by omega, S3.out, ?_⟩
    rw [HF.out]
    exact ⟨rfl, hq' ▸ R3.out⟩
  by_cases x2 : x = 116
  · have HF := hid (S5.out x2)
    subst x2
    clear HE3 HEF S4 S5 S6 S7 HEE x1
    go_wp2
    go_ret
    refine ⟨9, rfl, by omega, by omega, S3.out, ?_⟩
    rw [HF.out]
    exact ⟨rfl, hq' ▸ R3.out⟩
  by_cases x3 : x = 34
  · have HF := hid (S6.out x3)
    subst x3
    clear HE3 HEF S4 S5 S6 S7 HEE x1 x2
    go_wp2
    go_ret
    refine ⟨34, rfl, by omega, by omega, S3.out, ?_⟩
    rw [HF.out]
    exact ⟨rfl, hq' ▸ R3.out⟩
  by_cases x4 : x = 92
  · have HF := hid (S7.out x4)
    subst x4
    clear HE3 HEF S4 S5 S6 S7 HEE x1 x2 x3
    go_wp2
    go_ret
    refine ⟨92, rfl, by omega, by omega, S3.out, ?_⟩
    rw [HF.out]
    exact ⟨rfl, hq' ▸ R3.out⟩
  have HEF2 := hid (fun i hi h => HEF.out i hlt hi h (HX.out ▸ x1) (HX.out ▸ x2) (HX.out ▸ x3) (HX.out ▸ x4))
  have y1 : (x == 110) = false := by simpa using x1
  have y2 : (x == 116) = false := by simpa using x2
  have y3 : (x == 34) = false := by simpa using x3
  have y4 : (x == 92) = false := by simpa using x4
  clear HEF S4 S5 S6 S7 HEE x1 x2 x3 x4 HX
  go_wp2
  go_loopw [4, 5] (fun nv iv wr => ∃ (i : Nat) (n : Int), iv = .int .i64 i ∧ nv = .int .i64 n ∧ i ≤ 3 ∧ Hid (n = numI zs q i) ∧ Hid (Digs zs q i) ∧ Hid (RLow wr b zs (q' : Int) f 0 ws B) ∧ Hid (Save b w wr)) (fun _ iv _ => 3 - (intOf iv).toNat)
  case atStart => exact ⟨0, 0, rfl, rfl, by omega, hid rfl, hid fun j h => absurd h (Nat.not_lt_zero _), R3, S3⟩
  case round =>
    obtain ⟨i, n, rfl, rfl, hi, HN, HD, HR, HS⟩ := hrel
    have c0 := HR.out.at.c0
    have c1 := HR.out.at.c1
    rw [hc] at c1
    clear R3 S3 y1 y2 y3 y4 hx0 hx1 e2 c0 c1
    by_cases hi3 : i < 3
    · have hii : (i : Int) < 3 := by omega
      have c0 := HR.out.at.c0
      have c1 := HR.out.at.c1
      rw [hc] at c1
      have e1 : IntKind.i64.wrap ((q : Int) + 1 - 1) = (q : Int) := by rw [IntKind.wrap_i64]; omega
      have e3 : IntKind.i64.wrap ((q : Int) + (i : Int)) = (q : Int) + (i : Int) := by rw [IntKind.wrap_i64]; omega
      by_cases hql : q + i < zs.length
      · have hin1 : (q : Int) + (i : Int) < (zs.length : Int) := by omega
        have hin2 : 0 ≤ (q : Int) + (i : Int) := by omega
        have hin3 : ((q : Int) + (i : Int)).toNat = q + i := by omega
        have hin4 : ((zs.length : Int) ≤ (q : Int) + (i : Int)) = False := by simp; omega
        have hin5 : ((q : Int) + (i : Int) ≥ (zs.length : Int)) = False := by simp; omega
        have i0 : (((strOfNums zs)[q + i]'(by rw [hs]; exact hql)).toNat : Int) = zs.getD (q + i) 0 := HG.out (q + i) _
        have LT := hid (fun n => within_c (zs.getD (q + i) 0) 48 57 (wr.drewN n))
        have hdg : digitB (zs.getD (q + i) 0) = (decide (48 ≤ zs.getD (q + i) 0) && decide (zs.getD (q + i) 0 ≤ 57)) := rfl
        rw [← hdg] at LT
        clear hdg
        cases hx : digitB (zs.getD (q + i) 0) with
        | true =>
          rw [hx] at LT
          have HD2 := hid (digs_more HD.out hql hx)
          obtain ⟨n0, n1, n2⟩ := numI_range i HD.out
          obtain ⟨x1, x2⟩ := dig_range hx
          have hnn : numI zs q (i + 1) = 10 * n + (zs.getD (q + i) 0 - 48) := by rw [HN.out]; rfl
          rw [← HN.out] at n0 n1 n2
          obtain ⟨y, hy⟩ : ∃ y, y = zs.getD (q + i) 0 := ⟨_, rfl⟩
          rw [← hy] at i0 LT x1 x2 hnn
          have HNN := hid hnn
          have n3 := n1 (by omega)
          clear hy hx hnn HD HN n1 n2 HE3 HEF2
          go_wp2
          go_quiet ((go_at_call 17; exact Calls.quiet_of_same (LT.out _)))
          have R2 := hid (HR.out.drew nq)
          have S2 := hid (save_drew HS.out nq)
          clear HR HS c0 c1 LT
          generalize hu : wr.drewN nq = u at *
          clear hu
          have c0 := R2.out.at.c0
          have c1 := R2.out.at.c1
          rw [hc] at c1
          have e4 : IntKind.u8.wrap (y - 48) = y - 48 := by show (y - 48) % 256 = _; omega
          have e5 : IntKind.i64.wrap (y - 48) = y - 48 := by rw [IntKind.wrap_i64]; omega
          have e6 : IntKind.i64.wrap (10 * n) = 10 * n := by rw [IntKind.wrap_i64]; omega
          have e7 : IntKind.i64.wrap (10 * n + (y - 48)) = 10 * n + (y - 48) := by rw [IntKind.wrap_i64]; omega
          go_wp2
          go_quiet (fail)
          have R3 := hid (R2.out.drew nq)
          have S3 := hid (save_drew S2.out nq)
          clear R2 S2 c0 c1 e4 e5 e6 e7
          go_wp2
          go_roundw
          case rel => exact ⟨i + 1, 10 * n + (y - 48), by go_num, rfl, by omega, hid HNN.out.symm, HD2, R3, S3⟩
          case measure => simp [intOf]; omega
        | false =>
          rw [hx] at LT
          have HF := hid (HEF2.out i hi3 (.inr hx))
          obtain ⟨y, hy⟩ : ∃ y, y = zs.getD (q + i) 0 := ⟨_, rfl⟩
          rw [← hy] at i0 LT
          clear hy hx HD HN HE3 HEF2
          go_wp2
          go_quiet ((go_at_call 17; exact Calls.quiet_of_same (LT.out _)))
          have R2 := hid (HR.out.drew nq)
          have S2 := hid (save_drew HS.out nq)
          clear HR HS c0 c1 LT
          generalize hu : wr.drewN nq = u at *
          clear hu
          have c3 := R2.out.at.c3
          have f3 := R2.out.at.frozen 3
          have R3 := hid (R2.out.set3 252)
          have S3 := hid (S2.out.setCell (p := ⟨b, 3, none⟩) (.inl rfl) (.int .i64 252))
          clear R2 S2
          go_wp2
          go_ret
          refine ⟨0, rfl, by omega, by omega, S3.out, ?_⟩
          rw [HF.out]
          exact ⟨q', by omega, by omega, R3.out⟩
      · have HF := hid (HEF2.out i hi3 (.inl (by omega)))
        have hin4 : (zs.length : Int) ≤ (q : Int) + (i : Int) := by omega
        have hin5 : (q : Int) + (i : Int) ≥ (zs.length : Int) := by omega
        clear HD HN HE3 HEF2 HG HGD
        go_wp2
        go_quiet (fail)
        have R2 := hid (HR.out.drew nq)
        have S2 := hid (save_drew HS.out nq)
        clear HR HS c0 c1
        generalize hu : wr.drewN nq = u at *
        clear hu
        have c3 := R2.out.at.c3
        have f3 := R2.out.at.frozen 3
        have R3 := hid (R2.out.set3 252)
        have S3 := hid (S2.out.setCell (p := ⟨b, 3, none⟩) (.inl rfl) (.int .i64 252))
        clear R2 S2
        go_wp2
        go_ret
        refine ⟨0, rfl, by omega, by omega, S3.out, ?_⟩
        rw [HF.out]
        exact ⟨q', by omega, by omega, R3.out⟩
    · obtain rfl : i = 3 := by omega
      have HF := HE3.out HD.out
      obtain ⟨n0, _, n2⟩ := numI_range 3 HD.out
      rw [← HN.out] at HF n0 n2
      have n3 := n2 (by omega)
      have c1 := HR.out.at.c1
      have f1 := HR.out.at.frozen 1
      rw [hc] at c1
      obtain ⟨q3, hq3⟩ : ∃ q3, q3 = q + 3 := ⟨_, rfl⟩
      have hc3 : (q3 : Int) = (q : Int) + 1 + 2 := by omega
      have e3 : IntKind.i64.wrap ((q : Int) + 1 + 2) = (q : Int) + 1 + 2 := by rw [IntKind.wrap_i64]; omega
      have R2 : Hid (RLow (wr.setCell ⟨b, 1, none⟩ (.int .i64 ((q : Int) + 1 + 2))) b zs (q3 : Int) f 0 ws B) := by show RLow _ _ _ _ _ _ _ _; rw [← hc3]; exact HR.out.set1 _
      have S2 := hid (HS.out.setCell (p := ⟨b, 1, none⟩) (.inl rfl) (.int .i64 ((q : Int) + 1 + 2)))
      clear HR HS HN HD HE3 HEF2 n2
      by_cases h255 : n ≤ 255
      · rw [if_pos h255] at HF
        have HFF := hid HF
        have h255b : (n > 255) = False := by simp; omega
        have h255c : (255 < n) = False := by simp; omega
        have e4 : IntKind.u8.wrap n = n := by show n % 256 = _; omega
        clear HF
        go_wp2
        go_ret
        refine ⟨n, rfl, n0, by omega, S2.out, ?_⟩
        rw [HFF.out]
        exact ⟨rfl, hq3 ▸ R2.out⟩
      · rw [if_neg h255] at HF
        have HFF := hid HF
        have h255b : (n > 255) = True := by simp; omega
        have h255c : (255 < n) = True := by simp; omega
        have c3 := R2.out.at.c3
        have f3 := R2.out.at.frozen 3
        have R3 := hid (R2.out.set3 252)
        have S3 := hid (S2.out.setCell (p := ⟨b, 3, none⟩) (.inl rfl) (.int .i64 252))
        obtain ⟨v, hv⟩ : ∃ v, v = IntKind.u8.wrap n := ⟨_, rfl⟩
        have hv2 : 0 ≤ v ∧ v < 256 := by
          have : v = n % 256 := hv
          omega
        have e4 : IntKind.u8.wrap n = v := hv.symm
        clear HF R2 S2 hv
        go_wp2
        go_ret
        refine ⟨v, rfl, hv2.1, hv2.2, S3.out, ?_⟩
        rw [HFF.out]
        exact ⟨q3, by omega, by omega, R3.out⟩
end Go.Proofs.YtojgibigmoaejaaDoor.Lex
