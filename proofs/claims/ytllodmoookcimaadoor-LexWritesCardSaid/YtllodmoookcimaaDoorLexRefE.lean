/-
  LEX: the document's Write: by contract.
-/
import Derived.Test.YtllodmoookcimaaDoorLexRefD
import Derived.Test.YtllodmoookcimaaDoorLexWrite
import Derived.Test.YtllodmoookcimaaDoorAppend
namespace Go.Proofs.YtllodmoookcimaaDoor.Lex
open Go.RowKit Go.Proofs.YtllodmoookcimaaDoor.Utf
set_option linter.unusedSimpArgs false
set_option linter.unusedVariables false

section
variable {ops : Array Oper} {rest : List Oper} {o : Oper} {act : Act} {Q : Exit → Act → World → Prop}
theorem append_str (hgd : o.guard = none) (s x : Operand) (ho : o.op = .call { callee := .builtin .append, args := #[s, x], argTypes := #[43, 9] })
    {base : Nat} {w0 wr : World} {v : Value} {xs : List Int} (ys : List Int) (hs : act.eval s = v) (hown : Own base wr v xs) (hb : Below base w0 wr) (hbase : base ≤ wr.heap.size)
    (hx : act.eval x = .string (strOfNums ys)) (hy : ∀ z ∈ ys, 0 ≤ z ∧ z < 256) (hl : xs.length + ys.length ≤ 140737488355328)
    (h : ∀ v' w', Own base w' v' (xs ++ ys) → Below base w0 w' → base ≤ w'.heap.size → wpList Tryd.prog ops Q rest (act.put o.dst v') w') :
    wpList Tryd.prog ops Q (o :: rest) act wr :=
  append_strU hgd s x ho ys hs hown (Upon.refl base wr) hbase hx hy hl fun v' w' ho' hu hs' => h v' w' ho' (hb.trans hu.below) hs'
end
theorem take_snoc {l : List Wd} {i : Nat} (h : i < l.length) : l.take (i + 1) = l.take i ++ [l[i]] := by rw [List.take_succ_eq_append_getElem h]
theorem joined_step {l : List Wd} {i : Nat} (h : i < l.length) : joined (l.take (i + 1)) = (if i = 0 then [] else joined (l.take i) ++ [32]) ++ written l[i] := by
  rw [take_snoc h]
  by_cases h0 : i = 0
  · subst h0; simp [joined]
  · rw [if_neg h0, joined_snoc _ _ (fun hn => by have := congrArg List.length hn; rw [List.length_take, List.length_nil] at this; omega)]
    simp
theorem joined_take_le {l : List Wd} (hok : WOk l) (i : Nat) : (joined (l.take i)).length ≤ 400001100000 := by
  have h1 := joined_le (l.take i) fun x hx => hok.len x (List.mem_of_mem_take hx)
  have h2 : (l.take i).length ≤ 100000 := by rw [List.length_take]; have := hok.few; omega
  have h3 : (l.take i).length * 4000011 ≤ 100000 * 4000011 := Nat.mul_le_mul_right _ h2
  omega
set_option maxRecDepth 10000 in
set_option maxHeartbeats 4000000 in
theorem WriteR_any (l : List Wd) (a : Option Addr) (n c : Nat) (hn : l.length = n) (hok : WOk l) (w : World) (hw : WordsAt w a l) :
    Calls Tryd.prog 17 #[.slice a n c] w fun e w' => e = .returned (.tuple #[.string (writeV l).1, .int .i64 (writeV l).2]) ∧ Below w.heap.size w w' := by
  have HOK := hid hok
  have hnb : n ≤ 100000 := by have := hok.few; omega
  have HW := hid hw
  have HN := hid hn
  have C1 := hid (fun k (hk : k < l.length) W => may_any l[k].k l[k].n l[k].at_ l[k].s (hok.bts _ (List.getElem_mem hk)) W)
  have C2 := hid (fun k (hk : k < l.length) (hm : mayB l[k] = true) W => writtenR_any l[k].k l[k].n l[k].at_ l[k].s (hok.bts _ (List.getElem_mem hk)) (hok.len _ (List.getElem_mem hk)) (fun h1 => by
    unfold mayB at hm
    rw [if_pos h1] at hm
    simp only [Bool.and_eq_true, decide_eq_true_eq] at hm
    omega) W)
  have HJ := hid (fun i (h : i < l.length) => joined_step h)
  have HJL := hid (joined_take_le hok)
  have HWB := hid (fun k (hk : k < l.length) (hm : mayB l[k] = true) => written_bytes l[k] (hok.bts _ (List.getElem_mem hk)) hm)
  have HWL := hid (fun k (hk : k < l.length) => written_le l[k] (hok.len _ (List.getElem_mem hk)))
  have HV : Hid (writeV l = match writeP l with | some t => (strOfNums t, 0) | none => (⟨#[]⟩, 2)) := rfl
  generalize writeV l = r at *
  clear hok hw hn
  go_enter Tryd.func17, Tryd.ntmps17
  go_wp2
  go_loopw [4, 5] (fun ov iv wr => ∃ i : Nat, iv = .int .i64 i ∧ i ≤ n ∧ Own w.heap.size wr ov (joined (l.take i)) ∧ Below w.heap.size w wr ∧ w.heap.size ≤ wr.heap.size ∧ Hid (∀ j (hj : j < l.length), j < i → mayB l[j] = true)) (fun _ iv _ => n - (intOf iv).toNat)
  case atStart => exact ⟨0, rfl, Nat.zero_le _, Own.none _ _, Below.refl _ _, Nat.le_refl _, hid fun j _ h => absurd h (Nat.not_lt_zero _)⟩
  case round =>
    obtain ⟨i, rfl, hi, hown, hbw, hsz, HA⟩ := hrel
    obtain ⟨acc, hacc⟩ : ∃ acc, joined (l.take i) = acc := ⟨_, rfl⟩
    rw [hacc] at hown
    have HACC := hid hacc
    have HO := hid hown
    obtain ⟨ao, co, hov⟩ := hown.slice
    clear hown hacc
    by_cases hlt : i < n
    · have hkl : i < l.length := by rw [HN.out]; exact hlt
      have C := hid (fun W => C1.out i hkl W)
      have D := hid (fun hm W => C2.out i hkl hm W)
      have HST := hid (HJ.out i hkl)
      have WB := hid (fun hm => HWB.out i hkl hm)
      have WL := hid (HWL.out i hkl)
      have JL := hid (HJL.out i)
      have HXM := hid (List.getElem_mem hkl)
      obtain ⟨b, off, rfl, hbl, hc⟩ := Stk.Rows.get HW.out hkl
      obtain ⟨x, hx⟩ : ∃ x, l[i] = x := ⟨_, rfl⟩
      have HX := hid hx
      rw [hx] at hc C D HST WB WL HXM
      have cc : ∀ j, j < 4 → ∀ v, (Wd.row x)[j]? = some v → wr.cell? ⟨b, off + i * 4 + j, none⟩ = some v := fun j hj v hv => (hbw.cell (p := ⟨b, off + i * 4 + j, none⟩) hbl).trans (hc j hj v hv)
      have c0 : wr.cell? ⟨b, off + i * 4, none⟩ = some (.int .i64 x.k) := cc 0 (by omega) _ rfl
      have c1 : wr.cell? ⟨b, off + i * 4 + 1, none⟩ = some (.int .i64 x.n) := cc 1 (by omega) _ rfl
      have c2 : wr.cell? ⟨b, off + i * 4 + 2, none⟩ = some (.int .i64 x.at_) := cc 2 (by omega) _ rfl
      have c3 : wr.cell? ⟨b, off + i * 4 + 3, none⟩ = some (.string (strOfNums x.s)) := cc 3 (by omega) _ rfl
      have hii : (i : Int) < (n : Int) := by omega
      have HM : Hid (mayB x = mayB ⟨x.k, x.n, x.at_, x.s⟩) := rfl
      rw [← HM.out] at C
      have HWR : Hid (written x = written ⟨x.k, x.n, x.at_, x.s⟩) := rfl
      rw [← HWR.out] at D
      have HCC := hid (show ∀ W, Below w.heap.size w W → W.cell? ⟨b, off + i * 4, none⟩ = some (.int .i64 x.k) ∧ W.cell? ⟨b, off + i * 4 + 1, none⟩ = some (.int .i64 x.n) ∧ W.cell? ⟨b, off + i * 4 + 2, none⟩ = some (.int .i64 x.at_) ∧ W.cell? ⟨b, off + i * 4 + 3, none⟩ = some (.string (strOfNums x.s)) from
        fun W hb => ⟨(hb.cell (p := ⟨b, _, none⟩) hbl).trans (hc 0 (by omega) _ rfl), (hb.cell (p := ⟨b, _, none⟩) hbl).trans (hc 1 (by omega) _ rfl), (hb.cell (p := ⟨b, _, none⟩) hbl).trans (hc 2 (by omega) _ rfl), (hb.cell (p := ⟨b, _, none⟩) hbl).trans (hc 3 (by omega) _ rfl)⟩)
      clear hx hc cc hbl C1 C2 HJ HWB HWL HJL HWR HM
      generalize strOfNums x.s = s at *
      generalize x.k = xk at *
      generalize x.n = xn at *
      generalize x.at_ = xa at *
      generalize written x = wx at *
      rw [HACC.out] at HST JL
      subst hov
      cases hq : mayB x with
      | false =>
        rw [hq] at C
        have HF : Hid (r = (⟨#[]⟩, 2)) := by
          show _ = _
          have : l.all mayB = false := by
            rw [List.all_eq_false]
            exact ⟨x, HXM.out, by simp [hq]⟩
          rw [HV.out]
          unfold writeP
          rw [this]; rfl
        have HBW := hid hbw
        clear HV hq HA D HST WB WL hbw
        go_wp2_with fail
        refine (C.out _).mono ?_
        rintro e w1 ⟨rfl, hb1⟩
        have HB1 := hid (HBW.out.trans (hb1.mono hsz))
        clear hb1 C
        go_wp2
        exact bodyPost_ret (v := .tuple #[.string ⟨#[]⟩, .int .i64 2]) (by simp [results, Tryd.results17, go_sem]) rfl ⟨by rw [HF.out], HB1.out⟩
      | true =>
        rw [hq] at C
        have HF := hid (show ∀ j (hj : j < l.length), j < i + 1 → mayB l[j] = true from fun j hj hji => by
          by_cases e : j = i
          · subst e; rw [HX.out]; exact hq
          · exact HA.out j hj (by omega))
        have D := hid (fun W => D.out hq W)
        have WB := hid (WB.out hq)
        have HBW := hid hbw
        clear hq HA hbw
        go_wp2_with fail
        refine (C.out _).mono ?_
        rintro e w1 ⟨rfl, hb1⟩
        have HB1 := hid (HBW.out.trans (hb1.mono hsz))
        obtain ⟨d0, d1, d2, d3⟩ := HCC.out w1 HB1.out
        have HO1 := hid (HO.out.below hb1)
        have HC1 := hid hb1
        have hsz1 : w.heap.size ≤ w1.heap.size := HB1.out.size
        clear hb1 C c0 c1 c2 c3 HO
        by_cases h0 : i = 0
        · have hz1 : (0 < i) = False := by simp; omega
          have hz2 : ((0 : Int) < (i : Int)) = False := by simp; omega
          have hz3 : ((i : Int) > 0) = False := by simp; omega
          have HACC0 : Hid (acc = []) := by show _ = _; rw [← HACC.out, h0]; rfl
          rw [if_pos h0, List.nil_append] at HST
          clear h0
          go_wp2_with fail
          refine (D.out _).mono ?_
          rintro e w2 ⟨rfl, hb2⟩
          have HB2 := hid (HB1.out.trans (hb2.mono hsz1))
          have HO2 := hid (HO1.out.below hb2)
          clear hb2 D HO1
          go_wp2_with (at_builtin; refine (?_ : _ ∧ True).1)
          refine ⟨?_, trivial⟩
          refine append_str (xs := acc) (ys := wx) rfl (.tmp 23) (.tmp 28) rfl rfl HO2.out HB2.out HB2.out.size rfl WB.out (by have := JL.out; have := WL.out; omega) ?_
          intro v' w3 hown3 hb3 hs3
          rw [HACC0.out, List.nil_append] at hown3
          go_wp2
          go_roundw
          case rel => exact ⟨i + 1, by go_num, hlt, by rw [HST.out]; exact hown3, hb3, hs3, HF⟩
          case measure => simp [intOf]; omega
        · have hz1 : (0 < i) = True := by simp; omega
          have hz2 : ((0 : Int) < (i : Int)) = True := by simp; omega
          have hz3 : ((i : Int) > 0) = True := by simp; omega
          rw [if_neg h0] at HST
          clear h0
          go_wp2_with (at_builtin; refine (?_ : _ ∧ True).1)
          refine ⟨?_, trivial⟩
          refine append_byte rfl (.tmp 20) (.tmp 21) rfl 32 rfl HO1.out HB1.out hsz1 rfl (by have := JL.out; omega) ?_
          intro v' w2 hown2 hb2 hs2
          have hsz2 : w.heap.size ≤ w2.heap.size := hs2
          obtain ⟨g0, g1, g2, g3⟩ := HCC.out w2 hb2
          have HB2 := hid hb2
          have HO2 := hid hown2
          obtain ⟨a2, cc2, hv2⟩ := hown2.sliceN (n := acc.length + 1) (by simp)
          subst hv2
          clear hb2 hown2 HO1 HB1 d0 d1 d2 d3 HCC hs2
          go_wp2_with fail
          refine (D.out _).mono ?_
          rintro e w3 ⟨rfl, hb3⟩
          have HB3 := hid (HB2.out.trans (hb3.mono hsz2))
          have HO3 := hid (HO2.out.below hb3)
          clear hb3 D HO2
          have hlen3 : (acc ++ [32]).length + wx.length ≤ 140737488355328 := by have := JL.out; have := WL.out; simp only [List.length_append, List.length_cons, List.length_nil]; omega
          go_wp2_with (at_builtin; refine (?_ : _ ∧ True).1)
          refine ⟨?_, trivial⟩
          refine append_str (xs := acc ++ [32]) (ys := wx) rfl (.tmp 23) (.tmp 28) rfl rfl HO3.out HB3.out HB3.out.size rfl WB.out hlen3 ?_
          intro v4 w4 hown4 hb4 hs4
          go_wp2
          go_roundw
          case rel => exact ⟨i + 1, by go_num, hlt, by rw [HST.out]; exact hown4, hb4, hs4, HF⟩
          case measure => simp [intOf]; omega
    · obtain rfl : i = n := by omega
      have hall : ∀ x ∈ l, mayB x = true := fun x hx => by
        obtain ⟨j, hj, rfl⟩ := List.getElem_of_mem hx
        exact HA.out j hj (by rw [HN.out] at hj; exact hj)
      have hjl : acc = joined l := by rw [← HACC.out, ← HN.out, List.take_length]
      have HF : Hid (r = (strOfNums acc, 0)) := by
        show _ = _
        rw [HV.out]
        unfold writeP
        rw [if_pos (List.all_eq_true.2 hall), hjl]
      have hby : ∀ z ∈ acc, 0 ≤ z ∧ z < 256 := fun z hz => by
        rw [hjl] at hz
        have := joined_low l (fun x hx => ⟨hall x hx, HOK.out.bts x hx⟩) z hz
        omega
      have hle : acc.length ≤ 140737488351232 := by rw [← HACC.out]; have := HJL.out i; omega
      subst hov
      have hcv := str_of (Own.bytes HO.out hby hle) acc.length co rfl
      have HBW := hid hbw
      generalize strOfNums acc = res at *
      clear hall hjl hby HJ HJL HWB HWL C1 C2 HACC HA hbw HV
      go_wp2
      exact bodyPost_ret (v := .tuple #[.string res, .int .i64 0]) (by simp [results, Tryd.results17, go_sem]) rfl ⟨by rw [HF.out], HBW.out⟩
end Go.Proofs.YtllodmoookcimaaDoor.Lex
