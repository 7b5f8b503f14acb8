/-
  LEX: the document's writer: quoted, written: by contract.
-/
import Derived.Test.YtllodmoookcimaaDoorLexRefC
import Derived.Test.YtllodmoookcimaaDoorLexQuote
namespace Go.Proofs.YtllodmoookcimaaDoor.Lex
open Go.RowKit Go.Proofs.YtllodmoookcimaaDoor.Utf
set_option linter.unusedSimpArgs false
set_option linter.unusedVariables false

theorem str_prepend (zs : List Int) : (⟨#[39]⟩ : ByteArray) ++ strOfNums zs = strOfNums (39 :: zs) := by
  apply ByteArray.ext
  apply Array.toList_inj.1
  rw [ByteArray.data_append, Array.toList_append, strOfNums_data, strOfNums_data]
  rfl
set_option maxRecDepth 10000 in
set_option maxHeartbeats 4000000 in
theorem quotedR_any (zs : List Int) (hb : ∀ z ∈ zs, 0 ≤ z ∧ z < 256) (hl : zs.length ≤ 1000000) (w : World) :
    Calls Tryd.prog 71 #[.string (strOfNums zs)] w fun e w' => e = .returned (.string (strOfNums (quoted zs))) ∧ Below w.heap.size w w' := by
  have hs : (strOfNums zs).size = zs.length := strOfNums_size zs
  have hal : Below w.heap.size w (w.alloc (.cells #[.int .u8 34] 5)) := thenA (Below.refl _ w) _
  obtain ⟨w2, hw2e⟩ : ∃ w2, w2 = w.alloc (.cells #[.int .u8 34] 5) := ⟨_, rfl⟩
  have hw2 : w2.heap.size = w.heap.size + 1 := by rw [hw2e, World.size_alloc]
  have hg0 : w2.cell? ⟨w.heap.size, 0, none⟩ = some (.int .u8 34) := by
    rw [hw2e, Lib.cell_of_heap (heap_alloc_new w _)]; rfl
  have hal2 : Below w.heap.size w w2 := by rw [hw2e]; exact hal
  have HB2 := hid hal2
  have HG0 := hid hg0
  have HW2 := hid hw2
  have HWE := hid hw2e
  have HBY := hid hb
  have HG := hid (fun i h => str_get hb i h)
  have HFL := hid (flat_le zs)
  have HSN := hid (fun i hi => snoc_flat zs (i := i) hi)
  have HQD : Hid (quoted zs = 34 :: ((zs.take zs.length).map quoteB).flatten ++ [34]) := by show _ = _; rw [List.take_length]; rfl
  have HQB : Hid (∀ z ∈ quoted zs, 0 ≤ z ∧ z < 256) := hid fun z hz => by
    unfold quoted at hz
    simp only [List.cons_append, List.mem_cons, List.mem_append, List.not_mem_nil, or_false] at hz
    rcases hz with rfl | hz | rfl
    · omega
    · exact flat_bytes hb z hz
    · omega
  clear hg0 hb hal hal2 hw2 hw2e
  generalize strOfNums zs = s at *
  obtain ⟨r, hr⟩ : ∃ r, strOfNums (quoted zs) = r := ⟨_, rfl⟩
  rw [hr]
  have HRS := hid hr
  clear hr
  go_enter Tryd.func71, Tryd.ntmps71
  go_wp2
  rw [← HWE.out]
  go_loopw [3, 4] (fun ov iv wr => ∃ i : Nat, iv = .int .i64 i ∧ i ≤ zs.length ∧ OneOr w.heap.size w.heap.size wr ov (34 :: ((zs.take i).map quoteB).flatten) ∧ Below (w.heap.size + 1) w2 wr ∧ w.heap.size + 1 ≤ wr.heap.size) (fun _ iv _ => zs.length - (intOf iv).toNat)
  case atStart => exact ⟨0, rfl, Nat.zero_le _, .inl ⟨rfl, 34, rfl, HG0.out, by omega⟩, Below.refl _ _, Nat.le_of_eq HW2.out.symm⟩
  case round =>
    obtain ⟨i, rfl, hi, hq, hbw, hsz⟩ := hrel
    obtain ⟨acc, hac⟩ : ∃ acc : List Int, (34 :: ((zs.take i).map quoteB).flatten : List Int) = acc := ⟨_, rfl⟩
    rw [hac] at hq
    have HAC := hid hac
    have HLN : Hid (acc.length ≤ 4 * zs.length + 1) := by show _ ≤ _; rw [← hac]; have := HFL.out i; simp only [List.length_cons]; omega
    clear hac
    have HQ := hid hq
    obtain ⟨a, cc, hov⟩ := hq.slice
    clear hq
    by_cases hlt : i < zs.length
    · have hc := HBY.out _ (List.getElem_mem hlt)
      rw [← getD_lt hlt] at hc
      have i0 : ((s[i]'(by rw [hs]; exact hlt)).toNat : Int) = zs.getD i 0 := HG.out i _
      have HST := hid (show (34 :: ((zs.take (i + 1)).map quoteB).flatten : List Int) = acc ++ quoteB (zs.getD i 0) by rw [HSN.out i hlt, ← HAC.out]; rfl)
      have hlti : (i : Int) < (zs.length : Int) := by omega
      obtain ⟨h0, h1⟩ := hc
      clear HG
      generalize zs.getD i 0 = x at *
      by_cases c1 : x < 32
      · skip
        rw [show quoteB x = [92, 48 + x / 100, 48 + x / 10 % 10, 48 + x % 10] by unfold quoteB; rw [if_pos (by omega)]] at HST
        have q1 : Int.tdiv x 100 = x / 100 := Int.tdiv_eq_ediv_of_nonneg h0
        have q2 : Int.tdiv x 10 = x / 10 := Int.tdiv_eq_ediv_of_nonneg h0
        have q3 : Int.tmod (x / 10) 10 = x / 10 % 10 := Int.tmod_eq_emod_of_nonneg (by omega)
        have q4 : Int.tmod x 10 = x % 10 := Int.tmod_eq_emod_of_nonneg h0
        have p1 : IntKind.u8.wrap (x / 100) = x / 100 := u8_small (by omega) (by omega)
        have p2 : IntKind.u8.wrap (x / 10) = x / 10 := u8_small (by omega) (by omega)
        have p3 : IntKind.u8.wrap (x / 10 % 10) = x / 10 % 10 := u8_small (by omega) (by omega)
        have p4 : IntKind.u8.wrap (x % 10) = x % 10 := u8_small (by omega) (by omega)
        have p5 : IntKind.u8.wrap (48 + x / 100) = 48 + x / 100 := u8_small (by omega) (by omega)
        have p6 : IntKind.u8.wrap (48 + x / 10 % 10) = 48 + x / 10 % 10 := u8_small (by omega) (by omega)
        have p7 : IntKind.u8.wrap (48 + x % 10) = 48 + x % 10 := u8_small (by omega) (by omega)
        clear h0 h1
        subst hov
        go_wp2_with (at_builtin; refine (?_ : _ ∧ True).1)
        refine ⟨?_, trivial⟩
        refine append_q (xs := acc) (ys := [92, 48 + x / 100, 48 + x / 10 % 10, 48 + x % 10]) (cs := #[.int .u8 92, .int .u8 (48 + x / 100), .int .u8 (48 + x / 10 % 10), .int .u8 (48 + x % 10)]) rfl (.tmp 22) (.tmp 33) rfl rfl 4 rfl (by decide) rfl HQ.out hsz rfl (by have := HLN.out; omega) ?_
        intro v' w3 hown3 hb3 hs3
        go_wp2
        go_roundw
        case rel => exact ⟨i + 1, by go_num, hlt, .inr (by rw [HST.out]; exact hown3), hbw.trans hb3, hs3⟩
        case measure => simp [intOf]; omega
      by_cases c2 : x > 126
      · skip
        rw [show quoteB x = [92, 48 + x / 100, 48 + x / 10 % 10, 48 + x % 10] by unfold quoteB; rw [if_pos (by omega)]] at HST
        have q1 : Int.tdiv x 100 = x / 100 := Int.tdiv_eq_ediv_of_nonneg h0
        have q2 : Int.tdiv x 10 = x / 10 := Int.tdiv_eq_ediv_of_nonneg h0
        have q3 : Int.tmod (x / 10) 10 = x / 10 % 10 := Int.tmod_eq_emod_of_nonneg (by omega)
        have q4 : Int.tmod x 10 = x % 10 := Int.tmod_eq_emod_of_nonneg h0
        have p1 : IntKind.u8.wrap (x / 100) = x / 100 := u8_small (by omega) (by omega)
        have p2 : IntKind.u8.wrap (x / 10) = x / 10 := u8_small (by omega) (by omega)
        have p3 : IntKind.u8.wrap (x / 10 % 10) = x / 10 % 10 := u8_small (by omega) (by omega)
        have p4 : IntKind.u8.wrap (x % 10) = x % 10 := u8_small (by omega) (by omega)
        have p5 : IntKind.u8.wrap (48 + x / 100) = 48 + x / 100 := u8_small (by omega) (by omega)
        have p6 : IntKind.u8.wrap (48 + x / 10 % 10) = 48 + x / 10 % 10 := u8_small (by omega) (by omega)
        have p7 : IntKind.u8.wrap (48 + x % 10) = 48 + x % 10 := u8_small (by omega) (by omega)
        clear h0 h1
        subst hov
        go_wp2_with (at_builtin; refine (?_ : _ ∧ True).1)
        refine ⟨?_, trivial⟩
        refine append_q (xs := acc) (ys := [92, 48 + x / 100, 48 + x / 10 % 10, 48 + x % 10]) (cs := #[.int .u8 92, .int .u8 (48 + x / 100), .int .u8 (48 + x / 10 % 10), .int .u8 (48 + x % 10)]) rfl (.tmp 22) (.tmp 33) rfl rfl 4 rfl (by decide) rfl HQ.out hsz rfl (by have := HLN.out; omega) ?_
        intro v' w3 hown3 hb3 hs3
        go_wp2
        go_roundw
        case rel => exact ⟨i + 1, by go_num, hlt, .inr (by rw [HST.out]; exact hown3), hbw.trans hb3, hs3⟩
        case measure => simp [intOf]; omega
      by_cases c3 : x = 34
      · skip
        subst c3
        rw [show quoteB 34 = [92, 34] from rfl] at HST
        clear h0 h1
        subst hov
        go_wp2_with (at_builtin; refine (?_ : _ ∧ True).1)
        refine ⟨?_, trivial⟩
        refine append_q (xs := acc) (ys := [92]) (cs := #[.int .u8 92]) rfl (.tmp 41) (.tmp 42) rfl rfl 1 rfl (by decide) rfl HQ.out hsz rfl (by have := HLN.out; omega) ?_
        intro v' w3 hown3 hb3 hs3
        have hlen3 : (acc ++ [92]).length + 1 ≤ 100000000 := by have := HLN.out; simp only [List.length_append, List.length_cons, List.length_nil]; omega
        go_wp2_with (at_builtin; refine (?_ : _ ∧ True).1)
        refine ⟨?_, trivial⟩
        refine append_q (g0 := 0) (xs := acc ++ [92]) (ys := [34]) (cs := #[.int .u8 34]) rfl (.tmp 44) (.tmp 46) rfl rfl 1 rfl (by decide) rfl (.inr hown3) hs3 rfl hlen3 ?_
        intro v4 w4 hown4 hb4 hs4
        rw [List.append_assoc] at hown4
        go_wp2
        go_roundw
        case rel => exact ⟨i + 1, by go_num, hlt, .inr (by rw [HST.out]; exact hown4), (hbw.trans hb3).trans hb4, hs4⟩
        case measure => simp [intOf]; omega
      by_cases c4 : x = 92
      · skip
        subst c4
        rw [show quoteB 92 = [92, 92] from rfl] at HST
        clear h0 h1
        subst hov
        go_wp2_with (at_builtin; refine (?_ : _ ∧ True).1)
        refine ⟨?_, trivial⟩
        refine append_q (xs := acc) (ys := [92]) (cs := #[.int .u8 92]) rfl (.tmp 41) (.tmp 42) rfl rfl 1 rfl (by decide) rfl HQ.out hsz rfl (by have := HLN.out; omega) ?_
        intro v' w3 hown3 hb3 hs3
        have hlen3 : (acc ++ [92]).length + 1 ≤ 100000000 := by have := HLN.out; simp only [List.length_append, List.length_cons, List.length_nil]; omega
        go_wp2_with (at_builtin; refine (?_ : _ ∧ True).1)
        refine ⟨?_, trivial⟩
        refine append_q (g0 := 0) (xs := acc ++ [92]) (ys := [92]) (cs := #[.int .u8 92]) rfl (.tmp 44) (.tmp 46) rfl rfl 1 rfl (by decide) rfl (.inr hown3) hs3 rfl hlen3 ?_
        intro v4 w4 hown4 hb4 hs4
        rw [List.append_assoc] at hown4
        go_wp2
        go_roundw
        case rel => exact ⟨i + 1, by go_num, hlt, .inr (by rw [HST.out]; exact hown4), (hbw.trans hb3).trans hb4, hs4⟩
        case measure => simp [intOf]; omega
      · rw [show quoteB x = [x] by unfold quoteB; rw [if_neg (by omega), if_neg (by omega)]] at HST
        have b3 : (x == 34) = false := by simpa using c3
        have b4 : (x == 92) = false := by simpa using c4
        clear h0 h1
        subst hov
        go_wp2_with (at_builtin; refine (?_ : _ ∧ True).1)
        refine ⟨?_, trivial⟩
        refine append_q (xs := acc) (ys := [x]) (cs := #[.int .u8 x]) rfl (.tmp 44) (.tmp 46) rfl rfl 1 rfl (by decide) rfl HQ.out hsz rfl (by have := HLN.out; omega) ?_
        intro v' w3 hown3 hb3 hs3
        go_wp2
        go_roundw
        case rel => exact ⟨i + 1, by go_num, hlt, .inr (by rw [HST.out]; exact hown3), hbw.trans hb3, hs3⟩
        case measure => simp [intOf]; omega
    · obtain rfl : i = zs.length := by omega
      subst hov
      go_wp2_with (at_builtin; refine (?_ : _ ∧ True).1)
      refine ⟨?_, trivial⟩
      refine append_q (xs := acc) (ys := [34]) (cs := #[.int .u8 34]) rfl (.tmp 48) (.tmp 49) rfl rfl 1 rfl (by decide) rfl HQ.out hsz rfl (by have := HLN.out; omega) ?_
      intro v' w3 hown3 hb3 hs3
      have HO : Own (w.heap.size + 1) w3 v' (quoted zs) := by rw [HQD.out, HAC.out]; exact hown3
      have hql : (quoted zs).length ≤ 140737488351232 := by
        have := HFL.out zs.length
        rw [HQD.out]
        simp only [List.cons_append, List.length_cons, List.length_append, List.length_nil]
        omega
      obtain ⟨a2, c2, hv2⟩ := HO.slice
      subst hv2
      have hcv2 := str_of (Own.bytes HO HQB.out hql) (quoted zs).length c2 rfl
      rw [HRS.out] at hcv2
      have HB3 := hid (HB2.out.trans ((hbw.trans hb3).mono (by omega)))
      clear hown3 HO hb3 hs3 hbw hql
      generalize (quoted zs).length = ql at *
      go_wp2
      go_ret
      exact ⟨rfl, HB3.out⟩
set_option maxRecDepth 10000 in
set_option maxHeartbeats 2000000 in
theorem writtenR_any (k n a : Int) (zs : List Int) (hb : ∀ z ∈ zs, 0 ≤ z ∧ z < 256) (hl : zs.length ≤ 1000000) (hm : k = 1 → -1073741824 ≤ n ∧ n ≤ 1073741823) (w : World) :
    Calls Tryd.prog 39 #[.agg #[.int .i64 k, .int .i64 n, .int .i64 a, .string (strOfNums zs)]] w fun e w' => e = .returned (.string (strOfNums (written ⟨k, n, a, zs⟩))) ∧ Below w.heap.size w w' := by
  have HB := hid (thenA (Below.refl _ w) (.cells #[.int .i64 k, .int .i64 n, .int .i64 a, .string (strOfNums zs)] 31))
  have Q := hid (fun W => quotedR_any zs hb hl W)
  have HV := hid (str_prepend zs)
  have HE : Hid (written ⟨k, n, a, zs⟩ = if k = 1 then decL (if n < 0 then n + 2147483648 else n) else if k = 2 then quoted zs else if k = 5 then 39 :: zs else zs) := rfl
  have hs : (strOfNums zs).size = zs.length := strOfNums_size zs
  generalize written ⟨k, n, a, zs⟩ = r at *
  clear hb
  by_cases k1 : k = 1
  · subst k1
    obtain ⟨m0, m1⟩ := hm rfl
    have HE1 : Hid (r = decL (if n < 0 then n + 2147483648 else n)) := HE.out
    clear HE HV hm Q
    by_cases hn : n < 0
    · obtain ⟨m, hmm⟩ : ∃ m : Nat, n + 2147483648 = (m : Int) := ⟨(n + 2147483648).toNat, by omega⟩
      have HF : Hid (r = decGo 20 m) := by show _ = _; rw [HE1.out, if_pos hn, hmm]; rfl
      have C := hid (fun W => decR_any 20 m W (by omega) (by omega) (by omega) (by omega))
      have e1 : wrap64 (n + 2147483648) = (m : Int) := by rw [wrap64_small (by omega) (by omega)]; exact hmm
      rw [← HF.out] at C
      generalize strOfNums r = res at *
      generalize strOfNums zs = s at *
      clear HE1 HF
      go_enter Tryd.func39, Tryd.ntmps39
      go_wp2_with fail
      refine (C.out _).mono ?_
      rintro e w1 ⟨rfl, hb1⟩
      have HB1 := hid (HB.out.trans (hb1.mono HB.out.size))
      clear hb1
      go_wp2
      go_ret
      exact ⟨rfl, HB1.out⟩
    · obtain ⟨m, hmm⟩ : ∃ m : Nat, n = (m : Int) := ⟨n.toNat, by omega⟩
      have HF : Hid (r = decGo 20 m) := by show _ = _; rw [HE1.out, if_neg hn, hmm]; rfl
      have C := hid (fun W => decR_any 20 m W (by omega) (by omega) (by omega) (by omega))
      rw [← HF.out] at C
      subst hmm
      generalize strOfNums r = res at *
      generalize strOfNums zs = s at *
      clear HE1 HF
      go_enter Tryd.func39, Tryd.ntmps39
      go_wp2_with fail
      refine (C.out _).mono ?_
      rintro e w1 ⟨rfl, hb1⟩
      have HB1 := hid (HB.out.trans (hb1.mono HB.out.size))
      clear hb1
      go_wp2
      go_ret
      exact ⟨rfl, HB1.out⟩
  by_cases k2 : k = 2
  · subst k2
    obtain rfl : r = quoted zs := HE.out
    generalize strOfNums (quoted zs) = res at *
    generalize strOfNums zs = s at *
    clear HE HV hm k1
    go_enter Tryd.func39, Tryd.ntmps39
    go_wp2_with fail
    refine (Q.out _).mono ?_
    rintro e w1 ⟨rfl, hb1⟩
    have HB1 := hid (HB.out.trans (hb1.mono HB.out.size))
    clear hb1
    go_wp2
    go_ret
    exact ⟨rfl, HB1.out⟩
  by_cases k5 : k = 5
  · subst k5
    obtain rfl : r = 39 :: zs := HE.out
    generalize strOfNums (39 :: zs) = res at *
    generalize strOfNums zs = s at *
    clear HE hm Q k1 k2
    go_enter Tryd.func39, Tryd.ntmps39
    go_wp2
    go_ret
    exact ⟨by rw [← HV.out]; rfl, HB.out⟩
  · have hr : r = zs := by rw [HE.out, if_neg k1, if_neg k2, if_neg k5]
    rw [hr]
    clear hr
    generalize strOfNums zs = s at *
    clear HE HV hm Q
    go_enter Tryd.func39, Tryd.ntmps39
    go_wp2
    go_ret
    exact ⟨rfl, HB.out⟩
end Go.Proofs.YtllodmoookcimaaDoor.Lex
