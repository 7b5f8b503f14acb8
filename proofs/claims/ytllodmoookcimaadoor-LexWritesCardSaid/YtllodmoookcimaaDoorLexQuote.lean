/-
  LEX: quoted: by contract.
-/
import Derived.Test.YtllodmoookcimaaDoorLexKit
import Derived.Laws.Append
import Derived.Lib.AppendZeros
namespace Go.Proofs.YtllodmoookcimaaDoor.Lex
open Go.RowKit Go.Proofs.YtllodmoookcimaaDoor.Utf
set_option linter.unusedSimpArgs false
set_option linter.unusedVariables false

/-- Bytes that begin as a literal of one byte in an older block, or lie in a block made later. -/
def OneOr (b g0 : Nat) (w : World) (v : Value) (xs : List Int) : Prop :=
  (v = .slice (some ⟨g0, 0, none⟩) 1 1 ∧ ∃ z, xs = [z] ∧ w.cell? ⟨g0, 0, none⟩ = some (.int .u8 z) ∧ g0 < b + 1) ∨ Own (b + 1) w v xs
theorem OneOr.slice {b g0 : Nat} {w : World} {v : Value} {xs : List Int} (h : OneOr b g0 w v xs) : ∃ a c, v = .slice a xs.length c := by
  rcases h with ⟨rfl, z, rfl, _⟩ | h
  · exact ⟨_, _, rfl⟩
  · exact h.slice
section
variable {ops : Array Oper} {rest : List Oper} {o : Oper} {act : Act} {Q : Exit → Act → World → Prop}
theorem append_q (hgd : o.guard = none) (s x : Operand) (ho : o.op = .call { callee := .builtin .append, args := #[s, x], argTypes := #[43, 43] })
    {b g0 : Nat} {wr : World} {v : Value} {xs : List Int} (ys : List Int) (cs : Array Value) (hcs : cs.toList = ys.map (Value.int .u8)) (m : Nat) (hm : ys.length = m) (hm0 : 0 < m) (hs : act.eval s = v) (hq : OneOr b g0 wr v xs) (hb : b + 1 ≤ wr.heap.size)
    (hx : act.eval x = .slice (some ⟨wr.heap.size, 0, none⟩) m m) (hl : xs.length + m ≤ 100000000)
    (h : ∀ v' w', Own (b + 1) w' v' (xs ++ ys) → Below (b + 1) wr w' → b + 1 ≤ w'.heap.size → wpList Tryd.prog ops Q rest (act.put o.dst v') w') :
    wpList Tryd.prog ops Q (o :: rest) act (wr.alloc (.cells cs 5)) := by
  obtain ⟨i0, hi, hz0, hz1, hz2⟩ := info_parts infoByte
  subst hm
  have hcell : ∀ j u, (ys.map (Value.int .u8))[j]? = some u → (wr.alloc (.cells cs 5)).cell? ((⟨wr.heap.size, 0, none⟩ : Addr).add j) = some u := fun j u hj => by
    have hplain : (⟨wr.heap.size, 0, none⟩ : Addr).add j = ⟨wr.heap.size, 0 + j, none⟩ := by unfold Addr.add; split <;> simp_all
    rw [hplain, Lib.cell_of_heap (heap_alloc_new wr _), Nat.zero_add]
    rw [← hcs] at hj
    simpa using hj
  have hone : ∀ u ∈ ys.map (Value.int .u8), u.oneCell' = true := fun u hu => by
    obtain ⟨n, _, rfl⟩ := List.mem_map.1 hu
    rfl
  have hal : Below (b + 1) wr (wr.alloc (.cells cs 5)) := (Below.refl _ _).alloc hb _
  have hsz : b + 1 ≤ (wr.alloc (.cells cs 5)).heap.size := by rw [World.size_alloc]; omega
  rcases hq with ⟨rfl, z, rfl, hc, hg⟩ | hown
  · have hr := run_append_grow (P := Tryd.prog) (w := wr.alloc (.cells cs 5)) 43 o.type 5 i0 (.int .u8 0) Tryd.underlying43 hi hz0 ⟨g0, 0, none⟩ 1 1 [.int .u8 z] (by rw [hz1]; rfl)
      (fun j u hj => by
        match j, hj with
        | 0, hj => simp at hj; subst hj; exact keepA hc _)
      ⟨wr.heap.size, 0, none⟩ ys.length ys.length (ys.map (Value.int .u8)) (by rw [hz1]; simp) hcell (by omega) (by simp at hl; omega) (growslice_fits (by omega) (by rw [hz2]; simp at hl; omega))
    refine Lib.wpList_append_run _ hgd s x 43 43 ho _ _ hs hx _ _ hr (h _ _ ?_ ?_ ?_)
    · generalize hW : wr.alloc (.cells cs 5) = W at *
      have hge := grownCap_ge W (1 + ys.length) 1 5
      have hcm : grownCap W (1 + ys.length) 1 5 ≤ maxLen := grownCap_le_maxLen W (1 + ys.length) 1 5 (by simp at hl; unfold maxLen; omega)
      refine ⟨by simp, .inr ⟨W.heap.size, grownCap W (1 + ys.length) 1 5, _, by simp [Nat.add_comm], hsz, heap_alloc_new W.drew _, by simp; omega, hcm, ?_, ?_⟩⟩
      · have h1 : (Value.int IntKind.u8 0).cells.size = 1 := rfl
        simp only [Array.size_append, List.size_toArray, size_zeroCells, h1, Nat.mul_one, List.length_map, List.length_cons, List.length_nil]
        omega
      · simp
    · have h1 : Below (b + 1) wr (wr.alloc (.cells cs 5)).drew := Below.drew hal
      exact h1.alloc hsz _
    · rw [World.size_alloc]
      exact Nat.le_succ_of_le hsz
  · refine wpList_append_own _ hgd s x 43 ho (b + 1) 5 i0 (.int .u8 0) 1 1 Tryd.underlying43 hi hz0 hz1 hz2 rfl (by decide) v xs.length _ hs (World.ownsRow.alloc hown _) ⟨wr.heap.size, 0, none⟩ ys.length ys.length (ys.map (Value.int .u8)) hx (by simp)
      hcell hone (by unfold maxLen; omega) (by omega) hsz (fun v' w' hown' hgrow _ => ?_)
    refine h v' w' ?_ (hal.grown hgrow hsz (fun k hk => (World.ownsRow.lt hown k hk).1)) (by have := hgrow.size; omega)
    unfold Own; rw [List.length_append, List.map_append]; exact hown'
end

theorem snoc_flat (zs : List Int) {i : Nat} (hi : i < zs.length) : ((zs.take (i + 1)).map quoteB).flatten = ((zs.take i).map quoteB).flatten ++ quoteB (zs.getD i 0) := by
  rw [getD_lt hi, List.take_succ_eq_append_getElem hi, List.map_append, List.flatten_append]
  simp
theorem flat_le (zs : List Int) (i : Nat) : (((zs.take i).map quoteB).flatten).length ≤ 4 * zs.length := by
  have : ∀ l : List Int, ((l.map quoteB).flatten).length ≤ 4 * l.length := by
    intro l
    induction l with
    | nil => simp
    | cons c t ih =>
      have : (quoteB c).length ≤ 4 := by unfold quoteB; split <;> (try split) <;> simp
      simp only [List.map_cons, List.flatten_cons, List.length_append, List.length_cons]
      omega
  have h1 := this (zs.take i)
  have h2 : (zs.take i).length ≤ zs.length := by rw [List.length_take]; omega
  omega
theorem flat_bytes {zs : List Int} (hb : ∀ z ∈ zs, 0 ≤ z ∧ z < 256) : ∀ z ∈ (zs.map quoteB).flatten, 0 ≤ z ∧ z < 256 := by
  intro z hz
  obtain ⟨q, hq, hz⟩ := List.mem_flatten.1 hz
  obtain ⟨c, hc, rfl⟩ := List.mem_map.1 hq
  have := hb c hc
  unfold quoteB at hz
  split at hz
  · simp at hz; omega
  · split at hz
    · simp at hz; omega
    · simp at hz; omega
theorem u8_small {n : Int} (h0 : 0 ≤ n) (h1 : n < 256) : IntKind.u8.wrap n = n := by rw [IntKind.wrap_u8]; omega
set_option maxRecDepth 10000 in
set_option maxHeartbeats 4000000 in
theorem quoted_any (zs : List Int) (hb : ∀ z ∈ zs, 0 ≤ z ∧ z < 256) (hl : zs.length ≤ 1000000) (w : World) :
    Calls Tryd.prog 67 #[.string (strOfNums zs)] w fun e w' => e = .returned (.string (strOfNums (quoted zs))) ∧ Below w.heap.size w w' := by
  have hal : Below w.heap.size w (w.alloc (.cells #[.int .u8 34] 5)) := thenA (Below.refl _ w) _
  obtain ⟨b, c, w2, hcv, hbz, hbb⟩ := bytes_of zs hb (by omega) (w.alloc (.cells #[.int .u8 34] 5))
  have hw2 : w.heap.size + 1 ≤ w2.heap.size := by have := hbb.size; rw [World.size_alloc] at this; exact this
  obtain ⟨B, hB⟩ : ∃ B, B + 1 = w2.heap.size := ⟨w2.heap.size - 1, by omega⟩
  have hg0 : w2.cell? ⟨w.heap.size, 0, none⟩ = some (.int .u8 34) := by
    refine (hbb.cell (p := ⟨w.heap.size, 0, none⟩) (by simp)).trans ?_
    rw [Lib.cell_of_heap (heap_alloc_new w _)]; rfl
  have HB2 := hid (hal.trans (hbb.mono (by rw [World.size_alloc]; omega)))
  have HG0 := hid hg0
  have HZ := hid hbz
  have HBY := hid hb
  have HFL := hid (flat_le zs)
  have HSN := hid (fun i hi => snoc_flat zs (i := i) hi)
  have HQD : Hid (quoted zs = 34 :: ((zs.take zs.length).map quoteB).flatten ++ [34]) := by show _ = _; rw [List.take_length]; rfl
  have HQB : Hid (∀ z ∈ quoted zs, 0 ≤ z ∧ z < 256) := hid fun z hz => by
    unfold quoted at hz
    simp only [List.cons_append, List.mem_cons, List.mem_append, List.not_mem_nil, or_false] at hz
    rcases hz with rfl | hz | rfl
    · omega
    · exact flat_bytes hb z hz
    · omega
  clear hg0 hbz hb hal hbb
  generalize strOfNums zs = s at *
  obtain ⟨r, hr⟩ : ∃ r, strOfNums (quoted zs) = r := ⟨_, rfl⟩
  rw [hr]
  have HRS := hid hr
  clear hr
  go_enter Tryd.func67, Tryd.ntmps67
  go_wp2
  go_loopw [3, 10] (fun ov iv wr => ∃ i : Nat, iv = .int .i64 i ∧ i ≤ zs.length ∧ OneOr B w.heap.size wr ov (34 :: ((zs.take i).map quoteB).flatten) ∧ Below (B + 1) w2 wr ∧ B + 1 ≤ wr.heap.size) (fun _ iv _ => zs.length - (intOf iv).toNat)
  case atStart => exact ⟨0, rfl, Nat.zero_le _, .inl ⟨rfl, 34, rfl, HG0.out, by omega⟩, Below.refl _ _, by omega⟩
  case round =>
    obtain ⟨i, rfl, hi, hq, hbw, hsz⟩ := hrel
    obtain ⟨acc, hac⟩ : ∃ acc : List Int, (34 :: ((zs.take i).map quoteB).flatten : List Int) = acc := ⟨_, rfl⟩
    rw [hac] at hq
    have HAC := hid hac
    have HLN : Hid (acc.length ≤ 4 * zs.length + 1) := by show _ ≤ _; rw [← hac]; have := HFL.out i; simp only [List.length_cons]; omega
    clear hac
    have HQ := hid hq
    obtain ⟨a, cc, hov⟩ := hq.slice
    clear hq
    by_cases hlt : i < zs.length
    · have hc := HBY.out _ (List.getElem_mem hlt)
      rw [← getD_lt hlt] at hc
      obtain ⟨b', off, ha, hcell⟩ := HZ.out.at (by omega)
      simp only [Option.some.injEq, Addr.mk.injEq] at ha
      obtain ⟨rfl, rfl, _⟩ := ha
      have hc2 := hcell i hlt
      have hbl : b < B + 1 := by rw [hB]; exact World.block_lt_of_cell? _ _ hc2
      have hc3 : wr.cell? ⟨b, i, none⟩ = some (.int .u8 (zs.getD i 0)) := by
        have := (hbw.cell (p := ⟨b, 0 + i, none⟩) hbl).trans hc2
        rwa [Nat.zero_add] at this
      have HST := hid (show (34 :: ((zs.take (i + 1)).map quoteB).flatten : List Int) = acc ++ quoteB (zs.getD i 0) by rw [HSN.out i hlt, ← HAC.out]; rfl)
      have hlti : (i : Int) < (zs.length : Int) := by omega
      obtain ⟨h0, h1⟩ := hc
      clear hcell hc2
      generalize zs.getD i 0 = x at *
      by_cases c1 : x < 32
      · rw [show quoteB x = [92, 48 + x / 100, 48 + x / 10 % 10, 48 + x % 10] by unfold quoteB; rw [if_pos (by omega)]] at HST
        have q1 : Int.tdiv x 100 = x / 100 := Int.tdiv_eq_ediv_of_nonneg h0
        have q2 : Int.tdiv x 10 = x / 10 := Int.tdiv_eq_ediv_of_nonneg h0
        have q3 : Int.tmod (x / 10) 10 = x / 10 % 10 := Int.tmod_eq_emod_of_nonneg (by omega)
        have q4 : Int.tmod x 10 = x % 10 := Int.tmod_eq_emod_of_nonneg h0
        have p1 : IntKind.u8.wrap (x / 100) = x / 100 := u8_small (by omega) (by omega)
        have p2 : IntKind.u8.wrap (x / 10) = x / 10 := u8_small (by omega) (by omega)
        have p3 : IntKind.u8.wrap (x / 10 % 10) = x / 10 % 10 := u8_small (by omega) (by omega)
        have p4 : IntKind.u8.wrap (x % 10) = x % 10 := u8_small (by omega) (by omega)
        have p5 : IntKind.u8.wrap (48 + x / 100) = 48 + x / 100 := u8_small (by omega) (by omega)
        have p6 : IntKind.u8.wrap (48 + x / 10 % 10) = 48 + x / 10 % 10 := u8_small (by omega) (by omega)
        have p7 : IntKind.u8.wrap (48 + x % 10) = 48 + x % 10 := u8_small (by omega) (by omega)
        clear h0 h1
        subst hov
        go_wp2_with (at_builtin; refine (?_ : _ ∧ True).1)
        refine ⟨?_, trivial⟩
        refine append_q (xs := acc) (ys := [92, 48 + x / 100, 48 + x / 10 % 10, 48 + x % 10]) (cs := #[.int .u8 92, .int .u8 (48 + x / 100), .int .u8 (48 + x / 10 % 10), .int .u8 (48 + x % 10)]) rfl (.tmp 25) (.tmp 36) rfl rfl 4 rfl (by decide) rfl HQ.out hsz rfl (by have := HLN.out; omega) ?_
        intro v' w3 hown3 hb3 hs3
        go_wp2
        go_roundw
        case rel => exact ⟨i + 1, by go_num, hlt, .inr (by rw [HST.out]; exact hown3), hbw.trans hb3, hs3⟩
        case measure => simp [intOf]; omega
      by_cases c2 : x ≥ 127
      · rw [show quoteB x = [92, 48 + x / 100, 48 + x / 10 % 10, 48 + x % 10] by unfold quoteB; rw [if_pos (by omega)]] at HST
        have q1 : Int.tdiv x 100 = x / 100 := Int.tdiv_eq_ediv_of_nonneg h0
        have q2 : Int.tdiv x 10 = x / 10 := Int.tdiv_eq_ediv_of_nonneg h0
        have q3 : Int.tmod (x / 10) 10 = x / 10 % 10 := Int.tmod_eq_emod_of_nonneg (by omega)
        have q4 : Int.tmod x 10 = x % 10 := Int.tmod_eq_emod_of_nonneg h0
        have p1 : IntKind.u8.wrap (x / 100) = x / 100 := u8_small (by omega) (by omega)
        have p2 : IntKind.u8.wrap (x / 10) = x / 10 := u8_small (by omega) (by omega)
        have p3 : IntKind.u8.wrap (x / 10 % 10) = x / 10 % 10 := u8_small (by omega) (by omega)
        have p4 : IntKind.u8.wrap (x % 10) = x % 10 := u8_small (by omega) (by omega)
        have p5 : IntKind.u8.wrap (48 + x / 100) = 48 + x / 100 := u8_small (by omega) (by omega)
        have p6 : IntKind.u8.wrap (48 + x / 10 % 10) = 48 + x / 10 % 10 := u8_small (by omega) (by omega)
        have p7 : IntKind.u8.wrap (48 + x % 10) = 48 + x % 10 := u8_small (by omega) (by omega)
        clear h0 h1
        subst hov
        go_wp2_with (at_builtin; refine (?_ : _ ∧ True).1)
        refine ⟨?_, trivial⟩
        refine append_q (xs := acc) (ys := [92, 48 + x / 100, 48 + x / 10 % 10, 48 + x % 10]) (cs := #[.int .u8 92, .int .u8 (48 + x / 100), .int .u8 (48 + x / 10 % 10), .int .u8 (48 + x % 10)]) rfl (.tmp 25) (.tmp 36) rfl rfl 4 rfl (by decide) rfl HQ.out hsz rfl (by have := HLN.out; omega) ?_
        intro v' w3 hown3 hb3 hs3
        go_wp2
        go_roundw
        case rel => exact ⟨i + 1, by go_num, hlt, .inr (by rw [HST.out]; exact hown3), hbw.trans hb3, hs3⟩
        case measure => simp [intOf]; omega
      by_cases c3 : x = 34
      · subst c3
        rw [show quoteB 34 = [92, 34] from rfl] at HST
        clear h0 h1
        subst hov
        go_wp2_with (at_builtin; refine (?_ : _ ∧ True).1)
        refine ⟨?_, trivial⟩
        refine append_q (xs := acc) (ys := [92, 34]) (cs := #[.int .u8 92, .int .u8 34]) rfl (.tmp 45) (.tmp 47) rfl rfl 2 rfl (by decide) rfl HQ.out hsz rfl (by have := HLN.out; omega) ?_
        intro v' w3 hown3 hb3 hs3
        go_wp2
        go_roundw
        case rel => exact ⟨i + 1, by go_num, hlt, .inr (by rw [HST.out]; exact hown3), hbw.trans hb3, hs3⟩
        case measure => simp [intOf]; omega
      by_cases c4 : x = 92
      · subst c4
        rw [show quoteB 92 = [92, 92] from rfl] at HST
        clear h0 h1
        subst hov
        go_wp2_with (at_builtin; refine (?_ : _ ∧ True).1)
        refine ⟨?_, trivial⟩
        refine append_q (xs := acc) (ys := [92, 92]) (cs := #[.int .u8 92, .int .u8 92]) rfl (.tmp 45) (.tmp 47) rfl rfl 2 rfl (by decide) rfl HQ.out hsz rfl (by have := HLN.out; omega) ?_
        intro v' w3 hown3 hb3 hs3
        go_wp2
        go_roundw
        case rel => exact ⟨i + 1, by go_num, hlt, .inr (by rw [HST.out]; exact hown3), hbw.trans hb3, hs3⟩
        case measure => simp [intOf]; omega
      · rw [show quoteB x = [x] by unfold quoteB; rw [if_neg (by omega), if_neg (by omega)]] at HST
        have b3 : (x == 34) = false := by simpa using c3
        have b4 : (x == 92) = false := by simpa using c4
        clear h0 h1
        subst hov
        go_wp2_with (at_builtin; refine (?_ : _ ∧ True).1)
        refine ⟨?_, trivial⟩
        refine append_q (xs := acc) (ys := [x]) (cs := #[.int .u8 x]) rfl (.tmp 14) (.tmp 16) rfl rfl 1 rfl (by decide) rfl HQ.out hsz rfl (by have := HLN.out; omega) ?_
        intro v' w3 hown3 hb3 hs3
        go_wp2
        go_roundw
        case rel => exact ⟨i + 1, by go_num, hlt, .inr (by rw [HST.out]; exact hown3), hbw.trans hb3, hs3⟩
        case measure => simp [intOf]; omega
    · obtain rfl : i = zs.length := by omega
      subst hov
      go_wp2_with (at_builtin; refine (?_ : _ ∧ True).1)
      refine ⟨?_, trivial⟩
      refine append_q (xs := acc) (ys := [34]) (cs := #[.int .u8 34]) rfl (.tmp 50) (.tmp 51) rfl rfl 1 rfl (by decide) rfl HQ.out hsz rfl (by have := HLN.out; omega) ?_
      intro v' w3 hown3 hb3 hs3
      have HO : Own (B + 1) w3 v' (quoted zs) := by rw [HQD.out, HAC.out]; exact hown3
      have hql : (quoted zs).length ≤ 140737488351232 := by
        have := HFL.out zs.length
        rw [HQD.out]
        simp only [List.cons_append, List.length_cons, List.length_append, List.length_nil]
        omega
      obtain ⟨a2, c2, hv2⟩ := HO.slice
      subst hv2
      have hcv2 := str_of (Own.bytes HO HQB.out hql) (quoted zs).length c2 rfl
      rw [HRS.out] at hcv2
      have HB3 := hid (HB2.out.trans ((hbw.trans hb3).mono (by omega)))
      clear hown3 HO hb3 hs3 hbw hql
      generalize (quoted zs).length = ql at *
      go_wp2
      go_ret
      exact ⟨rfl, HB3.out⟩
end Go.Proofs.YtllodmoookcimaaDoor.Lex
