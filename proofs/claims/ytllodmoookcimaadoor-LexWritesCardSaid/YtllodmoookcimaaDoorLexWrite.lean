/-
  LEX: written, Write: by contract.
-/
import Derived.Test.YtllodmoookcimaaDoorLexWord
import Derived.Test.YtllodmoookcimaaDoorLexQuote
import Derived.Test.YtllodmoookcimaaDoorLexBld
import Derived.Lib.AppendIntMem
namespace Go.Proofs.YtllodmoookcimaaDoor.Lex
open Go.RowKit Go.Proofs.YtllodmoookcimaaDoor.Utf
set_option linter.unusedSimpArgs false
set_option linter.unusedVariables false

def Pow (w : World) : Prop := Lib.TabIs Tryd.prog w "internal/strconv.uint64pow10" .u64 Lib.pow10Tab
theorem Pow.below {w w' : World} (h : Pow w) (hb : Below w.heap.size w w') : Pow w' := by
  unfold Pow Lib.TabIs World.var? at h ⊢
  rw [Option.bind_eq_some_iff] at h ⊢
  obtain ⟨g, hg, hc⟩ := h
  refine ⟨g, hg, ?_⟩
  cases hh : w.heap[g]? with
  | none => rw [hh] at hc; cases hc
  | some o =>
    rw [(hb.block g (Array.getElem?_eq_some_iff.1 hh).1), hh]
    rw [hh] at hc
    exact hc
theorem decDigits_go : ∀ (f u : Nat), u < 10 ^ f → 0 < f → Lib.decDigits u = (decGo f u).map fun z => UInt8.ofNat z.toNat
  | f + 1, u, h, _ => by
    rw [Lib.decDigits]
    unfold decGo
    split
    · have h48 : (48 + (u : Int)).toNat = 48 + u := by omega
      simp [h48]
    · rename_i hu
      rcases Nat.eq_zero_or_pos f with rfl | hf
      · simp at h; omega
      · rw [decDigits_go f (u / 10) (by rw [Nat.pow_succ] at h; omega) hf, List.map_append]
        congr 1
theorem itoa_nums {n : Int} (h0 : 0 ≤ n) (h1 : n ≤ 2147483647) : (⟨(Lib.itoa n).toArray⟩ : ByteArray) = strOfNums (decL n) := by
  unfold Lib.itoa
  rw [if_neg (by omega), decDigits_go 20 n.toNat (by omega) (by omega)]
  apply ByteArray.ext
  apply Array.toList_inj.1
  rw [strOfNums_data]
  rfl
theorem itoa_any (n : Int) (h0 : 0 ≤ n) (h1 : n ≤ 2147483647) (w : World) (hP : Pow w) :
    Calls Tryd.prog 68 #[.int .i64 n] w fun e w' => e = .returned (.string (strOfNums (decL n))) ∧ Below w.heap.size w w' := by
  refine (Tryd.strconv_Itoa n (by omega) (by omega) w hP).mono ?_
  rintro e w' ⟨rfl, k, os, rfl⟩
  exact ⟨by rw [itoa_nums h0 h1], Lib.below_grow _ _ (Nat.le_refl _) _ _⟩

set_option maxRecDepth 10000 in
set_option maxHeartbeats 2000000 in
theorem written_any (k n a : Int) (zs : List Int) (hb : ∀ z ∈ zs, 0 ≤ z ∧ z < 256) (hl : zs.length ≤ 1000000) (hm : k = 1 → -1073741824 ≤ n ∧ n ≤ 1073741823) (w : World) (hP : Pow w) :
    Calls Tryd.prog 36 #[.agg #[.int .i64 k, .int .i64 n, .int .i64 a, .string (strOfNums zs)]] w fun e w' => e = .returned (.string (strOfNums (written ⟨k, n, a, zs⟩))) ∧ Below w.heap.size w w' := by
  have HB := hid (thenA (Below.refl _ w) (.cells #[.int .i64 k, .int .i64 n, .int .i64 a, .string (strOfNums zs)] 31))
  have HP := hid (hP.below HB.out)
  have Q := hid (fun W => quoted_any zs hb hl W)
  have HV : Hid (strOfNums (39 :: zs) = (⟨#[39]⟩ : ByteArray) ++ strOfNums zs) := hid (by
    apply ByteArray.ext
    apply Array.toList_inj.1
    rw [ByteArray.data_append, Array.toList_append, strOfNums_data, strOfNums_data]
    rfl)
  have HE : Hid (written ⟨k, n, a, zs⟩ = if k = 1 then decL (if n < 0 then n + 2147483648 else n) else if k = 2 then quoted zs else if k = 5 then 39 :: zs else zs) := rfl
  have hs : (strOfNums zs).size = zs.length := strOfNums_size zs
  generalize written ⟨k, n, a, zs⟩ = r at *
  clear hb hP
  by_cases k2 : k = 2
  · subst k2
    obtain rfl : r = quoted zs := HE.out
    generalize strOfNums (quoted zs) = res at *
    generalize strOfNums zs = s at *
    clear HE HV hm
    go_enter Tryd.func36, Tryd.ntmps36
    go_wp2_with fail
    refine (Q.out _).mono ?_
    rintro e w1 ⟨rfl, hb1⟩
    have HB1 := hid (HB.out.trans (hb1.mono HB.out.size))
    clear hb1
    go_wp2
    go_ret
    exact ⟨rfl, HB1.out⟩
  by_cases k5 : k = 5
  · subst k5
    obtain rfl : r = 39 :: zs := HE.out
    rw [HV.out]
    generalize strOfNums zs = s at *
    clear HE HV hm Q
    go_enter Tryd.func36, Tryd.ntmps36
    go_wp2
    go_ret
    exact ⟨rfl, HB.out⟩
  by_cases k1 : k = 1
  · subst k1
    obtain ⟨m0, m1⟩ := hm rfl
    have HE1 : Hid (r = decL (if n < 0 then n + 2147483648 else n)) := HE.out
    clear HE HV hm Q
    by_cases hn : n < 0
    · obtain rfl : r = decL (n + 2147483648) := by rw [HE1.out, if_pos hn]
      have C := hid (fun W h => itoa_any (n + 2147483648) (by omega) (by omega) W h)
      have e1 : wrap64 (n + 2147483647) = n + 2147483647 := wrap64_small (by omega) (by omega)
      have E2 := hid (show wrap64 (n + 2147483647 + 1) = n + 2147483648 by rw [wrap64_small (by omega) (by omega)]; omega)
      have e3 : n + 2147483647 + 1 = n + 2147483648 := by omega
      generalize strOfNums (decL (n + 2147483648)) = res at *
      generalize strOfNums zs = s at *
      clear HE1
      go_enter Tryd.func36, Tryd.ntmps36
      go_wp2_with fail
      refine (C.out _ HP.out).mono ?_
      rintro e w1 ⟨rfl, hb1⟩
      have HB1 := hid (HB.out.trans (hb1.mono HB.out.size))
      clear hb1
      go_wp2
      go_ret
      exact ⟨rfl, HB1.out⟩
    · obtain rfl : r = decL n := by rw [HE1.out, if_neg hn]
      have C := hid (fun W h => itoa_any n (by omega) (by omega) W h)
      generalize strOfNums (decL n) = res at *
      generalize strOfNums zs = s at *
      clear HE1
      go_enter Tryd.func36, Tryd.ntmps36
      go_wp2_with fail
      refine (C.out _ HP.out).mono ?_
      rintro e w1 ⟨rfl, hb1⟩
      have HB1 := hid (HB.out.trans (hb1.mono HB.out.size))
      clear hb1
      go_wp2
      go_ret
      exact ⟨rfl, HB1.out⟩
  · have hr : r = zs := by rw [HE.out, if_neg k1, if_neg k2, if_neg k5]
    rw [hr]
    clear hr
    generalize strOfNums zs = s at *
    clear HE HV hm Q
    go_enter Tryd.func36, Tryd.ntmps36
    go_wp2
    go_ret
    exact ⟨rfl, HB.out⟩

theorem joined_snoc : ∀ (l : List Wd) (x : Wd), l ≠ [] → joined (l ++ [x]) = joined l ++ 32 :: written x
  | [w], x, _ => rfl
  | w :: v :: t, x, _ => by
    have := joined_snoc (v :: t) x (by simp)
    show written w ++ 32 :: joined ((v :: t) ++ [x]) = (written w ++ 32 :: joined (v :: t)) ++ 32 :: written x
    rw [this]; simp
theorem written_le (x : Wd) (h : x.s.length ≤ 1000000) : (written x).length ≤ 4000010 := by
  unfold written
  split
  · have : ∀ (f n : Nat), (decGo f n).length ≤ f := by
      intro f
      induction f with
      | zero => intro n; simp [decGo]
      | succ f ih =>
        intro n
        unfold decGo
        split
        · simp
        · have := ih (n / 10); simp; omega
    have := this 20 (if x.n < 0 then x.n + 2147483648 else x.n).toNat
    unfold decL
    omega
  · split
    · have := quoted_len x.s; omega
    · split
      · simp; omega
      · omega
theorem joined_le : ∀ (l : List Wd), (∀ x ∈ l, x.s.length ≤ 1000000) → (joined l).length ≤ l.length * 4000011
  | [], _ => by simp [joined]
  | [w], h => by have := written_le w (h w (by simp)); simp [joined]; omega
  | w :: v :: t, h => by
    have h1 := written_le w (h w (by simp))
    have h2 := joined_le (v :: t) fun x hx => h x (List.mem_cons_of_mem _ hx)
    simp only [joined, List.length_append, List.length_cons] at h2 ⊢
    omega
theorem written_bytes (x : Wd) (hb : Bytes8 x.s) (hm : mayB x = true) : Bytes8 (written x) := fun z hz => by
  have := written_low hm hb z hz
  omega
/-- What Write returns. -/
def writeV (l : List Wd) : ByteArray × Int := match writeP l with | some t => (strOfNums t, 0) | none => (⟨#[]⟩, 2)
structure WOk (l : List Wd) : Prop where
  bts : ∀ x ∈ l, Bytes8 x.s
  len : ∀ x ∈ l, x.s.length ≤ 1000000
  few : l.length ≤ 100000
set_option maxRecDepth 10000 in
set_option maxHeartbeats 4000000 in
theorem Write_any (l : List Wd) (a : Option Addr) (n c : Nat) (hn : l.length = n) (hok : WOk l) (w : World) (hw : WordsAt w a l) (hT : Words w) (hP : Pow w) :
    Calls Tryd.prog 16 #[.slice a n c] w fun e w' => e = .returned (.tuple #[.string (writeV l).1, .int .i64 (writeV l).2]) ∧ Below w.heap.size w w' := by
  have HOK := hid hok
  have hnb : n ≤ 100000 := by have := hok.few; omega
  have HW := hid hw
  have HT := hid hT
  have HP := hid hP
  have HN := hid hn
  have C1 := hid (fun k (hk : k < l.length) W h => isWord_any l[k].k l[k].n l[k].at_ l[k].s (hok.bts _ (List.getElem_mem hk)) W h)
  have HV : Hid (writeV l = match writeP l with | some t => (strOfNums t, 0) | none => (⟨#[]⟩, 2)) := rfl
  generalize writeV l = r at *
  clear hok hw hT hP hn
  go_enter Tryd.func16, Tryd.ntmps16
  go_wp2
  go_loopw [11] (fun iv wr => ∃ i : Nat, iv = .int .i64 i ∧ i ≤ n ∧ Below w.heap.size w wr ∧ Hid (∀ j (hj : j < l.length), j < i → mayB l[j] = true)) (fun iv _ => n - (intOf iv).toNat)
  case atStart => exact ⟨0, rfl, Nat.zero_le _, Below.refl _ _, hid fun j _ h => absurd h (Nat.not_lt_zero _)⟩
  case round =>
    obtain ⟨i, rfl, hi, hbw, HA⟩ := hrel
    by_cases hlt : i < n
    · have hkl : i < l.length := by rw [HN.out]; exact hlt
      have C := hid (fun W h => C1.out i hkl W h)
      obtain ⟨b, off, rfl, hbl, hc⟩ := Stk.Rows.get HW.out hkl
      obtain ⟨x, hx⟩ : ∃ x, l[i] = x := ⟨_, rfl⟩
      rw [hx] at hc C
      have HX := hid hx
      have cc : ∀ j, j < 4 → ∀ v, (Wd.row x)[j]? = some v → wr.cell? ⟨b, off + i * 4 + j, none⟩ = some v := fun j hj v hv => (hbw.cell (p := ⟨b, off + i * 4 + j, none⟩) hbl).trans (hc j hj v hv)
      have c0 : wr.cell? ⟨b, off + i * 4, none⟩ = some (.int .i64 x.k) := cc 0 (by omega) _ rfl
      have c1 : wr.cell? ⟨b, off + i * 4 + 1, none⟩ = some (.int .i64 x.n) := cc 1 (by omega) _ rfl
      have c2 : wr.cell? ⟨b, off + i * 4 + 2, none⟩ = some (.int .i64 x.at_) := cc 2 (by omega) _ rfl
      have c3 : wr.cell? ⟨b, off + i * 4 + 3, none⟩ = some (.string (strOfNums x.s)) := cc 3 (by omega) _ rfl
      have hii : (i : Int) < (n : Int) := by omega
      have HM : Hid (mayB x = mayB ⟨x.k, x.n, x.at_, x.s⟩) := rfl
      rw [← HM.out] at C
      have HBA := hid (hbw.alloc hbw.size (.cells #[.int .i64 x.k, .int .i64 x.n, .int .i64 x.at_, .string (strOfNums x.s)] 31))
      clear hx hc cc hbl
      generalize strOfNums x.s = s at *
      generalize x.k = xk at *
      generalize x.n = xn at *
      generalize x.at_ = xa at *
      cases hq : mayB x with
      | false =>
        rw [hq] at C
        have HF : Hid (r = (⟨#[]⟩, 2)) := by
          show _ = _
          have : l.all mayB = false := by
            rw [List.all_eq_false]
            exact ⟨x, HX.out ▸ List.getElem_mem hkl, by simp [hq]⟩
          rw [HV.out]
          unfold writeP
          rw [this]; rfl
        clear HV hq HA HM C1
        go_wp2_with fail
        refine (C.out _ (HT.out.below HBA.out)).mono ?_
        rintro e w1 ⟨rfl, hb1⟩
        have HB1 := hid (HBA.out.trans (hb1.mono HBA.out.size))
        clear hb1 HBA C
        go_wp2
        exact bodyPost_ret (v := .tuple #[.string ⟨#[]⟩, .int .i64 2]) (by simp [results, Tryd.results16, go_sem]) rfl ⟨by rw [HF.out], HB1.out⟩
      | true =>
        rw [hq] at C
        have HF := hid (show ∀ j (hj : j < l.length), j < i + 1 → mayB l[j] = true from fun j hj hji => by
          by_cases e : j = i
          · subst e; rw [HX.out]; exact hq
          · exact HA.out j hj (by omega))
        clear hq HA HM
        go_wp2_with fail
        refine (C.out _ (HT.out.below HBA.out)).mono ?_
        rintro e w1 ⟨rfl, hb1⟩
        have HB1 := hid (HBA.out.trans (hb1.mono HBA.out.size))
        clear hb1 HBA C
        go_wp2
        go_roundw
        case rel => exact ⟨i + 1, by go_num, by omega, HB1.out, HF⟩
        case measure => simp [intOf]; omega
    · obtain rfl : i = n := by omega
      have HALL := hid (show ∀ x ∈ l, mayB x = true from fun x hx => by
        obtain ⟨j, hj, rfl⟩ := List.getElem_of_mem hx
        exact HA.out j hj (by rw [← HN.out]; exact hj))
      have HF : Hid (r = (strOfNums (joined l), 0)) := by
        show _ = _
        have : l.all mayB = true := by
          rw [List.all_eq_true]
          exact HALL.out
        rw [HV.out]
        unfold writeP
        rw [this]; rfl
      have HBW := hid hbw
      clear HV HA C1 hbw
      obtain ⟨W1, hW1⟩ : ∃ W1, W1 = wr := ⟨_, rfl⟩
      subst hW1
      go_wp2
      have hsz0 : w.heap.size ≤ W1.heap.size := HBW.out.size
      go_loopw [21] (fun jv w2 => ∃ j : Nat, jv = .int .i64 j ∧ j ≤ i ∧ Below w.heap.size w w2 ∧ Bld w2 W1.heap.size (joined (l.take j))) (fun jv _ => i - (intOf jv).toNat)
      case atStart => exact ⟨0, rfl, Nat.zero_le _, HBW.out.alloc HBW.out.size _, Bld.made W1⟩
      case round =>
        obtain ⟨j, rfl, hj, hb2, hd2⟩ := hrel
        clear hlt hi
        by_cases hlt : j < i
        · have hkl : j < l.length := by rw [HN.out]; exact hlt
          obtain ⟨b, off, rfl, hbl, hc⟩ := Stk.Rows.get HW.out hkl
          have hmem : l[j] ∈ l := List.getElem_mem hkl
          have CW0 := hid (fun (hm : mayB l[j] = true) W h => written_any l[j].k l[j].n l[j].at_ l[j].s (HOK.out.bts _ hmem) (HOK.out.len _ hmem) (fun hk1 => by
            unfold mayB at hm
            rw [if_pos hk1] at hm
            simp only [Bool.and_eq_true, decide_eq_true_eq] at hm
            exact ⟨hm.1.2, hm.2⟩) W h)
          have CW := hid (CW0.out (HALL.out _ hmem))
          have HTB := hid (written_bytes l[j] (HOK.out.bts _ hmem) (HALL.out _ hmem))
          have hwl := written_le l[j] (HOK.out.len _ hmem)
          have hjl := joined_le (l.take j) (fun x hx => HOK.out.len x (List.mem_of_mem_take hx))
          have htl : (l.take j).length = j := by rw [List.length_take]; omega
          rw [htl] at hjl
          have HLEN : Hid ((joined (l.take j)).length + 1 + (written l[j]).length ≤ 140737488351232) := by show _ ≤ _; omega
          have HJ0 : Hid (j = 0 → joined (l.take (j + 1)) = joined (l.take j) ++ written l[j]) := hid fun h0 => by
            subst h0
            rw [List.take_succ_eq_append_getElem hkl]; rfl
          have HJ1 : Hid (j ≠ 0 → joined (l.take (j + 1)) = joined (l.take j) ++ [32] ++ written l[j]) := hid fun h0 => by
            rw [List.take_succ_eq_append_getElem hkl, joined_snoc _ _ (by intro h; rw [h] at htl; simp at htl; omega)]; simp
          have HWR : Hid (written ⟨l[j].k, l[j].n, l[j].at_, l[j].s⟩ = written l[j]) := rfl
          rw [HWR.out] at CW
          obtain ⟨x, hx⟩ : ∃ x, l[j] = x := ⟨_, rfl⟩
          rw [hx] at hc CW HTB HLEN HJ0 HJ1
          have cc : ∀ q, q < 4 → ∀ v, (Wd.row x)[q]? = some v → wr.cell? ⟨b, off + j * 4 + q, none⟩ = some v := fun q hq v hv => (hb2.cell (p := ⟨b, off + j * 4 + q, none⟩) hbl).trans (hc q hq v hv)
          have c0 : wr.cell? ⟨b, off + j * 4, none⟩ = some (.int .i64 x.k) := cc 0 (by omega) _ rfl
          have c1 : wr.cell? ⟨b, off + j * 4 + 1, none⟩ = some (.int .i64 x.n) := cc 1 (by omega) _ rfl
          have c2 : wr.cell? ⟨b, off + j * 4 + 2, none⟩ = some (.int .i64 x.at_) := cc 2 (by omega) _ rfl
          have c3 : wr.cell? ⟨b, off + j * 4 + 3, none⟩ = some (.string (strOfNums x.s)) := cc 3 (by omega) _ rfl
          have hji : (j : Int) < (i : Int) := by omega
          have hal : Below wr.heap.size wr (wr.alloc (.cells #[.int .i64 x.k, .int .i64 x.n, .int .i64 x.at_, .string (strOfNums x.s)] 31)) := (Below.refl _ _).alloc (Nat.le_refl _) _
          have HBX := hid (hb2.trans (hal.mono hb2.size))
          have HD3 := hid (hd2.below hal)
          have HBXR := hid (heap_alloc_new wr (.cells #[.int .i64 x.k, .int .i64 x.n, .int .i64 x.at_, .string (strOfNums x.s)] 31))
          have HGLT : Hid (W1.heap.size < wr.heap.size) := hid (by rcases hd2 with ⟨v, h1, _⟩ | ⟨v, h1, _⟩ <;> exact (Array.getElem?_eq_some_iff.1 h1).1)
          clear hx hc cc hbl hmem CW0 hwl hjl htl HWR hb2 hd2 hal
          generalize joined (l.take j) = acc at *
          generalize written x = tx at *
          generalize strOfNums x.s = s at *
          generalize x.k = xk at *
          generalize x.n = xn at *
          generalize x.at_ = xa at *
          by_cases h0 : j = 0
          · have HJ := hid (HJ0.out h0)
            have h0i : ¬ (j : Int) > 0 := by omega
            have HD4 := HD3
            clear HJ0 HJ1 h0
            go_wp2_with fail
            refine (CW.out _ (HP.out.below HBX.out)).mono ?_
            rintro e w5 ⟨rfl, hb5⟩
            have HB5 := hid (HBX.out.trans (hb5.mono HBX.out.size))
            have HD5 := hid (HD4.out.below hb5)
            clear hb5 HD4 CW
            go_wp2_with fail
            refine (writeStr_any _ _ _ _ HD5.out HTB.out (by have := HLEN.out; omega)).mono ?_
            rintro e w6 ⟨⟨v6, rfl⟩, hd6, hb6, _⟩
            have HB6 := hid (HB5.out.trans (hb6.mono HBW.out.size))
            have HD6 := hid hd6
            clear hd6 hb6 HD5 HB5 HBX
            go_wp2
            go_roundw
            case rel => exact ⟨j + 1, by go_num, by omega, HB6.out, by rw [HJ.out]; exact HD6.out⟩
            case measure => simp [intOf]; omega
          · have HJ := hid (HJ1.out h0)
            have h0i : (j : Int) > 0 := by omega
            clear HJ0 HJ1 h0
            go_wp2_with fail
            refine (writeByte_any _ _ 32 _ HD3.out (by have := HLEN.out; omega)).mono ?_
            rintro e w4 ⟨rfl, hd4, hb4, hk4⟩
            have HD4 := hid hd4
            have HBX' := hid (HBX.out.trans (hb4.mono hsz0))
            have hr4 := hk4 _ _ HBXR.out (by intro e; simp only [Option.some.injEq] at e; have := HGLT.out; omega) (fun c fz e => by simp at e)
            obtain ⟨⟨k0, k1, k2, k3⟩, _, _⟩ := row4 hr4
            clear hd4 hb4 hk4 HD3 HBX hr4 HBXR
            have HBX := HBX'
            clear HBX'
            go_wp2_with fail
            refine (CW.out _ (HP.out.below HBX.out)).mono ?_
            rintro e w5 ⟨rfl, hb5⟩
            have HB5 := hid (HBX.out.trans (hb5.mono HBX.out.size))
            have HD5 := hid (HD4.out.below hb5)
            clear hb5 HD4 CW
            go_wp2_with fail
            refine (writeStr_any _ _ _ _ HD5.out HTB.out (by have := HLEN.out; rw [List.length_append]; simp only [List.length_cons, List.length_nil]; omega)).mono ?_
            rintro e w6 ⟨⟨v6, rfl⟩, hd6, hb6, _⟩
            have HB6 := hid (HB5.out.trans (hb6.mono HBW.out.size))
            have HD6 := hid hd6
            clear hd6 hb6 HD5 HB5 HBX
            go_wp2
            go_roundw
            case rel => exact ⟨j + 1, by go_num, by omega, HB6.out, by rw [HJ.out]; exact HD6.out⟩
            case measure => simp [intOf]; omega
        · obtain rfl : j = i := by omega
          have HD := hid hd2
          have HB2 := hid hb2
          have htk : l.take j = l := List.take_of_length_le (by rw [HN.out]; exact Nat.le_refl _)
          have HJB : Hid (∀ z ∈ joined l, 0 ≤ z ∧ z < 256) := hid fun z hz => by
            have := joined_low l (fun x hx => ⟨HALL.out x hx, HOK.out.bts x hx⟩) z hz
            omega
          rw [htk] at HD
          clear htk hd2 hb2
          go_wp2_with fail
          refine (bldString_any _ _ _ HD.out HJB.out).mono ?_
          rintro e w7 ⟨rfl, hb7⟩
          have HB7 := hid (HB2.out.trans (hb7.mono hsz0))
          clear hb7
          generalize strOfNums (joined l) = res at *
          go_wp2
          exact bodyPost_ret (v := .tuple #[.string res, .int .i64 0]) (by simp [results, Tryd.results16, go_sem]) rfl ⟨by rw [HF.out], HB7.out⟩
end Go.Proofs.YtllodmoookcimaaDoor.Lex
