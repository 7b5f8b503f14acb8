/-
  NAME: Of by contract: the text of runes, or just the error.
-/
import Derived.Test.YtgmcknblfgealaaDoorNameRunesOf
import Derived.Test.YtgmcknblfgealaaDoorConv
import Derived.Laws.Cover4
namespace Go.Proofs.YtgmcknblfgealaaDoor.Utf
open Go.RowKit

theorem infoRune : (Tryd.prog.info? 21).map (fun i => (i.zero, i.size, i.bytes)) = some (some (.int .i32 0), 1, 4) := by kernel_rfl

/-- A slice that reads as these bytes, in whatever memory. -/
def Hands (w : World) (zs : List Int) (v : Value) (w' : World) : Prop := ∃ a c, v = .slice a zs.length c ∧ Bytes w' a zs ∧ (a = none → c = 0) ∧ Below w.heap.size w w'

theorem wrap32_rune {n : Int} (h : Rune n) : wrap32 n = n := by obtain ⟨h0, h1, _⟩ := h; unfold wrap32; omega
theorem wrap64_small {n : Int} (h0 : -9223372036854775808 ≤ n) (h1 : n ≤ 9223372036854775807) : wrap64 n = n := by unfold wrap64; omega
theorem wrap64_rune {n : Int} (h : Rune n) : wrap64 n = n := wrap64_small (by have := h.1; omega) (by have := h.2.1; omega)
theorem wrap64_wrap32 (n : Int) : wrap64 (wrap32 n) = wrap32 n := wrap64_small (by unfold wrap32; omega) (by unfold wrap32; omega)
theorem valid_rune {n : Int} (h : Rune n) : Lib.validRune n = true := by
  obtain ⟨h0, h1, h2⟩ := h
  unfold Lib.validRune
  simp; omega
theorem valid_rune_not {n : Int} (h : ¬ Rune n) : Lib.validRune n = false := by
  unfold Rune at h
  unfold Lib.validRune
  simp; omega

set_option maxHeartbeats 3200000 in
theorem Of_bad (a : Option Addr) (len cap : Nat) (ns : List Int) (w : World) (hlen : ns.length = len) (hz : Nums .i64 w a ns) (hi : ∀ n ∈ ns, -9223372036854775808 ≤ n ∧ n ≤ 9223372036854775807) (hbig : len ≤ 1073741824)
    (hbad : ¬ ∀ n ∈ ns, Rune n) :
    Calls Tryd.prog 17 #[.slice a len cap] w fun e w' => e = .returned (.tuple #[.slice none 0 0, .int .i64 5]) ∧ Below w.heap.size w w' := by
  obtain ⟨w1, hmk, hown, hb1, hs1⟩ := make_none infoRune Tryd.underlying48 w len (by omega) (by omega)
  have HL := hid hlen
  have HB := hid hbad
  have HI := hid hi
  clear hlen hbad hi
  go_enter Tryd.func17, Tryd.ntmps17
  go_wp2
  go_loopw [4, 13] (fun v si wr => ∃ i : Nat, si = .int .i64 i ∧ OwnK 21 .i32 w.heap.size wr v (ns.take i) ∧ Below w.heap.size w wr ∧ w.heap.size ≤ wr.heap.size ∧ i ≤ len ∧ ∀ n ∈ ns.take i, Rune n)
    (fun _ si _ => len - (intOf si).toNat)
  case atStart => exact ⟨0, rfl, hown, hb1, hs1, Nat.zero_le _, by simp⟩
  case round =>
    obtain ⟨i, rfl, hown, hbw, hsw, hil, hr⟩ := hrel
    have HR := hid hr
    clear hr
    by_cases hlt : i < len
    · have hil' : i < ns.length := by have := HL.out; omega
      obtain ⟨b, off, rfl, hcell⟩ := (hz.below hbw).at (by omega)
      have hc := hcell i hil'
      obtain ⟨n0, n1⟩ := HI.out _ (List.getElem_mem hil')
      rw [← getD_lt hil'] at n0 n1
      have HT := hid (show ns.take (i + 1) = ns.take i ++ [ns.getD i 0] by rw [getD_lt hil', List.take_succ_eq_append_getElem hil'])
      generalize ns.getD i 0 = n at *
      clear hcell
      by_cases hn : Rune n
      · have hw : wrap32 n = n := wrap32_rune hn
        have hw' : wrap64 n = n := wrap64_rune hn
        have hv : Lib.validRune n = true := valid_rune hn
        have HF : Hid (∀ m ∈ ns.take (i + 1), Rune m) := by
          rw [HT.out]
          exact hid fun m hm => by
            rcases List.mem_append.1 hm with hm | hm
            · exact HR.out m hm
            · rw [List.mem_singleton] at hm; rw [hm]; exact hn
        have hle : (ns.take i).length = i := by rw [List.length_take]; omega
        obtain ⟨av, cv, rfl⟩ := hown.sliceN hle
        clear hn n0 n1 hz hil'
        go_wp2_with (first | (go_at_call 28; refine (Tryd.utf8_ValidRune _ _).mono ?_; rintro e w' ⟨rfl, rfl⟩) | (at_builtin; refine append_num infoRune Tryd.underlying48 rfl (.tmp 28) (.tmp 30) rfl n rfl hown hbw hsw rfl (by omega) (by omega) ?_; intro v' w5 hown5 hb5 hs5 _))
        go_roundw
        case rel => exact ⟨i + 1, by go_num, by rw [HT.out]; exact hown5, hb5, hs5, by omega, HF.out⟩
        case measure => simp [intOf]; omega
      · by_cases hw : wrap32 n = n
        · have hw' : wrap64 n = n := wrap64_small n0 n1
          have hv : Lib.validRune n = false := valid_rune_not hn
          clear hn n0 n1 hz hil'
          go_wp2_with (first | (go_at_call 28; refine (Tryd.utf8_ValidRune _ _).mono ?_; rintro e w' ⟨rfl, rfl⟩))
          exact bodyPost_ret (v := .tuple #[.slice none 0 0, .int .i64 5]) (by simp [results, Tryd.results17, go_sem]) rfl ⟨rfl, hbw⟩
        · have hw' : wrap64 (wrap32 n) = wrap32 n := wrap64_wrap32 n
          clear hn n0 n1 hz hil'
          go_wp2_with (first | (go_at_call 28; refine (Tryd.utf8_ValidRune _ _).mono ?_; rintro e w' ⟨rfl, rfl⟩))
          exact bodyPost_ret (v := .tuple #[.slice none 0 0, .int .i64 5]) (by simp [results, Tryd.results17, go_sem]) rfl ⟨rfl, hbw⟩
    · exfalso
      have : ns.take i = ns := List.take_of_length_le (by have := HL.out; omega)
      have h := HR.out
      rw [this] at h
      exact HB.out h

theorem encode_one {n : Int} (h : Rune n) : Utf8.encode n = strOfNums (oneL n) := by
  have hv : Utf8.valid n = true := by
    obtain ⟨h0, h1, h2⟩ := h
    unfold Utf8.valid
    simp; omega
  obtain ⟨h0, h1, h2⟩ := h
  obtain ⟨m, rfl⟩ := Int.eq_ofNat_of_zero_le h0
  unfold Utf8.encode
  rw [if_pos hv]
  simp only [Int.toNat_natCast]
  unfold oneL
  by_cases a : m < 128
  · rw [if_pos a, if_pos (by omega)]; rfl
  by_cases b : m < 2048
  · rw [if_neg a, if_pos b, if_neg (by omega), if_pos (by omega)]; rfl
  by_cases d : m < 65536
  · rw [if_neg a, if_neg b, if_pos d, if_neg (by omega), if_neg (by omega), if_pos (by omega)]; rfl
  · rw [if_neg a, if_neg b, if_neg d, if_neg (by omega), if_neg (by omega), if_neg (by omega)]; rfl
theorem str_append (xs ys : List Int) : strOfNums xs ++ strOfNums ys = strOfNums (xs ++ ys) := by
  apply ByteArray.ext
  apply Array.toList_inj.1
  rw [ByteArray.data_append, Array.toList_append, strOfNums_data, strOfNums_data, strOfNums_data, List.map_append]
theorem runesBytes_go : ∀ (ns xs : List Int), (∀ n ∈ ns, Rune n) → ns.foldl (fun r n => r ++ Utf8.encode n) (strOfNums xs) = strOfNums (xs ++ textL ns)
  | [], xs, _ => by simp [textL]
  | n :: t, xs, h => by
    rw [List.foldl_cons, encode_one (h n (by simp)), str_append, runesBytes_go t _ fun m hm => h m (by simp [hm])]
    simp [textL]
theorem runesBytes_text {ns : List Int} (h : ∀ n ∈ ns, Rune n) : runesBytes ns = strOfNums (textL ns) := by
  have := runesBytes_go ns [] h
  rw [List.nil_append] at this
  exact this

/-- Runes made into a string. -/
theorem runes_str {w : World} {a : Option Addr} {ns : List Int} (hz : Nums .i32 w a ns) (hr : ∀ n ∈ ns, Rune n) (len cap : Nat) (hlen : ns.length = len) :
    (convert 48 9 (.slice a len cap)).run Tryd.prog w = .ok (.string (strOfNums (textL ns))) w := by
  rw [run_convert_runes_string w 48 9 21 a len cap Tryd.underlying48 Tryd.underlying21 Tryd.underlying9, ← runesBytes_text hr]
  rcases hz.at_ with h | ⟨b, off, rfl, hc⟩
  · subst h
    subst hlen
    cases a <;> simp [Conv.runesToString, loadCells]
    all_goals rfl
  · refine run_runesToString w _ len cap ns ?_
    have := run_loadCells_list (P := Tryd.prog) w ⟨b, off, none⟩ (ns.map (Value.int .i32)) (fun j v hj => by
      have hjl : j < ns.length := by
        rcases Nat.lt_or_ge j ns.length with h | h
        · exact h
        · simp [List.getElem?_eq_none (show (ns.map (Value.int .i32)).length ≤ j by simpa using h)] at hj
      have hplain : (⟨b, off, none⟩ : Addr).add j = ⟨b, off + j, none⟩ := by unfold Addr.add; split <;> simp_all
      rw [hplain, hc j hjl]
      simp [List.getElem?_eq_getElem hjl] at hj
      subst hj
      simp [List.getD, List.getElem?_eq_getElem hjl])
    simpa [hlen] using this

set_option maxHeartbeats 3200000 in
theorem Of_good (a : Option Addr) (len cap : Nat) (ns : List Int) (w : World) (hlen : ns.length = len) (hz : Nums .i64 w a ns) (hbig : len ≤ 1073741824) (hgood : ∀ n ∈ ns, Rune n) :
    Calls Tryd.prog 17 #[.slice a len cap] w fun e w' => ∃ v, e = .returned (.tuple #[v, .int .i64 0]) ∧ Hands w (textL ns) v w' := by
  obtain ⟨w1, hmk, hown1, hb1, hs1⟩ := make_none infoRune Tryd.underlying48 w len (by omega) (by omega)
  have HL := hid hlen
  have HG := hid hgood
  clear hlen hgood
  go_enter Tryd.func17, Tryd.ntmps17
  go_wp2
  go_loopw [4, 13] (fun v si wr => ∃ i : Nat, si = .int .i64 i ∧ OwnK 21 .i32 w.heap.size wr v (ns.take i) ∧ Below w.heap.size w wr ∧ w.heap.size ≤ wr.heap.size ∧ i ≤ len)
    (fun _ si _ => len - (intOf si).toNat)
  case atStart => exact ⟨0, rfl, hown1, hb1, hs1, Nat.zero_le _⟩
  case round =>
    obtain ⟨i, rfl, hown, hbw, hsw, hil⟩ := hrel
    by_cases hlt : i < len
    · have hil' : i < ns.length := by have := HL.out; omega
      obtain ⟨b, off, rfl, hcell⟩ := (hz.below hbw).at (by omega)
      have hc := hcell i hil'
      have hn := HG.out _ (List.getElem_mem hil')
      rw [← getD_lt hil'] at hn
      have HT := hid (show ns.take (i + 1) = ns.take i ++ [ns.getD i 0] by rw [getD_lt hil', List.take_succ_eq_append_getElem hil'])
      generalize ns.getD i 0 = n at *
      have hw : wrap32 n = n := wrap32_rune hn
      have hw' : wrap64 n = n := wrap64_rune hn
      have hv : Lib.validRune n = true := valid_rune hn
      have hle : (ns.take i).length = i := by rw [List.length_take]; omega
      obtain ⟨av, cv, rfl⟩ := hown.sliceN hle
      clear hcell hn hz hil'
      go_wp2_with (first | (go_at_call 28; refine (Tryd.utf8_ValidRune _ _).mono ?_; rintro e w' ⟨rfl, rfl⟩) | (at_builtin; refine append_num infoRune Tryd.underlying48 rfl (.tmp 28) (.tmp 30) rfl n rfl hown hbw hsw rfl (by omega) (by omega) ?_; intro v' w5 hown5 hb5 hs5 _))
      go_roundw
      case rel => exact ⟨i + 1, by go_num, by rw [HT.out]; exact hown5, hb5, hs5, by omega⟩
      case measure => simp [intOf]; omega
    · obtain rfl : i = len := by omega
      have ht : ns.take i = ns := List.take_of_length_le (by have := HL.out; omega)
      rw [ht] at hown
      obtain ⟨av, cv, rfl⟩ := hown.sliceN HL.out
      have hc1 := runes_str hown.nums HG.out i cv HL.out
      have hll : (textL ns).length ≤ 140737488351232 := by have := textL_length ns; have := HL.out; omega
      obtain ⟨b, c, w2, hc2, hB, hb2⟩ := bytes_of (textL ns) (textL_bytes ns HG.out) hll wr
      have hb := thenB hbw hb2
      have HB := hid hB
      clear hown hb2 hbw hB ht hll
      go_wp2
      exact bodyPost_ret (v := .tuple #[.slice (some ⟨b, 0, none⟩) (textL ns).length c, .int .i64 0]) (by simp [results, Tryd.results17, go_sem]) rfl ⟨_, rfl, _, _, rfl, HB.out, fun h => by (cases h), hb⟩
end Go.Proofs.YtgmcknblfgealaaDoor.Utf
