/-
  NAME: the document's own answers, by contracts: Bad, Of, Put.
-/
import Derived.Test.YtgmcknblfgealaaDoorNameRefRunes
import Derived.Test.YtgmcknblfgealaaDoorNameOf
import Derived.Test.YtgmcknblfgealaaDoorNamePut
import Derived.Test.YtgmcknblfgealaaDoorLebRef
import Derived.Test.YtgmcknblfgealaaDoorAppend
namespace Go.Proofs.YtgmcknblfgealaaDoor.Utf
open Go.RowKit Leb

theorem badL_fault (zs : List Int) : badL zs = if (faultL zs).1 ≠ 0 then (faultL zs).2 else -1 := by
  unfold badL faultL
  by_cases h : (scan zs).2 = zs.length
  · simp [h]
  · simp [h]

set_option maxHeartbeats 800000 in
theorem refBad_any (a : Option Addr) (len cap : Nat) (zs : List Int) (w : World) (hlen : zs.length = len) (hz : Bytes w a zs) (hbig : zs.length ≤ 8796093022208) :
    Calls Tryd.prog 14 #[.slice a len cap] w fun e w' => e = .returned (.int .i64 (badL zs)) ∧ Below w.heap.size w w' := by
  have HB := hid (badL_fault zs)
  have HL := hid hlen
  clear hlen
  go_enter Tryd.func14, Tryd.ntmps14
  go_wp2_with fail
  refine (refRunes_any a len cap zs _ HL.out hz hbig).mono ?_
  rintro e w1 ⟨v, rfl, _, hb⟩
  generalize faultL zs = r at *
  obtain ⟨r1, r2⟩ := r
  clear hz hbig
  by_cases h : r1 = 0
  · subst h
    go_wp2
    go_ret
    exact ⟨ret_int (by rw [HB.out]; simp), thenA hb _⟩
  · go_wp2
    go_ret
    exact ⟨ret_int (by rw [HB.out]; simp [h]), thenA hb _⟩

set_option maxHeartbeats 1600000 in
theorem refOf_bad (a : Option Addr) (len cap : Nat) (ns : List Int) (w : World) (hlen : ns.length = len) (hz : Nums .i64 w a ns) (hbig : len ≤ 1073741824) (hbad : ¬ ∀ n ∈ ns, Rune n) :
    Calls Tryd.prog 19 #[.slice a len cap] w fun e w' => e = .returned (.tuple #[.slice none 0 0, .int .i64 5]) ∧ Below w.heap.size w w' := by
  have HL := hid hlen
  have HB := hid hbad
  clear hlen hbad
  go_enter Tryd.func19, Tryd.ntmps19
  go_wp2
  go_loopw [4, 5] (fun v si wr => ∃ i : Nat, si = .int .i64 i ∧ Own w.heap.size wr v (textL (ns.take i)) ∧ Below w.heap.size w wr ∧ w.heap.size ≤ wr.heap.size ∧ i ≤ len ∧ ∀ n ∈ ns.take i, Rune n)
    (fun _ si _ => len - (intOf si).toNat)
  case atStart => exact ⟨0, rfl, World.ownsRow_nil _ _ _ _, Below.refl _ _, Nat.le_refl _, Nat.zero_le _, by simp⟩
  case round =>
    obtain ⟨i, rfl, hown, hbw, hsw, hil, hr⟩ := hrel
    have HR := hid hr
    clear hr
    by_cases hlt : i < len
    · have hil' : i < ns.length := by have := HL.out; omega
      obtain ⟨b, off, rfl, hcell⟩ := (hz.below hbw).at (by omega)
      have hc := hcell i hil'
      have HT := hid (show ns.take (i + 1) = ns.take i ++ [ns.getD i 0] by rw [getD_lt hil', List.take_succ_eq_append_getElem hil'])
      generalize ns.getD i 0 = n at *
      obtain ⟨av, cv, rfl⟩ := hown.slice
      clear hcell
      by_cases hn : Rune n
      · have HF : Hid (∀ m ∈ ns.take (i + 1), Rune m) := by
          rw [HT.out]
          exact hid fun m hm => by
            rcases List.mem_append.1 hm with hm | hm
            · exact HR.out m hm
            · rw [List.mem_singleton] at hm; rw [hm]; exact hn
        have HX : Hid (textL (ns.take i) ++ oneL n = textL (ns.take (i + 1))) := by
          show _ = _
          rw [HT.out, textL_append]; simp [textL]
        have HN := hid hn
        have hole := oneL_length n
        have htl := textL_length (ns.take i)
        have hle : (ns.take i).length ≤ i := by rw [List.length_take]; omega
        clear hn
        go_wp2_with fail
        refine (Rune_any n _).mono ?_
        rw [decide_eq_true HN.out]
        rintro e w2 ⟨rfl, rfl⟩
        go_wp2_with fail
        refine (one_any n _ HN.out).mono ?_
        rintro e w3 ⟨v3, rfl, ho3, hb3⟩
        obtain ⟨a3, c3, rfl⟩ := ho3.slice
        have hn3 := ho3.nil
        have hB3 := ho3.bytes (oneL_bytes HN.out) (by omega)
        have hown3 := hown.below hb3
        have hbw3 := hbw.trans (hb3.mono hsw)
        have hsw3 : w.heap.size ≤ w3.heap.size := by have := hb3.size; omega
        clear hown hbw hb3 ho3 hc
        have hlen3 : (oneL n).length = (oneL n).length := rfl
        go_wp2_with (first | (at_builtin; refine append_bytes rfl (.tmp 18) (.tmp 23) rfl rfl hown3 hbw3 hsw3 _ _ _ rfl hn3.out rfl hB3 (by omega) ?_; intro v' w5 hown5 hb5 hs5))
        go_roundw
        case rel => exact ⟨i + 1, by go_num, by rw [← HX.out]; exact hown5, hb5, hs5, by omega, HF.out⟩
        case measure => simp [intOf]; omega
      · have HN := hid hn
        clear hn
        go_wp2_with fail
        refine (Rune_any n _).mono ?_
        rw [decide_eq_false HN.out]
        rintro e w2 ⟨rfl, rfl⟩
        go_wp2
        exact bodyPost_ret (v := .tuple #[.slice none 0 0, .int .i64 5]) (by simp [results, Tryd.results19, go_sem]) rfl ⟨rfl, hbw⟩
    · exfalso
      have : ns.take i = ns := List.take_of_length_le (by have := HL.out; omega)
      have h := HR.out
      rw [this] at h
      exact HB.out h
set_option maxHeartbeats 1600000 in
theorem refOf_good (a : Option Addr) (len cap : Nat) (ns : List Int) (w : World) (hlen : ns.length = len) (hz : Nums .i64 w a ns) (hbig : len ≤ 1073741824) (hgood : ∀ n ∈ ns, Rune n) :
    Calls Tryd.prog 19 #[.slice a len cap] w fun e w' => ∃ v, e = .returned (.tuple #[v, .int .i64 0]) ∧ Own w.heap.size w' v (textL ns) ∧ Below w.heap.size w w' := by
  have HL := hid hlen
  have HB := hid hgood
  clear hlen hgood
  go_enter Tryd.func19, Tryd.ntmps19
  go_wp2
  go_loopw [4, 5] (fun v si wr => ∃ i : Nat, si = .int .i64 i ∧ Own w.heap.size wr v (textL (ns.take i)) ∧ Below w.heap.size w wr ∧ w.heap.size ≤ wr.heap.size ∧ i ≤ len ∧ ∀ n ∈ ns.take i, Rune n)
    (fun _ si _ => len - (intOf si).toNat)
  case atStart => exact ⟨0, rfl, World.ownsRow_nil _ _ _ _, Below.refl _ _, Nat.le_refl _, Nat.zero_le _, by simp⟩
  case round =>
    obtain ⟨i, rfl, hown, hbw, hsw, hil, hr⟩ := hrel
    have HR := hid hr
    clear hr
    by_cases hlt : i < len
    · have hil' : i < ns.length := by have := HL.out; omega
      obtain ⟨b, off, rfl, hcell⟩ := (hz.below hbw).at (by omega)
      have hc := hcell i hil'
      have HT := hid (show ns.take (i + 1) = ns.take i ++ [ns.getD i 0] by rw [getD_lt hil', List.take_succ_eq_append_getElem hil'])
      generalize hnd : ns.getD i 0 = n at *
      obtain ⟨av, cv, rfl⟩ := hown.slice
      clear hcell
      have hn : Rune n := by
        have := HB.out _ (List.getElem_mem hil')
        rw [← getD_lt hil', hnd] at this; exact this
      · have HF : Hid (∀ m ∈ ns.take (i + 1), Rune m) := by
          rw [HT.out]
          exact hid fun m hm => by
            rcases List.mem_append.1 hm with hm | hm
            · exact HR.out m hm
            · rw [List.mem_singleton] at hm; rw [hm]; exact hn
        have HX : Hid (textL (ns.take i) ++ oneL n = textL (ns.take (i + 1))) := by
          show _ = _
          rw [HT.out, textL_append]; simp [textL]
        have HN := hid hn
        have hole := oneL_length n
        have htl := textL_length (ns.take i)
        have hle : (ns.take i).length ≤ i := by rw [List.length_take]; omega
        clear hn
        go_wp2_with fail
        refine (Rune_any n _).mono ?_
        rw [decide_eq_true HN.out]
        rintro e w2 ⟨rfl, rfl⟩
        go_wp2_with fail
        refine (one_any n _ HN.out).mono ?_
        rintro e w3 ⟨v3, rfl, ho3, hb3⟩
        obtain ⟨a3, c3, rfl⟩ := ho3.slice
        have hn3 := ho3.nil
        have hB3 := ho3.bytes (oneL_bytes HN.out) (by omega)
        have hown3 := hown.below hb3
        have hbw3 := hbw.trans (hb3.mono hsw)
        have hsw3 : w.heap.size ≤ w3.heap.size := by have := hb3.size; omega
        clear hown hbw hb3 ho3 hc
        have hlen3 : (oneL n).length = (oneL n).length := rfl
        go_wp2_with (first | (at_builtin; refine append_bytes rfl (.tmp 18) (.tmp 23) rfl rfl hown3 hbw3 hsw3 _ _ _ rfl hn3.out rfl hB3 (by omega) ?_; intro v' w5 hown5 hb5 hs5))
        go_roundw
        case rel => exact ⟨i + 1, by go_num, by rw [← HX.out]; exact hown5, hb5, hs5, by omega, HF.out⟩
        case measure => simp [intOf]; omega
    · obtain rfl : i = len := by omega
      have ht : ns.take i = ns := List.take_of_length_le (by have := HL.out; omega)
      rw [ht] at hown
      obtain ⟨av, cv, rfl⟩ := hown.slice
      clear ht
      go_wp2
      exact bodyPost_ret (v := .tuple #[.slice av (textL ns).length cv, .int .i64 0]) (by simp [results, Tryd.results19, go_sem]) rfl ⟨_, rfl, hown, hbw⟩

/-- The text of runes, or just the error. -/
def ofL (ns : List Int) : List Int × Int := if ∀ n ∈ ns, Rune n then (textL ns, 0) else ([], 5)
/-- The bytes of a name, or just the error. -/
def putN (zs : List Int) : List Int × Int := if 1048576 < zs.length then ([], 3) else if (scan zs).2 ≠ zs.length then ([], 4) else (encU zs.length ++ zs, 0)
/-- Bytes and an error, handed back. -/
def GotBytes (w : World) (r : List Int × Int) (e : Ending) (w' : World) : Prop := ∃ v, e = .returned (.tuple #[v, .int .i64 r.2]) ∧ Hands w r.1 v w'
theorem hands_nothing {w w' : World} (hb : Below w.heap.size w w') : Hands w [] (.slice none 0 0) w' := ⟨none, 0, rfl, ⟨by simp, by simp, .inl rfl⟩, fun _ => rfl, hb⟩
theorem hands_own {w w' : World} {v : Value} {zs : List Int} (ho : Own w.heap.size w' v zs) (hz : ∀ z ∈ zs, 0 ≤ z ∧ z < 256) (hl : zs.length ≤ 140737488351232) (hb : Below w.heap.size w w') : Hands w zs v w' := by
  obtain ⟨a, c, rfl⟩ := ho.slice
  exact ⟨a, c, rfl, ho.bytes hz hl, ho.nil.out, hb⟩

theorem Of_any (a : Option Addr) (len cap : Nat) (ns : List Int) (w : World) (hlen : ns.length = len) (hz : Nums .i64 w a ns) (hi : ∀ n ∈ ns, -9223372036854775808 ≤ n ∧ n ≤ 9223372036854775807) (hbig : len ≤ 1073741824) :
    Calls Tryd.prog 17 #[.slice a len cap] w (GotBytes w (ofL ns)) := by
  unfold ofL
  by_cases h : ∀ n ∈ ns, Rune n
  · rw [if_pos h]
    exact (Of_good a len cap ns w hlen hz hbig h).mono fun _ _ h => h
  · rw [if_neg h]
    refine (Of_bad a len cap ns w hlen hz hi hbig h).mono ?_
    rintro e w' ⟨rfl, hb⟩
    exact ⟨_, rfl, hands_nothing hb⟩
theorem refOf_any (a : Option Addr) (len cap : Nat) (ns : List Int) (w : World) (hlen : ns.length = len) (hz : Nums .i64 w a ns) (hbig : len ≤ 1073741824) :
    Calls Tryd.prog 19 #[.slice a len cap] w (GotBytes w (ofL ns)) := by
  unfold ofL
  by_cases h : ∀ n ∈ ns, Rune n
  · rw [if_pos h]
    refine (refOf_good a len cap ns w hlen hz hbig h).mono ?_
    rintro e w' ⟨v, rfl, ho, hb⟩
    exact ⟨v, rfl, hands_own ho (textL_bytes ns h) (by have := textL_length ns; simp only; omega) hb⟩
  · rw [if_neg h]
    refine (refOf_bad a len cap ns w hlen hz hbig h).mono ?_
    rintro e w' ⟨rfl, hb⟩
    exact ⟨_, rfl, hands_nothing hb⟩

set_option maxHeartbeats 800000 in
theorem refPut_long (zs : List Int) (w : World) (hlong : 1048576 < zs.length) :
    Calls Tryd.prog 21 #[.string (strOfNums zs)] w fun e w' => e = .returned (.tuple #[.slice none 0 0, .int .i64 3]) ∧ Below w.heap.size w w' := by
  have hs : (strOfNums zs).size = zs.length := strOfNums_size zs
  generalize strOfNums zs = s at *
  go_enter Tryd.func21, Tryd.ntmps21
  go_wp2
  exact bodyPost_ret (v := .tuple #[.slice none 0 0, .int .i64 3]) (by simp [results, Tryd.results21, go_sem]) rfl ⟨rfl, Below.refl _ _⟩

set_option maxHeartbeats 800000 in
theorem refPut_bad (zs : List Int) (hz : ∀ z ∈ zs, 0 ≤ z ∧ z < 256) (w : World) (hlong : zs.length ≤ 1048576) (hbad : (scan zs).2 ≠ zs.length) :
    Calls Tryd.prog 21 #[.string (strOfNums zs)] w fun e w' => e = .returned (.tuple #[.slice none 0 0, .int .i64 4]) ∧ Below w.heap.size w w' := by
  have hs : (strOfNums zs).size = zs.length := strOfNums_size zs
  obtain ⟨b, c, w1, hcv, hB, hb1⟩ := bytes_of zs hz (by omega) w
  have HL := hid (badL_some hbad)
  generalize strOfNums zs = s at *
  clear hz hbad
  go_enter Tryd.func21, Tryd.ntmps21
  go_wp2_with fail
  refine (refBad_any _ zs.length c zs _ rfl hB (by omega)).mono ?_
  rw [HL.out]
  rintro e w2 ⟨rfl, hb2⟩
  go_wp2
  exact bodyPost_ret (v := .tuple #[.slice none 0 0, .int .i64 4]) (by simp [results, Tryd.results21, go_sem]) rfl ⟨rfl, thenB hb1 hb2⟩

set_option maxHeartbeats 1600000 in
theorem refPut_good (zs : List Int) (hz : ∀ z ∈ zs, 0 ≤ z ∧ z < 256) (w : World) (hlong : zs.length ≤ 1048576) (hgood : (scan zs).2 = zs.length) :
    Calls Tryd.prog 21 #[.string (strOfNums zs)] w fun e w' => ∃ v, e = .returned (.tuple #[v, .int .i64 0]) ∧ Own w.heap.size w' v (encU zs.length ++ zs) ∧ Below w.heap.size w w' := by
  have hs : (strOfNums zs).size = zs.length := strOfNums_size zs
  obtain ⟨b, c, w1, hcv, hB, hb1⟩ := bytes_of zs hz (by omega) w
  have HL := hid (badL_none hgood)
  have hw : wrap64 (zs.length : Int) = zs.length := by unfold wrap64; omega
  have HZ := hid hz
  have hsu := sizeU_pos zs.length
  have HS := hid (fun W => bytes_of zs hz (by omega) W)
  clear hz hgood
  generalize strOfNums zs = s at *
  go_enter Tryd.func21, Tryd.ntmps21
  go_wp2_with fail
  refine (refBad_any _ zs.length c zs _ rfl hB (by omega)).mono ?_
  rw [HL.out]
  rintro e w2 ⟨rfl, hb2⟩
  have hA := thenB hb1 hb2
  clear hcv hB hb1 hb2 HL
  go_wp2_with fail
  refine (refU_any zs.length _ (by omega) (by omega)).mono ?_
  rintro e w3 ⟨v, rfl, ho, hb3⟩
  obtain ⟨a3, c3, rfl⟩ := ho.sliceN (encU_length zs.length)
  obtain ⟨b4, c4, w4, hcv4, hB4, hb4⟩ := HS.out w3
  have ho4 := ho.below hb4
  have hb34 := thenB hb3 hb4
  have hs34 := hb34.size
  clear HS ho hb3 hb4
  go_wp2_with (first | (at_builtin; refine append_bytes rfl (.tmp 14) (.tmp 16) rfl rfl ho4 hb34 hs34 _ _ _ rfl (fun h => by cases h) rfl hB4 (by rw [encU_length]; omega) ?_; intro v' w5 ho5 hb5 hs5))
  exact bodyPost_ret (v := .tuple #[v', .int .i64 0]) (by simp [results, Tryd.results21, go_sem]) rfl ⟨v', rfl, ho5.mono (by have := hA.size; omega), thenB hA hb5⟩
theorem refPut_any (zs : List Int) (hz : ∀ z ∈ zs, 0 ≤ z ∧ z < 256) (w : World) : Calls Tryd.prog 21 #[.string (strOfNums zs)] w (GotBytes w (putN zs)) := by
  unfold putN
  by_cases h : 1048576 < zs.length
  · rw [if_pos h]
    refine (refPut_long zs w h).mono ?_
    rintro e w' ⟨rfl, hb⟩
    exact ⟨_, rfl, hands_nothing hb⟩
  rw [if_neg h]
  by_cases h2 : (scan zs).2 ≠ zs.length
  · rw [if_pos h2]
    refine (refPut_bad zs hz w (by omega) h2).mono ?_
    rintro e w' ⟨rfl, hb⟩
    exact ⟨_, rfl, hands_nothing hb⟩
  · rw [if_neg h2]
    refine (refPut_good zs hz w (by omega) (by omega)).mono ?_
    rintro e w' ⟨v, rfl, ho, hb⟩
    have hsu := sizeU_pos zs.length
    exact ⟨v, rfl, hands_own ho (fun z hm => (List.mem_append.1 hm).elim (encU_bytes _ z) (hz z)) (by simp [encU_length]; omega) hb⟩
theorem Put_any (zs : List Int) (hz : ∀ z ∈ zs, 0 ≤ z ∧ z < 256) (w : World) (hT : Tabs w) : Calls Tryd.prog 20 #[.string (strOfNums zs)] w (GotBytes w (putN zs)) := by
  unfold putN
  by_cases h : 1048576 < zs.length
  · rw [if_pos h]
    refine (Put_long zs w h).mono ?_
    rintro e w' ⟨rfl, hb⟩
    exact ⟨_, rfl, hands_nothing hb⟩
  rw [if_neg h]
  by_cases h2 : (scan zs).2 ≠ zs.length
  · rw [if_pos h2]
    refine (Put_bad zs hz w hT (by omega) h2).mono ?_
    rintro e w' ⟨rfl, hb⟩
    exact ⟨_, rfl, hands_nothing hb⟩
  · rw [if_neg h2]
    refine (Put_good zs hz w hT (by omega) (by omega)).mono ?_
    rintro e w' ⟨v, rfl, ho, hb⟩
    have hsu := sizeU_pos zs.length
    exact ⟨v, rfl, hands_own ho (fun z hm => (List.mem_append.1 hm).elim (encU_bytes _ z) (hz z)) (by simp [encU_length]; omega) hb⟩
end Go.Proofs.YtgmcknblfgealaaDoor.Utf
