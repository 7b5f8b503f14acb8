/-
  NAME: the walk of the statement NameBack: a text of runes is that of the runes that are told of it; runes are told as they were; a name that is put is got. (Written by tools/gen_nameback.py.)
-/
import Derived.Test.YtgmcknblfgealaaDoorNameRunes
import Derived.Test.YtgmcknblfgealaaDoorAppend
namespace Go.Proofs.YtgmcknblfgealaaDoor
open Go.RowKit Utf Leb

theorem Own.cap {base n c : Nat} {w : World} {a : Option Addr} {zs : List Int} (h : Own base w (.slice a n c) zs) : n ≤ c := by
  rcases h.2 with ⟨h', h0⟩ | ⟨g, cap, cur, h', _, _, hnc, _⟩
  · simp only [Value.slice.injEq] at h'; omega
  · simp only [Value.slice.injEq] at h'; omega
theorem encZ_length {zs : List Int} {Q : Nat} (h : sizeU zs.length + zs.length = Q) : (encU zs.length ++ zs).length = Q := by rw [← h]; simp [encU_length]
theorem nameL_seven {zs ys : List Int} {Q : Nat} (h : sizeU zs.length + zs.length = Q) (hg : (scan zs).2 = zs.length) (hl : zs.length < 4294967296) : nameL ([7] ++ (encU zs.length ++ zs) ++ ys) 1 = (zs, 1 + (Q : Int), 0, 0) := by
  refine (nameL_put hg hl [7] ys).trans ?_
  rw [← h, encU_length]
  rfl
theorem faultL_good {zs : List Int} (h : (scan zs).2 = zs.length) : faultL zs = (0, 0) := by unfold faultL; rw [if_pos h]
theorem runesL_good {zs : List Int} (h : (scan zs).2 = zs.length) : runesL zs = (scan zs).1 := by unfold runesL; rw [if_pos h]
theorem faultL_bad {zs : List Int} (h : (scan zs).2 ≠ zs.length) : faultL zs = (4, ((scan zs).2 : Int)) := by unfold faultL; rw [if_neg h]
theorem runesL_bad {zs : List Int} (h : (scan zs).2 ≠ zs.length) : runesL zs = [] := by unfold runesL; rw [if_neg h]

set_option maxHeartbeats 12800000 in
theorem nameBack_rt (w : World) (a : Option Addr) (len cap : Nat) (ns : List Int) (hlen : ns.length = len) (hz : Nums .i64 w a ns) (hi : ∀ n ∈ ns, -9223372036854775808 ≤ n ∧ n ≤ 9223372036854775807)
    (zs : List Int) (hs : ∀ z ∈ zs, 0 ≤ z ∧ z < 256) (a2 : Option Addr) (l2 k2 : Nat) (ys : List Int) (hl2 : ys.length = l2) (hy : Bytes w a2 ys) (hc2 : a2 = none → k2 = 0) (hT : Tabs w)
    (g1 : len ≤ 500) (g2 : zs.length ≤ 2000) (g3 : l2 ≤ 100) (hr : ∀ n ∈ ns, Rune n) (hg : (scan zs).2 = zs.length) :
    Calls Tryd.prog 7 #[.slice a len cap, .string (strOfNums zs), .slice a2 l2 k2] w fun e w' => e = .returned (.bool true) ∧ Below w.heap.size w w' := by
  have hsz : (strOfNums zs).size = zs.length := strOfNums_size zs
  have HL := hid hlen
  have HI := hid hi
  have HS := hid hs
  have HL2 := hid hl2
  have HC2 := hid hc2
  have HR := hid hr
  have HG := hid hg
  have P1 := hid (fun W hW => Put_good zs hs W hW (by omega) hg)
  have C1 := hid (fun W => bytes_of zs hs (by omega) W)
  obtain ⟨Q, hQ⟩ : ∃ Q, sizeU zs.length + zs.length = Q := ⟨_, rfl⟩
  have hQb : 1 ≤ Q ∧ Q ≤ 2005 := by have := sizeU_pos zs.length; omega
  obtain ⟨hQ1, hQ2⟩ := hQb
  have HQ := hid hQ
  clear hQ
  have HTX := hid (text_scan_all hg)
  have hcnt := scan_count zs
  obtain ⟨k3, hk3⟩ : ∃ k3, (scan zs).1.length = k3 := ⟨_, rfl⟩
  have HK3 := hid hk3
  have hk3b : k3 ≤ 2000 := by omega
  have HSR := hid (scan_runes zs)
  clear hk3 hcnt
  obtain ⟨m1, hm1⟩ : ∃ m1, (textL ns).length = m1 := ⟨_, rfl⟩
  have HM1 := hid hm1
  have hm1b : m1 ≤ 2000 := by have := textL_length ns; omega
  have hst := scan_text ns hr
  have HF1 := hid (faultL_good (zs := textL ns) (by rw [hst]))
  have HF2 := hid (show runesL (textL ns) = ns by rw [runesL_good (by rw [hst]), hst])
  have HB1 := hid (badL_text hr)
  clear hm1 hst
  generalize hsn : strOfNums zs = s at *
  have HSN := hid hsn
  clear hsn hlen hi hs hl2 hc2 hr hg
  go_enter Tryd.func7, Tryd.ntmps7
  go_wp2_with fail
  refine (Utf.awake_any _ hT).mono ?_
  rintro e w1 ⟨rfl, hA⟩
  have hz := hz.below hA
  have hy := hy.below hA
  have hT1 := hT.below hA
  clear hT
  go_wp2_with fail
  refine (Of_good a len cap ns _ HL.out hz (by omega) HR.out).mono ?_
  unfold Hands
  rintro e w2 ⟨v, rfl, a3, c3, rfl, hx, _, hb2⟩
  rw [HM1.out]
  have hz := hz.below hb2
  have hy := hy.below hb2
  have hT2 := hT1.below hb2
  have hA2 := thenB hA hb2
  clear hb2 hT1 hA
  go_wp2_with fail
  refine (Runes_any a3 m1 c3 (textL ns) _ HM1.out hx hT2 (by have := HM1.out; omega)).mono ?_
  unfold GotRunes
  rw [HF1.out, HF2.out]
  rintro e w3 ⟨v, rfl, ho, hb3⟩
  obtain ⟨a4, c4, rfl⟩ := ho.sliceN HL.out
  have hu := ho.nums
  have hx := hx.below hb3
  have hz := hz.below hb3
  have hy := hy.below hb3
  have hT3 := hT2.below hb3
  have hA3 := thenB hA2 hb3
  clear hb3 hT2 hA2 ho
  go_wp2_with fail
  refine (SameInts_any a4 a len c4 len cap ns ns _ HL.out HL.out (hu.alloc _) (hz.alloc _) (by omega)).mono ?_
  rw [decide_eq_true (rfl : ns = ns)]
  rintro e w4 ⟨rfl, hb4⟩
  have hx := (hx.alloc _).below hb4
  have hy := (hy.alloc _).below hb4
  have hT4 := (hT3.alloc _).below hb4
  have hA4 := thenB (thenA hA3 _) hb4
  clear hb4 hT3 hA3 hu hz
  go_wp2_with fail
  refine (Bad_any a3 m1 c3 (textL ns) _ HM1.out hx hT4).mono ?_
  rw [HB1.out]
  rintro e w5 ⟨rfl, hb5⟩
  have hy := hy.below hb5
  have hT5 := hT4.below hb5
  have hA5 := thenB hA4 hb5
  clear hb5 hT4 hA4 hx
  obtain ⟨b6, c6, w6, hcv, hB6, hb6⟩ := C1.out w5
  have hy := hy.below hb6
  have hT6 := hT5.below hb6
  have hA6 := thenB hA5 hb6
  clear hb6 hT5 hA5
  go_wp2_with fail
  refine (Runes_any _ zs.length c6 zs _ rfl hB6 hT6 (by omega)).mono ?_
  unfold GotRunes
  rw [faultL_good HG.out, runesL_good HG.out]
  rintro e w7 ⟨v, rfl, ho, hb7⟩
  obtain ⟨a7, c7, rfl⟩ := ho.sliceN HK3.out
  have hu := (ho.nums).alloc (.cells #[.int .i64 0, .int .i64 0] 27)
  have hy := (hy.below hb7).alloc (.cells #[.int .i64 0, .int .i64 0] 27)
  have hT7 := (hT6.below hb7).alloc (.cells #[.int .i64 0, .int .i64 0] 27)
  have hA7 := thenA (thenB hA6 hb7) (.cells #[.int .i64 0, .int .i64 0] 27)
  have k0 : (w7.alloc (.cells #[.int .i64 0, .int .i64 0] 27)).cell? ⟨w7.heap.size, 0, none⟩ = some (.int .i64 0) := by go_simp
  clear hb7 hT6 hA6 hB6 hcv ho
  go_wp2_with fail
  refine (P1.out _ hT7).mono ?_
  rintro e w8 ⟨v, rfl, ho, hb8⟩
  obtain ⟨a8, c8, rfl⟩ := ho.sliceN (encZ_length HQ.out)
  have hn8 := ho.nil
  have hx8 := ho.bytes (fun z hm => (List.mem_append.1 hm).elim (encU_bytes _ z) (HS.out z)) (by rw [(encZ_length HQ.out)]; omega)
  have hu := hu.below hb8
  have hy := hy.below hb8
  have hT8 := hT7.below hb8
  have hA8 := thenB hA7 hb8
  have k0 := keep hb8 k0
  clear hb8 hT7 hA7 P1 ho
  go_wp2_with fail
  refine (Of_good a7 k3 c7 (scan zs).1 _ HK3.out hu (by omega) HSR.out).mono ?_
  rw [HTX.out]
  unfold Hands
  rintro e w9 ⟨v, rfl, a9, c9, rfl, hd, _, hb9⟩
  have hx8 := hx8.below hb9
  have hy := hy.below hb9
  have hT9 := hT8.below hb9
  have hA9 := thenB hA8 hb9
  clear hb9 hT8 hA8 hu k0
  have own9 : Own w9.heap.size (w9.alloc (.cells #[.int .u8 7] 5)) (.slice (some ⟨w9.heap.size, 0, none⟩) 1 1) [7] := own_made w9 [7] (by simp)
  have bel9 := alloc_below w9 (.cells #[.int .u8 7] 5)
  have hx9 := hx8.below bel9
  go_wp2_with (first
    | (at_builtin; refine append_bytes rfl (.tmp 88) (.tmp 89) rfl rfl own9 bel9 (by simp) _ _ _ rfl hn8.out (encZ_length HQ.out) hx9 (by rw [(encZ_length HQ.out)]; simp; omega) ?_; intro v4 w10 ho10 hb10 hs10; obtain ⟨b10, d10, rfl⟩ := ho10.sliceN (n := 1 + Q) (by rw [List.length_append, (encZ_length HQ.out)]; rfl))
    | (at_builtin; refine append_bytes rfl (.tmp 90) (.tmp 91) rfl rfl ho10 hb10 hs10 _ _ _ rfl HC2.out HL2.out (hy.below hb10) (by rw [List.length_append, (encZ_length HQ.out), HL2.out]; simp; omega) ?_; intro v5 w11 ho11 hb11 hs11; obtain ⟨b11, d11, rfl⟩ := ho11.sliceN (n := 1 + Q + l2) (by rw [List.length_append, List.length_append, (encZ_length HQ.out), HL2.out]; rfl); clear ho10 hb10 hs10
       have hcap11 := ho11.cap; have hb := ho11.bytes (fun z hm => by
         rcases List.mem_append.1 hm with hm | hm
         · rcases List.mem_append.1 hm with hm | hm
           · rw [List.mem_singleton] at hm; omega
           · exact (List.mem_append.1 hm).elim (encU_bytes _ z) (HS.out z)
         · exact hy.byte z hm) (by rw [List.length_append, List.length_append, (encZ_length HQ.out), HL2.out]; simp; omega)
       have hT11 := hT9.below hb11; have hA11 := thenB hA9 hb11; have hd := hd.below hb11; clear own9 bel9 hx9 hx8 hy hT9 hA9 ho11 hb11 hs11))
  refine (Get_any _ _ _ 1 _ _ (by rw [List.length_append, List.length_append, (encZ_length HQ.out), HL2.out]; rfl) hb hcap11 hT11).mono ?_
  unfold GotName
  rw [nameL_seven HQ.out HG.out (by omega)]
  simp only
  rw [HSN.out]
  rintro e w12 ⟨rfl, hb12⟩
  have e1 := str_of ((hd.below hb12).alloc (.cells #[.int .i64 0, .int .i64 0] 27)) zs.length c9 rfl
  rw [HSN.out] at e1
  have hA12 := thenA (thenB hA11 hb12) (.cells #[.int .i64 0, .int .i64 0] 27)
  clear hb12 hT11 hA11 hd hb hcap11
  go_wp2
  go_ret
  exact ⟨rfl, hA12⟩

set_option maxHeartbeats 12800000 in
theorem nameBack_rb (w : World) (a : Option Addr) (len cap : Nat) (ns : List Int) (hlen : ns.length = len) (hz : Nums .i64 w a ns) (hi : ∀ n ∈ ns, -9223372036854775808 ≤ n ∧ n ≤ 9223372036854775807)
    (zs : List Int) (hs : ∀ z ∈ zs, 0 ≤ z ∧ z < 256) (a2 : Option Addr) (l2 k2 : Nat) (ys : List Int) (hl2 : ys.length = l2) (hy : Bytes w a2 ys) (hc2 : a2 = none → k2 = 0) (hT : Tabs w)
    (g1 : len ≤ 500) (g2 : zs.length ≤ 2000) (g3 : l2 ≤ 100) (hr : ∀ n ∈ ns, Rune n) (hg : (scan zs).2 ≠ zs.length) :
    Calls Tryd.prog 7 #[.slice a len cap, .string (strOfNums zs), .slice a2 l2 k2] w fun e w' => e = .returned (.bool true) ∧ Below w.heap.size w w' := by
  have hsz : (strOfNums zs).size = zs.length := strOfNums_size zs
  have HL := hid hlen
  have HI := hid hi
  have HS := hid hs
  have HL2 := hid hl2
  have HC2 := hid hc2
  have HR := hid hr
  have HG := hid hg
  have P1 := hid (fun W hW => Put_bad zs hs W hW (by omega) hg)
  have C1 := hid (fun W => bytes_of zs hs (by omega) W)
  obtain ⟨m1, hm1⟩ : ∃ m1, (textL ns).length = m1 := ⟨_, rfl⟩
  have HM1 := hid hm1
  have hm1b : m1 ≤ 2000 := by have := textL_length ns; omega
  have hst := scan_text ns hr
  have HF1 := hid (faultL_good (zs := textL ns) (by rw [hst]))
  have HF2 := hid (show runesL (textL ns) = ns by rw [runesL_good (by rw [hst]), hst])
  have HB1 := hid (badL_text hr)
  clear hm1 hst
  generalize hsn : strOfNums zs = s at *
  have HSN := hid hsn
  clear hsn hlen hi hs hl2 hc2 hr hg
  go_enter Tryd.func7, Tryd.ntmps7
  go_wp2_with fail
  refine (Utf.awake_any _ hT).mono ?_
  rintro e w1 ⟨rfl, hA⟩
  have hz := hz.below hA
  have hy := hy.below hA
  have hT1 := hT.below hA
  clear hT
  go_wp2_with fail
  refine (Of_good a len cap ns _ HL.out hz (by omega) HR.out).mono ?_
  unfold Hands
  rintro e w2 ⟨v, rfl, a3, c3, rfl, hx, _, hb2⟩
  rw [HM1.out]
  have hz := hz.below hb2
  have hy := hy.below hb2
  have hT2 := hT1.below hb2
  have hA2 := thenB hA hb2
  clear hb2 hT1 hA
  go_wp2_with fail
  refine (Runes_any a3 m1 c3 (textL ns) _ HM1.out hx hT2 (by have := HM1.out; omega)).mono ?_
  unfold GotRunes
  rw [HF1.out, HF2.out]
  rintro e w3 ⟨v, rfl, ho, hb3⟩
  obtain ⟨a4, c4, rfl⟩ := ho.sliceN HL.out
  have hu := ho.nums
  have hx := hx.below hb3
  have hz := hz.below hb3
  have hy := hy.below hb3
  have hT3 := hT2.below hb3
  have hA3 := thenB hA2 hb3
  clear hb3 hT2 hA2 ho
  go_wp2_with fail
  refine (SameInts_any a4 a len c4 len cap ns ns _ HL.out HL.out (hu.alloc _) (hz.alloc _) (by omega)).mono ?_
  rw [decide_eq_true (rfl : ns = ns)]
  rintro e w4 ⟨rfl, hb4⟩
  have hx := (hx.alloc _).below hb4
  have hy := (hy.alloc _).below hb4
  have hT4 := (hT3.alloc _).below hb4
  have hA4 := thenB (thenA hA3 _) hb4
  clear hb4 hT3 hA3 hu hz
  go_wp2_with fail
  refine (Bad_any a3 m1 c3 (textL ns) _ HM1.out hx hT4).mono ?_
  rw [HB1.out]
  rintro e w5 ⟨rfl, hb5⟩
  have hy := hy.below hb5
  have hT5 := hT4.below hb5
  have hA5 := thenB hA4 hb5
  clear hb5 hT4 hA4 hx
  obtain ⟨b6, c6, w6, hcv, hB6, hb6⟩ := C1.out w5
  have hy := hy.below hb6
  have hT6 := hT5.below hb6
  have hA6 := thenB hA5 hb6
  clear hb6 hT5 hA5
  go_wp2_with fail
  refine (Runes_any _ zs.length c6 zs _ rfl hB6 hT6 (by omega)).mono ?_
  unfold GotRunes
  rw [faultL_bad HG.out, runesL_bad HG.out]
  rintro e w7 ⟨v, rfl, ho, hb7⟩
  obtain ⟨a7, c7, rfl⟩ := ho.sliceN (n := 0) rfl
  generalize ((scan zs).2 : Int) = fl at *
  have hT7 := (hT6.below hb7).alloc (.cells #[.int .i64 4, .int .i64 fl] 27)
  have hA7 := thenA (thenB hA6 hb7) (.cells #[.int .i64 4, .int .i64 fl] 27)
  have k0 : (w7.alloc (.cells #[.int .i64 4, .int .i64 fl] 27)).cell? ⟨w7.heap.size, 0, none⟩ = some (.int .i64 4) := by go_simp
  clear hb7 hT6 hA6 hB6 hcv ho hy
  go_wp2_with fail
  refine (P1.out _ hT7).mono ?_
  rintro e w8 ⟨rfl, hb8⟩
  have hA8 := thenB hA7 hb8
  have k0 := keep hb8 k0
  clear hb8 hT7 hA7 P1
  go_wp2
  go_ret
  exact ⟨rfl, hA8⟩

set_option maxHeartbeats 12800000 in
theorem nameBack_nt (w : World) (a : Option Addr) (len cap : Nat) (ns : List Int) (hlen : ns.length = len) (hz : Nums .i64 w a ns) (hi : ∀ n ∈ ns, -9223372036854775808 ≤ n ∧ n ≤ 9223372036854775807)
    (zs : List Int) (hs : ∀ z ∈ zs, 0 ≤ z ∧ z < 256) (a2 : Option Addr) (l2 k2 : Nat) (ys : List Int) (hl2 : ys.length = l2) (hy : Bytes w a2 ys) (hc2 : a2 = none → k2 = 0) (hT : Tabs w)
    (g1 : len ≤ 500) (g2 : zs.length ≤ 2000) (g3 : l2 ≤ 100) (hr : ¬ ∀ n ∈ ns, Rune n) (hg : (scan zs).2 = zs.length) :
    Calls Tryd.prog 7 #[.slice a len cap, .string (strOfNums zs), .slice a2 l2 k2] w fun e w' => e = .returned (.bool true) ∧ Below w.heap.size w w' := by
  have hsz : (strOfNums zs).size = zs.length := strOfNums_size zs
  have HL := hid hlen
  have HI := hid hi
  have HS := hid hs
  have HL2 := hid hl2
  have HC2 := hid hc2
  have HR := hid hr
  have HG := hid hg
  have P1 := hid (fun W hW => Put_good zs hs W hW (by omega) hg)
  have C1 := hid (fun W => bytes_of zs hs (by omega) W)
  obtain ⟨Q, hQ⟩ : ∃ Q, sizeU zs.length + zs.length = Q := ⟨_, rfl⟩
  have hQb : 1 ≤ Q ∧ Q ≤ 2005 := by have := sizeU_pos zs.length; omega
  obtain ⟨hQ1, hQ2⟩ := hQb
  have HQ := hid hQ
  clear hQ
  have HTX := hid (text_scan_all hg)
  have hcnt := scan_count zs
  obtain ⟨k3, hk3⟩ : ∃ k3, (scan zs).1.length = k3 := ⟨_, rfl⟩
  have HK3 := hid hk3
  have hk3b : k3 ≤ 2000 := by omega
  have HSR := hid (scan_runes zs)
  clear hk3 hcnt
  generalize hsn : strOfNums zs = s at *
  have HSN := hid hsn
  clear hsn hlen hi hs hl2 hc2 hr hg
  go_enter Tryd.func7, Tryd.ntmps7
  go_wp2_with fail
  refine (Utf.awake_any _ hT).mono ?_
  rintro e w1 ⟨rfl, hA⟩
  have hz := hz.below hA
  have hy := hy.below hA
  have hT1 := hT.below hA
  clear hT
  go_wp2_with fail
  refine (Of_bad a len cap ns _ HL.out hz HI.out (by omega) HR.out).mono ?_
  rintro e w5 ⟨rfl, hb5⟩
  have hy := hy.below hb5
  have hT5 := hT1.below hb5
  have hA5 := thenB hA hb5
  clear hb5 hT1 hA hz
  obtain ⟨b6, c6, w6, hcv, hB6, hb6⟩ := C1.out w5
  have hy := hy.below hb6
  have hT6 := hT5.below hb6
  have hA6 := thenB hA5 hb6
  clear hb6 hT5 hA5
  go_wp2_with fail
  refine (Runes_any _ zs.length c6 zs _ rfl hB6 hT6 (by omega)).mono ?_
  unfold GotRunes
  rw [faultL_good HG.out, runesL_good HG.out]
  rintro e w7 ⟨v, rfl, ho, hb7⟩
  obtain ⟨a7, c7, rfl⟩ := ho.sliceN HK3.out
  have hu := (ho.nums).alloc (.cells #[.int .i64 0, .int .i64 0] 27)
  have hy := (hy.below hb7).alloc (.cells #[.int .i64 0, .int .i64 0] 27)
  have hT7 := (hT6.below hb7).alloc (.cells #[.int .i64 0, .int .i64 0] 27)
  have hA7 := thenA (thenB hA6 hb7) (.cells #[.int .i64 0, .int .i64 0] 27)
  have k0 : (w7.alloc (.cells #[.int .i64 0, .int .i64 0] 27)).cell? ⟨w7.heap.size, 0, none⟩ = some (.int .i64 0) := by go_simp
  clear hb7 hT6 hA6 hB6 hcv ho
  go_wp2_with fail
  refine (P1.out _ hT7).mono ?_
  rintro e w8 ⟨v, rfl, ho, hb8⟩
  obtain ⟨a8, c8, rfl⟩ := ho.sliceN (encZ_length HQ.out)
  have hn8 := ho.nil
  have hx8 := ho.bytes (fun z hm => (List.mem_append.1 hm).elim (encU_bytes _ z) (HS.out z)) (by rw [(encZ_length HQ.out)]; omega)
  have hu := hu.below hb8
  have hy := hy.below hb8
  have hT8 := hT7.below hb8
  have hA8 := thenB hA7 hb8
  have k0 := keep hb8 k0
  clear hb8 hT7 hA7 P1 ho
  go_wp2_with fail
  refine (Of_good a7 k3 c7 (scan zs).1 _ HK3.out hu (by omega) HSR.out).mono ?_
  rw [HTX.out]
  unfold Hands
  rintro e w9 ⟨v, rfl, a9, c9, rfl, hd, _, hb9⟩
  have hx8 := hx8.below hb9
  have hy := hy.below hb9
  have hT9 := hT8.below hb9
  have hA9 := thenB hA8 hb9
  clear hb9 hT8 hA8 hu k0
  have own9 : Own w9.heap.size (w9.alloc (.cells #[.int .u8 7] 5)) (.slice (some ⟨w9.heap.size, 0, none⟩) 1 1) [7] := own_made w9 [7] (by simp)
  have bel9 := alloc_below w9 (.cells #[.int .u8 7] 5)
  have hx9 := hx8.below bel9
  go_wp2_with (first
    | (at_builtin; refine append_bytes rfl (.tmp 88) (.tmp 89) rfl rfl own9 bel9 (by simp) _ _ _ rfl hn8.out (encZ_length HQ.out) hx9 (by rw [(encZ_length HQ.out)]; simp; omega) ?_; intro v4 w10 ho10 hb10 hs10; obtain ⟨b10, d10, rfl⟩ := ho10.sliceN (n := 1 + Q) (by rw [List.length_append, (encZ_length HQ.out)]; rfl))
    | (at_builtin; refine append_bytes rfl (.tmp 90) (.tmp 91) rfl rfl ho10 hb10 hs10 _ _ _ rfl HC2.out HL2.out (hy.below hb10) (by rw [List.length_append, (encZ_length HQ.out), HL2.out]; simp; omega) ?_; intro v5 w11 ho11 hb11 hs11; obtain ⟨b11, d11, rfl⟩ := ho11.sliceN (n := 1 + Q + l2) (by rw [List.length_append, List.length_append, (encZ_length HQ.out), HL2.out]; rfl); clear ho10 hb10 hs10
       have hcap11 := ho11.cap; have hb := ho11.bytes (fun z hm => by
         rcases List.mem_append.1 hm with hm | hm
         · rcases List.mem_append.1 hm with hm | hm
           · rw [List.mem_singleton] at hm; omega
           · exact (List.mem_append.1 hm).elim (encU_bytes _ z) (HS.out z)
         · exact hy.byte z hm) (by rw [List.length_append, List.length_append, (encZ_length HQ.out), HL2.out]; simp; omega)
       have hT11 := hT9.below hb11; have hA11 := thenB hA9 hb11; have hd := hd.below hb11; clear own9 bel9 hx9 hx8 hy hT9 hA9 ho11 hb11 hs11))
  refine (Get_any _ _ _ 1 _ _ (by rw [List.length_append, List.length_append, (encZ_length HQ.out), HL2.out]; rfl) hb hcap11 hT11).mono ?_
  unfold GotName
  rw [nameL_seven HQ.out HG.out (by omega)]
  simp only
  rw [HSN.out]
  rintro e w12 ⟨rfl, hb12⟩
  have e1 := str_of ((hd.below hb12).alloc (.cells #[.int .i64 0, .int .i64 0] 27)) zs.length c9 rfl
  rw [HSN.out] at e1
  have hA12 := thenA (thenB hA11 hb12) (.cells #[.int .i64 0, .int .i64 0] 27)
  clear hb12 hT11 hA11 hd hb hcap11
  go_wp2
  go_ret
  exact ⟨rfl, hA12⟩

set_option maxHeartbeats 12800000 in
theorem nameBack_nb (w : World) (a : Option Addr) (len cap : Nat) (ns : List Int) (hlen : ns.length = len) (hz : Nums .i64 w a ns) (hi : ∀ n ∈ ns, -9223372036854775808 ≤ n ∧ n ≤ 9223372036854775807)
    (zs : List Int) (hs : ∀ z ∈ zs, 0 ≤ z ∧ z < 256) (a2 : Option Addr) (l2 k2 : Nat) (ys : List Int) (hl2 : ys.length = l2) (hy : Bytes w a2 ys) (hc2 : a2 = none → k2 = 0) (hT : Tabs w)
    (g1 : len ≤ 500) (g2 : zs.length ≤ 2000) (g3 : l2 ≤ 100) (hr : ¬ ∀ n ∈ ns, Rune n) (hg : (scan zs).2 ≠ zs.length) :
    Calls Tryd.prog 7 #[.slice a len cap, .string (strOfNums zs), .slice a2 l2 k2] w fun e w' => e = .returned (.bool true) ∧ Below w.heap.size w w' := by
  have hsz : (strOfNums zs).size = zs.length := strOfNums_size zs
  have HL := hid hlen
  have HI := hid hi
  have HS := hid hs
  have HL2 := hid hl2
  have HC2 := hid hc2
  have HR := hid hr
  have HG := hid hg
  have P1 := hid (fun W hW => Put_bad zs hs W hW (by omega) hg)
  have C1 := hid (fun W => bytes_of zs hs (by omega) W)
  generalize hsn : strOfNums zs = s at *
  have HSN := hid hsn
  clear hsn hlen hi hs hl2 hc2 hr hg
  go_enter Tryd.func7, Tryd.ntmps7
  go_wp2_with fail
  refine (Utf.awake_any _ hT).mono ?_
  rintro e w1 ⟨rfl, hA⟩
  have hz := hz.below hA
  have hy := hy.below hA
  have hT1 := hT.below hA
  clear hT
  go_wp2_with fail
  refine (Of_bad a len cap ns _ HL.out hz HI.out (by omega) HR.out).mono ?_
  rintro e w5 ⟨rfl, hb5⟩
  have hy := hy.below hb5
  have hT5 := hT1.below hb5
  have hA5 := thenB hA hb5
  clear hb5 hT1 hA hz
  obtain ⟨b6, c6, w6, hcv, hB6, hb6⟩ := C1.out w5
  have hy := hy.below hb6
  have hT6 := hT5.below hb6
  have hA6 := thenB hA5 hb6
  clear hb6 hT5 hA5
  go_wp2_with fail
  refine (Runes_any _ zs.length c6 zs _ rfl hB6 hT6 (by omega)).mono ?_
  unfold GotRunes
  rw [faultL_bad HG.out, runesL_bad HG.out]
  rintro e w7 ⟨v, rfl, ho, hb7⟩
  obtain ⟨a7, c7, rfl⟩ := ho.sliceN (n := 0) rfl
  generalize ((scan zs).2 : Int) = fl at *
  have hT7 := (hT6.below hb7).alloc (.cells #[.int .i64 4, .int .i64 fl] 27)
  have hA7 := thenA (thenB hA6 hb7) (.cells #[.int .i64 4, .int .i64 fl] 27)
  have k0 : (w7.alloc (.cells #[.int .i64 4, .int .i64 fl] 27)).cell? ⟨w7.heap.size, 0, none⟩ = some (.int .i64 4) := by go_simp
  clear hb7 hT6 hA6 hB6 hcv ho hy
  go_wp2_with fail
  refine (P1.out _ hT7).mono ?_
  rintro e w8 ⟨rfl, hb8⟩
  have hA8 := thenB hA7 hb8
  have k0 := keep hb8 k0
  clear hb8 hT7 hA7 P1
  go_wp2
  go_ret
  exact ⟨rfl, hA8⟩

theorem nameBack_ok (w : World) (a : Option Addr) (len cap : Nat) (s : ByteArray) (a2 : Option Addr) (l2 k2 : Nat) (hT : Tabs w) (h : 500 < len ∨ 2000 < s.size ∨ 100 < l2) :
    Calls Tryd.prog 7 #[.slice a len cap, .string s, .slice a2 l2 k2] w fun e w' => e = .returned (.bool true) ∧ Below w.heap.size w w' := by
  by_cases h1 : 500 < len
  · clear h
    go_enter Tryd.func7, Tryd.ntmps7
    go_wp2_with fail
    refine (Utf.awake_any _ hT).mono ?_
    rintro e w1 ⟨rfl, hA⟩
    go_wp2
    go_ret
    exact ⟨rfl, hA⟩
  by_cases h2 : 2000 < s.size
  · clear h
    go_enter Tryd.func7, Tryd.ntmps7
    go_wp2_with fail
    refine (Utf.awake_any _ hT).mono ?_
    rintro e w1 ⟨rfl, hA⟩
    go_wp2
    go_ret
    exact ⟨rfl, hA⟩
  have h3 : 100 < l2 := by omega
  clear h
  go_enter Tryd.func7, Tryd.ntmps7
  go_wp2_with fail
  refine (Utf.awake_any _ hT).mono ?_
  rintro e w1 ⟨rfl, hA⟩
  go_wp2
  go_ret
  exact ⟨rfl, hA⟩
theorem nameBack_walk (w : World) (a : Option Addr) (len cap : Nat) (ns : List Int) (hlen : ns.length = len) (hz : Nums .i64 w a ns) (hi : ∀ n ∈ ns, -9223372036854775808 ≤ n ∧ n ≤ 9223372036854775807)
    (s : ByteArray) (a2 : Option Addr) (l2 k2 : Nat) (ys : List Int) (hl2 : ys.length = l2) (hy : Bytes w a2 ys) (_hcap : l2 ≤ k2) (hc2 : a2 = none → k2 = 0) (hT : Tabs w) :
    Calls Tryd.prog 7 #[.slice a len cap, .string s, .slice a2 l2 k2] w fun e w' => e = .returned (.bool true) ∧ Below w.heap.size w w' := by
  by_cases h : 500 < len ∨ 2000 < s.size ∨ 100 < l2
  · exact nameBack_ok w a len cap s a2 l2 k2 hT h
  have hsn := str_numsOf s
  have hsl := numsOf_length s
  rw [← hsn]
  by_cases hr : ∀ n ∈ ns, Rune n
  · by_cases hg : (scan (numsOf s)).2 = (numsOf s).length
    · exact nameBack_rt w a len cap ns hlen hz hi _ (numsOf_bytes s) a2 l2 k2 ys hl2 hy hc2 hT (by omega) (by omega) (by omega) hr hg
    · exact nameBack_rb w a len cap ns hlen hz hi _ (numsOf_bytes s) a2 l2 k2 ys hl2 hy hc2 hT (by omega) (by omega) (by omega) hr hg
  · by_cases hg : (scan (numsOf s)).2 = (numsOf s).length
    · exact nameBack_nt w a len cap ns hlen hz hi _ (numsOf_bytes s) a2 l2 k2 ys hl2 hy hc2 hT (by omega) (by omega) (by omega) hr hg
    · exact nameBack_nb w a len cap ns hlen hz hi _ (numsOf_bytes s) a2 l2 k2 ys hl2 hy hc2 hT (by omega) (by omega) (by omega) hr hg
end Go.Proofs.YtgmcknblfgealaaDoor
