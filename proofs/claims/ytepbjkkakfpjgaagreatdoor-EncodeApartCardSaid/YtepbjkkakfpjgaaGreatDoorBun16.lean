import Derived.Test.YtepbjkkakfpjgaaGreatDoorBun06
import Derived.Test.YtepbjkkakfpjgaaGreatDoorBun01
import Derived.Test.YtepbjkkakfpjgaaGreatDoorBun11
import Derived.Lib.TrimUEq
import Derived.Lib.MapLaws
import Derived.Lib.OthersKept
import Derived.Laws.EntriesVeiled
import Derived.PinnedBridge
import Derived.Lib.LaidU8
import Derived.Lay
/-
  The model's own decoding of a string, and the plain functions on runes, say the same.
-/
namespace Go.Proofs.YtepbjkkakfpjgaaGreatDoor.Utf
open Go.Lib (decodeN decodeN_shape decode_N)

theorem decodeN_some {l : List Int} (hb : ∀ z ∈ l, 0 ≤ z ∧ z < 256) {n : Int} {k : Nat} (h : atL l = some (n, k)) :
    decodeN l.length (l.getD 0 0).toNat (l.getD 1 0).toNat (l.getD 2 0).toNat (l.getD 3 0).toNat = (n.toNat, k) := by
  obtain ⟨⟨r0, r1, r2⟩, ht, hk, _, _, hkl⟩ := atL_some h
  have hl : l = oneL n ++ l.drop k := by rw [← ht, List.take_append_drop]
  generalize l.drop k = r at hl
  subst hl
  subst hk
  clear ht hkl h
  obtain ⟨m, rfl⟩ := Int.eq_ofNat_of_zero_le r0
  unfold oneL
  by_cases a : (m : Int) < 128
  · rw [if_pos a]
    have c0 : m < 128 := by omega
    simp [decodeN, c0]
  by_cases b : (m : Int) < 2048
  · rw [if_neg a, if_pos b]
    have e0 : (192 + (m : Int) / 64).toNat = 192 + m / 64 := by omega
    have e1 : (128 + (m : Int) % 64).toNat = 128 + m % 64 := by omega
    simp only [List.cons_append, List.nil_append, List.length_cons, List.getD_cons_zero, List.getD_cons_succ, e0, e1, Int.toNat_natCast]
    unfold decodeN
    rw [if_neg (by omega), if_pos (by omega), if_pos (by omega)]
    simp only [Prod.mk.injEq, List.length_nil]
    exact ⟨by omega, trivial⟩
  by_cases d : (m : Int) < 65536
  · rw [if_neg a, if_neg b, if_pos d]
    have e0 : (224 + (m : Int) / 4096).toNat = 224 + m / 4096 := by omega
    have e1 : (128 + (m : Int) / 64 % 64).toNat = 128 + m / 64 % 64 := by omega
    have e2 : (128 + (m : Int) % 64).toNat = 128 + m % 64 := by omega
    simp only [List.cons_append, List.nil_append, List.length_cons, List.getD_cons_zero, List.getD_cons_succ, e0, e1, e2, Int.toNat_natCast]
    unfold decodeN
    rw [if_neg (by omega), if_neg (by omega), if_pos (by omega), if_pos (by omega)]
    simp only [Prod.mk.injEq, List.length_nil]
    exact ⟨by omega, trivial⟩
  · rw [if_neg a, if_neg b, if_neg d]
    have e0 : (240 + (m : Int) / 262144).toNat = 240 + m / 262144 := by omega
    have e1 : (128 + (m : Int) / 4096 % 64).toNat = 128 + m / 4096 % 64 := by omega
    have e2 : (128 + (m : Int) / 64 % 64).toNat = 128 + m / 64 % 64 := by omega
    have e3 : (128 + (m : Int) % 64).toNat = 128 + m % 64 := by omega
    simp only [List.cons_append, List.nil_append, List.length_cons, List.getD_cons_zero, List.getD_cons_succ, e0, e1, e2, e3, Int.toNat_natCast]
    unfold decodeN
    rw [if_neg (by omega), if_neg (by omega), if_neg (by omega), if_pos (by omega), if_pos (by omega)]
    simp only [Prod.mk.injEq, List.length_nil]
    exact ⟨by omega, trivial⟩

theorem decodeN_none {l : List Int} (hb : ∀ z ∈ l, 0 ≤ z ∧ z < 256) (h0 : l ≠ []) (h : atL l = none) :
    decodeN l.length (l.getD 0 0).toNat (l.getD 1 0).toNat (l.getD 2 0).toNat (l.getD 3 0).toNat = (65533, 1) := by
  have no : ∀ (n : Int) (r : List Int), Rune n → l = oneL n ++ r → False := fun n r hr hl => by
    rw [hl, atL_one hr] at h; cases h
  have hne : 0 < l.length := List.length_pos_iff.2 h0
  have g : ∀ j, j < l.length → 0 ≤ l.getD j 0 ∧ l.getD j 0 < 256 := fun j hj => by
    have : l.getD j 0 = l[j] := by simp [hj]
    rw [this]; exact hb _ (List.getElem_mem hj)
  have d : ∀ j, j < l.length → l.drop j = l.getD j 0 :: l.drop (j + 1) := fun j hj => by
    rw [List.drop_eq_getElem_cons hj]; simp [hj]
  obtain ⟨g0, g0'⟩ := g 0 hne
  have d0 := d 0 hne
  rw [List.drop_zero] at d0
  rcases decodeN_shape l.length (l.getD 0 0).toNat (l.getD 1 0).toNat (l.getD 2 0).toNat (l.getD 3 0).toNat with ⟨c, e⟩ | ⟨c1, c2, c3, cv, e⟩ | ⟨c1, c2, c3, c4, cv, cs, e⟩ | ⟨c1, c2, c3, c4, c5, cv, cw, e⟩ | e
  · refine (no (l.getD 0 0) (l.drop 1) ⟨by omega, by omega, by omega⟩ (d0.trans ?_)).elim
    generalize l.getD 0 0 = x at *
    unfold oneL
    rw [if_pos (by omega)]
    rfl
  · obtain ⟨g1, g1'⟩ := g 1 c2
    have hl := d0.trans (congrArg (l.getD 0 0 :: ·) (d 1 c2))
    refine (no ((l.getD 0 0) % 32 * 64 + (l.getD 1 0) % 64) (l.drop 2) ⟨by omega, by omega, by omega⟩ (hl.trans ?_)).elim
    generalize l.getD 0 0 = x at *
    generalize l.getD 1 0 = y at *
    unfold oneL
    rw [if_neg (by omega), if_pos (by omega)]
    simp only [List.cons_append, List.nil_append, List.cons.injEq]
    exact ⟨by omega, by omega, trivial⟩
  · obtain ⟨g1, g1'⟩ := g 1 (by omega)
    obtain ⟨g2, g2'⟩ := g 2 c2
    have hl := d0.trans (congrArg (l.getD 0 0 :: ·) ((d 1 (by omega)).trans (congrArg (l.getD 1 0 :: ·) (d 2 c2))))
    refine (no ((l.getD 0 0) % 16 * 4096 + (l.getD 1 0) % 64 * 64 + (l.getD 2 0) % 64) (l.drop 3) ⟨by omega, by omega, by omega⟩ (hl.trans ?_)).elim
    generalize l.getD 0 0 = x at *
    generalize l.getD 1 0 = y at *
    generalize l.getD 2 0 = z at *
    unfold oneL
    rw [if_neg (by omega), if_neg (by omega), if_pos (by omega)]
    simp only [List.cons_append, List.nil_append, List.cons.injEq]
    exact ⟨by omega, by omega, by omega, trivial⟩
  · obtain ⟨g1, g1'⟩ := g 1 (by omega)
    obtain ⟨g2, g2'⟩ := g 2 (by omega)
    obtain ⟨g3, g3'⟩ := g 3 c2
    have hl := d0.trans (congrArg (l.getD 0 0 :: ·) ((d 1 (by omega)).trans (congrArg (l.getD 1 0 :: ·) ((d 2 (by omega)).trans (congrArg (l.getD 2 0 :: ·) (d 3 c2))))))
    refine (no ((l.getD 0 0) % 8 * 262144 + (l.getD 1 0) % 64 * 4096 + (l.getD 2 0) % 64 * 64 + (l.getD 3 0) % 64) (l.drop 4) ⟨by omega, by omega, by omega⟩ (hl.trans ?_)).elim
    generalize l.getD 0 0 = x at *
    generalize l.getD 1 0 = y at *
    generalize l.getD 2 0 = z at *
    generalize l.getD 3 0 = u at *
    unfold oneL
    rw [if_neg (by omega), if_neg (by omega), if_neg (by omega)]
    simp only [List.cons_append, List.nil_append, List.cons.injEq]
    exact ⟨by omega, by omega, by omega, by omega, trivial⟩
  · exact e

theorem str_byte {zs : List Int} (hb : ∀ z ∈ zs, 0 ≤ z ∧ z < 256) (j : Nat) : ((strOfNums zs).data.toList.getD j 0).toNat = (zs.getD j 0).toNat := by
  rw [strOfNums_data]
  by_cases h : j < zs.length
  · have := hb _ (List.getElem_mem h)
    simp [h]
    omega
  · simp [List.getD_eq_getElem?_getD, List.getElem?_eq_none (Nat.le_of_not_lt h)]

theorem getD_drop0 (zs : List Int) (i j : Nat) : zs.getD (i + j) 0 = (zs.drop i).getD j 0 := by
  simp [List.getD_eq_getElem?_getD, List.getElem?_drop]

theorem decode_eq {zs : List Int} (hb : ∀ z ∈ zs, 0 ≤ z ∧ z < 256) (i : Nat) :
    Utf8.decode (strOfNums zs) i = decodeN (zs.drop i).length ((zs.drop i).getD 0 0).toNat ((zs.drop i).getD 1 0).toNat ((zs.drop i).getD 2 0).toNat ((zs.drop i).getD 3 0).toNat := by
  rw [decode_N, str_byte hb, str_byte hb, str_byte hb, str_byte hb, strOfNums_data, List.length_map, List.length_drop]
  rw [← getD_drop0, ← getD_drop0, ← getD_drop0, ← getD_drop0]
  rfl

theorem mem_drop_bytes {zs : List Int} (hb : ∀ z ∈ zs, 0 ≤ z ∧ z < 256) (i : Nat) : ∀ z ∈ zs.drop i, 0 ≤ z ∧ z < 256 := fun z hz => hb z (List.mem_of_mem_drop hz)

/-- At a place where a rune begins the model decodes it. -/
theorem decode_some {zs : List Int} (hb : ∀ z ∈ zs, 0 ≤ z ∧ z < 256) {i : Nat} {n : Int} {k : Nat} (h : atL (zs.drop i) = some (n, k)) : Utf8.decode (strOfNums zs) i = (n.toNat, k) := by
  rw [decode_eq hb]; exact decodeN_some (mem_drop_bytes hb i) h
/-- Where none begins it tells the sign of an error, of one byte. -/
theorem decode_none {zs : List Int} (hb : ∀ z ∈ zs, 0 ≤ z ∧ z < 256) {i : Nat} (hi : i < zs.length) (h : atL (zs.drop i) = none) : Utf8.decode (strOfNums zs) i = (65533, 1) := by
  rw [decode_eq hb]
  refine decodeN_none (mem_drop_bytes hb i) (fun h0 => ?_) h
  have := congrArg List.length h0
  simp at this; omega
/-- That number, where it is a rune, has three bytes. -/
theorem error_three {l : List Int} {k : Nat} (h : atL l = some (65533, k)) : k = 3 := by
  obtain ⟨_, _, hk, _⟩ := atL_some h
  rw [hk]; decide
end Go.Proofs.YtepbjkkakfpjgaaGreatDoor.Utf

/-
  NAME: bad, the search for the first byte that is no text, by contract: it answers what the plain function 'badL' tells.
-/
namespace Go.Proofs.YtepbjkkakfpjgaaGreatDoor.Utf
open Go.RowKit

/-- The two tables of unicode/utf8 lie as the row lists them. -/
def Tabs (w : World) : Prop := Lib.Utf8Tabs 1 2 w
theorem Tabs.below {w w' : World} (h : Tabs w) (hb : Below w.heap.size w w') : Tabs w' := Utf8Tabs_below h hb
theorem Tabs.alloc {w : World} (h : Tabs w) (o : Obj) : Tabs (w.alloc o) := h.below ((Below.refl _ _).alloc (Nat.le_refl _) o)

theorem str_tail (zs : List Int) (i : Nat) : (strOfNums zs).extract i zs.length = strOfNums (zs.drop i) := by
  apply ByteArray.ext
  apply Array.toList_inj.1
  rw [ByteArray.data_extract, Array.toList_extract, strOfNums_data, strOfNums_data]
  simp
  rw [List.take_of_length_le (by simp)]

set_option maxHeartbeats 800000 in
theorem bad_any (zs : List Int) (hb : ∀ z ∈ zs, 0 ≤ z ∧ z < 256) (w : World) (hT : Tabs w) :
    Calls Tryz.prog 180 #[.string (strOfNums zs)] w fun e w' => e = .returned (.int .i64 (badL zs)) ∧ Below w.heap.size w w' := by
  have D1 : ∀ pos n k, atL (zs.drop pos) = some (n, k) → Utf8.decode (strOfNums zs) pos = (n.toNat, k) := fun pos n k h => decode_some hb h
  have D2 : ∀ pos, pos < zs.length → atL (zs.drop pos) = none → Utf8.decode (strOfNums zs) pos = (65533, 1) := fun pos h h' => decode_none hb h h'
  have D3 : ∀ pos, pos < zs.length → Lib.decodeGo ((strOfNums zs).extract pos zs.length) = Utf8.decode (strOfNums zs) pos := fun pos h => by
    rw [str_tail]
    unfold Lib.decodeGo
    rw [strOfNums_size, List.length_drop, if_neg (by omega), decode_eq (mem_drop_bytes hb pos), decode_eq hb]
    rfl
  have hs : (strOfNums zs).size = zs.length := strOfNums_size zs
  generalize strOfNums zs = s at *
  have H1 := hid D1
  have H2 := hid D2
  have H3 := hid D3
  clear D1 D2 D3 hb
  go_enter Tryz.func180, Tryz.ntmps180
  go_wp2
  go_loopw [3] (fun _ wr => ∃ pos : Nat, wr.heap[w.heap.size]? = some (.stringIter s pos) ∧ Below w.heap.size w wr ∧ pos ≤ zs.length ∧ (scan zs).2 = pos + (scan (zs.drop pos)).2)
    (fun _ wr => zs.length - wr.iterPos w.heap.size)
  case atStart => exact ⟨0, World.iter_heap w s 0, (Below.refl _ _).alloc (Nat.le_refl _) _, Nat.zero_le _, by simp⟩
  case round =>
    obtain ⟨pos, hk, hbw, hpos, hsc⟩ := hrel
    have HS := hid hsc
    clear hsc
    have hT' : Tabs wr := hT.below hbw
    by_cases hp : pos < s.size
    · cases ha : atL (zs.drop pos) with
      | none =>
        have hd := H2.out pos (by omega) ha
        have hnx : ∀ ty, (Instr.next (.pointer (some ⟨w.heap.size, 0, none⟩)) true ty).run Tryz.prog wr = .ok (.tuple #[.bool true, .int .i64 pos, .int .i32 65533]) (wr.iterAt w.heap.size s (pos + 1)) := fun ty => by
          rw [Lib.run_next_any_at wr w.heap.size s pos ty hk hp, hd]; rfl
        have hw1 := Lib.below_iterAt hbw (Nat.le_refl _) s (pos + 1)
        have hT1 : Tabs (wr.iterAt w.heap.size s (pos + 1)) := hT.below hw1
        have HF : Hid (badL zs = pos) := by
          have h := HS.out
          rw [scan_none ha] at h
          show _ = _
          rw [badL_some (by omega)]
          simp at h; omega
        have HD := hid ((H3.out pos (by omega)).trans hd)
        clear hd ha hT hT'
        generalize wr.iterAt w.heap.size s (pos + 1) = w1 at *
        go_wp2_with fail
        refine (Tryz.utf8_DecodeRuneInString _ _ hT1).mono ?_
        rw [HD.out]
        rintro e w2 ⟨rfl, hb2⟩
        go_wp2
        go_ret
        exact ⟨ret_int HF.out.symm, hw1.trans (hb2.mono (by have := hw1.size; omega))⟩
      | some q =>
        obtain ⟨n, k⟩ := q
        obtain ⟨hn, _, _, hk1, _, hkl⟩ := atL_some ha
        have hd := H1.out pos n k ha
        have hnx : ∀ ty, (Instr.next (.pointer (some ⟨w.heap.size, 0, none⟩)) true ty).run Tryz.prog wr = .ok (.tuple #[.bool true, .int .i64 pos, .int .i32 n]) (wr.iterAt w.heap.size s (pos + k)) := fun ty => by
          rw [Lib.run_next_any_at wr w.heap.size s pos ty hk hp, hd]
          have := hn.1
          simp only [Int.toNat_of_nonneg this]
        have hw1 := Lib.below_iterAt hbw (Nat.le_refl _) s (pos + k)
        have hT1 : Tabs (wr.iterAt w.heap.size s (pos + k)) := hT.below hw1
        have hk1' := Lib.iterAt_heap wr w.heap.size s pos (pos + k) hk
        have hit : (wr.iterAt w.heap.size s (pos + k)).iterPos w.heap.size = pos + k := by unfold World.iterPos; rw [hk1']
        have hit0 : wr.iterPos w.heap.size = pos := by unfold World.iterPos; rw [hk]
        have HF : Hid ((scan zs).2 = (pos + k) + (scan (zs.drop (pos + k))).2) := by
          have h := HS.out
          rw [scan_some ha, List.drop_drop] at h
          show _ = _
          simp only at h
          omega
        have hlk : pos + k ≤ zs.length := by simp at hkl; omega
        by_cases he : n = 65533
        · subst he
          obtain rfl := error_three ha
          have HD := hid ((H3.out pos (by omega)).trans hd)
          clear hd ha hT hT' hn
          generalize wr.iterAt w.heap.size s (pos + 3) = w1 at *
          go_wp2_with fail
          refine (Tryz.utf8_DecodeRuneInString _ _ hT1).mono ?_
          rw [HD.out]
          rintro e w2 ⟨rfl, hb2⟩
          have hlt : w.heap.size < w1.heap.size := (Array.getElem?_eq_some_iff.1 hk1').1
          have hk2 := (hb2.block _ hlt).trans hk1'
          have hit2 : w2.iterPos w.heap.size = pos + 3 := by unfold World.iterPos; rw [hk2]
          go_wp2
          go_roundw
          case rel => exact ⟨pos + 3, hk2, hw1.trans (hb2.mono (by omega)), hlk, HF.out⟩
          case measure => rw [hit2, hit0]; omega
        · clear hd ha hT hT'
          generalize wr.iterAt w.heap.size s (pos + k) = w1 at *
          go_wp2
          go_roundw
          case rel => exact ⟨pos + k, hk1', hw1, hlk, HF.out⟩
          case measure => rw [hit, hit0]; omega
    · have hnx : ∀ ty, (Instr.next (.pointer (some ⟨w.heap.size, 0, none⟩)) true ty).run Tryz.prog wr = _ := fun ty => Lib.run_next_end_at wr w.heap.size s pos ty hk hp
      have HF : Hid (badL zs = -1) := badL_none (by
        have h := HS.out
        rw [List.drop_eq_nil_of_le (by omega), scan_nil] at h
        simp at h; omega)
      go_wp2
      go_ret
      exact ⟨ret_int HF.out.symm, hbw⟩
end Go.Proofs.YtepbjkkakfpjgaaGreatDoor.Utf

/-
  MODULE: anyBeyond, isNoText, by contract.
-/
namespace Go.Proofs.YtepbjkkakfpjgaaGreatDoor.Mod
open Go.RowKit Go.Shelf Go.Proofs.YtepbjkkakfpjgaaGreatDoor.Instr

theorem entersB : ∀ args w, (callFunc 129 args).run Tryz.prog w = .ok (.enter 129 args) w := enters_of Tryz.func129 (by kernel_rfl) rfl
set_option maxHeartbeats 1000000 in
theorem anyBeyond_any (l : List Li) (a : Option Addr) (n c : Nat) (most : Int) (w : World) (hn : l.length = n) (hr : Rows w.heap.size w a 3 (l.map Li.v)) (hl : n ≤ 140737488351232) :
    Calls Tryz.prog 74 #[.slice a n c, .int .u32 most] w fun e w' => e = .returned (.bool (l.any (beyond most))) ∧ Below w.heap.size w w' := by
  have hB := (Below.refl w.heap.size w).alloc (Nat.le_refl _) (.cells #[.int .u32 most] 28)
  have hc : (w.alloc (.cells #[.int .u32 most] 28)).cell? ⟨w.heap.size, 0, none⟩ = some (.int .u32 most) := by go_simp
  have C := hid (any_li l a n c (w.alloc (.cells #[.int .u32 most] 28)) hn ((hr.below hB).more hB.size) hl 129 #[.pointer (some ⟨w.heap.size, 0, none⟩)] entersB (beyond most)
    (fun W x _ hW => beyond_any x _ most W (Go.Proofs.YtepbjkkakfpjgaaGreatDoor.keep hW hc)))
  have HB := hid hB
  clear hB hc hn hr
  go_enter Tryz.func74, Tryz.ntmps74
  go_wp2_with fail
  refine C.out.mono ?_
  rintro e w1 ⟨rfl, hb1⟩
  clear C
  go_wp2
  go_ret
  exact ⟨rfl, HB.out.trans (hb1.mono HB.out.size)⟩

theorem Bad_any (zs : List Int) (a : Option Addr) (n c : Nat) (w : World) (hT : Utf.Tabs w) (hn : zs.length = n) (hz : Bytes w a zs) :
    Calls Tryz.prog 122 #[.slice a n c] w fun e w' => e = .returned (.int .i64 (Utf.badL zs)) ∧ Below w.heap.size w w' := by
  have e1 := str_of hz n c hn
  have C := hid (Utf.bad_any zs hz.byte w hT)
  clear hn hz
  go_enter Tryz.func122, Tryz.ntmps122
  go_wp2_with fail
  refine C.out.mono ?_
  rintro e w1 ⟨rfl, hb1⟩
  clear C
  go_wp2
  go_ret
  exact ⟨rfl, hb1⟩
set_option maxHeartbeats 400000 in
theorem isNoText_any (s : ByteArray) (w : World) (hT : Utf.Tabs w) (hs : s.size ≤ 140737488351232) : Calls Tryz.prog 60 #[.string s] w fun e w' => e = .returned (.bool (noText s)) ∧ Below w.heap.size w w' := by
  unfold noText
  obtain ⟨b, c, w1, e1, hz, hb1⟩ := bytes_of (numsOf s) (numsOf_bytes s) (by rw [numsOf_length]; exact hs) w
  rw [str_numsOf] at e1
  have C := hid (Bad_any (numsOf s) _ _ c w1 (hT.below hb1) rfl hz)
  obtain ⟨q, hq⟩ : ∃ q, Utf.badL (numsOf s) = q := ⟨_, rfl⟩
  rw [hq] at C ⊢
  obtain ⟨n, hn⟩ : ∃ n, (numsOf s).length = n := ⟨_, rfl⟩
  rw [hn] at C e1
  have HB := hid hb1
  clear hq hn hz hb1 hT
  go_enter Tryz.func60, Tryz.ntmps60
  go_wp2_with fail
  refine C.out.mono ?_
  rintro e w2 ⟨rfl, hb2⟩
  clear C e1
  go_wp2
  go_ret
  exact ⟨rfl, thenB HB.out hb2⟩
theorem asks_long (w : World) : Asks w 55 longS := ⟨enters_of Tryz.func55 (by kernel_rfl) rfl, fun W s _ _ => isLong_any s W⟩
theorem asks_text (w : World) (hT : Utf.Tabs w) : Asks w 60 noText := ⟨enters_of Tryz.func60 (by kernel_rfl) rfl, fun W s hs hW => isNoText_any s W (hT.below hW) hs⟩
end Go.Proofs.YtepbjkkakfpjgaaGreatDoor.Mod

/-
  MODULE: the thirteen checks of Check, each by contract.
-/
namespace Go.Proofs.YtepbjkkakfpjgaaGreatDoor.Mod
open Go.RowKit Go.Shelf Go.Proofs.YtepbjkkakfpjgaaGreatDoor.Instr

theorem BoxAt.all {W : World} {g : Nat} {m : Md} (h : BoxAt W g m.v) : W.cell? ⟨g, 0, none⟩ = some (.slice m.ty'.a m.ty.length m.ty'.c) ∧ W.cell? ⟨g, 1, none⟩ = some (.slice m.im'.a m.im.length m.im'.c) ∧ W.cell? ⟨g, 2, none⟩ = some (.slice m.fu'.a m.fu.length m.fu'.c) ∧
    W.cell? ⟨g, 3, none⟩ = some (.slice m.tb'.a m.tb.length m.tb'.c) ∧ W.cell? ⟨g, 4, none⟩ = some (.slice m.me'.a m.me.length m.me'.c) ∧ W.cell? ⟨g, 5, none⟩ = some (.slice m.gl'.a m.gl.length m.gl'.c) ∧ W.cell? ⟨g, 6, none⟩ = some (.slice m.ex'.a m.ex.length m.ex'.c) ∧
    W.cell? ⟨g, 7, none⟩ = some (.bool m.st) ∧ W.cell? ⟨g, 8, none⟩ = some (.int .u32 m.sn) ∧ W.cell? ⟨g, 9, none⟩ = some (.slice m.el'.a m.el.length m.el'.c) ∧ W.cell? ⟨g, 10, none⟩ = some (.slice m.da'.a m.da.length m.da'.c) :=
  ⟨h 0 _ rfl, h 1 _ rfl, h 2 _ rfl, h 3 _ rfl, h 4 _ rfl, h 5 _ rfl, h 6 _ rfl, h 7 _ rfl, h 8 _ rfl, h 9 _ rfl, h 10 _ rfl⟩

set_option maxHeartbeats 1000000 in
theorem chk1 (m : Md) (g : Nat) (W : World) (hx : BoxAt W g m.v) (hm : ModAt W.heap.size W m) (hf : m.few) : Calls Tryz.prog 48 #[.pointer (some ⟨g, 0, none⟩)] W fun e w' => e = .returned (.int .i64 (errI (m.crowded) 141)) ∧ Below W.heap.size W w' := by
  have C := hid (crowded_any m W hm hf.fit)
  obtain ⟨q, hq⟩ : ∃ q, m.crowded = q := ⟨_, rfl⟩
  rw [hq] at C ⊢
  have E := hid (fun w => errIf_any q 141 w)
  unfold Md.v at C
  obtain ⟨c0,c1,c2,c3,c4,c5,c6,c7,c8,c9,c10⟩ := hx.all
  clear hx hm hf hq
  go_enter Tryz.func48, Tryz.ntmps48
  go_wp2_with fail
  refine C.out.mono ?_
  rintro e w1 ⟨rfl, hb1⟩
  clear C c0 c1 c2 c3 c4 c5 c6 c7 c8 c9 c10
  go_wp2_with fail
  refine (E.out _).mono ?_
  rintro e w2 ⟨rfl, rfl⟩
  go_wp2
  go_ret
  exact ⟨rfl, hb1⟩

set_option maxHeartbeats 1000000 in
theorem chk3 (m : Md) (g : Nat) (W : World) (hx : BoxAt W g m.v) (hm : ModAt W.heap.size W m) (hf : m.few) : Calls Tryz.prog 53 #[.pointer (some ⟨g, 0, none⟩)] W fun e w' => e = .returned (.int .i64 (errI (m.anyName longS) 3)) ∧ Below W.heap.size W w' := by
  have C := hid (anyName_any m 55 longS W hm hf.fit (asks_long W))
  obtain ⟨q, hq⟩ : ∃ q, m.anyName longS = q := ⟨_, rfl⟩
  rw [hq] at C ⊢
  have E := hid (fun w => errIf_any q 3 w)
  unfold Md.v at C
  obtain ⟨c0,c1,c2,c3,c4,c5,c6,c7,c8,c9,c10⟩ := hx.all
  clear hx hm hf hq
  go_enter Tryz.func53, Tryz.ntmps53
  go_wp2_with fail
  refine C.out.mono ?_
  rintro e w1 ⟨rfl, hb1⟩
  clear C c0 c1 c2 c3 c4 c5 c6 c7 c8 c9 c10
  go_wp2_with fail
  refine (E.out _).mono ?_
  rintro e w2 ⟨rfl, rfl⟩
  go_wp2
  go_ret
  exact ⟨rfl, hb1⟩

set_option maxHeartbeats 1000000 in
theorem chk4 (m : Md) (g : Nat) (W : World) (hx : BoxAt W g m.v) (hm : ModAt W.heap.size W m) (hf : m.few) : Calls Tryz.prog 56 #[.pointer (some ⟨g, 0, none⟩)] W fun e w' => e = .returned (.int .i64 (errI (m.heavy) 3)) ∧ Below W.heap.size W w' := by
  have C := hid (heavy_any m.da m.da'.a m.da.length m.da'.c W rfl hm.da hf.fit.da)
  unfold Md.heavy
  obtain ⟨q, hq⟩ : ∃ q, decide (1048576 < sumB m.da) = q := ⟨_, rfl⟩
  rw [hq] at C ⊢
  have E := hid (fun w => errIf_any q 3 w)
  obtain ⟨c0,c1,c2,c3,c4,c5,c6,c7,c8,c9,c10⟩ := hx.all
  clear hx hm hf hq
  go_enter Tryz.func56, Tryz.ntmps56
  go_wp2_with fail
  refine C.out.mono ?_
  rintro e w1 ⟨rfl, hb1⟩
  clear C c0 c1 c2 c3 c4 c5 c6 c7 c8 c9 c10
  go_wp2_with fail
  refine (E.out _).mono ?_
  rintro e w2 ⟨rfl, rfl⟩
  go_wp2
  go_ret
  exact ⟨rfl, hb1⟩

set_option maxHeartbeats 1000000 in
theorem chk6 (m : Md) (g : Nat) (W : World) (hx : BoxAt W g m.v) (hm : ModAt W.heap.size W m) (hf : m.few) (hU : Utf.Tabs W) : Calls Tryz.prog 59 #[.pointer (some ⟨g, 0, none⟩)] W fun e w' => e = .returned (.int .i64 (errI (m.anyName noText) 2)) ∧ Below W.heap.size W w' := by
  have C := hid (anyName_any m 60 noText W hm hf.fit (asks_text W hU))
  obtain ⟨q, hq⟩ : ∃ q, m.anyName noText = q := ⟨_, rfl⟩
  rw [hq] at C ⊢
  have E := hid (fun w => errIf_any q 2 w)
  unfold Md.v at C
  obtain ⟨c0,c1,c2,c3,c4,c5,c6,c7,c8,c9,c10⟩ := hx.all
  clear hx hm hf hq
  go_enter Tryz.func59, Tryz.ntmps59
  go_wp2_with fail
  refine C.out.mono ?_
  rintro e w1 ⟨rfl, hb1⟩
  clear C c0 c1 c2 c3 c4 c5 c6 c7 c8 c9 c10
  go_wp2_with fail
  refine (E.out _).mono ?_
  rintro e w2 ⟨rfl, rfl⟩
  go_wp2
  go_ret
  exact ⟨rfl, hb1⟩

set_option maxHeartbeats 1000000 in
theorem chk7 (m : Md) (g : Nat) (W : World) (hx : BoxAt W g m.v) (hm : ModAt W.heap.size W m) (hf : m.few) : Calls Tryz.prog 61 #[.pointer (some ⟨g, 0, none⟩)] W fun e w' => e = .returned (.int .i64 (errI (m.ty.any wrongT) 2)) ∧ Below W.heap.size W w' := by
  have C := hid (any_ty m.ty m.ty'.a m.ty.length m.ty'.c W rfl hm.ty hf.fit.ty 63 #[] (enters_of Tryz.func63 (by kernel_rfl) rfl) wrongT (fun W' x _ _ => by simp only [Array.append_empty]; exact wrongT_any x W'))
  obtain ⟨q, hq⟩ : ∃ q, m.ty.any wrongT = q := ⟨_, rfl⟩
  rw [hq] at C ⊢
  have E := hid (fun w => errIf_any q 2 w)
  obtain ⟨c0,c1,c2,c3,c4,c5,c6,c7,c8,c9,c10⟩ := hx.all
  clear hx hm hf hq
  go_enter Tryz.func61, Tryz.ntmps61
  go_wp2_with fail
  refine C.out.mono ?_
  rintro e w1 ⟨rfl, hb1⟩
  clear C c0 c1 c2 c3 c4 c5 c6 c7 c8 c9 c10
  go_wp2_with fail
  refine (E.out _).mono ?_
  rintro e w2 ⟨rfl, rfl⟩
  go_wp2
  go_ret
  exact ⟨rfl, hb1⟩

set_option maxHeartbeats 1000000 in
theorem chk8 (m : Md) (g : Nat) (W : World) (hx : BoxAt W g m.v) (hm : ModAt W.heap.size W m) (hf : m.few) : Calls Tryz.prog 64 #[.pointer (some ⟨g, 0, none⟩)] W fun e w' => e = .returned (.int .i64 (errI (m.im.any wrongI) 2)) ∧ Below W.heap.size W w' := by
  have C := hid (any_im m.im m.im'.a m.im.length m.im'.c W rfl hm.im hf.fit.im 66 #[] (enters_of Tryz.func66 (by kernel_rfl) rfl) wrongI (fun W' x _ _ => by simp only [Array.append_empty]; exact wrongI_any x W'))
  obtain ⟨q, hq⟩ : ∃ q, m.im.any wrongI = q := ⟨_, rfl⟩
  rw [hq] at C ⊢
  have E := hid (fun w => errIf_any q 2 w)
  obtain ⟨c0,c1,c2,c3,c4,c5,c6,c7,c8,c9,c10⟩ := hx.all
  clear hx hm hf hq
  go_enter Tryz.func64, Tryz.ntmps64
  go_wp2_with fail
  refine C.out.mono ?_
  rintro e w1 ⟨rfl, hb1⟩
  clear C c0 c1 c2 c3 c4 c5 c6 c7 c8 c9 c10
  go_wp2_with fail
  refine (E.out _).mono ?_
  rintro e w2 ⟨rfl, rfl⟩
  go_wp2
  go_ret
  exact ⟨rfl, hb1⟩

set_option maxHeartbeats 1000000 in
theorem chk9 (m : Md) (g : Nat) (W : World) (hx : BoxAt W g m.v) (hm : ModAt W.heap.size W m) (hf : m.few) : Calls Tryz.prog 67 #[.pointer (some ⟨g, 0, none⟩)] W fun e w' => e = .returned (.int .i64 (errI (m.fu.any wrongF) 2)) ∧ Below W.heap.size W w' := by
  have C := hid (any_fu m.fu m.fu'.a m.fu.length m.fu'.c W rfl hm.fu hf.fit.fu 69 #[] (enters_of Tryz.func69 (by kernel_rfl) rfl) wrongF (fun W' x _ _ => by simp only [Array.append_empty]; exact wrongF_any x W'))
  obtain ⟨q, hq⟩ : ∃ q, m.fu.any wrongF = q := ⟨_, rfl⟩
  rw [hq] at C ⊢
  have E := hid (fun w => errIf_any q 2 w)
  obtain ⟨c0,c1,c2,c3,c4,c5,c6,c7,c8,c9,c10⟩ := hx.all
  clear hx hm hf hq
  go_enter Tryz.func67, Tryz.ntmps67
  go_wp2_with fail
  refine C.out.mono ?_
  rintro e w1 ⟨rfl, hb1⟩
  clear C c0 c1 c2 c3 c4 c5 c6 c7 c8 c9 c10
  go_wp2_with fail
  refine (E.out _).mono ?_
  rintro e w2 ⟨rfl, rfl⟩
  go_wp2
  go_ret
  exact ⟨rfl, hb1⟩

set_option maxHeartbeats 1000000 in
theorem chk10 (m : Md) (g : Nat) (W : World) (hx : BoxAt W g m.v) (hm : ModAt W.heap.size W m) (hf : m.few) : Calls Tryz.prog 70 #[.pointer (some ⟨g, 0, none⟩)] W fun e w' => e = .returned (.int .i64 (errI (m.ex.any wrongE) 2)) ∧ Below W.heap.size W w' := by
  have C := hid (any_ex m.ex m.ex'.a m.ex.length m.ex'.c W rfl hm.ex hf.fit.ex 72 #[] (enters_of Tryz.func72 (by kernel_rfl) rfl) wrongE (fun W' x _ _ => by simp only [Array.append_empty]; exact wrongE_any x W'))
  obtain ⟨q, hq⟩ : ∃ q, m.ex.any wrongE = q := ⟨_, rfl⟩
  rw [hq] at C ⊢
  have E := hid (fun w => errIf_any q 2 w)
  obtain ⟨c0,c1,c2,c3,c4,c5,c6,c7,c8,c9,c10⟩ := hx.all
  clear hx hm hf hq
  go_enter Tryz.func70, Tryz.ntmps70
  go_wp2_with fail
  refine C.out.mono ?_
  rintro e w1 ⟨rfl, hb1⟩
  clear C c0 c1 c2 c3 c4 c5 c6 c7 c8 c9 c10
  go_wp2_with fail
  refine (E.out _).mono ?_
  rintro e w2 ⟨rfl, rfl⟩
  go_wp2
  go_ret
  exact ⟨rfl, hb1⟩

set_option maxHeartbeats 1000000 in
theorem chk11 (m : Md) (g : Nat) (W : World) (hx : BoxAt W g m.v) (hm : ModAt W.heap.size W m) (hf : m.few) : Calls Tryz.prog 73 #[.pointer (some ⟨g, 0, none⟩)] W fun e w' => e = .returned (.int .i64 (errI (m.tb.any (beyond 1048576)) 2)) ∧ Below W.heap.size W w' := by
  have C := hid (anyBeyond_any m.tb m.tb'.a m.tb.length m.tb'.c 1048576 W rfl hm.tb hf.fit.tb)
  obtain ⟨q, hq⟩ : ∃ q, m.tb.any (beyond 1048576) = q := ⟨_, rfl⟩
  rw [hq] at C ⊢
  have E := hid (fun w => errIf_any q 2 w)
  obtain ⟨c0,c1,c2,c3,c4,c5,c6,c7,c8,c9,c10⟩ := hx.all
  clear hx hm hf hq
  go_enter Tryz.func73, Tryz.ntmps73
  go_wp2_with fail
  refine C.out.mono ?_
  rintro e w1 ⟨rfl, hb1⟩
  clear C c0 c1 c2 c3 c4 c5 c6 c7 c8 c9 c10
  go_wp2_with fail
  refine (E.out _).mono ?_
  rintro e w2 ⟨rfl, rfl⟩
  go_wp2
  go_ret
  exact ⟨rfl, hb1⟩

set_option maxHeartbeats 1000000 in
theorem chk12 (m : Md) (g : Nat) (W : World) (hx : BoxAt W g m.v) (hm : ModAt W.heap.size W m) (hf : m.few) : Calls Tryz.prog 75 #[.pointer (some ⟨g, 0, none⟩)] W fun e w' => e = .returned (.int .i64 (errI (m.me.any (beyond 65536)) 2)) ∧ Below W.heap.size W w' := by
  have C := hid (anyBeyond_any m.me m.me'.a m.me.length m.me'.c 65536 W rfl hm.me hf.fit.me)
  obtain ⟨q, hq⟩ : ∃ q, m.me.any (beyond 65536) = q := ⟨_, rfl⟩
  rw [hq] at C ⊢
  have E := hid (fun w => errIf_any q 2 w)
  obtain ⟨c0,c1,c2,c3,c4,c5,c6,c7,c8,c9,c10⟩ := hx.all
  clear hx hm hf hq
  go_enter Tryz.func75, Tryz.ntmps75
  go_wp2_with fail
  refine C.out.mono ?_
  rintro e w1 ⟨rfl, hb1⟩
  clear C c0 c1 c2 c3 c4 c5 c6 c7 c8 c9 c10
  go_wp2_with fail
  refine (E.out _).mono ?_
  rintro e w2 ⟨rfl, rfl⟩
  go_wp2
  go_ret
  exact ⟨rfl, hb1⟩

set_option maxHeartbeats 1000000 in
theorem chk2 (m : Md) (g : Nat) (q0 : Int) (W : World) (hx : BoxAt W g m.v) (hm : ModAt W.heap.size W m) (hf : m.few) (hT : Nams W) (hc : W.cell? ⟨g + 1, 0, none⟩ = some (.int .i64 q0)) (hfr : W.frozen? ⟨g + 1, 0, none⟩ = false) :
    Calls Tryz.prog 51 #[.pointer (some ⟨g, 0, none⟩), .pointer (some ⟨g + 1, 0, none⟩)] W fun e w' => e = .returned (.int .i64 (errI (codeP m.codes == 141) 141)) ∧ ∃ w1, Below W.heap.size W w1 ∧ w' = w1.setCell ⟨g + 1, 0, none⟩ (.int .i64 (codeP m.codes)) := by
  have C := hid (codeError_any m W hT hm hf)
  obtain ⟨q, hq⟩ : ∃ q, codeP m.codes = q := ⟨_, rfl⟩
  rw [hq] at C ⊢
  have E := hid (fun w => errIf_any (q == 141) 141 w)
  have HK := hid (show ∀ w1, Below W.heap.size W w1 → w1.cell? ⟨g + 1, 0, none⟩ = some (.int .i64 q0) ∧ w1.frozen? ⟨g + 1, 0, none⟩ = false from fun w1 hb => ⟨Go.Proofs.YtepbjkkakfpjgaaGreatDoor.keep hb hc, (hb.frozen (p := ⟨g + 1, 0, none⟩) (World.block_lt_of_cell? W _ hc)).trans hfr⟩)
  unfold Md.v at C
  obtain ⟨c0,c1,c2,c3,c4,c5,c6,c7,c8,c9,c10⟩ := hx.all
  clear hx hm hf hq hT hc hfr
  go_enter Tryz.func51, Tryz.ntmps51
  go_wp2_with fail
  refine C.out.mono ?_
  rintro e w1 ⟨rfl, hb1⟩
  obtain ⟨k1, k2⟩ := HK.out w1 hb1
  clear C c0 c1 c2 c3 c4 c5 c6 c7 c8 c9 c10
  go_wp2_with fail
  refine (E.out _).mono ?_
  rintro e w2 ⟨rfl, rfl⟩
  go_wp2
  go_ret
  exact ⟨rfl, w1, hb1, rfl⟩
theorem chk5 (g : Nat) (q : Int) (W : World) (hc : W.cell? ⟨g + 1, 0, none⟩ = some (.int .i64 q)) : Calls Tryz.prog 58 #[.pointer (some ⟨g + 1, 0, none⟩)] W fun e w' => e = .returned (.int .i64 q) ∧ Below W.heap.size W w' := by
  go_enter Tryz.func58, Tryz.ntmps58
  go_wp2
  go_ret
  exact ⟨rfl, Below.refl _ _⟩
set_option maxHeartbeats 1000000 in
theorem chk13 (m : Md) (g : Nat) (W : World) (hx : BoxAt W g m.v) : Calls Tryz.prog 76 #[.pointer (some ⟨g, 0, none⟩)] W fun e w' => e = .returned (.int .i64 (errI (!m.st && decide (m.sn ≠ 0)) 2)) ∧ Below W.heap.size W w' := by
  obtain ⟨c0,c1,c2,c3,c4,c5,c6,c7,c8,c9,c10⟩ := hx.all
  obtain ⟨sn, hsn⟩ : ∃ sn, m.sn = sn := ⟨_, rfl⟩
  obtain ⟨st, hst⟩ : ∃ st, m.st = st := ⟨_, rfl⟩
  rw [hsn] at c8 ⊢
  rw [hst] at c7 ⊢
  clear hx hsn hst
  have E := hid (fun b w => errIf_any b 2 w)
  cases st
  · by_cases h : sn = 0
    · subst h
      go_enter Tryz.func76, Tryz.ntmps76
      go_wp2_with fail
      refine (E.out _ _).mono ?_
      rintro e w2 ⟨rfl, rfl⟩
      go_wp2
      go_ret
      exact ⟨by simp, Below.refl _ _⟩
    · have hn1 : (sn == 0) = false := by simpa using h
      have hn2 : (sn != 0) = true := by simpa using h
      have HH := hid h
      clear h
      go_enter Tryz.func76, Tryz.ntmps76
      go_wp2_with fail
      refine (E.out _ _).mono ?_
      rintro e w2 ⟨rfl, rfl⟩
      go_wp2
      go_ret
      exact ⟨by simp [HH.out], Below.refl _ _⟩
  · go_enter Tryz.func76, Tryz.ntmps76
    go_wp2_with fail
    refine (E.out _ _).mono ?_
    rintro e w2 ⟨rfl, rfl⟩
    go_wp2
    go_ret
    exact ⟨by simp, Below.refl _ _⟩
end Go.Proofs.YtepbjkkakfpjgaaGreatDoor.Mod

/-
  MODULE: Check by contract: one check behind the other, until one returns an error.
-/
namespace Go.Proofs.YtepbjkkakfpjgaaGreatDoor.Mod
open Go.RowKit Go.Shelf Go.Proofs.YtepbjkkakfpjgaaGreatDoor.Instr

/-- What the checks return, in order. -/
def Md.outs (m : Md) : List Int := [errI m.crowded 141, errI (codeP m.codes == 141) 141, errI (m.anyName longS) 3, errI m.heavy 3, codeP m.codes, errI (m.anyName noText) 2, errI (m.ty.any wrongT) 2, errI (m.im.any wrongI) 2, errI (m.fu.any wrongF) 2, errI (m.ex.any wrongE) 2,
  errI (m.tb.any (beyond 1048576)) 2, errI (m.me.any (beyond 65536)) 2, errI (!m.st && decide (m.sn ≠ 0)) 2]
/-- The first of them that is an error. -/
def firstE : List Int → Int
  | [] => 0
  | e :: r => if e = 0 then firstE r else e
theorem firstE_hit : ∀ (l : List Int) (k : Nat) (hk : k < l.length), (∀ j (hj : j < l.length), j < k → l[j] = 0) → l[k] ≠ 0 → firstE l = l[k]
  | [], k, hk, _, _ => by simp at hk
  | e :: r, 0, hk, _, h => by simp only [List.getElem_cons_zero] at h ⊢; rw [firstE, if_neg h]
  | e :: r, k + 1, hk, hb, h => by
    have h0 : e = 0 := hb 0 (by simp) (by omega)
    rw [firstE, if_pos h0]
    simp only [List.getElem_cons_succ] at h ⊢
    exact firstE_hit r k (by simpa using hk) (fun j hj hjk => by have := hb (j + 1) (by simp; omega) (by omega); simpa using this) h
theorem firstE_miss : ∀ (l : List Int), (∀ j (hj : j < l.length), l[j] = 0) → firstE l = 0
  | [], _ => rfl
  | e :: r, hb => by
    have h0 : e = 0 := hb 0 (by simp)
    rw [firstE, if_pos h0]
    exact firstE_miss r (fun j hj => by have := hb (j + 1) (by simp; omega); simpa using this)
theorem errI_two (b : Bool) (e r : Int) (he : e ≠ 0) : (if errI b e = 0 then r else errI b e) = if b then e else r := by
  cases b <;> simp [errI, he]
theorem check_outs (m : Md) : m.check = firstE m.outs := by
  unfold Md.outs Md.check
  simp only [firstE, errI_two _ _ _ (show (141 : Int) ≠ 0 by decide), errI_two _ _ _ (show (3 : Int) ≠ 0 by decide), errI_two _ _ _ (show (2 : Int) ≠ 0 by decide)]
  have hc := codeP_cases m.codes
  by_cases h1 : m.crowded = true
  · simp [h1]
  rw [if_neg h1, if_neg h1]
  by_cases h2 : codeP m.codes = 141
  · simp [h2]
  have h2' : ¬ (codeP m.codes == 141) = true := by simpa using h2
  rw [if_neg h2, if_neg h2']
  split
  · rfl
  split
  · rfl
  by_cases h3 : codeP m.codes = 0
  · rw [if_pos h3, if_neg (by omega)]
    unfold Md.wrong
    cases m.anyName noText <;> cases m.ty.any wrongT <;> cases m.im.any wrongI <;> cases m.fu.any wrongF <;> cases m.ex.any wrongE <;> cases m.tb.any (beyond 1048576) <;> cases m.me.any (beyond 65536) <;> cases (!m.st && decide (m.sn ≠ 0)) <;> rfl
  · have h4 : codeP m.codes = 2 := by omega
    rw [if_neg h3, h4]; rfl

/-- The function of the k-th check. -/
def chkF (k : Nat) : Nat := [48, 51, 53, 56, 58, 59, 61, 64, 67, 70, 73, 75, 76].getD k 0
/-- What it has captured. -/
def chkB (g k : Nat) : Array Value := [#[.pointer (some ⟨g, 0, none⟩)], #[.pointer (some ⟨g, 0, none⟩), .pointer (some ⟨g + 1, 0, none⟩)], #[.pointer (some ⟨g, 0, none⟩)], #[.pointer (some ⟨g, 0, none⟩)], #[.pointer (some ⟨g + 1, 0, none⟩)], #[.pointer (some ⟨g, 0, none⟩)], #[.pointer (some ⟨g, 0, none⟩)],
  #[.pointer (some ⟨g, 0, none⟩)], #[.pointer (some ⟨g, 0, none⟩)], #[.pointer (some ⟨g, 0, none⟩)], #[.pointer (some ⟨g, 0, none⟩)], #[.pointer (some ⟨g, 0, none⟩)], #[.pointer (some ⟨g, 0, none⟩)]].getD k #[]
theorem chk_enters (k : Nat) (hk : k < 13) : ∀ args w, (callFunc (chkF k) args).run Tryz.prog w = .ok (.enter (chkF k) args) w := by
  match k, hk with
  | 0, _ => exact enters_of Tryz.func48 (by kernel_rfl) rfl
  | 1, _ => exact enters_of Tryz.func51 (by kernel_rfl) rfl
  | 2, _ => exact enters_of Tryz.func53 (by kernel_rfl) rfl
  | 3, _ => exact enters_of Tryz.func56 (by kernel_rfl) rfl
  | 4, _ => exact enters_of Tryz.func58 (by kernel_rfl) rfl
  | 5, _ => exact enters_of Tryz.func59 (by kernel_rfl) rfl
  | 6, _ => exact enters_of Tryz.func61 (by kernel_rfl) rfl
  | 7, _ => exact enters_of Tryz.func64 (by kernel_rfl) rfl
  | 8, _ => exact enters_of Tryz.func67 (by kernel_rfl) rfl
  | 9, _ => exact enters_of Tryz.func70 (by kernel_rfl) rfl
  | 10, _ => exact enters_of Tryz.func73 (by kernel_rfl) rfl
  | 11, _ => exact enters_of Tryz.func75 (by kernel_rfl) rfl
  | 12, _ => exact enters_of Tryz.func76 (by kernel_rfl) rfl

/-- What holds between two checks. -/
structure Chks (w : World) (m : Md) (k : Nat) (W : World) : Prop where
  below : Below w.heap.size w W
  box : BoxAt W w.heap.size m.v
  code : W.cell? ⟨w.heap.size + 1, 0, none⟩ = some (.int .i64 (if k < 2 then 0 else codeP m.codes))
  fr : W.frozen? ⟨w.heap.size + 1, 0, none⟩ = false
  arr : ∀ j, j < 13 → W.cell? ⟨w.heap.size + 2, j, none⟩ = some (.func (.func (chkF j)) #[] (chkB w.heap.size j))
theorem Chks.go {w : World} {m : Md} {k k' : Nat} {W W' : World} (h : Chks w m k W) (hb : Below W.heap.size W W') (hk : k < 2 ↔ k' < 2) : Chks w m k' W' :=
  ⟨h.below.trans (hb.mono h.below.size), h.box.keep hb, by rw [show (if k' < 2 then (0 : Int) else codeP m.codes) = if k < 2 then 0 else codeP m.codes by by_cases h2 : k < 2 <;> simp [h2, ← hk]]; exact Go.Proofs.YtepbjkkakfpjgaaGreatDoor.keep hb h.code, (hb.frozen (p := ⟨w.heap.size + 1, 0, none⟩) (World.block_lt_of_cell? W _ h.code)).trans h.fr, fun j hj => Go.Proofs.YtepbjkkakfpjgaaGreatDoor.keep hb (h.arr j hj)⟩
theorem Chks.set {w : World} {m : Md} {W W' : World} (h : Chks w m 1 W) (hb : Below W.heap.size W W') : Chks w m 2 (W'.setCell ⟨w.heap.size + 1, 0, none⟩ (.int .i64 (codeP m.codes))) := by
  have h' := h.go (k' := 1) hb Iff.rfl
  refine ⟨h'.below.setCell (p := ⟨w.heap.size + 1, 0, none⟩) (by simp) _, fun j x hj => ?_, ?_, ?_, fun j hj => ?_⟩
  · exact (World.cell?_of_block (w := W') (Below.heap_setCell _ _ _ _ (by simp))).trans (h'.box j x hj)
  · rw [if_neg (by omega)]; exact World.cell?_setCell_same' _ _ _ (by rw [h'.code]; rfl)
  · rw [World.frozen?_setCell]; exact h'.fr
  · exact (World.cell?_of_block (w := W') (Below.heap_setCell _ _ _ _ (by simp))).trans (h'.arr j hj)
/-- One check. -/
theorem chk_step (m : Md) (w : World) (hT : Nams w) (hU : Utf.Tabs w) (hm : ModAt w.heap.size w m) (hf : m.few) (k : Nat) (hk : k < 13) (W : World) (h : Chks w m k W) :
    Calls Tryz.prog (chkF k) (chkB w.heap.size k) W fun e w' => e = .returned (.int .i64 (m.outs.getD k 0)) ∧ Chks w m (k + 1) w' := by
  have hm' := hm.on h.below
  have hT' := hT.below h.below
  have hU' := hU.below h.below
  match k, hk, h with
  | 0, _, h => exact (chk1 m _ W h.box hm' hf).mono fun e w' ⟨he, hb⟩ => ⟨he, h.go hb (by simp)⟩
  | 1, _, h => exact (chk2 m _ _ W h.box hm' hf hT' h.code h.fr).mono fun e w' ⟨he, w1, hb, hw⟩ => ⟨he, by subst hw; exact h.set hb⟩
  | 2, _, h => exact (chk3 m _ W h.box hm' hf).mono fun e w' ⟨he, hb⟩ => ⟨he, h.go hb (by simp)⟩
  | 3, _, h => exact (chk4 m _ W h.box hm' hf).mono fun e w' ⟨he, hb⟩ => ⟨he, h.go hb (by simp)⟩
  | 4, _, h => exact (chk5 _ _ W (by have := h.code; rw [if_neg (by omega)] at this; exact this)).mono fun e w' ⟨he, hb⟩ => ⟨he, h.go hb (by simp)⟩
  | 5, _, h => exact (chk6 m _ W h.box hm' hf hU').mono fun e w' ⟨he, hb⟩ => ⟨he, h.go hb (by simp)⟩
  | 6, _, h => exact (chk7 m _ W h.box hm' hf).mono fun e w' ⟨he, hb⟩ => ⟨he, h.go hb (by simp)⟩
  | 7, _, h => exact (chk8 m _ W h.box hm' hf).mono fun e w' ⟨he, hb⟩ => ⟨he, h.go hb (by simp)⟩
  | 8, _, h => exact (chk9 m _ W h.box hm' hf).mono fun e w' ⟨he, hb⟩ => ⟨he, h.go hb (by simp)⟩
  | 9, _, h => exact (chk10 m _ W h.box hm' hf).mono fun e w' ⟨he, hb⟩ => ⟨he, h.go hb (by simp)⟩
  | 10, _, h => exact (chk11 m _ W h.box hm' hf).mono fun e w' ⟨he, hb⟩ => ⟨he, h.go hb (by simp)⟩
  | 11, _, h => exact (chk12 m _ W h.box hm' hf).mono fun e w' ⟨he, hb⟩ => ⟨he, h.go hb (by simp)⟩
  | 12, _, h => exact (chk13 m _ W h.box).mono fun e w' ⟨he, hb⟩ => ⟨he, h.go hb (by simp)⟩

set_option maxRecDepth 100000 in
set_option maxHeartbeats 2000000 in
theorem ModCheck_any (m : Md) (w : World) (hT : Nams w) (hU : Utf.Tabs w) (hm : ModAt w.heap.size w m) (hf : m.few) :
    Calls Tryz.prog 23 #[.agg m.v] w fun e w' => e = .returned (.int .i64 m.check) ∧ Below w.heap.size w w' := by
  have HS := hid (chk_step m w hT hU hm hf)
  have HE := hid (check_outs m)
  have HL := hid (show m.outs.length = 13 from rfl)
  have h0 : Chks w m 0 (((w.alloc (.cells m.v 32)).alloc (.cells #[.int .i64 0] 36)).alloc (.cells #[.func (.func 48) #[] #[.pointer (some ⟨w.heap.size, 0, none⟩)], .func (.func 51) #[] #[.pointer (some ⟨w.heap.size, 0, none⟩), .pointer (some ⟨w.heap.size + 1, 0, none⟩)], .func (.func 53) #[] #[.pointer (some ⟨w.heap.size, 0, none⟩)], .func (.func 56) #[] #[.pointer (some ⟨w.heap.size, 0, none⟩)], .func (.func 58) #[] #[.pointer (some ⟨w.heap.size + 1, 0, none⟩)], .func (.func 59) #[] #[.pointer (some ⟨w.heap.size, 0, none⟩)], .func (.func 61) #[] #[.pointer (some ⟨w.heap.size, 0, none⟩)], .func (.func 64) #[] #[.pointer (some ⟨w.heap.size, 0, none⟩)], .func (.func 67) #[] #[.pointer (some ⟨w.heap.size, 0, none⟩)], .func (.func 70) #[] #[.pointer (some ⟨w.heap.size, 0, none⟩)], .func (.func 73) #[] #[.pointer (some ⟨w.heap.size, 0, none⟩)], .func (.func 75) #[] #[.pointer (some ⟨w.heap.size, 0, none⟩)], .func (.func 76) #[] #[.pointer (some ⟨w.heap.size, 0, none⟩)]] 92)) := by
    refine ⟨thenA (thenA (thenA (Below.refl _ _) _) _) _, ?_, by simp [go_sem], by simp [go_sem], fun j hj => ?_⟩
    · exact (BoxAt.made w m.v _).keep (((Below.refl _ _).alloc (Nat.le_refl _) _).alloc (by simp) _)
    · match j, hj with
      | 0, _ | 1, _ | 2, _ | 3, _ | 4, _ | 5, _ | 6, _ | 7, _ | 8, _ | 9, _ | 10, _ | 11, _ | 12, _ => simp [go_sem, chkF, chkB]
  clear hT hU hm hf
  unfold Md.v at h0 ⊢
  go_enter Tryz.func23, Tryz.ntmps23
  go_wp2
  generalize (((w.alloc (.cells #[.slice m.ty'.a m.ty.length m.ty'.c, .slice m.im'.a m.im.length m.im'.c, .slice m.fu'.a m.fu.length m.fu'.c, .slice m.tb'.a m.tb.length m.tb'.c, .slice m.me'.a m.me.length m.me'.c, .slice m.gl'.a m.gl.length m.gl'.c, .slice m.ex'.a m.ex.length m.ex'.c, .bool m.st, .int .u32 m.sn, .slice m.el'.a m.el.length m.el'.c, .slice m.da'.a m.da.length m.da'.c] 32)).alloc (.cells #[.int .i64 0] 36)).alloc (.cells #[.func (.func 48) #[] #[.pointer (some ⟨w.heap.size, 0, none⟩)], .func (.func 51) #[] #[.pointer (some ⟨w.heap.size, 0, none⟩), .pointer (some ⟨w.heap.size + 1, 0, none⟩)], .func (.func 53) #[] #[.pointer (some ⟨w.heap.size, 0, none⟩)], .func (.func 56) #[] #[.pointer (some ⟨w.heap.size, 0, none⟩)], .func (.func 58) #[] #[.pointer (some ⟨w.heap.size + 1, 0, none⟩)], .func (.func 59) #[] #[.pointer (some ⟨w.heap.size, 0, none⟩)], .func (.func 61) #[] #[.pointer (some ⟨w.heap.size, 0, none⟩)], .func (.func 64) #[] #[.pointer (some ⟨w.heap.size, 0, none⟩)], .func (.func 67) #[] #[.pointer (some ⟨w.heap.size, 0, none⟩)], .func (.func 70) #[] #[.pointer (some ⟨w.heap.size, 0, none⟩)], .func (.func 73) #[] #[.pointer (some ⟨w.heap.size, 0, none⟩)], .func (.func 75) #[] #[.pointer (some ⟨w.heap.size, 0, none⟩)], .func (.func 76) #[] #[.pointer (some ⟨w.heap.size, 0, none⟩)]] 92)) = W0 at h0 ⊢
  have H0 := hid h0
  clear h0
  go_loopw [22] (fun vi wr => ∃ k : Nat, vi = .int .i64 k ∧ k ≤ 13 ∧ Hid (Chks w m k wr) ∧ Hid (∀ j (hj : j < m.outs.length), j < k → m.outs[j] = 0)) (fun vi _ => 13 - (intOf vi).toNat)
  case atStart => exact ⟨0, rfl, Nat.zero_le _, H0, fun j _ h => absurd h (Nat.not_lt_zero _)⟩
  case round =>
    obtain ⟨k, rfl, hk, HC, HA⟩ := hrel
    clear H0
    by_cases hlt : k < 13
    · have hkl : k < m.outs.length := by rw [HL.out]; exact hlt
      have eg := chk_enters k hlt
      have C := hid (HS.out k hlt wr HC.out)
      have hc : wr.cell? ⟨w.heap.size + 1 + 1, k, none⟩ = some (.func (.func (chkF k)) #[] (chkB w.heap.size k)) := HC.out.arr k hlt
      have HG := hid (show m.outs.getD k 0 = m.outs[k] by simp [hkl])
      obtain ⟨G, hG⟩ : ∃ G, chkF k = G := ⟨_, rfl⟩
      obtain ⟨L, hL⟩ : ∃ L, chkB w.heap.size k = L := ⟨_, rfl⟩
      obtain ⟨q, hq⟩ : ∃ q, m.outs.getD k 0 = q := ⟨_, rfl⟩
      rw [hG] at eg C hc
      rw [hL] at C hc
      rw [hq] at C HG
      clear hG hL hq
      have hki : (k : Int) < 13 := by omega
      by_cases h0 : q = 0
      · subst h0
        go_wp2_with (go_at_fn G; refine C.out.mono ?_; rintro e w1 ⟨rfl, hC1⟩)
        go_roundw
        case rel =>
          refine ⟨k + 1, by go_num, by omega, hC1, hid fun j hj hjk => ?_⟩
          by_cases e : j = k
          · subst e; exact HG.out.symm
          · exact HA.out j hj (by omega)
        case measure => simp [intOf]; omega
      · have HF := hid (show m.check = q by
          rw [HE.out, firstE_hit _ k hkl HA.out (by rw [← HG.out]; exact h0), ← HG.out])
        have hq1 : (q == 0) = false := by simpa using h0
        have hq2 : (q != 0) = true := by simpa using h0
        go_wp2_with (go_at_fn G; refine C.out.mono ?_; rintro e w1 ⟨rfl, hC1⟩)
        go_ret
        exact ⟨ret_int HF.out.symm, hC1.below⟩
    · obtain rfl : k = 13 := by omega
      have HF := hid (show m.check = 0 by
        rw [HE.out]; exact firstE_miss _ (fun j hj => HA.out j hj (by rw [HL.out] at hj; exact hj)))
      go_wp2
      go_ret
      exact ⟨ret_int HF.out.symm, HC.out.below⟩
end Go.Proofs.YtepbjkkakfpjgaaGreatDoor.Mod

/-
  What the row lists is what the walks ask: the table of names, and the two of unicode/utf8.
-/
namespace Go.Proofs.YtepbjkkakfpjgaaGreatDoor
open Go.RowKit Go.Lib

theorem u8Extra : U8Extra Tryz.prog Tryz.lays260_ren := ⟨by kernel_rfl, by kernel_rfl, by kernel_rfl, by kernel_rfl, by kernel_rfl, by kernel_rfl, by kernel_rfl⟩
def laid3 : List (String × DataW Unit) := [("unicode/utf8.acceptRanges", Rows.laid_unicode_utf8_acceptRanges), ("gimlet/instr.names", Rows.laid_gimlet_instr_names), ("unicode/utf8.first", Rows.laid_unicode_utf8_first)]
theorem accept_eq : (Rows.laid_unicode_utf8_acceptRanges : DataW Unit) = acceptData := by kernel_rfl
theorem tabs_3 {W : World} (hL : laidMet Tryz.prog laid3 W) : Instr.Nams W ∧ Utf.Tabs W := by
  refine ⟨nams_of (.tail _ (.head _)) hL, utf8Tabs_of_reads (ρ := Tryz.lays260_ren) Tryz.lays260 u8Extra (Pinned.utf8First_eq ▸ Lib.laidMet.reads hL (.tail _ (.tail _ (.head _)))) ?_⟩
  have h := Lib.laidMet.reads hL (.head _)
  rw [accept_eq] at h
  exact h
end Go.Proofs.YtepbjkkakfpjgaaGreatDoor
