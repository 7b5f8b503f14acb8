/-
  NAME: bad, the search for the first byte that is no text, by contract: it answers what the plain function 'badL' tells.
-/
import Derived.Test.YtlfflomeaplidaaDoorUtfDecode
import Derived.Test.YtlfflomeaplidaaDoorBase2
import Derived.Test.YtlfflomeaplidaaDoorShelf
import Derived.Lib.OthersKept
namespace Go.Proofs.YtlfflomeaplidaaDoor.Utf
open Go.RowKit

/-- The two tables of unicode/utf8 lie as the row lists them. -/
def Tabs (w : World) : Prop := Lib.Utf8Tabs 1 2 w
theorem Tabs.below {w w' : World} (h : Tabs w) (hb : Below w.heap.size w w') : Tabs w' := Utf8Tabs_below h hb
theorem Tabs.alloc {w : World} (h : Tabs w) (o : Obj) : Tabs (w.alloc o) := h.below ((Below.refl _ _).alloc (Nat.le_refl _) o)

theorem str_tail (zs : List Int) (i : Nat) : (strOfNums zs).extract i zs.length = strOfNums (zs.drop i) := by
  apply ByteArray.ext
  apply Array.toList_inj.1
  rw [ByteArray.data_extract, Array.toList_extract, strOfNums_data, strOfNums_data]
  simp
  rw [List.take_of_length_le (by simp)]

set_option maxHeartbeats 800000 in
theorem bad_any (zs : List Int) (hb : ∀ z ∈ zs, 0 ≤ z ∧ z < 256) (w : World) (hT : Tabs w) :
    Calls Tryd.prog 115 #[.string (strOfNums zs)] w fun e w' => e = .returned (.int .i64 (badL zs)) ∧ Below w.heap.size w w' := by
  have D1 : ∀ pos n k, atL (zs.drop pos) = some (n, k) → Utf8.decode (strOfNums zs) pos = (n.toNat, k) := fun pos n k h => decode_some hb h
  have D2 : ∀ pos, pos < zs.length → atL (zs.drop pos) = none → Utf8.decode (strOfNums zs) pos = (65533, 1) := fun pos h h' => decode_none hb h h'
  have D3 : ∀ pos, pos < zs.length → Lib.decodeGo ((strOfNums zs).extract pos zs.length) = Utf8.decode (strOfNums zs) pos := fun pos h => by
    rw [str_tail]
    unfold Lib.decodeGo
    rw [strOfNums_size, List.length_drop, if_neg (by omega), decode_eq (mem_drop_bytes hb pos), decode_eq hb]
    rfl
  have hs : (strOfNums zs).size = zs.length := strOfNums_size zs
  generalize strOfNums zs = s at *
  have H1 := hid D1
  have H2 := hid D2
  have H3 := hid D3
  clear D1 D2 D3 hb
  go_enter Tryd.func115, Tryd.ntmps115
  go_wp2
  go_loopw [3] (fun _ wr => ∃ pos : Nat, wr.heap[w.heap.size]? = some (.stringIter s pos) ∧ Below w.heap.size w wr ∧ pos ≤ zs.length ∧ (scan zs).2 = pos + (scan (zs.drop pos)).2)
    (fun _ wr => zs.length - wr.iterPos w.heap.size)
  case atStart => exact ⟨0, World.iter_heap w s 0, (Below.refl _ _).alloc (Nat.le_refl _) _, Nat.zero_le _, by simp⟩
  case round =>
    obtain ⟨pos, hk, hbw, hpos, hsc⟩ := hrel
    have HS := hid hsc
    clear hsc
    have hT' : Tabs wr := hT.below hbw
    by_cases hp : pos < s.size
    · cases ha : atL (zs.drop pos) with
      | none =>
        have hd := H2.out pos (by omega) ha
        have hnx : ∀ ty, (Instr.next (.pointer (some ⟨w.heap.size, 0, none⟩)) true ty).run Tryd.prog wr = .ok (.tuple #[.bool true, .int .i64 pos, .int .i32 65533]) (wr.iterAt w.heap.size s (pos + 1)) := fun ty => by
          rw [Lib.run_next_any_at wr w.heap.size s pos ty hk hp, hd]; rfl
        have hw1 := Lib.below_iterAt hbw (Nat.le_refl _) s (pos + 1)
        have hT1 : Tabs (wr.iterAt w.heap.size s (pos + 1)) := hT.below hw1
        have HF : Hid (badL zs = pos) := by
          have h := HS.out
          rw [scan_none ha] at h
          show _ = _
          rw [badL_some (by omega)]
          simp at h; omega
        have HD := hid ((H3.out pos (by omega)).trans hd)
        clear hd ha hT hT'
        generalize wr.iterAt w.heap.size s (pos + 1) = w1 at *
        go_wp2_with fail
        refine (Tryd.utf8_DecodeRuneInString _ _ hT1).mono ?_
        rw [HD.out]
        rintro e w2 ⟨rfl, hb2⟩
        go_wp2
        go_ret
        exact ⟨ret_int HF.out.symm, hw1.trans (hb2.mono (by have := hw1.size; omega))⟩
      | some q =>
        obtain ⟨n, k⟩ := q
        obtain ⟨hn, _, _, hk1, _, hkl⟩ := atL_some ha
        have hd := H1.out pos n k ha
        have hnx : ∀ ty, (Instr.next (.pointer (some ⟨w.heap.size, 0, none⟩)) true ty).run Tryd.prog wr = .ok (.tuple #[.bool true, .int .i64 pos, .int .i32 n]) (wr.iterAt w.heap.size s (pos + k)) := fun ty => by
          rw [Lib.run_next_any_at wr w.heap.size s pos ty hk hp, hd]
          have := hn.1
          simp only [Int.toNat_of_nonneg this]
        have hw1 := Lib.below_iterAt hbw (Nat.le_refl _) s (pos + k)
        have hT1 : Tabs (wr.iterAt w.heap.size s (pos + k)) := hT.below hw1
        have hk1' := Lib.iterAt_heap wr w.heap.size s pos (pos + k) hk
        have hit : (wr.iterAt w.heap.size s (pos + k)).iterPos w.heap.size = pos + k := by unfold World.iterPos; rw [hk1']
        have hit0 : wr.iterPos w.heap.size = pos := by unfold World.iterPos; rw [hk]
        have HF : Hid ((scan zs).2 = (pos + k) + (scan (zs.drop (pos + k))).2) := by
          have h := HS.out
          rw [scan_some ha, List.drop_drop] at h
          show _ = _
          simp only at h
          omega
        have hlk : pos + k ≤ zs.length := by simp at hkl; omega
        by_cases he : n = 65533
        · subst he
          obtain rfl := error_three ha
          have HD := hid ((H3.out pos (by omega)).trans hd)
          clear hd ha hT hT' hn
          generalize wr.iterAt w.heap.size s (pos + 3) = w1 at *
          go_wp2_with fail
          refine (Tryd.utf8_DecodeRuneInString _ _ hT1).mono ?_
          rw [HD.out]
          rintro e w2 ⟨rfl, hb2⟩
          have hlt : w.heap.size < w1.heap.size := (Array.getElem?_eq_some_iff.1 hk1').1
          have hk2 := (hb2.block _ hlt).trans hk1'
          have hit2 : w2.iterPos w.heap.size = pos + 3 := by unfold World.iterPos; rw [hk2]
          go_wp2
          go_roundw
          case rel => exact ⟨pos + 3, hk2, hw1.trans (hb2.mono (by omega)), hlk, HF.out⟩
          case measure => rw [hit2, hit0]; omega
        · clear hd ha hT hT'
          generalize wr.iterAt w.heap.size s (pos + k) = w1 at *
          go_wp2
          go_roundw
          case rel => exact ⟨pos + k, hk1', hw1, hlk, HF.out⟩
          case measure => rw [hit, hit0]; omega
    · have hnx : ∀ ty, (Instr.next (.pointer (some ⟨w.heap.size, 0, none⟩)) true ty).run Tryd.prog wr = _ := fun ty => Lib.run_next_end_at wr w.heap.size s pos ty hk hp
      have HF : Hid (badL zs = -1) := badL_none (by
        have h := HS.out
        rw [List.drop_eq_nil_of_le (by omega), scan_nil] at h
        simp at h; omega)
      go_wp2
      go_ret
      exact ⟨ret_int HF.out.symm, hbw⟩
end Go.Proofs.YtlfflomeaplidaaDoor.Utf
