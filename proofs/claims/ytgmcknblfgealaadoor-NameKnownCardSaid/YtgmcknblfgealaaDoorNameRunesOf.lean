/-
  NAME: Bad and Runes by contracts.
-/
import Derived.Test.YtgmcknblfgealaaDoorNameBad
import Derived.Test.YtgmcknblfgealaaDoorInts
import Derived.Test.YtgmcknblfgealaaDoorKitBytes
namespace Go.Proofs.YtgmcknblfgealaaDoor.Utf
open Go.RowKit

theorem infoInt : (Tryd.prog.info? 3).map (fun i => (i.zero, i.size, i.bytes)) = some (some (.int .i64 0), 1, 8) := by kernel_rfl

theorem Bad_any (a : Option Addr) (len cap : Nat) (zs : List Int) (w : World) (hlen : zs.length = len) (hz : Bytes w a zs) (hT : Tabs w) :
    Calls Tryd.prog 13 #[.slice a len cap] w fun e w' => e = .returned (.int .i64 (badL zs)) ∧ Below w.heap.size w w' := by
  have e1 := str_of hz len cap hlen
  clear hlen
  go_enter Tryd.func13, Tryd.ntmps13
  go_wp2_with fail
  refine (bad_any zs hz.byte _ hT).mono ?_
  rintro e w1 ⟨rfl, hb1⟩
  go_wp2
  go_ret
  exact ⟨rfl, hb1⟩

/-- What Runes hands back: the runes, no fault; or none, and the fault. -/
def faultL (zs : List Int) : Int × Int := if (scan zs).2 = zs.length then (0, 0) else (4, (scan zs).2)
def runesL (zs : List Int) : List Int := if (scan zs).2 = zs.length then (scan zs).1 else []

set_option maxHeartbeats 1600000 in
theorem Runes_bad (a : Option Addr) (len cap : Nat) (zs : List Int) (w : World) (hlen : zs.length = len) (hz : Bytes w a zs) (hT : Tabs w) (hbad : (scan zs).2 ≠ zs.length) :
    Calls Tryd.prog 10 #[.slice a len cap] w fun e w' => e = .returned (.tuple #[.slice none 0 0, .agg #[.int .i64 4, .int .i64 (scan zs).2]]) ∧ Below w.heap.size w w' := by
  have e1 := str_of (hz.alloc (.cells #[.int .i64 0, .int .i64 0] 27)) len cap hlen
  clear hlen
  go_enter Tryd.func10, Tryd.ntmps10
  go_wp2_with fail
  refine (bad_any zs hz.byte _ (hT.alloc _)).mono ?_
  rw [badL_some hbad]
  rintro e w1 ⟨rfl, hb1⟩
  obtain ⟨c0, c1, f0, f1, hs⟩ := two hb1
  have hA := ((Below.refl w.heap.size w).alloc (Nat.le_refl _) (.cells #[.int .i64 0, .int .i64 0] 27)).trans (hb1.mono (by simp))
  clear hb1 e1 hbad
  go_wp2
  refine bodyPost_ret (v := .tuple #[.slice none 0 0, .agg #[.int .i64 4, .int .i64 (scan zs).2]]) (by simp [results, Tryd.results10, go_sem, c0, c1]) rfl ⟨rfl, ?_⟩
  exact (hA.setCell (by simp) _).setCell (by simp) _

theorem count_le (s : ByteArray) : Lib.runeCount s ≤ s.size := Lib.runeCount_le s

set_option maxHeartbeats 3200000 in
theorem Runes_good (a : Option Addr) (len cap : Nat) (zs : List Int) (w : World) (hlen : zs.length = len) (hz : Bytes w a zs) (hT : Tabs w) (hgood : (scan zs).2 = zs.length) (hbig : zs.length ≤ 8796093022208) :
    Calls Tryd.prog 10 #[.slice a len cap] w fun e w' => ∃ v, e = .returned (.tuple #[v, .agg #[.int .i64 0, .int .i64 0]]) ∧ OwnK 3 .i64 w.heap.size w' v (scan zs).1 ∧ Below w.heap.size w w' := by
  have e1 := str_of (hz.alloc (.cells #[.int .i64 0, .int .i64 0] 27)) len cap hlen
  have hmax := hz.size
  have D1 : ∀ pos n k, atL (zs.drop pos) = some (n, k) → Utf8.decode (strOfNums zs) pos = (n.toNat, k) := fun pos n k h => decode_some hz.byte h
  have hcl := count_le (strOfNums zs)
  have hsz : (strOfNums zs).size = zs.length := strOfNums_size zs
  have HB := hid (bad_any zs hz.byte (w.alloc (.cells #[.int .i64 0, .int .i64 0] 27)) (hT.alloc _))
  have H1 := hid D1
  have HG := hid hgood
  have HL := hid hlen
  generalize strOfNums zs = s at *
  clear D1 hT hz hgood hlen
  go_enter Tryd.func10, Tryd.ntmps10
  go_wp2_with fail
  refine HB.out.mono ?_
  rw [badL_none HG.out]
  rintro e w1 ⟨rfl, hb1⟩
  obtain ⟨c0, c1, f0, f1, hs⟩ := two hb1
  have hA := ((Below.refl w.heap.size w).alloc (Nat.le_refl _) (.cells #[.int .i64 0, .int .i64 0] 27)).trans (hb1.mono (by simp))
  clear hb1 e1 HB
  go_wp2_with fail
  refine (Tryd.utf8_RuneCountInString s w1 (by omega)).mono ?_
  rintro e w2' ⟨rfl, pos0, hw2⟩
  have hb2 : Below w1.heap.size w1 w2' := by rw [hw2]; exact (Below.refl _ _).alloc (Nat.le_refl _) _
  clear hw2
  obtain ⟨w3, hmk, hown, hb3, hs3⟩ := make_none infoInt Tryd.underlying24 w2' (Lib.runeCount s) (by omega) (by omega)
  have hs2 := hb2.size
  have hb13 := thenB hb2 hb3
  have c0 := keep hb13 c0
  have c1 := keep hb13 c1
  have f0 := (hb13.frozen (p := ⟨w.heap.size, 0, none⟩) hs).trans f0
  have f1 := (hb13.frozen (p := ⟨w.heap.size, 1, none⟩) hs).trans f1
  have hA3 := hA.trans (hb13.mono (by omega))
  generalize Lib.runeCount s = rc at *
  clear hb2 hb3 hb13 hmax
  have hs3' : w2'.heap.size ≤ (w3.iter s 0).heap.size := by unfold World.iter; simp; omega
  go_wp2
  go_loopw [6, 8] (fun v _ wr => ∃ (pos : Nat) (acc : List Int), OwnK 3 .i64 w2'.heap.size wr v acc ∧ wr.heap[w3.heap.size]? = some (.stringIter s pos) ∧ Below w2'.heap.size w3 wr ∧ w2'.heap.size ≤ wr.heap.size ∧ pos ≤ zs.length ∧ acc.length ≤ pos ∧
      scan zs = (acc ++ (scan (zs.drop pos)).1, pos + (scan (zs.drop pos)).2)) (fun _ _ wr => zs.length - wr.iterPos w3.heap.size)
  case atStart => exact ⟨0, [], hown.alloc _, World.iter_heap w3 s 0, (Below.refl _ _).alloc hs3 _, hs3', Nat.zero_le _, by simp, by simp⟩
  case round =>
    obtain ⟨pos, acc, hown, hk, hbw, hsw, hpos, hacc, hsc⟩ := hrel
    have HS := hid hsc
    clear hsc
    by_cases hp : pos < s.size
    · cases ha : atL (zs.drop pos) with
      | none =>
        exfalso
        have h := congrArg Prod.snd HS.out
        rw [scan_none ha] at h
        have := HG.out
        simp only at h
        omega
      | some q =>
        obtain ⟨n, k⟩ := q
        obtain ⟨hn, _, _, hk1, _, hkl⟩ := atL_some ha
        have hd := H1.out pos n k ha
        have hnx : ∀ ty, (Instr.next (.pointer (some ⟨w3.heap.size, 0, none⟩)) true ty).run Tryd.prog wr = .ok (.tuple #[.bool true, .int .i64 pos, .int .i32 n]) (wr.iterAt w3.heap.size s (pos + k)) := fun ty => by
          rw [Lib.run_next_any_at wr w3.heap.size s pos ty hk hp, hd]
          have := hn.1
          simp only [Int.toNat_of_nonneg this]
        have hown1 := hown.iterAt hk (pos + k)
        have hb1 := Lib.below_iterAt hbw hs3 s (pos + k)
        have hk1' := Lib.iterAt_heap wr w3.heap.size s pos (pos + k) hk
        have hit0 : wr.iterPos w3.heap.size = pos := by unfold World.iterPos; rw [hk]
        have hsz1 : w2'.heap.size ≤ (wr.iterAt w3.heap.size s (pos + k)).heap.size := by rw [Lib.iterAt_size]; exact hsw
        have HF : Hid (scan zs = ((acc ++ [n]) ++ (scan (zs.drop (pos + k))).1, (pos + k) + (scan (zs.drop (pos + k))).2)) := by
          have h := HS.out
          rw [scan_some ha, List.drop_drop] at h
          show _ = _
          rw [h]
          simp [Nat.add_assoc]
        have hlk : pos + k ≤ zs.length := by simp at hkl; omega
        have HLL : Hid ((acc ++ [n]).length ≤ pos + k) := by show _ ≤ _; simp; omega
        clear hd ha HS hown hk hbw hsw hkl
        obtain ⟨h0, h1, _⟩ := hn
        generalize wr.iterAt w3.heap.size s (pos + k) = w4 at *
        obtain ⟨av, cv, rfl⟩ := hown1.sliceN rfl
        go_wp2_with (first | (at_builtin; refine append_num infoInt Tryd.underlying24 rfl (.tmp 25) (.tmp 28) rfl n rfl hown1 hb1 hsz1 rfl (by omega) (by omega) ?_; intro v' w5 hown5 hb5 hs5 hit5))
        go_roundw
        case rel => exact ⟨pos + k, acc ++ [n], hown5, hit5 _ _ _ hk1', hb5, hs5, hlk, HLL.out, HF.out⟩
        case measure =>
          have : w5.iterPos w3.heap.size = pos + k := by unfold World.iterPos; rw [hit5 _ _ _ hk1']
          rw [this, hit0]; omega
    · have hnx : ∀ ty, (Instr.next (.pointer (some ⟨w3.heap.size, 0, none⟩)) true ty).run Tryd.prog wr = _ := fun ty => Lib.run_next_end_at wr w3.heap.size s pos ty hk hp
      have HF : Hid (scan zs = (acc, pos)) := by
        have h := HS.out
        rw [List.drop_eq_nil_of_le (by omega), scan_nil] at h
        show _ = _
        simpa using h
      have hAw := hA3.trans (hbw.mono (by omega))
      have hlt : w.heap.size < w2'.heap.size := by omega
      have c0 := (hbw.cell (p := ⟨w.heap.size, 0, none⟩) hlt).trans c0
      have c1 := (hbw.cell (p := ⟨w.heap.size, 1, none⟩) hlt).trans c1
      have f0 := (hbw.frozen (p := ⟨w.heap.size, 0, none⟩) hlt).trans f0
      have f1 := (hbw.frozen (p := ⟨w.heap.size, 1, none⟩) hlt).trans f1
      obtain ⟨av, cv, rfl⟩ := hown.sliceN rfl
      clear hA hA3 hbw hk
      go_wp2
      refine bodyPost_ret (v := .tuple #[.slice av acc.length cv, .agg #[.int .i64 0, .int .i64 0]]) (by simp [results, Tryd.results10, go_sem, c0, c1]) rfl ⟨_, rfl, ?_, ?_⟩
      · rw [HF.out]
        exact ((hown.setCell (p := ⟨w.heap.size, 0, none⟩) hlt _).setCell (p := ⟨w.heap.size, 1, none⟩) hlt _).mono (by omega)
      · exact (hAw.setCell (by simp) _).setCell (by simp) _

/-- What Runes hands back. -/
def GotRunes (w : World) (zs : List Int) (e : Ending) (w' : World) : Prop :=
  ∃ v, e = .returned (.tuple #[v, .agg #[.int .i64 (faultL zs).1, .int .i64 (faultL zs).2]]) ∧ OwnK 3 .i64 w.heap.size w' v (runesL zs) ∧ Below w.heap.size w w'
theorem own_nothing (e : TypeId) (k : IntKind) (base : Nat) (w : World) : OwnK e k base w (.slice none 0 0) [] := World.ownsRow_nil _ _ _ _
theorem Runes_any (a : Option Addr) (len cap : Nat) (zs : List Int) (w : World) (hlen : zs.length = len) (hz : Bytes w a zs) (hT : Tabs w) (hbig : zs.length ≤ 8796093022208) :
    Calls Tryd.prog 10 #[.slice a len cap] w (GotRunes w zs) := by
  by_cases h : (scan zs).2 = zs.length
  · refine (Runes_good a len cap zs w hlen hz hT h hbig).mono ?_
    rintro e w' ⟨v, rfl, ho, hb⟩
    refine ⟨v, ?_, ?_, hb⟩
    · unfold faultL; rw [if_pos h]
    · unfold runesL; rw [if_pos h]; exact ho
  · refine (Runes_bad a len cap zs w hlen hz hT h).mono ?_
    rintro e w' ⟨rfl, hb⟩
    refine ⟨.slice none 0 0, ?_, ?_, hb⟩
    · unfold faultL; rw [if_neg h]
    · unfold runesL; rw [if_neg h]; exact own_nothing _ _ _ _
end Go.Proofs.YtgmcknblfgealaaDoor.Utf
