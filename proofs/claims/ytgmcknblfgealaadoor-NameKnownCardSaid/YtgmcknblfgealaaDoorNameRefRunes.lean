/-
  NAME: the document's own answers, by contracts: Runes, Bad.
-/
import Derived.Test.YtgmcknblfgealaaDoorNameAt
import Derived.Test.YtgmcknblfgealaaDoorNameRunesOf
namespace Go.Proofs.YtgmcknblfgealaaDoor.Utf
open Go.RowKit

set_option maxHeartbeats 3200000 in
theorem refRunes_any (a : Option Addr) (len cap : Nat) (zs : List Int) (w : World) (hlen : zs.length = len) (hz : Bytes w a zs) (hbig : zs.length ≤ 8796093022208) :
    Calls Tryd.prog 11 #[.slice a len cap] w (GotRunes w zs) := by
  have HL := hid hlen
  have hz1 := hz.alloc (.cells #[.int .i64 0, .int .i64 0] 27)
  have c0 : (w.alloc (.cells #[.int .i64 0, .int .i64 0] 27)).cell? ⟨w.heap.size, 0, none⟩ = some (.int .i64 0) := by go_simp
  have c1 : (w.alloc (.cells #[.int .i64 0, .int .i64 0] 27)).cell? ⟨w.heap.size, 1, none⟩ = some (.int .i64 0) := by go_simp
  have f0 : (w.alloc (.cells #[.int .i64 0, .int .i64 0] 27)).frozen? ⟨w.heap.size, 0, none⟩ = false := by go_simp
  have f1 : (w.alloc (.cells #[.int .i64 0, .int .i64 0] 27)).frozen? ⟨w.heap.size, 1, none⟩ = false := by go_simp
  have hA : Below w.heap.size w (w.alloc (.cells #[.int .i64 0, .int .i64 0] 27)) := (Below.refl _ _).alloc (Nat.le_refl _) _
  have hlt : w.heap.size < (w.alloc (.cells #[.int .i64 0, .int .i64 0] 27)).heap.size := by simp
  rw [hlen] at hbig
  clear hlen hz
  go_enter Tryd.func11, Tryd.ntmps11
  go_wp2
  generalize w.alloc (.cells #[.int .i64 0, .int .i64 0] 27) = wa at *
  go_loopw [4, 5] (fun v vi wr => ∃ (pos : Nat) (acc : List Int), vi = .int .i64 pos ∧ OwnK 3 .i64 wa.heap.size wr v acc ∧ Below wa.heap.size wa wr ∧ wa.heap.size ≤ wr.heap.size ∧ pos ≤ len ∧ acc.length ≤ pos ∧
      scan zs = (acc ++ (scan (zs.drop pos)).1, pos + (scan (zs.drop pos)).2)) (fun _ vi _ => len - (intOf vi).toNat)
  case atStart => exact ⟨0, [], rfl, own_nothing _ _ _ _, Below.refl _ _, Nat.le_refl _, Nat.zero_le _, by simp, by simp⟩
  case round =>
    obtain ⟨pos, acc, rfl, hown, hbw, hsw, hpos, hacc, hsc⟩ := hrel
    have HS := hid hsc
    clear hsc
    obtain ⟨av, cv, rfl⟩ := hown.sliceN rfl
    have hAw := hA.trans (hbw.mono (by omega))
    by_cases hp : pos < len
    · cases ha : atL (zs.drop pos) with
      | none =>
        have HF : Hid (faultL zs = (4, (pos : Int))) := by
          have h := congrArg Prod.snd HS.out
          rw [scan_none ha] at h
          simp only [Nat.add_zero] at h
          show _ = _
          unfold faultL
          rw [h, if_neg (by have := HL.out; omega)]
        have HR : Hid (runesL zs = []) := by
          have h := congrArg Prod.snd HS.out
          rw [scan_none ha] at h
          simp only [Nat.add_zero] at h
          show _ = _
          unfold runesL
          rw [h, if_neg (by have := HL.out; omega)]
        have hr := hid (atR_none ha)
        clear ha HS
        go_wp2_with fail
        refine (at_any a len cap zs pos _ HL.out (hz1.below hbw) hp).mono ?_
        generalize atR (zs.drop pos) = r at *
        obtain ⟨r1, r2, r3⟩ := r
        obtain rfl : r3 = false := hr.out
        rintro e w2 ⟨rfl, hb2⟩
        have c0 := keep hb2 ((hbw.cell (p := ⟨w.heap.size, 0, none⟩) hlt).trans c0)
        have c1 := keep hb2 ((hbw.cell (p := ⟨w.heap.size, 1, none⟩) hlt).trans c1)
        have f0 := (hb2.frozen (p := ⟨w.heap.size, 0, none⟩) (by show w.heap.size < _; omega)).trans ((hbw.frozen (p := ⟨w.heap.size, 0, none⟩) hlt).trans f0)
        have f1 := (hb2.frozen (p := ⟨w.heap.size, 1, none⟩) (by show w.heap.size < _; omega)).trans ((hbw.frozen (p := ⟨w.heap.size, 1, none⟩) hlt).trans f1)
        have hA2 := thenB hAw hb2
        clear hA hAw hbw hb2 hown hz1
        go_wp2
        refine bodyPost_ret (v := .tuple #[.slice none 0 0, .agg #[.int .i64 4, .int .i64 pos]]) (by simp [results, Tryd.results11, go_sem, c0, c1]) rfl ⟨_, by rw [HF.out], ?_, ?_⟩
        · rw [HR.out]; exact own_nothing _ _ _ _
        · exact (hA2.setCell (Nat.le_refl _) _).setCell (Nat.le_refl _) _
      | some q =>
        obtain ⟨n, k⟩ := q
        obtain ⟨hn, _, _, hk1, hk4, hkl⟩ := atL_some ha
        have HF : Hid (scan zs = ((acc ++ [n]) ++ (scan (zs.drop (pos + k))).1, (pos + k) + (scan (zs.drop (pos + k))).2)) := by
          have h := HS.out
          rw [scan_some ha, List.drop_drop] at h
          show _ = _
          rw [h]
          simp [Nat.add_assoc]
        have hlk : pos + k ≤ len := by simp at hkl; have := HL.out; omega
        have HLL : Hid ((acc ++ [n]).length ≤ pos + k) := by show _ ≤ _; simp; omega
        have hr := hid (atR_some ha)
        obtain ⟨h0, h1, _⟩ := hn
        clear ha HS hkl
        go_wp2_with fail
        refine (at_any a len cap zs pos _ HL.out (hz1.below hbw) hp).mono ?_
        rw [hr.out]
        rintro e w2 ⟨rfl, hb2⟩
        have hown2 := hown.below hb2
        have hbw2 := hbw.trans (hb2.mono hsw)
        have hsw2 : wa.heap.size ≤ w2.heap.size := by have := hb2.size; omega
        clear hr hAw hbw hb2 hown
        go_wp2_with (first | (at_builtin; refine append_num infoInt Tryd.underlying24 rfl (.tmp 24) (.tmp 26) rfl n rfl hown2 hbw2 hsw2 rfl (by omega) (by omega) ?_; intro v' w5 hown5 hb5 hs5 _))
        go_roundw
        case rel => exact ⟨pos + k, acc ++ [n], by go_num, hown5, hb5, hs5, hlk, HLL.out, HF.out⟩
        case measure => simp [intOf]; omega
    · have HF : Hid (faultL zs = (0, 0)) := by
        have h := congrArg Prod.snd HS.out
        rw [List.drop_eq_nil_of_le (by have := HL.out; omega), scan_nil] at h
        simp only [Nat.add_zero] at h
        show _ = _
        unfold faultL
        rw [h, if_pos (by have := HL.out; omega)]
      have HR : Hid (runesL zs = acc) := by
        have h := HS.out
        rw [List.drop_eq_nil_of_le (by have := HL.out; omega), scan_nil] at h
        simp only [Nat.add_zero, List.append_nil] at h
        show _ = _
        unfold runesL
        rw [h, if_pos (by have := HL.out; omega)]
      have c0 := (hbw.cell (p := ⟨w.heap.size, 0, none⟩) hlt).trans c0
      have c1 := (hbw.cell (p := ⟨w.heap.size, 1, none⟩) hlt).trans c1
      have f0 := (hbw.frozen (p := ⟨w.heap.size, 0, none⟩) hlt).trans f0
      have f1 := (hbw.frozen (p := ⟨w.heap.size, 1, none⟩) hlt).trans f1
      clear hA hbw hz1 HS
      go_wp2
      refine bodyPost_ret (v := .tuple #[.slice av acc.length cv, .agg #[.int .i64 0, .int .i64 0]]) (by simp [results, Tryd.results11, go_sem, c0, c1]) rfl ⟨_, by rw [HF.out], ?_, ?_⟩
      · rw [HR.out]
        exact ((hown.setCell (p := ⟨w.heap.size, 0, none⟩) hlt _).setCell (p := ⟨w.heap.size, 1, none⟩) hlt _).mono (by omega)
      · exact (hAw.setCell (Nat.le_refl _) _).setCell (Nat.le_refl _) _
end Go.Proofs.YtgmcknblfgealaaDoor.Utf
