/-
  Kind: the reader's number and words, by contract, in one piece.
-/
import Derived.Test.YtgndekmmeknfpaaKindNum
namespace Go.Proofs.Ytgndekmmeknfpaa.Kind
open Go.RowKit Go.Proofs.Ytgndekmmeknfpaa.Leb

theorem number_any (k : Nat) (av : Option Addr) (len cap : Nat) (zs : List Int) (s : Rd) (w : World) (h : RdIs w k (.slice av len cap) s) (hg : Good zs s) (hlen : zs.length = len) (hz : Bytes w av zs) :
    Calls Try.prog 30 #[.pointer (some ⟨k, 0, none⟩)] w (Does k (.slice av len cap) w (.int .u32 (numR zs s).1) (numR zs s).2) := by
  unfold numR
  by_cases h0 : s.2.1 = 0
  · rw [if_pos h0]
    obtain ⟨p, e, f⟩ := s
    obtain ⟨g1, g2, g3⟩ := hg h0
    simp only at h0 g1 g2 g3 ⊢
    subst h0 g3
    by_cases he : (getL false zs p).2.2.1 = 0
    · rw [if_pos he]
      exact number_ok k av len cap p zs _ _ _ _ w h hlen hz rfl he
    · rw [if_neg he]
      exact number_no k av len cap p zs _ _ _ _ w h hlen hz rfl he
  · rw [if_neg h0]
    exact number_bad k _ s w h h0
theorem is127_in (x : Int) : is127 x = [127].contains x := by simp [is127]
theorem is96_in (x : Int) : is96 x = [96].contains x := by simp [is96]
theorem is01_in (x : Int) : is01 x = [0, 1].contains x := by simp [is01, Bool.decide_or]

set_option maxHeartbeats 1600000 in
theorem words_any (k : Nat) (av : Option Addr) (len cap : Nat) (zs : List Int) (s : Rd) (most : Int) (w : World) (h : RdIs w k (.slice av len cap) s) (hg : Good zs s) (hlen : zs.length = len) (hz : Bytes w av zs)
    (ha : ∀ b off, av = some ⟨b, off, none⟩ → zs ≠ [] → b ≠ k) (hm : 0 ≤ most ∧ most ≤ 1000) :
    Calls Try.prog 28 #[.pointer (some ⟨k, 0, none⟩), .int .u32 most] w (Does k (.slice av len cap) w (.int .i64 (wordsR zs most s).1) (wordsR zs most s).2) := by
  have hN := number_any k av len cap zs s w h hg hlen hz
  obtain ⟨b0, b1⟩ := numR_bounds (s := s) hz.byte
  have c1 := h.c1
  obtain ⟨p, hp⟩ : ∃ p, s.1 = p := ⟨_, rfl⟩
  rw [hp] at c1
  obtain ⟨n, hn⟩ : ∃ n, (numR zs s).1 = n := ⟨_, rfl⟩
  obtain ⟨s1, hs1⟩ : ∃ s1, (numR zs s).2 = s1 := ⟨_, rfl⟩
  have hg1 : Good zs s1 := hs1 ▸ numR_good hg
  have HW : Hid (wordsR zs most s = if most < n then (0, refuseR s1 141 p) else (n, runR zs n.toNat s1)) := by show _ = _; unfold wordsR; rw [hn, hs1, hp]
  rw [hn] at hN b0 b1
  rw [hs1] at hN
  clear hn hs1 hp h hg
  have HZ := hid hz
  have HL := hid hlen
  have HA := hid ha
  have HG := hid hg1
  clear hz hlen ha hg1
  by_cases hgt : most < n
  · rw [if_pos hgt] at HW
    go_enter Try.func28, Try.ntmps28
    go_wp2_with fail
    refine hN.mono ?_
    rintro e w1 ⟨rfl, h1, sv1⟩
    clear hN
    go_wp2_with fail
    refine (refuse_any k _ s1 141 p _ h1).mono ?_
    rintro e2 w2 ⟨rfl, h2, sv2⟩
    go_wp2
    go_ret
    rw [HW.out]
    exact ⟨rfl, h2, sv1.trans sv2⟩
  · rw [if_neg hgt] at HW
    go_enter Try.func28, Try.ntmps28
    go_wp2_with fail
    refine hN.mono ?_
    rintro e w1 ⟨rfl, h1, sv1⟩
    clear hN
    go_wp2
    go_loopw [20] (fun sj wr => ∃ j : Int, 0 ≤ j ∧ j ≤ n ∧ sj = .int .u32 j ∧ RdIs wr k (.slice av len cap) (runR zs j.toNat s1) ∧ Save k w wr) (fun sj _ => (n - intOf sj).toNat)
    case atStart => exact ⟨0, by omega, by omega, rfl, h1, sv1⟩
    case round =>
      obtain ⟨j, hj0, hj, rfl, hr, svr⟩ := hrel
      by_cases hlt : j < n
      · have hr' : RdIs (wr.alloc (.cells #[.int .u8 127] 5)) k (.slice av len cap) (runR zs j.toNat s1) := hr.below ((Below.refl _ _).alloc (Nat.le_refl _) _)
        have svr' : Save k w (wr.alloc (.cells #[.int .u8 127] 5)) := svr.alloc _
        have hz' := HZ.out.save svr' HA.out
        have hl' : Bytes (wr.alloc (.cells #[.int .u8 127] 5)) (some ⟨wr.heap.size, 0, none⟩) [127] := ⟨by simp, by simp, .inr ⟨_, 0, rfl, fun i hi => by
          match i, hi with
          | 0, _ => go_simp⟩⟩
        have hO := oneOf_any k av len cap zs (runR zs j.toNat s1) (some ⟨wr.heap.size, 0, none⟩) 1 1 [127] is127 _ hr' (runR_good j.toNat HG.out) HL.out hz' rfl hl' is127_in
        rw [← runR_succ] at hO
        clear hz' hl' hr hr'
        generalize (oneR zs is127 (runR zs j.toNat s1)).1 = c9 at hO
        have HJ : Hid ((j + 1).toNat = j.toNat + 1) := by show _ = _; omega
        go_wp2_with fail
        refine hO.mono ?_
        rintro e3 w3 ⟨rfl, h3, sv3⟩
        clear hO
        go_wp2
        go_roundw
        case rel => exact ⟨j + 1, by omega, by omega, rfl, by rw [HJ.out]; exact h3, svr'.trans sv3⟩
        case measure => simp [intOf]; omega
      · obtain rfl : j = n := by omega
        go_wp2
        go_ret
        rw [HW.out]
        exact ⟨rfl, hr, svr⟩
end Go.Proofs.Ytgndekmmeknfpaa.Kind
