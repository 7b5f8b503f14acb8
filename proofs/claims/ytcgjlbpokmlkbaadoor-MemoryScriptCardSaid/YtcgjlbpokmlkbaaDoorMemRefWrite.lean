/-
  MEMORY: the document's Store, Write, Grow, New by contracts.
-/
import Derived.Test.YtcgjlbpokmlkbaaDoorMemRefLoad
namespace Go.Proofs.YtcgjlbpokmlkbaaDoor.Mem
open Go.RowKit Go.Proofs.YtcgjlbpokmlkbaaDoor.Instr Go.Proofs.YtcgjlbpokmlkbaaDoor.Num Go.Proofs.YtcgjlbpokmlkbaaDoor.Kind
open Go.Proofs.YtcgjlbpokmlkbaaDoor.Stk (OwnR)
set_option linter.unusedVariables false

theorem WroteR.refl {B : Nat} {W : World} {q K : Nat} {m : Mm} (h : RefIs B W q K m) : WroteR B W q K m W := ⟨h, KeepR.refl W, Below.refl B W⟩
theorem WroteR.step {B : Nat} {W w1 w2 : World} {q K K2 : Nat} {m m2 : Mm} (h : WroteR B W q K m w1) (g : WroteR B w1 q K2 m2 w2) : WroteR B W q K2 m2 w2 := ⟨g.1, h.2.1.trans g.2.1, h.2.2.trans g.2.2⟩
theorem WroteR.none {B : Nat} {W w' : World} {q K K2 : Nat} {m : Mm} (h : RefIs B W q K m) (hk : K ≤ K2) (hb : Below W.heap.size W w') (hB : B ≤ W.heap.size) : WroteR B W q K2 m w' := ⟨(h.below hb).mono hk, KeepR.of_below hb, hb.mono hB⟩
/-- One byte more is laid. -/
theorem putF_snoc (f : Nat → Int) (s : Nat) (zs : List Int) (i : Nat) (hi : i < zs.length) : putF (putF f s (zs.take i)) (s + i) [zs.getD i 0] = putF f s (zs.take (i + 1)) := by
  have hl : (zs.take i).length = i := by simp; omega
  have := putF_append f s (zs.take i) [zs.getD i 0]
  rw [hl] at this
  rw [this, List.take_succ_eq_append_getElem hi, getD_lt hi]
set_option maxHeartbeats 2000000 in
theorem Write_ref {B : Nat} {W : World} {q K : Nat} {m : Mm} (hI : RefIs B W q K m) (hok : m.ok) (hB : B ≤ W.heap.size) (b off : Nat) (a : Option Addr) (n c s : Nat) (zs : List Int) (hzl : zs.length = n) (hz : ∀ z ∈ zs, 0 ≤ z ∧ z < 256) (hn : n ≤ 100000) (hs : s ≤ 4294967295)
    (ha : 0 < n → a = some ⟨b, off, none⟩ ∧ (∀ i, i < n → W.cell? ⟨b, off + i, none⟩ = some (.int .u8 (zs.getD i 0))) ∧ ∃ o, W.heap[b]? = some o ∧ (isRef o = false ∨ b < B)) (hK : K + n ≤ 1000000) :
    Calls Tryd.prog 31 #[.pointer (some ⟨q, 0, none⟩), .int .u32 s, .slice a n c] W fun e w' => e = .returned (.int .i64 (m.write s zs).2) ∧ WroteR B W q (K + n) (m.write s zs).1 w' := by
  have hnp : m.n ≤ 65536 := Nat.le_trans hok.n hok.most
  have he : m.has s zs.length = decide ((s : Int) + (n : Int) ≤ (m.n : Int) * 65536) := by rw [hzl]; exact has_int m s n _ rfl
  have CT := hI.there s n ⟨by omega, by omega⟩ ⟨by omega, by omega⟩ hnp
  unfold Mm.write
  rw [he]
  obtain ⟨S, hS⟩ : ∃ S : Int, (s : Int) = S := ⟨_, rfl⟩
  have hS0 : 0 ≤ S ∧ S ≤ 4294967295 := by omega
  obtain ⟨hS0, hS1⟩ := hS0
  have HI := hid hI
  have HB := hid hB
  have HZ := hid hz
  have HZL := hid hzl
  have HA := hid ha
  have HK := hid hK
  have hnI : (n : Int) ≤ 100000 := by omega
  by_cases hin : (s : Int) + (n : Int) ≤ (m.n : Int) * 65536
  · rw [decide_eq_true hin] at CT ⊢
    rw [if_pos rfl]
    have hin32 : s + n ≤ 4294967296 := by omega
    rw [hS] at CT ⊢
    have HS := hid hS
    have CT := hid CT
    have H0 := hid (show WroteR B W q (K + 0) { m with f := putF m.f s (zs.take 0) } W from by rw [List.take_zero, putF_nil]; exact WroteR.refl hI)
    clear hI hB hz hzl ha hK he hok hnp hin hs hS
    go_enter Tryd.func31, Tryd.ntmps31
    go_wp2_with fail
    refine CT.out.mono ?_
    rintro e w1 ⟨rfl, rfl⟩
    go_wp2
    go_loopw [7] (fun vi wr => ∃ i : Nat, vi = .int .i64 i ∧ i ≤ n ∧ Hid (WroteR B W q (K + i) { m with f := putF m.f s (zs.take i) } wr)) (fun vi _ => n - (intOf vi).toNat)
    case atStart => exact ⟨0, rfl, Nat.zero_le _, H0⟩
    case round =>
      obtain ⟨i, rfl, hi, HW⟩ := hrel
      clear H0
      by_cases hlt : i < n
      · have hltI : (i : Int) < (n : Int) := by omega
        obtain ⟨ha1, hcell, ob, hob, hown⟩ := HA.out (by omega)
        subst ha1
        have hb3 : b < W.heap.size := (Array.getElem?_eq_some_iff.1 hob).1
        have k0 : wr.cell? ⟨b, off + i, none⟩ = some (.int .u8 (zs.getD i 0)) := by
          refine (World.cell?_of_block (w := W) ?_).trans (hcell i hlt)
          rcases hown with h | h
          · exact (HW.out.2.1.block b ob hob h).trans hob.symm
          · exact HW.out.2.2.block b h
        have hzb := HZ.out _ (List.getElem_mem (show i < zs.length by rw [HZL.out]; exact hlt))
        rw [← getD_lt (show i < zs.length by rw [HZL.out]; exact hlt)] at hzb
        have CS := set_any HW.out.1 (Nat.le_trans HB.out HW.out.2.2.size) (by have := HK.out; omega) (s + i) (zs.getD i 0) (by omega) hzb
        have hsi : ((s + i : Nat) : Int) = S + (i : Int) := by have := HS.out; omega
        rw [hsi] at CS
        have HNX := hid (fun (w2 : World) (h : WroteR B wr q (K + i + 1) { n := m.n, most := m.most, f := putF (putF m.f s (zs.take i)) (s + i) [zs.getD i 0] } w2) => (show WroteR B W q (K + (i + 1)) { m with f := putF m.f s (zs.take (i + 1)) } w2 from by
          have h2 := HW.out.step h
          rw [putF_snoc _ _ _ _ (by rw [HZL.out]; exact hlt)] at h2
          exact h2))
        generalize zs.getD i 0 = u at *
        obtain ⟨hu0, hu1⟩ := hzb
        have CS := hid CS
        clear hcell hob hown hb3 hsi HW
        go_wp2_with fail
        refine CS.out.mono ?_
        rintro e w2 ⟨rfl, h⟩
        have HN2 := hid (HNX.out w2 h)
        clear h HNX CS
        go_wp2
        go_roundw
        case rel => exact ⟨i + 1, by go_num, hlt, HN2⟩
        case measure => simp [intOf]; omega
      · obtain rfl : n = i := by omega
        have HF : Hid (WroteR B W q (K + n) { m with f := putF m.f s zs } wr) := by
          have h := HW.out
          rw [List.take_of_length_le (by rw [HZL.out]; exact Nat.le_refl _)] at h
          exact h
        clear HW
        go_wp2
        go_ret
        exact ⟨rfl, HF.out⟩
  · rw [decide_eq_false hin] at CT ⊢
    rw [if_neg (by simp)]
    have HN := hid (WroteR.none (w' := W) hI (Nat.le_add_right K n) (Below.refl _ _) hB)
    rw [hS] at CT ⊢
    have CT := hid CT
    clear hI hB hz hzl ha hK he hok hnp hin hs hS
    go_enter Tryd.func31, Tryd.ntmps31
    go_wp2_with fail
    refine CT.out.mono ?_
    rintro e w1 ⟨rfl, rfl⟩
    go_wp2
    go_ret
    exact ⟨rfl, HN.out⟩
set_option maxRecDepth 100000 in
theorem Grow_ref {B : Nat} {W : World} {q K : Nat} {m : Mm} (hI : RefIs B W q K m) (hok : m.ok) (hB : B ≤ W.heap.size) (k : Nat) (hk : k ≤ 4294967295) :
    Calls Tryd.prog 27 #[.pointer (some ⟨q, 0, none⟩), .int .u32 k] W fun e w' => e = .returned (.int .u32 (m.grow k).2) ∧ WroteR B W q K (m.grow k).1 w' := by
  have h1 := hok.n
  have h2 := hok.most
  have HN0 := hid (WroteR.none (w' := W.drew) hI (Nat.le_refl K) (Below.refl W.heap.size W).drew hB)
  obtain ⟨v, L, hr, hval, hlen⟩ := hI
  have c0 := hr.cells.1
  have c1 := hr.cells.2.1
  have f0 := hr.frozen 0
  have HY := hid (fun (h : m.n + k ≤ m.most) => (show WroteR B W q K { m with n := m.n + k } (W.drew.setCell ⟨q, 0, none⟩ (.int .u32 ((m.n + k : Nat) : Int))) from by
    have hd := hr.below (Below.refl W.heap.size W).drew
    have hs : Save q W.drew (W.drew.setCell ⟨q, 0, none⟩ (.int .u32 ((m.n + k : Nat) : Int))) := Save.setCell (Save.refl q W.drew) (p := ⟨q, 0, none⟩) (.inl rfl) _
    have hb := heap_setCell_same W.drew q 0 _ _ (.int .u32 ((m.n + k : Nat) : Int)) hd.box
    refine ⟨⟨v, L, ⟨hb, hd.bq, OwnR.kept hd.row (fun g C hg => (hs.block g (Array.getElem?_eq_some_iff.1 hg).1 (fun e => by rw [e, hd.box] at hg; simp at hg)).trans hg), hd.rising, hd.ok, hd.len⟩, hval, hlen⟩, (KeepR.of_below (Below.refl W.heap.size W).drew).trans (KeepR.of_save hs hd.box (by simp [isRef])), ((Below.refl W.heap.size W).drew.mono hB).trans (hs.below hB hd.bq)⟩))
  unfold Mm.grow
  obtain ⟨n, hn⟩ : ∃ n : Int, (m.n : Int) = n := ⟨_, rfl⟩
  obtain ⟨t, ht⟩ : ∃ t : Int, (m.most : Int) = t := ⟨_, rfl⟩
  obtain ⟨x, hx⟩ : ∃ x : Int, (k : Int) = x := ⟨_, rfl⟩
  have hb : 0 ≤ n ∧ n ≤ t ∧ t ≤ 65536 ∧ 0 ≤ x ∧ x ≤ 4294967295 := by omega
  obtain ⟨g1, g2, g3, g4, g5⟩ := hb
  have hnx : ((m.n + k : Nat) : Int) = n + x := by omega
  by_cases hle : m.n + k ≤ m.most
  · have HY2 := HY.out hle
    rw [hnx] at HY2
    have HY2 := hid HY2
    rw [if_pos hle]
    have hle2 : x ≤ t - n := by omega
    rw [hn] at c0 ⊢
    rw [ht] at c1
    rw [hx]
    clear hr hval hlen hok h1 h2 HN0 HY hnx hle hn ht hx hk hB
    go_enter Tryd.func27, Tryd.ntmps27
    go_wp2
    go_region
    go_wp2
    go_ret
    exact ⟨rfl, HY2.out⟩
  · rw [if_neg hle]
    have hle2 : ¬ x ≤ t - n := by omega
    rw [hn] at c0
    rw [ht] at c1
    rw [hx]
    clear hr hval hlen hok h1 h2 HY hnx hle hn ht hx hk hB f0
    go_enter Tryd.func27, Tryd.ntmps27
    go_wp2
    go_region
    go_wp2
    go_ret
    exact ⟨rfl, HN0.out⟩
end Go.Proofs.YtcgjlbpokmlkbaaDoor.Mem
