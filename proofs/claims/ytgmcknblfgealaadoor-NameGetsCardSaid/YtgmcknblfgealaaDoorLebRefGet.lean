/-
  LEB: the document's own answer GetU, by contracts: parts, GetU.
-/
import Derived.Test.YtgmcknblfgealaaDoorLebParts
import Derived.Deep.RegionHeld3
import Derived.Deep.RegionWith
namespace Go.Proofs.YtgmcknblfgealaaDoor.Leb
open Go.RowKit

theorem infoI64 : (Tryd.prog.info? 2).map (fun i => (i.zero, i.size, i.bytes)) = some (some (.int .i64 0), 1, 8) := by kernel_rfl

/-- What 'parts' hands back. -/
def GotParts (w : World) (r : List Int × Int × Int × Int) (e : Ending) (w' : World) : Prop :=
  ∃ v, e = .returned (.tuple #[v, .int .i64 r.2.1, .agg #[.int .i64 r.2.2.1, .int .i64 r.2.2.2]]) ∧ OwnK 2 .i64 w.heap.size w' v r.1 ∧ Below w.heap.size w w'

set_option maxHeartbeats 800000 in
theorem parts_out (a : Option Addr) (len cap : Nat) (p : Int) (w : World) (hp : p < 0 ∨ (len : Int) < p) :
    Calls Tryd.prog 41 #[.slice a len cap, .int .i64 p] w fun e w' => e = .returned (.tuple #[.slice none 0 0, .int .i64 0, .agg #[.int .i64 5, .int .i64 0]]) ∧ Below w.heap.size w w' := by
  by_cases h0 : p < 0
  · clear hp
    go_enter Tryd.func41, Tryd.ntmps41
    go_wp2
    refine bodyPost_ret (v := .tuple #[.slice none 0 0, .int .i64 0, .agg #[.int .i64 5, .int .i64 0]]) (by simp [results, Tryd.results41, go_sem]) rfl ⟨rfl, ?_⟩
    exact (Below.refl _ _).alloc (Nat.le_refl _) _
  · have h1 : (len : Int) < p := by omega
    clear hp
    go_enter Tryd.func41, Tryd.ntmps41
    go_wp2
    refine bodyPost_ret (v := .tuple #[.slice none 0 0, .int .i64 0, .agg #[.int .i64 5, .int .i64 0]]) (by simp [results, Tryd.results41, go_sem]) rfl ⟨rfl, ?_⟩
    exact (Below.refl _ _).alloc (Nat.le_refl _) _

set_option maxHeartbeats 3200000 in
theorem parts_in (a : Option Addr) (len cap p0 : Nat) (zs : List Int) (w : World) (hlen : zs.length = len) (hz : Bytes w a zs) (hp : p0 ≤ len) :
    Calls Tryd.prog 41 #[.slice a len cap, .int .i64 p0] w (GotParts w (partsGo [] (zs.drop p0) p0)) := by
  have hmax := hz.size
  rw [hlen] at hmax
  have HL := hid hlen
  have hz1 := hz.alloc (.cells #[.int .i64 0, .int .i64 0] 27)
  have c0 : (w.alloc (.cells #[.int .i64 0, .int .i64 0] 27)).cell? ⟨w.heap.size, 0, none⟩ = some (.int .i64 0) := by go_simp
  have c1 : (w.alloc (.cells #[.int .i64 0, .int .i64 0] 27)).cell? ⟨w.heap.size, 1, none⟩ = some (.int .i64 0) := by go_simp
  have f0 : (w.alloc (.cells #[.int .i64 0, .int .i64 0] 27)).frozen? ⟨w.heap.size, 0, none⟩ = false := by go_simp
  have f1 : (w.alloc (.cells #[.int .i64 0, .int .i64 0] 27)).frozen? ⟨w.heap.size, 1, none⟩ = false := by go_simp
  have hA : Below w.heap.size w (w.alloc (.cells #[.int .i64 0, .int .i64 0] 27)) := (Below.refl _ _).alloc (Nat.le_refl _) _
  have hlt : w.heap.size < (w.alloc (.cells #[.int .i64 0, .int .i64 0] 27)).heap.size := by simp
  have hn0 : ¬ (p0 : Int) < 0 := by omega
  have hn1 : ¬ (len : Int) < (p0 : Int) := by omega
  clear hlen hz
  go_enter Tryd.func41, Tryd.ntmps41
  go_wp2
  generalize w.alloc (.cells #[.int .i64 0, .int .i64 0] 27) = wa at *
  clear hn0 hn1
  go_loopw [7, 8] (fun v vi wr => ∃ (i : Nat) (acc : List Int), vi = .int .i64 i ∧ i ≤ len ∧ OwnK 2 .i64 wa.heap.size wr v acc ∧ acc.length ≤ 4 ∧ Below wa.heap.size wa wr ∧ wa.heap.size ≤ wr.heap.size ∧
      partsGo [] (zs.drop p0) p0 = partsGo acc (zs.drop i) i) (fun _ vi _ => len - (intOf vi).toNat)
  case atStart => exact ⟨p0, [], rfl, hp, World.ownsRow_nil _ _ _ _, by simp, Below.refl _ _, Nat.le_refl _, rfl⟩
  case round =>
    obtain ⟨i, acc, rfl, hi, hown, hacc, hbw, hsw, hG⟩ := hrel
    have HG := hid hG
    clear hG
    obtain ⟨m, hm⟩ : ∃ m, acc.length = m := ⟨_, rfl⟩
    obtain ⟨av, cv, rfl⟩ := hown.sliceN hm
    rw [hm] at hacc
    have HM := hid hm
    have hAw := hA.trans (hbw.mono (by omega))
    have c0 := (hbw.cell (p := ⟨w.heap.size, 0, none⟩) hlt).trans c0
    have c1 := (hbw.cell (p := ⟨w.heap.size, 1, none⟩) hlt).trans c1
    have f0 := (hbw.frozen (p := ⟨w.heap.size, 0, none⟩) hlt).trans f0
    have f1 := (hbw.frozen (p := ⟨w.heap.size, 1, none⟩) hlt).trans f1
    by_cases hil : i < len
    · have hil' : i < zs.length := by have := HL.out; omega
      obtain ⟨b, off, rfl, hcell⟩ := (hz1.below hbw).at (by omega)
      have hc := hcell i hil'
      obtain ⟨x0, x1⟩ := hz1.get hil'
      have HD := hid (drop_at hil')
      have hbb : b < wa.heap.size := by
        obtain ⟨b', off', he, hcell'⟩ := hz1.at (by omega)
        simp only [Option.some.injEq, Addr.mk.injEq] at he
        have := World.block_lt_of_cell? wa _ (hcell' i hil')
        simp only at this
        omega
      generalize zs.getD i 0 = c at *
      clear hcell hil' hm
      have hbw0 := hbw
      have fin : ∀ (v' : Value) (w5 : World), Below wa.heap.size wa w5 → (∀ p : Addr, p.block < wa.heap.size → w5.cell? p = wr.cell? p ∧ w5.frozen? p = wr.frozen? p) := fun _ w5 h p hpb =>
        ⟨(h.cell hpb).trans (hbw0.cell hpb).symm, (h.frozen hpb).trans (hbw0.frozen hpb).symm⟩
      have FIN := hid fin
      clear fin hbw0
      have ht : Int.tmod c 128 = c % 128 := Int.tmod_eq_emod_of_nonneg x0
      have v0 : Value := .slice none 0 0
      by_cases h4 : m = 4
      · by_cases h128 : 128 ≤ c
        · have HF : Hid (partsGo [] (zs.drop p0) p0 = ([], 0, 4, (i : Int))) := by
            show _ = _
            rw [HG.out, HD.out]
            simp only [partsGo]
            rw [if_pos ⟨by rw [HM.out, h4], h128⟩]
          subst h4
          go_wp2_with (first
          | (at_builtin; refine append_num infoI64 Tryd.underlying64 rfl (.tmp 25) (.tmp 32) rfl (c % 128) rfl hown hbw hsw rfl (by have := HM.out; omega) (by have := HM.out; omega) ?_; intro v' w5 hown5 hb5 hs5 _
             obtain ⟨av5, cv5, rfl⟩ := hown5.sliceN (n := 5) (by simp [HM.out])
             have hc5 := ((FIN.out v0 w5 hb5 ⟨b, off + i, none⟩ hbb).1).trans hc
             have d0 := ((FIN.out v0 w5 hb5 ⟨w.heap.size, 0, none⟩ hlt).1).trans c0
             have d1 := ((FIN.out v0 w5 hb5 ⟨w.heap.size, 1, none⟩ hlt).1).trans c1
             have g0 := ((FIN.out v0 w5 hb5 ⟨w.heap.size, 0, none⟩ hlt).2).trans f0
             have g1 := ((FIN.out v0 w5 hb5 ⟨w.heap.size, 1, none⟩ hlt).2).trans f1
             have hA5 := hA.trans (hb5.mono (Nat.le_of_lt hlt))
             clear hc c0 c1 f0 f1 hown hbw))
          refine bodyPost_ret (v := .tuple #[.slice none 0 0, .int .i64 0, .agg #[.int .i64 4, .int .i64 i]]) (by simp [results, Tryd.results41, go_sem, d0, d1]) rfl ⟨_, by rw [HF.out], ?_, ?_⟩
          · rw [HF.out]; exact World.ownsRow_nil _ _ _ _
          · exact (hA5.setCell (Nat.le_refl _) _).setCell (Nat.le_refl _) _
        · have HF : Hid (partsGo [] (zs.drop p0) p0 = (acc ++ [c % 128], (i : Int) + 1, 0, 0)) := by
            show _ = _
            rw [HG.out, HD.out]
            simp only [partsGo]
            rw [if_neg (fun h : acc.length = 4 ∧ 128 ≤ c => h128 h.2), if_pos (by omega)]
          subst h4
          go_wp2_with (first
          | (at_builtin; refine append_num infoI64 Tryd.underlying64 rfl (.tmp 25) (.tmp 32) rfl (c % 128) rfl hown hbw hsw rfl (by have := HM.out; omega) (by have := HM.out; omega) ?_; intro v' w5 hown5 hb5 hs5 _
             obtain ⟨av5, cv5, rfl⟩ := hown5.sliceN (n := 5) (by simp [HM.out])
             have hc5 := ((FIN.out v0 w5 hb5 ⟨b, off + i, none⟩ hbb).1).trans hc
             have d0 := ((FIN.out v0 w5 hb5 ⟨w.heap.size, 0, none⟩ hlt).1).trans c0
             have d1 := ((FIN.out v0 w5 hb5 ⟨w.heap.size, 1, none⟩ hlt).1).trans c1
             have g0 := ((FIN.out v0 w5 hb5 ⟨w.heap.size, 0, none⟩ hlt).2).trans f0
             have g1 := ((FIN.out v0 w5 hb5 ⟨w.heap.size, 1, none⟩ hlt).2).trans f1
             have hA5 := hA.trans (hb5.mono (Nat.le_of_lt hlt))
             clear hc c0 c1 f0 f1 hown hbw))
          refine bodyPost_ret (v := .tuple #[.slice av5 5 cv5, .int .i64 ((i : Int) + 1), .agg #[.int .i64 0, .int .i64 0]]) (by simp [results, Tryd.results41, go_sem, d0, d1]) rfl ⟨_, by rw [HF.out], ?_, ?_⟩
          · rw [HF.out]
            exact ((hown5.setCell (p := ⟨w.heap.size, 0, none⟩) hlt _).setCell (p := ⟨w.heap.size, 1, none⟩) hlt _).mono (Nat.le_of_lt hlt)
          · exact (hA5.setCell (Nat.le_refl _) _).setCell (Nat.le_refl _) _
      · by_cases h128 : 128 ≤ c
        · have HF : Hid (partsGo [] (zs.drop p0) p0 = partsGo (acc ++ [c % 128]) (zs.drop (i + 1)) (i + 1 : Nat)) := by
            show _ = _
            rw [HG.out, HD.out]
            simp only [partsGo]
            rw [if_neg (fun h : acc.length = 4 ∧ 128 ≤ c => h4 (by rw [← HM.out]; exact h.1)), if_neg (by omega)]
            rfl
          have hm4 : ¬ (m : Int) + 1 = 5 := by omega
          go_wp2_with (first
          | (at_builtin; refine append_num infoI64 Tryd.underlying64 rfl (.tmp 25) (.tmp 32) rfl (c % 128) rfl hown hbw hsw rfl (by have := HM.out; omega) (by have := HM.out; omega) ?_; intro v' w5 hown5 hb5 hs5 _
             obtain ⟨av5, cv5, rfl⟩ := hown5.sliceN (n := m + 1) (by simp [HM.out])
             have hc5 := ((FIN.out v0 w5 hb5 ⟨b, off + i, none⟩ hbb).1).trans hc
             have d0 := ((FIN.out v0 w5 hb5 ⟨w.heap.size, 0, none⟩ hlt).1).trans c0
             have d1 := ((FIN.out v0 w5 hb5 ⟨w.heap.size, 1, none⟩ hlt).1).trans c1
             have g0 := ((FIN.out v0 w5 hb5 ⟨w.heap.size, 0, none⟩ hlt).2).trans f0
             have g1 := ((FIN.out v0 w5 hb5 ⟨w.heap.size, 1, none⟩ hlt).2).trans f1
             have hA5 := hA.trans (hb5.mono (Nat.le_of_lt hlt))
             clear hc c0 c1 f0 f1 hown hbw))
          go_roundw
          case rel => exact ⟨i + 1, acc ++ [c % 128], by go_num, by omega, hown5, by have := HM.out; simp; omega, hb5, hs5, HF.out⟩
          case measure => simp [intOf]; omega
        · have HF : Hid (partsGo [] (zs.drop p0) p0 = (acc ++ [c % 128], (i : Int) + 1, 0, 0)) := by
            show _ = _
            rw [HG.out, HD.out]
            simp only [partsGo]
            rw [if_neg (fun h : acc.length = 4 ∧ 128 ≤ c => h128 h.2), if_pos (by omega)]
          have hm4 : ¬ (m : Int) + 1 = 5 := by omega
          go_wp2_with (first
          | (at_builtin; refine append_num infoI64 Tryd.underlying64 rfl (.tmp 25) (.tmp 32) rfl (c % 128) rfl hown hbw hsw rfl (by have := HM.out; omega) (by have := HM.out; omega) ?_; intro v' w5 hown5 hb5 hs5 _
             obtain ⟨av5, cv5, rfl⟩ := hown5.sliceN (n := m + 1) (by simp [HM.out])
             have hc5 := ((FIN.out v0 w5 hb5 ⟨b, off + i, none⟩ hbb).1).trans hc
             have d0 := ((FIN.out v0 w5 hb5 ⟨w.heap.size, 0, none⟩ hlt).1).trans c0
             have d1 := ((FIN.out v0 w5 hb5 ⟨w.heap.size, 1, none⟩ hlt).1).trans c1
             have g0 := ((FIN.out v0 w5 hb5 ⟨w.heap.size, 0, none⟩ hlt).2).trans f0
             have g1 := ((FIN.out v0 w5 hb5 ⟨w.heap.size, 1, none⟩ hlt).2).trans f1
             have hA5 := hA.trans (hb5.mono (Nat.le_of_lt hlt))
             clear hc c0 c1 f0 f1 hown hbw))
          refine bodyPost_ret (v := .tuple #[.slice av5 (m + 1) cv5, .int .i64 ((i : Int) + 1), .agg #[.int .i64 0, .int .i64 0]]) (by simp [results, Tryd.results41, go_sem, d0, d1]) rfl ⟨_, by rw [HF.out], ?_, ?_⟩
          · rw [HF.out]
            exact ((hown5.setCell (p := ⟨w.heap.size, 0, none⟩) hlt _).setCell (p := ⟨w.heap.size, 1, none⟩) hlt _).mono (Nat.le_of_lt hlt)
          · exact (hA5.setCell (Nat.le_refl _) _).setCell (Nat.le_refl _) _
    · obtain rfl : i = len := by omega
      have HF : Hid (partsGo [] (zs.drop p0) p0 = ([], 0, 4, (i : Int))) := by
        show _ = _
        rw [HG.out, List.drop_eq_nil_of_le (by have := HL.out; omega)]
        cases acc <;> rfl
      clear hA hbw hm hz1
      go_wp2
      refine bodyPost_ret (v := .tuple #[.slice none 0 0, .int .i64 0, .agg #[.int .i64 4, .int .i64 i]]) (by simp [results, Tryd.results41, go_sem, c0, c1]) rfl ⟨_, by rw [HF.out], ?_, ?_⟩
      · rw [HF.out]; exact World.ownsRow_nil _ _ _ _
      · exact (hAw.setCell (Nat.le_refl _) _).setCell (Nat.le_refl _) _

theorem parts_any (a : Option Addr) (len cap : Nat) (p : Int) (zs : List Int) (w : World) (hlen : zs.length = len) (hz : Bytes w a zs) :
    Calls Tryd.prog 41 #[.slice a len cap, .int .i64 p] w (GotParts w (partsL zs p)) := by
  unfold partsL
  by_cases h : p < 0 ∨ (len : Int) < p
  · rw [hlen, if_pos h]
    refine (parts_out a len cap p w h).mono ?_
    rintro e w' ⟨rfl, hb⟩
    exact ⟨_, rfl, World.ownsRow_nil _ _ _ _, hb⟩
  · obtain ⟨n, rfl⟩ := Int.eq_ofNat_of_zero_le (show 0 ≤ p by omega)
    rw [hlen, if_neg h]
    exact parts_in a len cap n zs w hlen hz (by omega)
theorem partsGo_ok : ∀ (l acc : List Int) (p : Int), (partsGo acc l p).2.2.1 = 0 → (partsGo acc l p).2.2.2 = 0 ∧ p < (partsGo acc l p).2.1 ∧ (partsGo acc l p).2.1 ≤ p + l.length
  | [], acc, p, h => by simp [partsGo] at h
  | c :: r, acc, p, h => by
    simp only [partsGo] at h ⊢
    split at h
    · simp at h
    · rename_i h1
      rw [if_neg h1]
      split at h
      · rename_i h2
        rw [if_pos h2]
        simp; omega
      · rename_i h2
        rw [if_neg h2]
        obtain ⟨i1, i2, i3⟩ := partsGo_ok r _ _ h
        refine ⟨i1, by omega, ?_⟩
        simp; omega
theorem partsL_ok {l : List Int} {p : Int} (h : (partsL l p).2.2.1 = 0) : (partsL l p).2.2.2 = 0 ∧ 0 < (partsL l p).2.1 ∧ (partsL l p).2.1 ≤ l.length := by
  unfold partsL at h ⊢
  by_cases hp : p < 0 ∨ (l.length : Int) < p
  · rw [if_pos hp] at h; simp at h
  · rw [if_neg hp] at h ⊢
    obtain ⟨i1, i2, i3⟩ := partsGo_ok _ _ _ h
    refine ⟨i1, by omega, ?_⟩
    simp at i3
    omega
theorem partsL_bytes (l : List Int) (p : Int) : (∀ x ∈ (partsL l p).1, 0 ≤ x ∧ x < 128) ∧ (partsL l p).1.length ≤ 5 := by
  unfold partsL
  split
  · simp
  · exact partsGo_bytes _ _ _ (by simp) (by simp)

set_option maxHeartbeats 3200000 in
theorem refGetU_any (a : Option Addr) (len cap : Nat) (p : Int) (zs : List Int) (w : World) (hlen : zs.length = len) (hz : Bytes w a zs) :
    Calls Tryd.prog 34 #[.slice a len cap, .int .i64 p] w (Got .u32 w (getL false zs p)) := by
  have HP := hid (getL_parts hz.byte p)
  have hok := fun h => partsL_ok (l := zs) (p := p) h
  obtain ⟨hpb, hp5⟩ := partsL_bytes zs p
  have hsu : ∀ x q f : Int, getL false zs p = (x, q, 0, f) → 0 ≤ x ∧ x < 4294967296 := fun x q f h => by
    obtain ⟨h0, h1, _, _⟩ := getL_shortU hz.byte h rfl
    exact ⟨h0, h1⟩
  have hmax := hz.size
  rw [hlen] at hmax
  have HL := hid hlen
  have HOK := hid hok
  have HPB := hid hpb
  have HSU := hid hsu
  clear hlen hok hpb hsu
  go_enter Tryd.func34, Tryd.ntmps34
  go_wp2_with fail
  refine (parts_any a len cap p zs _ HL.out (hz.below ((Below.refl _ _).alloc (Nat.le_refl _) _))).mono ?_
  rintro e w' ⟨v, rfl, ho, hb⟩
  generalize partsL zs p = r at *
  obtain ⟨L, q, er, f⟩ := r
  simp only at *
  obtain ⟨m, hm⟩ : ∃ m, L.length = m := ⟨_, rfl⟩
  obtain ⟨av, cv, rfl⟩ := ho.sliceN hm
  have hx := ho.nums
  obtain ⟨c0, c1, f0, f1, hs⟩ := two hb
  have hA := ((Below.refl w.heap.size w).alloc (Nat.le_refl _) (.cells #[.int .i64 0, .int .i64 0] 27)).trans (hb.mono (by simp))
  have hA2 := hA.alloc (by omega) (.cells #[.int .i64 er, .int .i64 f] 27)
  have hbA : Below w'.heap.size w' (w'.alloc (.cells #[.int .i64 er, .int .i64 f] 27)) := (Below.refl _ _).alloc (Nat.le_refl _) _
  have u0 := c0
  have u1 := c1
  have c0 := keepA c0 (.cells #[.int .i64 er, .int .i64 f] 27)
  have c1 := keepA c1 (.cells #[.int .i64 er, .int .i64 f] 27)
  have f0 := (hbA.frozen (p := ⟨w.heap.size, 0, none⟩) hs).trans f0
  have f1 := (hbA.frozen (p := ⟨w.heap.size, 1, none⟩) hs).trans f1
  have d0 : (w'.alloc (.cells #[.int .i64 er, .int .i64 f] 27)).cell? ⟨w'.heap.size, 0, none⟩ = some (.int .i64 er) := by go_simp
  have d1 : (w'.alloc (.cells #[.int .i64 er, .int .i64 f] 27)).cell? ⟨w'.heap.size, 1, none⟩ = some (.int .i64 f) := by go_simp
  have hx := hx.alloc (.cells #[.int .i64 er, .int .i64 f] 27)
  have hne : w.heap.size ≠ w'.heap.size := by omega
  have hsz : (w'.alloc (.cells #[.int .i64 er, .int .i64 f] 27)).heap.size = w'.heap.size + 1 := by simp
  clear hb ho hbA
  have HM := hid hm
  rw [hm] at hp5
  clear hm
  by_cases he : er = 0
  · subst he
    obtain ⟨i1, i2, i3⟩ := HOK.out rfl
    rw [HL.out] at i3
    subst i1
    by_cases h5 : m = 5 ∧ 15 < L.getD 4 0
    · obtain ⟨rfl, hL4⟩ := h5
      have HF : Hid (getL false zs p = (0, 0, 4, q - 1)) := by
        show _ = _
        rw [← HP.out]; unfold fromParts; simp only; rw [if_neg (by simp), if_pos ⟨HM.out, hL4⟩]
      obtain ⟨b, off, rfl, hcell⟩ := hx.at (by have := HM.out; omega)
      have hc4 := hcell 4 (by have := HM.out; omega)
      generalize L.getD 4 0 = x at *
      obtain ⟨g0, g1⟩ := set_two (x := .int .i64 4) (y := .int .i64 (q - 1)) u0 u1
      have g0 := keepA g0 (.cells #[.int .i64 0, .int .i64 0] 27)
      have g1 := keepA g1 (.cells #[.int .i64 0, .int .i64 0] 27)
      clear hcell hsz hne u0 u1
      go_wp2
      refine bodyPost_ret (v := .tuple #[.int .u32 0, .int .i64 0, .agg #[.int .i64 4, .int .i64 (q - 1)]]) (by simp [results, Tryd.results34, go_sem, g0, g1]) rfl ⟨by rw [HF.out], ?_⟩
      exact ((hA.setCell (Nat.le_refl _) _).setCell (Nat.le_refl _) _).alloc (by simp; omega) _
    · have HF : Hid (getL false zs p = (sumL L, q, 0, 0)) := by
        show _ = _
        rw [← HP.out]; unfold fromParts; simp only; rw [if_neg (by simp), if_neg (by rw [HM.out]; exact h5)]
      obtain ⟨s0, s1⟩ := HSU.out _ _ _ HF.out
      clear u0 u1 hA
      by_cases hm5 : m = 5
      · subst hm5
        obtain ⟨b, off, rfl, hcell⟩ := hx.at (by have := HM.out; omega)
        have hc4 := hcell 4 (by have := HM.out; omega)
        have hL4 : ¬ 15 < L.getD 4 0 := fun h => h5 ⟨rfl, h⟩
        clear h5 hcell
        generalize L.getD 4 0 = x at *
        go_wp2
        have hxd := hid (hx.below (Below.refl _ _).drew)
        have hw : IntKind.u32.wrap (sumL L) = sumL L := by
          unfold IntKind.wrap; simp [IntKind.bits, IntKind.signed]; omega
        clear hsz hx
        generalize w'.heap.size = k9 at *
        generalize w'.alloc (.cells #[.int .i64 0, .int .i64 0] 27) = w2 at *
        clear hs
        go_region_with (first
          | (go_at_call 42; refine (sum_any _ 5 cv L _ HM.out hxd.out HPB.out (by omega)).mono ?_; rintro e w3 ⟨rfl, rfl⟩))
        all_goals go_wp2
        all_goals refine bodyPost_ret (v := .tuple #[.int .u32 (sumL L), .int .i64 q, .agg #[.int .i64 0, .int .i64 0]]) (by simp [results, Tryd.results34, go_sem, c0, c1]) rfl ⟨by rw [HF.out], ?_⟩
        all_goals exact ((hA2.setCell (Nat.le_refl _) _).setCell (Nat.le_refl _) _).drew
      · have hm5' : ¬ (m : Int) = 5 := by omega
        clear h5 hm5
        go_wp2
        have hxd := hid (hx.below (Below.refl _ _).drew)
        have hw : IntKind.u32.wrap (sumL L) = sumL L := by
          unfold IntKind.wrap; simp [IntKind.bits, IntKind.signed]; omega
        clear hsz hx
        generalize w'.heap.size = k9 at *
        generalize w'.alloc (.cells #[.int .i64 0, .int .i64 0] 27) = w2 at *
        clear hs
        go_region_with (first
          | (go_at_call 42; refine (sum_any _ m cv L _ HM.out hxd.out HPB.out (by omega)).mono ?_; rintro e w3 ⟨rfl, rfl⟩))
        all_goals go_wp2
        all_goals refine bodyPost_ret (v := .tuple #[.int .u32 (sumL L), .int .i64 q, .agg #[.int .i64 0, .int .i64 0]]) (by simp [results, Tryd.results34, go_sem, c0, c1]) rfl ⟨by rw [HF.out], ?_⟩
        all_goals exact ((hA2.setCell (Nat.le_refl _) _).setCell (Nat.le_refl _) _).drew
  · have HF : Hid (getL false zs p = (0, 0, er, f)) := by
      show _ = _
      rw [← HP.out]; unfold fromParts; simp only; rw [if_pos he]
    go_wp2
    clear hsz
    generalize w'.heap.size = k9 at *
    generalize w'.alloc (.cells #[.int .i64 er, .int .i64 f] 27) = w2 at *
    clear hs
    go_region
    go_wp2
    refine bodyPost_ret (v := .tuple #[.int .u32 0, .int .i64 0, .agg #[.int .i64 er, .int .i64 f]]) (by simp [results, Tryd.results34, go_sem, c0, c1]) rfl ⟨by rw [HF.out], ?_⟩
    exact ((hA2.setCell (Nat.le_refl _) _).setCell (Nat.le_refl _) _).drew
end Go.Proofs.YtgmcknblfgealaaDoor.Leb
