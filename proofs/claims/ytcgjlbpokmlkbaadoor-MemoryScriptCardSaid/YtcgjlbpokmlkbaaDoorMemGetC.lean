/-
  MEMORY: get by contract.
-/
import Derived.Test.YtcgjlbpokmlkbaaDoorMemGet
namespace Go.Proofs.YtcgjlbpokmlkbaaDoor.Mem
open Go.RowKit
open Go.Maps (Keyed int_keyed IsMap)
set_option linter.unusedVariables false

theorem rowF_over {R : List Int} {f : Nat → Int} {off s j T : Nat} (h : off + j + T ≤ R.length) : over (over R (rowF f s j) off) (rowF f (s + j) T) (off + j) = over R (rowF f s (j + T)) off := by
  have hl1 : off + (rowF f s j).length ≤ R.length := by rw [rowF_length]; omega
  have hlen : (over R (rowF f s j) off).length = R.length := over_length hl1
  apply List.ext_getElem?
  intro i
  have e : ∀ (X Y : List Int), X.length = Y.length → X.getD i 0 = Y.getD i 0 → X[i]? = Y[i]? := by
    intro X Y hl hd
    by_cases hi : i < X.length
    · rw [List.getElem?_eq_getElem hi, List.getElem?_eq_getElem (by omega)]
      rw [getD_lt hi, getD_lt (by omega)] at hd
      rw [hd]
    · rw [List.getElem?_eq_none (by omega), List.getElem?_eq_none (by omega)]
  refine e _ _ ?_ ?_
  · rw [over_length (by rw [rowF_length, hlen]; omega), hlen, over_length (by rw [rowF_length]; omega)]
  · rw [over_getD (by rw [rowF_length, hlen]; omega), over_getD hl1, over_getD (by rw [rowF_length]; omega)]
    simp only [rowF_length]
    by_cases h1 : off + j ≤ i ∧ i < off + j + T
    · rw [if_pos h1, if_pos (by omega), rowF_getD _ _ _ _ (by omega), rowF_getD _ _ _ _ (by omega)]
      congr 1; omega
    · rw [if_neg h1]
      by_cases h2 : off ≤ i ∧ i < off + j
      · rw [if_pos h2, if_pos (by omega), rowF_getD _ _ _ _ (by omega), rowF_getD _ _ _ _ (by omega)]
      · rw [if_neg h2, if_neg (by omega)]
theorem over_nil (R : List Int) (off : Nat) : over R [] off = R := by simp [over]
theorem over_same {R : List Int} {f : Nat → Int} {off s : Nat} {n : Nat} (h : off + n ≤ R.length) (hz : ∀ i, i < n → R.getD (off + i) 0 = f (s + i)) : over R (rowF f s n) off = R := by
  apply List.ext_getElem?
  intro i
  have hlen : (over R (rowF f s n) off).length = R.length := over_length (by rw [rowF_length]; omega)
  by_cases hi : i < R.length
  · have hd := over_getD (R := R) (xs := rowF f s n) (off := off) (by rw [rowF_length]; omega) i
    rw [rowF_length] at hd
    rw [List.getElem?_eq_getElem (by omega), List.getElem?_eq_getElem hi]
    rw [getD_lt (by omega), getD_lt hi] at hd
    rw [hd]
    split
    · rename_i hb
      have := hz (i - off) (by omega)
      rw [show off + (i - off) = i by omega, getD_lt hi] at this
      rw [rowF_getD _ _ _ _ (by omega), this]
    · rfl
  · rw [List.getElem?_eq_none (by omega), List.getElem?_eq_none (by omega)]

/-- What get has done of n bytes when j are behind it. -/
structure GotTo (W : World) (m : Mm) (g : Nat) (T : TypeId) (R : List Int) (off s j : Nat) (wr : World) : Prop where
  heap : wr.heap[g]? = some (.cells ((over R (rowF m.f s j) off).map (Value.int .u8)).toArray T (0, 0))
  save : Save g W wr
  size : wr.heap.size = W.heap.size
theorem GotTo.step {W : World} {m : Mm} {g : Nat} {T : TypeId} {R : List Int} {off s j t : Nat} {wr wr' : World} (h : GotTo W m g T R off s j wr) (hl : off + j + t ≤ R.length)
    (hh : wr'.heap[g]? = some (.cells ((over (over R (rowF m.f s j) off) (rowF m.f (s + j) t) (off + j)).map (Value.int .u8)).toArray T (0, 0))) (hs : Save g wr wr') (hz : wr'.heap.size = wr.heap.size) : GotTo W m g T R off s (j + t) wr' :=
  ⟨by rw [hh, rowF_over hl], h.save.trans hs, hz.trans h.size⟩
theorem GotTo.skip {W : World} {m : Mm} {g : Nat} {T : TypeId} {R : List Int} {off s j t n : Nat} {wr : World} (h : GotTo W m g T R off s j wr) (hjn : j + t ≤ n) (hl : off + n ≤ R.length) (hz : ∀ i, i < n → R.getD (off + i) 0 = 0)
    (hf : ∀ i, i < t → m.f (s + j + i) = 0) : GotTo W m g T R off s (j + t) wr := by
  have e := over_same (R := over R (rowF m.f s j) off) (f := m.f) (off := off + j) (s := s + j) (n := t) (by rw [over_length (by rw [rowF_length]; omega)]; omega) (fun i hi => by
    rw [over_getD (by rw [rowF_length]; omega), rowF_length, if_neg (by omega), hf i hi]
    have := hz (j + i) (by omega)
    rw [show off + j + i = off + (j + i) by omega]
    exact this)
  exact ⟨by rw [h.heap, ← rowF_over (by omega), e], h.save, h.size⟩
set_option maxRecDepth 100000 in
set_option maxHeartbeats 1600000 in
theorem get_any {B : Nat} {W : World} {p mb K : Nat} {D : DataW Unit} {m : Mm} (hM : MemAt B W p mb K D m) (g : Nat) (T : TypeId) (R : List Int) (a : Option Addr) (off n c s : Nat) (hh : W.heap[g]? = some (.cells (R.map (Value.int .u8)).toArray T (0, 0)))
    (hT : (T == 47 || T == 93) = false) (hoff : off + n ≤ R.length) (hc : n ≤ c) (hcm : c ≤ 140737488355328) (ha : 0 < n → a = some ⟨g, off, none⟩) (hs : s + n ≤ m.n * 65536) (hz : ∀ i, i < n → R.getD (off + i) 0 = 0) :
    Calls Tryd.prog 35 #[.pointer (some ⟨p, 0, none⟩), .int .u64 s, .slice a n c] W fun e W' => e = .returned (.tuple #[]) ∧ GotTo W m g T R off s n W' := by
  have hnp : m.n ≤ 65536 := Nat.le_trans hM.ok.n hM.ok.most
  have HM := hid hM
  have HH := hid hh
  have HT := hid hT
  have HS := hid hs
  have HZ := hid hz
  have HO := hid hoff
  have HP := hid hnp
  have HA := hid ha
  clear hM hh hT hs hz hoff hnp ha
  obtain ⟨S0, hS0⟩ : ∃ S0 : Int, (s : Int) = S0 := ⟨_, rfl⟩
  rw [hS0]
  have HS0 := hid hS0
  clear hS0
  go_enter Tryd.func35, Tryd.ntmps35
  go_wp2
  go_loopw [1, 2] (fun v1 v2 wr => ∃ (S : Int) (j r cc : Nat) (aa : Option Addr), v1 = .int .u64 S ∧ v2 = .slice aa r cc ∧ Hid (S = (s : Int) + j) ∧ Hid (r + j = n) ∧ r ≤ cc ∧ cc ≤ 140737488355328 ∧ Hid (0 < r → aa = some ⟨g, off + j, none⟩) ∧ Hid (GotTo W m g T R off s j wr)) (fun _ v2 _ => match v2 with | .slice _ r _ => r | _ => 0)
  case atStart => exact ⟨S0, 0, n, c, a, rfl, rfl, by show _ = _; rw [← HS0.out]; simp, rfl, hc, hcm, HA, ⟨by rw [show rowF m.f s 0 = [] from rfl, over_nil]; exact HH.out, Save.refl _ _, rfl⟩⟩
  case round =>
    obtain ⟨S, j, r, cc, aa, rfl, rfl, HSj, HR, hrc, hcc, HAA, HG⟩ := hrel
    clear HA hc hcm HS0
    by_cases hr : 0 < r
    · have hai := HAA.out hr
      subst hai
      clear HAA
      have hsj := HSj.out
      have hrj := HR.out
      have hs := HS.out
      have hp := HP.out
      obtain ⟨k, q, hkq, hq⟩ : ∃ k q : Nat, s + j = k * 65536 + q ∧ q < 65536 := ⟨(s + j) / 65536, (s + j) % 65536, by omega, by omega⟩
      have hdiv : S / 65536 = (k : Int) := by omega
      have hmod : S % 65536 = (q : Int) := by omega
      have hS0 : 0 ≤ S := by omega
      have hS1 : S ≤ 4294967296 := by have : m.n * 65536 ≤ 65536 * 65536 := Nat.mul_le_mul_right _ hp; omega
      obtain ⟨t, ht⟩ : ∃ t : Nat, min r (65536 - q) = t := ⟨_, rfl⟩
      have htr : t ≤ r := by omega
      have htq : t ≤ 65536 - q := by omega
      have ht0 : 0 < t := by omega
      have hmin : min (r : Int) (65536 - (q : Int)) = (t : Int) := by omega
      have hmin2 : (if 65536 - (q : Int) < (r : Int) then 65536 - (q : Int) else (r : Int)) = (t : Int) := by split <;> omega
      have hM2 : MemAt B wr p mb K D m := HM.out.save HG.out.save HH.out HT.out
      have c3 := hM2.cells.2.2.2
      have HL := hM2.look k (by omega)
      have HKQ := hid hkq
      have HQ := hid hq
      clear hM2 hsj hrj hs hp hkq hq ht
      have hS2 : S + (t : Int) ≤ 4295032832 := by omega
      have hq1 : (q : Int) < 65536 := by have := HQ.out; omega
      have hq2 : (t : Int) ≤ 65536 - (q : Int) := by omega
      have htri : (t : Int) ≤ (r : Int) := by omega
      have htci : (t : Int) ≤ (cc : Int) := by omega
      rcases HL with ⟨hrun, _, hnull⟩ | ⟨pg, hpB, hrun, _, hpage⟩
      · have HN : Hid (GotTo W m g T R off s (j + t) wr) := HG.out.skip (by have := HR.out; omega) HO.out HZ.out (fun i hi => by
          have h1 := HKQ.out
          rw [h1, show k * 65536 + q + i = k * 65536 + (q + i) by omega]
          exact hnull _ (by omega))
        clear hnull
        have hrel : Hid (S + (t : Int) = (s : Int) + ((j + t : Nat) : Int)) := hid (by have := HSj.out; push_cast; omega)
        have hrel2 : Hid (r - t + (j + t) = n) := hid (by have := HR.out; omega)
        by_cases htc : t = cc
        · subst htc
          obtain rfl : r = t := by omega
          go_wp2
          go_roundw
          case rel => exact ⟨_, j + r, 0, 0, _, rfl, rfl, hrel, by simpa using hrel2, by omega, by omega, fun h => by omega, HN⟩
          case measure => simp; omega
        · go_wp2
          go_roundw
          case rel => exact ⟨_, j + t, r - t, _, _, rfl, rfl, hrel, hrel2, by omega, by omega, fun _ => by rw [Nat.add_assoc], HN⟩
          case measure => simp; omega
      · have hrel : Hid (S + (t : Int) = (s : Int) + ((j + t : Nat) : Int)) := hid (by have := HSj.out; push_cast; omega)
        have hrel2 : Hid (r - t + (j + t) = n) := hid (by have := HR.out; omega)
        obtain ⟨L, hL, hLl, hLf⟩ := hpage
        have hdst := HG.out.heap
        have hfit : off + j + t ≤ (over R (rowF m.f s j) off).length := by
          have h1 := HR.out
          have h2 := HO.out
          rw [over_length (by rw [rowF_length]; omega)]
          omega
        have hsrc : ∀ i, i < t → wr.cell? ⟨pg, q + i, none⟩ = some (.int .u8 ((rowF m.f (s + j) t).getD i 0)) := fun i hi => by
          have h1 := HKQ.out
          have h2 := hLf (q + i) (by omega)
          rw [rowF_getD _ _ _ _ hi, h1, show k * 65536 + q + i = k * 65536 + (q + i) by omega, ← h2]
          have h3 : q + i < L.length := by omega
          simp [World.cell?, hL, h3]
        have hlen := rowF_length m.f t (s + j)
        have hmn : Hid (t = Nat.min (65536 - q) t) := hid (Nat.min_eq_right (by omega)).symm
        have HSTEP := hid (fun (w2 : World) (h1 : Hid (w2.heap[g]? = some (.cells ((over (over R (rowF m.f s j) off) (rowF m.f (s + j) t) (off + j)).map (Value.int .u8)).toArray T (0, 0)))) (h2 : Save g wr w2) (h3 : w2.heap.size = wr.heap.size) => HG.out.step (by have := HR.out; have := HO.out; omega) h1.out h2 h3)
        have hsl := slice_page pg q (by omega)
        clear hL hLl hLf HG
        by_cases htc : t = cc
        · subst htc
          obtain rfl : r = t := by omega
          go_wp2_with fail
          go_region_law (refine copy_step (g := g) (off := off + j) (dl := r) (dc := r) (sl := 65536 - q) (sc := 65536 - q) (q := pg) (o2 := q) (M := r) (by rfl) (.tmp 31) (.tmp 35) (by rfl) (by go_simp) (by go_simp) hdst hlen hmn.out hfit hsrc ?_; intro w2 hh2 hs2 hz2)
          have HN := hid (HSTEP.out w2 hh2 ((Save.refl g wr).drew.trans hs2) hz2)
          clear HSTEP hh2 hs2 hz2 hdst hfit hsrc hlen
          go_wp2
          go_roundw
          case rel => exact ⟨_, j + r, 0, 0, _, rfl, rfl, hrel, by simpa using hrel2, by omega, by omega, fun h => by omega, HN⟩
          case measure => simp; omega
        · go_wp2_with fail
          go_region_law (refine copy_step (g := g) (off := off + j) (dl := t) (dc := cc) (sl := 65536 - q) (sc := 65536 - q) (q := pg) (o2 := q) (M := t) (by rfl) (.tmp 31) (.tmp 35) (by rfl) (by go_simp) (by go_simp) hdst hlen hmn.out hfit hsrc ?_; intro w2 hh2 hs2 hz2)
          have HN := hid (HSTEP.out w2 hh2 ((Save.refl g wr).drew.trans hs2) hz2)
          clear HSTEP hh2 hs2 hz2 hdst hfit hsrc hlen
          go_wp2
          go_roundw
          case rel => exact ⟨_, j + t, r - t, _, _, rfl, rfl, hrel, hrel2, by omega, by omega, fun _ => by rw [Nat.add_assoc], HN⟩
          case measure => simp; omega
    · obtain rfl : r = 0 := by omega
      have HG2 : Hid (GotTo W m g T R off s n wr) := by
        have h1 := HR.out
        have h2 : j = n := by omega
        rw [← h2]; exact HG.out
      go_wp2
      go_end0
      exact ⟨rfl, HG2.out⟩
end Go.Proofs.YtcgjlbpokmlkbaaDoor.Mem
