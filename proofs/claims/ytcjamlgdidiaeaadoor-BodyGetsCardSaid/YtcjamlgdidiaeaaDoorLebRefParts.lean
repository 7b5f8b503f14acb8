import Derived.Test.YtcjamlgdidiaeaaDoorLebCalls
import Derived.Test.YtcjamlgdidiaeaaDoorInts
import Derived.RegionTactic
import Derived.ChangeAlike
import Derived.Deep.RegionHeld3
import Derived.Deep.RegionWith
/-
  LEB: the document's own answer GetU, by contracts: parts, sum.
-/
namespace Go.Proofs.YtcjamlgdidiaeaaDoor.Leb
open Go.RowKit

/-- What parts are together. -/
def sumL : List Int → Int
  | [] => 0
  | x :: t => 128 * sumL t + x
theorem sumL_snoc : ∀ (l : List Int) (x : Int), sumL (l ++ [x]) = sumL l + x * 128 ^ l.length
  | [], x => by simp [sumL]
  | y :: t, x => by
    simp only [List.cons_append, sumL, sumL_snoc t x, List.length_cons, Int.pow_succ]
    rw [Int.mul_add, Int.mul_comm (128 ^ t.length) 128, ← Int.mul_assoc, ← Int.mul_assoc, Int.mul_comm 128 x]
    omega
theorem sumL_bounds : ∀ l : List Int, (∀ x ∈ l, 0 ≤ x ∧ x < 128) → 0 ≤ sumL l ∧ sumL l < 128 ^ l.length
  | [], _ => by simp [sumL]
  | x :: t, h => by
    have := sumL_bounds t fun y hy => h y (by simp [hy])
    have := h x (by simp)
    simp only [sumL, List.length_cons, Int.pow_succ]
    omega
/-- The parts of the number that bytes begin with: behind these parts, at this place. Parts, next place, error, its place. -/
def partsGo : List Int → List Int → Int → List Int × Int × Int × Int
  | _, [], p => ([], 0, 4, p)
  | acc, c :: r, p =>
    if acc.length = 4 ∧ 128 ≤ c then ([], 0, 4, p)
    else if c < 128 then (acc ++ [c % 128], p + 1, 0, 0)
    else partsGo (acc ++ [c % 128]) r (p + 1)
def partsL (l : List Int) (p : Int) : List Int × Int × Int × Int := if p < 0 ∨ (l.length : Int) < p then ([], 0, 5, 0) else partsGo [] (l.drop p.toNat) p
/-- What GetU makes of the parts. -/
def fromParts (r : List Int × Int × Int × Int) : Int × Int × Int × Int :=
  if r.2.2.1 ≠ 0 then (0, 0, r.2.2.1, r.2.2.2) else if r.1.length = 5 ∧ 15 < r.1.getD 4 0 then (0, 0, 4, r.2.1 - 1) else (sumL r.1, r.2.1, 0, 0)

theorem goL_parts : ∀ (l acc : List Int) (p : Int), (∀ c ∈ l, 0 ≤ c ∧ c < 256) → acc.length ≤ 4 → fromParts (partsGo acc l p) = goL false acc.length (sumL acc) l p
  | [], acc, p, _, _ => by simp [partsGo, goL, fromParts]
  | c :: r, acc, p, hl, hk => by
    have hc := hl c (by simp)
    have hs := sumL_snoc acc (c % 128)
    simp only [partsGo, goL]
    by_cases h4 : acc.length = 4
    · by_cases h128 : 128 ≤ c
      · rw [if_pos ⟨h4, h128⟩, if_pos ⟨h4, by simp [okFifth]; omega⟩]
        simp [fromParts]
      · rw [if_neg (by omega), if_pos (by omega)]
        have hm : c % 128 = c := by omega
        rw [hm] at hs ⊢
        have hlen : (acc ++ [c]).length = 5 := by simp [h4]
        have hget : (acc ++ [c]).getD 4 0 = c := by simp [← h4]
        by_cases hf : c < 16
        · rw [if_neg (by simp [okFifth, hf]), if_pos (by omega), ext_false]
          unfold fromParts
          simp only
          rw [if_neg (by simp), if_neg (by rw [hget]; omega), hs]
        · rw [if_pos ⟨h4, by simp [okFifth]; omega⟩]
          unfold fromParts
          simp only
          rw [if_neg (by simp), if_pos ⟨hlen, by rw [hget]; omega⟩]
          simp
    · rw [if_neg (fun h : acc.length = 4 ∧ 128 ≤ c => h4 h.1), if_neg (fun h : acc.length = 4 ∧ okFifth false c = false => h4 h.1)]
      by_cases h128 : c < 128
      · rw [if_pos h128, if_pos h128, ext_false]
        unfold fromParts
        simp only
        rw [if_neg (by simp), if_neg (by simp; omega), hs]
      · rw [if_neg h128, if_neg h128, goL_parts r (acc ++ [c % 128]) (p + 1) (fun z hz => hl z (by simp [hz])) (by simp; omega), hs]
        simp
theorem getL_parts {l : List Int} (hl : ∀ c ∈ l, 0 ≤ c ∧ c < 256) (p : Int) : fromParts (partsL l p) = getL false l p := by
  unfold partsL getL
  by_cases h : p < 0 ∨ (l.length : Int) < p
  · rw [if_pos h, if_pos h]; simp [fromParts]
  · rw [if_neg h, if_neg h]
    exact goL_parts _ [] p (fun c hc => hl c (List.mem_of_mem_drop hc)) (by simp)
theorem partsGo_bytes : ∀ (l acc : List Int) (p : Int), (∀ x ∈ acc, 0 ≤ x ∧ x < 128) → acc.length ≤ 4 → (∀ x ∈ (partsGo acc l p).1, 0 ≤ x ∧ x < 128) ∧ (partsGo acc l p).1.length ≤ 5
  | [], acc, p, _, _ => by simp [partsGo]
  | c :: r, acc, p, h, hk => by
    have h' : ∀ x ∈ acc ++ [c % 128], 0 ≤ x ∧ x < 128 := fun x hx => by
      rcases List.mem_append.1 hx with hx | hx
      · exact h x hx
      · rw [List.mem_singleton] at hx; omega
    simp only [partsGo]
    split
    · simp
    · split
      · exact ⟨h', by simp; omega⟩
      · exact partsGo_bytes r _ _ h' (by simp; omega)

theorem sum_any (a : Option Addr) (len cap : Nat) (zs : List Int) (w : World) (hlen : zs.length = len) (hz : Nums .i64 w a zs) (hb : ∀ x ∈ zs, 0 ≤ x ∧ x < 128) (h5 : len ≤ 5) :
    Calls Tryd.prog 93 #[.slice a len cap] w fun e w' => e = .returned (.int .i64 (sumL zs)) ∧ w = w' := by
  have HL := hid hlen
  have HB := hid hb
  clear hlen hb
  go_enter Tryd.func93, Tryd.ntmps93
  go_wp2
  go_loop [3, 4] (fun vn vi => ∃ j : Nat, j ≤ len ∧ vi = .int .i64 ((j : Int) - 1) ∧ vn = .int .i64 (sumL (zs.drop j))) (fun _ vi => (intOf vi + 1).toNat)
  case atStart => exact ⟨len, Nat.le_refl _, rfl, by rw [List.drop_eq_nil_of_le (by have := HL.out; omega)]; rfl⟩
  case round =>
    obtain ⟨j, hj, rfl, rfl⟩ := hrel
    obtain ⟨s0, s1⟩ := sumL_bounds (zs.drop j) (fun x hx => HB.out x (List.mem_of_mem_drop hx))
    cases j with
    | zero =>
      have HF := hid (show sumL (zs.drop 0) = sumL zs by rw [List.drop_zero])
      generalize sumL (zs.drop 0) = s at *
      go_wp2
      go_ret
      exact ⟨ret_int HF.out, rfl⟩
    | succ j =>
      have hjl : j < zs.length := by have := HL.out; omega
      obtain ⟨b, off, rfl, hcell⟩ := hz.at (by omega)
      have hc := hcell j hjl
      have hx : 0 ≤ zs.getD j 0 ∧ zs.getD j 0 < 128 := by rw [getD_lt hjl]; exact HB.out _ (List.getElem_mem hjl)
      have HD := hid (drop_at hjl)
      have hs2 : sumL (zs.drop (j + 1)) < 34359738368 := by
        have h1 : (zs.drop (j + 1)).length ≤ 5 := by rw [List.length_drop]; have := HL.out; omega
        have h2 : (zs.drop (j + 1)).length = 0 ∨ (zs.drop (j + 1)).length = 1 ∨ (zs.drop (j + 1)).length = 2 ∨ (zs.drop (j + 1)).length = 3 ∨ (zs.drop (j + 1)).length = 4 ∨ (zs.drop (j + 1)).length = 5 := by omega
        rcases h2 with h2 | h2 | h2 | h2 | h2 | h2 <;> rw [h2] at s1 <;> simp at s1 <;> omega
      have HS : Hid (sumL (zs.drop j) = 128 * sumL (zs.drop (j + 1)) + zs.getD j 0) := by
        show _ = _
        rw [HD.out]; rfl
      clear hcell hjl HD s1
      generalize zs.getD j 0 = x at *
      generalize sumL (zs.drop (j + 1)) = s at *
      obtain ⟨x0, x1⟩ := hx
      go_wp2
      go_round
      case rel => exact ⟨j, by omega, by go_num, by rw [HS.out]⟩
      case measure => simp [intOf]
end Go.Proofs.YtcjamlgdidiaeaaDoor.Leb

/-
  LEB: the document's own answer GetU, by contracts: parts, GetU.
-/
namespace Go.Proofs.YtcjamlgdidiaeaaDoor.Leb
open Go.RowKit

theorem infoI64 : (Tryd.prog.info? 2).map (fun i => (i.zero, i.size, i.bytes)) = some (some (.int .i64 0), 1, 8) := by kernel_rfl

/-- What 'parts' hands back. -/
def GotParts (w : World) (r : List Int × Int × Int × Int) (e : Ending) (w' : World) : Prop :=
  ∃ v, e = .returned (.tuple #[v, .int .i64 r.2.1, .agg #[.int .i64 r.2.2.1, .int .i64 r.2.2.2]]) ∧ OwnK 2 .i64 w.heap.size w' v r.1 ∧ Below w.heap.size w w'

set_option maxHeartbeats 800000 in
theorem parts_out (a : Option Addr) (len cap : Nat) (p : Int) (w : World) (hp : p < 0 ∨ (len : Int) < p) :
    Calls Tryd.prog 92 #[.slice a len cap, .int .i64 p] w fun e w' => e = .returned (.tuple #[.slice none 0 0, .int .i64 0, .agg #[.int .i64 5, .int .i64 0]]) ∧ Below w.heap.size w w' := by
  by_cases h0 : p < 0
  · clear hp
    go_enter Tryd.func92, Tryd.ntmps92
    go_wp2
    refine bodyPost_ret (v := .tuple #[.slice none 0 0, .int .i64 0, .agg #[.int .i64 5, .int .i64 0]]) (by simp [results, Tryd.results92, go_sem]) rfl ⟨rfl, ?_⟩
    exact (Below.refl _ _).alloc (Nat.le_refl _) _
  · have h1 : (len : Int) < p := by omega
    clear hp
    go_enter Tryd.func92, Tryd.ntmps92
    go_wp2
    refine bodyPost_ret (v := .tuple #[.slice none 0 0, .int .i64 0, .agg #[.int .i64 5, .int .i64 0]]) (by simp [results, Tryd.results92, go_sem]) rfl ⟨rfl, ?_⟩
    exact (Below.refl _ _).alloc (Nat.le_refl _) _

set_option maxHeartbeats 3200000 in
theorem parts_in (a : Option Addr) (len cap p0 : Nat) (zs : List Int) (w : World) (hlen : zs.length = len) (hz : Bytes w a zs) (hp : p0 ≤ len) :
    Calls Tryd.prog 92 #[.slice a len cap, .int .i64 p0] w (GotParts w (partsGo [] (zs.drop p0) p0)) := by
  have hmax := hz.size
  rw [hlen] at hmax
  have HL := hid hlen
  have hz1 := hz.alloc (.cells #[.int .i64 0, .int .i64 0] 38)
  have c0 : (w.alloc (.cells #[.int .i64 0, .int .i64 0] 38)).cell? ⟨w.heap.size, 0, none⟩ = some (.int .i64 0) := by go_simp
  have c1 : (w.alloc (.cells #[.int .i64 0, .int .i64 0] 38)).cell? ⟨w.heap.size, 1, none⟩ = some (.int .i64 0) := by go_simp
  have f0 : (w.alloc (.cells #[.int .i64 0, .int .i64 0] 38)).frozen? ⟨w.heap.size, 0, none⟩ = false := by go_simp
  have f1 : (w.alloc (.cells #[.int .i64 0, .int .i64 0] 38)).frozen? ⟨w.heap.size, 1, none⟩ = false := by go_simp
  have hA : Below w.heap.size w (w.alloc (.cells #[.int .i64 0, .int .i64 0] 38)) := (Below.refl _ _).alloc (Nat.le_refl _) _
  have hlt : w.heap.size < (w.alloc (.cells #[.int .i64 0, .int .i64 0] 38)).heap.size := by simp
  have hn0 : ¬ (p0 : Int) < 0 := by omega
  have hn1 : ¬ (len : Int) < (p0 : Int) := by omega
  clear hlen hz
  go_enter Tryd.func92, Tryd.ntmps92
  go_wp2
  generalize w.alloc (.cells #[.int .i64 0, .int .i64 0] 38) = wa at *
  clear hn0 hn1
  go_loopw [7, 8] (fun v vi wr => ∃ (i : Nat) (acc : List Int), vi = .int .i64 i ∧ i ≤ len ∧ OwnK 2 .i64 wa.heap.size wr v acc ∧ acc.length ≤ 4 ∧ Below wa.heap.size wa wr ∧ wa.heap.size ≤ wr.heap.size ∧
      partsGo [] (zs.drop p0) p0 = partsGo acc (zs.drop i) i) (fun _ vi _ => len - (intOf vi).toNat)
  case atStart => exact ⟨p0, [], rfl, hp, World.ownsRow_nil _ _ _ _, by simp, Below.refl _ _, Nat.le_refl _, rfl⟩
  case round =>
    obtain ⟨i, acc, rfl, hi, hown, hacc, hbw, hsw, hG⟩ := hrel
    have HG := hid hG
    clear hG
    obtain ⟨m, hm⟩ : ∃ m, acc.length = m := ⟨_, rfl⟩
    obtain ⟨av, cv, rfl⟩ := hown.sliceN hm
    rw [hm] at hacc
    have HM := hid hm
    have hAw := hA.trans (hbw.mono (by omega))
    have c0 := (hbw.cell (p := ⟨w.heap.size, 0, none⟩) hlt).trans c0
    have c1 := (hbw.cell (p := ⟨w.heap.size, 1, none⟩) hlt).trans c1
    have f0 := (hbw.frozen (p := ⟨w.heap.size, 0, none⟩) hlt).trans f0
    have f1 := (hbw.frozen (p := ⟨w.heap.size, 1, none⟩) hlt).trans f1
    by_cases hil : i < len
    · have hil' : i < zs.length := by have := HL.out; omega
      obtain ⟨b, off, rfl, hcell⟩ := (hz1.below hbw).at (by omega)
      have hc := hcell i hil'
      obtain ⟨x0, x1⟩ := hz1.get hil'
      have HD := hid (drop_at hil')
      have hbb : b < wa.heap.size := by
        obtain ⟨b', off', he, hcell'⟩ := hz1.at (by omega)
        simp only [Option.some.injEq, Addr.mk.injEq] at he
        have := World.block_lt_of_cell? wa _ (hcell' i hil')
        simp only at this
        omega
      generalize zs.getD i 0 = c at *
      clear hcell hil' hm
      have hbw0 := hbw
      have fin : ∀ (v' : Value) (w5 : World), Below wa.heap.size wa w5 → (∀ p : Addr, p.block < wa.heap.size → w5.cell? p = wr.cell? p ∧ w5.frozen? p = wr.frozen? p) := fun _ w5 h p hpb =>
        ⟨(h.cell hpb).trans (hbw0.cell hpb).symm, (h.frozen hpb).trans (hbw0.frozen hpb).symm⟩
      have FIN := hid fin
      clear fin hbw0
      have ht : Int.tmod c 128 = c % 128 := Int.tmod_eq_emod_of_nonneg x0
      have v0 : Value := .slice none 0 0
      by_cases h4 : m = 4
      · by_cases h128 : 128 ≤ c
        · have HF : Hid (partsGo [] (zs.drop p0) p0 = ([], 0, 4, (i : Int))) := by
            show _ = _
            rw [HG.out, HD.out]
            simp only [partsGo]
            rw [if_pos ⟨by rw [HM.out, h4], h128⟩]
          subst h4
          go_wp2_with (first
          | (at_builtin; refine append_num infoI64 Tryd.underlying120 rfl (.tmp 25) (.tmp 32) rfl (c % 128) rfl hown hbw hsw rfl (by have := HM.out; omega) (by have := HM.out; omega) ?_; intro v' w5 hown5 hb5 hs5 _
             obtain ⟨av5, cv5, rfl⟩ := hown5.sliceN (n := 5) (by simp [HM.out])
             have hc5 := ((FIN.out v0 w5 hb5 ⟨b, off + i, none⟩ hbb).1).trans hc
             have d0 := ((FIN.out v0 w5 hb5 ⟨w.heap.size, 0, none⟩ hlt).1).trans c0
             have d1 := ((FIN.out v0 w5 hb5 ⟨w.heap.size, 1, none⟩ hlt).1).trans c1
             have g0 := ((FIN.out v0 w5 hb5 ⟨w.heap.size, 0, none⟩ hlt).2).trans f0
             have g1 := ((FIN.out v0 w5 hb5 ⟨w.heap.size, 1, none⟩ hlt).2).trans f1
             have hA5 := hA.trans (hb5.mono (Nat.le_of_lt hlt))
             clear hc c0 c1 f0 f1 hown hbw))
          refine bodyPost_ret (v := .tuple #[.slice none 0 0, .int .i64 0, .agg #[.int .i64 4, .int .i64 i]]) (by simp [results, Tryd.results92, go_sem, d0, d1]) rfl ⟨_, by rw [HF.out], ?_, ?_⟩
          · rw [HF.out]; exact World.ownsRow_nil _ _ _ _
          · exact (hA5.setCell (Nat.le_refl _) _).setCell (Nat.le_refl _) _
        · have HF : Hid (partsGo [] (zs.drop p0) p0 = (acc ++ [c % 128], (i : Int) + 1, 0, 0)) := by
            show _ = _
            rw [HG.out, HD.out]
            simp only [partsGo]
            rw [if_neg (fun h : acc.length = 4 ∧ 128 ≤ c => h128 h.2), if_pos (by omega)]
          subst h4
          go_wp2_with (first
          | (at_builtin; refine append_num infoI64 Tryd.underlying120 rfl (.tmp 25) (.tmp 32) rfl (c % 128) rfl hown hbw hsw rfl (by have := HM.out; omega) (by have := HM.out; omega) ?_; intro v' w5 hown5 hb5 hs5 _
             obtain ⟨av5, cv5, rfl⟩ := hown5.sliceN (n := 5) (by simp [HM.out])
             have hc5 := ((FIN.out v0 w5 hb5 ⟨b, off + i, none⟩ hbb).1).trans hc
             have d0 := ((FIN.out v0 w5 hb5 ⟨w.heap.size, 0, none⟩ hlt).1).trans c0
             have d1 := ((FIN.out v0 w5 hb5 ⟨w.heap.size, 1, none⟩ hlt).1).trans c1
             have g0 := ((FIN.out v0 w5 hb5 ⟨w.heap.size, 0, none⟩ hlt).2).trans f0
             have g1 := ((FIN.out v0 w5 hb5 ⟨w.heap.size, 1, none⟩ hlt).2).trans f1
             have hA5 := hA.trans (hb5.mono (Nat.le_of_lt hlt))
             clear hc c0 c1 f0 f1 hown hbw))
          refine bodyPost_ret (v := .tuple #[.slice av5 5 cv5, .int .i64 ((i : Int) + 1), .agg #[.int .i64 0, .int .i64 0]]) (by simp [results, Tryd.results92, go_sem, d0, d1]) rfl ⟨_, by rw [HF.out], ?_, ?_⟩
          · rw [HF.out]
            exact ((hown5.setCell (p := ⟨w.heap.size, 0, none⟩) hlt _).setCell (p := ⟨w.heap.size, 1, none⟩) hlt _).mono (Nat.le_of_lt hlt)
          · exact (hA5.setCell (Nat.le_refl _) _).setCell (Nat.le_refl _) _
      · by_cases h128 : 128 ≤ c
        · have HF : Hid (partsGo [] (zs.drop p0) p0 = partsGo (acc ++ [c % 128]) (zs.drop (i + 1)) (i + 1 : Nat)) := by
            show _ = _
            rw [HG.out, HD.out]
            simp only [partsGo]
            rw [if_neg (fun h : acc.length = 4 ∧ 128 ≤ c => h4 (by rw [← HM.out]; exact h.1)), if_neg (by omega)]
            rfl
          have hm4 : ¬ (m : Int) + 1 = 5 := by omega
          go_wp2_with (first
          | (at_builtin; refine append_num infoI64 Tryd.underlying120 rfl (.tmp 25) (.tmp 32) rfl (c % 128) rfl hown hbw hsw rfl (by have := HM.out; omega) (by have := HM.out; omega) ?_; intro v' w5 hown5 hb5 hs5 _
             obtain ⟨av5, cv5, rfl⟩ := hown5.sliceN (n := m + 1) (by simp [HM.out])
             have hc5 := ((FIN.out v0 w5 hb5 ⟨b, off + i, none⟩ hbb).1).trans hc
             have d0 := ((FIN.out v0 w5 hb5 ⟨w.heap.size, 0, none⟩ hlt).1).trans c0
             have d1 := ((FIN.out v0 w5 hb5 ⟨w.heap.size, 1, none⟩ hlt).1).trans c1
             have g0 := ((FIN.out v0 w5 hb5 ⟨w.heap.size, 0, none⟩ hlt).2).trans f0
             have g1 := ((FIN.out v0 w5 hb5 ⟨w.heap.size, 1, none⟩ hlt).2).trans f1
             have hA5 := hA.trans (hb5.mono (Nat.le_of_lt hlt))
             clear hc c0 c1 f0 f1 hown hbw))
          go_roundw
          case rel => exact ⟨i + 1, acc ++ [c % 128], by go_num, by omega, hown5, by have := HM.out; simp; omega, hb5, hs5, HF.out⟩
          case measure => simp [intOf]; omega
        · have HF : Hid (partsGo [] (zs.drop p0) p0 = (acc ++ [c % 128], (i : Int) + 1, 0, 0)) := by
            show _ = _
            rw [HG.out, HD.out]
            simp only [partsGo]
            rw [if_neg (fun h : acc.length = 4 ∧ 128 ≤ c => h128 h.2), if_pos (by omega)]
          have hm4 : ¬ (m : Int) + 1 = 5 := by omega
          go_wp2_with (first
          | (at_builtin; refine append_num infoI64 Tryd.underlying120 rfl (.tmp 25) (.tmp 32) rfl (c % 128) rfl hown hbw hsw rfl (by have := HM.out; omega) (by have := HM.out; omega) ?_; intro v' w5 hown5 hb5 hs5 _
             obtain ⟨av5, cv5, rfl⟩ := hown5.sliceN (n := m + 1) (by simp [HM.out])
             have hc5 := ((FIN.out v0 w5 hb5 ⟨b, off + i, none⟩ hbb).1).trans hc
             have d0 := ((FIN.out v0 w5 hb5 ⟨w.heap.size, 0, none⟩ hlt).1).trans c0
             have d1 := ((FIN.out v0 w5 hb5 ⟨w.heap.size, 1, none⟩ hlt).1).trans c1
             have g0 := ((FIN.out v0 w5 hb5 ⟨w.heap.size, 0, none⟩ hlt).2).trans f0
             have g1 := ((FIN.out v0 w5 hb5 ⟨w.heap.size, 1, none⟩ hlt).2).trans f1
             have hA5 := hA.trans (hb5.mono (Nat.le_of_lt hlt))
             clear hc c0 c1 f0 f1 hown hbw))
          refine bodyPost_ret (v := .tuple #[.slice av5 (m + 1) cv5, .int .i64 ((i : Int) + 1), .agg #[.int .i64 0, .int .i64 0]]) (by simp [results, Tryd.results92, go_sem, d0, d1]) rfl ⟨_, by rw [HF.out], ?_, ?_⟩
          · rw [HF.out]
            exact ((hown5.setCell (p := ⟨w.heap.size, 0, none⟩) hlt _).setCell (p := ⟨w.heap.size, 1, none⟩) hlt _).mono (Nat.le_of_lt hlt)
          · exact (hA5.setCell (Nat.le_refl _) _).setCell (Nat.le_refl _) _
    · obtain rfl : i = len := by omega
      have HF : Hid (partsGo [] (zs.drop p0) p0 = ([], 0, 4, (i : Int))) := by
        show _ = _
        rw [HG.out, List.drop_eq_nil_of_le (by have := HL.out; omega)]
        cases acc <;> rfl
      clear hA hbw hm hz1
      go_wp2
      refine bodyPost_ret (v := .tuple #[.slice none 0 0, .int .i64 0, .agg #[.int .i64 4, .int .i64 i]]) (by simp [results, Tryd.results92, go_sem, c0, c1]) rfl ⟨_, by rw [HF.out], ?_, ?_⟩
      · rw [HF.out]; exact World.ownsRow_nil _ _ _ _
      · exact (hAw.setCell (Nat.le_refl _) _).setCell (Nat.le_refl _) _

theorem parts_any (a : Option Addr) (len cap : Nat) (p : Int) (zs : List Int) (w : World) (hlen : zs.length = len) (hz : Bytes w a zs) :
    Calls Tryd.prog 92 #[.slice a len cap, .int .i64 p] w (GotParts w (partsL zs p)) := by
  unfold partsL
  by_cases h : p < 0 ∨ (len : Int) < p
  · rw [hlen, if_pos h]
    refine (parts_out a len cap p w h).mono ?_
    rintro e w' ⟨rfl, hb⟩
    exact ⟨_, rfl, World.ownsRow_nil _ _ _ _, hb⟩
  · obtain ⟨n, rfl⟩ := Int.eq_ofNat_of_zero_le (show 0 ≤ p by omega)
    rw [hlen, if_neg h]
    exact parts_in a len cap n zs w hlen hz (by omega)
theorem partsGo_ok : ∀ (l acc : List Int) (p : Int), (partsGo acc l p).2.2.1 = 0 → (partsGo acc l p).2.2.2 = 0 ∧ p < (partsGo acc l p).2.1 ∧ (partsGo acc l p).2.1 ≤ p + l.length
  | [], acc, p, h => by simp [partsGo] at h
  | c :: r, acc, p, h => by
    simp only [partsGo] at h ⊢
    split at h
    · simp at h
    · rename_i h1
      rw [if_neg h1]
      split at h
      · rename_i h2
        rw [if_pos h2]
        simp; omega
      · rename_i h2
        rw [if_neg h2]
        obtain ⟨i1, i2, i3⟩ := partsGo_ok r _ _ h
        refine ⟨i1, by omega, ?_⟩
        simp; omega
theorem partsL_ok {l : List Int} {p : Int} (h : (partsL l p).2.2.1 = 0) : (partsL l p).2.2.2 = 0 ∧ 0 < (partsL l p).2.1 ∧ (partsL l p).2.1 ≤ l.length := by
  unfold partsL at h ⊢
  by_cases hp : p < 0 ∨ (l.length : Int) < p
  · rw [if_pos hp] at h; simp at h
  · rw [if_neg hp] at h ⊢
    obtain ⟨i1, i2, i3⟩ := partsGo_ok _ _ _ h
    refine ⟨i1, by omega, ?_⟩
    simp at i3
    omega
theorem partsL_bytes (l : List Int) (p : Int) : (∀ x ∈ (partsL l p).1, 0 ≤ x ∧ x < 128) ∧ (partsL l p).1.length ≤ 5 := by
  unfold partsL
  split
  · simp
  · exact partsGo_bytes _ _ _ (by simp) (by simp)

set_option maxHeartbeats 3200000 in
theorem refGetU_any (a : Option Addr) (len cap : Nat) (p : Int) (zs : List Int) (w : World) (hlen : zs.length = len) (hz : Bytes w a zs) :
    Calls Tryd.prog 65 #[.slice a len cap, .int .i64 p] w (Got .u32 w (getL false zs p)) := by
  have HP := hid (getL_parts hz.byte p)
  have hok := fun h => partsL_ok (l := zs) (p := p) h
  obtain ⟨hpb, hp5⟩ := partsL_bytes zs p
  have hsu : ∀ x q f : Int, getL false zs p = (x, q, 0, f) → 0 ≤ x ∧ x < 4294967296 := fun x q f h => by
    obtain ⟨h0, h1, _, _⟩ := getL_shortU hz.byte h rfl
    exact ⟨h0, h1⟩
  have hmax := hz.size
  rw [hlen] at hmax
  have HL := hid hlen
  have HOK := hid hok
  have HPB := hid hpb
  have HSU := hid hsu
  clear hlen hok hpb hsu
  go_enter Tryd.func65, Tryd.ntmps65
  go_wp2_with fail
  refine (parts_any a len cap p zs _ HL.out (hz.below ((Below.refl _ _).alloc (Nat.le_refl _) _))).mono ?_
  rintro e w' ⟨v, rfl, ho, hb⟩
  generalize partsL zs p = r at *
  obtain ⟨L, q, er, f⟩ := r
  simp only at *
  obtain ⟨m, hm⟩ : ∃ m, L.length = m := ⟨_, rfl⟩
  obtain ⟨av, cv, rfl⟩ := ho.sliceN hm
  have hx := ho.nums
  obtain ⟨c0, c1, f0, f1, hs⟩ := two hb
  have hA := ((Below.refl w.heap.size w).alloc (Nat.le_refl _) (.cells #[.int .i64 0, .int .i64 0] 38)).trans (hb.mono (by simp))
  have hA2 := hA.alloc (by omega) (.cells #[.int .i64 er, .int .i64 f] 38)
  have hbA : Below w'.heap.size w' (w'.alloc (.cells #[.int .i64 er, .int .i64 f] 38)) := (Below.refl _ _).alloc (Nat.le_refl _) _
  have u0 := c0
  have u1 := c1
  have c0 := keepA c0 (.cells #[.int .i64 er, .int .i64 f] 38)
  have c1 := keepA c1 (.cells #[.int .i64 er, .int .i64 f] 38)
  have f0 := (hbA.frozen (p := ⟨w.heap.size, 0, none⟩) hs).trans f0
  have f1 := (hbA.frozen (p := ⟨w.heap.size, 1, none⟩) hs).trans f1
  have d0 : (w'.alloc (.cells #[.int .i64 er, .int .i64 f] 38)).cell? ⟨w'.heap.size, 0, none⟩ = some (.int .i64 er) := by go_simp
  have d1 : (w'.alloc (.cells #[.int .i64 er, .int .i64 f] 38)).cell? ⟨w'.heap.size, 1, none⟩ = some (.int .i64 f) := by go_simp
  have hx := hx.alloc (.cells #[.int .i64 er, .int .i64 f] 38)
  have hne : w.heap.size ≠ w'.heap.size := by omega
  have hsz : (w'.alloc (.cells #[.int .i64 er, .int .i64 f] 38)).heap.size = w'.heap.size + 1 := by simp
  clear hb ho hbA
  have HM := hid hm
  rw [hm] at hp5
  clear hm
  by_cases he : er = 0
  · subst he
    obtain ⟨i1, i2, i3⟩ := HOK.out rfl
    rw [HL.out] at i3
    subst i1
    by_cases h5 : m = 5 ∧ 15 < L.getD 4 0
    · obtain ⟨rfl, hL4⟩ := h5
      have HF : Hid (getL false zs p = (0, 0, 4, q - 1)) := by
        show _ = _
        rw [← HP.out]; unfold fromParts; simp only; rw [if_neg (by simp), if_pos ⟨HM.out, hL4⟩]
      obtain ⟨b, off, rfl, hcell⟩ := hx.at (by have := HM.out; omega)
      have hc4 := hcell 4 (by have := HM.out; omega)
      generalize L.getD 4 0 = x at *
      obtain ⟨g0, g1⟩ := set_two (x := .int .i64 4) (y := .int .i64 (q - 1)) u0 u1
      have g0 := keepA g0 (.cells #[.int .i64 0, .int .i64 0] 38)
      have g1 := keepA g1 (.cells #[.int .i64 0, .int .i64 0] 38)
      clear hcell hsz hne u0 u1
      go_wp2
      refine bodyPost_ret (v := .tuple #[.int .u32 0, .int .i64 0, .agg #[.int .i64 4, .int .i64 (q - 1)]]) (by simp [results, Tryd.results65, go_sem, g0, g1]) rfl ⟨by rw [HF.out], ?_⟩
      exact ((hA.setCell (Nat.le_refl _) _).setCell (Nat.le_refl _) _).alloc (by simp; omega) _
    · have HF : Hid (getL false zs p = (sumL L, q, 0, 0)) := by
        show _ = _
        rw [← HP.out]; unfold fromParts; simp only; rw [if_neg (by simp), if_neg (by rw [HM.out]; exact h5)]
      obtain ⟨s0, s1⟩ := HSU.out _ _ _ HF.out
      clear u0 u1 hA
      by_cases hm5 : m = 5
      · subst hm5
        obtain ⟨b, off, rfl, hcell⟩ := hx.at (by have := HM.out; omega)
        have hc4 := hcell 4 (by have := HM.out; omega)
        have hL4 : ¬ 15 < L.getD 4 0 := fun h => h5 ⟨rfl, h⟩
        clear h5 hcell
        generalize L.getD 4 0 = x at *
        go_wp2
        have hxd := hid (hx.below (Below.refl _ _).drew)
        have hw : IntKind.u32.wrap (sumL L) = sumL L := by
          unfold IntKind.wrap; simp [IntKind.bits, IntKind.signed]; omega
        clear hsz hx
        generalize w'.heap.size = k9 at *
        generalize w'.alloc (.cells #[.int .i64 0, .int .i64 0] 38) = w2 at *
        clear hs
        go_region_with (first
          | (go_at_call 93; refine (sum_any _ 5 cv L _ HM.out hxd.out HPB.out (by omega)).mono ?_; rintro e w3 ⟨rfl, rfl⟩))
        all_goals go_wp2
        all_goals refine bodyPost_ret (v := .tuple #[.int .u32 (sumL L), .int .i64 q, .agg #[.int .i64 0, .int .i64 0]]) (by simp [results, Tryd.results65, go_sem, c0, c1]) rfl ⟨by rw [HF.out], ?_⟩
        all_goals exact ((hA2.setCell (Nat.le_refl _) _).setCell (Nat.le_refl _) _).drew
      · have hm5' : ¬ (m : Int) = 5 := by omega
        clear h5 hm5
        go_wp2
        have hxd := hid (hx.below (Below.refl _ _).drew)
        have hw : IntKind.u32.wrap (sumL L) = sumL L := by
          unfold IntKind.wrap; simp [IntKind.bits, IntKind.signed]; omega
        clear hsz hx
        generalize w'.heap.size = k9 at *
        generalize w'.alloc (.cells #[.int .i64 0, .int .i64 0] 38) = w2 at *
        clear hs
        go_region_with (first
          | (go_at_call 93; refine (sum_any _ m cv L _ HM.out hxd.out HPB.out (by omega)).mono ?_; rintro e w3 ⟨rfl, rfl⟩))
        all_goals go_wp2
        all_goals refine bodyPost_ret (v := .tuple #[.int .u32 (sumL L), .int .i64 q, .agg #[.int .i64 0, .int .i64 0]]) (by simp [results, Tryd.results65, go_sem, c0, c1]) rfl ⟨by rw [HF.out], ?_⟩
        all_goals exact ((hA2.setCell (Nat.le_refl _) _).setCell (Nat.le_refl _) _).drew
  · have HF : Hid (getL false zs p = (0, 0, er, f)) := by
      show _ = _
      rw [← HP.out]; unfold fromParts; simp only; rw [if_pos he]
    go_wp2
    clear hsz
    generalize w'.heap.size = k9 at *
    generalize w'.alloc (.cells #[.int .i64 er, .int .i64 f] 38) = w2 at *
    clear hs
    go_region
    go_wp2
    refine bodyPost_ret (v := .tuple #[.int .u32 0, .int .i64 0, .agg #[.int .i64 er, .int .i64 f]]) (by simp [results, Tryd.results65, go_sem, c0, c1]) rfl ⟨by rw [HF.out], ?_⟩
    exact ((hA2.setCell (Nat.le_refl _) _).setCell (Nat.le_refl _) _).drew
end Go.Proofs.YtcjamlgdidiaeaaDoor.Leb

/-
  LEB: the document's own answer GetS, by contract.
-/
namespace Go.Proofs.YtcjamlgdidiaeaaDoor.Leb
open Go.RowKit

def lastL (L : List Int) : Int := L.getD (L.length - 1) 0
/-- What GetS makes of the parts. -/
def fromPartsS (r : List Int × Int × Int × Int) : Int × Int × Int × Int :=
  if r.2.2.1 ≠ 0 then (0, 0, r.2.2.1, r.2.2.2) else if r.1.length = 5 ∧ 7 < lastL r.1 ∧ lastL r.1 < 120 then (0, 0, 4, r.2.1 - 1) else (if 64 ≤ lastL r.1 then sumL r.1 - 128 ^ r.1.length else sumL r.1, r.2.1, 0, 0)
theorem lastL_snoc (l : List Int) (x : Int) : lastL (l ++ [x]) = x := by simp [lastL]
theorem ext_top {u x : Int} {k : Nat} (h0 : 0 ≤ u) (h1 : u < 128 ^ k) (x0 : 0 ≤ x) (x1 : x < 128) : ext true (u + x * 128 ^ k) (k + 1) = if 64 ≤ x then (u + x * 128 ^ k) - 128 ^ (k + 1) else u + x * 128 ^ k := by
  have hp : (0 : Int) < 128 ^ k := Int.pow_pos (by decide)
  unfold ext
  rw [Int.pow_succ]
  generalize (128 : Int) ^ k = P at *
  by_cases h : 64 ≤ x
  · have : 64 * P ≤ x * P := Int.mul_le_mul_of_nonneg_right h (by omega)
    rw [if_pos h, if_pos ⟨rfl, by omega⟩]
  · have : x * P ≤ 63 * P := Int.mul_le_mul_of_nonneg_right (by omega) (by omega)
    rw [if_neg h, if_neg (by rintro ⟨_, h2⟩; omega)]
theorem goL_partsS : ∀ (l acc : List Int) (p : Int), (∀ c ∈ l, 0 ≤ c ∧ c < 256) → (∀ x ∈ acc, 0 ≤ x ∧ x < 128) → acc.length ≤ 4 → fromPartsS (partsGo acc l p) = goL true acc.length (sumL acc) l p
  | [], acc, p, _, _, _ => by simp [partsGo, goL, fromPartsS]
  | c :: r, acc, p, hl, ha, hk => by
    have hc := hl c (by simp)
    have hs := sumL_snoc acc (c % 128)
    obtain ⟨s0, s1⟩ := sumL_bounds acc ha
    have hx := ext_top (k := acc.length) s0 s1 (x := c % 128) (by omega) (by omega)
    simp only [partsGo, goL]
    by_cases h4 : acc.length = 4
    · by_cases h128 : 128 ≤ c
      · rw [if_pos ⟨h4, h128⟩, if_pos ⟨h4, by simp [okFifth]; omega⟩]
        simp [fromPartsS]
      · rw [if_neg (by omega), if_pos (by omega)]
        have hm : c % 128 = c := by omega
        rw [hm] at hs hx ⊢
        have hlen : (acc ++ [c]).length = 5 := by simp [h4]
        by_cases hf : 7 < c ∧ c < 120
        · rw [if_pos ⟨h4, by simp [okFifth]; omega⟩]
          unfold fromPartsS
          simp only [lastL_snoc]
          rw [if_neg (by simp), if_pos ⟨hlen, hf⟩]
          simp
        · rw [if_neg (by rintro ⟨_, h⟩; simp [okFifth] at h; omega), if_pos (by omega), hx]
          unfold fromPartsS
          simp only [lastL_snoc]
          rw [if_neg (by simp), if_neg (by rintro ⟨_, h⟩; exact hf h), hs, List.length_append]
          rfl
    · rw [if_neg (fun h : acc.length = 4 ∧ 128 ≤ c => h4 h.1), if_neg (fun h : acc.length = 4 ∧ okFifth true c = false => h4 h.1)]
      by_cases h128 : c < 128
      · rw [if_pos h128, if_pos h128, hx]
        unfold fromPartsS
        simp only [lastL_snoc]
        rw [if_neg (by simp), if_neg (by simp; omega), hs, List.length_append]
        rfl
      · rw [if_neg h128, if_neg h128, goL_partsS r (acc ++ [c % 128]) (p + 1) (fun z hz => hl z (by simp [hz])) (fun z hz => by
          rcases List.mem_append.1 hz with hz | hz
          · exact ha z hz
          · rw [List.mem_singleton] at hz; omega) (by simp; omega), hs]
        simp
theorem getL_partsS {l : List Int} (hl : ∀ c ∈ l, 0 ≤ c ∧ c < 256) (p : Int) : fromPartsS (partsL l p) = getL true l p := by
  unfold partsL getL
  by_cases h : p < 0 ∨ (l.length : Int) < p
  · rw [if_pos h, if_pos h]; simp [fromPartsS]
  · rw [if_neg h, if_neg h]
    exact goL_partsS _ [] p (fun c hc => hl c (List.mem_of_mem_drop hc)) (by simp) (by simp)
theorem partsGo_some : ∀ (l acc : List Int) (p : Int), (partsGo acc l p).2.2.1 = 0 → 0 < (partsGo acc l p).1.length
  | [], acc, p, h => by simp [partsGo] at h
  | c :: r, acc, p, h => by
    simp only [partsGo] at h ⊢
    split at h
    · simp at h
    · rename_i h1
      rw [if_neg h1]
      split at h
      · rename_i h2
        rw [if_pos h2]
        simp
      · rename_i h2
        rw [if_neg h2]
        exact partsGo_some r _ _ h
theorem partsL_some {l : List Int} {p : Int} (h : (partsL l p).2.2.1 = 0) : 0 < (partsL l p).1.length := by
  unfold partsL at h ⊢
  by_cases hp : p < 0 ∨ (l.length : Int) < p
  · rw [if_pos hp] at h; simp at h
  · rw [if_neg hp] at h ⊢
    exact partsGo_some _ _ _ h

/-- Behind the parts: two worlds, two boxes. -/
structure SBox (w : World) (k9 : Nat) (W : World) (er f : Int) : Prop where
  hA : Below w.heap.size w W
  c0 : W.cell? ⟨w.heap.size, 0, none⟩ = some (.int .i64 0)
  c1 : W.cell? ⟨w.heap.size, 1, none⟩ = some (.int .i64 0)
  f0 : W.frozen? ⟨w.heap.size, 0, none⟩ = false
  f1 : W.frozen? ⟨w.heap.size, 1, none⟩ = false
  d0 : W.cell? ⟨k9, 0, none⟩ = some (.int .i64 er)
  d1 : W.cell? ⟨k9, 1, none⟩ = some (.int .i64 f)
  ne : w.heap.size ≠ k9

set_option maxHeartbeats 6400000 in
theorem refGetS_any (a : Option Addr) (len cap : Nat) (p : Int) (zs : List Int) (w : World) (hlen : zs.length = len) (hz : Bytes w a zs) :
    Calls Tryd.prog 101 #[.slice a len cap, .int .i64 p] w (Got .i32 w (getL true zs p)) := by
  have HP := hid (getL_partsS hz.byte p)
  have hok := fun h => partsL_ok (l := zs) (p := p) h
  have hsm := fun h => partsL_some (l := zs) (p := p) h
  obtain ⟨hpb, hp5⟩ := partsL_bytes zs p
  have hsu : ∀ x q f : Int, getL true zs p = (x, q, 0, f) → -2147483648 ≤ x ∧ x < 2147483648 := fun x q f h => by
    obtain ⟨h0, h1, _⟩ := getL_shortS hz.byte h rfl
    exact ⟨h0, h1⟩
  have hmax := hz.size
  rw [hlen] at hmax
  have HL := hid hlen
  have HOK := hid hok
  have HSM := hid hsm
  have HPB := hid hpb
  have HSU := hid hsu
  clear hlen hok hpb hsu hsm
  go_enter Tryd.func101, Tryd.ntmps101
  go_wp2_with fail
  refine (parts_any a len cap p zs _ HL.out (hz.below ((Below.refl _ _).alloc (Nat.le_refl _) _))).mono ?_
  rintro e w' ⟨v, rfl, ho, hb⟩
  generalize partsL zs p = r at *
  obtain ⟨L, q, er, f⟩ := r
  simp only at *
  obtain ⟨m, hm⟩ : ∃ m, L.length = m := ⟨_, rfl⟩
  obtain ⟨av, cv, rfl⟩ := ho.sliceN hm
  have hx := ho.nums
  obtain ⟨c0, c1, f0, f1, hs⟩ := two hb
  have hA := ((Below.refl w.heap.size w).alloc (Nat.le_refl _) (.cells #[.int .i64 0, .int .i64 0] 38)).trans (hb.mono (by simp))
  have hA2 := hA.alloc (by omega) (.cells #[.int .i64 er, .int .i64 f] 38)
  have hbA : Below w'.heap.size w' (w'.alloc (.cells #[.int .i64 er, .int .i64 f] 38)) := (Below.refl _ _).alloc (Nat.le_refl _) _
  have u0 := c0
  have u1 := c1
  have c0 := keepA c0 (.cells #[.int .i64 er, .int .i64 f] 38)
  have c1 := keepA c1 (.cells #[.int .i64 er, .int .i64 f] 38)
  have f0 := (hbA.frozen (p := ⟨w.heap.size, 0, none⟩) hs).trans f0
  have f1 := (hbA.frozen (p := ⟨w.heap.size, 1, none⟩) hs).trans f1
  have d0 : (w'.alloc (.cells #[.int .i64 er, .int .i64 f] 38)).cell? ⟨w'.heap.size, 0, none⟩ = some (.int .i64 er) := by go_simp
  have d1 : (w'.alloc (.cells #[.int .i64 er, .int .i64 f] 38)).cell? ⟨w'.heap.size, 1, none⟩ = some (.int .i64 f) := by go_simp
  have hx := hx.alloc (.cells #[.int .i64 er, .int .i64 f] 38)
  have hne : w.heap.size ≠ w'.heap.size := by omega
  have hsz : (w'.alloc (.cells #[.int .i64 er, .int .i64 f] 38)).heap.size = w'.heap.size + 1 := by simp
  clear hb ho hbA
  have HM := hid hm
  rw [hm] at hp5
  clear hm
  by_cases he : er = 0
  · subst he
    obtain ⟨i1, i2, i3⟩ := HOK.out rfl
    have hpos := HSM.out rfl
    rw [HM.out] at hpos
    rw [HL.out] at i3
    subst i1
    obtain ⟨b, off, rfl, hcell⟩ := hx.at (by have := HM.out; omega)
    have hc4 := hcell (m - 1) (by have := HM.out; omega)
    have hcast : ((m : Int) - 1).toNat = m - 1 := by omega
    have HLX : Hid (lastL L = L.getD (m - 1) 0) := by show _ = _; unfold lastL; rw [HM.out]
    have hxb : 0 ≤ L.getD (m - 1) 0 ∧ L.getD (m - 1) 0 < 128 := by
      have hl : m - 1 < L.length := by have := HM.out; omega
      rw [getD_lt hl]; exact HPB.out _ (List.getElem_mem hl)
    obtain ⟨x, hxx⟩ : ∃ x, L.getD (m - 1) 0 = x := ⟨_, rfl⟩
    rw [hxx] at hc4 HLX hxb
    clear hxx hcell
    obtain ⟨x0, x1⟩ := hxb
    by_cases h5 : m = 5 ∧ 7 < x ∧ x < 120
    · obtain ⟨rfl, hL4, hL5⟩ := h5
      have HF : Hid (getL true zs p = (0, 0, 4, q - 1)) := by
        show _ = _
        rw [← HP.out]; unfold fromPartsS; simp only; rw [if_neg (by simp), if_pos ⟨HM.out, by rw [HLX.out]; exact ⟨hL4, hL5⟩⟩]
      obtain ⟨g0, g1⟩ := set_two (x := .int .i64 4) (y := .int .i64 (q - 1)) u0 u1
      have g0 := keepA g0 (.cells #[.int .i64 0, .int .i64 0] 38)
      have g1 := keepA g1 (.cells #[.int .i64 0, .int .i64 0] 38)
      clear hsz hne u0 u1
      go_wp2
      refine bodyPost_ret (v := .tuple #[.int .i32 0, .int .i64 0, .agg #[.int .i64 4, .int .i64 (q - 1)]]) (by simp [results, Tryd.results101, go_sem, g0, g1]) rfl ⟨by rw [HF.out], ?_⟩
      exact ((hA.setCell (Nat.le_refl _) _).setCell (Nat.le_refl _) _).alloc (by simp; omega) _
    · have HF : Hid (getL true zs p = (if 64 ≤ x then sumL L - 128 ^ m else sumL L, q, 0, 0)) := by
        show _ = _
        rw [← HP.out]; unfold fromPartsS; simp only; rw [if_neg (by simp), HM.out, HLX.out, if_neg h5]
      have hsb := HSU.out _ _ _ HF.out
      obtain ⟨z0, z1⟩ := sumL_bounds L HPB.out
      rw [HM.out] at z1
      have hzb : 0 ≤ sumL L ∧ sumL L < 34359738368 := by
        have : m = 1 ∨ m = 2 ∨ m = 3 ∨ m = 4 ∨ m = 5 := by omega
        rcases this with rfl | rfl | rfl | rfl | rfl <;> simp at z1 <;> omega
      have hSUM := fun W hx' => sum_any (some ⟨b, off, none⟩) m cv L W HM.out hx' HPB.out hp5
      have hxq := hid hx
      generalize sumL L = S at *
      obtain ⟨z0, z2⟩ := hzb
      have SUM := hid hSUM
      clear u0 u1 hA hSUM z1 hx
      have h5' : m = 5 ∧ 7 < x ∧ 120 ≤ x ∨ m = 5 ∧ x ≤ 7 ∨ (¬ (m : Int) = 5) := by omega
      have H5 := hid h5'
      clear h5 h5'
      by_cases h64 : 64 ≤ x
      · rw [if_pos h64] at HF hsb
        have HPW := hid (show ∀ i : Nat, i ≤ 5 → (1 : Int) ≤ 128 ^ i ∧ (128 : Int) ^ i ≤ 34359738368 by
          intro i hi
          have : i = 0 ∨ i = 1 ∨ i = 2 ∨ i = 3 ∨ i = 4 ∨ i = 5 := by omega
          rcases this with rfl | rfl | rfl | rfl | rfl | rfl <;> omega)
        rcases H5.out with ⟨rfl, h7, h120⟩ | ⟨rfl, h7⟩ | h5
        · have hx7 : ¬ x ≤ 7 := by omega
          clear H5
          go_wp2_with fail
          refine (SUM.out _ hxq.out).mono ?_
          rintro e w3 ⟨rfl, rfl⟩
          clear SUM hxq
          go_wp2
          generalize w'.heap.size = k9 at *
          generalize w'.alloc (.cells #[.int .i64 0, .int .i64 0] 38) = w2 at *
          clear hs hsz
          go_loop [12, 13] (fun vt vi => ∃ i : Nat, i ≤ 5 ∧ vi = .int .i64 i ∧ vt = .int .i64 (128 ^ i)) (fun _ vi => 5 - (intOf vi).toNat)
          case atStart => exact ⟨0, Nat.zero_le _, rfl, rfl⟩
          case round =>
            obtain ⟨i, hi, rfl, rfl⟩ := hrel
            obtain ⟨P0, P1⟩ := HPW.out i (by omega)
            by_cases hlt : i < 5
            · have HN := hid (show (128 : Int) ^ (i + 1) = 128 * 128 ^ i by rw [Int.pow_succ, Int.mul_comm])
              generalize (128 : Int) ^ i = P at *
              have hlt' : (i : Int) < (5 : Int) := by omega
              go_wp2
              go_round
              case rel => exact ⟨i + 1, by omega, by go_num, by rw [HN.out]⟩
              case measure => simp [intOf]; omega
            · obtain rfl : i = 5 := by omega
              have HI := hid (show (128 : Int) ^ 5 = 128 ^ 5 from rfl)
              generalize hP : (128 : Int) ^ 5 = P at *
              clear hP HI
              go_wp2
              go_region
              go_wp2
              refine bodyPost_ret (v := .tuple #[.int .i32 (S - P), .int .i64 q, .agg #[.int .i64 0, .int .i64 0]]) (by simp [results, Tryd.results101, go_sem, c0, c1]) rfl ⟨by rw [HF.out], ?_⟩
              exact ((hA2.setCell (Nat.le_refl _) _).setCell (Nat.le_refl _) _).drew
        · omega
        · clear H5
          go_wp2_with fail
          refine (SUM.out _ hxq.out).mono ?_
          rintro e w3 ⟨rfl, rfl⟩
          clear SUM hxq
          go_wp2
          generalize w'.heap.size = k9 at *
          generalize w'.alloc (.cells #[.int .i64 0, .int .i64 0] 38) = w2 at *
          clear hs hsz
          go_loop [12, 13] (fun vt vi => ∃ i : Nat, i ≤ m ∧ vi = .int .i64 i ∧ vt = .int .i64 (128 ^ i)) (fun _ vi => m - (intOf vi).toNat)
          case atStart => exact ⟨0, Nat.zero_le _, rfl, rfl⟩
          case round =>
            obtain ⟨i, hi, rfl, rfl⟩ := hrel
            obtain ⟨P0, P1⟩ := HPW.out i (by omega)
            by_cases hlt : i < m
            · have HN := hid (show (128 : Int) ^ (i + 1) = 128 * 128 ^ i by rw [Int.pow_succ, Int.mul_comm])
              generalize (128 : Int) ^ i = P at *
              have hlt' : (i : Int) < (m : Int) := by omega
              go_wp2
              go_round
              case rel => exact ⟨i + 1, by omega, by go_num, by rw [HN.out]⟩
              case measure => simp [intOf]; omega
            · obtain rfl : i = m := by omega
              have HI := hid (show (128 : Int) ^ i = 128 ^ i from rfl)
              generalize hP : (128 : Int) ^ i = P at *
              clear hP HI
              go_wp2
              go_region
              go_wp2
              refine bodyPost_ret (v := .tuple #[.int .i32 (S - P), .int .i64 q, .agg #[.int .i64 0, .int .i64 0]]) (by simp [results, Tryd.results101, go_sem, c0, c1]) rfl ⟨by rw [HF.out], ?_⟩
              exact ((hA2.setCell (Nat.le_refl _) _).setCell (Nat.le_refl _) _).drew
      · rw [if_neg h64] at HF hsb
        rcases H5.out with ⟨rfl, h7, h120⟩ | ⟨rfl, h7⟩ | h5
        · omega
        · clear H5
          go_wp2_with fail
          refine (SUM.out _ hxq.out).mono ?_
          rintro e w3 ⟨rfl, rfl⟩
          clear SUM hxq
          go_wp2
          generalize w'.heap.size = k9 at *
          generalize w'.alloc (.cells #[.int .i64 0, .int .i64 0] 38) = w2 at *
          clear hs hsz
          go_region
          go_wp2
          refine bodyPost_ret (v := .tuple #[.int .i32 S, .int .i64 q, .agg #[.int .i64 0, .int .i64 0]]) (by simp [results, Tryd.results101, go_sem, c0, c1]) rfl ⟨by rw [HF.out], ?_⟩
          exact ((hA2.setCell (Nat.le_refl _) _).setCell (Nat.le_refl _) _).drew
        · clear H5
          go_wp2_with fail
          refine (SUM.out _ hxq.out).mono ?_
          rintro e w3 ⟨rfl, rfl⟩
          clear SUM hxq
          go_wp2
          generalize w'.heap.size = k9 at *
          generalize w'.alloc (.cells #[.int .i64 0, .int .i64 0] 38) = w2 at *
          clear hs hsz
          go_region
          go_wp2
          refine bodyPost_ret (v := .tuple #[.int .i32 S, .int .i64 q, .agg #[.int .i64 0, .int .i64 0]]) (by simp [results, Tryd.results101, go_sem, c0, c1]) rfl ⟨by rw [HF.out], ?_⟩
          exact ((hA2.setCell (Nat.le_refl _) _).setCell (Nat.le_refl _) _).drew
  · have HF : Hid (getL true zs p = (0, 0, er, f)) := by
      show _ = _
      rw [← HP.out]; unfold fromPartsS; simp only; rw [if_pos he]
    go_wp2
    clear hsz
    generalize w'.heap.size = k9 at *
    generalize w'.alloc (.cells #[.int .i64 er, .int .i64 f] 38) = w2 at *
    clear hs
    go_region
    go_wp2
    refine bodyPost_ret (v := .tuple #[.int .i32 0, .int .i64 0, .agg #[.int .i64 er, .int .i64 f]]) (by simp [results, Tryd.results101, go_sem, c0, c1]) rfl ⟨by rw [HF.out], ?_⟩
    exact ((hA2.setCell (Nat.le_refl _) _).setCell (Nat.le_refl _) _).drew
end Go.Proofs.YtcjamlgdidiaeaaDoor.Leb
