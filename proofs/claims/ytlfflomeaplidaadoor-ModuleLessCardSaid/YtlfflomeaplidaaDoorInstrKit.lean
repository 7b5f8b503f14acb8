/-
  INSTR: the statements' count of instructions and labels, as far as it goes, by contract.
-/
import Derived.Test.YtlfflomeaplidaaDoorInstrDescend
import Derived.Laws.Tables
import Derived.Laws.AppendOwnNone
import Derived.Deep.WholeRow
namespace Go.Proofs.YtlfflomeaplidaaDoor.Instr
open Go.RowKit

def Il.weight : Il → Nat
  | .nil => 0
  | .cons x l e r => 1 + x.tags.length + l.weight + e.weight + r.weight
def tagsMin (x : Ix) (most : Int) : Int := min (x.tags.length : Int) most
/-- Counted on from n, no further than beyond 'most'. -/
def Il.go : Il → Int → Int → Int
  | .nil, n, _ => n
  | .cons x l e r, n, most =>
    if n ≤ most then
      r.go (if (if n + 1 + tagsMin x most ≤ most then n + 1 + tagsMin x most + l.go 0 (most - (n + 1 + tagsMin x most)) else n + 1 + tagsMin x most) ≤ most
        then (if n + 1 + tagsMin x most ≤ most then n + 1 + tagsMin x most + l.go 0 (most - (n + 1 + tagsMin x most)) else n + 1 + tagsMin x most) + e.go 0 (most - (if n + 1 + tagsMin x most ≤ most then n + 1 + tagsMin x most + l.go 0 (most - (n + 1 + tagsMin x most)) else n + 1 + tagsMin x most))
        else (if n + 1 + tagsMin x most ≤ most then n + 1 + tagsMin x most + l.go 0 (most - (n + 1 + tagsMin x most)) else n + 1 + tagsMin x most)) most
    else n
/-- Behind one of them. -/
def next1 (n m : Int) (most : Int) : Int := if n ≤ most then n + m else n
theorem next1_pos {n m most : Int} (h : n ≤ most) : next1 n m most = n + m := if_pos h
theorem next1_neg {n m most : Int} (h : ¬ n ≤ most) : next1 n m most = n := if_neg h
theorem go_cons (x : Ix) (l e r : Il) (n most : Int) (h : n ≤ most) : (Il.cons x l e r).go n most =
    r.go (next1 (next1 (n + 1 + tagsMin x most) (l.go 0 (most - (n + 1 + tagsMin x most))) most) (e.go 0 (most - next1 (n + 1 + tagsMin x most) (l.go 0 (most - (n + 1 + tagsMin x most))) most)) most) most := by
  rw [Il.go, if_pos h]; rfl
theorem go_over (t : Il) (n most : Int) (h : most < n) : t.go n most = n := by
  cases t with
  | nil => rfl
  | cons x l e r => rw [Il.go, if_neg (by omega)]
theorem tagsMin_bounds (x : Ix) (most : Int) (h : 0 ≤ most) : 0 ≤ tagsMin x most ∧ tagsMin x most ≤ most ∧ tagsMin x most ≤ x.tags.length := by unfold tagsMin; omega
theorem go_bounds : ∀ (t : Il) (n most : Int), 0 ≤ n → 0 ≤ most → n ≤ 2 * most + 1 → n ≤ t.go n most ∧ t.go n most ≤ 2 * most + 1 ∧ (t.go n most ≤ most → n + t.weight ≤ t.go n most)
  | .nil, n, most, h0, h1, h2 => by simp [Il.go, Il.weight, h2]
  | .cons x l e r, n, most, h0, h1, h2 => by
    by_cases h : n ≤ most
    · rw [go_cons x l e r n most h]
      have hT := tagsMin_bounds x most h1
      obtain ⟨T, hTT⟩ : ∃ T, tagsMin x most = T := ⟨_, rfl⟩
      have hx : T = most ∨ T = x.tags.length := by rw [← hTT]; unfold tagsMin; omega
      rw [hTT] at hT ⊢
      have A : ∀ (N2 : Int), next1 (n + 1 + T) (l.go 0 (most - (n + 1 + T))) most = N2 → n + 1 + T ≤ N2 ∧ N2 ≤ 2 * most + 1 ∧ (N2 ≤ most → n + 1 + T + l.weight ≤ N2 ∧ n + 1 + T ≤ most) := by
        intro N2 h
        subst h
        unfold next1
        split
        · have := go_bounds l 0 (most - (n + 1 + T)) (by omega) (by omega) (by omega)
          refine ⟨by omega, by omega, fun hh => ⟨?_, by omega⟩⟩
          have := this.2.2 (by omega)
          omega
        · exact ⟨by omega, by omega, fun hh => by omega⟩
      obtain ⟨N2, h2'⟩ : ∃ N2, next1 (n + 1 + T) (l.go 0 (most - (n + 1 + T))) most = N2 := ⟨_, rfl⟩
      have a := A N2 h2'
      rw [h2']
      have B : ∀ (N3 : Int), next1 N2 (e.go 0 (most - N2)) most = N3 → N2 ≤ N3 ∧ N3 ≤ 2 * most + 1 ∧ (N3 ≤ most → N2 + e.weight ≤ N3 ∧ N2 ≤ most) := by
        intro N3 h
        subst h
        unfold next1
        split
        · have := go_bounds e 0 (most - N2) (by omega) (by omega) (by omega)
          refine ⟨by omega, by omega, fun hh => ⟨?_, by omega⟩⟩
          have := this.2.2 (by omega)
          omega
        · exact ⟨by omega, by omega, fun hh => by omega⟩
      obtain ⟨N3, h3'⟩ : ∃ N3, next1 N2 (e.go 0 (most - N2)) most = N3 := ⟨_, rfl⟩
      have b := B N3 h3'
      rw [h3']
      have c := go_bounds r N3 most (by omega) h1 (by omega)
      refine ⟨by omega, c.2.1, fun hh => ?_⟩
      have c3 := c.2.2 hh
      have b3 := b.2.2 (by omega)
      have a3 := a.2.2 (by omega)
      simp only [Il.weight]
      omega
    · rw [go_over _ _ _ (by omega)]
      exact ⟨by omega, by omega, fun hh => by omega⟩
theorem weight_count : ∀ t : Il, t.count ≤ t.weight
  | .nil => Nat.le_refl _
  | .cons x l e r => by have := weight_count l; have := weight_count e; have := weight_count r; simp only [Il.count, Il.weight]; omega

set_option maxRecDepth 100000 in
set_option maxHeartbeats 1600000 in
theorem Instrs_any : ∀ (m : Nat) (t : Il) (a : Option Addr) (len c : Nat) (most : Int) (w : World), t.count ≤ m → ListAt w.heap.size w a len t → len ≤ 140737488351232 → 0 ≤ most → most ≤ 5000 →
    Calls Tryd.prog 6 #[.slice a len c, .int .i64 most] w fun e w' => e = .returned (.int .i64 (t.go 0 most)) ∧ w = w' := by
  intro m
  induction m with
  | zero =>
    intro t a len c most w hm hL hlen hm0 hm1
    cases t with
    | cons x l e r => simp only [Il.count] at hm; omega
    | nil =>
      have h0 : len = 0 := hL.1.symm
      subst h0
      clear hm hL
      go_enter Tryd.func6, Tryd.ntmps6
      go_wp2
      go_loopw [5, 6] (fun sn si wr => si = .int .i64 0 ∧ sn = .int .i64 0 ∧ wr = w) (fun _ _ _ => 0)
      case atStart => exact ⟨rfl, rfl, rfl⟩
      case round =>
        obtain ⟨rfl, rfl, rfl⟩ := hrel
        go_wp2
        go_ret
        exact ⟨rfl, rfl⟩
  | succ m ih =>
    intro t a len c most w hm hL hlen hm0 hm1
    obtain ⟨hL1, hL2⟩ := hL
    have HM := hid hm
    have HL1 := hid hL1
    have HG : Hid (t.go 0 most = t.go 0 most) := hid rfl
    clear hm hL1
    rcases hL2 with rfl | ⟨b, off, rfl, hi⟩
    · have h0 : len = 0 := HL1.out.symm
      subst h0
      clear ih
      go_enter Tryd.func6, Tryd.ntmps6
      go_wp2
      go_loopw [5, 6] (fun sn si wr => si = .int .i64 0 ∧ sn = .int .i64 0 ∧ wr = w) (fun _ _ _ => 0)
      case atStart => exact ⟨rfl, rfl, rfl⟩
      case round =>
        obtain ⟨rfl, rfl, rfl⟩ := hrel
        go_wp2
        go_ret
        exact ⟨rfl, rfl⟩
    · go_enter Tryd.func6, Tryd.ntmps6
      go_wp2
      go_loopw [5, 6] (fun sn si wr => ∃ (k : Nat) (n : Int) (rest : Il), si = .int .i64 k ∧ sn = .int .i64 n ∧ k ≤ len ∧ 0 ≤ n ∧ n ≤ 2 * most + 1 ∧ Hid (k + rest.len = len ∧ rest.go n most = t.go 0 most ∧ rest.count ≤ t.count) ∧ Items w.heap.size w b (off + k * 8) rest ∧ wr = w)
        (fun _ si _ => len - (intOf si).toNat)
      case atStart => exact ⟨0, 0, t, rfl, rfl, Nat.zero_le _, by omega, by omega, ⟨by have := HL1.out; omega, rfl, Nat.le_refl _⟩, by simpa using hi, rfl⟩
      case round =>
        obtain ⟨k, n, rest, rfl, rfl, hk, hn0, hn1, HR, hir, rfl⟩ := hrel
        cases rest with
        | nil =>
          obtain ⟨r1, r2, _⟩ := HR.out
          have hkl : k = len := by simpa [Il.len] using r1
          subst hkl
          have R2 : Hid (n = t.go 0 most) := by show _ = _; rw [← r2]; rfl
          clear r2
          go_wp2
          go_ret
          exact ⟨ret_int R2.out, rfl⟩
        | cons x tl te r =>
          obtain ⟨hbn, hx, ⟨c0, c1, c2, c3, c4, c5, c6, c7⟩, ht, hLl, hLe, hir'⟩ := hir
          have hlt : k < len := by have := HR.out.1; simp only [Il.len] at this; omega
          by_cases hnm : n ≤ most
          · have hcnt : tl.count + te.count + 1 ≤ m + 1 := by have h1 := HR.out.2.2; have h2 := HM.out; simp only [Il.count] at h1; omega
            have htn := hx.tn
            have hLn := hx.ln
            have hEn := hx.en
            have hTb := tagsMin_bounds x most hm0
            rcases (Int.lt_or_le most (x.tags.length : Int)).symm with hle | hle
            · have hT : min (x.tags.length : Int) most = (x.tags.length : Int) := by omega
              have HT : Hid (tagsMin x most = (x.tags.length : Int)) := hid (show tagsMin x most = _ from hT)
              rw [HT.out] at hTb
              obtain ⟨tb0, tb1, _⟩ := hTb
              by_cases c1 : n + 1 + (x.tags.length : Int) ≤ most
              · have ih1 := ih tl x.la x.ln x.lc (most - (n + 1 + (x.tags.length : Int))) wr (by omega) hLl hLn (by omega) (by omega)
                have b1 := go_bounds tl 0 (most - (n + 1 + (x.tags.length : Int))) (by omega) (by omega) (by omega)
                obtain ⟨g1, hg1⟩ : ∃ g1, tl.go 0 (most - (n + 1 + (x.tags.length : Int))) = g1 := ⟨_, rfl⟩
                rw [hg1] at ih1 b1
                obtain ⟨b10, b11, _⟩ := b1
                have G1 := hid hg1
                have I1 := hid ih1
                clear hg1 ih1
                by_cases c2 : n + 1 + (x.tags.length : Int) + g1 ≤ most
                · have ih2 := ih te x.ea x.en x.ec (most - (n + 1 + (x.tags.length : Int) + g1)) wr (by omega) hLe hEn (by omega) (by omega)
                  have b2 := go_bounds te 0 (most - (n + 1 + (x.tags.length : Int) + g1)) (by omega) (by omega) (by omega)
                  obtain ⟨g2, hg2⟩ : ∃ g2, te.go 0 (most - (n + 1 + (x.tags.length : Int) + g1)) = g2 := ⟨_, rfl⟩
                  rw [hg2] at ih2 b2
                  obtain ⟨b20, b21, _⟩ := b2
                  have G2 := hid hg2
                  have I2 := hid ih2
                  clear hg2 ih2
                  go_wp2_with fail
                  refine I1.out.mono ?_
                  clear I1
                  rintro e1 w1 ⟨rfl, rfl⟩
                  go_wp2_with fail
                  refine I2.out.mono ?_
                  clear I2
                  rintro e1 w1 ⟨rfl, rfl⟩
                  go_wp2
                  go_roundw
                  case rel =>
                    refine ⟨k + 1, n + 1 + (x.tags.length : Int) + g1 + g2, r, by simp, by first | rfl | simp, by omega, by omega, by omega, ⟨by have := HR.out.1; simp only [Il.len] at this; omega, ?_, by have := HR.out.2.2; simp only [Il.count] at this; omega⟩, by rw [show off + (k + 1) * 8 = off + k * 8 + 8 by omega]; exact hir', by first | rfl | trivial⟩
                    rw [← HR.out.2.1, go_cons x tl te r n most hnm]
                    rw [HT.out, G1.out, next1_pos c1, G2.out, next1_pos c2]
                  case measure => simp [intOf]; omega

                · have c2' : most < n + 1 + (x.tags.length : Int) + g1 := by omega
                  clear ih
                  go_wp2_with fail
                  refine I1.out.mono ?_
                  clear I1
                  rintro e1 w1 ⟨rfl, rfl⟩
                  go_wp2
                  go_roundw
                  case rel =>
                    refine ⟨k + 1, n + 1 + (x.tags.length : Int) + g1, r, by simp, by first | rfl | simp, by omega, by omega, by omega, ⟨by have := HR.out.1; simp only [Il.len] at this; omega, ?_, by have := HR.out.2.2; simp only [Il.count] at this; omega⟩, by rw [show off + (k + 1) * 8 = off + k * 8 + 8 by omega]; exact hir', by first | rfl | trivial⟩
                    rw [← HR.out.2.1, go_cons x tl te r n most hnm]
                    rw [HT.out, G1.out, next1_pos c1, next1_neg (n := n + 1 + (x.tags.length : Int) + g1) (by omega)]
                  case measure => simp [intOf]; omega

              · have c1' : most < n + 1 + (x.tags.length : Int) := by omega
                clear ih
                go_wp2
                go_roundw
                case rel =>
                  refine ⟨k + 1, n + 1 + (x.tags.length : Int), r, by simp, by first | rfl | simp, by omega, by omega, by omega, ⟨by have := HR.out.1; simp only [Il.len] at this; omega, ?_, by have := HR.out.2.2; simp only [Il.count] at this; omega⟩, by rw [show off + (k + 1) * 8 = off + k * 8 + 8 by omega]; exact hir', by first | rfl | trivial⟩
                  rw [← HR.out.2.1, go_cons x tl te r n most hnm]
                  rw [HT.out, next1_neg (n := n + 1 + (x.tags.length : Int)) (by omega), next1_neg (n := n + 1 + (x.tags.length : Int)) (by omega)]
                case measure => simp [intOf]; omega
            · have hT : min (x.tags.length : Int) most = most := by omega
              have HT : Hid (tagsMin x most = most) := hid (show tagsMin x most = _ from hT)
              rw [HT.out] at hTb
              obtain ⟨tb0, tb1, _⟩ := hTb
              have c1 : ¬ n + 1 + most ≤ most := by omega
              have c1' : most < n + 1 + most := by omega
              clear ih
              go_wp2
              go_roundw
              case rel =>
                refine ⟨k + 1, n + 1 + most, r, by simp, by first | rfl | simp, by omega, by omega, by omega, ⟨by have := HR.out.1; simp only [Il.len] at this; omega, ?_, by have := HR.out.2.2; simp only [Il.count] at this; omega⟩, by rw [show off + (k + 1) * 8 = off + k * 8 + 8 by omega]; exact hir', by first | rfl | trivial⟩
                rw [← HR.out.2.1, go_cons x tl te r n most hnm]
                rw [HT.out, next1_neg (n := n + 1 + most) (by omega), next1_neg (n := n + 1 + most) (by omega)]
              case measure => simp [intOf]; omega
          · have R2 : Hid (n = t.go 0 most) := by show _ = _; rw [← HR.out.2.1, go_over _ _ _ (by omega)]
            have hnm' : most < n := by omega
            go_wp2
            go_ret
            exact ⟨ret_int R2.out, rfl⟩
end Go.Proofs.YtlfflomeaplidaaDoor.Instr
