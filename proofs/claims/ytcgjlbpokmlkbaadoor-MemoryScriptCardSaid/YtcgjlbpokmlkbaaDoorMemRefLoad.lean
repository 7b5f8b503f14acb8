/-
  MEMORY: the document's Load, Store, Write, Grow, New by contracts.
-/
import Derived.Test.YtcgjlbpokmlkbaaDoorMemRefSet
import Derived.Test.YtcgjlbpokmlkbaaDoorKindRefC
namespace Go.Proofs.YtcgjlbpokmlkbaaDoor.Mem
open Go.RowKit Go.Proofs.YtcgjlbpokmlkbaaDoor.Instr Go.Proofs.YtcgjlbpokmlkbaaDoor.Num Go.Proofs.YtcgjlbpokmlkbaaDoor.Kind
open Go.Proofs.YtcgjlbpokmlkbaaDoor.Stk (OwnR)
set_option linter.unusedVariables false

theorem RefIs.get {B : Nat} {W : World} {q K : Nat} {m : Mm} (h : RefIs B W q K m) (a : Nat) (ha : a ≤ 8589934592) :
    Calls Tryd.prog 44 #[.pointer (some ⟨q, 0, none⟩), .int .i64 a] W fun e w' => e = .returned (.int .u8 (m.f a)) ∧ Below W.heap.size W w' := by
  obtain ⟨v, L, h1, h2, h3⟩ := h
  have := get_ref h1 a ha
  rw [h2] at this
  exact this
theorem RefIs.there {B : Nat} {W : World} {q K : Nat} {m : Mm} (h : RefIs B W q K m) (a k : Int) (ha : 0 ≤ a ∧ a ≤ 8589934592) (hk : 0 ≤ k ∧ k ≤ 140737488351232) (hn : m.n ≤ 65536) :
    Calls Tryd.prog 43 #[.pointer (some ⟨q, 0, none⟩), .int .i64 a, .int .i64 k] W fun e w' => e = .returned (.bool (decide (a + k ≤ (m.n : Int) * 65536))) ∧ W = w' := by
  obtain ⟨v, L, h1, h2, h3⟩ := h
  exact there_any h1 a k ha hk hn
theorem loads_op {op : Int} : isLoad op = true ↔ storedP op = true ∧ op < 54 := by simp [isLoad]
theorem has_int (m : Mm) (s k : Nat) (x : Int) (hx : (s : Int) = x) : m.has s k = decide (x + (k : Int) ≤ (m.n : Int) * 65536) := by
  unfold Mm.has
  rw [decide_eq_decide]
  constructor <;> intro h <;> omega
set_option maxHeartbeats 2000000 in
theorem Load_ref {B : Nat} {W : World} {q K : Nat} {m : Mm} (hI : RefIs B W q K m) (hok : m.ok) (op x y : Int) (s : Nat) (hx : 0 ≤ x ∧ x ≤ 4294967295) (hy : 0 ≤ y ∧ y ≤ 4294967295) (hs : (s : Int) = x + y) :
    Calls Tryd.prog 25 #[.pointer (some ⟨q, 0, none⟩), .int .i64 op, .int .u32 x, .int .u32 y] W fun e w' => e = .returned (.tuple #[.int .u32 (m.load op s).1, .int .i64 (m.load op s).2]) ∧ Below W.heap.size W w' := by
  have hnp : m.n ≤ 65536 := Nat.le_trans hok.n hok.most
  have CB := hid (fun w => bytes_any op w)
  have HX := hid hx
  have HY := hid hy
  have HI := hid hI
  have HS := hid hs
  have HOK := hid hok
  obtain ⟨x0, x1⟩ := hx
  obtain ⟨y0, y1⟩ := hy
  clear hI hs hok
  unfold Mm.load
  cases hl : isLoad op
  · rw [if_neg (by simp)]
    have hc : storedP op = false ∨ (storedP op = true ∧ 54 ≤ op) := by
      unfold isLoad at hl
      cases hst : storedP op
      · exact .inl rfl
      · rw [hst] at hl; simp at hl; exact .inr ⟨rfl, by omega⟩
    clear hl
    rcases hc with hc | ⟨hc, hge⟩
    · rw [hc] at CB
      simp only [Bool.false_eq_true, if_false] at CB
      clear hc
      go_enter Tryd.func25, Tryd.ntmps25
      go_wp2_with fail
      refine (CB.out _).mono ?_
      rintro e w1 ⟨rfl, rfl⟩
      go_wp2
      go_ret2
      exact ⟨rfl, Below.refl _ _⟩
    · rw [hc] at CB
      simp only [if_true] at CB
      have hw : (wd op : Int) = 4 ∨ (wd op : Int) = 2 ∨ (wd op : Int) = 1 := by have := wd_cases op; omega
      have hw0 : ((wd op : Int) == 0) = false := by rcases hw with h | h | h <;> rw [h] <;> rfl
      generalize (wd op : Int) = n at *
      clear hc hw
      go_enter Tryd.func25, Tryd.ntmps25
      go_wp2_with fail
      refine (CB.out _).mono ?_
      rintro e w1 ⟨rfl, rfl⟩
      go_wp2
      go_ret2
      exact ⟨rfl, Below.refl _ _⟩
  · obtain ⟨hst, hlt⟩ := loads_op.1 hl
    rw [hst] at CB
    simp only [if_true] at CB
    rw [if_pos rfl]
    have hwc := wd_cases op
    have hv : loadV op m.f s = if op = 44 ∨ op = 46 then wideV (leW m.f s (wd op)) (8 * (wd op : Int)) else leW m.f s (wd op) := rfl
    have hw8 : op = 44 ∨ op = 46 → wideE (8 * (wd op : Int)) = 0 := by rintro (rfl | rfl) <;> rfl
    rw [hv]
    clear hv hl hst
    generalize wd op = n at *
    have CT := HI.out.there (x + y) n ⟨by omega, by omega⟩ ⟨by omega, by omega⟩ hnp
    rw [has_int m s n (x + y) HS.out]
    have hw0 : ((n : Int) == 0) = false := by rcases hwc with rfl | rfl | rfl <;> rfl
    have hn4 : (n : Int) ≤ 4 ∧ 1 ≤ (n : Int) := by omega
    obtain ⟨hn4, hn1⟩ := hn4
    by_cases hin : x + y + (n : Int) ≤ (m.n : Int) * 65536
    · rw [decide_eq_true hin] at CT ⊢
      have CT := hid CT
      rw [if_pos rfl]
      obtain ⟨R, hR⟩ : ∃ R, (if op = 44 ∨ op = 46 then wideV (leW m.f s n) (8 * (n : Int)) else leW m.f s n) = R := ⟨_, rfl⟩
      rw [hR]
      have HR := hid hR
      clear hR
      have HN := hid hwc
      have hsb : x + y + (n : Int) ≤ 4294967296 := by omega
      clear hwc
      go_enter Tryd.func25, Tryd.ntmps25
      go_wp2_with fail
      refine (CB.out _).mono ?_
      rintro e w1 ⟨rfl, rfl⟩
      go_wp2_with fail
      refine CT.out.mono ?_
      rintro e w1 ⟨rfl, rfl⟩
      go_wp2
      go_loopw [12, 13] (fun v1 v2 wr => ∃ (V : Int) (k : Nat), v1 = .int .u32 V ∧ v2 = .int .i64 ((k : Int) - 1) ∧ k ≤ n ∧ Hid (V = leW m.f (s + k) (n - k)) ∧ Hid (Below W.heap.size W wr)) (fun _ v2 _ => (intOf v2 + 1).toNat)
      case atStart => exact ⟨0, n, rfl, rfl, Nat.le_refl _, by show _ = _; rw [Nat.sub_self]; rfl, Below.refl _ _⟩
      case round =>
        obtain ⟨V, k, rfl, rfl, hk, HV, HB⟩ := hrel
        by_cases hk0 : 0 < k
        · obtain ⟨j, rfl⟩ : ∃ j, k = j + 1 := ⟨k - 1, by omega⟩
          have hji : ((j + 1 : Nat) : Int) - 1 = (j : Int) := by omega
          rw [hji]
          have hsj : x + y + (j : Int) = ((s + j : Nat) : Int) := by have := HS.out; omega
          have CG := (HI.out.below HB.out).get (s + j) (by omega)
          rw [← hsj] at CG
          have CG := hid CG
          have hfb := HOK.out.byte (s + j)
          have hvb := leW_range HOK.out.byte (n - (j + 1)) (s + (j + 1))
          rw [← HV.out] at hvb
          have hvb2 : 0 ≤ V ∧ V < 16777216 := by
            refine ⟨hvb.1, ?_⟩
            have h3 : n - (j + 1) = 0 ∨ n - (j + 1) = 1 ∨ n - (j + 1) = 2 ∨ n - (j + 1) = 3 := by omega
            rcases h3 with h | h | h | h <;> rw [h] at hvb <;> simp at hvb <;> omega
          have HNX : Hid (256 * V + m.f (s + j) = leW m.f (s + j) (n - j)) := by
            show _ = _
            rw [show n - j = (n - (j + 1)) + 1 by omega]
            simp only [leW]
            rw [show s + j + 1 = s + (j + 1) by omega, ← HV.out]
            omega
          generalize m.f (s + j) = u at *
          obtain ⟨hv0, hv1⟩ := hvb2
          obtain ⟨hu0, hu1⟩ := hfb
          have hjn : (j : Int) ≤ 3 := by omega
          have hjn2 : j ≤ n := by omega
          clear hvb hsj hji hk hk0 HV
          go_wp2_with fail
          refine CG.out.mono ?_
          rintro e w2 ⟨rfl, hb2⟩
          have HB2 := hid (thenB HB.out hb2)
          clear hb2 CG HB
          go_wp2
          go_roundw
          case rel => exact ⟨_, j, rfl, rfl, hjn2, HNX, HB2⟩
          case measure => simp [intOf]
        · obtain rfl : k = 0 := by omega
          have HV2 : Hid (V = leW m.f s n) := by have := HV.out; rwa [Nat.sub_zero, Nat.add_zero] at this
          clear HV hk hk0
          by_cases ho : op = 44
          · subst ho
            have he := hw8 (.inl rfl)
            have hR := HR.out
            rw [if_pos (.inl rfl), ← HV2.out] at hR
            have hvb := leW_range HOK.out.byte n s
            rw [← HV2.out] at hvb
            have hv32 : V < 4294967296 := by rcases HN.out with h | h | h <;> rw [h] at hvb <;> simp at hvb <;> omega
            have CW := refWide_any V (8 * (n : Int)) wr hvb.1 hv32
            rw [he, hR] at CW
            have CW := hid CW
            clear hR
            clear hw8 he hvb
            go_wp2_with fail
            refine CW.out.mono ?_
            rintro e w2 ⟨rfl, rfl⟩
            go_wp2
            go_ret2
            exact ⟨rfl, HB.out⟩
          · by_cases ho2 : op = 46
            · subst ho2
              have he := hw8 (.inr rfl)
              have hR := HR.out
              rw [if_pos (.inr rfl), ← HV2.out] at hR
              have hvb := leW_range HOK.out.byte n s
              rw [← HV2.out] at hvb
              have hv32 : V < 4294967296 := by rcases HN.out with h | h | h <;> rw [h] at hvb <;> simp at hvb <;> omega
              have CW := refWide_any V (8 * (n : Int)) wr hvb.1 hv32
              rw [he, hR] at CW
              have CW := hid CW
              clear hR
              clear hw8 he hvb
              have e1 : ((46 : Int) == 44) = false := by decide
              go_wp2_with fail
              refine CW.out.mono ?_
              rintro e w2 ⟨rfl, rfl⟩
              go_wp2
              go_ret2
              exact ⟨rfl, HB.out⟩
            · have hR := HR.out
              rw [if_neg (by simp [ho, ho2]), ← HV2.out] at hR
              subst hR
              have e1 : (op == 44) = false := by simpa using ho
              have e2 : (op == 46) = false := by simpa using ho2
              clear hw8
              go_wp2
              go_ret2
              exact ⟨rfl, HB.out⟩
    · rw [decide_eq_false hin] at CT ⊢
      have CT := hid CT
      rw [if_neg (by simp)]
      clear hwc hw8
      go_enter Tryd.func25, Tryd.ntmps25
      go_wp2_with fail
      refine (CB.out _).mono ?_
      rintro e w1 ⟨rfl, rfl⟩
      go_wp2_with fail
      refine CT.out.mono ?_
      rintro e w1 ⟨rfl, rfl⟩
      go_wp2
      go_ret2
      exact ⟨rfl, Below.refl _ _⟩
end Go.Proofs.YtcgjlbpokmlkbaaDoor.Mem
