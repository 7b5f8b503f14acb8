/-
  INSTR: the document's own counts and depths of instructions, and labels, by contracts.
-/
import Derived.Test.YtolbdioijbdlmaaDoorInstrParts
namespace Go.Proofs.YtolbdioijbdlmaaDoor.Instr
open Go.RowKit

theorem held_out2 {w w1 : World} {p q : Addr} {x y : Value} (h : Below w.heap.size w w1 ∧ w1.cell? p = some x ∧ w1.cell? q = some y) : Below w.heap.size w w1 := h.1
theorem held_keep2 {w w1 w2 : World} {p q : Addr} {x y : Value} (h : Below w.heap.size w w1 ∧ w1.cell? p = some x ∧ w1.cell? q = some y) (hb : Below w1.heap.size w1 w2) :
    Below w.heap.size w w2 ∧ w2.cell? p = some x ∧ w2.cell? q = some y := ⟨thenB h.1 hb, keep hb h.2.1, keep hb h.2.2⟩

set_option maxHeartbeats 1600000 in
theorem refCount_any : ∀ (m : Nat) (t : Il) (a : Option Addr) (len c : Nat) (w : World), t.count ≤ m → ListAt w.heap.size w a len t → len ≤ 140737488351232 → t.count ≤ 4611686018427387900 →
    Calls Tryd.prog 29 #[.slice a len c] w fun e w' => e = .returned (.int .i64 t.count) ∧ Below w.heap.size w w' := by
  intro m
  induction m with
  | zero =>
    intro t a len c w hm hL hlen hbig
    cases t with
    | cons x l e r => simp only [Il.count] at hm; omega
    | nil =>
      have h0 : len = 0 := hL.1.symm
      subst h0
      clear hm hL hlen hbig
      go_enter Tryd.func29, Tryd.ntmps29
      go_wp2
      go_loopw [3, 4] (fun sn si wr => sn = .int .i64 0 ∧ si = .int .i64 0 ∧ wr = w) (fun _ _ _ => 0)
      case atStart => exact ⟨rfl, rfl, rfl⟩
      case round =>
        obtain ⟨rfl, rfl, rfl⟩ := hrel
        go_wp2
        go_ret
        exact ⟨rfl, Below.refl _ _⟩
  | succ m ih =>
    intro t a len c w hm hL hlen hbig
    obtain ⟨hL1, hL2⟩ := hL
    rcases hL2 with rfl | ⟨b, off, rfl, hi⟩
    · have h0 : len = 0 := hL1.symm
      subst h0
      clear ih hm hL1 hlen hbig
      go_enter Tryd.func29, Tryd.ntmps29
      go_wp2
      go_loopw [3, 4] (fun sn si wr => sn = .int .i64 0 ∧ si = .int .i64 0 ∧ wr = w) (fun _ _ _ => 0)
      case atStart => exact ⟨rfl, rfl, rfl⟩
      case round =>
        obtain ⟨rfl, rfl, rfl⟩ := hrel
        go_wp2
        go_ret
        exact ⟨rfl, Below.refl _ _⟩
    · have HM := hid hm
      have HB := hid hbig
      have HL1 := hid hL1
      have HI := hid hi
      clear hm hbig hL1 hi
      go_enter Tryd.func29, Tryd.ntmps29
      go_wp2
      go_loopw [3, 4] (fun sn si wr => ∃ (k : Nat) (n : Int) (rest : Il), si = .int .i64 k ∧ sn = .int .i64 n ∧ k ≤ len ∧ 0 ≤ n ∧ n ≤ 4611686018427387900 ∧ Hid (k + rest.len = len ∧ rest.count ≤ t.count ∧ n + (rest.count - rest.len : Int) = t.count) ∧ Hid (Items w.heap.size w b (off + k * 8) rest) ∧ Below w.heap.size w wr)
        (fun _ si _ => len - (intOf si).toNat)
      case atStart => exact ⟨0, len, t, rfl, rfl, Nat.zero_le _, by omega, by omega, ⟨by have := HL1.out; omega, Nat.le_refl _, by have := HL1.out; omega⟩, by simpa using HI, Below.refl _ _⟩
      case round =>
        obtain ⟨k, n, rest, rfl, rfl, hk, hn0, hn1, HR, HIR, hb⟩ := hrel
        cases rest with
        | nil =>
          obtain ⟨r1, _, r3⟩ := HR.out
          have hkl : k = len := by simpa [Il.len] using r1
          subst hkl
          have R3 : Hid (n = t.count) := by show _ = _; simp only [Il.count, Il.len] at r3; omega
          clear r3
          go_wp2
          go_ret
          exact ⟨ret_int R3.out, hb⟩
        | cons x tl te r =>
          have hir := Items.below hb HIR.out
          obtain ⟨hbn, hx, ⟨c0, c1, c2, c3, c4, c5, c6, c7⟩, _⟩ := hir
          have hir0 := HIR.out
          obtain ⟨_, _, _, ht, hLl, hLe, hir'⟩ := hir0
          have hlt : k < len := by have := HR.out.1; simp only [Il.len] at this; omega
          have hLn := hx.ln
          have hEn := hx.en
          have hcnt : tl.count + te.count + 1 ≤ m + 1 ∧ tl.count ≤ 4611686018427387900 ∧ te.count ≤ 4611686018427387900 := by
            have h1 := HR.out.2.1
            have h2 := HM.out
            have h3 := HB.out
            simp only [Il.count] at h1
            omega
          obtain ⟨k1, k2, k3⟩ := hcnt
          have N2 := fun w' (hb' : Below w.heap.size w w') => ih tl x.la x.ln x.lc w' (by omega) (ListAt.on hLl hb') hLn k2
          have N3 := fun w' (hb' : Below w.heap.size w w') => ih te x.ea x.en x.ec w' (by omega) (ListAt.on hLe hb') hEn k3
          have hq : n + tl.count + te.count ≤ 4611686018427387900 := by
            have h1 := HR.out.2.2
            have h2 := HB.out
            have h3 := len_le_count r
            simp only [Il.count, Il.len] at h1
            omega
          obtain ⟨q2, hq2⟩ : ∃ q : Int, (tl.count : Int) = q := ⟨_, rfl⟩
          obtain ⟨q3, hq3⟩ : ∃ q : Int, (te.count : Int) = q := ⟨_, rfl⟩
          have y1 : 0 ≤ q2 := by omega
          have y2 : 0 ≤ q3 := by omega
          rw [hq2, hq3] at hq
          simp only [hq2, hq3] at N2 N3
          have Q2 := hid hq2
          have Q3 := hid hq3
          have H2 := hid N2
          have H3 := hid N3
          have hv1 : IntKind.i64.wrap (n + q2) = n + q2 := by rw [IntKind.wrap_i64]; omega
          have hv2 : IntKind.i64.wrap (n + q2 + q3) = n + q2 + q3 := by rw [IntKind.wrap_i64]; omega
          clear N2 N3 hq2 hq3 ih k1 k2 k3 hLl hLe
          have hS0 : Below w.heap.size w wr.drew ∧ wr.drew.cell? ⟨b, off + k * 8 + 6, none⟩ = some (.slice x.la x.ln x.lc) ∧ wr.drew.cell? ⟨b, off + k * 8 + 7, none⟩ = some (.slice x.ea x.en x.ec) := ⟨hb.drew, c6, c7⟩
          go_wp2
          (first
            | go_loud (go_region_held3 (fun w' => Below w.heap.size w w' ∧ w'.cell? ⟨b, off + k * 8 + 6, none⟩ = some (.slice x.la x.ln x.lc) ∧ w'.cell? ⟨b, off + k * 8 + 7, none⟩ = some (.slice x.ea x.en x.ec))
                (first | assumption | exact held_keep2 (by assumption) (by assumption))
                (first
                  | (go_at_call 29; (with_reducible refine (H2.out _ (held_out2 (by assumption))).mono ?_); rintro e w7 ⟨rfl, hb7⟩)
                  | (go_at_call 29; (with_reducible refine (H3.out _ (held_out2 (by assumption))).mono ?_); rintro e w8 ⟨rfl, hb8⟩)))
            | fail)
          go_wp2
          have hbE := held_out2 (by assumption)
          have g2 := Q2.out
          have g3 := Q3.out
          refine ⟨⟨k + 1, n + q2 + q3, r, by simp, rfl, by omega, by omega, by omega, ⟨by have := HR.out.1; simp only [Il.len] at this; omega, by have := HR.out.2.1; simp only [Il.count] at this; omega, ?_⟩, by rw [show off + (k + 1) * 8 = off + k * 8 + 8 by omega]; exact hir', hbE⟩, by simp [intOf]; omega⟩
          have h1 := HR.out.2.2
          simp only [Il.count, Il.len] at h1
          omega

set_option maxHeartbeats 1600000 in
theorem refDeep_any : ∀ (m : Nat) (t : Il) (a : Option Addr) (len c : Nat) (w : World), t.count ≤ m → ListAt w.heap.size w a len t → len ≤ 140737488351232 → t.count ≤ 4611686018427387900 →
    Calls Tryd.prog 30 #[.slice a len c] w fun e w' => e = .returned (.int .i64 t.deep) ∧ Below w.heap.size w w' := by
  intro m
  induction m with
  | zero =>
    intro t a len c w hm hL hlen hbig
    cases t with
    | cons x l e r => simp only [Il.count] at hm; omega
    | nil =>
      have h0 : len = 0 := hL.1.symm
      subst h0
      clear hm hL hlen hbig
      go_enter Tryd.func30, Tryd.ntmps30
      go_wp2
      go_loopw [3, 4] (fun sn si wr => sn = .int .i64 0 ∧ si = .int .i64 0 ∧ wr = w) (fun _ _ _ => 0)
      case atStart => exact ⟨rfl, rfl, rfl⟩
      case round =>
        obtain ⟨rfl, rfl, rfl⟩ := hrel
        go_wp2
        go_ret
        exact ⟨rfl, Below.refl _ _⟩
  | succ m ih =>
    intro t a len c w hm hL hlen hbig
    obtain ⟨hL1, hL2⟩ := hL
    rcases hL2 with rfl | ⟨b, off, rfl, hi⟩
    · have h0 : len = 0 := hL1.symm
      subst h0
      clear ih hm hL1 hlen hbig
      go_enter Tryd.func30, Tryd.ntmps30
      go_wp2
      go_loopw [3, 4] (fun sn si wr => sn = .int .i64 0 ∧ si = .int .i64 0 ∧ wr = w) (fun _ _ _ => 0)
      case atStart => exact ⟨rfl, rfl, rfl⟩
      case round =>
        obtain ⟨rfl, rfl, rfl⟩ := hrel
        go_wp2
        go_ret
        exact ⟨rfl, Below.refl _ _⟩
    · have HM := hid hm
      have HB := hid hbig
      have HL1 := hid hL1
      have HI := hid hi
      clear hm hbig hL1 hi
      go_enter Tryd.func30, Tryd.ntmps30
      go_wp2
      go_loopw [3, 4] (fun sn si wr => ∃ (k : Nat) (n : Int) (rest : Il), si = .int .i64 k ∧ sn = .int .i64 n ∧ k ≤ len ∧ 0 ≤ n ∧ n ≤ 4611686018427387900 ∧ Hid (k + rest.len = len ∧ rest.count ≤ t.count ∧ max n rest.deep = t.deep) ∧ Hid (Items w.heap.size w b (off + k * 8) rest) ∧ Below w.heap.size w wr)
        (fun _ si _ => len - (intOf si).toNat)
      case atStart => exact ⟨0, 0, t, rfl, rfl, Nat.zero_le _, by omega, by omega, ⟨by have := HL1.out; omega, Nat.le_refl _, by omega⟩, by simpa using HI, Below.refl _ _⟩
      case round =>
        obtain ⟨k, n, rest, rfl, rfl, hk, hn0, hn1, HR, HIR, hb⟩ := hrel
        cases rest with
        | nil =>
          obtain ⟨r1, _, r3⟩ := HR.out
          have hkl : k = len := by simpa [Il.len] using r1
          subst hkl
          have R3 : Hid (n = t.deep) := by show _ = _; simp only [Il.deep] at r3; omega
          clear r3
          go_wp2
          go_ret
          exact ⟨ret_int R3.out, hb⟩
        | cons x tl te r =>
          have hir := Items.below hb HIR.out
          obtain ⟨hbn, hx, ⟨c0, c1, c2, c3, c4, c5, c6, c7⟩, _⟩ := hir
          have hir0 := HIR.out
          obtain ⟨_, _, _, ht, hLl, hLe, hir'⟩ := hir0
          have hlt : k < len := by have := HR.out.1; simp only [Il.len] at this; omega
          have hLn := hx.ln
          have hEn := hx.en
          have hcnt : tl.count + te.count + 1 ≤ m + 1 ∧ tl.count ≤ 4611686018427387900 ∧ te.count ≤ 4611686018427387900 := by
            have h1 := HR.out.2.1
            have h2 := HM.out
            have h3 := HB.out
            simp only [Il.count] at h1
            omega
          obtain ⟨k1, k2, k3⟩ := hcnt
          have N2 := fun w' (hb' : Below w.heap.size w w') => ih tl x.la x.ln x.lc w' (by omega) (ListAt.on hLl hb') hLn k2
          have N3 := fun w' (hb' : Below w.heap.size w w') => ih te x.ea x.en x.ec w' (by omega) (ListAt.on hLe hb') hEn k3
          have d2 := deep_le_count tl
          have d3 := deep_le_count te
          have hq : (tl.deep : Int) ≤ 4611686018427387899 ∧ (te.deep : Int) ≤ 4611686018427387899 := by
            have h1 := HR.out.2.1
            have h2 := HB.out
            simp only [Il.count] at h1
            omega
          obtain ⟨q2, hq2⟩ : ∃ q : Int, (tl.deep : Int) = q := ⟨_, rfl⟩
          obtain ⟨q3, hq3⟩ : ∃ q : Int, (te.deep : Int) = q := ⟨_, rfl⟩
          have y1 : 0 ≤ q2 := by omega
          have y2 : 0 ≤ q3 := by omega
          rw [hq2, hq3] at hq
          obtain ⟨y3, y4⟩ := hq
          simp only [hq2, hq3] at N2 N3
          have Q2 := hid hq2
          have Q3 := hid hq3
          have H2 := hid N2
          have H3 := hid N3
          have hv1 : IntKind.i64.wrap (1 + max q2 q3) = 1 + max q2 q3 := by rw [IntKind.wrap_i64]; omega
          clear N2 N3 hq2 hq3 ih k1 k2 k3 hLl hLe d2 d3
          have hS0 : Below w.heap.size w wr.drew ∧ wr.drew.cell? ⟨b, off + k * 8 + 6, none⟩ = some (.slice x.la x.ln x.lc) ∧ wr.drew.cell? ⟨b, off + k * 8 + 7, none⟩ = some (.slice x.ea x.en x.ec) := ⟨hb.drew, c6, c7⟩
          go_wp2
          (first
            | go_loud (go_region_held3 (fun w' => Below w.heap.size w w' ∧ w'.cell? ⟨b, off + k * 8 + 6, none⟩ = some (.slice x.la x.ln x.lc) ∧ w'.cell? ⟨b, off + k * 8 + 7, none⟩ = some (.slice x.ea x.en x.ec))
                (first | assumption | exact held_keep2 (by assumption) (by assumption))
                (first
                  | (go_at_call 30; (with_reducible refine (H2.out _ (held_out2 (by assumption))).mono ?_); rintro e w7 ⟨rfl, hb7⟩)
                  | (go_at_call 30; (with_reducible refine (H3.out _ (held_out2 (by assumption))).mono ?_); rintro e w8 ⟨rfl, hb8⟩)))
            | fail)
          go_wp2
          have hbE := held_out2 (by assumption)
          have g2 := Q2.out
          have g3 := Q3.out
          refine ⟨⟨k + 1, max n (1 + max q2 q3), r, by simp, rfl, by omega, by omega, by omega, ⟨by have := HR.out.1; simp only [Il.len] at this; omega, by have := HR.out.2.1; simp only [Il.count] at this; omega, ?_⟩, by rw [show off + (k + 1) * 8 = off + k * 8 + 8 by omega]; exact hir', hbE⟩, by simp [intOf]; omega⟩
          have h1 := HR.out.2.2
          simp only [Il.deep] at h1
          omega

end Go.Proofs.YtolbdioijbdlmaaDoor.Instr
