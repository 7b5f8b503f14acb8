/-
  BODY: the document's Count, Deep, labels, all, Check, one, list, Put, PutCode of any list; copies; BodyPuts, the walk.
-/
import Derived.Test.YtlfflomeaplidaaDoorBodyRightX
import Derived.Test.YtlfflomeaplidaaDoorBodyRightE
import Derived.Test.YtlfflomeaplidaaDoorBodyRightF
import Derived.Test.YtlfflomeaplidaaDoorBodyIns
import Derived.Test.YtlfflomeaplidaaDoorBodyCodeP
import Derived.Test.YtlfflomeaplidaaDoorAppend
import Derived.Test.YtlfflomeaplidaaDoorLebRefS
import Derived.Test.YtlfflomeaplidaaDoorBodyPush
import Derived.Test.YtlfflomeaplidaaDoorInstrKit
import Derived.Laws.AppendOwnNone
import Derived.Test.YtlfflomeaplidaaDoorBodySame
import Derived.Test.YtlfflomeaplidaaDoorKitBytes
import Derived.Test.YtlfflomeaplidaaDoorBodyAwake
import Derived.Deep.RegionHeld3
namespace Go.Proofs.YtlfflomeaplidaaDoor.Instr
open Go.RowKit


theorem held_out2 {w w1 : World} {p q : Addr} {x y : Value} (h : Below w.heap.size w w1 ∧ w1.cell? p = some x ∧ w1.cell? q = some y) : Below w.heap.size w w1 := h.1
theorem held_keep2 {w w1 w2 : World} {p q : Addr} {x y : Value} (h : Below w.heap.size w w1 ∧ w1.cell? p = some x ∧ w1.cell? q = some y) (hb : Below w1.heap.size w1 w2) :
    Below w.heap.size w w2 ∧ w2.cell? p = some x ∧ w2.cell? q = some y := ⟨thenB h.1 hb, keep hb h.2.1, keep hb h.2.2⟩

set_option maxHeartbeats 1600000 in
theorem refCount_any : ∀ (m : Nat) (t : Il) (a : Option Addr) (len c : Nat) (w : World), t.count ≤ m → ListAt w.heap.size w a len t → len ≤ 140737488351232 → t.count ≤ 4611686018427387900 →
    Calls Tryd.prog 67 #[.slice a len c] w fun e w' => e = .returned (.int .i64 t.count) ∧ Below w.heap.size w w' := by
  intro m
  induction m with
  | zero =>
    intro t a len c w hm hL hlen hbig
    cases t with
    | cons x l e r => simp only [Il.count] at hm; omega
    | nil =>
      have h0 : len = 0 := hL.1.symm
      subst h0
      clear hm hL hlen hbig
      go_enter Tryd.func67, Tryd.ntmps67
      go_wp2
      go_loopw [3, 4] (fun sn si wr => sn = .int .i64 0 ∧ si = .int .i64 0 ∧ wr = w) (fun _ _ _ => 0)
      case atStart => exact ⟨rfl, rfl, rfl⟩
      case round =>
        obtain ⟨rfl, rfl, rfl⟩ := hrel
        go_wp2
        go_ret
        exact ⟨rfl, Below.refl _ _⟩
  | succ m ih =>
    intro t a len c w hm hL hlen hbig
    obtain ⟨hL1, hL2⟩ := hL
    rcases hL2 with rfl | ⟨b, off, rfl, hi⟩
    · have h0 : len = 0 := hL1.symm
      subst h0
      clear ih hm hL1 hlen hbig
      go_enter Tryd.func67, Tryd.ntmps67
      go_wp2
      go_loopw [3, 4] (fun sn si wr => sn = .int .i64 0 ∧ si = .int .i64 0 ∧ wr = w) (fun _ _ _ => 0)
      case atStart => exact ⟨rfl, rfl, rfl⟩
      case round =>
        obtain ⟨rfl, rfl, rfl⟩ := hrel
        go_wp2
        go_ret
        exact ⟨rfl, Below.refl _ _⟩
    · have HM := hid hm
      have HB := hid hbig
      have HL1 := hid hL1
      have HI := hid hi
      clear hm hbig hL1 hi
      go_enter Tryd.func67, Tryd.ntmps67
      go_wp2
      go_loopw [3, 4] (fun sn si wr => ∃ (k : Nat) (n : Int) (rest : Il), si = .int .i64 k ∧ sn = .int .i64 n ∧ k ≤ len ∧ 0 ≤ n ∧ n ≤ 4611686018427387900 ∧ Hid (k + rest.len = len ∧ rest.count ≤ t.count ∧ n + (rest.count - rest.len : Int) = t.count) ∧ Hid (Items w.heap.size w b (off + k * 8) rest) ∧ Below w.heap.size w wr)
        (fun _ si _ => len - (intOf si).toNat)
      case atStart => exact ⟨0, len, t, rfl, rfl, Nat.zero_le _, by omega, by omega, ⟨by have := HL1.out; omega, Nat.le_refl _, by have := HL1.out; omega⟩, by simpa using HI, Below.refl _ _⟩
      case round =>
        obtain ⟨k, n, rest, rfl, rfl, hk, hn0, hn1, HR, HIR, hb⟩ := hrel
        cases rest with
        | nil =>
          obtain ⟨r1, _, r3⟩ := HR.out
          have hkl : k = len := by simpa [Il.len] using r1
          subst hkl
          have R3 : Hid (n = t.count) := by show _ = _; simp only [Il.count, Il.len] at r3; omega
          clear r3
          go_wp2
          go_ret
          exact ⟨ret_int R3.out, hb⟩
        | cons x tl te r =>
          have hir := Items.below hb HIR.out
          obtain ⟨hbn, hx, ⟨c0, c1, c2, c3, c4, c5, c6, c7⟩, _⟩ := hir
          have hir0 := HIR.out
          obtain ⟨_, _, _, ht, hLl, hLe, hir'⟩ := hir0
          have hlt : k < len := by have := HR.out.1; simp only [Il.len] at this; omega
          have hLn := hx.ln
          have hEn := hx.en
          have hcnt : tl.count + te.count + 1 ≤ m + 1 ∧ tl.count ≤ 4611686018427387900 ∧ te.count ≤ 4611686018427387900 := by
            have h1 := HR.out.2.1
            have h2 := HM.out
            have h3 := HB.out
            simp only [Il.count] at h1
            omega
          obtain ⟨k1, k2, k3⟩ := hcnt
          have N2 := fun w' (hb' : Below w.heap.size w w') => ih tl x.la x.ln x.lc w' (by omega) (ListAt.on hLl hb') hLn k2
          have N3 := fun w' (hb' : Below w.heap.size w w') => ih te x.ea x.en x.ec w' (by omega) (ListAt.on hLe hb') hEn k3
          have hq : n + tl.count + te.count ≤ 4611686018427387900 := by
            have h1 := HR.out.2.2
            have h2 := HB.out
            have h3 := len_le_count r
            simp only [Il.count, Il.len] at h1
            omega
          obtain ⟨q2, hq2⟩ : ∃ q : Int, (tl.count : Int) = q := ⟨_, rfl⟩
          obtain ⟨q3, hq3⟩ : ∃ q : Int, (te.count : Int) = q := ⟨_, rfl⟩
          have y1 : 0 ≤ q2 := by omega
          have y2 : 0 ≤ q3 := by omega
          rw [hq2, hq3] at hq
          simp only [hq2, hq3] at N2 N3
          have Q2 := hid hq2
          have Q3 := hid hq3
          have H2 := hid N2
          have H3 := hid N3
          have hv1 : IntKind.i64.wrap (n + q2) = n + q2 := by rw [IntKind.wrap_i64]; omega
          have hv2 : IntKind.i64.wrap (n + q2 + q3) = n + q2 + q3 := by rw [IntKind.wrap_i64]; omega
          clear N2 N3 hq2 hq3 ih k1 k2 k3 hLl hLe
          have hS0 : Below w.heap.size w wr.drew ∧ wr.drew.cell? ⟨b, off + k * 8 + 6, none⟩ = some (.slice x.la x.ln x.lc) ∧ wr.drew.cell? ⟨b, off + k * 8 + 7, none⟩ = some (.slice x.ea x.en x.ec) := ⟨hb.drew, c6, c7⟩
          go_wp2
          (first
            | go_loud (go_region_held3 (fun w' => Below w.heap.size w w' ∧ w'.cell? ⟨b, off + k * 8 + 6, none⟩ = some (.slice x.la x.ln x.lc) ∧ w'.cell? ⟨b, off + k * 8 + 7, none⟩ = some (.slice x.ea x.en x.ec))
                (first | assumption | exact held_keep2 (by assumption) (by assumption))
                (first
                  | (go_at_call 67; (with_reducible refine (H2.out _ (held_out2 (by assumption))).mono ?_); rintro e w7 ⟨rfl, hb7⟩)
                  | (go_at_call 67; (with_reducible refine (H3.out _ (held_out2 (by assumption))).mono ?_); rintro e w8 ⟨rfl, hb8⟩)))
            | fail)
          go_wp2
          have hbE := held_out2 (by assumption)
          have g2 := Q2.out
          have g3 := Q3.out
          refine ⟨⟨k + 1, n + q2 + q3, r, by simp, rfl, by omega, by omega, by omega, ⟨by have := HR.out.1; simp only [Il.len] at this; omega, by have := HR.out.2.1; simp only [Il.count] at this; omega, ?_⟩, by rw [show off + (k + 1) * 8 = off + k * 8 + 8 by omega]; exact hir', hbE⟩, by simp [intOf]; omega⟩
          have h1 := HR.out.2.2
          simp only [Il.count, Il.len] at h1
          omega

set_option maxHeartbeats 1600000 in
theorem refDeep_any : ∀ (m : Nat) (t : Il) (a : Option Addr) (len c : Nat) (w : World), t.count ≤ m → ListAt w.heap.size w a len t → len ≤ 140737488351232 → t.count ≤ 4611686018427387900 →
    Calls Tryd.prog 68 #[.slice a len c] w fun e w' => e = .returned (.int .i64 t.deep) ∧ Below w.heap.size w w' := by
  intro m
  induction m with
  | zero =>
    intro t a len c w hm hL hlen hbig
    cases t with
    | cons x l e r => simp only [Il.count] at hm; omega
    | nil =>
      have h0 : len = 0 := hL.1.symm
      subst h0
      clear hm hL hlen hbig
      go_enter Tryd.func68, Tryd.ntmps68
      go_wp2
      go_loopw [3, 4] (fun sn si wr => sn = .int .i64 0 ∧ si = .int .i64 0 ∧ wr = w) (fun _ _ _ => 0)
      case atStart => exact ⟨rfl, rfl, rfl⟩
      case round =>
        obtain ⟨rfl, rfl, rfl⟩ := hrel
        go_wp2
        go_ret
        exact ⟨rfl, Below.refl _ _⟩
  | succ m ih =>
    intro t a len c w hm hL hlen hbig
    obtain ⟨hL1, hL2⟩ := hL
    rcases hL2 with rfl | ⟨b, off, rfl, hi⟩
    · have h0 : len = 0 := hL1.symm
      subst h0
      clear ih hm hL1 hlen hbig
      go_enter Tryd.func68, Tryd.ntmps68
      go_wp2
      go_loopw [3, 4] (fun sn si wr => sn = .int .i64 0 ∧ si = .int .i64 0 ∧ wr = w) (fun _ _ _ => 0)
      case atStart => exact ⟨rfl, rfl, rfl⟩
      case round =>
        obtain ⟨rfl, rfl, rfl⟩ := hrel
        go_wp2
        go_ret
        exact ⟨rfl, Below.refl _ _⟩
    · have HM := hid hm
      have HB := hid hbig
      have HL1 := hid hL1
      have HI := hid hi
      clear hm hbig hL1 hi
      go_enter Tryd.func68, Tryd.ntmps68
      go_wp2
      go_loopw [3, 4] (fun sn si wr => ∃ (k : Nat) (n : Int) (rest : Il), si = .int .i64 k ∧ sn = .int .i64 n ∧ k ≤ len ∧ 0 ≤ n ∧ n ≤ 4611686018427387900 ∧ Hid (k + rest.len = len ∧ rest.count ≤ t.count ∧ max n rest.deep = t.deep) ∧ Hid (Items w.heap.size w b (off + k * 8) rest) ∧ Below w.heap.size w wr)
        (fun _ si _ => len - (intOf si).toNat)
      case atStart => exact ⟨0, 0, t, rfl, rfl, Nat.zero_le _, by omega, by omega, ⟨by have := HL1.out; omega, Nat.le_refl _, by omega⟩, by simpa using HI, Below.refl _ _⟩
      case round =>
        obtain ⟨k, n, rest, rfl, rfl, hk, hn0, hn1, HR, HIR, hb⟩ := hrel
        cases rest with
        | nil =>
          obtain ⟨r1, _, r3⟩ := HR.out
          have hkl : k = len := by simpa [Il.len] using r1
          subst hkl
          have R3 : Hid (n = t.deep) := by show _ = _; simp only [Il.deep] at r3; omega
          clear r3
          go_wp2
          go_ret
          exact ⟨ret_int R3.out, hb⟩
        | cons x tl te r =>
          have hir := Items.below hb HIR.out
          obtain ⟨hbn, hx, ⟨c0, c1, c2, c3, c4, c5, c6, c7⟩, _⟩ := hir
          have hir0 := HIR.out
          obtain ⟨_, _, _, ht, hLl, hLe, hir'⟩ := hir0
          have hlt : k < len := by have := HR.out.1; simp only [Il.len] at this; omega
          have hLn := hx.ln
          have hEn := hx.en
          have hcnt : tl.count + te.count + 1 ≤ m + 1 ∧ tl.count ≤ 4611686018427387900 ∧ te.count ≤ 4611686018427387900 := by
            have h1 := HR.out.2.1
            have h2 := HM.out
            have h3 := HB.out
            simp only [Il.count] at h1
            omega
          obtain ⟨k1, k2, k3⟩ := hcnt
          have N2 := fun w' (hb' : Below w.heap.size w w') => ih tl x.la x.ln x.lc w' (by omega) (ListAt.on hLl hb') hLn k2
          have N3 := fun w' (hb' : Below w.heap.size w w') => ih te x.ea x.en x.ec w' (by omega) (ListAt.on hLe hb') hEn k3
          have d2 := deep_le_count tl
          have d3 := deep_le_count te
          have hq : (tl.deep : Int) ≤ 4611686018427387899 ∧ (te.deep : Int) ≤ 4611686018427387899 := by
            have h1 := HR.out.2.1
            have h2 := HB.out
            simp only [Il.count] at h1
            omega
          obtain ⟨q2, hq2⟩ : ∃ q : Int, (tl.deep : Int) = q := ⟨_, rfl⟩
          obtain ⟨q3, hq3⟩ : ∃ q : Int, (te.deep : Int) = q := ⟨_, rfl⟩
          have y1 : 0 ≤ q2 := by omega
          have y2 : 0 ≤ q3 := by omega
          rw [hq2, hq3] at hq
          obtain ⟨y3, y4⟩ := hq
          simp only [hq2, hq3] at N2 N3
          have Q2 := hid hq2
          have Q3 := hid hq3
          have H2 := hid N2
          have H3 := hid N3
          have hv1 : IntKind.i64.wrap (1 + max q2 q3) = 1 + max q2 q3 := by rw [IntKind.wrap_i64]; omega
          clear N2 N3 hq2 hq3 ih k1 k2 k3 hLl hLe d2 d3
          have hS0 : Below w.heap.size w wr.drew ∧ wr.drew.cell? ⟨b, off + k * 8 + 6, none⟩ = some (.slice x.la x.ln x.lc) ∧ wr.drew.cell? ⟨b, off + k * 8 + 7, none⟩ = some (.slice x.ea x.en x.ec) := ⟨hb.drew, c6, c7⟩
          go_wp2
          (first
            | go_loud (go_region_held3 (fun w' => Below w.heap.size w w' ∧ w'.cell? ⟨b, off + k * 8 + 6, none⟩ = some (.slice x.la x.ln x.lc) ∧ w'.cell? ⟨b, off + k * 8 + 7, none⟩ = some (.slice x.ea x.en x.ec))
                (first | assumption | exact held_keep2 (by assumption) (by assumption))
                (first
                  | (go_at_call 68; (with_reducible refine (H2.out _ (held_out2 (by assumption))).mono ?_); rintro e w7 ⟨rfl, hb7⟩)
                  | (go_at_call 68; (with_reducible refine (H3.out _ (held_out2 (by assumption))).mono ?_); rintro e w8 ⟨rfl, hb8⟩)))
            | fail)
          go_wp2
          have hbE := held_out2 (by assumption)
          have g2 := Q2.out
          have g3 := Q3.out
          refine ⟨⟨k + 1, max n (1 + max q2 q3), r, by simp, rfl, by omega, by omega, by omega, ⟨by have := HR.out.1; simp only [Il.len] at this; omega, by have := HR.out.2.1; simp only [Il.count] at this; omega, ?_⟩, by rw [show off + (k + 1) * 8 = off + k * 8 + 8 by omega]; exact hir', hbE⟩, by simp [intOf]; omega⟩
          have h1 := HR.out.2.2
          simp only [Il.deep] at h1
          omega



set_option maxHeartbeats 1600000 in
theorem refTags_any : ∀ (m : Nat) (t : Il) (a : Option Addr) (len c : Nat) (w : World), t.count ≤ m → ListAt w.heap.size w a len t → len ≤ 140737488351232 → t.count ≤ 4611686018427387900 →
    Calls Tryd.prog 69 #[.slice a len c] w fun e w' => e = .returned (.bool t.tags) ∧ Below w.heap.size w w' := by
  intro m
  induction m with
  | zero =>
    intro t a len c w hm hL hlen hbig
    cases t with
    | cons x l e r => simp only [Il.count] at hm; omega
    | nil =>
      have h0 : len = 0 := hL.1.symm
      subst h0
      clear hm hL hlen hbig
      go_enter Tryd.func69, Tryd.ntmps69
      go_wp2
      go_loopw [3] (fun si wr => si = .int .i64 0 ∧ wr = w) (fun _ _ => 0)
      case atStart => exact ⟨rfl, rfl⟩
      case round =>
        obtain ⟨rfl, rfl⟩ := hrel
        go_wp2
        go_ret
        exact ⟨rfl, Below.refl _ _⟩
  | succ m ih =>
    intro t a len c w hm hL hlen hbig
    obtain ⟨hL1, hL2⟩ := hL
    rcases hL2 with rfl | ⟨b, off, rfl, hi⟩
    · have h0 : len = 0 := hL1.symm
      subst h0
      clear ih hm hL1 hlen hbig
      go_enter Tryd.func69, Tryd.ntmps69
      go_wp2
      go_loopw [3] (fun si wr => si = .int .i64 0 ∧ wr = w) (fun _ _ => 0)
      case atStart => exact ⟨rfl, rfl⟩
      case round =>
        obtain ⟨rfl, rfl⟩ := hrel
        go_wp2
        go_ret
        exact ⟨rfl, Below.refl _ _⟩
    · have HM := hid hm
      have HB := hid hbig
      have HL1 := hid hL1
      have HI := hid hi
      clear hm hbig hL1 hi
      go_enter Tryd.func69, Tryd.ntmps69
      go_wp2
      go_loopw [3] (fun si wr => ∃ (k : Nat) (rest : Il), si = .int .i64 k ∧ k ≤ len ∧ Hid (k + rest.len = len ∧ rest.count ≤ t.count ∧ rest.tags = t.tags) ∧ Hid (Items w.heap.size w b (off + k * 8) rest) ∧ Below w.heap.size w wr)
        (fun si _ => len - (intOf si).toNat)
      case atStart => exact ⟨0, t, rfl, Nat.zero_le _, ⟨by have := HL1.out; omega, Nat.le_refl _, rfl⟩, by simpa using HI, Below.refl _ _⟩
      case round =>
        obtain ⟨k, rest, rfl, hk, HR, HIR, hb⟩ := hrel
        cases rest with
        | nil =>
          obtain ⟨r1, _, r3⟩ := HR.out
          have hkl : k = len := by simpa [Il.len] using r1
          subst hkl
          have R3 : Hid (t.tags = false) := by show _ = _; rw [← r3]; rfl
          clear r3
          go_wp2
          go_ret
          exact ⟨ret_bool R3.out.symm, hb⟩
        | cons x tl te r =>
          have hir := Items.below hb HIR.out
          obtain ⟨hbn, hx, ⟨c0, c1, c2, c3, c4, c5, c6, c7⟩, _⟩ := hir
          have hir0 := HIR.out
          obtain ⟨_, _, _, ht, hLl, hLe, hir'⟩ := hir0
          have hlt : k < len := by have := HR.out.1; simp only [Il.len] at this; omega
          have hLn := hx.ln
          have hEn := hx.en
          have hcnt : tl.count + te.count + 1 ≤ m + 1 ∧ tl.count ≤ 4611686018427387900 ∧ te.count ≤ 4611686018427387900 := by
            have h1 := HR.out.2.1
            have h2 := HM.out
            have h3 := HB.out
            simp only [Il.count] at h1
            omega
          obtain ⟨k1, k2, k3⟩ := hcnt
          have N2 := fun w' (hb' : Below w.heap.size w w') => ih tl x.la x.ln x.lc w' (by omega) (ListAt.on hLl hb') hLn k2
          have N3 := fun w' (hb' : Below w.heap.size w w') => ih te x.ea x.en x.ec w' (by omega) (ListAt.on hLe hb') hEn k3
          have HE : Hid (t.tags = (decide (16384 < x.tags.length) || tl.tags || te.tags || r.tags)) := by show _ = _; rw [← HR.out.2.2]; rfl
          have htn := hx.tn
          have H2 := hid N2
          have H3 := hid N3
          clear N2 N3 ih k1 k2 k3 hLl hLe
          by_cases hbig : 16384 < x.tags.length
          · have R : Hid (t.tags = true) := by show _ = _; rw [HE.out]; simp [hbig]
            have hbig' : (16384 : Int) < (x.tags.length : Int) := by omega
            clear H2 H3
            go_wp2
            go_ret
            exact ⟨ret_bool R.out.symm, hb⟩
          · have hbig' : ¬ (16384 : Int) < (x.tags.length : Int) := by omega
            obtain ⟨g1, hg1⟩ : ∃ g, tl.tags = g := ⟨_, rfl⟩
            obtain ⟨g2, hg2⟩ : ∃ g, te.tags = g := ⟨_, rfl⟩
            simp only [hg1] at H2
            simp only [hg2] at H3
            have HE2 : Hid (t.tags = (g1 || g2 || r.tags)) := by show _ = _; rw [HE.out, hg1, hg2]; simp [hbig]
            clear hg1 hg2 HE
            go_wp2_with fail
            refine (H2.out _ hb).mono ?_
            clear H2
            rintro e1 w3 ⟨rfl, hb3⟩
            have hbW := thenB hb hb3
            have d6 := keep hb3 c6
            have d7 := keep hb3 c7
            cases g1
            · go_wp2_with fail
              refine (H3.out _ hbW).mono ?_
              clear H3
              rintro e1 w4 ⟨rfl, hb4⟩
              have hbX := thenB hbW hb4
              cases g2
              · go_wp2
                go_roundw
                case rel =>
                  refine ⟨k + 1, r, by simp, by omega, ⟨by have := HR.out.1; simp only [Il.len] at this; omega, by have := HR.out.2.1; simp only [Il.count] at this; omega, ?_⟩, by rw [show off + (k + 1) * 8 = off + k * 8 + 8 by omega]; exact hir', hbX⟩
                  rw [HE2.out]; rfl
                case measure => simp [intOf]; omega
              · have R : Hid (t.tags = true) := by show _ = _; rw [HE2.out]; rfl
                go_wp2
                go_ret
                exact ⟨ret_bool R.out.symm, hbX⟩
            · have R : Hid (t.tags = true) := by show _ = _; rw [HE2.out]; simp
              clear H3
              go_wp2
              go_ret
              exact ⟨ret_bool R.out.symm, hbW⟩

end Go.Proofs.YtlfflomeaplidaaDoor.Instr

namespace Go.Proofs.YtlfflomeaplidaaDoor.Body
open Go.RowKit Go.Proofs.YtlfflomeaplidaaDoor.Instr

theorem rightDoc_any (x : Ix) (w : World) : Calls Tryd.prog 101 #[.agg x.vals] w fun e w' => e = .returned (.bool (lawfulP x)) ∧ Below w.heap.size w w' := by
  by_cases hn : nameL x.op = []
  · have h0 : lawfulP x = false := by
      rw [← Bool.not_eq_true]; intro h; exact ((lawful_iff x).1 h).1 hn
    rw [h0]
    exact right_none x.op x.res x.a x.b x.n x.tags.length x.ln x.en x.ta x.la x.ea x.tc x.lc x.ec w hn
  · rcases kind_cases x.op with h | h | h | h | h | h | h | h
    · exact right_0 x w hn h
    · by_cases h4 : x.op = 4
      · exact right_1a x w hn h h4
      · exact right_1b x w hn h h4
    · exact right_2 x w hn h
    · exact right_3 x w hn h
    · exact right_4 x w hn h
    · exact right_5 x w hn h
    · exact right_6 x w hn h
    · exact right_7 x w hn h
set_option maxHeartbeats 1600000 in
theorem allDoc_any : ∀ (m : Nat) (t : Il) (a : Option Addr) (len c : Nat) (w : World), t.count ≤ m → ListAt w.heap.size w a len t → len ≤ 140737488351232 → t.count ≤ 4611686018427387900 →
    Calls Tryd.prog 66 #[.slice a len c] w fun e w' => e = .returned (.bool t.all) ∧ Below w.heap.size w w' := by
  intro m
  induction m with
  | zero =>
    intro t a len c w hm hL hlen hbig
    cases t with
    | cons x l e r => simp only [Il.count] at hm; omega
    | nil =>
      have h0 : len = 0 := hL.1.symm
      subst h0
      clear hm hL hlen hbig
      go_enter Tryd.func66, Tryd.ntmps66
      go_wp2
      go_loopw [3] (fun si wr => si = .int .i64 0 ∧ wr = w) (fun _ _ => 0)
      case atStart => exact ⟨rfl, rfl⟩
      case round =>
        obtain ⟨rfl, rfl⟩ := hrel
        go_wp2
        go_ret
        exact ⟨rfl, Below.refl _ _⟩
  | succ m ih =>
    intro t a len c w hm hL hlen hbig
    obtain ⟨hL1, hL2⟩ := hL
    rcases hL2 with rfl | ⟨b, off, rfl, hi⟩
    · have h0 : len = 0 := hL1.symm
      subst h0
      clear ih hm hL1 hlen hbig
      go_enter Tryd.func66, Tryd.ntmps66
      go_wp2
      go_loopw [3] (fun si wr => si = .int .i64 0 ∧ wr = w) (fun _ _ => 0)
      case atStart => exact ⟨rfl, rfl⟩
      case round =>
        obtain ⟨rfl, rfl⟩ := hrel
        go_wp2
        go_ret
        exact ⟨rfl, Below.refl _ _⟩
    · have HM := hid hm
      have HB := hid hbig
      have HL1 := hid hL1
      have HI := hid hi
      clear hm hbig hL1 hi
      go_enter Tryd.func66, Tryd.ntmps66
      go_wp2
      go_loopw [3] (fun si wr => ∃ (k : Nat) (rest : Il), si = .int .i64 k ∧ k ≤ len ∧ Hid (k + rest.len = len ∧ rest.count ≤ t.count ∧ rest.all = t.all) ∧ Hid (Items w.heap.size w b (off + k * 8) rest) ∧ Below w.heap.size w wr)
        (fun si _ => len - (intOf si).toNat)
      case atStart => exact ⟨0, t, rfl, Nat.zero_le _, ⟨by have := HL1.out; omega, Nat.le_refl _, rfl⟩, by simpa using HI, Below.refl _ _⟩
      case round =>
        obtain ⟨k, rest, rfl, hk, HR, HIR, hb⟩ := hrel
        cases rest with
        | nil =>
          obtain ⟨r1, _, r3⟩ := HR.out
          have hkl : k = len := by simpa [Il.len] using r1
          subst hkl
          have R3 : Hid (t.all = true) := by show _ = _; rw [← r3]; rfl
          clear r3
          go_wp2
          go_ret
          exact ⟨ret_bool R3.out.symm, hb⟩
        | cons x tl te r =>
          have hir := Items.below hb HIR.out
          obtain ⟨hbn, hx, ⟨c0, c1, c2, c3, c4, c5, c6, c7⟩, _⟩ := hir
          have hir0 := HIR.out
          obtain ⟨_, _, _, ht, hLl, hLe, hir'⟩ := hir0
          have hlt : k < len := by have := HR.out.1; simp only [Il.len] at this; omega
          have hLn := hx.ln
          have hEn := hx.en
          have hcnt : tl.count + te.count + 1 ≤ m + 1 ∧ tl.count ≤ 4611686018427387900 ∧ te.count ≤ 4611686018427387900 := by
            have h1 := HR.out.2.1
            have h2 := HM.out
            have h3 := HB.out
            simp only [Il.count] at h1
            omega
          obtain ⟨k1, k2, k3⟩ := hcnt
          have N1 := fun w' => rightDoc_any x w'
          have N2 := fun w' (hb' : Below w.heap.size w w') => ih tl x.la x.ln x.lc w' (by omega) (ListAt.on hLl hb') hLn k2
          have N3 := fun w' (hb' : Below w.heap.size w w') => ih te x.ea x.en x.ec w' (by omega) (ListAt.on hLe hb') hEn k3
          have HE : Hid (t.all = (lawfulP x && tl.all && te.all && r.all)) := by show _ = _; rw [← HR.out.2.2]; rfl
          have H1 := hid N1
          have H2 := hid N2
          have H3 := hid N3
          unfold Ix.vals at H1
          clear N1 N2 N3 ih k1 k2 k3 hLl hLe
          obtain ⟨g0, hg0⟩ : ∃ g, lawfulP x = g := ⟨_, rfl⟩
          obtain ⟨g1, hg1⟩ : ∃ g, tl.all = g := ⟨_, rfl⟩
          obtain ⟨g2, hg2⟩ : ∃ g, te.all = g := ⟨_, rfl⟩
          simp only [hg0] at H1
          simp only [hg1] at H2
          simp only [hg2] at H3
          have HE2 : Hid (t.all = (g0 && g1 && g2 && r.all)) := by show _ = _; rw [HE.out, hg0, hg1, hg2]
          clear hg0 hg1 hg2 HE
          go_wp2_with fail
          refine (H1.out _).mono ?_
          clear H1
          rintro e1 w3 ⟨rfl, hb3⟩
          have hbW := thenB hb hb3
          have d6 := keep (w1 := w3) hb3 c6
          have d7 := keep (w1 := w3) hb3 c7
          cases g0
          · have R : Hid (t.all = false) := by show _ = _; rw [HE2.out]; rfl
            clear H2 H3
            go_wp2
            go_ret
            exact ⟨ret_bool R.out.symm, hbW⟩
          go_wp2_with fail
          refine (H2.out _ hbW).mono ?_
          clear H2
          rintro e1 w4 ⟨rfl, hb4⟩
          have hbX := thenB hbW hb4
          have e7 := keep (w1 := w4) hb4 d7
          cases g1
          · have R : Hid (t.all = false) := by show _ = _; rw [HE2.out]; rfl
            clear H3
            go_wp2
            go_ret
            exact ⟨ret_bool R.out.symm, hbX⟩
          go_wp2_with fail
          refine (H3.out _ hbX).mono ?_
          clear H3
          rintro e1 w5 ⟨rfl, hb5⟩
          have hbY := thenB hbX hb5
          cases g2
          · have R : Hid (t.all = false) := by show _ = _; rw [HE2.out]; rfl
            go_wp2
            go_ret
            exact ⟨ret_bool R.out.symm, hbY⟩
          go_wp2
          go_roundw
          case rel =>
            refine ⟨k + 1, r, by simp, by omega, ⟨by have := HR.out.1; simp only [Il.len] at this; omega, by have := HR.out.2.1; simp only [Il.count] at this; omega, ?_⟩, by rw [show off + (k + 1) * 8 = off + k * 8 + 8 by omega]; exact hir', hbY⟩
            rw [HE2.out]; rfl
          case measure => simp [intOf]; omega

set_option maxHeartbeats 1600000 in
theorem checkDoc_any (t : Il) (a : Option Addr) (len c : Nat) (w : World) (hL : ListAt w.heap.size w a len t) (hlen : len ≤ 140737488351232) (hbig : t.count ≤ 4611686018427387900) :
    Calls Tryd.prog 23 #[.slice a len c] w fun e w' => e = .returned (.int .i64 (checkP t)) ∧ Below w.heap.size w w' := by
  have CA := fun w' (h : ListAt w'.heap.size w' a len t) => allDoc_any t.count t a len c w' (Nat.le_refl _) h hlen hbig
  have CN := fun w' (h : ListAt w'.heap.size w' a len t) => refCount_any t.count t a len c w' (Nat.le_refl _) h hlen hbig
  have CD := fun w' (h : ListAt w'.heap.size w' a len t) => refDeep_any t.count t a len c w' (Nat.le_refl _) h hlen hbig
  have CT := fun w' (h : ListAt w'.heap.size w' a len t) => refTags_any t.count t a len c w' (Nat.le_refl _) h hlen hbig
  unfold checkP
  obtain ⟨ga, hga⟩ : ∃ g, t.all = g := ⟨_, rfl⟩
  simp only [hga] at CA ⊢
  cases ga
  · have C1 := hid CA
    clear CA CN CD CT hga hbig hlen
    rw [if_neg (by decide)]
    go_enter Tryd.func23, Tryd.ntmps23
    go_wp2_with fail
    refine (C1.out _ hL).mono ?_
    rintro e w1 ⟨rfl, hb1⟩
    go_wp2
    go_ret
    exact ⟨rfl, hb1⟩
  rw [if_pos rfl]
  obtain ⟨n, hn⟩ : ∃ n : Int, (t.count : Int) = n := ⟨_, rfl⟩
  obtain ⟨d, hd⟩ : ∃ d : Int, (t.deep : Int) = d := ⟨_, rfl⟩
  obtain ⟨g, hgt⟩ : ∃ g, t.tags = g := ⟨_, rfl⟩
  simp only [hn] at CN
  simp only [hd] at CD
  simp only [hgt] at CT
  have hR : (if 262144 < t.count ∨ 900 < t.deep ∨ t.tags = true then (141 : Int) else 0) = if 262144 < n ∨ 900 < d ∨ g = true then 141 else 0 := by
    rw [hgt, ← hn, ← hd]
    congr 1
    simp only [eq_iff_iff]
    constructor <;> (rintro (h | h | h)) <;> first | exact .inl (by omega) | exact .inr (.inl (by omega)) | exact .inr (.inr h)
  rw [hR]
  clear hR hn hd hgt hga hbig hlen
  have C1 := hid CA
  have C2 := hid CN
  have C3 := hid CD
  have C4 := hid CT
  clear CA CN CD CT
  by_cases h1 : 262144 < n
  · rw [if_pos (.inl h1)]
    go_enter Tryd.func23, Tryd.ntmps23
    go_wp2_with fail
    refine (C1.out _ hL).mono ?_
    rintro e w1 ⟨rfl, hb1⟩
    go_wp2_with fail
    refine (C2.out _ (hL.on hb1)).mono ?_
    rintro e w2 ⟨rfl, hb2⟩
    go_wp2
    go_ret
    exact ⟨rfl, thenB hb1 hb2⟩
  · have h1' : n ≤ 262144 := by omega
    by_cases h2 : 900 < d
    · rw [if_pos (.inr (.inl h2))]
      go_enter Tryd.func23, Tryd.ntmps23
      go_wp2_with fail
      refine (C1.out _ hL).mono ?_
      rintro e w1 ⟨rfl, hb1⟩
      go_wp2_with fail
      refine (C2.out _ (hL.on hb1)).mono ?_
      rintro e w2 ⟨rfl, hb2⟩
      go_wp2_with fail
      refine (C3.out _ ((hL.on hb1).on hb2)).mono ?_
      rintro e w3 ⟨rfl, hb3⟩
      go_wp2
      go_ret
      exact ⟨rfl, thenB (thenB hb1 hb2) hb3⟩
    · have h2' : d ≤ 900 := by omega
      have hR : (if 262144 < n ∨ 900 < d ∨ g = true then (141 : Int) else 0) = if g then 141 else 0 := by simp [h1, h2]
      rw [hR]
      clear hR
      cases g
      all_goals
        go_enter Tryd.func23, Tryd.ntmps23
        go_wp2_with fail
        refine (C1.out _ hL).mono ?_
        rintro e w1 ⟨rfl, hb1⟩
        go_wp2_with fail
        refine (C2.out _ (hL.on hb1)).mono ?_
        rintro e w2 ⟨rfl, hb2⟩
        go_wp2_with fail
        refine (C3.out _ ((hL.on hb1).on hb2)).mono ?_
        rintro e w3 ⟨rfl, hb3⟩
        go_wp2_with fail
        refine (C4.out _ (((hL.on hb1).on hb2).on hb3)).mono ?_
        rintro e w4 ⟨rfl, hb4⟩
        go_wp2
        go_ret
        exact ⟨rfl, thenB (thenB (thenB hb1 hb2) hb3) hb4⟩
end Go.Proofs.YtlfflomeaplidaaDoor.Body

namespace Go.Proofs.YtlfflomeaplidaaDoor.Body
set_option linter.unusedVariables false
open Go.RowKit Go.Proofs.YtlfflomeaplidaaDoor.Instr Go.Proofs.YtlfflomeaplidaaDoor.Leb

theorem at_belowB {B : Nat} {w w' : World} {g : Nat} {x : Ix} (h : At x g w) (hb : Below B w w') (hg : g < B) : At x g w' :=
  ⟨(hb.cell hg).trans h.c0, (hb.cell hg).trans h.c1, (hb.cell hg).trans h.c2, (hb.cell hg).trans h.c3, (hb.cell hg).trans h.c4, (hb.cell hg).trans h.c5, (hb.cell hg).trans h.c6, (hb.cell hg).trans h.c7⟩
/-- Bytes that grow, behind the box of an instruction: at most so many. -/
structure OW (w : World) (x : Ix) (v : Value) (zs : List Int) (N : Nat) (W : World) : Prop where
  own : Own (w.heap.size + 1) W v zs
  bel : Below (w.heap.size + 1) (w.alloc (.cells x.vals 61)) W
  few : zs.length ≤ N
section
variable {w W W' : World} {x : Ix} {v : Value} {zs : List Int} {N : Nat}
theorem OW.size (O : OW w x v zs N W) : w.heap.size + 1 ≤ W.heap.size := by have := O.bel.size; simpa using this
theorem OW.box (O : OW w x v zs N W) : At x w.heap.size W := at_belowB (At.made x w) O.bel (Nat.lt_succ_self _)
theorem OW.on (O : OW w x v zs N W) (hb : Below W.heap.size W W') : OW w x v zs N W' := ⟨O.own.below hb, O.bel.trans (hb.mono O.size), O.few⟩
theorem OW.all (O : OW w x v zs N W) : Below w.heap.size w W := ((Below.refl w.heap.size w).alloc (Nat.le_refl _) _).trans (O.bel.mono (Nat.le_succ _))
theorem OW.gives (O : OW w x v zs N W) : Gives w zs (.returned v) W := ⟨v, rfl, O.own.mono (Nat.le_succ _), O.all⟩
theorem OW.gives' {ys : List Int} (O : OW w x v zs N W) (h : zs = ys) : Gives w ys (.returned v) W := by subst h; exact O.gives
theorem OW.mkN {v' : Value} {ys : List Int} {M : Nat} (O : OW w x v zs N W) (h1 : Own (w.heap.size + 1) W' v' (zs ++ ys)) (h2 : Below (w.heap.size + 1) (w.alloc (.cells x.vals 61)) W') (hm : ys.length ≤ M) : ∃ n q k y, y = zs ++ ys ∧ y.length = n ∧ v' = .slice q n k ∧ Hid (OW w x v' y (N + M) W') := by
  obtain ⟨q, k, hv⟩ := h1.slice
  exact ⟨_, q, k, _, rfl, rfl, hv, ⟨h1, h2, by rw [List.length_append]; have := O.few; omega⟩⟩
theorem OW.mk' {v' : Value} {ys : List Int} {M : Nat} (O : OW w x v zs N W) (h1 : Own (w.heap.size + 1) W' v' (zs ++ ys)) (h2 : Below (w.heap.size + 1) (w.alloc (.cells x.vals 61)) W') (hm : ys.length ≤ M) : OW w x v' (zs ++ ys) (N + M) W' :=
  ⟨h1, h2, by rw [List.length_append]; have := O.few; omega⟩
end
theorem own_op (w : World) (x : Ix) (z : Int) : OW w x (.slice (some ⟨w.heap.size + 1, 0, none⟩) 1 1) [z] 1 ((w.alloc (.cells x.vals 61)).alloc (.cells #[.int .u8 z] 5)) := by
  have h := World.ownsRow_lit (base := w.heap.size + 1) (e := 5) (size := 1) (w.alloc (.cells x.vals 61)) #[.int .u8 z] 1 (by simp) (by decide) rfl
  rw [show (w.alloc (.cells x.vals 61)).heap.size = w.heap.size + 1 by simp] at h
  exact ⟨h, (Below.refl _ _).alloc (by simp) _, Nat.le_refl _⟩
theorem type_cell (W : World) (res : Int) (h : res = 0 ∨ res = 1) : (W.alloc (.cells #[.int .u8 64, .int .u8 127] 5)).cell? ⟨W.heap.size, res.toNat, none⟩ = some (.int .u8 (if res = 0 then 64 else 127)) := by
  rcases h with rfl | rfl <;> simp
/-- Lists, by the contract that is handed in. -/
def PutH (m : Nat) : Prop := ∀ (t : Il) (a : Option Addr) (n c : Nat) (w : World), t.count < m → ListAt w.heap.size w a n t → MayT t → (encL t).length ≤ 90000 → Calls Tryd.prog 24 #[.slice a n c] w (Gives w (encL t))

set_option maxRecDepth 100000 in
set_option maxHeartbeats 6400000 in
theorem enc0 (x : Ix) (l e : Il) (m : Nat) (w : World) (hx : May x) (hk : kindP x.op = 0) (ht : TagsAt w.heap.size w x.ta x.tags) (hl : ListAt w.heap.size w x.la x.ln l) (he : ListAt w.heap.size w x.ea x.en e) (hml : MayT l) (hme : MayT e)
    (hcl : l.count < m) (hce : e.count < m) (hfl : (encL l).length ≤ 90000) (hfe : (encL e).length ≤ 90000) (LH : PutH m) :
    Calls Tryd.prog 70 #[.agg x.vals] w (Gives w (encOne x l e)) := by
  obtain ⟨op, res, a, b, n, tags, ta, tc, la, ln, lc, ea, en, ec⟩ := x
  have hnm := ((lawful_iff _).1 hx.law).1
  have hrs := ((lawful_iff _).1 hx.law).2.1
  obtain ⟨ha, hb, hn, htg, hfw⟩ : (0 ≤ a ∧ a < 4294967296) ∧ (0 ≤ b ∧ b < 4294967296) ∧ (-2147483648 ≤ n ∧ n < 2147483648) ∧ (∀ z ∈ tags, 0 ≤ z ∧ z < 4294967296) ∧ tags.length ≤ 16384 := ⟨hx.a, hx.b, hx.n, hx.tags, hx.few⟩
  have hrg := name_range hnm
  dsimp only at hk ht hl he hrg hrs
  obtain ⟨o0, o1, -, -⟩ := hrg
  have hL : listsP op = false := by rw [lists_kind, hk]; rfl
  have hW : whichP op = false := by rw [which_kind, hk]; rfl
  have hS : storedP op = false := by rw [stored_kind, hk]; rfl
  have n17 : ¬ op = 17 := by rintro rfl; revert hk; decide
  have n14 : ¬ op = 14 := by rintro rfl; revert hk; decide
  have n65 : ¬ op = 65 := by rintro rfl; revert hk; decide
  have n63 : ¬ op = 63 := by rintro rfl; revert hk; decide
  have n64 : ¬ op = 64 := by rintro rfl; revert hk; decide
  have m63 : (op == 63) = false := by simp [n63]
  have m64 : (op == 64) = false := by simp [n64]
  have FA := hid (fun W => refAlign_any (op) W)
  have FL := hid (fun W => refLists_any (op) W)
  have FW := hid (fun W => refWhich_any (op) W)
  rw [hS] at FA
  rw [hL] at FL
  rw [hW] at FW
  obtain ⟨al, hal⟩ : ∃ al, alignP (op) = al := ⟨_, rfl⟩
  rw [hal] at FA
  have O0 := hid (own_op w ⟨op, res, a, b, n, tags, ta, tc, la, ln, lc, ea, en, ec⟩ (op))
  have hE : encOne (⟨op, res, a, b, n, tags, ta, tc, la, ln, lc, ea, en, ec⟩ : Ix) l e = [op] := by unfold encOne; rw [encRest0 hk, if_neg (by dsimp only; rw [hk]; decide)]; simp
  rw [hE]
  have u8o : IntKind.u8.wrap (op) = op := by rw [IntKind.wrap_u8]; omega
  clear hnm hL hW hS hal LH hcl hce hfl hfe hl he hml hme ht hx hk hrs hE
  simp only [Ix.vals]
  go_enter Tryd.func70, Tryd.ntmps70
  go_wp2_with (first | (go_at_call 102; refine (FA.out _).mono ?_; rintro e0 w0 ⟨rfl, rfl⟩) | (go_at_call 103; refine (FL.out _).mono ?_; rintro e0 w0 ⟨rfl, rfl⟩) | (go_at_call 104; refine (FW.out _).mono ?_; rintro e0 w0 ⟨rfl, rfl⟩))
  go_ret
  exact O0.out.gives' (ys := [op]) (by simp [*])

set_option maxRecDepth 100000 in
set_option maxHeartbeats 6400000 in
theorem enc1 (x : Ix) (l e : Il) (m : Nat) (w : World) (hx : May x) (hk : kindP x.op = 1) (ht : TagsAt w.heap.size w x.ta x.tags) (hl : ListAt w.heap.size w x.la x.ln l) (he : ListAt w.heap.size w x.ea x.en e) (hml : MayT l) (hme : MayT e)
    (hcl : l.count < m) (hce : e.count < m) (hfl : (encL l).length ≤ 90000) (hfe : (encL e).length ≤ 90000) (LH : PutH m) :
    Calls Tryd.prog 70 #[.agg x.vals] w (Gives w (encOne x l e)) := by
  obtain ⟨op, res, a, b, n, tags, ta, tc, la, ln, lc, ea, en, ec⟩ := x
  have hnm := ((lawful_iff _).1 hx.law).1
  have hrs := ((lawful_iff _).1 hx.law).2.1
  obtain ⟨ha, hb, hn, htg, hfw⟩ : (0 ≤ a ∧ a < 4294967296) ∧ (0 ≤ b ∧ b < 4294967296) ∧ (-2147483648 ≤ n ∧ n < 2147483648) ∧ (∀ z ∈ tags, 0 ≤ z ∧ z < 4294967296) ∧ tags.length ≤ 16384 := ⟨hx.a, hx.b, hx.n, hx.tags, hx.few⟩
  have hrg := name_range hnm
  dsimp only at hk ht hl he hrg hrs
  obtain ⟨o0, o1, -, -⟩ := hrg
  have hL : listsP op = true := by rw [lists_kind, hk]; rfl
  have hW : whichP op = false := by rw [which_kind, hk]; rfl
  have hS : storedP op = false := by rw [stored_kind, hk]; rfl
  have n17 : ¬ op = 17 := by rintro rfl; revert hk; decide
  have n14 : ¬ op = 14 := by rintro rfl; revert hk; decide
  have n65 : ¬ op = 65 := by rintro rfl; revert hk; decide
  have n63 : ¬ op = 63 := by rintro rfl; revert hk; decide
  have n64 : ¬ op = 64 := by rintro rfl; revert hk; decide
  have m63 : (op == 63) = false := by simp [n63]
  have m64 : (op == 64) = false := by simp [n64]
  have FA := hid (fun W => refAlign_any (op) W)
  have FL := hid (fun W => refLists_any (op) W)
  have FW := hid (fun W => refWhich_any (op) W)
  rw [hS] at FA
  rw [hL] at FL
  rw [hW] at FW
  obtain ⟨al, hal⟩ : ∃ al, alignP (op) = al := ⟨_, rfl⟩
  rw [hal] at FA
  have O0 := hid (own_op w ⟨op, res, a, b, n, tags, ta, tc, la, ln, lc, ea, en, ec⟩ (op))
  have u8o : IntKind.u8.wrap (op) = op := by rw [IntKind.wrap_u8]; omega
  obtain ⟨rr, hrr⟩ : ∃ r, (if res = 0 then (64 : Int) else 127) = r := ⟨_, rfl⟩
  have PL := hid (fun W (hb : Below w.heap.size w W) => LH l la ln lc W hcl (hl.on hb) hml hfl)
  have PE := hid (fun W (hb : Below w.heap.size w W) => LH e ea en ec W hce (he.on hb) hme hfe)
  have BL := hid (encL_bytesC l hml)
  have BE := hid (encL_bytesC e hme)
  have hE : encOne ⟨op, res, a, b, n, tags, ta, tc, la, ln, lc, ea, en, ec⟩ l e = op :: (rr :: (encL l ++ ((if en = 0 then [] else 5 :: encL e) ++ [11]))) := by unfold encOne; rw [encRest1 hk]; dsimp only; rw [hrr, if_pos hk]; rfl
  rw [hE]
  clear hE
  obtain ⟨zl, hzl⟩ : ∃ z, encL l = z := ⟨_, rfl⟩
  obtain ⟨ze, hze⟩ : ∃ z, encL e = z := ⟨_, rfl⟩
  rw [hzl] at PL BL hfl ⊢
  rw [hze] at PE BE hfe ⊢
  have LL := hid hfl
  have LE := hid hfe
  clear hnm hL hW hS hal LH hcl hce hfl hfe hl he hml hme ht hx hk hzl hze
  simp only [Ix.vals]
  go_enter Tryd.func70, Tryd.ntmps70
  by_cases hen : en = 0
  · subst hen
    rw [if_pos rfl]
    go_wp2_with (first | (go_at_call 102; refine (FA.out _).mono ?_; rintro e0 wA ⟨rfl, hwA⟩; have OA := hid (hwA ▸ O0.out); clear hwA; obtain ⟨c0, c1, c2, c3, c4, c5, c6, c7⟩ := OA.out.box; dsimp only at c0 c1 c2 c3 c4 c5 c6 c7; have hsA : w.heap.size < wA.heap.size := OA.out.size; have dB := hid (OA.out.on (alloc_below' wA (.cells #[.int .u8 64, .int .u8 127] 5))); obtain ⟨d0, d1, d2, d3, d4, d5, d6, d7⟩ := dB.out.box; dsimp only at d0 d1 d2 d3 d4 d5 d6 d7; have dR := type_cell wA res hrs; rw [hrr] at dR) | (go_at_call 103; refine (FL.out _).mono ?_; rintro e0 w0 ⟨rfl, rfl⟩) | (go_at_call 104; refine (FW.out _).mono ?_; rintro e0 w0 ⟨rfl, rfl⟩) | (at_builtin; refine append_byte rfl _ _ rfl (rr) rfl dB.out.own dB.out.bel dB.out.size ?_ (by have := dB.out.few; omega) ?_; (show Value.slice (some ⟨wA.heap.size + 1, 0, none⟩) 1 1 = _; simp); intro v9 z9 ho hb hs; obtain ⟨nbO1, qbO1, kbO1, ybO1, hybO1, hnbO1, rfl, O1⟩ := dB.out.mkN (ys := [rr]) (M := 1) ho hb (by simp); clear ho hb hs; clear c0 c1 c2 c3 c4 c5 c6 c7; obtain ⟨c0, c1, c2, c3, c4, c5, c6, c7⟩ := O1.out.box; dsimp only at c0 c1 c2 c3 c4 c5 c6 c7))
    refine (PL.out _ O1.out.all).mono ?_
    rintro e1 w1 ⟨r1, rfl, ro1, rb1⟩
    obtain ⟨q1, k1, rfl⟩ := ro1.slice
    have RN1 := ro1.nil
    have RY1 := hid (ro1.bytes BL.out (by have := LL.out; omega))
    have Q1 := hid (O1.out.on rb1)
    obtain ⟨c0, c1, c2, c3, c4, c5, c6, c7⟩ := Q1.out.box
    dsimp only at c0 c1 c2 c3 c4 c5 c6 c7
    clear ro1 rb1
    go_wp2_with (first | (at_builtin; refine append_bytes rfl _ _ rfl rfl Q1.out.own Q1.out.bel Q1.out.size q1 _ k1 rfl RN1.out rfl RY1.out (by have := Q1.out.few; have := LL.out; omega) ?_; intro v1 z1 ho hb hs; obtain ⟨nn1, qq1, kk1, yy1, hy1, hn1, rfl, O2⟩ := Q1.out.mkN ho hb LL.out; clear ho hb hs Q1 RY1 RN1 c0 c1 c2 c3 c4 c5 c6 c7; obtain ⟨c0, c1, c2, c3, c4, c5, c6, c7⟩ := O2.out.box; dsimp only at c0 c1 c2 c3 c4 c5 c6 c7) | (at_builtin; refine append_byte rfl _ _ rfl (11) rfl O2.out.own O2.out.bel O2.out.size ?_ (by have := O2.out.few; omega) ?_; rfl; intro v9 z9 ho hb hs; obtain ⟨nbO3, qbO3, kbO3, ybO3, hybO3, hnbO3, rfl, O3⟩ := O2.out.mkN (ys := [11]) (M := 1) ho hb (by simp); clear ho hb hs))
    go_wp2
    go_ret
    exact O3.out.gives' (ys := op :: (rr :: (zl ++ ([] ++ [11])))) (by simp [*])
  · have hen1 : (0 : Int) < (en : Int) := by omega
    rw [if_neg hen]
    go_wp2_with (first | (go_at_call 102; refine (FA.out _).mono ?_; rintro e0 wA ⟨rfl, hwA⟩; have OA := hid (hwA ▸ O0.out); clear hwA; obtain ⟨c0, c1, c2, c3, c4, c5, c6, c7⟩ := OA.out.box; dsimp only at c0 c1 c2 c3 c4 c5 c6 c7; have hsA : w.heap.size < wA.heap.size := OA.out.size; have dB := hid (OA.out.on (alloc_below' wA (.cells #[.int .u8 64, .int .u8 127] 5))); obtain ⟨d0, d1, d2, d3, d4, d5, d6, d7⟩ := dB.out.box; dsimp only at d0 d1 d2 d3 d4 d5 d6 d7; have dR := type_cell wA res hrs; rw [hrr] at dR) | (go_at_call 103; refine (FL.out _).mono ?_; rintro e0 w0 ⟨rfl, rfl⟩) | (go_at_call 104; refine (FW.out _).mono ?_; rintro e0 w0 ⟨rfl, rfl⟩) | (at_builtin; refine append_byte rfl _ _ rfl (rr) rfl dB.out.own dB.out.bel dB.out.size ?_ (by have := dB.out.few; omega) ?_; (show Value.slice (some ⟨wA.heap.size + 1, 0, none⟩) 1 1 = _; simp); intro v9 z9 ho hb hs; obtain ⟨nbO1, qbO1, kbO1, ybO1, hybO1, hnbO1, rfl, O1⟩ := dB.out.mkN (ys := [rr]) (M := 1) ho hb (by simp); clear ho hb hs; clear c0 c1 c2 c3 c4 c5 c6 c7; obtain ⟨c0, c1, c2, c3, c4, c5, c6, c7⟩ := O1.out.box; dsimp only at c0 c1 c2 c3 c4 c5 c6 c7))
    refine (PL.out _ O1.out.all).mono ?_
    rintro e1 w1 ⟨r1, rfl, ro1, rb1⟩
    obtain ⟨q1, k1, rfl⟩ := ro1.slice
    have RN1 := ro1.nil
    have RY1 := hid (ro1.bytes BL.out (by have := LL.out; omega))
    have Q1 := hid (O1.out.on rb1)
    obtain ⟨c0, c1, c2, c3, c4, c5, c6, c7⟩ := Q1.out.box
    dsimp only at c0 c1 c2 c3 c4 c5 c6 c7
    clear ro1 rb1
    go_wp2_with (first | (at_builtin; refine append_bytes rfl _ _ rfl rfl Q1.out.own Q1.out.bel Q1.out.size q1 _ k1 rfl RN1.out rfl RY1.out (by have := Q1.out.few; have := LL.out; omega) ?_; intro v1 z1 ho hb hs; obtain ⟨nn1, qq1, kk1, yy1, hy1, hn1, rfl, O2⟩ := Q1.out.mkN ho hb LL.out; clear ho hb hs Q1 RY1 RN1 c0 c1 c2 c3 c4 c5 c6 c7; obtain ⟨c0, c1, c2, c3, c4, c5, c6, c7⟩ := O2.out.box; dsimp only at c0 c1 c2 c3 c4 c5 c6 c7) | (at_builtin; refine append_byte rfl _ _ rfl (5) rfl O2.out.own O2.out.bel O2.out.size ?_ (by have := O2.out.few; omega) ?_; rfl; intro v9 z9 ho hb hs; obtain ⟨nbO3, qbO3, kbO3, ybO3, hybO3, hnbO3, rfl, O3⟩ := O2.out.mkN (ys := [5]) (M := 1) ho hb (by simp); clear ho hb hs; clear c0 c1 c2 c3 c4 c5 c6 c7; obtain ⟨c0, c1, c2, c3, c4, c5, c6, c7⟩ := O3.out.box; dsimp only at c0 c1 c2 c3 c4 c5 c6 c7))
    refine (PE.out _ O3.out.all).mono ?_
    rintro e2 w2 ⟨r2, rfl, ro2, rb2⟩
    obtain ⟨q2, k2, rfl⟩ := ro2.slice
    have RN2 := ro2.nil
    have RY2 := hid (ro2.bytes BE.out (by have := LE.out; omega))
    have Q2 := hid (O3.out.on rb2)
    obtain ⟨c0, c1, c2, c3, c4, c5, c6, c7⟩ := Q2.out.box
    dsimp only at c0 c1 c2 c3 c4 c5 c6 c7
    clear ro2 rb2
    go_wp2_with (first | (at_builtin; refine append_bytes rfl _ _ rfl rfl Q2.out.own Q2.out.bel Q2.out.size q2 _ k2 rfl RN2.out rfl RY2.out (by have := Q2.out.few; have := LE.out; omega) ?_; intro v2 z2 ho hb hs; obtain ⟨nn2, qq2, kk2, yy2, hy2, hn2, rfl, O4⟩ := Q2.out.mkN ho hb LE.out; clear ho hb hs Q2 RY2 RN2 c0 c1 c2 c3 c4 c5 c6 c7; obtain ⟨c0, c1, c2, c3, c4, c5, c6, c7⟩ := O4.out.box; dsimp only at c0 c1 c2 c3 c4 c5 c6 c7) | (at_builtin; refine append_byte rfl _ _ rfl (11) rfl O4.out.own O4.out.bel O4.out.size ?_ (by have := O4.out.few; omega) ?_; rfl; intro v9 z9 ho hb hs; obtain ⟨nbO5, qbO5, kbO5, ybO5, hybO5, hnbO5, rfl, O5⟩ := O4.out.mkN (ys := [11]) (M := 1) ho hb (by simp); clear ho hb hs))
    go_wp2
    go_ret
    exact O5.out.gives' (ys := op :: (rr :: (zl ++ (5 :: ze ++ [11])))) (by simp [*])

set_option maxRecDepth 100000 in
set_option maxHeartbeats 6400000 in
theorem enc2 (x : Ix) (l e : Il) (m : Nat) (w : World) (hx : May x) (hk : kindP x.op = 2) (ht : TagsAt w.heap.size w x.ta x.tags) (hl : ListAt w.heap.size w x.la x.ln l) (he : ListAt w.heap.size w x.ea x.en e) (hml : MayT l) (hme : MayT e)
    (hcl : l.count < m) (hce : e.count < m) (hfl : (encL l).length ≤ 90000) (hfe : (encL e).length ≤ 90000) (LH : PutH m) :
    Calls Tryd.prog 70 #[.agg x.vals] w (Gives w (encOne x l e)) := by
  obtain ⟨op, res, a, b, n, tags, ta, tc, la, ln, lc, ea, en, ec⟩ := x
  have hnm := ((lawful_iff _).1 hx.law).1
  have hrs := ((lawful_iff _).1 hx.law).2.1
  obtain ⟨ha, hb, hn, htg, hfw⟩ : (0 ≤ a ∧ a < 4294967296) ∧ (0 ≤ b ∧ b < 4294967296) ∧ (-2147483648 ≤ n ∧ n < 2147483648) ∧ (∀ z ∈ tags, 0 ≤ z ∧ z < 4294967296) ∧ tags.length ≤ 16384 := ⟨hx.a, hx.b, hx.n, hx.tags, hx.few⟩
  have hrg := name_range hnm
  dsimp only at hk ht hl he hrg hrs
  obtain ⟨o0, o1, -, -⟩ := hrg
  have hL : listsP op = false := by rw [lists_kind, hk]; rfl
  have hW : whichP op = true := by rw [which_kind, hk]; rfl
  have hS : storedP op = false := by rw [stored_kind, hk]; rfl
  have n17 : ¬ op = 17 := by rintro rfl; revert hk; decide
  have n14 : ¬ op = 14 := by rintro rfl; revert hk; decide
  have n65 : ¬ op = 65 := by rintro rfl; revert hk; decide
  have n63 : ¬ op = 63 := by rintro rfl; revert hk; decide
  have n64 : ¬ op = 64 := by rintro rfl; revert hk; decide
  have m63 : (op == 63) = false := by simp [n63]
  have m64 : (op == 64) = false := by simp [n64]
  have FA := hid (fun W => refAlign_any (op) W)
  have FL := hid (fun W => refLists_any (op) W)
  have FW := hid (fun W => refWhich_any (op) W)
  rw [hS] at FA
  rw [hL] at FL
  rw [hW] at FW
  obtain ⟨al, hal⟩ : ∃ al, alignP (op) = al := ⟨_, rfl⟩
  rw [hal] at FA
  have O0 := hid (own_op w ⟨op, res, a, b, n, tags, ta, tc, la, ln, lc, ea, en, ec⟩ (op))
  have hE : encOne (⟨op, res, a, b, n, tags, ta, tc, la, ln, lc, ea, en, ec⟩ : Ix) l e = [op] ++ encU a := by unfold encOne; rw [encRest2 hk, if_neg (by dsimp only; rw [hk]; decide)]; simp
  rw [hE]
  have u8o : IntKind.u8.wrap (op) = op := by rw [IntKind.wrap_u8]; omega
  obtain ⟨za, hza⟩ : ∃ z, encU a = z := ⟨_, rfl⟩
  have PA := hid (fun W => refU_any a W ha.1 ha.2)
  have LA := hid (encU_lens a).1
  have BA := hid (encU_bytes a)
  rw [hza] at PA LA BA ⊢
  clear hnm hL hW hS hal LH hcl hce hfl hfe hl he hml hme ht hx hk hrs hE
  simp only [Ix.vals]
  go_enter Tryd.func70, Tryd.ntmps70
  go_wp2_with (first | (go_at_call 102; refine (FA.out _).mono ?_; rintro e0 w0 ⟨rfl, rfl⟩) | (go_at_call 103; refine (FL.out _).mono ?_; rintro e0 w0 ⟨rfl, rfl⟩) | (go_at_call 104; refine (FW.out _).mono ?_; rintro e0 w0 ⟨rfl, rfl⟩))
  refine (PA.out _).mono ?_
  rintro e1 w1 ⟨r1, rfl, ro1, rb1⟩
  obtain ⟨q1, k1, rfl⟩ := ro1.slice
  have RN1 := ro1.nil
  have RY1 := hid (ro1.bytes BA.out (by have := LA.out; omega))
  have Q1 := hid (O0.out.on rb1)
  obtain ⟨c0, c1, c2, c3, c4, c5, c6, c7⟩ := Q1.out.box
  dsimp only at c0 c1 c2 c3 c4 c5 c6 c7
  clear ro1 rb1
  go_wp2_with (first | (at_builtin; refine append_bytes rfl _ _ rfl rfl Q1.out.own Q1.out.bel Q1.out.size q1 _ k1 rfl RN1.out rfl RY1.out (by have := Q1.out.few; have := LA.out; omega) ?_; intro v1 z1 ho hb hs; obtain ⟨nn1, qq1, kk1, yy1, hy1, hn1, rfl, O1⟩ := Q1.out.mkN ho hb LA.out; clear ho hb hs Q1 RY1 RN1 c0 c1 c2 c3 c4 c5 c6 c7; obtain ⟨c0, c1, c2, c3, c4, c5, c6, c7⟩ := O1.out.box; dsimp only at c0 c1 c2 c3 c4 c5 c6 c7))
  go_wp2
  go_ret
  exact O1.out.gives' (ys := op :: za) (by simp [*])

set_option maxRecDepth 100000 in
set_option maxHeartbeats 6400000 in
theorem enc3 (x : Ix) (l e : Il) (m : Nat) (w : World) (hx : May x) (hk : kindP x.op = 3) (ht : TagsAt w.heap.size w x.ta x.tags) (hl : ListAt w.heap.size w x.la x.ln l) (he : ListAt w.heap.size w x.ea x.en e) (hml : MayT l) (hme : MayT e)
    (hcl : l.count < m) (hce : e.count < m) (hfl : (encL l).length ≤ 90000) (hfe : (encL e).length ≤ 90000) (LH : PutH m) :
    Calls Tryd.prog 70 #[.agg x.vals] w (Gives w (encOne x l e)) := by
  obtain ⟨op, res, a, b, n, tags, ta, tc, la, ln, lc, ea, en, ec⟩ := x
  have hnm := ((lawful_iff _).1 hx.law).1
  have hrs := ((lawful_iff _).1 hx.law).2.1
  obtain ⟨ha, hb, hn, htg, hfw⟩ : (0 ≤ a ∧ a < 4294967296) ∧ (0 ≤ b ∧ b < 4294967296) ∧ (-2147483648 ≤ n ∧ n < 2147483648) ∧ (∀ z ∈ tags, 0 ≤ z ∧ z < 4294967296) ∧ tags.length ≤ 16384 := ⟨hx.a, hx.b, hx.n, hx.tags, hx.few⟩
  have hrg := name_range hnm
  dsimp only at hk ht hl he hrg hrs
  obtain ⟨o0, o1, -, -⟩ := hrg
  have hL : listsP op = false := by rw [lists_kind, hk]; rfl
  have hW : whichP op = true := by rw [which_kind, hk]; rfl
  have hS : storedP op = false := by rw [stored_kind, hk]; rfl
  obtain rfl : op = 17 := by unfold kindP at hk; (repeat' split at hk) <;> omega
  have FA := hid (fun W => refAlign_any (17) W)
  have FL := hid (fun W => refLists_any (17) W)
  have FW := hid (fun W => refWhich_any (17) W)
  rw [hS] at FA
  rw [hL] at FL
  rw [hW] at FW
  obtain ⟨al, hal⟩ : ∃ al, alignP (17) = al := ⟨_, rfl⟩
  rw [hal] at FA
  have O0 := hid (own_op w ⟨17, res, a, b, n, tags, ta, tc, la, ln, lc, ea, en, ec⟩ (17))
  have hE : encOne (⟨17, res, a, b, n, tags, ta, tc, la, ln, lc, ea, en, ec⟩ : Ix) l e = [17] ++ encU a ++ [0] := by unfold encOne; rw [encRest3 hk, if_neg (by dsimp only; rw [hk]; decide)]; simp
  rw [hE]
  obtain ⟨za, hza⟩ : ∃ z, encU a = z := ⟨_, rfl⟩
  have PA := hid (fun W => refU_any a W ha.1 ha.2)
  have LA := hid (encU_lens a).1
  have BA := hid (encU_bytes a)
  rw [hza] at PA LA BA ⊢
  clear hnm hL hW hS hal LH hcl hce hfl hfe hl he hml hme ht hx hk hrs hE
  simp only [Ix.vals]
  go_enter Tryd.func70, Tryd.ntmps70
  go_wp2_with (first | (go_at_call 102; refine (FA.out _).mono ?_; rintro e0 w0 ⟨rfl, rfl⟩) | (go_at_call 103; refine (FL.out _).mono ?_; rintro e0 w0 ⟨rfl, rfl⟩) | (go_at_call 104; refine (FW.out _).mono ?_; rintro e0 w0 ⟨rfl, rfl⟩))
  refine (PA.out _).mono ?_
  rintro e1 w1 ⟨r1, rfl, ro1, rb1⟩
  obtain ⟨q1, k1, rfl⟩ := ro1.slice
  have RN1 := ro1.nil
  have RY1 := hid (ro1.bytes BA.out (by have := LA.out; omega))
  have Q1 := hid (O0.out.on rb1)
  obtain ⟨c0, c1, c2, c3, c4, c5, c6, c7⟩ := Q1.out.box
  dsimp only at c0 c1 c2 c3 c4 c5 c6 c7
  clear ro1 rb1
  go_wp2_with (first | (at_builtin; refine append_bytes rfl _ _ rfl rfl Q1.out.own Q1.out.bel Q1.out.size q1 _ k1 rfl RN1.out rfl RY1.out (by have := Q1.out.few; have := LA.out; omega) ?_; intro v1 z1 ho hb hs; obtain ⟨nn1, qq1, kk1, yy1, hy1, hn1, rfl, O1⟩ := Q1.out.mkN ho hb LA.out; clear ho hb hs Q1 RY1 RN1 c0 c1 c2 c3 c4 c5 c6 c7; obtain ⟨c0, c1, c2, c3, c4, c5, c6, c7⟩ := O1.out.box; dsimp only at c0 c1 c2 c3 c4 c5 c6 c7) | (at_builtin; refine append_byte rfl _ _ rfl (0) rfl O1.out.own O1.out.bel O1.out.size ?_ (by have := O1.out.few; omega) ?_; rfl; intro v9 z9 ho hb hs; obtain ⟨nbO2, qbO2, kbO2, ybO2, hybO2, hnbO2, rfl, O2⟩ := O1.out.mkN (ys := [0]) (M := 1) ho hb (by simp); clear ho hb hs))
  go_wp2
  go_ret
  exact O2.out.gives' (ys := 17 :: (za ++ [0])) (by simp [*])

set_option maxRecDepth 100000 in
set_option maxHeartbeats 6400000 in
theorem enc4 (x : Ix) (l e : Il) (m : Nat) (w : World) (hx : May x) (hk : kindP x.op = 4) (ht : TagsAt w.heap.size w x.ta x.tags) (hl : ListAt w.heap.size w x.la x.ln l) (he : ListAt w.heap.size w x.ea x.en e) (hml : MayT l) (hme : MayT e)
    (hcl : l.count < m) (hce : e.count < m) (hfl : (encL l).length ≤ 90000) (hfe : (encL e).length ≤ 90000) (LH : PutH m) :
    Calls Tryd.prog 70 #[.agg x.vals] w (Gives w (encOne x l e)) := by
  obtain ⟨op, res, a, b, n, tags, ta, tc, la, ln, lc, ea, en, ec⟩ := x
  have hnm := ((lawful_iff _).1 hx.law).1
  have hrs := ((lawful_iff _).1 hx.law).2.1
  obtain ⟨ha, hb, hn, htg, hfw⟩ : (0 ≤ a ∧ a < 4294967296) ∧ (0 ≤ b ∧ b < 4294967296) ∧ (-2147483648 ≤ n ∧ n < 2147483648) ∧ (∀ z ∈ tags, 0 ≤ z ∧ z < 4294967296) ∧ tags.length ≤ 16384 := ⟨hx.a, hx.b, hx.n, hx.tags, hx.few⟩
  have hrg := name_range hnm
  dsimp only at hk ht hl he hrg hrs
  obtain ⟨o0, o1, -, -⟩ := hrg
  have hL : listsP op = false := by rw [lists_kind, hk]; rfl
  have hW : whichP op = false := by rw [which_kind, hk]; rfl
  have hS : storedP op = false := by rw [stored_kind, hk]; rfl
  obtain rfl : op = 14 := four_kind.2 hk
  have FA := hid (fun W => refAlign_any (14) W)
  have FL := hid (fun W => refLists_any (14) W)
  have FW := hid (fun W => refWhich_any (14) W)
  rw [hS] at FA
  rw [hL] at FL
  rw [hW] at FW
  obtain ⟨al, hal⟩ : ∃ al, alignP (14) = al := ⟨_, rfl⟩
  rw [hal] at FA
  have O0 := hid (own_op w ⟨14, res, a, b, n, tags, ta, tc, la, ln, lc, ea, en, ec⟩ (14))
  have hE : encOne (⟨14, res, a, b, n, tags, ta, tc, la, ln, lc, ea, en, ec⟩ : Ix) l e = [14] ++ (encTags tags ++ encU a) := by unfold encOne; rw [encRest4 hk, if_neg (by dsimp only; rw [hk]; decide)]; simp
  rw [hE]
  obtain ⟨za, hza⟩ : ∃ z, encU a = z := ⟨_, rfl⟩
  have PA := hid (fun W => refU_any a W ha.1 ha.2)
  have LA := hid (encU_lens a).1
  have BA := hid (encU_bytes a)
  rw [hza] at PA LA BA ⊢
  obtain ⟨zt, hzt⟩ : ∃ z, encTags tags = z := ⟨_, rfl⟩
  obtain ⟨z0, hz0⟩ : ∃ z, encU (tags.length : Int) = z := ⟨_, rfl⟩
  have PT := hid (fun W => refU_any (tags.length : Int) W (by omega) (by omega))
  have LT := hid (encU_lens (tags.length : Int)).1
  have BT := hid (encU_bytes (tags.length : Int))
  have HT := hid ht
  have HZ := hid htg
  have HEt := hid (show z0 ++ tags.flatMap encU = zt by rw [← hzt, ← hz0]; rfl)
  rw [hzt]
  rw [hz0] at PT LT BT
  clear htg hzt hz0
  clear hnm hL hW hS hal LH hcl hce hfl hfe hl he hml hme ht hx hk hrs hE
  simp only [Ix.vals]
  go_enter Tryd.func70, Tryd.ntmps70
  go_wp2_with (first | (go_at_call 102; refine (FA.out _).mono ?_; rintro e0 wA ⟨rfl, hwA⟩; have OA := hid (hwA ▸ O0.out); clear hwA; obtain ⟨c0, c1, c2, c3, c4, c5, c6, c7⟩ := OA.out.box; dsimp only at c0 c1 c2 c3 c4 c5 c6 c7) | (go_at_call 103; refine (FL.out _).mono ?_; rintro e0 w0 ⟨rfl, rfl⟩) | (go_at_call 104; refine (FW.out _).mono ?_; rintro e0 w0 ⟨rfl, rfl⟩))
  refine (PT.out _).mono ?_
  rintro e1 w1 ⟨r1, rfl, ro1, rb1⟩
  obtain ⟨q1, k1, rfl⟩ := ro1.slice
  have RN1 := ro1.nil
  have RY1 := hid (ro1.bytes BT.out (by have := LT.out; omega))
  have Q1 := hid (OA.out.on rb1)
  obtain ⟨c0, c1, c2, c3, c4, c5, c6, c7⟩ := Q1.out.box
  dsimp only at c0 c1 c2 c3 c4 c5 c6 c7
  clear ro1 rb1
  go_wp2_with (first | (at_builtin; refine append_bytes rfl _ _ rfl rfl Q1.out.own Q1.out.bel Q1.out.size q1 _ k1 rfl RN1.out rfl RY1.out (by have := Q1.out.few; have := LT.out; omega) ?_; intro v1 z1 ho hb hs; obtain ⟨nn1, qq1, kk1, yy1, hy1, hn1, rfl, O1⟩ := Q1.out.mkN ho hb LT.out; clear ho hb hs Q1 RY1 RN1 c0 c1 c2 c3 c4 c5 c6 c7; obtain ⟨c0, c1, c2, c3, c4, c5, c6, c7⟩ := O1.out.box; dsimp only at c0 c1 c2 c3 c4 c5 c6 c7))
  go_wp2
  clear c0 c1 c2 c3 c4 c5 c6 c7 PT LT BT OA
  go_loopw [3, 6] (fun s3 s6 wr => ∃ (j nj : Nat) (qj : Option Addr) (kj : Nat), j ≤ tags.length ∧ s6 = .int .i64 j ∧ s3 = .slice qj nj kj ∧ Hid (OW w (⟨14, res, a, b, n, tags, ta, tc, la, ln, lc, ea, en, ec⟩ : Ix) (.slice qj nj kj) (yy1 ++ (tags.take j).flatMap encU) (6 + 5 * j) wr)) (fun _ s6 _ => tags.length - (intOf s6).toNat)
  case atStart => exact ⟨0, nn1, qq1, kk1, by omega, rfl, rfl, hid (by have := O1.out; simpa using this)⟩
  case round =>
    obtain ⟨j, nj, qj, kj, hj, rfl, rfl, HJ⟩ := hrel
    clear O1
    obtain ⟨c0, c1, c2, c3, c4, c5, c6, c7⟩ := HJ.out.box
    dsimp only at c0 c1 c2 c3 c4 c5 c6 c7
    by_cases hlt : j < tags.length
    · have hz' := HZ.out _ (List.getElem_mem hlt)
      rw [← getD_lt hlt] at hz'
      have hd : (tags.take (j + 1)).flatMap encU = (tags.take j).flatMap encU ++ encU (tags.getD j 0) := by rw [List.take_succ_eq_append_getElem hlt, flatMap_snoc, getD_lt hlt]
      rcases HT.out with h0 | ⟨tb, off, rfl, hbl, hc⟩
      · rw [h0] at hlt; simp at hlt
      have hcj := (HJ.out.all.cell (p := ⟨tb, off + j, none⟩) hbl).trans (hc j hlt)
      obtain ⟨z, hz⟩ : ∃ z, tags.getD j 0 = z := ⟨_, rfl⟩
      rw [hz] at hz' hd hcj
      have P2 := hid (fun w' => refU_any z w' hz'.1 hz'.2)
      have L2 := hid (encU_lens z).1
      have B2 := hid (encU_bytes z)
      obtain ⟨e2, he2⟩ : ∃ e, encU z = e := ⟨_, rfl⟩
      rw [he2] at P2 L2 B2 hd
      obtain ⟨zs, hzs⟩ : ∃ zs, yy1 ++ (tags.take j).flatMap encU = zs := ⟨_, rfl⟩
      rw [hzs] at HJ
      have hd2 : Hid (yy1 ++ (tags.take (j + 1)).flatMap encU = zs ++ e2) := by show _ = _; rw [hd, ← List.append_assoc, hzs]
      clear hd hzs he2 hz hz' hc
      go_wp2_with fail
      refine (P2.out _).mono ?_
      rintro e2 w2 ⟨r2, rfl, ro2, rb2⟩
      obtain ⟨q2, k2, rfl⟩ := ro2.slice
      have RN2 := ro2.nil
      have RY2 := hid (ro2.bytes B2.out (by have := L2.out; omega))
      have Q2 := hid (HJ.out.on rb2)
      obtain ⟨c0, c1, c2, c3, c4, c5, c6, c7⟩ := Q2.out.box
      dsimp only at c0 c1 c2 c3 c4 c5 c6 c7
      clear ro2 rb2
      go_wp2_with (first | (at_builtin; refine append_bytes rfl _ _ rfl rfl Q2.out.own Q2.out.bel Q2.out.size q2 _ k2 rfl RN2.out rfl RY2.out (by have := Q2.out.few; have := L2.out; omega) ?_; intro v2 z2 ho hb hs; obtain ⟨nn2, qq2, kk2, yy2, hy2, hn2, rfl, O2⟩ := Q2.out.mkN ho hb L2.out; clear ho hb hs Q2 RY2 RN2 c0 c1 c2 c3 c4 c5 c6 c7; obtain ⟨c0, c1, c2, c3, c4, c5, c6, c7⟩ := O2.out.box; dsimp only at c0 c1 c2 c3 c4 c5 c6 c7))
      go_wp2
      go_roundw
      case rel =>
        refine ⟨j + 1, nn2, qq2, kk2, by omega, by simp, rfl, hid ?_⟩
        have h9 := O2.out
        rw [hy2, ← hd2.out] at h9
        rw [show 6 + 5 * (j + 1) = 6 + 5 * j + 5 by omega]
        exact h9
      case measure => simp [intOf]; omega
    · obtain rfl : j = tags.length := by omega
      rw [List.take_length] at HJ
      go_wp2_with fail
      refine (PA.out _).mono ?_
      rintro e3 w3 ⟨r3, rfl, ro3, rb3⟩
      obtain ⟨q3, k3, rfl⟩ := ro3.slice
      have RN3 := ro3.nil
      have RY3 := hid (ro3.bytes BA.out (by have := LA.out; omega))
      have Q3 := hid (HJ.out.on rb3)
      obtain ⟨c0, c1, c2, c3, c4, c5, c6, c7⟩ := Q3.out.box
      dsimp only at c0 c1 c2 c3 c4 c5 c6 c7
      clear ro3 rb3
      go_wp2_with (first | (at_builtin; refine append_bytes rfl _ _ rfl rfl Q3.out.own Q3.out.bel Q3.out.size q3 _ k3 rfl RN3.out rfl RY3.out (by have := Q3.out.few; have := LA.out; omega) ?_; intro v3 z3 ho hb hs; obtain ⟨nn3, qq3, kk3, yy3, hy3, hn3, rfl, O3⟩ := Q3.out.mkN ho hb LA.out; clear ho hb hs Q3 RY3 RN3 c0 c1 c2 c3 c4 c5 c6 c7; obtain ⟨c0, c1, c2, c3, c4, c5, c6, c7⟩ := O3.out.box; dsimp only at c0 c1 c2 c3 c4 c5 c6 c7))
      go_wp2
      go_ret
      exact O3.out.gives' (ys := 14 :: (zt ++ za)) (by rw [hy3, hy1, ← HEt.out]; simp)

set_option maxRecDepth 100000 in
set_option maxHeartbeats 6400000 in
theorem enc5 (x : Ix) (l e : Il) (m : Nat) (w : World) (hx : May x) (hk : kindP x.op = 5) (ht : TagsAt w.heap.size w x.ta x.tags) (hl : ListAt w.heap.size w x.la x.ln l) (he : ListAt w.heap.size w x.ea x.en e) (hml : MayT l) (hme : MayT e)
    (hcl : l.count < m) (hce : e.count < m) (hfl : (encL l).length ≤ 90000) (hfe : (encL e).length ≤ 90000) (LH : PutH m) :
    Calls Tryd.prog 70 #[.agg x.vals] w (Gives w (encOne x l e)) := by
  obtain ⟨op, res, a, b, n, tags, ta, tc, la, ln, lc, ea, en, ec⟩ := x
  have hnm := ((lawful_iff _).1 hx.law).1
  have hrs := ((lawful_iff _).1 hx.law).2.1
  obtain ⟨ha, hb, hn, htg, hfw⟩ : (0 ≤ a ∧ a < 4294967296) ∧ (0 ≤ b ∧ b < 4294967296) ∧ (-2147483648 ≤ n ∧ n < 2147483648) ∧ (∀ z ∈ tags, 0 ≤ z ∧ z < 4294967296) ∧ tags.length ≤ 16384 := ⟨hx.a, hx.b, hx.n, hx.tags, hx.few⟩
  have hrg := name_range hnm
  dsimp only at hk ht hl he hrg hrs
  obtain ⟨o0, o1, -, -⟩ := hrg
  have hL : listsP op = false := by rw [lists_kind, hk]; rfl
  have hW : whichP op = false := by rw [which_kind, hk]; rfl
  have hS : storedP op = true := by rw [stored_kind, hk]; rfl
  have n17 : ¬ op = 17 := by rintro rfl; revert hk; decide
  have n14 : ¬ op = 14 := by rintro rfl; revert hk; decide
  have n65 : ¬ op = 65 := by rintro rfl; revert hk; decide
  have n63 : ¬ op = 63 := by rintro rfl; revert hk; decide
  have n64 : ¬ op = 64 := by rintro rfl; revert hk; decide
  have m63 : (op == 63) = false := by simp [n63]
  have m64 : (op == 64) = false := by simp [n64]
  have FA := hid (fun W => refAlign_any (op) W)
  have FL := hid (fun W => refLists_any (op) W)
  have FW := hid (fun W => refWhich_any (op) W)
  rw [hS] at FA
  rw [hL] at FL
  rw [hW] at FW
  obtain ⟨al, hal⟩ : ∃ al, alignP (op) = al := ⟨_, rfl⟩
  rw [hal] at FA
  have O0 := hid (own_op w ⟨op, res, a, b, n, tags, ta, tc, la, ln, lc, ea, en, ec⟩ (op))
  have hE : encOne (⟨op, res, a, b, n, tags, ta, tc, la, ln, lc, ea, en, ec⟩ : Ix) l e = [op] ++ encU a ++ encU b := by unfold encOne; rw [encRest5 hk, if_neg (by dsimp only; rw [hk]; decide)]; simp
  rw [hE]
  have u8o : IntKind.u8.wrap (op) = op := by rw [IntKind.wrap_u8]; omega
  obtain ⟨za, hza⟩ : ∃ z, encU a = z := ⟨_, rfl⟩
  have PA := hid (fun W => refU_any a W ha.1 ha.2)
  have LA := hid (encU_lens a).1
  have BA := hid (encU_bytes a)
  rw [hza] at PA LA BA ⊢
  obtain ⟨zb, hzb⟩ : ∃ z, encU b = z := ⟨_, rfl⟩
  have PB := hid (fun W => refU_any b W hb.1 hb.2)
  have LB := hid (encU_lens b).1
  have BB := hid (encU_bytes b)
  rw [hzb] at PB LB BB ⊢
  clear hnm hL hW hS hal LH hcl hce hfl hfe hl he hml hme ht hx hk hrs hE
  simp only [Ix.vals]
  go_enter Tryd.func70, Tryd.ntmps70
  go_wp2_with (first | (go_at_call 102; refine (FA.out _).mono ?_; rintro e0 w0 ⟨rfl, rfl⟩) | (go_at_call 103; refine (FL.out _).mono ?_; rintro e0 w0 ⟨rfl, rfl⟩) | (go_at_call 104; refine (FW.out _).mono ?_; rintro e0 w0 ⟨rfl, rfl⟩))
  refine (PA.out _).mono ?_
  rintro e1 w1 ⟨r1, rfl, ro1, rb1⟩
  obtain ⟨q1, k1, rfl⟩ := ro1.slice
  have RN1 := ro1.nil
  have RY1 := hid (ro1.bytes BA.out (by have := LA.out; omega))
  have Q1 := hid (O0.out.on rb1)
  obtain ⟨c0, c1, c2, c3, c4, c5, c6, c7⟩ := Q1.out.box
  dsimp only at c0 c1 c2 c3 c4 c5 c6 c7
  clear ro1 rb1
  go_wp2_with (first | (at_builtin; refine append_bytes rfl _ _ rfl rfl Q1.out.own Q1.out.bel Q1.out.size q1 _ k1 rfl RN1.out rfl RY1.out (by have := Q1.out.few; have := LA.out; omega) ?_; intro v1 z1 ho hb hs; obtain ⟨nn1, qq1, kk1, yy1, hy1, hn1, rfl, O1⟩ := Q1.out.mkN ho hb LA.out; clear ho hb hs Q1 RY1 RN1 c0 c1 c2 c3 c4 c5 c6 c7; obtain ⟨c0, c1, c2, c3, c4, c5, c6, c7⟩ := O1.out.box; dsimp only at c0 c1 c2 c3 c4 c5 c6 c7))
  go_wp2_with fail
  refine (PB.out _).mono ?_
  rintro e2 w2 ⟨r2, rfl, ro2, rb2⟩
  obtain ⟨q2, k2, rfl⟩ := ro2.slice
  have RN2 := ro2.nil
  have RY2 := hid (ro2.bytes BB.out (by have := LB.out; omega))
  have Q2 := hid (O1.out.on rb2)
  obtain ⟨c0, c1, c2, c3, c4, c5, c6, c7⟩ := Q2.out.box
  dsimp only at c0 c1 c2 c3 c4 c5 c6 c7
  clear ro2 rb2
  go_wp2_with (first | (at_builtin; refine append_bytes rfl _ _ rfl rfl Q2.out.own Q2.out.bel Q2.out.size q2 _ k2 rfl RN2.out rfl RY2.out (by have := Q2.out.few; have := LB.out; omega) ?_; intro v2 z2 ho hb hs; obtain ⟨nn2, qq2, kk2, yy2, hy2, hn2, rfl, O2⟩ := Q2.out.mkN ho hb LB.out; clear ho hb hs Q2 RY2 RN2 c0 c1 c2 c3 c4 c5 c6 c7; obtain ⟨c0, c1, c2, c3, c4, c5, c6, c7⟩ := O2.out.box; dsimp only at c0 c1 c2 c3 c4 c5 c6 c7))
  go_wp2
  go_ret
  exact O2.out.gives' (ys := op :: (za ++ zb)) (by simp [*])

set_option maxRecDepth 100000 in
set_option maxHeartbeats 6400000 in
theorem enc6 (x : Ix) (l e : Il) (m : Nat) (w : World) (hx : May x) (hk : kindP x.op = 6) (ht : TagsAt w.heap.size w x.ta x.tags) (hl : ListAt w.heap.size w x.la x.ln l) (he : ListAt w.heap.size w x.ea x.en e) (hml : MayT l) (hme : MayT e)
    (hcl : l.count < m) (hce : e.count < m) (hfl : (encL l).length ≤ 90000) (hfe : (encL e).length ≤ 90000) (LH : PutH m) :
    Calls Tryd.prog 70 #[.agg x.vals] w (Gives w (encOne x l e)) := by
  obtain ⟨op, res, a, b, n, tags, ta, tc, la, ln, lc, ea, en, ec⟩ := x
  have hnm := ((lawful_iff _).1 hx.law).1
  have hrs := ((lawful_iff _).1 hx.law).2.1
  obtain ⟨ha, hb, hn, htg, hfw⟩ : (0 ≤ a ∧ a < 4294967296) ∧ (0 ≤ b ∧ b < 4294967296) ∧ (-2147483648 ≤ n ∧ n < 2147483648) ∧ (∀ z ∈ tags, 0 ≤ z ∧ z < 4294967296) ∧ tags.length ≤ 16384 := ⟨hx.a, hx.b, hx.n, hx.tags, hx.few⟩
  have hrg := name_range hnm
  dsimp only at hk ht hl he hrg hrs
  obtain ⟨o0, o1, -, -⟩ := hrg
  have hL : listsP op = false := by rw [lists_kind, hk]; rfl
  have hW : whichP op = false := by rw [which_kind, hk]; rfl
  have hS : storedP op = false := by rw [stored_kind, hk]; rfl
  have n17 : ¬ op = 17 := by rintro rfl; revert hk; decide
  have n14 : ¬ op = 14 := by rintro rfl; revert hk; decide
  have n65 : ¬ op = 65 := by rintro rfl; revert hk; decide
  have cc : op = 63 ∨ op = 64 := by unfold kindP at hk; (repeat' split at hk) <;> omega
  have FA := hid (fun W => refAlign_any (op) W)
  have FL := hid (fun W => refLists_any (op) W)
  have FW := hid (fun W => refWhich_any (op) W)
  rw [hS] at FA
  rw [hL] at FL
  rw [hW] at FW
  obtain ⟨al, hal⟩ : ∃ al, alignP (op) = al := ⟨_, rfl⟩
  rw [hal] at FA
  have O0 := hid (own_op w ⟨op, res, a, b, n, tags, ta, tc, la, ln, lc, ea, en, ec⟩ (op))
  have hE : encOne (⟨op, res, a, b, n, tags, ta, tc, la, ln, lc, ea, en, ec⟩ : Ix) l e = [op] ++ [0] := by unfold encOne; rw [encRest6 hk, if_neg (by dsimp only; rw [hk]; decide)]; simp
  rw [hE]
  have u8o : IntKind.u8.wrap (op) = op := by rw [IntKind.wrap_u8]; omega
  clear hnm hL hW hS hal LH hcl hce hfl hfe hl he hml hme ht hx hk hrs hE
  simp only [Ix.vals]
  go_enter Tryd.func70, Tryd.ntmps70
  rcases cc with rfl | rfl
  · go_wp2_with (first | (go_at_call 102; refine (FA.out _).mono ?_; rintro e0 wA ⟨rfl, hwA⟩; have OA := hid (hwA ▸ O0.out); clear hwA; obtain ⟨c0, c1, c2, c3, c4, c5, c6, c7⟩ := OA.out.box; dsimp only at c0 c1 c2 c3 c4 c5 c6 c7) | (go_at_call 103; refine (FL.out _).mono ?_; rintro e0 w0 ⟨rfl, rfl⟩) | (go_at_call 104; refine (FW.out _).mono ?_; rintro e0 w0 ⟨rfl, rfl⟩) | (at_builtin; refine append_byte rfl _ _ rfl (0) rfl OA.out.own OA.out.bel OA.out.size ?_ (by have := OA.out.few; omega) ?_; rfl; intro v9 z9 ho hb hs; obtain ⟨nbO1, qbO1, kbO1, ybO1, hybO1, hnbO1, rfl, O1⟩ := OA.out.mkN (ys := [0]) (M := 1) ho hb (by simp); clear ho hb hs))
    go_wp2
    go_ret
    exact O1.out.gives' (ys := [63, 0]) (by simp [*])
  · go_wp2_with (first | (go_at_call 102; refine (FA.out _).mono ?_; rintro e0 wA ⟨rfl, hwA⟩; have OA := hid (hwA ▸ O0.out); clear hwA; obtain ⟨c0, c1, c2, c3, c4, c5, c6, c7⟩ := OA.out.box; dsimp only at c0 c1 c2 c3 c4 c5 c6 c7) | (go_at_call 103; refine (FL.out _).mono ?_; rintro e0 w0 ⟨rfl, rfl⟩) | (go_at_call 104; refine (FW.out _).mono ?_; rintro e0 w0 ⟨rfl, rfl⟩) | (at_builtin; refine append_byte rfl _ _ rfl (0) rfl OA.out.own OA.out.bel OA.out.size ?_ (by have := OA.out.few; omega) ?_; rfl; intro v9 z9 ho hb hs; obtain ⟨nbO1, qbO1, kbO1, ybO1, hybO1, hnbO1, rfl, O1⟩ := OA.out.mkN (ys := [0]) (M := 1) ho hb (by simp); clear ho hb hs))
    go_wp2
    go_ret
    exact O1.out.gives' (ys := [64, 0]) (by simp [*])

set_option maxRecDepth 100000 in
set_option maxHeartbeats 6400000 in
theorem enc7 (x : Ix) (l e : Il) (m : Nat) (w : World) (hx : May x) (hk : kindP x.op = 7) (ht : TagsAt w.heap.size w x.ta x.tags) (hl : ListAt w.heap.size w x.la x.ln l) (he : ListAt w.heap.size w x.ea x.en e) (hml : MayT l) (hme : MayT e)
    (hcl : l.count < m) (hce : e.count < m) (hfl : (encL l).length ≤ 90000) (hfe : (encL e).length ≤ 90000) (LH : PutH m) :
    Calls Tryd.prog 70 #[.agg x.vals] w (Gives w (encOne x l e)) := by
  obtain ⟨op, res, a, b, n, tags, ta, tc, la, ln, lc, ea, en, ec⟩ := x
  have hnm := ((lawful_iff _).1 hx.law).1
  have hrs := ((lawful_iff _).1 hx.law).2.1
  obtain ⟨ha, hb, hn, htg, hfw⟩ : (0 ≤ a ∧ a < 4294967296) ∧ (0 ≤ b ∧ b < 4294967296) ∧ (-2147483648 ≤ n ∧ n < 2147483648) ∧ (∀ z ∈ tags, 0 ≤ z ∧ z < 4294967296) ∧ tags.length ≤ 16384 := ⟨hx.a, hx.b, hx.n, hx.tags, hx.few⟩
  have hrg := name_range hnm
  dsimp only at hk ht hl he hrg hrs
  obtain ⟨o0, o1, -, -⟩ := hrg
  have hL : listsP op = false := by rw [lists_kind, hk]; rfl
  have hW : whichP op = false := by rw [which_kind, hk]; rfl
  have hS : storedP op = false := by rw [stored_kind, hk]; rfl
  obtain rfl : op = 65 := seven_kind.2 hk
  have FA := hid (fun W => refAlign_any (65) W)
  have FL := hid (fun W => refLists_any (65) W)
  have FW := hid (fun W => refWhich_any (65) W)
  rw [hS] at FA
  rw [hL] at FL
  rw [hW] at FW
  obtain ⟨al, hal⟩ : ∃ al, alignP (65) = al := ⟨_, rfl⟩
  rw [hal] at FA
  have O0 := hid (own_op w ⟨65, res, a, b, n, tags, ta, tc, la, ln, lc, ea, en, ec⟩ (65))
  have hE : encOne (⟨65, res, a, b, n, tags, ta, tc, la, ln, lc, ea, en, ec⟩ : Ix) l e = [65] ++ encS n := by unfold encOne; rw [encRest7 hk, if_neg (by dsimp only; rw [hk]; decide)]; simp
  rw [hE]
  obtain ⟨zn, hzn⟩ : ∃ z, encS n = z := ⟨_, rfl⟩
  have PN := hid (fun W => refS_any n W hn.1 hn.2)
  have LN := hid (encS_lens n).1
  have BN := hid (encS_bytes n)
  rw [hzn] at PN LN BN ⊢
  clear hnm hL hW hS hal LH hcl hce hfl hfe hl he hml hme ht hx hk hrs hE
  simp only [Ix.vals]
  go_enter Tryd.func70, Tryd.ntmps70
  go_wp2_with (first | (go_at_call 102; refine (FA.out _).mono ?_; rintro e0 w0 ⟨rfl, rfl⟩) | (go_at_call 103; refine (FL.out _).mono ?_; rintro e0 w0 ⟨rfl, rfl⟩) | (go_at_call 104; refine (FW.out _).mono ?_; rintro e0 w0 ⟨rfl, rfl⟩))
  refine (PN.out _).mono ?_
  rintro e1 w1 ⟨r1, rfl, ro1, rb1⟩
  obtain ⟨q1, k1, rfl⟩ := ro1.slice
  have RN1 := ro1.nil
  have RY1 := hid (ro1.bytes BN.out (by have := LN.out; omega))
  have Q1 := hid (O0.out.on rb1)
  obtain ⟨c0, c1, c2, c3, c4, c5, c6, c7⟩ := Q1.out.box
  dsimp only at c0 c1 c2 c3 c4 c5 c6 c7
  clear ro1 rb1
  go_wp2_with (first | (at_builtin; refine append_bytes rfl _ _ rfl rfl Q1.out.own Q1.out.bel Q1.out.size q1 _ k1 rfl RN1.out rfl RY1.out (by have := Q1.out.few; have := LN.out; omega) ?_; intro v1 z1 ho hb hs; obtain ⟨nn1, qq1, kk1, yy1, hy1, hn1, rfl, O1⟩ := Q1.out.mkN ho hb LN.out; clear ho hb hs Q1 RY1 RN1 c0 c1 c2 c3 c4 c5 c6 c7; obtain ⟨c0, c1, c2, c3, c4, c5, c6, c7⟩ := O1.out.box; dsimp only at c0 c1 c2 c3 c4 c5 c6 c7))
  go_wp2
  go_ret
  exact O1.out.gives' (ys := 65 :: zn) (by simp [*])
end Go.Proofs.YtlfflomeaplidaaDoor.Body

namespace Go.Proofs.YtlfflomeaplidaaDoor.Body
set_option linter.unusedVariables false
open Go.RowKit Go.Proofs.YtlfflomeaplidaaDoor.Instr Go.Proofs.YtlfflomeaplidaaDoor.Leb

theorem one06_any (x : Ix) (l e : Il) (m : Nat) (w : World) (hx : May x) (ht : TagsAt w.heap.size w x.ta x.tags) (hl : ListAt w.heap.size w x.la x.ln l) (he : ListAt w.heap.size w x.ea x.en e) (hml : MayT l) (hme : MayT e)
    (hcl : l.count < m) (hce : e.count < m) (hfl : (encL l).length ≤ 90000) (hfe : (encL e).length ≤ 90000) (LH : PutH m) :
    Calls Tryd.prog 70 #[.agg x.vals] w (Gives w (encOne x l e)) := by
  rcases kind_cases x.op with h | h | h | h | h | h | h | h
  · exact enc0 x l e m w hx h ht hl he hml hme hcl hce hfl hfe LH
  · exact enc1 x l e m w hx h ht hl he hml hme hcl hce hfl hfe LH
  · exact enc2 x l e m w hx h ht hl he hml hme hcl hce hfl hfe LH
  · exact enc3 x l e m w hx h ht hl he hml hme hcl hce hfl hfe LH
  · exact enc4 x l e m w hx h ht hl he hml hme hcl hce hfl hfe LH
  · exact enc5 x l e m w hx h ht hl he hml hme hcl hce hfl hfe LH
  · exact enc6 x l e m w hx h ht hl he hml hme hcl hce hfl hfe LH
  · exact enc7 x l e m w hx h ht hl he hml hme hcl hce hfl hfe LH
theorem len_le_enc : ∀ t : Il, t.len ≤ (encL t).length
  | .nil => by simp [Il.len]
  | .cons x l e r => by
    have h1 := len_le_enc r
    have h2 : 1 ≤ (encOne x l e).length := by unfold encOne; simp
    rw [encL_cons, List.length_append]
    simp only [Il.len]
    omega
theorem nil_of_len {t : Il} (h : t.len = 0) : t = .nil := by
  cases t with
  | nil => rfl
  | cons x l e r => simp [Il.len] at h
theorem sub_len {x : Ix} {l e : Il} (hx : May x) (hl : l.len = x.ln) (he : e.len = x.en) : (encL l).length ≤ (encOne x l e).length ∧ (encL e).length ≤ (encOne x l e).length := by
  by_cases hk : kindP x.op = 1
  · have h := encOne_len (l := l) (e := e) hk (fun h0 => nil_of_len (by omega))
    omega
  · have law := (lawful_iff x).1 hx.law
    have h1 : l = .nil := nil_of_len (by have := law.2.2.2.2.2.2.2.1; omega)
    have h2 : e = .nil := nil_of_len (by have := law.2.2.2.2.2.2.2.2; omega)
    rw [h1, h2]
    simp [encL]
theorem own_gives {w W : World} {v : Value} {ys : List Int} (h : Own w.heap.size W v ys) (hb : Below w.heap.size w W) : Gives w ys (.returned v) W := ⟨v, rfl, h, hb⟩
set_option maxRecDepth 100000 in
set_option maxHeartbeats 3200000 in
theorem list06 : ∀ m, PutH m := by
  intro m
  induction m with
  | zero => intro t a n c w hm; omega
  | succ m ih =>
    intro t a len c w hm hL hM hf
    obtain ⟨hL1, hL2⟩ := hL
    rcases hL2 with rfl | ⟨b, off, rfl, hi⟩
    · have h0 : len = 0 := hL1.symm
      subst h0
      clear ih hm hL1 hM hf
      go_enter Tryd.func24, Tryd.ntmps24
      go_wp2
      go_loopw [3, 4] (fun so si wr => so = .slice none 0 0 ∧ si = .int .i64 0 ∧ wr = w) (fun _ _ _ => 0)
      case atStart => exact ⟨rfl, rfl, rfl⟩
      case round =>
        obtain ⟨rfl, rfl, rfl⟩ := hrel
        go_wp2
        go_ret
        exact own_gives (World.ownsRow_nil _ _ _ _) (Below.refl _ _)
    · have hlen : len ≤ 90000 := by have := len_le_enc t; omega
      have HM := hid hm
      have HF := hid hf
      have HL1 := hid hL1
      have HI := hid hi
      have HMAY := hid hM
      have HIH := hid ih
      clear hm hf hL1 hi hM ih
      go_enter Tryd.func24, Tryd.ntmps24
      go_wp2
      go_loopw [3, 4] (fun so si wr => ∃ (k n3 k3 : Nat) (q3 : Option Addr) (ys : List Int) (rest : Il), si = .int .i64 k ∧ so = .slice q3 n3 k3 ∧ k ≤ len ∧ Hid (k + rest.len = len ∧ rest.count ≤ t.count ∧ MayT rest ∧ ys ++ encL rest = encL t) ∧ Hid (Items w.heap.size w b (off + k * 8) rest) ∧ Hid (Own w.heap.size wr (.slice q3 n3 k3) ys) ∧ Below w.heap.size w wr)
        (fun _ si _ => len - (intOf si).toNat)
      case atStart => exact ⟨0, 0, 0, none, [], t, rfl, rfl, Nat.zero_le _, ⟨by have := HL1.out; omega, Nat.le_refl _, HMAY.out, rfl⟩, by simpa using HI, World.ownsRow_nil _ _ _ _, Below.refl _ _⟩
      case round =>
        obtain ⟨k, n3, k3, q3, ys, rest, rfl, rfl, hk, HR, HIR, HO, hb⟩ := hrel
        cases rest with
        | nil =>
          obtain ⟨r1, _, _, r4⟩ := HR.out
          have hkl : k = len := by simpa [Il.len] using r1
          have HE : Hid (ys = encL t) := by show _ = _; rw [← r4]; simp [encL]
          clear r4
          subst hkl
          rw [HE.out] at HO
          go_wp2
          go_ret
          exact own_gives HO.out hb
        | cons x tl te r =>
          have hir := Items.below hb HIR.out
          obtain ⟨hbn, hxk, ⟨c0, c1, c2, c3, c4, c5, c6, c7⟩, _⟩ := hir
          obtain ⟨_, _, _, ht, hLl, hLe, hir'⟩ := HIR.out
          obtain ⟨r1, r2, r3, r4⟩ := HR.out
          obtain ⟨mx, mfl, mfe, mtl, mte, mr⟩ := r3
          have hlt : k < len := by simp only [Il.len] at r1; omega
          have hcnt : tl.count < m ∧ te.count < m := by have := HM.out; simp only [Il.count] at r2; omega
          rw [encL_cons] at r4
          have hone : ys.length + (encOne x tl te).length ≤ 90000 := by
            have h1 := congrArg List.length r4
            have h2 := HF.out
            simp only [List.length_append] at h1
            omega
          have hsub := sub_len mx mfl mfe
          have PO := hid (fun (W : World) (hb' : Below w.heap.size w W) => one06_any x tl te m W mx ((ht.below hb').more hb'.size) (ListAt.on hLl hb') (ListAt.on hLe hb') mtl mte hcnt.1 hcnt.2 (by omega) (by omega) HIH.out)
          have HNX : Hid (Items w.heap.size w b (off + (k + 1) * 8) r) := by
            rw [show off + (k + 1) * 8 = off + k * 8 + 8 by omega]
            exact hid hir'
          have HR2 : Hid ((k + 1) + r.len = len ∧ r.count ≤ t.count ∧ MayT r ∧ (ys ++ encOne x tl te) ++ encL r = encL t) := hid ⟨by simp only [Il.len] at r1; omega, by simp only [Il.count] at r2; omega, mr, by rw [List.append_assoc]; exact r4⟩
          have BE : Hid (∀ z ∈ encOne x tl te, 0 ≤ z ∧ z < 256) := hid (fun z hz => encL_bytesC t HMAY.out z (by rw [← r4]; simp [hz]))
          obtain ⟨eo, heo⟩ : ∃ r, encOne x tl te = r := ⟨_, rfl⟩
          rw [heo] at PO HR2 BE hone
          have HN := hid hone
          clear r1 r2 r4 hcnt hone hsub heo mx mfl mfe mtl mte mr ht hLl hLe hxk
          unfold Ix.vals at PO
          go_wp2_with fail
          refine (PO.out _ hb).mono ?_
          clear PO
          rintro e3 w3 ⟨r3, rfl, ro3, rb3⟩
          obtain ⟨q4, k4, rfl⟩ := ro3.slice
          have RN := ro3.nil
          have RY := hid (ro3.bytes BE.out (by have := HN.out; omega))
          have O3 := hid (HO.out.below rb3)
          have hb3 := thenB hb rb3
          clear ro3
          go_wp2_with (first | (at_builtin; refine append_bytes rfl _ _ rfl rfl O3.out hb3 hb3.size q4 _ k4 rfl RN.out rfl RY.out (by have := HN.out; omega) ?_; intro v5 w5 ho5 hb5 hs5; obtain ⟨q5, k5, rfl⟩ := ho5.sliceN (n := ys.length + eo.length) (by rw [List.length_append])))
          obtain ⟨n5, hn5⟩ : ∃ n, ys.length + eo.length = n := ⟨_, rfl⟩
          rw [hn5] at ho5
          have HO5 := hid ho5
          clear ho5
          go_roundw
          case rel => exact ⟨k + 1, n5, k5, q5, ys ++ eo, r, by simp, by simp [hn5], by omega, HR2, HNX, HO5, hb5⟩
          case measure => simp [intOf]; omega
theorem own_lit1 (B : Nat) (W : World) (hB : B ≤ W.heap.size) (z : Int) : Own B (W.alloc (.cells #[.int .u8 z] 5)) (.slice (some ⟨W.heap.size, 0, none⟩) 1 1) [z] :=
  World.ownsRow_lit (base := B) (e := 5) (size := 1) W #[.int .u8 z] 1 (by simpa using hB) (by decide) rfl
set_option maxRecDepth 100000 in
set_option maxHeartbeats 1600000 in
theorem Put06_any (t : Il) (a : Option Addr) (len c : Nat) (w : World) (hL : ListAt w.heap.size w a len t) (hn : len ≤ 140737488351232) (hc : t.count ≤ 4611686018427387900) (hx : (encL t).length ≤ 90000) :
    Calls Tryd.prog 9 #[.slice a len c] w (PutP w (putB t) (checkP t)) := by
  have CK := hid (checkDoc_any t a len c w hL hn hc)
  by_cases h0 : checkP t = 0
  · have hm := mayT_list hL h0
    have LS := hid (fun (W : World) (hb : Below w.heap.size w W) => list06 (t.count + 1) t a len c W (Nat.lt_succ_self _) (hL.on hb) hm hx)
    unfold putB
    rw [if_pos h0]
    rw [h0] at CK ⊢
    unfold encP
    obtain ⟨zl, hzl⟩ : ∃ z, encL t = z := ⟨_, rfl⟩
    rw [hzl] at LS hx ⊢
    obtain ⟨m1, hm1⟩ : ∃ n, zl.length = n := ⟨_, rfl⟩
    have HX := hid hx
    have HM1 := hid hm1
    clear hzl hm h0 hx hc hn hL hm1
    go_enter Tryd.func9, Tryd.ntmps9
    go_wp2_with fail
    refine CK.out.mono ?_
    clear CK
    rintro e w1 ⟨rfl, hb1⟩
    go_wp2_with fail
    refine (LS.out _ hb1).mono ?_
    clear LS
    rintro e w2 ⟨v, rfl, ho, hb2⟩
    obtain ⟨q2, k2, rfl⟩ := ho.sliceN HM1.out
    have O2 := hid (ho.mono (base' := w.heap.size) hb1.size)
    have B2 := thenB hb1 hb2
    clear ho hb2
    go_wp2_with (first | (at_builtin; refine append_byte rfl _ _ rfl 11 rfl O2.out B2 B2.size rfl (by have := HX.out; omega) ?_; intro v3 w3 ho3 hb3 hs3; obtain ⟨q3, k3, rfl⟩ := ho3.sliceN (n := m1 + 1) (by rw [List.length_append, HM1.out]; rfl); have HO3 := hid ho3; clear ho3))
    go_ret2
    exact ⟨_, rfl, HO3.out, hb3⟩
  · unfold putB
    rw [if_neg h0]
    obtain ⟨q, hq⟩ : ∃ q, checkP t = q := ⟨_, rfl⟩
    rw [hq] at CK h0 ⊢
    have h1 : (q != 0) = true := by simp [h0]
    clear hq hx hc hn hL
    go_enter Tryd.func9, Tryd.ntmps9
    go_wp2_with fail
    refine CK.out.mono ?_
    clear CK
    rintro e w1 ⟨rfl, hb1⟩
    go_wp2
    go_ret2
    exact ⟨_, rfl, ⟨rfl, .inl ⟨rfl, rfl⟩⟩, hb1⟩
set_option maxRecDepth 100000 in
set_option maxHeartbeats 3200000 in
theorem PutCode06_any (n : Int) (t : Il) (a : Option Addr) (len c : Nat) (w : World) (hL : ListAt w.heap.size w a len t) (hn : len ≤ 140737488351232) (hc : t.count ≤ 4611686018427387900) (hx : (encL t).length ≤ 90000) :
    Calls Tryd.prog 11 #[.agg #[.int .i64 n, .slice a len c]] w (PutP w (putC n t) (checkC n t)) := by
  by_cases hr : n < 0 ∨ 50000 < n
  · have hce : checkC n t = 2 := if_pos hr
    have hpe : putC n t = [] := by unfold putC; rw [hce, if_neg (by decide)]
    rw [hce, hpe]
    clear hce hpe hL hn hc hx
    rcases hr with hr | hr
    · go_enter Tryd.func11, Tryd.ntmps11
      go_wp2
      go_ret2
      exact ⟨_, rfl, ⟨rfl, .inl ⟨rfl, rfl⟩⟩, thenA (Below.refl _ _) _⟩
    · have hr0 : ¬ n < 0 := by omega
      go_enter Tryd.func11, Tryd.ntmps11
      go_wp2
      go_ret2
      exact ⟨_, rfl, ⟨rfl, .inl ⟨rfl, rfl⟩⟩, thenA (Below.refl _ _) _⟩
  · have hr0 : 0 ≤ n := by omega
    have hr1 : n ≤ 50000 := by omega
    have hr2 : ¬ n < 0 := by omega
    have hr3 : ¬ 50000 < n := by omega
    have hce : checkC n t = checkP t := if_neg hr
    have hpe : putC n t = if checkP t = 0 then codeL n t else [] := by unfold putC; rw [hce]
    rw [hce, hpe]
    have hb0 := alloc_below' w (.cells #[.int .i64 n, .slice a len c] 24)
    have PC := hid (Put06_any t a len c _ (hL.on hb0) hn hc hx)
    obtain ⟨x0, x1⟩ := box_at w n a len c 24
    have X0 := hid x0
    have HB0 := hid hb0
    by_cases h0 : checkP t = 0
    · have hm := mayT_list hL h0
      rw [if_pos h0]
      have hput : putB t = encP t := by unfold putB; rw [if_pos h0]
      rw [hput, h0] at PC
      rw [h0]
      have hlen : (encP t).length = (encL t).length + 1 := by simp [encP]
      have HBY := hid (encP_bytesC hm)
      obtain ⟨zs, hzs⟩ : ∃ zs, encP t = zs := ⟨_, rfl⟩
      have hcode : codeL n t = locL n ++ zs := by unfold codeL; rw [hzs]
      rw [hcode]
      rw [hzs] at PC hlen HBY
      obtain ⟨L, hLn⟩ : ∃ L, zs.length = L := ⟨_, rfl⟩
      have HL := hid hLn
      have HLEN := hid (show 1 ≤ L ∧ L ≤ 90001 by omega)
      clear hr hce hpe hput h0 hm hlen hzs hcode hLn hx hc hL x0 x1 hb0
      by_cases hz : n = 0
      · subst hz
        have hloc : locL 0 = [0] := rfl
        rw [hloc]
        clear hloc
        go_enter Tryd.func11, Tryd.ntmps11
        go_wp2_with fail
        refine PC.out.mono ?_
        clear PC
        rintro e w1 ⟨v, rfl, ho, hb1⟩
        obtain ⟨a1, c1, rfl⟩ := ho.sliceN (n := L) HL.out
        have HY1 := hid (ho.bytes HBY.out (by have := HL.out; have := HLEN.out; omega))
        have HN1 := ho.nil
        have x0 := keep hb1 X0.out
        have HB1 := HB0.out.trans (hb1.mono HB0.out.size)
        have OL := hid (own_lit1 w.heap.size w1 HB1.size 0)
        have HB2 := thenA HB1 (.cells #[.int .u8 0] 5)
        have HY2 := hid (HY1.out.alloc (.cells #[.int .u8 0] 5))
        clear ho hb1 X0 HB0 HBY HY1
        go_wp2_with (first | (at_builtin; refine append_bytes rfl _ _ rfl rfl OL.out HB2 HB2.size a1 _ c1 rfl HN1.out HL.out HY2.out (by have := HL.out; have := HLEN.out; simp; omega) ?_; intro v3 w3 ho3 hb3 hs3; obtain ⟨q3, k3, rfl⟩ := ho3.sliceN (n := 1 + L) (by rw [List.length_append, HL.out]; rfl); have HO3 := hid ho3; clear ho3))
        go_ret2
        exact ⟨_, rfl, HO3.out, hb3⟩
      · have hloc : locL n = [1] ++ encU n ++ [127] := by unfold locL; rw [if_neg hz]; rfl
        rw [hloc]
        have PU := hid (fun W => refU_any n W hr0 (by omega))
        have LU := hid (encU_lens n).1
        have BU := hid (encU_bytes n)
        obtain ⟨eu, heu⟩ : ∃ e, encU n = e := ⟨_, rfl⟩
        rw [heu] at PU LU BU ⊢
        obtain ⟨m2, hm2⟩ : ∃ m, eu.length = m := ⟨_, rfl⟩
        have HM2 := hid hm2
        have hw : IntKind.u32.wrap n = n := by rw [IntKind.wrap_u32]; omega
        clear hloc heu hm2
        go_enter Tryd.func11, Tryd.ntmps11
        go_wp2_with fail
        refine PC.out.mono ?_
        clear PC
        rintro e w1 ⟨v, rfl, ho, hb1⟩
        obtain ⟨a1, c1, rfl⟩ := ho.sliceN (n := L) HL.out
        have HY1 := hid (ho.bytes HBY.out (by have := HL.out; have := HLEN.out; omega))
        have HN1 := ho.nil
        have x0 := keep hb1 X0.out
        have HB1 := HB0.out.trans (hb1.mono HB0.out.size)
        have HB1' := hid HB1
        have OL := hid (own_lit1 w1.heap.size w1 (Nat.le_refl _) 1)
        have HB2 := hid (alloc_below' w1 (.cells #[.int .u8 1] 5))
        have x2 := keep (alloc_below' w1 (.cells #[.int .u8 1] 5)) x0
        clear ho hb1 X0 HB0 HBY HB1
        go_wp2_with fail
        refine (PU.out _).mono ?_
        clear PU
        rintro e w3 ⟨v3, rfl, ho3, hb3⟩
        obtain ⟨q3, k3, rfl⟩ := ho3.sliceN HM2.out
        have RN := ho3.nil
        have RY := hid (ho3.bytes BU.out (by have := LU.out; omega))
        have O3 := hid (OL.out.below hb3)
        have B3 := HB2.out.trans (hb3.mono HB2.out.size)
        clear ho3 hb3 OL
        go_wp2_with (first
          | (at_builtin; refine append_bytes rfl _ _ rfl rfl O3.out B3 B3.size q3 _ k3 rfl RN.out HM2.out RY.out (by have := LU.out; simp; omega) ?_; intro v4 w4 ho4 hb4 hs4; obtain ⟨q4, k4, rfl⟩ := ho4.sliceN (n := 1 + m2) (by rw [List.length_append, HM2.out]; rfl); have HO4 := hid ho4; clear ho4)
          | (at_builtin; refine append_byte rfl _ _ rfl 127 rfl HO4.out hb4 hb4.size rfl (by have := LU.out; simp; omega) ?_; intro v5 w5 ho5 hb5 hs5; obtain ⟨q5, k5, rfl⟩ := ho5.sliceN (n := 1 + m2 + 1) (by rw [List.length_append, List.length_append, HM2.out]; rfl); have HO5 := hid ho5; clear ho5)
          | (at_builtin; refine append_bytes rfl _ _ rfl rfl HO5.out hb5 hb5.size a1 _ c1 rfl HN1.out HL.out (HY1.out.below hb5) (by have := LU.out; have := HL.out; have := HLEN.out; simp; omega) ?_; intro v6 w6 ho6 hb6 hs6; obtain ⟨q6, k6, rfl⟩ := ho6.sliceN (n := 1 + m2 + 1 + L) (by simp [HM2.out, HL.out]; omega); have HO6 := hid ho6; clear ho6))
        go_ret2
        exact ⟨_, rfl, HO6.out.mono HB1'.out.size, thenB HB1'.out hb6⟩
    · rw [if_neg h0]
      have hput : putB t = [] := by unfold putB; rw [if_neg h0]
      rw [hput] at PC
      obtain ⟨q, hq⟩ : ∃ q, checkP t = q := ⟨_, rfl⟩
      rw [hq] at PC h0 ⊢
      have h1 : (q != 0) = true := by simp [h0]
      clear hr hce hpe hput hq hx hc hL x0 x1 hb0 X0
      go_enter Tryd.func11, Tryd.ntmps11
      go_wp2_with fail
      refine PC.out.mono ?_
      clear PC
      rintro e w1 ⟨v, rfl, ho, hb1⟩
      have HB1 := hid (HB0.out.trans (hb1.mono HB0.out.size))
      clear ho hb1
      go_wp2
      go_ret2
      exact ⟨_, rfl, ⟨rfl, .inl ⟨rfl, rfl⟩⟩, HB1.out⟩
end Go.Proofs.YtlfflomeaplidaaDoor.Body

namespace Go.Proofs.YtlfflomeaplidaaDoor.Body
set_option linter.unusedVariables false
open Go.RowKit Go.Proofs.YtlfflomeaplidaaDoor.Instr
section
variable {ops : Array Oper} {rest : List Oper} {o : Oper} {act : Act} {Q : Exit → Act → World → Prop}
theorem Bx.belowB {B : Nat} {w w' : World} {g : Nat} {x : Ix} (h : Bx g x w) (hb : Below B w w') (hg : g < B) : Bx g x w' :=
  ⟨⟨(hb.cell hg).trans h.at_.c0, (hb.cell hg).trans h.at_.c1, (hb.cell hg).trans h.at_.c2, (hb.cell hg).trans h.at_.c3, (hb.cell hg).trans h.at_.c4, (hb.cell hg).trans h.at_.c5, (hb.cell hg).trans h.at_.c6, (hb.cell hg).trans h.at_.c7⟩,
    (hb.frozen hg).trans h.f0, (hb.frozen hg).trans h.f1, (hb.frozen hg).trans h.f2, (hb.frozen hg).trans h.f3, (hb.frozen hg).trans h.f4, (hb.frozen hg).trans h.f5, (hb.frozen hg).trans h.f6, (hb.frozen hg).trans h.f7⟩
theorem Bx.setL {g : Nat} {x : Ix} {w : World} (h : Bx g x w) (a : Option Addr) (n c : Nat) : Bx g ⟨x.op, x.res, x.a, x.b, x.n, x.tags, x.ta, x.tc, a, n, c, x.ea, x.en, x.ec⟩ (w.setCell ⟨g, 6, none⟩ (.slice a n c)) := by
  obtain ⟨⟨c0, c1, c2, c3, c4, c5, c6, c7⟩, f0, f1, f2, f3, f4, f5, f6, f7⟩ := h
  refine ⟨⟨?_, ?_, ?_, ?_, ?_, ?_, ?_, ?_⟩, ?_, ?_, ?_, ?_, ?_, ?_, ?_, ?_⟩ <;> simp [go_sem, *]
theorem Bx.setE {g : Nat} {x : Ix} {w : World} (h : Bx g x w) (a : Option Addr) (n c : Nat) : Bx g ⟨x.op, x.res, x.a, x.b, x.n, x.tags, x.ta, x.tc, x.la, x.ln, x.lc, a, n, c⟩ (w.setCell ⟨g, 7, none⟩ (.slice a n c)) := by
  obtain ⟨⟨c0, c1, c2, c3, c4, c5, c6, c7⟩, f0, f1, f2, f3, f4, f5, f6, f7⟩ := h
  refine ⟨⟨?_, ?_, ?_, ?_, ?_, ?_, ?_, ?_⟩, ?_, ?_, ?_, ?_, ?_, ?_, ?_, ?_⟩ <;> simp [go_sem, *]
theorem alloc_bq (w : World) (o : Obj) : Below w.heap.size w (w.alloc o) := (Below.refl _ _).alloc (Nat.le_refl _) o
/-- The list that has been read so far, in memory of its own. -/
structure LOk (w : World) (out : Value) (t : Il) (W : World) : Prop where
  row : W.ownsRow w.heap.size 61 8 out t.len t.cells
  kids : t.kids W
  low : ∀ q ∈ t.foot, w.heap.size ≤ q
  apart : ∀ q ∈ t.foot, out.ownBlock ≠ some q
theorem LOk.start (w W : World) : LOk w (.slice none 0 0) .nil W := ⟨World.ownsRow_nil _ _ _ _, trivial, by simp [Il.foot], by simp [Il.foot]⟩
theorem LOk.touch {S : Nat → Prop} {w W W' : World} {out : Value} {t : Il} (h : LOk w out t W) (ht : Touch S W W') (hs : ∀ q, w.heap.size ≤ q → ¬ S q) : LOk w out t W' :=
  ⟨touch_row h.row ht (fun g hg => hs g (World.ownsRow.lt h.row g hg).1), kids_touch ht h.kids (fun q hq => hs q (h.low q hq)), h.low, h.apart⟩
theorem LOk.save {k : Nat} {w W W' : World} {out : Value} {t : Il} (h : LOk w out t W) (hs : Save k W W') (hk : k < w.heap.size) : LOk w out t W' :=
  h.touch (.of_save hs) (fun q hq e => by omega)
theorem LOk.value {w W : World} {out : Value} {t : Il} (h : LOk w out t W) : ∃ a c, out = .slice a t.len c ∧ ListAt W.heap.size W a t.len t ∧ ∀ q ∈ blkOf t.len a ++ t.foot, w.heap.size ≤ q := by
  obtain ⟨a, c, e1, e2, e3⟩ := list_of_row h.row h.kids
  refine ⟨a, c, e1, e2, fun q hq => ?_⟩
  rcases List.mem_append.1 hq with hq | hq
  · rw [e3] at hq
    split at hq
    · simp at hq
    · split at hq
      · rename_i g hg
        simp at hq
        subst hq
        exact (World.ownsRow.lt h.row q hg).1
      · simp at hq
  · exact h.low q hq
theorem LOk.snoc {w W W2 W3 : World} {out : Value} {t : Il} {y : Ix} {l f : Il} {g cap : Nat} {o : Obj} (h : LOk w out t W) (h2 : LOk w out t W2) (hk : (Il.cons y l f .nil).kids W2) (hlo : ∀ q ∈ (Il.cons y l f .nil).foot, W.heap.size ≤ q) (hw : w.heap.size ≤ W.heap.size)
    (hown : W3.ownsRow w.heap.size 61 8 (.slice (some ⟨g, 0, none⟩) (t.len + 1) cap) (t.len + 1) (t.cells ++ y.vals.toList)) (hg : (W2.alloc o).grownBy W3 out.ownBlock) (hat : out.ownBlock = some g ∨ g = (W2.alloc o).heap.size) :
    LOk w (.slice (some ⟨g, 0, none⟩) (t.len + 1) cap) (t.app (.cons y l f .nil)) W3 := by
  have ht : Touch (fun j => out.ownBlock = some j) W2 W3 := (Touch.of_below (thenA (Below.refl _ _) o)).trans (Touch.of_grown hg)
  have hne : ∀ q ∈ (Il.cons y l f .nil).foot, out.ownBlock ≠ some q := fun q hq e => by
    have h1 := hlo q hq
    have h3 := (World.ownsRow.lt h.row q e).2
    omega
  have hlt : ∀ q ∈ t.foot, q < W2.heap.size := kids_lt h2.kids
  have hlt2 : ∀ q ∈ (Il.cons y l f .nil).foot, q < W2.heap.size := kids_lt hk
  have hsz : (W2.alloc o).heap.size = W2.heap.size + 1 := by simp
  refine ⟨?_, kids_app _ _ (kids_touch ht h2.kids h2.apart) (kids_touch ht hk hne), ?_, ?_⟩
  · rw [app_len, cells_app]
    simp only [Il.len, Il.cells, List.append_nil, Nat.zero_add]
    exact hown
  · intro q hq
    rw [foot_app] at hq
    rcases List.mem_append.1 hq with hq | hq
    · exact h2.low q hq
    · exact Nat.le_trans hw (hlo q hq)
  · intro q hq e
    simp only [Value.ownBlock, Option.some.injEq] at e
    subst e
    rw [foot_app] at hq
    rcases hat with hat | hat
    · rcases List.mem_append.1 hq with hq | hq
      · exact h2.apart g hq hat
      · exact hne g hq hat
    · rcases List.mem_append.1 hq with hq | hq
      · have := hlt g hq; omega
      · have := hlt2 g hq; omega
section
variable {ops : Array Oper} {rest : List Oper} {o : Oper} {act : Act} {Q : Exit → Act → World → Prop}
/-- An instruction is appended. -/
theorem append_ins (hgd : o.guard = none) (s x : Operand) (ho : o.op = .call { callee := .builtin .append, args := #[s, x], argTypes := #[22, 22] })
    {base n : Nat} {wr : World} {v : Value} {xs : List Value} (y : Ix) (hs : act.eval s = v) (hown : wr.ownsRow base 61 8 v n xs) (hbase : base ≤ wr.heap.size)
    (hx : act.eval x = .slice (some ⟨wr.heap.size, 0, none⟩) 1 1) (hn : n ≤ 1000000)
    (h : ∀ g cap w', w'.ownsRow base 61 8 (.slice (some ⟨g, 0, none⟩) (n + 1) cap) (n + 1) (xs ++ y.vals.toList) → (wr.alloc (.cells y.vals 61)).grownBy w' v.ownBlock → (v.ownBlock = some g ∨ g = (wr.alloc (.cells y.vals 61)).heap.size) → wpList Tryd.prog ops Q rest (act.put o.dst (.slice (some ⟨g, 0, none⟩) (n + 1) cap)) w') :
    wpList Tryd.prog ops Q (o :: rest) act (wr.alloc (.cells y.vals 61)) := by
  obtain ⟨i0, hi, hz0, hz1, hz2⟩ := info_parts infoI
  refine wpList_append_lies _ hgd s x 22 ho base 61 i0 zeroI 8 104 Tryd.underlying22 hi hz0 hz1 hz2 rfl (by decide) v n xs hs (World.ownsRow.alloc hown _) ⟨wr.heap.size, 0, none⟩ 1 1 y.vals.toList hx rfl
    (World.news_of_block (heap_alloc_new wr _)) ?_ (by omega) ?_ ?_ ?_ _ rfl (fun g cap w' h1 h2 h3 _ => h g cap w' h1 h2 h3)
  · intro u hu
    simp only [Ix.vals, List.mem_cons, List.not_mem_nil, or_false] at hu
    rcases hu with rfl | rfl | rfl | rfl | rfl | rfl | rfl | rfl <;> rfl
  · unfold maxLen; omega
  · omega
  · simp; omega
end
end

theorem below_grown {w W W' : World} {out : Value} {n : Nat} {xs : List Value} {o : Obj} (h : W.ownsRow w.heap.size 61 8 out n xs) (hw : w.heap.size ≤ W.heap.size) (hg : (W.alloc o).grownBy W' out.ownBlock) : Below w.heap.size W W' :=
  ((Below.refl w.heap.size W).alloc hw o).grown hg (by simp; omega) (fun j hj => (World.ownsRow.lt h j hj).1)
theorem run_append_none (w : World) (base : Nat) (t ty e : TypeId) (i : TypeInfo) (size c : Nat) (ht : Tryd.prog.underlying t = some (.slice e)) (hi : Tryd.prog.info? e = some i)
    (v : Value) (n : Nat) (xs : List Value) (hown : w.ownsRow base e size v n xs) :
    (Builtin.append_ #[t, t] ty #[v, .slice none 0 c]).run Tryd.prog w = .ok v w := by
  rcases hown.2 with ⟨rfl, rfl⟩ | ⟨g, cap, cur, rfl, _, _, hnc, _⟩
  · simp [Builtin.append_, run_underlying ht, sizeOf, typeInfo, hi, Builtin.lenOf, Builtin.firstCells]
  · simp [Builtin.append_, run_underlying ht, sizeOf, typeInfo, hi, Builtin.lenOf, Builtin.firstCells, hnc, storeCells]
section
variable {ops : Array Oper} {rest : List Oper} {o : Oper} {act : Act} {Q : Exit → Act → World → Prop}
theorem append_none (hgd : o.guard = none) (s x : Operand) (t : TypeId) (ho : o.op = .call { callee := .builtin .append, args := #[s, x], argTypes := #[t, t] })
    {w : World} (base : Nat) (e : TypeId) (i : TypeInfo) (size c : Nat) (ht : Tryd.prog.underlying t = some (.slice e)) (hi : Tryd.prog.info? e = some i)
    (v : Value) (n : Nat) (xs : List Value) (hs : act.eval s = v) (hown : w.ownsRow base e size v n xs) (hx : act.eval x = .slice none 0 c)
    (h : wpList Tryd.prog ops Q rest (act.put o.dst v) w) : wpList Tryd.prog ops Q (o :: rest) act w := by
  refine wpList_plain hgd fun K hK => ?_
  have hrun := run_append_none w base t o.type e i size c ht hi v n xs hown
  unfold Oper.wp
  simp [execOp, ho, resolve, invoke, builtin, hs, hx, hrun, Result.andThen]
  exact hK _ _ h
theorem append_u32s (hgd : o.guard = none) (s x : Operand) (ho : o.op = .call { callee := .builtin .append, args := #[s, x], argTypes := #[59, 59] })
    {base : Nat} {w0 wr : World} {v : Value} {xs ys : List Int} (hs : act.eval s = v) (hown : OwnK 42 .u32 base wr v xs) (hb : Below base w0 wr) (hbase : base ≤ wr.heap.size)
    (a2 : Option Addr) (n c : Nat) (hx : act.eval x = .slice a2 n c) (hn : ys.length = n) (hy : TagsAt wr.heap.size wr a2 ys) (hl : xs.length + ys.length ≤ 8796093022208)
    (h : ∀ v' w', OwnK 42 .u32 base w' v' (xs ++ ys) → Below base w0 w' → base ≤ w'.heap.size → wpList Tryd.prog ops Q rest (act.put o.dst v') w') :
    wpList Tryd.prog ops Q (o :: rest) act wr := by
  obtain ⟨i0, hi, hz0, hz1, hz2⟩ := info_parts infoU32
  subst hn
  have fin : ∀ v' w', w'.ownsRow base 42 1 v' (xs.length + ys.length) (xs.map (Value.int .u32) ++ ys.map (Value.int .u32)) → wr.grownBy w' v.ownBlock → wpList Tryd.prog ops Q rest (act.put o.dst v') w' := by
    intro v' w' hown' hgrow
    refine h v' w' ?_ (hb.grown hgrow (by omega) (fun k hk => (World.ownsRow.lt hown k hk).1)) (by have := hgrow.size; omega)
    unfold OwnK; rw [List.length_append, List.map_append]; exact hown'
  rcases hy with h0 | ⟨b, off, rfl, hlt, hc⟩
  · subst h0
    cases a2 with
    | none => exact append_none hgd s x 59 ho base 42 i0 1 c Tryd.underlying59 hi v xs.length _ hs hown hx (h v wr (by simpa using hown) hb hbase)
    | some ad =>
      refine wpList_append_own _ hgd s x 59 ho base 42 i0 (.int .u32 0) 1 4 Tryd.underlying59 hi hz0 hz1 hz2 rfl (by decide) v xs.length _ hs hown ad 0 c [] hx rfl
        (by simp) (by simp) ?_ ?_ hbase (fun v' w' hown' hgrow _ => fin v' w' (by simpa using hown') hgrow)
      · unfold maxLen; simp at hl; omega
      · simp at hl; omega
  · refine wpList_append_own _ hgd s x 59 ho base 42 i0 (.int .u32 0) 1 4 Tryd.underlying59 hi hz0 hz1 hz2 rfl (by decide) v xs.length _ hs hown ⟨b, off, none⟩ ys.length c (ys.map (Value.int .u32)) hx (by simp)
      ?_ ?_ ?_ ?_ hbase (fun v' w' hown' hgrow _ => fin v' w' hown' hgrow)
    · intro j u hj
      have hjl : j < ys.length := by
        rcases Nat.lt_or_ge j ys.length with h | h
        · exact h
        · rw [List.getElem?_eq_none (by simpa using h)] at hj; cases hj
      have hplain : (⟨b, off, none⟩ : Addr).add j = ⟨b, off + j, none⟩ := by unfold Addr.add; split <;> simp_all
      rw [hplain, hc j hjl]
      rw [← hj, getD_lt hjl]; simp [hjl]
    · intro u hu
      obtain ⟨n, _, rfl⟩ := List.mem_map.1 hu
      rfl
    · unfold maxLen; omega
    · omega
end
section
variable {ops : Array Oper} {rest : List Oper} {o : Oper} {act : Act} {Q : Exit → Act → World → Prop}
theorem append_insG (hgd : o.guard = none) (s x : Operand) (ho : o.op = .call { callee := .builtin .append, args := #[s, x], argTypes := #[22, 22] })
    {base n : Nat} {wr : World} {v : Value} {xs : List Value} (y : Ix) (hs : act.eval s = v) (hown : wr.ownsRow base 61 8 v n xs) (hbase : base ≤ wr.heap.size) (g0 : Nat) (hg0 : g0 = wr.heap.size)
    (hx : act.eval x = .slice (some ⟨g0, 0, none⟩) 1 1) (hn : n ≤ 1000000)
    (h : ∀ g cap w', w'.ownsRow base 61 8 (.slice (some ⟨g, 0, none⟩) (n + 1) cap) (n + 1) (xs ++ y.vals.toList) → (wr.alloc (.cells y.vals 61)).grownBy w' v.ownBlock → (v.ownBlock = some g ∨ g = (wr.alloc (.cells y.vals 61)).heap.size) → wpList Tryd.prog ops Q rest (act.put o.dst (.slice (some ⟨g, 0, none⟩) (n + 1) cap)) w') :
    wpList Tryd.prog ops Q (o :: rest) act (wr.alloc (.cells y.vals 61)) := by
  subst hg0
  exact append_ins hgd s x ho y hs hown hbase hx hn h
end
/-- What CopyInstrs gives. -/
def GotCopy (w : World) (n : Nat) (t : Il) (e : Ending) (w' : World) : Prop :=
  ∃ (a : Option Addr) (c : Nat) (u : Il), e = .returned (.slice a n c) ∧ Below w.heap.size w w' ∧ ListAt w'.heap.size w' a n u ∧ (∀ q ∈ blkOf n a ++ u.foot, w.heap.size ≤ q) ∧ u.bare = t.bare
theorem own_none32 (w : World) : OwnK 42 .u32 w.heap.size (w.alloc (.cells #[] 42)) (.slice (some ⟨w.heap.size, 0, none⟩) 0 0) [] := World.ownsRow_made w #[] 0 (Nat.le_refl _) (by unfold maxLen; omega) rfl
/-- What is still to be copied. -/
def Left (w : World) (a : Option Addr) (k : Nat) (r : Il) : Prop := r = .nil ∨ ∃ b off, a = some ⟨b, off, none⟩ ∧ Items w.heap.size w b (off + k * 8) r

set_option maxRecDepth 100000 in
set_option maxHeartbeats 6400000 in
theorem copy_any : ∀ (m : Nat) (t : Il) (a : Option Addr) (n c : Nat) (w : World), t.weight ≤ m → m ≤ 100000 → ListAt w.heap.size w a n t →
    Calls Tryd.prog 7 #[.slice a n c] w (GotCopy w n t) := by
  intro m
  induction m using Nat.strongRecOn with
  | ind m ih =>
    intro t a n c w hm hm1 hL
    have hIH : ∀ (t' : Il) (a' : Option Addr) (n' c' : Nat) (w' : World), t'.weight < m → ListAt w'.heap.size w' a' n' t' → Calls Tryd.prog 7 #[.slice a' n' c'] w' (GotCopy w' n' t') :=
      fun t' a' n' c' w' h1 h2 => ih t'.weight h1 t' a' n' c' w' (Nat.le_refl _) (by omega) h2
    have IH := hid hIH
    have HW := hid hm
    have H0 := hid (show Left w a 0 t from by
      rcases hL.2 with h | ⟨b, off, h1, h2⟩
      · exact .inl h
      · exact .inr ⟨b, off, h1, by simpa using h2⟩)
    have HLN := hid hL.1
    clear hIH ih hm hL
    go_enter Tryd.func7, Tryd.ntmps7
    go_wp2
    go_loopw [3, 4, 5] (fun vo vi v5 wr => ∃ (k : Nat) (u r : Il), vi = .int .i64 k ∧ u.len = k ∧ r.len + k = n ∧ r.weight + k ≤ m ∧ Hid (LOk w vo u wr) ∧ Hid (Below w.heap.size w wr) ∧ Hid (Left w a k r) ∧ Hid (u.bare.app r.bare = t.bare)) (fun _ vi _ _ => n - (intOf vi).toNat)
    case atStart => exact ⟨0, .nil, t, rfl, rfl, HLN.out, HW.out, LOk.start w w, Below.refl _ _, H0, rfl⟩
    case round =>
      clear H0 HW HLN
      obtain ⟨k, u, r, rfl, hu, hr, hw, HO, HB, HI, HE⟩ := hrel
      cases r with
      | nil =>
        simp only [Il.len] at hr
        obtain rfl : k = n := by omega
        obtain ⟨a0, c0, rfl, hl, hlow⟩ := HO.out.value
        rw [hu] at hl hlow ⊢
        have HLL := hid hl
        have HLW := hid hlow
        have hE := HE.out
        simp only [Il.bare, app_nil] at hE
        have HE2 := hid hE
        clear hl hlow hE HO HI HE
        go_wp2
        go_ret
        exact ⟨a0, c0, u, rfl, HB.out, HLL.out, HLW.out, HE2.out⟩
      | cons x l e r =>
        simp only [Il.len] at hr
        simp only [Il.weight] at hw
        have hkn : (k : Int) < (n : Int) := by omega
        obtain ⟨b, off, rfl, hits⟩ : ∃ b off, a = some ⟨b, off, none⟩ ∧ Items w.heap.size w b (off + k * 8) (.cons x l e r) := by
          rcases HI.out with h | h
          · cases h
          · exact h
        obtain ⟨op, res, xa, xb, xn, tags, ta, tc, la, ln, lc, ea, en, ec⟩ := x
        obtain ⟨hb, hx, ⟨c0, c1, c2, c3, c4, c5, c6, c7⟩, htg, hl, he, hrr⟩ := hits
        have HX := hid hx
        dsimp only at c0 c1 c2 c3 c4 c5 c6 c7 htg hl he hw
        have cc : ∀ i v, w.cell? ⟨b, i, none⟩ = some v → wr.cell? ⟨b, i, none⟩ = some v := fun i v h => (HB.out.cell (p := ⟨b, i, none⟩) hb).trans h
        have c0 := cc _ _ c0
        have c1 := cc _ _ c1
        have c2 := cc _ _ c2
        have c3 := cc _ _ c3
        have c4 := cc _ _ c4
        have c5 := cc _ _ c5
        have c6 := cc _ _ c6
        have c7 := cc _ _ c7
        have HR2 := hid (show Left w (some ⟨b, off, none⟩) (k + 1) r from .inr ⟨b, off, rfl, by rw [show off + (k + 1) * 8 = off + k * 8 + 8 by omega]; exact hrr⟩)
        have C1 := hid (fun W (hb : Below w.heap.size w W) => IH.out l la ln lc W (by omega) (show ListAt W.heap.size W la ln l from ListAt.on (w := w) hl hb))
        have C2 := hid (fun W (hb : Below w.heap.size w W) => IH.out e ea en ec W (by omega) (show ListAt W.heap.size W ea en e from ListAt.on (w := w) he hb))
        have hTG : TagsAt w.heap.size w ta tags := htg
        have HTG := hid (fun W (hb : Below w.heap.size w W) => (hTG.below hb).more hb.size)
        have htl : tags.length ≤ 100000 := by omega
        have Y0 := bx_made ⟨op, res, xa, xb, xn, tags, ta, tc, la, ln, lc, ea, en, ec⟩ wr
        have W0B := hid (alloc_bq wr (.cells #[.int .i64 op, .int .i64 res, .int .u32 xa, .int .u32 xb, .int .i32 xn, .slice ta tags.length tc, .slice la ln lc, .slice ea en ec] 61))
        have Y1 := hid (Y0.alloc (.cells #[] 42))
        have OW := own_none32 (wr.alloc (.cells (⟨op, res, xa, xb, xn, tags, ta, tc, la, ln, lc, ea, en, ec⟩ : Ix).vals 61))
        rw [show (wr.alloc (.cells (⟨op, res, xa, xb, xn, tags, ta, tc, la, ln, lc, ea, en, ec⟩ : Ix).vals 61)).heap.size = wr.heap.size + 1 by simp] at OW
        have HOW := hid OW
        obtain ⟨⟨-, -, -, -, -, b5, -, -⟩, -, -, -, -, -, g5, -, -⟩ := Y1.out
        dsimp only [Ix.vals] at b5 g5
        clear hb htg hl he hrr cc hx HI Y0 OW hTG
        have BW1 := hid (HB.out.trans ((thenA W0B.out (.cells #[] 42)).mono HB.out.size))
        have SZ1 := hid (show wr.heap.size + 1 ≤ ((wr.alloc (.cells #[.int .i64 op, .int .i64 res, .int .u32 xa, .int .u32 xb, .int .i32 xn, .slice ta tags.length tc, .slice la ln lc, .slice ea en ec] 61)).alloc (.cells #[] 42)).heap.size by simp)
        have HTL := hid htl
        clear htl
        go_wp2_with (first
          | (at_builtin; refine append_u32s rfl (.tmp 16) (.tmp 18) rfl rfl HOW.out (Below.refl _ _) SZ1.out ta tags.length tc rfl rfl (HTG.out _ BW1.out) (by have := HTL.out; simp; omega) ?_; intro v6 w6 ho6 hb6 hs6; rw [List.nil_append] at ho6; obtain ⟨a6, c6', rfl⟩ := ho6.sliceN (n := tags.length) rfl; have O6 := hid ho6; have B6 := hid hb6; clear b5 g5 ho6 hb6; have Y6 := hid (Y1.out.belowB B6.out (Nat.lt_succ_self _)); have b5 := Y6.out.at_.c5; have g5 := Y6.out.f5; dsimp only at b5; refine Hid.out ?_))
        refine hid ?_
        have Y7 := hid (Y6.out.setT tags a6 c6')
        have BR6 := hid ((thenA W0B.out (.cells #[] 42)).trans (B6.out.mono (Nat.le_succ _)))
        have BR7 := hid (BR6.out.setCell (p := ⟨wr.heap.size, 5, none⟩) (Nat.le_refl _) (.slice a6 tags.length c6'))
        have BW7 := hid (HB.out.trans (BR7.out.mono HB.out.size))
        have TG6 := hid (tags_of O6.out)
        have SV67 := hid ((Save.refl wr.heap.size w6).setCell (p := ⟨wr.heap.size, 5, none⟩) (.inl rfl) (.slice a6 tags.length c6'))
        have D1 := hid (C1.out _ BW7.out)
        obtain ⟨⟨-, -, -, -, -, -, b6, -⟩, -, -, -, -, -, -, g6, -⟩ := Y7.out
        dsimp only at b6 g6
        clear C1 Y6 Y1 HOW HTG W0B BW1 SZ1 B6
        go_wp2_with fail
        refine D1.out.mono ?_
        clear D1 b5 g5
        rintro e1 w8 ⟨a8, c8, u8, rfl, hb8, hl8, hlow8, hbr8⟩
        have Y8 := hid (Y7.out.belowB hb8 (by have := World.block_lt_of_cell? _ _ Y7.out.at_.c0; simpa using this))
        have BR8 := hid (BR7.out.trans (hb8.mono BR7.out.size))
        have SV68 := hid (SV67.out.trans (Save.of_below hb8))
        have HL8 := hid hl8
        have HLW8 := hid (fun q hq => Nat.le_trans (show w6.heap.size ≤ (w6.setCell ⟨wr.heap.size, 5, none⟩ (.slice a6 tags.length c6')).heap.size from by simp [World.setCell]) (hlow8 q hq))
        have HBR8 := hid hbr8
        obtain ⟨⟨-, -, -, -, -, -, b6, -⟩, -, -, -, -, -, -, g6, -⟩ := Y8.out
        dsimp only at b6 g6
        have Y9 := hid (Y8.out.setL a8 ln c8)
        have BR9 := hid (BR8.out.setCell (p := ⟨wr.heap.size, 6, none⟩) (Nat.le_refl _) (.slice a8 ln c8))
        have SV89 := hid ((Save.refl wr.heap.size w8).setCell (p := ⟨wr.heap.size, 6, none⟩) (.inl rfl) (.slice a8 ln c8))
        have BW9 := hid (HB.out.trans (BR9.out.mono HB.out.size))
        have D2 := hid (C2.out _ BW9.out)
        obtain ⟨⟨-, -, -, -, -, -, -, b7⟩, -, -, -, -, -, -, -, g7⟩ := Y9.out
        dsimp only at b7 g7
        clear C2 Y7 Y8 hb8 hl8 hlow8 hbr8 BR7 BR8 SV67
        go_wp2_with fail
        refine D2.out.mono ?_
        clear D2 b6 g6
        rintro e2 w10 ⟨a10, c10, u10, rfl, hb10, hl10, hlow10, hbr10⟩
        have Y10 := hid (Y9.out.belowB hb10 (by have := World.block_lt_of_cell? _ _ Y9.out.at_.c0; simpa using this))
        have BR10 := hid (BR9.out.trans (hb10.mono BR9.out.size))
        have SV810 := hid (SV89.out.trans (Save.of_below hb10))
        have HL10 := hid hl10
        have HLW10 := hid (fun q hq => Nat.le_trans (show w8.heap.size ≤ (w8.setCell ⟨wr.heap.size, 6, none⟩ (.slice a8 ln c8)).heap.size from by simp [World.setCell]) (hlow10 q hq))
        have HBR10 := hid hbr10
        have Y11 := hid (Y10.out.setE a10 en c10)
        have BR11 := hid (BR10.out.setCell (p := ⟨wr.heap.size, 7, none⟩) (Nat.le_refl _) (.slice a10 en c10))
        have SV1011 := hid ((Save.refl wr.heap.size w10).setCell (p := ⟨wr.heap.size, 7, none⟩) (.inl rfl) (.slice a10 en c10))
        obtain ⟨⟨-, -, -, -, -, -, -, b7⟩, -, -, -, -, -, -, -, g7⟩ := Y10.out
        dsimp only at b7 g7
        obtain ⟨⟨z0, z1, z2, z3, z4, z5, z6, z7⟩, -, -, -, -, -, -, -, -⟩ := Y11.out
        dsimp only at z0 z1 z2 z3 z4 z5 z6 z7
        clear Y9 Y10 hb10 hl10 hlow10 hbr10 BR9 BR10 SV89
        have SZ6 := hid (show wr.heap.size + 1 ≤ w6.heap.size from hs6)
        have SZ8 := hid (show w6.heap.size ≤ w8.heap.size from SV68.out.size)
        have kids : (Il.cons ⟨op, res, xa, xb, xn, tags, a6, c6', a8, ln, c8, a10, en, c10⟩ u8 u10 .nil).kids (w10.setCell ⟨wr.heap.size, 7, none⟩ (.slice a10 en c10)) := by
          have hx := HX.out
          refine ⟨⟨hx.op, hx.res, hx.a, hx.b, hx.n, hx.tags, hx.tn, hx.ln, hx.en⟩, ?_, ?_, ?_, trivial⟩
          · have T := (SV68.out.trans SV810.out).trans SV1011.out
            refine (TG6.out.1.touch (.of_save T) (fun q hq h => ?_)).more T.size
            have := TG6.out.2.1 q hq
            omega
          · have T := SV810.out.trans SV1011.out
            refine ListAt.more T.size (HL8.out.touch (.of_save T) (fun q hq h => ?_))
            have h1 := HLW8.out q hq
            have h2 := SZ6.out
            omega
          · refine ListAt.more SV1011.out.size (HL10.out.touch (.of_save SV1011.out) (fun q hq h => ?_))
            have h1 := HLW10.out q hq
            have h2 := SZ6.out
            have h3 := SZ8.out
            omega
        have hlo : ∀ q ∈ (Il.cons ⟨op, res, xa, xb, xn, tags, a6, c6', a8, ln, c8, a10, en, c10⟩ u8 u10 .nil).foot, wr.heap.size ≤ q := by
          intro q hq
          simp only [Il.foot, List.append_nil] at hq
          have h2 := SZ6.out
          have h3 := SZ8.out
          rcases List.mem_append.1 hq with hq | hq
          · rcases List.mem_append.1 hq with hq | hq
            · have := TG6.out.2.1 q hq; omega
            · have := HLW8.out q hq; omega
          · have := HLW10.out q hq; omega
        have KD := hid kids
        have HLO := hid hlo
        have HO11 := hid (HO.out.touch (S := fun _ => False) (.of_below BR11.out) (fun _ _ h => h))
        have hsz11 : w.heap.size ≤ (w10.setCell ⟨wr.heap.size, 7, none⟩ (.slice a10 en c10)).heap.size := Nat.le_trans HB.out.size BR11.out.size
        have hu1 : u.len ≤ 1000000 := by omega
        have ROW := hid HO11.out.row
        clear kids hlo
        go_wp2_with (first
          | (at_builtin; refine append_insG rfl (.tmp 29) (.tmp 31) rfl ⟨op, res, xa, xb, xn, tags, a6, c6', a8, ln, c8, a10, en, c10⟩ rfl ROW.out hsz11 w10.heap.size (by simp [World.setCell]) rfl hu1 ?_; intro g cap6 w12 hown hgrow hat; have HOWN := hid hown; have HGR := hid hgrow; have HAT := hid hat; clear hown hgrow hat; refine Hid.out ?_))
        refine hid ?_
        go_wp2
        go_roundw
        case rel =>
          have hsn := HO.out.snoc HO11.out KD.out HLO.out HB.out.size HOWN.out HGR.out HAT.out
          have hB := below_grown HO11.out.row hsz11 HGR.out
          rw [hu] at hsn
          refine ⟨k + 1, u.app (.cons ⟨op, res, xa, xb, xn, tags, a6, c6', a8, ln, c8, a10, en, c10⟩ u8 u10 .nil), r, by go_num, by rw [app_len]; simp only [Il.len]; omega, by omega, by omega, hsn, (HB.out.trans (BR11.out.mono HB.out.size)).trans hB, HR2, ?_⟩
          show (u.app (.cons ⟨op, res, xa, xb, xn, tags, a6, c6', a8, ln, c8, a10, en, c10⟩ u8 u10 .nil)).bare.app r.bare = t.bare
          rw [bare_app, app_assoc, ← HE.out]
          simp only [Il.bare, Ix.bare, HBR8.out, HBR10.out, Il.app]
        case measure => simp [intOf]; omega
end Go.Proofs.YtlfflomeaplidaaDoor.Body

namespace Go.Proofs.YtlfflomeaplidaaDoor.Body
set_option linter.unusedVariables false
open Go.RowKit Go.Proofs.YtlfflomeaplidaaDoor.Instr Go.Proofs.YtlfflomeaplidaaDoor.Leb

theorem tags_lenP (l : List Int) : (l.flatMap encU).length ≤ 5 * l.length := by
  induction l with
  | nil => simp
  | cons n l ih =>
    simp only [List.flatMap_cons, List.length_append, List.length_cons]
    have := (encU_lens n).1
    omega
theorem rest_lenP (x : Ix) : (encRest x).length ≤ 10 + 5 * x.tags.length := by
  have ha := (encU_lens x.a).1
  have hb := (encU_lens x.b).1
  have hn := (encS_lens x.n).1
  have ht := (encU_lens (x.tags.length : Int)).1
  have hl := tags_lenP x.tags
  unfold encRest encTags
  split <;> (try simp only [List.length_append, List.length_cons, List.length_nil]) <;> omega
theorem encL_lenP : ∀ t : Il, (encL t).length ≤ 13 * t.weight
  | .nil => by simp [encL]
  | .cons x l e r => by
    have h0 := rest_lenP x
    have h1 := encL_lenP l
    have h2 := encL_lenP e
    have h3 := encL_lenP r
    simp only [encL, Il.weight]
    split <;> (try split) <;> simp only [List.length_append, List.length_cons, List.length_nil] <;> omega
theorem check_bareP (t : Il) : checkP t.bare = checkP t := by unfold checkP; simp only [bare_all, bare_count, bare_deep, bare_tags]
theorem encL_bareP : ∀ t : Il, encL t.bare = encL t
  | .nil => rfl
  | .cons x l e r => by
    have h : encRest x.bare = encRest x := rfl
    simp only [Il.bare, encL, h, encL_bareP l, encL_bareP e, encL_bareP r]
    rfl
theorem same_puts {t u : Il} (h : u.bare = t.bare) : checkP u = checkP t ∧ encL u = encL t ∧ putB u = putB t ∧ ∀ n, putC n u = putC n t ∧ checkC n u = checkC n t := by
  have h1 : checkP u = checkP t := by rw [← check_bareP u, h, check_bareP]
  have h2 : encL u = encL t := by rw [← encL_bareP u, h, encL_bareP]
  have h3 : putB u = putB t := by unfold putB encP; rw [h1, h2]
  refine ⟨h1, h2, h3, fun n => ?_⟩
  have h4 : checkC n u = checkC n t := by unfold checkC; rw [h1]
  exact ⟨by unfold putC codeL encP; rw [h4, h2], h4⟩
theorem puts_bytes {n₀ : Nat} {w : World} {a : Option Addr} {k : Nat} {n : Int} {t : Il} (h : ListAt n₀ w a k t) (hel : (encL t).length ≤ 90000) :
    ((∀ z ∈ putB t, 0 ≤ z ∧ z < 256) ∧ (putB t).length ≤ 90010) ∧ ((∀ z ∈ putC n t, 0 ≤ z ∧ z < 256) ∧ (putC n t).length ≤ 90010) := by
  refine ⟨?_, ?_⟩
  · unfold putB
    by_cases h0 : checkP t = 0
    · rw [if_pos h0]
      exact ⟨encP_bytesC (mayT_list h h0), by simp [encP]; omega⟩
    · rw [if_neg h0]; simp
  · unfold putC
    by_cases h0 : checkC n t = 0
    · rw [if_pos h0]
      have hc : checkP t = 0 := by
        unfold checkC at h0
        split at h0
        · omega
        · exact h0
      refine ⟨fun z hz => ?_, ?_⟩
      · rcases List.mem_append.1 hz with hz | hz
        · exact loc_bytes n z hz
        · exact encP_bytesC (mayT_list h hc) z hz
      · have := (loc_len n).1
        unfold codeL encP
        simp only [List.length_append, List.length_cons, List.length_nil]
        omega
    · rw [if_neg h0]; simp
set_option maxRecDepth 100000 in
set_option maxHeartbeats 3200000 in
theorem puts_big (w : World) (n : Int) (a : Option Addr) (len cap : Nat) (t : Il) (hl : ListAt w.heap.size w a len t) (hx : len ≤ 140737488351232) (hT : Nams w) (hg : ¬ t.go 0 2000 ≤ 2000) :
    Calls Tryd.prog 3 #[.agg #[.int .i64 n, .slice a len cap]] w fun e w' => e = .returned (.bool true) ∧ Below w.heap.size w w' := by
  have IC := hid (fun w' (hb : Below w.heap.size w w') => Instrs_any t.count t a len cap 2000 w' (Nat.le_refl _) (hl.on hb) hx (by omega) (by omega))
  obtain ⟨g, hgg⟩ : ∃ g, t.go 0 2000 = g := ⟨_, rfl⟩
  rw [hgg] at IC hg
  have X0 := hid (box_at w n a len cap 24)
  clear hgg hl hx hT
  have hg2 : 2000 < g := by omega
  have hb0 := hid (alloc_below' w (.cells #[.int .i64 n, .slice a len cap] 24))
  go_enter Tryd.func3, Tryd.ntmps3
  go_wp2_with fail
  refine (IC.out _ hb0.out).mono ?_
  clear IC
  rintro e w2 ⟨rfl, rfl⟩
  go_wp2
  go_ret
  exact ⟨rfl, hb0.out⟩
/-- A box of two cells that is there. -/
structure Box2 (T : Nat) (x y : Value) (w : World) : Prop where
  c0 : w.cell? ⟨T, 0, none⟩ = some x
  c1 : w.cell? ⟨T, 1, none⟩ = some y
  f0 : w.frozen? ⟨T, 0, none⟩ = false
  f1 : w.frozen? ⟨T, 1, none⟩ = false
theorem Box2.made (w : World) (g : Nat) (hg : g = w.heap.size) (x y : Value) (t : TypeId) : Box2 g x y (w.alloc (.cells #[x, y] t)) := by
  subst hg
  constructor <;> go_simp
theorem Box2.below {T : Nat} {x y : Value} {w w' : World} (h : Box2 T x y w) (hb : Below w.heap.size w w') : Box2 T x y w' := by
  have hl := World.block_lt_of_cell? w _ h.c0
  exact ⟨(hb.cell (p := ⟨T, 0, none⟩) hl).trans h.c0, (hb.cell (p := ⟨T, 1, none⟩) hl).trans h.c1, (hb.frozen (p := ⟨T, 0, none⟩) hl).trans h.f0, (hb.frozen (p := ⟨T, 1, none⟩) hl).trans h.f1⟩
theorem box_kept {w w2 : World} {A : Obj} {t : TypeId} (hb : Below ((w.alloc A).drew.alloc (.cells #[.int .i64 0, .slice none 0 0] t)).heap.size ((w.alloc A).drew.alloc (.cells #[.int .i64 0, .slice none 0 0] t)) w2) :
    (w2.cell? ⟨w.heap.size + 1, 0, none⟩ = some (.int .i64 0) ∧ w2.cell? ⟨w.heap.size + 1, 1, none⟩ = some (.slice none 0 0)) ∧ (w2.frozen? ⟨w.heap.size + 1, 0, none⟩ = false ∧ w2.frozen? ⟨w.heap.size + 1, 1, none⟩ = false) := by
  have h := (Box2.made (w.alloc A).drew (w.heap.size + 1) (by simp) (.int .i64 0) (.slice none 0 0) t).below hb
  exact ⟨⟨h.c0, h.c1⟩, h.f0, h.f1⟩
theorem held_set2 {w w1 : World} {p q : Addr} {x y u v : Value} {k : Nat} (h : Below w.heap.size w w1 ∧ w1.cell? p = some x ∧ w1.cell? q = some y) (hk : w.heap.size < k) (hp : p.block = w.heap.size) (hq : q.block = w.heap.size) :
    Below w.heap.size w ((w1.setCell ⟨k, 0, none⟩ u).setCell ⟨k, 1, none⟩ v) ∧ ((w1.setCell ⟨k, 0, none⟩ u).setCell ⟨k, 1, none⟩ v).cell? p = some x ∧ ((w1.setCell ⟨k, 0, none⟩ u).setCell ⟨k, 1, none⟩ v).cell? q = some y := by
  have b1 : Below (w.heap.size + 1) w1 ((w1.setCell ⟨k, 0, none⟩ u).setCell ⟨k, 1, none⟩ v) := ((Below.refl _ _).setCell (p := ⟨k, 0, none⟩) hk _).setCell (p := ⟨k, 1, none⟩) hk _
  exact ⟨h.1.trans (b1.mono (Nat.le_succ _)), (b1.cell (by omega)).trans h.2.1, (b1.cell (by omega)).trans h.2.2⟩
/-- The copy's box and the given one are there, with their lists. -/
structure InOk (w W : World) (n : Int) (a : Option Addr) (len cap : Nat) (ua : Option Addr) (uc : Nat) (u : Il) (k : Nat) : Prop where
  bel : Below w.heap.size w W
  x0 : W.cell? ⟨w.heap.size, 0, none⟩ = some (.int .i64 n)
  x1 : W.cell? ⟨w.heap.size, 1, none⟩ = some (.slice a len cap)
  b0 : W.cell? ⟨k, 0, none⟩ = some (.int .i64 n)
  b1 : W.cell? ⟨k, 1, none⟩ = some (.slice ua len uc)
  lst : ListAt W.heap.size W ua len u
theorem InOk.on {w W W' : World} {n : Int} {a : Option Addr} {len cap : Nat} {ua : Option Addr} {uc : Nat} {u : Il} {k : Nat} (h : InOk w W n a len cap ua uc u k) (hb : Below W.heap.size W W') : InOk w W' n a len cap ua uc u k :=
  ⟨thenB h.bel hb, keep hb h.x0, keep hb h.x1, keep hb h.b0, keep hb h.b1, h.lst.on hb⟩
theorem in_a {w w2 : World} {n : Int} {a : Option Addr} {len cap : Nat} {ua : Option Addr} {uc : Nat} {u : Il}
    (hS : Below w.heap.size w (w2.alloc (.cells #[.int .i64 n, .slice ua len uc] 24)) ∧ (w2.alloc (.cells #[.int .i64 n, .slice ua len uc] 24)).cell? ⟨w.heap.size, 0, none⟩ = some (.int .i64 n) ∧ (w2.alloc (.cells #[.int .i64 n, .slice ua len uc] 24)).cell? ⟨w.heap.size, 1, none⟩ = some (.slice a len cap))
    (hu : ListAt w2.heap.size w2 ua len u) : InOk w (w2.alloc (.cells #[.int .i64 n, .slice ua len uc] 24)) n a len cap ua uc u w2.heap.size :=
  ⟨hS.1, hS.2.1, hS.2.2, (Box2.made w2 _ rfl _ _ _).c0, (Box2.made w2 _ rfl _ _ _).c1, hu.on (alloc_below' _ _)⟩
theorem in_b {w w2 : World} {n : Int} {a : Option Addr} {len cap : Nat} {ua : Option Addr} {uc : Nat} {u : Il} {k : Nat} {x y : Value}
    (hS : Below w.heap.size w ((w2.setCell ⟨k, 0, none⟩ (.int .i64 n)).setCell ⟨k, 1, none⟩ (.slice ua len uc)) ∧ ((w2.setCell ⟨k, 0, none⟩ (.int .i64 n)).setCell ⟨k, 1, none⟩ (.slice ua len uc)).cell? ⟨w.heap.size, 0, none⟩ = some (.int .i64 n) ∧ ((w2.setCell ⟨k, 0, none⟩ (.int .i64 n)).setCell ⟨k, 1, none⟩ (.slice ua len uc)).cell? ⟨w.heap.size, 1, none⟩ = some (.slice a len cap))
    (hu : ListAt w2.heap.size w2 ua len u) (d0 : w2.cell? ⟨k, 0, none⟩ = some x) (d1 : w2.cell? ⟨k, 1, none⟩ = some y) (hlow : ∀ q ∈ blkOf len ua ++ u.foot, k + 1 ≤ q) :
    InOk w ((w2.setCell ⟨k, 0, none⟩ (.int .i64 n)).setCell ⟨k, 1, none⟩ (.slice ua len uc)) n a len cap ua uc u k := by
  refine ⟨hS.1, hS.2.1, hS.2.2, ?_, ?_, ?_⟩
  · simp [go_sem, d0]
  · simp [go_sem, d1]
  · have ht : Touch (fun j => j < k + 1) w2 ((w2.setCell ⟨k, 0, none⟩ (.int .i64 n)).setCell ⟨k, 1, none⟩ (.slice ua len uc)) :=
      ((Touch.refl _ w2).setCell (p := ⟨k, 0, none⟩) (.inl (Nat.lt_succ_self k)) _).setCell (p := ⟨k, 1, none⟩) (.inl (Nat.lt_succ_self k)) _
    exact ListAt.more ht.size (hu.touch ht (fun q hq => by have := hlow q hq; omega))
set_option maxRecDepth 100000 in
set_option maxHeartbeats 6400000 in
theorem puts_few (w : World) (n : Int) (a : Option Addr) (len cap : Nat) (t : Il) (hl : ListAt w.heap.size w a len t) (hx : len ≤ 140737488351232) (hT : Nams w) (hg : t.go 0 2000 ≤ 2000) (hel : (encL t).length ≤ 90000) :
    Calls Tryd.prog 3 #[.agg #[.int .i64 n, .slice a len cap]] w fun e w' => e = .returned (.bool true) ∧ Below w.heap.size w w' := by
  have hw := (go_bounds t 0 2000 (by omega) (by omega) (by omega)).2.2 hg
  have hwc := weight_count t
  have IC := hid (fun w' (hb : Below w.heap.size w w') => Instrs_any t.count t a len cap 2000 w' (Nat.le_refl _) (hl.on hb) hx (by omega) (by omega))
  have CC := hid (fun w' (hb : Below w.heap.size w w') => copy_any t.weight t a len cap w' (Nat.le_refl _) (by omega) (hl.on hb))
  have RP := hid (fun w' (hb : Below w.heap.size w w') => Put06_any t a len cap w' (hl.on hb) hx (by omega) hel)
  have RC := hid (fun w' (hb : Below w.heap.size w w') => PutCode06_any n t a len cap w' (hl.on hb) hx (by omega) hel)
  have AW := hid (fun w' (hb : Below w.heap.size w w') => awake_any w' (hT.below hb))
  obtain ⟨⟨hy1, hy2⟩, hy3, hy4⟩ := puts_bytes (n := n) hl hel
  obtain ⟨g, hgg⟩ : ∃ g, t.go 0 2000 = g := ⟨_, rfl⟩
  rw [hgg] at IC hg
  have hgb : ¬ 2000 < g := by omega
  obtain ⟨zs, hzs⟩ : ∃ z, putB t = z := ⟨_, rfl⟩
  obtain ⟨q, hq⟩ : ∃ z, checkP t = z := ⟨_, rfl⟩
  obtain ⟨ys, hys⟩ : ∃ z, putC n t = z := ⟨_, rfl⟩
  obtain ⟨r, hr⟩ : ∃ z, checkC n t = z := ⟨_, rfl⟩
  rw [hzs] at RP hy1 hy2
  rw [hq] at RP
  rw [hys] at RC hy3 hy4
  rw [hr] at RC
  have HP := hid (fun (u : Il) (h : u.bare = t.bare) => show checkP u = q ∧ encL u = encL t ∧ putB u = zs ∧ putC n u = ys ∧ checkC n u = r from by
    obtain ⟨k1, k2, k3, k4⟩ := same_puts h
    exact ⟨k1.trans hq, k2, k3.trans hzs, (k4 n).1.trans hys, (k4 n).2.trans hr⟩)
  obtain ⟨l1, hl1⟩ : ∃ m, zs.length = m := ⟨_, rfl⟩
  obtain ⟨l2, hl2⟩ : ∃ m, ys.length = m := ⟨_, rfl⟩
  have HL1 := hid hl1
  have HL2 := hid hl2
  have HY1 := hid hy1
  have HY2 := hid hy2
  have HY3 := hid hy3
  have HY4 := hid hy4
  have LT := hid hl
  have HEL := hid hel
  have HTT := hid hT
  have HXX := hid hx
  have HCN := hid (show t.count ≤ 100000 by omega)
  have X0 := hid (box_at w n a len cap 24)
  have hb0 := hid (alloc_below' w (.cells #[.int .i64 n, .slice a len cap] 24))
  clear hgg hl hx hT hw hwc hel hy1 hy2 hy3 hy4 hzs hq hys hr hl1 hl2
  go_enter Tryd.func3, Tryd.ntmps3
  go_wp2_with fail
  refine (IC.out _ hb0.out).mono ?_
  clear IC
  rintro e w1 ⟨rfl, rfl⟩
  go_wp2
  have hS0 : Below w.heap.size w (w.alloc (.cells #[.int .i64 n, .slice a len cap] 24)).drew ∧ (w.alloc (.cells #[.int .i64 n, .slice a len cap] 24)).drew.cell? ⟨w.heap.size, 0, none⟩ = some (.int .i64 n) ∧ (w.alloc (.cells #[.int .i64 n, .slice a len cap] 24)).drew.cell? ⟨w.heap.size, 1, none⟩ = some (.slice a len cap) := ⟨hb0.out.drew, X0.out.1, X0.out.2⟩
  (first
    | go_loud (go_region_held3 (fun w' => Below w.heap.size w w' ∧ w'.cell? ⟨w.heap.size, 0, none⟩ = some (.int .i64 n) ∧ w'.cell? ⟨w.heap.size, 1, none⟩ = some (.slice a len cap))
        (first | assumption | exact held_keep2 (by assumption) (by assumption) | exact held_keep2 (held_keep2 hS0 (by assumption)) (alloc_below' _ _) | exact held_keep2 (by assumption) (alloc_below' _ _) | exact held_set2 (by assumption) (by simp) rfl rfl)
        (first | (go_at_call 7; (with_reducible refine (CC.out _ (held_out2 (by assumption))).mono ?_); rintro e w2 ⟨ua, uc, u, rfl, hb2, hu, hlow, hbare⟩; (first | (have hD := box_kept hb2; obtain ⟨⟨d0, d1⟩, d2, d3⟩ := hD) | skip))))
    | fail)
  all_goals (first | have I0 := hid (in_a (by assumption) hu) | have I0 := hid (in_b (by assumption) hu d0 d1 (fun q hq => by have := hlow q hq; simp at this; omega)))
  all_goals
    obtain ⟨k1, k2, k3, k4, k5⟩ := HP.out u hbare
    have hcnt : u.count = t.count := by rw [← bare_count u, hbare, bare_count]
    have HUC := hid (show u.count ≤ 4611686018427387900 by rw [hcnt]; have := HCN.out; omega)
    have HUE := hid (show (encL u).length ≤ 90000 by rw [k2]; exact HEL.out)
    have PU := hid (Put_any u ua len uc _ I0.out.lst HXX.out (HTT.out.below I0.out.bel) HUC.out (by have := HUE.out; omega))
    have PC := hid (fun W k (h : InOk w W n a len cap ua uc u k) => PutCode_any n u ua len uc W h.lst HXX.out (HTT.out.below h.bel) HUC.out HUE.out)
    rw [k3, k1] at PU
    rw [k4, k5] at PC
    have SI := hid (fun W k (h : InOk w W n a len cap ua uc u k) => SameInstrs_yes W.heap.size u.count u t ua a len uc cap W (Nat.le_refl _) h.lst (LT.out.on h.bel) hbare (Nat.le_refl _) HXX.out)
    clear k1 k2 k3 k4 k5 hcnt HP hu hlow hb2 hbare
    try clear d0 d1 d2 d3
    obtain ⟨-, x0, x1, z0, z1, -⟩ := I0.out
    go_wp2_with fail
    refine PU.out.mono ?_
    clear PU
    rintro e w4 ⟨v4, rfl, ho4, hb4⟩
    obtain ⟨a4, c4, rfl⟩ := ho4.sliceN HL1.out
    have Y4 := hid (ho4.bytes HY1.out (by have := HY2.out; omega))
    have I4 := hid (I0.out.on hb4)
    clear ho4 hb4 I0 x0 x1 z0 z1
    obtain ⟨-, x0, x1, z0, z1, -⟩ := I4.out
    go_wp2_with fail
    refine (RP.out _ I4.out.bel).mono ?_
    clear RP
    rintro e w5 ⟨v5, rfl, ho5, hb5⟩
    obtain ⟨a5, c5, rfl⟩ := ho5.sliceN HL1.out
    have Y5 := hid (ho5.bytes HY1.out (by have := HY2.out; omega))
    have X4 := hid (Y4.out.below hb5)
    have I5 := hid (I4.out.on hb5)
    clear ho5 hb5 I4 Y4 x0 x1 z0 z1
    obtain ⟨-, x0, x1, z0, z1, -⟩ := I5.out
    go_wp2_with fail
    refine (PC.out _ _ I5.out).mono ?_
    clear PC
    rintro e w6 ⟨v6, rfl, ho6, hb6⟩
    obtain ⟨a6, c6, rfl⟩ := ho6.sliceN HL2.out
    have Y6 := hid (ho6.bytes HY3.out (by have := HY4.out; omega))
    have U4 := hid (X4.out.below hb6)
    have U5 := hid (Y5.out.below hb6)
    have I6 := hid (I5.out.on hb6)
    clear ho6 hb6 I5 X4 Y5 x0 x1 z0 z1
    obtain ⟨-, x0, x1, z0, z1, -⟩ := I6.out
    go_wp2_with fail
    refine (RC.out _ I6.out.bel).mono ?_
    clear RC
    rintro e w7 ⟨v7, rfl, ho7, hb7⟩
    obtain ⟨a7, c7, rfl⟩ := ho7.sliceN HL2.out
    have Y7 := hid (ho7.bytes HY3.out (by have := HY4.out; omega))
    have V4 := hid (U4.out.below hb7)
    have V5 := hid (U5.out.below hb7)
    have V6 := hid (Y6.out.below hb7)
    have I7 := hid (I6.out.on hb7)
    clear ho7 hb7 I6 U4 U5 Y6 x0 x1 z0 z1
    obtain ⟨-, x0, x1, z0, z1, -⟩ := I7.out
    have S1 := hid (SameBytes_yes a4 a5 l1 c4 l1 c5 zs w7 HL1.out HL1.out V4.out V5.out)
    have S2 := hid (SameBytes_yes a6 a7 l2 c6 l2 c7 ys w7 HL2.out HL2.out V6.out Y7.out)
    clear V4 V5 V6 Y7
    go_wp2_with fail
    refine S1.out.mono ?_
    clear S1
    rintro e w8 ⟨rfl, rfl⟩
    go_wp2_with fail
    refine S2.out.mono ?_
    clear S2
    rintro e w8 ⟨rfl, rfl⟩
    go_wp2_with fail
    refine (SI.out _ _ I7.out).mono ?_
    clear SI
    rintro e w8 ⟨rfl, hb8⟩
    have B8 := thenB I7.out.bel hb8
    clear hb8
    go_wp2_with fail
    refine (AW.out _ B8).mono ?_
    clear AW
    rintro e w9 ⟨rfl, hb9⟩
    have B9 := thenB B8 hb9
    go_wp2
    go_ret
    exact ⟨rfl, B9⟩
end Go.Proofs.YtlfflomeaplidaaDoor.Body
namespace Go.Proofs.YtlfflomeaplidaaDoor
open Go.RowKit Go.Proofs.YtlfflomeaplidaaDoor.Instr Go.Proofs.YtlfflomeaplidaaDoor.Body
theorem bodyPuts_walk (w : World) (n : Int) (a : Option Addr) (len cap : Nat) (t : Il) (_b : -9223372036854775808 ≤ n ∧ n ≤ 9223372036854775807) (hl : ListAt w.heap.size w a len t) (_hc : len ≤ cap) (hx : len ≤ 140737488351232) (hT : Nams w) :
    Calls Tryd.prog 3 #[.agg #[.int .i64 n, .slice a len cap]] w fun e w' => e = .returned (.bool true) ∧ Below w.heap.size w w' := by
  by_cases hg : t.go 0 2000 ≤ 2000
  · have hel : (encL t).length ≤ 90000 := by
      have hw := (go_bounds t 0 2000 (by omega) (by omega) (by omega)).2.2 hg
      have := encL_lenP t
      omega
    exact puts_few w n a len cap t hl hx hT hg hel
  · exact puts_big w n a len cap t hl hx hT hg
end Go.Proofs.YtlfflomeaplidaaDoor
