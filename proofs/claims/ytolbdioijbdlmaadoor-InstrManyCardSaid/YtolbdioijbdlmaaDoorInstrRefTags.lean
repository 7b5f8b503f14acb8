/-
  INSTR: the document's own counts and depths of instructions, and labels, by contracts.
-/
import Derived.Test.YtolbdioijbdlmaaDoorInstrRefCount
namespace Go.Proofs.YtolbdioijbdlmaaDoor.Instr
open Go.RowKit

set_option maxHeartbeats 1600000 in
theorem refTags_any : ∀ (m : Nat) (t : Il) (a : Option Addr) (len c : Nat) (w : World), t.count ≤ m → ListAt w.heap.size w a len t → len ≤ 140737488351232 → t.count ≤ 4611686018427387900 →
    Calls Tryd.prog 31 #[.slice a len c] w fun e w' => e = .returned (.bool t.tags) ∧ Below w.heap.size w w' := by
  intro m
  induction m with
  | zero =>
    intro t a len c w hm hL hlen hbig
    cases t with
    | cons x l e r => simp only [Il.count] at hm; omega
    | nil =>
      have h0 : len = 0 := hL.1.symm
      subst h0
      clear hm hL hlen hbig
      go_enter Tryd.func31, Tryd.ntmps31
      go_wp2
      go_loopw [3] (fun si wr => si = .int .i64 0 ∧ wr = w) (fun _ _ => 0)
      case atStart => exact ⟨rfl, rfl⟩
      case round =>
        obtain ⟨rfl, rfl⟩ := hrel
        go_wp2
        go_ret
        exact ⟨rfl, Below.refl _ _⟩
  | succ m ih =>
    intro t a len c w hm hL hlen hbig
    obtain ⟨hL1, hL2⟩ := hL
    rcases hL2 with rfl | ⟨b, off, rfl, hi⟩
    · have h0 : len = 0 := hL1.symm
      subst h0
      clear ih hm hL1 hlen hbig
      go_enter Tryd.func31, Tryd.ntmps31
      go_wp2
      go_loopw [3] (fun si wr => si = .int .i64 0 ∧ wr = w) (fun _ _ => 0)
      case atStart => exact ⟨rfl, rfl⟩
      case round =>
        obtain ⟨rfl, rfl⟩ := hrel
        go_wp2
        go_ret
        exact ⟨rfl, Below.refl _ _⟩
    · have HM := hid hm
      have HB := hid hbig
      have HL1 := hid hL1
      have HI := hid hi
      clear hm hbig hL1 hi
      go_enter Tryd.func31, Tryd.ntmps31
      go_wp2
      go_loopw [3] (fun si wr => ∃ (k : Nat) (rest : Il), si = .int .i64 k ∧ k ≤ len ∧ Hid (k + rest.len = len ∧ rest.count ≤ t.count ∧ rest.tags = t.tags) ∧ Hid (Items w.heap.size w b (off + k * 8) rest) ∧ Below w.heap.size w wr)
        (fun si _ => len - (intOf si).toNat)
      case atStart => exact ⟨0, t, rfl, Nat.zero_le _, ⟨by have := HL1.out; omega, Nat.le_refl _, rfl⟩, by simpa using HI, Below.refl _ _⟩
      case round =>
        obtain ⟨k, rest, rfl, hk, HR, HIR, hb⟩ := hrel
        cases rest with
        | nil =>
          obtain ⟨r1, _, r3⟩ := HR.out
          have hkl : k = len := by simpa [Il.len] using r1
          subst hkl
          have R3 : Hid (t.tags = false) := by show _ = _; rw [← r3]; rfl
          clear r3
          go_wp2
          go_ret
          exact ⟨ret_bool R3.out.symm, hb⟩
        | cons x tl te r =>
          have hir := Items.below hb HIR.out
          obtain ⟨hbn, hx, ⟨c0, c1, c2, c3, c4, c5, c6, c7⟩, _⟩ := hir
          have hir0 := HIR.out
          obtain ⟨_, _, _, ht, hLl, hLe, hir'⟩ := hir0
          have hlt : k < len := by have := HR.out.1; simp only [Il.len] at this; omega
          have hLn := hx.ln
          have hEn := hx.en
          have hcnt : tl.count + te.count + 1 ≤ m + 1 ∧ tl.count ≤ 4611686018427387900 ∧ te.count ≤ 4611686018427387900 := by
            have h1 := HR.out.2.1
            have h2 := HM.out
            have h3 := HB.out
            simp only [Il.count] at h1
            omega
          obtain ⟨k1, k2, k3⟩ := hcnt
          have N2 := fun w' (hb' : Below w.heap.size w w') => ih tl x.la x.ln x.lc w' (by omega) (ListAt.on hLl hb') hLn k2
          have N3 := fun w' (hb' : Below w.heap.size w w') => ih te x.ea x.en x.ec w' (by omega) (ListAt.on hLe hb') hEn k3
          have HE : Hid (t.tags = (decide (16384 < x.tags.length) || tl.tags || te.tags || r.tags)) := by show _ = _; rw [← HR.out.2.2]; rfl
          have htn := hx.tn
          have H2 := hid N2
          have H3 := hid N3
          clear N2 N3 ih k1 k2 k3 hLl hLe
          by_cases hbig : 16384 < x.tags.length
          · have R : Hid (t.tags = true) := by show _ = _; rw [HE.out]; simp [hbig]
            have hbig' : (16384 : Int) < (x.tags.length : Int) := by omega
            clear H2 H3
            go_wp2
            go_ret
            exact ⟨ret_bool R.out.symm, hb⟩
          · have hbig' : ¬ (16384 : Int) < (x.tags.length : Int) := by omega
            obtain ⟨g1, hg1⟩ : ∃ g, tl.tags = g := ⟨_, rfl⟩
            obtain ⟨g2, hg2⟩ : ∃ g, te.tags = g := ⟨_, rfl⟩
            simp only [hg1] at H2
            simp only [hg2] at H3
            have HE2 : Hid (t.tags = (g1 || g2 || r.tags)) := by show _ = _; rw [HE.out, hg1, hg2]; simp [hbig]
            clear hg1 hg2 HE
            go_wp2_with fail
            refine (H2.out _ hb).mono ?_
            clear H2
            rintro e1 w3 ⟨rfl, hb3⟩
            have hbW := thenB hb hb3
            have d6 := keep hb3 c6
            have d7 := keep hb3 c7
            cases g1
            · go_wp2_with fail
              refine (H3.out _ hbW).mono ?_
              clear H3
              rintro e1 w4 ⟨rfl, hb4⟩
              have hbX := thenB hbW hb4
              cases g2
              · go_wp2
                go_roundw
                case rel =>
                  refine ⟨k + 1, r, by simp, by omega, ⟨by have := HR.out.1; simp only [Il.len] at this; omega, by have := HR.out.2.1; simp only [Il.count] at this; omega, ?_⟩, by rw [show off + (k + 1) * 8 = off + k * 8 + 8 by omega]; exact hir', hbX⟩
                  rw [HE2.out]; rfl
                case measure => simp [intOf]; omega
              · have R : Hid (t.tags = true) := by show _ = _; rw [HE2.out]; rfl
                go_wp2
                go_ret
                exact ⟨ret_bool R.out.symm, hbX⟩
            · have R : Hid (t.tags = true) := by show _ = _; rw [HE2.out]; simp
              clear H3
              go_wp2
              go_ret
              exact ⟨ret_bool R.out.symm, hbW⟩

end Go.Proofs.YtolbdioijbdlmaaDoor.Instr
