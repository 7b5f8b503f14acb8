/-
  INSTR: the document's own test of instructions that are a table of labels, blocks, or nothing, by contract.
-/
import Derived.Test.YtolbdioijbdlmaaDoorInstrRefTags
import Derived.Test.YtolbdioijbdlmaaDoorInstrRefName
import Derived.Test.YtolbdioijbdlmaaDoorInstrRefShape
namespace Go.Proofs.YtolbdioijbdlmaaDoor.Instr
open Go.RowKit

def kA (tags : List Int) (ta : Option Addr) (tc : Nat) : Ix := ⟨14, 0, 0, 0, 0, tags, ta, tc, none, 0, 0, none, 0, 0⟩
def kB (la : Option Addr) (ln lc : Nat) : Ix := ⟨2, 0, 0, 0, 0, [], none, 0, la, ln, lc, none, 0, 0⟩
def kC : Ix := ⟨1, 0, 0, 0, 0, [], none, 0, none, 0, 0, none, 0, 0⟩
def Good (x : Ix) : Prop := (∃ tags ta tc, x = kA tags ta tc) ∨ (∃ la ln lc, x = kB la ln lc) ∨ x = kC
def GoodT : Il → Prop
  | .nil => True
  | .cons x l e r => Good x ∧ GoodT l ∧ GoodT e ∧ GoodT r
theorem good_lawful {x : Ix} (h : Good x) : lawfulP x = true := by
  rcases h with ⟨tags, ta, tc, rfl⟩ | ⟨la, ln, lc, rfl⟩ | rfl
  · have u : usedP 14 = 18 := by decide
    have n : nameL 14 ≠ [] := by decide
    have a0 : bits .andNot .u8 16 18 = 0 := by decide
    have a1 : bits .andNot .u8 0 18 = 0 := by decide
    by_cases ht : 0 < tags.length
    · simp [kA, lawfulP, overP, filledP, bit, u, n, ht, a0]
    · simp [kA, lawfulP, overP, filledP, bit, u, n, ht, a1]
  · have u : usedP 2 = 33 := by decide
    have n : nameL 2 ≠ [] := by decide
    have a0 : bits .andNot .u8 32 33 = 0 := by decide
    have a1 : bits .andNot .u8 0 33 = 0 := by decide
    by_cases ht : 0 < ln
    · simp [kB, lawfulP, overP, filledP, bit, u, n, ht, a0]
    · simp [kB, lawfulP, overP, filledP, bit, u, n, ht, a1]
  · have u : usedP 1 = 0 := by decide
    have n : nameL 1 ≠ [] := by decide
    have a1 : bits .andNot .u8 0 0 = 0 := by decide
    simp [kC, lawfulP, overP, filledP, bit, u, n, a1]
theorem good_all : ∀ t : Il, GoodT t → t.all = true
  | .nil, _ => rfl
  | .cons x l e r, ⟨hx, hl, he, hr⟩ => by simp [Il.all, good_lawful hx, good_all l hl, good_all e he, good_all r hr]
theorem lists2 (w : World) : Calls Tryd.prog 41 #[.int .i64 2] w fun e w' => e = .returned (.bool true) ∧ w = w' := by
  go_enter Tryd.func41, Tryd.ntmps41
  go_wp2
  go_ret
  exact ⟨rfl, rfl⟩
theorem name14 : strOfNums (nameL 14) = ⟨#[98, 114, 95, 116, 97, 98, 108, 101]⟩ := by rw [show nameL 14 = [98, 114, 95, 116, 97, 98, 108, 101] by decide]; rfl
theorem name2 : strOfNums (nameL 2) = ⟨#[98, 108, 111, 99, 107]⟩ := by rw [show nameL 2 = [98, 108, 111, 99, 107] by decide]; rfl
theorem name1 : strOfNums (nameL 1) = ⟨#[110, 111, 112]⟩ := by rw [show nameL 1 = [110, 111, 112] by decide]; rfl
theorem align_three : alignP 14 = 0 ∧ storedP 14 = false ∧ alignP 2 = 0 ∧ storedP 2 = false ∧ alignP 1 = 0 ∧ storedP 1 = false := by decide
set_option maxHeartbeats 2000000 in
theorem right_A0 (ta : Option Addr) (tc : Nat) (w : World) : Calls Tryd.prog 38 #[.agg (kA [] ta tc).vals] w fun e w' => e = .returned (.bool true) ∧ Below w.heap.size w w' := by
  have CA := fun w' => refAlign_any 14 w'
  have CN := fun w' => refName_any 14 w'
  simp only [name14] at CN
  simp only [align_three.1, align_three.2.1] at CA
  have hbx := At.made (kA [] ta tc) w
  unfold kA at *
  unfold Ix.vals at *
  dsimp only at *
  go_enter Tryd.func38, Tryd.ntmps38
  go_wp2_with fail
  refine (CA _).mono ?_
  clear CA
  rintro e w1 ⟨rfl, rfl⟩
  go_wp2_with fail
  refine (CN _).mono ?_
  clear CN
  rintro e w1 ⟨rfl, hb1⟩
  obtain ⟨c0, c1, c2, c3, c4, c5, c6, c7⟩ := hbx.below hb1
  dsimp only at c0 c1 c2 c3 c4 c5 c6 c7
  go_wp2
  go_ret
  exact ⟨rfl, thenB (thenA (Below.refl _ _) _) hb1⟩
set_option maxHeartbeats 2000000 in
theorem right_A1 (tags : List Int) (ta : Option Addr) (tc : Nat) (ht : 0 < tags.length) (w : World) : Calls Tryd.prog 38 #[.agg (kA tags ta tc).vals] w fun e w' => e = .returned (.bool true) ∧ Below w.heap.size w w' := by
  have CA := fun w' => refAlign_any 14 w'
  have CN := fun w' => refName_any 14 w'
  simp only [name14] at CN
  simp only [align_three.1, align_three.2.1] at CA
  have hbx := At.made (kA tags ta tc) w
  unfold kA at *
  unfold Ix.vals at *
  dsimp only at *
  have ht' : (0 : Int) < (tags.length : Int) := by omega
  go_enter Tryd.func38, Tryd.ntmps38
  go_wp2_with fail
  refine (CA _).mono ?_
  clear CA
  rintro e w1 ⟨rfl, rfl⟩
  go_wp2_with fail
  refine (CN _).mono ?_
  clear CN
  rintro e w1 ⟨rfl, hb1⟩
  obtain ⟨c0, c1, c2, c3, c4, c5, c6, c7⟩ := hbx.below hb1
  dsimp only at c0 c1 c2 c3 c4 c5 c6 c7
  go_wp2
  go_ret
  exact ⟨rfl, thenB (thenA (Below.refl _ _) _) hb1⟩
set_option maxHeartbeats 2000000 in
theorem right_B0 (la : Option Addr) (lc : Nat) (w : World) : Calls Tryd.prog 38 #[.agg (kB la 0 lc).vals] w fun e w' => e = .returned (.bool true) ∧ Below w.heap.size w w' := by
  have CA := fun w' => refAlign_any 2 w'
  have CN := fun w' => refName_any 2 w'
  simp only [name2] at CN
  simp only [align_three.2.2.1, align_three.2.2.2.1] at CA
  have hbx := At.made (kB la 0 lc) w
  unfold kB at *
  unfold Ix.vals at *
  dsimp only at *
  go_enter Tryd.func38, Tryd.ntmps38
  go_wp2_with fail
  refine (CA _).mono ?_
  clear CA
  rintro e w1 ⟨rfl, rfl⟩
  go_wp2_with fail
  refine (CN _).mono ?_
  clear CN
  rintro e w1 ⟨rfl, hb1⟩
  obtain ⟨c0, c1, c2, c3, c4, c5, c6, c7⟩ := hbx.below hb1
  dsimp only at c0 c1 c2 c3 c4 c5 c6 c7
  go_wp2
  go_ret
  exact ⟨rfl, thenB (thenA (Below.refl _ _) _) hb1⟩
set_option maxHeartbeats 2000000 in
theorem right_B1 (la : Option Addr) (ln lc : Nat) (ht : 0 < ln) (w : World) : Calls Tryd.prog 38 #[.agg (kB la ln lc).vals] w fun e w' => e = .returned (.bool true) ∧ Below w.heap.size w w' := by
  have CA := fun w' => refAlign_any 2 w'
  have CN := fun w' => refName_any 2 w'
  simp only [name2] at CN
  simp only [align_three.2.2.1, align_three.2.2.2.1] at CA
  have hbx := At.made (kB la ln lc) w
  unfold kB at *
  unfold Ix.vals at *
  dsimp only at *
  have ht' : (0 : Int) < (ln : Int) := by omega
  go_enter Tryd.func38, Tryd.ntmps38
  go_wp2_with fail
  refine (CA _).mono ?_
  clear CA
  rintro e w1 ⟨rfl, rfl⟩
  go_wp2_with fail
  refine (CN _).mono ?_
  clear CN
  rintro e w1 ⟨rfl, hb1⟩
  obtain ⟨c0, c1, c2, c3, c4, c5, c6, c7⟩ := hbx.below hb1
  dsimp only at c0 c1 c2 c3 c4 c5 c6 c7
  go_wp2_with fail
  refine (lists2 _).mono ?_
  rintro e w2 ⟨rfl, rfl⟩
  go_wp2
  go_ret
  exact ⟨rfl, thenB (thenA (Below.refl _ _) _) hb1⟩
set_option maxHeartbeats 2000000 in
theorem right_C  (w : World) : Calls Tryd.prog 38 #[.agg (kC).vals] w fun e w' => e = .returned (.bool true) ∧ Below w.heap.size w w' := by
  have CA := fun w' => refAlign_any 1 w'
  have CN := fun w' => refName_any 1 w'
  simp only [name1] at CN
  simp only [align_three.2.2.2.2.1, align_three.2.2.2.2.2] at CA
  have hbx := At.made (kC) w
  unfold kC at *
  unfold Ix.vals at *
  dsimp only at *
  go_enter Tryd.func38, Tryd.ntmps38
  go_wp2_with fail
  refine (CA _).mono ?_
  clear CA
  rintro e w1 ⟨rfl, rfl⟩
  go_wp2_with fail
  refine (CN _).mono ?_
  clear CN
  rintro e w1 ⟨rfl, hb1⟩
  obtain ⟨c0, c1, c2, c3, c4, c5, c6, c7⟩ := hbx.below hb1
  dsimp only at c0 c1 c2 c3 c4 c5 c6 c7
  go_wp2
  go_ret
  exact ⟨rfl, thenB (thenA (Below.refl _ _) _) hb1⟩
theorem right_any (x : Ix) (h : Good x) (w : World) : Calls Tryd.prog 38 #[.agg x.vals] w fun e w' => e = .returned (.bool true) ∧ Below w.heap.size w w' := by
  rcases h with ⟨tags, ta, tc, rfl⟩ | ⟨la, ln, lc, rfl⟩ | rfl
  · by_cases ht : 0 < tags.length
    · exact right_A1 tags ta tc ht w
    · obtain rfl : tags = [] := List.eq_nil_of_length_eq_zero (by omega)
      exact right_A0 ta tc w
  · by_cases ht : 0 < ln
    · exact right_B1 la ln lc ht w
    · obtain rfl : ln = 0 := by omega
      exact right_B0 la lc w
  · exact right_C w
set_option maxHeartbeats 1600000 in
theorem refAll_any : ∀ (m : Nat) (t : Il) (a : Option Addr) (len c : Nat) (w : World), t.count ≤ m → ListAt w.heap.size w a len t → len ≤ 140737488351232 → t.count ≤ 4611686018427387900 → GoodT t →
    Calls Tryd.prog 28 #[.slice a len c] w fun e w' => e = .returned (.bool true) ∧ Below w.heap.size w w' := by
  intro m
  induction m with
  | zero =>
    intro t a len c w hm hL hlen hbig hgood
    cases t with
    | cons x l e r => simp only [Il.count] at hm; omega
    | nil =>
      have h0 : len = 0 := hL.1.symm
      subst h0
      clear hm hL hlen hbig
      go_enter Tryd.func28, Tryd.ntmps28
      go_wp2
      go_loopw [3] (fun si wr => si = .int .i64 0 ∧ wr = w) (fun _ _ => 0)
      case atStart => exact ⟨rfl, rfl⟩
      case round =>
        obtain ⟨rfl, rfl⟩ := hrel
        go_wp2
        go_ret
        exact ⟨rfl, Below.refl _ _⟩
  | succ m ih =>
    intro t a len c w hm hL hlen hbig hgood
    obtain ⟨hL1, hL2⟩ := hL
    rcases hL2 with rfl | ⟨b, off, rfl, hi⟩
    · have h0 : len = 0 := hL1.symm
      subst h0
      clear ih hm hL1 hlen hbig
      go_enter Tryd.func28, Tryd.ntmps28
      go_wp2
      go_loopw [3] (fun si wr => si = .int .i64 0 ∧ wr = w) (fun _ _ => 0)
      case atStart => exact ⟨rfl, rfl⟩
      case round =>
        obtain ⟨rfl, rfl⟩ := hrel
        go_wp2
        go_ret
        exact ⟨rfl, Below.refl _ _⟩
    · have HG := hid hgood
      have HM := hid hm
      have HB := hid hbig
      have HL1 := hid hL1
      have HI := hid hi
      clear hm hbig hL1 hi hgood
      go_enter Tryd.func28, Tryd.ntmps28
      go_wp2
      go_loopw [3] (fun si wr => ∃ (k : Nat) (rest : Il), si = .int .i64 k ∧ k ≤ len ∧ Hid (k + rest.len = len ∧ rest.count ≤ t.count ∧ GoodT rest) ∧ Hid (Items w.heap.size w b (off + k * 8) rest) ∧ Below w.heap.size w wr)
        (fun si _ => len - (intOf si).toNat)
      case atStart => exact ⟨0, t, rfl, Nat.zero_le _, ⟨by have := HL1.out; omega, Nat.le_refl _, HG.out⟩, by simpa using HI, Below.refl _ _⟩
      case round =>
        obtain ⟨k, rest, rfl, hk, HR, HIR, hb⟩ := hrel
        cases rest with
        | nil =>
          obtain ⟨r1, _, _⟩ := HR.out
          have hkl : k = len := by simpa [Il.len] using r1
          subst hkl
          go_wp2
          go_ret
          exact ⟨rfl, hb⟩
        | cons x tl te r =>
          have hir := Items.below hb HIR.out
          obtain ⟨hbn, hx, ⟨c0, c1, c2, c3, c4, c5, c6, c7⟩, _⟩ := hir
          have hir0 := HIR.out
          obtain ⟨_, _, _, ht, hLl, hLe, hir'⟩ := hir0
          have hlt : k < len := by have := HR.out.1; simp only [Il.len] at this; omega
          have hLn := hx.ln
          have hEn := hx.en
          have hcnt : tl.count + te.count + 1 ≤ m + 1 ∧ tl.count ≤ 4611686018427387900 ∧ te.count ≤ 4611686018427387900 := by
            have h1 := HR.out.2.1
            have h2 := HM.out
            have h3 := HB.out
            simp only [Il.count] at h1
            omega
          obtain ⟨k1, k2, k3⟩ := hcnt
          have hgr := HR.out.2.2
          obtain ⟨gx, gl, ge, gr⟩ := hgr
          have N1 := fun w' => right_any x gx w'
          have N2 := fun w' (hb' : Below w.heap.size w w') => ih tl x.la x.ln x.lc w' (by omega) (ListAt.on hLl hb') hLn k2 gl
          have N3 := fun w' (hb' : Below w.heap.size w w') => ih te x.ea x.en x.ec w' (by omega) (ListAt.on hLe hb') hEn k3 ge
          have GR := hid gr
          have H1 := hid N1
          have H2 := hid N2
          have H3 := hid N3
          unfold Ix.vals at H1
          clear N1 N2 N3 ih k1 k2 k3 hLl hLe gx gl ge gr
          go_wp2_with fail
          refine (H1.out _).mono ?_
          clear H1
          rintro e1 w3 ⟨rfl, hb3⟩
          have hbW := thenB hb hb3
          have d6 := keep (w1 := w3) hb3 c6
          have d7 := keep (w1 := w3) hb3 c7
          go_wp2_with fail
          refine (H2.out _ hbW).mono ?_
          clear H2
          rintro e1 w4 ⟨rfl, hb4⟩
          have hbX := thenB hbW hb4
          have e7 := keep (w1 := w4) hb4 d7
          go_wp2_with fail
          refine (H3.out _ hbX).mono ?_
          clear H3
          rintro e1 w5 ⟨rfl, hb5⟩
          have hbY := thenB hbX hb5
          go_wp2
          go_roundw
          case rel =>
            exact ⟨k + 1, r, by simp, by omega, ⟨by have := HR.out.1; simp only [Il.len] at this; omega, by have := HR.out.2.1; simp only [Il.count] at this; omega, GR.out⟩, by rw [show off + (k + 1) * 8 = off + k * 8 + 8 by omega]; exact hir', hbY⟩
          case measure => simp [intOf]; omega

def refP (t : Il) : Int := if 262144 < t.count ∨ 900 < t.deep ∨ t.tags = true then 141 else 0
theorem refP_check {t : Il} (h : GoodT t) : checkP t = refP t := by unfold checkP refP; rw [good_all t h]; simp
set_option maxHeartbeats 1600000 in
theorem refCheck_any (t : Il) (a : Option Addr) (len c : Nat) (w : World) (hL : ListAt w.heap.size w a len t) (hlen : len ≤ 140737488351232) (hbig : t.count ≤ 4611686018427387900) (hg : GoodT t) :
    Calls Tryd.prog 16 #[.slice a len c] w fun e w' => e = .returned (.int .i64 (refP t)) ∧ Below w.heap.size w w' := by
  have CA := fun w' (h : ListAt w'.heap.size w' a len t) => refAll_any t.count t a len c w' (Nat.le_refl _) h hlen hbig hg
  have CN := fun w' (h : ListAt w'.heap.size w' a len t) => refCount_any t.count t a len c w' (Nat.le_refl _) h hlen hbig
  have CD := fun w' (h : ListAt w'.heap.size w' a len t) => refDeep_any t.count t a len c w' (Nat.le_refl _) h hlen hbig
  have CT := fun w' (h : ListAt w'.heap.size w' a len t) => refTags_any t.count t a len c w' (Nat.le_refl _) h hlen hbig
  unfold refP
  obtain ⟨n, hn⟩ : ∃ n : Int, (t.count : Int) = n := ⟨_, rfl⟩
  obtain ⟨d, hd⟩ : ∃ d : Int, (t.deep : Int) = d := ⟨_, rfl⟩
  obtain ⟨g, hgt⟩ : ∃ g, t.tags = g := ⟨_, rfl⟩
  simp only [hn] at CN
  simp only [hd] at CD
  simp only [hgt] at CT
  have hR : (if 262144 < t.count ∨ 900 < t.deep ∨ t.tags = true then (141 : Int) else 0) = if 262144 < n ∨ 900 < d ∨ g = true then 141 else 0 := by
    rw [hgt, ← hn, ← hd]
    congr 1
    simp only [eq_iff_iff]
    constructor <;> (rintro (h | h | h)) <;> first | exact .inl (by omega) | exact .inr (.inl (by omega)) | exact .inr (.inr h)
  rw [hR]
  clear hR hn hd hgt hg hbig hlen
  have C1 := hid CA
  have C2 := hid CN
  have C3 := hid CD
  have C4 := hid CT
  clear CA CN CD CT
  by_cases h1 : 262144 < n
  · rw [if_pos (.inl h1)]
    go_enter Tryd.func16, Tryd.ntmps16
    go_wp2_with fail
    refine (C1.out _ hL).mono ?_
    rintro e w1 ⟨rfl, hb1⟩
    go_wp2_with fail
    refine (C2.out _ (hL.on hb1)).mono ?_
    rintro e w2 ⟨rfl, hb2⟩
    go_wp2
    go_ret
    exact ⟨rfl, thenB hb1 hb2⟩
  · have h1' : n ≤ 262144 := by omega
    by_cases h2 : 900 < d
    · rw [if_pos (.inr (.inl h2))]
      go_enter Tryd.func16, Tryd.ntmps16
      go_wp2_with fail
      refine (C1.out _ hL).mono ?_
      rintro e w1 ⟨rfl, hb1⟩
      go_wp2_with fail
      refine (C2.out _ (hL.on hb1)).mono ?_
      rintro e w2 ⟨rfl, hb2⟩
      go_wp2_with fail
      refine (C3.out _ ((hL.on hb1).on hb2)).mono ?_
      rintro e w3 ⟨rfl, hb3⟩
      go_wp2
      go_ret
      exact ⟨rfl, thenB (thenB hb1 hb2) hb3⟩
    · have h2' : d ≤ 900 := by omega
      have hR : (if 262144 < n ∨ 900 < d ∨ g = true then (141 : Int) else 0) = if g then 141 else 0 := by simp [h1, h2]
      rw [hR]
      clear hR
      cases g
      all_goals
        go_enter Tryd.func16, Tryd.ntmps16
        go_wp2_with fail
        refine (C1.out _ hL).mono ?_
        rintro e w1 ⟨rfl, hb1⟩
        go_wp2_with fail
        refine (C2.out _ (hL.on hb1)).mono ?_
        rintro e w2 ⟨rfl, hb2⟩
        go_wp2_with fail
        refine (C3.out _ ((hL.on hb1).on hb2)).mono ?_
        rintro e w3 ⟨rfl, hb3⟩
        go_wp2_with fail
        refine (C4.out _ (((hL.on hb1).on hb2).on hb3)).mono ?_
        rintro e w4 ⟨rfl, hb4⟩
        go_wp2
        go_ret
        exact ⟨rfl, thenB (thenB (thenB hb1 hb2) hb3) hb4⟩
end Go.Proofs.YtolbdioijbdlmaaDoor.Instr
