/-
  BODY: BodyBack.
-/
import Derived.Test.YtcjamlgdidiaeaaDoorBodyAwake
import Derived.Test.YtcjamlgdidiaeaaDoorBodyCodeP
import Derived.Test.YtcjamlgdidiaeaaDoorBodyCodeB
import Derived.Test.YtcjamlgdidiaeaaDoorBodyOpen
import Derived.Test.YtcjamlgdidiaeaaDoorInstrKit
namespace Go.Proofs.YtcjamlgdidiaeaaDoor.Body
open Go.RowKit Go.Proofs.YtcjamlgdidiaeaaDoor.Instr Go.Proofs.YtcjamlgdidiaeaaDoor.Leb

set_option maxRecDepth 100000 in
set_option maxHeartbeats 1600000 in
theorem back_big (w : World) (n : Int) (a : Option Addr) (len cap : Nat) (t : Il) (hl : ListAt w.heap.size w a len t) (hx : len ≤ 140737488351232) (av : Option Addr) (lb cb : Nat) (hT : Nams w) (hg : ¬ t.go 0 2000 ≤ 2000 ∨ 3000 < lb) :
    Calls Tryd.prog 6 #[.agg #[.int .i64 n, .slice a len cap], .slice av lb cb] w fun e w' => e = .returned (.bool true) ∧ Below w.heap.size w w' := by
  have IC := hid (fun w' (hb : Below w.heap.size w w') => Instrs_any t.count t a len cap 2000 w' (Nat.le_refl _) (hl.on hb) hx (by omega) (by omega))
  obtain ⟨g, hgg⟩ : ∃ g, t.go 0 2000 = g := ⟨_, rfl⟩
  rw [hgg] at IC hg
  have HT := hid hT
  have X0 := hid (box_at w n a len cap 24)
  clear hgg hl hx hT
  have hb0 := hid (alloc_below w (.cells #[.int .i64 n, .slice a len cap] 24))
  by_cases hg2 : 2000 < g
  · clear hg
    go_enter Tryd.func6, Tryd.ntmps6
    go_wp2_with fail
    refine (awake_any _ (HT.out.below hb0.out)).mono ?_
    rintro e w1 ⟨rfl, hb1⟩
    have x1 := keep hb1 X0.out.2
    have HB1 := hid (hb0.out.trans (hb1.mono hb0.out.size))
    clear hb1 X0
    go_wp2_with fail
    refine (IC.out w1 HB1.out).mono ?_
    clear IC
    rintro e w2 ⟨rfl, rfl⟩
    go_wp2
    go_ret
    exact ⟨rfl, HB1.out⟩
  · have hlb : (3000 : Int) < (lb : Int) := by omega
    clear hg
    go_enter Tryd.func6, Tryd.ntmps6
    go_wp2_with fail
    refine (awake_any _ (HT.out.below hb0.out)).mono ?_
    rintro e w1 ⟨rfl, hb1⟩
    have x1 := keep hb1 X0.out.2
    have HB1 := hid (hb0.out.trans (hb1.mono hb0.out.size))
    clear hb1 X0
    go_wp2_with fail
    refine (IC.out w1 HB1.out).mono ?_
    clear IC
    rintro e w2 ⟨rfl, rfl⟩
    go_wp2
    go_ret
    exact ⟨rfl, HB1.out⟩

set_option maxRecDepth 100000 in
set_option maxHeartbeats 1600000 in
theorem back_nn (w : World) (n : Int) (a : Option Addr) (len cap : Nat) (t : Il) (hl : ListAt w.heap.size w a len t) (hx : len ≤ 140737488351232) (av : Option Addr) (lb cb : Nat) (zs : List Int) (hz : Bytes w av zs) (hlen : zs.length = lb) (hT : Nams w) (hg : t.go 0 2000 ≤ 2000) (hlb : lb ≤ 3000)
    (hel : (encL t).length ≤ 90000) (h0 : checkC n t ≠ 0) (h1 : (codeP zs 0).s.2.1 ≠ 0) :
    Calls Tryd.prog 6 #[.agg #[.int .i64 n, .slice a len cap], .slice av lb cb] w fun e w' => e = .returned (.bool true) ∧ Below w.heap.size w w' := by
  have hw := (go_bounds t 0 2000 (by omega) (by omega) (by omega)).2.2 hg
  have hwc := weight_count t
  have IC := hid (fun w' (hb : Below w.heap.size w w') => Instrs_any t.count t a len cap 2000 w' (Nat.le_refl _) (hl.on hb) hx (by omega) (by omega))
  have PC := hid (fun w' (hb : Below w.heap.size w w') => PutCode_any n t a len cap w' (hl.on hb) hx (hT.below hb) (by omega) hel)
  have GC := hid (fun w' (hb : Below w.heap.size w w') => GetCode_any av lb cb zs 0 w' hlen (Bytes.below hz hb) (hT.below hb))
  obtain ⟨g, hgg⟩ : ∃ g, t.go 0 2000 = g := ⟨_, rfl⟩
  rw [hgg] at IC hg
  have hput : putC n t = [] := by unfold putC; rw [if_neg h0]
  obtain ⟨q, hq⟩ : ∃ q, checkC n t = q := ⟨_, rfl⟩
  rw [hput, hq] at PC
  rw [hq] at h0
  have hcq : codeQ zs 0 = (0, 0, (codeP zs 0).s, .nil) := by unfold codeQ; rw [if_neg h1]
  rw [hcq] at GC
  obtain ⟨z, ez, fz⟩ : ∃ z e f, (codeP zs 0).s = (z, e, f) := ⟨_, _, _, rfl⟩
  obtain ⟨fz, hs⟩ := fz
  rw [hs] at GC h1
  dsimp only at h1 GC
  have HT := hid hT
  have X0 := hid (box_at w n a len cap 24)
  clear hgg hl hx hT hw hwc hq hput hz hlen hel hcq hs
  have hb0 := hid (alloc_below w (.cells #[.int .i64 n, .slice a len cap] 24))
  go_enter Tryd.func6, Tryd.ntmps6
  go_wp2_with fail
  refine (awake_any _ (HT.out.below hb0.out)).mono ?_
  rintro e w1 ⟨rfl, hb1⟩
  have x0 := keep hb1 X0.out.1
  have x1 := keep hb1 X0.out.2
  have HB1 := hid (hb0.out.trans (hb1.mono hb0.out.size))
  clear hb1 X0
  go_wp2_with fail
  refine (IC.out w1 HB1.out).mono ?_
  clear IC
  rintro e w2 ⟨rfl, rfl⟩
  go_wp2_with fail
  refine (PC.out w1 HB1.out).mono ?_
  clear PC
  rintro e w2 ⟨v, rfl, ho, hb2⟩
  have HB2 := hid (HB1.out.trans (hb2.mono HB1.out.size))
  clear ho hb2 HB1 x0 x1
  go_wp2_with fail
  refine (GC.out w2 HB2.out).mono ?_
  clear GC
  rintro e w3 ⟨a3, l3, c3, t3, rfl, hb3, _, _⟩
  have HB3 := hid (HB2.out.trans (hb3.mono HB2.out.size))
  clear hb3 HB2
  go_wp2
  go_ret
  exact ⟨rfl, thenA (thenA HB3.out _) _⟩
theorem check_bare' (t : Il) : checkP t.bare = checkP t := by unfold checkP; simp only [bare_all, bare_count, bare_deep, bare_tags]
theorem encL_bare : ∀ t : Il, encL t.bare = encL t
  | .nil => rfl
  | .cons x l e r => by
    have h : encRest x.bare = encRest x := rfl
    simp only [Il.bare, encL, h, encL_bare l, encL_bare e, encL_bare r]
    rfl
theorem len_count : ∀ t : Il, t.len ≤ t.count
  | .nil => Nat.le_refl _
  | .cons x l e r => by
    have := len_count r
    simp only [Il.len, Il.count]
    omega
theorem code_bytes {m : Int} {T : Il} (h : MayT T) : ∀ z ∈ codeL m T, 0 ≤ z ∧ z < 256 := by
  intro z hz
  rcases List.mem_append.1 hz with hz | hz
  · exact loc_bytes m z hz
  · exact encP_bytesC h z hz
/-- What is read in the second half, and what comes of it. -/
structure Back2 (zs : List Int) (m q : Int) (T : Il) : Prop where
  got : codeQ zs 0 = (m, q, (q, 0, 0), T)
  m0 : 0 ≤ m
  m1 : m ≤ 50000
  may : MayT T
  ok : checkP T = 0
  few : ((codeL m T).length : Int) ≤ q
  low : q ≤ zs.length
theorem half_of {zs : List Int} (hz : ∀ c ∈ zs, 0 ≤ c ∧ c < 256) (h : (codeP zs 0).s.2.1 = 0) : ∃ m q T, Back2 zs m q T := by
  obtain ⟨b1, b2, b3, b4, b5, b6⟩ := code_back hz h
  have hg : Kind.Good zs (codeP zs 0).s := (listF_fine zs 1 false 0 _ (locR_good (Kind.startR_good zs 0))).1
  have hq : codeQ zs 0 = ((codeQ zs 0).1, (codeP zs 0).s.1, ((codeP zs 0).s.1, 0, 0), (codeP zs 0).t) := by unfold codeQ; rw [if_pos h]
  exact ⟨_, _, _, hq, b1, b2, b3, b4, b5, (hg h).2.1⟩
/-- The list got is written as what was got, and read again. -/
theorem half_put {zs : List Int} {m q : Int} {T t : Il} (h : Back2 zs m q T) (hb : t.bare = T) (hl : zs.length ≤ 3000) :
    checkC m t = 0 ∧ putC m t = codeL m T ∧ (encL t).length ≤ 90000 ∧ t.count ≤ 262144 ∧ t.len ≤ 262144 ∧ codeQ (codeL m T) 0 = (m, ((codeL m T).length : Int), (((codeL m T).length : Int), 0, 0), T.bare) := by
  have hc : checkP t = 0 := by rw [← check_bare', hb]; exact h.ok
  have he : encL t = encL T := by rw [← encL_bare, hb]
  have hcc : checkC m t = 0 := by
    unfold checkC
    have h0 := h.m0
    have h1 := h.m1
    rw [if_neg (by omega)]
    exact hc
  have hce : codeL m t = codeL m T := by unfold codeL encP; rw [he]
  obtain ⟨_, k2, k3, _⟩ := check_parts hc
  obtain ⟨_, j2, j3, _⟩ := check_parts h.ok
  have hlen : (codeL m T).length = (locL m).length + (encL T).length + 1 := by unfold codeL encP; simp only [List.length_append, List.length_cons, List.length_nil]; omega
  have h1 := h.few
  have h2 := h.low
  have ht := code_there (zs := codeL m T) (r := []) (p := 0) (Nat.zero_le _) h.m0 h.m1 h.may j3 j2 (by simp)
  refine ⟨hcc, ?_, ?_, k2, ?_, ?_⟩
  · unfold putC; rw [if_pos hcc, hce]
  · rw [he]; omega
  · have := len_count t; omega
  · simpa using ht

set_option maxRecDepth 100000 in
set_option maxHeartbeats 1600000 in
theorem back_ny (w : World) (n : Int) (a : Option Addr) (len cap : Nat) (t : Il) (hl : ListAt w.heap.size w a len t) (hx : len ≤ 140737488351232) (av : Option Addr) (lb cb : Nat) (zs : List Int) (hz : Bytes w av zs) (hlen : zs.length = lb) (hT : Nams w) (hg : t.go 0 2000 ≤ 2000) (hlb : lb ≤ 3000)
    (hel : (encL t).length ≤ 90000) (h0 : checkC n t ≠ 0) {m q' : Int} {T : Il} (h1 : Back2 zs m q' T) :
    Calls Tryd.prog 6 #[.agg #[.int .i64 n, .slice a len cap], .slice av lb cb] w fun e w' => e = .returned (.bool true) ∧ Below w.heap.size w w' := by
  have hw := (go_bounds t 0 2000 (by omega) (by omega) (by omega)).2.2 hg
  have hwc := weight_count t
  have IC := hid (fun w' (hb : Below w.heap.size w w') => Instrs_any t.count t a len cap 2000 w' (Nat.le_refl _) (hl.on hb) hx (by omega) (by omega))
  have PC := hid (fun w' (hb : Below w.heap.size w w') => PutCode_any n t a len cap w' (hl.on hb) hx (hT.below hb) (by omega) hel)
  have GC := hid (fun w' (hb : Below w.heap.size w w') => GetCode_any av lb cb zs 0 w' hlen (Bytes.below hz hb) (hT.below hb))
  obtain ⟨g, hgg⟩ : ∃ g, t.go 0 2000 = g := ⟨_, rfl⟩
  rw [hgg] at IC hg
  have hput : putC n t = [] := by unfold putC; rw [if_neg h0]
  obtain ⟨q, hq⟩ : ∃ q, checkC n t = q := ⟨_, rfl⟩
  rw [hput, hq] at PC
  rw [hq] at h0
  rw [h1.got] at GC
  have hz3 : zs.length ≤ 3000 := by omega
  have HP := hid (fun t3 hb => half_put h1 (t := t3) hb hz3)
  have HF := hid h1.few
  have HMAY := hid h1.may
  have HQ := hid (show q' ≤ 3000 by have := h1.low; omega)
  clear h1 hz3
  have HT := hid hT
  have X0 := hid (box_at w n a len cap 24)
  clear hgg hl hx hT hw hwc hq hput hz hlen hel
  have hb0 := hid (alloc_below w (.cells #[.int .i64 n, .slice a len cap] 24))
  go_enter Tryd.func6, Tryd.ntmps6
  go_wp2_with fail
  refine (awake_any _ (HT.out.below hb0.out)).mono ?_
  rintro e w1 ⟨rfl, hb1⟩
  have x0 := keep hb1 X0.out.1
  have x1 := keep hb1 X0.out.2
  have HB1 := hid (hb0.out.trans (hb1.mono hb0.out.size))
  clear hb1 X0
  go_wp2_with fail
  refine (IC.out w1 HB1.out).mono ?_
  clear IC
  rintro e w2 ⟨rfl, rfl⟩
  go_wp2_with fail
  refine (PC.out w1 HB1.out).mono ?_
  clear PC
  rintro e w2 ⟨v, rfl, ho, hb2⟩
  have HB2 := hid (HB1.out.trans (hb2.mono HB1.out.size))
  clear ho hb2 HB1 x0 x1
  go_wp2_with fail
  refine (GC.out w2 HB2.out).mono ?_
  clear GC
  rintro e w3 ⟨a3, l3, c3, t3, rfl, hb3, hF3, ht3⟩
  have HB3 := hid (HB2.out.trans (hb3.mono HB2.out.size))
  obtain ⟨u1, u2, u3, u4, u5, u6⟩ := HP.out t3 ht3
  have hl3 : t3.len = l3 := hF3.lst.1
  have hb34 : Below w3.heap.size w3 ((w3.alloc (.cells #[.int .i64 m, .slice a3 l3 c3] 24)).alloc (.cells #[.int .i64 0, .int .i64 0] 38)) := thenA (thenA (Below.refl _ _) _) _
  have P2 := PutCode_any m t3 a3 l3 c3 ((w3.alloc (.cells #[.int .i64 m, .slice a3 l3 c3] 24)).alloc (.cells #[.int .i64 0, .int .i64 0] 38)) (hF3.lst.on hb34) (by omega) (HT.out.below (HB3.out.trans (hb34.mono HB3.out.size))) (by omega) u3
  rw [u1, u2] at P2
  obtain ⟨ys, hys⟩ : ∃ ys, codeL m T = ys := ⟨_, rfl⟩
  rw [hys] at P2 u6
  have HF2 := hid (show (ys.length : Int) ≤ q' by rw [← hys]; exact HF.out)
  have HYB := hid (show ∀ z ∈ ys, 0 ≤ z ∧ z < 256 by rw [← hys]; exact code_bytes HMAY.out)
  have P3 := hid P2
  have U6 := hid u6
  have L3 := hid hF3.lst
  have HT3 := hid ht3
  have HL3 := hid (show l3 ≤ 262144 by omega)
  clear hb3 hF3 ht3 u1 u2 u3 u4 u5 u6 hl3 P2 hys HP HF HB2 hb34
  go_wp2_with fail
  refine P3.out.mono ?_
  clear P3
  rintro e w4 ⟨v4, rfl, ho4, hb4⟩
  obtain ⟨L, hL⟩ : ∃ L, ys.length = L := ⟨_, rfl⟩
  obtain ⟨a4, c4, rfl⟩ := ho4.sliceN hL
  rw [hL] at HF2 U6
  have hq3 := HF2.out
  have hb34 : Below w3.heap.size w3 w4 := (thenA (thenA (Below.refl w3.heap.size w3) (.cells #[.int .i64 m, .slice a3 l3 c3] 24)) (.cells #[.int .i64 0, .int .i64 0] 38)).trans (hb4.mono (by simp; omega))
  have D4 := hid (((Duo.made w3 (.int .i64 m) (.slice a3 l3 c3) 24).below (alloc_below _ (.cells #[.int .i64 0, .int .i64 0] 38))).below hb4)
  have HB4 := hid (HB3.out.trans (hb34.mono HB3.out.size))
  have L4 := hid (L3.out.on hb34)
  have G5 := GetCode_any a4 L c4 ys 0 w4 hL (ho4.bytes HYB.out (by have := HQ.out; omega)) (HT.out.below HB4.out)
  rw [U6.out] at G5
  have G6 := hid G5
  clear hb4 ho4 hL hb34 HB3 L3 G5 U6 HYB HF2
  go_wp2_with fail
  refine G6.out.mono ?_
  clear G6
  rintro e w5 ⟨a5, l5, c5, t5, rfl, hb5, hF5, ht5⟩
  have hl5 : l5 = l3 := by rw [← hF5.lst.1, ← bare_len, ht5, ← HT3.out, bare_bare, bare_len]; exact L4.out.1
  subst hl5
  have d5 := D4.out.below hb5
  have e0 := keepA (keepA d5.c0 (.cells #[.int .i64 m, .slice a5 l5 c5] 24)) (.cells #[.int .i64 0, .int .i64 0] 38)
  have e1 := keepA (keepA d5.c1 (.cells #[.int .i64 m, .slice a5 l5 c5] 24)) (.cells #[.int .i64 0, .int .i64 0] 38)
  have hb56 : Below w5.heap.size w5 ((w5.alloc (.cells #[.int .i64 m, .slice a5 l5 c5] 24)).alloc (.cells #[.int .i64 0, .int .i64 0] 38)) := thenA (thenA (Below.refl _ _) _) _
  have HB5 := hid (HB4.out.trans (hb5.mono HB4.out.size))
  have HB6 := hid (HB5.out.trans (hb56.mono HB5.out.size))
  have SI := hid (SameInstrs_yes ((w5.alloc (.cells #[.int .i64 m, .slice a5 l5 c5] 24)).alloc (.cells #[.int .i64 0, .int .i64 0] 38)).heap.size t5.count t5 t3 a5 a3 l5 c5 c3 _ (Nat.le_refl _) (hF5.lst.on hb56) ((L4.out.on hb5).on hb56) (by rw [ht5, ← HT3.out, bare_bare]) (Nat.le_refl _) (by have := HL3.out; omega))
  clear hb5 hF5 ht5 d5 D4 HB4 L4 hb56 HB5 HL3 HT3
  go_wp2_with fail
  refine SI.out.mono ?_
  clear SI e0 e1
  rintro e w7 ⟨rfl, hb7⟩
  have HB7 := hid (HB6.out.trans (hb7.mono HB6.out.size))
  clear hb7 HB6
  go_wp2
  go_ret
  exact ⟨rfl, HB7.out⟩
end Go.Proofs.YtcjamlgdidiaeaaDoor.Body
