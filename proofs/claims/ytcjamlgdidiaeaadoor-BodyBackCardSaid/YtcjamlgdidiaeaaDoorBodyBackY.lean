/-
  BODY: BodyBack, where the code may be put, and the walk in all. (Written by wip/tools/gen_bodybacky.py.)
-/
import Derived.Test.YtcjamlgdidiaeaaDoorBodyBack
import Derived.Test.YtcjamlgdidiaeaaDoorAppend
namespace Go.Proofs.YtcjamlgdidiaeaaDoor.Body
open Go.RowKit Go.Proofs.YtcjamlgdidiaeaaDoor.Instr Go.Proofs.YtcjamlgdidiaeaaDoor.Leb

theorem tags_lenY (l : List Int) : (l.flatMap encU).length ≤ 5 * l.length := by
  induction l with
  | nil => simp
  | cons n l ih =>
    simp only [List.flatMap_cons, List.length_append, List.length_cons]
    have := (encU_lens n).1
    omega
theorem rest_lenY (x : Ix) : (encRest x).length ≤ 10 + 5 * x.tags.length := by
  have ha := (encU_lens x.a).1
  have hb := (encU_lens x.b).1
  have hn := (encS_lens x.n).1
  have ht := (encU_lens (x.tags.length : Int)).1
  have hl := tags_lenY x.tags
  unfold encRest encTags
  split <;> (try simp only [List.length_append, List.length_cons, List.length_nil]) <;> omega
theorem encL_lenY : ∀ t : Il, (encL t).length ≤ 13 * t.weight
  | .nil => by simp [encL]
  | .cons x l e r => by
    have h0 := rest_lenY x
    have h1 := encL_lenY l
    have h2 := encL_lenY e
    have h3 := encL_lenY r
    simp only [encL, Il.weight]
    split <;> (try split) <;> simp only [List.length_append, List.length_cons, List.length_nil] <;> omega
theorem half_one {n : Int} {t : Il} (hm : checkC n t = 0 → MayT t) (h0 : checkC n t = 0) :
    putC n t = codeL n t ∧ MayT t ∧ ∀ zs, codeQ ([9] ++ codeL n t ++ zs) 1 = (n, 1 + ((codeL n t).length : Int), (1 + ((codeL n t).length : Int), 0, 0), t.bare) := by
  have hn : 0 ≤ n ∧ n ≤ 50000 ∧ checkP t = 0 := by
    unfold checkC at h0
    split at h0
    · omega
    · refine ⟨by omega, by omega, h0⟩
  obtain ⟨_, k2, k3, _⟩ := check_parts hn.2.2
  refine ⟨by unfold putC; rw [if_pos h0], hm h0, fun zs => ?_⟩
  have ht := code_there (zs := [9] ++ codeL n t ++ zs) (r := zs) (p := 1) (by simp) hn.1 hn.2.1 (hm h0) k3 k2 (by simp)
  have e : ((1 + (codeL n t).length : Nat) : Int) = 1 + ((codeL n t).length : Int) := by omega
  rw [e] at ht
  exact ht
theorem may_checkC {n₀ : Nat} {w : World} {a : Option Addr} {k : Nat} {n : Int} {t : Il} (h : ListAt n₀ w a k t) (hc : checkC n t = 0) : MayT t := by
  unfold checkC at hc
  split at hc
  · omega
  · exact mayT_list h hc
theorem own_nine (w : World) : Own w.heap.size (w.alloc (.cells #[.int .u8 9] 5)) (.slice (some ⟨w.heap.size, 0, none⟩) 1 1) [9] := World.ownsRow_lit (base := w.heap.size) (e := 5) (size := 1) w #[.int .u8 9] 1 (Nat.le_refl _) (by decide) rfl

set_option maxRecDepth 100000 in
set_option maxHeartbeats 3200000 in
theorem back_yn (w : World) (n : Int) (a : Option Addr) (len cap : Nat) (t : Il) (hl : ListAt w.heap.size w a len t) (hx : len ≤ 140737488351232) (av : Option Addr) (lb cb : Nat) (zs : List Int) (hz : Bytes w av zs) (hlen : zs.length = lb) (hnil : av = none → cb = 0) (hT : Nams w) (hg : t.go 0 2000 ≤ 2000) (hlb : lb ≤ 3000)
    (hel : (encL t).length ≤ 90000) (h0 : checkC n t = 0) (h1 : (codeP zs 0).s.2.1 ≠ 0) :
    Calls Tryd.prog 6 #[.agg #[.int .i64 n, .slice a len cap], .slice av lb cb] w fun e w' => e = .returned (.bool true) ∧ Below w.heap.size w w' := by
  have hw := (go_bounds t 0 2000 (by omega) (by omega) (by omega)).2.2 hg
  have hwc := weight_count t
  have IC := hid (fun w' (hb : Below w.heap.size w w') => Instrs_any t.count t a len cap 2000 w' (Nat.le_refl _) (hl.on hb) hx (by omega) (by omega))
  have PC := hid (fun w' (hb : Below w.heap.size w w') => PutCode_any n t a len cap w' (hl.on hb) hx (hT.below hb) (by omega) hel)
  have GC := hid (fun w' (hb : Below w.heap.size w w') => GetCode_any av lb cb zs 0 w' hlen (Bytes.below hz hb) (hT.below hb))
  obtain ⟨g, hgg⟩ : ∃ g, t.go 0 2000 = g := ⟨_, rfl⟩
  rw [hgg] at IC hg
  obtain ⟨hput, hmay, hq9⟩ := half_one (may_checkC hl) h0
  rw [hput, h0] at PC
  have hyb : ∀ z ∈ codeL n t, 0 ≤ z ∧ z < 256 := code_bytes hmay
  have hyl : (codeL n t).length ≤ 90010 := by
    have := (loc_len n).1
    unfold codeL encP
    simp only [List.length_append, List.length_cons, List.length_nil]
    omega
  obtain ⟨y0, hy0⟩ : ∃ y, codeL n t = y := ⟨_, rfl⟩
  rw [hy0] at PC hq9 hyb hyl
  obtain ⟨L0, hL0⟩ : ∃ L, y0.length = L := ⟨_, rfl⟩
  rw [hL0] at hq9 hyl
  have YB := hid hyb
  have Q9 := hid hq9
  have HL0 := hid hL0
  have HNIL := hid hnil
  have HLEN := hid hlen
  have HZB := hid hz
  have HLB := hid hlb
  have HX := hid hx
  have hcq : codeQ zs 0 = (0, 0, (codeP zs 0).s, .nil) := by unfold codeQ; rw [if_neg h1]
  rw [hcq] at GC
  obtain ⟨z, ez, fz, hs⟩ : ∃ z e f, (codeP zs 0).s = (z, e, f) := ⟨_, _, _, rfl⟩
  rw [hs] at GC h1
  dsimp only at h1 GC
  clear hcq hs
  have LT := hid hl
  have HT := hid hT
  have X0 := hid (box_at w n a len cap 24)
  clear hgg hl hx hT hw hwc h0 hput hz hlen hel hmay hq9 hyb hy0 hL0 hnil
  have hb0 := hid (alloc_below w (.cells #[.int .i64 n, .slice a len cap] 24))
  go_enter Tryd.func6, Tryd.ntmps6
  go_wp2_with fail
  refine (awake_any _ (HT.out.below hb0.out)).mono ?_
  rintro e w1 ⟨rfl, hb1⟩
  have x0 := keep hb1 X0.out.1
  have x1 := keep hb1 X0.out.2
  have HB1 := hid (hb0.out.trans (hb1.mono hb0.out.size))
  clear hb1 X0
  go_wp2_with fail
  refine (IC.out w1 HB1.out).mono ?_
  clear IC
  rintro e w2 ⟨rfl, rfl⟩
  go_wp2_with fail
  refine (PC.out w1 HB1.out).mono ?_
  clear PC
  rintro e p2 ⟨v, rfl, ho, hb2⟩
  obtain ⟨a2, c2, rfl⟩ := ho.sliceN HL0.out
  have HN2 := ho.nil
  have HX2 := hid (ho.bytes YB.out (by rw [HL0.out]; omega))
  have x0 := keep hb2 x0
  have x1 := keep hb2 x1
  have HB2 := hid (HB1.out.trans (hb2.mono HB1.out.size))
  have HZ2 := hid (HZB.out.below HB2.out)
  have OW := hid (own_nine p2)
  have BW := hid (alloc_below p2 (.cells #[.int .u8 9] 5))
  have HX3 := hid (HX2.out.below BW.out)
  have HZ3 := hid (HZ2.out.below BW.out)
  have DX := hid (And.intro x0 x1)
  clear ho hb2 HB1 x0 x1
  go_wp2_with (first
    | (at_builtin; refine append_bytes rfl (.tmp 38) (.tmp 39) rfl rfl OW.out BW.out (by simp) _ _ _ rfl HN2.out HL0.out HX3.out (by rw [HL0.out]; simp; omega) ?_; intro v4 p4 ho4 hb4 hs4; obtain ⟨a4, c4, rfl⟩ := ho4.sliceN (n := 1 + L0) (by rw [List.length_append, HL0.out]; rfl))
    | (at_builtin; refine append_bytes rfl (.tmp 40) (.tmp 41) rfl rfl ho4 hb4 hs4 _ _ _ rfl HNIL.out HLEN.out (HZ2.out.below hb4) (by have := HLB.out; rw [List.length_append, HL0.out, HLEN.out]; simp; omega) ?_; intro v5 p5 ho5 hb5 hs5; obtain ⟨a5, c5, rfl⟩ := ho5.sliceN (n := 1 + L0 + lb) (by rw [List.length_append, List.length_append, HL0.out, HLEN.out]; rfl); clear ho4 hb4 hs4))
  have HB5 := hid (HB2.out.trans (hb5.mono HB2.out.size))
  have G5 := GetCode_any a5 (1 + L0 + lb) c5 ([9] ++ y0 ++ zs) 1 p5 (by rw [List.length_append, List.length_append, HL0.out, HLEN.out]; rfl) (ho5.bytes (fun z hm => by
    rcases List.mem_append.1 hm with hm | hm
    · rcases List.mem_append.1 hm with hm | hm
      · rw [List.mem_singleton] at hm; omega
      · exact YB.out z hm
    · exact HZB.out.byte z hm) (by have := HLB.out; rw [List.length_append, List.length_append, HL0.out, HLEN.out]; simp; omega)) (HT.out.below HB5.out)
  rw [Q9.out zs] at G5
  have x0 := keep hb5 DX.out.1
  have x1 := keep hb5 DX.out.2
  have G6 := hid G5
  clear G5 Q9 ho5 hs5 hb5 HN2 HX2 HX3 HZ2 HZ3 OW BW DX HB2 YB HL0 HLEN HNIL
  refine G6.out.mono ?_
  clear G6
  rintro e p6 ⟨a6, l6, c6, t6, rfl, hb6, hF6, ht6⟩
  have x0 := keep hb6 x0
  have x1 := keep hb6 x1
  have y0' := keepA (keepA x0 (.cells #[.int .i64 n, .slice a6 l6 c6] 24)) (.cells #[.int .i64 0, .int .i64 0] 38)
  have y1' := keepA (keepA x1 (.cells #[.int .i64 n, .slice a6 l6 c6] 24)) (.cells #[.int .i64 0, .int .i64 0] 38)
  have hb66 : Below p6.heap.size p6 ((p6.alloc (.cells #[.int .i64 n, .slice a6 l6 c6] 24)).alloc (.cells #[.int .i64 0, .int .i64 0] 38)) := thenA (thenA (Below.refl _ _) _) _
  have HB6 := hid (HB5.out.trans (hb6.mono HB5.out.size))
  have HB66 := hid (HB6.out.trans (hb66.mono HB6.out.size))
  have hl6 : l6 = len := by rw [← hF6.lst.1, ← bare_len, ht6, bare_len]; exact LT.out.1
  subst hl6
  have SJ := hid (SameInstrs_yes ((p6.alloc (.cells #[.int .i64 n, .slice a6 l6 c6] 24)).alloc (.cells #[.int .i64 0, .int .i64 0] 38)).heap.size t6.count t6 t a6 a l6 c6 cap _ (Nat.le_refl _) (hF6.lst.on hb66) (LT.out.on HB66.out) ht6 (Nat.le_refl _) HX.out)
  clear hb6 hF6 ht6 hb66 HB6 x0 x1
  go_wp2_with fail
  refine SJ.out.mono ?_
  clear SJ y0' y1'
  rintro e p7 ⟨rfl, hb7⟩
  have HBP := hid (HB66.out.trans (hb7.mono HB66.out.size))
  clear hb7 HB66 HB5
  go_wp2_with fail
  refine (GC.out p7 HBP.out).mono ?_
  clear GC
  rintro e w3 ⟨a3, l3, c3, t3, rfl, hb3, _, _⟩
  have HB3 := hid (HBP.out.trans (hb3.mono HBP.out.size))
  clear hb3 HBP
  go_wp2
  go_ret
  exact ⟨rfl, thenA (thenA HB3.out _) _⟩

set_option maxRecDepth 100000 in
set_option maxHeartbeats 3200000 in
theorem back_yy (w : World) (n : Int) (a : Option Addr) (len cap : Nat) (t : Il) (hl : ListAt w.heap.size w a len t) (hx : len ≤ 140737488351232) (av : Option Addr) (lb cb : Nat) (zs : List Int) (hz : Bytes w av zs) (hlen : zs.length = lb) (hnil : av = none → cb = 0) (hT : Nams w) (hg : t.go 0 2000 ≤ 2000) (hlb : lb ≤ 3000)
    (hel : (encL t).length ≤ 90000) (h0 : checkC n t = 0) {m q' : Int} {T : Il} (h1 : Back2 zs m q' T) :
    Calls Tryd.prog 6 #[.agg #[.int .i64 n, .slice a len cap], .slice av lb cb] w fun e w' => e = .returned (.bool true) ∧ Below w.heap.size w w' := by
  have hw := (go_bounds t 0 2000 (by omega) (by omega) (by omega)).2.2 hg
  have hwc := weight_count t
  have IC := hid (fun w' (hb : Below w.heap.size w w') => Instrs_any t.count t a len cap 2000 w' (Nat.le_refl _) (hl.on hb) hx (by omega) (by omega))
  have PC := hid (fun w' (hb : Below w.heap.size w w') => PutCode_any n t a len cap w' (hl.on hb) hx (hT.below hb) (by omega) hel)
  have GC := hid (fun w' (hb : Below w.heap.size w w') => GetCode_any av lb cb zs 0 w' hlen (Bytes.below hz hb) (hT.below hb))
  obtain ⟨g, hgg⟩ : ∃ g, t.go 0 2000 = g := ⟨_, rfl⟩
  rw [hgg] at IC hg
  obtain ⟨hput, hmay, hq9⟩ := half_one (may_checkC hl) h0
  rw [hput, h0] at PC
  have hyb : ∀ z ∈ codeL n t, 0 ≤ z ∧ z < 256 := code_bytes hmay
  have hyl : (codeL n t).length ≤ 90010 := by
    have := (loc_len n).1
    unfold codeL encP
    simp only [List.length_append, List.length_cons, List.length_nil]
    omega
  obtain ⟨y0, hy0⟩ : ∃ y, codeL n t = y := ⟨_, rfl⟩
  rw [hy0] at PC hq9 hyb hyl
  obtain ⟨L0, hL0⟩ : ∃ L, y0.length = L := ⟨_, rfl⟩
  rw [hL0] at hq9 hyl
  have YB := hid hyb
  have Q9 := hid hq9
  have HL0 := hid hL0
  have HNIL := hid hnil
  have HLEN := hid hlen
  have HZB := hid hz
  have HLB := hid hlb
  have HX := hid hx
  rw [h1.got] at GC
  have hz3 : zs.length ≤ 3000 := by omega
  have HP := hid (fun t3 hb => half_put h1 (t := t3) hb hz3)
  have HF := hid h1.few
  have HMAY := hid h1.may
  have HQ := hid (show q' ≤ 3000 by have := h1.low; omega)
  clear h1 hz3
  have LT := hid hl
  have HT := hid hT
  have X0 := hid (box_at w n a len cap 24)
  clear hgg hl hx hT hw hwc h0 hput hz hlen hel hmay hq9 hyb hy0 hL0 hnil
  have hb0 := hid (alloc_below w (.cells #[.int .i64 n, .slice a len cap] 24))
  go_enter Tryd.func6, Tryd.ntmps6
  go_wp2_with fail
  refine (awake_any _ (HT.out.below hb0.out)).mono ?_
  rintro e w1 ⟨rfl, hb1⟩
  have x0 := keep hb1 X0.out.1
  have x1 := keep hb1 X0.out.2
  have HB1 := hid (hb0.out.trans (hb1.mono hb0.out.size))
  clear hb1 X0
  go_wp2_with fail
  refine (IC.out w1 HB1.out).mono ?_
  clear IC
  rintro e w2 ⟨rfl, rfl⟩
  go_wp2_with fail
  refine (PC.out w1 HB1.out).mono ?_
  clear PC
  rintro e p2 ⟨v, rfl, ho, hb2⟩
  obtain ⟨a2, c2, rfl⟩ := ho.sliceN HL0.out
  have HN2 := ho.nil
  have HX2 := hid (ho.bytes YB.out (by rw [HL0.out]; omega))
  have x0 := keep hb2 x0
  have x1 := keep hb2 x1
  have HB2 := hid (HB1.out.trans (hb2.mono HB1.out.size))
  have HZ2 := hid (HZB.out.below HB2.out)
  have OW := hid (own_nine p2)
  have BW := hid (alloc_below p2 (.cells #[.int .u8 9] 5))
  have HX3 := hid (HX2.out.below BW.out)
  have HZ3 := hid (HZ2.out.below BW.out)
  have DX := hid (And.intro x0 x1)
  clear ho hb2 HB1 x0 x1
  go_wp2_with (first
    | (at_builtin; refine append_bytes rfl (.tmp 38) (.tmp 39) rfl rfl OW.out BW.out (by simp) _ _ _ rfl HN2.out HL0.out HX3.out (by rw [HL0.out]; simp; omega) ?_; intro v4 p4 ho4 hb4 hs4; obtain ⟨a4, c4, rfl⟩ := ho4.sliceN (n := 1 + L0) (by rw [List.length_append, HL0.out]; rfl))
    | (at_builtin; refine append_bytes rfl (.tmp 40) (.tmp 41) rfl rfl ho4 hb4 hs4 _ _ _ rfl HNIL.out HLEN.out (HZ2.out.below hb4) (by have := HLB.out; rw [List.length_append, HL0.out, HLEN.out]; simp; omega) ?_; intro v5 p5 ho5 hb5 hs5; obtain ⟨a5, c5, rfl⟩ := ho5.sliceN (n := 1 + L0 + lb) (by rw [List.length_append, List.length_append, HL0.out, HLEN.out]; rfl); clear ho4 hb4 hs4))
  have HB5 := hid (HB2.out.trans (hb5.mono HB2.out.size))
  have G5 := GetCode_any a5 (1 + L0 + lb) c5 ([9] ++ y0 ++ zs) 1 p5 (by rw [List.length_append, List.length_append, HL0.out, HLEN.out]; rfl) (ho5.bytes (fun z hm => by
    rcases List.mem_append.1 hm with hm | hm
    · rcases List.mem_append.1 hm with hm | hm
      · rw [List.mem_singleton] at hm; omega
      · exact YB.out z hm
    · exact HZB.out.byte z hm) (by have := HLB.out; rw [List.length_append, List.length_append, HL0.out, HLEN.out]; simp; omega)) (HT.out.below HB5.out)
  rw [Q9.out zs] at G5
  have x0 := keep hb5 DX.out.1
  have x1 := keep hb5 DX.out.2
  have G6 := hid G5
  clear G5 Q9 ho5 hs5 hb5 HN2 HX2 HX3 HZ2 HZ3 OW BW DX HB2 YB HL0 HLEN HNIL
  refine G6.out.mono ?_
  clear G6
  rintro e p6 ⟨a6, l6, c6, t6, rfl, hb6, hF6, ht6⟩
  have x0 := keep hb6 x0
  have x1 := keep hb6 x1
  have y0' := keepA (keepA x0 (.cells #[.int .i64 n, .slice a6 l6 c6] 24)) (.cells #[.int .i64 0, .int .i64 0] 38)
  have y1' := keepA (keepA x1 (.cells #[.int .i64 n, .slice a6 l6 c6] 24)) (.cells #[.int .i64 0, .int .i64 0] 38)
  have hb66 : Below p6.heap.size p6 ((p6.alloc (.cells #[.int .i64 n, .slice a6 l6 c6] 24)).alloc (.cells #[.int .i64 0, .int .i64 0] 38)) := thenA (thenA (Below.refl _ _) _) _
  have HB6 := hid (HB5.out.trans (hb6.mono HB5.out.size))
  have HB66 := hid (HB6.out.trans (hb66.mono HB6.out.size))
  have hl6 : l6 = len := by rw [← hF6.lst.1, ← bare_len, ht6, bare_len]; exact LT.out.1
  subst hl6
  have SJ := hid (SameInstrs_yes ((p6.alloc (.cells #[.int .i64 n, .slice a6 l6 c6] 24)).alloc (.cells #[.int .i64 0, .int .i64 0] 38)).heap.size t6.count t6 t a6 a l6 c6 cap _ (Nat.le_refl _) (hF6.lst.on hb66) (LT.out.on HB66.out) ht6 (Nat.le_refl _) HX.out)
  clear hb6 hF6 ht6 hb66 HB6 x0 x1
  go_wp2_with fail
  refine SJ.out.mono ?_
  clear SJ y0' y1'
  rintro e p7 ⟨rfl, hb7⟩
  have HBP := hid (HB66.out.trans (hb7.mono HB66.out.size))
  clear hb7 HB66 HB5
  go_wp2_with fail
  refine (GC.out p7 HBP.out).mono ?_
  clear GC
  rintro e w3 ⟨a3, l3, c3, t3, rfl, hb3, hF3, ht3⟩
  have HB3 := hid (HBP.out.trans (hb3.mono HBP.out.size))
  obtain ⟨u1, u2, u3, u4, u5, u6⟩ := HP.out t3 ht3
  have hl3 : t3.len = l3 := hF3.lst.1
  have hb34 : Below w3.heap.size w3 ((w3.alloc (.cells #[.int .i64 m, .slice a3 l3 c3] 24)).alloc (.cells #[.int .i64 0, .int .i64 0] 38)) := thenA (thenA (Below.refl _ _) _) _
  have P2 := PutCode_any m t3 a3 l3 c3 ((w3.alloc (.cells #[.int .i64 m, .slice a3 l3 c3] 24)).alloc (.cells #[.int .i64 0, .int .i64 0] 38)) (hF3.lst.on hb34) (by omega) (HT.out.below (HB3.out.trans (hb34.mono HB3.out.size))) (by omega) u3
  rw [u1, u2] at P2
  obtain ⟨ys, hys⟩ : ∃ ys, codeL m T = ys := ⟨_, rfl⟩
  rw [hys] at P2 u6
  have HF2 := hid (show (ys.length : Int) ≤ q' by rw [← hys]; exact HF.out)
  have HYB := hid (show ∀ z ∈ ys, 0 ≤ z ∧ z < 256 by rw [← hys]; exact code_bytes HMAY.out)
  have P3 := hid P2
  have U6 := hid u6
  have L3 := hid hF3.lst
  have HT3 := hid ht3
  have HL3 := hid (show l3 ≤ 262144 by omega)
  clear hb3 hF3 ht3 u1 u2 u3 u4 u5 u6 hl3 P2 hys HP HF HBP hb34
  go_wp2_with fail
  refine P3.out.mono ?_
  clear P3
  rintro e w4 ⟨v4, rfl, ho4, hb4⟩
  obtain ⟨L, hL⟩ : ∃ L, ys.length = L := ⟨_, rfl⟩
  obtain ⟨a4, c4, rfl⟩ := ho4.sliceN hL
  rw [hL] at HF2 U6
  have hq3 := HF2.out
  have hb34 : Below w3.heap.size w3 w4 := (thenA (thenA (Below.refl w3.heap.size w3) (.cells #[.int .i64 m, .slice a3 l3 c3] 24)) (.cells #[.int .i64 0, .int .i64 0] 38)).trans (hb4.mono (by simp; omega))
  have D4 := hid (((Duo.made w3 (.int .i64 m) (.slice a3 l3 c3) 24).below (alloc_below _ (.cells #[.int .i64 0, .int .i64 0] 38))).below hb4)
  have HB4 := hid (HB3.out.trans (hb34.mono HB3.out.size))
  have L4 := hid (L3.out.on hb34)
  have G5 := GetCode_any a4 L c4 ys 0 w4 hL (ho4.bytes HYB.out (by have := HQ.out; omega)) (HT.out.below HB4.out)
  rw [U6.out] at G5
  have G6 := hid G5
  clear hb4 ho4 hL hb34 HB3 L3 G5 U6 HYB HF2
  go_wp2_with fail
  refine G6.out.mono ?_
  clear G6
  rintro e w5 ⟨a5, l5, c5, t5, rfl, hb5, hF5, ht5⟩
  have hl5 : l5 = l3 := by rw [← hF5.lst.1, ← bare_len, ht5, ← HT3.out, bare_bare, bare_len]; exact L4.out.1
  subst hl5
  have d5 := D4.out.below hb5
  have e0 := keepA (keepA d5.c0 (.cells #[.int .i64 m, .slice a5 l5 c5] 24)) (.cells #[.int .i64 0, .int .i64 0] 38)
  have e1 := keepA (keepA d5.c1 (.cells #[.int .i64 m, .slice a5 l5 c5] 24)) (.cells #[.int .i64 0, .int .i64 0] 38)
  have hb56 : Below w5.heap.size w5 ((w5.alloc (.cells #[.int .i64 m, .slice a5 l5 c5] 24)).alloc (.cells #[.int .i64 0, .int .i64 0] 38)) := thenA (thenA (Below.refl _ _) _) _
  have HB5 := hid (HB4.out.trans (hb5.mono HB4.out.size))
  have HB6 := hid (HB5.out.trans (hb56.mono HB5.out.size))
  have SI := hid (SameInstrs_yes ((w5.alloc (.cells #[.int .i64 m, .slice a5 l5 c5] 24)).alloc (.cells #[.int .i64 0, .int .i64 0] 38)).heap.size t5.count t5 t3 a5 a3 l5 c5 c3 _ (Nat.le_refl _) (hF5.lst.on hb56) ((L4.out.on hb5).on hb56) (by rw [ht5, ← HT3.out, bare_bare]) (Nat.le_refl _) (by have := HL3.out; omega))
  clear hb5 hF5 ht5 d5 D4 HB4 L4 hb56 HB5 HL3 HT3
  go_wp2_with fail
  refine SI.out.mono ?_
  clear SI e0 e1
  rintro e w7 ⟨rfl, hb7⟩
  have HB7 := hid (HB6.out.trans (hb7.mono HB6.out.size))
  clear hb7 HB6
  go_wp2
  go_ret
  exact ⟨rfl, HB7.out⟩

end Go.Proofs.YtcjamlgdidiaeaaDoor.Body
namespace Go.Proofs.YtcjamlgdidiaeaaDoor
open Go.RowKit Go.Proofs.YtcjamlgdidiaeaaDoor.Instr Go.Proofs.YtcjamlgdidiaeaaDoor.Leb Go.Proofs.YtcjamlgdidiaeaaDoor.Body
theorem bodyBack_walk (w : World) (n : Int) (a : Option Addr) (len cap : Nat) (t : Il) (_b : -9223372036854775808 ≤ n ∧ n ≤ 9223372036854775807) (hl : ListAt w.heap.size w a len t) (_hc : len ≤ cap) (hx : len ≤ 140737488351232) (av : Option Addr) (lb cb : Nat) (zs : List Int) (hlen : zs.length = lb) (hz : Bytes w av zs) (_hcap : lb ≤ cb) (hnil : av = none → cb = 0) (hT : Nams w) :
    Calls Tryd.prog 6 #[.agg #[.int .i64 n, .slice a len cap], .slice av lb cb] w fun e w' => e = .returned (.bool true) ∧ Below w.heap.size w w' := by
  by_cases hg : ¬ t.go 0 2000 ≤ 2000 ∨ 3000 < lb
  · exact back_big w n a len cap t hl hx av lb cb hT hg
  have hg1 : t.go 0 2000 ≤ 2000 := by omega
  have hg2 : lb ≤ 3000 := by omega
  have hel : (encL t).length ≤ 90000 := by
    have hw := (go_bounds t 0 2000 (by omega) (by omega) (by omega)).2.2 hg1
    have := encL_lenY t
    omega
  by_cases h1 : (codeP zs 0).s.2.1 = 0
  · obtain ⟨m, q, T, h2⟩ := half_of hz.byte h1
    by_cases h0 : checkC n t = 0
    · exact back_yy w n a len cap t hl hx av lb cb zs hz hlen hnil hT hg1 hg2 hel h0 h2
    · exact back_ny w n a len cap t hl hx av lb cb zs hz hlen hT hg1 hg2 hel h0 h2
  · by_cases h0 : checkC n t = 0
    · exact back_yn w n a len cap t hl hx av lb cb zs hz hlen hnil hT hg1 hg2 hel h0 h1
    · exact back_nn w n a len cap t hl hx av lb cb zs hz hlen hT hg1 hg2 hel h0 h1
end Go.Proofs.YtcjamlgdidiaeaaDoor
