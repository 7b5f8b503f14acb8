import Derived.Test.YtdljneclfgneoaaGreatDoorVb20
import Derived.Test.YtdljneclfgneoaaGreatDoorVb16
import Derived.Test.YtdljneclfgneoaaGreatDoorVb17
import Derived.Test.YtdljneclfgneoaaGreatDoorVb18
import Derived.Test.YtdljneclfgneoaaGreatDoorVb19
import Derived.Test.YtdljneclfgneoaaGreatDoorVb02
import Derived.Test.YtdljneclfgneoaaGreatDoorVb13
import Derived.Test.YtdljneclfgneoaaGreatDoorVb14
import Derived.Test.YtdljneclfgneoaaGreatDoorVb12
import Derived.Test.YtdljneclfgneoaaGreatDoorVb08
import Derived.Test.YtdljneclfgneoaaGreatDoorVb07
import Derived.Laws.OwnMore
import Derived.WalkSmall
import Derived.Deep.AppendLies
import Derived.BigQuiet
import Derived.Deep.RegionHeldLaw
import Derived.Deep.RegionLaw
import Derived.Laws.AppendOwnNone
namespace Go.Proofs.YtdljneclfgneoaaGreatDoor.Instr
end Go.Proofs.YtdljneclfgneoaaGreatDoor.Instr
namespace Go.Proofs.YtdljneclfgneoaaGreatDoor.Mod
end Go.Proofs.YtdljneclfgneoaaGreatDoor.Mod
namespace Go.Proofs.YtdljneclfgneoaaGreatDoor.Kind
end Go.Proofs.YtdljneclfgneoaaGreatDoor.Kind
namespace Go.Proofs.YtdljneclfgneoaaGreatDoor.Val
open Go.RowKit Go.Shelf Go.Proofs.YtdljneclfgneoaaGreatDoor.Instr Go.Proofs.YtdljneclfgneoaaGreatDoor.Mod
set_option linter.unusedVariables false

theorem checkP_zero {t : Il} (h : checkP t = 0) : t.all = true ∧ t.count ≤ 262144 ∧ t.deep ≤ 900 := by
  unfold checkP at h
  by_cases ha : t.all = true
  · rw [if_pos ha] at h
    refine ⟨ha, ?_⟩
    by_cases hb : 262144 < t.count ∨ 900 < t.deep ∨ t.tags = true
    · rw [if_pos hb] at h; exact absurd h (by decide)
    · omega
  · rw [if_neg ha] at h; exact absurd h (by decide)
set_option maxRecDepth 100000 in
set_option maxHeartbeats 4000000 in
theorem bodyR_any (m : Md) (w : World) (k : Nat) (hm : ModAt w.heap.size w m) (hf : m.fits) (hF : Fine m) (hk : k < m.fu.length) (ht : (fuAt m k).ty < m.ty.length) :
    Calls Tryz.prog 96 #[.agg m.v, .int .i64 k] w fun e w' => e = .returned (.tuple #[.int .i64 (Md.bodyJ m k).1, .int .i64 (Md.bodyJ m k).2]) ∧ Below w.heap.size w w' := by
  have hfe : fuAt m k = m.fu[k] := by unfold fuAt; simp [hk]
  have hmem : m.fu[k] ∈ m.fu := List.getElem_mem hk
  obtain ⟨fb, fo, ha, hfb, hc⟩ := Rows.get hm.fu hk
  have f0 : w.cell? ⟨fb, fo + k * 3, none⟩ = some (.int .i64 (m.fu[k]).ty) := hc 0 (by omega) _ rfl
  have f1 := hc 1 (by omega) _ rfl
  have f2 := hc 2 (by omega) _ rfl
  have hty0 := hF.ty _ hmem
  have hlo := hF.lo _ hmem
  rw [hfe] at ht
  have hcs : m.fu[k].l ∈ m.codes := by unfold Md.codes; exact List.mem_append_left _ (List.mem_map.2 ⟨_, hmem, rfl⟩)
  obtain ⟨hall, hct, hdp⟩ := checkP_zero (hF.cs _ hcs)
  have hls := hm.ls _ hcs
  have hln := hf.ls _ hcs
  obtain ⟨T, hT⟩ : ∃ T : Nat, m.fu[k].ty = (T : Int) := ⟨m.fu[k].ty.toNat, by omega⟩
  have hTl : T < m.ty.length := by omega
  obtain ⟨tb, to, hta, htb, t0, t1⟩ := ty_of hm hTl
  have htr := hF.tys.getD T
  have hB : Md.bodyJ m k = ((listJ m ((m.ty.getD T (0, 0)).1 + m.fu[k].lo) (m.ty.getD T (0, 0)).2 [] m.fu[k].l.t (m.ty.getD T (0, 0)).2 (m.ty.getD T (0, 0)).2 0 ⟨0, 0, 0⟩).e, (listJ m ((m.ty.getD T (0, 0)).1 + m.fu[k].lo) (m.ty.getD T (0, 0)).2 [] m.fu[k].l.t (m.ty.getD T (0, 0)).2 (m.ty.getD T (0, 0)).2 0 ⟨0, 0, 0⟩).at_) := by
    have e : m.fu.getD k ⟨0, 0, ⟨none, 0, .nil⟩⟩ = m.fu[k] := by simp [hk]
    unfold Md.bodyJ
    rw [e]
    simp only [hT, Int.toNat_natCast]
  rw [hB]
  obtain ⟨⟨p, r⟩, hpr⟩ : ∃ q, m.ty.getD T (0, 0) = q := ⟨_, rfl⟩
  rw [hpr] at t0 t1 htr ⊢
  obtain ⟨⟨fty, lo, ⟨la, lc, lt⟩⟩, hfk⟩ : ∃ f, m.fu[k] = f := ⟨_, rfl⟩
  rw [hfk] at f0 f1 f2 hlo hall hct hdp hls hln hT ⊢
  dsimp only [Lst.val] at f0 f1 f2 hlo hall hct hdp hls hln hT htr t0 t1 ⊢
  subst hT
  have CL := hid (fun (W : World) (g : Nat) (hg : w.heap.size ≤ g) (hj : JAt W g (jhd m p r (p + lo)) (.slice none 0 0) ⟨0, 0, 0⟩) (hb : Below w.heap.size w W) =>
    list_R (t1 := p) (tr := r) (lo := p + lo) hg hf (env_of hF) (fun t ht => by have := hF.tys t ht; omega) (by omega) lt hall W none 0 [] ⟨0, 0, 0⟩ la lt.len lc r r 0 hj (.inl rfl) (by simp; omega) (by simp) (by omega) (by omega) (by simp) (by simp; omega) (hm.below hb) (hls.below hb))
  obtain ⟨R, hR⟩ : ∃ R, listJ m (p + lo) r [] lt r r 0 ⟨0, 0, 0⟩ = R := ⟨_, rfl⟩
  rw [hR] at CL ⊢
  obtain ⟨n, hn⟩ : ∃ n, lt.len = n := ⟨_, rfl⟩
  rw [hn] at CL f2 hln
  obtain ⟨W0, hW0⟩ : ∃ W0, W0 = w.alloc (.cells m.v 40) := ⟨_, rfl⟩
  have hs0 : W0.heap.size = w.heap.size + 1 := by rw [hW0]; simp
  have hb0 : Below w.heap.size w W0 := by rw [hW0]; exact belowAlloc _ _
  have hx0 : BoxAt W0 w.heap.size m.v := by rw [hW0]; exact BoxAt.made w m.v _
  obtain ⟨W1, hW1⟩ : ∃ W1, W1 = W0.alloc (.cells #[.int .i64 (T : Int), .int .i64 lo, .slice la n lc] 43) := ⟨_, rfl⟩
  have hs1 : W1.heap.size = w.heap.size + 2 := by rw [hW1]; simp; omega
  have hb1 : Below W0.heap.size W0 W1 := by rw [hW1]; exact belowAlloc _ _
  have hx1 : BoxAt W1 (w.heap.size + 1) #[.int .i64 (T : Int), .int .i64 lo, .slice la n lc] := by rw [hW1, ← hs0]; exact BoxAt.made W0 _ _
  obtain ⟨W2, hW2⟩ : ∃ W2, W2 = W1.alloc (.cells #[.int .i64 p, .int .i64 r] 26) := ⟨_, rfl⟩
  have hs2 : W2.heap.size = w.heap.size + 3 := by rw [hW2]; simp; omega
  have hb2 : Below W1.heap.size W1 W2 := by rw [hW2]; exact belowAlloc _ _
  have hx2 : BoxAt W2 (w.heap.size + 2) #[.int .i64 p, .int .i64 r] := by rw [hW2, ← hs1]; exact BoxAt.made W1 _ _
  obtain ⟨W3, hW3⟩ : ∃ W3, W3 = W2.alloc (.cells (jhd m p r (p + lo) ++ [Value.slice none 0 0, Value.int .i64 0, Value.int .i64 0, Value.int .i64 0]).toArray 261) := ⟨_, rfl⟩
  have hb3 : Below W2.heap.size W2 W3 := by rw [hW3]; exact belowAlloc _ _
  have hbw : Below w.heap.size w W3 := thenB (thenB (thenB hb0 hb1) hb2) hb3
  have hj3 : JAt W3 (w.heap.size + 3) (jhd m p r (p + lo)) (.slice none 0 0) ⟨0, 0, 0⟩ := ⟨by rw [hW3, ← hs2]; exact heap_alloc_new W2 _, rfl⟩
  have C1 := hid (CL.out W3 (w.heap.size + 3) (by omega) hj3 hbw)
  have HB := hid hbw
  have HW0 := hid hW0
  have HW1 := hid hW1
  have HW2 := hid hW2
  have HW3 := hid hW3
  have HS := hid (show W0.heap.size = w.heap.size + 1 ∧ W1.heap.size = w.heap.size + 2 ∧ W2.heap.size = w.heap.size + 3 from ⟨hs0, hs1, hs2⟩)
  have HX0 := hid hx0
  have HX1 := hid hx1
  have HX2 := hid hx2
  have HB1 := hid hb1
  have HB2 := hid hb2
  have HB3 := hid hb3
  have g0 := Go.Proofs.YtdljneclfgneoaaGreatDoor.keep hb0 f0
  have g1 := Go.Proofs.YtdljneclfgneoaaGreatDoor.keep hb0 f1
  have g2 := Go.Proofs.YtdljneclfgneoaaGreatDoor.keep hb0 f2
  have HT0 := hid (Go.Proofs.YtdljneclfgneoaaGreatDoor.keep (thenB hb0 hb1) t0)
  have HT1 := hid (Go.Proofs.YtdljneclfgneoaaGreatDoor.keep (thenB hb0 hb1) t1)
  have hki : (k : Int) < (m.fu.length : Int) := by omega
  have hTi : (T : Int) < (m.ty.length : Int) := by omega
  have hfl := hf.fu
  have htl := hf.ty
  have HA := hid ha
  have HTA := hid hta
  obtain ⟨hp0, hp1⟩ : 0 ≤ p ∧ p ≤ 255 := by omega
  obtain ⟨hl0, hl1⟩ := hlo
  clear hm hf hF hfe hmem hc hk ht hty0 hcs hall hct hdp hls hB hpr hfk htr hR hn hb3 hj3 hW3 hW0 hW1 hW2 hbw hb0 hb1 hb2 hx0 hx1 hx2 hs0 hs1 hs2 f0 f1 f2 t0 t1 CL hfb htb hTl ha hta
  go_enter Tryz.func96, Tryz.ntmps96
  go_upto_region 1 with fail
  rw [← HW0.out]
  have hxx := HX0.out
  unfold Md.v at hxx
  obtain ⟨n0, n1, n2, n3, n4, n5, n6, n7, n8, n9, n10⟩ := BoxAt.mod hxx
  rw [HA.out] at n2
  clear hxx
  go_upto_region 2 with fail
  rw [HS.out.1, ← HW1.out]
  have hxx := HX0.out.keep HB1.out
  unfold Md.v at hxx
  clear n0 n1 n2 n3 n4 n5 n6 n7 n8 n9 n10 g0 g1 g2
  obtain ⟨n0, n1, n2, n3, n4, n5, n6, n7, n8, n9, n10⟩ := BoxAt.mod hxx
  rw [HTA.out] at n0
  have b0 := HX1.out 0 _ rfl
  have t0 := HT0.out
  have t1 := HT1.out
  clear hxx
  go_upto_region 3 with fail
  rw [HS.out.2.1, ← HW2.out]
  have hxx := (HX0.out.keep HB1.out).keep HB2.out
  unfold Md.v at hxx
  clear n0 n1 n2 n3 n4 n5 n6 n7 n8 n9 n10 t0 t1 b0
  obtain ⟨n0, n1, n2, n3, n4, n5, n6, n7, n8, n9, n10⟩ := BoxAt.mod hxx
  have hyy := HX1.out.keep HB2.out
  have b0 := hyy 0 _ rfl
  have b1 := hyy 1 _ rfl
  have b2 := hyy 2 _ rfl
  have t0 := HX2.out 0 _ rfl
  have t1 := HX2.out 1 _ rfl
  clear hxx hyy
  go_upto_region 4 with fail
  rw [show W2.alloc (.cells #[.slice m.ty'.a m.ty.length m.ty'.c, .slice m.im'.a m.im.length m.im'.c, .slice m.fu'.a m.fu.length m.fu'.c, .slice m.tb'.a m.tb.length m.tb'.c, .slice m.me'.a m.me.length m.me'.c, .slice m.gl'.a m.gl.length m.gl'.c, .slice m.ex'.a m.ex.length m.ex'.c, .bool m.st, .int .u32 m.sn, .slice m.el'.a m.el.length m.el'.c, .slice m.da'.a m.da.length m.da'.c, .int .i64 p, .int .i64 r, .int .i64 (p + lo), .slice none 0 0, .int .i64 0, .int .i64 0, .int .i64 0] 261) = W3 from HW3.out.symm, HS.out.2.2]
  have hyy := (HX1.out.keep HB2.out).keep HB3.out
  have hzz := HX2.out.keep HB3.out
  clear n0 n1 n2 n3 n4 n5 n6 n7 n8 n9 n10 t0 t1 b0 b1 b2
  have b2 := hyy 2 _ rfl
  have t1 := hzz 1 _ rfl
  clear hyy hzz
  go_wp2_with fail
  refine C1.out.mono ?_
  rintro e w1 ⟨rfl, hq⟩
  have c16 := hq.1.c.2.2.1
  have c17 := hq.1.c.2.2.2
  have HQ := hid (HB.out.trans (hq.2.below (by have := HB.out.size; omega) (by omega)))
  clear b2 t1 hq C1
  go_upto_region 5 with fail
  go_quiet (fail)
  go_wp2
  go_ret2
  exact ⟨rfl, by have := HQ.out; exact ⟨this.os, this.tape, this.output, this.size, this.block⟩⟩
end Go.Proofs.YtdljneclfgneoaaGreatDoor.Val

namespace Go.Proofs.YtdljneclfgneoaaGreatDoor.Instr
open Go.RowKit

theorem held_out2 {w w1 : World} {p q : Addr} {x y : Value} (h : Below w.heap.size w w1 ∧ w1.cell? p = some x ∧ w1.cell? q = some y) : Below w.heap.size w w1 := h.1
theorem held_keep2 {w w1 w2 : World} {p q : Addr} {x y : Value} (h : Below w.heap.size w w1 ∧ w1.cell? p = some x ∧ w1.cell? q = some y) (hb : Below w1.heap.size w1 w2) :
    Below w.heap.size w w2 ∧ w2.cell? p = some x ∧ w2.cell? q = some y := ⟨thenB h.1 hb, keep hb h.2.1, keep hb h.2.2⟩

set_option maxHeartbeats 1600000 in
theorem refCount_any : ∀ (m : Nat) (t : Il) (a : Option Addr) (len c : Nat) (w : World), t.count ≤ m → ListAt w.heap.size w a len t → len ≤ 140737488351232 → t.count ≤ 4611686018427387900 →
    Calls Tryz.prog 211 #[.slice a len c] w fun e w' => e = .returned (.int .i64 t.count) ∧ Below w.heap.size w w' := by
  intro m
  induction m with
  | zero =>
    intro t a len c w hm hL hlen hbig
    cases t with
    | cons x l e r => simp only [Il.count] at hm; omega
    | nil =>
      have h0 : len = 0 := hL.1.symm
      subst h0
      clear hm hL hlen hbig
      go_enter Tryz.func211, Tryz.ntmps211
      go_wp2
      go_loopw [3, 4] (fun sn si wr => sn = .int .i64 0 ∧ si = .int .i64 0 ∧ wr = w) (fun _ _ _ => 0)
      case atStart => exact ⟨rfl, rfl, rfl⟩
      case round =>
        obtain ⟨rfl, rfl, rfl⟩ := hrel
        go_wp2
        go_ret
        exact ⟨rfl, Below.refl _ _⟩
  | succ m ih =>
    intro t a len c w hm hL hlen hbig
    obtain ⟨hL1, hL2⟩ := hL
    rcases hL2 with rfl | ⟨b, off, rfl, hi⟩
    · have h0 : len = 0 := hL1.symm
      subst h0
      clear ih hm hL1 hlen hbig
      go_enter Tryz.func211, Tryz.ntmps211
      go_wp2
      go_loopw [3, 4] (fun sn si wr => sn = .int .i64 0 ∧ si = .int .i64 0 ∧ wr = w) (fun _ _ _ => 0)
      case atStart => exact ⟨rfl, rfl, rfl⟩
      case round =>
        obtain ⟨rfl, rfl, rfl⟩ := hrel
        go_wp2
        go_ret
        exact ⟨rfl, Below.refl _ _⟩
    · have HM := hid hm
      have HB := hid hbig
      have HL1 := hid hL1
      have HI := hid hi
      clear hm hbig hL1 hi
      go_enter Tryz.func211, Tryz.ntmps211
      go_wp2
      go_loopw [3, 4] (fun sn si wr => ∃ (k : Nat) (n : Int) (rest : Il), si = .int .i64 k ∧ sn = .int .i64 n ∧ k ≤ len ∧ 0 ≤ n ∧ n ≤ 4611686018427387900 ∧ Hid (k + rest.len = len ∧ rest.count ≤ t.count ∧ n + (rest.count - rest.len : Int) = t.count) ∧ Hid (Items w.heap.size w b (off + k * 8) rest) ∧ Below w.heap.size w wr)
        (fun _ si _ => len - (intOf si).toNat)
      case atStart => exact ⟨0, len, t, rfl, rfl, Nat.zero_le _, by omega, by omega, ⟨by have := HL1.out; omega, Nat.le_refl _, by have := HL1.out; omega⟩, by simpa using HI, Below.refl _ _⟩
      case round =>
        obtain ⟨k, n, rest, rfl, rfl, hk, hn0, hn1, HR, HIR, hb⟩ := hrel
        cases rest with
        | nil =>
          obtain ⟨r1, _, r3⟩ := HR.out
          have hkl : k = len := by simpa [Il.len] using r1
          subst hkl
          have R3 : Hid (n = t.count) := by show _ = _; simp only [Il.count, Il.len] at r3; omega
          clear r3
          go_wp2
          go_ret
          exact ⟨ret_int R3.out, hb⟩
        | cons x tl te r =>
          have hir := Items.below hb HIR.out
          obtain ⟨hbn, hx, ⟨c0, c1, c2, c3, c4, c5, c6, c7⟩, _⟩ := hir
          have hir0 := HIR.out
          obtain ⟨_, _, _, ht, hLl, hLe, hir'⟩ := hir0
          have hlt : k < len := by have := HR.out.1; simp only [Il.len] at this; omega
          have hLn := hx.ln
          have hEn := hx.en
          have hcnt : tl.count + te.count + 1 ≤ m + 1 ∧ tl.count ≤ 4611686018427387900 ∧ te.count ≤ 4611686018427387900 := by
            have h1 := HR.out.2.1
            have h2 := HM.out
            have h3 := HB.out
            simp only [Il.count] at h1
            omega
          obtain ⟨k1, k2, k3⟩ := hcnt
          have N2 := fun w' (hb' : Below w.heap.size w w') => ih tl x.la x.ln x.lc w' (by omega) (ListAt.on hLl hb') hLn k2
          have N3 := fun w' (hb' : Below w.heap.size w w') => ih te x.ea x.en x.ec w' (by omega) (ListAt.on hLe hb') hEn k3
          have hq : n + tl.count + te.count ≤ 4611686018427387900 := by
            have h1 := HR.out.2.2
            have h2 := HB.out
            have h3 := len_le_count r
            simp only [Il.count, Il.len] at h1
            omega
          obtain ⟨q2, hq2⟩ : ∃ q : Int, (tl.count : Int) = q := ⟨_, rfl⟩
          obtain ⟨q3, hq3⟩ : ∃ q : Int, (te.count : Int) = q := ⟨_, rfl⟩
          have y1 : 0 ≤ q2 := by omega
          have y2 : 0 ≤ q3 := by omega
          rw [hq2, hq3] at hq
          simp only [hq2, hq3] at N2 N3
          have Q2 := hid hq2
          have Q3 := hid hq3
          have H2 := hid N2
          have H3 := hid N3
          have hv1 : IntKind.i64.wrap (n + q2) = n + q2 := by rw [IntKind.wrap_i64]; omega
          have hv2 : IntKind.i64.wrap (n + q2 + q3) = n + q2 + q3 := by rw [IntKind.wrap_i64]; omega
          clear N2 N3 hq2 hq3 ih k1 k2 k3 hLl hLe
          have hS0 : Below w.heap.size w wr.drew ∧ wr.drew.cell? ⟨b, off + k * 8 + 6, none⟩ = some (.slice x.la x.ln x.lc) ∧ wr.drew.cell? ⟨b, off + k * 8 + 7, none⟩ = some (.slice x.ea x.en x.ec) := ⟨hb.drew, c6, c7⟩
          go_wp2
          (first
            | go_loud (go_region_held3 (fun w' => Below w.heap.size w w' ∧ w'.cell? ⟨b, off + k * 8 + 6, none⟩ = some (.slice x.la x.ln x.lc) ∧ w'.cell? ⟨b, off + k * 8 + 7, none⟩ = some (.slice x.ea x.en x.ec))
                (first | assumption | exact held_keep2 (by assumption) (by assumption))
                (first
                  | (go_at_call 211; (with_reducible refine (H2.out _ (held_out2 (by assumption))).mono ?_); rintro e w7 ⟨rfl, hb7⟩)
                  | (go_at_call 211; (with_reducible refine (H3.out _ (held_out2 (by assumption))).mono ?_); rintro e w8 ⟨rfl, hb8⟩)))
            | fail)
          go_wp2
          have hbE := held_out2 (by assumption)
          have g2 := Q2.out
          have g3 := Q3.out
          refine ⟨⟨k + 1, n + q2 + q3, r, by simp, rfl, by omega, by omega, by omega, ⟨by have := HR.out.1; simp only [Il.len] at this; omega, by have := HR.out.2.1; simp only [Il.count] at this; omega, ?_⟩, by rw [show off + (k + 1) * 8 = off + k * 8 + 8 by omega]; exact hir', hbE⟩, by simp [intOf]; omega⟩
          have h1 := HR.out.2.2
          simp only [Il.count, Il.len] at h1
          omega

set_option maxHeartbeats 1600000 in
theorem refDeep_any : ∀ (m : Nat) (t : Il) (a : Option Addr) (len c : Nat) (w : World), t.count ≤ m → ListAt w.heap.size w a len t → len ≤ 140737488351232 → t.count ≤ 4611686018427387900 →
    Calls Tryz.prog 212 #[.slice a len c] w fun e w' => e = .returned (.int .i64 t.deep) ∧ Below w.heap.size w w' := by
  intro m
  induction m with
  | zero =>
    intro t a len c w hm hL hlen hbig
    cases t with
    | cons x l e r => simp only [Il.count] at hm; omega
    | nil =>
      have h0 : len = 0 := hL.1.symm
      subst h0
      clear hm hL hlen hbig
      go_enter Tryz.func212, Tryz.ntmps212
      go_wp2
      go_loopw [3, 4] (fun sn si wr => sn = .int .i64 0 ∧ si = .int .i64 0 ∧ wr = w) (fun _ _ _ => 0)
      case atStart => exact ⟨rfl, rfl, rfl⟩
      case round =>
        obtain ⟨rfl, rfl, rfl⟩ := hrel
        go_wp2
        go_ret
        exact ⟨rfl, Below.refl _ _⟩
  | succ m ih =>
    intro t a len c w hm hL hlen hbig
    obtain ⟨hL1, hL2⟩ := hL
    rcases hL2 with rfl | ⟨b, off, rfl, hi⟩
    · have h0 : len = 0 := hL1.symm
      subst h0
      clear ih hm hL1 hlen hbig
      go_enter Tryz.func212, Tryz.ntmps212
      go_wp2
      go_loopw [3, 4] (fun sn si wr => sn = .int .i64 0 ∧ si = .int .i64 0 ∧ wr = w) (fun _ _ _ => 0)
      case atStart => exact ⟨rfl, rfl, rfl⟩
      case round =>
        obtain ⟨rfl, rfl, rfl⟩ := hrel
        go_wp2
        go_ret
        exact ⟨rfl, Below.refl _ _⟩
    · have HM := hid hm
      have HB := hid hbig
      have HL1 := hid hL1
      have HI := hid hi
      clear hm hbig hL1 hi
      go_enter Tryz.func212, Tryz.ntmps212
      go_wp2
      go_loopw [3, 4] (fun sn si wr => ∃ (k : Nat) (n : Int) (rest : Il), si = .int .i64 k ∧ sn = .int .i64 n ∧ k ≤ len ∧ 0 ≤ n ∧ n ≤ 4611686018427387900 ∧ Hid (k + rest.len = len ∧ rest.count ≤ t.count ∧ max n rest.deep = t.deep) ∧ Hid (Items w.heap.size w b (off + k * 8) rest) ∧ Below w.heap.size w wr)
        (fun _ si _ => len - (intOf si).toNat)
      case atStart => exact ⟨0, 0, t, rfl, rfl, Nat.zero_le _, by omega, by omega, ⟨by have := HL1.out; omega, Nat.le_refl _, by omega⟩, by simpa using HI, Below.refl _ _⟩
      case round =>
        obtain ⟨k, n, rest, rfl, rfl, hk, hn0, hn1, HR, HIR, hb⟩ := hrel
        cases rest with
        | nil =>
          obtain ⟨r1, _, r3⟩ := HR.out
          have hkl : k = len := by simpa [Il.len] using r1
          subst hkl
          have R3 : Hid (n = t.deep) := by show _ = _; simp only [Il.deep] at r3; omega
          clear r3
          go_wp2
          go_ret
          exact ⟨ret_int R3.out, hb⟩
        | cons x tl te r =>
          have hir := Items.below hb HIR.out
          obtain ⟨hbn, hx, ⟨c0, c1, c2, c3, c4, c5, c6, c7⟩, _⟩ := hir
          have hir0 := HIR.out
          obtain ⟨_, _, _, ht, hLl, hLe, hir'⟩ := hir0
          have hlt : k < len := by have := HR.out.1; simp only [Il.len] at this; omega
          have hLn := hx.ln
          have hEn := hx.en
          have hcnt : tl.count + te.count + 1 ≤ m + 1 ∧ tl.count ≤ 4611686018427387900 ∧ te.count ≤ 4611686018427387900 := by
            have h1 := HR.out.2.1
            have h2 := HM.out
            have h3 := HB.out
            simp only [Il.count] at h1
            omega
          obtain ⟨k1, k2, k3⟩ := hcnt
          have N2 := fun w' (hb' : Below w.heap.size w w') => ih tl x.la x.ln x.lc w' (by omega) (ListAt.on hLl hb') hLn k2
          have N3 := fun w' (hb' : Below w.heap.size w w') => ih te x.ea x.en x.ec w' (by omega) (ListAt.on hLe hb') hEn k3
          have d2 := deep_le_count tl
          have d3 := deep_le_count te
          have hq : (tl.deep : Int) ≤ 4611686018427387899 ∧ (te.deep : Int) ≤ 4611686018427387899 := by
            have h1 := HR.out.2.1
            have h2 := HB.out
            simp only [Il.count] at h1
            omega
          obtain ⟨q2, hq2⟩ : ∃ q : Int, (tl.deep : Int) = q := ⟨_, rfl⟩
          obtain ⟨q3, hq3⟩ : ∃ q : Int, (te.deep : Int) = q := ⟨_, rfl⟩
          have y1 : 0 ≤ q2 := by omega
          have y2 : 0 ≤ q3 := by omega
          rw [hq2, hq3] at hq
          obtain ⟨y3, y4⟩ := hq
          simp only [hq2, hq3] at N2 N3
          have Q2 := hid hq2
          have Q3 := hid hq3
          have H2 := hid N2
          have H3 := hid N3
          have hv1 : IntKind.i64.wrap (1 + max q2 q3) = 1 + max q2 q3 := by rw [IntKind.wrap_i64]; omega
          clear N2 N3 hq2 hq3 ih k1 k2 k3 hLl hLe d2 d3
          have hS0 : Below w.heap.size w wr.drew ∧ wr.drew.cell? ⟨b, off + k * 8 + 6, none⟩ = some (.slice x.la x.ln x.lc) ∧ wr.drew.cell? ⟨b, off + k * 8 + 7, none⟩ = some (.slice x.ea x.en x.ec) := ⟨hb.drew, c6, c7⟩
          go_wp2
          (first
            | go_loud (go_region_held3 (fun w' => Below w.heap.size w w' ∧ w'.cell? ⟨b, off + k * 8 + 6, none⟩ = some (.slice x.la x.ln x.lc) ∧ w'.cell? ⟨b, off + k * 8 + 7, none⟩ = some (.slice x.ea x.en x.ec))
                (first | assumption | exact held_keep2 (by assumption) (by assumption))
                (first
                  | (go_at_call 212; (with_reducible refine (H2.out _ (held_out2 (by assumption))).mono ?_); rintro e w7 ⟨rfl, hb7⟩)
                  | (go_at_call 212; (with_reducible refine (H3.out _ (held_out2 (by assumption))).mono ?_); rintro e w8 ⟨rfl, hb8⟩)))
            | fail)
          go_wp2
          have hbE := held_out2 (by assumption)
          have g2 := Q2.out
          have g3 := Q3.out
          refine ⟨⟨k + 1, max n (1 + max q2 q3), r, by simp, rfl, by omega, by omega, by omega, ⟨by have := HR.out.1; simp only [Il.len] at this; omega, by have := HR.out.2.1; simp only [Il.count] at this; omega, ?_⟩, by rw [show off + (k + 1) * 8 = off + k * 8 + 8 by omega]; exact hir', hbE⟩, by simp [intOf]; omega⟩
          have h1 := HR.out.2.2
          simp only [Il.deep] at h1
          omega

set_option maxHeartbeats 1600000 in
theorem refTags_any : ∀ (m : Nat) (t : Il) (a : Option Addr) (len c : Nat) (w : World), t.count ≤ m → ListAt w.heap.size w a len t → len ≤ 140737488351232 → t.count ≤ 4611686018427387900 →
    Calls Tryz.prog 213 #[.slice a len c] w fun e w' => e = .returned (.bool t.tags) ∧ Below w.heap.size w w' := by
  intro m
  induction m with
  | zero =>
    intro t a len c w hm hL hlen hbig
    cases t with
    | cons x l e r => simp only [Il.count] at hm; omega
    | nil =>
      have h0 : len = 0 := hL.1.symm
      subst h0
      clear hm hL hlen hbig
      go_enter Tryz.func213, Tryz.ntmps213
      go_wp2
      go_loopw [3] (fun si wr => si = .int .i64 0 ∧ wr = w) (fun _ _ => 0)
      case atStart => exact ⟨rfl, rfl⟩
      case round =>
        obtain ⟨rfl, rfl⟩ := hrel
        go_wp2
        go_ret
        exact ⟨rfl, Below.refl _ _⟩
  | succ m ih =>
    intro t a len c w hm hL hlen hbig
    obtain ⟨hL1, hL2⟩ := hL
    rcases hL2 with rfl | ⟨b, off, rfl, hi⟩
    · have h0 : len = 0 := hL1.symm
      subst h0
      clear ih hm hL1 hlen hbig
      go_enter Tryz.func213, Tryz.ntmps213
      go_wp2
      go_loopw [3] (fun si wr => si = .int .i64 0 ∧ wr = w) (fun _ _ => 0)
      case atStart => exact ⟨rfl, rfl⟩
      case round =>
        obtain ⟨rfl, rfl⟩ := hrel
        go_wp2
        go_ret
        exact ⟨rfl, Below.refl _ _⟩
    · have HM := hid hm
      have HB := hid hbig
      have HL1 := hid hL1
      have HI := hid hi
      clear hm hbig hL1 hi
      go_enter Tryz.func213, Tryz.ntmps213
      go_wp2
      go_loopw [3] (fun si wr => ∃ (k : Nat) (rest : Il), si = .int .i64 k ∧ k ≤ len ∧ Hid (k + rest.len = len ∧ rest.count ≤ t.count ∧ rest.tags = t.tags) ∧ Hid (Items w.heap.size w b (off + k * 8) rest) ∧ Below w.heap.size w wr)
        (fun si _ => len - (intOf si).toNat)
      case atStart => exact ⟨0, t, rfl, Nat.zero_le _, ⟨by have := HL1.out; omega, Nat.le_refl _, rfl⟩, by simpa using HI, Below.refl _ _⟩
      case round =>
        obtain ⟨k, rest, rfl, hk, HR, HIR, hb⟩ := hrel
        cases rest with
        | nil =>
          obtain ⟨r1, _, r3⟩ := HR.out
          have hkl : k = len := by simpa [Il.len] using r1
          subst hkl
          have R3 : Hid (t.tags = false) := by show _ = _; rw [← r3]; rfl
          clear r3
          go_wp2
          go_ret
          exact ⟨ret_bool R3.out.symm, hb⟩
        | cons x tl te r =>
          have hir := Items.below hb HIR.out
          obtain ⟨hbn, hx, ⟨c0, c1, c2, c3, c4, c5, c6, c7⟩, _⟩ := hir
          have hir0 := HIR.out
          obtain ⟨_, _, _, ht, hLl, hLe, hir'⟩ := hir0
          have hlt : k < len := by have := HR.out.1; simp only [Il.len] at this; omega
          have hLn := hx.ln
          have hEn := hx.en
          have hcnt : tl.count + te.count + 1 ≤ m + 1 ∧ tl.count ≤ 4611686018427387900 ∧ te.count ≤ 4611686018427387900 := by
            have h1 := HR.out.2.1
            have h2 := HM.out
            have h3 := HB.out
            simp only [Il.count] at h1
            omega
          obtain ⟨k1, k2, k3⟩ := hcnt
          have N2 := fun w' (hb' : Below w.heap.size w w') => ih tl x.la x.ln x.lc w' (by omega) (ListAt.on hLl hb') hLn k2
          have N3 := fun w' (hb' : Below w.heap.size w w') => ih te x.ea x.en x.ec w' (by omega) (ListAt.on hLe hb') hEn k3
          have HE : Hid (t.tags = (decide (16384 < x.tags.length) || tl.tags || te.tags || r.tags)) := by show _ = _; rw [← HR.out.2.2]; rfl
          have htn := hx.tn
          have H2 := hid N2
          have H3 := hid N3
          clear N2 N3 ih k1 k2 k3 hLl hLe
          by_cases hbig : 16384 < x.tags.length
          · have R : Hid (t.tags = true) := by show _ = _; rw [HE.out]; simp [hbig]
            have hbig' : (16384 : Int) < (x.tags.length : Int) := by omega
            clear H2 H3
            go_wp2
            go_ret
            exact ⟨ret_bool R.out.symm, hb⟩
          · have hbig' : ¬ (16384 : Int) < (x.tags.length : Int) := by omega
            obtain ⟨g1, hg1⟩ : ∃ g, tl.tags = g := ⟨_, rfl⟩
            obtain ⟨g2, hg2⟩ : ∃ g, te.tags = g := ⟨_, rfl⟩
            simp only [hg1] at H2
            simp only [hg2] at H3
            have HE2 : Hid (t.tags = (g1 || g2 || r.tags)) := by show _ = _; rw [HE.out, hg1, hg2]; simp [hbig]
            clear hg1 hg2 HE
            go_wp2_with fail
            refine (H2.out _ hb).mono ?_
            clear H2
            rintro e1 w3 ⟨rfl, hb3⟩
            have hbW := thenB hb hb3
            have d6 := keep hb3 c6
            have d7 := keep hb3 c7
            cases g1
            · go_wp2_with fail
              refine (H3.out _ hbW).mono ?_
              clear H3
              rintro e1 w4 ⟨rfl, hb4⟩
              have hbX := thenB hbW hb4
              cases g2
              · go_wp2
                go_roundw
                case rel =>
                  refine ⟨k + 1, r, by simp, by omega, ⟨by have := HR.out.1; simp only [Il.len] at this; omega, by have := HR.out.2.1; simp only [Il.count] at this; omega, ?_⟩, by rw [show off + (k + 1) * 8 = off + k * 8 + 8 by omega]; exact hir', hbX⟩
                  rw [HE2.out]; rfl
                case measure => simp [intOf]; omega
              · have R : Hid (t.tags = true) := by show _ = _; rw [HE2.out]; rfl
                go_wp2
                go_ret
                exact ⟨ret_bool R.out.symm, hbX⟩
            · have R : Hid (t.tags = true) := by show _ = _; rw [HE2.out]; simp
              clear H3
              go_wp2
              go_ret
              exact ⟨ret_bool R.out.symm, hbW⟩

end Go.Proofs.YtdljneclfgneoaaGreatDoor.Instr

namespace Go.Proofs.YtdljneclfgneoaaGreatDoor.Body
open Go.RowKit Go.Proofs.YtdljneclfgneoaaGreatDoor.Instr

theorem rightDoc_any (x : Ix) (w : World) : Calls Tryz.prog 261 #[.agg x.vals] w fun e w' => e = .returned (.bool (lawfulP x)) ∧ Below w.heap.size w w' := by
  by_cases hn : nameL x.op = []
  · have h0 : lawfulP x = false := by
      rw [← Bool.not_eq_true]; intro h; exact ((lawful_iff x).1 h).1 hn
    rw [h0]
    exact right_none x.op x.res x.a x.b x.n x.tags.length x.ln x.en x.ta x.la x.ea x.tc x.lc x.ec w hn
  · rcases kind_cases x.op with h | h | h | h | h | h | h | h
    · exact right_0 x w hn h
    · by_cases h4 : x.op = 4
      · exact right_1a x w hn h h4
      · exact right_1b x w hn h h4
    · exact right_2 x w hn h
    · exact right_3 x w hn h
    · exact right_4 x w hn h
    · exact right_5 x w hn h
    · exact right_6 x w hn h
    · exact right_7 x w hn h
set_option maxHeartbeats 1600000 in
theorem allDoc_any : ∀ (m : Nat) (t : Il) (a : Option Addr) (len c : Nat) (w : World), t.count ≤ m → ListAt w.heap.size w a len t → len ≤ 140737488351232 → t.count ≤ 4611686018427387900 →
    Calls Tryz.prog 210 #[.slice a len c] w fun e w' => e = .returned (.bool t.all) ∧ Below w.heap.size w w' := by
  intro m
  induction m with
  | zero =>
    intro t a len c w hm hL hlen hbig
    cases t with
    | cons x l e r => simp only [Il.count] at hm; omega
    | nil =>
      have h0 : len = 0 := hL.1.symm
      subst h0
      clear hm hL hlen hbig
      go_enter Tryz.func210, Tryz.ntmps210
      go_wp2
      go_loopw [3] (fun si wr => si = .int .i64 0 ∧ wr = w) (fun _ _ => 0)
      case atStart => exact ⟨rfl, rfl⟩
      case round =>
        obtain ⟨rfl, rfl⟩ := hrel
        go_wp2
        go_ret
        exact ⟨rfl, Below.refl _ _⟩
  | succ m ih =>
    intro t a len c w hm hL hlen hbig
    obtain ⟨hL1, hL2⟩ := hL
    rcases hL2 with rfl | ⟨b, off, rfl, hi⟩
    · have h0 : len = 0 := hL1.symm
      subst h0
      clear ih hm hL1 hlen hbig
      go_enter Tryz.func210, Tryz.ntmps210
      go_wp2
      go_loopw [3] (fun si wr => si = .int .i64 0 ∧ wr = w) (fun _ _ => 0)
      case atStart => exact ⟨rfl, rfl⟩
      case round =>
        obtain ⟨rfl, rfl⟩ := hrel
        go_wp2
        go_ret
        exact ⟨rfl, Below.refl _ _⟩
    · have HM := hid hm
      have HB := hid hbig
      have HL1 := hid hL1
      have HI := hid hi
      clear hm hbig hL1 hi
      go_enter Tryz.func210, Tryz.ntmps210
      go_wp2
      go_loopw [3] (fun si wr => ∃ (k : Nat) (rest : Il), si = .int .i64 k ∧ k ≤ len ∧ Hid (k + rest.len = len ∧ rest.count ≤ t.count ∧ rest.all = t.all) ∧ Hid (Items w.heap.size w b (off + k * 8) rest) ∧ Below w.heap.size w wr)
        (fun si _ => len - (intOf si).toNat)
      case atStart => exact ⟨0, t, rfl, Nat.zero_le _, ⟨by have := HL1.out; omega, Nat.le_refl _, rfl⟩, by simpa using HI, Below.refl _ _⟩
      case round =>
        obtain ⟨k, rest, rfl, hk, HR, HIR, hb⟩ := hrel
        cases rest with
        | nil =>
          obtain ⟨r1, _, r3⟩ := HR.out
          have hkl : k = len := by simpa [Il.len] using r1
          subst hkl
          have R3 : Hid (t.all = true) := by show _ = _; rw [← r3]; rfl
          clear r3
          go_wp2
          go_ret
          exact ⟨ret_bool R3.out.symm, hb⟩
        | cons x tl te r =>
          have hir := Items.below hb HIR.out
          obtain ⟨hbn, hx, ⟨c0, c1, c2, c3, c4, c5, c6, c7⟩, _⟩ := hir
          have hir0 := HIR.out
          obtain ⟨_, _, _, ht, hLl, hLe, hir'⟩ := hir0
          have hlt : k < len := by have := HR.out.1; simp only [Il.len] at this; omega
          have hLn := hx.ln
          have hEn := hx.en
          have hcnt : tl.count + te.count + 1 ≤ m + 1 ∧ tl.count ≤ 4611686018427387900 ∧ te.count ≤ 4611686018427387900 := by
            have h1 := HR.out.2.1
            have h2 := HM.out
            have h3 := HB.out
            simp only [Il.count] at h1
            omega
          obtain ⟨k1, k2, k3⟩ := hcnt
          have N1 := fun w' => rightDoc_any x w'
          have N2 := fun w' (hb' : Below w.heap.size w w') => ih tl x.la x.ln x.lc w' (by omega) (ListAt.on hLl hb') hLn k2
          have N3 := fun w' (hb' : Below w.heap.size w w') => ih te x.ea x.en x.ec w' (by omega) (ListAt.on hLe hb') hEn k3
          have HE : Hid (t.all = (lawfulP x && tl.all && te.all && r.all)) := by show _ = _; rw [← HR.out.2.2]; rfl
          have H1 := hid N1
          have H2 := hid N2
          have H3 := hid N3
          unfold Ix.vals at H1
          clear N1 N2 N3 ih k1 k2 k3 hLl hLe
          obtain ⟨g0, hg0⟩ : ∃ g, lawfulP x = g := ⟨_, rfl⟩
          obtain ⟨g1, hg1⟩ : ∃ g, tl.all = g := ⟨_, rfl⟩
          obtain ⟨g2, hg2⟩ : ∃ g, te.all = g := ⟨_, rfl⟩
          simp only [hg0] at H1
          simp only [hg1] at H2
          simp only [hg2] at H3
          have HE2 : Hid (t.all = (g0 && g1 && g2 && r.all)) := by show _ = _; rw [HE.out, hg0, hg1, hg2]
          clear hg0 hg1 hg2 HE
          go_wp2_with fail
          refine (H1.out _).mono ?_
          clear H1
          rintro e1 w3 ⟨rfl, hb3⟩
          have hbW := thenB hb hb3
          have d6 := keep (w1 := w3) hb3 c6
          have d7 := keep (w1 := w3) hb3 c7
          cases g0
          · have R : Hid (t.all = false) := by show _ = _; rw [HE2.out]; rfl
            clear H2 H3
            go_wp2
            go_ret
            exact ⟨ret_bool R.out.symm, hbW⟩
          go_wp2_with fail
          refine (H2.out _ hbW).mono ?_
          clear H2
          rintro e1 w4 ⟨rfl, hb4⟩
          have hbX := thenB hbW hb4
          have e7 := keep (w1 := w4) hb4 d7
          cases g1
          · have R : Hid (t.all = false) := by show _ = _; rw [HE2.out]; rfl
            clear H3
            go_wp2
            go_ret
            exact ⟨ret_bool R.out.symm, hbX⟩
          go_wp2_with fail
          refine (H3.out _ hbX).mono ?_
          clear H3
          rintro e1 w5 ⟨rfl, hb5⟩
          have hbY := thenB hbX hb5
          cases g2
          · have R : Hid (t.all = false) := by show _ = _; rw [HE2.out]; rfl
            go_wp2
            go_ret
            exact ⟨ret_bool R.out.symm, hbY⟩
          go_wp2
          go_roundw
          case rel =>
            refine ⟨k + 1, r, by simp, by omega, ⟨by have := HR.out.1; simp only [Il.len] at this; omega, by have := HR.out.2.1; simp only [Il.count] at this; omega, ?_⟩, by rw [show off + (k + 1) * 8 = off + k * 8 + 8 by omega]; exact hir', hbY⟩
            rw [HE2.out]; rfl
          case measure => simp [intOf]; omega

set_option maxHeartbeats 1600000 in
theorem checkDoc_any (t : Il) (a : Option Addr) (len c : Nat) (w : World) (hL : ListAt w.heap.size w a len t) (hlen : len ≤ 140737488351232) (hbig : t.count ≤ 4611686018427387900) :
    Calls Tryz.prog 122 #[.slice a len c] w fun e w' => e = .returned (.int .i64 (checkP t)) ∧ Below w.heap.size w w' := by
  have CA := fun w' (h : ListAt w'.heap.size w' a len t) => allDoc_any t.count t a len c w' (Nat.le_refl _) h hlen hbig
  have CN := fun w' (h : ListAt w'.heap.size w' a len t) => refCount_any t.count t a len c w' (Nat.le_refl _) h hlen hbig
  have CD := fun w' (h : ListAt w'.heap.size w' a len t) => refDeep_any t.count t a len c w' (Nat.le_refl _) h hlen hbig
  have CT := fun w' (h : ListAt w'.heap.size w' a len t) => refTags_any t.count t a len c w' (Nat.le_refl _) h hlen hbig
  unfold checkP
  obtain ⟨ga, hga⟩ : ∃ g, t.all = g := ⟨_, rfl⟩
  simp only [hga] at CA ⊢
  cases ga
  · have C1 := hid CA
    clear CA CN CD CT hga hbig hlen
    rw [if_neg (by decide)]
    go_enter Tryz.func122, Tryz.ntmps122
    go_wp2_with fail
    refine (C1.out _ hL).mono ?_
    rintro e w1 ⟨rfl, hb1⟩
    go_wp2
    go_ret
    exact ⟨rfl, hb1⟩
  rw [if_pos rfl]
  obtain ⟨n, hn⟩ : ∃ n : Int, (t.count : Int) = n := ⟨_, rfl⟩
  obtain ⟨d, hd⟩ : ∃ d : Int, (t.deep : Int) = d := ⟨_, rfl⟩
  obtain ⟨g, hgt⟩ : ∃ g, t.tags = g := ⟨_, rfl⟩
  simp only [hn] at CN
  simp only [hd] at CD
  simp only [hgt] at CT
  have hR : (if 262144 < t.count ∨ 900 < t.deep ∨ t.tags = true then (141 : Int) else 0) = if 262144 < n ∨ 900 < d ∨ g = true then 141 else 0 := by
    rw [hgt, ← hn, ← hd]
    congr 1
    simp only [eq_iff_iff]
    constructor <;> (rintro (h | h | h)) <;> first | exact .inl (by omega) | exact .inr (.inl (by omega)) | exact .inr (.inr h)
  rw [hR]
  clear hR hn hd hgt hga hbig hlen
  have C1 := hid CA
  have C2 := hid CN
  have C3 := hid CD
  have C4 := hid CT
  clear CA CN CD CT
  by_cases h1 : 262144 < n
  · rw [if_pos (.inl h1)]
    go_enter Tryz.func122, Tryz.ntmps122
    go_wp2_with fail
    refine (C1.out _ hL).mono ?_
    rintro e w1 ⟨rfl, hb1⟩
    go_wp2_with fail
    refine (C2.out _ (hL.on hb1)).mono ?_
    rintro e w2 ⟨rfl, hb2⟩
    go_wp2
    go_ret
    exact ⟨rfl, thenB hb1 hb2⟩
  · have h1' : n ≤ 262144 := by omega
    by_cases h2 : 900 < d
    · rw [if_pos (.inr (.inl h2))]
      go_enter Tryz.func122, Tryz.ntmps122
      go_wp2_with fail
      refine (C1.out _ hL).mono ?_
      rintro e w1 ⟨rfl, hb1⟩
      go_wp2_with fail
      refine (C2.out _ (hL.on hb1)).mono ?_
      rintro e w2 ⟨rfl, hb2⟩
      go_wp2_with fail
      refine (C3.out _ ((hL.on hb1).on hb2)).mono ?_
      rintro e w3 ⟨rfl, hb3⟩
      go_wp2
      go_ret
      exact ⟨rfl, thenB (thenB hb1 hb2) hb3⟩
    · have h2' : d ≤ 900 := by omega
      have hR : (if 262144 < n ∨ 900 < d ∨ g = true then (141 : Int) else 0) = if g then 141 else 0 := by simp [h1, h2]
      rw [hR]
      clear hR
      cases g
      all_goals
        go_enter Tryz.func122, Tryz.ntmps122
        go_wp2_with fail
        refine (C1.out _ hL).mono ?_
        rintro e w1 ⟨rfl, hb1⟩
        go_wp2_with fail
        refine (C2.out _ (hL.on hb1)).mono ?_
        rintro e w2 ⟨rfl, hb2⟩
        go_wp2_with fail
        refine (C3.out _ ((hL.on hb1).on hb2)).mono ?_
        rintro e w3 ⟨rfl, hb3⟩
        go_wp2_with fail
        refine (C4.out _ (((hL.on hb1).on hb2).on hb3)).mono ?_
        rintro e w4 ⟨rfl, hb4⟩
        go_wp2
        go_ret
        exact ⟨rfl, thenB (thenB (thenB hb1 hb2) hb3) hb4⟩
end Go.Proofs.YtdljneclfgneoaaGreatDoor.Body

namespace Go.Proofs.YtdljneclfgneoaaGreatDoor
open Go.RowKit

/-- Of what was there only blocks of S have turned. -/
structure Touch (S : Nat → Prop) (w w' : World) : Prop where
  os : w'.os = w.os
  tape : w'.tape = w.tape
  output : w'.output = w.output
  size : w.heap.size ≤ w'.heap.size
  block : ∀ j, j < w.heap.size → ¬ S j → w'.heap[j]? = w.heap[j]?
theorem Touch.refl (S : Nat → Prop) (w : World) : Touch S w w := ⟨rfl, rfl, rfl, Nat.le_refl _, fun _ _ _ => rfl⟩
theorem Touch.trans {S : Nat → Prop} {a b c : World} (h : Touch S a b) (g : Touch S b c) : Touch S a c :=
  ⟨g.os.trans h.os, g.tape.trans h.tape, g.output.trans h.output, Nat.le_trans h.size g.size, fun j hj hk => (g.block j (Nat.lt_of_lt_of_le hj h.size) hk).trans (h.block j hj hk)⟩
theorem Touch.mono {S T : Nat → Prop} {a b : World} (h : Touch S a b) (hs : ∀ j, S j → T j) : Touch T a b := ⟨h.os, h.tape, h.output, h.size, fun j hj hk => h.block j hj (fun hs' => hk (hs j hs'))⟩
theorem Touch.of_save {k : Nat} {w w' : World} (h : Save k w w') : Touch (fun j => j = k) w w' := ⟨h.os, h.tape, h.output, h.size, fun j hj hk => h.block j hj hk⟩
theorem Touch.of_below {S : Nat → Prop} {w w' : World} (h : Below w.heap.size w w') : Touch S w w' := ⟨h.os, h.tape, h.output, h.size, fun j hj _ => h.block j hj⟩
theorem Touch.setCell {S : Nat → Prop} {a b : World} (h : Touch S a b) {p : Addr} (hp : S p.block ∨ a.heap.size ≤ p.block) (v : Value) : Touch S a (b.setCell p v) :=
  ⟨h.os, h.tape, h.output, by have := h.size; simpa [World.setCell] using this, fun j hj hk => (Below.heap_setCell _ _ _ _ (by rcases hp with hp | hp; rintro rfl; exact hk hp; omega)).trans (h.block j hj hk)⟩
theorem Touch.cell {S : Nat → Prop} {w w' : World} (h : Touch S w w') {p : Addr} {v : Value} (hk : ¬ S p.block) (hc : w.cell? p = some v) : w'.cell? p = some v :=
  (World.cell?_of_block (w := w) (h.block p.block (World.block_lt_of_cell? w _ hc) hk)).trans hc
theorem touch_row {S : Nat → Prop} {w w' : World} {base size n : Nat} {e : TypeId} {v : Value} {xs : List Value} (h : w.ownsRow base e size v n xs) (ht : Touch S w w') (hk : ∀ g, v.ownBlock = some g → ¬ S g) : w'.ownsRow base e size v n xs := by
  refine ⟨h.1, ?_⟩
  rcases h.2 with h0 | ⟨g, cap, cur, rfl, hg, hh, rest⟩
  · exact .inl h0
  · exact .inr ⟨g, cap, cur, rfl, hg, (ht.block g (Array.getElem?_eq_some_iff.1 hh).1 (hk g rfl)).trans hh, rest⟩
/-- A block that can be written. -/
def Soft (w : World) (q : Nat) : Prop := ∃ cs e, w.heap[q]? = some (.cells cs e (0, 0))
theorem Soft.touch {S : Nat → Prop} {w w' : World} {q : Nat} (h : Soft w q) (ht : Touch S w w') (hk : ¬ S q) : Soft w' q := by
  obtain ⟨cs, e, h⟩ := h
  exact ⟨cs, e, (ht.block q (Array.getElem?_eq_some_iff.1 h).1 hk).trans h⟩
theorem Soft.frozen {w : World} {q : Nat} (h : Soft w q) (i : Nat) : w.frozen? ⟨q, i, none⟩ = false := by
  obtain ⟨cs, e, h⟩ := h
  simp [World.frozen?, h]
theorem Soft.lt {w : World} {q : Nat} (h : Soft w q) : q < w.heap.size := by
  obtain ⟨cs, e, h⟩ := h
  exact (Array.getElem?_eq_some_iff.1 h).1
theorem soft_row {w : World} {base size n : Nat} {e : TypeId} {v : Value} {xs : List Value} (h : w.ownsRow base e size v n xs) {g : Nat} (hg : v.ownBlock = some g) : Soft w g := by
  rcases h.2 with ⟨rfl, _⟩ | ⟨g', cap, cur, rfl, _, hh, _⟩
  · simp [Value.ownBlock] at hg
  · simp only [Value.ownBlock, Option.some.injEq] at hg
    subst hg
    exact ⟨_, _, hh⟩

namespace Instr
def blkOf (n : Nat) (a : Option Addr) : List Nat := if n = 0 then [] else match a with
  | some p => [p.block]
  | none => []
/-- The blocks that hold what is in these instructions: labels, lists. -/
def Il.foot : Il → List Nat
  | .nil => []
  | .cons x l e r => (blkOf x.tags.length x.ta ++ (blkOf x.ln x.la ++ l.foot) ++ (blkOf x.en x.ea ++ e.foot)) ++ r.foot
def Il.cells : Il → List Value
  | .nil => []
  | .cons x _ _ r => x.vals.toList ++ r.cells
/-- What is in these instructions lies as it should; the row that holds themselves may move. -/
def Il.kids (w : World) : Il → Prop
  | .nil => True
  | .cons x l e r => x.ok ∧ TagsAt w.heap.size w x.ta x.tags ∧ ListAt w.heap.size w x.la x.ln l ∧ ListAt w.heap.size w x.ea x.en e ∧ r.kids w
theorem TagsAt.touch {S : Nat → Prop} {n₀ : Nat} {w w' : World} {a : Option Addr} {zs : List Int} (h : TagsAt n₀ w a zs) (ht : Touch S w w') (hk : ∀ q ∈ blkOf zs.length a, ¬ S q) : TagsAt n₀ w' a zs := by
  rcases h with h | ⟨b, off, rfl, hl, hc⟩
  · exact .inl h
  · by_cases h0 : zs = []
    · exact .inl h0
    · have hne : zs.length ≠ 0 := fun h => h0 (List.eq_nil_of_length_eq_zero h)
      exact .inr ⟨b, off, rfl, hl, fun i hi => ht.cell (p := ⟨b, off + i, none⟩) (hk b (by simp [blkOf, hne])) (hc i hi)⟩
theorem Items.touch {S : Nat → Prop} {n₀ : Nat} {w w' : World} (ht : Touch S w w') : ∀ {t : Il} {b off : Nat}, Items n₀ w b off t → ¬ S b → (∀ q ∈ t.foot, ¬ S q) → Items n₀ w' b off t
  | .nil, _, _, _, _, _ => trivial
  | .cons x l e r, b, off, ⟨hl, hx, ⟨c0, c1, c2, c3, c4, c5, c6, c7⟩, htg, ⟨l1, l2⟩, ⟨e1, e2⟩, hr⟩, hb, hf => by
    have k : ∀ j v, w.cell? ⟨b, off + j, none⟩ = some v → w'.cell? ⟨b, off + j, none⟩ = some v := fun j v h => ht.cell (p := ⟨b, off + j, none⟩) hb h
    simp only [Il.foot, List.mem_append] at hf
    refine ⟨hl, hx, ⟨k 0 _ c0, k 1 _ c1, k 2 _ c2, k 3 _ c3, k 4 _ c4, k 5 _ c5, k 6 _ c6, k 7 _ c7⟩, htg.touch ht (fun q hq => hf q (.inl (.inl (.inl hq)))), ⟨l1, ?_⟩, ⟨e1, ?_⟩, Items.touch ht hr hb (fun q hq => hf q (.inr hq))⟩
    · rcases l2 with h | ⟨b', o', ha, hi⟩
      · exact .inl h
      · cases l with
        | nil => exact .inl rfl
        | cons y m f s =>
          have hne : x.ln ≠ 0 := by rw [← l1]; simp [Il.len]
          exact .inr ⟨b', o', ha, Items.touch ht hi (hf b' (.inl (.inl (.inr (.inl (by simp [blkOf, hne, ha])))))) (fun q hq => hf q (.inl (.inl (.inr (.inr hq)))))⟩
    · rcases e2 with h | ⟨b', o', ha, hi⟩
      · exact .inl h
      · cases e with
        | nil => exact .inl rfl
        | cons y m f s =>
          have hne : x.en ≠ 0 := by rw [← e1]; simp [Il.len]
          exact .inr ⟨b', o', ha, Items.touch ht hi (hf b' (.inl (.inr (.inl (by simp [blkOf, hne, ha]))))) (fun q hq => hf q (.inl (.inr (.inr hq))))⟩
theorem ListAt.touch {S : Nat → Prop} {n₀ : Nat} {w w' : World} {a : Option Addr} {n : Nat} {t : Il} (h : ListAt n₀ w a n t) (ht : Touch S w w') (hk : ∀ q ∈ blkOf n a ++ t.foot, ¬ S q) : ListAt n₀ w' a n t := by
  obtain ⟨h1, h2⟩ := h
  refine ⟨h1, ?_⟩
  rcases h2 with h | ⟨b', o', ha, hi⟩
  · exact .inl h
  · cases t with
    | nil => exact .inl rfl
    | cons y m f s =>
      have hne : n ≠ 0 := by rw [← h1]; simp [Il.len]
      exact .inr ⟨b', o', ha, Items.touch ht hi (hk b' (by simp [blkOf, hne, ha])) (fun q hq => hk q (by simp [hq]))⟩
theorem kids_touch {S : Nat → Prop} {w w' : World} (ht : Touch S w w') : ∀ {t : Il}, t.kids w → (∀ q ∈ t.foot, ¬ S q) → t.kids w'
  | .nil, _, _ => trivial
  | .cons x l e r, ⟨h1, h2, h3, h4, h5⟩, hf => by
    simp only [Il.foot, List.mem_append] at hf
    exact ⟨h1, (h2.touch ht (fun q hq => hf q (.inl (.inl (.inl hq))))).more ht.size, ListAt.more ht.size (h3.touch ht (fun q hq => hf q (.inl (.inl (.inr (List.mem_append.1 hq)))))),
      ListAt.more ht.size (h4.touch ht (fun q hq => hf q (.inl (.inr (List.mem_append.1 hq))))), kids_touch ht h5 (fun q hq => hf q (.inr hq))⟩
theorem tags_lt {n₀ : Nat} {w : World} {a : Option Addr} {zs : List Int} (h : TagsAt n₀ w a zs) : ∀ q ∈ blkOf zs.length a, q < n₀ := by
  intro q hq
  rcases h with rfl | ⟨b, off, rfl, hl, _⟩
  · simp [blkOf] at hq
  · unfold blkOf at hq
    split at hq
    · simp at hq
    · simp at hq; omega
mutual
theorem items_lt {n₀ : Nat} {w : World} : ∀ {t : Il} {b off : Nat}, Items n₀ w b off t → ∀ q ∈ t.foot, q < n₀
  | .nil, _, _, _, q, hq => by simp [Il.foot] at hq
  | .cons x l e r, b, off, ⟨_, _, _, ht, hl, he, hr⟩, q, hq => by
    simp only [Il.foot, List.mem_append] at hq
    rcases hq with ((hq | hq) | hq) | hq
    · exact tags_lt ht q hq
    · exact list_lt (t := l) hl q (List.mem_append.2 hq)
    · exact list_lt (t := e) he q (List.mem_append.2 hq)
    · exact items_lt hr q hq
theorem list_lt {n₀ : Nat} {w : World} {a : Option Addr} {n : Nat} : ∀ {t : Il}, ListAt n₀ w a n t → ∀ q ∈ blkOf n a ++ t.foot, q < n₀
  | .nil, ⟨h1, _⟩, q, hq => by simp [← h1, blkOf, Il.len, Il.foot] at hq
  | .cons x l e r, ⟨h1, h2⟩, q, hq => by
    rcases h2 with h | ⟨b, off, rfl, hb, hx, hc, ht, hl, he, hr⟩
    · cases h
    · rcases List.mem_append.1 hq with hq | hq
      · unfold blkOf at hq
        split at hq
        · simp at hq
        · simp at hq; omega
      · simp only [Il.foot, List.mem_append] at hq
        rcases hq with ((hq | hq) | hq) | hq
        · exact tags_lt ht q hq
        · exact list_lt (t := l) hl q (List.mem_append.2 hq)
        · exact list_lt (t := e) he q (List.mem_append.2 hq)
        · exact items_lt hr q hq
end
theorem kids_lt {w : World} : ∀ {t : Il}, t.kids w → ∀ q ∈ t.foot, q < w.heap.size
  | .nil, _, q, hq => by simp [Il.foot] at hq
  | .cons x l e r, ⟨_, ht, hl, he, hr⟩, q, hq => by
    simp only [Il.foot, List.mem_append] at hq
    rcases hq with ((hq | hq) | hq) | hq
    · exact tags_lt ht q hq
    · exact list_lt hl q (List.mem_append.2 hq)
    · exact list_lt he q (List.mem_append.2 hq)
    · exact kids_lt hr q hq
end Instr
end Go.Proofs.YtdljneclfgneoaaGreatDoor

/-
  BODY: the open lists in memory: a row of them, each with a row of its instructions; how a top one turns.
-/
namespace Go.Proofs.YtdljneclfgneoaaGreatDoor.Body
open Go.RowKit Go.Proofs.YtdljneclfgneoaaGreatDoor.Instr
open Go.Proofs.YtdljneclfgneoaaGreatDoor.Kind (Rd)

end Go.Proofs.YtdljneclfgneoaaGreatDoor.Body

namespace Go.Proofs.YtdljneclfgneoaaGreatDoor.Body
open Go.RowKit Go.Proofs.YtdljneclfgneoaaGreatDoor.Instr
open Go.Proofs.YtdljneclfgneoaaGreatDoor.Kind (Rd)
/-- An open list: its owner, the owner's first list if this is its second, what has been read, the slice that holds that. -/
structure Og where
  x : Ix
  fl : Il
  t : Il
  v : Value
  oth : Bool
def Og.cells (o : Og) : List Value := o.x.vals.toList ++ [o.v, .bool o.oth]
def rowBlk (v : Value) : List Nat := match v.ownBlock with
  | some g => [g]
  | none => []
/-- Its blocks, but for that of its row. -/
def Og.inner (o : Og) : List Nat := o.t.foot ++ (blkOf o.x.ln o.x.la ++ o.fl.foot)
def Og.foot (o : Og) : List Nat := rowBlk o.v ++ o.inner
/-- What the plain reading knows of it. -/
def Og.fr (o : Og) : Fr := ⟨plainX o.x.op o.x.res 0 0 0 [], o.fl.bare, o.t.bare, o.oth⟩
/-- All but the row of what has been read. -/
structure Half (base : Nat) (w : World) (o : Og) : Prop where
  kids : o.t.kids w
  own : ListAt w.heap.size w o.x.la o.x.ln o.fl
  tags : o.x.tags = []
  zero : o.x.a = 0 ∧ o.x.b = 0 ∧ o.x.n = 0
  ok : o.x.ok
  en : o.x.ea = none ∧ o.x.en = 0 ∧ o.x.ec = 0
  first : o.oth = false → o.x.la = none ∧ o.x.ln = 0 ∧ o.x.lc = 0
  low : ∀ q ∈ o.inner, base ≤ q
  few : o.t.len ≤ 4000000
  soft : ∀ q ∈ o.inner, Soft w q
structure OpenOk (base : Nat) (w : World) (o : Og) : Prop where
  half : Half base w o
  row : w.ownsRow base 92 8 o.v o.t.len o.t.cells
theorem Half.touch {base : Nat} {S : Nat → Prop} {w w' : World} {o : Og} (h : Half base w o) (ht : Touch S w w') (hk : ∀ q ∈ o.inner, ¬ S q) : Half base w' o := by
  obtain ⟨h1, h2, h3, h4, h5, h6, h7, h8, h9, h10⟩ := h
  have hs : ∀ q ∈ o.inner, Soft w' q := fun q hq => (h10 q hq).touch ht (hk q hq)
  unfold Og.inner at hk
  exact ⟨kids_touch ht h1 (fun q hq => hk q (List.mem_append_left _ hq)), ListAt.more ht.size (h2.touch ht (fun q hq => hk q (List.mem_append_right _ hq))), h3, h4, h5, h6, h7, h8, h9, hs⟩
theorem OpenOk.touch {base : Nat} {S : Nat → Prop} {w w' : World} {o : Og} (h : OpenOk base w o) (ht : Touch S w w') (hk : ∀ q ∈ o.foot, ¬ S q) : OpenOk base w' o :=
  ⟨h.half.touch ht (fun q hq => hk q (List.mem_append_right _ hq)), touch_row h.row ht (fun g hg => hk g (List.mem_append_left _ (by simp [rowBlk, hg])))⟩
theorem OpenOk.low {base : Nat} {w : World} {o : Og} (h : OpenOk base w o) : ∀ q ∈ o.foot, base ≤ q := by
  intro q hq
  rcases List.mem_append.1 hq with hq | hq
  · unfold rowBlk at hq
    split at hq
    · rename_i g hg
      simp at hq
      subst hq
      exact (World.ownsRow.lt h.row q hg).1
    · simp at hq
  · exact h.half.low q hq
theorem OpenOk.soft {base : Nat} {w : World} {o : Og} (h : OpenOk base w o) : ∀ q ∈ o.foot, Soft w q := by
  intro q hq
  rcases List.mem_append.1 hq with hq | hq
  · unfold rowBlk at hq
    split at hq
    · rename_i g hg
      simp at hq
      subst hq
      exact soft_row h.row hg
    · simp at hq
  · exact h.half.soft q hq
theorem Half.lt {base : Nat} {w : World} {o : Og} (h : Half base w o) : ∀ q ∈ o.inner, q < w.heap.size := by
  intro q hq
  rcases List.mem_append.1 hq with hq | hq
  · exact kids_lt h.kids q hq
  · exact list_lt h.own q hq
theorem OpenOk.lt {base : Nat} {w : World} {o : Og} (h : OpenOk base w o) : ∀ q ∈ o.foot, q < w.heap.size := by
  intro q hq
  rcases List.mem_append.1 hq with hq | hq
  · unfold rowBlk at hq
    split at hq
    · rename_i g hg
      simp at hq
      subst hq
      exact (World.ownsRow.lt h.row q hg).2
    · simp at hq
  · exact h.half.lt q hq

end Go.Proofs.YtdljneclfgneoaaGreatDoor.Body

namespace Go.Proofs.YtdljneclfgneoaaGreatDoor.Body
open Go.RowKit Go.Proofs.YtdljneclfgneoaaGreatDoor.Instr
open Go.Proofs.YtdljneclfgneoaaGreatDoor.Kind (Rd)

section
variable {ops : Array Oper} {o : Oper} {act : Act} {K : Act → World → Prop} {Q : Exit → Act → World → Prop} {E : Prop}
end
end Go.Proofs.YtdljneclfgneoaaGreatDoor.Body

/-
  BODY: closeTop, by contract.
-/
namespace Go.Proofs.YtdljneclfgneoaaGreatDoor.Body
open Go.RowKit Go.Proofs.YtdljneclfgneoaaGreatDoor.Instr
open Go.Proofs.YtdljneclfgneoaaGreatDoor.Kind (Rd)

/-- The cells that an append to an open list's slice reads: that slice, and the instruction. -/
def Tops (gs p T : Nat) (gv : Value) (y : Ix) (w : World) : Prop := w.cell? ⟨gs, p, none⟩ = some gv ∧ At y T w
theorem Tops.touch {gs p T : Nat} {gv : Value} {y : Ix} {S : Nat → Prop} {w w' : World} (h : Tops gs p T gv y w) (ht : Touch S w w') (h1 : ¬ S gs) (h2 : ¬ S T) : w'.cell? ⟨gs, p, none⟩ = some gv ∧ w'.cell? ⟨T, 0, none⟩ = some (.int .i64 y.op) ∧ w'.cell? ⟨T, 1, none⟩ = some (.int .i64 y.res) ∧
    w'.cell? ⟨T, 2, none⟩ = some (.int .u32 y.a) ∧ w'.cell? ⟨T, 3, none⟩ = some (.int .u32 y.b) ∧ w'.cell? ⟨T, 4, none⟩ = some (.int .i32 y.n) ∧ w'.cell? ⟨T, 5, none⟩ = some (.slice y.ta y.tags.length y.tc) ∧ w'.cell? ⟨T, 6, none⟩ = some (.slice y.la y.ln y.lc) ∧ w'.cell? ⟨T, 7, none⟩ = some (.slice y.ea y.en y.ec) := by
  obtain ⟨h0, ⟨c0, c1, c2, c3, c4, c5, c6, c7⟩⟩ := h
  exact ⟨ht.cell h1 h0, ht.cell h2 c0, ht.cell h2 c1, ht.cell h2 c2, ht.cell h2 c3, ht.cell h2 c4, ht.cell h2 c5, ht.cell h2 c6, ht.cell h2 c7⟩
end Go.Proofs.YtdljneclfgneoaaGreatDoor.Body

/-
  BODY: closeTop, by contract, on the stack of open lists.
-/
namespace Go.Proofs.YtdljneclfgneoaaGreatDoor.Body
open Go.RowKit Go.Proofs.YtdljneclfgneoaaGreatDoor.Instr
open Go.Proofs.YtdljneclfgneoaaGreatDoor.Kind (Rd)

theorem own_blk {v : Value} {q : Nat} (h : v.ownBlock = some q) : q ∈ rowBlk v := by simp [rowBlk, h]
end Go.Proofs.YtdljneclfgneoaaGreatDoor.Body

namespace Go.Proofs.YtdljneclfgneoaaGreatDoor.Body
open Go.RowKit Go.Proofs.YtdljneclfgneoaaGreatDoor.Instr
open Go.Proofs.YtdljneclfgneoaaGreatDoor.Kind (Rd)

/-- Instructions in memory of their own. -/
structure Fresh (B : Nat) (w : World) (a : Option Addr) (n : Nat) (t : Il) : Prop where
  lst : ListAt w.heap.size w a n t
  nodup : (blkOf n a ++ t.foot).Nodup
  low : ∀ q ∈ blkOf n a ++ t.foot, B ≤ q
  soft : ∀ q ∈ blkOf n a ++ t.foot, Soft w q
theorem Fresh.nil (B : Nat) (w : World) : Fresh B w none 0 .nil := ⟨⟨rfl, .inl rfl⟩, by simp [blkOf, Il.foot], fun q hq => by simp [blkOf, Il.foot] at hq, fun q hq => by simp [blkOf, Il.foot] at hq⟩
theorem Fresh.touch {B : Nat} {S : Nat → Prop} {w w' : World} {a : Option Addr} {n : Nat} {t : Il} (h : Fresh B w a n t) (ht : Touch S w w') (hs : ∀ q ∈ blkOf n a ++ t.foot, ¬ S q) : Fresh B w' a n t := ⟨ListAt.more ht.size (h.lst.touch ht hs), h.nodup, h.low, fun q hq => (h.soft q hq).touch ht (hs q hq)⟩
theorem Fresh.mono {B B' : Nat} {w : World} {a : Option Addr} {n : Nat} {t : Il} (h : Fresh B w a n t) (hb : B' ≤ B) : Fresh B' w a n t := ⟨h.lst, h.nodup, fun q hq => Nat.le_trans hb (h.low q hq), h.soft⟩
end Go.Proofs.YtdljneclfgneoaaGreatDoor.Body

namespace Go.Proofs.YtdljneclfgneoaaGreatDoor.Body
set_option linter.unusedVariables false
open Go.RowKit Go.Proofs.YtdljneclfgneoaaGreatDoor.Instr
open Go.Proofs.YtdljneclfgneoaaGreatDoor.Kind (Rd)

theorem RcIs.belowB {B : Nat} {w w' : World} {k : Nat} {v : Value} {s : Rd} {n : Int} (h : RcIs w k v s n) (hb : Below B w w') (hk : k < B) : RcIs w' k v s n :=
  ⟨h.toRdIs.belowB hb hk, (hb.cell hk).trans h.c4, (hb.frozen hk).trans h.f4⟩
theorem Bx.belowB {B : Nat} {w w' : World} {g : Nat} {x : Ix} (h : Bx g x w) (hb : Below B w w') (hg : g < B) : Bx g x w' :=
  ⟨⟨(hb.cell hg).trans h.at_.c0, (hb.cell hg).trans h.at_.c1, (hb.cell hg).trans h.at_.c2, (hb.cell hg).trans h.at_.c3, (hb.cell hg).trans h.at_.c4, (hb.cell hg).trans h.at_.c5, (hb.cell hg).trans h.at_.c6, (hb.cell hg).trans h.at_.c7⟩,
    (hb.frozen hg).trans h.f0, (hb.frozen hg).trans h.f1, (hb.frozen hg).trans h.f2, (hb.frozen hg).trans h.f3, (hb.frozen hg).trans h.f4, (hb.frozen hg).trans h.f5, (hb.frozen hg).trans h.f6, (hb.frozen hg).trans h.f7⟩
/-- While an instruction is read: the reader, the result's block, the instruction's block behind it. -/
structure Mid (w : World) (k : Nat) (v : Value) (n : Int) (s : Rd) (x : Ix) (W : World) : Prop where
  r : RcIs W k v s n
  sv : Save k w W
  res : Bx w.heap.size zeroX W
  box : Bx (w.heap.size + 1) x W
  lt : k < w.heap.size
section
variable {w W W' : World} {k : Nat} {v : Value} {n : Int} {s s' : Rd} {x : Ix}
theorem Mid.call {n' : Int} (M : Mid w k v n s x W) (h : RcIs W' k v s' n') (hs : Save k W W') : Mid w k v n' s' x W' := ⟨h, M.sv.trans hs, M.res.save hs (by have := M.lt; omega), M.box.save hs (by have := M.lt; omega), M.lt⟩
end
end Go.Proofs.YtdljneclfgneoaaGreatDoor.Body

/-
  BODY: the document's own reading of an instruction with labels, by contract.
-/
namespace Go.Proofs.YtdljneclfgneoaaGreatDoor.Body
set_option linter.unusedVariables false
open Go.RowKit Go.Proofs.YtdljneclfgneoaaGreatDoor.Instr
open Go.Proofs.YtdljneclfgneoaaGreatDoor.Kind (Rd)

theorem Mid.more {w W W' : World} {k : Nat} {v : Value} {n : Int} {s : Rd} {x : Ix} (M : Mid w k v n s x W) (hB : Below (w.heap.size + 2) W W') : Mid w k v n s x W' :=
  ⟨M.r.belowB hB (by have := M.lt; omega), save_under M.sv (hB.mono (by omega)), M.res.belowB hB (by omega), M.box.belowB hB (by omega), M.lt⟩
end Go.Proofs.YtdljneclfgneoaaGreatDoor.Body

/-
  BODY: the document's own reading of lists: what a list, and an instruction with lists, give; the list that is read so far (plain, and in memory).
-/
namespace Go.Proofs.YtdljneclfgneoaaGreatDoor.Body
set_option linter.unusedVariables false
open Go.RowKit Go.Proofs.YtdljneclfgneoaaGreatDoor.Instr
open Go.Proofs.YtdljneclfgneoaaGreatDoor.Kind (Rd)

/-- The list that has been read so far, in memory of its own. -/
structure LOk (w : World) (out : Value) (t : Il) (W : World) : Prop where
  row : W.ownsRow w.heap.size 92 8 out t.len t.cells
  kids : t.kids W
  low : ∀ q ∈ t.foot, w.heap.size ≤ q
  apart : ∀ q ∈ t.foot, out.ownBlock ≠ some q
theorem LOk.touch {S : Nat → Prop} {w W W' : World} {out : Value} {t : Il} (h : LOk w out t W) (ht : Touch S W W') (hs : ∀ q, w.heap.size ≤ q → ¬ S q) : LOk w out t W' :=
  ⟨touch_row h.row ht (fun g hg => hs g (World.ownsRow.lt h.row g hg).1), kids_touch ht h.kids (fun q hq => hs q (h.low q hq)), h.low, h.apart⟩
theorem LOk.save {k : Nat} {w W W' : World} {out : Value} {t : Il} (h : LOk w out t W) (hs : Save k W W') (hk : k < w.heap.size) : LOk w out t W' :=
  h.touch (.of_save hs) (fun q hq e => by omega)
section
variable {ops : Array Oper} {rest : List Oper} {o : Oper} {act : Act} {Q : Exit → Act → World → Prop}
end
end Go.Proofs.YtdljneclfgneoaaGreatDoor.Body

/-
  BODY: the document's own reading of an instruction that has lists, by contract. (tools/gen_bodyrefb.py)
-/
namespace Go.Proofs.YtdljneclfgneoaaGreatDoor.Body
set_option linter.unusedVariables false
open Go.RowKit Go.Proofs.YtdljneclfgneoaaGreatDoor.Instr
open Go.Proofs.YtdljneclfgneoaaGreatDoor.Kind (Rd)

/-- While an instruction with lists is read: the reader, the instruction's block, the result's behind it. -/
structure Blk (w : World) (k : Nat) (v : Value) (n : Int) (s : Rd) (x : Ix) (W : World) : Prop where
  r : RcIs W k v s n
  sv : Save k w W
  box : Bx w.heap.size x W
  res : Bx (w.heap.size + 1) zeroX W
  lt : k < w.heap.size
section
variable {w W W' : World} {k : Nat} {v : Value} {n : Int} {s s' : Rd} {x : Ix}
theorem Blk.call {n' : Int} (M : Blk w k v n s x W) (h : RcIs W' k v s' n') (hs : Save k W W') : Blk w k v n' s' x W' := ⟨h, M.sv.trans hs, M.box.save hs (by have := M.lt; omega), M.res.save hs (by have := M.lt; omega), M.lt⟩
theorem Blk.size (M : Blk w k v n s x W) : w.heap.size + 2 ≤ W.heap.size := by
  have := World.block_lt_of_cell? W _ M.res.at_.c0
  simp only at this
  omega
end
end Go.Proofs.YtdljneclfgneoaaGreatDoor.Body

/-
  BODY: the document's own one and list, by contract. (tools/gen_bodyrefl.py)
-/
namespace Go.Proofs.YtdljneclfgneoaaGreatDoor.Body
set_option linter.unusedVariables false
open Go.RowKit Go.Proofs.YtdljneclfgneoaaGreatDoor.Instr
open Go.Proofs.YtdljneclfgneoaaGreatDoor.Kind (Rd)

theorem Mid.size {w W : World} {k : Nat} {v : Value} {n : Int} {s : Rd} {x : Ix} (M : Mid w k v n s x W) : w.heap.size + 2 ≤ W.heap.size := by
  have := World.block_lt_of_cell? W _ M.box.at_.c0
  simp only at this
  omega
end Go.Proofs.YtdljneclfgneoaaGreatDoor.Body

/-
  BODY: the document's own list, by contract. (tools/gen_bodyrefm.py)
-/
namespace Go.Proofs.YtdljneclfgneoaaGreatDoor.Body
set_option linter.unusedVariables false
open Go.RowKit Go.Proofs.YtdljneclfgneoaaGreatDoor.Instr
open Go.Proofs.YtdljneclfgneoaaGreatDoor.Kind (Rd)

end Go.Proofs.YtdljneclfgneoaaGreatDoor.Body

/-
  BODY: the document's own Get, by contract.
-/
namespace Go.Proofs.YtdljneclfgneoaaGreatDoor.Body
set_option linter.unusedVariables false
open Go.RowKit Go.Proofs.YtdljneclfgneoaaGreatDoor.Instr
open Go.Proofs.YtdljneclfgneoaaGreatDoor.Kind (Rd)

/-- Two cells that are there. -/
structure Duq (T : Nat) (x y : Value) (w : World) : Prop where
  c0 : w.cell? ⟨T, 0, none⟩ = some x
  c1 : w.cell? ⟨T, 1, none⟩ = some y
  f0 : w.frozen? ⟨T, 0, none⟩ = false
  f1 : w.frozen? ⟨T, 1, none⟩ = false
theorem Duq.save {k T : Nat} {x y : Value} {w w' : World} (h : Duq T x y w) (hs : Save k w w') (hk : T ≠ k) : Duq T x y w' :=
  have hl := World.block_lt_of_cell? w _ h.c0
  ⟨hs.cell hk h.c0, hs.cell hk h.c1, hs.frozen hl hk h.f0, hs.frozen hl hk h.f1⟩
end Go.Proofs.YtdljneclfgneoaaGreatDoor.Body

namespace Go.Proofs.YtdljneclfgneoaaGreatDoor.Val
open Go.RowKit Go.Proofs.YtdljneclfgneoaaGreatDoor.Instr Go.Proofs.YtdljneclfgneoaaGreatDoor.Mod
set_option linter.unusedVariables false

set_option maxHeartbeats 1000000 in
theorem refConst_m (t : Il) (a : Option Addr) (n c : Nat) (w : World) (hL : ListAt w.heap.size w a n t) (hn : n ≤ 140737488351232) (hct : t.count ≤ 4611686018427387900) :
    Calls Tryz.prog 60 #[.slice a n c] w fun e w' => e = .returned (.tuple #[.int .u32 (constP t).1, .int .i64 (constP t).2]) ∧ Below w.heap.size w w' := by
  have CC := hid (Body.checkDoc_any t a n c w hL hn hct)
  by_cases h1 : t.len = 1
  · cases t with
    | nil => simp [Il.len] at h1
    | cons x l e r =>
      cases r with
      | cons x' l' e' r' => simp [Il.len] at h1
      | nil =>
        obtain ⟨hl1, hl2⟩ := hL
        have hn1 : n = 1 := by rw [← hl1]; rfl
        subst hn1
        rcases hl2 with h | ⟨b, off, rfl, hb, hx, ⟨c0, c1, c2, c3, c4, c5, c6, c7⟩, -⟩
        · cases h
        have HE : Hid (constP (.cons x l e .nil) = if x.op = 65 ∧ checkP (.cons x l e .nil) = 0 then (IntKind.u32.wrap x.n, 0) else (0, 210)) := hid rfl
        obtain ⟨q, hq⟩ : ∃ q, checkP (.cons x l e .nil) = q := ⟨_, rfl⟩
        rw [hq] at CC HE
        obtain ⟨op, hop⟩ : ∃ o, x.op = o := ⟨_, rfl⟩
        rw [hop] at c0 HE
        have hnn := hx.n
        clear h1 hl1 hq hx hb c1 c2 c3 c5 c6 c7 hct hn
        by_cases h2 : op = 65
        · subst h2
          by_cases h3 : q = 0
          · subst h3
            have HV := hid (show constP (.cons x l e .nil) = (IntKind.u32.wrap x.n, 0) by rw [HE.out, if_pos ⟨rfl, rfl⟩])
            obtain ⟨xn, hxn⟩ : ∃ z, x.n = z := ⟨_, rfl⟩
            rw [hxn] at c4 HV
            clear HE hxn hop hnn
            go_enter Tryz.func60, Tryz.ntmps60
            go_wp2_with fail
            refine CC.out.mono ?_
            rintro e1 w1 ⟨rfl, hb1⟩
            have k0 := Go.Proofs.YtdljneclfgneoaaGreatDoor.keep hb1 c0
            have k4 := Go.Proofs.YtdljneclfgneoaaGreatDoor.keep hb1 c4
            have HB := hid hb1
            clear CC hb1 c0 c4
            go_wp2
            go_ret2
            refine ⟨?_, HB.out⟩
            rw [HV.out]; rfl
          · have HV := hid (show constP (.cons x l e .nil) = (0, 210) by rw [HE.out, if_neg (fun h => h3 h.2)])
            have h3b : (q == 0) = false := by simpa using h3
            clear HE hop hnn c4
            go_enter Tryz.func60, Tryz.ntmps60
            go_wp2_with fail
            refine CC.out.mono ?_
            rintro e1 w1 ⟨rfl, hb1⟩
            have HB := hid hb1
            clear CC hb1 c0
            go_wp2
            go_ret2
            refine ⟨?_, HB.out⟩
            rw [HV.out]; rfl
        · have HV := hid (show constP (.cons x l e .nil) = (0, 210) by rw [HE.out, if_neg (fun h => h2 h.1)])
          have h2b : (op == 65) = false := by simpa using h2
          clear HE hop hnn c4 CC
          go_enter Tryz.func60, Tryz.ntmps60
          go_wp2
          go_ret2
          refine ⟨?_, Below.refl _ _⟩
          rw [HV.out]; rfl
  · have HV := hid (constP_len h1)
    have hn1 : (n : Int) ≠ 1 := by have := hL.1; omega
    have hnb : ((n : Int) == 1) = false := by simpa using hn1
    clear CC hL h1 hct
    go_enter Tryz.func60, Tryz.ntmps60
    go_wp2
    go_ret2
    refine ⟨?_, Below.refl _ _⟩
    rw [HV.out]; rfl
end Go.Proofs.YtdljneclfgneoaaGreatDoor.Val
namespace Go.Proofs.YtdljneclfgneoaaGreatDoor
open Go.RowKit
end Go.Proofs.YtdljneclfgneoaaGreatDoor

namespace Go.Proofs.YtdljneclfgneoaaGreatDoor.Mod
open Go.RowKit Go.Proofs.YtdljneclfgneoaaGreatDoor.Instr

theorem refCode_any (l : Lst) (e : Int) (w : World) (hl : ListAt w.heap.size w l.a l.t.len l.t) (h1 : l.t.len ≤ 140737488351232) (h2 : l.t.count ≤ 1000000) :
    Calls Tryz.prog 288 #[.slice l.a l.t.len l.c, .int .i64 e] w fun x w' => x = .returned (.bool (checkP l.t == e)) ∧ Below w.heap.size w w' := by
  have C := hid (Body.checkDoc_any l.t l.a l.t.len l.c w hl h1 (by omega))
  obtain ⟨q, hq⟩ : ∃ q, checkP l.t = q := ⟨_, rfl⟩
  rw [hq] at C ⊢
  clear hq hl
  go_enter Tryz.func288, Tryz.ntmps288
  go_wp2_with fail
  refine C.out.mono ?_
  rintro e1 w1 ⟨rfl, hb⟩
  clear C
  go_wp2
  go_ret
  exact ⟨rfl, hb⟩
def Md.has (m : Md) (e : Int) : Bool := (m.fu.any fun x => checkP x.l.t == e) || ((m.gl.any fun x => checkP x.l.t == e) || ((m.el.any fun x => checkP x.l.t == e) || (m.da.any fun x => checkP x.l.t == e)))
set_option maxHeartbeats 4000000 in
set_option maxRecDepth 100000 in
theorem refInstrs_any (m : Md) (e : Int) (w : World) (hm : ModAt w.heap.size w m) (hf : m.few) :
    Calls Tryz.prog 244 #[.agg m.v, .int .i64 e] w fun x w' => x = .returned (.bool (m.has e)) ∧ Below w.heap.size w w' := by
  have hb0 := (Below.refl w.heap.size w).alloc (Nat.le_refl _) (.cells m.v 40)
  have HB := hid hb0
  have HM := hid (hm.on hb0)
  have HX := hid (BoxAt.made w m.v 40)
  have HF := hid hf
  unfold Md.v at HB HX HM ⊢
  clear hm hf hb0
  go_enter Tryz.func244, Tryz.ntmps244
  go_wp2
  generalize w.alloc (.cells #[.slice m.ty'.a m.ty.length m.ty'.c, .slice m.im'.a m.im.length m.im'.c, .slice m.fu'.a m.fu.length m.fu'.c, .slice m.tb'.a m.tb.length m.tb'.c, .slice m.me'.a m.me.length m.me'.c, .slice m.gl'.a m.gl.length m.gl'.c, .slice m.ex'.a m.ex.length m.ex'.c, .bool m.st, .int .u32 m.sn, .slice m.el'.a m.el.length m.el'.c, .slice m.da'.a m.da.length m.da'.c] 40) = W0 at HB HM HX ⊢
  obtain ⟨lf, hlf⟩ : ∃ n, m.fu.length = n := ⟨_, rfl⟩
  have Llf := hid hlf
  have blf : lf ≤ 140737488351232 := by have := HF.out.fit.fu; omega
  have zlf : lf ≤ 1000000 := by have := HF.out.lens; omega
  have Xfu := hid (show W0.cell? ⟨w.heap.size, 2, none⟩ = some (.slice m.fu'.a lf m.fu'.c) by rw [← hlf]; exact HX.out 2 _ rfl)
  have Rfu := hid HM.out.fu
  clear hlf
  obtain ⟨lg, hlg⟩ : ∃ n, m.gl.length = n := ⟨_, rfl⟩
  have Llg := hid hlg
  have blg : lg ≤ 140737488351232 := by have := HF.out.fit.gl; omega
  have zlg : lg ≤ 1000000 := by have := HF.out.lens; omega
  have Xgl := hid (show W0.cell? ⟨w.heap.size, 5, none⟩ = some (.slice m.gl'.a lg m.gl'.c) by rw [← hlg]; exact HX.out 5 _ rfl)
  have Rgl := hid HM.out.gl
  clear hlg
  obtain ⟨le, hle⟩ : ∃ n, m.el.length = n := ⟨_, rfl⟩
  have Lle := hid hle
  have ble : le ≤ 140737488351232 := by have := HF.out.fit.el; omega
  have zle : le ≤ 1000000 := by have := HF.out.lens; omega
  have Xel := hid (show W0.cell? ⟨w.heap.size, 9, none⟩ = some (.slice m.el'.a le m.el'.c) by rw [← hle]; exact HX.out 9 _ rfl)
  have Rel := hid HM.out.el
  clear hle
  obtain ⟨ld, hld⟩ : ∃ n, m.da.length = n := ⟨_, rfl⟩
  have Lld := hid hld
  have bld : ld ≤ 140737488351232 := by have := HF.out.fit.da; omega
  have zld : ld ≤ 1000000 := by have := HF.out.lens; omega
  have Xda := hid (show W0.cell? ⟨w.heap.size, 10, none⟩ = some (.slice m.da'.a ld m.da'.c) by rw [← hld]; exact HX.out 10 _ rfl)
  have Rda := hid HM.out.da
  clear hld
  clear HX
  go_loopw [5] (fun vi wr => ∃ k : Nat, vi = .int .i64 k ∧ k ≤ lf ∧ Hid (∀ j (hj : j < m.fu.length), j < k → (checkP (m.fu[j]).l.t == e) = false) ∧ Hid (Below W0.heap.size W0 wr)) (fun vi _ => lf - (intOf vi).toNat)
  case atStart => exact ⟨0, rfl, Nat.zero_le _, fun j _ h => absurd h (Nat.not_lt_zero _), Below.refl _ _⟩
  case round =>
    obtain ⟨k, rfl, hk, HQ, HW⟩ := hrel
    have hbx := Go.Proofs.YtdljneclfgneoaaGreatDoor.keep HW.out Xfu.out
    by_cases hlt : k < lf
    · have hkl : k < m.fu.length := by rw [Llf.out]; exact hlt
      obtain ⟨b, off, ha, hb, hc⟩ := Rows.get Rfu.out hkl
      rw [ha] at hbx
      have hx : m.fu[k] ∈ m.fu := List.getElem_mem hkl
      have hLs := HM.out.ls m.fu[k].l (by unfold Md.codes; exact List.mem_append_left _ (List.mem_map.2 ⟨_, hx, rfl⟩))
      have hLl := HF.out.fit.ls m.fu[k].l (by unfold Md.codes; exact List.mem_append_left _ (List.mem_map.2 ⟨_, hx, rfl⟩))
      have hLc := HF.out.cs m.fu[k].l (by unfold Md.codes; exact List.mem_append_left _ (List.mem_map.2 ⟨_, hx, rfl⟩))
      obtain ⟨x, hxe⟩ : ∃ x, m.fu[k] = x := ⟨_, rfl⟩
      have HXE := hid hxe
      rw [hxe] at hc hLs hLl hLc
      have cc : ∀ j, j < 3 → ∀ v, x.v[j]? = some v → wr.cell? ⟨b, off + k * 3 + j, none⟩ = some v := fun j hj v hv => (HW.out.cell (p := ⟨b, off + k * 3 + j, none⟩) hb).trans (hc j hj v hv)
      have c2 : wr.cell? ⟨b, off + k * 3 + 2, none⟩ = some (.slice x.l.a x.l.t.len x.l.c) := cc 2 (by omega) _ rfl
      have hki : (k : Int) < (lf : Int) := by omega
      have C := hid (refCode_any x.l e wr ((hLs.below HW.out).more HW.out.size) hLl hLc)
      obtain ⟨q, hq⟩ : ∃ q, (checkP x.l.t == e) = q := ⟨_, rfl⟩
      rw [hq] at C
      have HQK := hid (show (checkP (m.fu[k]).l.t == e) = q by rw [HXE.out]; exact hq)
      clear hx hxe hc cc hb ha hLs hLl hLc hq
      cases q with
      | true =>
        have HE := hid (show m.has e = true by unfold Md.has; rw [any_some hkl HQK.out]; simp)
        go_wp2_with fail
        refine C.out.mono ?_
        rintro e1 w1 ⟨rfl, hb1⟩
        have HW1 := hid (HW.out.trans (hb1.mono HW.out.size))
        clear C hb1
        go_wp2
        go_ret
        exact ⟨ret_bool HE.out.symm, HB.out.trans (HW1.out.mono HB.out.size)⟩
      | false =>
        have HQ' := hid (any_take (p := fun x => checkP x.l.t == e) hkl HQ.out HQK.out)
        go_wp2_with fail
        refine C.out.mono ?_
        rintro e1 w1 ⟨rfl, hb1⟩
        have HW1 := hid (HW.out.trans (hb1.mono HW.out.size))
        clear C hb1 hbx c2
        go_wp2
        go_roundw
        case rel => exact ⟨k + 1, by go_num, by omega, HQ', HW1⟩
        case measure => simp [intOf]; omega
    · obtain rfl : lf = k := by omega
      have HBL := HW
      have HAfu := hid (any_none (p := fun x => checkP x.l.t == e) (l := m.fu) (fun j hj => HQ.out j hj (by rw [← Llf.out]; exact hj)))
      clear HQ HW hlt hk
      go_wp2
      clear hbx
      go_loopw [6] (fun vi wr => ∃ k : Nat, vi = .int .i64 k ∧ k ≤ lg ∧ Hid (∀ j (hj : j < m.gl.length), j < k → (checkP (m.gl[j]).l.t == e) = false) ∧ Hid (Below W0.heap.size W0 wr)) (fun vi _ => lg - (intOf vi).toNat)
      case atStart => exact ⟨0, rfl, Nat.zero_le _, fun j _ h => absurd h (Nat.not_lt_zero _), HBL⟩
      case round =>
        clear HBL
        obtain ⟨k, rfl, hk, HQ, HW⟩ := hrel
        have hbx := Go.Proofs.YtdljneclfgneoaaGreatDoor.keep HW.out Xgl.out
        by_cases hlt : k < lg
        · have hkl : k < m.gl.length := by rw [Llg.out]; exact hlt
          obtain ⟨b, off, ha, hb, hc⟩ := Rows.get Rgl.out hkl
          rw [ha] at hbx
          have hx : m.gl[k] ∈ m.gl := List.getElem_mem hkl
          have hLs := HM.out.ls m.gl[k].l (by unfold Md.codes; exact List.mem_append_right _ (List.mem_append_left _ (List.mem_map.2 ⟨_, hx, rfl⟩)))
          have hLl := HF.out.fit.ls m.gl[k].l (by unfold Md.codes; exact List.mem_append_right _ (List.mem_append_left _ (List.mem_map.2 ⟨_, hx, rfl⟩)))
          have hLc := HF.out.cs m.gl[k].l (by unfold Md.codes; exact List.mem_append_right _ (List.mem_append_left _ (List.mem_map.2 ⟨_, hx, rfl⟩)))
          obtain ⟨x, hxe⟩ : ∃ x, m.gl[k] = x := ⟨_, rfl⟩
          have HXE := hid hxe
          rw [hxe] at hc hLs hLl hLc
          have cc : ∀ j, j < 2 → ∀ v, x.v[j]? = some v → wr.cell? ⟨b, off + k * 2 + j, none⟩ = some v := fun j hj v hv => (HW.out.cell (p := ⟨b, off + k * 2 + j, none⟩) hb).trans (hc j hj v hv)
          have c1 : wr.cell? ⟨b, off + k * 2 + 1, none⟩ = some (.slice x.l.a x.l.t.len x.l.c) := cc 1 (by omega) _ rfl
          have hki : (k : Int) < (lg : Int) := by omega
          have C := hid (refCode_any x.l e wr ((hLs.below HW.out).more HW.out.size) hLl hLc)
          obtain ⟨q, hq⟩ : ∃ q, (checkP x.l.t == e) = q := ⟨_, rfl⟩
          rw [hq] at C
          have HQK := hid (show (checkP (m.gl[k]).l.t == e) = q by rw [HXE.out]; exact hq)
          clear hx hxe hc cc hb ha hLs hLl hLc hq
          cases q with
          | true =>
            have HE := hid (show m.has e = true by unfold Md.has; rw [any_some hkl HQK.out]; simp)
            go_wp2_with fail
            refine C.out.mono ?_
            rintro e1 w1 ⟨rfl, hb1⟩
            have HW1 := hid (HW.out.trans (hb1.mono HW.out.size))
            clear C hb1
            go_wp2
            go_ret
            exact ⟨ret_bool HE.out.symm, HB.out.trans (HW1.out.mono HB.out.size)⟩
          | false =>
            have HQ' := hid (any_take (p := fun x => checkP x.l.t == e) hkl HQ.out HQK.out)
            go_wp2_with fail
            refine C.out.mono ?_
            rintro e1 w1 ⟨rfl, hb1⟩
            have HW1 := hid (HW.out.trans (hb1.mono HW.out.size))
            clear C hb1 hbx c1
            go_wp2
            go_roundw
            case rel => exact ⟨k + 1, by go_num, by omega, HQ', HW1⟩
            case measure => simp [intOf]; omega
        · obtain rfl : lg = k := by omega
          have HBL := HW
          have HAgl := hid (any_none (p := fun x => checkP x.l.t == e) (l := m.gl) (fun j hj => HQ.out j hj (by rw [← Llg.out]; exact hj)))
          clear HQ HW hlt hk
          go_wp2
          clear hbx
          go_loopw [7] (fun vi wr => ∃ k : Nat, vi = .int .i64 k ∧ k ≤ le ∧ Hid (∀ j (hj : j < m.el.length), j < k → (checkP (m.el[j]).l.t == e) = false) ∧ Hid (Below W0.heap.size W0 wr)) (fun vi _ => le - (intOf vi).toNat)
          case atStart => exact ⟨0, rfl, Nat.zero_le _, fun j _ h => absurd h (Nat.not_lt_zero _), HBL⟩
          case round =>
            clear HBL
            obtain ⟨k, rfl, hk, HQ, HW⟩ := hrel
            have hbx := Go.Proofs.YtdljneclfgneoaaGreatDoor.keep HW.out Xel.out
            by_cases hlt : k < le
            · have hkl : k < m.el.length := by rw [Lle.out]; exact hlt
              obtain ⟨b, off, ha, hb, hc⟩ := Rows.get Rel.out hkl
              rw [ha] at hbx
              have hx : m.el[k] ∈ m.el := List.getElem_mem hkl
              have hLs := HM.out.ls m.el[k].l (by unfold Md.codes; exact List.mem_append_right _ (List.mem_append_right _ (List.mem_append_left _ (List.mem_map.2 ⟨_, hx, rfl⟩))))
              have hLl := HF.out.fit.ls m.el[k].l (by unfold Md.codes; exact List.mem_append_right _ (List.mem_append_right _ (List.mem_append_left _ (List.mem_map.2 ⟨_, hx, rfl⟩))))
              have hLc := HF.out.cs m.el[k].l (by unfold Md.codes; exact List.mem_append_right _ (List.mem_append_right _ (List.mem_append_left _ (List.mem_map.2 ⟨_, hx, rfl⟩))))
              obtain ⟨x, hxe⟩ : ∃ x, m.el[k] = x := ⟨_, rfl⟩
              have HXE := hid hxe
              rw [hxe] at hc hLs hLl hLc
              have cc : ∀ j, j < 2 → ∀ v, x.v[j]? = some v → wr.cell? ⟨b, off + k * 2 + j, none⟩ = some v := fun j hj v hv => (HW.out.cell (p := ⟨b, off + k * 2 + j, none⟩) hb).trans (hc j hj v hv)
              have c0 : wr.cell? ⟨b, off + k * 2, none⟩ = some (.slice x.l.a x.l.t.len x.l.c) := cc 0 (by omega) _ rfl
              have hki : (k : Int) < (le : Int) := by omega
              have C := hid (refCode_any x.l e wr ((hLs.below HW.out).more HW.out.size) hLl hLc)
              obtain ⟨q, hq⟩ : ∃ q, (checkP x.l.t == e) = q := ⟨_, rfl⟩
              rw [hq] at C
              have HQK := hid (show (checkP (m.el[k]).l.t == e) = q by rw [HXE.out]; exact hq)
              clear hx hxe hc cc hb ha hLs hLl hLc hq
              cases q with
              | true =>
                have HE := hid (show m.has e = true by unfold Md.has; rw [any_some hkl HQK.out]; simp)
                go_wp2_with fail
                refine C.out.mono ?_
                rintro e1 w1 ⟨rfl, hb1⟩
                have HW1 := hid (HW.out.trans (hb1.mono HW.out.size))
                clear C hb1
                go_wp2
                go_ret
                exact ⟨ret_bool HE.out.symm, HB.out.trans (HW1.out.mono HB.out.size)⟩
              | false =>
                have HQ' := hid (any_take (p := fun x => checkP x.l.t == e) hkl HQ.out HQK.out)
                go_wp2_with fail
                refine C.out.mono ?_
                rintro e1 w1 ⟨rfl, hb1⟩
                have HW1 := hid (HW.out.trans (hb1.mono HW.out.size))
                clear C hb1 hbx c0
                go_wp2
                go_roundw
                case rel => exact ⟨k + 1, by go_num, by omega, HQ', HW1⟩
                case measure => simp [intOf]; omega
            · obtain rfl : le = k := by omega
              have HBL := HW
              have HAel := hid (any_none (p := fun x => checkP x.l.t == e) (l := m.el) (fun j hj => HQ.out j hj (by rw [← Lle.out]; exact hj)))
              clear HQ HW hlt hk
              go_wp2
              clear hbx
              go_loopw [8] (fun vi wr => ∃ k : Nat, vi = .int .i64 k ∧ k ≤ ld ∧ Hid (∀ j (hj : j < m.da.length), j < k → (checkP (m.da[j]).l.t == e) = false) ∧ Hid (Below W0.heap.size W0 wr)) (fun vi _ => ld - (intOf vi).toNat)
              case atStart => exact ⟨0, rfl, Nat.zero_le _, fun j _ h => absurd h (Nat.not_lt_zero _), HBL⟩
              case round =>
                clear HBL
                obtain ⟨k, rfl, hk, HQ, HW⟩ := hrel
                have hbx := Go.Proofs.YtdljneclfgneoaaGreatDoor.keep HW.out Xda.out
                by_cases hlt : k < ld
                · have hkl : k < m.da.length := by rw [Lld.out]; exact hlt
                  obtain ⟨b, off, ha, hb, hc⟩ := Rows.get Rda.out hkl
                  rw [ha] at hbx
                  have hx : m.da[k] ∈ m.da := List.getElem_mem hkl
                  have hLs := HM.out.ls m.da[k].l (by unfold Md.codes; exact List.mem_append_right _ (List.mem_append_right _ (List.mem_append_right _ (List.mem_map.2 ⟨_, hx, rfl⟩))))
                  have hLl := HF.out.fit.ls m.da[k].l (by unfold Md.codes; exact List.mem_append_right _ (List.mem_append_right _ (List.mem_append_right _ (List.mem_map.2 ⟨_, hx, rfl⟩))))
                  have hLc := HF.out.cs m.da[k].l (by unfold Md.codes; exact List.mem_append_right _ (List.mem_append_right _ (List.mem_append_right _ (List.mem_map.2 ⟨_, hx, rfl⟩))))
                  obtain ⟨x, hxe⟩ : ∃ x, m.da[k] = x := ⟨_, rfl⟩
                  have HXE := hid hxe
                  rw [hxe] at hc hLs hLl hLc
                  have cc : ∀ j, j < 2 → ∀ v, x.v[j]? = some v → wr.cell? ⟨b, off + k * 2 + j, none⟩ = some v := fun j hj v hv => (HW.out.cell (p := ⟨b, off + k * 2 + j, none⟩) hb).trans (hc j hj v hv)
                  have c0 : wr.cell? ⟨b, off + k * 2, none⟩ = some (.slice x.l.a x.l.t.len x.l.c) := cc 0 (by omega) _ rfl
                  have hki : (k : Int) < (ld : Int) := by omega
                  have C := hid (refCode_any x.l e wr ((hLs.below HW.out).more HW.out.size) hLl hLc)
                  obtain ⟨q, hq⟩ : ∃ q, (checkP x.l.t == e) = q := ⟨_, rfl⟩
                  rw [hq] at C
                  have HQK := hid (show (checkP (m.da[k]).l.t == e) = q by rw [HXE.out]; exact hq)
                  clear hx hxe hc cc hb ha hLs hLl hLc hq
                  cases q with
                  | true =>
                    have HE := hid (show m.has e = true by unfold Md.has; rw [any_some hkl HQK.out]; simp)
                    go_wp2_with fail
                    refine C.out.mono ?_
                    rintro e1 w1 ⟨rfl, hb1⟩
                    have HW1 := hid (HW.out.trans (hb1.mono HW.out.size))
                    clear C hb1
                    go_wp2
                    go_ret
                    exact ⟨ret_bool HE.out.symm, HB.out.trans (HW1.out.mono HB.out.size)⟩
                  | false =>
                    have HQ' := hid (any_take (p := fun x => checkP x.l.t == e) hkl HQ.out HQK.out)
                    go_wp2_with fail
                    refine C.out.mono ?_
                    rintro e1 w1 ⟨rfl, hb1⟩
                    have HW1 := hid (HW.out.trans (hb1.mono HW.out.size))
                    clear C hb1 hbx c0
                    go_wp2
                    go_roundw
                    case rel => exact ⟨k + 1, by go_num, by omega, HQ', HW1⟩
                    case measure => simp [intOf]; omega
                · obtain rfl : ld = k := by omega
                  have HBL := HW
                  have HAda := hid (any_none (p := fun x => checkP x.l.t == e) (l := m.da) (fun j hj => HQ.out j hj (by rw [← Lld.out]; exact hj)))
                  clear HQ HW hlt hk
                  have HE := hid (show m.has e = false by unfold Md.has; rw [HAfu.out, HAgl.out, HAel.out, HAda.out]; rfl)
                  go_wp2
                  go_ret
                  exact ⟨ret_bool HE.out.symm, HB.out.trans (HBL.out.mono HB.out.size)⟩
end Go.Proofs.YtdljneclfgneoaaGreatDoor.Mod
