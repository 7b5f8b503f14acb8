/-
  BODY: the statements' kit: SameCells, SameInstrs.
-/
import Derived.Test.YtlfflomeaplidaaDoorBodyStack
import Derived.RegionTactic
import Derived.BigQuiet
namespace Go.Proofs.YtlfflomeaplidaaDoor.Body
open Go.RowKit Go.Proofs.YtlfflomeaplidaaDoor.Instr

theorem drewn {B : Nat} {a w : World} (h : Below B a w) (n : Nat) : Below B a (w.drewN n) := ⟨h.os, h.tape, h.output, h.size, h.block⟩

set_option maxHeartbeats 1600000 in
theorem SameCells_yes (a1 a2 : Option Addr) (n c1 c2 n₀ : Nat) (zs : List Int) (w : World) (hn : zs.length = n) (hx : TagsAt n₀ w a1 zs) (hy : TagsAt n₀ w a2 zs) (hn0 : n₀ ≤ w.heap.size) (hbig : n ≤ 140737488351232) :
    Calls Tryd.prog 28 #[.slice a1 n c1, .slice a2 n c2] w fun e w' => e = .returned (.bool true) ∧ Below w.heap.size w w' := by
  have HL := hid hn
  have HX := hid hx
  have HY := hid hy
  have HN := hid hn0
  clear hn hx hy hn0
  go_enter Tryd.func28, Tryd.ntmps28
  go_wp2
  go_loopw [5] (fun vi wr => ∃ i : Nat, vi = .int .i64 i ∧ i ≤ n ∧ Below w.heap.size w wr) (fun vi _ => n - (intOf vi).toNat)
  case atStart => exact ⟨0, rfl, Nat.zero_le _, Below.refl _ _⟩
  case round =>
    obtain ⟨i, rfl, hi, hb⟩ := hrel
    by_cases hil : i < n
    · have h1 : i < zs.length := by have := HL.out; omega
      have hne : zs ≠ [] := by rintro rfl; exact absurd h1 (by simp)
      have hcell : ∀ a, TagsAt n₀ w a zs → ∃ b off, a = some ⟨b, off, none⟩ ∧ wr.cell? ⟨b, off + i, none⟩ = some (.int .u32 (zs.getD i 0)) := by
        intro a h
        rcases h with h | ⟨b, off, ha, hl, hc⟩
        · exact absurd h hne
        · exact ⟨b, off, ha, (hb.cell (p := ⟨b, off + i, none⟩) (Nat.lt_of_lt_of_le hl HN.out)).trans (hc i h1)⟩
      obtain ⟨b1, o1, rfl, hd1⟩ := hcell a1 HX.out
      obtain ⟨b2, o2, rfl, hd2⟩ := hcell a2 HY.out
      clear hcell
      generalize zs.getD i 0 = x at *
      have hi0 : (i : Int) < (n : Int) := by omega
      go_wp2
      go_quiet (fail)
      go_wp2
      go_roundw
      case rel => exact ⟨i + 1, by go_num, by omega, drewn hb _⟩
      case measure => simp [intOf]; omega
    · obtain rfl : i = n := by omega
      go_wp2
      go_ret
      exact ⟨rfl, hb⟩

/-- Eight cells of an instruction. -/
def Eight (x : Ix) (b off : Nat) (w : World) : Prop :=
  w.cell? ⟨b, off, none⟩ = some (.int .i64 x.op) ∧ w.cell? ⟨b, off + 1, none⟩ = some (.int .i64 x.res) ∧ w.cell? ⟨b, off + 2, none⟩ = some (.int .u32 x.a) ∧ w.cell? ⟨b, off + 3, none⟩ = some (.int .u32 x.b) ∧
    w.cell? ⟨b, off + 4, none⟩ = some (.int .i32 x.n) ∧ w.cell? ⟨b, off + 5, none⟩ = some (.slice x.ta x.tags.length x.tc) ∧ w.cell? ⟨b, off + 6, none⟩ = some (.slice x.la x.ln x.lc) ∧ w.cell? ⟨b, off + 7, none⟩ = some (.slice x.ea x.en x.ec)
/-- What two equal lists have ahead, from the k-th on. -/
def Pair (n₀ n k m : Nat) (a1 a2 : Option Addr) (w : World) : Prop :=
  k = n ∨ ∃ b1 o1 b2 o2 r s, a1 = some ⟨b1, o1, none⟩ ∧ a2 = some ⟨b2, o2, none⟩ ∧ Items n₀ w b1 (o1 + k * 8) r ∧ Items n₀ w b2 (o2 + k * 8) s ∧ Il.bare r = Il.bare s ∧ r.len + k = n ∧ r.count ≤ m + 1
theorem bare_nil {t : Il} (h : Il.nil.bare = t.bare) : t = .nil := by cases t with | nil => rfl | cons x l e r => simp [Il.bare] at h
theorem Pair.start {n₀ n m : Nat} {a1 a2 : Option Addr} {w : World} {t u : Il} (hm : t.count ≤ m + 1) (h1 : ListAt n₀ w a1 n t) (h2 : ListAt n₀ w a2 n u) (he : t.bare = u.bare) : Pair n₀ n 0 m a1 a2 w := by
  rcases h1.2 with rfl | ⟨b1, o1, ha1, hi1⟩
  · exact .inl h1.1
  · rcases h2.2 with rfl | ⟨b2, o2, ha2, hi2⟩
    · exact .inl h2.1
    · exact .inr ⟨b1, o1, b2, o2, t, u, ha1, ha2, by simpa using hi1, by simpa using hi2, he, h1.1, hm⟩
theorem Pair.below {n₀ n k m : Nat} {a1 a2 : Option Addr} {w w' : World} (h : Pair n₀ n k m a1 a2 w) (hb : Below n₀ w w') : Pair n₀ n k m a1 a2 w' := by
  rcases h with h | ⟨b1, o1, b2, o2, r, s, h1, h2, h3, h4, h5⟩
  · exact .inl h
  · exact .inr ⟨b1, o1, b2, o2, r, s, h1, h2, h3.below hb, h4.below hb, h5⟩
/-- The tables of two equal ones. -/
structure Twin (n₀ m : Nat) (x y : Ix) (w : World) : Prop where
  okx : x.ok
  tx : TagsAt n₀ w x.ta x.tags
  ty : TagsAt n₀ w y.ta x.tags
  l : ∃ t u, t.count ≤ m ∧ ListAt n₀ w x.la x.ln t ∧ ListAt n₀ w y.la x.ln u ∧ t.bare = u.bare
  e : ∃ t u, t.count ≤ m ∧ ListAt n₀ w x.ea x.en t ∧ ListAt n₀ w y.ea x.en u ∧ t.bare = u.bare
theorem Pair.step {n₀ n k m : Nat} {a1 a2 : Option Addr} {w : World} (h : Pair n₀ n k m a1 a2 w) (hk : k < n) :
    ∃ (x : Ix) (ta : Option Addr) (tc : Nat) (la : Option Addr) (lc : Nat) (ea : Option Addr) (ec b1 o1 b2 o2 : Nat), b1 < n₀ ∧ b2 < n₀ ∧ a1 = some ⟨b1, o1, none⟩ ∧ a2 = some ⟨b2, o2, none⟩ ∧ Eight x b1 (o1 + k * 8) w ∧
      Eight ⟨x.op, x.res, x.a, x.b, x.n, x.tags, ta, tc, la, x.ln, lc, ea, x.en, ec⟩ b2 (o2 + k * 8) w ∧ Twin n₀ m x ⟨x.op, x.res, x.a, x.b, x.n, x.tags, ta, tc, la, x.ln, lc, ea, x.en, ec⟩ w ∧ Pair n₀ n (k + 1) m a1 a2 w := by
  rcases h with h | ⟨b1, o1, b2, o2, r, s, h1, h2, h3, h4, h5, h6, h7⟩
  · omega
  · cases r with
    | nil => simp only [Il.len] at h6; omega
    | cons x l e r =>
      cases s with
      | nil => simp [Il.bare] at h5
      | cons y l' e' s =>
        obtain ⟨op, res, a, b, nn, tags, ta, tc, la, ln, lc, ea, en, ec⟩ := x
        obtain ⟨op', res', a', b', nn', tags', ta', tc', la', ln', lc', ea', en', ec'⟩ := y
        simp only [Il.bare, Ix.bare, Il.cons.injEq, Ix.mk.injEq] at h5
        obtain ⟨⟨rfl, rfl, rfl, rfl, rfl, rfl, _, _, _, rfl, _, _, rfl, _⟩, hbl, hbe, hbr⟩ := h5
        obtain ⟨hb1, hx, c, ht, hl, he, hr⟩ := h3
        obtain ⟨hb2, _, c', ht', hl', he', hr'⟩ := h4
        simp only [Il.len] at h6
        simp only [Il.count] at h7
        refine ⟨⟨op, res, a, b, nn, tags, ta, tc, la, ln, lc, ea, en, ec⟩, ta', tc', la', lc', ea', ec', b1, o1, b2, o2, hb1, hb2, h1, h2, c, c', ⟨hx, ht, ht', ⟨l, l', by omega, hl, hl', hbl⟩, ⟨e, e', by omega, he, he', hbe⟩⟩, .inr ⟨b1, o1, b2, o2, r, s, h1, h2, ?_, ?_, hbr, by omega, by omega⟩⟩
        · rw [show o1 + (k + 1) * 8 = o1 + k * 8 + 8 by omega]; exact hr
        · rw [show o2 + (k + 1) * 8 = o2 + k * 8 + 8 by omega]; exact hr'

theorem two_boxes (w : World) (x y : Ix) : At x w.heap.size (((w.alloc (.cells x.vals 61)).alloc (.cells y.vals 61)).drew) ∧ At y (w.heap.size + 1) (((w.alloc (.cells x.vals 61)).alloc (.cells y.vals 61)).drew) ∧
    Below w.heap.size w (((w.alloc (.cells x.vals 61)).alloc (.cells y.vals 61)).drew) := by
  have hb : Below w.heap.size w (((w.alloc (.cells x.vals 61)).alloc (.cells y.vals 61)).drew) :=
    drewn ((((Below.refl w.heap.size w).alloc (Nat.le_refl _) _)).alloc (by simp) _) 1
  have h1 : At x w.heap.size ((w.alloc (.cells x.vals 61)).alloc (.cells y.vals 61)) := (At.made x w).below ((Below.refl _ _).alloc (Nat.le_refl _) _)
  have h2 : At y (w.alloc (.cells x.vals 61)).heap.size ((w.alloc (.cells x.vals 61)).alloc (.cells y.vals 61)) := At.made y _
  rw [World.size_alloc] at h2
  exact ⟨⟨h1.c0, h1.c1, h1.c2, h1.c3, h1.c4, h1.c5, h1.c6, h1.c7⟩, ⟨h2.c0, h2.c1, h2.c2, h2.c3, h2.c4, h2.c5, h2.c6, h2.c7⟩, hb⟩

set_option maxHeartbeats 4000000 in
set_option maxRecDepth 100000 in
theorem SameInstrs_yes (n₀ : Nat) : ∀ (m : Nat) (t u : Il) (a1 a2 : Option Addr) (n c1 c2 : Nat) (w : World), t.count ≤ m → ListAt n₀ w a1 n t → ListAt n₀ w a2 n u → t.bare = u.bare → n₀ ≤ w.heap.size → n ≤ 140737488351232 →
    Calls Tryd.prog 13 #[.slice a1 n c1, .slice a2 n c2] w fun e w' => e = .returned (.bool true) ∧ Below w.heap.size w w' := by
  intro m
  induction m with
  | zero =>
    intro t u a1 a2 n c1 c2 w hm h1 h2 he hn0 hn
    cases t with
    | cons x l e r => simp only [Il.count] at hm; omega
    | nil =>
      have h0 : n = 0 := h1.1.symm
      subst h0
      clear h1 h2 hm he
      go_enter Tryd.func13, Tryd.ntmps13
      go_wp2
      go_loopw [5] (fun vi wr => vi = .int .i64 0 ∧ wr = w) (fun _ _ => 0)
      case atStart => exact ⟨rfl, rfl⟩
      case round =>
        obtain ⟨rfl, rfl⟩ := hrel
        go_wp2
        go_ret
        exact ⟨rfl, Below.refl _ _⟩
  | succ m ih =>
    intro t u a1 a2 n c1 c2 w hm h1 h2 he hn0 hn
    have HM := hid hm
    have H1 := hid h1
    have H2 := hid h2
    have HE := hid he
    have HN := hid hn0
    clear hm h1 h2 he hn0
    go_enter Tryd.func13, Tryd.ntmps13
    go_wp2
    go_loopw [5] (fun vi wr => ∃ k : Nat, vi = .int .i64 k ∧ k ≤ n ∧ Below w.heap.size w wr ∧ Pair n₀ n k m a1 a2 wr) (fun vi _ => n - (intOf vi).toNat)
    case atStart => exact ⟨0, rfl, Nat.zero_le _, Below.refl _ _, Pair.start HM.out H1.out H2.out HE.out⟩
    case round =>
      obtain ⟨k, rfl, hk, hb, hT⟩ := hrel
      by_cases hkn : k < n
      · obtain ⟨x, ta, tc, la, lc, ea, ec, b1, o1, b2, o2, hb1, hb2, rfl, rfl, ⟨c0, c1, c2, c3, c4, c5, c6, c7⟩, ⟨d0, d1, d2, d3, d4, d5, d6, d7⟩, tw, hT'⟩ := hT.step hkn
        have TW := hid tw
        have HT := hid hT'
        have hk0 : (k : Int) < (n : Int) := by omega
        have hs := hb.size
        have hn0 := HN.out
        have e1 : b1 < wr.heap.size := by omega
        have e2 : b2 < wr.heap.size := by omega
        clear hb1 hb2 hs hn0
        dsimp only at d0 d1 d2 d3 d4 d5 d6 d7
        clear tw hT' hT H1 H2 HE HM
        go_wp2
        go_region
        · skip
          obtain ⟨w1, hw1, A1, A2, hb1⟩ : ∃ w1, w1 = ((wr.alloc (.cells #[.int .i64 x.op, .int .i64 x.res, .int .u32 x.a, .int .u32 x.b, .int .i32 x.n, .slice x.ta x.tags.length x.tc, .slice x.la x.ln x.lc, .slice x.ea x.en x.ec] 61)).alloc (.cells #[.int .i64 x.op, .int .i64 x.res, .int .u32 x.a, .int .u32 x.b, .int .i32 x.n, .slice ta x.tags.length tc, .slice la x.ln lc, .slice ea x.en ec] 61)).drew ∧ At x wr.heap.size w1 ∧ At ⟨x.op, x.res, x.a, x.b, x.n, x.tags, ta, tc, la, x.ln, lc, ea, x.en, ec⟩ (wr.heap.size + 1) w1 ∧ Below wr.heap.size wr w1 := by
            obtain ⟨A1, A2, hb⟩ := two_boxes wr x ⟨x.op, x.res, x.a, x.b, x.n, x.tags, ta, tc, la, x.ln, lc, ea, x.en, ec⟩
            exact ⟨_, rfl, A1, A2, hb⟩
          rw [← hw1]
          clear hw1
          have hN1 : n₀ ≤ w1.heap.size := Nat.le_trans HN.out (Nat.le_trans hb.size hb1.size)
          have tx := TW.out.tx.below (hb1.mono (Nat.le_trans HN.out hb.size))
          have ty := TW.out.ty.below (hb1.mono (Nat.le_trans HN.out hb.size))
          have SC := hid (SameCells_yes x.ta ta x.tags.length x.tc tc n₀ x.tags w1 rfl tx ty hN1 TW.out.okx.tn)
          have HB1 := hid hb1
          have HA1 := hid A1
          have HA2 := hid A2
          have HN1 := hid hN1
          obtain ⟨x0, x1, x2, x3, x4, x5, x6, x7⟩ := A1
          obtain ⟨y0, y1, y2, y3, y4, y5, y6, y7⟩ := A2
          dsimp only at y0 y1 y2 y3 y4 y5 y6 y7
          clear tx ty hb1 hN1 c0 c1 c2 c3 c4 c5 c6 c7 d0 d1 d2 d3 d4 d5 d6 d7 e1 e2
          go_wp2_with fail
          refine SC.out.mono ?_
          clear SC x0 x1 x2 x3 x4 x5 x6 x7 y0 y1 y2 y3 y4 y5 y6 y7
          rintro e w2 ⟨rfl, hb2⟩
          have hB2 : Below wr.heap.size wr w2 := HB1.out.trans (hb2.mono HB1.out.size)
          have HB2 := hid hB2
          have HA1' := hid (HA1.out.below hb2)
          have HA2' := hid (HA2.out.below hb2)
          have hN2 : n₀ ≤ w2.heap.size := Nat.le_trans HN1.out hb2.size
          obtain ⟨t1, u1, m1, lx, ly, be⟩ := TW.out.l
          have S1 := hid (ih t1 u1 x.la la x.ln x.lc lc w2 m1 (lx.below (hB2.mono (Nat.le_trans HN.out hb.size))) (ly.below (hB2.mono (Nat.le_trans HN.out hb.size))) be hN2 TW.out.okx.ln)
          have x6 := HA1'.out.c6
          have y6 := HA2'.out.c6
          dsimp only at x6 y6
          have HN2 := hid hN2
          clear hb2 hB2 m1 lx ly be hN2 HA1 HA2 HB1 HN1
          go_wp2_with fail
          refine S1.out.mono ?_
          clear S1 x6 y6
          rintro e w3 ⟨rfl, hb3⟩
          have hB3 : Below wr.heap.size wr w3 := HB2.out.trans (hb3.mono HB2.out.size)
          have HB3 := hid hB3
          have hA1 := HA1'.out.below hb3
          have hA2 := HA2'.out.below hb3
          have hN3 : n₀ ≤ w3.heap.size := Nat.le_trans HN2.out hb3.size
          obtain ⟨t2, u2, m2, kx, ky, bf⟩ := TW.out.e
          have S2 := hid (ih t2 u2 x.ea ea x.en x.ec ec w3 m2 (kx.below (hB3.mono (Nat.le_trans HN.out hb.size))) (ky.below (hB3.mono (Nat.le_trans HN.out hb.size))) bf hN3 TW.out.okx.en)
          have x7 := hA1.c7
          have y7 := hA2.c7
          dsimp only at x7 y7
          clear hb3 hB3 m2 kx ky bf hN3 HA1' HA2' HB2 HN2 hA1 hA2
          go_wp2_with fail
          refine S2.out.mono ?_
          clear S2 x7 y7
          rintro e w4 ⟨rfl, hb4⟩
          have HB4 := hid (HB3.out.trans (hb4.mono HB3.out.size))
          clear hb4 HB3
          go_wp2
          go_roundw
          case rel => exact ⟨k + 1, by go_num, by omega, hb.trans (HB4.out.mono hb.size), HT.out.below (HB4.out.mono (Nat.le_trans HN.out hb.size))⟩
          case measure => simp [intOf]; omega
        · skip
          obtain ⟨w1, hw1, A1, A2, hb1⟩ : ∃ w1, w1 = ((wr.alloc (.cells #[.int .i64 x.op, .int .i64 x.res, .int .u32 x.a, .int .u32 x.b, .int .i32 x.n, .slice ta x.tags.length tc, .slice la x.ln lc, .slice ea x.en ec] 61)).alloc (.cells #[.int .i64 x.op, .int .i64 x.res, .int .u32 x.a, .int .u32 x.b, .int .i32 x.n, .slice x.ta x.tags.length x.tc, .slice x.la x.ln x.lc, .slice x.ea x.en x.ec] 61)).drew ∧ At x (wr.heap.size + 1) w1 ∧ At ⟨x.op, x.res, x.a, x.b, x.n, x.tags, ta, tc, la, x.ln, lc, ea, x.en, ec⟩ wr.heap.size w1 ∧ Below wr.heap.size wr w1 := by
            obtain ⟨A2, A1, hb⟩ := two_boxes wr ⟨x.op, x.res, x.a, x.b, x.n, x.tags, ta, tc, la, x.ln, lc, ea, x.en, ec⟩ x
            exact ⟨_, rfl, A1, A2, hb⟩
          rw [← hw1]
          clear hw1
          have hN1 : n₀ ≤ w1.heap.size := Nat.le_trans HN.out (Nat.le_trans hb.size hb1.size)
          have tx := TW.out.tx.below (hb1.mono (Nat.le_trans HN.out hb.size))
          have ty := TW.out.ty.below (hb1.mono (Nat.le_trans HN.out hb.size))
          have SC := hid (SameCells_yes x.ta ta x.tags.length x.tc tc n₀ x.tags w1 rfl tx ty hN1 TW.out.okx.tn)
          have HB1 := hid hb1
          have HA1 := hid A1
          have HA2 := hid A2
          have HN1 := hid hN1
          obtain ⟨x0, x1, x2, x3, x4, x5, x6, x7⟩ := A1
          obtain ⟨y0, y1, y2, y3, y4, y5, y6, y7⟩ := A2
          dsimp only at y0 y1 y2 y3 y4 y5 y6 y7
          clear tx ty hb1 hN1 c0 c1 c2 c3 c4 c5 c6 c7 d0 d1 d2 d3 d4 d5 d6 d7 e1 e2
          go_wp2_with fail
          refine SC.out.mono ?_
          clear SC x0 x1 x2 x3 x4 x5 x6 x7 y0 y1 y2 y3 y4 y5 y6 y7
          rintro e w2 ⟨rfl, hb2⟩
          have hB2 : Below wr.heap.size wr w2 := HB1.out.trans (hb2.mono HB1.out.size)
          have HB2 := hid hB2
          have HA1' := hid (HA1.out.below hb2)
          have HA2' := hid (HA2.out.below hb2)
          have hN2 : n₀ ≤ w2.heap.size := Nat.le_trans HN1.out hb2.size
          obtain ⟨t1, u1, m1, lx, ly, be⟩ := TW.out.l
          have S1 := hid (ih t1 u1 x.la la x.ln x.lc lc w2 m1 (lx.below (hB2.mono (Nat.le_trans HN.out hb.size))) (ly.below (hB2.mono (Nat.le_trans HN.out hb.size))) be hN2 TW.out.okx.ln)
          have x6 := HA1'.out.c6
          have y6 := HA2'.out.c6
          dsimp only at x6 y6
          have HN2 := hid hN2
          clear hb2 hB2 m1 lx ly be hN2 HA1 HA2 HB1 HN1
          go_wp2_with fail
          refine S1.out.mono ?_
          clear S1 x6 y6
          rintro e w3 ⟨rfl, hb3⟩
          have hB3 : Below wr.heap.size wr w3 := HB2.out.trans (hb3.mono HB2.out.size)
          have HB3 := hid hB3
          have hA1 := HA1'.out.below hb3
          have hA2 := HA2'.out.below hb3
          have hN3 : n₀ ≤ w3.heap.size := Nat.le_trans HN2.out hb3.size
          obtain ⟨t2, u2, m2, kx, ky, bf⟩ := TW.out.e
          have S2 := hid (ih t2 u2 x.ea ea x.en x.ec ec w3 m2 (kx.below (hB3.mono (Nat.le_trans HN.out hb.size))) (ky.below (hB3.mono (Nat.le_trans HN.out hb.size))) bf hN3 TW.out.okx.en)
          have x7 := hA1.c7
          have y7 := hA2.c7
          dsimp only at x7 y7
          clear hb3 hB3 m2 kx ky bf hN3 HA1' HA2' HB2 HN2 hA1 hA2
          go_wp2_with fail
          refine S2.out.mono ?_
          clear S2 x7 y7
          rintro e w4 ⟨rfl, hb4⟩
          have HB4 := hid (HB3.out.trans (hb4.mono HB3.out.size))
          clear hb4 HB3
          go_wp2
          go_roundw
          case rel => exact ⟨k + 1, by go_num, by omega, hb.trans (HB4.out.mono hb.size), HT.out.below (HB4.out.mono (Nat.le_trans HN.out hb.size))⟩
          case measure => simp [intOf]; omega
      · obtain rfl : k = n := by omega
        go_wp2
        go_ret
        exact ⟨rfl, hb⟩
end Go.Proofs.YtlfflomeaplidaaDoor.Body
