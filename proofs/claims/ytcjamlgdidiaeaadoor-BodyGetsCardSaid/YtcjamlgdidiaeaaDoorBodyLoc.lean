/-
  BODY: the groups of locals: what they are, and the reader's locals by contract.
-/
import Derived.Test.YtcjamlgdidiaeaaDoorBodyTags
namespace Go.Proofs.YtcjamlgdidiaeaaDoor.Body
open Go.RowKit Go.Proofs.YtcjamlgdidiaeaaDoor.Instr Go.Proofs.YtcjamlgdidiaeaaDoor.Leb
open Go.Proofs.YtcjamlgdidiaeaaDoor.Kind (Rd numR refuseR startR numR_good numR_bounds refuseR_good getL_next)

def isWord (c : Int) : Bool := decide (c = 127)
theorem isWord_in (x : Int) : isWord x = [127].contains x := by simp [isWord]
/-- The state behind a group of so many. -/
def grpR (zs : List Int) (tot : Int) (s : Rd) : Rd := (tagR zs isWord (if 50000 - tot < (numR zs s).1 then refuseR (numR zs s).2 141 s.1 else (numR zs s).2)).2
/-- So many groups. -/
def groupsR (zs : List Int) : Nat → Int → Rd → Int × Rd
  | 0, tot, s => (tot, s)
  | k + 1, tot, s => if (grpR zs tot s).2.1 = 0 then groupsR zs k (tot + (numR zs s).1) (grpR zs tot s) else (tot, grpR zs tot s)
theorem groupsR_succ (zs : List Int) (k : Nat) (tot : Int) (s : Rd) : groupsR zs (k + 1) tot s = if (grpR zs tot s).2.1 = 0 then groupsR zs k (tot + (numR zs s).1) (grpR zs tot s) else (tot, grpR zs tot s) := rfl
def locR (zs : List Int) (s : Rd) : Int × Rd := groupsR zs (numR zs s).1.toNat 0 (numR zs s).2
theorem made127 (w : World) (cs : Array Value) (hc : cs = #[.int .u8 127]) (e : TypeId) : Bytes (w.alloc (.cells cs e)) (some ⟨w.heap.size, 0, none⟩) [127] := by
  subst hc
  refine ⟨by simp, by simp, .inr ⟨w.heap.size, 0, rfl, fun i hi => ?_⟩⟩
  obtain rfl : i = 0 := by simpa using hi
  simp [go_sem]

set_option maxRecDepth 100000 in
set_option maxHeartbeats 3200000 in
theorem locals_any (k : Nat) (av : Option Addr) (len cap : Nat) (zs : List Int) (s : Rd) (w : World) (h : RdIs w k (.slice av len cap) s) (hg : Kind.Good zs s) (hlen : zs.length = len) (hz : Bytes w av zs) (ha : ∀ b off, av = some ⟨b, off, none⟩ → zs ≠ [] → b ≠ k) :
    Calls Tryd.prog 39 #[.pointer (some ⟨k, 0, none⟩)] w (Does k (.slice av len cap) w (.int .i64 (locR zs s).1) (locR zs s).2) := by
  have hkw : k < w.heap.size := World.block_lt_of_cell? w _ h.c0
  have hN := unsigned_any k av len cap zs s w h hg hlen hz
  obtain ⟨b0, b1⟩ := numR_bounds (s := s) hz.byte
  have hg1 := numR_good hg
  unfold locR
  obtain ⟨n, hn⟩ : ∃ n, (numR zs s).1 = n := ⟨_, rfl⟩
  obtain ⟨s1, hs1⟩ : ∃ s1, (numR zs s).2 = s1 := ⟨_, rfl⟩
  rw [hn] at hN b0 b1 ⊢
  rw [hs1] at hN hg1 ⊢
  clear hn hs1 h hg
  have HZ := hid hz
  have HL := hid hlen
  have HA := hid ha
  have C := hid hN
  have HG := hid hg1
  clear hz hlen ha hN hg1
  go_enter Tryd.func39, Tryd.ntmps39
  go_wp2_with fail
  refine C.out.mono ?_
  clear C
  rintro e w1 ⟨rfl, h1, sv1⟩
  go_wp2
  go_loopw [3, 8] (fun st sj wr => ∃ (j tot : Int) (t : Rd), st = .int .u32 tot ∧ sj = .int .u32 j ∧ 0 ≤ j ∧ j ≤ n ∧ 0 ≤ tot ∧ tot ≤ 50000 ∧ RdIs wr k (.slice av len cap) t ∧ Hid (Kind.Good zs t) ∧ Save k w wr ∧ Hid (groupsR zs (n - j).toNat tot t = groupsR zs n.toNat 0 s1)) (fun _ sj _ => (n - intOf sj).toNat)
  case atStart => exact ⟨0, 0, s1, rfl, rfl, by omega, by omega, by omega, by omega, h1, HG, sv1, hid (by rw [Int.sub_zero])⟩
  case round =>
    obtain ⟨j, tot, t, rfl, rfl, hj0, hj, ht0, ht1, hr, HGT, svr, HR⟩ := hrel
    have hwi : IntKind.i64.wrap tot = tot := by rw [IntKind.wrap_i64]; omega
    by_cases hlt : j < n
    · have hw : IntKind.u32.wrap (50000 - tot) = 50000 - tot := by rw [IntKind.wrap_u32]; omega
      have hR := HR.out
      rw [show (n - j).toNat = (n - (j + 1)).toNat + 1 by omega] at hR
      rw [groupsR_succ] at hR
      unfold grpR at hR
      have UN := hid (unsigned_any k av len cap zs t wr hr HGT.out HL.out (HZ.out.save svr HA.out))
      have g1 := numR_good HGT.out
      obtain ⟨x0, x1⟩ := numR_bounds (s := t) HZ.out.byte
      have c1 := hr.c1
      obtain ⟨x, hx⟩ : ∃ x, (numR zs t).1 = x := ⟨_, rfl⟩
      obtain ⟨t1, ht1'⟩ : ∃ t1, (numR zs t).2 = t1 := ⟨_, rfl⟩
      obtain ⟨p, hp⟩ : ∃ p, t.1 = p := ⟨_, rfl⟩
      rw [hx, ht1', hp] at hR
      rw [hx, ht1'] at UN
      rw [hx] at x0 x1
      rw [ht1'] at g1
      rw [hp] at c1
      have HX := hid hx
      clear hx ht1' hp HR
      obtain ⟨t2, ht2⟩ : ∃ t2, (if 50000 - tot < x then refuseR t1 141 p else t1) = t2 := ⟨_, rfl⟩
      rw [ht2] at hR
      have g2 : Kind.Good zs t2 := by
        rw [← ht2]; split
        · exact refuseR_good (by decide) g1
        · exact g1
      have g3 := tagR_good (ok := isWord) g2
      have OO := hid (fun w' g (hr' : RdIs w' k (.slice av len cap) t2) (hs : Save k wr w') (hl : Bytes w' (some ⟨g, 0, none⟩) [127]) (hgk : g ≠ k) =>
        oneOf_any k av len cap zs t2 (some ⟨g, 0, none⟩) 1 1 [127] isWord w' hr' g2 HL.out (HZ.out.save (svr.trans hs) HA.out) rfl hl (fun b off e _ => by cases e; exact hgk) isWord_in)
      have hbadc : 50000 - tot < x → (tagR zs isWord t2).2.2.1 ≠ 0 := by
        intro h
        rw [if_pos h] at ht2
        have hb : t2.2.1 ≠ 0 := by rw [← ht2]; exact refuse_is_bad (by decide)
        intro h0
        exact hb (tagR_on (ok := isWord) g2 h0).1
      obtain ⟨v3, hv3⟩ : ∃ v, (tagR zs isWord t2).1 = v := ⟨_, rfl⟩
      obtain ⟨t3, ht3⟩ : ∃ t, (tagR zs isWord t2).2 = t := ⟨_, rfl⟩
      rw [hv3, ht3] at OO
      rw [ht3] at hR g3 hbadc
      have HG3 := hid g3
      clear hv3 ht3 g1 g2 g3 HG
      by_cases hgt : 50000 - tot < x
      · have hb := hbadc hgt
        rw [if_neg hb] at hR
        rw [if_pos hgt] at ht2
        have HR := hid hR
        have HT2 := hid ht2
        have FB := hid (fun w' (h : RdIs w' k (.slice av len cap) t3) => faulty_yes k _ t3 w' h hb)
        clear hR ht2 hbadc hb
        go_wp2_with fail
        refine UN.out.mono ?_
        clear UN
        rintro e2 w2 ⟨rfl, h2, sv2⟩
        go_wp2_with fail
        refine (refuse_any k _ t1 141 p _ h2).mono ?_
        rintro e3 w3 ⟨rfl, h3, sv3⟩
        have h3' : RdIs w3 k (.slice av len cap) t2 := by rw [← HT2.out]; exact h3
        have sv3 := sv2.trans sv3
        clear h2 h3 sv2
        have O2 := hid (OO.out (w3.alloc (.cells #[.int .u8 127] 5)) w3.heap.size (h3'.below ((Below.refl _ _).alloc (Nat.le_refl _) _)) (save_under sv3 (((Below.refl _ _).alloc (Nat.le_refl _) _).mono sv3.size)) (made127 w3 _ rfl _) (by have := sv3.size; have := svr.size; omega))
        have sv4 := save_under sv3 (((Below.refl w3.heap.size w3).alloc (Nat.le_refl _) (.cells #[.int .u8 127] 5)).mono sv3.size)
        clear OO h3' sv3
        go_wp2_with fail
        refine O2.out.mono ?_
        clear O2
        rintro e5 w5 ⟨rfl, h5, sv5⟩
        have sv6 := svr.trans (sv4.trans sv5)
        go_wp2_with fail
        refine (FB.out w5 h5).mono ?_
        clear FB
        rintro e6 w6 ⟨rfl, rfl⟩
        go_wp2
        go_ret
        rw [← HR.out]
        exact ⟨rfl, h5, sv6⟩
      · rw [if_neg hgt] at ht2
        have HT2 := hid ht2
        clear ht2 hbadc
        by_cases hb : t3.2.1 = 0
        · rw [if_pos hb] at hR
          have HR := hid hR
          have hw2 : IntKind.u32.wrap (tot + x) = tot + x := by rw [IntKind.wrap_u32]; omega
          have FB := hid (fun w' (h : RdIs w' k (.slice av len cap) t3) => faulty_no k _ t3 w' h hb)
          clear hR hb
          go_wp2_with fail
          refine UN.out.mono ?_
          clear UN
          rintro e2 w2 ⟨rfl, h2, sv2⟩
          have h3' : RdIs w2 k (.slice av len cap) t2 := by rw [← HT2.out]; exact h2
          have sv3 := sv2
          clear h2 sv2
          have O2 := hid (OO.out (w2.alloc (.cells #[.int .u8 127] 5)) w2.heap.size (h3'.below ((Below.refl _ _).alloc (Nat.le_refl _) _)) (save_under sv3 (((Below.refl _ _).alloc (Nat.le_refl _) _).mono sv3.size)) (made127 w2 _ rfl _) (by have := sv3.size; have := svr.size; omega))
          have sv4 := save_under sv3 (((Below.refl w2.heap.size w2).alloc (Nat.le_refl _) (.cells #[.int .u8 127] 5)).mono sv3.size)
          clear OO h3' sv3
          go_wp2_with fail
          refine O2.out.mono ?_
          clear O2
          rintro e5 w5 ⟨rfl, h5, sv5⟩
          have sv6 := svr.trans (sv4.trans sv5)
          go_wp2_with fail
          refine (FB.out w5 h5).mono ?_
          clear FB
          rintro e6 w6 ⟨rfl, rfl⟩
          go_wp2
          go_roundw
          case rel => exact ⟨j + 1, tot + x, t3, by simp, by simp, by omega, by omega, by omega, by omega, h5, HG3, sv6, HR⟩
          case measure => simp [intOf]; omega
        · rw [if_neg hb] at hR
          have HR := hid hR
          have FB := hid (fun w' (h : RdIs w' k (.slice av len cap) t3) => faulty_yes k _ t3 w' h hb)
          clear hR hb
          go_wp2_with fail
          refine UN.out.mono ?_
          clear UN
          rintro e2 w2 ⟨rfl, h2, sv2⟩
          have h3' : RdIs w2 k (.slice av len cap) t2 := by rw [← HT2.out]; exact h2
          have sv3 := sv2
          clear h2 sv2
          have O2 := hid (OO.out (w2.alloc (.cells #[.int .u8 127] 5)) w2.heap.size (h3'.below ((Below.refl _ _).alloc (Nat.le_refl _) _)) (save_under sv3 (((Below.refl _ _).alloc (Nat.le_refl _) _).mono sv3.size)) (made127 w2 _ rfl _) (by have := sv3.size; have := svr.size; omega))
          have sv4 := save_under sv3 (((Below.refl w2.heap.size w2).alloc (Nat.le_refl _) (.cells #[.int .u8 127] 5)).mono sv3.size)
          clear OO h3' sv3
          go_wp2_with fail
          refine O2.out.mono ?_
          clear O2
          rintro e5 w5 ⟨rfl, h5, sv5⟩
          have sv6 := svr.trans (sv4.trans sv5)
          go_wp2_with fail
          refine (FB.out w5 h5).mono ?_
          clear FB
          rintro e6 w6 ⟨rfl, rfl⟩
          go_wp2
          go_ret
          rw [← HR.out]
          exact ⟨rfl, h5, sv6⟩
    · obtain rfl : j = n := by omega
      have hR := HR.out
      rw [Int.sub_self] at hR
      have HR2 : Hid (groupsR zs j.toNat 0 s1 = (tot, t)) := hid hR.symm
      clear hR HR
      go_wp2
      go_ret
      rw [HR2.out]
      exact ⟨rfl, hr, svr⟩
end Go.Proofs.YtcjamlgdidiaeaaDoor.Body
