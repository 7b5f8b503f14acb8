/-
  BODY: the document's own GetCode, by contract. (tools/gen_bodyrefc.py)
-/
import Derived.Test.YtcjamlgdidiaeaaDoorBodyRefRead
import Derived.Test.YtcjamlgdidiaeaaDoorBodyCodeG
namespace Go.Proofs.YtcjamlgdidiaeaaDoor.Body
set_option linter.unusedVariables false
open Go.RowKit Go.Proofs.YtcjamlgdidiaeaaDoor.Instr
open Go.Proofs.YtcjamlgdidiaeaaDoor.Kind (Rd numR refuseR startR numR_good numR_bounds refuseR_good getL_next)

/-- What the document's own GetCode gives. -/
def GotD (w : World) (n q : Int) (s : Rd) (T : Il) (e : Ending) (w' : World) : Prop :=
  ∃ (a : Option Addr) (l c : Nat) (t : Il), e = .returned (.tuple #[.agg #[.int .i64 n, .slice a l c], .int .i64 q, .agg #[.int .i64 s.2.1, .int .i64 s.2.2]]) ∧ Below w.heap.size w w' ∧ ListAt w'.heap.size w' a l t ∧ t.bare = T ∧ l ≤ 262144

set_option maxHeartbeats 1600000 in
theorem refCode_out (av : Option Addr) (len cap : Nat) (p : Int) (w : World) (hp : p < 0 ∨ (len : Int) < p) :
    Calls Tryd.prog 22 #[.slice av len cap, .int .i64 p] w (GotD w 0 0 (p, 5, 0) .nil) := by
  by_cases h0 : p < 0
  · clear hp
    go_enter Tryd.func22, Tryd.ntmps22
    go_wp2
    refine bodyPost_ret (v := .tuple #[.agg #[.int .i64 0, .slice none 0 0], .int .i64 0, .agg #[.int .i64 5, .int .i64 0]]) (by simp [results, Tryd.results22, go_sem]) rfl ⟨none, 0, 0, .nil, rfl, ?_, ⟨rfl, .inl rfl⟩, rfl, Nat.zero_le _⟩
    first | exact thenA (thenA (Below.refl _ _) _) _ | (repeat' (refine Below.setCell ?_ (by simp) _)); exact thenA (thenA (Below.refl _ _) _) _
  · have h1 : (len : Int) < p := by omega
    clear hp
    go_enter Tryd.func22, Tryd.ntmps22
    go_wp2
    refine bodyPost_ret (v := .tuple #[.agg #[.int .i64 0, .slice none 0 0], .int .i64 0, .agg #[.int .i64 5, .int .i64 0]]) (by simp [results, Tryd.results22, go_sem]) rfl ⟨none, 0, 0, .nil, rfl, ?_, ⟨rfl, .inl rfl⟩, rfl, Nat.zero_le _⟩
    first | exact thenA (thenA (Below.refl _ _) _) _ | (repeat' (refine Below.setCell ?_ (by simp) _)); exact thenA (thenA (Below.refl _ _) _) _

/-- While code is read: the result's box, the fault's, the reader behind them. -/
structure CIs (w : World) (v : Value) (s : Rd) (n : Int) (W : World) : Prop where
  r : RcIs W (w.heap.size + 2) v s n
  res : Duo w.heap.size (.int .i64 0) (.slice none 0 0) W
  flt : Duo (w.heap.size + 1) (.int .i64 0) (.int .i64 0) W
  sv : Below w.heap.size w W
  size : w.heap.size + 3 ≤ W.heap.size
theorem CIs.call {w W W' : World} {v : Value} {s s' : Rd} {n n' : Int} (C : CIs w v s n W) (h : RcIs W' (w.heap.size + 2) v s' n') (hs : Save (w.heap.size + 2) W W') : CIs w v s' n' W' :=
  ⟨h, C.res.save hs (by omega), C.flt.save hs (by omega), C.sv.trans (hs.below C.sv.size (by omega)), Nat.le_trans C.size hs.size⟩
theorem CIs.start (w : World) (v : Value) (p : Int) : CIs w v (p, 0, 0) 0 (((w.alloc (.cells #[.int .i64 0, .slice none 0 0] 24)).alloc (.cells #[.int .i64 0, .int .i64 0] 38)).alloc (.cells #[v, .int .i64 p, .int .i64 0, .int .i64 0, .int .i64 0] 66)) := by
  have h2 : ((w.alloc (.cells #[.int .i64 0, .slice none 0 0] 24)).alloc (.cells #[.int .i64 0, .int .i64 0] 38)).heap.size = w.heap.size + 2 := by simp
  have h1 : (w.alloc (.cells #[.int .i64 0, .slice none 0 0] 24)).heap.size = w.heap.size + 1 := by simp
  have hr := rc_new ((w.alloc (.cells #[.int .i64 0, .slice none 0 0] 24)).alloc (.cells #[.int .i64 0, .int .i64 0] 38)) v p 66
  rw [h2] at hr
  have hf := Duo.made (w.alloc (.cells #[.int .i64 0, .slice none 0 0] 24)) (.int .i64 0) (.int .i64 0) 38
  rw [h1] at hf
  exact ⟨hr, ((Duo.made w (.int .i64 0) (.slice none 0 0) 24).below (alloc_b _ _)).below (alloc_b _ _), hf.below (alloc_b _ _), thenA (thenA (thenA (Below.refl _ _) _) _) _, by simp⟩
/-- Four stores at the end. -/
theorem CIs.done {w W : World} {v : Value} {s : Rd} {n : Int} (C : CIs w v s n W) (u0 u1 v0 v1 : Value) :
    Below w.heap.size w ((((W.setCell ⟨w.heap.size, 0, none⟩ u0).setCell ⟨w.heap.size, 1, none⟩ u1).setCell ⟨w.heap.size + 1, 0, none⟩ v0).setCell ⟨w.heap.size + 1, 1, none⟩ v1).drew ∧
    Touch (fun j => j < w.heap.size + 2) W ((((W.setCell ⟨w.heap.size, 0, none⟩ u0).setCell ⟨w.heap.size, 1, none⟩ u1).setCell ⟨w.heap.size + 1, 0, none⟩ v0).setCell ⟨w.heap.size + 1, 1, none⟩ v1).drew := by
  have ht := touch4 (S := fun j => j = w.heap.size ∨ j = w.heap.size + 1) (a := W) (T := w.heap.size) (F := w.heap.size + 1) (.inl rfl) (.inr rfl) 0 1 0 1 u0 u1 v0 v1
  exact ⟨C.sv.trans (ht.below C.sv.size (fun j hj => by rcases hj with h | h <;> omega)), ht.mono (fun j hj => by rcases hj with h | h <;> omega)⟩
/-- One group, as the document's own reading goes. -/
theorem grp_of {zs : List Int} {tot : Int} {t t1 t2 t3 : Rd} {m p : Int} (hp : t.1 = p) (h1 : (numR zs t).1 = m) (h2 : (numR zs t).2 = t1) (h3 : (if 50000 - tot < m then refuseR t1 141 p else t1) = t2) (h4 : (tagR zs isWord t2).2 = t3) : grpR zs tot t = t3 := by
  subst hp h1 h2 h3 h4
  rfl

set_option maxRecDepth 100000 in
set_option maxHeartbeats 12800000 in
theorem refCode_in (av : Option Addr) (len cap i : Nat) (zs : List Int) (w : World) (hlen : zs.length = len) (hz : Bytes w av zs) (hi : i ≤ len) :
    Calls Tryd.prog 22 #[.slice av len cap, .int .i64 i] w (GotD w (codeQ zs i).1 (codeQ zs i).2.1 (codeQ zs i).2.2.1 (codeQ zs i).2.2.2) := by
  have hst : startR zs i = ((i : Int), 0, 0) := by unfold startR; rw [if_neg (by omega)]
  have hgd : Kind.Good zs ((i : Int), 0, 0) := good_at (by omega)
  have hn0 : ¬ (i : Int) < 0 := by omega
  have hn1 : ¬ (len : Int) < (i : Int) := by omega
  have ha : ∀ b off, av = some ⟨b, off, none⟩ → zs ≠ [] → b ≠ w.heap.size + 2 := fun b off ha hne => by have := Bytes.lt hz b off ha hne; omega
  have HZ := hid (fun W (hb : Below w.heap.size w W) => Bytes.below hz hb)
  have C0 := hid (CIs.start w (.slice av len cap) i)
  have NUM := hid (fun W t n (hr : RcIs W (w.heap.size + 2) (.slice av len cap) t n) (hgt : Kind.Good zs t) (hb : Below w.heap.size w W) => numberC_any (w.heap.size + 2) av len cap zs t n W hr hgt hlen (Bytes.below hz hb))
  have ISW := hid (fun W t n (hr : RcIs W (w.heap.size + 2) (.slice av len cap) t n) (hgt : Kind.Good zs t) (hb : Below w.heap.size w W) => is_any (w.heap.size + 2) av len cap zs t n 127 W hr hgt hlen (Bytes.below hz hb) (ok := isWord) (fun x => rfl))
  have LST := hid (fun W t (hr : RcIs W (w.heap.size + 2) (.slice av len cap) t 0) (hgt : Kind.Good zs t) (hb : Below w.heap.size w W) => list_doc (w.heap.size + 2) av len cap zs hlen ha (rem zs t) 1 false 0 t W hr hgt (Nat.le_refl _) (by omega) (by omega) (by omega) (Bytes.below hz hb))
  have UB := hid (fun t => numR_bounds (zs := zs) (s := t) hz.byte)
  obtain ⟨b0, b1⟩ := numR_bounds (s := ((i : Int), 0, 0)) hz.byte
  have hg1 := numR_good hgd
  have hqq : codeQ zs i = if (listF zs 1 false 0 (groupsR zs (numR zs ((i : Int), 0, 0)).1.toNat 0 (numR zs ((i : Int), 0, 0)).2).2).s.2.1 = 0 then ((groupsR zs (numR zs ((i : Int), 0, 0)).1.toNat 0 (numR zs ((i : Int), 0, 0)).2).1, (listF zs 1 false 0 (groupsR zs (numR zs ((i : Int), 0, 0)).1.toNat 0 (numR zs ((i : Int), 0, 0)).2).2).s.1, ((listF zs 1 false 0 (groupsR zs (numR zs ((i : Int), 0, 0)).1.toNat 0 (numR zs ((i : Int), 0, 0)).2).2).s.1, 0, 0), (listF zs 1 false 0 (groupsR zs (numR zs ((i : Int), 0, 0)).1.toNat 0 (numR zs ((i : Int), 0, 0)).2).2).t) else (0, 0, (listF zs 1 false 0 (groupsR zs (numR zs ((i : Int), 0, 0)).1.toNat 0 (numR zs ((i : Int), 0, 0)).2).2).s, .nil) := by
    unfold codeQ codeP locR
    rw [hst]
  obtain ⟨n, hn⟩ : ∃ n, (numR zs ((i : Int), 0, 0)).1 = n := ⟨_, rfl⟩
  obtain ⟨s1, hs1⟩ : ∃ t, (numR zs ((i : Int), 0, 0)).2 = t := ⟨_, rfl⟩
  rw [hn, hs1] at hqq
  rw [hn] at b0 b1
  rw [hs1] at hg1
  obtain ⟨G, hG⟩ : ∃ G, groupsR zs n.toNat 0 s1 = G := ⟨_, rfl⟩
  rw [hG] at hqq
  obtain ⟨Q, hQ⟩ : ∃ Q, codeQ zs i = Q := ⟨_, rfl⟩
  rw [hQ]
  rw [hQ] at hqq
  have HQQ := hid hqq
  have HG0 := hid hG
  have HGD := hid hgd
  have HG1 := hid hg1
  have HN := hid hn
  have HS1 := hid hs1
  clear hst hgd ha hqq hG hQ hn hs1 hg1 hz hlen
  go_enter Tryd.func22, Tryd.ntmps22
  go_wp2_with fail
  refine (NUM.out _ _ _ C0.out.r HGD.out C0.out.sv).mono ?_
  rw [HN.out, HS1.out]
  rintro e w1 ⟨rfl, h1, sv1⟩
  have C1 := hid (C0.out.call h1 sv1)
  clear h1 sv1 C0 hn0 hn1
  go_wp2
  go_loopw [9, 10, 11] (fun v9 v10 v11 wr => ∃ (tot j : Int) (t : Rd), v9 = .int .i64 tot ∧ v10 = .int .u32 j ∧ 0 ≤ j ∧ j ≤ n ∧ Hid (Kind.Good zs t) ∧ Hid (CIs w (.slice av len cap) t 0 wr) ∧ Hid ((t.2.1 = 0 → groupsR zs (n - j).toNat tot t = G ∧ 0 ≤ tot ∧ tot ≤ 50000) ∧ (t.2.1 ≠ 0 → G.2 = t))) (fun _ v10 _ _ => (n - intOf v10).toNat)
  case atStart =>
    refine ⟨0, 0, s1, rfl, rfl, by omega, by omega, HG1, C1, ?_⟩
    refine hid ⟨fun _ => ⟨by rw [Int.sub_zero]; exact HG0.out, by omega, by omega⟩, fun hb => ?_⟩
    rw [← HG0.out]
    cases hk : n.toNat with
    | zero => rfl
    | succ k =>
      have hgb : grpR zs 0 s1 = s1 := by
        unfold grpR
        have e1 : numR zs s1 = (0, s1) := by unfold numR; rw [if_neg hb]
        rw [e1]
        simp only
        rw [if_neg (by omega)]
        unfold tagR
        rw [byteR_bad hb]
        simp only
        rw [refuseR_bad hb]
        simp
      rw [groupsR_succ, hgb, if_neg hb]
  case round =>
    clear C1 HG1 HG0 HN HS1 HGD
    obtain ⟨tot, j, t, rfl, rfl, hj0, hj1, HGT, HC, HI⟩ := hrel
    by_cases hb : t.2.1 = 0
    · obtain ⟨hR, ht0, ht1⟩ := HI.out.1 hb
      have HB := hid hb
      have HR := hid hR
      clear HI hR hb
      by_cases hlt : j < n
      · have hR := HR.out
        rw [show (n - j).toNat = (n - (j + 1)).toNat + 1 by omega, groupsR_succ] at hR
        obtain ⟨m0, m1⟩ := UB.out t
        have c1 := HC.out.r.c1
        obtain ⟨p, hp⟩ : ∃ p, t.1 = p := ⟨_, rfl⟩
        rw [hp] at c1
        have hz1 : (numR zs t).2.2.1 ≠ 0 → (numR zs t).1 = 0 := by
          intro hb
          unfold numR at hb ⊢
          split
          · rename_i h0
            rw [if_pos h0] at hb
            split
            · rename_i h1
              rw [if_pos h1] at hb
              exact absurd rfl hb
            · rfl
          · rfl
        have g1 := numR_good HGT.out
        obtain ⟨m, hm⟩ : ∃ m, (numR zs t).1 = m := ⟨_, rfl⟩
        obtain ⟨t1, ht1e⟩ : ∃ u, (numR zs t).2 = u := ⟨_, rfl⟩
        obtain ⟨t2, ht2e⟩ : ∃ u, (if 50000 - tot < m then refuseR t1 141 p else t1) = u := ⟨_, rfl⟩
        obtain ⟨t3, ht3e⟩ : ∃ u, (tagR zs isWord t2).2 = u := ⟨_, rfl⟩
        have hgr := grp_of hp hm ht1e ht2e ht3e
        rw [hgr] at hR
        rw [hm] at m0 m1 hz1 hR
        rw [ht1e] at g1 hz1
        have g2 : Kind.Good zs t2 := by
          rw [← ht2e]; split
          · exact refuseR_good (by decide) g1
          · exact g1
        have g3 : Kind.Good zs t3 := by rw [← ht3e]; exact tagR_good (ok := isWord) g2
        have NM := NUM.out wr t 0 HC.out.r HGT.out HC.out.sv
        rw [hm, ht1e] at NM
        have NMH := hid NM
        have G1 := hid g1
        have G2 := hid g2
        have G3 := hid g3
        have HR3 := hid hR
        have HT2 := hid ht2e
        have HT3 := hid ht3e
        have HZ1 := hid hz1
        have hw1 : IntKind.u32.wrap (j + 1) = j + 1 := by rw [IntKind.wrap_u32]; omega
        clear hR hp hm ht1e ht2e ht3e hgr g1 g2 g3 NM HR hz1
        go_wp2_with fail
        refine (bad_no _ _ _ _ _ HC.out.r HB.out).mono ?_
        rintro e3 w3 ⟨rfl, rfl⟩
        go_wp2_with fail
        refine NMH.out.mono ?_
        clear NMH
        rintro e4 w4 ⟨rfl, h4, sv4⟩
        have HC4 := hid (HC.out.call h4 sv4)
        clear h4 sv4 HC c1
        have hcase : t1.2.1 ≠ 0 ∨ (t1.2.1 = 0 ∧ 50000 - tot < m) ∨ (t1.2.1 = 0 ∧ ¬ 50000 - tot < m) := by omega
        rcases hcase with hb1 | ⟨hb1, hgt⟩ | ⟨hb1, hgt⟩
        · have hm0 : m = 0 := HZ1.out hb1
          have HB1 := hid hb1
          have HM0 := hid hm0
          clear hb1
          have e2 : t1 = t2 := by rw [← HT2.out, if_neg (by omega)]
          subst e2
          clear hm0
          go_wp2_with fail
          refine (bad_yes _ _ _ _ _ HC4.out.r HB1.out).mono ?_
          rintro e5 w5 ⟨rfl, rfl⟩
          have HC5 := HC4
          have IW := ISW.out _ t1 0 HC5.out.r G2.out HC5.out.sv
          rw [HT3.out] at IW
          have IWH := hid IW
          clear IW
          go_wp2_with fail
          refine IWH.out.mono ?_
          clear IWH
          rintro e6 w6 ⟨rfl, h6, sv6⟩
          have HC6 := hid (HC5.out.call h6 sv6)
          clear h6 sv6 HC5
          go_wp2
          go_roundw
          case rel =>
            refine ⟨tot + m, j + 1, t3, by go_num, by go_num, by omega, by omega, G3, HC6, ?_⟩
            refine hid ⟨fun h3 => ?_, fun h3 => ?_⟩
            · have hR := HR3.out
              rw [if_pos h3] at hR
              refine ⟨hR, by omega, ?_⟩
              have := HM0.out; omega
            · have hR := HR3.out
              rw [if_neg h3] at hR
              rw [← hR]
          case measure => simp [intOf]; omega
        · have HB1 := hid hb1
          have HGT2 := hid hgt
          clear hb1
          have hgt2 : 50000 < tot + m := by omega
          clear hgt
          go_wp2_with fail
          refine (bad_no _ _ _ _ _ HC4.out.r HB1.out).mono ?_
          rintro e5 w5 ⟨rfl, rfl⟩
          go_wp2_with fail
          refine (fault_any _ _ t1 0 141 p _ HC4.out.r).mono ?_
          rintro e5 w5 ⟨rfl, h5, sv5⟩
          have e2 : refuseR t1 141 p = t2 := by rw [← HT2.out, if_pos HGT2.out]
          rw [e2] at h5
          have HC5 := hid (HC4.out.call h5 sv5)
          clear h5 sv5 HC4 e2
          have IW := ISW.out _ t2 0 HC5.out.r G2.out HC5.out.sv
          rw [HT3.out] at IW
          have IWH := hid IW
          clear IW
          go_wp2_with fail
          refine IWH.out.mono ?_
          clear IWH
          rintro e6 w6 ⟨rfl, h6, sv6⟩
          have HC6 := hid (HC5.out.call h6 sv6)
          clear h6 sv6 HC5
          go_wp2
          go_roundw
          case rel =>
            refine ⟨tot + m, j + 1, t3, by go_num, by go_num, by omega, by omega, G3, HC6, ?_⟩
            refine hid ⟨fun h3 => ?_, fun h3 => ?_⟩
            · have hR := HR3.out
              rw [if_pos h3] at hR
              refine ⟨hR, by omega, ?_⟩
              exact absurd ((tagR_on (ok := isWord) G2.out) (by rw [HT3.out]; exact h3)).1 (by rw [← HT2.out, if_pos HGT2.out]; exact refuse_is_bad (by decide))
            · have hR := HR3.out
              rw [if_neg h3] at hR
              rw [← hR]
          case measure => simp [intOf]; omega
        · have HB1 := hid hb1
          have HGT2 := hid hgt
          clear hb1
          have hgt2 : ¬ 50000 < tot + m := by omega
          clear hgt
          have e2 : t1 = t2 := by rw [← HT2.out, if_neg HGT2.out]
          subst e2
          go_wp2_with fail
          refine (bad_no _ _ _ _ _ HC4.out.r HB1.out).mono ?_
          rintro e5 w5 ⟨rfl, rfl⟩
          have HC5 := HC4
          have IW := ISW.out _ t1 0 HC5.out.r G2.out HC5.out.sv
          rw [HT3.out] at IW
          have IWH := hid IW
          clear IW
          go_wp2_with fail
          refine IWH.out.mono ?_
          clear IWH
          rintro e6 w6 ⟨rfl, h6, sv6⟩
          have HC6 := hid (HC5.out.call h6 sv6)
          clear h6 sv6 HC5
          go_wp2
          go_roundw
          case rel =>
            refine ⟨tot + m, j + 1, t3, by go_num, by go_num, by omega, by omega, G3, HC6, ?_⟩
            refine hid ⟨fun h3 => ?_, fun h3 => ?_⟩
            · have hR := HR3.out
              rw [if_pos h3] at hR
              refine ⟨hR, by omega, ?_⟩
              omega
            · have hR := HR3.out
              rw [if_neg h3] at hR
              rw [← hR]
          case measure => simp [intOf]; omega
      · obtain rfl : j = n := by omega
        have hG : G = (tot, t) := by
          rw [← HR.out, Int.sub_self]
          rfl
        clear HR hlt
        go_wp2_with fail
        refine (bad_no _ _ _ _ _ HC.out.r HB.out).mono ?_
        rintro e3 w3 ⟨rfl, rfl⟩
        have LS := LST.out wr t HC.out.r HGT.out HC.out.sv
        rw [show ((1 : Nat) : Int) = 1 from rfl] at LS
        have hqq := HQQ.out
        rw [hG] at hqq
        simp only at hqq
        have hfin := (listF_fine zs 1 false 0 t HGT.out).1
        obtain ⟨R, hR⟩ : ∃ R, listF zs 1 false 0 t = R := ⟨_, rfl⟩
        rw [hR] at LS hqq hfin
        have LH := hid LS
        obtain ⟨T, q, N, e, f, g⟩ := R
        simp only at hfin LH hqq
        have SZ := hid HC.out.size
        clear LS hR hG HQQ LST NUM ISW
        by_cases h0 : f = 0
        · subst h0
          have hg0 := (hfin rfl).2.2
          simp only at hg0
          subst hg0
          rw [if_pos rfl] at hqq
          have HQ2 := hid hqq
          clear hfin hqq
          go_wp2_with fail
          refine LH.out.mono ?_
          clear LH
          rintro e1 w2 ⟨a, l, c, q2, rfl, h2, sv2, hgo⟩
          obtain ⟨u, hq, hu, hl, hlow, hle⟩ := hgo rfl
          have HL := hid hl
          have HT := hid hu
          have HLW := hid hlow
          have HLE := hid hle
          have HC := hid (HC.out.call h2 sv2)
          clear hq hu hl hlow hle hgo sv2 h2
          go_wp2_with fail
          refine (bad_no _ _ _ _ _ HC.out.r rfl).mono ?_
          rintro e3 w3 ⟨rfl, rfl⟩
          obtain ⟨t0, t1, t2, t3⟩ := HC.out.res
          obtain ⟨f0, f1, f2, f3⟩ := HC.out.flt
          have n1 : w.heap.size ≠ w.heap.size + 1 := by omega
          have n2 : w.heap.size + 2 ≠ w.heap.size := by omega
          have n3 : w.heap.size + 2 ≠ w.heap.size + 1 := by omega
          have z1 := HC.out.r.c1
          simp only at z1
          go_wp2
          go_region
          all_goals go_wp2
          all_goals refine bodyPost_ret (v := .tuple #[.agg #[.int .i64 tot, .slice a l c], .int .i64 e, .agg #[.int .i64 0, .int .i64 0]]) (by simp [results, Tryd.results22, go_sem, t0, t1, f0, f1]) rfl ?_
          all_goals exact ⟨a, l, c, u, by rw [HQ2.out], (HC.out.done _ _ _ _).1, lies_on (B := w.heap.size + 2) HL.out (HC.out.done _ _ _ _).2 (fun b hb => by have h1 := HLW.out b hb; have h2 := SZ.out; omega), by rw [HQ2.out]; exact HT.out, HLE.out⟩
        · rw [if_neg h0] at hqq
          have HQ2 := hid hqq
          have HF := hid h0
          clear hfin hqq h0
          go_wp2_with fail
          refine LH.out.mono ?_
          clear LH
          rintro e1 w2 ⟨a, l, c, q2, rfl, h2, sv2, -⟩
          have HC := hid (HC.out.call h2 sv2)
          clear sv2 h2
          go_wp2_with fail
          refine (bad_yes _ _ _ _ _ HC.out.r HF.out).mono ?_
          rintro e3 w3 ⟨rfl, rfl⟩
          obtain ⟨t0, t1, t2, t3⟩ := HC.out.res
          obtain ⟨f0, f1, f2, f3⟩ := HC.out.flt
          have n1 : w.heap.size ≠ w.heap.size + 1 := by omega
          have n2 : w.heap.size + 2 ≠ w.heap.size := by omega
          have n3 : w.heap.size + 2 ≠ w.heap.size + 1 := by omega
          have z2 := HC.out.r.c2
          have z3 := HC.out.r.c3
          simp only at z2 z3
          go_wp2
          go_region
          all_goals go_wp2
          all_goals refine bodyPost_ret (v := .tuple #[.agg #[.int .i64 0, .slice none 0 0], .int .i64 0, .agg #[.int .i64 f, .int .i64 g]]) (by simp [results, Tryd.results22, go_sem, t0, t1, f0, f1]) rfl ?_
          all_goals exact ⟨none, 0, 0, .nil, by rw [HQ2.out], (HC.out.done _ _ _ _).1, ⟨rfl, .inl rfl⟩, by rw [HQ2.out] <;> rfl, Nat.zero_le _⟩
    · have HB := hid hb
      have hG : G.2 = t := HI.out.2 hb
      clear HI hb
      by_cases hlt : j < n
      · go_wp2_with fail
        refine (bad_yes _ _ _ _ _ HC.out.r HB.out).mono ?_
        rintro e2 w2 ⟨rfl, rfl⟩
        obtain ⟨p, er, fr⟩ := t
        have hQ2 : Q = (0, 0, (p, er, fr), .nil) := by rw [HQQ.out, hG, listF_bad HB.out, if_neg HB.out]
        have HQ2 := hid hQ2
        clear hQ2 hG HQQ
        go_wp2_with fail
        refine (bad_yes _ _ _ _ _ HC.out.r HB.out).mono ?_
        rintro e3 w3 ⟨rfl, rfl⟩
        obtain ⟨t0, t1, t2, t3⟩ := HC.out.res
        obtain ⟨f0, f1, f2, f3⟩ := HC.out.flt
        have n1 : w.heap.size ≠ w.heap.size + 1 := by omega
        have n2 : w.heap.size + 2 ≠ w.heap.size := by omega
        have n3 : w.heap.size + 2 ≠ w.heap.size + 1 := by omega
        have z2 := HC.out.r.c2
        have z3 := HC.out.r.c3
        simp only at z2 z3
        go_wp2
        go_region
        all_goals go_wp2
        all_goals refine bodyPost_ret (v := .tuple #[.agg #[.int .i64 0, .slice none 0 0], .int .i64 0, .agg #[.int .i64 er, .int .i64 fr]]) (by simp [results, Tryd.results22, go_sem, t0, t1, f0, f1]) rfl ?_
        all_goals exact ⟨none, 0, 0, .nil, by rw [HQ2.out], (HC.out.done _ _ _ _).1, ⟨rfl, .inl rfl⟩, by rw [HQ2.out] <;> rfl, Nat.zero_le _⟩
      · obtain rfl : j = n := by omega
        clear hlt
        obtain ⟨p, er, fr⟩ := t
        have hQ2 : Q = (0, 0, (p, er, fr), .nil) := by rw [HQQ.out, hG, listF_bad HB.out, if_neg HB.out]
        have HQ2 := hid hQ2
        clear hQ2 hG HQQ
        go_wp2_with fail
        refine (bad_yes _ _ _ _ _ HC.out.r HB.out).mono ?_
        rintro e3 w3 ⟨rfl, rfl⟩
        obtain ⟨t0, t1, t2, t3⟩ := HC.out.res
        obtain ⟨f0, f1, f2, f3⟩ := HC.out.flt
        have n1 : w.heap.size ≠ w.heap.size + 1 := by omega
        have n2 : w.heap.size + 2 ≠ w.heap.size := by omega
        have n3 : w.heap.size + 2 ≠ w.heap.size + 1 := by omega
        have z2 := HC.out.r.c2
        have z3 := HC.out.r.c3
        simp only at z2 z3
        go_wp2
        go_region
        all_goals go_wp2
        all_goals refine bodyPost_ret (v := .tuple #[.agg #[.int .i64 0, .slice none 0 0], .int .i64 0, .agg #[.int .i64 er, .int .i64 fr]]) (by simp [results, Tryd.results22, go_sem, t0, t1, f0, f1]) rfl ?_
        all_goals exact ⟨none, 0, 0, .nil, by rw [HQ2.out], (HC.out.done _ _ _ _).1, ⟨rfl, .inl rfl⟩, by rw [HQ2.out] <;> rfl, Nat.zero_le _⟩
theorem refCode06_any (av : Option Addr) (len cap : Nat) (p : Int) (zs : List Int) (w : World) (hlen : zs.length = len) (hz : Bytes w av zs) :
    Calls Tryd.prog 22 #[.slice av len cap, .int .i64 p] w (GotD w (codeQ zs p).1 (codeQ zs p).2.1 (codeQ zs p).2.2.1 (codeQ zs p).2.2.2) := by
  by_cases hp : p < 0 ∨ (len : Int) < p
  · have hst : startR zs p = (p, 5, 0) := by unfold startR; rw [hlen, if_pos hp]
    have hl : (locR zs (p, 5, 0)).2 = (p, 5, 0) := by
      unfold locR
      have e1 : numR zs (p, 5, 0) = (0, (p, 5, 0)) := by unfold numR; rw [if_neg (by simp)]
      rw [e1]
      rfl
    have hq : codeQ zs p = (0, 0, (p, 5, 0), .nil) := by
      unfold codeQ codeP
      rw [hst, hl, listF_bad (by simp)]
      rfl
    rw [hq]
    exact refCode_out av len cap p w hp
  · obtain ⟨i, rfl⟩ := Int.eq_ofNat_of_zero_le (show 0 ≤ p by omega)
    exact refCode_in av len cap i zs w hlen hz (by omega)
end Go.Proofs.YtcjamlgdidiaeaaDoor.Body
