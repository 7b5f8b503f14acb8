/-
  STACK: the statements' kit: same, told, by contract, where what is compared is the same.
-/
import Derived.Test.YtnfpfagojeieeaaStkRefLeave
import Derived.Laws.StructEq
import Derived.BigQuiet
import Derived.Deep.QuietTactic
namespace Go.Proofs.Ytnfpfagojeieeaa.Stk
open Go.RowKit
set_option linter.unusedVariables false

theorem eqFr (a b c : Int) (d : Bool) (w : World) : (Op.equalIn 10000 46 (.agg #[.int .i64 a, .int .i64 b, .int .i64 c, .bool d]) (.agg #[.int .i64 a, .int .i64 b, .int .i64 c, .bool d])).run Try.prog w = .ok true w := by
  have u3 := Try.underlying3
  have a3 := Try.isAgg3
  have z3 := Try.sizeOf3
  have u4 := Try.underlying4
  have a4 := Try.isAgg4
  have z4 := Try.sizeOf4
  have hS : Try.prog.underlying 46 = some (.struct (Try.prog.fieldsOf 46)) := by kernel_rfl
  have hp : Try.prog.stoodInHeld 46 = false := by kernel_rfl
  rw [show (10000 : Nat) = 9999 + 1 from rfl, run_equalIn_agg w 9999 46 _ _ hS hp]
  simp only [Program.fieldsOf, Try.underlying46]
  go_simp
theorem guardFr (op : BinOp) (x y : Operand) (xs ys : Array Value) (w : World) : (eqGuard op 46 x y (.agg xs) (.agg ys)).run Try.prog w = .ok () w :=
  run_eqGuard_agg w op _ x y xs ys (by kernel_rfl)
set_option maxRecDepth 100000 in
set_option maxHeartbeats 2000000 in
theorem same_yes (h : Int) (a1 a2 : Option Addr) (n c1 c2 : Nat) (l : List Fr) (w : World) (hs1 : StAt w.heap.size w a1 n c1 l) (hs2 : StAt w.heap.size w a2 n c2 l) :
    Calls Try.prog 26 #[.agg #[.int .i64 h, .slice a1 n c1], .agg #[.int .i64 h, .slice a2 n c2]] w fun e w' => e = .returned (.bool true) ∧ Below w.heap.size w w' := by
  obtain ⟨W0, hW0⟩ : ∃ W0, W0 = (w.alloc (.cells #[.int .i64 h, .slice a1 n c1] 24)).alloc (.cells #[.int .i64 h, .slice a2 n c2] 24) := ⟨_, rfl⟩
  have hb : Below w.heap.size w W0 := by rw [hW0]; exact ((Below.refl w.heap.size w).alloc (Nat.le_refl _) _).alloc (by simp) _
  have hx : Bx W0 w.heap.size (.int .i64 h) (.slice a1 n c1) := by rw [hW0]; exact (Bx.made w _ _).below ((Below.refl _ _).alloc (Nat.le_refl _) _)
  have hy : Bx W0 (w.heap.size + 1) (.int .i64 h) (.slice a2 n c2) := by
    have h := Bx.made (w.alloc (.cells #[.int .i64 h, .slice a1 n c1] 24)) (.int .i64 h) (.slice a2 n c2)
    rw [World.size_alloc] at h
    rw [hW0]; exact h
  have x0 := hx.c0
  have x1 := hx.c1
  have y0 := hy.c0
  have y1 := hy.c1
  have q1 := eqFr
  have q2 := guardFr
  have HB := hid hb
  have HW := hid hW0
  have H1 := hid (hs1.on hb)
  have H2 := hid (hs2.on hb)
  have HL := hid hs1.len
  have hfit := hs1.fit
  clear hx hy hb hW0 hs1 hs2
  go_enter Try.func26, Try.ntmps26
  go_upto_region 1 with fail
  rw [← HW.out]
  go_wp2
  go_loopw [5] (fun vi wr => ∃ k nq : Nat, vi = .int .i64 k ∧ k ≤ n ∧ wr = W0.drewN nq) (fun vi _ => n - (intOf vi).toNat)
  case atStart => exact ⟨0, 0, rfl, Nat.zero_le _, rfl⟩
  case round =>
    obtain ⟨k, mq, rfl, hk, rfl⟩ := hrel
    by_cases hlt : k < n
    · have hkl : k < l.length := by rw [HL.out]; exact hlt
      obtain ⟨b1, o1, rfl, -, hc1⟩ := H1.out.get (by omega)
      obtain ⟨b2, o2, rfl, -, hc2⟩ := H2.out.get (by omega)
      obtain ⟨e0, e1, e2, e3⟩ := hc1 k hkl
      obtain ⟨g0, g1, g2, g3⟩ := hc2 k hkl
      have hki : (k : Int) < (n : Int) := by omega
      clear hc1 hc2
      go_wp2
      go_quiet (fail)
      go_wp2
      go_roundw
      case rel => exact ⟨k + 1, mq + nq, by go_num, by omega, rfl⟩
      case measure => simp [intOf]; omega
    · obtain rfl : k = n := by omega
      go_wp2
      go_ret
      exact ⟨rfl, drewn HB.out _⟩
/-- Four boxes. -/
theorem four_boxes (w : World) (x0 y0 x1 y1 x2 y2 x3 y3 : Value) : ∃ W0, W0 = (((w.alloc (.cells #[x0, y0] 24)).alloc (.cells #[x1, y1] 24)).alloc (.cells #[x2, y2] 24)).alloc (.cells #[x3, y3] 24) ∧
    Below w.heap.size w W0 ∧ Bx W0 w.heap.size x0 y0 ∧ Bx W0 (w.heap.size + 1) x1 y1 ∧ Bx W0 (w.heap.size + 2) x2 y2 ∧ Bx W0 (w.heap.size + 3) x3 y3 ∧ W0.heap.size = w.heap.size + 4 := by
  have b := fun (W : World) (o : Obj) => (Below.refl W.heap.size W).alloc (Nat.le_refl _) o
  refine ⟨_, rfl, (((b w _).alloc (by simp) _).alloc (by simp; omega) _).alloc (by simp; omega) _, ?_, ?_, ?_, ?_, by simp⟩
  · exact (((Bx.made w _ _).below (b _ _)).below (b _ _)).below (b _ _)
  · have h := Bx.made (w.alloc (.cells #[x0, y0] 24)) x1 y1
    rw [World.size_alloc] at h
    exact (h.below (b _ _)).below (b _ _)
  · have h := Bx.made ((w.alloc (.cells #[x0, y0] 24)).alloc (.cells #[x1, y1] 24)) x2 y2
    rw [World.size_alloc, World.size_alloc] at h
    exact h.below (b _ _)
  · have h := Bx.made (((w.alloc (.cells #[x0, y0] 24)).alloc (.cells #[x1, y1] 24)).alloc (.cells #[x2, y2] 24)) x3 y3
    rw [World.size_alloc, World.size_alloc, World.size_alloc] at h
    exact h
/-- What the loop of told keeps. -/
structure Tld (w W0 W : World) (lo : Nat) (h1 : Int) (a1 : Option Addr) (n1 c1 : Nat) (h : Int) (ai : Option Addr) (n ci : Nat) (as_ : Option Addr) (cs : Nat) : Prop where
  below : Below lo w W
  x0 : Bx W w.heap.size (.int .i64 h1) (.slice a1 n1 c1)
  x2 : Bx W (w.heap.size + 2) (.int .i64 h) (.slice ai n ci)
  x3 : Bx W (w.heap.size + 3) (.int .i64 h) (.slice as_ n cs)
  size : w.heap.size + 4 ≤ W.heap.size
  stay : ∀ k x y, Bx w k x y → Bx W k x y
theorem Tld.on {w W0 W W' : World} {lo : Nat} {h1 : Int} {a1 : Option Addr} {n1 c1 : Nat} {h : Int} {ai : Option Addr} {n ci : Nat} {as_ : Option Addr} {cs : Nat} (t : Tld w W0 W lo h1 a1 n1 c1 h ai n ci as_ cs) (hb : Below W.heap.size W W') (hlo : lo ≤ w.heap.size) : Tld w W0 W' lo h1 a1 n1 c1 h ai n ci as_ cs :=
  ⟨t.below.trans (hb.mono (by have := t.size; omega)), t.x0.below hb, t.x2.below hb, t.x3.below hb, Nat.le_trans t.size hb.size, fun k x y h => (t.stay k x y h).below hb⟩
theorem Tld.set {w W0 W : World} {lo : Nat} {h1 : Int} {a1 : Option Addr} {n1 c1 : Nat} {h : Int} {ai : Option Addr} {n ci : Nat} {as_ : Option Addr} {cs : Nat} (t : Tld w W0 W lo h1 a1 n1 c1 h ai n ci as_ cs) {g j : Nat} (hg : lo ≤ g) (hgw : g < w.heap.size) (hgx : ∀ k x y, Bx w k x y → k ≠ g) (u : Value) : Tld w W0 (W.setCell ⟨g, j, none⟩ u) lo h1 a1 n1 c1 h ai n ci as_ cs :=
  ⟨t.below.setCell hg _, t.x0.far (by show _ ≠ g; omega) _, t.x2.far (by show _ ≠ g; omega) _, t.x3.far (by show _ ≠ g; omega) _, by simpa [World.setCell] using t.size, fun k x y h => (t.stay k x y h).far (hgx k x y h) _⟩
theorem own_ne_box {base : Nat} {w : World} {v : Value} {l : List Fr} (h : OwnF base w v l) {g k : Nat} {x y : Value} (hg : v.ownBlock = some g) (hx : Bx w k x y) : k ≠ g := by
  intro e
  subst e
  rcases h.row.2 with ⟨h0, _⟩ | ⟨g', cap, cur, hv, _, hh, _⟩
  · rw [h0] at hg; simp [Value.ownBlock] at hg
  · rw [hv] at hg
    simp only [Value.ownBlock, Option.some.injEq] at hg
    subst hg
    unfold Bx at hx
    rw [hh] at hx
    simp at hx
def over (l : List Fr) (k : Nat) : List Fr := (List.replicate k (⟨99, 0, 0, false⟩ : Fr)) ++ l.drop k
theorem over_len {l : List Fr} {k : Nat} (hk : k ≤ l.length) : (over l k).length = l.length := by simp [over]; omega
theorem over_set {l : List Fr} {k : Nat} (hk : k < l.length) : (over l k).set k ⟨99, 0, 0, false⟩ = over l (k + 1) := by
  unfold over
  rw [List.set_append_right _ _ (by simp), List.length_replicate, Nat.sub_self, List.drop_eq_getElem_cons hk, List.set_cons_zero, List.replicate_succ']
  simp
set_option maxRecDepth 100000 in
set_option maxHeartbeats 4000000 in
theorem told_yes (lo : Nat) (h1 : Int) (a1 : Option Addr) (n1 c1 : Nat) (l1 : List Fr) (e : Int) (b1 : Option Addr) (d1 : Nat) (h : Int) (ai : Option Addr) (n ci : Nat) (as_ : Option Addr) (cs : Nat) (l : List Fr) (w : World) (hlo : lo ≤ w.heap.size)
    (ho : OwnF lo w (.slice a1 n1 c1) l1) (hn1 : l1.length = n1) (hm1 : n1 ≤ 1000000) (hs1 : StAt w.heap.size w b1 n1 d1 l1) (hsi : StAt lo w ai n ci l) (hss : StAt lo w as_ n cs l) :
    Calls Try.prog 10 #[.agg #[.int .i64 h1, .slice a1 n1 c1], .int .i64 e, .agg #[.int .i64 h1, .slice b1 n1 d1], .int .i64 e, .agg #[.int .i64 h, .slice ai n ci], .agg #[.int .i64 h, .slice as_ n cs]] w fun e w' => e = .returned (.bool true) ∧ Below lo w w' ∧ ∀ k x y, Bx w k x y → Bx w' k x y := by
  obtain ⟨W0, hW0, hb, hx0, hx1, hx2, hx3, hsz⟩ := four_boxes w (.int .i64 h1) (.slice a1 n1 c1) (.int .i64 h1) (.slice b1 n1 d1) (.int .i64 h) (.slice ai n ci) (.int .i64 h) (.slice as_ n cs)
  have hst1 : StAt w.heap.size w a1 n1 c1 l1 := by
    obtain ⟨a', c', hv, hst⟩ := ho.slice (by omega)
    rw [hn1] at hv hst
    simp only [Value.slice.injEq] at hv
    obtain ⟨rfl, _, rfl⟩ := hv
    exact hst
  have CS := hid (same_yes h1 a1 b1 n1 c1 d1 l1 W0 (hst1.on hb) (hs1.on hb))
  have CT := hid (fun (W : World) (hB : Below lo w W) (hz : lo ≤ W.heap.size) => same_yes h ai as_ n ci cs l W ((hsi.below hB).more hz) ((hss.below hB).more hz))
  have x00 := hx0.c0
  have x01 := hx0.c1
  have x10 := hx1.c0
  have x11 := hx1.c1
  have q1 : (e != e) = false := by simp
  have HT := hid (show Tld w W0 W0 lo h1 a1 n1 c1 h ai n ci as_ cs from ⟨hb.mono hlo, hx0, hx2, hx3, by omega, fun k x y h => h.below hb⟩)
  have HO := hid (ho.below hb)
  have HW := hid hW0
  have HN := hid hn1
  have HLO := hid hlo
  have hfit := hs1.fit
  have HBK := hid (fun g (hg : (Value.slice a1 n1 c1).ownBlock = some g) => World.ownsRow.lt ho.row g hg)
  have HGX := hid (fun g (hg : (Value.slice a1 n1 c1).ownBlock = some g) k x y (h : Bx w k x y) => own_ne_box ho hg h)
  clear hb hx0 hx1 hx2 hx3 hsz hW0 hst1 hs1 hsi hss ho hn1 hlo
  go_enter Try.func10, Try.ntmps10
  go_upto_region 1 with fail
  rw [← HW.out]
  go_wp2_with fail
  refine CS.out.mono ?_
  rintro e' w1 ⟨rfl, hb1⟩
  have HT1 := hid (HT.out.on hb1 HLO.out)
  have HO1 := hid (HO.out.below hb1)
  clear hb1 CS HT HO x00 x01 x10 x11 HW
  go_wp2
  rcases HO1.out.row.2 with ⟨h1', h0⟩ | ⟨g, cap, cur, h1', hg, hh, -⟩
  · simp only [Value.slice.injEq] at h1'
    obtain ⟨rfl, rfl, rfl⟩ := h1'
    clear h0 HBK HGX
    have x0 := HT1.out.x0.c1
    go_loopw [13] (fun vi wr => vi = .int .i64 0 ∧ wr = w1) (fun _ _ => 0)
    case atStart => exact ⟨rfl, rfl⟩
    case round =>
      obtain ⟨rfl, rfl⟩ := hrel
      have x20 := HT1.out.x2.c0
      have x21 := HT1.out.x2.c1
      have x30 := HT1.out.x3.c0
      have x31 := HT1.out.x3.c1
      have CTW := hid (CT.out _ HT1.out.below (by have := HT1.out.size; have := HLO.out; omega))
      clear CT
      go_wp2_with fail
      refine CTW.out.mono ?_
      rintro e' w2 ⟨rfl, hb2⟩
      have HB2 := hid (And.intro (HT1.out.below.trans (hb2.mono (by have := HT1.out.size; have := HLO.out; omega))) (fun k x y h => (HT1.out.stay k x y h).below hb2))
      clear hb2 CTW
      go_wp2
      go_ret
      exact ⟨rfl, HB2.out.1, HB2.out.2⟩
  · simp only [Value.slice.injEq] at h1'
    obtain ⟨rfl, -, -⟩ := h1'
    have HG := hid (HBK.out g rfl)
    have HGY := hid (HGX.out g rfl)
    clear hh cur cap hg HBK HGX
    go_loopw [13] (fun vi wr => ∃ k : Nat, vi = .int .i64 k ∧ k ≤ n1 ∧ Hid (Tld w W0 wr lo h1 (some ⟨g, 0, none⟩) n1 c1 h ai n ci as_ cs) ∧ Hid (OwnF lo wr (.slice (some ⟨g, 0, none⟩) n1 c1) (over l1 k))) (fun vi _ => n1 - (intOf vi).toNat)
    case atStart => exact ⟨0, rfl, Nat.zero_le _, HT1, HO1⟩
    case round =>
      obtain ⟨k, rfl, hk, HT, HO⟩ := hrel
      have x0 := HT.out.x0.c1
      by_cases hlt : k < n1
      · have hkl : k < l1.length := by rw [HN.out]; exact hlt
        have hol : (over l1 k).length = n1 := (over_len (by omega)).trans HN.out
        obtain ⟨t0, t1, t2, t3⟩ := HO.out.cells hol (k := k) (by omega)
        have z0 := HO.out.frozen hol (k * 4)
        have z1 := HO.out.frozen hol (k * 4 + 1)
        have z2 := HO.out.frozen hol (k * 4 + 2)
        have z3 := HO.out.frozen hol (k * 4 + 3)
        have hki : (k : Int) < (n1 : Int) := by omega
        have HN1 := hid (HO.out.store4 hol (k := k) (by omega) ⟨99, 0, 0, false⟩)
        rw [over_set hkl] at HN1
        have HT2 := hid ((((HT.out.set (j := k * 4) HG.out.1 HG.out.2 HGY.out (.int .i64 99)).set (j := k * 4 + 1) HG.out.1 HG.out.2 HGY.out (.int .i64 0)).set (j := k * 4 + 2) HG.out.1 HG.out.2 HGY.out (.int .i64 0)).set (j := k * 4 + 3) HG.out.1 HG.out.2 HGY.out (.bool false))
        obtain ⟨y, hy⟩ : ∃ y, (over l1 k)[k]'(by omega) = y := ⟨_, rfl⟩
        rw [hy] at t0 t1 t2 t3
        clear hy hol hkl HT1 HO1 HT HO CT
        go_wp2
        go_roundw
        case rel => exact ⟨k + 1, by go_num, by omega, HT2, HN1⟩
        case measure => simp [intOf]; omega
      · obtain rfl : k = n1 := by omega
        have x20 := HT.out.x2.c0
        have x21 := HT.out.x2.c1
        have x30 := HT.out.x3.c0
        have x31 := HT.out.x3.c1
        have CTW := hid (CT.out _ HT.out.below (by have := HT.out.size; have := HLO.out; omega))
        clear CT
        go_wp2_with fail
        refine CTW.out.mono ?_
        rintro e' w2 ⟨rfl, hb2⟩
        have HB2 := hid (And.intro (HT.out.below.trans (hb2.mono (by have := HT.out.size; have := HLO.out; omega))) (fun k x y h => (HT.out.stay k x y h).below hb2))
        clear hb2 CTW
        go_wp2
        go_ret
        exact ⟨rfl, HB2.out.1, HB2.out.2⟩
end Go.Proofs.Ytnfpfagojeieeaa.Stk
