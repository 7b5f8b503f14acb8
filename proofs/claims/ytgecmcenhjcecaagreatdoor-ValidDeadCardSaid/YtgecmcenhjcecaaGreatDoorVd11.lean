import Derived.Test.YtgecmcenhjcecaaGreatDoorVd10
import Derived.Test.YtgecmcenhjcecaaGreatDoorVd01
import Derived.Test.YtgecmcenhjcecaaGreatDoorVd04
import Derived.Test.YtgecmcenhjcecaaGreatDoorVd06
import Derived.Test.YtgecmcenhjcecaaGreatDoorVd08
import Derived.Laws.StructEq
import Derived.Deep.Cut
import Derived.RegionTactic
import Derived.BigRegion
import Derived.Deep.QuietTactic
import Derived.BigQuiet
import Derived.Laws.Tables
import Derived.Laws.AppendOwnNone
import Derived.Deep.WholeRow
import Derived.KernelRfl
namespace Go.Proofs.YtgecmcenhjcecaaGreatDoor.Instr
end Go.Proofs.YtgecmcenhjcecaaGreatDoor.Instr
namespace Go.Proofs.YtgecmcenhjcecaaGreatDoor.Mod
end Go.Proofs.YtgecmcenhjcecaaGreatDoor.Mod
namespace Go.Proofs.YtgecmcenhjcecaaGreatDoor.Stk
end Go.Proofs.YtgecmcenhjcecaaGreatDoor.Stk
namespace Go.Proofs.YtgecmcenhjcecaaGreatDoor.Val
open Go.RowKit Go.Shelf Go.Proofs.YtgecmcenhjcecaaGreatDoor.Instr Go.Proofs.YtgecmcenhjcecaaGreatDoor.Mod
set_option linter.unusedVariables false

/-- What is wrong, and where. -/
structure Wr where
  e : Int
  s : Int
  i : Int
  a : Int
def Wr.v (r : Wr) : Array Value := #[.int .i64 r.e, .int .i64 r.s, .int .i64 r.i, .int .i64 r.a]
/-- Of n items from the k-th on: the first that is wrong. -/
def scanI (m : Md) (j : Nat) : Nat → Nat → Option Wr
  | _, 0 => none
  | k, n + 1 => if (secE m j k).1 = 0 then scanI m j (k + 1) n else some ⟨(secE m j k).1, secN j, k, (secE m j k).2⟩
/-- Of c sections from the j-th on. -/
def scanS (m : Md) : Nat → Nat → Option Wr
  | _, 0 => none
  | j, c + 1 => match scanI m j 0 (secL m j) with
    | some r => some r
    | none => scanS m (j + 1) c
def wrongP (m : Md) : Wr := if m.check = 0 then (scanS m 0 8).getD ⟨0, 0, 0, 0⟩ else ⟨m.check, 0, 0, 0⟩
theorem scanS_hit {m : Md} {j c : Nat} {r : Wr} (h : scanI m j 0 (secL m j) = some r) : scanS m j (c + 1) = some r := by rw [scanS, h]
theorem scanS_miss {m : Md} {j c : Nat} (h : scanI m j 0 (secL m j) = none) : scanS m j (c + 1) = scanS m (j + 1) c := by rw [scanS, h]
theorem sec_enters (k : Nat) (hk : k < 8) : ∀ args w, (callFunc (secF k) args).run Tryz.prog w = .ok (.enter (secF k) args) w := by
  match k, hk with
  | 0, _ => exact enters_of Tryz.func53 (by kernel_rfl) rfl
  | 1, _ => exact enters_of Tryz.func55 (by kernel_rfl) rfl
  | 2, _ => exact enters_of Tryz.func56 (by kernel_rfl) rfl
  | 3, _ => exact enters_of Tryz.func58 (by kernel_rfl) rfl
  | 4, _ => exact enters_of Tryz.func60 (by kernel_rfl) rfl
  | 5, _ => exact enters_of Tryz.func62 (by kernel_rfl) rfl
  | 6, _ => exact enters_of Tryz.func64 (by kernel_rfl) rfl
  | 7, _ => exact enters_of Tryz.func65 (by kernel_rfl) rfl
theorem sec_m (gm gn bm : Nat) (m : Md) (j k : Nat) (hj : j < 8) (W : World) (h : Sx gm gn bm m W) (hf : m.few) (hfi : Fine m) (hrg : Rg m) (hk : k < secL m j) :
    Calls Tryz.prog (secF j) (#[.int .i64 k] ++ secB gm gn j) W fun e w' => e = .returned (.tuple #[.int .i64 (secE m j k).1, .int .i64 (secE m j k).2]) ∧ Below W.heap.size W w' := by
  match j, hj, hk with
  | 0, _, hk => exact sec0_m gm gn bm m k W h hf hfi hrg hk
  | 1, _, hk => exact sec1_m gm gn bm m k W h hf hfi hrg hk
  | 2, _, hk => exact sec2_m gm gn bm m k W h hf hfi hrg hk
  | 3, _, hk => exact sec3_m gm gn bm m k W h hf hfi hrg hk
  | 4, _, hk => exact sec4_m gm gn bm m k W h hf hfi hrg hk
  | 5, _, hk => exact sec5_m gm gn bm m k W h hf hfi hrg hk
  | 6, _, hk => exact sec6_m gm gn bm m k W h hf hfi hrg hk
  | 7, _, hk => exact sec7_m gm gn bm m k W h hf hfi hrg hk
theorem secL_le {m : Md} (hf : m.few) (j : Nat) : secL m j ≤ 1000000 := by
  have h := hf.lens
  unfold secL
  split <;> (try split) <;> omega
/-- A box of four numbers. -/
def Bx4 (W : World) (g : Nat) (r : Wr) : Prop := W.heap[g]? = some (.cells r.v 56 (0, 0))
theorem Bx4.lt {W : World} {g : Nat} {r : Wr} (h : Bx4 W g r) : g < W.heap.size := (Array.getElem?_eq_some_iff.1 h).1
theorem Bx4.on {W W' : World} {g : Nat} {r : Wr} (h : Bx4 W g r) (hb : Below W.heap.size W W') : Bx4 W' g r := (hb.block g h.lt).trans h
theorem Bx4.c {W : World} {g : Nat} {r : Wr} (h : Bx4 W g r) : W.cell? ⟨g, 0, none⟩ = some (.int .i64 r.e) ∧ W.cell? ⟨g, 1, none⟩ = some (.int .i64 r.s) ∧ W.cell? ⟨g, 2, none⟩ = some (.int .i64 r.i) ∧ W.cell? ⟨g, 3, none⟩ = some (.int .i64 r.a) ∧
    W.frozen? ⟨g, 0, none⟩ = false ∧ W.frozen? ⟨g, 1, none⟩ = false ∧ W.frozen? ⟨g, 2, none⟩ = false ∧ W.frozen? ⟨g, 3, none⟩ = false :=
  ⟨cell_of_row W g 0 _ _ _ h, cell_of_row W g 1 _ _ _ h, cell_of_row W g 2 _ _ _ h, cell_of_row W g 3 _ _ _ h, frozen_of_row W g 0 _ _ h, frozen_of_row W g 1 _ _ h, frozen_of_row W g 2 _ _ h, frozen_of_row W g 3 _ _ h⟩
theorem Bx4.set {W : World} {g : Nat} {r : Wr} (h : Bx4 W g r) (x y z t : Int) : Bx4 ((((W.setCell ⟨g, 0, none⟩ (.int .i64 x)).setCell ⟨g, 1, none⟩ (.int .i64 y)).setCell ⟨g, 2, none⟩ (.int .i64 z)).setCell ⟨g, 3, none⟩ (.int .i64 t)) g ⟨x, y, z, t⟩ :=
  heap_setCell_same _ g 3 _ _ _ (heap_setCell_same _ g 2 _ _ _ (heap_setCell_same _ g 1 _ _ _ (heap_setCell_same W g 0 _ _ _ h)))
theorem results_w {fn : Func} {p : Tmp} (h : fn.results = #[.cell p 56]) (tmps : Array Value) (w : World) (g : Nat) {r : Wr} (hp : tmps.getD p undef = .pointer (some ⟨g, 0, none⟩)) (hb : Bx4 w g r) :
    (results fn tmps).run Tryz.prog w = .ok (.agg r.v) w := by
  have hp' : tmps[p]?.getD undef = .pointer (some ⟨g, 0, none⟩) := by simpa using hp
  simp [results, h, hp', asAddr, run_loadVar_row w g _ 56 _ _ _ hb Tryz.underlying56 rfl (by kernel_rfl)]
def CheckP (m : Md) (w : World) (e : Ending) (w' : World) : Prop := e = .returned (.agg (wrongP m).v) ∧ Below w.heap.size w w'
set_option maxRecDepth 100000 in
set_option maxHeartbeats 4000000 in
theorem Check_m (m : Md) (w : World) (hm : ModAt w.heap.size w m) (hf : m.few) (hrg : Rg m) (hT : Nams w) (hU : Utf.Tabs w) (hA : Num.Arit w) : Calls Tryz.prog 13 #[.agg m.v] w (CheckP m w) := by
  obtain ⟨W0, hW0⟩ : ∃ W0, W0 = (w.alloc (.cells m.v 37)).alloc (.cells #[.int .i64 0, .int .i64 0, .int .i64 0, .int .i64 0] 56) := ⟨_, rfl⟩
  have hb0 : Below w.heap.size w W0 := by rw [hW0]; exact thenA (thenA (Below.refl _ _) _) _
  have hbx : BoxAt W0 w.heap.size m.v := by rw [hW0]; exact (BoxAt.made w m.v _).keep (belowAlloc _ _)
  have hr : Bx4 W0 (w.heap.size + 1) ⟨0, 0, 0, 0⟩ := by rw [hW0]; have := heap_alloc_new (w.alloc (.cells m.v 37)) (.cells #[.int .i64 0, .int .i64 0, .int .i64 0, .int .i64 0] 56); rw [World.size_alloc] at this; exact this
  have HX := hid hbx
  have HB := hid hb0
  have HR := hid hr
  have HM := hid (hm.on hb0)
  have HF := hid hf
  have HRG := hid hrg
  have HT := hid (hT.below hb0)
  have HAR := hid (hA.below hb0)
  have C := hid (ModCheck_any m W0 (hT.below hb0) (hU.below hb0) (hm.on hb0) hf)
  have HFI := hid (fun h => fine_of (m := m) h)
  have HE : Hid (wrongP m = if m.check = 0 then (scanS m 0 8).getD ⟨0, 0, 0, 0⟩ else ⟨m.check, 0, 0, 0⟩) := rfl
  obtain ⟨ck, hck⟩ : ∃ c, m.check = c := ⟨_, rfl⟩
  rw [hck] at C HFI HE
  obtain ⟨v0, v1, v2, v3, v4, v5, v6, v7, v8, v9, v10, hv⟩ : ∃ v0 v1 v2 v3 v4 v5 v6 v7 v8 v9 v10, m.v = #[v0, v1, v2, v3, v4, v5, v6, v7, v8, v9, v10] := ⟨_, _, _, _, _, _, _, _, _, _, _, rfl⟩
  have CS := hid (fun w' hm' hT' hA' => sections_m m w' hm' hf hT' hA')
  rw [hv] at hW0 HX C CS ⊢
  obtain ⟨n0, n1, n2, n3, n4, n5, n6, n7, n8, n9, n10⟩ := BoxAt.mod HX.out
  clear hm hf hrg hT hU hA hb0 hbx hr hck hv
  go_enter Tryz.func13, Tryz.ntmps13
  go_upto_region 1 with fail
  rw [← hW0]
  clear hW0
  go_wp2_with fail
  refine C.out.mono ?_
  rintro e1 w1 ⟨rfl, hb1⟩
  have HX1 := hid (HX.out.keep hb1)
  have HB1 := hid (HB.out.trans (hb1.mono HB.out.size))
  have HR1 := hid (HR.out.on hb1)
  have HM1 := hid (HM.out.on hb1)
  have HT1 := hid (HT.out.below hb1)
  have HA1 := hid (HAR.out.below hb1)
  clear C hb1 n0 n1 n2 n3 n4 n5 n6 n7 n8 n9 n10 HX HB HR HM HT HAR
  by_cases hc : ck = 0
  · subst hc
    have HW := hid (show wrongP m = (scanS m 0 8).getD ⟨0, 0, 0, 0⟩ by rw [HE.out, if_pos rfl])
    have HFN := hid (HFI.out rfl)
    obtain ⟨n0, n1, n2, n3, n4, n5, n6, n7, n8, n9, n10⟩ := BoxAt.mod HX1.out
    have C2 := hid (CS.out w1 HM1.out HT1.out HA1.out)
    clear HE HFI CS
    go_wp2_with fail
    refine C2.out.mono ?_
    rintro e2 w2 ⟨gs, gm, gn, bm, rfl, hs2, hx2, hb2⟩
    have HB2 := hid (HB1.out.trans (hb2.mono HB1.out.size))
    have HR2 := hid (HR1.out.on hb2)
    have HS2 := hid hs2
    have HX2 := hid hx2
    clear C2 hs2 hx2 hb2 n0 n1 n2 n3 n4 n5 n6 n7 n8 n9 n10 HX1 HB1 HR1 HM1 HT1 HA1
    go_wp2
    go_loopw [18] (fun vi wr => ∃ j : Nat, vi = .int .i64 j ∧ j ≤ 8 ∧ Hid (scanS m 0 8 = scanS m j (8 - j)) ∧ Hid (SecsAt gs gm gn m wr) ∧ Hid (Sx gm gn bm m wr) ∧ Hid (Bx4 wr (w.heap.size + 1) ⟨0, 0, 0, 0⟩) ∧ Hid (Below w.heap.size w wr)) (fun vi _ => 8 - (intOf vi).toNat)
    case atStart => exact ⟨0, rfl, Nat.zero_le _, rfl, HS2, HX2, HR2, HB2⟩
    case round =>
      clear HB2 HR2 HS2 HX2
      obtain ⟨j, rfl, hj, HQ, HS, HX, HR, HB⟩ := hrel
      by_cases hlt : j < 8
      · have hji : (j : Int) < 8 := by omega
        obtain ⟨s0, s1, s2⟩ := HS.out j hlt
        have HLE := hid (secL_le HF.out j)
        have HL8 := hid hlt
        have eg := sec_enters j hlt
        have HCC := hid (fun k hk W hx => sec_m gm gn bm m j k hlt W hx HF.out HFN.out HRG.out hk)
        obtain ⟨L, hL⟩ : ∃ L, secL m j = L := ⟨_, rfl⟩
        obtain ⟨N, hN⟩ : ∃ N, secN j = N := ⟨_, rfl⟩
        obtain ⟨G, hG⟩ : ∃ G, secF j = G := ⟨_, rfl⟩
        obtain ⟨cb, hcb⟩ : ∃ L, secB gm gn j = L := ⟨_, rfl⟩
        rw [hL] at s1 HLE HCC
        rw [hN] at s0
        rw [hG] at s2 eg HCC
        rw [hcb] at s2 HCC
        have HLL := hid hL
        have HNN := hid hN
        clear hL hN hG hcb hlt
        go_upto_region 7 with fail
        have hA : Below wr.heap.size wr (wr.alloc (.cells #[.int .i64 N, .int .i64 L, .func (.func G) #[] cb] 72)) := (Below.refl _ _).alloc (Nat.le_refl _) _
        have b0 : (wr.alloc (.cells #[.int .i64 N, .int .i64 L, .func (.func G) #[] cb] 72)).cell? ⟨wr.heap.size, 0, none⟩ = some (.int .i64 N) := by simp [go_sem]
        have b1 : (wr.alloc (.cells #[.int .i64 N, .int .i64 L, .func (.func G) #[] cb] 72)).cell? ⟨wr.heap.size, 1, none⟩ = some (.int .i64 L) := by simp [go_sem]
        have b2 : (wr.alloc (.cells #[.int .i64 N, .int .i64 L, .func (.func G) #[] cb] 72)).cell? ⟨wr.heap.size, 2, none⟩ = some (.func (.func G) #[] cb) := by simp [go_sem]
        obtain ⟨u1, hu1⟩ : ∃ u, u = wr.alloc (.cells #[.int .i64 N, .int .i64 L, .func (.func G) #[] cb] 72) := ⟨_, rfl⟩
        rw [← hu1] at hA b0 b1 b2 ⊢
        obtain ⟨gx, hgx⟩ : ∃ gx, gx = wr.heap.size := ⟨_, rfl⟩
        rw [← hgx] at b0 b1 b2 ⊢
        replace HS := hid (HS.out.on hA)
        replace HX := hid (HX.out.on hA)
        replace HR := hid (HR.out.on hA)
        replace HB := hid (HB.out.trans (hA.mono HB.out.size))
        have K0 := hid b0
        have K2 := hid b2
        clear hu1 hgx hA b0 b2 s0 s1 s2
        go_wp2
        clear b1
        go_loopw [24] (fun vi wr' => ∃ k : Nat, vi = .int .i64 k ∧ k ≤ L ∧ Hid (scanI m j 0 L = scanI m j k (L - k)) ∧ Hid (SecsAt gs gm gn m wr') ∧ Hid (Sx gm gn bm m wr') ∧ Hid (Bx4 wr' (w.heap.size + 1) ⟨0, 0, 0, 0⟩) ∧ Hid (Below w.heap.size w wr') ∧ Hid (wr'.cell? ⟨gx, 0, none⟩ = some (.int .i64 N)) ∧ Hid (wr'.cell? ⟨gx, 2, none⟩ = some (.func (.func G) #[] cb))) (fun vi _ => L - (intOf vi).toNat)
        case atStart => exact ⟨0, rfl, Nat.zero_le _, rfl, HS, HX, HR, HB, K0, K2⟩
        case round =>
          clear HS HX HR HB K0 K2
          obtain ⟨k, rfl, hk, HI, HS, HX, HR, HB, K0, K2⟩ := hrel
          by_cases hlk : k < L
          · have hki : (k : Int) < (L : Int) := by omega
            have hLb : L ≤ 1000000 := HLE.out
            have C3 := hid (HCC.out k hlk wr HX.out)
            obtain ⟨q, hq⟩ : ∃ q, secE m j k = q := ⟨_, rfl⟩
            rw [hq] at C3
            have HSQ := hid hq
            obtain ⟨q1, q2⟩ := q
            simp only at C3
            have b0 := K0.out
            have b2 := K2.out
            have HLK := hid hlk
            clear hq hlk
            by_cases hz : q1 = 0
            · subst hz
              go_wp2_with (go_at_fn G; refine C3.out.mono ?_; rintro e3 u3 ⟨rfl, hb3⟩; clear b0 b2)
              have HB3 := hid (HB.out.trans (hb3.mono HB.out.size))
              have HS3 := hid (HS.out.on hb3)
              have HX3 := hid (HX.out.on hb3)
              have HR3 := hid (HR.out.on hb3)
              have K03 := hid (Go.Proofs.YtgecmcenhjcecaaGreatDoor.keep hb3 K0.out)
              have K23 := hid (Go.Proofs.YtgecmcenhjcecaaGreatDoor.keep hb3 K2.out)
              go_roundw
              case rel =>
                refine ⟨k + 1, by go_num, by have := HLK.out; omega, hid ?_, HS3, HX3, HR3, HB3, K03, K23⟩
                rw [HI.out]
                have : L - k = (L - (k + 1)) + 1 := by have := HLK.out; omega
                rw [this, scanI, HSQ.out, if_pos rfl]
              case measure => simp [intOf]; have := HLK.out; omega
            · have hzb : (q1 == 0) = false := by simpa using hz
              have HV := hid (show wrongP m = ⟨q1, N, k, q2⟩ by
                have h1 : scanI m j 0 (secL m j) = some ⟨q1, N, k, q2⟩ := by
                  rw [HLL.out, HI.out]
                  have : L - k = (L - (k + 1)) + 1 := by have := HLK.out; omega
                  rw [this, scanI, HSQ.out, if_neg hz, HNN.out]
                have h2 : 8 - j = (8 - (j + 1)) + 1 := by have := HL8.out; omega
                rw [HW.out, HQ.out, h2, scanS_hit h1]; rfl)
              go_wp2_with (go_at_fn G; refine C3.out.mono ?_; rintro e3 u3 ⟨rfl, hb3⟩; have b03 := Go.Proofs.YtgecmcenhjcecaaGreatDoor.keep hb3 K0.out; obtain ⟨c0, c1, c2, c3, f0, f1, f2, f3⟩ := (HR.out.on hb3).c)
              have HB3 := hid (HB.out.trans (hb3.mono HB.out.size))
              have HR3 := hid (HR.out.on hb3)
              exact bodyPost_ret (results_w Tryz.results13 _ _ (w.heap.size + 1) rfl (HR3.out.set q1 N k q2)) rfl ⟨by rw [HV.out], (((HB3.out.setCell (by simp) _).setCell (by simp) _).setCell (by simp) _).setCell (by simp) _⟩
          · obtain rfl : L = k := by omega
            have hn : scanI m j 0 (secL m j) = none := by
              rw [HLL.out, HI.out, Nat.sub_self]; rfl
            have h2 : 8 - j = (8 - (j + 1)) + 1 := by have := HL8.out; omega
            have HQ2 := hid (show scanS m 0 8 = scanS m (j + 1) (8 - (j + 1)) by rw [HQ.out, h2, scanS_miss hn])
            clear hn h2
            go_wp2
            go_roundw
            case rel => exact ⟨j + 1, by go_num, by have := HL8.out; omega, HQ2, HS, HX, HR, HB⟩
            case measure => simp [intOf]; have := HL8.out; omega
      · obtain rfl : j = 8 := by omega
        have HV := hid (show wrongP m = ⟨0, 0, 0, 0⟩ by rw [HW.out, HQ.out]; rfl)
        obtain ⟨c0, c1, c2, c3, f0, f1, f2, f3⟩ := HR.out.c
        go_wp2
        exact bodyPost_ret (results_w Tryz.results13 _ _ (w.heap.size + 1) rfl (HR.out.set 0 0 0 0)) rfl ⟨by rw [HV.out], (((HB.out.setCell (by simp) _).setCell (by simp) _).setCell (by simp) _).setCell (by simp) _⟩
  · have HV := hid (show wrongP m = ⟨ck, 0, 0, 0⟩ by rw [HE.out, if_neg hc])
    have hcb : (ck == 0) = false := by simpa using hc
    obtain ⟨c0, c1, c2, c3, f0, f1, f2, f3⟩ := HR1.out.c
    clear HE HFI CS
    go_wp2
    exact bodyPost_ret (results_w Tryz.results13 _ _ (w.heap.size + 1) rfl (HR1.out.set ck 0 0 0)) rfl ⟨by rw [HV.out], (((HB1.out.setCell (by simp) _).setCell (by simp) _).setCell (by simp) _).setCell (by simp) _⟩
def BodyQ (m : Md) (n : Int) (w : World) (e : Ending) (w' : World) : Prop := e = .returned (.tuple #[.int .i64 (Md.body m n).1, .int .i64 (Md.body m n).2]) ∧ Below w.heap.size w w'
set_option maxRecDepth 100000 in
set_option maxHeartbeats 2000000 in
theorem Body_m (m : Md) (n : Int) (w : World) (hm : ModAt w.heap.size w m) (hf : m.few) (hT : Nams w) (hU : Utf.Tabs w) (hA : Num.Arit w) : Calls Tryz.prog 7 #[.agg m.v, .int .i64 n] w (BodyQ m n w) := by
  obtain ⟨W0, hW0⟩ : ∃ W0, W0 = w.alloc (.cells m.v 37) := ⟨_, rfl⟩
  have hb0 : Below w.heap.size w W0 := by rw [hW0]; exact thenA (Below.refl _ _) _
  have hbx : BoxAt W0 w.heap.size m.v := by rw [hW0]; exact BoxAt.made w m.v _
  have HX := hid hbx
  have HB := hid hb0
  have HM := hid (hm.on hb0)
  have HF := hid hf
  have HAR := hid (hA.below hb0)
  have C := hid (ModCheck_any m W0 (hT.below hb0) (hU.below hb0) (hm.on hb0) hf)
  have HFI := hid (fun h => fine_of (m := m) h)
  have HE : Hid (Md.body m n = if m.check ≠ 0 then (m.check, 0) else if n < 0 ∨ (m.fu.length : Int) ≤ n then (6, 0) else Md.bodyP m n.toNat) := rfl
  have CB := hid (fun k w' hm' hA' hfi hk => bodyError_m m k w' hm' hA' hf hfi hk)
  obtain ⟨ck, hck⟩ : ∃ c, m.check = c := ⟨_, rfl⟩
  rw [hck] at C HFI HE
  obtain ⟨v0, v1, v3, v4, v5, v6, v7, v8, v9, v10, hv⟩ : ∃ v0 v1 v3 v4 v5 v6 v7 v8 v9 v10, m.v = #[v0, v1, .slice m.fu'.a m.fu.length m.fu'.c, v3, v4, v5, v6, v7, v8, v9, v10] := ⟨_, _, _, _, _, _, _, _, _, _, rfl⟩
  have bfu := hf.fit.fu
  rw [hv] at hW0 HX C CB ⊢
  obtain ⟨n0, n1, n2, n3, n4, n5, n6, n7, n8, n9, n10⟩ := BoxAt.mod HX.out
  clear hm hf hT hU hA hb0 hbx hck hv
  go_enter Tryz.func7, Tryz.ntmps7
  go_upto_region 1 with fail
  rw [← hW0]
  clear hW0
  go_wp2_with fail
  refine C.out.mono ?_
  rintro e1 w1 ⟨rfl, hb1⟩
  have HX1 := hid (HX.out.keep hb1)
  have HB1 := hid (HB.out.trans (hb1.mono HB.out.size))
  have HM1 := hid (HM.out.on hb1)
  have HA1 := hid (HAR.out.below hb1)
  clear C hb1 n0 n1 n2 n3 n4 n5 n6 n7 n8 n9 n10 HX HB HM HAR
  by_cases hc : ck = 0
  · subst hc
    have HFN := hid (HFI.out rfl)
    obtain ⟨n0, n1, n2, n3, n4, n5, n6, n7, n8, n9, n10⟩ := BoxAt.mod HX1.out
    by_cases h1 : n < 0
    · have HV := hid (show Md.body m n = (6, 0) by rw [HE.out, if_neg (by simp), if_pos (.inl h1)])
      clear HE HFI CB
      go_wp2
      go_ret2
      exact ⟨by rw [HV.out]; rfl, HB1.out⟩
    by_cases h2 : (m.fu.length : Int) ≤ n
    · have HV := hid (show Md.body m n = (6, 0) by rw [HE.out, if_neg (by simp), if_pos (.inr h2)])
      clear HE HFI CB
      go_wp2
      go_ret2
      exact ⟨by rw [HV.out]; rfl, HB1.out⟩
    · obtain ⟨k, rfl⟩ : ∃ k : Nat, n = k := ⟨n.toNat, by omega⟩
      have HV := hid (show Md.body m k = Md.bodyP m k by rw [HE.out, if_neg (by simp), if_neg (by omega)]; simp)
      have C2 := hid (CB.out k w1 HM1.out HA1.out HFN.out (by omega))
      unfold BodyP at C2
      obtain ⟨q, hq⟩ : ∃ q, Md.bodyP m k = q := ⟨_, rfl⟩
      rw [hq] at C2 HV
      clear HE HFI CB hq
      go_wp2_with fail
      refine C2.out.mono ?_
      rintro e2 w2 ⟨rfl, hb2⟩
      have HB2 := hid (HB1.out.trans (hb2.mono HB1.out.size))
      clear C2 hb2 n0 n1 n2 n3 n4 n5 n6 n7 n8 n9 n10
      go_wp2
      go_ret2
      exact ⟨by rw [HV.out]; rfl, HB2.out⟩
  · have HV := hid (show Md.body m n = (ck, 0) by rw [HE.out, if_pos hc])
    have hcb : (ck == 0) = false := by simpa using hc
    clear HE HFI CB
    go_wp2
    go_ret2
    exact ⟨by rw [HV.out]; rfl, HB1.out⟩
end Go.Proofs.YtgecmcenhjcecaaGreatDoor.Val

namespace Go.Proofs.YtgecmcenhjcecaaGreatDoor.Val
open Go.RowKit Go.Proofs.YtgecmcenhjcecaaGreatDoor.Instr Go.Proofs.YtgecmcenhjcecaaGreatDoor.Mod
set_option linter.unusedVariables false

/-- An error stays. -/
theorem failS_er {e : Int} {s : St} (h : s.er ≠ 0) : failS e s = s := if_neg h
theorem pushS_er {e : Int} {s : St} (h : s.er ≠ 0) : pushS e s = s := if_neg h
theorem popS_er {e : Int} {s : St} (h : s.er ≠ 0) : popS e s = s := if_neg h
theorem deadS_er {s : St} (h : s.er ≠ 0) : deadS s = s := if_neg h
theorem enterS_er {o e : Int} {s : St} (h : s.er ≠ 0) : enterS o e s = s := if_neg h
theorem leaveS_er {e : Int} {s : St} (h : s.er ≠ 0) : leaveS e s = s := if_neg h
theorem labelS_er {n : Int} {s : St} (h : s.er ≠ 0) : labelS n s = (0, s) := if_neg h
theorem tagsS_er (k : Int) : ∀ (l : List Int) (b : Bool) (s : St), s.er ≠ 0 → (tagsS k l b s).2 = s
  | [], b, s, h => rfl
  | t :: r, b, s, h => by rw [tagsS, labelS_er h]; exact tagsS_er k r _ s h
theorem tableS_er {l : List Int} {n : Int} {s : St} (h : s.er ≠ 0) : tableS l n s = s := by
  unfold tableS
  rw [labelS_er h]
  simp only [tagsS_er _ _ _ _ h, failS_er h, ite_self]
theorem brS_er {n : Int} {s : St} (h : s.er ≠ 0) : brS n s = s := by unfold brS; rw [labelS_er h]; simp only [popS_er h, deadS_er h]
theorem brIfS_er {n : Int} {s : St} (h : s.er ≠ 0) : brIfS n s = s := by unfold brIfS; rw [labelS_er h]; simp only [popS_er h, pushS_er h]
theorem callS_er {t : Int × Int} {s : St} (h : s.er ≠ 0) : callS t s = s := by unfold callS; rw [popS_er h, pushS_er h]
theorem listS_er {m : Md} {lo re : Int} {t : Il} {s : St} (h : s.er ≠ 0) : listS m lo re t s = s := by unfold listS; rw [runS_er _ _ _ _ _ h, leaveS_er h]
theorem opS_er {m : Md} {re : Int} {x : Ix} {L E : St → St} {s : St} (hL : ∀ s, s.er ≠ 0 → L s = s) (hE : ∀ s, s.er ≠ 0 → E s = s) (h : s.er ≠ 0) : opS m re x L E s = s := by
  have hb : s.back s = s := rfl
  unfold opS
  split; · exact deadS_er h
  split; · rw [enterS_er h]; exact hL s h
  split; · unfold eitherS; rw [popS_er h, enterS_er h, hL s h, hb, enterS_er h]; exact hE s h
  split; · rw [tableS_er h, popS_er h]; exact brS_er h
  split; · exact brS_er h
  split; · exact brIfS_er h
  split; · rw [popS_er h]; exact deadS_er h
  split; · rw [popS_er h]; exact callS_er h
  split; · exact callS_er h
  rw [popS_er h]; exact pushS_er h

end Go.Proofs.YtgecmcenhjcecaaGreatDoor.Val

namespace Go.Proofs.YtgecmcenhjcecaaGreatDoor.Val
open Go.RowKit Go.Proofs.YtgecmcenhjcecaaGreatDoor.Instr Go.Proofs.YtgecmcenhjcecaaGreatDoor.Mod
open Go.Proofs.YtgecmcenhjcecaaGreatDoor.Stk (Fr R pushR popR deadR enterR leaveR labelR newR valid lastF)
set_option linter.unusedVariables false

theorem leaves_rng (op : Int) : 0 ≤ leavesP op ∧ leavesP op ≤ 1 := by
  unfold leavesP; split
  · simp
  · exact leavesO_range op
/-- A function's own frame, dead. -/
def F1 : List Fr := [⟨0, 0, 0, true⟩]
theorem valid1 {h : Int} (h0 : 0 ≤ h) (h1 : h ≤ 1000) : valid h F1 = true := by
  simp [valid, F1, Stk.badAll, Stk.badFirst, Stk.badL, Stk.wrongRe]; omega
/-- Nothing wrong yet, in that frame, of at most so many words. -/
structure Dd (b : Int) (s : St) : Prop where
  er : s.er = 0
  l : s.l = F1
  h0 : 0 ≤ s.h
  h1 : s.h ≤ b
theorem Dd.mono {b c : Int} {s : St} (h : Dd b s) (hbc : b ≤ c) : Dd c s := ⟨h.er, h.l, h.h0, by have := h.h1; omega⟩
theorem pop_d {b n : Int} {s : St} (hs : Dd b s) (hb : b ≤ 100) (hn : 0 ≤ n) : Dd b (popS n s) ∧ (popS n s).at_ = s.at_ := by
  have h0 := hs.h0
  have h1 := hs.h1
  have hv := valid1 h0 (by omega)
  have e : popR s.h s.l n = ⟨if 0 ≤ s.h - n then s.h - n else 0, F1, 0⟩ := by
    rw [hs.l]
    unfold popR
    rw [hv]
    simp only [Bool.true_eq_false, if_false]
    rw [if_neg (by omega)]
    simp [F1, lastF, Stk.without]
  unfold popS
  rw [if_pos hs.er, e]
  refine ⟨⟨rfl, rfl, ?_, ?_⟩, rfl⟩
  · show 0 ≤ (if 0 ≤ s.h - n then s.h - n else 0); split <;> omega
  · show (if 0 ≤ s.h - n then s.h - n else 0) ≤ b; split <;> omega
theorem push_d {b n : Int} {s : St} (hs : Dd b s) (hb : b ≤ 100) (hn : 0 ≤ n) (hn1 : n ≤ 1) : Dd (b + 1) (pushS n s) ∧ (pushS n s).at_ = s.at_ := by
  have h0 := hs.h0
  have h1 := hs.h1
  have hv := valid1 h0 (by omega)
  have e : pushR s.h s.l n = ⟨s.h + n, F1, 0⟩ := by
    rw [hs.l]
    unfold pushR
    rw [hv]
    simp only [Bool.true_eq_false, if_false]
    rw [if_neg (by omega), if_neg (by omega)]
  unfold pushS
  rw [if_pos hs.er, e]
  exact ⟨⟨rfl, rfl, by show 0 ≤ s.h + n; omega, by show s.h + n ≤ b + 1; omega⟩, rfl⟩
theorem dead_d {b : Int} {s : St} (hs : Dd b s) (hb : b ≤ 100) : Dd 0 (deadS s) ∧ (deadS s).at_ = s.at_ := by
  have h0 := hs.h0
  have h1 := hs.h1
  have hv := valid1 h0 (by omega)
  have e : deadR s.h s.l = ⟨0, F1, 0⟩ := by
    rw [hs.l]
    unfold deadR
    rw [hv]
    rfl
  unfold deadS
  rw [if_pos hs.er, e]
  exact ⟨⟨rfl, rfl, Int.le_refl _, Int.le_refl _⟩, rfl⟩
theorem label_d {b n : Int} {s : St} (hs : Dd b s) (hb : b ≤ 100) (hn : 0 ≤ n) : (labelS n s).1 = 0 ∧ (Dd b (labelS n s).2 ∨ (labelS n s).2.er = 6) ∧ (labelS n s).2.at_ = s.at_ := by
  have h0 := hs.h0
  have h1 := hs.h1
  have hv := valid1 h0 (by omega)
  have e : labelR s.h s.l n = (0, 0) ∨ labelR s.h s.l n = (0, 6) := by
    rw [hs.l]
    unfold labelR
    rw [hv]
    simp only [Bool.true_eq_false, if_false]
    by_cases hz : n = 0
    · subst hz
      left; rfl
    · right
      rw [if_pos (.inr (by show ((1 : Nat) : Int) ≤ n; omega))]
  unfold labelS
  rw [if_pos hs.er]
  rcases e with e | e <;> rw [e] <;> unfold failS <;> rw [if_pos hs.er]
  · exact ⟨rfl, .inl ⟨rfl, hs.l, hs.h0, hs.h1⟩, rfl⟩
  · exact ⟨rfl, .inr rfl, rfl⟩
theorem block_d {b op re : Int} {m : Md} {lo r0 : Int} {s : St} (hs : Dd b s) (hb : b ≤ 100) (ho : Stk.opens op = true) (hr : re = 0 ∨ re = 1) :
    (listS m lo r0 .nil (enterS op re s)).at_ = s.at_ ∧ (re = 0 → Dd b (listS m lo r0 .nil (enterS op re s))) ∧ (re = 1 → (listS m lo r0 .nil (enterS op re s)).er = 200) := by
  have h0 := hs.h0
  have h1 := hs.h1
  have hv := valid1 h0 (by omega)
  have hw : Stk.wrongRe re = false := by unfold Stk.wrongRe; rcases hr with rfl | rfl <;> rfl
  have e : enterR s.h s.l op re = ⟨s.h, F1 ++ [⟨op, s.h, re, false⟩], 0⟩ := by
    rw [hs.l]
    unfold enterR
    rw [hv, ho, hw]
    rfl
  have hv2 : valid s.h (F1 ++ [⟨op, s.h, re, false⟩]) = true := by
    simp [valid, F1, Stk.badAll, Stk.badFirst, Stk.badL, Stk.badF, ho, hw, h0]
    simp [Stk.wrongRe]
    omega
  have e2 : enterS op re s = ⟨s.h, F1 ++ [⟨op, s.h, re, false⟩], s.cnt, s.at_, 0⟩ := by
    unfold enterS
    rw [if_pos hs.er, e]; rfl
  have e3 : listS m lo r0 .nil (enterS op re s) = leaveS s.at_ ⟨s.h, F1 ++ [⟨op, s.h, re, false⟩], s.cnt, s.at_, 0⟩ := by
    unfold listS; rw [e2]; rfl
  have hla : lastF (F1 ++ [⟨op, s.h, re, false⟩]) = ⟨op, s.h, re, false⟩ := rfl
  rw [e3]
  unfold leaveS
  rw [if_pos rfl]
  dsimp only
  unfold leaveR
  rw [hv2, hla]
  rcases hr with rfl | rfl
  · have hq : Stk.without s.h 0 ⟨op, s.h, 0, false⟩ = (s.h, 0) := by simp [Stk.without]
    simp only [Bool.true_eq_false, if_false, hq]
    rw [if_neg (by omega), if_neg (by omega)]
    exact ⟨rfl, fun _ => ⟨rfl, rfl, by show 0 ≤ s.h + 0; omega, by show s.h + 0 ≤ b; omega⟩, fun h => by omega⟩
  · have hq : Stk.without s.h 1 ⟨op, s.h, 1, false⟩ = (0, 200) := by simp [Stk.without]
    simp only [Bool.true_eq_false, if_false, hq]
    rw [if_pos (by omega)]
    exact ⟨rfl, fun h => by omega, fun _ => rfl⟩
/-- What may come of an instruction there. -/
def Good (op : Int) (s : St) : Prop := Dd 50 s ∨ (s.er ≠ 0 ∧ s.at_ = 2 ∧ (s.er = 6 ∨ s.er = 212 ∨ s.er = 211 ∨ (s.er = 200 ∧ (op = 2 ∨ op = 3 ∨ op = 4))))
theorem lacks_vals (m : Md) (lo : Int) (x : Ix) : lacksP m lo x = 0 ∨ lacksP m lo x = 6 ∨ lacksP m lo x = 212 ∨ lacksP m lo x = 211 := by
  unfold lacksP
  (repeat' split) <;> simp
theorem bad6 {op : Int} {s : St} (h : s.er = 6) (ha : s.at_ = 2) : Good op s := .inr ⟨by omega, ha, .inl h⟩
theorem br_d {op b n : Int} {s : St} (hs : Dd b s ∨ s.er = 6) (ha : s.at_ = 2) (hb : b ≤ 50) (hn : 0 ≤ n) : Good op (brS n s) := by
  rcases hs with hs | hs
  · obtain ⟨l1, l2, l3⟩ := label_d hs (by omega) hn
    unfold brS
    rw [l1]
    rcases l2 with l2 | l2
    · obtain ⟨p1, p2⟩ := pop_d l2 (by omega) (Int.le_refl 0)
      exact .inl ((dead_d p1 (by omega)).1.mono (by omega))
    · have hz : (labelS n s).2.er ≠ 0 := by omega
      rw [popS_er hz, deadS_er hz]
      exact bad6 l2 (l3.trans ha)
  · rw [brS_er (by omega)]; exact bad6 hs ha
theorem op_good {m : Md} {x : Ix} {s : St} {b : Int} (hs : Dd b s) (hb : b ≤ 40) (ha : s.at_ = 2) (hr : x.res = 0 ∨ x.res = 1) (ht : x.tags = []) (hx : 0 ≤ x.a) (hc : 0 ≤ (calleeP m x).1.1 ∧ 0 ≤ (calleeP m x).1.2 ∧ (calleeP m x).1.2 ≤ 1) (hk : 0 ≤ takesP x.op) :
    Good x.op (opS m 0 x (listS m 3 0 .nil) (listS m 3 0 .nil) s) := by
  unfold opS
  split
  · exact .inl ((dead_d hs (by omega)).1.mono (by omega))
  split
  · rename_i h2
    obtain ⟨b1, b2, b3⟩ := block_d (m := m) (lo := 3) (r0 := 0) (op := x.op) hs (by omega) (by rcases h2 with h | h <;> rw [h] <;> rfl) hr
    rcases hr with h | h
    · exact .inl ((b2 h).mono (by omega))
    · exact .inr ⟨by rw [b3 h]; omega, b1.trans ha, .inr (.inr (.inr ⟨b3 h, by omega⟩))⟩
  split
  · rename_i h2
    unfold eitherS
    obtain ⟨p1, p2⟩ := pop_d hs (by omega) (show (0 : Int) ≤ 1 by omega)
    obtain ⟨b1, b2, b3⟩ := block_d (m := m) (lo := 3) (r0 := 0) (op := 4) p1 (by omega) rfl hr
    rcases hr with h | h
    · have d1 := b2 h
      have d2 : Dd b ((listS m 3 0 .nil (enterS 4 x.res (popS 1 s))).back (popS 1 s)) := ⟨d1.er, p1.l, p1.h0, p1.h1⟩
      obtain ⟨c1, c2, c3⟩ := block_d (m := m) (lo := 3) (r0 := 0) (op := 5) d2 (by omega) rfl (.inl h)
      exact .inl ((c2 h).mono (by omega))
    · have e := b3 h
      have hz : ((listS m 3 0 .nil (enterS 4 x.res (popS 1 s))).back (popS 1 s)).er ≠ 0 := by show (listS m 3 0 .nil (enterS 4 x.res (popS 1 s))).er ≠ 0; omega
      rw [enterS_er hz, listS_er hz]
      exact .inr ⟨hz, b1.trans (p2.trans ha), .inr (.inr (.inr ⟨e, by omega⟩))⟩
  split
  · obtain ⟨l1, l2, l3⟩ := label_d hs (by omega) hx
    have et : tableS x.tags x.a s = (labelS x.a s).2 := by
      unfold tableS
      rw [ht]
      simp only [tagsS, if_true]
    rw [et]
    rcases l2 with l2 | l2
    · obtain ⟨p1, p2⟩ := pop_d l2 (by omega) (show (0 : Int) ≤ 1 by omega)
      exact br_d (.inl p1) (p2.trans (l3.trans ha)) (by omega) hx
    · rw [popS_er (by omega)]
      exact br_d (b := b) (.inr l2) (l3.trans ha) (by omega) hx
  split
  · exact br_d (.inl hs) ha (by omega) hx
  split
  · unfold brIfS
    obtain ⟨l1, l2, l3⟩ := label_d hs (by omega) hx
    rw [l1]
    rcases l2 with l2 | l2
    · obtain ⟨p1, p2⟩ := pop_d l2 (by omega) (show (0 : Int) ≤ 1 by omega)
      obtain ⟨q1, q2⟩ := pop_d p1 (by omega) (Int.le_refl 0)
      exact .inl ((push_d q1 (by omega) (Int.le_refl 0) (by omega)).1.mono (by omega))
    · have hz : (labelS x.a s).2.er ≠ 0 := by omega
      rw [popS_er hz, popS_er hz, pushS_er hz]
      exact bad6 l2 (l3.trans ha)
  split
  · obtain ⟨p1, p2⟩ := pop_d hs (by omega) (Int.le_refl 0)
    exact .inl ((dead_d p1 (by omega)).1.mono (by omega))
  split
  · unfold callS
    obtain ⟨p1, p2⟩ := pop_d hs (by omega) (show (0 : Int) ≤ 1 by omega)
    obtain ⟨q1, q2⟩ := pop_d p1 (by omega) hc.1
    exact .inl ((push_d q1 (by omega) hc.2.1 hc.2.2).1.mono (by omega))
  split
  · unfold callS
    obtain ⟨q1, q2⟩ := pop_d hs (by omega) hc.1
    exact .inl ((push_d q1 (by omega) hc.2.1 hc.2.2).1.mono (by omega))
  · obtain ⟨p1, p2⟩ := pop_d hs (by omega) hk
    have := leaves_rng x.op
    exact .inl ((push_d p1 (by omega) this.1 this.2).1.mono (by omega))
theorem ins_good {m : Md} {x : Ix} {s : St} {b : Int} (hs : Dd b s) (hb : b ≤ 40) (ha : s.at_ = 2) (hr : x.res = 0 ∨ x.res = 1) (ht : x.tags = []) (hx : 0 ≤ x.a) (hc : 0 ≤ (calleeP m x).1.1 ∧ 0 ≤ (calleeP m x).1.2 ∧ (calleeP m x).1.2 ≤ 1) (hk : 0 ≤ takesP x.op) :
    Good x.op (insS m 3 0 x (listS m 3 0 .nil) (listS m 3 0 .nil) s) := by
  unfold insS
  by_cases hl : lacksP m 3 x = 0
  · have e : failS (lacksP m 3 x) s = s := by
      rw [hl]; unfold failS; rw [if_pos hs.er]
      have := hs.er
      cases s; simp_all
    rw [e]; exact op_good hs hb ha hr ht hx hc hk
  · have e : (failS (lacksP m 3 x) s).er = lacksP m 3 x := by unfold failS; rw [if_pos hs.er]
    have e2 : (failS (lacksP m 3 x) s).at_ = 2 := by unfold failS; rw [if_pos hs.er]; exact ha
    have hz : (failS (lacksP m 3 x) s).er ≠ 0 := by rw [e]; exact hl
    rw [opS_er (fun s h => listS_er h) (fun s h => listS_er h) hz]
    refine .inr ⟨hz, e2, ?_⟩
    rw [e]
    rcases lacks_vals m 3 x with h | h | h | h
    · exact absurd h hl
    · exact .inl h
    · exact .inr (.inl h)
    · exact .inr (.inr (.inl h))
end Go.Proofs.YtgecmcenhjcecaaGreatDoor.Val

namespace Go.Proofs.YtgecmcenhjcecaaGreatDoor.Val
open Go.RowKit Go.Shelf Go.Proofs.YtgecmcenhjcecaaGreatDoor.Instr Go.Proofs.YtgecmcenhjcecaaGreatDoor.Mod
set_option linter.unusedVariables false

theorem eqWrong (a b c d x y z t : Int) (w : World) : (Op.equalIn 10000 56 (.agg #[.int .i64 a, .int .i64 b, .int .i64 c, .int .i64 d]) (.agg #[.int .i64 x, .int .i64 y, .int .i64 z, .int .i64 t])).run Tryz.prog w = .ok (a == x && b == y && c == z && d == t) w := by
  have u3 := Tryz.underlying3
  have a3 := Tryz.isAgg3
  have z3 := Tryz.sizeOf3
  have u4 := Tryz.underlying45
  have a4 := Tryz.isAgg45
  have z4 := Tryz.sizeOf45
  have hS : Tryz.prog.underlying 56 = some (.struct (Tryz.prog.fieldsOf 56)) := by kernel_rfl
  have hp : Tryz.prog.stoodInHeld 56 = false := by kernel_rfl
  rw [show (10000 : Nat) = 9999 + 1 from rfl, run_equalIn_agg w 9999 56 _ _ hS hp]
  simp only [Program.fieldsOf, Tryz.underlying56]
  go_simp
  by_cases h1 : a = x <;> by_cases h2 : b = y <;> by_cases h3 : c = z <;> by_cases h4 : d = t <;> simp [h1, h2, h3, h4]
theorem guardWrong (op : BinOp) (x y : Operand) (xs ys : Array Value) (w : World) : (eqGuard op 56 x y (.agg xs) (.agg ys)).run Tryz.prog w = .ok () w :=
  run_eqGuard_agg w op _ x y xs ys (by kernel_rfl)
/-- Rows in a block of their own. -/
theorem rows_box {W : World} {b sz : Nat} {rs : List (List Value)} (hb : b < W.heap.size) (hl : ∀ r ∈ rs, r.length = sz) (h : BoxAt W b (rs.flatten.toArray)) : Mod.Rows W.heap.size W (some ⟨b, 0, none⟩) sz rs :=
  .inr ⟨b, 0, rfl, hb, fun i hi j hj v hv => by
    have hf := Stk.flat_get rs hl i j hi hj
    rw [hv] at hf
    have := h (i * sz + j) v (by simpa using hf)
    simpa using this⟩
/-- Instructions, one behind the other, each with its lists. -/
def mkIl : List (Ix × Il × Il) → Il
  | [] => .nil
  | x :: r => .cons x.1 x.2.1 x.2.2 (mkIl r)
theorem mkIl_len : ∀ l : List (Ix × Il × Il), (mkIl l).len = l.length
  | [] => rfl
  | x :: r => by simp [mkIl, Il.len, mkIl_len r]
/-- What is asked of an instruction in a literal. -/
structure LitOk (n₀ : Nat) (W : World) (x : Ix × Il × Il) : Prop where
  ok : x.1.ok
  tags : TagsAt n₀ W x.1.ta x.1.tags
  l : x.2.1.len = x.1.ln ∧ (x.2.1 = .nil ∨ ∃ b' o', x.1.la = some ⟨b', o', none⟩ ∧ Items n₀ W b' o' x.2.1)
  e : x.2.2.len = x.1.en ∧ (x.2.2 = .nil ∨ ∃ b' o', x.1.ea = some ⟨b', o', none⟩ ∧ Items n₀ W b' o' x.2.2)
theorem items_of {n₀ : Nat} {W : World} {g : Nat} (hg : g < n₀) : ∀ (l : List (Ix × Il × Il)) (off : Nat), (∀ i (hi : i < l.length), ∀ j v, (l[i].1.vals)[j]? = some v → W.cell? ⟨g, off + i * 8 + j, none⟩ = some v) → (∀ x ∈ l, LitOk n₀ W x) → Items n₀ W g off (mkIl l)
  | [], _, _, _ => trivial
  | x :: r, off, h, hx => by
    have c : ∀ j v, (x.1.vals)[j]? = some v → W.cell? ⟨g, off + j, none⟩ = some v := fun j v hv => by have := h 0 (by simp) j v hv; simpa using this
    have hx0 := hx x (by simp)
    refine ⟨hg, hx0.ok, ⟨c 0 _ rfl, c 1 _ rfl, c 2 _ rfl, c 3 _ rfl, c 4 _ rfl, c 5 _ rfl, c 6 _ rfl, c 7 _ rfl⟩, hx0.tags, hx0.l, hx0.e, items_of hg r (off + 8) (fun i hi j v hv => ?_) (fun y hy => hx y (by simp [hy]))⟩
    have := h (i + 1) (by simp; omega) j v hv
    rw [show off + (i + 1) * 8 + j = off + 8 + i * 8 + j by omega] at this
    exact this
theorem list_box {W : World} {g : Nat} {l : List (Ix × Il × Il)} (hg : g < W.heap.size) (h : BoxAt W g ((l.map fun x => x.1.vals.toList).flatten.toArray)) (hx : ∀ x ∈ l, LitOk W.heap.size W x) : ListAt W.heap.size W (some ⟨g, 0, none⟩) l.length (mkIl l) := by
  refine ⟨mkIl_len l, .inr ⟨g, 0, rfl, items_of hg l 0 (fun i hi j v hv => ?_) hx⟩⟩
  have hlen : ∀ r ∈ l.map (fun x => x.1.vals.toList), r.length = 8 := by
    intro r hr
    obtain ⟨x, _, rfl⟩ := List.mem_map.1 hr
    rfl
  have hj : j < 8 := by
    rcases Nat.lt_or_ge j 8 with h | h
    · exact h
    · rw [Array.getElem?_eq_none (by show 8 ≤ j; exact h)] at hv; cases hv
  have hf := Stk.flat_get (l.map fun x => x.1.vals.toList) hlen i j (by simpa using hi) hj
  have hgd : (l.map fun x => x.1.vals.toList).getD i [] = l[i].1.vals.toList := by simp [hi]
  rw [hgd] at hf
  have := h (i * 8 + j) v (by rw [List.getElem?_toArray, hf]; simpa using hv)
  simpa using this
/-- A function of one word to one, with these instructions. -/
def ofM (g : Nat) (l : Lst) : Md where
  ty := [(1, 1)]
  im := []
  fu := [⟨0, 0, l⟩]
  tb := []
  me := []
  gl := []
  ex := []
  st := false
  sn := 0
  el := []
  da := []
  ty' := ⟨some ⟨g, 0, none⟩, 1⟩
  im' := ⟨none, 0⟩
  fu' := ⟨some ⟨g + 1, 0, none⟩, 1⟩
  tb' := ⟨none, 0⟩
  me' := ⟨none, 0⟩
  gl' := ⟨none, 0⟩
  ex' := ⟨none, 0⟩
  el' := ⟨none, 0⟩
  da' := ⟨none, 0⟩
theorem of_few (g : Nat) (l : Lst) (hn : l.t.len ≤ 140737488351232) (hc : l.t.count ≤ 1000000) : (ofM g l).few := by
  have hcs : ∀ x ∈ (ofM g l).codes, x = l := by simp [ofM, Md.codes]
  refine ⟨⟨by simp [ofM], by simp [ofM], by simp [ofM], by simp [ofM], by simp [ofM], by simp [ofM], by simp [ofM], by simp [ofM], by simp [ofM], fun x hx => by rw [hcs x hx]; exact hn, by simp [ofM], by simp [ofM], by simp [ofM], by simp [ofM]⟩, fun x hx => by rw [hcs x hx]; exact hc, by simp [ofM]⟩
theorem of_at {g : Nat} {l : Lst} {W : World} (h0 : BoxAt W g #[.int .i64 1, .int .i64 1]) (h1 : BoxAt W (g + 1) #[.int .i64 0, .int .i64 0, l.val]) (hL : ListAt W.heap.size W l.a l.t.len l.t) : ModAt W.heap.size W (ofM g l) := by
  have hcs : ∀ x ∈ (ofM g l).codes, x = l := by simp [ofM, Md.codes]
  have l0 := World.block_lt_of_cell? W _ (h0 0 _ rfl)
  have l1 := World.block_lt_of_cell? W _ (h1 0 _ rfl)
  exact ⟨rows_box l0 (by simp [ofM, tyV]) h0, .inl rfl, rows_box l1 (by simp [ofM, Mod.Fn.v]) h1, .inl rfl, .inl rfl, .inl rfl, .inl rfl, .inl rfl, .inl rfl, fun x hx => by rw [hcs x hx]; exact hL, by simp [ofM], by simp [ofM]⟩
theorem chain3 (w : World) (A0 A1 A2 : Array Value) (t0 t1 t2 : TypeId) : ∃ W, (((w.alloc (.cells A0 t0)).alloc (.cells A1 t1)).alloc (.cells A2 t2)) = W ∧ (BoxAt W (w.heap.size) A0 ∧ BoxAt W (w.heap.size + 1) A1 ∧ BoxAt W (w.heap.size + 1 + 1) A2) ∧ Below w.heap.size w W := by
  refine ⟨_, rfl, ⟨?_, ?_, ?_⟩, thenA (thenA (thenA (Below.refl _ _) _) _) _⟩ <;> (intro j x h; simp [go_sem, h])
theorem chain8 (w : World) (A0 A1 A2 A3 A4 A5 A6 A7 : Array Value) (t0 t1 t2 t3 t4 t5 t6 t7 : TypeId) : ∃ W, ((((((((w.alloc (.cells A0 t0)).alloc (.cells A1 t1)).alloc (.cells A2 t2)).alloc (.cells A3 t3)).alloc (.cells A4 t4)).alloc (.cells A5 t5)).alloc (.cells A6 t6)).alloc (.cells A7 t7)) = W ∧ (BoxAt W (w.heap.size) A0 ∧ BoxAt W (w.heap.size + 1) A1 ∧ BoxAt W (w.heap.size + 1 + 1) A2 ∧ BoxAt W (w.heap.size + 1 + 1 + 1) A3 ∧ BoxAt W (w.heap.size + 1 + 1 + 1 + 1) A4 ∧ BoxAt W (w.heap.size + 1 + 1 + 1 + 1 + 1) A5 ∧ BoxAt W (w.heap.size + 1 + 1 + 1 + 1 + 1 + 1) A6 ∧ BoxAt W (w.heap.size + 1 + 1 + 1 + 1 + 1 + 1 + 1) A7) ∧ Below w.heap.size w W := by
  refine ⟨_, rfl, ⟨?_, ?_, ?_, ?_, ?_, ?_, ?_, ?_⟩, thenA (thenA (thenA (thenA (thenA (thenA (thenA (thenA (Below.refl _ _) _) _) _) _) _) _) _) _⟩ <;> (intro j x h; simp [go_sem, h])
def OfP (g : Nat) (l : Lst) (w : World) (e : Ending) (w' : World) : Prop := e = .returned (.tuple #[.int .i64 (Md.body (ofM g l) 0).1, .int .i64 (Md.body (ofM g l) 0).2]) ∧ Below w.heap.size w w'
set_option maxRecDepth 100000 in
set_option maxHeartbeats 2000000 in
theorem of_m (l : Lst) (w : World) (hL : ListAt w.heap.size w l.a l.t.len l.t) (hn : l.t.len ≤ 140737488351232) (hc : l.t.count ≤ 1000000) (hT : Nams w) (hU : Utf.Tabs w) (hA : Num.Arit w) :
    Calls Tryz.prog 11 #[.slice l.a l.t.len l.c] w (OfP w.heap.size l w) := by
  have HFW := hid (of_few w.heap.size l hn hc)
  have HL := hid hL
  have HT := hid hT
  have HU := hid hU
  have HA := hid hA
  clear hL hn hc hT hU hA
  go_enter Tryz.func11, Tryz.ntmps11
  go_upto_region 2 with fail
  obtain ⟨W1, hW1, ⟨b0, b1, b2⟩, hB⟩ := chain3 w #[.int .i64 1, .int .i64 1] #[.int .i64 0, .int .i64 0, .slice l.a l.t.len l.c] #[.slice (some ⟨w.heap.size, 0, none⟩) 1 1, .slice none 0 0, .slice (some ⟨w.heap.size + 1, 0, none⟩) 1 1, .slice none 0 0, .slice none 0 0, .slice none 0 0, .slice none 0 0, .bool false, .int .u32 0, .slice none 0 0, .slice none 0 0] 40 44 37
  rw [hW1]
  have hm : ModAt W1.heap.size W1 (ofM w.heap.size l) := of_at b0 b1 (HL.out.on hB)
  have CB := hid (Body_m (ofM w.heap.size l) 0 W1 hm HFW.out (HT.out.below hB) (HU.out.below hB) (HA.out.below hB))
  rw [show (ofM w.heap.size l).v = #[.slice (some ⟨w.heap.size, 0, none⟩) 1 1, .slice none 0 0, .slice (some ⟨w.heap.size + 1, 0, none⟩) 1 1, .slice none 0 0, .slice none 0 0, .slice none 0 0, .slice none 0 0, .bool false, .int .u32 0, .slice none 0 0, .slice none 0 0] from rfl] at CB
  unfold BodyQ at CB
  obtain ⟨q, hq⟩ : ∃ q, Md.body (ofM w.heap.size l) 0 = q := ⟨_, rfl⟩
  rw [hq] at CB
  have HQ := hid hq
  obtain ⟨n0, n1, n2, n3, n4, n5, n6, n7, n8, n9, n10⟩ := BoxAt.mod b2
  have HB := hid hB
  clear hm hq b0 b1 b2 hB hW1
  go_wp2_with fail
  refine CB.out.mono ?_
  rintro e2 w2 ⟨rfl, hb2⟩
  have HB2 := hid (HB.out.trans (hb2.mono HB.out.size))
  clear CB hb2 n0 n1 n2 n3 n4 n5 n6 n7 n8 n9 n10
  go_wp2
  go_ret2
  exact ⟨by rw [HQ.out]; rfl, HB2.out⟩
def getI (n : Int) : Ix := ⟨32, 0, n, 0, 0, [], none, 0, none, 0, 0, none, 0, 0⟩
theorem get_m (n : Int) (w : World) : Calls Tryz.prog 12 #[.int .u32 n] w fun e w' => e = .returned (.agg (getI n).vals) ∧ Below w.heap.size w w' := by
  go_enter Tryz.func12, Tryz.ntmps12
  go_wp2
  refine bodyPost_ret (v := .agg (getI n).vals) (by simp [results, Tryz.results12, go_sem, getI, Ix.vals]) rfl ⟨rfl, thenA (Below.refl _ _) _⟩
def constI : Ix := ⟨65, 0, 0, 0, 0, [], none, 0, none, 0, 0, none, 0, 0⟩
def richL (g : Nat) : Lst := ⟨some ⟨g + 1, 0, none⟩, 1, mkIl [(constI, .nil, .nil)]⟩
def sHost : ByteArray := ⟨#[104, 111, 115, 116]⟩
def sF : ByteArray := ⟨#[102]⟩
/-- The module with something of each kind; its box is block g. -/
def richM (g : Nat) : Md where
  ty := [(1, 1), (0, 0)]
  im := [⟨sHost, sF, 0⟩]
  fu := [⟨1, 0, ⟨none, 0, .nil⟩⟩]
  tb := [⟨1, 0, false⟩]
  me := [⟨1, 0, false⟩]
  gl := [⟨true, richL g⟩, ⟨false, richL g⟩]
  ex := []
  st := false
  sn := 0
  el := []
  da := []
  ty' := ⟨some ⟨g + 1 + 1, 0, none⟩, 2⟩
  im' := ⟨some ⟨g + 1 + 1 + 1, 0, none⟩, 1⟩
  fu' := ⟨some ⟨g + 1 + 1 + 1 + 1, 0, none⟩, 1⟩
  tb' := ⟨some ⟨g + 1 + 1 + 1 + 1 + 1, 0, none⟩, 1⟩
  me' := ⟨some ⟨g + 1 + 1 + 1 + 1 + 1 + 1, 0, none⟩, 1⟩
  gl' := ⟨some ⟨g + 1 + 1 + 1 + 1 + 1 + 1 + 1, 0, none⟩, 2⟩
  ex' := ⟨none, 0⟩
  el' := ⟨none, 0⟩
  da' := ⟨none, 0⟩
theorem rich_codes (g : Nat) : ∀ l ∈ (richM g).codes, l = ⟨none, 0, .nil⟩ ∨ l = richL g := by
  intro l hl
  simp [richM, Md.codes] at hl
  exact hl
theorem rich_few (g : Nat) : (richM g).few := by
  refine ⟨⟨by simp [richM], by simp [richM], by simp [richM], by simp [richM], by simp [richM], by simp [richM], by simp [richM], by simp [richM], by simp [richM], fun l hl => ?_, by simp [richM], by simp [richM], fun i hi => ?_, by simp [richM]⟩, fun l hl => ?_, by simp [richM]⟩
  · rcases rich_codes g l hl with rfl | rfl <;> simp [richL, mkIl, Il.len]
  · simp only [richM, List.mem_singleton] at hi; subst hi; decide
  · rcases rich_codes g l hl with rfl | rfl <;> simp [richL, mkIl, Il.count]
theorem rich_rg (g : Nat) : Rg (richM g) := ⟨by simp [richM], by simp [richM], by simp [richM]⟩
theorem constI_ok : constI.ok := by constructor <;> simp [constI]
theorem rich_wrong (g : Nat) : wrongP (richM g) = ⟨0, 0, 0, 0⟩ := by kernel_rfl
theorem rich_at {g : Nat} {W : World} (b1 : BoxAt W (g + 1) constI.vals) (b2 : BoxAt W (g + 1 + 1) #[.int .i64 1, .int .i64 1, .int .i64 0, .int .i64 0]) (b3 : BoxAt W (g + 1 + 1 + 1) #[.string sHost, .string sF, .int .i64 0]) (b4 : BoxAt W (g + 1 + 1 + 1 + 1) #[.int .i64 1, .int .i64 0, .slice none 0 0])
    (b5 : BoxAt W (g + 1 + 1 + 1 + 1 + 1) #[.int .u32 1, .int .u32 0, .bool false]) (b6 : BoxAt W (g + 1 + 1 + 1 + 1 + 1 + 1) #[.int .u32 1, .int .u32 0, .bool false]) (b7 : BoxAt W (g + 1 + 1 + 1 + 1 + 1 + 1 + 1) #[.bool true, .slice (some ⟨g + 1, 0, none⟩) 1 1, .bool false, .slice (some ⟨g + 1, 0, none⟩) 1 1]) :
    ModAt W.heap.size W (richM g) := by
  have l : ∀ {b v}, BoxAt W b v → v[0]?.isSome → b < W.heap.size := fun {b v} h h0 => by
    obtain ⟨x, hx⟩ := Option.isSome_iff_exists.1 h0
    exact World.block_lt_of_cell? W ⟨b, 0, none⟩ (h 0 x hx)
  refine ⟨rows_box (l b2 rfl) (by simp [richM, tyV]) b2, rows_box (l b3 rfl) (by simp [richM, Imp.v]) b3, rows_box (l b4 rfl) (by simp [richM, Mod.Fn.v]) b4, rows_box (l b5 rfl) (by simp [richM, Li.v]) b5, rows_box (l b6 rfl) (by simp [richM, Li.v]) b6, rows_box (l b7 rfl) (by simp [richM, Gl.v]) b7, .inl rfl, .inl rfl, .inl rfl, fun x hx => ?_, by simp [richM], by simp [richM]⟩
  rcases rich_codes g x hx with rfl | rfl
  · exact ⟨rfl, .inl rfl⟩
  · exact list_box (l := [(constI, .nil, .nil)]) (l b1 rfl) b1 (fun x hx => by
      obtain rfl := List.mem_singleton.1 hx
      exact ⟨constI_ok, .inl rfl, ⟨rfl, .inl rfl⟩, ⟨rfl, .inl rfl⟩⟩)
def RichP (g : Nat) (w : World) (e : Ending) (w' : World) : Prop := e = .returned (.agg (richM g).v) ∧ ModAt w'.heap.size w' (richM g) ∧ Below w.heap.size w w'
set_option maxRecDepth 100000 in
set_option maxHeartbeats 2000000 in
theorem rich_m (w : World) : Calls Tryz.prog 6 #[] w (RichP w.heap.size w) := by
  go_enter Tryz.func6, Tryz.ntmps6
  go_wp2
  obtain ⟨W, hW, ⟨b0, b1, b2, b3, b4, b5, b6, b7⟩, hB⟩ := chain8 w #[.slice (some ⟨w.heap.size + 1 + 1, 0, none⟩) 2 2, .slice (some ⟨w.heap.size + 1 + 1 + 1, 0, none⟩) 1 1, .slice (some ⟨w.heap.size + 1 + 1 + 1 + 1, 0, none⟩) 1 1, .slice (some ⟨w.heap.size + 1 + 1 + 1 + 1 + 1, 0, none⟩) 1 1, .slice (some ⟨w.heap.size + 1 + 1 + 1 + 1 + 1 + 1, 0, none⟩) 1 1, .slice (some ⟨w.heap.size + 1 + 1 + 1 + 1 + 1 + 1 + 1, 0, none⟩) 2 2, .slice none 0 0, .bool false, .int .u32 0, .slice none 0 0, .slice none 0 0] #[.int .i64 65, .int .i64 0, .int .u32 0, .int .u32 0, .int .i32 0, .slice none 0 0, .slice none 0 0, .slice none 0 0] #[.int .i64 1, .int .i64 1, .int .i64 0, .int .i64 0] #[.string ⟨#[104, 111, 115, 116]⟩, .string ⟨#[102]⟩, .int .i64 0] #[.int .i64 1, .int .i64 0, .slice none 0 0] #[.int .u32 1, .int .u32 0, .bool false] #[.int .u32 1, .int .u32 0, .bool false] #[.bool true, .slice (some ⟨w.heap.size + 1, 0, none⟩) 1 1, .bool false, .slice (some ⟨w.heap.size + 1, 0, none⟩) 1 1] 37 26 40 59 44 61 61 63
  rw [hW]
  have hat : ModAt W.heap.size W (richM w.heap.size) := rich_at b1 b2 b3 b4 b5 b6 b7
  have HAT := hid hat
  have HB := hid hB
  obtain ⟨n0, n1, n2, n3, n4, n5, n6, n7, n8, n9, n10⟩ := BoxAt.mod b0
  clear hat hB b0 b1 b2 b3 b4 b5 b6 b7 hW
  refine bodyPost_ret (v := .agg (richM w.heap.size).v) (by simp [results, Tryz.results6, go_sem, richM, Md.v, n0, n1, n2, n3, n4, n5, n6, n7, n8, n9, n10]) rfl ⟨rfl, HAT.out, HB.out⟩
end Go.Proofs.YtgecmcenhjcecaaGreatDoor.Val

namespace Go.Proofs.YtgecmcenhjcecaaGreatDoor.Val
open Go.RowKit Go.Proofs.YtgecmcenhjcecaaGreatDoor.Instr Go.Proofs.YtgecmcenhjcecaaGreatDoor.Mod
open Go.Proofs.YtgecmcenhjcecaaGreatDoor.Stk (Fr R pushR popR deadR enterR leaveR labelR newR valid lastF)
set_option linter.unusedVariables false

def deI : Ix := ⟨0, 0, 0, 0, 0, [], none, 0, none, 0, 0, none, 0, 0⟩
def drI : Ix := ⟨26, 0, 0, 0, 0, [], none, 0, none, 0, 0, none, 0, 0⟩
def tail3 : Il := .cons deI .nil .nil (.cons drI .nil .nil (.cons drI .nil .nil .nil))
def t5 (x : Ix) : Il := .cons deI .nil .nil (.cons x .nil .nil tail3)
theorem failS_zero {s : St} (h : s.er = 0) : failS 0 s = s := by
  unfold failS; rw [if_pos h]; cases s; simp_all
theorem Dd.next {b : Int} {s : St} (h : Dd b s) : Dd b s.next := ⟨h.er, h.l, h.h0, h.h1⟩
theorem push0_d {b : Int} {s : St} (hs : Dd b s) (hb : b ≤ 100) : Dd b (pushS 0 s) := by
  have h0 := hs.h0
  have h1 := hs.h1
  have hv := valid1 h0 (by omega)
  have e : pushR s.h s.l 0 = ⟨s.h + 0, F1, 0⟩ := by
    rw [hs.l]
    unfold pushR
    rw [hv]
    simp only [Bool.true_eq_false, if_false]
    rw [if_neg (by omega), if_neg (by omega)]
  unfold pushS
  rw [if_pos hs.er, e]
  exact ⟨rfl, rfl, by show 0 ≤ s.h + 0; omega, by show s.h + 0 ≤ b; omega⟩
theorem ins_deI {m : Md} {b : Int} {L E : St → St} {s : St} (hs : Dd b s) (hb : b ≤ 100) : Dd 0 (insS m 3 0 deI L E s) := by
  have e : insS m 3 0 deI L E s = deadS (failS 0 s) := rfl
  rw [e, failS_zero hs.er]
  exact (dead_d hs hb).1
theorem ins_drI {m : Md} {L E : St → St} {s : St} (hs : Dd 0 s) : Dd 0 (insS m 3 0 drI L E s) := by
  have e : insS m 3 0 drI L E s = pushS 0 (popS 1 (failS 0 s)) := rfl
  rw [e, failS_zero hs.er]
  exact push0_d (pop_d hs (by omega) (by omega)).1 (by omega)
theorem tail_ok (m : Md) (own : Int) {s : St} (hs : Dd 50 s) : (leaveS own (runS m 3 0 tail3 s)).er = 0 := by
  unfold tail3
  rw [runS_cons, if_pos hs.er]
  have h1 := ins_deI (m := m) (L := listS m 3 0 .nil) (E := listS m 3 0 .nil) hs.next (by omega)
  rw [runS_cons, if_pos h1.er]
  have h2 := ins_drI (m := m) (L := listS m 3 0 .nil) (E := listS m 3 0 .nil) h1.next
  rw [runS_cons, if_pos h2.er]
  have h3 := ins_drI (m := m) (L := listS m 3 0 .nil) (E := listS m 3 0 .nil) h2.next
  generalize insS m 3 0 drI (listS m 3 0 .nil) (listS m 3 0 .nil) (insS m 3 0 drI (listS m 3 0 .nil) (listS m 3 0 .nil) (insS m 3 0 deI (listS m 3 0 .nil) (listS m 3 0 .nil) s.next).next).next = u at h3
  show (leaveS own u).er = 0
  have hh : u.h = 0 := by have := h3.h0; have := h3.h1; omega
  have e : leaveR u.h u.l = ⟨0, [], 0⟩ := by rw [hh, h3.l]; rfl
  unfold leaveS
  rw [if_pos h3.er, e]; rfl
/-- What may be told. -/
def Told (op : Int) (r : Int × Int) : Prop := r.1 = 0 ∨ (r.2 = 2 ∧ (r.1 = 6 ∨ r.1 = 212 ∨ r.1 = 211 ∨ (r.1 = 200 ∧ (op = 2 ∨ op = 3 ∨ op = 4)))) ∨ (r.2 = 0 ∧ (r.1 = 2 ∨ r.1 = 141))
theorem run_told (m : Md) (x : Ix) (hr : x.res = 0 ∨ x.res = 1) (ht : x.tags = []) (hx : 0 ≤ x.a) (hc : 0 ≤ (calleeP m x).1.1 ∧ 0 ≤ (calleeP m x).1.2 ∧ (calleeP m x).1.2 ≤ 1) (hk : 0 ≤ takesP x.op) :
    Told x.op ((listS m 3 0 (t5 x) (startS 0)).er, (listS m 3 0 (t5 x) (startS 0)).at_) := by
  have e1 : insS m 3 0 deI (listS m 3 0 .nil) (listS m 3 0 .nil) (startS 0).next = ⟨0, F1, 1, 1, 0⟩ := rfl
  have e2 : listS m 3 0 (t5 x) (startS 0) = leaveS 0 (runS m 3 0 tail3 (insS m 3 0 x (listS m 3 0 .nil) (listS m 3 0 .nil) ⟨0, F1, 2, 2, 0⟩)) := by
    unfold listS t5
    rw [runS_cons, if_pos (show (startS 0).er = 0 from rfl)]
    have e1' := e1
    unfold listS at e1'
    rw [show insS m 3 0 deI (listS m 3 0 .nil) (listS m 3 0 .nil) (startS 0).next = (⟨0, F1, 1, 1, 0⟩ : St) from e1, runS_cons]
    rfl
  have hd : Dd 0 ⟨0, F1, 2, 2, 0⟩ := ⟨rfl, rfl, Int.le_refl _, Int.le_refl _⟩
  rcases ins_good (m := m) (x := x) hd (by omega) rfl hr ht hx hc hk with h | ⟨h1, h2, h3⟩
  · rw [e2]; exact .inl (tail_ok m 0 h)
  · rw [e2, runS_er _ _ _ _ _ h1, leaveS_er h1]
    exact .inr (.inl ⟨h2, h3⟩)
def deadM (g : Nat) (sty sfu : Sl) (a : Option Addr) (c : Nat) (x : Ix) : Md := { richM g with ty := [(1, 1), (0, 0), (0, 0)], fu := [⟨1, 0, ⟨none, 0, .nil⟩⟩, ⟨2, 3, ⟨a, c, t5 x⟩⟩], ty' := sty, fu' := sfu }
theorem callee_rng {m : Md} (h : Tys m) (x : Ix) : 0 ≤ (calleeP m x).1.1 ∧ 0 ≤ (calleeP m x).1.2 ∧ (calleeP m x).1.2 ≤ 1 := by
  have z : (0 : Int) ≤ 0 ∧ (0 : Int) ≤ 0 ∧ (0 : Int) ≤ 1 := by omega
  unfold calleeP Md.typeOf
  (repeat' split) <;> first | exact z | (exact ⟨(h.getD _).1, (h.getD _).2.2.1, (h.getD _).2.2.2⟩)
theorem dead_check (g : Nat) (sty sfu : Sl) (a : Option Addr) (c : Nat) (x : Ix) : (deadM g sty sfu a c x).check = 0 ∨ (deadM g sty sfu a c x).check = 2 ∨ (deadM g sty sfu a c x).check = 141 := by
  have h1 : (deadM g sty sfu a c x).crowded = false := by kernel_rfl
  have h2 : (deadM g sty sfu a c x).anyName longS = false := by kernel_rfl
  have h3 : (deadM g sty sfu a c x).heavy = false := by kernel_rfl
  unfold Md.check
  rw [h1, h2, h3]
  simp only [Bool.false_eq_true, if_false]
  (repeat' split) <;> simp
theorem dead_told (g : Nat) (sty sfu : Sl) (a : Option Addr) (c : Nat) (x : Ix) (ht : x.tags = []) (hx : 0 ≤ x.a) : Told x.op (Md.body (deadM g sty sfu a c x) 1) := by
  unfold Md.body
  by_cases hc : (deadM g sty sfu a c x).check = 0
  · rw [if_neg (fun h => h hc), if_neg (by show ¬ ((1 : Int) < 0 ∨ ((2 : Nat) : Int) ≤ 1); omega)]
    have hF := fine_of hc
    have hl : checkP (t5 x) = 0 := hF.cs ⟨a, c, t5 x⟩ (by
      show _ ∈ [(⟨none, 0, .nil⟩ : Lst), ⟨a, c, t5 x⟩] ++ _
      exact List.mem_append_left _ (by simp))
    have hr : x.res = 0 ∨ x.res = 1 := by
      unfold checkP at hl
      by_cases hall : (t5 x).all = true
      · have : lawfulP x = true := by
          simp only [t5, Il.all, Bool.and_eq_true] at hall
          exact hall.2.1.1.1
        simp only [lawfulP, Bool.and_eq_true, Bool.or_eq_true, decide_eq_true_eq] at this
        exact this.2
      · rw [if_neg hall] at hl; omega
    have hk : 0 ≤ takesP x.op := by
      unfold takesP; split
      · omega
      · exact (takesO_range x.op).1
    have e : Md.bodyP (deadM g sty sfu a c x) (1 : Int).toNat = ((listS (deadM g sty sfu a c x) 3 0 (t5 x) (startS 0)).er, (listS (deadM g sty sfu a c x) 3 0 (t5 x) (startS 0)).at_) := rfl
    rw [e]
    exact run_told _ x hr ht hx (callee_rng hF.tys x) hk
  · rw [if_pos hc]
    rcases dead_check g sty sfu a c x with h | h | h
    · exact absurd h hc
    · exact .inr (.inr ⟨rfl, .inl h⟩)
    · exact .inr (.inr ⟨rfl, .inr h⟩)
end Go.Proofs.YtgecmcenhjcecaaGreatDoor.Val

namespace Go.Proofs.YtgecmcenhjcecaaGreatDoor.Val
open Go.RowKit Go.Shelf Go.Proofs.YtgecmcenhjcecaaGreatDoor.Instr Go.Proofs.YtgecmcenhjcecaaGreatDoor.Mod
set_option linter.unusedVariables false

theorem chain8o (w : World) (A0 A1 A2 A3 A4 A5 A6 A7 : Array Value) (t0 t1 t2 t3 t4 t5 t6 t7 : TypeId) : ∃ W, ((((((((w.alloc (.cells A0 t0)).alloc (.cells A1 t1)).alloc (.cells A2 t2)).alloc (.cells A3 t3)).alloc (.cells A4 t4)).alloc (.cells A5 t5)).alloc (.cells A6 t6)).alloc (.cells A7 t7)) = W ∧ (BoxAt W (w.heap.size) A0 ∧ BoxAt W (w.heap.size + 1) A1 ∧ BoxAt W (w.heap.size + 1 + 1) A2 ∧ BoxAt W (w.heap.size + 1 + 1 + 1) A3 ∧ BoxAt W (w.heap.size + 1 + 1 + 1 + 1) A4 ∧ BoxAt W (w.heap.size + 1 + 1 + 1 + 1 + 1) A5 ∧ BoxAt W (w.heap.size + 1 + 1 + 1 + 1 + 1 + 1) A6 ∧ BoxAt W (w.heap.size + 1 + 1 + 1 + 1 + 1 + 1 + 1) A7) ∧ Below w.heap.size w W ∧ W.heap[w.heap.size + 1 + 1]? = some (.cells A2 t2 (0, 0)) ∧ W.heap[w.heap.size + 1 + 1 + 1 + 1]? = some (.cells A4 t4 (0, 0)) := by
  obtain ⟨W, h1, h2, h3⟩ := chain8 w A0 A1 A2 A3 A4 A5 A6 A7 t0 t1 t2 t3 t4 t5 t6 t7
  refine ⟨W, h1, h2, h3, ?_, ?_⟩
  · rw [← h1]
    have e : w.heap.size + 1 + 1 = ((w.alloc (.cells A0 t0)).alloc (.cells A1 t1)).heap.size := by simp
    rw [e]
    have hn := heap_alloc_new ((w.alloc (.cells A0 t0)).alloc (.cells A1 t1)) (.cells A2 t2)
    have hlt := (Array.getElem?_eq_some_iff.1 hn).1
    have hb := thenA (thenA (thenA (thenA (thenA (Below.refl (((w.alloc (.cells A0 t0)).alloc (.cells A1 t1)).alloc (.cells A2 t2)).heap.size _) (.cells A3 t3)) (.cells A4 t4)) (.cells A5 t5)) (.cells A6 t6)) (.cells A7 t7)
    exact (hb.block _ hlt).trans hn
  · rw [← h1]
    have e : w.heap.size + 1 + 1 + 1 + 1 = ((((w.alloc (.cells A0 t0)).alloc (.cells A1 t1)).alloc (.cells A2 t2)).alloc (.cells A3 t3)).heap.size := by simp
    rw [e]
    have hn := heap_alloc_new ((((w.alloc (.cells A0 t0)).alloc (.cells A1 t1)).alloc (.cells A2 t2)).alloc (.cells A3 t3)) (.cells A4 t4)
    have hlt := (Array.getElem?_eq_some_iff.1 hn).1
    have hb := thenA (thenA (thenA (Below.refl (((((w.alloc (.cells A0 t0)).alloc (.cells A1 t1)).alloc (.cells A2 t2)).alloc (.cells A3 t3)).alloc (.cells A4 t4)).heap.size _) (.cells A5 t5)) (.cells A6 t6)) (.cells A7 t7)
    exact (hb.block _ hlt).trans hn
/-- What lies in rich()'s other blocks. -/
structure RichB (g : Nat) (W : World) : Prop where
  b1 : BoxAt W (g + 1) constI.vals
  b3 : BoxAt W (g + 1 + 1 + 1) #[.string sHost, .string sF, .int .i64 0]
  b5 : BoxAt W (g + 1 + 1 + 1 + 1 + 1) #[.int .u32 1, .int .u32 0, .bool false]
  b6 : BoxAt W (g + 1 + 1 + 1 + 1 + 1 + 1) #[.int .u32 1, .int .u32 0, .bool false]
  b7 : BoxAt W (g + 1 + 1 + 1 + 1 + 1 + 1 + 1) #[.bool true, .slice (some ⟨g + 1, 0, none⟩) 1 1, .bool false, .slice (some ⟨g + 1, 0, none⟩) 1 1]
theorem box_save {W W' : World} {k b : Nat} {v : Array Value} (h : BoxAt W b v) (hs : Save k W W') (hk : b ≠ k) : BoxAt W' b v := fun j x hj => hs.cell hk (h j x hj)
theorem RichB.save {g k : Nat} {W W' : World} (h : RichB g W) (hs : Save k W W') (h1 : g + 1 ≠ k) (h3 : g + 1 + 1 + 1 ≠ k) (h5 : g + 1 + 1 + 1 + 1 + 1 ≠ k) (h6 : g + 1 + 1 + 1 + 1 + 1 + 1 ≠ k) (h7 : g + 1 + 1 + 1 + 1 + 1 + 1 + 1 ≠ k) : RichB g W' :=
  ⟨box_save h.b1 hs h1, box_save h.b3 hs h3, box_save h.b5 hs h5, box_save h.b6 hs h6, box_save h.b7 hs h7⟩
theorem RichB.below {g : Nat} {W W' : World} (h : RichB g W) (hb : Below W.heap.size W W') : RichB g W' := ⟨h.b1.keep hb, h.b3.keep hb, h.b5.keep hb, h.b6.keep hb, h.b7.keep hb⟩
theorem save_grown {W W' : World} {k : Nat} (h : W.grownBy W' (some k)) : Save k W W' := ⟨h.os, h.tape, h.output, h.size, fun j hj hne => h.block j hj (by simpa using hne)⟩
/-- A row stays where another block is written; rows of unlike types are not one block. -/
theorem own_save {e : TypeId} {sz base k : Nat} {W W' : World} {v : Value} {rs : List (List Value)} (h : Stk.OwnR e sz base W v rs) (hs : Save k W W') (hk : ∀ b, v.ownBlock = some b → b ≠ k) : Stk.OwnR e sz base W' v rs := by
  refine ⟨⟨h.row.1, ?_⟩, h.len⟩
  rcases h.row.2 with h0 | ⟨b, cap, cur, rfl, h1, h2, h3, h4, h5, h6⟩
  · exact .inl h0
  · exact .inr ⟨b, cap, cur, rfl, h1, (hs.block b (Array.getElem?_eq_some_iff.1 h2).1 (hk b rfl)).trans h2, h3, h4, h5, h6⟩
theorem own_ne {e : TypeId} {sz base k : Nat} {W : World} {v : Value} {rs : List (List Value)} {cs : Array Value} {t : TypeId} {fr : Nat × Nat} (h : Stk.OwnR e sz base W v rs) (hk : W.heap[k]? = some (.cells cs t fr)) (hne : e ≠ t) : ∀ b, v.ownBlock = some b → b ≠ k := by
  intro b hb hbk
  subst hbk
  rcases h.row.2 with ⟨rfl, _⟩ | ⟨b', cap, cur, rfl, h1, h2, h3, h4, h5, h6⟩
  · cases hb
  · simp only [Value.ownBlock, Option.some.injEq] at hb
    subst hb
    rw [h2] at hk
    simp only [Option.some.injEq, Obj.cells.injEq] at hk
    exact hne hk.2.1
/-- rich(), and its rows. -/
def RichO (g : Nat) (w : World) (e : Ending) (w' : World) : Prop := e = .returned (.agg (richM g).v) ∧ RichB g w' ∧ Below w.heap.size w w' ∧
  Stk.OwnR 40 2 g w' (.slice (some ⟨g + 1 + 1, 0, none⟩) 2 2) [[.int .i64 1, .int .i64 1], [.int .i64 0, .int .i64 0]] ∧ Stk.OwnR 44 3 g w' (.slice (some ⟨g + 1 + 1 + 1 + 1, 0, none⟩) 1 1) [[.int .i64 1, .int .i64 0, .slice none 0 0]]
set_option maxRecDepth 100000 in
set_option maxHeartbeats 2000000 in
theorem rich_o (w : World) : Calls Tryz.prog 6 #[] w (RichO w.heap.size w) := by
  go_enter Tryz.func6, Tryz.ntmps6
  go_wp2
  obtain ⟨W, hW, ⟨b0, b1, b2, b3, b4, b5, b6, b7⟩, hB, h2, h4⟩ := chain8o w #[.slice (some ⟨w.heap.size + 1 + 1, 0, none⟩) 2 2, .slice (some ⟨w.heap.size + 1 + 1 + 1, 0, none⟩) 1 1, .slice (some ⟨w.heap.size + 1 + 1 + 1 + 1, 0, none⟩) 1 1, .slice (some ⟨w.heap.size + 1 + 1 + 1 + 1 + 1, 0, none⟩) 1 1, .slice (some ⟨w.heap.size + 1 + 1 + 1 + 1 + 1 + 1, 0, none⟩) 1 1, .slice (some ⟨w.heap.size + 1 + 1 + 1 + 1 + 1 + 1 + 1, 0, none⟩) 2 2, .slice none 0 0, .bool false, .int .u32 0, .slice none 0 0, .slice none 0 0] #[.int .i64 65, .int .i64 0, .int .u32 0, .int .u32 0, .int .i32 0, .slice none 0 0, .slice none 0 0, .slice none 0 0] #[.int .i64 1, .int .i64 1, .int .i64 0, .int .i64 0] #[.string ⟨#[104, 111, 115, 116]⟩, .string ⟨#[102]⟩, .int .i64 0] #[.int .i64 1, .int .i64 0, .slice none 0 0] #[.int .u32 1, .int .u32 0, .bool false] #[.int .u32 1, .int .u32 0, .bool false] #[.bool true, .slice (some ⟨w.heap.size + 1, 0, none⟩) 1 1, .bool false, .slice (some ⟨w.heap.size + 1, 0, none⟩) 1 1] 37 26 40 59 44 61 61 63
  rw [hW]
  have o2 : Stk.OwnR 40 2 w.heap.size W (.slice (some ⟨w.heap.size + 1 + 1, 0, none⟩) 2 2) [[.int .i64 1, .int .i64 1], [.int .i64 0, .int .i64 0]] :=
    ⟨⟨rfl, .inr ⟨_, 2, _, rfl, by omega, h2, by simp, by unfold maxLen; omega, rfl, rfl⟩⟩, by simp⟩
  have o4 : Stk.OwnR 44 3 w.heap.size W (.slice (some ⟨w.heap.size + 1 + 1 + 1 + 1, 0, none⟩) 1 1) [[.int .i64 1, .int .i64 0, .slice none 0 0]] :=
    ⟨⟨rfl, .inr ⟨_, 1, _, rfl, by omega, h4, by simp, by unfold maxLen; omega, rfl, rfl⟩⟩, by simp⟩
  have hat : RichB w.heap.size W := ⟨b1, b3, b5, b6, b7⟩
  have HAT := hid hat
  have HB := hid hB
  have O2 := hid o2
  have O4 := hid o4
  obtain ⟨n0, n1, n2, n3, n4, n5, n6, n7, n8, n9, n10⟩ := BoxAt.mod b0
  clear hat hB b0 b1 b2 b3 b4 b5 b6 b7 hW h2 h4 o2 o4
  refine bodyPost_ret (v := .agg (richM w.heap.size).v) (by simp [results, Tryz.results6, go_sem, richM, Md.v, n0, n1, n2, n3, n4, n5, n6, n7, n8, n9, n10]) rfl ⟨rfl, HAT.out, HB.out, O2.out, O4.out⟩
end Go.Proofs.YtgecmcenhjcecaaGreatDoor.Val

namespace Go.Proofs.YtgecmcenhjcecaaGreatDoor.Val
open Go.RowKit Go.Shelf Go.Proofs.YtgecmcenhjcecaaGreatDoor.Instr Go.Proofs.YtgecmcenhjcecaaGreatDoor.Mod
set_option linter.unusedVariables false

/-- The tables. -/
structure Tb (w : World) : Prop where
  nt : Nams w
  ut : Utf.Tabs w
  ar : Num.Arit w
theorem Tb.on {w w' : World} (h : Tb w) (hb : Below w.heap.size w w') : Tb w' := ⟨h.nt.below hb, h.ut.below hb, h.ar.below hb⟩
theorem of_list (xs : List (Ix × Il × Il)) (b n c : Nat) (w : World) (r : Int × Int) (hT : Tb w) (h : BoxAt w b ((xs.map fun x => x.1.vals.toList).flatten.toArray)) (hb : b < w.heap.size) (hx : ∀ x ∈ xs, LitOk w.heap.size w x) (hc : (mkIl xs).count ≤ 1000000) (hn : xs.length = n) (hn2 : n ≤ 1000) (hr : ∀ g, Md.body (ofM g ⟨some ⟨b, 0, none⟩, c, mkIl xs⟩) 0 = r) :
    Calls Tryz.prog 11 #[.slice (some ⟨b, 0, none⟩) n c] w fun e w' => e = .returned (.tuple #[.int .i64 r.1, .int .i64 r.2]) ∧ Below w.heap.size w w' := by
  have hl : (mkIl xs).len = n := (mkIl_len xs).trans hn
  have hL := list_box hb h hx
  have := of_m ⟨some ⟨b, 0, none⟩, c, mkIl xs⟩ w (by show ListAt _ _ _ (mkIl xs).len _; rw [hl, ← hn]; exact hL) (by show (mkIl xs).len ≤ _; omega) hc hT.nt hT.ut hT.ar
  simp only [hl] at this
  refine this.mono fun e w' h => ?_
  unfold OfP at h
  rw [hr] at h
  exact h
theorem of_none (w : World) (hT : Tb w) : Calls Tryz.prog 11 #[.slice none 0 0] w fun e w' => e = .returned (.tuple #[.int .i64 200, .int .i64 0]) ∧ Below w.heap.size w w' := by
  refine (of_m ⟨none, 0, .nil⟩ w ⟨rfl, .inl rfl⟩ (by decide) (by decide) hT.nt hT.ut hT.ar).mono fun e w' h => ?_
  unfold OfP at h
  rw [show ∀ g, Md.body (ofM g ⟨none, 0, .nil⟩) 0 = (200, 0) from fun g => by kernel_rfl] at h
  exact h
theorem check_rich (g : Nat) (w : World) (hm : ModAt w.heap.size w (richM g)) (hT : Tb w) : Calls Tryz.prog 13 #[.agg (richM g).v] w fun e w' => e = .returned (.agg #[.int .i64 0, .int .i64 0, .int .i64 0, .int .i64 0]) ∧ Below w.heap.size w w' := by
  refine (Check_m (richM g) w hm (rich_few g) (rich_rg g) hT.nt hT.ut hT.ar).mono fun e w' h => ?_
  unfold CheckP at h
  rw [rich_wrong] at h
  exact h
theorem get_ok (n₀ : Nat) (W : World) (n : Int) (hn : 0 ≤ n ∧ n < 4294967296) : LitOk n₀ W (getI n, .nil, .nil) := ⟨by constructor <;> simp [getI] <;> omega, .inl rfl, ⟨rfl, .inl rfl⟩, ⟨rfl, .inl rfl⟩⟩
theorem get0_body (b c g : Nat) : Md.body (ofM g ⟨some ⟨b, 0, none⟩, c, mkIl [(getI 0, .nil, .nil)]⟩) 0 = (0, 0) := by kernel_rfl
theorem get1_body (b c g : Nat) : Md.body (ofM g ⟨some ⟨b, 0, none⟩, c, mkIl [(getI 1, .nil, .nil)]⟩) 0 = (6, 1) := by kernel_rfl
set_option maxRecDepth 100000 in
set_option maxHeartbeats 2000000 in
theorem awake_m (w : World) (hT : Tb w) : Calls Tryz.prog 5 #[] w fun e w' => e = .returned (.bool true) ∧ Below w.heap.size w w' := by
  have HT := hid hT
  have q1 := eqWrong
  have q2 := guardWrong
  clear hT
  go_enter Tryz.func5, Tryz.ntmps5
  go_wp2_with fail
  refine (get_m 0 _).mono ?_
  rintro e w1 ⟨rfl, hb1⟩
  have HB1 := hid hb1
  clear hb1
  have C1 := hid (of_list [(getI 0, .nil, .nil)] w1.heap.size 1 1 (w1.alloc (.cells (getI 0).vals 26)) (0, 0) ((HT.out.on HB1.out).on (belowAlloc _ _)) (BoxAt.made w1 (getI 0).vals _) (by simp) (fun x hx => by obtain rfl := List.mem_singleton.1 hx; exact get_ok _ _ 0 (by omega)) (by decide) rfl (by omega) (fun g => get0_body _ _ g))
  unfold getI Ix.vals at C1
  go_wp2_with fail
  refine C1.out.mono ?_
  rintro e w2 ⟨rfl, hb2⟩
  have HB2 := hid (thenB HB1.out (thenB (belowAlloc w1 _) hb2))
  clear C1 hb2 HB1
  go_wp2_with fail
  refine (get_m 1 _).mono ?_
  rintro e w3 ⟨rfl, hb3⟩
  have HB3 := hid (thenB HB2.out hb3)
  clear hb3 HB2
  have C2 := hid (of_list [(getI 1, .nil, .nil)] w3.heap.size 1 1 (w3.alloc (.cells (getI 1).vals 26)) (6, 1) ((HT.out.on HB3.out).on (belowAlloc _ _)) (BoxAt.made w3 (getI 1).vals _) (by simp) (fun x hx => by obtain rfl := List.mem_singleton.1 hx; exact get_ok _ _ 1 (by omega)) (by decide) rfl (by omega) (fun g => get1_body _ _ g))
  unfold getI Ix.vals at C2
  go_wp2_with fail
  refine C2.out.mono ?_
  rintro e w4 ⟨rfl, hb4⟩
  have HB4 := hid (thenB HB3.out (thenB (belowAlloc w3 _) hb4))
  clear C2 hb4 HB3
  have C3 := hid (of_none w4 (HT.out.on HB4.out))
  go_wp2_with fail
  refine C3.out.mono ?_
  rintro e w5 ⟨rfl, hb5⟩
  have HB5 := hid (thenB HB4.out hb5)
  clear C3 hb5 HB4
  go_wp2_with fail
  refine (rich_m _).mono ?_
  rintro e w6 ⟨rfl, hm6, hb6⟩
  have HB6 := hid (thenB HB5.out hb6)
  have C4 := hid (check_rich _ w6 hm6 (HT.out.on HB6.out))
  clear hm6 hb6 HB5
  go_wp2_with fail
  refine C4.out.mono ?_
  rintro e w7 ⟨rfl, hb7⟩
  have HB7 := hid (thenB HB6.out hb7)
  clear C4 hb7 HB6
  go_wp2
  go_ret
  exact ⟨rfl, HB7.out⟩
end Go.Proofs.YtgecmcenhjcecaaGreatDoor.Val

namespace Go.Proofs.YtgecmcenhjcecaaGreatDoor.Val
open Go.RowKit Go.Shelf Go.Proofs.YtgecmcenhjcecaaGreatDoor.Instr Go.Proofs.YtgecmcenhjcecaaGreatDoor.Mod
set_option linter.unusedVariables false

def NB (W : World) (g : Nat) (v : Array Value) : Prop := W.heap[g]? = some (.cells v 37 (0, 0))
theorem NB.lt {W : World} {g : Nat} {v : Array Value} (b : NB W g v) : g < W.heap.size := (Array.getElem?_eq_some_iff.1 b).1
theorem NB.made (W : World) (v : Array Value) : NB (W.alloc (.cells v 37)) W.heap.size v := heap_alloc_new W _
theorem NB.below {W W' : World} {g : Nat} {v : Array Value} (b : NB W g v) (hb : Below W.heap.size W W') : NB W' g v := (hb.block g b.lt).trans b
theorem NB.c {W : World} {g : Nat} {v : Array Value} (b : NB W g v) (j : Nat) : W.cell? ⟨g, j, none⟩ = v[j]? := cell_of_row W g j _ _ _ b
theorem NB.f {W : World} {g : Nat} {v : Array Value} (b : NB W g v) (j : Nat) : W.frozen? ⟨g, j, none⟩ = false := frozen_of_row W g j _ _ b
theorem NB.box {W : World} {g : Nat} {v : Array Value} (b : NB W g v) : BoxAt W g v := fun j x h => (b.c j).trans h
theorem NB.set {W : World} {g : Nat} {v : Array Value} (b : NB W g v) (j : Nat) (x : Value) : NB (W.setCell ⟨g, j, none⟩ x) g (v.set! j x) := heap_setCell_same W g j _ _ _ b
/-- The two boxes: the module's own, and that of what is made of it. -/
def Tw (n₀ : Nat) (w0 : World) (g : Nat) (u v : Array Value) (W : World) : Prop := NB W g v ∧ BoxAt W n₀ u ∧ Below n₀ w0 W ∧ n₀ < g
theorem Tw.set {n₀ g : Nat} {w0 W : World} {u v : Array Value} (h : Tw n₀ w0 g u v W) (j : Nat) (x : Value) : Tw n₀ w0 g u (v.set! j x) (W.setCell ⟨g, j, none⟩ x) :=
  ⟨h.1.set j x, fun i y hy => (World.cell?_setCell_far _ ⟨g, j, none⟩ _ _ (show g ≠ n₀ by have := h.2.2.2; omega)).trans (h.2.1 i y hy), h.2.2.1.setCell (by show n₀ ≤ g; have := h.2.2.2; omega) _, h.2.2.2⟩
theorem Tw.below {n₀ g : Nat} {w0 W W' : World} {u v : Array Value} (h : Tw n₀ w0 g u v W) (hs : n₀ ≤ W.heap.size) (hb : Below W.heap.size W W') : Tw n₀ w0 g u v W' :=
  ⟨h.1.below hb, h.2.1.keep hb, h.2.2.1.trans (hb.mono hs), h.2.2.2⟩
theorem NB.fs {W : World} {g : Nat} {v : Array Value} (b : NB W g v) : W.frozen? ⟨g, 0, none⟩ = false ∧ W.frozen? ⟨g, 1, none⟩ = false ∧ W.frozen? ⟨g, 2, none⟩ = false ∧ W.frozen? ⟨g, 3, none⟩ = false ∧ W.frozen? ⟨g, 4, none⟩ = false ∧ W.frozen? ⟨g, 5, none⟩ = false ∧
    W.frozen? ⟨g, 6, none⟩ = false ∧ W.frozen? ⟨g, 7, none⟩ = false ∧ W.frozen? ⟨g, 8, none⟩ = false ∧ W.frozen? ⟨g, 9, none⟩ = false ∧ W.frozen? ⟨g, 10, none⟩ = false := ⟨b.f 0, b.f 1, b.f 2, b.f 3, b.f 4, b.f 5, b.f 6, b.f 7, b.f 8, b.f 9, b.f 10⟩
theorem NB.cs {W : World} {g : Nat} {v0 v1 v2 v3 v4 v5 v6 v7 v8 v9 v10 : Value} (b : NB W g #[v0, v1, v2, v3, v4, v5, v6, v7, v8, v9, v10]) : W.cell? ⟨g, 0, none⟩ = some v0 ∧ W.cell? ⟨g, 1, none⟩ = some v1 ∧ W.cell? ⟨g, 2, none⟩ = some v2 ∧ W.cell? ⟨g, 3, none⟩ = some v3 ∧ W.cell? ⟨g, 4, none⟩ = some v4 ∧ W.cell? ⟨g, 5, none⟩ = some v5 ∧
    W.cell? ⟨g, 6, none⟩ = some v6 ∧ W.cell? ⟨g, 7, none⟩ = some v7 ∧ W.cell? ⟨g, 8, none⟩ = some v8 ∧ W.cell? ⟨g, 9, none⟩ = some v9 ∧ W.cell? ⟨g, 10, none⟩ = some v10 := ⟨b.c 0, b.c 1, b.c 2, b.c 3, b.c 4, b.c 5, b.c 6, b.c 7, b.c 8, b.c 9, b.c 10⟩
theorem infoFn : (Tryz.prog.info? 44).map (fun i => (i.zero, i.size, i.bytes)) = some (some (.agg #[.int .i64 0, .int .i64 0, .slice none 0 0]), 3, 40) := by kernel_rfl
end Go.Proofs.YtgecmcenhjcecaaGreatDoor.Val
namespace Go.Proofs.YtgecmcenhjcecaaGreatDoor
open Go.RowKit
end Go.Proofs.YtgecmcenhjcecaaGreatDoor

namespace Go.Proofs.YtgecmcenhjcecaaGreatDoor.Val
open Go.RowKit Go.Shelf Go.Proofs.YtgecmcenhjcecaaGreatDoor.Instr Go.Proofs.YtgecmcenhjcecaaGreatDoor.Mod
set_option linter.unusedVariables false

set_option maxRecDepth 100000 in
set_option maxHeartbeats 1000000 in
theorem dead_lists (w : World) (x : Ix) (hx : x.ln ≠ 0 ∨ x.en ≠ 0 ∨ x.tags ≠ []) (hT : Tb w) :
    Calls Tryz.prog 3 #[.agg x.vals] w fun e w' => e = .returned (.bool true) ∧ Below w.heap.size w w' := by
  have hb0 := belowAlloc w (.cells x.vals 26)
  have B0 := hid hb0
  have X0 := hid (At.made x w)
  have C := hid (awake_m (w.alloc (.cells x.vals 26)) (hT.on hb0))
  clear hb0 hT
  obtain ⟨op, res, a, b, n, tags, ta, tc, la, ln, lc, ea, en, ec⟩ := x
  dsimp only at hx
  obtain ⟨tn, htn⟩ : ∃ t, tags.length = t := ⟨_, rfl⟩
  have hx' : ln ≠ 0 ∨ en ≠ 0 ∨ tn ≠ 0 := by
    rcases hx with h | h | h
    · exact .inl h
    · exact .inr (.inl h)
    · exact .inr (.inr (by rw [← htn]; exact fun hh => h (List.eq_nil_of_length_eq_zero hh)))
  have HTN := hid htn
  clear hx
  unfold Ix.vals at B0 X0 C ⊢
  dsimp only at B0 X0 C ⊢
  rw [htn] at B0 X0 C ⊢
  clear htn
  go_enter Tryz.func3, Tryz.ntmps3
  go_wp2_with fail
  refine C.out.mono ?_
  rintro e w1 ⟨rfl, hb⟩
  have B1 := hid (thenB B0.out hb)
  have X1 := hid (X0.out.below hb)
  obtain ⟨d0, d1, d2, d3, d4, d5, d6, d7⟩ := X1.out
  dsimp only at d0 d1 d2 d3 d4 d5 d6 d7
  rw [HTN.out] at d5
  clear C hb X0 B0
  by_cases h1 : ln = 0
  · subst h1
    by_cases h2 : en = 0
    · subst h2
      have h3 : tn ≠ 0 := by omega
      have h3' : (0 : Int) < (tn : Int) := by omega
      clear hx'
      go_wp2
      go_ret
      exact ⟨rfl, B1.out⟩
    · have h3' : (0 : Int) < (en : Int) := by omega
      clear hx' h2
      go_wp2
      go_ret
      exact ⟨rfl, B1.out⟩
  · have h3' : (0 : Int) < (ln : Int) := by omega
    clear hx' h1
    go_wp2
    go_ret
    exact ⟨rfl, B1.out⟩
/-- The module with a type and a function more lies in memory. -/
theorem dead_at {W : World} {g : Nat} {a3 a4 a5 : Option Addr} {c3 c4 c5 base : Nat} {x : Ix} (hB : RichB g W) (o2 : Stk.OwnR 40 2 base W (.slice a3 3 c3) [[.int .i64 1, .int .i64 1], [.int .i64 0, .int .i64 0], [.int .i64 0, .int .i64 0]])
    (o4 : Stk.OwnR 44 3 base W (.slice a4 2 c4) [[.int .i64 1, .int .i64 0, .slice none 0 0], [.int .i64 2, .int .i64 3, .slice a5 5 c5]]) (hl : ListAt W.heap.size W a5 5 (t5 x)) : ModAt W.heap.size W (deadM g ⟨a3, c3⟩ ⟨a4, c4⟩ a5 c5 x) := by
  have l : ∀ {b v}, BoxAt W b v → v[0]?.isSome → b < W.heap.size := fun {b v} h h0 => by
    obtain ⟨x, hx⟩ := Option.isSome_iff_exists.1 h0
    exact World.block_lt_of_cell? W ⟨b, 0, none⟩ (h 0 x hx)
  obtain ⟨a3', c3', e3, r3, -⟩ := Stk.OwnR.rows o2
  obtain ⟨a4', c4', e4, r4, -⟩ := Stk.OwnR.rows o4
  simp only [List.length_cons, List.length_nil, Value.slice.injEq] at e3 e4
  obtain ⟨rfl, -, rfl⟩ := e3
  obtain ⟨rfl, -, rfl⟩ := e4
  refine ⟨r3, rows_box (l hB.b3 rfl) (by simp [deadM, richM, Imp.v]) hB.b3, r4, rows_box (l hB.b5 rfl) (by simp [deadM, richM, Li.v]) hB.b5, rows_box (l hB.b6 rfl) (by simp [deadM, richM, Li.v]) hB.b6, rows_box (l hB.b7 rfl) (by simp [deadM, richM, Gl.v]) hB.b7, .inl rfl, .inl rfl, .inl rfl, fun y hy => ?_, by simp [deadM, richM], by simp [deadM, richM]⟩
  simp [deadM, richM, Md.codes] at hy
  rcases hy with rfl | rfl | rfl
  · exact ⟨rfl, .inl rfl⟩
  · exact hl
  · exact list_box (l := [(constI, .nil, .nil)]) (l hB.b1 rfl) hB.b1 (fun x hx => by
      obtain rfl := List.mem_singleton.1 hx
      exact ⟨constI_ok, .inl rfl, ⟨rfl, .inl rfl⟩, ⟨rfl, .inl rfl⟩⟩)
theorem box8 {W : World} {g : Nat} {v0 v1 v2 v3 v4 v5 v6 v7 : Value} (b : BoxAt W g #[v0, v1, v2, v3, v4, v5, v6, v7]) : W.cell? ⟨g, 0, none⟩ = some v0 ∧ W.cell? ⟨g, 1, none⟩ = some v1 ∧ W.cell? ⟨g, 2, none⟩ = some v2 ∧ W.cell? ⟨g, 3, none⟩ = some v3 ∧ W.cell? ⟨g, 4, none⟩ = some v4 ∧ W.cell? ⟨g, 5, none⟩ = some v5 ∧ W.cell? ⟨g, 6, none⟩ = some v6 ∧ W.cell? ⟨g, 7, none⟩ = some v7 :=
  ⟨b 0 _ rfl, b 1 _ rfl, b 2 _ rfl, b 3 _ rfl, b 4 _ rfl, b 5 _ rfl, b 6 _ rfl, b 7 _ rfl⟩
theorem infoFt : (Tryz.prog.info? 40).map (fun i => (i.zero, i.size, i.bytes)) = some (some (.agg #[.int .i64 0, .int .i64 0]), 2, 16) := by kernel_rfl
end Go.Proofs.YtgecmcenhjcecaaGreatDoor.Val
