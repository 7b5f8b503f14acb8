import Derived.Test.YtckdnhafookcgaaGreatDoorVp10
import Derived.Test.YtckdnhafookcgaaGreatDoorVp03
import Derived.Test.YtckdnhafookcgaaGreatDoorVp01
import Derived.Test.YtckdnhafookcgaaGreatDoorVp06
import Derived.Test.YtckdnhafookcgaaGreatDoorVp08
import Derived.Laws.StructEq
import Derived.Deep.Cut
import Derived.RegionTactic
import Derived.BigRegion
import Derived.Deep.QuietTactic
import Derived.BigQuiet
import Derived.Lib.SmallJoins
import Derived.Deep.Strs
namespace Go.Proofs.YtckdnhafookcgaaGreatDoor.Instr
end Go.Proofs.YtckdnhafookcgaaGreatDoor.Instr
namespace Go.Proofs.YtckdnhafookcgaaGreatDoor.Mod
end Go.Proofs.YtckdnhafookcgaaGreatDoor.Mod
namespace Go.Proofs.YtckdnhafookcgaaGreatDoor.Stk
end Go.Proofs.YtckdnhafookcgaaGreatDoor.Stk
namespace Go.Proofs.YtckdnhafookcgaaGreatDoor.Val
open Go.RowKit Go.Shelf Go.Proofs.YtckdnhafookcgaaGreatDoor.Instr Go.Proofs.YtckdnhafookcgaaGreatDoor.Mod
set_option linter.unusedVariables false

/-- What is wrong, and where. -/
structure Wr where
  e : Int
  s : Int
  i : Int
  a : Int
def Wr.v (r : Wr) : Array Value := #[.int .i64 r.e, .int .i64 r.s, .int .i64 r.i, .int .i64 r.a]
/-- Of n items from the k-th on: the first that is wrong. -/
def scanI (m : Md) (j : Nat) : Nat → Nat → Option Wr
  | _, 0 => none
  | k, n + 1 => if (secE m j k).1 = 0 then scanI m j (k + 1) n else some ⟨(secE m j k).1, secN j, k, (secE m j k).2⟩
/-- Of c sections from the j-th on. -/
def scanS (m : Md) : Nat → Nat → Option Wr
  | _, 0 => none
  | j, c + 1 => match scanI m j 0 (secL m j) with
    | some r => some r
    | none => scanS m (j + 1) c
def wrongP (m : Md) : Wr := if m.check = 0 then (scanS m 0 8).getD ⟨0, 0, 0, 0⟩ else ⟨m.check, 0, 0, 0⟩
theorem scanS_hit {m : Md} {j c : Nat} {r : Wr} (h : scanI m j 0 (secL m j) = some r) : scanS m j (c + 1) = some r := by rw [scanS, h]
theorem scanS_miss {m : Md} {j c : Nat} (h : scanI m j 0 (secL m j) = none) : scanS m j (c + 1) = scanS m (j + 1) c := by rw [scanS, h]
theorem sec_enters (k : Nat) (hk : k < 8) : ∀ args w, (callFunc (secF k) args).run Tryz.prog w = .ok (.enter (secF k) args) w := by
  match k, hk with
  | 0, _ => exact enters_of Tryz.func137 (by kernel_rfl) rfl
  | 1, _ => exact enters_of Tryz.func139 (by kernel_rfl) rfl
  | 2, _ => exact enters_of Tryz.func140 (by kernel_rfl) rfl
  | 3, _ => exact enters_of Tryz.func142 (by kernel_rfl) rfl
  | 4, _ => exact enters_of Tryz.func144 (by kernel_rfl) rfl
  | 5, _ => exact enters_of Tryz.func146 (by kernel_rfl) rfl
  | 6, _ => exact enters_of Tryz.func148 (by kernel_rfl) rfl
  | 7, _ => exact enters_of Tryz.func149 (by kernel_rfl) rfl
theorem sec_m (gm gn bm : Nat) (m : Md) (j k : Nat) (hj : j < 8) (W : World) (h : Sx gm gn bm m W) (hf : m.few) (hfi : Fine m) (hrg : Rg m) (hk : k < secL m j) :
    Calls Tryz.prog (secF j) (#[.int .i64 k] ++ secB gm gn j) W fun e w' => e = .returned (.tuple #[.int .i64 (secE m j k).1, .int .i64 (secE m j k).2]) ∧ Below W.heap.size W w' := by
  match j, hj, hk with
  | 0, _, hk => exact sec0_m gm gn bm m k W h hf hfi hrg hk
  | 1, _, hk => exact sec1_m gm gn bm m k W h hf hfi hrg hk
  | 2, _, hk => exact sec2_m gm gn bm m k W h hf hfi hrg hk
  | 3, _, hk => exact sec3_m gm gn bm m k W h hf hfi hrg hk
  | 4, _, hk => exact sec4_m gm gn bm m k W h hf hfi hrg hk
  | 5, _, hk => exact sec5_m gm gn bm m k W h hf hfi hrg hk
  | 6, _, hk => exact sec6_m gm gn bm m k W h hf hfi hrg hk
  | 7, _, hk => exact sec7_m gm gn bm m k W h hf hfi hrg hk
theorem secL_le {m : Md} (hf : m.few) (j : Nat) : secL m j ≤ 1000000 := by
  have h := hf.lens
  unfold secL
  split <;> (try split) <;> omega
/-- A box of four numbers. -/
def Bx4 (W : World) (g : Nat) (r : Wr) : Prop := W.heap[g]? = some (.cells r.v 80 (0, 0))
theorem Bx4.lt {W : World} {g : Nat} {r : Wr} (h : Bx4 W g r) : g < W.heap.size := (Array.getElem?_eq_some_iff.1 h).1
theorem Bx4.on {W W' : World} {g : Nat} {r : Wr} (h : Bx4 W g r) (hb : Below W.heap.size W W') : Bx4 W' g r := (hb.block g h.lt).trans h
theorem Bx4.c {W : World} {g : Nat} {r : Wr} (h : Bx4 W g r) : W.cell? ⟨g, 0, none⟩ = some (.int .i64 r.e) ∧ W.cell? ⟨g, 1, none⟩ = some (.int .i64 r.s) ∧ W.cell? ⟨g, 2, none⟩ = some (.int .i64 r.i) ∧ W.cell? ⟨g, 3, none⟩ = some (.int .i64 r.a) ∧
    W.frozen? ⟨g, 0, none⟩ = false ∧ W.frozen? ⟨g, 1, none⟩ = false ∧ W.frozen? ⟨g, 2, none⟩ = false ∧ W.frozen? ⟨g, 3, none⟩ = false :=
  ⟨cell_of_row W g 0 _ _ _ h, cell_of_row W g 1 _ _ _ h, cell_of_row W g 2 _ _ _ h, cell_of_row W g 3 _ _ _ h, frozen_of_row W g 0 _ _ h, frozen_of_row W g 1 _ _ h, frozen_of_row W g 2 _ _ h, frozen_of_row W g 3 _ _ h⟩
theorem Bx4.set {W : World} {g : Nat} {r : Wr} (h : Bx4 W g r) (x y z t : Int) : Bx4 ((((W.setCell ⟨g, 0, none⟩ (.int .i64 x)).setCell ⟨g, 1, none⟩ (.int .i64 y)).setCell ⟨g, 2, none⟩ (.int .i64 z)).setCell ⟨g, 3, none⟩ (.int .i64 t)) g ⟨x, y, z, t⟩ :=
  heap_setCell_same _ g 3 _ _ _ (heap_setCell_same _ g 2 _ _ _ (heap_setCell_same _ g 1 _ _ _ (heap_setCell_same W g 0 _ _ _ h)))
theorem results_w {fn : Func} {p : Tmp} (h : fn.results = #[.cell p 80]) (tmps : Array Value) (w : World) (g : Nat) {r : Wr} (hp : tmps.getD p undef = .pointer (some ⟨g, 0, none⟩)) (hb : Bx4 w g r) :
    (results fn tmps).run Tryz.prog w = .ok (.agg r.v) w := by
  have hp' : tmps[p]?.getD undef = .pointer (some ⟨g, 0, none⟩) := by simpa using hp
  simp [results, h, hp', asAddr, run_loadVar_row w g _ 80 _ _ _ hb Tryz.underlying80 rfl (by kernel_rfl)]
def CheckP (m : Md) (w : World) (e : Ending) (w' : World) : Prop := e = .returned (.agg (wrongP m).v) ∧ Below w.heap.size w w'
set_option maxRecDepth 100000 in
set_option maxHeartbeats 4000000 in
theorem Check_m (m : Md) (w : World) (hm : ModAt w.heap.size w m) (hf : m.few) (hrg : Rg m) (hT : Nams w) (hU : Utf.Tabs w) (hA : Num.Arit w) : Calls Tryz.prog 30 #[.agg m.v] w (CheckP m w) := by
  obtain ⟨W0, hW0⟩ : ∃ W0, W0 = (w.alloc (.cells m.v 32)).alloc (.cells #[.int .i64 0, .int .i64 0, .int .i64 0, .int .i64 0] 80) := ⟨_, rfl⟩
  have hb0 : Below w.heap.size w W0 := by rw [hW0]; exact thenA (thenA (Below.refl _ _) _) _
  have hbx : BoxAt W0 w.heap.size m.v := by rw [hW0]; exact (BoxAt.made w m.v _).keep (belowAlloc _ _)
  have hr : Bx4 W0 (w.heap.size + 1) ⟨0, 0, 0, 0⟩ := by rw [hW0]; have := heap_alloc_new (w.alloc (.cells m.v 32)) (.cells #[.int .i64 0, .int .i64 0, .int .i64 0, .int .i64 0] 80); rw [World.size_alloc] at this; exact this
  have HX := hid hbx
  have HB := hid hb0
  have HR := hid hr
  have HM := hid (hm.on hb0)
  have HF := hid hf
  have HRG := hid hrg
  have HT := hid (hT.below hb0)
  have HAR := hid (hA.below hb0)
  have C := hid (ModCheck_any m W0 (hT.below hb0) (hU.below hb0) (hm.on hb0) hf)
  have HFI := hid (fun h => fine_of (m := m) h)
  have HE : Hid (wrongP m = if m.check = 0 then (scanS m 0 8).getD ⟨0, 0, 0, 0⟩ else ⟨m.check, 0, 0, 0⟩) := rfl
  obtain ⟨ck, hck⟩ : ∃ c, m.check = c := ⟨_, rfl⟩
  rw [hck] at C HFI HE
  obtain ⟨v0, v1, v2, v3, v4, v5, v6, v7, v8, v9, v10, hv⟩ : ∃ v0 v1 v2 v3 v4 v5 v6 v7 v8 v9 v10, m.v = #[v0, v1, v2, v3, v4, v5, v6, v7, v8, v9, v10] := ⟨_, _, _, _, _, _, _, _, _, _, _, rfl⟩
  have CS := hid (fun w' hm' hT' hA' => sections_m m w' hm' hf hT' hA')
  rw [hv] at hW0 HX C CS ⊢
  obtain ⟨n0, n1, n2, n3, n4, n5, n6, n7, n8, n9, n10⟩ := BoxAt.mod HX.out
  clear hm hf hrg hT hU hA hb0 hbx hr hck hv
  go_enter Tryz.func30, Tryz.ntmps30
  go_upto_region 1 with fail
  rw [← hW0]
  clear hW0
  go_wp2_with fail
  refine C.out.mono ?_
  rintro e1 w1 ⟨rfl, hb1⟩
  have HX1 := hid (HX.out.keep hb1)
  have HB1 := hid (HB.out.trans (hb1.mono HB.out.size))
  have HR1 := hid (HR.out.on hb1)
  have HM1 := hid (HM.out.on hb1)
  have HT1 := hid (HT.out.below hb1)
  have HA1 := hid (HAR.out.below hb1)
  clear C hb1 n0 n1 n2 n3 n4 n5 n6 n7 n8 n9 n10 HX HB HR HM HT HAR
  by_cases hc : ck = 0
  · subst hc
    have HW := hid (show wrongP m = (scanS m 0 8).getD ⟨0, 0, 0, 0⟩ by rw [HE.out, if_pos rfl])
    have HFN := hid (HFI.out rfl)
    obtain ⟨n0, n1, n2, n3, n4, n5, n6, n7, n8, n9, n10⟩ := BoxAt.mod HX1.out
    have C2 := hid (CS.out w1 HM1.out HT1.out HA1.out)
    clear HE HFI CS
    go_wp2_with fail
    refine C2.out.mono ?_
    rintro e2 w2 ⟨gs, gm, gn, bm, rfl, hs2, hx2, hb2⟩
    have HB2 := hid (HB1.out.trans (hb2.mono HB1.out.size))
    have HR2 := hid (HR1.out.on hb2)
    have HS2 := hid hs2
    have HX2 := hid hx2
    clear C2 hs2 hx2 hb2 n0 n1 n2 n3 n4 n5 n6 n7 n8 n9 n10 HX1 HB1 HR1 HM1 HT1 HA1
    go_wp2
    go_loopw [18] (fun vi wr => ∃ j : Nat, vi = .int .i64 j ∧ j ≤ 8 ∧ Hid (scanS m 0 8 = scanS m j (8 - j)) ∧ Hid (SecsAt gs gm gn m wr) ∧ Hid (Sx gm gn bm m wr) ∧ Hid (Bx4 wr (w.heap.size + 1) ⟨0, 0, 0, 0⟩) ∧ Hid (Below w.heap.size w wr)) (fun vi _ => 8 - (intOf vi).toNat)
    case atStart => exact ⟨0, rfl, Nat.zero_le _, rfl, HS2, HX2, HR2, HB2⟩
    case round =>
      clear HB2 HR2 HS2 HX2
      obtain ⟨j, rfl, hj, HQ, HS, HX, HR, HB⟩ := hrel
      by_cases hlt : j < 8
      · have hji : (j : Int) < 8 := by omega
        obtain ⟨s0, s1, s2⟩ := HS.out j hlt
        have HLE := hid (secL_le HF.out j)
        have HL8 := hid hlt
        have eg := sec_enters j hlt
        have HCC := hid (fun k hk W hx => sec_m gm gn bm m j k hlt W hx HF.out HFN.out HRG.out hk)
        obtain ⟨L, hL⟩ : ∃ L, secL m j = L := ⟨_, rfl⟩
        obtain ⟨N, hN⟩ : ∃ N, secN j = N := ⟨_, rfl⟩
        obtain ⟨G, hG⟩ : ∃ G, secF j = G := ⟨_, rfl⟩
        obtain ⟨cb, hcb⟩ : ∃ L, secB gm gn j = L := ⟨_, rfl⟩
        rw [hL] at s1 HLE HCC
        rw [hN] at s0
        rw [hG] at s2 eg HCC
        rw [hcb] at s2 HCC
        have HLL := hid hL
        have HNN := hid hN
        clear hL hN hG hcb hlt
        go_upto_region 7 with fail
        have hA : Below wr.heap.size wr (wr.alloc (.cells #[.int .i64 N, .int .i64 L, .func (.func G) #[] cb] 143)) := (Below.refl _ _).alloc (Nat.le_refl _) _
        have b0 : (wr.alloc (.cells #[.int .i64 N, .int .i64 L, .func (.func G) #[] cb] 143)).cell? ⟨wr.heap.size, 0, none⟩ = some (.int .i64 N) := by simp [go_sem]
        have b1 : (wr.alloc (.cells #[.int .i64 N, .int .i64 L, .func (.func G) #[] cb] 143)).cell? ⟨wr.heap.size, 1, none⟩ = some (.int .i64 L) := by simp [go_sem]
        have b2 : (wr.alloc (.cells #[.int .i64 N, .int .i64 L, .func (.func G) #[] cb] 143)).cell? ⟨wr.heap.size, 2, none⟩ = some (.func (.func G) #[] cb) := by simp [go_sem]
        obtain ⟨u1, hu1⟩ : ∃ u, u = wr.alloc (.cells #[.int .i64 N, .int .i64 L, .func (.func G) #[] cb] 143) := ⟨_, rfl⟩
        rw [← hu1] at hA b0 b1 b2 ⊢
        obtain ⟨gx, hgx⟩ : ∃ gx, gx = wr.heap.size := ⟨_, rfl⟩
        rw [← hgx] at b0 b1 b2 ⊢
        replace HS := hid (HS.out.on hA)
        replace HX := hid (HX.out.on hA)
        replace HR := hid (HR.out.on hA)
        replace HB := hid (HB.out.trans (hA.mono HB.out.size))
        have K0 := hid b0
        have K2 := hid b2
        clear hu1 hgx hA b0 b2 s0 s1 s2
        go_wp2
        clear b1
        go_loopw [24] (fun vi wr' => ∃ k : Nat, vi = .int .i64 k ∧ k ≤ L ∧ Hid (scanI m j 0 L = scanI m j k (L - k)) ∧ Hid (SecsAt gs gm gn m wr') ∧ Hid (Sx gm gn bm m wr') ∧ Hid (Bx4 wr' (w.heap.size + 1) ⟨0, 0, 0, 0⟩) ∧ Hid (Below w.heap.size w wr') ∧ Hid (wr'.cell? ⟨gx, 0, none⟩ = some (.int .i64 N)) ∧ Hid (wr'.cell? ⟨gx, 2, none⟩ = some (.func (.func G) #[] cb))) (fun vi _ => L - (intOf vi).toNat)
        case atStart => exact ⟨0, rfl, Nat.zero_le _, rfl, HS, HX, HR, HB, K0, K2⟩
        case round =>
          clear HS HX HR HB K0 K2
          obtain ⟨k, rfl, hk, HI, HS, HX, HR, HB, K0, K2⟩ := hrel
          by_cases hlk : k < L
          · have hki : (k : Int) < (L : Int) := by omega
            have hLb : L ≤ 1000000 := HLE.out
            have C3 := hid (HCC.out k hlk wr HX.out)
            obtain ⟨q, hq⟩ : ∃ q, secE m j k = q := ⟨_, rfl⟩
            rw [hq] at C3
            have HSQ := hid hq
            obtain ⟨q1, q2⟩ := q
            simp only at C3
            have b0 := K0.out
            have b2 := K2.out
            have HLK := hid hlk
            clear hq hlk
            by_cases hz : q1 = 0
            · subst hz
              go_wp2_with (go_at_fn G; refine C3.out.mono ?_; rintro e3 u3 ⟨rfl, hb3⟩; clear b0 b2)
              have HB3 := hid (HB.out.trans (hb3.mono HB.out.size))
              have HS3 := hid (HS.out.on hb3)
              have HX3 := hid (HX.out.on hb3)
              have HR3 := hid (HR.out.on hb3)
              have K03 := hid (Go.Proofs.YtckdnhafookcgaaGreatDoor.keep hb3 K0.out)
              have K23 := hid (Go.Proofs.YtckdnhafookcgaaGreatDoor.keep hb3 K2.out)
              go_roundw
              case rel =>
                refine ⟨k + 1, by go_num, by have := HLK.out; omega, hid ?_, HS3, HX3, HR3, HB3, K03, K23⟩
                rw [HI.out]
                have : L - k = (L - (k + 1)) + 1 := by have := HLK.out; omega
                rw [this, scanI, HSQ.out, if_pos rfl]
              case measure => simp [intOf]; have := HLK.out; omega
            · have hzb : (q1 == 0) = false := by simpa using hz
              have HV := hid (show wrongP m = ⟨q1, N, k, q2⟩ by
                have h1 : scanI m j 0 (secL m j) = some ⟨q1, N, k, q2⟩ := by
                  rw [HLL.out, HI.out]
                  have : L - k = (L - (k + 1)) + 1 := by have := HLK.out; omega
                  rw [this, scanI, HSQ.out, if_neg hz, HNN.out]
                have h2 : 8 - j = (8 - (j + 1)) + 1 := by have := HL8.out; omega
                rw [HW.out, HQ.out, h2, scanS_hit h1]; rfl)
              go_wp2_with (go_at_fn G; refine C3.out.mono ?_; rintro e3 u3 ⟨rfl, hb3⟩; have b03 := Go.Proofs.YtckdnhafookcgaaGreatDoor.keep hb3 K0.out; obtain ⟨c0, c1, c2, c3, f0, f1, f2, f3⟩ := (HR.out.on hb3).c)
              have HB3 := hid (HB.out.trans (hb3.mono HB.out.size))
              have HR3 := hid (HR.out.on hb3)
              exact bodyPost_ret (results_w Tryz.results30 _ _ (w.heap.size + 1) rfl (HR3.out.set q1 N k q2)) rfl ⟨by rw [HV.out], (((HB3.out.setCell (by simp) _).setCell (by simp) _).setCell (by simp) _).setCell (by simp) _⟩
          · obtain rfl : L = k := by omega
            have hn : scanI m j 0 (secL m j) = none := by
              rw [HLL.out, HI.out, Nat.sub_self]; rfl
            have h2 : 8 - j = (8 - (j + 1)) + 1 := by have := HL8.out; omega
            have HQ2 := hid (show scanS m 0 8 = scanS m (j + 1) (8 - (j + 1)) by rw [HQ.out, h2, scanS_miss hn])
            clear hn h2
            go_wp2
            go_roundw
            case rel => exact ⟨j + 1, by go_num, by have := HL8.out; omega, HQ2, HS, HX, HR, HB⟩
            case measure => simp [intOf]; have := HL8.out; omega
      · obtain rfl : j = 8 := by omega
        have HV := hid (show wrongP m = ⟨0, 0, 0, 0⟩ by rw [HW.out, HQ.out]; rfl)
        obtain ⟨c0, c1, c2, c3, f0, f1, f2, f3⟩ := HR.out.c
        go_wp2
        exact bodyPost_ret (results_w Tryz.results30 _ _ (w.heap.size + 1) rfl (HR.out.set 0 0 0 0)) rfl ⟨by rw [HV.out], (((HB.out.setCell (by simp) _).setCell (by simp) _).setCell (by simp) _).setCell (by simp) _⟩
  · have HV := hid (show wrongP m = ⟨ck, 0, 0, 0⟩ by rw [HE.out, if_neg hc])
    have hcb : (ck == 0) = false := by simpa using hc
    obtain ⟨c0, c1, c2, c3, f0, f1, f2, f3⟩ := HR1.out.c
    clear HE HFI CS
    go_wp2
    exact bodyPost_ret (results_w Tryz.results30 _ _ (w.heap.size + 1) rfl (HR1.out.set ck 0 0 0)) rfl ⟨by rw [HV.out], (((HB1.out.setCell (by simp) _).setCell (by simp) _).setCell (by simp) _).setCell (by simp) _⟩
def BodyQ (m : Md) (n : Int) (w : World) (e : Ending) (w' : World) : Prop := e = .returned (.tuple #[.int .i64 (Md.body m n).1, .int .i64 (Md.body m n).2]) ∧ Below w.heap.size w w'
set_option maxRecDepth 100000 in
set_option maxHeartbeats 2000000 in
theorem Body_m (m : Md) (n : Int) (w : World) (hm : ModAt w.heap.size w m) (hf : m.few) (hT : Nams w) (hU : Utf.Tabs w) (hA : Num.Arit w) : Calls Tryz.prog 38 #[.agg m.v, .int .i64 n] w (BodyQ m n w) := by
  obtain ⟨W0, hW0⟩ : ∃ W0, W0 = w.alloc (.cells m.v 32) := ⟨_, rfl⟩
  have hb0 : Below w.heap.size w W0 := by rw [hW0]; exact thenA (Below.refl _ _) _
  have hbx : BoxAt W0 w.heap.size m.v := by rw [hW0]; exact BoxAt.made w m.v _
  have HX := hid hbx
  have HB := hid hb0
  have HM := hid (hm.on hb0)
  have HF := hid hf
  have HAR := hid (hA.below hb0)
  have C := hid (ModCheck_any m W0 (hT.below hb0) (hU.below hb0) (hm.on hb0) hf)
  have HFI := hid (fun h => fine_of (m := m) h)
  have HE : Hid (Md.body m n = if m.check ≠ 0 then (m.check, 0) else if n < 0 ∨ (m.fu.length : Int) ≤ n then (6, 0) else Md.bodyP m n.toNat) := rfl
  have CB := hid (fun k w' hm' hA' hfi hk => bodyError_m m k w' hm' hA' hf hfi hk)
  obtain ⟨ck, hck⟩ : ∃ c, m.check = c := ⟨_, rfl⟩
  rw [hck] at C HFI HE
  obtain ⟨v0, v1, v3, v4, v5, v6, v7, v8, v9, v10, hv⟩ : ∃ v0 v1 v3 v4 v5 v6 v7 v8 v9 v10, m.v = #[v0, v1, .slice m.fu'.a m.fu.length m.fu'.c, v3, v4, v5, v6, v7, v8, v9, v10] := ⟨_, _, _, _, _, _, _, _, _, _, rfl⟩
  have bfu := hf.fit.fu
  rw [hv] at hW0 HX C CB ⊢
  obtain ⟨n0, n1, n2, n3, n4, n5, n6, n7, n8, n9, n10⟩ := BoxAt.mod HX.out
  clear hm hf hT hU hA hb0 hbx hck hv
  go_enter Tryz.func38, Tryz.ntmps38
  go_upto_region 1 with fail
  rw [← hW0]
  clear hW0
  go_wp2_with fail
  refine C.out.mono ?_
  rintro e1 w1 ⟨rfl, hb1⟩
  have HX1 := hid (HX.out.keep hb1)
  have HB1 := hid (HB.out.trans (hb1.mono HB.out.size))
  have HM1 := hid (HM.out.on hb1)
  have HA1 := hid (HAR.out.below hb1)
  clear C hb1 n0 n1 n2 n3 n4 n5 n6 n7 n8 n9 n10 HX HB HM HAR
  by_cases hc : ck = 0
  · subst hc
    have HFN := hid (HFI.out rfl)
    obtain ⟨n0, n1, n2, n3, n4, n5, n6, n7, n8, n9, n10⟩ := BoxAt.mod HX1.out
    by_cases h1 : n < 0
    · have HV := hid (show Md.body m n = (6, 0) by rw [HE.out, if_neg (by simp), if_pos (.inl h1)])
      clear HE HFI CB
      go_wp2
      go_ret2
      exact ⟨by rw [HV.out]; rfl, HB1.out⟩
    by_cases h2 : (m.fu.length : Int) ≤ n
    · have HV := hid (show Md.body m n = (6, 0) by rw [HE.out, if_neg (by simp), if_pos (.inr h2)])
      clear HE HFI CB
      go_wp2
      go_ret2
      exact ⟨by rw [HV.out]; rfl, HB1.out⟩
    · obtain ⟨k, rfl⟩ : ∃ k : Nat, n = k := ⟨n.toNat, by omega⟩
      have HV := hid (show Md.body m k = Md.bodyP m k by rw [HE.out, if_neg (by simp), if_neg (by omega)]; simp)
      have C2 := hid (CB.out k w1 HM1.out HA1.out HFN.out (by omega))
      unfold BodyP at C2
      obtain ⟨q, hq⟩ : ∃ q, Md.bodyP m k = q := ⟨_, rfl⟩
      rw [hq] at C2 HV
      clear HE HFI CB hq
      go_wp2_with fail
      refine C2.out.mono ?_
      rintro e2 w2 ⟨rfl, hb2⟩
      have HB2 := hid (HB1.out.trans (hb2.mono HB1.out.size))
      clear C2 hb2 n0 n1 n2 n3 n4 n5 n6 n7 n8 n9 n10
      go_wp2
      go_ret2
      exact ⟨by rw [HV.out]; rfl, HB2.out⟩
  · have HV := hid (show Md.body m n = (ck, 0) by rw [HE.out, if_pos hc])
    have hcb : (ck == 0) = false := by simpa using hc
    clear HE HFI CB
    go_wp2
    go_ret2
    exact ⟨by rw [HV.out]; rfl, HB1.out⟩
end Go.Proofs.YtckdnhafookcgaaGreatDoor.Val

namespace Go.Proofs.YtckdnhafookcgaaGreatDoor.Val
open Go.RowKit Go.Proofs.YtckdnhafookcgaaGreatDoor.Instr Go.Proofs.YtckdnhafookcgaaGreatDoor.Mod
set_option linter.unusedVariables false

/-- An error stays. -/
theorem failS_er {e : Int} {s : St} (h : s.er ≠ 0) : failS e s = s := if_neg h
theorem pushS_er {e : Int} {s : St} (h : s.er ≠ 0) : pushS e s = s := if_neg h
theorem popS_er {e : Int} {s : St} (h : s.er ≠ 0) : popS e s = s := if_neg h
theorem deadS_er {s : St} (h : s.er ≠ 0) : deadS s = s := if_neg h
theorem enterS_er {o e : Int} {s : St} (h : s.er ≠ 0) : enterS o e s = s := if_neg h
theorem leaveS_er {e : Int} {s : St} (h : s.er ≠ 0) : leaveS e s = s := if_neg h
theorem labelS_er {n : Int} {s : St} (h : s.er ≠ 0) : labelS n s = (0, s) := if_neg h
theorem tagsS_er (k : Int) : ∀ (l : List Int) (b : Bool) (s : St), s.er ≠ 0 → (tagsS k l b s).2 = s
  | [], b, s, h => rfl
  | t :: r, b, s, h => by rw [tagsS, labelS_er h]; exact tagsS_er k r _ s h
theorem tableS_er {l : List Int} {n : Int} {s : St} (h : s.er ≠ 0) : tableS l n s = s := by
  unfold tableS
  rw [labelS_er h]
  simp only [tagsS_er _ _ _ _ h, failS_er h, ite_self]
theorem brS_er {n : Int} {s : St} (h : s.er ≠ 0) : brS n s = s := by unfold brS; rw [labelS_er h]; simp only [popS_er h, deadS_er h]
theorem brIfS_er {n : Int} {s : St} (h : s.er ≠ 0) : brIfS n s = s := by unfold brIfS; rw [labelS_er h]; simp only [popS_er h, pushS_er h]
theorem callS_er {t : Int × Int} {s : St} (h : s.er ≠ 0) : callS t s = s := by unfold callS; rw [popS_er h, pushS_er h]
theorem listS_er {m : Md} {lo re : Int} {t : Il} {s : St} (h : s.er ≠ 0) : listS m lo re t s = s := by unfold listS; rw [runS_er _ _ _ _ _ h, leaveS_er h]
theorem opS_er {m : Md} {re : Int} {x : Ix} {L E : St → St} {s : St} (hL : ∀ s, s.er ≠ 0 → L s = s) (hE : ∀ s, s.er ≠ 0 → E s = s) (h : s.er ≠ 0) : opS m re x L E s = s := by
  have hb : s.back s = s := rfl
  unfold opS
  split; · exact deadS_er h
  split; · rw [enterS_er h]; exact hL s h
  split; · unfold eitherS; rw [popS_er h, enterS_er h, hL s h, hb, enterS_er h]; exact hE s h
  split; · rw [tableS_er h, popS_er h]; exact brS_er h
  split; · exact brS_er h
  split; · exact brIfS_er h
  split; · rw [popS_er h]; exact deadS_er h
  split; · rw [popS_er h]; exact callS_er h
  split; · exact callS_er h
  rw [popS_er h]; exact pushS_er h

end Go.Proofs.YtckdnhafookcgaaGreatDoor.Val

namespace Go.Proofs.YtckdnhafookcgaaGreatDoor.Val
open Go.RowKit Go.Proofs.YtckdnhafookcgaaGreatDoor.Instr Go.Proofs.YtckdnhafookcgaaGreatDoor.Mod
open Go.Proofs.YtckdnhafookcgaaGreatDoor.Stk (Fr R pushR popR deadR enterR leaveR labelR newR valid lastF)
set_option linter.unusedVariables false

/-- A function's own frame, dead. -/
def F1 : List Fr := [⟨0, 0, 0, true⟩]
end Go.Proofs.YtckdnhafookcgaaGreatDoor.Val

namespace Go.Proofs.YtckdnhafookcgaaGreatDoor.Val
open Go.RowKit Go.Shelf Go.Proofs.YtckdnhafookcgaaGreatDoor.Instr Go.Proofs.YtckdnhafookcgaaGreatDoor.Mod
set_option linter.unusedVariables false

theorem eqWrong (a b c d x y z t : Int) (w : World) : (Op.equalIn 10000 80 (.agg #[.int .i64 a, .int .i64 b, .int .i64 c, .int .i64 d]) (.agg #[.int .i64 x, .int .i64 y, .int .i64 z, .int .i64 t])).run Tryz.prog w = .ok (a == x && b == y && c == z && d == t) w := by
  have u3 := Tryz.underlying3
  have a3 := Tryz.isAgg3
  have z3 := Tryz.sizeOf3
  have u4 := Tryz.underlying38
  have a4 := Tryz.isAgg38
  have z4 := Tryz.sizeOf38
  have hS : Tryz.prog.underlying 80 = some (.struct (Tryz.prog.fieldsOf 80)) := by kernel_rfl
  have hp : Tryz.prog.stoodInHeld 80 = false := by kernel_rfl
  rw [show (10000 : Nat) = 9999 + 1 from rfl, run_equalIn_agg w 9999 80 _ _ hS hp]
  simp only [Program.fieldsOf, Tryz.underlying80]
  go_simp
  by_cases h1 : a = x <;> by_cases h2 : b = y <;> by_cases h3 : c = z <;> by_cases h4 : d = t <;> simp [h1, h2, h3, h4]
theorem guardWrong (op : BinOp) (x y : Operand) (xs ys : Array Value) (w : World) : (eqGuard op 80 x y (.agg xs) (.agg ys)).run Tryz.prog w = .ok () w :=
  run_eqGuard_agg w op _ x y xs ys (by kernel_rfl)
/-- Rows in a block of their own. -/
theorem rows_box {W : World} {b sz : Nat} {rs : List (List Value)} (hb : b < W.heap.size) (hl : ∀ r ∈ rs, r.length = sz) (h : BoxAt W b (rs.flatten.toArray)) : Mod.Rows W.heap.size W (some ⟨b, 0, none⟩) sz rs :=
  .inr ⟨b, 0, rfl, hb, fun i hi j hj v hv => by
    have hf := Stk.flat_get rs hl i j hi hj
    rw [hv] at hf
    have := h (i * sz + j) v (by simpa using hf)
    simpa using this⟩
/-- Instructions, one behind the other, each with its lists. -/
def mkIl : List (Ix × Il × Il) → Il
  | [] => .nil
  | x :: r => .cons x.1 x.2.1 x.2.2 (mkIl r)
theorem mkIl_len : ∀ l : List (Ix × Il × Il), (mkIl l).len = l.length
  | [] => rfl
  | x :: r => by simp [mkIl, Il.len, mkIl_len r]
/-- What is asked of an instruction in a literal. -/
structure LitOk (n₀ : Nat) (W : World) (x : Ix × Il × Il) : Prop where
  ok : x.1.ok
  tags : TagsAt n₀ W x.1.ta x.1.tags
  l : x.2.1.len = x.1.ln ∧ (x.2.1 = .nil ∨ ∃ b' o', x.1.la = some ⟨b', o', none⟩ ∧ Items n₀ W b' o' x.2.1)
  e : x.2.2.len = x.1.en ∧ (x.2.2 = .nil ∨ ∃ b' o', x.1.ea = some ⟨b', o', none⟩ ∧ Items n₀ W b' o' x.2.2)
theorem items_of {n₀ : Nat} {W : World} {g : Nat} (hg : g < n₀) : ∀ (l : List (Ix × Il × Il)) (off : Nat), (∀ i (hi : i < l.length), ∀ j v, (l[i].1.vals)[j]? = some v → W.cell? ⟨g, off + i * 8 + j, none⟩ = some v) → (∀ x ∈ l, LitOk n₀ W x) → Items n₀ W g off (mkIl l)
  | [], _, _, _ => trivial
  | x :: r, off, h, hx => by
    have c : ∀ j v, (x.1.vals)[j]? = some v → W.cell? ⟨g, off + j, none⟩ = some v := fun j v hv => by have := h 0 (by simp) j v hv; simpa using this
    have hx0 := hx x (by simp)
    refine ⟨hg, hx0.ok, ⟨c 0 _ rfl, c 1 _ rfl, c 2 _ rfl, c 3 _ rfl, c 4 _ rfl, c 5 _ rfl, c 6 _ rfl, c 7 _ rfl⟩, hx0.tags, hx0.l, hx0.e, items_of hg r (off + 8) (fun i hi j v hv => ?_) (fun y hy => hx y (by simp [hy]))⟩
    have := h (i + 1) (by simp; omega) j v hv
    rw [show off + (i + 1) * 8 + j = off + 8 + i * 8 + j by omega] at this
    exact this
theorem list_box {W : World} {g : Nat} {l : List (Ix × Il × Il)} (hg : g < W.heap.size) (h : BoxAt W g ((l.map fun x => x.1.vals.toList).flatten.toArray)) (hx : ∀ x ∈ l, LitOk W.heap.size W x) : ListAt W.heap.size W (some ⟨g, 0, none⟩) l.length (mkIl l) := by
  refine ⟨mkIl_len l, .inr ⟨g, 0, rfl, items_of hg l 0 (fun i hi j v hv => ?_) hx⟩⟩
  have hlen : ∀ r ∈ l.map (fun x => x.1.vals.toList), r.length = 8 := by
    intro r hr
    obtain ⟨x, _, rfl⟩ := List.mem_map.1 hr
    rfl
  have hj : j < 8 := by
    rcases Nat.lt_or_ge j 8 with h | h
    · exact h
    · rw [Array.getElem?_eq_none (by show 8 ≤ j; exact h)] at hv; cases hv
  have hf := Stk.flat_get (l.map fun x => x.1.vals.toList) hlen i j (by simpa using hi) hj
  have hgd : (l.map fun x => x.1.vals.toList).getD i [] = l[i].1.vals.toList := by simp [hi]
  rw [hgd] at hf
  have := h (i * 8 + j) v (by rw [List.getElem?_toArray, hf]; simpa using hv)
  simpa using this
/-- A function of one word to one, with these instructions. -/
def ofM (g : Nat) (l : Lst) : Md where
  ty := [(1, 1)]
  im := []
  fu := [⟨0, 0, l⟩]
  tb := []
  me := []
  gl := []
  ex := []
  st := false
  sn := 0
  el := []
  da := []
  ty' := ⟨some ⟨g, 0, none⟩, 1⟩
  im' := ⟨none, 0⟩
  fu' := ⟨some ⟨g + 1, 0, none⟩, 1⟩
  tb' := ⟨none, 0⟩
  me' := ⟨none, 0⟩
  gl' := ⟨none, 0⟩
  ex' := ⟨none, 0⟩
  el' := ⟨none, 0⟩
  da' := ⟨none, 0⟩
theorem of_few (g : Nat) (l : Lst) (hn : l.t.len ≤ 140737488351232) (hc : l.t.count ≤ 1000000) : (ofM g l).few := by
  have hcs : ∀ x ∈ (ofM g l).codes, x = l := by simp [ofM, Md.codes]
  refine ⟨⟨by simp [ofM], by simp [ofM], by simp [ofM], by simp [ofM], by simp [ofM], by simp [ofM], by simp [ofM], by simp [ofM], by simp [ofM], fun x hx => by rw [hcs x hx]; exact hn, by simp [ofM], by simp [ofM], by simp [ofM], by simp [ofM]⟩, fun x hx => by rw [hcs x hx]; exact hc, by simp [ofM]⟩
theorem of_at {g : Nat} {l : Lst} {W : World} (h0 : BoxAt W g #[.int .i64 1, .int .i64 1]) (h1 : BoxAt W (g + 1) #[.int .i64 0, .int .i64 0, l.val]) (hL : ListAt W.heap.size W l.a l.t.len l.t) : ModAt W.heap.size W (ofM g l) := by
  have hcs : ∀ x ∈ (ofM g l).codes, x = l := by simp [ofM, Md.codes]
  have l0 := World.block_lt_of_cell? W _ (h0 0 _ rfl)
  have l1 := World.block_lt_of_cell? W _ (h1 0 _ rfl)
  exact ⟨rows_box l0 (by simp [ofM, tyV]) h0, .inl rfl, rows_box l1 (by simp [ofM, Mod.Fn.v]) h1, .inl rfl, .inl rfl, .inl rfl, .inl rfl, .inl rfl, .inl rfl, fun x hx => by rw [hcs x hx]; exact hL, by simp [ofM], by simp [ofM]⟩
theorem chain3 (w : World) (A0 A1 A2 : Array Value) (t0 t1 t2 : TypeId) : ∃ W, (((w.alloc (.cells A0 t0)).alloc (.cells A1 t1)).alloc (.cells A2 t2)) = W ∧ (BoxAt W (w.heap.size) A0 ∧ BoxAt W (w.heap.size + 1) A1 ∧ BoxAt W (w.heap.size + 1 + 1) A2) ∧ Below w.heap.size w W := by
  refine ⟨_, rfl, ⟨?_, ?_, ?_⟩, thenA (thenA (thenA (Below.refl _ _) _) _) _⟩ <;> (intro j x h; simp [go_sem, h])
theorem chain8 (w : World) (A0 A1 A2 A3 A4 A5 A6 A7 : Array Value) (t0 t1 t2 t3 t4 t5 t6 t7 : TypeId) : ∃ W, ((((((((w.alloc (.cells A0 t0)).alloc (.cells A1 t1)).alloc (.cells A2 t2)).alloc (.cells A3 t3)).alloc (.cells A4 t4)).alloc (.cells A5 t5)).alloc (.cells A6 t6)).alloc (.cells A7 t7)) = W ∧ (BoxAt W (w.heap.size) A0 ∧ BoxAt W (w.heap.size + 1) A1 ∧ BoxAt W (w.heap.size + 1 + 1) A2 ∧ BoxAt W (w.heap.size + 1 + 1 + 1) A3 ∧ BoxAt W (w.heap.size + 1 + 1 + 1 + 1) A4 ∧ BoxAt W (w.heap.size + 1 + 1 + 1 + 1 + 1) A5 ∧ BoxAt W (w.heap.size + 1 + 1 + 1 + 1 + 1 + 1) A6 ∧ BoxAt W (w.heap.size + 1 + 1 + 1 + 1 + 1 + 1 + 1) A7) ∧ Below w.heap.size w W := by
  refine ⟨_, rfl, ⟨?_, ?_, ?_, ?_, ?_, ?_, ?_, ?_⟩, thenA (thenA (thenA (thenA (thenA (thenA (thenA (thenA (Below.refl _ _) _) _) _) _) _) _) _) _⟩ <;> (intro j x h; simp [go_sem, h])
def OfP (g : Nat) (l : Lst) (w : World) (e : Ending) (w' : World) : Prop := e = .returned (.tuple #[.int .i64 (Md.body (ofM g l) 0).1, .int .i64 (Md.body (ofM g l) 0).2]) ∧ Below w.heap.size w w'
set_option maxRecDepth 100000 in
set_option maxHeartbeats 2000000 in
theorem of_m (l : Lst) (w : World) (hL : ListAt w.heap.size w l.a l.t.len l.t) (hn : l.t.len ≤ 140737488351232) (hc : l.t.count ≤ 1000000) (hT : Nams w) (hU : Utf.Tabs w) (hA : Num.Arit w) :
    Calls Tryz.prog 73 #[.slice l.a l.t.len l.c] w (OfP w.heap.size l w) := by
  have HFW := hid (of_few w.heap.size l hn hc)
  have HL := hid hL
  have HT := hid hT
  have HU := hid hU
  have HA := hid hA
  clear hL hn hc hT hU hA
  go_enter Tryz.func73, Tryz.ntmps73
  go_upto_region 2 with fail
  obtain ⟨W1, hW1, ⟨b0, b1, b2⟩, hB⟩ := chain3 w #[.int .i64 1, .int .i64 1] #[.int .i64 0, .int .i64 0, .slice l.a l.t.len l.c] #[.slice (some ⟨w.heap.size, 0, none⟩) 1 1, .slice none 0 0, .slice (some ⟨w.heap.size + 1, 0, none⟩) 1 1, .slice none 0 0, .slice none 0 0, .slice none 0 0, .slice none 0 0, .bool false, .int .u32 0, .slice none 0 0, .slice none 0 0] 92 101 32
  rw [hW1]
  have hm : ModAt W1.heap.size W1 (ofM w.heap.size l) := of_at b0 b1 (HL.out.on hB)
  have CB := hid (Body_m (ofM w.heap.size l) 0 W1 hm HFW.out (HT.out.below hB) (HU.out.below hB) (HA.out.below hB))
  rw [show (ofM w.heap.size l).v = #[.slice (some ⟨w.heap.size, 0, none⟩) 1 1, .slice none 0 0, .slice (some ⟨w.heap.size + 1, 0, none⟩) 1 1, .slice none 0 0, .slice none 0 0, .slice none 0 0, .slice none 0 0, .bool false, .int .u32 0, .slice none 0 0, .slice none 0 0] from rfl] at CB
  unfold BodyQ at CB
  obtain ⟨q, hq⟩ : ∃ q, Md.body (ofM w.heap.size l) 0 = q := ⟨_, rfl⟩
  rw [hq] at CB
  have HQ := hid hq
  obtain ⟨n0, n1, n2, n3, n4, n5, n6, n7, n8, n9, n10⟩ := BoxAt.mod b2
  have HB := hid hB
  clear hm hq b0 b1 b2 hB hW1
  go_wp2_with fail
  refine CB.out.mono ?_
  rintro e2 w2 ⟨rfl, hb2⟩
  have HB2 := hid (HB.out.trans (hb2.mono HB.out.size))
  clear CB hb2 n0 n1 n2 n3 n4 n5 n6 n7 n8 n9 n10
  go_wp2
  go_ret2
  exact ⟨by rw [HQ.out]; rfl, HB2.out⟩
def getI (n : Int) : Ix := ⟨32, 0, n, 0, 0, [], none, 0, none, 0, 0, none, 0, 0⟩
theorem get_m (n : Int) (w : World) : Calls Tryz.prog 74 #[.int .u32 n] w fun e w' => e = .returned (.agg (getI n).vals) ∧ Below w.heap.size w w' := by
  go_enter Tryz.func74, Tryz.ntmps74
  go_wp2
  refine bodyPost_ret (v := .agg (getI n).vals) (by simp [results, Tryz.results74, go_sem, getI, Ix.vals]) rfl ⟨rfl, thenA (Below.refl _ _) _⟩
def constI : Ix := ⟨65, 0, 0, 0, 0, [], none, 0, none, 0, 0, none, 0, 0⟩
def richL (g : Nat) : Lst := ⟨some ⟨g + 1, 0, none⟩, 1, mkIl [(constI, .nil, .nil)]⟩
def sHost : ByteArray := ⟨#[104, 111, 115, 116]⟩
def sF : ByteArray := ⟨#[102]⟩
/-- The module with something of each kind; its box is block g. -/
def richM (g : Nat) : Md where
  ty := [(1, 1), (0, 0)]
  im := [⟨sHost, sF, 0⟩]
  fu := [⟨1, 0, ⟨none, 0, .nil⟩⟩]
  tb := [⟨1, 0, false⟩]
  me := [⟨1, 0, false⟩]
  gl := [⟨true, richL g⟩, ⟨false, richL g⟩]
  ex := []
  st := false
  sn := 0
  el := []
  da := []
  ty' := ⟨some ⟨g + 1 + 1, 0, none⟩, 2⟩
  im' := ⟨some ⟨g + 1 + 1 + 1, 0, none⟩, 1⟩
  fu' := ⟨some ⟨g + 1 + 1 + 1 + 1, 0, none⟩, 1⟩
  tb' := ⟨some ⟨g + 1 + 1 + 1 + 1 + 1, 0, none⟩, 1⟩
  me' := ⟨some ⟨g + 1 + 1 + 1 + 1 + 1 + 1, 0, none⟩, 1⟩
  gl' := ⟨some ⟨g + 1 + 1 + 1 + 1 + 1 + 1 + 1, 0, none⟩, 2⟩
  ex' := ⟨none, 0⟩
  el' := ⟨none, 0⟩
  da' := ⟨none, 0⟩
theorem rich_codes (g : Nat) : ∀ l ∈ (richM g).codes, l = ⟨none, 0, .nil⟩ ∨ l = richL g := by
  intro l hl
  simp [richM, Md.codes] at hl
  exact hl
theorem rich_few (g : Nat) : (richM g).few := by
  refine ⟨⟨by simp [richM], by simp [richM], by simp [richM], by simp [richM], by simp [richM], by simp [richM], by simp [richM], by simp [richM], by simp [richM], fun l hl => ?_, by simp [richM], by simp [richM], fun i hi => ?_, by simp [richM]⟩, fun l hl => ?_, by simp [richM]⟩
  · rcases rich_codes g l hl with rfl | rfl <;> simp [richL, mkIl, Il.len]
  · simp only [richM, List.mem_singleton] at hi; subst hi; decide
  · rcases rich_codes g l hl with rfl | rfl <;> simp [richL, mkIl, Il.count]
theorem rich_rg (g : Nat) : Rg (richM g) := ⟨by simp [richM], by simp [richM], by simp [richM]⟩
theorem constI_ok : constI.ok := by constructor <;> simp [constI]
theorem rich_wrong (g : Nat) : wrongP (richM g) = ⟨0, 0, 0, 0⟩ := by kernel_rfl
theorem rich_at {g : Nat} {W : World} (b1 : BoxAt W (g + 1) constI.vals) (b2 : BoxAt W (g + 1 + 1) #[.int .i64 1, .int .i64 1, .int .i64 0, .int .i64 0]) (b3 : BoxAt W (g + 1 + 1 + 1) #[.string sHost, .string sF, .int .i64 0]) (b4 : BoxAt W (g + 1 + 1 + 1 + 1) #[.int .i64 1, .int .i64 0, .slice none 0 0])
    (b5 : BoxAt W (g + 1 + 1 + 1 + 1 + 1) #[.int .u32 1, .int .u32 0, .bool false]) (b6 : BoxAt W (g + 1 + 1 + 1 + 1 + 1 + 1) #[.int .u32 1, .int .u32 0, .bool false]) (b7 : BoxAt W (g + 1 + 1 + 1 + 1 + 1 + 1 + 1) #[.bool true, .slice (some ⟨g + 1, 0, none⟩) 1 1, .bool false, .slice (some ⟨g + 1, 0, none⟩) 1 1]) :
    ModAt W.heap.size W (richM g) := by
  have l : ∀ {b v}, BoxAt W b v → v[0]?.isSome → b < W.heap.size := fun {b v} h h0 => by
    obtain ⟨x, hx⟩ := Option.isSome_iff_exists.1 h0
    exact World.block_lt_of_cell? W ⟨b, 0, none⟩ (h 0 x hx)
  refine ⟨rows_box (l b2 rfl) (by simp [richM, tyV]) b2, rows_box (l b3 rfl) (by simp [richM, Imp.v]) b3, rows_box (l b4 rfl) (by simp [richM, Mod.Fn.v]) b4, rows_box (l b5 rfl) (by simp [richM, Li.v]) b5, rows_box (l b6 rfl) (by simp [richM, Li.v]) b6, rows_box (l b7 rfl) (by simp [richM, Gl.v]) b7, .inl rfl, .inl rfl, .inl rfl, fun x hx => ?_, by simp [richM], by simp [richM]⟩
  rcases rich_codes g x hx with rfl | rfl
  · exact ⟨rfl, .inl rfl⟩
  · exact list_box (l := [(constI, .nil, .nil)]) (l b1 rfl) b1 (fun x hx => by
      obtain rfl := List.mem_singleton.1 hx
      exact ⟨constI_ok, .inl rfl, ⟨rfl, .inl rfl⟩, ⟨rfl, .inl rfl⟩⟩)
def RichP (g : Nat) (w : World) (e : Ending) (w' : World) : Prop := e = .returned (.agg (richM g).v) ∧ ModAt w'.heap.size w' (richM g) ∧ Below w.heap.size w w'
set_option maxRecDepth 100000 in
set_option maxHeartbeats 2000000 in
theorem rich_m (w : World) : Calls Tryz.prog 37 #[] w (RichP w.heap.size w) := by
  go_enter Tryz.func37, Tryz.ntmps37
  go_wp2
  obtain ⟨W, hW, ⟨b0, b1, b2, b3, b4, b5, b6, b7⟩, hB⟩ := chain8 w #[.slice (some ⟨w.heap.size + 1 + 1, 0, none⟩) 2 2, .slice (some ⟨w.heap.size + 1 + 1 + 1, 0, none⟩) 1 1, .slice (some ⟨w.heap.size + 1 + 1 + 1 + 1, 0, none⟩) 1 1, .slice (some ⟨w.heap.size + 1 + 1 + 1 + 1 + 1, 0, none⟩) 1 1, .slice (some ⟨w.heap.size + 1 + 1 + 1 + 1 + 1 + 1, 0, none⟩) 1 1, .slice (some ⟨w.heap.size + 1 + 1 + 1 + 1 + 1 + 1 + 1, 0, none⟩) 2 2, .slice none 0 0, .bool false, .int .u32 0, .slice none 0 0, .slice none 0 0] #[.int .i64 65, .int .i64 0, .int .u32 0, .int .u32 0, .int .i32 0, .slice none 0 0, .slice none 0 0, .slice none 0 0] #[.int .i64 1, .int .i64 1, .int .i64 0, .int .i64 0] #[.string ⟨#[104, 111, 115, 116]⟩, .string ⟨#[102]⟩, .int .i64 0] #[.int .i64 1, .int .i64 0, .slice none 0 0] #[.int .u32 1, .int .u32 0, .bool false] #[.int .u32 1, .int .u32 0, .bool false] #[.bool true, .slice (some ⟨w.heap.size + 1, 0, none⟩) 1 1, .bool false, .slice (some ⟨w.heap.size + 1, 0, none⟩) 1 1] 32 105 92 90 101 83 83 94
  rw [hW]
  have hat : ModAt W.heap.size W (richM w.heap.size) := rich_at b1 b2 b3 b4 b5 b6 b7
  have HAT := hid hat
  have HB := hid hB
  obtain ⟨n0, n1, n2, n3, n4, n5, n6, n7, n8, n9, n10⟩ := BoxAt.mod b0
  clear hat hB b0 b1 b2 b3 b4 b5 b6 b7 hW
  refine bodyPost_ret (v := .agg (richM w.heap.size).v) (by simp [results, Tryz.results37, go_sem, richM, Md.v, n0, n1, n2, n3, n4, n5, n6, n7, n8, n9, n10]) rfl ⟨rfl, HAT.out, HB.out⟩
end Go.Proofs.YtckdnhafookcgaaGreatDoor.Val

namespace Go.Proofs.YtckdnhafookcgaaGreatDoor.Val
open Go.RowKit Go.Proofs.YtckdnhafookcgaaGreatDoor.Instr Go.Proofs.YtckdnhafookcgaaGreatDoor.Mod
open Go.Proofs.YtckdnhafookcgaaGreatDoor.Stk (Fr R pushR popR deadR enterR leaveR labelR newR valid lastF)
set_option linter.unusedVariables false

def deI : Ix := ⟨0, 0, 0, 0, 0, [], none, 0, none, 0, 0, none, 0, 0⟩
def drI : Ix := ⟨26, 0, 0, 0, 0, [], none, 0, none, 0, 0, none, 0, 0⟩
def tail3 : Il := .cons deI .nil .nil (.cons drI .nil .nil (.cons drI .nil .nil .nil))
def t5 (x : Ix) : Il := .cons deI .nil .nil (.cons x .nil .nil tail3)
end Go.Proofs.YtckdnhafookcgaaGreatDoor.Val

namespace Go.Proofs.YtckdnhafookcgaaGreatDoor.Val
open Go.RowKit Go.Shelf Go.Proofs.YtckdnhafookcgaaGreatDoor.Instr Go.Proofs.YtckdnhafookcgaaGreatDoor.Mod
set_option linter.unusedVariables false

theorem chain8o (w : World) (A0 A1 A2 A3 A4 A5 A6 A7 : Array Value) (t0 t1 t2 t3 t4 t5 t6 t7 : TypeId) : ∃ W, ((((((((w.alloc (.cells A0 t0)).alloc (.cells A1 t1)).alloc (.cells A2 t2)).alloc (.cells A3 t3)).alloc (.cells A4 t4)).alloc (.cells A5 t5)).alloc (.cells A6 t6)).alloc (.cells A7 t7)) = W ∧ (BoxAt W (w.heap.size) A0 ∧ BoxAt W (w.heap.size + 1) A1 ∧ BoxAt W (w.heap.size + 1 + 1) A2 ∧ BoxAt W (w.heap.size + 1 + 1 + 1) A3 ∧ BoxAt W (w.heap.size + 1 + 1 + 1 + 1) A4 ∧ BoxAt W (w.heap.size + 1 + 1 + 1 + 1 + 1) A5 ∧ BoxAt W (w.heap.size + 1 + 1 + 1 + 1 + 1 + 1) A6 ∧ BoxAt W (w.heap.size + 1 + 1 + 1 + 1 + 1 + 1 + 1) A7) ∧ Below w.heap.size w W ∧ W.heap[w.heap.size + 1 + 1]? = some (.cells A2 t2 (0, 0)) ∧ W.heap[w.heap.size + 1 + 1 + 1 + 1]? = some (.cells A4 t4 (0, 0)) := by
  obtain ⟨W, h1, h2, h3⟩ := chain8 w A0 A1 A2 A3 A4 A5 A6 A7 t0 t1 t2 t3 t4 t5 t6 t7
  refine ⟨W, h1, h2, h3, ?_, ?_⟩
  · rw [← h1]
    have e : w.heap.size + 1 + 1 = ((w.alloc (.cells A0 t0)).alloc (.cells A1 t1)).heap.size := by simp
    rw [e]
    have hn := heap_alloc_new ((w.alloc (.cells A0 t0)).alloc (.cells A1 t1)) (.cells A2 t2)
    have hlt := (Array.getElem?_eq_some_iff.1 hn).1
    have hb := thenA (thenA (thenA (thenA (thenA (Below.refl (((w.alloc (.cells A0 t0)).alloc (.cells A1 t1)).alloc (.cells A2 t2)).heap.size _) (.cells A3 t3)) (.cells A4 t4)) (.cells A5 t5)) (.cells A6 t6)) (.cells A7 t7)
    exact (hb.block _ hlt).trans hn
  · rw [← h1]
    have e : w.heap.size + 1 + 1 + 1 + 1 = ((((w.alloc (.cells A0 t0)).alloc (.cells A1 t1)).alloc (.cells A2 t2)).alloc (.cells A3 t3)).heap.size := by simp
    rw [e]
    have hn := heap_alloc_new ((((w.alloc (.cells A0 t0)).alloc (.cells A1 t1)).alloc (.cells A2 t2)).alloc (.cells A3 t3)) (.cells A4 t4)
    have hlt := (Array.getElem?_eq_some_iff.1 hn).1
    have hb := thenA (thenA (thenA (Below.refl (((((w.alloc (.cells A0 t0)).alloc (.cells A1 t1)).alloc (.cells A2 t2)).alloc (.cells A3 t3)).alloc (.cells A4 t4)).heap.size _) (.cells A5 t5)) (.cells A6 t6)) (.cells A7 t7)
    exact (hb.block _ hlt).trans hn
/-- What lies in rich()'s other blocks. -/
structure RichB (g : Nat) (W : World) : Prop where
  b1 : BoxAt W (g + 1) constI.vals
  b3 : BoxAt W (g + 1 + 1 + 1) #[.string sHost, .string sF, .int .i64 0]
  b5 : BoxAt W (g + 1 + 1 + 1 + 1 + 1) #[.int .u32 1, .int .u32 0, .bool false]
  b6 : BoxAt W (g + 1 + 1 + 1 + 1 + 1 + 1) #[.int .u32 1, .int .u32 0, .bool false]
  b7 : BoxAt W (g + 1 + 1 + 1 + 1 + 1 + 1 + 1) #[.bool true, .slice (some ⟨g + 1, 0, none⟩) 1 1, .bool false, .slice (some ⟨g + 1, 0, none⟩) 1 1]
theorem box_save {W W' : World} {k b : Nat} {v : Array Value} (h : BoxAt W b v) (hs : Save k W W') (hk : b ≠ k) : BoxAt W' b v := fun j x hj => hs.cell hk (h j x hj)
theorem RichB.save {g k : Nat} {W W' : World} (h : RichB g W) (hs : Save k W W') (h1 : g + 1 ≠ k) (h3 : g + 1 + 1 + 1 ≠ k) (h5 : g + 1 + 1 + 1 + 1 + 1 ≠ k) (h6 : g + 1 + 1 + 1 + 1 + 1 + 1 ≠ k) (h7 : g + 1 + 1 + 1 + 1 + 1 + 1 + 1 ≠ k) : RichB g W' :=
  ⟨box_save h.b1 hs h1, box_save h.b3 hs h3, box_save h.b5 hs h5, box_save h.b6 hs h6, box_save h.b7 hs h7⟩
theorem RichB.below {g : Nat} {W W' : World} (h : RichB g W) (hb : Below W.heap.size W W') : RichB g W' := ⟨h.b1.keep hb, h.b3.keep hb, h.b5.keep hb, h.b6.keep hb, h.b7.keep hb⟩
theorem save_grown {W W' : World} {k : Nat} (h : W.grownBy W' (some k)) : Save k W W' := ⟨h.os, h.tape, h.output, h.size, fun j hj hne => h.block j hj (by simpa using hne)⟩
/-- A row stays where another block is written; rows of unlike types are not one block. -/
theorem own_save {e : TypeId} {sz base k : Nat} {W W' : World} {v : Value} {rs : List (List Value)} (h : Stk.OwnR e sz base W v rs) (hs : Save k W W') (hk : ∀ b, v.ownBlock = some b → b ≠ k) : Stk.OwnR e sz base W' v rs := by
  refine ⟨⟨h.row.1, ?_⟩, h.len⟩
  rcases h.row.2 with h0 | ⟨b, cap, cur, rfl, h1, h2, h3, h4, h5, h6⟩
  · exact .inl h0
  · exact .inr ⟨b, cap, cur, rfl, h1, (hs.block b (Array.getElem?_eq_some_iff.1 h2).1 (hk b rfl)).trans h2, h3, h4, h5, h6⟩
theorem own_ne {e : TypeId} {sz base k : Nat} {W : World} {v : Value} {rs : List (List Value)} {cs : Array Value} {t : TypeId} {fr : Nat × Nat} (h : Stk.OwnR e sz base W v rs) (hk : W.heap[k]? = some (.cells cs t fr)) (hne : e ≠ t) : ∀ b, v.ownBlock = some b → b ≠ k := by
  intro b hb hbk
  subst hbk
  rcases h.row.2 with ⟨rfl, _⟩ | ⟨b', cap, cur, rfl, h1, h2, h3, h4, h5, h6⟩
  · cases hb
  · simp only [Value.ownBlock, Option.some.injEq] at hb
    subst hb
    rw [h2] at hk
    simp only [Option.some.injEq, Obj.cells.injEq] at hk
    exact hne hk.2.1
/-- rich(), and its rows. -/
def RichO (g : Nat) (w : World) (e : Ending) (w' : World) : Prop := e = .returned (.agg (richM g).v) ∧ RichB g w' ∧ Below w.heap.size w w' ∧
  Stk.OwnR 92 2 g w' (.slice (some ⟨g + 1 + 1, 0, none⟩) 2 2) [[.int .i64 1, .int .i64 1], [.int .i64 0, .int .i64 0]] ∧ Stk.OwnR 101 3 g w' (.slice (some ⟨g + 1 + 1 + 1 + 1, 0, none⟩) 1 1) [[.int .i64 1, .int .i64 0, .slice none 0 0]]
set_option maxRecDepth 100000 in
set_option maxHeartbeats 2000000 in
theorem rich_o (w : World) : Calls Tryz.prog 37 #[] w (RichO w.heap.size w) := by
  go_enter Tryz.func37, Tryz.ntmps37
  go_wp2
  obtain ⟨W, hW, ⟨b0, b1, b2, b3, b4, b5, b6, b7⟩, hB, h2, h4⟩ := chain8o w #[.slice (some ⟨w.heap.size + 1 + 1, 0, none⟩) 2 2, .slice (some ⟨w.heap.size + 1 + 1 + 1, 0, none⟩) 1 1, .slice (some ⟨w.heap.size + 1 + 1 + 1 + 1, 0, none⟩) 1 1, .slice (some ⟨w.heap.size + 1 + 1 + 1 + 1 + 1, 0, none⟩) 1 1, .slice (some ⟨w.heap.size + 1 + 1 + 1 + 1 + 1 + 1, 0, none⟩) 1 1, .slice (some ⟨w.heap.size + 1 + 1 + 1 + 1 + 1 + 1 + 1, 0, none⟩) 2 2, .slice none 0 0, .bool false, .int .u32 0, .slice none 0 0, .slice none 0 0] #[.int .i64 65, .int .i64 0, .int .u32 0, .int .u32 0, .int .i32 0, .slice none 0 0, .slice none 0 0, .slice none 0 0] #[.int .i64 1, .int .i64 1, .int .i64 0, .int .i64 0] #[.string ⟨#[104, 111, 115, 116]⟩, .string ⟨#[102]⟩, .int .i64 0] #[.int .i64 1, .int .i64 0, .slice none 0 0] #[.int .u32 1, .int .u32 0, .bool false] #[.int .u32 1, .int .u32 0, .bool false] #[.bool true, .slice (some ⟨w.heap.size + 1, 0, none⟩) 1 1, .bool false, .slice (some ⟨w.heap.size + 1, 0, none⟩) 1 1] 32 105 92 90 101 83 83 94
  rw [hW]
  have o2 : Stk.OwnR 92 2 w.heap.size W (.slice (some ⟨w.heap.size + 1 + 1, 0, none⟩) 2 2) [[.int .i64 1, .int .i64 1], [.int .i64 0, .int .i64 0]] :=
    ⟨⟨rfl, .inr ⟨_, 2, _, rfl, by omega, h2, by simp, by unfold maxLen; omega, rfl, rfl⟩⟩, by simp⟩
  have o4 : Stk.OwnR 101 3 w.heap.size W (.slice (some ⟨w.heap.size + 1 + 1 + 1 + 1, 0, none⟩) 1 1) [[.int .i64 1, .int .i64 0, .slice none 0 0]] :=
    ⟨⟨rfl, .inr ⟨_, 1, _, rfl, by omega, h4, by simp, by unfold maxLen; omega, rfl, rfl⟩⟩, by simp⟩
  have hat : RichB w.heap.size W := ⟨b1, b3, b5, b6, b7⟩
  have HAT := hid hat
  have HB := hid hB
  have O2 := hid o2
  have O4 := hid o4
  obtain ⟨n0, n1, n2, n3, n4, n5, n6, n7, n8, n9, n10⟩ := BoxAt.mod b0
  clear hat hB b0 b1 b2 b3 b4 b5 b6 b7 hW h2 h4 o2 o4
  refine bodyPost_ret (v := .agg (richM w.heap.size).v) (by simp [results, Tryz.results37, go_sem, richM, Md.v, n0, n1, n2, n3, n4, n5, n6, n7, n8, n9, n10]) rfl ⟨rfl, HAT.out, HB.out, O2.out, O4.out⟩
end Go.Proofs.YtckdnhafookcgaaGreatDoor.Val

namespace Go.Proofs.YtckdnhafookcgaaGreatDoor.Val
open Go.RowKit Go.Shelf Go.Proofs.YtckdnhafookcgaaGreatDoor.Instr Go.Proofs.YtckdnhafookcgaaGreatDoor.Mod
set_option linter.unusedVariables false

/-- The tables. -/
structure Tb (w : World) : Prop where
  nt : Nams w
  ut : Utf.Tabs w
  ar : Num.Arit w
theorem Tb.on {w w' : World} (h : Tb w) (hb : Below w.heap.size w w') : Tb w' := ⟨h.nt.below hb, h.ut.below hb, h.ar.below hb⟩
theorem of_list (xs : List (Ix × Il × Il)) (b n c : Nat) (w : World) (r : Int × Int) (hT : Tb w) (h : BoxAt w b ((xs.map fun x => x.1.vals.toList).flatten.toArray)) (hb : b < w.heap.size) (hx : ∀ x ∈ xs, LitOk w.heap.size w x) (hc : (mkIl xs).count ≤ 1000000) (hn : xs.length = n) (hn2 : n ≤ 1000) (hr : ∀ g, Md.body (ofM g ⟨some ⟨b, 0, none⟩, c, mkIl xs⟩) 0 = r) :
    Calls Tryz.prog 73 #[.slice (some ⟨b, 0, none⟩) n c] w fun e w' => e = .returned (.tuple #[.int .i64 r.1, .int .i64 r.2]) ∧ Below w.heap.size w w' := by
  have hl : (mkIl xs).len = n := (mkIl_len xs).trans hn
  have hL := list_box hb h hx
  have := of_m ⟨some ⟨b, 0, none⟩, c, mkIl xs⟩ w (by show ListAt _ _ _ (mkIl xs).len _; rw [hl, ← hn]; exact hL) (by show (mkIl xs).len ≤ _; omega) hc hT.nt hT.ut hT.ar
  simp only [hl] at this
  refine this.mono fun e w' h => ?_
  unfold OfP at h
  rw [hr] at h
  exact h
theorem of_none (w : World) (hT : Tb w) : Calls Tryz.prog 73 #[.slice none 0 0] w fun e w' => e = .returned (.tuple #[.int .i64 200, .int .i64 0]) ∧ Below w.heap.size w w' := by
  refine (of_m ⟨none, 0, .nil⟩ w ⟨rfl, .inl rfl⟩ (by decide) (by decide) hT.nt hT.ut hT.ar).mono fun e w' h => ?_
  unfold OfP at h
  rw [show ∀ g, Md.body (ofM g ⟨none, 0, .nil⟩) 0 = (200, 0) from fun g => by kernel_rfl] at h
  exact h
theorem check_rich (g : Nat) (w : World) (hm : ModAt w.heap.size w (richM g)) (hT : Tb w) : Calls Tryz.prog 30 #[.agg (richM g).v] w fun e w' => e = .returned (.agg #[.int .i64 0, .int .i64 0, .int .i64 0, .int .i64 0]) ∧ Below w.heap.size w w' := by
  refine (Check_m (richM g) w hm (rich_few g) (rich_rg g) hT.nt hT.ut hT.ar).mono fun e w' h => ?_
  unfold CheckP at h
  rw [rich_wrong] at h
  exact h
theorem get_ok (n₀ : Nat) (W : World) (n : Int) (hn : 0 ≤ n ∧ n < 4294967296) : LitOk n₀ W (getI n, .nil, .nil) := ⟨by constructor <;> simp [getI] <;> omega, .inl rfl, ⟨rfl, .inl rfl⟩, ⟨rfl, .inl rfl⟩⟩
theorem get0_body (b c g : Nat) : Md.body (ofM g ⟨some ⟨b, 0, none⟩, c, mkIl [(getI 0, .nil, .nil)]⟩) 0 = (0, 0) := by kernel_rfl
theorem get1_body (b c g : Nat) : Md.body (ofM g ⟨some ⟨b, 0, none⟩, c, mkIl [(getI 1, .nil, .nil)]⟩) 0 = (6, 1) := by kernel_rfl
set_option maxRecDepth 100000 in
set_option maxHeartbeats 2000000 in
theorem awake_m (w : World) (hT : Tb w) : Calls Tryz.prog 33 #[] w fun e w' => e = .returned (.bool true) ∧ Below w.heap.size w w' := by
  have HT := hid hT
  have q1 := eqWrong
  have q2 := guardWrong
  clear hT
  go_enter Tryz.func33, Tryz.ntmps33
  go_wp2_with fail
  refine (get_m 0 _).mono ?_
  rintro e w1 ⟨rfl, hb1⟩
  have HB1 := hid hb1
  clear hb1
  have C1 := hid (of_list [(getI 0, .nil, .nil)] w1.heap.size 1 1 (w1.alloc (.cells (getI 0).vals 105)) (0, 0) ((HT.out.on HB1.out).on (belowAlloc _ _)) (BoxAt.made w1 (getI 0).vals _) (by simp) (fun x hx => by obtain rfl := List.mem_singleton.1 hx; exact get_ok _ _ 0 (by omega)) (by decide) rfl (by omega) (fun g => get0_body _ _ g))
  unfold getI Ix.vals at C1
  go_wp2_with fail
  refine C1.out.mono ?_
  rintro e w2 ⟨rfl, hb2⟩
  have HB2 := hid (thenB HB1.out (thenB (belowAlloc w1 _) hb2))
  clear C1 hb2 HB1
  go_wp2_with fail
  refine (get_m 1 _).mono ?_
  rintro e w3 ⟨rfl, hb3⟩
  have HB3 := hid (thenB HB2.out hb3)
  clear hb3 HB2
  have C2 := hid (of_list [(getI 1, .nil, .nil)] w3.heap.size 1 1 (w3.alloc (.cells (getI 1).vals 105)) (6, 1) ((HT.out.on HB3.out).on (belowAlloc _ _)) (BoxAt.made w3 (getI 1).vals _) (by simp) (fun x hx => by obtain rfl := List.mem_singleton.1 hx; exact get_ok _ _ 1 (by omega)) (by decide) rfl (by omega) (fun g => get1_body _ _ g))
  unfold getI Ix.vals at C2
  go_wp2_with fail
  refine C2.out.mono ?_
  rintro e w4 ⟨rfl, hb4⟩
  have HB4 := hid (thenB HB3.out (thenB (belowAlloc w3 _) hb4))
  clear C2 hb4 HB3
  have C3 := hid (of_none w4 (HT.out.on HB4.out))
  go_wp2_with fail
  refine C3.out.mono ?_
  rintro e w5 ⟨rfl, hb5⟩
  have HB5 := hid (thenB HB4.out hb5)
  clear C3 hb5 HB4
  go_wp2_with fail
  refine (rich_m _).mono ?_
  rintro e w6 ⟨rfl, hm6, hb6⟩
  have HB6 := hid (thenB HB5.out hb6)
  have C4 := hid (check_rich _ w6 hm6 (HT.out.on HB6.out))
  clear hm6 hb6 HB5
  go_wp2_with fail
  refine C4.out.mono ?_
  rintro e w7 ⟨rfl, hb7⟩
  have HB7 := hid (thenB HB6.out hb7)
  clear C4 hb7 HB6
  go_wp2
  go_ret
  exact ⟨rfl, HB7.out⟩
end Go.Proofs.YtckdnhafookcgaaGreatDoor.Val

namespace Go.Proofs.YtckdnhafookcgaaGreatDoor.Val
open Go.RowKit Go.Shelf Go.Proofs.YtckdnhafookcgaaGreatDoor.Instr Go.Proofs.YtckdnhafookcgaaGreatDoor.Mod
set_option linter.unusedVariables false

def NB (W : World) (g : Nat) (v : Array Value) : Prop := W.heap[g]? = some (.cells v 32 (0, 0))
theorem NB.lt {W : World} {g : Nat} {v : Array Value} (b : NB W g v) : g < W.heap.size := (Array.getElem?_eq_some_iff.1 b).1
theorem NB.made (W : World) (v : Array Value) : NB (W.alloc (.cells v 32)) W.heap.size v := heap_alloc_new W _
theorem NB.below {W W' : World} {g : Nat} {v : Array Value} (b : NB W g v) (hb : Below W.heap.size W W') : NB W' g v := (hb.block g b.lt).trans b
theorem NB.c {W : World} {g : Nat} {v : Array Value} (b : NB W g v) (j : Nat) : W.cell? ⟨g, j, none⟩ = v[j]? := cell_of_row W g j _ _ _ b
theorem NB.f {W : World} {g : Nat} {v : Array Value} (b : NB W g v) (j : Nat) : W.frozen? ⟨g, j, none⟩ = false := frozen_of_row W g j _ _ b
theorem NB.box {W : World} {g : Nat} {v : Array Value} (b : NB W g v) : BoxAt W g v := fun j x h => (b.c j).trans h
theorem NB.set {W : World} {g : Nat} {v : Array Value} (b : NB W g v) (j : Nat) (x : Value) : NB (W.setCell ⟨g, j, none⟩ x) g (v.set! j x) := heap_setCell_same W g j _ _ _ b
theorem NB.fs {W : World} {g : Nat} {v : Array Value} (b : NB W g v) : W.frozen? ⟨g, 0, none⟩ = false ∧ W.frozen? ⟨g, 1, none⟩ = false ∧ W.frozen? ⟨g, 2, none⟩ = false ∧ W.frozen? ⟨g, 3, none⟩ = false ∧ W.frozen? ⟨g, 4, none⟩ = false ∧ W.frozen? ⟨g, 5, none⟩ = false ∧
    W.frozen? ⟨g, 6, none⟩ = false ∧ W.frozen? ⟨g, 7, none⟩ = false ∧ W.frozen? ⟨g, 8, none⟩ = false ∧ W.frozen? ⟨g, 9, none⟩ = false ∧ W.frozen? ⟨g, 10, none⟩ = false := ⟨b.f 0, b.f 1, b.f 2, b.f 3, b.f 4, b.f 5, b.f 6, b.f 7, b.f 8, b.f 9, b.f 10⟩
theorem NB.cs {W : World} {g : Nat} {v0 v1 v2 v3 v4 v5 v6 v7 v8 v9 v10 : Value} (b : NB W g #[v0, v1, v2, v3, v4, v5, v6, v7, v8, v9, v10]) : W.cell? ⟨g, 0, none⟩ = some v0 ∧ W.cell? ⟨g, 1, none⟩ = some v1 ∧ W.cell? ⟨g, 2, none⟩ = some v2 ∧ W.cell? ⟨g, 3, none⟩ = some v3 ∧ W.cell? ⟨g, 4, none⟩ = some v4 ∧ W.cell? ⟨g, 5, none⟩ = some v5 ∧
    W.cell? ⟨g, 6, none⟩ = some v6 ∧ W.cell? ⟨g, 7, none⟩ = some v7 ∧ W.cell? ⟨g, 8, none⟩ = some v8 ∧ W.cell? ⟨g, 9, none⟩ = some v9 ∧ W.cell? ⟨g, 10, none⟩ = some v10 := ⟨b.c 0, b.c 1, b.c 2, b.c 3, b.c 4, b.c 5, b.c 6, b.c 7, b.c 8, b.c 9, b.c 10⟩
theorem infoFn : (Tryz.prog.info? 101).map (fun i => (i.zero, i.size, i.bytes)) = some (some (.agg #[.int .i64 0, .int .i64 0, .slice none 0 0]), 3, 40) := by kernel_rfl
end Go.Proofs.YtckdnhafookcgaaGreatDoor.Val
namespace Go.Proofs.YtckdnhafookcgaaGreatDoor
open Go.RowKit
end Go.Proofs.YtckdnhafookcgaaGreatDoor

namespace Go.Proofs.YtckdnhafookcgaaGreatDoor.Val
open Go.RowKit Go.Shelf Go.Proofs.YtckdnhafookcgaaGreatDoor.Instr Go.Proofs.YtckdnhafookcgaaGreatDoor.Mod
set_option linter.unusedVariables false

theorem infoFt : (Tryz.prog.info? 92).map (fun i => (i.zero, i.size, i.bytes)) = some (some (.agg #[.int .i64 0, .int .i64 0]), 2, 16) := by kernel_rfl
end Go.Proofs.YtckdnhafookcgaaGreatDoor.Val

namespace Go.Proofs.YtckdnhafookcgaaGreatDoor.Val
open Go.RowKit Go.Proofs.YtckdnhafookcgaaGreatDoor.Instr Go.Proofs.YtckdnhafookcgaaGreatDoor.Mod
open Go.Proofs.YtckdnhafookcgaaGreatDoor.Stk (Fr R pushR popR deadR enterR leaveR labelR newR lastF without wrongRe)
set_option linter.unusedVariables false

/-- The frames of the other run: as they are, or with a frame ahead. -/
def fB (c : Bool) (r : Int) (d : Bool) (rest : List Fr) : List Fr := if c then ⟨0, 0, r, false⟩ :: ⟨2, 0, r, d⟩ :: rest else ⟨0, 0, r, d⟩ :: rest
def SimR (c : Bool) (r : Int) (k : Nat) (h : Int) (l : List Fr) (h' : Int) (l' : List Fr) : Prop := h' = h ∧ ∃ (d d' : Bool) (rest : List Fr), l = ⟨0, 0, r, d⟩ :: rest ∧ l' = fB c r d' rest ∧ (d = true → d' = true) ∧ rest.length = k
def Sim (c : Bool) (r : Int) (k : Nat) (s s' : St) : Prop := s.er = 0 ∧ s'.er = 0 ∧ SimR c r k s.h s.l s'.h s'.l
theorem valid_sim {c : Bool} {r : Int} {k : Nat} {h h' : Int} {l l' : List Fr} (H : SimR c r k h l h' l') (hk : k ≤ 990) (hv : Stk.valid h l = true) : Stk.valid h' l' = true := by
  obtain ⟨rfl, d, d', rest, rfl, rfl, _, hl⟩ := H
  unfold Stk.valid at hv ⊢
  simp only [Bool.and_eq_true, decide_eq_true_eq, Bool.not_eq_true', Stk.badAll, Bool.or_eq_false_iff, decide_eq_false_iff_not, Stk.badFirst] at hv
  obtain ⟨⟨h1, h2⟩, h3, ⟨⟨h4, h5⟩, h6⟩, h7⟩ := hv
  cases c
  · simp only [fB, Bool.false_eq_true, if_false, Bool.and_eq_true, decide_eq_true_eq, Bool.not_eq_true', Stk.badAll, Bool.or_eq_false_iff, decide_eq_false_iff_not, Stk.badFirst]
    exact ⟨⟨h1, h2⟩, h3, ⟨⟨h4, h5⟩, h6⟩, h7⟩
  · simp only [fB, if_true, Bool.and_eq_true, decide_eq_true_eq, Bool.not_eq_true', Stk.badAll, Bool.or_eq_false_iff, decide_eq_false_iff_not, Stk.badFirst, Stk.badL, Stk.badF, List.length_cons]
    exact ⟨⟨h1, h2⟩, by omega, ⟨⟨h4, h5⟩, h6⟩, ⟨⟨⟨by decide, by omega⟩, by omega⟩, h6⟩, h7⟩
theorem lastF_cons {f : Fr} {l : List Fr} (h : l ≠ []) : lastF (f :: l) = lastF l := by
  have hl : 0 < l.length := List.length_pos_iff.2 h
  unfold lastF
  rw [List.length_cons, Nat.add_sub_cancel, List.getD_eq_getElem?_getD, List.getD_eq_getElem?_getD]
  obtain ⟨j, hj⟩ : ∃ j, l.length = j + 1 := ⟨l.length - 1, by omega⟩
  rw [hj, List.getElem?_cons_succ, Nat.add_sub_cancel]
theorem lastF_sim {c : Bool} {r : Int} {k : Nat} {h h' : Int} {l l' : List Fr} (H : SimR c r k h l h' l') : (lastF l').ba = (lastF l).ba ∧ (lastF l').re = (lastF l).re ∧ ((lastF l).de = true → (lastF l').de = true) := by
  obtain ⟨rfl, d, d', rest, rfl, rfl, hd, hl⟩ := H
  by_cases h0 : rest = []
  · subst h0
    cases c <;> exact ⟨rfl, rfl, hd⟩
  · have e1 := lastF_cons (f := ⟨0, 0, r, d⟩) h0
    have e2 : lastF (fB c r d' rest) = lastF rest := by
      cases c
      · exact lastF_cons h0
      · show lastF (_ :: _ :: rest) = _
        rw [lastF_cons (by simp), lastF_cons h0]
    rw [e1, e2]
    exact ⟨rfl, rfl, id⟩
theorem without_sim {h n : Int} {f f' : Fr} (hb : f'.ba = f.ba) (hd : f.de = true → f'.de = true) (h0 : (without h n f).2 = 0) : without h n f' = without h n f := by
  unfold without at h0 ⊢
  by_cases hc : h - f.ba < n ∧ f.de = false
  · rw [if_pos hc] at h0; exact absurd h0 (by decide)
  · rw [if_neg hc, hb, if_neg]
    rintro ⟨h1, h2⟩
    refine hc ⟨h1, ?_⟩
    cases hf : f.de
    · rfl
    · rw [hd hf] at h2; cases h2
theorem push_simR {c : Bool} {r : Int} {k : Nat} {n h h' : Int} {l l' : List Fr} (H : SimR c r k h l h' l') (hk : k ≤ 990) (h0 : (pushR h l n).e = 0) : SimR c r k (pushR h l n).h (pushR h l n).l (pushR h' l' n).h (pushR h' l' n).l ∧ (pushR h' l' n).e = 0 := by
  unfold pushR at h0 ⊢
  by_cases hv : Stk.valid h l = false
  · rw [if_pos hv] at h0; exact absurd h0 (by simp [Stk.bad])
  have hv' := valid_sim H hk (by simpa using hv)
  rw [if_neg hv] at h0 ⊢
  by_cases h1 : n < 0
  · rw [if_pos h1] at h0; exact absurd h0 (by simp [Stk.bad])
  rw [if_neg h1] at h0 ⊢
  by_cases h2 : 1073741824 - h < n
  · rw [if_pos h2] at h0; exact absurd h0 (by simp [Stk.bad])
  rw [if_neg h2, if_neg (by rw [hv']; simp), if_neg h1, if_neg (by rw [H.1]; exact h2)]
  exact ⟨⟨by rw [H.1], H.2⟩, rfl⟩
theorem pop_simR {c : Bool} {r : Int} {k : Nat} {n h h' : Int} {l l' : List Fr} (H : SimR c r k h l h' l') (hk : k ≤ 990) (h0 : (popR h l n).e = 0) : SimR c r k (popR h l n).h (popR h l n).l (popR h' l' n).h (popR h' l' n).l ∧ (popR h' l' n).e = 0 := by
  unfold popR at h0 ⊢
  by_cases hv : Stk.valid h l = false
  · rw [if_pos hv] at h0; exact absurd h0 (by simp [Stk.bad])
  have hv' := valid_sim H hk (by simpa using hv)
  rw [if_neg hv] at h0 ⊢
  by_cases h1 : n < 0
  · rw [if_pos h1] at h0; exact absurd h0 (by simp [Stk.bad])
  rw [if_neg h1] at h0 ⊢
  by_cases h2 : (without h n (lastF l)).2 = 0
  · obtain ⟨e1, _, e3⟩ := lastF_sim H
    have hw := without_sim e1 e3 h2
    rw [if_pos h2, if_neg (by rw [hv']; simp), if_neg h1, H.1, hw, if_pos h2]
    exact ⟨⟨rfl, H.2⟩, rfl⟩
  · rw [if_neg h2] at h0; exact absurd h0 h2
theorem dead_simR {c : Bool} {r : Int} {k : Nat} {h h' : Int} {l l' : List Fr} (H : SimR c r k h l h' l') (hk : k ≤ 990) (h0 : (deadR h l).e = 0) : SimR c r k (deadR h l).h (deadR h l).l (deadR h' l').h (deadR h' l').l ∧ (deadR h' l').e = 0 := by
  unfold deadR at h0 ⊢
  by_cases hv : Stk.valid h l = false
  · rw [if_pos hv] at h0; exact absurd h0 (by simp [Stk.bad])
  have hv' := valid_sim H hk (by simpa using hv)
  obtain ⟨e1, _, _⟩ := lastF_sim H
  rw [if_neg hv, if_neg (by rw [hv']; simp)]
  refine ⟨⟨e1, ?_⟩, rfl⟩
  obtain ⟨rfl, d, d', rest, rfl, rfl, hd, hl⟩ := H
  by_cases h1 : rest = []
  · subst h1
    refine ⟨true, true, [], rfl, ?_, id, hl⟩
    cases c <;> rfl
  · have hp : 0 < rest.length := List.length_pos_iff.2 h1
    obtain ⟨j, hj⟩ : ∃ j, rest.length = j + 1 := ⟨rest.length - 1, by omega⟩
    have q1 := lastF_cons (f := ⟨0, 0, r, d⟩) h1
    refine ⟨d, d', rest.set j { lastF rest with de := true }, ?_, ?_, hd, by simpa using hl⟩
    · show ((⟨0, 0, r, d⟩ :: rest : List Fr).set (rest.length + 1 - 1) _) = _
      rw [q1, hj, Nat.add_sub_cancel, List.set_cons_succ]
    · cases c
      · show ((⟨0, 0, r, d'⟩ :: rest : List Fr).set (rest.length + 1 - 1) { lastF (⟨0, 0, r, d'⟩ :: rest) with de := true }) = _
        rw [lastF_cons h1, hj, Nat.add_sub_cancel, List.set_cons_succ]; rfl
      · show ((⟨0, 0, r, false⟩ :: ⟨2, 0, r, d'⟩ :: rest : List Fr).set (rest.length + 1 + 1 - 1) { lastF (⟨0, 0, r, false⟩ :: ⟨2, 0, r, d'⟩ :: rest) with de := true }) = _
        rw [lastF_cons (by simp), lastF_cons h1, hj, Nat.add_sub_cancel, List.set_cons_succ, List.set_cons_succ]; rfl
theorem fB_append {c : Bool} {r : Int} {d : Bool} {rest m : List Fr} : fB c r d rest ++ m = fB c r d (rest ++ m) := by cases c <;> rfl
theorem fB_length {c : Bool} {r : Int} {d : Bool} {rest : List Fr} : (fB c r d rest).length ≤ rest.length + 2 ∧ rest.length + 1 ≤ (fB c r d rest).length := by cases c <;> simp [fB]
theorem enter_simR {c : Bool} {r : Int} {k : Nat} {op re h h' : Int} {l l' : List Fr} (H : SimR c r k h l h' l') (hk : k ≤ 990) (h0 : (enterR h l op re).e = 0) : SimR c r (k + 1) (enterR h l op re).h (enterR h l op re).l (enterR h' l' op re).h (enterR h' l' op re).l ∧ (enterR h' l' op re).e = 0 := by
  unfold enterR at h0 ⊢
  by_cases hv : Stk.valid h l = false
  · rw [if_pos hv] at h0; exact absurd h0 (by simp [Stk.bad])
  have hv' := valid_sim H hk (by simpa using hv)
  rw [if_neg hv] at h0 ⊢
  by_cases h1 : Stk.opens op = false ∨ wrongRe re = true
  · rw [if_pos h1] at h0; exact absurd h0 (by simp [Stk.bad])
  rw [if_neg h1] at h0 ⊢
  by_cases h2 : l.length = 1000
  · rw [if_pos h2] at h0; exact absurd h0 (by simp [Stk.bad])
  obtain ⟨rfl, d, d', rest, rfl, rfl, hd, hl⟩ := H
  rw [if_neg h2, if_neg (by rw [hv']; simp), if_neg h1, if_neg (by have := (fB_length (c := c) (r := r) (d := d') (rest := rest)).1; omega)]
  exact ⟨⟨rfl, d, d', rest ++ [⟨op, h', re, false⟩], rfl, fB_append, hd, by simp [hl]⟩, rfl⟩
theorem leave_simR {c : Bool} {r : Int} {k : Nat} {h h' : Int} {l l' : List Fr} (H : SimR c r (k + 1) h l h' l') (hk : k + 1 ≤ 990) (h0 : (leaveR h l).e = 0) : SimR c r k (leaveR h l).h (leaveR h l).l (leaveR h' l').h (leaveR h' l').l ∧ (leaveR h' l').e = 0 := by
  unfold leaveR at h0 ⊢
  by_cases hv : Stk.valid h l = false
  · rw [if_pos hv] at h0; exact absurd h0 (by simp [Stk.bad])
  have hv' := valid_sim H hk (by simpa using hv)
  obtain ⟨e1, e2, e3⟩ := lastF_sim H
  rw [if_neg hv] at h0 ⊢
  by_cases h1 : (without h (lastF l).re (lastF l)).2 = 0
  · have hw := without_sim (n := (lastF l).re) e1 e3 h1
    rw [if_neg (by simpa using h1)] at h0 ⊢
    by_cases h2 : (lastF l).ba < (without h (lastF l).re (lastF l)).1
    · rw [if_pos h2] at h0; exact absurd h0 (by simp [Stk.bad])
    rw [if_neg h2, if_neg (by rw [hv']; simp), e2, H.1, hw, if_neg (by simpa using h1), e1, if_neg h2]
    refine ⟨⟨rfl, ?_⟩, rfl⟩
    obtain ⟨rfl, d, d', rest, rfl, rfl, hd, hl⟩ := H
    refine ⟨d, d', rest.take k, ?_, ?_, hd, by simp [hl]⟩
    · show (⟨0, 0, r, d⟩ :: rest : List Fr).take (rest.length + 1 - 1) = _
      rw [hl, Nat.add_sub_cancel, List.take_succ_cons]
    · cases c
      · show (⟨0, 0, r, d'⟩ :: rest : List Fr).take (rest.length + 1 - 1) = _
        rw [hl, Nat.add_sub_cancel, List.take_succ_cons]; rfl
      · show (⟨0, 0, r, false⟩ :: ⟨2, 0, r, d'⟩ :: rest : List Fr).take (rest.length + 1 + 1 - 1) = _
        rw [hl, Nat.add_sub_cancel, List.take_succ_cons, List.take_succ_cons]; rfl
  · rw [if_pos (by simpa using h1)] at h0; exact absurd h0 h1
theorem label_simR {c : Bool} {r : Int} {k : Nat} {n h h' : Int} {l l' : List Fr} (H : SimR c r k h l h' l') (hk : k ≤ 990) (h0 : (labelR h l n).2 = 0) : labelR h' l' n = labelR h l n := by
  unfold labelR at h0 ⊢
  by_cases hv : Stk.valid h l = false
  · rw [if_pos hv] at h0; exact absurd h0 (by decide)
  have hv' := valid_sim H hk (by simpa using hv)
  rw [if_neg hv] at h0 ⊢
  by_cases h1 : n < 0 ∨ (l.length : Int) ≤ n
  · rw [if_pos h1] at h0; exact absurd h0 (by decide)
  obtain ⟨rfl, d, d', rest, rfl, rfl, hd, hl⟩ := H
  rw [if_neg h1, if_neg (by rw [hv']; simp), if_neg (by have := (fB_length (c := c) (r := r) (d := d') (rest := rest)).2; simp only [List.length_cons] at h1; omega)]
  simp only [List.length_cons, Nat.add_sub_cancel] at h1 ⊢
  obtain ⟨q, hq⟩ : ∃ q : Nat, n.toNat = q := ⟨_, rfl⟩
  have hq2 : q ≤ rest.length := by omega
  rw [hq]
  have key : ((fB c r d' rest).getD ((fB c r d' rest).length - 1 - q) Fr.none).re = ((⟨0, 0, r, d⟩ :: rest : List Fr).getD (rest.length - q) Fr.none).re ∧ (((fB c r d' rest).getD ((fB c r d' rest).length - 1 - q) Fr.none).op = 3 ↔ ((⟨0, 0, r, d⟩ :: rest : List Fr).getD (rest.length - q) Fr.none).op = 3) := by
    obtain ⟨i, hi⟩ : ∃ i, rest.length - q = i := ⟨_, rfl⟩
    rw [hi]
    cases c
    · show ((⟨0, 0, r, d'⟩ :: rest : List Fr).getD (rest.length + 1 - 1 - q) Fr.none).re = _ ∧ (((⟨0, 0, r, d'⟩ :: rest : List Fr).getD (rest.length + 1 - 1 - q) Fr.none).op = 3 ↔ _)
      rw [Nat.add_sub_cancel, hi]
      cases i <;> simp
    · show ((⟨0, 0, r, false⟩ :: ⟨2, 0, r, d'⟩ :: rest : List Fr).getD (rest.length + 1 + 1 - 1 - q) Fr.none).re = _ ∧ (((⟨0, 0, r, false⟩ :: ⟨2, 0, r, d'⟩ :: rest : List Fr).getD (rest.length + 1 + 1 - 1 - q) Fr.none).op = 3 ↔ _)
      rw [show rest.length + 1 + 1 - 1 - q = i + 1 by omega]
      cases i <;> simp
  rw [key.1]
  by_cases h3 : ((⟨0, 0, r, d⟩ :: rest : List Fr).getD (rest.length - q) Fr.none).op = 3
  · rw [if_pos h3, if_pos (key.2.2 h3)]
  · rw [if_neg h3, if_neg (fun h => h3 (key.2.1 h))]
end Go.Proofs.YtckdnhafookcgaaGreatDoor.Val

namespace Go.Proofs.YtckdnhafookcgaaGreatDoor.Val
open Go.RowKit Go.Proofs.YtckdnhafookcgaaGreatDoor.Instr Go.Proofs.YtckdnhafookcgaaGreatDoor.Mod
open Go.Proofs.YtckdnhafookcgaaGreatDoor.Stk (Fr R pushR popR deadR enterR leaveR labelR newR lastF without wrongRe)
set_option linter.unusedVariables false

theorem Sim.mk' {c : Bool} {r : Int} {k : Nat} {s s' t t' : St} (h : Sim c r k s s') (e1 : t.er = s.er) (e2 : t'.er = s'.er) (h1 : t.h = s.h) (l1 : t.l = s.l) (h2 : t'.h = s'.h) (l2 : t'.l = s'.l) : Sim c r k t t' :=
  ⟨e1.trans h.1, e2.trans h.2.1, by rw [h1, l1, h2, l2]; exact h.2.2⟩
theorem lift_sim {c : Bool} {r : Int} {k k2 : Nat} {s s' : St} (F : Int → List Fr → R) (HF : ∀ h l h' l', SimR c r k h l h' l' → (F h l).e = 0 → SimR c r k2 (F h l).h (F h l).l (F h' l').h (F h' l').l ∧ (F h' l').e = 0)
    (h : Sim c r k s s') (h0 : (if s.er = 0 then s.put (F s.h s.l) else s).er = 0) : Sim c r k2 (if s.er = 0 then s.put (F s.h s.l) else s) (if s'.er = 0 then s'.put (F s'.h s'.l) else s') := by
  rw [if_pos h.1] at h0 ⊢
  rw [if_pos h.2.1]
  obtain ⟨a, b⟩ := HF _ _ _ _ h.2.2 h0
  exact ⟨h0, b, a⟩
theorem push_sim {c : Bool} {r : Int} {k : Nat} {n : Int} {s s' : St} (h : Sim c r k s s') (hk : k ≤ 990) (h0 : (pushS n s).er = 0) : Sim c r k (pushS n s) (pushS n s') :=
  lift_sim (fun a b => pushR a b n) (fun _ _ _ _ H e => push_simR H hk e) h h0
theorem pop_sim {c : Bool} {r : Int} {k : Nat} {n : Int} {s s' : St} (h : Sim c r k s s') (hk : k ≤ 990) (h0 : (popS n s).er = 0) : Sim c r k (popS n s) (popS n s') :=
  lift_sim (fun a b => popR a b n) (fun _ _ _ _ H e => pop_simR H hk e) h h0
theorem dead_sim {c : Bool} {r : Int} {k : Nat} {s s' : St} (h : Sim c r k s s') (hk : k ≤ 990) (h0 : (deadS s).er = 0) : Sim c r k (deadS s) (deadS s') :=
  lift_sim (fun a b => deadR a b) (fun _ _ _ _ H e => dead_simR H hk e) h h0
theorem enter_sim {c : Bool} {r : Int} {k : Nat} {o re : Int} {s s' : St} (h : Sim c r k s s') (hk : k ≤ 990) (h0 : (enterS o re s).er = 0) : Sim c r (k + 1) (enterS o re s) (enterS o re s') :=
  lift_sim (fun a b => enterR a b o re) (fun _ _ _ _ H e => enter_simR H hk e) h h0
theorem leave_sim {c : Bool} {r : Int} {k : Nat} {o o' : Int} {s s' : St} (h : Sim c r (k + 1) s s') (hk : k + 1 ≤ 990) (h0 : (leaveS o s).er = 0) : Sim c r k (leaveS o s) (leaveS o' s') := by
  unfold leaveS at h0 ⊢
  rw [if_pos h.1] at h0 ⊢
  rw [if_pos h.2.1]
  obtain ⟨a, b⟩ := leave_simR h.2.2 hk h0
  exact ⟨h0, b, a⟩
theorem fail_sim {c : Bool} {r : Int} {k : Nat} {e : Int} {s s' : St} (h : Sim c r k s s') (h0 : (failS e s).er = 0) : Sim c r k (failS e s) (failS e s') := by
  unfold failS at h0 ⊢
  rw [if_pos h.1] at h0 ⊢
  rw [if_pos h.2.1]
  exact ⟨h0, h0, h.2.2⟩
theorem label_er {n : Int} {s : St} (h : s.er = 0) : (labelS n s).2.er = (labelR s.h s.l n).2 := by
  unfold labelS failS
  rw [if_pos h]
  simp only [if_pos h]
theorem label_sim {c : Bool} {r : Int} {k : Nat} {n : Int} {s s' : St} (h : Sim c r k s s') (hk : k ≤ 990) (h0 : (labelS n s).2.er = 0) : (labelS n s').1 = (labelS n s).1 ∧ Sim c r k (labelS n s).2 (labelS n s').2 := by
  rw [label_er h.1] at h0
  have e := label_simR h.2.2 hk h0
  unfold labelS
  rw [if_pos h.1, if_pos h.2.1, e, h0]
  refine ⟨rfl, ?_⟩
  exact fail_sim h (by unfold failS; rw [if_pos h.1])
/-- Where the end has no error, no step ahead has one. -/
theorem of_er {f : St → St} {s : St} (hf : s.er ≠ 0 → f s = s) (h0 : (f s).er = 0) : s.er = 0 := by
  by_cases h : s.er = 0
  · exact h
  · rw [hf h] at h0; exact h0
theorem tags_of {k : Int} {l : List Int} {b : Bool} {s : St} (h0 : (tagsS k l b s).2.er = 0) : s.er = 0 := by
  by_cases h : s.er = 0
  · exact h
  · rw [tagsS_er _ _ _ _ h] at h0; exact h0
theorem tags_sim {c : Bool} {r : Int} {k : Nat} (hk : k ≤ 990) (q : Int) : ∀ (l : List Int) (b : Bool) (s s' : St), Sim c r k s s' → (tagsS q l b s).2.er = 0 → (tagsS q l b s').1 = (tagsS q l b s).1 ∧ Sim c r k (tagsS q l b s).2 (tagsS q l b s').2
  | [], b, s, s', h, _ => ⟨rfl, h⟩
  | t :: l, b, s, s', h, h0 => by
    rw [tagsS] at h0
    obtain ⟨e1, e2⟩ := label_sim h hk (tags_of h0)
    rw [tagsS, tagsS, e1]
    exact tags_sim hk q l _ _ _ e2 h0
theorem table_sim {c : Bool} {r : Int} {k : Nat} {l : List Int} {n : Int} {s s' : St} (h : Sim c r k s s') (hk : k ≤ 990) (h0 : (tableS l n s).er = 0) : Sim c r k (tableS l n s) (tableS l n s') := by
  unfold tableS at h0 ⊢
  have h1 : (tagsS (labelS n s).1 l true (labelS n s).2).2.er = 0 := by
    split at h0
    · exact h0
    · exact of_er (f := failS 214) failS_er h0
  obtain ⟨e1, e2⟩ := label_sim h hk (tags_of h1)
  obtain ⟨e3, e4⟩ := tags_sim hk (labelS n s).1 l true _ _ e2 h1
  rw [e1, e3]
  split at h0
  · rename_i hc
    rw [if_pos hc, if_pos hc]
    exact e4
  · rename_i hc
    rw [if_neg hc, if_neg hc]
    exact fail_sim e4 h0
theorem br_sim {c : Bool} {r : Int} {k : Nat} {n : Int} {s s' : St} (h : Sim c r k s s') (hk : k ≤ 990) (h0 : (brS n s).er = 0) : Sim c r k (brS n s) (brS n s') := by
  unfold brS at h0 ⊢
  have h1 := of_er (f := deadS) deadS_er h0
  have h2 := of_er (f := popS _) popS_er h1
  obtain ⟨e1, e2⟩ := label_sim h hk h2
  rw [e1]
  exact dead_sim (pop_sim e2 hk h1) hk h0
theorem brIf_sim {c : Bool} {r : Int} {k : Nat} {n : Int} {s s' : St} (h : Sim c r k s s') (hk : k ≤ 990) (h0 : (brIfS n s).er = 0) : Sim c r k (brIfS n s) (brIfS n s') := by
  unfold brIfS at h0 ⊢
  have h1 := of_er (f := pushS _) pushS_er h0
  have h2 := of_er (f := popS _) popS_er h1
  have h3 := of_er (f := popS 1) popS_er h2
  obtain ⟨e1, e2⟩ := label_sim h hk h3
  rw [e1]
  exact push_sim (pop_sim (pop_sim e2 hk h2) hk h1) hk h0
theorem call_sim {c : Bool} {r : Int} {k : Nat} {t : Int × Int} {s s' : St} (h : Sim c r k s s') (hk : k ≤ 990) (h0 : (callS t s).er = 0) : Sim c r k (callS t s) (callS t s') := by
  unfold callS at h0 ⊢
  have h1 := of_er (f := pushS _) pushS_er h0
  exact push_sim (pop_sim h hk h1) hk h0
theorem op_sim {c : Bool} {r : Int} {k : Nat} {m n : Md} {re : Int} {x : Ix} {L E L' E' : St → St} {s s' : St} (hk : k ≤ 990) (hc : calleeP n x = calleeP m x)
    (hL : (x.op = 2 ∨ x.op = 3 ∨ x.op = 4) → ∀ s s', Sim c r (k + 1) s s' → (L s).er = 0 → Sim c r k (L s) (L' s')) (hE : x.op = 4 → ∀ s s', Sim c r (k + 1) s s' → (E s).er = 0 → Sim c r k (E s) (E' s')) (sL : ∀ s, s.er ≠ 0 → L s = s) (sE : ∀ s, s.er ≠ 0 → E s = s)
    (h : Sim c r k s s') (h0 : (opS m re x L E s).er = 0) : Sim c r k (opS m re x L E s) (opS n re x L' E' s') := by
  unfold opS at h0 ⊢
  by_cases c0 : x.op = 0
  · simp only [if_pos c0] at h0 ⊢; exact dead_sim h hk h0
  simp only [if_neg c0] at h0 ⊢
  by_cases c1 : x.op = 2 ∨ x.op = 3
  · simp only [if_pos c1] at h0 ⊢
    exact hL (by omega) _ _ (enter_sim h hk (of_er (sL _) h0)) h0
  simp only [if_neg c1] at h0 ⊢
  by_cases c2 : x.op = 4
  · simp only [if_pos c2] at h0 ⊢
    unfold eitherS at h0 ⊢
    have h1 := of_er (sE _) h0
    have h2 := of_er (f := enterS 5 x.res) enterS_er h1
    have h3 : (L (enterS 4 x.res (popS 1 s))).er = 0 := h2
    have h4 := of_er (sL _) h3
    have h5 := of_er (f := enterS 4 x.res) enterS_er h4
    have p1 := pop_sim h hk h5
    have p2 := hL (by omega) _ _ (enter_sim p1 hk h4) h3
    exact hE c2 _ _ (enter_sim (p1.mk' (t := (L (enterS 4 x.res (popS 1 s))).back (popS 1 s)) (t' := (L' (enterS 4 x.res (popS 1 s'))).back (popS 1 s')) (h3.trans p1.1.symm) (p2.2.1.trans p1.2.1.symm) rfl rfl rfl rfl) hk h1) h0
  simp only [if_neg c2] at h0 ⊢
  by_cases c3 : x.op = 14
  · simp only [if_pos c3] at h0 ⊢
    have h1 := of_er (f := brS x.a) brS_er h0
    have h2 := of_er (f := popS 1) popS_er h1
    exact br_sim (pop_sim (table_sim h hk h2) hk h1) hk h0
  simp only [if_neg c3] at h0 ⊢
  by_cases c4 : x.op = 12
  · simp only [if_pos c4] at h0 ⊢; exact br_sim h hk h0
  simp only [if_neg c4] at h0 ⊢
  by_cases c5 : x.op = 13
  · simp only [if_pos c5] at h0 ⊢; exact brIf_sim h hk h0
  simp only [if_neg c5] at h0 ⊢
  by_cases c6 : x.op = 15
  · simp only [if_pos c6] at h0 ⊢
    have h1 := of_er (f := deadS) deadS_er h0
    exact dead_sim (pop_sim h hk h1) hk h0
  simp only [if_neg c6] at h0 ⊢
  by_cases c7 : x.op = 17
  · simp only [if_pos c7] at h0 ⊢
    rw [hc]
    have h1 := of_er (f := callS (calleeP m x).1) callS_er h0
    exact call_sim (pop_sim h hk h1) hk h0
  simp only [if_neg c7] at h0 ⊢
  by_cases c8 : x.op = 16
  · simp only [if_pos c8] at h0 ⊢
    rw [hc]
    exact call_sim h hk h0
  simp only [if_neg c8] at h0 ⊢
  have h1 := of_er (f := pushS _) pushS_er h0
  exact push_sim (pop_sim h hk h1) hk h0
theorem next_sim {c : Bool} {r : Int} {k : Nat} {s s' : St} (h : Sim c r k s s') : Sim c r k s.next s'.next := ⟨h.1, h.2.1, h.2.2⟩
theorem runS_sim {c : Bool} {r : Int} {m n : Md} {lo re : Int} (hl : ∀ x, lacksP n lo x = lacksP m lo x) (hc : ∀ x, calleeP n x = calleeP m x) : ∀ (t : Il) (k : Nat) (s s' : St), k + t.deep ≤ 990 → Sim c r k s s' → (runS m lo re t s).er = 0 → Sim c r k (runS m lo re t s) (runS n lo re t s')
  | .nil, k, s, s', _, h, _ => h
  | .cons x l e t, k, s, s', hd, h, h0 => by
    simp only [Il.deep] at hd
    have lst : ∀ (t : Il), (∀ s s', Sim c r (k + 1) s s' → (runS m lo re t s).er = 0 → Sim c r (k + 1) (runS m lo re t s) (runS n lo re t s')) → k + 1 ≤ 990 → ∀ s s', Sim c r (k + 1) s s' → (listS m lo re t s).er = 0 → Sim c r k (listS m lo re t s) (listS n lo re t s') := by
      intro t ih hk s s' h hz
      unfold listS at hz ⊢
      exact leave_sim (ih s s' h (of_er (f := leaveS s.at_) leaveS_er hz)) hk hz
    rw [runS_cons, if_pos h.1] at h0 ⊢
    rw [runS_cons, if_pos h.2.1]
    have h1 : (insS m lo re x (listS m lo re l) (listS m lo re e) s.next).er = 0 := by
      by_cases hq : (insS m lo re x (listS m lo re l) (listS m lo re e) s.next).er = 0
      · exact hq
      · rw [runS_er _ _ _ _ _ hq] at h0; exact absurd h0 hq
    have h2 : Sim c r k (insS m lo re x (listS m lo re l) (listS m lo re e) s.next) (insS n lo re x (listS n lo re l) (listS n lo re e) s'.next) := by
      unfold insS at h1 ⊢
      have h3 := of_er (f := opS m re x (listS m lo re l) (listS m lo re e)) (fun h => opS_er (fun s h => listS_er h) (fun s h => listS_er h) h) h1
      rw [hl]
      exact op_sim (by omega) (hc x) (fun _ => lst l (fun s s' h0 hz => runS_sim hl hc l (k + 1) s s' (by omega) h0 hz) (by omega)) (fun _ => lst e (fun s s' h0 hz => runS_sim hl hc e (k + 1) s s' (by omega) h0 hz) (by omega))
        (fun s h => listS_er h) (fun s h => listS_er h) (fail_sim (next_sim h) h3) h1
    exact runS_sim hl hc t k _ _ (by omega) h2 h0
end Go.Proofs.YtckdnhafookcgaaGreatDoor.Val

namespace Go.Proofs.YtckdnhafookcgaaGreatDoor.Instr
def Il.join : Il → Il → Il
  | .nil, t => t
  | .cons x l e r, t => .cons x l e (r.join t)
end Go.Proofs.YtckdnhafookcgaaGreatDoor.Instr
namespace Go.Proofs.YtckdnhafookcgaaGreatDoor.Val
open Go.RowKit Go.Proofs.YtckdnhafookcgaaGreatDoor.Instr Go.Proofs.YtckdnhafookcgaaGreatDoor.Mod
open Go.Proofs.YtckdnhafookcgaaGreatDoor.Stk (Fr R pushR popR deadR enterR leaveR labelR newR lastF without wrongRe)
set_option linter.unusedVariables false

theorem runS_join (m : Md) (lo re : Int) : ∀ (t u : Il) (s : St), runS m lo re (t.join u) s = runS m lo re u (runS m lo re t s)
  | .nil, u, s => rfl
  | .cons x l e r, u, s => by
    show runS m lo re (.cons x l e (r.join u)) s = _
    rw [runS_cons, runS_cons]
    by_cases h : s.er = 0
    · rw [if_pos h, if_pos h, runS_join]
    · rw [if_neg h, if_neg h, runS_er _ _ _ _ _ h]
/-- How a run ends at a function's own frame. -/
theorem leave_view {h : Int} {l : List Fr} (h0 : (leaveR h l).e = 0) : Stk.valid h l = true ∧ (without h (lastF l).re (lastF l)).2 = 0 ∧ (without h (lastF l).re (lastF l)).1 = (lastF l).ba ∧ leaveR h l = ⟨(lastF l).ba + (lastF l).re, l.take (l.length - 1), 0⟩ := by
  unfold leaveR at h0 ⊢
  by_cases hv : Stk.valid h l = false
  · rw [if_pos hv] at h0; exact absurd h0 (by simp [Stk.bad])
  rw [if_neg hv] at h0 ⊢
  by_cases h1 : (without h (lastF l).re (lastF l)).2 = 0
  · rw [if_neg (by simpa using h1)] at h0 ⊢
    by_cases h2 : (lastF l).ba < (without h (lastF l).re (lastF l)).1
    · rw [if_pos h2] at h0; exact absurd h0 (by simp [Stk.bad])
    · have h3 : (without h (lastF l).re (lastF l)).1 = (lastF l).ba := by
        have hge : (lastF l).ba ≤ (without h (lastF l).re (lastF l)).1 := by
          unfold without at h1 ⊢
          split
          · rename_i hc; rw [if_pos hc] at h1; exact absurd h1 (by decide)
          · dsimp only; split <;> omega
        omega
      rw [if_neg h2, h3]
      exact ⟨by simpa using hv, h1, rfl, rfl⟩
  · rw [if_pos (by simpa using h1)] at h0; exact absurd h0 h1
theorem leave_yes {h : Int} {l : List Fr} (hv : Stk.valid h l = true) (h1 : (without h (lastF l).re (lastF l)).2 = 0) (h2 : (without h (lastF l).re (lastF l)).1 = (lastF l).ba) : leaveR h l = ⟨(lastF l).ba + (lastF l).re, l.take (l.length - 1), 0⟩ := by
  unfold leaveR
  rw [if_neg (by rw [hv]; simp), if_neg (by simpa using h1), h2, if_neg (by omega)]
theorem leave_both {c : Bool} {r : Int} {k : Nat} {h h' : Int} {l l' : List Fr} (H : SimR c r k h l h' l') (hk : k ≤ 990) (h0 : (leaveR h l).e = 0) : leaveR h' l' = ⟨(lastF l).ba + (lastF l).re, l'.take (l'.length - 1), 0⟩ := by
  obtain ⟨hv, h1, h2, _⟩ := leave_view h0
  obtain ⟨e1, e2, e3⟩ := lastF_sim H
  have hw := without_sim (n := (lastF l).re) e1 e3 h1
  have := leave_yes (valid_sim H hk hv) (by rw [e2, H.1, hw]; exact h1) (by rw [e2, H.1, hw, e1]; exact h2)
  rw [e1, e2] at this
  exact this
theorem start_is {re : Int} (hr : re = 0 ∨ re = 1) : startS re = ⟨0, [⟨0, 0, re, false⟩], 0, 0, 0⟩ := by rcases hr with rfl | rfl <;> rfl
theorem leave_er' {own : Int} {s : St} (h : s.er = 0) : (leaveS own s).er = (leaveR s.h s.l).e ∧ (leaveS own s).h = (leaveR s.h s.l).h ∧ (leaveS own s).l = (leaveR s.h s.l).l := by
  unfold leaveS; rw [if_pos h]; exact ⟨rfl, rfl, rfl⟩
theorem sim_one {c : Bool} {r : Int} {s s' : St} (h : Sim c r 0 s s') : ∃ d d', s.l = [⟨0, 0, r, d⟩] ∧ s'.l = fB c r d' [] := by
  obtain ⟨_, _, _, d, d', rest, e1, e2, _, e4⟩ := h
  have : rest = [] := List.eq_nil_of_length_eq_zero e4
  subst this
  exact ⟨d, d', e1, e2⟩
/-- One list behind another, neither of which leaves anything. -/
theorem parts_join {m n o : Md} {lo : Int} {t u : Il} (l1 : ∀ x, lacksP o lo x = lacksP m lo x) (c1 : ∀ x, calleeP o x = calleeP m x) (l2 : ∀ x, lacksP o lo x = lacksP n lo x) (c2 : ∀ x, calleeP o x = calleeP n x) (d1 : t.deep ≤ 990) (d2 : u.deep ≤ 990)
    (h1 : (listS m lo 0 t (startS 0)).er = 0) (h2 : (listS n lo 0 u (startS 0)).er = 0) : (listS o lo 0 (t.join u) (startS 0)).er = 0 := by
  have es := start_is (re := 0) (.inl rfl)
  rw [es] at h1 h2 ⊢
  unfold listS at h1 h2 ⊢
  have r1 := of_er (f := leaveS _) leaveS_er h1
  have r2 := of_er (f := leaveS _) leaveS_er h2
  have s0 : Sim false 0 0 ⟨0, [⟨0, 0, 0, false⟩], 0, 0, 0⟩ ⟨0, [⟨0, 0, 0, false⟩], 0, 0, 0⟩ := ⟨rfl, rfl, rfl, false, false, [], rfl, rfl, id, rfl⟩
  have p1 := runS_sim l1 c1 t 0 _ _ (by omega) s0 r1
  rw [(leave_er' r1).1] at h1
  obtain ⟨hv, q1, q2, _⟩ := leave_view h1
  obtain ⟨d, d', e1, e2⟩ := sim_one p1
  rw [runS_join]
  generalize runS m lo 0 t ⟨0, [⟨0, 0, 0, false⟩], 0, 0, 0⟩ = s1 at *
  generalize runS o lo 0 t ⟨0, [⟨0, 0, 0, false⟩], 0, 0, 0⟩ = s2 at *
  have hh : s1.h = 0 := by
    have hp := (Stk.valid_yes hv).1
    rw [e1] at q1 q2
    simp only [lastF, List.length_singleton, Nat.sub_self, List.getD_cons_zero, without, Int.sub_zero] at q1 q2
    have hc : ¬ (s1.h < 0 ∧ d = false) := by omega
    rw [if_neg hc, if_pos hp] at q2
    exact q2
  have p2 : Sim false 0 0 ⟨0, [⟨0, 0, 0, false⟩], 0, 0, 0⟩ s2 := ⟨rfl, p1.2.1, by rw [p1.2.2.1, hh], false, d', [], rfl, e2, (fun h => by cases h), rfl⟩
  have p3 := runS_sim l2 c2 u 0 _ _ (by omega) p2 r2
  rw [(leave_er' r2).1] at h2
  rw [(leave_er' p3.2.1).1, leave_both p3.2.2 (by omega) h2]
theorem fail_zero {s : St} (h : s.er = 0) : failS 0 s = s := by
  unfold failS; rw [if_pos h]; cases s; simp_all
theorem enter_start {re : Int} (hr : re = 0 ∨ re = 1) : enterS 2 re ⟨0, [⟨0, 0, re, false⟩], 1, 1, 0⟩ = ⟨0, [⟨0, 0, re, false⟩, ⟨2, 0, re, false⟩], 1, 1, 0⟩ := by rcases hr with rfl | rfl <;> rfl
/-- A block of a list that may be, in a function's place. -/
theorem parts_block {m n : Md} {lo re : Int} {t : Il} {x : Ix} (hr : re = 0 ∨ re = 1) (hx : x.op = 2) (hxr : x.res = re) (hx0 : lacksP n lo x = 0) (l1 : ∀ x, lacksP n lo x = lacksP m lo x) (c1 : ∀ x, calleeP n x = calleeP m x) (d1 : t.deep ≤ 900)
    (h1 : (listS m lo re t (startS re)).er = 0) : (listS n lo re (.cons x t .nil .nil) (startS re)).er = 0 := by
  have es := start_is hr
  rw [es] at h1 ⊢
  have r1 := of_er (f := leaveS _) leaveS_er (show (leaveS _ (runS m lo re t ⟨0, [⟨0, 0, re, false⟩], 0, 0, 0⟩)).er = 0 from h1)
  have s0 : Sim true re 0 ⟨0, [⟨0, 0, re, false⟩], 0, 0, 0⟩ ⟨0, [⟨0, 0, re, false⟩, ⟨2, 0, re, false⟩], 1, 1, 0⟩ := ⟨rfl, rfl, rfl, false, false, [], rfl, rfl, id, rfl⟩
  have p1 := runS_sim l1 c1 t 0 _ _ (by omega) s0 r1
  have hl : (leaveR (runS m lo re t ⟨0, [⟨0, 0, re, false⟩], 0, 0, 0⟩).h (runS m lo re t ⟨0, [⟨0, 0, re, false⟩], 0, 0, 0⟩).l).e = 0 := by
    rw [← (leave_er' (own := 0) r1).1]; exact h1
  have p2 := leave_both p1.2.2 (by omega) hl
  obtain ⟨d, d', e1, e2⟩ := sim_one p1
  rw [e1, e2] at p2
  have ei : insS n lo re x (listS n lo re t) (listS n lo re .nil) (St.next ⟨0, [⟨0, 0, re, false⟩], 0, 0, 0⟩) = listS n lo re t ⟨0, [⟨0, 0, re, false⟩, ⟨2, 0, re, false⟩], 1, 1, 0⟩ := by
    unfold insS
    rw [hx0, fail_zero rfl]
    unfold opS
    rw [if_neg (by omega), if_pos (.inl hx), hx, hxr, show St.next ⟨0, [⟨0, 0, re, false⟩], 0, 0, 0⟩ = ⟨0, [⟨0, 0, re, false⟩], 1, 1, 0⟩ from rfl, enter_start hr]
  show (leaveS 0 (runS n lo re (.cons x t .nil .nil) ⟨0, [⟨0, 0, re, false⟩], 0, 0, 0⟩)).er = 0
  rw [runS_cons, if_pos rfl, ei]
  show (leaveS 0 (listS n lo re t ⟨0, [⟨0, 0, re, false⟩, ⟨2, 0, re, false⟩], 1, 1, 0⟩)).er = 0
  have f1 := leave_er' (own := 1) p1.2.1
  rw [e2, p2] at f1
  have f2 : (listS n lo re t ⟨0, [⟨0, 0, re, false⟩, ⟨2, 0, re, false⟩], 1, 1, 0⟩) = leaveS 1 (runS n lo re t ⟨0, [⟨0, 0, re, false⟩, ⟨2, 0, re, false⟩], 1, 1, 0⟩) := rfl
  rw [← f2] at f1
  obtain ⟨g1, g2, g3⟩ := f1
  rw [(leave_er' g1).1, g2, g3]
  rcases hr with rfl | rfl <;> rfl
end Go.Proofs.YtckdnhafookcgaaGreatDoor.Val
