import Derived.Test.YtdljneclfgneoaaGreatDoorVb12
import Derived.Test.YtdljneclfgneoaaGreatDoorVb05
import Derived.Test.YtdljneclfgneoaaGreatDoorVb02
import Derived.Test.YtdljneclfgneoaaGreatDoorVb08
import Derived.Test.YtdljneclfgneoaaGreatDoorVb10
import Derived.Laws.StructEq
import Derived.Deep.Cut
import Derived.RegionTactic
import Derived.BigRegion
import Derived.Deep.QuietTactic
import Derived.BigQuiet
import Derived.Lib.SmallJoins
import Derived.Deep.Strs
namespace Go.Proofs.YtdljneclfgneoaaGreatDoor.Instr
end Go.Proofs.YtdljneclfgneoaaGreatDoor.Instr
namespace Go.Proofs.YtdljneclfgneoaaGreatDoor.Mod
end Go.Proofs.YtdljneclfgneoaaGreatDoor.Mod
namespace Go.Proofs.YtdljneclfgneoaaGreatDoor.Stk
end Go.Proofs.YtdljneclfgneoaaGreatDoor.Stk
namespace Go.Proofs.YtdljneclfgneoaaGreatDoor.Val
open Go.RowKit Go.Shelf Go.Proofs.YtdljneclfgneoaaGreatDoor.Instr Go.Proofs.YtdljneclfgneoaaGreatDoor.Mod
set_option linter.unusedVariables false

/-- What is wrong, and where. -/
structure Wr where
  e : Int
  s : Int
  i : Int
  a : Int
def Wr.v (r : Wr) : Array Value := #[.int .i64 r.e, .int .i64 r.s, .int .i64 r.i, .int .i64 r.a]
/-- Of n items from the k-th on: the first that is wrong. -/
def scanI (m : Md) (j : Nat) : Nat → Nat → Option Wr
  | _, 0 => none
  | k, n + 1 => if (secE m j k).1 = 0 then scanI m j (k + 1) n else some ⟨(secE m j k).1, secN j, k, (secE m j k).2⟩
/-- Of c sections from the j-th on. -/
def scanS (m : Md) : Nat → Nat → Option Wr
  | _, 0 => none
  | j, c + 1 => match scanI m j 0 (secL m j) with
    | some r => some r
    | none => scanS m (j + 1) c
def wrongP (m : Md) : Wr := if m.check = 0 then (scanS m 0 8).getD ⟨0, 0, 0, 0⟩ else ⟨m.check, 0, 0, 0⟩
theorem scanS_hit {m : Md} {j c : Nat} {r : Wr} (h : scanI m j 0 (secL m j) = some r) : scanS m j (c + 1) = some r := by rw [scanS, h]
theorem scanS_miss {m : Md} {j c : Nat} (h : scanI m j 0 (secL m j) = none) : scanS m j (c + 1) = scanS m (j + 1) c := by rw [scanS, h]
theorem sec_enters (k : Nat) (hk : k < 8) : ∀ args w, (callFunc (secF k) args).run Tryz.prog w = .ok (.enter (secF k) args) w := by
  match k, hk with
  | 0, _ => exact enters_of Tryz.func184 (by kernel_rfl) rfl
  | 1, _ => exact enters_of Tryz.func186 (by kernel_rfl) rfl
  | 2, _ => exact enters_of Tryz.func187 (by kernel_rfl) rfl
  | 3, _ => exact enters_of Tryz.func189 (by kernel_rfl) rfl
  | 4, _ => exact enters_of Tryz.func191 (by kernel_rfl) rfl
  | 5, _ => exact enters_of Tryz.func193 (by kernel_rfl) rfl
  | 6, _ => exact enters_of Tryz.func195 (by kernel_rfl) rfl
  | 7, _ => exact enters_of Tryz.func196 (by kernel_rfl) rfl
theorem sec_m (gm gn bm : Nat) (m : Md) (j k : Nat) (hj : j < 8) (W : World) (h : Sx gm gn bm m W) (hf : m.few) (hfi : Fine m) (hrg : Rg m) (hk : k < secL m j) :
    Calls Tryz.prog (secF j) (#[.int .i64 k] ++ secB gm gn j) W fun e w' => e = .returned (.tuple #[.int .i64 (secE m j k).1, .int .i64 (secE m j k).2]) ∧ Below W.heap.size W w' := by
  match j, hj, hk with
  | 0, _, hk => exact sec0_m gm gn bm m k W h hf hfi hrg hk
  | 1, _, hk => exact sec1_m gm gn bm m k W h hf hfi hrg hk
  | 2, _, hk => exact sec2_m gm gn bm m k W h hf hfi hrg hk
  | 3, _, hk => exact sec3_m gm gn bm m k W h hf hfi hrg hk
  | 4, _, hk => exact sec4_m gm gn bm m k W h hf hfi hrg hk
  | 5, _, hk => exact sec5_m gm gn bm m k W h hf hfi hrg hk
  | 6, _, hk => exact sec6_m gm gn bm m k W h hf hfi hrg hk
  | 7, _, hk => exact sec7_m gm gn bm m k W h hf hfi hrg hk
theorem secL_le {m : Md} (hf : m.few) (j : Nat) : secL m j ≤ 1000000 := by
  have h := hf.lens
  unfold secL
  split <;> (try split) <;> omega
/-- A box of four numbers. -/
def Bx4 (W : World) (g : Nat) (r : Wr) : Prop := W.heap[g]? = some (.cells r.v 120 (0, 0))
theorem Bx4.lt {W : World} {g : Nat} {r : Wr} (h : Bx4 W g r) : g < W.heap.size := (Array.getElem?_eq_some_iff.1 h).1
theorem Bx4.on {W W' : World} {g : Nat} {r : Wr} (h : Bx4 W g r) (hb : Below W.heap.size W W') : Bx4 W' g r := (hb.block g h.lt).trans h
theorem Bx4.c {W : World} {g : Nat} {r : Wr} (h : Bx4 W g r) : W.cell? ⟨g, 0, none⟩ = some (.int .i64 r.e) ∧ W.cell? ⟨g, 1, none⟩ = some (.int .i64 r.s) ∧ W.cell? ⟨g, 2, none⟩ = some (.int .i64 r.i) ∧ W.cell? ⟨g, 3, none⟩ = some (.int .i64 r.a) ∧
    W.frozen? ⟨g, 0, none⟩ = false ∧ W.frozen? ⟨g, 1, none⟩ = false ∧ W.frozen? ⟨g, 2, none⟩ = false ∧ W.frozen? ⟨g, 3, none⟩ = false :=
  ⟨cell_of_row W g 0 _ _ _ h, cell_of_row W g 1 _ _ _ h, cell_of_row W g 2 _ _ _ h, cell_of_row W g 3 _ _ _ h, frozen_of_row W g 0 _ _ h, frozen_of_row W g 1 _ _ h, frozen_of_row W g 2 _ _ h, frozen_of_row W g 3 _ _ h⟩
theorem Bx4.set {W : World} {g : Nat} {r : Wr} (h : Bx4 W g r) (x y z t : Int) : Bx4 ((((W.setCell ⟨g, 0, none⟩ (.int .i64 x)).setCell ⟨g, 1, none⟩ (.int .i64 y)).setCell ⟨g, 2, none⟩ (.int .i64 z)).setCell ⟨g, 3, none⟩ (.int .i64 t)) g ⟨x, y, z, t⟩ :=
  heap_setCell_same _ g 3 _ _ _ (heap_setCell_same _ g 2 _ _ _ (heap_setCell_same _ g 1 _ _ _ (heap_setCell_same W g 0 _ _ _ h)))
theorem results_w {fn : Func} {p : Tmp} (h : fn.results = #[.cell p 120]) (tmps : Array Value) (w : World) (g : Nat) {r : Wr} (hp : tmps.getD p undef = .pointer (some ⟨g, 0, none⟩)) (hb : Bx4 w g r) :
    (results fn tmps).run Tryz.prog w = .ok (.agg r.v) w := by
  have hp' : tmps[p]?.getD undef = .pointer (some ⟨g, 0, none⟩) := by simpa using hp
  simp [results, h, hp', asAddr, run_loadVar_row w g _ 120 _ _ _ hb Tryz.underlying120 rfl (by kernel_rfl)]
def CheckP (m : Md) (w : World) (e : Ending) (w' : World) : Prop := e = .returned (.agg (wrongP m).v) ∧ Below w.heap.size w w'
set_option maxRecDepth 100000 in
set_option maxHeartbeats 4000000 in
theorem Check_m (m : Md) (w : World) (hm : ModAt w.heap.size w m) (hf : m.few) (hrg : Rg m) (hT : Nams w) (hU : Utf.Tabs w) (hA : Num.Arit w) : Calls Tryz.prog 49 #[.agg m.v] w (CheckP m w) := by
  obtain ⟨W0, hW0⟩ : ∃ W0, W0 = (w.alloc (.cells m.v 40)).alloc (.cells #[.int .i64 0, .int .i64 0, .int .i64 0, .int .i64 0] 120) := ⟨_, rfl⟩
  have hb0 : Below w.heap.size w W0 := by rw [hW0]; exact thenA (thenA (Below.refl _ _) _) _
  have hbx : BoxAt W0 w.heap.size m.v := by rw [hW0]; exact (BoxAt.made w m.v _).keep (belowAlloc _ _)
  have hr : Bx4 W0 (w.heap.size + 1) ⟨0, 0, 0, 0⟩ := by rw [hW0]; have := heap_alloc_new (w.alloc (.cells m.v 40)) (.cells #[.int .i64 0, .int .i64 0, .int .i64 0, .int .i64 0] 120); rw [World.size_alloc] at this; exact this
  have HX := hid hbx
  have HB := hid hb0
  have HR := hid hr
  have HM := hid (hm.on hb0)
  have HF := hid hf
  have HRG := hid hrg
  have HT := hid (hT.below hb0)
  have HAR := hid (hA.below hb0)
  have C := hid (ModCheck_any m W0 (hT.below hb0) (hU.below hb0) (hm.on hb0) hf)
  have HFI := hid (fun h => fine_of (m := m) h)
  have HE : Hid (wrongP m = if m.check = 0 then (scanS m 0 8).getD ⟨0, 0, 0, 0⟩ else ⟨m.check, 0, 0, 0⟩) := rfl
  obtain ⟨ck, hck⟩ : ∃ c, m.check = c := ⟨_, rfl⟩
  rw [hck] at C HFI HE
  obtain ⟨v0, v1, v2, v3, v4, v5, v6, v7, v8, v9, v10, hv⟩ : ∃ v0 v1 v2 v3 v4 v5 v6 v7 v8 v9 v10, m.v = #[v0, v1, v2, v3, v4, v5, v6, v7, v8, v9, v10] := ⟨_, _, _, _, _, _, _, _, _, _, _, rfl⟩
  have CS := hid (fun w' hm' hT' hA' => sections_m m w' hm' hf hT' hA')
  rw [hv] at hW0 HX C CS ⊢
  obtain ⟨n0, n1, n2, n3, n4, n5, n6, n7, n8, n9, n10⟩ := BoxAt.mod HX.out
  clear hm hf hrg hT hU hA hb0 hbx hr hck hv
  go_enter Tryz.func49, Tryz.ntmps49
  go_upto_region 1 with fail
  rw [← hW0]
  clear hW0
  go_wp2_with fail
  refine C.out.mono ?_
  rintro e1 w1 ⟨rfl, hb1⟩
  have HX1 := hid (HX.out.keep hb1)
  have HB1 := hid (HB.out.trans (hb1.mono HB.out.size))
  have HR1 := hid (HR.out.on hb1)
  have HM1 := hid (HM.out.on hb1)
  have HT1 := hid (HT.out.below hb1)
  have HA1 := hid (HAR.out.below hb1)
  clear C hb1 n0 n1 n2 n3 n4 n5 n6 n7 n8 n9 n10 HX HB HR HM HT HAR
  by_cases hc : ck = 0
  · subst hc
    have HW := hid (show wrongP m = (scanS m 0 8).getD ⟨0, 0, 0, 0⟩ by rw [HE.out, if_pos rfl])
    have HFN := hid (HFI.out rfl)
    obtain ⟨n0, n1, n2, n3, n4, n5, n6, n7, n8, n9, n10⟩ := BoxAt.mod HX1.out
    have C2 := hid (CS.out w1 HM1.out HT1.out HA1.out)
    clear HE HFI CS
    go_wp2_with fail
    refine C2.out.mono ?_
    rintro e2 w2 ⟨gs, gm, gn, bm, rfl, hs2, hx2, hb2⟩
    have HB2 := hid (HB1.out.trans (hb2.mono HB1.out.size))
    have HR2 := hid (HR1.out.on hb2)
    have HS2 := hid hs2
    have HX2 := hid hx2
    clear C2 hs2 hx2 hb2 n0 n1 n2 n3 n4 n5 n6 n7 n8 n9 n10 HX1 HB1 HR1 HM1 HT1 HA1
    go_wp2
    go_loopw [18] (fun vi wr => ∃ j : Nat, vi = .int .i64 j ∧ j ≤ 8 ∧ Hid (scanS m 0 8 = scanS m j (8 - j)) ∧ Hid (SecsAt gs gm gn m wr) ∧ Hid (Sx gm gn bm m wr) ∧ Hid (Bx4 wr (w.heap.size + 1) ⟨0, 0, 0, 0⟩) ∧ Hid (Below w.heap.size w wr)) (fun vi _ => 8 - (intOf vi).toNat)
    case atStart => exact ⟨0, rfl, Nat.zero_le _, rfl, HS2, HX2, HR2, HB2⟩
    case round =>
      clear HB2 HR2 HS2 HX2
      obtain ⟨j, rfl, hj, HQ, HS, HX, HR, HB⟩ := hrel
      by_cases hlt : j < 8
      · have hji : (j : Int) < 8 := by omega
        obtain ⟨s0, s1, s2⟩ := HS.out j hlt
        have HLE := hid (secL_le HF.out j)
        have HL8 := hid hlt
        have eg := sec_enters j hlt
        have HCC := hid (fun k hk W hx => sec_m gm gn bm m j k hlt W hx HF.out HFN.out HRG.out hk)
        obtain ⟨L, hL⟩ : ∃ L, secL m j = L := ⟨_, rfl⟩
        obtain ⟨N, hN⟩ : ∃ N, secN j = N := ⟨_, rfl⟩
        obtain ⟨G, hG⟩ : ∃ G, secF j = G := ⟨_, rfl⟩
        obtain ⟨cb, hcb⟩ : ∃ L, secB gm gn j = L := ⟨_, rfl⟩
        rw [hL] at s1 HLE HCC
        rw [hN] at s0
        rw [hG] at s2 eg HCC
        rw [hcb] at s2 HCC
        have HLL := hid hL
        have HNN := hid hN
        clear hL hN hG hcb hlt
        go_upto_region 7 with fail
        have hA : Below wr.heap.size wr (wr.alloc (.cells #[.int .i64 N, .int .i64 L, .func (.func G) #[] cb] 180)) := (Below.refl _ _).alloc (Nat.le_refl _) _
        have b0 : (wr.alloc (.cells #[.int .i64 N, .int .i64 L, .func (.func G) #[] cb] 180)).cell? ⟨wr.heap.size, 0, none⟩ = some (.int .i64 N) := by simp [go_sem]
        have b1 : (wr.alloc (.cells #[.int .i64 N, .int .i64 L, .func (.func G) #[] cb] 180)).cell? ⟨wr.heap.size, 1, none⟩ = some (.int .i64 L) := by simp [go_sem]
        have b2 : (wr.alloc (.cells #[.int .i64 N, .int .i64 L, .func (.func G) #[] cb] 180)).cell? ⟨wr.heap.size, 2, none⟩ = some (.func (.func G) #[] cb) := by simp [go_sem]
        obtain ⟨u1, hu1⟩ : ∃ u, u = wr.alloc (.cells #[.int .i64 N, .int .i64 L, .func (.func G) #[] cb] 180) := ⟨_, rfl⟩
        rw [← hu1] at hA b0 b1 b2 ⊢
        obtain ⟨gx, hgx⟩ : ∃ gx, gx = wr.heap.size := ⟨_, rfl⟩
        rw [← hgx] at b0 b1 b2 ⊢
        replace HS := hid (HS.out.on hA)
        replace HX := hid (HX.out.on hA)
        replace HR := hid (HR.out.on hA)
        replace HB := hid (HB.out.trans (hA.mono HB.out.size))
        have K0 := hid b0
        have K2 := hid b2
        clear hu1 hgx hA b0 b2 s0 s1 s2
        go_wp2
        clear b1
        go_loopw [24] (fun vi wr' => ∃ k : Nat, vi = .int .i64 k ∧ k ≤ L ∧ Hid (scanI m j 0 L = scanI m j k (L - k)) ∧ Hid (SecsAt gs gm gn m wr') ∧ Hid (Sx gm gn bm m wr') ∧ Hid (Bx4 wr' (w.heap.size + 1) ⟨0, 0, 0, 0⟩) ∧ Hid (Below w.heap.size w wr') ∧ Hid (wr'.cell? ⟨gx, 0, none⟩ = some (.int .i64 N)) ∧ Hid (wr'.cell? ⟨gx, 2, none⟩ = some (.func (.func G) #[] cb))) (fun vi _ => L - (intOf vi).toNat)
        case atStart => exact ⟨0, rfl, Nat.zero_le _, rfl, HS, HX, HR, HB, K0, K2⟩
        case round =>
          clear HS HX HR HB K0 K2
          obtain ⟨k, rfl, hk, HI, HS, HX, HR, HB, K0, K2⟩ := hrel
          by_cases hlk : k < L
          · have hki : (k : Int) < (L : Int) := by omega
            have hLb : L ≤ 1000000 := HLE.out
            have C3 := hid (HCC.out k hlk wr HX.out)
            obtain ⟨q, hq⟩ : ∃ q, secE m j k = q := ⟨_, rfl⟩
            rw [hq] at C3
            have HSQ := hid hq
            obtain ⟨q1, q2⟩ := q
            simp only at C3
            have b0 := K0.out
            have b2 := K2.out
            have HLK := hid hlk
            clear hq hlk
            by_cases hz : q1 = 0
            · subst hz
              go_wp2_with (go_at_fn G; refine C3.out.mono ?_; rintro e3 u3 ⟨rfl, hb3⟩; clear b0 b2)
              have HB3 := hid (HB.out.trans (hb3.mono HB.out.size))
              have HS3 := hid (HS.out.on hb3)
              have HX3 := hid (HX.out.on hb3)
              have HR3 := hid (HR.out.on hb3)
              have K03 := hid (Go.Proofs.YtdljneclfgneoaaGreatDoor.keep hb3 K0.out)
              have K23 := hid (Go.Proofs.YtdljneclfgneoaaGreatDoor.keep hb3 K2.out)
              go_roundw
              case rel =>
                refine ⟨k + 1, by go_num, by have := HLK.out; omega, hid ?_, HS3, HX3, HR3, HB3, K03, K23⟩
                rw [HI.out]
                have : L - k = (L - (k + 1)) + 1 := by have := HLK.out; omega
                rw [this, scanI, HSQ.out, if_pos rfl]
              case measure => simp [intOf]; have := HLK.out; omega
            · have hzb : (q1 == 0) = false := by simpa using hz
              have HV := hid (show wrongP m = ⟨q1, N, k, q2⟩ by
                have h1 : scanI m j 0 (secL m j) = some ⟨q1, N, k, q2⟩ := by
                  rw [HLL.out, HI.out]
                  have : L - k = (L - (k + 1)) + 1 := by have := HLK.out; omega
                  rw [this, scanI, HSQ.out, if_neg hz, HNN.out]
                have h2 : 8 - j = (8 - (j + 1)) + 1 := by have := HL8.out; omega
                rw [HW.out, HQ.out, h2, scanS_hit h1]; rfl)
              go_wp2_with (go_at_fn G; refine C3.out.mono ?_; rintro e3 u3 ⟨rfl, hb3⟩; have b03 := Go.Proofs.YtdljneclfgneoaaGreatDoor.keep hb3 K0.out; obtain ⟨c0, c1, c2, c3, f0, f1, f2, f3⟩ := (HR.out.on hb3).c)
              have HB3 := hid (HB.out.trans (hb3.mono HB.out.size))
              have HR3 := hid (HR.out.on hb3)
              exact bodyPost_ret (results_w Tryz.results49 _ _ (w.heap.size + 1) rfl (HR3.out.set q1 N k q2)) rfl ⟨by rw [HV.out], (((HB3.out.setCell (by simp) _).setCell (by simp) _).setCell (by simp) _).setCell (by simp) _⟩
          · obtain rfl : L = k := by omega
            have hn : scanI m j 0 (secL m j) = none := by
              rw [HLL.out, HI.out, Nat.sub_self]; rfl
            have h2 : 8 - j = (8 - (j + 1)) + 1 := by have := HL8.out; omega
            have HQ2 := hid (show scanS m 0 8 = scanS m (j + 1) (8 - (j + 1)) by rw [HQ.out, h2, scanS_miss hn])
            clear hn h2
            go_wp2
            go_roundw
            case rel => exact ⟨j + 1, by go_num, by have := HL8.out; omega, HQ2, HS, HX, HR, HB⟩
            case measure => simp [intOf]; have := HL8.out; omega
      · obtain rfl : j = 8 := by omega
        have HV := hid (show wrongP m = ⟨0, 0, 0, 0⟩ by rw [HW.out, HQ.out]; rfl)
        obtain ⟨c0, c1, c2, c3, f0, f1, f2, f3⟩ := HR.out.c
        go_wp2
        exact bodyPost_ret (results_w Tryz.results49 _ _ (w.heap.size + 1) rfl (HR.out.set 0 0 0 0)) rfl ⟨by rw [HV.out], (((HB.out.setCell (by simp) _).setCell (by simp) _).setCell (by simp) _).setCell (by simp) _⟩
  · have HV := hid (show wrongP m = ⟨ck, 0, 0, 0⟩ by rw [HE.out, if_neg hc])
    have hcb : (ck == 0) = false := by simpa using hc
    obtain ⟨c0, c1, c2, c3, f0, f1, f2, f3⟩ := HR1.out.c
    clear HE HFI CS
    go_wp2
    exact bodyPost_ret (results_w Tryz.results49 _ _ (w.heap.size + 1) rfl (HR1.out.set ck 0 0 0)) rfl ⟨by rw [HV.out], (((HB1.out.setCell (by simp) _).setCell (by simp) _).setCell (by simp) _).setCell (by simp) _⟩
def BodyQ (m : Md) (n : Int) (w : World) (e : Ending) (w' : World) : Prop := e = .returned (.tuple #[.int .i64 (Md.body m n).1, .int .i64 (Md.body m n).2]) ∧ Below w.heap.size w w'
set_option maxRecDepth 100000 in
set_option maxHeartbeats 2000000 in
theorem Body_m (m : Md) (n : Int) (w : World) (hm : ModAt w.heap.size w m) (hf : m.few) (hT : Nams w) (hU : Utf.Tabs w) (hA : Num.Arit w) : Calls Tryz.prog 47 #[.agg m.v, .int .i64 n] w (BodyQ m n w) := by
  obtain ⟨W0, hW0⟩ : ∃ W0, W0 = w.alloc (.cells m.v 40) := ⟨_, rfl⟩
  have hb0 : Below w.heap.size w W0 := by rw [hW0]; exact thenA (Below.refl _ _) _
  have hbx : BoxAt W0 w.heap.size m.v := by rw [hW0]; exact BoxAt.made w m.v _
  have HX := hid hbx
  have HB := hid hb0
  have HM := hid (hm.on hb0)
  have HF := hid hf
  have HAR := hid (hA.below hb0)
  have C := hid (ModCheck_any m W0 (hT.below hb0) (hU.below hb0) (hm.on hb0) hf)
  have HFI := hid (fun h => fine_of (m := m) h)
  have HE : Hid (Md.body m n = if m.check ≠ 0 then (m.check, 0) else if n < 0 ∨ (m.fu.length : Int) ≤ n then (6, 0) else Md.bodyP m n.toNat) := rfl
  have CB := hid (fun k w' hm' hA' hfi hk => bodyError_m m k w' hm' hA' hf hfi hk)
  obtain ⟨ck, hck⟩ : ∃ c, m.check = c := ⟨_, rfl⟩
  rw [hck] at C HFI HE
  obtain ⟨v0, v1, v3, v4, v5, v6, v7, v8, v9, v10, hv⟩ : ∃ v0 v1 v3 v4 v5 v6 v7 v8 v9 v10, m.v = #[v0, v1, .slice m.fu'.a m.fu.length m.fu'.c, v3, v4, v5, v6, v7, v8, v9, v10] := ⟨_, _, _, _, _, _, _, _, _, _, rfl⟩
  have bfu := hf.fit.fu
  rw [hv] at hW0 HX C CB ⊢
  obtain ⟨n0, n1, n2, n3, n4, n5, n6, n7, n8, n9, n10⟩ := BoxAt.mod HX.out
  clear hm hf hT hU hA hb0 hbx hck hv
  go_enter Tryz.func47, Tryz.ntmps47
  go_upto_region 1 with fail
  rw [← hW0]
  clear hW0
  go_wp2_with fail
  refine C.out.mono ?_
  rintro e1 w1 ⟨rfl, hb1⟩
  have HX1 := hid (HX.out.keep hb1)
  have HB1 := hid (HB.out.trans (hb1.mono HB.out.size))
  have HM1 := hid (HM.out.on hb1)
  have HA1 := hid (HAR.out.below hb1)
  clear C hb1 n0 n1 n2 n3 n4 n5 n6 n7 n8 n9 n10 HX HB HM HAR
  by_cases hc : ck = 0
  · subst hc
    have HFN := hid (HFI.out rfl)
    obtain ⟨n0, n1, n2, n3, n4, n5, n6, n7, n8, n9, n10⟩ := BoxAt.mod HX1.out
    by_cases h1 : n < 0
    · have HV := hid (show Md.body m n = (6, 0) by rw [HE.out, if_neg (by simp), if_pos (.inl h1)])
      clear HE HFI CB
      go_wp2
      go_ret2
      exact ⟨by rw [HV.out]; rfl, HB1.out⟩
    by_cases h2 : (m.fu.length : Int) ≤ n
    · have HV := hid (show Md.body m n = (6, 0) by rw [HE.out, if_neg (by simp), if_pos (.inr h2)])
      clear HE HFI CB
      go_wp2
      go_ret2
      exact ⟨by rw [HV.out]; rfl, HB1.out⟩
    · obtain ⟨k, rfl⟩ : ∃ k : Nat, n = k := ⟨n.toNat, by omega⟩
      have HV := hid (show Md.body m k = Md.bodyP m k by rw [HE.out, if_neg (by simp), if_neg (by omega)]; simp)
      have C2 := hid (CB.out k w1 HM1.out HA1.out HFN.out (by omega))
      unfold BodyP at C2
      obtain ⟨q, hq⟩ : ∃ q, Md.bodyP m k = q := ⟨_, rfl⟩
      rw [hq] at C2 HV
      clear HE HFI CB hq
      go_wp2_with fail
      refine C2.out.mono ?_
      rintro e2 w2 ⟨rfl, hb2⟩
      have HB2 := hid (HB1.out.trans (hb2.mono HB1.out.size))
      clear C2 hb2 n0 n1 n2 n3 n4 n5 n6 n7 n8 n9 n10
      go_wp2
      go_ret2
      exact ⟨by rw [HV.out]; rfl, HB2.out⟩
  · have HV := hid (show Md.body m n = (ck, 0) by rw [HE.out, if_pos hc])
    have hcb : (ck == 0) = false := by simpa using hc
    clear HE HFI CB
    go_wp2
    go_ret2
    exact ⟨by rw [HV.out]; rfl, HB1.out⟩
end Go.Proofs.YtdljneclfgneoaaGreatDoor.Val

namespace Go.Proofs.YtdljneclfgneoaaGreatDoor.Val
open Go.RowKit Go.Proofs.YtdljneclfgneoaaGreatDoor.Instr Go.Proofs.YtdljneclfgneoaaGreatDoor.Mod
open Go.Proofs.YtdljneclfgneoaaGreatDoor.Stk (Fr R pushR popR deadR enterR leaveR labelR newR valid lastF)
set_option linter.unusedVariables false

/-- A function's own frame, dead. -/
def F1 : List Fr := [⟨0, 0, 0, true⟩]
/-- Nothing wrong yet, in that frame, of at most so many words. -/
structure Dd (b : Int) (s : St) : Prop where
  er : s.er = 0
  l : s.l = F1
  h0 : 0 ≤ s.h
  h1 : s.h ≤ b
theorem Dd.mono {b c : Int} {s : St} (h : Dd b s) (hbc : b ≤ c) : Dd c s := ⟨h.er, h.l, h.h0, by have := h.h1; omega⟩
end Go.Proofs.YtdljneclfgneoaaGreatDoor.Val

namespace Go.Proofs.YtdljneclfgneoaaGreatDoor.Val
open Go.RowKit Go.Shelf Go.Proofs.YtdljneclfgneoaaGreatDoor.Instr Go.Proofs.YtdljneclfgneoaaGreatDoor.Mod
set_option linter.unusedVariables false

theorem eqWrong (a b c d x y z t : Int) (w : World) : (Op.equalIn 10000 120 (.agg #[.int .i64 a, .int .i64 b, .int .i64 c, .int .i64 d]) (.agg #[.int .i64 x, .int .i64 y, .int .i64 z, .int .i64 t])).run Tryz.prog w = .ok (a == x && b == y && c == z && d == t) w := by
  have u3 := Tryz.underlying3
  have a3 := Tryz.isAgg3
  have z3 := Tryz.sizeOf3
  have u4 := Tryz.underlying47
  have a4 := Tryz.isAgg47
  have z4 := Tryz.sizeOf47
  have hS : Tryz.prog.underlying 120 = some (.struct (Tryz.prog.fieldsOf 120)) := by kernel_rfl
  have hp : Tryz.prog.stoodInHeld 120 = false := by kernel_rfl
  rw [show (10000 : Nat) = 9999 + 1 from rfl, run_equalIn_agg w 9999 120 _ _ hS hp]
  simp only [Program.fieldsOf, Tryz.underlying120]
  go_simp
  by_cases h1 : a = x <;> by_cases h2 : b = y <;> by_cases h3 : c = z <;> by_cases h4 : d = t <;> simp [h1, h2, h3, h4]
theorem guardWrong (op : BinOp) (x y : Operand) (xs ys : Array Value) (w : World) : (eqGuard op 120 x y (.agg xs) (.agg ys)).run Tryz.prog w = .ok () w :=
  run_eqGuard_agg w op _ x y xs ys (by kernel_rfl)
/-- Rows in a block of their own. -/
theorem rows_box {W : World} {b sz : Nat} {rs : List (List Value)} (hb : b < W.heap.size) (hl : ∀ r ∈ rs, r.length = sz) (h : BoxAt W b (rs.flatten.toArray)) : Mod.Rows W.heap.size W (some ⟨b, 0, none⟩) sz rs :=
  .inr ⟨b, 0, rfl, hb, fun i hi j hj v hv => by
    have hf := Stk.flat_get rs hl i j hi hj
    rw [hv] at hf
    have := h (i * sz + j) v (by simpa using hf)
    simpa using this⟩
/-- Instructions, one behind the other, each with its lists. -/
def mkIl : List (Ix × Il × Il) → Il
  | [] => .nil
  | x :: r => .cons x.1 x.2.1 x.2.2 (mkIl r)
theorem mkIl_len : ∀ l : List (Ix × Il × Il), (mkIl l).len = l.length
  | [] => rfl
  | x :: r => by simp [mkIl, Il.len, mkIl_len r]
/-- What is asked of an instruction in a literal. -/
structure LitOk (n₀ : Nat) (W : World) (x : Ix × Il × Il) : Prop where
  ok : x.1.ok
  tags : TagsAt n₀ W x.1.ta x.1.tags
  l : x.2.1.len = x.1.ln ∧ (x.2.1 = .nil ∨ ∃ b' o', x.1.la = some ⟨b', o', none⟩ ∧ Items n₀ W b' o' x.2.1)
  e : x.2.2.len = x.1.en ∧ (x.2.2 = .nil ∨ ∃ b' o', x.1.ea = some ⟨b', o', none⟩ ∧ Items n₀ W b' o' x.2.2)
theorem items_of {n₀ : Nat} {W : World} {g : Nat} (hg : g < n₀) : ∀ (l : List (Ix × Il × Il)) (off : Nat), (∀ i (hi : i < l.length), ∀ j v, (l[i].1.vals)[j]? = some v → W.cell? ⟨g, off + i * 8 + j, none⟩ = some v) → (∀ x ∈ l, LitOk n₀ W x) → Items n₀ W g off (mkIl l)
  | [], _, _, _ => trivial
  | x :: r, off, h, hx => by
    have c : ∀ j v, (x.1.vals)[j]? = some v → W.cell? ⟨g, off + j, none⟩ = some v := fun j v hv => by have := h 0 (by simp) j v hv; simpa using this
    have hx0 := hx x (by simp)
    refine ⟨hg, hx0.ok, ⟨c 0 _ rfl, c 1 _ rfl, c 2 _ rfl, c 3 _ rfl, c 4 _ rfl, c 5 _ rfl, c 6 _ rfl, c 7 _ rfl⟩, hx0.tags, hx0.l, hx0.e, items_of hg r (off + 8) (fun i hi j v hv => ?_) (fun y hy => hx y (by simp [hy]))⟩
    have := h (i + 1) (by simp; omega) j v hv
    rw [show off + (i + 1) * 8 + j = off + 8 + i * 8 + j by omega] at this
    exact this
theorem list_box {W : World} {g : Nat} {l : List (Ix × Il × Il)} (hg : g < W.heap.size) (h : BoxAt W g ((l.map fun x => x.1.vals.toList).flatten.toArray)) (hx : ∀ x ∈ l, LitOk W.heap.size W x) : ListAt W.heap.size W (some ⟨g, 0, none⟩) l.length (mkIl l) := by
  refine ⟨mkIl_len l, .inr ⟨g, 0, rfl, items_of hg l 0 (fun i hi j v hv => ?_) hx⟩⟩
  have hlen : ∀ r ∈ l.map (fun x => x.1.vals.toList), r.length = 8 := by
    intro r hr
    obtain ⟨x, _, rfl⟩ := List.mem_map.1 hr
    rfl
  have hj : j < 8 := by
    rcases Nat.lt_or_ge j 8 with h | h
    · exact h
    · rw [Array.getElem?_eq_none (by show 8 ≤ j; exact h)] at hv; cases hv
  have hf := Stk.flat_get (l.map fun x => x.1.vals.toList) hlen i j (by simpa using hi) hj
  have hgd : (l.map fun x => x.1.vals.toList).getD i [] = l[i].1.vals.toList := by simp [hi]
  rw [hgd] at hf
  have := h (i * 8 + j) v (by rw [List.getElem?_toArray, hf]; simpa using hv)
  simpa using this
/-- A function of one word to one, with these instructions. -/
def ofM (g : Nat) (l : Lst) : Md where
  ty := [(1, 1)]
  im := []
  fu := [⟨0, 0, l⟩]
  tb := []
  me := []
  gl := []
  ex := []
  st := false
  sn := 0
  el := []
  da := []
  ty' := ⟨some ⟨g, 0, none⟩, 1⟩
  im' := ⟨none, 0⟩
  fu' := ⟨some ⟨g + 1, 0, none⟩, 1⟩
  tb' := ⟨none, 0⟩
  me' := ⟨none, 0⟩
  gl' := ⟨none, 0⟩
  ex' := ⟨none, 0⟩
  el' := ⟨none, 0⟩
  da' := ⟨none, 0⟩
theorem of_few (g : Nat) (l : Lst) (hn : l.t.len ≤ 140737488351232) (hc : l.t.count ≤ 1000000) : (ofM g l).few := by
  have hcs : ∀ x ∈ (ofM g l).codes, x = l := by simp [ofM, Md.codes]
  refine ⟨⟨by simp [ofM], by simp [ofM], by simp [ofM], by simp [ofM], by simp [ofM], by simp [ofM], by simp [ofM], by simp [ofM], by simp [ofM], fun x hx => by rw [hcs x hx]; exact hn, by simp [ofM], by simp [ofM], by simp [ofM], by simp [ofM]⟩, fun x hx => by rw [hcs x hx]; exact hc, by simp [ofM]⟩
theorem of_at {g : Nat} {l : Lst} {W : World} (h0 : BoxAt W g #[.int .i64 1, .int .i64 1]) (h1 : BoxAt W (g + 1) #[.int .i64 0, .int .i64 0, l.val]) (hL : ListAt W.heap.size W l.a l.t.len l.t) : ModAt W.heap.size W (ofM g l) := by
  have hcs : ∀ x ∈ (ofM g l).codes, x = l := by simp [ofM, Md.codes]
  have l0 := World.block_lt_of_cell? W _ (h0 0 _ rfl)
  have l1 := World.block_lt_of_cell? W _ (h1 0 _ rfl)
  exact ⟨rows_box l0 (by simp [ofM, tyV]) h0, .inl rfl, rows_box l1 (by simp [ofM, Mod.Fn.v]) h1, .inl rfl, .inl rfl, .inl rfl, .inl rfl, .inl rfl, .inl rfl, fun x hx => by rw [hcs x hx]; exact hL, by simp [ofM], by simp [ofM]⟩
theorem chain3 (w : World) (A0 A1 A2 : Array Value) (t0 t1 t2 : TypeId) : ∃ W, (((w.alloc (.cells A0 t0)).alloc (.cells A1 t1)).alloc (.cells A2 t2)) = W ∧ (BoxAt W (w.heap.size) A0 ∧ BoxAt W (w.heap.size + 1) A1 ∧ BoxAt W (w.heap.size + 1 + 1) A2) ∧ Below w.heap.size w W := by
  refine ⟨_, rfl, ⟨?_, ?_, ?_⟩, thenA (thenA (thenA (Below.refl _ _) _) _) _⟩ <;> (intro j x h; simp [go_sem, h])
theorem chain8 (w : World) (A0 A1 A2 A3 A4 A5 A6 A7 : Array Value) (t0 t1 t2 t3 t4 t5 t6 t7 : TypeId) : ∃ W, ((((((((w.alloc (.cells A0 t0)).alloc (.cells A1 t1)).alloc (.cells A2 t2)).alloc (.cells A3 t3)).alloc (.cells A4 t4)).alloc (.cells A5 t5)).alloc (.cells A6 t6)).alloc (.cells A7 t7)) = W ∧ (BoxAt W (w.heap.size) A0 ∧ BoxAt W (w.heap.size + 1) A1 ∧ BoxAt W (w.heap.size + 1 + 1) A2 ∧ BoxAt W (w.heap.size + 1 + 1 + 1) A3 ∧ BoxAt W (w.heap.size + 1 + 1 + 1 + 1) A4 ∧ BoxAt W (w.heap.size + 1 + 1 + 1 + 1 + 1) A5 ∧ BoxAt W (w.heap.size + 1 + 1 + 1 + 1 + 1 + 1) A6 ∧ BoxAt W (w.heap.size + 1 + 1 + 1 + 1 + 1 + 1 + 1) A7) ∧ Below w.heap.size w W := by
  refine ⟨_, rfl, ⟨?_, ?_, ?_, ?_, ?_, ?_, ?_, ?_⟩, thenA (thenA (thenA (thenA (thenA (thenA (thenA (thenA (Below.refl _ _) _) _) _) _) _) _) _) _⟩ <;> (intro j x h; simp [go_sem, h])
def OfP (g : Nat) (l : Lst) (w : World) (e : Ending) (w' : World) : Prop := e = .returned (.tuple #[.int .i64 (Md.body (ofM g l) 0).1, .int .i64 (Md.body (ofM g l) 0).2]) ∧ Below w.heap.size w w'
set_option maxRecDepth 100000 in
set_option maxHeartbeats 2000000 in
theorem of_m (l : Lst) (w : World) (hL : ListAt w.heap.size w l.a l.t.len l.t) (hn : l.t.len ≤ 140737488351232) (hc : l.t.count ≤ 1000000) (hT : Nams w) (hU : Utf.Tabs w) (hA : Num.Arit w) :
    Calls Tryz.prog 102 #[.slice l.a l.t.len l.c] w (OfP w.heap.size l w) := by
  have HFW := hid (of_few w.heap.size l hn hc)
  have HL := hid hL
  have HT := hid hT
  have HU := hid hU
  have HA := hid hA
  clear hL hn hc hT hU hA
  go_enter Tryz.func102, Tryz.ntmps102
  go_upto_region 2 with fail
  obtain ⟨W1, hW1, ⟨b0, b1, b2⟩, hB⟩ := chain3 w #[.int .i64 1, .int .i64 1] #[.int .i64 0, .int .i64 0, .slice l.a l.t.len l.c] #[.slice (some ⟨w.heap.size, 0, none⟩) 1 1, .slice none 0 0, .slice (some ⟨w.heap.size + 1, 0, none⟩) 1 1, .slice none 0 0, .slice none 0 0, .slice none 0 0, .slice none 0 0, .bool false, .int .u32 0, .slice none 0 0, .slice none 0 0] 26 43 40
  rw [hW1]
  have hm : ModAt W1.heap.size W1 (ofM w.heap.size l) := of_at b0 b1 (HL.out.on hB)
  have CB := hid (Body_m (ofM w.heap.size l) 0 W1 hm HFW.out (HT.out.below hB) (HU.out.below hB) (HA.out.below hB))
  rw [show (ofM w.heap.size l).v = #[.slice (some ⟨w.heap.size, 0, none⟩) 1 1, .slice none 0 0, .slice (some ⟨w.heap.size + 1, 0, none⟩) 1 1, .slice none 0 0, .slice none 0 0, .slice none 0 0, .slice none 0 0, .bool false, .int .u32 0, .slice none 0 0, .slice none 0 0] from rfl] at CB
  unfold BodyQ at CB
  obtain ⟨q, hq⟩ : ∃ q, Md.body (ofM w.heap.size l) 0 = q := ⟨_, rfl⟩
  rw [hq] at CB
  have HQ := hid hq
  obtain ⟨n0, n1, n2, n3, n4, n5, n6, n7, n8, n9, n10⟩ := BoxAt.mod b2
  have HB := hid hB
  clear hm hq b0 b1 b2 hB hW1
  go_wp2_with fail
  refine CB.out.mono ?_
  rintro e2 w2 ⟨rfl, hb2⟩
  have HB2 := hid (HB.out.trans (hb2.mono HB.out.size))
  clear CB hb2 n0 n1 n2 n3 n4 n5 n6 n7 n8 n9 n10
  go_wp2
  go_ret2
  exact ⟨by rw [HQ.out]; rfl, HB2.out⟩
def getI (n : Int) : Ix := ⟨32, 0, n, 0, 0, [], none, 0, none, 0, 0, none, 0, 0⟩
theorem get_m (n : Int) (w : World) : Calls Tryz.prog 103 #[.int .u32 n] w fun e w' => e = .returned (.agg (getI n).vals) ∧ Below w.heap.size w w' := by
  go_enter Tryz.func103, Tryz.ntmps103
  go_wp2
  refine bodyPost_ret (v := .agg (getI n).vals) (by simp [results, Tryz.results103, go_sem, getI, Ix.vals]) rfl ⟨rfl, thenA (Below.refl _ _) _⟩
def constI : Ix := ⟨65, 0, 0, 0, 0, [], none, 0, none, 0, 0, none, 0, 0⟩
def richL (g : Nat) : Lst := ⟨some ⟨g + 1, 0, none⟩, 1, mkIl [(constI, .nil, .nil)]⟩
def sHost : ByteArray := ⟨#[104, 111, 115, 116]⟩
def sF : ByteArray := ⟨#[102]⟩
/-- The module with something of each kind; its box is block g. -/
def richM (g : Nat) : Md where
  ty := [(1, 1), (0, 0)]
  im := [⟨sHost, sF, 0⟩]
  fu := [⟨1, 0, ⟨none, 0, .nil⟩⟩]
  tb := [⟨1, 0, false⟩]
  me := [⟨1, 0, false⟩]
  gl := [⟨true, richL g⟩, ⟨false, richL g⟩]
  ex := []
  st := false
  sn := 0
  el := []
  da := []
  ty' := ⟨some ⟨g + 1 + 1, 0, none⟩, 2⟩
  im' := ⟨some ⟨g + 1 + 1 + 1, 0, none⟩, 1⟩
  fu' := ⟨some ⟨g + 1 + 1 + 1 + 1, 0, none⟩, 1⟩
  tb' := ⟨some ⟨g + 1 + 1 + 1 + 1 + 1, 0, none⟩, 1⟩
  me' := ⟨some ⟨g + 1 + 1 + 1 + 1 + 1 + 1, 0, none⟩, 1⟩
  gl' := ⟨some ⟨g + 1 + 1 + 1 + 1 + 1 + 1 + 1, 0, none⟩, 2⟩
  ex' := ⟨none, 0⟩
  el' := ⟨none, 0⟩
  da' := ⟨none, 0⟩
theorem rich_codes (g : Nat) : ∀ l ∈ (richM g).codes, l = ⟨none, 0, .nil⟩ ∨ l = richL g := by
  intro l hl
  simp [richM, Md.codes] at hl
  exact hl
theorem rich_few (g : Nat) : (richM g).few := by
  refine ⟨⟨by simp [richM], by simp [richM], by simp [richM], by simp [richM], by simp [richM], by simp [richM], by simp [richM], by simp [richM], by simp [richM], fun l hl => ?_, by simp [richM], by simp [richM], fun i hi => ?_, by simp [richM]⟩, fun l hl => ?_, by simp [richM]⟩
  · rcases rich_codes g l hl with rfl | rfl <;> simp [richL, mkIl, Il.len]
  · simp only [richM, List.mem_singleton] at hi; subst hi; decide
  · rcases rich_codes g l hl with rfl | rfl <;> simp [richL, mkIl, Il.count]
theorem rich_rg (g : Nat) : Rg (richM g) := ⟨by simp [richM], by simp [richM], by simp [richM]⟩
theorem constI_ok : constI.ok := by constructor <;> simp [constI]
theorem rich_wrong (g : Nat) : wrongP (richM g) = ⟨0, 0, 0, 0⟩ := by kernel_rfl
theorem rich_at {g : Nat} {W : World} (b1 : BoxAt W (g + 1) constI.vals) (b2 : BoxAt W (g + 1 + 1) #[.int .i64 1, .int .i64 1, .int .i64 0, .int .i64 0]) (b3 : BoxAt W (g + 1 + 1 + 1) #[.string sHost, .string sF, .int .i64 0]) (b4 : BoxAt W (g + 1 + 1 + 1 + 1) #[.int .i64 1, .int .i64 0, .slice none 0 0])
    (b5 : BoxAt W (g + 1 + 1 + 1 + 1 + 1) #[.int .u32 1, .int .u32 0, .bool false]) (b6 : BoxAt W (g + 1 + 1 + 1 + 1 + 1 + 1) #[.int .u32 1, .int .u32 0, .bool false]) (b7 : BoxAt W (g + 1 + 1 + 1 + 1 + 1 + 1 + 1) #[.bool true, .slice (some ⟨g + 1, 0, none⟩) 1 1, .bool false, .slice (some ⟨g + 1, 0, none⟩) 1 1]) :
    ModAt W.heap.size W (richM g) := by
  have l : ∀ {b v}, BoxAt W b v → v[0]?.isSome → b < W.heap.size := fun {b v} h h0 => by
    obtain ⟨x, hx⟩ := Option.isSome_iff_exists.1 h0
    exact World.block_lt_of_cell? W ⟨b, 0, none⟩ (h 0 x hx)
  refine ⟨rows_box (l b2 rfl) (by simp [richM, tyV]) b2, rows_box (l b3 rfl) (by simp [richM, Imp.v]) b3, rows_box (l b4 rfl) (by simp [richM, Mod.Fn.v]) b4, rows_box (l b5 rfl) (by simp [richM, Li.v]) b5, rows_box (l b6 rfl) (by simp [richM, Li.v]) b6, rows_box (l b7 rfl) (by simp [richM, Gl.v]) b7, .inl rfl, .inl rfl, .inl rfl, fun x hx => ?_, by simp [richM], by simp [richM]⟩
  rcases rich_codes g x hx with rfl | rfl
  · exact ⟨rfl, .inl rfl⟩
  · exact list_box (l := [(constI, .nil, .nil)]) (l b1 rfl) b1 (fun x hx => by
      obtain rfl := List.mem_singleton.1 hx
      exact ⟨constI_ok, .inl rfl, ⟨rfl, .inl rfl⟩, ⟨rfl, .inl rfl⟩⟩)
def RichP (g : Nat) (w : World) (e : Ending) (w' : World) : Prop := e = .returned (.agg (richM g).v) ∧ ModAt w'.heap.size w' (richM g) ∧ Below w.heap.size w w'
set_option maxRecDepth 100000 in
set_option maxHeartbeats 2000000 in
theorem rich_m (w : World) : Calls Tryz.prog 46 #[] w (RichP w.heap.size w) := by
  go_enter Tryz.func46, Tryz.ntmps46
  go_wp2
  obtain ⟨W, hW, ⟨b0, b1, b2, b3, b4, b5, b6, b7⟩, hB⟩ := chain8 w #[.slice (some ⟨w.heap.size + 1 + 1, 0, none⟩) 2 2, .slice (some ⟨w.heap.size + 1 + 1 + 1, 0, none⟩) 1 1, .slice (some ⟨w.heap.size + 1 + 1 + 1 + 1, 0, none⟩) 1 1, .slice (some ⟨w.heap.size + 1 + 1 + 1 + 1 + 1, 0, none⟩) 1 1, .slice (some ⟨w.heap.size + 1 + 1 + 1 + 1 + 1 + 1, 0, none⟩) 1 1, .slice (some ⟨w.heap.size + 1 + 1 + 1 + 1 + 1 + 1 + 1, 0, none⟩) 2 2, .slice none 0 0, .bool false, .int .u32 0, .slice none 0 0, .slice none 0 0] #[.int .i64 65, .int .i64 0, .int .u32 0, .int .u32 0, .int .i32 0, .slice none 0 0, .slice none 0 0, .slice none 0 0] #[.int .i64 1, .int .i64 1, .int .i64 0, .int .i64 0] #[.string ⟨#[104, 111, 115, 116]⟩, .string ⟨#[102]⟩, .int .i64 0] #[.int .i64 1, .int .i64 0, .slice none 0 0] #[.int .u32 1, .int .u32 0, .bool false] #[.int .u32 1, .int .u32 0, .bool false] #[.bool true, .slice (some ⟨w.heap.size + 1, 0, none⟩) 1 1, .bool false, .slice (some ⟨w.heap.size + 1, 0, none⟩) 1 1] 40 92 26 124 43 127 127 129
  rw [hW]
  have hat : ModAt W.heap.size W (richM w.heap.size) := rich_at b1 b2 b3 b4 b5 b6 b7
  have HAT := hid hat
  have HB := hid hB
  obtain ⟨n0, n1, n2, n3, n4, n5, n6, n7, n8, n9, n10⟩ := BoxAt.mod b0
  clear hat hB b0 b1 b2 b3 b4 b5 b6 b7 hW
  refine bodyPost_ret (v := .agg (richM w.heap.size).v) (by simp [results, Tryz.results46, go_sem, richM, Md.v, n0, n1, n2, n3, n4, n5, n6, n7, n8, n9, n10]) rfl ⟨rfl, HAT.out, HB.out⟩
end Go.Proofs.YtdljneclfgneoaaGreatDoor.Val

namespace Go.Proofs.YtdljneclfgneoaaGreatDoor.Val
open Go.RowKit Go.Proofs.YtdljneclfgneoaaGreatDoor.Instr Go.Proofs.YtdljneclfgneoaaGreatDoor.Mod
open Go.Proofs.YtdljneclfgneoaaGreatDoor.Stk (Fr R pushR popR deadR enterR leaveR labelR newR valid lastF)
set_option linter.unusedVariables false

def deI : Ix := ⟨0, 0, 0, 0, 0, [], none, 0, none, 0, 0, none, 0, 0⟩
def drI : Ix := ⟨26, 0, 0, 0, 0, [], none, 0, none, 0, 0, none, 0, 0⟩
def tail3 : Il := .cons deI .nil .nil (.cons drI .nil .nil (.cons drI .nil .nil .nil))
def t5 (x : Ix) : Il := .cons deI .nil .nil (.cons x .nil .nil tail3)
end Go.Proofs.YtdljneclfgneoaaGreatDoor.Val

namespace Go.Proofs.YtdljneclfgneoaaGreatDoor.Val
open Go.RowKit Go.Shelf Go.Proofs.YtdljneclfgneoaaGreatDoor.Instr Go.Proofs.YtdljneclfgneoaaGreatDoor.Mod
set_option linter.unusedVariables false

theorem chain8o (w : World) (A0 A1 A2 A3 A4 A5 A6 A7 : Array Value) (t0 t1 t2 t3 t4 t5 t6 t7 : TypeId) : ∃ W, ((((((((w.alloc (.cells A0 t0)).alloc (.cells A1 t1)).alloc (.cells A2 t2)).alloc (.cells A3 t3)).alloc (.cells A4 t4)).alloc (.cells A5 t5)).alloc (.cells A6 t6)).alloc (.cells A7 t7)) = W ∧ (BoxAt W (w.heap.size) A0 ∧ BoxAt W (w.heap.size + 1) A1 ∧ BoxAt W (w.heap.size + 1 + 1) A2 ∧ BoxAt W (w.heap.size + 1 + 1 + 1) A3 ∧ BoxAt W (w.heap.size + 1 + 1 + 1 + 1) A4 ∧ BoxAt W (w.heap.size + 1 + 1 + 1 + 1 + 1) A5 ∧ BoxAt W (w.heap.size + 1 + 1 + 1 + 1 + 1 + 1) A6 ∧ BoxAt W (w.heap.size + 1 + 1 + 1 + 1 + 1 + 1 + 1) A7) ∧ Below w.heap.size w W ∧ W.heap[w.heap.size + 1 + 1]? = some (.cells A2 t2 (0, 0)) ∧ W.heap[w.heap.size + 1 + 1 + 1 + 1]? = some (.cells A4 t4 (0, 0)) := by
  obtain ⟨W, h1, h2, h3⟩ := chain8 w A0 A1 A2 A3 A4 A5 A6 A7 t0 t1 t2 t3 t4 t5 t6 t7
  refine ⟨W, h1, h2, h3, ?_, ?_⟩
  · rw [← h1]
    have e : w.heap.size + 1 + 1 = ((w.alloc (.cells A0 t0)).alloc (.cells A1 t1)).heap.size := by simp
    rw [e]
    have hn := heap_alloc_new ((w.alloc (.cells A0 t0)).alloc (.cells A1 t1)) (.cells A2 t2)
    have hlt := (Array.getElem?_eq_some_iff.1 hn).1
    have hb := thenA (thenA (thenA (thenA (thenA (Below.refl (((w.alloc (.cells A0 t0)).alloc (.cells A1 t1)).alloc (.cells A2 t2)).heap.size _) (.cells A3 t3)) (.cells A4 t4)) (.cells A5 t5)) (.cells A6 t6)) (.cells A7 t7)
    exact (hb.block _ hlt).trans hn
  · rw [← h1]
    have e : w.heap.size + 1 + 1 + 1 + 1 = ((((w.alloc (.cells A0 t0)).alloc (.cells A1 t1)).alloc (.cells A2 t2)).alloc (.cells A3 t3)).heap.size := by simp
    rw [e]
    have hn := heap_alloc_new ((((w.alloc (.cells A0 t0)).alloc (.cells A1 t1)).alloc (.cells A2 t2)).alloc (.cells A3 t3)) (.cells A4 t4)
    have hlt := (Array.getElem?_eq_some_iff.1 hn).1
    have hb := thenA (thenA (thenA (Below.refl (((((w.alloc (.cells A0 t0)).alloc (.cells A1 t1)).alloc (.cells A2 t2)).alloc (.cells A3 t3)).alloc (.cells A4 t4)).heap.size _) (.cells A5 t5)) (.cells A6 t6)) (.cells A7 t7)
    exact (hb.block _ hlt).trans hn
/-- What lies in rich()'s other blocks. -/
structure RichB (g : Nat) (W : World) : Prop where
  b1 : BoxAt W (g + 1) constI.vals
  b3 : BoxAt W (g + 1 + 1 + 1) #[.string sHost, .string sF, .int .i64 0]
  b5 : BoxAt W (g + 1 + 1 + 1 + 1 + 1) #[.int .u32 1, .int .u32 0, .bool false]
  b6 : BoxAt W (g + 1 + 1 + 1 + 1 + 1 + 1) #[.int .u32 1, .int .u32 0, .bool false]
  b7 : BoxAt W (g + 1 + 1 + 1 + 1 + 1 + 1 + 1) #[.bool true, .slice (some ⟨g + 1, 0, none⟩) 1 1, .bool false, .slice (some ⟨g + 1, 0, none⟩) 1 1]
theorem box_save {W W' : World} {k b : Nat} {v : Array Value} (h : BoxAt W b v) (hs : Save k W W') (hk : b ≠ k) : BoxAt W' b v := fun j x hj => hs.cell hk (h j x hj)
theorem RichB.save {g k : Nat} {W W' : World} (h : RichB g W) (hs : Save k W W') (h1 : g + 1 ≠ k) (h3 : g + 1 + 1 + 1 ≠ k) (h5 : g + 1 + 1 + 1 + 1 + 1 ≠ k) (h6 : g + 1 + 1 + 1 + 1 + 1 + 1 ≠ k) (h7 : g + 1 + 1 + 1 + 1 + 1 + 1 + 1 ≠ k) : RichB g W' :=
  ⟨box_save h.b1 hs h1, box_save h.b3 hs h3, box_save h.b5 hs h5, box_save h.b6 hs h6, box_save h.b7 hs h7⟩
theorem RichB.below {g : Nat} {W W' : World} (h : RichB g W) (hb : Below W.heap.size W W') : RichB g W' := ⟨h.b1.keep hb, h.b3.keep hb, h.b5.keep hb, h.b6.keep hb, h.b7.keep hb⟩
theorem save_grown {W W' : World} {k : Nat} (h : W.grownBy W' (some k)) : Save k W W' := ⟨h.os, h.tape, h.output, h.size, fun j hj hne => h.block j hj (by simpa using hne)⟩
/-- A row stays where another block is written; rows of unlike types are not one block. -/
theorem own_save {e : TypeId} {sz base k : Nat} {W W' : World} {v : Value} {rs : List (List Value)} (h : Stk.OwnR e sz base W v rs) (hs : Save k W W') (hk : ∀ b, v.ownBlock = some b → b ≠ k) : Stk.OwnR e sz base W' v rs := by
  refine ⟨⟨h.row.1, ?_⟩, h.len⟩
  rcases h.row.2 with h0 | ⟨b, cap, cur, rfl, h1, h2, h3, h4, h5, h6⟩
  · exact .inl h0
  · exact .inr ⟨b, cap, cur, rfl, h1, (hs.block b (Array.getElem?_eq_some_iff.1 h2).1 (hk b rfl)).trans h2, h3, h4, h5, h6⟩
theorem own_ne {e : TypeId} {sz base k : Nat} {W : World} {v : Value} {rs : List (List Value)} {cs : Array Value} {t : TypeId} {fr : Nat × Nat} (h : Stk.OwnR e sz base W v rs) (hk : W.heap[k]? = some (.cells cs t fr)) (hne : e ≠ t) : ∀ b, v.ownBlock = some b → b ≠ k := by
  intro b hb hbk
  subst hbk
  rcases h.row.2 with ⟨rfl, _⟩ | ⟨b', cap, cur, rfl, h1, h2, h3, h4, h5, h6⟩
  · cases hb
  · simp only [Value.ownBlock, Option.some.injEq] at hb
    subst hb
    rw [h2] at hk
    simp only [Option.some.injEq, Obj.cells.injEq] at hk
    exact hne hk.2.1
/-- rich(), and its rows. -/
def RichO (g : Nat) (w : World) (e : Ending) (w' : World) : Prop := e = .returned (.agg (richM g).v) ∧ RichB g w' ∧ Below w.heap.size w w' ∧
  Stk.OwnR 26 2 g w' (.slice (some ⟨g + 1 + 1, 0, none⟩) 2 2) [[.int .i64 1, .int .i64 1], [.int .i64 0, .int .i64 0]] ∧ Stk.OwnR 43 3 g w' (.slice (some ⟨g + 1 + 1 + 1 + 1, 0, none⟩) 1 1) [[.int .i64 1, .int .i64 0, .slice none 0 0]]
set_option maxRecDepth 100000 in
set_option maxHeartbeats 2000000 in
theorem rich_o (w : World) : Calls Tryz.prog 46 #[] w (RichO w.heap.size w) := by
  go_enter Tryz.func46, Tryz.ntmps46
  go_wp2
  obtain ⟨W, hW, ⟨b0, b1, b2, b3, b4, b5, b6, b7⟩, hB, h2, h4⟩ := chain8o w #[.slice (some ⟨w.heap.size + 1 + 1, 0, none⟩) 2 2, .slice (some ⟨w.heap.size + 1 + 1 + 1, 0, none⟩) 1 1, .slice (some ⟨w.heap.size + 1 + 1 + 1 + 1, 0, none⟩) 1 1, .slice (some ⟨w.heap.size + 1 + 1 + 1 + 1 + 1, 0, none⟩) 1 1, .slice (some ⟨w.heap.size + 1 + 1 + 1 + 1 + 1 + 1, 0, none⟩) 1 1, .slice (some ⟨w.heap.size + 1 + 1 + 1 + 1 + 1 + 1 + 1, 0, none⟩) 2 2, .slice none 0 0, .bool false, .int .u32 0, .slice none 0 0, .slice none 0 0] #[.int .i64 65, .int .i64 0, .int .u32 0, .int .u32 0, .int .i32 0, .slice none 0 0, .slice none 0 0, .slice none 0 0] #[.int .i64 1, .int .i64 1, .int .i64 0, .int .i64 0] #[.string ⟨#[104, 111, 115, 116]⟩, .string ⟨#[102]⟩, .int .i64 0] #[.int .i64 1, .int .i64 0, .slice none 0 0] #[.int .u32 1, .int .u32 0, .bool false] #[.int .u32 1, .int .u32 0, .bool false] #[.bool true, .slice (some ⟨w.heap.size + 1, 0, none⟩) 1 1, .bool false, .slice (some ⟨w.heap.size + 1, 0, none⟩) 1 1] 40 92 26 124 43 127 127 129
  rw [hW]
  have o2 : Stk.OwnR 26 2 w.heap.size W (.slice (some ⟨w.heap.size + 1 + 1, 0, none⟩) 2 2) [[.int .i64 1, .int .i64 1], [.int .i64 0, .int .i64 0]] :=
    ⟨⟨rfl, .inr ⟨_, 2, _, rfl, by omega, h2, by simp, by unfold maxLen; omega, rfl, rfl⟩⟩, by simp⟩
  have o4 : Stk.OwnR 43 3 w.heap.size W (.slice (some ⟨w.heap.size + 1 + 1 + 1 + 1, 0, none⟩) 1 1) [[.int .i64 1, .int .i64 0, .slice none 0 0]] :=
    ⟨⟨rfl, .inr ⟨_, 1, _, rfl, by omega, h4, by simp, by unfold maxLen; omega, rfl, rfl⟩⟩, by simp⟩
  have hat : RichB w.heap.size W := ⟨b1, b3, b5, b6, b7⟩
  have HAT := hid hat
  have HB := hid hB
  have O2 := hid o2
  have O4 := hid o4
  obtain ⟨n0, n1, n2, n3, n4, n5, n6, n7, n8, n9, n10⟩ := BoxAt.mod b0
  clear hat hB b0 b1 b2 b3 b4 b5 b6 b7 hW h2 h4 o2 o4
  refine bodyPost_ret (v := .agg (richM w.heap.size).v) (by simp [results, Tryz.results46, go_sem, richM, Md.v, n0, n1, n2, n3, n4, n5, n6, n7, n8, n9, n10]) rfl ⟨rfl, HAT.out, HB.out, O2.out, O4.out⟩
end Go.Proofs.YtdljneclfgneoaaGreatDoor.Val

namespace Go.Proofs.YtdljneclfgneoaaGreatDoor.Val
open Go.RowKit Go.Shelf Go.Proofs.YtdljneclfgneoaaGreatDoor.Instr Go.Proofs.YtdljneclfgneoaaGreatDoor.Mod
set_option linter.unusedVariables false

/-- The tables. -/
structure Tb (w : World) : Prop where
  nt : Nams w
  ut : Utf.Tabs w
  ar : Num.Arit w
theorem Tb.on {w w' : World} (h : Tb w) (hb : Below w.heap.size w w') : Tb w' := ⟨h.nt.below hb, h.ut.below hb, h.ar.below hb⟩
theorem of_list (xs : List (Ix × Il × Il)) (b n c : Nat) (w : World) (r : Int × Int) (hT : Tb w) (h : BoxAt w b ((xs.map fun x => x.1.vals.toList).flatten.toArray)) (hb : b < w.heap.size) (hx : ∀ x ∈ xs, LitOk w.heap.size w x) (hc : (mkIl xs).count ≤ 1000000) (hn : xs.length = n) (hn2 : n ≤ 1000) (hr : ∀ g, Md.body (ofM g ⟨some ⟨b, 0, none⟩, c, mkIl xs⟩) 0 = r) :
    Calls Tryz.prog 102 #[.slice (some ⟨b, 0, none⟩) n c] w fun e w' => e = .returned (.tuple #[.int .i64 r.1, .int .i64 r.2]) ∧ Below w.heap.size w w' := by
  have hl : (mkIl xs).len = n := (mkIl_len xs).trans hn
  have hL := list_box hb h hx
  have := of_m ⟨some ⟨b, 0, none⟩, c, mkIl xs⟩ w (by show ListAt _ _ _ (mkIl xs).len _; rw [hl, ← hn]; exact hL) (by show (mkIl xs).len ≤ _; omega) hc hT.nt hT.ut hT.ar
  simp only [hl] at this
  refine this.mono fun e w' h => ?_
  unfold OfP at h
  rw [hr] at h
  exact h
theorem of_none (w : World) (hT : Tb w) : Calls Tryz.prog 102 #[.slice none 0 0] w fun e w' => e = .returned (.tuple #[.int .i64 200, .int .i64 0]) ∧ Below w.heap.size w w' := by
  refine (of_m ⟨none, 0, .nil⟩ w ⟨rfl, .inl rfl⟩ (by decide) (by decide) hT.nt hT.ut hT.ar).mono fun e w' h => ?_
  unfold OfP at h
  rw [show ∀ g, Md.body (ofM g ⟨none, 0, .nil⟩) 0 = (200, 0) from fun g => by kernel_rfl] at h
  exact h
theorem check_rich (g : Nat) (w : World) (hm : ModAt w.heap.size w (richM g)) (hT : Tb w) : Calls Tryz.prog 49 #[.agg (richM g).v] w fun e w' => e = .returned (.agg #[.int .i64 0, .int .i64 0, .int .i64 0, .int .i64 0]) ∧ Below w.heap.size w w' := by
  refine (Check_m (richM g) w hm (rich_few g) (rich_rg g) hT.nt hT.ut hT.ar).mono fun e w' h => ?_
  unfold CheckP at h
  rw [rich_wrong] at h
  exact h
theorem get_ok (n₀ : Nat) (W : World) (n : Int) (hn : 0 ≤ n ∧ n < 4294967296) : LitOk n₀ W (getI n, .nil, .nil) := ⟨by constructor <;> simp [getI] <;> omega, .inl rfl, ⟨rfl, .inl rfl⟩, ⟨rfl, .inl rfl⟩⟩
theorem get0_body (b c g : Nat) : Md.body (ofM g ⟨some ⟨b, 0, none⟩, c, mkIl [(getI 0, .nil, .nil)]⟩) 0 = (0, 0) := by kernel_rfl
theorem get1_body (b c g : Nat) : Md.body (ofM g ⟨some ⟨b, 0, none⟩, c, mkIl [(getI 1, .nil, .nil)]⟩) 0 = (6, 1) := by kernel_rfl
set_option maxRecDepth 100000 in
set_option maxHeartbeats 2000000 in
theorem awake_m (w : World) (hT : Tb w) : Calls Tryz.prog 51 #[] w fun e w' => e = .returned (.bool true) ∧ Below w.heap.size w w' := by
  have HT := hid hT
  have q1 := eqWrong
  have q2 := guardWrong
  clear hT
  go_enter Tryz.func51, Tryz.ntmps51
  go_wp2_with fail
  refine (get_m 0 _).mono ?_
  rintro e w1 ⟨rfl, hb1⟩
  have HB1 := hid hb1
  clear hb1
  have C1 := hid (of_list [(getI 0, .nil, .nil)] w1.heap.size 1 1 (w1.alloc (.cells (getI 0).vals 92)) (0, 0) ((HT.out.on HB1.out).on (belowAlloc _ _)) (BoxAt.made w1 (getI 0).vals _) (by simp) (fun x hx => by obtain rfl := List.mem_singleton.1 hx; exact get_ok _ _ 0 (by omega)) (by decide) rfl (by omega) (fun g => get0_body _ _ g))
  unfold getI Ix.vals at C1
  go_wp2_with fail
  refine C1.out.mono ?_
  rintro e w2 ⟨rfl, hb2⟩
  have HB2 := hid (thenB HB1.out (thenB (belowAlloc w1 _) hb2))
  clear C1 hb2 HB1
  go_wp2_with fail
  refine (get_m 1 _).mono ?_
  rintro e w3 ⟨rfl, hb3⟩
  have HB3 := hid (thenB HB2.out hb3)
  clear hb3 HB2
  have C2 := hid (of_list [(getI 1, .nil, .nil)] w3.heap.size 1 1 (w3.alloc (.cells (getI 1).vals 92)) (6, 1) ((HT.out.on HB3.out).on (belowAlloc _ _)) (BoxAt.made w3 (getI 1).vals _) (by simp) (fun x hx => by obtain rfl := List.mem_singleton.1 hx; exact get_ok _ _ 1 (by omega)) (by decide) rfl (by omega) (fun g => get1_body _ _ g))
  unfold getI Ix.vals at C2
  go_wp2_with fail
  refine C2.out.mono ?_
  rintro e w4 ⟨rfl, hb4⟩
  have HB4 := hid (thenB HB3.out (thenB (belowAlloc w3 _) hb4))
  clear C2 hb4 HB3
  have C3 := hid (of_none w4 (HT.out.on HB4.out))
  go_wp2_with fail
  refine C3.out.mono ?_
  rintro e w5 ⟨rfl, hb5⟩
  have HB5 := hid (thenB HB4.out hb5)
  clear C3 hb5 HB4
  go_wp2_with fail
  refine (rich_m _).mono ?_
  rintro e w6 ⟨rfl, hm6, hb6⟩
  have HB6 := hid (thenB HB5.out hb6)
  have C4 := hid (check_rich _ w6 hm6 (HT.out.on HB6.out))
  clear hm6 hb6 HB5
  go_wp2_with fail
  refine C4.out.mono ?_
  rintro e w7 ⟨rfl, hb7⟩
  have HB7 := hid (thenB HB6.out hb7)
  clear C4 hb7 HB6
  go_wp2
  go_ret
  exact ⟨rfl, HB7.out⟩
end Go.Proofs.YtdljneclfgneoaaGreatDoor.Val

namespace Go.Proofs.YtdljneclfgneoaaGreatDoor.Val
open Go.RowKit Go.Shelf Go.Proofs.YtdljneclfgneoaaGreatDoor.Instr Go.Proofs.YtdljneclfgneoaaGreatDoor.Mod
set_option linter.unusedVariables false

def NB (W : World) (g : Nat) (v : Array Value) : Prop := W.heap[g]? = some (.cells v 40 (0, 0))
theorem NB.lt {W : World} {g : Nat} {v : Array Value} (b : NB W g v) : g < W.heap.size := (Array.getElem?_eq_some_iff.1 b).1
theorem NB.made (W : World) (v : Array Value) : NB (W.alloc (.cells v 40)) W.heap.size v := heap_alloc_new W _
theorem NB.below {W W' : World} {g : Nat} {v : Array Value} (b : NB W g v) (hb : Below W.heap.size W W') : NB W' g v := (hb.block g b.lt).trans b
theorem NB.c {W : World} {g : Nat} {v : Array Value} (b : NB W g v) (j : Nat) : W.cell? ⟨g, j, none⟩ = v[j]? := cell_of_row W g j _ _ _ b
theorem NB.f {W : World} {g : Nat} {v : Array Value} (b : NB W g v) (j : Nat) : W.frozen? ⟨g, j, none⟩ = false := frozen_of_row W g j _ _ b
theorem NB.box {W : World} {g : Nat} {v : Array Value} (b : NB W g v) : BoxAt W g v := fun j x h => (b.c j).trans h
theorem NB.set {W : World} {g : Nat} {v : Array Value} (b : NB W g v) (j : Nat) (x : Value) : NB (W.setCell ⟨g, j, none⟩ x) g (v.set! j x) := heap_setCell_same W g j _ _ _ b
theorem NB.fs {W : World} {g : Nat} {v : Array Value} (b : NB W g v) : W.frozen? ⟨g, 0, none⟩ = false ∧ W.frozen? ⟨g, 1, none⟩ = false ∧ W.frozen? ⟨g, 2, none⟩ = false ∧ W.frozen? ⟨g, 3, none⟩ = false ∧ W.frozen? ⟨g, 4, none⟩ = false ∧ W.frozen? ⟨g, 5, none⟩ = false ∧
    W.frozen? ⟨g, 6, none⟩ = false ∧ W.frozen? ⟨g, 7, none⟩ = false ∧ W.frozen? ⟨g, 8, none⟩ = false ∧ W.frozen? ⟨g, 9, none⟩ = false ∧ W.frozen? ⟨g, 10, none⟩ = false := ⟨b.f 0, b.f 1, b.f 2, b.f 3, b.f 4, b.f 5, b.f 6, b.f 7, b.f 8, b.f 9, b.f 10⟩
theorem NB.cs {W : World} {g : Nat} {v0 v1 v2 v3 v4 v5 v6 v7 v8 v9 v10 : Value} (b : NB W g #[v0, v1, v2, v3, v4, v5, v6, v7, v8, v9, v10]) : W.cell? ⟨g, 0, none⟩ = some v0 ∧ W.cell? ⟨g, 1, none⟩ = some v1 ∧ W.cell? ⟨g, 2, none⟩ = some v2 ∧ W.cell? ⟨g, 3, none⟩ = some v3 ∧ W.cell? ⟨g, 4, none⟩ = some v4 ∧ W.cell? ⟨g, 5, none⟩ = some v5 ∧
    W.cell? ⟨g, 6, none⟩ = some v6 ∧ W.cell? ⟨g, 7, none⟩ = some v7 ∧ W.cell? ⟨g, 8, none⟩ = some v8 ∧ W.cell? ⟨g, 9, none⟩ = some v9 ∧ W.cell? ⟨g, 10, none⟩ = some v10 := ⟨b.c 0, b.c 1, b.c 2, b.c 3, b.c 4, b.c 5, b.c 6, b.c 7, b.c 8, b.c 9, b.c 10⟩
theorem infoFn : (Tryz.prog.info? 43).map (fun i => (i.zero, i.size, i.bytes)) = some (some (.agg #[.int .i64 0, .int .i64 0, .slice none 0 0]), 3, 40) := by kernel_rfl
end Go.Proofs.YtdljneclfgneoaaGreatDoor.Val
namespace Go.Proofs.YtdljneclfgneoaaGreatDoor
open Go.RowKit
end Go.Proofs.YtdljneclfgneoaaGreatDoor

namespace Go.Proofs.YtdljneclfgneoaaGreatDoor.Val
open Go.RowKit Go.Shelf Go.Proofs.YtdljneclfgneoaaGreatDoor.Instr Go.Proofs.YtdljneclfgneoaaGreatDoor.Mod
set_option linter.unusedVariables false

theorem infoFt : (Tryz.prog.info? 26).map (fun i => (i.zero, i.size, i.bytes)) = some (some (.agg #[.int .i64 0, .int .i64 0]), 2, 16) := by kernel_rfl
end Go.Proofs.YtdljneclfgneoaaGreatDoor.Val

namespace Go.Proofs.YtdljneclfgneoaaGreatDoor.Val
open Go.RowKit Go.Proofs.YtdljneclfgneoaaGreatDoor.Instr Go.Proofs.YtdljneclfgneoaaGreatDoor.Mod
set_option linter.unusedVariables false

def partM (g : Nat) (sty sfu : Sl) (r lo : Int) (a : Option Addr) (c : Nat) (t : Il) : Md := { richM g with ty := [(1, 1), (0, 0), (0, r)], fu := [⟨1, 0, ⟨none, 0, .nil⟩⟩, ⟨2, lo, ⟨a, c, t⟩⟩], ty' := sty, fu' := sfu }
end Go.Proofs.YtdljneclfgneoaaGreatDoor.Val

namespace Go.Proofs.YtdljneclfgneoaaGreatDoor.Val
open Go.RowKit Go.Shelf Go.Proofs.YtdljneclfgneoaaGreatDoor.Instr Go.Proofs.YtdljneclfgneoaaGreatDoor.Mod
set_option linter.unusedVariables false

theorem own_cell {e : TypeId} {sz base k n c q : Nat} {w : World} {rs : List (List Value)} {v : Value} (h : Stk.OwnR e sz base w (.slice (some ⟨k, 0, none⟩) n c) rs) (hv : rs.flatten[q]? = some v) : w.cell? ⟨k, q, none⟩ = some v ∧ w.frozen? ⟨k, q, none⟩ = false := by
  rcases h.row.2 with ⟨h1, _⟩ | ⟨b, cap, cur, h1, h2, h3, h4, h5, h6, h7⟩
  · cases h1
  · simp only [Value.slice.injEq, Option.some.injEq, Addr.mk.injEq, and_true] at h1
    obtain ⟨rfl, -, rfl⟩ := h1
    refine ⟨?_, frozen_of_row w k q cur e h3⟩
    rw [cell_of_row w k q cur e _ h3, ← Array.getElem?_toList]
    rw [← h7] at hv
    rw [List.getElem?_take] at hv
    split at hv
    · exact hv
    · cases hv
/-- The box's cells. -/
def partV (g a3 c3 a4 c4 : Nat) : Array Value := #[.slice (some ⟨a3, 0, none⟩) 3 c3, .slice (some ⟨g + 1 + 1 + 1, 0, none⟩) 1 1, .slice (some ⟨a4, 0, none⟩) 2 c4, .slice (some ⟨g + 1 + 1 + 1 + 1 + 1, 0, none⟩) 1 1, .slice (some ⟨g + 1 + 1 + 1 + 1 + 1 + 1, 0, none⟩) 1 1, .slice (some ⟨g + 1 + 1 + 1 + 1 + 1 + 1 + 1, 0, none⟩) 2 2, .slice none 0 0, .bool false, .int .u32 0, .slice none 0 0, .slice none 0 0]
theorem own_some {e : TypeId} {sz base n : Nat} {w : World} {v : Value} {rs : List (List Value)} (h : Stk.OwnR e sz base w v rs) (hn : rs.length = n) (h0 : n ≠ 0) : ∃ k c, v = .slice (some ⟨k, 0, none⟩) n c ∧ base ≤ k := by
  rcases h.row.2 with ⟨_, h1⟩ | ⟨b, cap, cur, h1, h2, _⟩
  · omega
  · exact ⟨b, cap, by rw [h1, hn], h2⟩
/-- The module in memory: its box in block gb, its types' and functions' rows its own. -/
structure PM (n₀ : Nat) (w0 : World) (g gb a3 c3 a4 c4 : Nat) (r lo : Int) (la : Option Addr) (ln lc : Nat) (W : World) : Prop where
  box : NB W gb (partV g a3 c3 a4 c4)
  rich : RichB g W
  ty : Stk.OwnR 26 2 g W (.slice (some ⟨a3, 0, none⟩) 3 c3) [[.int .i64 1, .int .i64 1], [.int .i64 0, .int .i64 0], [.int .i64 0, .int .i64 r]]
  fu : Stk.OwnR 43 3 g W (.slice (some ⟨a4, 0, none⟩) 2 c4) [[.int .i64 1, .int .i64 0, .slice none 0 0], [.int .i64 2, .int .i64 lo, .slice la ln lc]]
  bel : Below n₀ w0 W
  hg : n₀ ≤ g
  hgb : g + 1 + 1 + 1 + 1 + 1 + 1 + 1 < gb
  sz : n₀ ≤ W.heap.size
theorem own_blk {e : TypeId} {sz base k n c : Nat} {w : World} {rs : List (List Value)} (h : Stk.OwnR e sz base w (.slice (some ⟨k, 0, none⟩) n c) rs) : base ≤ k ∧ ∃ cs, w.heap[k]? = some (.cells cs e (0, 0)) := by
  rcases h.row.2 with ⟨h1, _⟩ | ⟨b, cap, cur, h1, h2, h3, h4, h5, h6, h7⟩
  · cases h1
  · simp only [Value.slice.injEq, Option.some.injEq, Addr.mk.injEq, and_true] at h1
    obtain ⟨rfl, -, rfl⟩ := h1
    exact ⟨h2, cur, h3⟩
section
variable {n₀ g gb a3 c3 a4 c4 ln lc : Nat} {w0 W : World} {r lo : Int} {la : Option Addr}
/-- The rows' blocks are none of the module's others. -/
structure Apart (g gb a3 a4 : Nat) : Prop where
  r3 : ∀ b ∈ [g + 1, g + 1 + 1 + 1, g + 1 + 1 + 1 + 1 + 1, g + 1 + 1 + 1 + 1 + 1 + 1, g + 1 + 1 + 1 + 1 + 1 + 1 + 1], b ≠ a3
  r4 : ∀ b ∈ [g + 1, g + 1 + 1 + 1, g + 1 + 1 + 1 + 1 + 1, g + 1 + 1 + 1 + 1 + 1 + 1, g + 1 + 1 + 1 + 1 + 1 + 1 + 1], b ≠ a4
theorem PM.b3 (h : PM n₀ w0 g gb a3 c3 a4 c4 r lo la ln lc W) : gb ≠ a3 := by
  obtain ⟨_, cs, h4⟩ := own_blk h.ty
  intro e
  have h5 := h.box
  unfold NB at h5
  rw [e, h4] at h5
  simp at h5
theorem PM.apart (h : PM n₀ w0 g gb a3 c3 a4 c4 r lo la ln lc W) : Apart g gb a3 a4 := by
  have e3 := (own_cell (q := 0) h.ty rfl).1
  have e4 := (own_cell (q := 0) h.fu rfl).1
  have f1 : W.cell? ⟨g + 1, 0, none⟩ = some (.int .i64 65) := h.rich.b1 0 _ rfl
  have f3 : W.cell? ⟨g + 1 + 1 + 1, 0, none⟩ = some (.string sHost) := h.rich.b3 0 _ rfl
  have f5 : W.cell? ⟨g + 1 + 1 + 1 + 1 + 1, 0, none⟩ = some (.int .u32 1) := h.rich.b5 0 _ rfl
  have f6 : W.cell? ⟨g + 1 + 1 + 1 + 1 + 1 + 1, 0, none⟩ = some (.int .u32 1) := h.rich.b6 0 _ rfl
  have f7 : W.cell? ⟨g + 1 + 1 + 1 + 1 + 1 + 1 + 1, 0, none⟩ = some (.bool true) := h.rich.b7 0 _ rfl
  refine ⟨fun b hb e => ?_, fun b hb e => ?_⟩
  · simp only [List.mem_cons, List.not_mem_nil, or_false] at hb
    rcases hb with h | h | h | h | h
    · rw [← e, h, f1] at e3; simp at e3
    · rw [← e, h, f3] at e3; simp at e3
    · rw [← e, h, f5] at e3; simp at e3
    · rw [← e, h, f6] at e3; simp at e3
    · rw [← e, h, f7] at e3; simp at e3
  · simp only [List.mem_cons, List.not_mem_nil, or_false] at hb
    rcases hb with h | h | h | h | h
    · rw [← e, h, f1] at e4; simp at e4
    · rw [← e, h, f3] at e4; simp at e4
    · rw [← e, h, f5] at e4; simp at e4
    · rw [← e, h, f6] at e4; simp at e4
    · rw [← e, h, f7] at e4; simp at e4
theorem PM.c5 (h : PM n₀ w0 g gb a3 c3 a4 c4 r lo la ln lc W) : W.cell? ⟨a4, 5, none⟩ = some (.slice la ln lc) ∧ W.frozen? ⟨a4, 5, none⟩ = false := own_cell h.fu rfl
theorem PM.at_ (h : PM n₀ w0 g gb a3 c3 a4 c4 r lo la ln lc W) {t : Il} (hl : ListAt W.heap.size W la ln t) : ModAt W.heap.size W (partM g ⟨some ⟨a3, 0, none⟩, c3⟩ ⟨some ⟨a4, 0, none⟩, c4⟩ r lo la lc t) := by
  have hB := h.rich
  have l : ∀ {b v}, BoxAt W b v → v[0]?.isSome → b < W.heap.size := fun {b v} h h0 => by
    obtain ⟨x, hx⟩ := Option.isSome_iff_exists.1 h0
    exact World.block_lt_of_cell? W ⟨b, 0, none⟩ (h 0 x hx)
  obtain ⟨a3', c3', e3, r3, -⟩ := Stk.OwnR.rows h.ty
  obtain ⟨a4', c4', e4, r4, -⟩ := Stk.OwnR.rows h.fu
  simp only [List.length_cons, List.length_nil, Value.slice.injEq] at e3 e4
  obtain ⟨rfl, -, rfl⟩ := e3
  obtain ⟨rfl, -, rfl⟩ := e4
  have hln : t.len = ln := hl.1
  have r4' : Stk.Rows W.heap.size W (some ⟨a4, 0, none⟩) 3 [[.int .i64 1, .int .i64 0, .slice none 0 0], [.int .i64 2, .int .i64 lo, .slice la t.len lc]] := by rw [hln]; exact r4
  refine ⟨r3, rows_box (l hB.b3 rfl) (by simp [partM, richM, Imp.v]) hB.b3, r4', rows_box (l hB.b5 rfl) (by simp [partM, richM, Li.v]) hB.b5, rows_box (l hB.b6 rfl) (by simp [partM, richM, Li.v]) hB.b6, rows_box (l hB.b7 rfl) (by simp [partM, richM, Gl.v]) hB.b7, .inl rfl, .inl rfl, .inl rfl, fun y hy => ?_, by simp [partM, richM], by simp [partM, richM]⟩
  simp [partM, richM, Md.codes] at hy
  rcases hy with rfl | rfl | rfl
  · exact ⟨rfl, .inl rfl⟩
  · show ListAt W.heap.size W la t.len t
    rw [hln]; exact hl
  · exact list_box (l := [(constI, .nil, .nil)]) (l hB.b1 rfl) hB.b1 (fun x hx => by
      obtain rfl := List.mem_singleton.1 hx
      exact ⟨constI_ok, .inl rfl, ⟨rfl, .inl rfl⟩, ⟨rfl, .inl rfl⟩⟩)
end
end Go.Proofs.YtdljneclfgneoaaGreatDoor.Val

namespace Go.Proofs.YtdljneclfgneoaaGreatDoor.Val
open Go.RowKit Go.Proofs.YtdljneclfgneoaaGreatDoor.Instr Go.Proofs.YtdljneclfgneoaaGreatDoor.Mod
open Go.Proofs.YtdljneclfgneoaaGreatDoor.Stk (Fr R pushR popR deadR enterR leaveR labelR newR valid lastF without wrongRe opens)

/-- The judge's own: how many instructions so far, the first error, where it is. -/
structure J where
  cnt : Int
  e : Int
  at_ : Int
/-- What a list has left; whether it can't be reached. -/
structure Hv where
  n : Int
  d : Bool
def J.fault (er a : Int) (j : J) : J := if j.e = 0 then ⟨j.cnt, er, a⟩ else j
def popJ (n a : Int) (p : Hv × J) : Hv × J := (⟨max (p.1.n - n) 0, p.1.d⟩, if p.1.n < n ∧ p.1.d = false then p.2.fault 200 a else p.2)
def pushJ (n : Int) (p : Hv × J) : Hv × J := (⟨p.1.n + n, p.1.d⟩, p.2)
def labelJ (ls : List Int) (n a : Int) (j : J) : Int × J := if (ls.length : Int) ≤ n then (0, j.fault 6 a) else (ls.getD (ls.length - 1 - n.toNat) 0, j)
def missJ (ls : List Int) (a : Int) : List Int → J → J
  | [], j => j
  | t :: r, j => missJ ls a r (labelJ ls t a j).2
def unlikeJ (ls : List Int) (k a : Int) : List Int → J → J
  | [], j => j
  | t :: r, j => if j.e = 0 then unlikeJ ls k a r (if (labelJ ls t a j).1 = k then (labelJ ls t a j).2 else (labelJ ls t a j).2.fault 214 a) else j
def tableJ (ls tags : List Int) (last a : Int) (p : Hv × J) : Hv × J :=
  (⟨0, true⟩, (popJ (labelJ ls last a (missJ ls a tags p.2)).1 a (popJ 1 a (p.1, unlikeJ ls (labelJ ls last a (missJ ls a tags p.2)).1 a tags (labelJ ls last a (missJ ls a tags p.2)).2))).2)
def callJ (m : Md) (x : Ix) (a : Int) (p : Hv × J) : Hv × J :=
  if (calleeP m x).2 = false then (p.1, p.2.fault 6 a)
  else pushJ (calleeP m x).1.2 (popJ (calleeP m x).1.1 a (if x.op = 17 then popJ 1 a p else p))
def namesJ (m : Md) (lo : Int) (x : Ix) (a : Int) (j : J) : J := if lacksP m lo x = 0 then j else j.fault (lacksP m lo x) a
def ifJ (res a : Int) (L E : Int → J → J) (p : Hv × J) : Hv × J :=
  let p1 := popJ 1 a p
  let j2 := if p1.2.e = 0 then L res p1.2 else p1.2
  let j3 := if j2.e = 0 then E res j2 else j2
  pushJ res (p1.1, j3)
/-- One instruction; L and E: its lists, for what a jump to them takes. -/
def oneJ (m : Md) (lo tr : Int) (ls : List Int) (x : Ix) (L E : Int → J → J) (a : Int) (p : Hv × J) : Hv × J :=
  if x.op = 0 then (⟨0, true⟩, p.2)
  else if x.op = 2 then pushJ x.res (p.1, L x.res p.2)
  else if x.op = 3 then pushJ x.res (p.1, L 0 p.2)
  else if x.op = 4 then ifJ x.res a L E p
  else if x.op = 14 then tableJ ls x.tags x.a a p
  else if x.op = 12 then (⟨0, true⟩, (popJ (labelJ ls x.a a p.2).1 a (p.1, (labelJ ls x.a a p.2).2)).2)
  else if x.op = 13 then pushJ (labelJ ls x.a a p.2).1 (popJ (labelJ ls x.a a p.2).1 a (popJ 1 a (p.1, (labelJ ls x.a a p.2).2)))
  else if x.op = 15 then (⟨0, true⟩, (popJ tr a p).2)
  else if x.op = 16 ∨ x.op = 17 then callJ m x a p
  else pushJ (leavesP x.op) (popJ (takesP x.op) a (p.1, namesJ m lo x a p.2))
def J.next (j : J) : J := ⟨j.cnt + 1, j.e, j.at_⟩
def endJ (results a : Int) (p : Hv × J) : J :=
  if p.2.e = 0 then (if 0 < (popJ results a p).1.n then (popJ results a p).2.fault 201 a else (popJ results a p).2) else p.2
/-- The instructions of a list, one behind the other. -/
def runJ (m : Md) (lo tr : Int) : Il → List Int → Hv × J → Hv × J
  | .nil, _, p => p
  | .cons x l e r, ls, p =>
    if p.2.e = 0 then
      runJ m lo tr r ls (oneJ m lo tr ls x (fun label j => endJ x.res (p.2.cnt + 1) (runJ m lo tr l (ls ++ [label]) (⟨0, false⟩, j))) (fun label j => endJ x.res (p.2.cnt + 1) (runJ m lo tr e (ls ++ [label]) (⟨0, false⟩, j))) (p.2.cnt + 1) (p.1, p.2.next))
    else p
def listJ (m : Md) (lo tr : Int) (ls : List Int) (t : Il) (label results a : Int) (j : J) : J := endJ results a (runJ m lo tr t (ls ++ [label]) (⟨0, false⟩, j))
theorem runJ_cons (m : Md) (lo tr : Int) (x : Ix) (l e r : Il) (ls : List Int) (p : Hv × J) : runJ m lo tr (.cons x l e r) ls p =
    if p.2.e = 0 then runJ m lo tr r ls (oneJ m lo tr ls x (fun label => listJ m lo tr ls l label x.res (p.2.cnt + 1)) (fun label => listJ m lo tr ls e label x.res (p.2.cnt + 1)) (p.2.cnt + 1) (p.1, p.2.next)) else p := rfl
def Md.bodyJ (m : Md) (n : Nat) : Int × Int :=
  let f := m.fu.getD n ⟨0, 0, ⟨none, 0, .nil⟩⟩
  let t := m.ty.getD f.ty.toNat (0, 0)
  let j := listJ m (t.1 + f.lo) t.2 [] f.l.t t.2 t.2 0 ⟨0, 0, 0⟩
  (j.e, j.at_)

/-- What a jump to a list takes. -/
def labF (f : Fr) : Int := if f.op = 3 then 0 else f.re
/-- Both have the same error, at the same place. -/
def Out (s : St) (j : J) : Prop := j.e ≠ 0 ∧ s.er = j.e ∧ s.at_ = j.at_
/-- Both go on, and stand alike: in a list entered from the frames fs, of which an instruction's number is a; the height is at most b. -/
structure Rel (a b : Int) (ls : List Int) (fs : List Fr) (op ba re : Int) (s : St) (p : Hv × J) : Prop where
  er : s.er = 0
  e : p.2.e = 0
  cnt : s.cnt = p.2.cnt
  l : s.l = fs ++ [⟨op, ba, re, p.1.d⟩]
  h : s.h = ba + p.1.n
  n0 : 0 ≤ p.1.n
  v : valid s.h s.l = true
  labs : ls = s.l.map labF
  at_ : s.at_ = a
  hb : s.h ≤ b
  z : p.2.at_ = 0
theorem Rel.re {a b : Int} {ls : List Int} {fs : List Fr} {op ba re : Int} {s : St} {p : Hv × J} (r : Rel a b ls fs op ba re s p) : 0 ≤ re ∧ re ≤ 1 ∧ 0 ≤ ba := by
  have := Stk.lastF_fine r.v
  rw [r.l, Stk.lastF_snoc] at this
  exact ⟨this.2.2.1, this.2.2.2, this.1⟩
theorem Rel.base {a b : Int} {ls : List Int} {fs : List Fr} {op ba re : Int} {s : St} {p : Hv × J} (r : Rel a b ls fs op ba re s p) : ∀ f ∈ s.l, f.ba ≤ ba := by
  have := Stk.bases_last r.v
  rw [r.l, Stk.lastF_snoc] at this
  rw [r.l]
  exact this
/-- An error, told by both. -/
theorem Rel.fail {a b : Int} {ls : List Int} {fs : List Fr} {op ba re : Int} {s : St} {p : Hv × J} (r : Rel a b ls fs op ba re s p) {e : Int} (he : e ≠ 0) : Out (failS e s) (p.2.fault e a) := by
  unfold failS J.fault Out
  rw [if_pos r.er, if_pos r.e]
  exact ⟨he, rfl, r.at_⟩
theorem fault_out {j : J} {e a : Int} (h : j.e ≠ 0) : j.fault e a = j := by unfold J.fault; rw [if_neg h]
theorem Rel.pop {a b : Int} {ls : List Int} {fs : List Fr} {op ba re : Int} {s : St} {p : Hv × J} (r : Rel a b ls fs op ba re s p) {n : Int} (hn : 0 ≤ n) :
    Out (popS n s) (popJ n a p).2 ∨ Rel a b ls fs op ba re (popS n s) (popJ n a p) := by
  have hl : lastF s.l = ⟨op, ba, re, p.1.d⟩ := by rw [r.l, Stk.lastF_snoc]
  have hh := r.h
  have hn0 := r.n0
  have hba := r.re.2.2
  unfold popS
  rw [if_pos r.er]
  unfold popR
  rw [if_neg (by rw [r.v]; simp), if_neg (by omega), hl]
  by_cases h1 : p.1.n < n ∧ p.1.d = false
  · left
    have hw : without s.h n ⟨op, ba, re, p.1.d⟩ = (0, 200) := by unfold without; rw [if_pos ⟨by simp only; omega, h1.2⟩]
    rw [hw, if_neg (by simp)]
    unfold popJ Out
    rw [if_pos h1]
    unfold J.fault
    rw [if_pos r.e]
    exact ⟨by simp, rfl, r.at_⟩
  · right
    have hw : without s.h n ⟨op, ba, re, p.1.d⟩ = (if ba ≤ s.h - n then s.h - n else ba, 0) := by
      unfold without
      rw [if_neg (fun h => h1 ⟨by have := h.1; simp only at this; omega, h.2⟩)]
    rw [hw, if_pos rfl]
    have hb := r.hb
    have hv1 := (Stk.valid_yes r.v).2.1
    have hle : (if ba ≤ s.h - n then s.h - n else ba) ≤ s.h := by split <;> omega
    have hge : ba ≤ (if ba ≤ s.h - n then s.h - n else ba) := by split <;> omega
    refine ⟨rfl, ?_, r.cnt.trans ?_, r.l, ?_, ?_, Stk.valid_shift r.v (by simp only [St.put]; omega) (by simp only [St.put]; omega) (fun f hf => Int.le_trans (r.base f hf) hge), r.labs, r.at_, by simp only [St.put]; omega, ?_⟩
    · unfold popJ; rw [if_neg h1]; exact r.e
    · unfold popJ; rw [if_neg h1]
    · unfold popJ; simp only [St.put]; split <;> omega
    · unfold popJ; simp only; omega
    · unfold popJ; rw [if_neg h1]; exact r.z
theorem push_ok {h k : Int} {l : List Fr} (hv : valid h l = true) (h0 : 0 ≤ k) (h1 : h + k ≤ 1073741824) : pushR h l k = ⟨h + k, l, 0⟩ := by
  unfold pushR
  rw [if_neg (by rw [hv]; simp), if_neg (by omega), if_neg (by omega)]
theorem Rel.push {a b : Int} {ls : List Int} {fs : List Fr} {op ba re : Int} {s : St} {p : Hv × J} (r : Rel a b ls fs op ba re s p) {n c : Int} (hn : 0 ≤ n) (h1 : s.h + n ≤ c) (h2 : c ≤ 1073741824) :
    Rel a c ls fs op ba re (pushS n s) (pushJ n p) := by
  have hh := r.h
  have hn0 := r.n0
  have hba := r.re.2.2
  unfold pushS
  rw [if_pos r.er, push_ok r.v hn (by omega)]
  refine ⟨rfl, r.e, r.cnt, r.l, ?_, ?_, Stk.valid_shift r.v (by simp only [St.put]; omega) (by simp only [St.put]; omega) (fun f hf => by have := r.base f hf; simp only [St.put]; omega), r.labs, r.at_, by simp only [St.put]; omega, r.z⟩
  · simp only [St.put, pushJ]; omega
  · simp only [pushJ]; omega
theorem deadR_at {h ba re op : Int} {d : Bool} {fs : List Fr} (hv : valid h (fs ++ [⟨op, ba, re, d⟩]) = true) : deadR h (fs ++ [⟨op, ba, re, d⟩]) = ⟨ba, fs ++ [⟨op, ba, re, true⟩], 0⟩ := by
  unfold deadR
  rw [if_neg (by rw [hv]; simp), Stk.lastF_snoc]
  simp
theorem valid_dead {h ba re op : Int} {d : Bool} {fs : List Fr} (hv : valid h (fs ++ [⟨op, ba, re, d⟩]) = true) : valid h (fs ++ [⟨op, ba, re, true⟩]) = true := by
  obtain ⟨g, r, hl, h1, h2, h3, h4, h5⟩ := Stk.valid_parts hv
  cases fs with
  | nil =>
    simp only [List.nil_append, List.cons.injEq] at hl
    obtain ⟨rfl, rfl⟩ := hl
    exact Stk.valid_of h1 h2 (by simp) h4 rfl
  | cons g' fs' =>
    simp only [List.cons_append, List.cons.injEq] at hl
    obtain ⟨rfl, rfl⟩ := hl
    rw [List.cons_append]
    refine Stk.valid_of h1 h2 (by simpa using h3) h4 ?_
    have hz : g'.ba = 0 := by
      have := h4
      simp only [Stk.badFirst, Bool.or_eq_false_iff, decide_eq_false_iff_not, ne_eq, Decidable.not_not] at this
      exact this.1.2
    have e0 : (0 : Int) = g'.ba := hz.symm
    rw [e0, Stk.badL_snoc] at h5 ⊢
    exact h5
theorem Rel.dead {a b : Int} {ls : List Int} {fs : List Fr} {op ba re : Int} {s : St} {p : Hv × J} (r : Rel a b ls fs op ba re s p) : Rel a b ls fs op ba re (deadS s) (⟨0, true⟩, p.2) := by
  have hh := r.h
  have hn0 := r.n0
  have hv := r.v
  rw [r.l] at hv
  have hb := r.hb
  have hv1 := (Stk.valid_yes r.v).2.1
  unfold deadS
  rw [if_pos r.er, r.l, deadR_at hv]
  refine ⟨rfl, r.e, r.cnt, rfl, by simp [St.put], Int.le_refl _, Stk.valid_shift (valid_dead hv) r.re.2.2 (by simp only [St.put]; omega) (fun f hf => ?_), ?_, r.at_, by simp only [St.put]; omega, r.z⟩
  · have := Stk.bases_last (valid_dead hv) f hf
    rw [Stk.lastF_snoc] at this
    exact this
  · rw [r.labs, r.l]; simp [St.put, labF]
theorem Rel.fine0 {a b : Int} {ls : List Int} {fs : List Fr} {op ba re : Int} {s : St} {p : Hv × J} (r : Rel a b ls fs op ba re s p) : failS 0 s = s := by
  unfold failS; rw [if_pos r.er]
  have := r.er
  cases s; simp only at this; subst this; rfl
theorem Rel.labelIn {a b : Int} {ls : List Int} {fs : List Fr} {op ba re : Int} {s : St} {p : Hv × J} (r : Rel a b ls fs op ba re s p) {n : Int} (hn : 0 ≤ n) (hl : n < (ls.length : Int)) :
    labelS n s = ((labelJ ls n a p.2).1, s) ∧ (labelJ ls n a p.2).2 = p.2 ∧ 0 ≤ (labelJ ls n a p.2).1 ∧ (labelJ ls n a p.2).1 ≤ 1 := by
  have hlen : ls.length = s.l.length := by rw [r.labs]; simp
  have hk : s.l.length - 1 - n.toNat < s.l.length := by omega
  have hg : s.l.getD (s.l.length - 1 - n.toNat) Fr.none = s.l[s.l.length - 1 - n.toNat] := by simp [hk]
  have hg2 : ls.getD (ls.length - 1 - n.toNat) 0 = labF s.l[s.l.length - 1 - n.toNat] := by
    rw [hlen, r.labs]
    simp [hk]
  have hf := Stk.valid_fine r.v _ (List.getElem_mem hk)
  have e : labelR s.h s.l n = (labF s.l[s.l.length - 1 - n.toNat], 0) := by
    unfold labelR
    rw [if_neg (by rw [r.v]; simp), if_neg (by omega), hg]
    unfold labF
    split <;> rfl
  unfold labelS labelJ
  rw [if_pos r.er, if_neg (by omega), hg2, e]
  refine ⟨by rw [r.fine0], rfl, ?_, ?_⟩
  · unfold labF; split; · exact Int.le_refl _
    exact hf.2.2.1
  · unfold labF; split; · simp
    exact hf.2.2.2
theorem Rel.labelOut {a b : Int} {ls : List Int} {fs : List Fr} {op ba re : Int} {s : St} {p : Hv × J} (r : Rel a b ls fs op ba re s p) {n : Int} (hl : (ls.length : Int) ≤ n) :
    labelS n s = (0, failS 6 s) ∧ labelJ ls n a p.2 = (0, p.2.fault 6 a) := by
  have hlen : ls.length = s.l.length := by rw [r.labs]; simp
  unfold labelS labelJ labelR
  rw [if_pos r.er, if_neg (by rw [r.v]; simp), if_pos (.inr (by omega)), if_pos hl]
  exact ⟨rfl, rfl⟩
theorem failS_erJ {e : Int} {s : St} (h : s.er ≠ 0) : failS e s = s := by unfold failS; rw [if_neg h]
theorem popS_erJ {n : Int} {s : St} (h : s.er ≠ 0) : popS n s = s := by unfold popS; rw [if_neg h]
theorem pushS_erJ {n : Int} {s : St} (h : s.er ≠ 0) : pushS n s = s := by unfold pushS; rw [if_neg h]
theorem deadS_erJ {s : St} (h : s.er ≠ 0) : deadS s = s := by unfold deadS; rw [if_neg h]
theorem enterS_erJ {o e : Int} {s : St} (h : s.er ≠ 0) : enterS o e s = s := by unfold enterS; rw [if_neg h]
theorem leaveS_erJ {o : Int} {s : St} (h : s.er ≠ 0) : leaveS o s = s := by unfold leaveS; rw [if_neg h]
theorem labelS_erJ {n : Int} {s : St} (h : s.er ≠ 0) : labelS n s = (0, s) := by unfold labelS; rw [if_neg h]
theorem tagsS_erJ (k : Int) : ∀ (l : List Int) (b : Bool) {s : St}, s.er ≠ 0 → (tagsS k l b s).2 = s
  | [], _, _, _ => rfl
  | t :: r, b, s, h => by rw [tagsS, labelS_erJ h]; exact tagsS_erJ k r _ h
theorem callS_erJ {t : Int × Int} {s : St} (h : s.er ≠ 0) : callS t s = s := by unfold callS; rw [popS_erJ h, pushS_erJ h]
theorem listS_erJ {m : Md} {lo re : Int} {t : Il} {s : St} (h : s.er ≠ 0) : listS m lo re t s = s := by unfold listS; rw [runS_er _ _ _ _ _ h, leaveS_erJ h]
theorem popJ_out {n a : Int} {p : Hv × J} (h : p.2.e ≠ 0) : (popJ n a p).2 = p.2 := by
  unfold popJ; simp only; split
  · exact fault_out h
  · rfl
theorem labelJ_out {ls : List Int} {n a : Int} {j : J} (h : j.e ≠ 0) : (labelJ ls n a j).2 = j := by
  unfold labelJ; split
  · exact fault_out h
  · rfl
theorem missJ_out (ls : List Int) (a : Int) : ∀ (l : List Int) {j : J}, j.e ≠ 0 → missJ ls a l j = j
  | [], _, _ => rfl
  | t :: r, j, h => by rw [missJ, labelJ_out h]; exact missJ_out ls a r h
theorem unlikeJ_out (ls : List Int) (k a : Int) (l : List Int) {j : J} (h : j.e ≠ 0) : unlikeJ ls k a l j = j := by
  cases l with
  | nil => rfl
  | cons t r => rw [unlikeJ, if_neg h]
theorem fault_ne {j : J} {e a : Int} (h : e ≠ 0) : (j.fault e a).e ≠ 0 := by unfold J.fault; split <;> assumption
theorem failS_ne {e : Int} {s : St} (h : e ≠ 0) : (failS e s).er ≠ 0 := by unfold failS; split <;> assumption
end Go.Proofs.YtdljneclfgneoaaGreatDoor.Val

namespace Go.Proofs.YtdljneclfgneoaaGreatDoor.Mod
open Go.RowKit Go.Shelf Go.Proofs.YtdljneclfgneoaaGreatDoor.Instr

theorem s64_in (x : Int) (h0 : 0 ≤ x) (h1 : x ≤ 1000000000000000) : IntKind.i64.wrap x = x := by rw [IntKind.wrap_i64]; omega
set_option maxHeartbeats 2000000 in
theorem refTypeOf_any (m : Md) (n : Nat) (w : World) (hm : ModAt w.heap.size w m) (hf : m.fits) (hn : n < 4294967296) :
    Calls Tryz.prog 126 #[.agg m.v, .int .u32 (n : Int)] w fun e w' => e = .returned (.tuple #[.agg #[.int .i64 (m.typeOf n).1.1, .int .i64 (m.typeOf n).1.2], .bool (m.typeOf n).2]) ∧ Below w.heap.size w w' := by
  have hb1 : Below w.heap.size w ((w.alloc (.cells m.v 40)).alloc (.cells #[.int .i64 0, .int .i64 0] 26)) := thenA (thenA (Below.refl _ _) _) _
  have HB := hid hb1
  have hm1 := hm.on hb1
  have hx := ((BoxAt.made w m.v 40).keep ((Below.refl _ _).alloc (Nat.le_refl _) (.cells #[.int .i64 0, .int .i64 0] 26))).all
  obtain ⟨k0, k1, k2, -⟩ := hx
  have r0 : ((w.alloc (.cells m.v 40)).alloc (.cells #[.int .i64 0, .int .i64 0] 26)).cell? ⟨w.heap.size + 1, 0, none⟩ = some (.int .i64 0) := by go_simp
  have r1 : ((w.alloc (.cells m.v 40)).alloc (.cells #[.int .i64 0, .int .i64 0] 26)).cell? ⟨w.heap.size + 1, 1, none⟩ = some (.int .i64 0) := by go_simp
  have f0 : ((w.alloc (.cells m.v 40)).alloc (.cells #[.int .i64 0, .int .i64 0] 26)).frozen? ⟨w.heap.size + 1, 0, none⟩ = false := by go_simp
  have f1 : ((w.alloc (.cells m.v 40)).alloc (.cells #[.int .i64 0, .int .i64 0] 26)).frozen? ⟨w.heap.size + 1, 1, none⟩ = false := by go_simp
  have HTY := hid hm1.ty
  have HI := hid hm1.im
  have HF := hid hm1.fu
  have HE : Hid (m.typeN n = if n < m.im.length then ((m.im.map (·.ty)).getD n 0) else if n < m.im.length + m.fu.length then ((m.fu.map (·.ty)).getD (n - m.im.length) 0) else -1) := rfl
  have HG := hid (show ∀ k (hk : k < m.im.length), (m.im.map (·.ty)).getD k 0 = m.im[k].ty from fun k hk => by simp [hk])
  have HH := hid (show ∀ k (hk : k < m.fu.length), (m.fu.map (·.ty)).getD k 0 = m.fu[k].ty from fun k hk => by simp [hk])
  have lt := hf.ty
  have li := hf.im
  have lf := hf.fu
  have HN := hid (fun h => typeOf_no (m := m) (n := n) h)
  have HY := hid (fun k h hk => typeOf_yes (m := m) (n := n) (k := k) h hk)
  unfold Md.v at HI HF HTY HB k0 k1 k2 r0 r1 f0 f1 ⊢
  clear hm hf hb1 hm1
  by_cases h1 : n < m.im.length
  · obtain ⟨b, off, ha, hb, hc⟩ := Rows.get HI.out h1
    have HT0 := hid (show m.typeN n = m.im[n].ty by rw [HE.out, if_pos h1, HG.out n h1])
    obtain ⟨y, hy⟩ : ∃ y, m.im[n] = y := ⟨_, rfl⟩
    rw [hy] at hc HT0
    generalize m.im'.a = ai at ha k0 k1 k2 r0 r1 f0 f1 HB HTY hc HI HF ⊢
    subst ha
    have c0 := hc 2 (by omega) (.int .i64 y.ty) rfl
    obtain ⟨t, ht⟩ : ∃ t, y.ty = t := ⟨_, rfl⟩
    rw [ht] at c0 HT0
    have HT := HT0
    have h1i : (n : Int) < (m.im.length : Int) := by omega
    clear hy ht HT0 hc HE HG HH HI HF hb h1
    by_cases g1 : t < 0
    · have HR := hid (HN.out (.inl (by rw [HT.out]; exact g1)))
      clear HN HY HT HTY
      go_enter Tryz.func126, Tryz.ntmps126
      go_wp2
      refine bodyPost_ret (v := .tuple #[.agg #[.int .i64 0, .int .i64 0], .bool false]) (by simp [results, Tryz.results126, go_sem, r0, r1]) rfl (And.intro (ret_ty (by rw [HR.out])) ?_)
      first | exact HB.out | exact (Below.refl _ _).drew | exact thenA (thenA (Below.refl _ _) _) _ | exact (thenA (thenA (Below.refl _ _) _) _).drew | exact (HB.out.setCell (p := ⟨w.heap.size + 1, 0, none⟩) (by simp) _).setCell (p := ⟨w.heap.size + 1, 1, none⟩) (by simp) _
    · by_cases g2 : (m.ty.length : Int) ≤ t
      · have HR := hid (HN.out (.inr (by rw [HT.out]; exact g2)))
        clear HN HY HT HTY
        go_enter Tryz.func126, Tryz.ntmps126
        go_wp2
        refine bodyPost_ret (v := .tuple #[.agg #[.int .i64 0, .int .i64 0], .bool false]) (by simp [results, Tryz.results126, go_sem, r0, r1]) rfl (And.intro (ret_ty (by rw [HR.out])) ?_)
        first | exact HB.out | exact (Below.refl _ _).drew | exact thenA (thenA (Below.refl _ _) _) _ | exact (thenA (thenA (Below.refl _ _) _) _).drew | exact (HB.out.setCell (p := ⟨w.heap.size + 1, 0, none⟩) (by simp) _).setCell (p := ⟨w.heap.size + 1, 1, none⟩) (by simp) _
      · obtain ⟨j, rfl⟩ : ∃ j : Nat, t = j := ⟨t.toNat, by omega⟩
        have hj : j < m.ty.length := by omega
        have HR := hid (HY.out j HT.out hj)
        obtain ⟨b2, off2, ha2, hb2, hc2⟩ := Rows.get HTY.out hj
        generalize m.ty'.a = at9 at ha2 hb2 hc2 k0 k1 k2 r0 r1 f0 f1 HB HTY c0 ⊢
        subst ha2
        obtain ⟨x, hx⟩ : ∃ x, m.ty[j] = x := ⟨_, rfl⟩
        rw [hx] at hc2 HR
        have d0 := hc2 0 (by omega) (.int .i64 x.1) rfl
        have d1 := hc2 1 (by omega) (.int .i64 x.2) rfl
        have hji : (j : Int) < (m.ty.length : Int) := by omega
        clear hx hc2 HN HY HT HTY g1 g2
        try simp only [Nat.add_zero] at d0
        go_enter Tryz.func126, Tryz.ntmps126
        go_wp2
        refine bodyPost_ret (v := .tuple #[.agg #[.int .i64 x.1, .int .i64 x.2], .bool true]) (by simp [results, Tryz.results126, go_sem]) rfl (And.intro (ret_ty (by rw [HR.out])) ?_)
        first | exact HB.out | exact (Below.refl _ _).drew | exact thenA (thenA (Below.refl _ _) _) _ | exact (thenA (thenA (Below.refl _ _) _) _).drew | exact (HB.out.setCell (p := ⟨w.heap.size + 1, 0, none⟩) (by simp) _).setCell (p := ⟨w.heap.size + 1, 1, none⟩) (by simp) _
  · have h1i : ¬ (n : Int) < (m.im.length : Int) := by omega
    have us := s64_in ((m.im.length : Int) + (m.fu.length : Int)) (by omega) (by omega)
    by_cases h2 : n < m.im.length + m.fu.length
    · obtain ⟨k, rfl⟩ : ∃ k, n = m.im.length + k := ⟨n - m.im.length, by omega⟩
      have hk : k < m.fu.length := by omega
      have HT0 := hid (show m.typeN (m.im.length + k) = m.fu[k].ty by rw [HE.out, if_neg h1, if_pos h2, Nat.add_sub_cancel_left, HH.out k hk])
      obtain ⟨b, off, ha, hb, hc⟩ := Rows.get HF.out hk
      obtain ⟨y, hy⟩ : ∃ y, m.fu[k] = y := ⟨_, rfl⟩
      rw [hy] at hc HT0
      generalize m.fu'.a = ai at ha k0 k1 k2 r0 r1 f0 f1 HB HTY hc HI HF ⊢
      subst ha
      have c0 := hc 0 (by omega) (.int .i64 y.ty) rfl
      simp only [Nat.add_zero] at c0
      obtain ⟨t, ht⟩ : ∃ t, y.ty = t := ⟨_, rfl⟩
      rw [ht] at c0 HT0
      have HT := HT0
      clear hy ht HT0 hc HE HG HH HI HF hb h1 h2
      generalize m.im.length = A at *
      generalize m.fu.length = F at *
      have e1 : ((A + k : Nat) : Int) = (A : Int) + (k : Int) := by omega
      rw [e1] at h1i ⊢
      have ui := s64_in ((A : Int) + (k : Int)) (by omega) (by omega)
      have ud2 : (A : Int) + (k : Int) - (A : Int) = (k : Int) := by omega
      have uk := s64_in (k : Int) (by omega) (by omega)
      have h2i : (A : Int) + (k : Int) < (A : Int) + (F : Int) := by omega
      have hki : (k : Int) < (F : Int) := by omega
      clear e1
      by_cases g1 : t < 0
      · have HR := hid (HN.out (.inl (by rw [HT.out]; exact g1)))
        clear HN HY HT HTY
        go_enter Tryz.func126, Tryz.ntmps126
        go_wp2
        refine bodyPost_ret (v := .tuple #[.agg #[.int .i64 0, .int .i64 0], .bool false]) (by simp [results, Tryz.results126, go_sem, r0, r1]) rfl (And.intro (ret_ty (by rw [HR.out])) ?_)
        first | exact HB.out | exact (Below.refl _ _).drew | exact thenA (thenA (Below.refl _ _) _) _ | exact (thenA (thenA (Below.refl _ _) _) _).drew | exact (HB.out.setCell (p := ⟨w.heap.size + 1, 0, none⟩) (by simp) _).setCell (p := ⟨w.heap.size + 1, 1, none⟩) (by simp) _
      · by_cases g2 : (m.ty.length : Int) ≤ t
        · have HR := hid (HN.out (.inr (by rw [HT.out]; exact g2)))
          clear HN HY HT HTY
          go_enter Tryz.func126, Tryz.ntmps126
          go_wp2
          refine bodyPost_ret (v := .tuple #[.agg #[.int .i64 0, .int .i64 0], .bool false]) (by simp [results, Tryz.results126, go_sem, r0, r1]) rfl (And.intro (ret_ty (by rw [HR.out])) ?_)
          first | exact HB.out | exact (Below.refl _ _).drew | exact thenA (thenA (Below.refl _ _) _) _ | exact (thenA (thenA (Below.refl _ _) _) _).drew | exact (HB.out.setCell (p := ⟨w.heap.size + 1, 0, none⟩) (by simp) _).setCell (p := ⟨w.heap.size + 1, 1, none⟩) (by simp) _
        · obtain ⟨j, rfl⟩ : ∃ j : Nat, t = j := ⟨t.toNat, by omega⟩
          have hj : j < m.ty.length := by omega
          have HR := hid (HY.out j HT.out hj)
          obtain ⟨b2, off2, ha2, hb2, hc2⟩ := Rows.get HTY.out hj
          generalize m.ty'.a = at9 at ha2 hb2 hc2 k0 k1 k2 r0 r1 f0 f1 HB HTY c0 ⊢
          subst ha2
          obtain ⟨x, hx⟩ : ∃ x, m.ty[j] = x := ⟨_, rfl⟩
          rw [hx] at hc2 HR
          have d0 := hc2 0 (by omega) (.int .i64 x.1) rfl
          have d1 := hc2 1 (by omega) (.int .i64 x.2) rfl
          have hji : (j : Int) < (m.ty.length : Int) := by omega
          clear hx hc2 HN HY HT HTY g1 g2
          try simp only [Nat.add_zero] at d0
          go_enter Tryz.func126, Tryz.ntmps126
          go_wp2
          refine bodyPost_ret (v := .tuple #[.agg #[.int .i64 x.1, .int .i64 x.2], .bool true]) (by simp [results, Tryz.results126, go_sem]) rfl (And.intro (ret_ty (by rw [HR.out])) ?_)
          first | exact HB.out | exact (Below.refl _ _).drew | exact thenA (thenA (Below.refl _ _) _) _ | exact (thenA (thenA (Below.refl _ _) _) _).drew | exact (HB.out.setCell (p := ⟨w.heap.size + 1, 0, none⟩) (by simp) _).setCell (p := ⟨w.heap.size + 1, 1, none⟩) (by simp) _
    · have h2i : ¬ (n : Int) < (m.im.length : Int) + (m.fu.length : Int) := by omega
      have HR := hid (HN.out (.inl (show m.typeN n < 0 by rw [HE.out, if_neg h1, if_neg h2]; omega)))
      clear HN HY HTY HE HG HH HI HF h1 h2
      go_enter Tryz.func126, Tryz.ntmps126
      go_wp2
      refine bodyPost_ret (v := .tuple #[.agg #[.int .i64 0, .int .i64 0], .bool false]) (by simp [results, Tryz.results126, go_sem, r0, r1]) rfl (And.intro (ret_ty (by rw [HR.out])) ?_)
      first | exact HB.out | exact (Below.refl _ _).drew | exact thenA (thenA (Below.refl _ _) _) _ | exact (thenA (thenA (Below.refl _ _) _) _).drew | exact (HB.out.setCell (p := ⟨w.heap.size + 1, 0, none⟩) (by simp) _).setCell (p := ⟨w.heap.size + 1, 1, none⟩) (by simp) _
end Go.Proofs.YtdljneclfgneoaaGreatDoor.Mod
