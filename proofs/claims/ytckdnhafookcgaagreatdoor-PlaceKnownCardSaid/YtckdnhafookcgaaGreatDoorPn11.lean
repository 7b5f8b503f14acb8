import Derived.Test.YtckdnhafookcgaaGreatDoorPn10
import Derived.Test.YtckdnhafookcgaaGreatDoorPn02
import Derived.Test.YtckdnhafookcgaaGreatDoorPn06
import Derived.Test.YtckdnhafookcgaaGreatDoorPn08
import Derived.Test.YtckdnhafookcgaaGreatDoorPn01
import Derived.Laws.OwnMore
import Derived.WalkSmall
import Derived.Deep.AppendLies
import Derived.Deep.RegionHeld3
import Derived.RegionTactic
import Derived.ChangeAlike
import Derived.Deep.RegionWith
import Derived.BigQuiet
import Derived.Deep.RegionHeldLaw
import Derived.Deep.RegionLaw
import Derived.Laws.AppendOwnNone
namespace Go.Proofs.YtckdnhafookcgaaGreatDoor.Instr
end Go.Proofs.YtckdnhafookcgaaGreatDoor.Instr
namespace Go.Proofs.YtckdnhafookcgaaGreatDoor.Mod
end Go.Proofs.YtckdnhafookcgaaGreatDoor.Mod
namespace Go.Proofs.YtckdnhafookcgaaGreatDoor.Val
end Go.Proofs.YtckdnhafookcgaaGreatDoor.Val
namespace Go.Proofs.YtckdnhafookcgaaGreatDoor.Num
end Go.Proofs.YtckdnhafookcgaaGreatDoor.Num
namespace Go.Proofs.YtckdnhafookcgaaGreatDoor.Kind
end Go.Proofs.YtckdnhafookcgaaGreatDoor.Kind
namespace Go.Proofs.YtckdnhafookcgaaGreatDoor.Leb
end Go.Proofs.YtckdnhafookcgaaGreatDoor.Leb
namespace Go.Proofs.YtckdnhafookcgaaGreatDoor.Val
open Go.RowKit Go.Shelf Go.Proofs.YtckdnhafookcgaaGreatDoor.Instr Go.Proofs.YtckdnhafookcgaaGreatDoor.Mod
set_option linter.unusedVariables false

/-- What is wrong, and where. -/
structure Wr where
  e : Int
  s : Int
  i : Int
  a : Int
def Wr.v (r : Wr) : Array Value := #[.int .i64 r.e, .int .i64 r.s, .int .i64 r.i, .int .i64 r.a]
/-- Of n items from the k-th on: the first that is wrong. -/
def scanI (m : Md) (j : Nat) : Nat → Nat → Option Wr
  | _, 0 => none
  | k, n + 1 => if (secE m j k).1 = 0 then scanI m j (k + 1) n else some ⟨(secE m j k).1, secN j, k, (secE m j k).2⟩
/-- Of c sections from the j-th on. -/
def scanS (m : Md) : Nat → Nat → Option Wr
  | _, 0 => none
  | j, c + 1 => match scanI m j 0 (secL m j) with
    | some r => some r
    | none => scanS m (j + 1) c
def wrongP (m : Md) : Wr := if m.check = 0 then (scanS m 0 8).getD ⟨0, 0, 0, 0⟩ else ⟨m.check, 0, 0, 0⟩
theorem scanS_hit {m : Md} {j c : Nat} {r : Wr} (h : scanI m j 0 (secL m j) = some r) : scanS m j (c + 1) = some r := by rw [scanS, h]
theorem scanS_miss {m : Md} {j c : Nat} (h : scanI m j 0 (secL m j) = none) : scanS m j (c + 1) = scanS m (j + 1) c := by rw [scanS, h]
theorem sec_enters (k : Nat) (hk : k < 8) : ∀ args w, (callFunc (secF k) args).run Tryz.prog w = .ok (.enter (secF k) args) w := by
  match k, hk with
  | 0, _ => exact enters_of Tryz.func137 (by kernel_rfl) rfl
  | 1, _ => exact enters_of Tryz.func139 (by kernel_rfl) rfl
  | 2, _ => exact enters_of Tryz.func140 (by kernel_rfl) rfl
  | 3, _ => exact enters_of Tryz.func142 (by kernel_rfl) rfl
  | 4, _ => exact enters_of Tryz.func144 (by kernel_rfl) rfl
  | 5, _ => exact enters_of Tryz.func146 (by kernel_rfl) rfl
  | 6, _ => exact enters_of Tryz.func148 (by kernel_rfl) rfl
  | 7, _ => exact enters_of Tryz.func149 (by kernel_rfl) rfl
theorem sec_m (gm gn bm : Nat) (m : Md) (j k : Nat) (hj : j < 8) (W : World) (h : Sx gm gn bm m W) (hf : m.few) (hfi : Fine m) (hrg : Rg m) (hk : k < secL m j) :
    Calls Tryz.prog (secF j) (#[.int .i64 k] ++ secB gm gn j) W fun e w' => e = .returned (.tuple #[.int .i64 (secE m j k).1, .int .i64 (secE m j k).2]) ∧ Below W.heap.size W w' := by
  match j, hj, hk with
  | 0, _, hk => exact sec0_m gm gn bm m k W h hf hfi hrg hk
  | 1, _, hk => exact sec1_m gm gn bm m k W h hf hfi hrg hk
  | 2, _, hk => exact sec2_m gm gn bm m k W h hf hfi hrg hk
  | 3, _, hk => exact sec3_m gm gn bm m k W h hf hfi hrg hk
  | 4, _, hk => exact sec4_m gm gn bm m k W h hf hfi hrg hk
  | 5, _, hk => exact sec5_m gm gn bm m k W h hf hfi hrg hk
  | 6, _, hk => exact sec6_m gm gn bm m k W h hf hfi hrg hk
  | 7, _, hk => exact sec7_m gm gn bm m k W h hf hfi hrg hk
theorem secL_le {m : Md} (hf : m.few) (j : Nat) : secL m j ≤ 1000000 := by
  have h := hf.lens
  unfold secL
  split <;> (try split) <;> omega
/-- A box of four numbers. -/
def Bx4 (W : World) (g : Nat) (r : Wr) : Prop := W.heap[g]? = some (.cells r.v 80 (0, 0))
theorem Bx4.lt {W : World} {g : Nat} {r : Wr} (h : Bx4 W g r) : g < W.heap.size := (Array.getElem?_eq_some_iff.1 h).1
theorem Bx4.on {W W' : World} {g : Nat} {r : Wr} (h : Bx4 W g r) (hb : Below W.heap.size W W') : Bx4 W' g r := (hb.block g h.lt).trans h
theorem Bx4.c {W : World} {g : Nat} {r : Wr} (h : Bx4 W g r) : W.cell? ⟨g, 0, none⟩ = some (.int .i64 r.e) ∧ W.cell? ⟨g, 1, none⟩ = some (.int .i64 r.s) ∧ W.cell? ⟨g, 2, none⟩ = some (.int .i64 r.i) ∧ W.cell? ⟨g, 3, none⟩ = some (.int .i64 r.a) ∧
    W.frozen? ⟨g, 0, none⟩ = false ∧ W.frozen? ⟨g, 1, none⟩ = false ∧ W.frozen? ⟨g, 2, none⟩ = false ∧ W.frozen? ⟨g, 3, none⟩ = false :=
  ⟨cell_of_row W g 0 _ _ _ h, cell_of_row W g 1 _ _ _ h, cell_of_row W g 2 _ _ _ h, cell_of_row W g 3 _ _ _ h, frozen_of_row W g 0 _ _ h, frozen_of_row W g 1 _ _ h, frozen_of_row W g 2 _ _ h, frozen_of_row W g 3 _ _ h⟩
theorem Bx4.set {W : World} {g : Nat} {r : Wr} (h : Bx4 W g r) (x y z t : Int) : Bx4 ((((W.setCell ⟨g, 0, none⟩ (.int .i64 x)).setCell ⟨g, 1, none⟩ (.int .i64 y)).setCell ⟨g, 2, none⟩ (.int .i64 z)).setCell ⟨g, 3, none⟩ (.int .i64 t)) g ⟨x, y, z, t⟩ :=
  heap_setCell_same _ g 3 _ _ _ (heap_setCell_same _ g 2 _ _ _ (heap_setCell_same _ g 1 _ _ _ (heap_setCell_same W g 0 _ _ _ h)))
theorem results_w {fn : Func} {p : Tmp} (h : fn.results = #[.cell p 80]) (tmps : Array Value) (w : World) (g : Nat) {r : Wr} (hp : tmps.getD p undef = .pointer (some ⟨g, 0, none⟩)) (hb : Bx4 w g r) :
    (results fn tmps).run Tryz.prog w = .ok (.agg r.v) w := by
  have hp' : tmps[p]?.getD undef = .pointer (some ⟨g, 0, none⟩) := by simpa using hp
  simp [results, h, hp', asAddr, run_loadVar_row w g _ 80 _ _ _ hb Tryz.underlying80 rfl (by kernel_rfl)]
def CheckP (m : Md) (w : World) (e : Ending) (w' : World) : Prop := e = .returned (.agg (wrongP m).v) ∧ Below w.heap.size w w'
set_option maxRecDepth 100000 in
set_option maxHeartbeats 4000000 in
theorem Check_m (m : Md) (w : World) (hm : ModAt w.heap.size w m) (hf : m.few) (hrg : Rg m) (hT : Nams w) (hU : Utf.Tabs w) (hA : Num.Arit w) : Calls Tryz.prog 30 #[.agg m.v] w (CheckP m w) := by
  obtain ⟨W0, hW0⟩ : ∃ W0, W0 = (w.alloc (.cells m.v 32)).alloc (.cells #[.int .i64 0, .int .i64 0, .int .i64 0, .int .i64 0] 80) := ⟨_, rfl⟩
  have hb0 : Below w.heap.size w W0 := by rw [hW0]; exact thenA (thenA (Below.refl _ _) _) _
  have hbx : BoxAt W0 w.heap.size m.v := by rw [hW0]; exact (BoxAt.made w m.v _).keep (belowAlloc _ _)
  have hr : Bx4 W0 (w.heap.size + 1) ⟨0, 0, 0, 0⟩ := by rw [hW0]; have := heap_alloc_new (w.alloc (.cells m.v 32)) (.cells #[.int .i64 0, .int .i64 0, .int .i64 0, .int .i64 0] 80); rw [World.size_alloc] at this; exact this
  have HX := hid hbx
  have HB := hid hb0
  have HR := hid hr
  have HM := hid (hm.on hb0)
  have HF := hid hf
  have HRG := hid hrg
  have HT := hid (hT.below hb0)
  have HAR := hid (hA.below hb0)
  have C := hid (ModCheck_any m W0 (hT.below hb0) (hU.below hb0) (hm.on hb0) hf)
  have HFI := hid (fun h => fine_of (m := m) h)
  have HE : Hid (wrongP m = if m.check = 0 then (scanS m 0 8).getD ⟨0, 0, 0, 0⟩ else ⟨m.check, 0, 0, 0⟩) := rfl
  obtain ⟨ck, hck⟩ : ∃ c, m.check = c := ⟨_, rfl⟩
  rw [hck] at C HFI HE
  obtain ⟨v0, v1, v2, v3, v4, v5, v6, v7, v8, v9, v10, hv⟩ : ∃ v0 v1 v2 v3 v4 v5 v6 v7 v8 v9 v10, m.v = #[v0, v1, v2, v3, v4, v5, v6, v7, v8, v9, v10] := ⟨_, _, _, _, _, _, _, _, _, _, _, rfl⟩
  have CS := hid (fun w' hm' hT' hA' => sections_m m w' hm' hf hT' hA')
  rw [hv] at hW0 HX C CS ⊢
  obtain ⟨n0, n1, n2, n3, n4, n5, n6, n7, n8, n9, n10⟩ := BoxAt.mod HX.out
  clear hm hf hrg hT hU hA hb0 hbx hr hck hv
  go_enter Tryz.func30, Tryz.ntmps30
  go_upto_region 1 with fail
  rw [← hW0]
  clear hW0
  go_wp2_with fail
  refine C.out.mono ?_
  rintro e1 w1 ⟨rfl, hb1⟩
  have HX1 := hid (HX.out.keep hb1)
  have HB1 := hid (HB.out.trans (hb1.mono HB.out.size))
  have HR1 := hid (HR.out.on hb1)
  have HM1 := hid (HM.out.on hb1)
  have HT1 := hid (HT.out.below hb1)
  have HA1 := hid (HAR.out.below hb1)
  clear C hb1 n0 n1 n2 n3 n4 n5 n6 n7 n8 n9 n10 HX HB HR HM HT HAR
  by_cases hc : ck = 0
  · subst hc
    have HW := hid (show wrongP m = (scanS m 0 8).getD ⟨0, 0, 0, 0⟩ by rw [HE.out, if_pos rfl])
    have HFN := hid (HFI.out rfl)
    obtain ⟨n0, n1, n2, n3, n4, n5, n6, n7, n8, n9, n10⟩ := BoxAt.mod HX1.out
    have C2 := hid (CS.out w1 HM1.out HT1.out HA1.out)
    clear HE HFI CS
    go_wp2_with fail
    refine C2.out.mono ?_
    rintro e2 w2 ⟨gs, gm, gn, bm, rfl, hs2, hx2, hb2⟩
    have HB2 := hid (HB1.out.trans (hb2.mono HB1.out.size))
    have HR2 := hid (HR1.out.on hb2)
    have HS2 := hid hs2
    have HX2 := hid hx2
    clear C2 hs2 hx2 hb2 n0 n1 n2 n3 n4 n5 n6 n7 n8 n9 n10 HX1 HB1 HR1 HM1 HT1 HA1
    go_wp2
    go_loopw [18] (fun vi wr => ∃ j : Nat, vi = .int .i64 j ∧ j ≤ 8 ∧ Hid (scanS m 0 8 = scanS m j (8 - j)) ∧ Hid (SecsAt gs gm gn m wr) ∧ Hid (Sx gm gn bm m wr) ∧ Hid (Bx4 wr (w.heap.size + 1) ⟨0, 0, 0, 0⟩) ∧ Hid (Below w.heap.size w wr)) (fun vi _ => 8 - (intOf vi).toNat)
    case atStart => exact ⟨0, rfl, Nat.zero_le _, rfl, HS2, HX2, HR2, HB2⟩
    case round =>
      clear HB2 HR2 HS2 HX2
      obtain ⟨j, rfl, hj, HQ, HS, HX, HR, HB⟩ := hrel
      by_cases hlt : j < 8
      · have hji : (j : Int) < 8 := by omega
        obtain ⟨s0, s1, s2⟩ := HS.out j hlt
        have HLE := hid (secL_le HF.out j)
        have HL8 := hid hlt
        have eg := sec_enters j hlt
        have HCC := hid (fun k hk W hx => sec_m gm gn bm m j k hlt W hx HF.out HFN.out HRG.out hk)
        obtain ⟨L, hL⟩ : ∃ L, secL m j = L := ⟨_, rfl⟩
        obtain ⟨N, hN⟩ : ∃ N, secN j = N := ⟨_, rfl⟩
        obtain ⟨G, hG⟩ : ∃ G, secF j = G := ⟨_, rfl⟩
        obtain ⟨cb, hcb⟩ : ∃ L, secB gm gn j = L := ⟨_, rfl⟩
        rw [hL] at s1 HLE HCC
        rw [hN] at s0
        rw [hG] at s2 eg HCC
        rw [hcb] at s2 HCC
        have HLL := hid hL
        have HNN := hid hN
        clear hL hN hG hcb hlt
        go_upto_region 7 with fail
        have hA : Below wr.heap.size wr (wr.alloc (.cells #[.int .i64 N, .int .i64 L, .func (.func G) #[] cb] 143)) := (Below.refl _ _).alloc (Nat.le_refl _) _
        have b0 : (wr.alloc (.cells #[.int .i64 N, .int .i64 L, .func (.func G) #[] cb] 143)).cell? ⟨wr.heap.size, 0, none⟩ = some (.int .i64 N) := by simp [go_sem]
        have b1 : (wr.alloc (.cells #[.int .i64 N, .int .i64 L, .func (.func G) #[] cb] 143)).cell? ⟨wr.heap.size, 1, none⟩ = some (.int .i64 L) := by simp [go_sem]
        have b2 : (wr.alloc (.cells #[.int .i64 N, .int .i64 L, .func (.func G) #[] cb] 143)).cell? ⟨wr.heap.size, 2, none⟩ = some (.func (.func G) #[] cb) := by simp [go_sem]
        obtain ⟨u1, hu1⟩ : ∃ u, u = wr.alloc (.cells #[.int .i64 N, .int .i64 L, .func (.func G) #[] cb] 143) := ⟨_, rfl⟩
        rw [← hu1] at hA b0 b1 b2 ⊢
        obtain ⟨gx, hgx⟩ : ∃ gx, gx = wr.heap.size := ⟨_, rfl⟩
        rw [← hgx] at b0 b1 b2 ⊢
        replace HS := hid (HS.out.on hA)
        replace HX := hid (HX.out.on hA)
        replace HR := hid (HR.out.on hA)
        replace HB := hid (HB.out.trans (hA.mono HB.out.size))
        have K0 := hid b0
        have K2 := hid b2
        clear hu1 hgx hA b0 b2 s0 s1 s2
        go_wp2
        clear b1
        go_loopw [24] (fun vi wr' => ∃ k : Nat, vi = .int .i64 k ∧ k ≤ L ∧ Hid (scanI m j 0 L = scanI m j k (L - k)) ∧ Hid (SecsAt gs gm gn m wr') ∧ Hid (Sx gm gn bm m wr') ∧ Hid (Bx4 wr' (w.heap.size + 1) ⟨0, 0, 0, 0⟩) ∧ Hid (Below w.heap.size w wr') ∧ Hid (wr'.cell? ⟨gx, 0, none⟩ = some (.int .i64 N)) ∧ Hid (wr'.cell? ⟨gx, 2, none⟩ = some (.func (.func G) #[] cb))) (fun vi _ => L - (intOf vi).toNat)
        case atStart => exact ⟨0, rfl, Nat.zero_le _, rfl, HS, HX, HR, HB, K0, K2⟩
        case round =>
          clear HS HX HR HB K0 K2
          obtain ⟨k, rfl, hk, HI, HS, HX, HR, HB, K0, K2⟩ := hrel
          by_cases hlk : k < L
          · have hki : (k : Int) < (L : Int) := by omega
            have hLb : L ≤ 1000000 := HLE.out
            have C3 := hid (HCC.out k hlk wr HX.out)
            obtain ⟨q, hq⟩ : ∃ q, secE m j k = q := ⟨_, rfl⟩
            rw [hq] at C3
            have HSQ := hid hq
            obtain ⟨q1, q2⟩ := q
            simp only at C3
            have b0 := K0.out
            have b2 := K2.out
            have HLK := hid hlk
            clear hq hlk
            by_cases hz : q1 = 0
            · subst hz
              go_wp2_with (go_at_fn G; refine C3.out.mono ?_; rintro e3 u3 ⟨rfl, hb3⟩; clear b0 b2)
              have HB3 := hid (HB.out.trans (hb3.mono HB.out.size))
              have HS3 := hid (HS.out.on hb3)
              have HX3 := hid (HX.out.on hb3)
              have HR3 := hid (HR.out.on hb3)
              have K03 := hid (Go.Proofs.YtckdnhafookcgaaGreatDoor.keep hb3 K0.out)
              have K23 := hid (Go.Proofs.YtckdnhafookcgaaGreatDoor.keep hb3 K2.out)
              go_roundw
              case rel =>
                refine ⟨k + 1, by go_num, by have := HLK.out; omega, hid ?_, HS3, HX3, HR3, HB3, K03, K23⟩
                rw [HI.out]
                have : L - k = (L - (k + 1)) + 1 := by have := HLK.out; omega
                rw [this, scanI, HSQ.out, if_pos rfl]
              case measure => simp [intOf]; have := HLK.out; omega
            · have hzb : (q1 == 0) = false := by simpa using hz
              have HV := hid (show wrongP m = ⟨q1, N, k, q2⟩ by
                have h1 : scanI m j 0 (secL m j) = some ⟨q1, N, k, q2⟩ := by
                  rw [HLL.out, HI.out]
                  have : L - k = (L - (k + 1)) + 1 := by have := HLK.out; omega
                  rw [this, scanI, HSQ.out, if_neg hz, HNN.out]
                have h2 : 8 - j = (8 - (j + 1)) + 1 := by have := HL8.out; omega
                rw [HW.out, HQ.out, h2, scanS_hit h1]; rfl)
              go_wp2_with (go_at_fn G; refine C3.out.mono ?_; rintro e3 u3 ⟨rfl, hb3⟩; have b03 := Go.Proofs.YtckdnhafookcgaaGreatDoor.keep hb3 K0.out; obtain ⟨c0, c1, c2, c3, f0, f1, f2, f3⟩ := (HR.out.on hb3).c)
              have HB3 := hid (HB.out.trans (hb3.mono HB.out.size))
              have HR3 := hid (HR.out.on hb3)
              exact bodyPost_ret (results_w Tryz.results30 _ _ (w.heap.size + 1) rfl (HR3.out.set q1 N k q2)) rfl ⟨by rw [HV.out], (((HB3.out.setCell (by simp) _).setCell (by simp) _).setCell (by simp) _).setCell (by simp) _⟩
          · obtain rfl : L = k := by omega
            have hn : scanI m j 0 (secL m j) = none := by
              rw [HLL.out, HI.out, Nat.sub_self]; rfl
            have h2 : 8 - j = (8 - (j + 1)) + 1 := by have := HL8.out; omega
            have HQ2 := hid (show scanS m 0 8 = scanS m (j + 1) (8 - (j + 1)) by rw [HQ.out, h2, scanS_miss hn])
            clear hn h2
            go_wp2
            go_roundw
            case rel => exact ⟨j + 1, by go_num, by have := HL8.out; omega, HQ2, HS, HX, HR, HB⟩
            case measure => simp [intOf]; have := HL8.out; omega
      · obtain rfl : j = 8 := by omega
        have HV := hid (show wrongP m = ⟨0, 0, 0, 0⟩ by rw [HW.out, HQ.out]; rfl)
        obtain ⟨c0, c1, c2, c3, f0, f1, f2, f3⟩ := HR.out.c
        go_wp2
        exact bodyPost_ret (results_w Tryz.results30 _ _ (w.heap.size + 1) rfl (HR.out.set 0 0 0 0)) rfl ⟨by rw [HV.out], (((HB.out.setCell (by simp) _).setCell (by simp) _).setCell (by simp) _).setCell (by simp) _⟩
  · have HV := hid (show wrongP m = ⟨ck, 0, 0, 0⟩ by rw [HE.out, if_neg hc])
    have hcb : (ck == 0) = false := by simpa using hc
    obtain ⟨c0, c1, c2, c3, f0, f1, f2, f3⟩ := HR1.out.c
    clear HE HFI CS
    go_wp2
    exact bodyPost_ret (results_w Tryz.results30 _ _ (w.heap.size + 1) rfl (HR1.out.set ck 0 0 0)) rfl ⟨by rw [HV.out], (((HB1.out.setCell (by simp) _).setCell (by simp) _).setCell (by simp) _).setCell (by simp) _⟩
end Go.Proofs.YtckdnhafookcgaaGreatDoor.Val

namespace Go.Proofs.YtckdnhafookcgaaGreatDoor.Pl
open Go.RowKit Go.Shelf Go.Proofs.YtckdnhafookcgaaGreatDoor.Instr Go.Proofs.YtckdnhafookcgaaGreatDoor.Mod Go.Proofs.YtckdnhafookcgaaGreatDoor.Val
set_option linter.unusedVariables false

def strHost : ByteArray := ⟨#[104, 111, 115, 116]⟩
def strGet : ByteArray := ⟨#[103, 101, 116, 99]⟩
def strPut : ByteArray := ⟨#[112, 117, 116, 99]⟩
/-- The number of a host's function, by its names and its type; 0: there is none. -/
def hostP (mo na : ByteArray) (t : Int × Int) : Int :=
  if mo = strHost ∧ na = strGet then (if t = (0, 1) then 1 else 0) else if mo = strHost ∧ na = strPut then (if t = (1, 0) then 2 else 0) else 0
def hostI (m : Md) (k : Nat) : Int := hostP (imAt m k).mo (imAt m k).na (m.typeOf k).1
def hostsL (m : Md) : List Int := (List.range m.im.length).map (hostI m)
def hostsOk (m : Md) : Bool := (hostsL m).all (fun z => decide (z ≠ 0))
/-- The globals' first words. -/
def globs (m : Md) : List Int := m.gl.map fun g => (constP g.l.t).1
/-- The numbers fs laid from place s on. -/
def layF (tb : List (Option Int)) (s : Nat) : List Int → List (Option Int)
  | [] => tb
  | z :: r => layF (tb.set s (some z)) (s + 1) r
theorem layF_length : ∀ (zs : List Int) (tb : List (Option Int)) (s : Nat), (layF tb s zs).length = tb.length
  | [], _, _ => rfl
  | z :: r, tb, s => by rw [layF, layF_length r]; simp
/-- The numbers of elements, one behind the other: none, where a place is not there. -/
def elemsP : List El → List (Option Int) → Option (List (Option Int))
  | [], tb => some tb
  | e :: r, tb => if (constP e.l.t).1.toNat + e.fs.length ≤ tb.length then elemsP r (layF tb (constP e.l.t).1.toNat e.fs) else none
def tab0 (m : Md) : List (Option Int) := match m.tb with
  | [] => []
  | l :: _ => List.replicate l.n.toNat none
def tabP (m : Md) : Option (List (Option Int)) := if m.tb.length = 0 then some [] else elemsP m.el (tab0 m)
/-- Bytes, one behind the other. -/
def datasP : List Da → Mem.Mm → Option Mem.Mm
  | [], x => some x
  | d :: r, x => if (x.write (constP d.l.t).1.toNat d.bs).2 = 0 then datasP r (x.write (constP d.l.t).1.toNat d.bs).1 else none
def mem0 (l : Li) : Mem.Mm := ⟨l.n.toNat, if l.c then l.x.toNat else 65536, fun _ => 0⟩
/-- The memory: none: bytes are not there; some none: there is no memory. -/
def memP (m : Md) : Option (Option Mem.Mm) := match m.me with
  | [] => some none
  | l :: _ => (datasP m.da (mem0 l)).map some
/-- A place. -/
structure Pc where
  hs : List Int
  gs : List Int
  tb : List (Option Int)
  me : Option Mem.Mm
/-- P13.1. -/
def newP (m : Md) : Int × Pc :=
  if (wrongP m).e ≠ 0 then (2, ⟨[], [], [], none⟩)
  else if hostsOk m = false then (230, ⟨[], [], [], none⟩)
  else match tabP m, memP m with
    | none, _ => (220, ⟨[], [], [], none⟩)
    | some _, none => (220, ⟨[], [], [], none⟩)
    | some t, some x => (0, ⟨hostsL m, globs m, t, x⟩)
theorem hostsOk_at {m : Md} (h : hostsOk m = true) {k : Nat} (hk : k < m.im.length) : hostI m k ≠ 0 := by
  have := List.all_eq_true.1 h (hostI m k) (List.mem_map.2 ⟨k, List.mem_range.2 hk, rfl⟩)
  simpa using this
theorem hostsOk_no {m : Md} {k : Nat} (hk : k < m.im.length) (h : hostI m k = 0) : hostsOk m = false := by
  cases ho : hostsOk m with
  | false => rfl
  | true => exact absurd h (hostsOk_at ho hk)
theorem hostsOk_yes {m : Md} (h : ∀ k, k < m.im.length → hostI m k ≠ 0) : hostsOk m = true :=
  List.all_eq_true.2 fun z hz => by
    obtain ⟨k, hk, rfl⟩ := List.mem_map.1 hz
    simpa using h k (List.mem_range.1 hk)
theorem elemsP_length : ∀ (es : List El) (tb t : List (Option Int)), elemsP es tb = some t → t.length = tb.length
  | [], tb, t, h => by cases h; rfl
  | e :: r, tb, t, h => by
    unfold elemsP at h
    split at h
    · rw [elemsP_length r _ _ h, layF_length]
    · cases h
end Go.Proofs.YtckdnhafookcgaaGreatDoor.Pl

namespace Go.Proofs.YtckdnhafookcgaaGreatDoor.Mem
open Go.RowKit
open Go.Maps (Keyed int_keyed IsMap)
set_option linter.unusedVariables false

/-- What put has done when j bytes are behind it. -/
def PutTo (B : Nat) (W : World) (p mb K : Nat) (m : Mm) (zs : List Int) (s j : Nat) (wr : World) : Prop :=
  ∃ D K', K' ≤ K + j ∧ MemAt B wr p mb K' D { m with f := putF m.f s (zs.take j) } ∧ Keep W wr ∧ Below B W wr
theorem own_page (C : Array Value) (q : Nat × Nat) : isOwn (.cells C 187 q) = true := by simp [isOwn]
theorem save_of_grown {w w' : World} {k : Nat} (h : w.grownBy w' (some k)) : Save k w w' := ⟨h.os, h.tape, h.output, h.size, fun j hj hk => h.block j hj (fun e => hk (by cases e; rfl))⟩
/-- Bytes are laid on a page. -/
theorem PageAt.lay {L xs : List Int} {f : Nat → Int} {k q : Nat} (hl : L.length = 65536) (hf : ∀ i, i < 65536 → L.getD i 0 = f (k * 65536 + i)) (hx : q + xs.length ≤ 65536) :
    (over L xs q).length = 65536 ∧ ∀ i, i < 65536 → (over L xs q).getD i 0 = putF f (k * 65536 + q) xs (k * 65536 + i) := by
  refine ⟨by rw [over_length (by omega), hl], fun i hi => ?_⟩
  rw [over_getD (by omega)]
  unfold putF
  by_cases h : q ≤ i ∧ i < q + xs.length
  · rw [if_pos h, if_pos (by omega)]; congr 1; omega
  · rw [if_neg h, if_neg (by omega), hf i hi]
theorem off_page {a k q t P : Nat} (ha : a < k * P ∨ (k + 1) * P ≤ a) (hq : q + t ≤ P) : a < k * P + q ∨ k * P + q + t ≤ a := by
  rw [Nat.succ_mul] at ha
  generalize k * P = X at *
  rcases ha with h | h
  · exact .inl (Nat.lt_of_lt_of_le h (Nat.le_add_right _ _))
  · refine .inr (Nat.le_trans ?_ h)
    rw [Nat.add_assoc]
    exact Nat.add_le_add_left hq X
theorem PutTo.step {B : Nat} {W : World} {p mb K : Nat} {m : Mm} {zs : List Int} {s j t k q pg K' : Nat} {wx w2 : World} {D : DataW Unit} {L : List Int} (hK : K' ≤ K + j + t) (hM : MemAt B wx p mb K' D { m with f := putF m.f s (zs.take j) }) (hk : Keep W wx) (hb : Below B W wx)
    (hD : D.atKey (.int .u64 k) .nil = .lit (.int .i64 pg)) (hpg : B ≤ pg) (hL : wx.heap[pg]? = some (.cells (L.map (Value.int .u8)).toArray 187 (0, 0))) (hLl : L.length = 65536) (hLf : ∀ i, i < 65536 → L.getD i 0 = putF m.f s (zs.take j) (k * 65536 + i))
    (hkq : s + j = k * 65536 + q) (hj : j + t ≤ zs.length) (hq : q + t ≤ 65536) (hz : ∀ z ∈ zs, 0 ≤ z ∧ z < 256) (hB : B ≤ W.heap.size)
    (hh : w2.heap[pg]? = some (.cells ((over L ((zs.drop j).take t) q).map (Value.int .u8)).toArray 187 (0, 0))) (hs : Save pg wx w2) : PutTo B W p mb K m zs s (j + t) w2 := by
  have hxl : ((zs.drop j).take t).length = t := by simp; omega
  have hjl : (zs.take j).length = j := by simp; omega
  have hff : putF (putF m.f s (zs.take j)) (k * 65536 + q) ((zs.drop j).take t) = putF m.f s (zs.take (j + t)) := by
    rw [← hkq]
    have := putF_append m.f s (zs.take j) ((zs.drop j).take t)
    rw [hjl] at this
    rw [this, List.take_add]
  have hlay := PageAt.lay hLl hLf (xs := (zs.drop j).take t) (q := q) (by rw [hxl]; exact hq)
  refine ⟨D, K', by omega, ?_, hk.trans (Keep.of_save hs hL (own_page _ _)), ?_⟩
  · have := hM.written (f' := putF m.f s (zs.take (j + t))) hD hs ⟨_, hh, hlay.1, fun i hi => by rw [hlay.2 i hi, hff]⟩ (fun a ha => by
      show _ = putF m.f s (zs.take j) a
      rw [← hff]
      refine putF_other _ _ _ _ ?_
      rw [hxl]
      exact off_page ha hq) (fun a => by
      rw [← hff]
      refine putF_byte (fun a => hM.ok.byte a) (fun z hzm => hz z (List.mem_of_mem_drop (List.mem_of_mem_take hzm))) _ _)
    exact this
  · exact hb.trans (hs.below (Nat.le_trans hB hb.size) hpg)
theorem src_cells {B : Nat} {W wr : World} {b off n j t : Nat} {zs : List Int} {o : Obj} (hc : ∀ i, i < n → W.cell? ⟨b, off + i, none⟩ = some (.int .u8 (zs.getD i 0))) (ho : W.heap[b]? = some o) (hn : isOwn o = false ∨ b < B) (hk : Keep W wr) (hb : Below B W wr) (hj : j + t ≤ n) (hl : zs.length = n) :
    ∀ i, i < t → wr.cell? ⟨b, off + j + i, none⟩ = some (.int .u8 (((zs.drop j).take t).getD i 0)) := by
  intro i hi
  have h1 := hc (j + i) (by omega)
  have h2 : wr.cell? ⟨b, off + (j + i), none⟩ = W.cell? ⟨b, off + (j + i), none⟩ := World.cell?_of_block (w := W) (by
    rcases hn with hn | hn
    · exact (hk.block b o ho hn).trans ho.symm
    · exact hb.block b hn)
  rw [show off + j + i = off + (j + i) by omega, h2, h1]
  rw [List.getD_eq_getElem?_getD, List.getD_eq_getElem?_getD, List.getElem?_take_of_lt hi, List.getElem?_drop]
set_option maxRecDepth 100000 in
set_option maxHeartbeats 1600000 in
theorem put_any {B : Nat} {W : World} {p mb K : Nat} {D : DataW Unit} {m : Mm} (hM : MemAt B W p mb K D m) (hB : B ≤ W.heap.size) (b off : Nat) (a : Option Addr) (n c s : Nat) (zs : List Int) (hzl : zs.length = n) (hz : ∀ z ∈ zs, 0 ≤ z ∧ z < 256) (hc : n ≤ c) (hcm : c ≤ 9223372036854775807)
    (ha : 0 < n → a = some ⟨b, off, none⟩ ∧ (∀ i, i < n → W.cell? ⟨b, off + i, none⟩ = some (.int .u8 (zs.getD i 0))) ∧ ∃ o, W.heap[b]? = some o ∧ (isOwn o = false ∨ b < B)) (hs : s + n ≤ m.n * 65536) (hK : K + n ≤ 1000000000) :
    Calls Tryz.prog 70 #[.pointer (some ⟨p, 0, none⟩), .int .u64 s, .slice a n c] W fun e W' => e = .returned (.tuple #[]) ∧ PutTo B W p mb K m zs s n W' := by
  have hnp : m.n ≤ 65536 := Nat.le_trans hM.ok.n hM.ok.most
  have H0 : PutTo B W p mb K m zs s 0 W := ⟨D, K, Nat.le_refl _, by rw [List.take_zero, putF_nil]; exact hM, Keep.refl W, Below.refl B W⟩
  have H0 := hid H0
  have HS := hid hs
  have HZ := hid hz
  have HZL := hid hzl
  have HP := hid hnp
  have HA := hid ha
  have HK := hid hK
  have HB := hid hB
  clear hM hs hz hzl hnp ha hK hB
  obtain ⟨S0, hS0⟩ : ∃ S0 : Int, (s : Int) = S0 := ⟨_, rfl⟩
  rw [hS0]
  have HS0 := hid hS0
  clear hS0
  go_enter Tryz.func70, Tryz.ntmps70
  go_wp2
  go_loopw [1, 2] (fun v1 v2 wr => ∃ (S : Int) (j r cc : Nat) (aa : Option Addr), v1 = .int .u64 S ∧ v2 = .slice aa r cc ∧ Hid (S = (s : Int) + j) ∧ Hid (r + j = n) ∧ r ≤ cc ∧ cc ≤ 9223372036854775807 ∧ Hid (0 < r → aa = some ⟨b, off + j, none⟩) ∧ Hid (PutTo B W p mb K m zs s j wr)) (fun _ v2 _ => match v2 with | .slice _ r _ => r | _ => 0)
  case atStart => exact ⟨S0, 0, n, c, a, rfl, rfl, by show _ = _; rw [← HS0.out]; simp, rfl, hc, hcm, fun h => (HA.out h).1, H0⟩
  case round =>
    obtain ⟨S, j, r, cc, aa, rfl, rfl, HSj, HR, hrc, hcc, HAA, HG⟩ := hrel
    clear hc hcm HS0 H0
    by_cases hr : 0 < r
    · have hai := HAA.out hr
      subst hai
      clear HAA
      have hsj := HSj.out
      have hrj := HR.out
      have hs := HS.out
      have hp := HP.out
      obtain ⟨_, hcell, ob, hob, hown⟩ := HA.out (by omega)
      obtain ⟨k, q, hkq, hq⟩ : ∃ k q : Nat, s + j = k * 65536 + q ∧ q < 65536 := ⟨(s + j) / 65536, (s + j) % 65536, by omega, by omega⟩
      have hdiv : S / 65536 = (k : Int) := by omega
      have hmod : S % 65536 = (q : Int) := by omega
      have hS0 : 0 ≤ S := by omega
      have hmn2 : m.n * 65536 ≤ 65536 * 65536 := Nat.mul_le_mul_right _ hp
      have hS1 : S ≤ 4294967296 := by omega
      obtain ⟨t, ht⟩ : ∃ t : Nat, min r (65536 - q) = t := ⟨_, rfl⟩
      have htr : t ≤ r := by omega
      have htq : t ≤ 65536 - q := by omega
      have ht0 : 0 < t := by omega
      have hmn : Hid (t = Nat.min r (65536 - q)) := hid (by show t = min _ _; omega)
      obtain ⟨D1, K1, hK1, hM1, hkeep, hbel⟩ := HG.out
      have c3 := hM1.cells.2.2.2
      have hk64 : k < 18446744073709551616 := by omega
      have HL := hM1.look k hk64
      have HSRC := hid (fun (wx : World) (h : Keep W wx) (hb : Below B W wx) => src_cells (j := j) (t := t) hcell hob hown h hb (by omega) HZL.out)
      have HSTEP := hid (fun (wx w2 : World) (Kx : Nat) (Dx : DataW Unit) (pg : Nat) (L : List Int) (h1 : Kx ≤ K + j + t) (h2 : MemAt B wx p mb Kx Dx { m with f := putF m.f s (zs.take j) }) (h3 : Keep W wx) (h4 : Below B W wx)
        (h5 : Dx.atKey (.int .u64 k) .nil = .lit (.int .i64 pg)) (h6 : B ≤ pg) (h7 : wx.heap[pg]? = some (.cells (L.map (Value.int .u8)).toArray 187 (0, 0))) (h8 : L.length = 65536) (h9 : ∀ i, i < 65536 → L.getD i 0 = putF m.f s (zs.take j) (k * 65536 + i))
        (h10 : w2.heap[pg]? = some (.cells ((over L ((zs.drop j).take t) q).map (Value.int .u8)).toArray 187 (0, 0))) (h11 : Save pg wx w2) =>
        PutTo.step h1 h2 h3 h4 h5 h6 h7 h8 h9 hkq (by rw [HZL.out]; omega) (by omega) HZ.out HB.out h10 h11)
      have hrel : Hid (S + (t : Int) = (s : Int) + ((j + t : Nat) : Int)) := hid (by push_cast; omega)
      have hrel2 : Hid (r - t + (j + t) = n) := hid (by omega)
      have hlen : ((zs.drop j).take t).length = t := by have := HZL.out; simp; omega
      have HKK := hid (show K1 + 1 ≤ K + j + t ∧ K1 < maxLen from ⟨by omega, by have := HK.out; unfold maxLen; omega⟩)
      have HMK := hid hM1
      have HKEEP := hid hkeep
      have HBEL := hid hbel
      clear hsj hrj hs hp hkq ht hcell hob hown hmn2 hM1 hkeep hbel HG hK1
      have hS2 : S + (t : Int) ≤ 4295032832 := by omega
      have hq1 : (q : Int) < 65536 := by omega
      have hq2 : (t : Int) ≤ 65536 - (q : Int) := by omega
      have htri : (t : Int) ≤ (r : Int) := by omega
      have htci : (t : Int) ≤ (cc : Int) := by omega
      rcases HL with ⟨hrun, hD0, hnull⟩ | ⟨pg, hpB, hrun, hD1, hpage⟩
      · obtain ⟨Z, hz0, hzs, hz1, hZ⟩ := zeroPage
        obtain ⟨pg, hpg⟩ : ∃ pg, wr.heap.size = pg := ⟨_, rfl⟩
        obtain ⟨wa, hwa⟩ : ∃ wa, wr.alloc (.cells Z 187) = wa := ⟨_, rfl⟩
        have hba : Below wr.heap.size wr wa := by rw [← hwa]; exact thenA (Below.refl _ _) _
        have hwn : wa.heap[pg]? = some (.cells Z 187 (0, 0)) := by rw [← hwa, ← hpg]; exact (MapKept.heap_alloc wr _).1
        have HMA := hid (HMK.out.below hba)
        have c3a := HMA.out.cells.2.2.2
        have hBpg : B ≤ pg := by have := HBEL.out.size; have := HB.out; omega
        have HFR := hid (fun (wm : World) (hown : wm.ownsMap Tryz.prog 136 ptrElem mb (K1 + 1) (D1.put (.int .u64 k) (.lit (.int .i64 pg)))) (hgr : wa.grownBy wm (some mb)) => (show MemAt B wm p mb (K1 + 1) (D1.put (.int .u64 k) (.lit (.int .i64 pg))) { m with f := putF m.f s (zs.take j) } ∧ Keep W wm ∧ Below B W wm ∧ (D1.put (.int .u64 k) (.lit (.int .i64 pg))).atKey (.int .u64 k) .nil = .lit (.int .i64 pg) ∧ wm.heap[pg]? = some (.cells Z 187 (0, 0)) from by
          have hs := save_of_grown hgr
          obtain ⟨es, ck, hmb⟩ := HMA.out.mblock
          have hne : pg ≠ mb := fun e => by rw [← e, hwn] at hmb; cases hmb
          have hkey : WideAt.IsKeyLit (.int .u64 k) := Maps.keyOf_int_mk (P := Tryz.prog) Tryz.underlying136 (wf64 hk64) |> fun h => (keyed.key h)
          refine ⟨HMA.out.fresh hD0 hBpg (fun k' g' h' => ?_) ⟨List.replicate 65536 0, ?_, List.length_replicate, fun i _ => zeros_getD i⟩ hown hs hkey, ?_, ?_, ?_, ?_⟩
          · have := HMK.out.page_lt k' g' h'; omega
          · rw [hwn, hZ]
          · exact HKEEP.out.trans ((Keep.of_below hba).trans (Keep.of_save hs hmb rfl))
          · exact (HBEL.out.trans (hba.mono (by have := HBEL.out.size; have := HB.out; omega))).trans (hs.below (by have := hba.size; have := HBEL.out.size; have := HB.out; omega) HMA.out.bm)
          · exact Maps.atKey_put_same HMA.out.isMap hkey _ _
          · exact (hs.block pg (Array.getElem?_eq_some_iff.1 hwn).1 hne).trans hwn))
        have hmapa := HMA.out.map
        have hK1m := HKK.out.2
        have hkeyk : keyOf Tryz.prog 136 (.int .u64 (k : Int)) = some (.int .u64 (k : Int)) := Maps.keyOf_int_mk Tryz.underlying136 (wf64 hk64)
        clear hwn hba
        have hsl := slice_page pg q hq
        subst hwa
        subst hpg
        have HSTEP2 := hid (fun (wm : World) (h1 : MemAt B wm p mb (K1 + 1) (D1.put (.int .u64 k) (.lit (.int .i64 wr.heap.size))) { m with f := putF m.f s (zs.take j) }) (h2 : Keep W wm) (h3 : Below B W wm) (h4 : (D1.put (.int .u64 k) (.lit (.int .i64 wr.heap.size))).atKey (.int .u64 k) .nil = .lit (.int .i64 wr.heap.size)) (h5 : wm.heap[wr.heap.size]? = some (.cells ((List.replicate 65536 (0 : Int)).map (Value.int .u8)).toArray 187 (0, 0))) (w2 : World) =>
          HSTEP.out wm w2 (K1 + 1) (D1.put (.int .u64 k) (.lit (.int .i64 wr.heap.size))) wr.heap.size (List.replicate 65536 0) HKK.out.1 h1 h2 h3 h4 hBpg h5 List.length_replicate (fun i hi => (zeros_getD i).trans (hnull i hi).symm))
        have hfit : q + t ≤ (List.replicate 65536 (0 : Int)).length := by rw [List.length_replicate]; omega
        have HZ2 := hid hZ
        clear hnull hZ HSTEP hD0
        by_cases htc : t = cc
        · subst htc
          obtain rfl : r = t := by omega
          go_wp2_with (first
            | (at_mapUpdate
               refine wpList_mapUpdate_own _ rfl _ _ _ 144 rfl 136 185 keyed Tryz.underlying144 ptrElem mb K1 D1 rfl hmapa hK1m (.int .u64 (k : Int)) (.pointer (some ⟨wr.heap.size, 0, none⟩)) (.int .u64 (k : Int)) (by go_simp) rfl hkeyk (.lit (.int .i64 wr.heap.size)) [] rfl ?_
               intro w1 hown1 hgrow1
               obtain ⟨hn1, hn2, hn3, hn4, hn5⟩ := HFR.out w1 hown1 hgrow1
               rw [HZ2.out] at hn5
               have hsrc := HSRC.out w1 hn2 hn3
               have HST := hid (HSTEP2.out w1 hn1 hn2 hn3 hn4 hn5)
               clear hown1 hgrow1 hn1 hn2 hn3 hn4 HFR HSTEP2 hmapa)
            | (refine copy_list (by rfl) (.tmp 32) (.tmp 33) (by rfl) (g := wr.heap.size) (off := q) (dl := 65536 - q) (dc := 65536 - q) (sl := r) (sc := r) (q := b) (o2 := off + j) (M := r) (by go_simp) (by go_simp) hn5 hlen hmn.out hfit hsrc ?_; intro w2 hh2 hs2 hz2))
          have HN := hid (HST.out w2 hh2.out hs2)
          clear HST hh2 hs2 hz2 hfit hsrc hlen hn5
          go_wp2
          go_roundw
          case rel => exact ⟨_, j + r, 0, 0, _, rfl, rfl, hrel, by simpa using hrel2, by omega, by omega, fun h => by omega, HN⟩
          case measure => simp; omega
        · go_wp2_with (first
            | (at_mapUpdate
               refine wpList_mapUpdate_own _ rfl _ _ _ 144 rfl 136 185 keyed Tryz.underlying144 ptrElem mb K1 D1 rfl hmapa hK1m (.int .u64 (k : Int)) (.pointer (some ⟨wr.heap.size, 0, none⟩)) (.int .u64 (k : Int)) (by go_simp) rfl hkeyk (.lit (.int .i64 wr.heap.size)) [] rfl ?_
               intro w1 hown1 hgrow1
               obtain ⟨hn1, hn2, hn3, hn4, hn5⟩ := HFR.out w1 hown1 hgrow1
               rw [HZ2.out] at hn5
               have hsrc := HSRC.out w1 hn2 hn3
               have HST := hid (HSTEP2.out w1 hn1 hn2 hn3 hn4 hn5)
               clear hown1 hgrow1 hn1 hn2 hn3 hn4 HFR HSTEP2 hmapa)
            | (refine copy_list (by rfl) (.tmp 32) (.tmp 33) (by rfl) (g := wr.heap.size) (off := q) (dl := 65536 - q) (dc := 65536 - q) (sl := r) (sc := cc) (q := b) (o2 := off + j) (M := t) (by go_simp) (by go_simp) hn5 hlen hmn.out hfit hsrc ?_; intro w2 hh2 hs2 hz2))
          have HN := hid (HST.out w2 hh2.out hs2)
          clear HST hh2 hs2 hz2 hfit hsrc hlen hn5
          go_wp2
          go_roundw
          case rel => exact ⟨_, j + t, r - t, _, _, rfl, rfl, hrel, hrel2, by omega, by omega, fun _ => by rw [Nat.add_assoc], HN⟩
          case measure => simp; omega
      · obtain ⟨L, hL, hLl, hLf⟩ := hpage
        have hsl := slice_page pg q hq
        have hsrc := HSRC.out wr HKEEP.out HBEL.out
        have hfit : q + t ≤ L.length := by omega
        have HST := hid (fun w2 => HSTEP.out wr w2 K1 D1 pg L (by have := HKK.out.1; omega) HMK.out HKEEP.out HBEL.out hD1 hpB hL hLl hLf)
        have HD1 := hid hD1
        clear hLl hLf HSTEP HSRC hD1
        by_cases htc : t = cc
        · subst htc
          obtain rfl : r = t := by omega
          go_wp2_with (refine copy_list (by rfl) (.tmp 32) (.tmp 33) (by rfl) (g := pg) (off := q) (dl := 65536 - q) (dc := 65536 - q) (sl := r) (sc := r) (q := b) (o2 := off + j) (M := r) (by go_simp) (by go_simp) hL hlen hmn.out hfit hsrc ?_; intro w2 hh2 hs2 hz2)
          have HN := hid (HST.out w2 hh2.out hs2)
          clear HST hh2 hs2 hz2 hfit hsrc hlen hL
          go_wp2
          go_roundw
          case rel => exact ⟨_, j + r, 0, 0, _, rfl, rfl, hrel, by simpa using hrel2, by omega, by omega, fun h => by omega, HN⟩
          case measure => simp; omega
        · go_wp2_with (refine copy_list (by rfl) (.tmp 32) (.tmp 33) (by rfl) (g := pg) (off := q) (dl := 65536 - q) (dc := 65536 - q) (sl := r) (sc := cc) (q := b) (o2 := off + j) (M := t) (by go_simp) (by go_simp) hL hlen hmn.out hfit hsrc ?_; intro w2 hh2 hs2 hz2)
          have HN := hid (HST.out w2 hh2.out hs2)
          clear HST hh2 hs2 hz2 hfit hsrc hlen hL
          go_wp2
          go_roundw
          case rel => exact ⟨_, j + t, r - t, _, _, rfl, rfl, hrel, hrel2, by omega, by omega, fun _ => by rw [Nat.add_assoc], HN⟩
          case measure => simp; omega
    · obtain rfl : r = 0 := by omega
      have HG2 : Hid (PutTo B W p mb K m zs s n wr) := by
        have h1 := HR.out
        have h2 : j = n := by omega
        rw [← h2]; exact HG.out
      go_wp2
      go_end0
      exact ⟨rfl, HG2.out⟩
end Go.Proofs.YtckdnhafookcgaaGreatDoor.Mem

namespace Go.Proofs.YtckdnhafookcgaaGreatDoor.Mem
open Go.RowKit Go.Proofs.YtckdnhafookcgaaGreatDoor.Instr Go.Proofs.YtckdnhafookcgaaGreatDoor.Num
open Go.Maps (Keyed int_keyed IsMap)
set_option linter.unusedVariables false

/-- A memory, whose map has room. -/
def MemIs (B : Nat) (W : World) (p K : Nat) (m : Mm) : Prop := ∃ mb D K', K' ≤ K ∧ MemAt B W p mb K' D m
theorem MemIs.below {B : Nat} {W W' : World} {p K : Nat} {m : Mm} (h : MemIs B W p K m) (hb : Below W.heap.size W W') : MemIs B W' p K m := by
  obtain ⟨mb, D, K', hK, h⟩ := h
  exact ⟨mb, D, K', hK, h.below hb⟩
theorem MemIs.save {B : Nat} {W W' : World} {p K g : Nat} {m : Mm} {o : Obj} (h : MemIs B W p K m) (hs : Save g W W') (hg : W.heap[g]? = some o) (ho : isOwn o = false) : MemIs B W' p K m := by
  obtain ⟨mb, D, K', hK, h⟩ := h
  exact ⟨mb, D, K', hK, h.save hs hg ho⟩
theorem MemIs.mono {B : Nat} {W : World} {p K K2 : Nat} {m : Mm} (h : MemIs B W p K m) (hk : K ≤ K2) : MemIs B W p K2 m := by
  obtain ⟨mb, D, K', hK, h⟩ := h
  exact ⟨mb, D, K', Nat.le_trans hK hk, h⟩
theorem MemIs.ok {B : Nat} {W : World} {p K : Nat} {m : Mm} (h : MemIs B W p K m) : m.ok := by
  obtain ⟨mb, D, K', hK, h⟩ := h
  exact h.ok
theorem MemIs.cells {B : Nat} {W : World} {p K : Nat} {m : Mm} (h : MemIs B W p K m) : W.cell? ⟨p, 0, none⟩ = some (.pointer (some ⟨p, 0, none⟩)) ∧ W.cell? ⟨p, 1, none⟩ = some (.int .u32 m.n) ∧ W.cell? ⟨p, 2, none⟩ = some (.int .u32 m.most) := by
  obtain ⟨mb, D, K', hK, h⟩ := h
  exact ⟨h.cells.1, h.cells.2.1, h.cells.2.2.1⟩

end Go.Proofs.YtckdnhafookcgaaGreatDoor.Mem

namespace Go.Proofs.YtckdnhafookcgaaGreatDoor.Mem
open Go.RowKit Go.Proofs.YtckdnhafookcgaaGreatDoor.Instr Go.Proofs.YtckdnhafookcgaaGreatDoor.Num
open Go.Maps (Keyed int_keyed IsMap)
set_option linter.unusedVariables false

/-- What a call that writes leaves: the memory as told, and all else as it was. -/
def Wrote (B : Nat) (W : World) (p K : Nat) (m : Mm) (w' : World) : Prop := MemIs B w' p K m ∧ Keep W w' ∧ Below B W w'
theorem Wrote.of_put {B : Nat} {W W2 : World} {p mb K K2 n s : Nat} {m : Mm} {zs : List Int} (h : PutTo B W p mb K m zs s n W2) (hk : K + n ≤ K2) (hl : zs.length = n) : Wrote B W p K2 { m with f := putF m.f s zs } W2 := by
  obtain ⟨D, K', hK, hM, h1, h2⟩ := h
  rw [List.take_of_length_le (by omega)] at hM
  exact ⟨⟨mb, D, K', by omega, hM⟩, h1, h2⟩
theorem Wrote.none {B : Nat} {W W2 : World} {p K K2 : Nat} {m : Mm} (h : MemIs B W p K m) (hk : K ≤ K2) (hb : Below W.heap.size W W2) (hB : B ≤ W.heap.size) : Wrote B W p K2 m W2 := ⟨(h.below hb).mono hk, Keep.of_below hb, hb.mono hB⟩
theorem Write_anyC {B : Nat} {W : World} {p K : Nat} {m : Mm} (hM : MemIs B W p K m) (hB : B ≤ W.heap.size) (b off : Nat) (a : Option Addr) (n c s : Nat) (zs : List Int) (hzl : zs.length = n) (hz : ∀ z ∈ zs, 0 ≤ z ∧ z < 256) (hc : n ≤ c) (hcm : c ≤ 9223372036854775807) (hs : s ≤ 4294967295)
    (ha : 0 < n → a = some ⟨b, off, none⟩ ∧ (∀ i, i < n → W.cell? ⟨b, off + i, none⟩ = some (.int .u8 (zs.getD i 0))) ∧ ∃ o, W.heap[b]? = some o ∧ (isOwn o = false ∨ b < B)) (hK : K + n ≤ 1000000000) :
    Calls Tryz.prog 28 #[.pointer (some ⟨p, 0, none⟩), .int .u32 s, .slice a n c] W fun e w' => e = .returned (.int .i64 (m.write s zs).2) ∧ Wrote B W p (K + n) (m.write s zs).1 w' := by
  have hnp : m.n ≤ 65536 := Nat.le_trans hM.ok.n hM.ok.most
  have C1 := hid (made_yes p W hM.cells.1)
  have C2 := has_any p m.n s n W hM.cells.2.1 ⟨by omega, by omega⟩ ⟨by omega, by omega⟩ ⟨by omega, by omega⟩
  have he : m.has s zs.length = decide ((s : Int) + (n : Int) ≤ (m.n : Int) * 65536) := by
    unfold Mm.has
    rw [hzl, decide_eq_decide]; constructor <;> intro h <;> omega
  unfold Mm.write
  rw [he]
  by_cases hin : (s : Int) + (n : Int) ≤ (m.n : Int) * 65536
  · have CP := hid (show Calls Tryz.prog 70 #[.pointer (some ⟨p, 0, none⟩), .int .u64 s, .slice a n c] W fun e W' => e = .returned (.tuple #[]) ∧ Wrote B W p (K + n) { m with f := putF m.f s zs } W' from by
      obtain ⟨mb, D, K', hK', hm⟩ := hM
      exact (put_any hm hB b off a n c s zs hzl hz hc (by omega) ha (by omega) (by omega)).mono fun e W' ⟨he, h⟩ => ⟨he, Wrote.of_put h (by omega) hzl⟩)
    rw [decide_eq_true hin] at C2 ⊢
    have C2 := hid C2
    clear hM hnp he hin ha hz hzl hK
    obtain ⟨S, hS⟩ : ∃ S : Int, (s : Int) = S := ⟨_, rfl⟩
    have hS0 : 0 ≤ S ∧ S ≤ 4294967295 := by omega
    obtain ⟨hS0, hS1⟩ := hS0
    rw [hS] at C2 CP ⊢
    clear hS
    go_enter Tryz.func28, Tryz.ntmps28
    go_wp2_with fail
    refine C1.out.mono ?_
    rintro e w1 ⟨rfl, rfl⟩
    go_wp2_with fail
    refine C2.out.mono ?_
    rintro e w1 ⟨rfl, rfl⟩
    go_wp2_with fail
    refine CP.out.mono ?_
    rintro e w1 ⟨rfl, hW⟩
    go_wp2
    go_ret
    exact ⟨rfl, hW⟩
  · rw [decide_eq_false hin] at C2 ⊢
    have C2 := hid C2
    have HN := hid (Wrote.none (W2 := W) hM (Nat.le_add_right K n) (Below.refl _ _) hB)
    clear hM hnp he hin ha hz hzl hK
    obtain ⟨S, hS⟩ : ∃ S : Int, (s : Int) = S := ⟨_, rfl⟩
    have hS0 : 0 ≤ S ∧ S ≤ 4294967295 := by omega
    obtain ⟨hS0, hS1⟩ := hS0
    rw [hS] at C2 ⊢
    clear hS
    go_enter Tryz.func28, Tryz.ntmps28
    go_wp2_with fail
    refine C1.out.mono ?_
    rintro e w1 ⟨rfl, rfl⟩
    go_wp2_with fail
    refine C2.out.mono ?_
    rintro e w1 ⟨rfl, rfl⟩
    go_wp2
    go_ret
    exact ⟨rfl, HN.out⟩
end Go.Proofs.YtckdnhafookcgaaGreatDoor.Mem

namespace Go.Proofs.YtckdnhafookcgaaGreatDoor
open Go.RowKit

/-- Of what was there only blocks of S have turned. -/
structure Touch (S : Nat → Prop) (w w' : World) : Prop where
  os : w'.os = w.os
  tape : w'.tape = w.tape
  output : w'.output = w.output
  size : w.heap.size ≤ w'.heap.size
  block : ∀ j, j < w.heap.size → ¬ S j → w'.heap[j]? = w.heap[j]?
theorem Touch.refl (S : Nat → Prop) (w : World) : Touch S w w := ⟨rfl, rfl, rfl, Nat.le_refl _, fun _ _ _ => rfl⟩
theorem Touch.trans {S : Nat → Prop} {a b c : World} (h : Touch S a b) (g : Touch S b c) : Touch S a c :=
  ⟨g.os.trans h.os, g.tape.trans h.tape, g.output.trans h.output, Nat.le_trans h.size g.size, fun j hj hk => (g.block j (Nat.lt_of_lt_of_le hj h.size) hk).trans (h.block j hj hk)⟩
theorem Touch.mono {S T : Nat → Prop} {a b : World} (h : Touch S a b) (hs : ∀ j, S j → T j) : Touch T a b := ⟨h.os, h.tape, h.output, h.size, fun j hj hk => h.block j hj (fun hs' => hk (hs j hs'))⟩
theorem Touch.of_save {k : Nat} {w w' : World} (h : Save k w w') : Touch (fun j => j = k) w w' := ⟨h.os, h.tape, h.output, h.size, fun j hj hk => h.block j hj hk⟩
theorem Touch.of_below {S : Nat → Prop} {w w' : World} (h : Below w.heap.size w w') : Touch S w w' := ⟨h.os, h.tape, h.output, h.size, fun j hj _ => h.block j hj⟩
theorem Touch.of_grown {w w' : World} {row : Option Nat} (h : w.grownBy w' row) : Touch (fun j => row = some j) w w' := ⟨h.os, h.tape, h.output, h.size, fun j hj hk => h.block j hj (fun e => hk e.symm)⟩
theorem Touch.alloc {S : Nat → Prop} {a b : World} (h : Touch S a b) (o : Obj) : Touch S a (b.alloc o) := h.trans (.of_below ((Below.refl _ _).alloc (Nat.le_refl _) o))
theorem Touch.setCell {S : Nat → Prop} {a b : World} (h : Touch S a b) {p : Addr} (hp : S p.block ∨ a.heap.size ≤ p.block) (v : Value) : Touch S a (b.setCell p v) :=
  ⟨h.os, h.tape, h.output, by have := h.size; simpa [World.setCell] using this, fun j hj hk => (Below.heap_setCell _ _ _ _ (by rcases hp with hp | hp; rintro rfl; exact hk hp; omega)).trans (h.block j hj hk)⟩
theorem Touch.below {S : Nat → Prop} {B : Nat} {a b : World} (h : Touch S a b) (hB : B ≤ a.heap.size) (hs : ∀ j, S j → B ≤ j) : Below B a b :=
  ⟨h.os, h.tape, h.output, h.size, fun j hj => h.block j (by omega) (fun hj' => by have := hs j hj'; omega)⟩
theorem Touch.cell {S : Nat → Prop} {w w' : World} (h : Touch S w w') {p : Addr} {v : Value} (hk : ¬ S p.block) (hc : w.cell? p = some v) : w'.cell? p = some v :=
  (World.cell?_of_block (w := w) (h.block p.block (World.block_lt_of_cell? w _ hc) hk)).trans hc
theorem touch_row {S : Nat → Prop} {w w' : World} {base size n : Nat} {e : TypeId} {v : Value} {xs : List Value} (h : w.ownsRow base e size v n xs) (ht : Touch S w w') (hk : ∀ g, v.ownBlock = some g → ¬ S g) : w'.ownsRow base e size v n xs := by
  refine ⟨h.1, ?_⟩
  rcases h.2 with h0 | ⟨g, cap, cur, rfl, hg, hh, rest⟩
  · exact .inl h0
  · exact .inr ⟨g, cap, cur, rfl, hg, (ht.block g (Array.getElem?_eq_some_iff.1 hh).1 (hk g rfl)).trans hh, rest⟩
/-- A block that can be written. -/
def Soft (w : World) (q : Nat) : Prop := ∃ cs e, w.heap[q]? = some (.cells cs e (0, 0))
theorem Soft.touch {S : Nat → Prop} {w w' : World} {q : Nat} (h : Soft w q) (ht : Touch S w w') (hk : ¬ S q) : Soft w' q := by
  obtain ⟨cs, e, h⟩ := h
  exact ⟨cs, e, (ht.block q (Array.getElem?_eq_some_iff.1 h).1 hk).trans h⟩
theorem Soft.frozen {w : World} {q : Nat} (h : Soft w q) (i : Nat) : w.frozen? ⟨q, i, none⟩ = false := by
  obtain ⟨cs, e, h⟩ := h
  simp [World.frozen?, h]
theorem Soft.lt {w : World} {q : Nat} (h : Soft w q) : q < w.heap.size := by
  obtain ⟨cs, e, h⟩ := h
  exact (Array.getElem?_eq_some_iff.1 h).1
theorem soft_row {w : World} {base size n : Nat} {e : TypeId} {v : Value} {xs : List Value} (h : w.ownsRow base e size v n xs) {g : Nat} (hg : v.ownBlock = some g) : Soft w g := by
  rcases h.2 with ⟨rfl, _⟩ | ⟨g', cap, cur, rfl, _, hh, _⟩
  · simp [Value.ownBlock] at hg
  · simp only [Value.ownBlock, Option.some.injEq] at hg
    subst hg
    exact ⟨_, _, hh⟩

namespace Instr
def blkOf (n : Nat) (a : Option Addr) : List Nat := if n = 0 then [] else match a with
  | some p => [p.block]
  | none => []
/-- The blocks that hold what is in these instructions: labels, lists. -/
def Il.foot : Il → List Nat
  | .nil => []
  | .cons x l e r => (blkOf x.tags.length x.ta ++ (blkOf x.ln x.la ++ l.foot) ++ (blkOf x.en x.ea ++ e.foot)) ++ r.foot
def Il.cells : Il → List Value
  | .nil => []
  | .cons x _ _ r => x.vals.toList ++ r.cells
/-- What is in these instructions lies as it should; the row that holds themselves may move. -/
def Il.kids (w : World) : Il → Prop
  | .nil => True
  | .cons x l e r => x.ok ∧ TagsAt w.heap.size w x.ta x.tags ∧ ListAt w.heap.size w x.la x.ln l ∧ ListAt w.heap.size w x.ea x.en e ∧ r.kids w
theorem foot_app : ∀ t u : Il, (t.app u).foot = t.foot ++ u.foot
  | .nil, _ => rfl
  | .cons x l e r, u => by simp only [Il.app, Il.foot, foot_app r, List.append_assoc]
theorem cells_app : ∀ t u : Il, (t.app u).cells = t.cells ++ u.cells
  | .nil, _ => rfl
  | .cons x l e r, u => by simp only [Il.app, Il.cells, cells_app r, List.append_assoc]
theorem kids_app {w : World} : ∀ t u : Il, t.kids w → u.kids w → (t.app u).kids w
  | .nil, _, _, h => h
  | .cons _ _ _ r, u, ⟨h1, h2, h3, h4, h5⟩, h => ⟨h1, h2, h3, h4, kids_app r u h5 h⟩

theorem TagsAt.touch {S : Nat → Prop} {n₀ : Nat} {w w' : World} {a : Option Addr} {zs : List Int} (h : TagsAt n₀ w a zs) (ht : Touch S w w') (hk : ∀ q ∈ blkOf zs.length a, ¬ S q) : TagsAt n₀ w' a zs := by
  rcases h with h | ⟨b, off, rfl, hl, hc⟩
  · exact .inl h
  · by_cases h0 : zs = []
    · exact .inl h0
    · have hne : zs.length ≠ 0 := fun h => h0 (List.eq_nil_of_length_eq_zero h)
      exact .inr ⟨b, off, rfl, hl, fun i hi => ht.cell (p := ⟨b, off + i, none⟩) (hk b (by simp [blkOf, hne])) (hc i hi)⟩
theorem Items.touch {S : Nat → Prop} {n₀ : Nat} {w w' : World} (ht : Touch S w w') : ∀ {t : Il} {b off : Nat}, Items n₀ w b off t → ¬ S b → (∀ q ∈ t.foot, ¬ S q) → Items n₀ w' b off t
  | .nil, _, _, _, _, _ => trivial
  | .cons x l e r, b, off, ⟨hl, hx, ⟨c0, c1, c2, c3, c4, c5, c6, c7⟩, htg, ⟨l1, l2⟩, ⟨e1, e2⟩, hr⟩, hb, hf => by
    have k : ∀ j v, w.cell? ⟨b, off + j, none⟩ = some v → w'.cell? ⟨b, off + j, none⟩ = some v := fun j v h => ht.cell (p := ⟨b, off + j, none⟩) hb h
    simp only [Il.foot, List.mem_append] at hf
    refine ⟨hl, hx, ⟨k 0 _ c0, k 1 _ c1, k 2 _ c2, k 3 _ c3, k 4 _ c4, k 5 _ c5, k 6 _ c6, k 7 _ c7⟩, htg.touch ht (fun q hq => hf q (.inl (.inl (.inl hq)))), ⟨l1, ?_⟩, ⟨e1, ?_⟩, Items.touch ht hr hb (fun q hq => hf q (.inr hq))⟩
    · rcases l2 with h | ⟨b', o', ha, hi⟩
      · exact .inl h
      · cases l with
        | nil => exact .inl rfl
        | cons y m f s =>
          have hne : x.ln ≠ 0 := by rw [← l1]; simp [Il.len]
          exact .inr ⟨b', o', ha, Items.touch ht hi (hf b' (.inl (.inl (.inr (.inl (by simp [blkOf, hne, ha])))))) (fun q hq => hf q (.inl (.inl (.inr (.inr hq)))))⟩
    · rcases e2 with h | ⟨b', o', ha, hi⟩
      · exact .inl h
      · cases e with
        | nil => exact .inl rfl
        | cons y m f s =>
          have hne : x.en ≠ 0 := by rw [← e1]; simp [Il.len]
          exact .inr ⟨b', o', ha, Items.touch ht hi (hf b' (.inl (.inr (.inl (by simp [blkOf, hne, ha]))))) (fun q hq => hf q (.inl (.inr (.inr hq))))⟩
theorem ListAt.touch {S : Nat → Prop} {n₀ : Nat} {w w' : World} {a : Option Addr} {n : Nat} {t : Il} (h : ListAt n₀ w a n t) (ht : Touch S w w') (hk : ∀ q ∈ blkOf n a ++ t.foot, ¬ S q) : ListAt n₀ w' a n t := by
  obtain ⟨h1, h2⟩ := h
  refine ⟨h1, ?_⟩
  rcases h2 with h | ⟨b', o', ha, hi⟩
  · exact .inl h
  · cases t with
    | nil => exact .inl rfl
    | cons y m f s =>
      have hne : n ≠ 0 := by rw [← h1]; simp [Il.len]
      exact .inr ⟨b', o', ha, Items.touch ht hi (hk b' (by simp [blkOf, hne, ha])) (fun q hq => hk q (by simp [hq]))⟩
theorem kids_touch {S : Nat → Prop} {w w' : World} (ht : Touch S w w') : ∀ {t : Il}, t.kids w → (∀ q ∈ t.foot, ¬ S q) → t.kids w'
  | .nil, _, _ => trivial
  | .cons x l e r, ⟨h1, h2, h3, h4, h5⟩, hf => by
    simp only [Il.foot, List.mem_append] at hf
    exact ⟨h1, (h2.touch ht (fun q hq => hf q (.inl (.inl (.inl hq))))).more ht.size, ListAt.more ht.size (h3.touch ht (fun q hq => hf q (.inl (.inl (.inr (List.mem_append.1 hq)))))),
      ListAt.more ht.size (h4.touch ht (fun q hq => hf q (.inl (.inr (List.mem_append.1 hq))))), kids_touch ht h5 (fun q hq => hf q (.inr hq))⟩
theorem tags_lt {n₀ : Nat} {w : World} {a : Option Addr} {zs : List Int} (h : TagsAt n₀ w a zs) : ∀ q ∈ blkOf zs.length a, q < n₀ := by
  intro q hq
  rcases h with rfl | ⟨b, off, rfl, hl, _⟩
  · simp [blkOf] at hq
  · unfold blkOf at hq
    split at hq
    · simp at hq
    · simp at hq; omega
mutual
theorem items_lt {n₀ : Nat} {w : World} : ∀ {t : Il} {b off : Nat}, Items n₀ w b off t → ∀ q ∈ t.foot, q < n₀
  | .nil, _, _, _, q, hq => by simp [Il.foot] at hq
  | .cons x l e r, b, off, ⟨_, _, _, ht, hl, he, hr⟩, q, hq => by
    simp only [Il.foot, List.mem_append] at hq
    rcases hq with ((hq | hq) | hq) | hq
    · exact tags_lt ht q hq
    · exact list_lt (t := l) hl q (List.mem_append.2 hq)
    · exact list_lt (t := e) he q (List.mem_append.2 hq)
    · exact items_lt hr q hq
theorem list_lt {n₀ : Nat} {w : World} {a : Option Addr} {n : Nat} : ∀ {t : Il}, ListAt n₀ w a n t → ∀ q ∈ blkOf n a ++ t.foot, q < n₀
  | .nil, ⟨h1, _⟩, q, hq => by simp [← h1, blkOf, Il.len, Il.foot] at hq
  | .cons x l e r, ⟨h1, h2⟩, q, hq => by
    rcases h2 with h | ⟨b, off, rfl, hb, hx, hc, ht, hl, he, hr⟩
    · cases h
    · rcases List.mem_append.1 hq with hq | hq
      · unfold blkOf at hq
        split at hq
        · simp at hq
        · simp at hq; omega
      · simp only [Il.foot, List.mem_append] at hq
        rcases hq with ((hq | hq) | hq) | hq
        · exact tags_lt ht q hq
        · exact list_lt (t := l) hl q (List.mem_append.2 hq)
        · exact list_lt (t := e) he q (List.mem_append.2 hq)
        · exact items_lt hr q hq
end
theorem kids_lt {w : World} : ∀ {t : Il}, t.kids w → ∀ q ∈ t.foot, q < w.heap.size
  | .nil, _, q, hq => by simp [Il.foot] at hq
  | .cons x l e r, ⟨_, ht, hl, he, hr⟩, q, hq => by
    simp only [Il.foot, List.mem_append] at hq
    rcases hq with ((hq | hq) | hq) | hq
    · exact tags_lt ht q hq
    · exact list_lt hl q (List.mem_append.2 hq)
    · exact list_lt he q (List.mem_append.2 hq)
    · exact kids_lt hr q hq
end Instr
end Go.Proofs.YtckdnhafookcgaaGreatDoor

/-
  BODY: the open lists in memory: a row of them, each with a row of its instructions; how a top one turns.
-/
namespace Go.Proofs.YtckdnhafookcgaaGreatDoor.Body
open Go.RowKit Go.Proofs.YtckdnhafookcgaaGreatDoor.Instr
open Go.Proofs.YtckdnhafookcgaaGreatDoor.Kind (Rd)

/-- Eight cells of a row are written over. -/
def store8 (w : World) (g off : Nat) (x : Ix) : World :=
  (((((((w.setCell ⟨g, off, none⟩ (.int .i64 x.op)).setCell ⟨g, off + 1, none⟩ (.int .i64 x.res)).setCell ⟨g, off + 2, none⟩ (.int .u32 x.a)).setCell ⟨g, off + 3, none⟩ (.int .u32 x.b)).setCell ⟨g, off + 4, none⟩ (.int .i32 x.n)).setCell
    ⟨g, off + 5, none⟩ (.slice x.ta x.tags.length x.tc)).setCell ⟨g, off + 6, none⟩ (.slice x.la x.ln x.lc)).setCell ⟨g, off + 7, none⟩ (.slice x.ea x.en x.ec)
theorem store8_touch (w : World) (g off : Nat) (x : Ix) : Touch (fun j => j = g) w (store8 w g off x) := by
  have step : ∀ (a b : World) (q : Addr) (v : Value), q.block = g → Touch (fun j => j = g) a b → Touch (fun j => j = g) a (b.setCell q v) := fun a b q v hq h => h.setCell (.inl hq) v
  unfold store8
  exact step _ _ _ _ rfl (step _ _ _ _ rfl (step _ _ _ _ rfl (step _ _ _ _ rfl (step _ _ _ _ rfl (step _ _ _ _ rfl (step _ _ _ _ rfl (step _ _ _ _ rfl (Touch.refl _ w))))))))
end Go.Proofs.YtckdnhafookcgaaGreatDoor.Body

namespace Go.Proofs.YtckdnhafookcgaaGreatDoor.Mod
open Go.RowKit Go.Proofs.YtckdnhafookcgaaGreatDoor.Instr
set_option linter.unusedVariables false

/-- What an item holds besides its own cells. -/
structure Part where
  l : Lst
  ta : Option Addr
  ts : List Int
  ba : Option Addr
  bs : List Int
def Part.lies (p : Part) (w : World) : Prop := ListAt w.heap.size w p.l.a p.l.t.len p.l.t ∧ TagsAt w.heap.size w p.ta p.ts ∧ BytesAt w.heap.size w p.ba p.bs
def Part.foot (p : Part) : List Nat := (blkOf p.l.t.len p.l.a ++ p.l.t.foot) ++ (blkOf p.ts.length p.ta ++ blkOf p.bs.length p.ba)
theorem BytesAt.touch {S : Nat → Prop} {n₀ : Nat} {w w' : World} {a : Option Addr} {zs : List Int} (h : BytesAt n₀ w a zs) (ht : Touch S w w') (hk : ∀ q ∈ blkOf zs.length a, ¬ S q) : BytesAt n₀ w' a zs := by
  rcases h with h | ⟨b, off, rfl, hl, hc⟩
  · exact .inl h
  · by_cases h0 : zs = []
    · exact .inl h0
    · have hne : zs.length ≠ 0 := fun h => h0 (List.eq_nil_of_length_eq_zero h)
      exact .inr ⟨b, off, rfl, hl, fun i hi => ht.cell (p := ⟨b, off + i, none⟩) (hk b (by simp [blkOf, hne])) (hc i hi)⟩
theorem Part.touch {S : Nat → Prop} {p : Part} {w w' : World} (h : p.lies w) (ht : Touch S w w') (hk : ∀ q ∈ p.foot, ¬ S q) : p.lies w' := by
  obtain ⟨h1, h2, h3⟩ := h
  have k1 : ∀ q ∈ blkOf p.l.t.len p.l.a ++ p.l.t.foot, ¬ S q := fun q hq => hk q (List.mem_append_left _ hq)
  have k2 : ∀ q ∈ blkOf p.ts.length p.ta, ¬ S q := fun q hq => hk q (List.mem_append_right _ (List.mem_append_left _ hq))
  have k3 : ∀ q ∈ blkOf p.bs.length p.ba, ¬ S q := fun q hq => hk q (List.mem_append_right _ (List.mem_append_right _ hq))
  exact ⟨(h1.touch ht k1).more ht.size, (h2.touch ht k2).more ht.size, (h3.touch ht k3).more ht.size⟩

section
variable {α : Type}
/-- Items that have been copied so far, in memory of their own. -/
structure Got (e : TypeId) (sz base : Nat) (f : α → List Value) (p : α → Part) (W : World) (v : Value) (us : List α) : Prop where
  row : OwnR e sz base W v (us.map f)
  kids : ∀ x ∈ us, (p x).lies W
  low : ∀ x ∈ us, ∀ q ∈ (p x).foot, base ≤ q
  lt : ∀ x ∈ us, ∀ q ∈ (p x).foot, q < W.heap.size
  apart : ∀ x ∈ us, ∀ q ∈ (p x).foot, v.ownBlock ≠ some q
theorem OwnR.touch {e : TypeId} {sz base : Nat} {S : Nat → Prop} {w w' : World} {v : Value} {rs : List (List Value)} (h : OwnR e sz base w v rs) (ht : Touch S w w') (hk : ∀ g, v.ownBlock = some g → ¬ S g) : OwnR e sz base w' v rs :=
  ⟨touch_row h.row ht hk, h.len⟩
theorem Got.touch {e : TypeId} {sz base : Nat} {f : α → List Value} {p : α → Part} {S : Nat → Prop} {W W' : World} {v : Value} {us : List α} (h : Got e sz base f p W v us) (ht : Touch S W W') (hs : ∀ q, base ≤ q → q < W.heap.size → ¬ S q) : Got e sz base f p W' v us :=
  ⟨h.row.touch ht (fun g hg => hs g (World.ownsRow.lt h.row.row g hg).1 (World.ownsRow.lt h.row.row g hg).2), fun x hx => Part.touch (h.kids x hx) ht (fun q hq => hs q (h.low x hx q hq) (h.lt x hx q hq)), h.low, fun x hx q hq => Nat.lt_of_lt_of_le (h.lt x hx q hq) ht.size, h.apart⟩
/-- Behind what turns one block, that lies below them. -/
theorem Got.save {e : TypeId} {sz base k : Nat} {f : α → List Value} {p : α → Part} {W W' : World} {v : Value} {us : List α} (h : Got e sz base f p W v us) (hs : Save k W W') (hk : k < base) : Got e sz base f p W' v us :=
  h.touch (.of_save hs) (fun q hq _ e => by omega)
theorem Got.below {e : TypeId} {sz base : Nat} {f : α → List Value} {p : α → Part} {W W' : World} {v : Value} {us : List α} (h : Got e sz base f p W v us) (hb : Below W.heap.size W W') : Got e sz base f p W' v us :=
  h.touch (S := fun _ => False) (.of_below hb) (fun _ _ _ h => h)
/-- One more. -/
theorem Got.snoc {e : TypeId} {sz base : Nat} {f : α → List Value} {p : α → Part} {W W3 : World} {v v' : Value} {us : List α} {x : α} {n0 : Nat} (h : Got e sz base f p W v us) (hx : (p x).lies W) (hlo : ∀ q ∈ (p x).foot, n0 ≤ q) (hlt : ∀ q ∈ (p x).foot, q < W.heap.size) (hb : base ≤ n0) (hv : ∀ g, v.ownBlock = some g → g < n0)
    (hown : OwnR e sz base W3 v' (us.map f ++ [f x])) (hg : W.grownBy W3 v.ownBlock) (hat : ∀ g, v'.ownBlock = some g → v.ownBlock = some g ∨ W.heap.size ≤ g) : Got e sz base f p W3 v' (us ++ [x]) := by
  have ht : Touch (fun j => v.ownBlock = some j) W W3 := Touch.of_grown hg
  have hne : ∀ q ∈ (p x).foot, v.ownBlock ≠ some q := fun q hq e => by
    have h1 := hlo q hq
    have h2 := hv q e
    omega
  refine ⟨by rw [List.map_append]; exact hown, ?_, ?_, ?_, ?_⟩
  · intro y hy
    rcases List.mem_append.1 hy with hy | hy
    · exact Part.touch (h.kids y hy) ht (h.apart y hy)
    · rw [List.mem_singleton] at hy; subst hy
      exact Part.touch hx ht hne
  · intro y hy q hq
    rcases List.mem_append.1 hy with hy | hy
    · exact h.low y hy q hq
    · rw [List.mem_singleton] at hy; subst hy
      exact Nat.le_trans hb (hlo q hq)
  · intro y hy q hq
    rcases List.mem_append.1 hy with hy | hy
    · exact Nat.lt_of_lt_of_le (h.lt y hy q hq) ht.size
    · rw [List.mem_singleton] at hy; subst hy
      exact Nat.lt_of_lt_of_le (hlt q hq) ht.size
  · intro y hy q hq e
    rcases List.mem_append.1 hy with hy | hy
    · rcases hat q e with e2 | e2
      · exact h.apart y hy q hq e2
      · have := h.lt y hy q hq; omega
    · rw [List.mem_singleton] at hy; subst hy
      rcases hat q e with e2 | e2
      · exact hne q hq e2
      · have := hlt q hq; omega
end
/-- The tags' blocks. -/
theorem foot_lt {p : Part} {w : World} (h : p.lies w) : ∀ q ∈ p.foot, q < w.heap.size := by
  obtain ⟨h1, h2, h3⟩ := h
  intro q hq
  rcases List.mem_append.1 hq with hq | hq
  · exact list_lt h1 q hq
  · rcases List.mem_append.1 hq with hq | hq
    · rcases h2 with h2 | ⟨b, off, ha, hl, _⟩
      · rw [h2] at hq; simp [blkOf] at hq
      · rw [ha] at hq
        unfold blkOf at hq
        split at hq
        · simp at hq
        · simp at hq; subst hq; exact hl
    · rcases h3 with h3 | ⟨b, off, ha, hl, _⟩
      · rw [h3] at hq; simp [blkOf] at hq
      · rw [ha] at hq
        unfold blkOf at hq
        split at hq
        · simp at hq
        · simp at hq; subst hq; exact hl
end Go.Proofs.YtckdnhafookcgaaGreatDoor.Mod

namespace Go.Proofs.YtckdnhafookcgaaGreatDoor.Body
open Go.RowKit Go.Proofs.YtckdnhafookcgaaGreatDoor.Leb
open Go.Proofs.YtckdnhafookcgaaGreatDoor.Kind (Rd)

theorem Does.alloc {k : Nat} {v r : Value} {w w' : World} {s : Rd} {e : Ending} (h : Does k v w r s e w') (o : Obj) : Does k v w r s e (w'.alloc o) :=
  ⟨h.1, h.2.1.below ((Below.refl _ _).alloc (Nat.le_refl _) o), h.2.2.alloc o⟩

end Go.Proofs.YtckdnhafookcgaaGreatDoor.Body

namespace Go.Proofs.YtckdnhafookcgaaGreatDoor.Body
open Go.RowKit
open Go.Proofs.YtckdnhafookcgaaGreatDoor.Kind (Rd)

/-- The document's own reader in block k: over the bytes of v, in the state s, behind n instructions. -/
structure RcIs (w : World) (k : Nat) (v : Value) (s : Rd) (n : Int) : Prop extends RdIs w k v s where
  c4 : w.cell? ⟨k, 4, none⟩ = some (.int .i64 n)
  f4 : w.frozen? ⟨k, 4, none⟩ = false
theorem RcIs.below {w w' : World} {k : Nat} {v : Value} {s : Rd} {n : Int} (h : RcIs w k v s n) (hb : Below w.heap.size w w') : RcIs w' k v s n :=
  ⟨h.toRdIs.below hb, keep hb h.c4, (hb.frozen (p := ⟨k, 4, none⟩) (World.block_lt_of_cell? w _ h.c4)).trans h.f4⟩
theorem RcIs.save {w w' : World} {k j : Nat} {v : Value} {s : Rd} {n : Int} (h : RcIs w k v s n) (hb : Save j w w') (hj : k ≠ j) : RcIs w' k v s n :=
  ⟨h.toRdIs.save hb hj, hb.cell hj h.c4, hb.frozen (World.block_lt_of_cell? w _ h.c4) hj h.f4⟩
/-- One more. -/
theorem RcIs.count {w : World} {k : Nat} {v : Value} {s : Rd} {n : Int} (h : RcIs w k v s n) (m : Int) : RcIs (w.setCell ⟨k, 4, none⟩ (.int .i64 m)) k v s m := by
  refine ⟨⟨?_, ?_, ?_, ?_, ?_, ?_, ?_, ?_⟩, ?_, ?_⟩ <;> simp [go_sem, h.c0, h.c1, h.c2, h.c3, h.c4, h.f0, h.f1, h.f2, h.f3, h.f4]
end Go.Proofs.YtckdnhafookcgaaGreatDoor.Body

/-
  BODY: the document's own reader's next, number, signed, is, by contract. (tools/gen_bodyrefn.py)
-/
namespace Go.Proofs.YtckdnhafookcgaaGreatDoor.Body
open Go.RowKit Go.Proofs.YtckdnhafookcgaaGreatDoor.Leb
open Go.Proofs.YtckdnhafookcgaaGreatDoor.Kind (Rd)

end Go.Proofs.YtckdnhafookcgaaGreatDoor.Body

namespace Go.Proofs.YtckdnhafookcgaaGreatDoor.Body
open Go.RowKit Go.Proofs.YtckdnhafookcgaaGreatDoor.Instr
open Go.Proofs.YtckdnhafookcgaaGreatDoor.Kind (Rd)

end Go.Proofs.YtckdnhafookcgaaGreatDoor.Body

/-
  BODY: the reader's labels, by contract: new memory that holds them.
-/
namespace Go.Proofs.YtckdnhafookcgaaGreatDoor.Body
open Go.RowKit Go.Proofs.YtckdnhafookcgaaGreatDoor.Instr
open Go.Proofs.YtckdnhafookcgaaGreatDoor.Kind (Rd)

theorem RdIs.belowB {B : Nat} {w w' : World} {k : Nat} {v : Value} {s : Rd} (h : RdIs w k v s) (hb : Below B w w') (hk : k < B) : RdIs w' k v s :=
  ⟨(hb.cell hk).trans h.c0, (hb.cell hk).trans h.c1, (hb.cell hk).trans h.c2, (hb.cell hk).trans h.c3, (hb.frozen hk).trans h.f0, (hb.frozen hk).trans h.f1, (hb.frozen hk).trans h.f2, (hb.frozen hk).trans h.f3⟩
theorem save_under {k : Nat} {a b c : World} (h : Save k a b) (g : Below a.heap.size b c) : Save k a c :=
  ⟨g.os.trans h.os, g.tape.trans h.tape, g.output.trans h.output, Nat.le_trans h.size g.size, fun j hj hk => (g.block j hj).trans (h.block j hj hk)⟩

end Go.Proofs.YtckdnhafookcgaaGreatDoor.Body

namespace Go.Proofs.YtckdnhafookcgaaGreatDoor.Body
open Go.RowKit Go.Proofs.YtckdnhafookcgaaGreatDoor.Instr
open Go.Proofs.YtckdnhafookcgaaGreatDoor.Kind (Rd)

/-- An instruction in a block of its own, that can be written. -/
structure Bx (g : Nat) (x : Ix) (w : World) : Prop where
  at_ : At x g w
  f0 : w.frozen? ⟨g, 0, none⟩ = false
  f1 : w.frozen? ⟨g, 1, none⟩ = false
  f2 : w.frozen? ⟨g, 2, none⟩ = false
  f3 : w.frozen? ⟨g, 3, none⟩ = false
  f4 : w.frozen? ⟨g, 4, none⟩ = false
  f5 : w.frozen? ⟨g, 5, none⟩ = false
  f6 : w.frozen? ⟨g, 6, none⟩ = false
  f7 : w.frozen? ⟨g, 7, none⟩ = false
theorem Bx.save {g k : Nat} {x : Ix} {w w' : World} (h : Bx g x w) (hs : Save k w w') (hk : g ≠ k) : Bx g x w' := by
  have hl : g < w.heap.size := World.block_lt_of_cell? w _ h.at_.c0
  exact ⟨h.at_.save hs hk, hs.frozen hl hk h.f0, hs.frozen hl hk h.f1, hs.frozen hl hk h.f2, hs.frozen hl hk h.f3, hs.frozen hl hk h.f4, hs.frozen hl hk h.f5, hs.frozen hl hk h.f6, hs.frozen hl hk h.f7⟩
theorem Bx.alloc {g : Nat} {x : Ix} {w : World} (h : Bx g x w) (o : Obj) : Bx g x (w.alloc o) := by
  have hb : Below w.heap.size w (w.alloc o) := (Below.refl _ _).alloc (Nat.le_refl _) o
  have hl : g < w.heap.size := World.block_lt_of_cell? w _ h.at_.c0
  exact ⟨h.at_.below hb, (hb.frozen (p := ⟨g, 0, none⟩) hl).trans h.f0, (hb.frozen (p := ⟨g, 1, none⟩) hl).trans h.f1, (hb.frozen (p := ⟨g, 2, none⟩) hl).trans h.f2, (hb.frozen (p := ⟨g, 3, none⟩) hl).trans h.f3, (hb.frozen (p := ⟨g, 4, none⟩) hl).trans h.f4, (hb.frozen (p := ⟨g, 5, none⟩) hl).trans h.f5, (hb.frozen (p := ⟨g, 6, none⟩) hl).trans h.f6, (hb.frozen (p := ⟨g, 7, none⟩) hl).trans h.f7⟩
def zeroX : Ix := plainX 0 0 0 0 0 []
theorem Bx.other {g : Nat} {x : Ix} {w : World} (h : Bx g x w) {p : Addr} (hp : p.block ≠ g) (v : Value) : Bx g x (w.setCell p v) := by
  have hl : g < w.heap.size := World.block_lt_of_cell? w _ h.at_.c0
  have hs : Save p.block w (w.setCell p v) := (Save.refl _ _).setCell (.inl rfl) _
  exact h.save hs (fun e => hp e.symm)
end Go.Proofs.YtckdnhafookcgaaGreatDoor.Body

namespace Go.Proofs.YtckdnhafookcgaaGreatDoor.Body
open Go.RowKit Go.Proofs.YtckdnhafookcgaaGreatDoor.Instr
open Go.Proofs.YtckdnhafookcgaaGreatDoor.Kind (Rd)
/-- An open list: its owner, the owner's first list if this is its second, what has been read, the slice that holds that. -/
structure Og where
  x : Ix
  fl : Il
  t : Il
  v : Value
  oth : Bool
def Og.cells (o : Og) : List Value := o.x.vals.toList ++ [o.v, .bool o.oth]
def rowBlk (v : Value) : List Nat := match v.ownBlock with
  | some g => [g]
  | none => []
/-- Its blocks, but for that of its row. -/
def Og.inner (o : Og) : List Nat := o.t.foot ++ (blkOf o.x.ln o.x.la ++ o.fl.foot)
def Og.foot (o : Og) : List Nat := rowBlk o.v ++ o.inner
/-- What the plain reading knows of it. -/
def Og.fr (o : Og) : Fr := ⟨plainX o.x.op o.x.res 0 0 0 [], o.fl.bare, o.t.bare, o.oth⟩
/-- All but the row of what has been read. -/
structure Half (base : Nat) (w : World) (o : Og) : Prop where
  kids : o.t.kids w
  own : ListAt w.heap.size w o.x.la o.x.ln o.fl
  tags : o.x.tags = []
  zero : o.x.a = 0 ∧ o.x.b = 0 ∧ o.x.n = 0
  ok : o.x.ok
  en : o.x.ea = none ∧ o.x.en = 0 ∧ o.x.ec = 0
  first : o.oth = false → o.x.la = none ∧ o.x.ln = 0 ∧ o.x.lc = 0
  low : ∀ q ∈ o.inner, base ≤ q
  few : o.t.len ≤ 4000000
  soft : ∀ q ∈ o.inner, Soft w q
structure OpenOk (base : Nat) (w : World) (o : Og) : Prop where
  half : Half base w o
  row : w.ownsRow base 105 8 o.v o.t.len o.t.cells
theorem Half.touch {base : Nat} {S : Nat → Prop} {w w' : World} {o : Og} (h : Half base w o) (ht : Touch S w w') (hk : ∀ q ∈ o.inner, ¬ S q) : Half base w' o := by
  obtain ⟨h1, h2, h3, h4, h5, h6, h7, h8, h9, h10⟩ := h
  have hs : ∀ q ∈ o.inner, Soft w' q := fun q hq => (h10 q hq).touch ht (hk q hq)
  unfold Og.inner at hk
  exact ⟨kids_touch ht h1 (fun q hq => hk q (List.mem_append_left _ hq)), ListAt.more ht.size (h2.touch ht (fun q hq => hk q (List.mem_append_right _ hq))), h3, h4, h5, h6, h7, h8, h9, hs⟩
theorem OpenOk.touch {base : Nat} {S : Nat → Prop} {w w' : World} {o : Og} (h : OpenOk base w o) (ht : Touch S w w') (hk : ∀ q ∈ o.foot, ¬ S q) : OpenOk base w' o :=
  ⟨h.half.touch ht (fun q hq => hk q (List.mem_append_right _ hq)), touch_row h.row ht (fun g hg => hk g (List.mem_append_left _ (by simp [rowBlk, hg])))⟩
theorem OpenOk.low {base : Nat} {w : World} {o : Og} (h : OpenOk base w o) : ∀ q ∈ o.foot, base ≤ q := by
  intro q hq
  rcases List.mem_append.1 hq with hq | hq
  · unfold rowBlk at hq
    split at hq
    · rename_i g hg
      simp at hq
      subst hq
      exact (World.ownsRow.lt h.row q hg).1
    · simp at hq
  · exact h.half.low q hq
theorem OpenOk.soft {base : Nat} {w : World} {o : Og} (h : OpenOk base w o) : ∀ q ∈ o.foot, Soft w q := by
  intro q hq
  rcases List.mem_append.1 hq with hq | hq
  · unfold rowBlk at hq
    split at hq
    · rename_i g hg
      simp at hq
      subst hq
      exact soft_row h.row hg
    · simp at hq
  · exact h.half.soft q hq
theorem Half.lt {base : Nat} {w : World} {o : Og} (h : Half base w o) : ∀ q ∈ o.inner, q < w.heap.size := by
  intro q hq
  rcases List.mem_append.1 hq with hq | hq
  · exact kids_lt h.kids q hq
  · exact list_lt h.own q hq
theorem OpenOk.lt {base : Nat} {w : World} {o : Og} (h : OpenOk base w o) : ∀ q ∈ o.foot, q < w.heap.size := by
  intro q hq
  rcases List.mem_append.1 hq with hq | hq
  · unfold rowBlk at hq
    split at hq
    · rename_i g hg
      simp at hq
      subst hq
      exact (World.ownsRow.lt h.row q hg).2
    · simp at hq
  · exact h.half.lt q hq

end Go.Proofs.YtckdnhafookcgaaGreatDoor.Body

namespace Go.Proofs.YtckdnhafookcgaaGreatDoor.Body
open Go.RowKit Go.Proofs.YtckdnhafookcgaaGreatDoor.Instr
open Go.Proofs.YtckdnhafookcgaaGreatDoor.Kind (Rd)

def zeroI : Value := .agg #[.int .i64 0, .int .i64 0, .int .u32 0, .int .u32 0, .int .i32 0, .slice none 0 0, .slice none 0 0, .slice none 0 0]
theorem infoI : (Tryz.prog.info? 105).map (fun i => (i.zero, i.size, i.bytes)) = some (some zeroI, 8, 104) := by kernel_rfl

section
variable {ops : Array Oper} {o : Oper} {act : Act} {K : Act → World → Prop} {Q : Exit → Act → World → Prop} {E : Prop}
end
end Go.Proofs.YtckdnhafookcgaaGreatDoor.Body

/-
  BODY: closeTop, by contract.
-/
namespace Go.Proofs.YtckdnhafookcgaaGreatDoor.Body
open Go.RowKit Go.Proofs.YtckdnhafookcgaaGreatDoor.Instr
open Go.Proofs.YtckdnhafookcgaaGreatDoor.Kind (Rd)

/-- The cells that an append to an open list's slice reads: that slice, and the instruction. -/
def Tops (gs p T : Nat) (gv : Value) (y : Ix) (w : World) : Prop := w.cell? ⟨gs, p, none⟩ = some gv ∧ At y T w
theorem Tops.touch {gs p T : Nat} {gv : Value} {y : Ix} {S : Nat → Prop} {w w' : World} (h : Tops gs p T gv y w) (ht : Touch S w w') (h1 : ¬ S gs) (h2 : ¬ S T) : w'.cell? ⟨gs, p, none⟩ = some gv ∧ w'.cell? ⟨T, 0, none⟩ = some (.int .i64 y.op) ∧ w'.cell? ⟨T, 1, none⟩ = some (.int .i64 y.res) ∧
    w'.cell? ⟨T, 2, none⟩ = some (.int .u32 y.a) ∧ w'.cell? ⟨T, 3, none⟩ = some (.int .u32 y.b) ∧ w'.cell? ⟨T, 4, none⟩ = some (.int .i32 y.n) ∧ w'.cell? ⟨T, 5, none⟩ = some (.slice y.ta y.tags.length y.tc) ∧ w'.cell? ⟨T, 6, none⟩ = some (.slice y.la y.ln y.lc) ∧ w'.cell? ⟨T, 7, none⟩ = some (.slice y.ea y.en y.ec) := by
  obtain ⟨h0, ⟨c0, c1, c2, c3, c4, c5, c6, c7⟩⟩ := h
  exact ⟨ht.cell h1 h0, ht.cell h2 c0, ht.cell h2 c1, ht.cell h2 c2, ht.cell h2 c3, ht.cell h2 c4, ht.cell h2 c5, ht.cell h2 c6, ht.cell h2 c7⟩
/-- What an item more leaves: the top list's slice, its cells, and the stack's cell. -/
def Itemed (base gs p : Nat) (y : Ix) (ga : Option Addr) (gc : Nat) (gt : Il) (w w' : World) : Prop :=
  ∃ w1 g' cap', Touch (fun j => Value.ownBlock (.slice ga gt.len gc) = some j) w w1 ∧ w1.ownsRow base 105 8 (.slice (some ⟨g', 0, none⟩) (gt.len + 1) cap') (gt.len + 1) (gt.cells ++ zeroX.vals.toList) ∧ (Value.ownBlock (.slice ga gt.len gc) = some g' ∨ w.heap.size ≤ g') ∧
    w' = (store8 w1 g' (gt.len * 8) y).setCell ⟨gs, p, none⟩ (.slice (some ⟨g', 0, none⟩) (gt.len + 1) cap')
end Go.Proofs.YtckdnhafookcgaaGreatDoor.Body

/-
  BODY: closeTop, by contract, on the stack of open lists.
-/
namespace Go.Proofs.YtckdnhafookcgaaGreatDoor.Body
open Go.RowKit Go.Proofs.YtckdnhafookcgaaGreatDoor.Instr
open Go.Proofs.YtckdnhafookcgaaGreatDoor.Kind (Rd)

end Go.Proofs.YtckdnhafookcgaaGreatDoor.Body

namespace Go.Proofs.YtckdnhafookcgaaGreatDoor.Body
open Go.RowKit Go.Proofs.YtckdnhafookcgaaGreatDoor.Instr
open Go.Proofs.YtckdnhafookcgaaGreatDoor.Kind (Rd)

section
variable {zs : List Int} {m : Nat} {f : Fr} {fs : List Fr} {cnt : Int} {s s1 : Rd} {y : Int}
end

theorem Itemed.below {base gs p : Nat} {y : Ix} {ga : Option Addr} {gc : Nat} {gt : Il} {w w' : World} (h : Itemed base gs p y ga gc gt w w') (hb : base ≤ w.heap.size) (hlow : ∀ q, Value.ownBlock (.slice ga gt.len gc) = some q → base ≤ q) (hgs : base ≤ gs) : Below base w w' := by
  obtain ⟨w1, g', cap', ht, _, hat, rfl⟩ := h
  have h1 : Below base w w1 := ht.below hb (fun j hj => hlow j hj)
  have hg' : base ≤ g' := by
    rcases hat with h | h
    · exact hlow g' h
    · omega
  exact (h1.trans ((store8_touch w1 g' (gt.len * 8) y).below (Nat.le_trans hb ht.size) (fun j hj => by have hj' : j = g' := hj; omega))).setCell hgs _
end Go.Proofs.YtckdnhafookcgaaGreatDoor.Body

/-
  BODY: the reader's list, by contract.
-/
namespace Go.Proofs.YtckdnhafookcgaaGreatDoor.Body
open Go.RowKit Go.Proofs.YtckdnhafookcgaaGreatDoor.Instr
open Go.Proofs.YtckdnhafookcgaaGreatDoor.Kind (Rd)

end Go.Proofs.YtckdnhafookcgaaGreatDoor.Body

namespace Go.Proofs.YtckdnhafookcgaaGreatDoor.Body
open Go.RowKit Go.Proofs.YtckdnhafookcgaaGreatDoor.Instr
open Go.Proofs.YtckdnhafookcgaaGreatDoor.Kind (Rd)

/-- Instructions in memory of their own. -/
structure Fresh (B : Nat) (w : World) (a : Option Addr) (n : Nat) (t : Il) : Prop where
  lst : ListAt w.heap.size w a n t
  nodup : (blkOf n a ++ t.foot).Nodup
  low : ∀ q ∈ blkOf n a ++ t.foot, B ≤ q
  soft : ∀ q ∈ blkOf n a ++ t.foot, Soft w q
theorem Fresh.nil (B : Nat) (w : World) : Fresh B w none 0 .nil := ⟨⟨rfl, .inl rfl⟩, by simp [blkOf, Il.foot], fun q hq => by simp [blkOf, Il.foot] at hq, fun q hq => by simp [blkOf, Il.foot] at hq⟩
theorem Fresh.touch {B : Nat} {S : Nat → Prop} {w w' : World} {a : Option Addr} {n : Nat} {t : Il} (h : Fresh B w a n t) (ht : Touch S w w') (hs : ∀ q ∈ blkOf n a ++ t.foot, ¬ S q) : Fresh B w' a n t := ⟨ListAt.more ht.size (h.lst.touch ht hs), h.nodup, h.low, fun q hq => (h.soft q hq).touch ht (hs q hq)⟩
theorem Fresh.mono {B B' : Nat} {w : World} {a : Option Addr} {n : Nat} {t : Il} (h : Fresh B w a n t) (hb : B' ≤ B) : Fresh B' w a n t := ⟨h.lst, h.nodup, fun q hq => Nat.le_trans hb (h.low q hq), h.soft⟩
theorem Fresh.below {B : Nat} {w w' : World} {a : Option Addr} {n : Nat} {t : Il} (h : Fresh B w a n t) (hb : Below w.heap.size w w') : Fresh B w' a n t := h.touch (S := fun _ => False) (.of_below hb) (fun _ _ h => h)
end Go.Proofs.YtckdnhafookcgaaGreatDoor.Body

namespace Go.Proofs.YtckdnhafookcgaaGreatDoor.Body
set_option linter.unusedVariables false
open Go.RowKit Go.Proofs.YtckdnhafookcgaaGreatDoor.Instr
open Go.Proofs.YtckdnhafookcgaaGreatDoor.Kind (Rd)

theorem RcIs.belowB {B : Nat} {w w' : World} {k : Nat} {v : Value} {s : Rd} {n : Int} (h : RcIs w k v s n) (hb : Below B w w') (hk : k < B) : RcIs w' k v s n :=
  ⟨h.toRdIs.belowB hb hk, (hb.cell hk).trans h.c4, (hb.frozen hk).trans h.f4⟩
theorem Bx.belowB {B : Nat} {w w' : World} {g : Nat} {x : Ix} (h : Bx g x w) (hb : Below B w w') (hg : g < B) : Bx g x w' :=
  ⟨⟨(hb.cell hg).trans h.at_.c0, (hb.cell hg).trans h.at_.c1, (hb.cell hg).trans h.at_.c2, (hb.cell hg).trans h.at_.c3, (hb.cell hg).trans h.at_.c4, (hb.cell hg).trans h.at_.c5, (hb.cell hg).trans h.at_.c6, (hb.cell hg).trans h.at_.c7⟩,
    (hb.frozen hg).trans h.f0, (hb.frozen hg).trans h.f1, (hb.frozen hg).trans h.f2, (hb.frozen hg).trans h.f3, (hb.frozen hg).trans h.f4, (hb.frozen hg).trans h.f5, (hb.frozen hg).trans h.f6, (hb.frozen hg).trans h.f7⟩
theorem below_put (W : World) (b o : Nat) (u : Value) : Below b W (W.setCell ⟨b, o, none⟩ u) := (Below.refl b W).setCell (p := ⟨b, o, none⟩) (Nat.le_refl _) u
/-- While an instruction is read: the reader, the result's block, the instruction's block behind it. -/
structure Mid (w : World) (k : Nat) (v : Value) (n : Int) (s : Rd) (x : Ix) (W : World) : Prop where
  r : RcIs W k v s n
  sv : Save k w W
  res : Bx w.heap.size zeroX W
  box : Bx (w.heap.size + 1) x W
  lt : k < w.heap.size
section
variable {w W W' : World} {k : Nat} {v : Value} {n : Int} {s s' : Rd} {x : Ix}
theorem Mid.call {n' : Int} (M : Mid w k v n s x W) (h : RcIs W' k v s' n') (hs : Save k W W') : Mid w k v n' s' x W' := ⟨h, M.sv.trans hs, M.res.save hs (by have := M.lt; omega), M.box.save hs (by have := M.lt; omega), M.lt⟩
end
end Go.Proofs.YtckdnhafookcgaaGreatDoor.Body

/-
  BODY: the document's own reading of an instruction with labels, by contract.
-/
namespace Go.Proofs.YtckdnhafookcgaaGreatDoor.Body
set_option linter.unusedVariables false
open Go.RowKit Go.Proofs.YtckdnhafookcgaaGreatDoor.Instr
open Go.Proofs.YtckdnhafookcgaaGreatDoor.Kind (Rd)

theorem Mid.more {w W W' : World} {k : Nat} {v : Value} {n : Int} {s : Rd} {x : Ix} (M : Mid w k v n s x W) (hB : Below (w.heap.size + 2) W W') : Mid w k v n s x W' :=
  ⟨M.r.belowB hB (by have := M.lt; omega), save_under M.sv (hB.mono (by omega)), M.res.belowB hB (by omega), M.box.belowB hB (by omega), M.lt⟩
end Go.Proofs.YtckdnhafookcgaaGreatDoor.Body

/-
  BODY: the document's own reading of lists: what a list, and an instruction with lists, give; the list that is read so far (plain, and in memory).
-/
namespace Go.Proofs.YtckdnhafookcgaaGreatDoor.Body
set_option linter.unusedVariables false
open Go.RowKit Go.Proofs.YtckdnhafookcgaaGreatDoor.Instr
open Go.Proofs.YtckdnhafookcgaaGreatDoor.Kind (Rd)

/-- The list that has been read so far, in memory of its own. -/
structure LOk (w : World) (out : Value) (t : Il) (W : World) : Prop where
  row : W.ownsRow w.heap.size 105 8 out t.len t.cells
  kids : t.kids W
  low : ∀ q ∈ t.foot, w.heap.size ≤ q
  apart : ∀ q ∈ t.foot, out.ownBlock ≠ some q
theorem LOk.touch {S : Nat → Prop} {w W W' : World} {out : Value} {t : Il} (h : LOk w out t W) (ht : Touch S W W') (hs : ∀ q, w.heap.size ≤ q → ¬ S q) : LOk w out t W' :=
  ⟨touch_row h.row ht (fun g hg => hs g (World.ownsRow.lt h.row g hg).1), kids_touch ht h.kids (fun q hq => hs q (h.low q hq)), h.low, h.apart⟩
theorem LOk.save {k : Nat} {w W W' : World} {out : Value} {t : Il} (h : LOk w out t W) (hs : Save k W W') (hk : k < w.heap.size) : LOk w out t W' :=
  h.touch (.of_save hs) (fun q hq e => by omega)
theorem LOk.snoc {w W W2 W3 : World} {out : Value} {t : Il} {y : Ix} {l f : Il} {g cap : Nat} {o : Obj} (h : LOk w out t W) (h2 : LOk w out t W2) (hk : (Il.cons y l f .nil).kids W2) (hlo : ∀ q ∈ (Il.cons y l f .nil).foot, W.heap.size ≤ q) (hw : w.heap.size ≤ W.heap.size)
    (hown : W3.ownsRow w.heap.size 105 8 (.slice (some ⟨g, 0, none⟩) (t.len + 1) cap) (t.len + 1) (t.cells ++ y.vals.toList)) (hg : (W2.alloc o).grownBy W3 out.ownBlock) (hat : out.ownBlock = some g ∨ g = (W2.alloc o).heap.size) :
    LOk w (.slice (some ⟨g, 0, none⟩) (t.len + 1) cap) (t.app (.cons y l f .nil)) W3 := by
  have ht : Touch (fun j => out.ownBlock = some j) W2 W3 := (Touch.of_below (thenA (Below.refl _ _) o)).trans (Touch.of_grown hg)
  have hne : ∀ q ∈ (Il.cons y l f .nil).foot, out.ownBlock ≠ some q := fun q hq e => by
    have h1 := hlo q hq
    have h3 := (World.ownsRow.lt h.row q e).2
    omega
  have hlt : ∀ q ∈ t.foot, q < W2.heap.size := kids_lt h2.kids
  have hlt2 : ∀ q ∈ (Il.cons y l f .nil).foot, q < W2.heap.size := kids_lt hk
  have hsz : (W2.alloc o).heap.size = W2.heap.size + 1 := by simp
  refine ⟨?_, kids_app _ _ (kids_touch ht h2.kids h2.apart) (kids_touch ht hk hne), ?_, ?_⟩
  · rw [app_len, cells_app]
    simp only [Il.len, Il.cells, List.append_nil, Nat.zero_add]
    exact hown
  · intro q hq
    rw [foot_app] at hq
    rcases List.mem_append.1 hq with hq | hq
    · exact h2.low q hq
    · exact Nat.le_trans hw (hlo q hq)
  · intro q hq e
    simp only [Value.ownBlock, Option.some.injEq] at e
    subst e
    rw [foot_app] at hq
    rcases hat with hat | hat
    · rcases List.mem_append.1 hq with hq | hq
      · exact h2.apart g hq hat
      · exact hne g hq hat
    · rcases List.mem_append.1 hq with hq | hq
      · have := hlt g hq; omega
      · have := hlt2 g hq; omega
section
variable {ops : Array Oper} {rest : List Oper} {o : Oper} {act : Act} {Q : Exit → Act → World → Prop}
end
end Go.Proofs.YtckdnhafookcgaaGreatDoor.Body

/-
  BODY: the document's own reading of an instruction that has lists, by contract. (tools/gen_bodyrefb.py)
-/
namespace Go.Proofs.YtckdnhafookcgaaGreatDoor.Body
set_option linter.unusedVariables false
open Go.RowKit Go.Proofs.YtckdnhafookcgaaGreatDoor.Instr
open Go.Proofs.YtckdnhafookcgaaGreatDoor.Kind (Rd)

/-- While an instruction with lists is read: the reader, the instruction's block, the result's behind it. -/
structure Blk (w : World) (k : Nat) (v : Value) (n : Int) (s : Rd) (x : Ix) (W : World) : Prop where
  r : RcIs W k v s n
  sv : Save k w W
  box : Bx w.heap.size x W
  res : Bx (w.heap.size + 1) zeroX W
  lt : k < w.heap.size
section
variable {w W W' : World} {k : Nat} {v : Value} {n : Int} {s s' : Rd} {x : Ix}
theorem Blk.call {n' : Int} (M : Blk w k v n s x W) (h : RcIs W' k v s' n') (hs : Save k W W') : Blk w k v n' s' x W' := ⟨h, M.sv.trans hs, M.box.save hs (by have := M.lt; omega), M.res.save hs (by have := M.lt; omega), M.lt⟩
theorem Blk.put {x' : Ix} (M : Blk w k v n s x W) (o : Nat) (u : Value) (hbox : Bx w.heap.size x' (W.setCell ⟨w.heap.size, o, none⟩ u)) : Blk w k v n s x' (W.setCell ⟨w.heap.size, o, none⟩ u) :=
  ⟨M.r.belowB (below_put W _ _ _) M.lt, save_under M.sv (below_put W _ _ _), hbox, M.res.other (by simp) _, M.lt⟩
theorem Blk.size (M : Blk w k v n s x W) : w.heap.size + 2 ≤ W.heap.size := by
  have := World.block_lt_of_cell? W _ M.res.at_.c0
  simp only at this
  omega
end
end Go.Proofs.YtckdnhafookcgaaGreatDoor.Body

/-
  BODY: the document's own one and list, by contract. (tools/gen_bodyrefl.py)
-/
namespace Go.Proofs.YtckdnhafookcgaaGreatDoor.Body
set_option linter.unusedVariables false
open Go.RowKit Go.Proofs.YtckdnhafookcgaaGreatDoor.Instr
open Go.Proofs.YtckdnhafookcgaaGreatDoor.Kind (Rd)

theorem Mid.size {w W : World} {k : Nat} {v : Value} {n : Int} {s : Rd} {x : Ix} (M : Mid w k v n s x W) : w.heap.size + 2 ≤ W.heap.size := by
  have := World.block_lt_of_cell? W _ M.box.at_.c0
  simp only at this
  omega
end Go.Proofs.YtckdnhafookcgaaGreatDoor.Body

/-
  BODY: the document's own list, by contract. (tools/gen_bodyrefm.py)
-/
namespace Go.Proofs.YtckdnhafookcgaaGreatDoor.Body
set_option linter.unusedVariables false
open Go.RowKit Go.Proofs.YtckdnhafookcgaaGreatDoor.Instr
open Go.Proofs.YtckdnhafookcgaaGreatDoor.Kind (Rd)

end Go.Proofs.YtckdnhafookcgaaGreatDoor.Body

/-
  BODY: the document's own Get, by contract.
-/
namespace Go.Proofs.YtckdnhafookcgaaGreatDoor.Body
set_option linter.unusedVariables false
open Go.RowKit Go.Proofs.YtckdnhafookcgaaGreatDoor.Instr
open Go.Proofs.YtckdnhafookcgaaGreatDoor.Kind (Rd)

/-- Two cells that are there. -/
structure Duq (T : Nat) (x y : Value) (w : World) : Prop where
  c0 : w.cell? ⟨T, 0, none⟩ = some x
  c1 : w.cell? ⟨T, 1, none⟩ = some y
  f0 : w.frozen? ⟨T, 0, none⟩ = false
  f1 : w.frozen? ⟨T, 1, none⟩ = false
theorem Duq.save {k T : Nat} {x y : Value} {w w' : World} (h : Duq T x y w) (hs : Save k w w') (hk : T ≠ k) : Duq T x y w' :=
  have hl := World.block_lt_of_cell? w _ h.c0
  ⟨hs.cell hk h.c0, hs.cell hk h.c1, hs.frozen hl hk h.f0, hs.frozen hl hk h.f1⟩
theorem Duq.below {T : Nat} {x y : Value} {w w' : World} (h : Duq T x y w) (hb : Below w.heap.size w w') : Duq T x y w' :=
  h.save (k := w.heap.size) (Save.of_below hb) (by have := World.block_lt_of_cell? w _ h.c0; simp at this; omega)
end Go.Proofs.YtckdnhafookcgaaGreatDoor.Body

namespace Go.Proofs.YtckdnhafookcgaaGreatDoor.Body
set_option linter.unusedVariables false
open Go.RowKit Go.Proofs.YtckdnhafookcgaaGreatDoor.Instr

theorem run_append_none (w : World) (base : Nat) (t ty e : TypeId) (i : TypeInfo) (size c : Nat) (ht : Tryz.prog.underlying t = some (.slice e)) (hi : Tryz.prog.info? e = some i)
    (v : Value) (n : Nat) (xs : List Value) (hown : w.ownsRow base e size v n xs) :
    (Builtin.append_ #[t, t] ty #[v, .slice none 0 c]).run Tryz.prog w = .ok v w := by
  rcases hown.2 with ⟨rfl, rfl⟩ | ⟨g, cap, cur, rfl, _, _, hnc, _⟩
  · simp [Builtin.append_, run_underlying ht, sizeOf, typeInfo, hi, Builtin.lenOf, Builtin.firstCells]
  · simp [Builtin.append_, run_underlying ht, sizeOf, typeInfo, hi, Builtin.lenOf, Builtin.firstCells, hnc, storeCells]
section
variable {ops : Array Oper} {rest : List Oper} {o : Oper} {act : Act} {Q : Exit → Act → World → Prop}
theorem append_none (hgd : o.guard = none) (s x : Operand) (t : TypeId) (ho : o.op = .call { callee := .builtin .append, args := #[s, x], argTypes := #[t, t] })
    {w : World} (base : Nat) (e : TypeId) (i : TypeInfo) (size c : Nat) (ht : Tryz.prog.underlying t = some (.slice e)) (hi : Tryz.prog.info? e = some i)
    (v : Value) (n : Nat) (xs : List Value) (hs : act.eval s = v) (hown : w.ownsRow base e size v n xs) (hx : act.eval x = .slice none 0 c)
    (h : wpList Tryz.prog ops Q rest (act.put o.dst v) w) : wpList Tryz.prog ops Q (o :: rest) act w := by
  refine wpList_plain hgd fun K hK => ?_
  have hrun := run_append_none w base t o.type e i size c ht hi v n xs hown
  unfold Oper.wp
  simp [execOp, ho, resolve, invoke, builtin, hs, hx, hrun, Result.andThen]
  exact hK _ _ h
end
section
variable {ops : Array Oper} {rest : List Oper} {o : Oper} {act : Act} {Q : Exit → Act → World → Prop}
end
end Go.Proofs.YtckdnhafookcgaaGreatDoor.Body

namespace Go.Proofs.YtckdnhafookcgaaGreatDoor
open Go

section
variable {P : Program} {md : Region.Mode} {ops : Array Oper} {Q : Exit → Act → World → Prop} {S : World → Prop} {L : Nat}

def Till (P : Program) (md : Region.Mode) (ops : Array Oper) (Q : Exit → Act → World → Prop) (S : World → Prop) (L : Nat) : Nat → Array Bool → Act → World → Prop
  | 0, l, a, w => Region.ready md ops l = [] ∧ Q .normal a w
  | n + 1, l, a, w => (Region.ready md ops l = [] → Q .normal a w) ∧ ∀ i ∈ Region.ready md ops l, wpOp P ops Q i (fun a' w' => (i ≠ L → S w') ∧ Till P md ops Q S L n (l.setIfInBounds i true) a' w') a w

theorem Till.any : ∀ (n : Nat) (l : Array Bool) (a : Act) (w : World), Till P md ops Q S L n l a w → wpAny P md ops Q n l a w
  | 0, _, _, _, h => h
  | n + 1, _, _, _, h => ⟨h.1, fun i hi => wpOp_mono (fun a' w' k => Till.any n _ a' w' k.2) (h.2 i hi)⟩
/-- An operation that waits for i is not ready as long as i has not come up. -/
theorem not_ahead {l : Array Bool} {i j : Nat} {oj : Oper} (hj : ops[j]? = some oj) (hw : (oj.after.any fun e => Region.binds md e && e.on == i) = true) (hi : i ∈ Region.ready md ops l) : j ∉ Region.ready md ops l := by
  intro h
  obtain ⟨_, o, ho, hall⟩ := mem_ready.1 h
  rw [hj] at ho
  obtain rfl := Option.some.inj ho
  obtain ⟨e, he, hb⟩ := Array.any_eq_true'.1 hw
  simp only [Bool.and_eq_true, beq_iff_eq] at hb
  have h1 := hall e he hb.1
  rw [hb.2] at h1
  have h0 := (mem_ready.1 hi).1
  rw [Array.getD_eq_getD_getElem?] at h0 h1
  cases hl : l[i]? with
  | none => rw [hl] at h1; simp at h1
  | some b => rw [hl] at h0 h1; simp at h0 h1; rw [h0] at h1; cases h1
theorem Till.first {i : Nat} {oi oL : Oper} {v : Value} (hi : ops[i]? = some oi) (hsel : ∀ (j : Nat) (o : Oper) cs b, ops[j]? = some o → o.op ≠ .select cs b)
    (hL : ops[L]? = some oL) (hw : (oL.after.any fun e => Region.binds md e && e.on == i) = true) (hQ : ∀ c a w, Q (.panic c) (a.put oi.dst v) w → Q (.panic c) a w) :
    ∀ (n : Nat) (l : Array Bool) (a : Act) (w : World),
      (∀ j oj, ops[j]? = some oj → j ≠ i → l.getD j true = false → (∀ e ∈ oj.after, Region.binds md e = true → e.on ≠ i) → oi.apart ops oj = true) →
      i ∈ Region.ready md ops l → YieldsIf P ops S oi v a → S w → Till P md ops Q S L n (l.setIfInBounds i true) (a.put oi.dst v) w → Till P md ops Q S L (n + 1) l a w
  | n, l, a, w, hfree, hr, hy, hS, H => by
    refine ⟨fun h => (by rw [h] at hr; cases hr), fun j hj => ?_⟩
    rcases Nat.decEq j i with hji | hji
    rotate_left
    · subst hji; exact hy.wpOp hi hS ⟨fun _ => hS, H⟩
    have hjL : j ≠ L := fun e => not_ahead hL hw hr (e ▸ hj)
    have hj2 := ready_mono hj hji
    cases n with
    | zero => rw [H.1] at hj2; cases hj2
    | succ n =>
      have h1 := H.2 j hj2
      obtain ⟨hjun, oj, hoj, hall⟩ := mem_ready.1 hj
      have hno : ∀ e ∈ oj.after, Region.binds md e = true → e.on ≠ i := fun e he hb heq => by
        refine not_ahead hoj ?_ hr hj
        exact Array.any_eq_true'.2 ⟨e, he, by simp [hb, heq]⟩
      have h2 := wpOp_putIf hoj (hfree j oj hoj hji hjun hno) (fun cs b => hsel i oi cs b hi) (fun cs b => hsel j oj cs b hoj) hQ hy h1
      refine wpOp_mono (fun a' w' k => ⟨fun h => k.2.1 h, Till.first hi hsel hL hw hQ n (l.setIfInBounds j true) a' w' (fun q oq hq hqi hun hn => ?_) (ready_mono hr (Ne.symm hji)) k.1 (k.2.1 hjL) ?_⟩) h2
      · refine hfree q oq hq hqi ?_ hn
        by_cases e : j = q
        · subst e; exact hjun
        · rwa [getD_set_ne true e] at hun
      · rw [Array.setIfInBounds_comm _ _ hji]; exact k.2.2
end
end Go.Proofs.YtckdnhafookcgaaGreatDoor
