import Derived.Test.YtaklngfibnbmcaaGreatDoorVa10
import Derived.Laws.StructEq
import Derived.Deep.RegionWith
namespace Go.Proofs.YtaklngfibnbmcaaGreatDoor.Instr
end Go.Proofs.YtaklngfibnbmcaaGreatDoor.Instr
namespace Go.Proofs.YtaklngfibnbmcaaGreatDoor.Mod
end Go.Proofs.YtaklngfibnbmcaaGreatDoor.Mod
namespace Go.Proofs.YtaklngfibnbmcaaGreatDoor.Val
open Go.RowKit Go.Shelf Go.Proofs.YtaklngfibnbmcaaGreatDoor.Instr Go.Proofs.YtaklngfibnbmcaaGreatDoor.Mod
set_option linter.unusedVariables false

/-- What is wrong, and where. -/
structure Wr where
  e : Int
  s : Int
  i : Int
  a : Int
def Wr.v (r : Wr) : Array Value := #[.int .i64 r.e, .int .i64 r.s, .int .i64 r.i, .int .i64 r.a]
/-- Of n items from the k-th on: the first that is wrong. -/
def scanI (m : Md) (j : Nat) : Nat → Nat → Option Wr
  | _, 0 => none
  | k, n + 1 => if (secE m j k).1 = 0 then scanI m j (k + 1) n else some ⟨(secE m j k).1, secN j, k, (secE m j k).2⟩
/-- Of c sections from the j-th on. -/
def scanS (m : Md) : Nat → Nat → Option Wr
  | _, 0 => none
  | j, c + 1 => match scanI m j 0 (secL m j) with
    | some r => some r
    | none => scanS m (j + 1) c
def wrongP (m : Md) : Wr := if m.check = 0 then (scanS m 0 8).getD ⟨0, 0, 0, 0⟩ else ⟨m.check, 0, 0, 0⟩
theorem scanS_hit {m : Md} {j c : Nat} {r : Wr} (h : scanI m j 0 (secL m j) = some r) : scanS m j (c + 1) = some r := by rw [scanS, h]
theorem scanS_miss {m : Md} {j c : Nat} (h : scanI m j 0 (secL m j) = none) : scanS m j (c + 1) = scanS m (j + 1) c := by rw [scanS, h]
theorem sec_enters (k : Nat) (hk : k < 8) : ∀ args w, (callFunc (secF k) args).run Tryz.prog w = .ok (.enter (secF k) args) w := by
  match k, hk with
  | 0, _ => exact enters_of Tryz.func80 (by kernel_rfl) rfl
  | 1, _ => exact enters_of Tryz.func82 (by kernel_rfl) rfl
  | 2, _ => exact enters_of Tryz.func83 (by kernel_rfl) rfl
  | 3, _ => exact enters_of Tryz.func85 (by kernel_rfl) rfl
  | 4, _ => exact enters_of Tryz.func87 (by kernel_rfl) rfl
  | 5, _ => exact enters_of Tryz.func89 (by kernel_rfl) rfl
  | 6, _ => exact enters_of Tryz.func91 (by kernel_rfl) rfl
  | 7, _ => exact enters_of Tryz.func92 (by kernel_rfl) rfl
theorem sec_m (gm gn bm : Nat) (m : Md) (j k : Nat) (hj : j < 8) (W : World) (h : Sx gm gn bm m W) (hf : m.few) (hfi : Fine m) (hrg : Rg m) (hk : k < secL m j) :
    Calls Tryz.prog (secF j) (#[.int .i64 k] ++ secB gm gn j) W fun e w' => e = .returned (.tuple #[.int .i64 (secE m j k).1, .int .i64 (secE m j k).2]) ∧ Below W.heap.size W w' := by
  match j, hj, hk with
  | 0, _, hk => exact sec0_m gm gn bm m k W h hf hfi hrg hk
  | 1, _, hk => exact sec1_m gm gn bm m k W h hf hfi hrg hk
  | 2, _, hk => exact sec2_m gm gn bm m k W h hf hfi hrg hk
  | 3, _, hk => exact sec3_m gm gn bm m k W h hf hfi hrg hk
  | 4, _, hk => exact sec4_m gm gn bm m k W h hf hfi hrg hk
  | 5, _, hk => exact sec5_m gm gn bm m k W h hf hfi hrg hk
  | 6, _, hk => exact sec6_m gm gn bm m k W h hf hfi hrg hk
  | 7, _, hk => exact sec7_m gm gn bm m k W h hf hfi hrg hk
theorem secL_le {m : Md} (hf : m.few) (j : Nat) : secL m j ≤ 1000000 := by
  have h := hf.lens
  unfold secL
  split <;> (try split) <;> omega
/-- A box of four numbers. -/
def Bx4 (W : World) (g : Nat) (r : Wr) : Prop := W.heap[g]? = some (.cells r.v 39 (0, 0))
theorem Bx4.lt {W : World} {g : Nat} {r : Wr} (h : Bx4 W g r) : g < W.heap.size := (Array.getElem?_eq_some_iff.1 h).1
theorem Bx4.on {W W' : World} {g : Nat} {r : Wr} (h : Bx4 W g r) (hb : Below W.heap.size W W') : Bx4 W' g r := (hb.block g h.lt).trans h
theorem Bx4.c {W : World} {g : Nat} {r : Wr} (h : Bx4 W g r) : W.cell? ⟨g, 0, none⟩ = some (.int .i64 r.e) ∧ W.cell? ⟨g, 1, none⟩ = some (.int .i64 r.s) ∧ W.cell? ⟨g, 2, none⟩ = some (.int .i64 r.i) ∧ W.cell? ⟨g, 3, none⟩ = some (.int .i64 r.a) ∧
    W.frozen? ⟨g, 0, none⟩ = false ∧ W.frozen? ⟨g, 1, none⟩ = false ∧ W.frozen? ⟨g, 2, none⟩ = false ∧ W.frozen? ⟨g, 3, none⟩ = false :=
  ⟨cell_of_row W g 0 _ _ _ h, cell_of_row W g 1 _ _ _ h, cell_of_row W g 2 _ _ _ h, cell_of_row W g 3 _ _ _ h, frozen_of_row W g 0 _ _ h, frozen_of_row W g 1 _ _ h, frozen_of_row W g 2 _ _ h, frozen_of_row W g 3 _ _ h⟩
theorem Bx4.set {W : World} {g : Nat} {r : Wr} (h : Bx4 W g r) (x y z t : Int) : Bx4 ((((W.setCell ⟨g, 0, none⟩ (.int .i64 x)).setCell ⟨g, 1, none⟩ (.int .i64 y)).setCell ⟨g, 2, none⟩ (.int .i64 z)).setCell ⟨g, 3, none⟩ (.int .i64 t)) g ⟨x, y, z, t⟩ :=
  heap_setCell_same _ g 3 _ _ _ (heap_setCell_same _ g 2 _ _ _ (heap_setCell_same _ g 1 _ _ _ (heap_setCell_same W g 0 _ _ _ h)))
theorem results_w {fn : Func} {p : Tmp} (h : fn.results = #[.cell p 39]) (tmps : Array Value) (w : World) (g : Nat) {r : Wr} (hp : tmps.getD p undef = .pointer (some ⟨g, 0, none⟩)) (hb : Bx4 w g r) :
    (results fn tmps).run Tryz.prog w = .ok (.agg r.v) w := by
  have hp' : tmps[p]?.getD undef = .pointer (some ⟨g, 0, none⟩) := by simpa using hp
  simp [results, h, hp', asAddr, run_loadVar_row w g _ 39 _ _ _ hb Tryz.underlying39 rfl (by kernel_rfl)]
def CheckP (m : Md) (w : World) (e : Ending) (w' : World) : Prop := e = .returned (.agg (wrongP m).v) ∧ Below w.heap.size w w'
set_option maxRecDepth 100000 in
set_option maxHeartbeats 4000000 in
theorem Check_m (m : Md) (w : World) (hm : ModAt w.heap.size w m) (hf : m.few) (hrg : Rg m) (hT : Nams w) (hU : Utf.Tabs w) (hA : Num.Arit w) : Calls Tryz.prog 14 #[.agg m.v] w (CheckP m w) := by
  obtain ⟨W0, hW0⟩ : ∃ W0, W0 = (w.alloc (.cells m.v 32)).alloc (.cells #[.int .i64 0, .int .i64 0, .int .i64 0, .int .i64 0] 39) := ⟨_, rfl⟩
  have hb0 : Below w.heap.size w W0 := by rw [hW0]; exact thenA (thenA (Below.refl _ _) _) _
  have hbx : BoxAt W0 w.heap.size m.v := by rw [hW0]; exact (BoxAt.made w m.v _).keep (belowAlloc _ _)
  have hr : Bx4 W0 (w.heap.size + 1) ⟨0, 0, 0, 0⟩ := by rw [hW0]; have := heap_alloc_new (w.alloc (.cells m.v 32)) (.cells #[.int .i64 0, .int .i64 0, .int .i64 0, .int .i64 0] 39); rw [World.size_alloc] at this; exact this
  have HX := hid hbx
  have HB := hid hb0
  have HR := hid hr
  have HM := hid (hm.on hb0)
  have HF := hid hf
  have HRG := hid hrg
  have HT := hid (hT.below hb0)
  have HAR := hid (hA.below hb0)
  have C := hid (ModCheck_any m W0 (hT.below hb0) (hU.below hb0) (hm.on hb0) hf)
  have HFI := hid (fun h => fine_of (m := m) h)
  have HE : Hid (wrongP m = if m.check = 0 then (scanS m 0 8).getD ⟨0, 0, 0, 0⟩ else ⟨m.check, 0, 0, 0⟩) := rfl
  obtain ⟨ck, hck⟩ : ∃ c, m.check = c := ⟨_, rfl⟩
  rw [hck] at C HFI HE
  obtain ⟨v0, v1, v2, v3, v4, v5, v6, v7, v8, v9, v10, hv⟩ : ∃ v0 v1 v2 v3 v4 v5 v6 v7 v8 v9 v10, m.v = #[v0, v1, v2, v3, v4, v5, v6, v7, v8, v9, v10] := ⟨_, _, _, _, _, _, _, _, _, _, _, rfl⟩
  have CS := hid (fun w' hm' hT' hA' => sections_m m w' hm' hf hT' hA')
  rw [hv] at hW0 HX C CS ⊢
  obtain ⟨n0, n1, n2, n3, n4, n5, n6, n7, n8, n9, n10⟩ := BoxAt.mod HX.out
  clear hm hf hrg hT hU hA hb0 hbx hr hck hv
  go_enter Tryz.func14, Tryz.ntmps14
  go_upto_region 1 with fail
  rw [← hW0]
  clear hW0
  go_wp2_with fail
  refine C.out.mono ?_
  rintro e1 w1 ⟨rfl, hb1⟩
  have HX1 := hid (HX.out.keep hb1)
  have HB1 := hid (HB.out.trans (hb1.mono HB.out.size))
  have HR1 := hid (HR.out.on hb1)
  have HM1 := hid (HM.out.on hb1)
  have HT1 := hid (HT.out.below hb1)
  have HA1 := hid (HAR.out.below hb1)
  clear C hb1 n0 n1 n2 n3 n4 n5 n6 n7 n8 n9 n10 HX HB HR HM HT HAR
  by_cases hc : ck = 0
  · subst hc
    have HW := hid (show wrongP m = (scanS m 0 8).getD ⟨0, 0, 0, 0⟩ by rw [HE.out, if_pos rfl])
    have HFN := hid (HFI.out rfl)
    obtain ⟨n0, n1, n2, n3, n4, n5, n6, n7, n8, n9, n10⟩ := BoxAt.mod HX1.out
    have C2 := hid (CS.out w1 HM1.out HT1.out HA1.out)
    clear HE HFI CS
    go_wp2_with fail
    refine C2.out.mono ?_
    rintro e2 w2 ⟨gs, gm, gn, bm, rfl, hs2, hx2, hb2⟩
    have HB2 := hid (HB1.out.trans (hb2.mono HB1.out.size))
    have HR2 := hid (HR1.out.on hb2)
    have HS2 := hid hs2
    have HX2 := hid hx2
    clear C2 hs2 hx2 hb2 n0 n1 n2 n3 n4 n5 n6 n7 n8 n9 n10 HX1 HB1 HR1 HM1 HT1 HA1
    go_wp2
    go_loopw [18] (fun vi wr => ∃ j : Nat, vi = .int .i64 j ∧ j ≤ 8 ∧ Hid (scanS m 0 8 = scanS m j (8 - j)) ∧ Hid (SecsAt gs gm gn m wr) ∧ Hid (Sx gm gn bm m wr) ∧ Hid (Bx4 wr (w.heap.size + 1) ⟨0, 0, 0, 0⟩) ∧ Hid (Below w.heap.size w wr)) (fun vi _ => 8 - (intOf vi).toNat)
    case atStart => exact ⟨0, rfl, Nat.zero_le _, rfl, HS2, HX2, HR2, HB2⟩
    case round =>
      clear HB2 HR2 HS2 HX2
      obtain ⟨j, rfl, hj, HQ, HS, HX, HR, HB⟩ := hrel
      by_cases hlt : j < 8
      · have hji : (j : Int) < 8 := by omega
        obtain ⟨s0, s1, s2⟩ := HS.out j hlt
        have HLE := hid (secL_le HF.out j)
        have HL8 := hid hlt
        have eg := sec_enters j hlt
        have HCC := hid (fun k hk W hx => sec_m gm gn bm m j k hlt W hx HF.out HFN.out HRG.out hk)
        obtain ⟨L, hL⟩ : ∃ L, secL m j = L := ⟨_, rfl⟩
        obtain ⟨N, hN⟩ : ∃ N, secN j = N := ⟨_, rfl⟩
        obtain ⟨G, hG⟩ : ∃ G, secF j = G := ⟨_, rfl⟩
        obtain ⟨cb, hcb⟩ : ∃ L, secB gm gn j = L := ⟨_, rfl⟩
        rw [hL] at s1 HLE HCC
        rw [hN] at s0
        rw [hG] at s2 eg HCC
        rw [hcb] at s2 HCC
        have HLL := hid hL
        have HNN := hid hN
        clear hL hN hG hcb hlt
        go_upto_region 7 with fail
        have hA : Below wr.heap.size wr (wr.alloc (.cells #[.int .i64 N, .int .i64 L, .func (.func G) #[] cb] 83)) := (Below.refl _ _).alloc (Nat.le_refl _) _
        have b0 : (wr.alloc (.cells #[.int .i64 N, .int .i64 L, .func (.func G) #[] cb] 83)).cell? ⟨wr.heap.size, 0, none⟩ = some (.int .i64 N) := by simp [go_sem]
        have b1 : (wr.alloc (.cells #[.int .i64 N, .int .i64 L, .func (.func G) #[] cb] 83)).cell? ⟨wr.heap.size, 1, none⟩ = some (.int .i64 L) := by simp [go_sem]
        have b2 : (wr.alloc (.cells #[.int .i64 N, .int .i64 L, .func (.func G) #[] cb] 83)).cell? ⟨wr.heap.size, 2, none⟩ = some (.func (.func G) #[] cb) := by simp [go_sem]
        obtain ⟨u1, hu1⟩ : ∃ u, u = wr.alloc (.cells #[.int .i64 N, .int .i64 L, .func (.func G) #[] cb] 83) := ⟨_, rfl⟩
        rw [← hu1] at hA b0 b1 b2 ⊢
        obtain ⟨gx, hgx⟩ : ∃ gx, gx = wr.heap.size := ⟨_, rfl⟩
        rw [← hgx] at b0 b1 b2 ⊢
        replace HS := hid (HS.out.on hA)
        replace HX := hid (HX.out.on hA)
        replace HR := hid (HR.out.on hA)
        replace HB := hid (HB.out.trans (hA.mono HB.out.size))
        have K0 := hid b0
        have K2 := hid b2
        clear hu1 hgx hA b0 b2 s0 s1 s2
        go_wp2
        clear b1
        go_loopw [24] (fun vi wr' => ∃ k : Nat, vi = .int .i64 k ∧ k ≤ L ∧ Hid (scanI m j 0 L = scanI m j k (L - k)) ∧ Hid (SecsAt gs gm gn m wr') ∧ Hid (Sx gm gn bm m wr') ∧ Hid (Bx4 wr' (w.heap.size + 1) ⟨0, 0, 0, 0⟩) ∧ Hid (Below w.heap.size w wr') ∧ Hid (wr'.cell? ⟨gx, 0, none⟩ = some (.int .i64 N)) ∧ Hid (wr'.cell? ⟨gx, 2, none⟩ = some (.func (.func G) #[] cb))) (fun vi _ => L - (intOf vi).toNat)
        case atStart => exact ⟨0, rfl, Nat.zero_le _, rfl, HS, HX, HR, HB, K0, K2⟩
        case round =>
          clear HS HX HR HB K0 K2
          obtain ⟨k, rfl, hk, HI, HS, HX, HR, HB, K0, K2⟩ := hrel
          by_cases hlk : k < L
          · have hki : (k : Int) < (L : Int) := by omega
            have hLb : L ≤ 1000000 := HLE.out
            have C3 := hid (HCC.out k hlk wr HX.out)
            obtain ⟨q, hq⟩ : ∃ q, secE m j k = q := ⟨_, rfl⟩
            rw [hq] at C3
            have HSQ := hid hq
            obtain ⟨q1, q2⟩ := q
            simp only at C3
            have b0 := K0.out
            have b2 := K2.out
            have HLK := hid hlk
            clear hq hlk
            by_cases hz : q1 = 0
            · subst hz
              go_wp2_with (go_at_fn G; refine C3.out.mono ?_; rintro e3 u3 ⟨rfl, hb3⟩; clear b0 b2)
              have HB3 := hid (HB.out.trans (hb3.mono HB.out.size))
              have HS3 := hid (HS.out.on hb3)
              have HX3 := hid (HX.out.on hb3)
              have HR3 := hid (HR.out.on hb3)
              have K03 := hid (Go.Proofs.YtaklngfibnbmcaaGreatDoor.keep hb3 K0.out)
              have K23 := hid (Go.Proofs.YtaklngfibnbmcaaGreatDoor.keep hb3 K2.out)
              go_roundw
              case rel =>
                refine ⟨k + 1, by go_num, by have := HLK.out; omega, hid ?_, HS3, HX3, HR3, HB3, K03, K23⟩
                rw [HI.out]
                have : L - k = (L - (k + 1)) + 1 := by have := HLK.out; omega
                rw [this, scanI, HSQ.out, if_pos rfl]
              case measure => simp [intOf]; have := HLK.out; omega
            · have hzb : (q1 == 0) = false := by simpa using hz
              have HV := hid (show wrongP m = ⟨q1, N, k, q2⟩ by
                have h1 : scanI m j 0 (secL m j) = some ⟨q1, N, k, q2⟩ := by
                  rw [HLL.out, HI.out]
                  have : L - k = (L - (k + 1)) + 1 := by have := HLK.out; omega
                  rw [this, scanI, HSQ.out, if_neg hz, HNN.out]
                have h2 : 8 - j = (8 - (j + 1)) + 1 := by have := HL8.out; omega
                rw [HW.out, HQ.out, h2, scanS_hit h1]; rfl)
              go_wp2_with (go_at_fn G; refine C3.out.mono ?_; rintro e3 u3 ⟨rfl, hb3⟩; have b03 := Go.Proofs.YtaklngfibnbmcaaGreatDoor.keep hb3 K0.out; obtain ⟨c0, c1, c2, c3, f0, f1, f2, f3⟩ := (HR.out.on hb3).c)
              have HB3 := hid (HB.out.trans (hb3.mono HB.out.size))
              have HR3 := hid (HR.out.on hb3)
              exact bodyPost_ret (results_w Tryz.results14 _ _ (w.heap.size + 1) rfl (HR3.out.set q1 N k q2)) rfl ⟨by rw [HV.out], (((HB3.out.setCell (by simp) _).setCell (by simp) _).setCell (by simp) _).setCell (by simp) _⟩
          · obtain rfl : L = k := by omega
            have hn : scanI m j 0 (secL m j) = none := by
              rw [HLL.out, HI.out, Nat.sub_self]; rfl
            have h2 : 8 - j = (8 - (j + 1)) + 1 := by have := HL8.out; omega
            have HQ2 := hid (show scanS m 0 8 = scanS m (j + 1) (8 - (j + 1)) by rw [HQ.out, h2, scanS_miss hn])
            clear hn h2
            go_wp2
            go_roundw
            case rel => exact ⟨j + 1, by go_num, by have := HL8.out; omega, HQ2, HS, HX, HR, HB⟩
            case measure => simp [intOf]; have := HL8.out; omega
      · obtain rfl : j = 8 := by omega
        have HV := hid (show wrongP m = ⟨0, 0, 0, 0⟩ by rw [HW.out, HQ.out]; rfl)
        obtain ⟨c0, c1, c2, c3, f0, f1, f2, f3⟩ := HR.out.c
        go_wp2
        exact bodyPost_ret (results_w Tryz.results14 _ _ (w.heap.size + 1) rfl (HR.out.set 0 0 0 0)) rfl ⟨by rw [HV.out], (((HB.out.setCell (by simp) _).setCell (by simp) _).setCell (by simp) _).setCell (by simp) _⟩
  · have HV := hid (show wrongP m = ⟨ck, 0, 0, 0⟩ by rw [HE.out, if_neg hc])
    have hcb : (ck == 0) = false := by simpa using hc
    obtain ⟨c0, c1, c2, c3, f0, f1, f2, f3⟩ := HR1.out.c
    clear HE HFI CS
    go_wp2
    exact bodyPost_ret (results_w Tryz.results14 _ _ (w.heap.size + 1) rfl (HR1.out.set ck 0 0 0)) rfl ⟨by rw [HV.out], (((HB1.out.setCell (by simp) _).setCell (by simp) _).setCell (by simp) _).setCell (by simp) _⟩
def BodyQ (m : Md) (n : Int) (w : World) (e : Ending) (w' : World) : Prop := e = .returned (.tuple #[.int .i64 (Md.body m n).1, .int .i64 (Md.body m n).2]) ∧ Below w.heap.size w w'
set_option maxRecDepth 100000 in
set_option maxHeartbeats 2000000 in
theorem Body_m (m : Md) (n : Int) (w : World) (hm : ModAt w.heap.size w m) (hf : m.few) (hT : Nams w) (hU : Utf.Tabs w) (hA : Num.Arit w) : Calls Tryz.prog 12 #[.agg m.v, .int .i64 n] w (BodyQ m n w) := by
  obtain ⟨W0, hW0⟩ : ∃ W0, W0 = w.alloc (.cells m.v 32) := ⟨_, rfl⟩
  have hb0 : Below w.heap.size w W0 := by rw [hW0]; exact thenA (Below.refl _ _) _
  have hbx : BoxAt W0 w.heap.size m.v := by rw [hW0]; exact BoxAt.made w m.v _
  have HX := hid hbx
  have HB := hid hb0
  have HM := hid (hm.on hb0)
  have HF := hid hf
  have HAR := hid (hA.below hb0)
  have C := hid (ModCheck_any m W0 (hT.below hb0) (hU.below hb0) (hm.on hb0) hf)
  have HFI := hid (fun h => fine_of (m := m) h)
  have HE : Hid (Md.body m n = if m.check ≠ 0 then (m.check, 0) else if n < 0 ∨ (m.fu.length : Int) ≤ n then (6, 0) else Md.bodyP m n.toNat) := rfl
  have CB := hid (fun k w' hm' hA' hfi hk => bodyError_m m k w' hm' hA' hf hfi hk)
  obtain ⟨ck, hck⟩ : ∃ c, m.check = c := ⟨_, rfl⟩
  rw [hck] at C HFI HE
  obtain ⟨v0, v1, v3, v4, v5, v6, v7, v8, v9, v10, hv⟩ : ∃ v0 v1 v3 v4 v5 v6 v7 v8 v9 v10, m.v = #[v0, v1, .slice m.fu'.a m.fu.length m.fu'.c, v3, v4, v5, v6, v7, v8, v9, v10] := ⟨_, _, _, _, _, _, _, _, _, _, rfl⟩
  have bfu := hf.fit.fu
  rw [hv] at hW0 HX C CB ⊢
  obtain ⟨n0, n1, n2, n3, n4, n5, n6, n7, n8, n9, n10⟩ := BoxAt.mod HX.out
  clear hm hf hT hU hA hb0 hbx hck hv
  go_enter Tryz.func12, Tryz.ntmps12
  go_upto_region 1 with fail
  rw [← hW0]
  clear hW0
  go_wp2_with fail
  refine C.out.mono ?_
  rintro e1 w1 ⟨rfl, hb1⟩
  have HX1 := hid (HX.out.keep hb1)
  have HB1 := hid (HB.out.trans (hb1.mono HB.out.size))
  have HM1 := hid (HM.out.on hb1)
  have HA1 := hid (HAR.out.below hb1)
  clear C hb1 n0 n1 n2 n3 n4 n5 n6 n7 n8 n9 n10 HX HB HM HAR
  by_cases hc : ck = 0
  · subst hc
    have HFN := hid (HFI.out rfl)
    obtain ⟨n0, n1, n2, n3, n4, n5, n6, n7, n8, n9, n10⟩ := BoxAt.mod HX1.out
    by_cases h1 : n < 0
    · have HV := hid (show Md.body m n = (6, 0) by rw [HE.out, if_neg (by simp), if_pos (.inl h1)])
      clear HE HFI CB
      go_wp2
      go_ret2
      exact ⟨by rw [HV.out]; rfl, HB1.out⟩
    by_cases h2 : (m.fu.length : Int) ≤ n
    · have HV := hid (show Md.body m n = (6, 0) by rw [HE.out, if_neg (by simp), if_pos (.inr h2)])
      clear HE HFI CB
      go_wp2
      go_ret2
      exact ⟨by rw [HV.out]; rfl, HB1.out⟩
    · obtain ⟨k, rfl⟩ : ∃ k : Nat, n = k := ⟨n.toNat, by omega⟩
      have HV := hid (show Md.body m k = Md.bodyP m k by rw [HE.out, if_neg (by simp), if_neg (by omega)]; simp)
      have C2 := hid (CB.out k w1 HM1.out HA1.out HFN.out (by omega))
      unfold BodyP at C2
      obtain ⟨q, hq⟩ : ∃ q, Md.bodyP m k = q := ⟨_, rfl⟩
      rw [hq] at C2 HV
      clear HE HFI CB hq
      go_wp2_with fail
      refine C2.out.mono ?_
      rintro e2 w2 ⟨rfl, hb2⟩
      have HB2 := hid (HB1.out.trans (hb2.mono HB1.out.size))
      clear C2 hb2 n0 n1 n2 n3 n4 n5 n6 n7 n8 n9 n10
      go_wp2
      go_ret2
      exact ⟨by rw [HV.out]; rfl, HB2.out⟩
  · have HV := hid (show Md.body m n = (ck, 0) by rw [HE.out, if_pos hc])
    have hcb : (ck == 0) = false := by simpa using hc
    clear HE HFI CB
    go_wp2
    go_ret2
    exact ⟨by rw [HV.out]; rfl, HB1.out⟩
end Go.Proofs.YtaklngfibnbmcaaGreatDoor.Val

namespace Go.Proofs.YtaklngfibnbmcaaGreatDoor.Val
open Go.RowKit Go.Shelf Go.Proofs.YtaklngfibnbmcaaGreatDoor.Instr Go.Proofs.YtaklngfibnbmcaaGreatDoor.Mod
set_option linter.unusedVariables false

theorem eqWrong (a b c d x y z t : Int) (w : World) : (Op.equalIn 10000 39 (.agg #[.int .i64 a, .int .i64 b, .int .i64 c, .int .i64 d]) (.agg #[.int .i64 x, .int .i64 y, .int .i64 z, .int .i64 t])).run Tryz.prog w = .ok (a == x && b == y && c == z && d == t) w := by
  have u3 := Tryz.underlying3
  have a3 := Tryz.isAgg3
  have z3 := Tryz.sizeOf3
  have u4 := Tryz.underlying35
  have a4 := Tryz.isAgg35
  have z4 := Tryz.sizeOf35
  have hS : Tryz.prog.underlying 39 = some (.struct (Tryz.prog.fieldsOf 39)) := by kernel_rfl
  have hp : Tryz.prog.stoodInHeld 39 = false := by kernel_rfl
  rw [show (10000 : Nat) = 9999 + 1 from rfl, run_equalIn_agg w 9999 39 _ _ hS hp]
  simp only [Program.fieldsOf, Tryz.underlying39]
  go_simp
  by_cases h1 : a = x <;> by_cases h2 : b = y <;> by_cases h3 : c = z <;> by_cases h4 : d = t <;> simp [h1, h2, h3, h4]
theorem guardWrong (op : BinOp) (x y : Operand) (xs ys : Array Value) (w : World) : (eqGuard op 39 x y (.agg xs) (.agg ys)).run Tryz.prog w = .ok () w :=
  run_eqGuard_agg w op _ x y xs ys (by kernel_rfl)
/-- Rows in a block of their own. -/
theorem rows_box {W : World} {b sz : Nat} {rs : List (List Value)} (hb : b < W.heap.size) (hl : ∀ r ∈ rs, r.length = sz) (h : BoxAt W b (rs.flatten.toArray)) : Mod.Rows W.heap.size W (some ⟨b, 0, none⟩) sz rs :=
  .inr ⟨b, 0, rfl, hb, fun i hi j hj v hv => by
    have hf := Stk.flat_get rs hl i j hi hj
    rw [hv] at hf
    have := h (i * sz + j) v (by simpa using hf)
    simpa using this⟩
/-- Instructions, one behind the other, each with its lists. -/
def mkIl : List (Ix × Il × Il) → Il
  | [] => .nil
  | x :: r => .cons x.1 x.2.1 x.2.2 (mkIl r)
theorem mkIl_len : ∀ l : List (Ix × Il × Il), (mkIl l).len = l.length
  | [] => rfl
  | x :: r => by simp [mkIl, Il.len, mkIl_len r]
/-- What is asked of an instruction in a literal. -/
structure LitOk (n₀ : Nat) (W : World) (x : Ix × Il × Il) : Prop where
  ok : x.1.ok
  tags : TagsAt n₀ W x.1.ta x.1.tags
  l : x.2.1.len = x.1.ln ∧ (x.2.1 = .nil ∨ ∃ b' o', x.1.la = some ⟨b', o', none⟩ ∧ Items n₀ W b' o' x.2.1)
  e : x.2.2.len = x.1.en ∧ (x.2.2 = .nil ∨ ∃ b' o', x.1.ea = some ⟨b', o', none⟩ ∧ Items n₀ W b' o' x.2.2)
theorem items_of {n₀ : Nat} {W : World} {g : Nat} (hg : g < n₀) : ∀ (l : List (Ix × Il × Il)) (off : Nat), (∀ i (hi : i < l.length), ∀ j v, (l[i].1.vals)[j]? = some v → W.cell? ⟨g, off + i * 8 + j, none⟩ = some v) → (∀ x ∈ l, LitOk n₀ W x) → Items n₀ W g off (mkIl l)
  | [], _, _, _ => trivial
  | x :: r, off, h, hx => by
    have c : ∀ j v, (x.1.vals)[j]? = some v → W.cell? ⟨g, off + j, none⟩ = some v := fun j v hv => by have := h 0 (by simp) j v hv; simpa using this
    have hx0 := hx x (by simp)
    refine ⟨hg, hx0.ok, ⟨c 0 _ rfl, c 1 _ rfl, c 2 _ rfl, c 3 _ rfl, c 4 _ rfl, c 5 _ rfl, c 6 _ rfl, c 7 _ rfl⟩, hx0.tags, hx0.l, hx0.e, items_of hg r (off + 8) (fun i hi j v hv => ?_) (fun y hy => hx y (by simp [hy]))⟩
    have := h (i + 1) (by simp; omega) j v hv
    rw [show off + (i + 1) * 8 + j = off + 8 + i * 8 + j by omega] at this
    exact this
theorem list_box {W : World} {g : Nat} {l : List (Ix × Il × Il)} (hg : g < W.heap.size) (h : BoxAt W g ((l.map fun x => x.1.vals.toList).flatten.toArray)) (hx : ∀ x ∈ l, LitOk W.heap.size W x) : ListAt W.heap.size W (some ⟨g, 0, none⟩) l.length (mkIl l) := by
  refine ⟨mkIl_len l, .inr ⟨g, 0, rfl, items_of hg l 0 (fun i hi j v hv => ?_) hx⟩⟩
  have hlen : ∀ r ∈ l.map (fun x => x.1.vals.toList), r.length = 8 := by
    intro r hr
    obtain ⟨x, _, rfl⟩ := List.mem_map.1 hr
    rfl
  have hj : j < 8 := by
    rcases Nat.lt_or_ge j 8 with h | h
    · exact h
    · rw [Array.getElem?_eq_none (by show 8 ≤ j; exact h)] at hv; cases hv
  have hf := Stk.flat_get (l.map fun x => x.1.vals.toList) hlen i j (by simpa using hi) hj
  have hgd : (l.map fun x => x.1.vals.toList).getD i [] = l[i].1.vals.toList := by simp [hi]
  rw [hgd] at hf
  have := h (i * 8 + j) v (by rw [List.getElem?_toArray, hf]; simpa using hv)
  simpa using this
/-- A function of one word to one, with these instructions. -/
def ofM (g : Nat) (l : Lst) : Md where
  ty := [(1, 1)]
  im := []
  fu := [⟨0, 0, l⟩]
  tb := []
  me := []
  gl := []
  ex := []
  st := false
  sn := 0
  el := []
  da := []
  ty' := ⟨some ⟨g, 0, none⟩, 1⟩
  im' := ⟨none, 0⟩
  fu' := ⟨some ⟨g + 1, 0, none⟩, 1⟩
  tb' := ⟨none, 0⟩
  me' := ⟨none, 0⟩
  gl' := ⟨none, 0⟩
  ex' := ⟨none, 0⟩
  el' := ⟨none, 0⟩
  da' := ⟨none, 0⟩
theorem of_few (g : Nat) (l : Lst) (hn : l.t.len ≤ 140737488351232) (hc : l.t.count ≤ 1000000) : (ofM g l).few := by
  have hcs : ∀ x ∈ (ofM g l).codes, x = l := by simp [ofM, Md.codes]
  refine ⟨⟨by simp [ofM], by simp [ofM], by simp [ofM], by simp [ofM], by simp [ofM], by simp [ofM], by simp [ofM], by simp [ofM], by simp [ofM], fun x hx => by rw [hcs x hx]; exact hn, by simp [ofM], by simp [ofM], by simp [ofM], by simp [ofM]⟩, fun x hx => by rw [hcs x hx]; exact hc, by simp [ofM]⟩
theorem of_at {g : Nat} {l : Lst} {W : World} (h0 : BoxAt W g #[.int .i64 1, .int .i64 1]) (h1 : BoxAt W (g + 1) #[.int .i64 0, .int .i64 0, l.val]) (hL : ListAt W.heap.size W l.a l.t.len l.t) : ModAt W.heap.size W (ofM g l) := by
  have hcs : ∀ x ∈ (ofM g l).codes, x = l := by simp [ofM, Md.codes]
  have l0 := World.block_lt_of_cell? W _ (h0 0 _ rfl)
  have l1 := World.block_lt_of_cell? W _ (h1 0 _ rfl)
  exact ⟨rows_box l0 (by simp [ofM, tyV]) h0, .inl rfl, rows_box l1 (by simp [ofM, Mod.Fn.v]) h1, .inl rfl, .inl rfl, .inl rfl, .inl rfl, .inl rfl, .inl rfl, fun x hx => by rw [hcs x hx]; exact hL, by simp [ofM], by simp [ofM]⟩
theorem chain3 (w : World) (A0 A1 A2 : Array Value) (t0 t1 t2 : TypeId) : ∃ W, (((w.alloc (.cells A0 t0)).alloc (.cells A1 t1)).alloc (.cells A2 t2)) = W ∧ (BoxAt W (w.heap.size) A0 ∧ BoxAt W (w.heap.size + 1) A1 ∧ BoxAt W (w.heap.size + 1 + 1) A2) ∧ Below w.heap.size w W := by
  refine ⟨_, rfl, ⟨?_, ?_, ?_⟩, thenA (thenA (thenA (Below.refl _ _) _) _) _⟩ <;> (intro j x h; simp [go_sem, h])
theorem chain8 (w : World) (A0 A1 A2 A3 A4 A5 A6 A7 : Array Value) (t0 t1 t2 t3 t4 t5 t6 t7 : TypeId) : ∃ W, ((((((((w.alloc (.cells A0 t0)).alloc (.cells A1 t1)).alloc (.cells A2 t2)).alloc (.cells A3 t3)).alloc (.cells A4 t4)).alloc (.cells A5 t5)).alloc (.cells A6 t6)).alloc (.cells A7 t7)) = W ∧ (BoxAt W (w.heap.size) A0 ∧ BoxAt W (w.heap.size + 1) A1 ∧ BoxAt W (w.heap.size + 1 + 1) A2 ∧ BoxAt W (w.heap.size + 1 + 1 + 1) A3 ∧ BoxAt W (w.heap.size + 1 + 1 + 1 + 1) A4 ∧ BoxAt W (w.heap.size + 1 + 1 + 1 + 1 + 1) A5 ∧ BoxAt W (w.heap.size + 1 + 1 + 1 + 1 + 1 + 1) A6 ∧ BoxAt W (w.heap.size + 1 + 1 + 1 + 1 + 1 + 1 + 1) A7) ∧ Below w.heap.size w W := by
  refine ⟨_, rfl, ⟨?_, ?_, ?_, ?_, ?_, ?_, ?_, ?_⟩, thenA (thenA (thenA (thenA (thenA (thenA (thenA (thenA (Below.refl _ _) _) _) _) _) _) _) _) _⟩ <;> (intro j x h; simp [go_sem, h])
def OfP (g : Nat) (l : Lst) (w : World) (e : Ending) (w' : World) : Prop := e = .returned (.tuple #[.int .i64 (Md.body (ofM g l) 0).1, .int .i64 (Md.body (ofM g l) 0).2]) ∧ Below w.heap.size w w'
set_option maxRecDepth 100000 in
set_option maxHeartbeats 2000000 in
theorem of_m (l : Lst) (w : World) (hL : ListAt w.heap.size w l.a l.t.len l.t) (hn : l.t.len ≤ 140737488351232) (hc : l.t.count ≤ 1000000) (hT : Nams w) (hU : Utf.Tabs w) (hA : Num.Arit w) :
    Calls Tryz.prog 25 #[.slice l.a l.t.len l.c] w (OfP w.heap.size l w) := by
  have HFW := hid (of_few w.heap.size l hn hc)
  have HL := hid hL
  have HT := hid hT
  have HU := hid hU
  have HA := hid hA
  clear hL hn hc hT hU hA
  go_enter Tryz.func25, Tryz.ntmps25
  go_upto_region 2 with fail
  obtain ⟨W1, hW1, ⟨b0, b1, b2⟩, hB⟩ := chain3 w #[.int .i64 1, .int .i64 1] #[.int .i64 0, .int .i64 0, .slice l.a l.t.len l.c] #[.slice (some ⟨w.heap.size, 0, none⟩) 1 1, .slice none 0 0, .slice (some ⟨w.heap.size + 1, 0, none⟩) 1 1, .slice none 0 0, .slice none 0 0, .slice none 0 0, .slice none 0 0, .bool false, .int .u32 0, .slice none 0 0, .slice none 0 0] 47 51 32
  rw [hW1]
  have hm : ModAt W1.heap.size W1 (ofM w.heap.size l) := of_at b0 b1 (HL.out.on hB)
  have CB := hid (Body_m (ofM w.heap.size l) 0 W1 hm HFW.out (HT.out.below hB) (HU.out.below hB) (HA.out.below hB))
  rw [show (ofM w.heap.size l).v = #[.slice (some ⟨w.heap.size, 0, none⟩) 1 1, .slice none 0 0, .slice (some ⟨w.heap.size + 1, 0, none⟩) 1 1, .slice none 0 0, .slice none 0 0, .slice none 0 0, .slice none 0 0, .bool false, .int .u32 0, .slice none 0 0, .slice none 0 0] from rfl] at CB
  unfold BodyQ at CB
  obtain ⟨q, hq⟩ : ∃ q, Md.body (ofM w.heap.size l) 0 = q := ⟨_, rfl⟩
  rw [hq] at CB
  have HQ := hid hq
  obtain ⟨n0, n1, n2, n3, n4, n5, n6, n7, n8, n9, n10⟩ := BoxAt.mod b2
  have HB := hid hB
  clear hm hq b0 b1 b2 hB hW1
  go_wp2_with fail
  refine CB.out.mono ?_
  rintro e2 w2 ⟨rfl, hb2⟩
  have HB2 := hid (HB.out.trans (hb2.mono HB.out.size))
  clear CB hb2 n0 n1 n2 n3 n4 n5 n6 n7 n8 n9 n10
  go_wp2
  go_ret2
  exact ⟨by rw [HQ.out]; rfl, HB2.out⟩
def getI (n : Int) : Ix := ⟨32, 0, n, 0, 0, [], none, 0, none, 0, 0, none, 0, 0⟩
theorem get_m (n : Int) (w : World) : Calls Tryz.prog 26 #[.int .u32 n] w fun e w' => e = .returned (.agg (getI n).vals) ∧ Below w.heap.size w w' := by
  go_enter Tryz.func26, Tryz.ntmps26
  go_wp2
  refine bodyPost_ret (v := .agg (getI n).vals) (by simp [results, Tryz.results26, go_sem, getI, Ix.vals]) rfl ⟨rfl, thenA (Below.refl _ _) _⟩
def constI : Ix := ⟨65, 0, 0, 0, 0, [], none, 0, none, 0, 0, none, 0, 0⟩
def richL (g : Nat) : Lst := ⟨some ⟨g + 1, 0, none⟩, 1, mkIl [(constI, .nil, .nil)]⟩
def sHost : ByteArray := ⟨#[104, 111, 115, 116]⟩
def sF : ByteArray := ⟨#[102]⟩
/-- The module with something of each kind; its box is block g. -/
def richM (g : Nat) : Md where
  ty := [(1, 1), (0, 0)]
  im := [⟨sHost, sF, 0⟩]
  fu := [⟨1, 0, ⟨none, 0, .nil⟩⟩]
  tb := [⟨1, 0, false⟩]
  me := [⟨1, 0, false⟩]
  gl := [⟨true, richL g⟩, ⟨false, richL g⟩]
  ex := []
  st := false
  sn := 0
  el := []
  da := []
  ty' := ⟨some ⟨g + 1 + 1, 0, none⟩, 2⟩
  im' := ⟨some ⟨g + 1 + 1 + 1, 0, none⟩, 1⟩
  fu' := ⟨some ⟨g + 1 + 1 + 1 + 1, 0, none⟩, 1⟩
  tb' := ⟨some ⟨g + 1 + 1 + 1 + 1 + 1, 0, none⟩, 1⟩
  me' := ⟨some ⟨g + 1 + 1 + 1 + 1 + 1 + 1, 0, none⟩, 1⟩
  gl' := ⟨some ⟨g + 1 + 1 + 1 + 1 + 1 + 1 + 1, 0, none⟩, 2⟩
  ex' := ⟨none, 0⟩
  el' := ⟨none, 0⟩
  da' := ⟨none, 0⟩
theorem rich_codes (g : Nat) : ∀ l ∈ (richM g).codes, l = ⟨none, 0, .nil⟩ ∨ l = richL g := by
  intro l hl
  simp [richM, Md.codes] at hl
  exact hl
theorem rich_few (g : Nat) : (richM g).few := by
  refine ⟨⟨by simp [richM], by simp [richM], by simp [richM], by simp [richM], by simp [richM], by simp [richM], by simp [richM], by simp [richM], by simp [richM], fun l hl => ?_, by simp [richM], by simp [richM], fun i hi => ?_, by simp [richM]⟩, fun l hl => ?_, by simp [richM]⟩
  · rcases rich_codes g l hl with rfl | rfl <;> simp [richL, mkIl, Il.len]
  · simp only [richM, List.mem_singleton] at hi; subst hi; decide
  · rcases rich_codes g l hl with rfl | rfl <;> simp [richL, mkIl, Il.count]
theorem rich_rg (g : Nat) : Rg (richM g) := ⟨by simp [richM], by simp [richM], by simp [richM]⟩
theorem constI_ok : constI.ok := by constructor <;> simp [constI]
theorem rich_wrong (g : Nat) : wrongP (richM g) = ⟨0, 0, 0, 0⟩ := by kernel_rfl
theorem rich_at {g : Nat} {W : World} (b1 : BoxAt W (g + 1) constI.vals) (b2 : BoxAt W (g + 1 + 1) #[.int .i64 1, .int .i64 1, .int .i64 0, .int .i64 0]) (b3 : BoxAt W (g + 1 + 1 + 1) #[.string sHost, .string sF, .int .i64 0]) (b4 : BoxAt W (g + 1 + 1 + 1 + 1) #[.int .i64 1, .int .i64 0, .slice none 0 0])
    (b5 : BoxAt W (g + 1 + 1 + 1 + 1 + 1) #[.int .u32 1, .int .u32 0, .bool false]) (b6 : BoxAt W (g + 1 + 1 + 1 + 1 + 1 + 1) #[.int .u32 1, .int .u32 0, .bool false]) (b7 : BoxAt W (g + 1 + 1 + 1 + 1 + 1 + 1 + 1) #[.bool true, .slice (some ⟨g + 1, 0, none⟩) 1 1, .bool false, .slice (some ⟨g + 1, 0, none⟩) 1 1]) :
    ModAt W.heap.size W (richM g) := by
  have l : ∀ {b v}, BoxAt W b v → v[0]?.isSome → b < W.heap.size := fun {b v} h h0 => by
    obtain ⟨x, hx⟩ := Option.isSome_iff_exists.1 h0
    exact World.block_lt_of_cell? W ⟨b, 0, none⟩ (h 0 x hx)
  refine ⟨rows_box (l b2 rfl) (by simp [richM, tyV]) b2, rows_box (l b3 rfl) (by simp [richM, Imp.v]) b3, rows_box (l b4 rfl) (by simp [richM, Mod.Fn.v]) b4, rows_box (l b5 rfl) (by simp [richM, Li.v]) b5, rows_box (l b6 rfl) (by simp [richM, Li.v]) b6, rows_box (l b7 rfl) (by simp [richM, Gl.v]) b7, .inl rfl, .inl rfl, .inl rfl, fun x hx => ?_, by simp [richM], by simp [richM]⟩
  rcases rich_codes g x hx with rfl | rfl
  · exact ⟨rfl, .inl rfl⟩
  · exact list_box (l := [(constI, .nil, .nil)]) (l b1 rfl) b1 (fun x hx => by
      obtain rfl := List.mem_singleton.1 hx
      exact ⟨constI_ok, .inl rfl, ⟨rfl, .inl rfl⟩, ⟨rfl, .inl rfl⟩⟩)
def RichP (g : Nat) (w : World) (e : Ending) (w' : World) : Prop := e = .returned (.agg (richM g).v) ∧ ModAt w'.heap.size w' (richM g) ∧ Below w.heap.size w w'
set_option maxRecDepth 100000 in
set_option maxHeartbeats 2000000 in
theorem rich_m (w : World) : Calls Tryz.prog 19 #[] w (RichP w.heap.size w) := by
  go_enter Tryz.func19, Tryz.ntmps19
  go_wp2
  obtain ⟨W, hW, ⟨b0, b1, b2, b3, b4, b5, b6, b7⟩, hB⟩ := chain8 w #[.slice (some ⟨w.heap.size + 1 + 1, 0, none⟩) 2 2, .slice (some ⟨w.heap.size + 1 + 1 + 1, 0, none⟩) 1 1, .slice (some ⟨w.heap.size + 1 + 1 + 1 + 1, 0, none⟩) 1 1, .slice (some ⟨w.heap.size + 1 + 1 + 1 + 1 + 1, 0, none⟩) 1 1, .slice (some ⟨w.heap.size + 1 + 1 + 1 + 1 + 1 + 1, 0, none⟩) 1 1, .slice (some ⟨w.heap.size + 1 + 1 + 1 + 1 + 1 + 1 + 1, 0, none⟩) 2 2, .slice none 0 0, .bool false, .int .u32 0, .slice none 0 0, .slice none 0 0] #[.int .i64 65, .int .i64 0, .int .u32 0, .int .u32 0, .int .i32 0, .slice none 0 0, .slice none 0 0, .slice none 0 0] #[.int .i64 1, .int .i64 1, .int .i64 0, .int .i64 0] #[.string ⟨#[104, 111, 115, 116]⟩, .string ⟨#[102]⟩, .int .i64 0] #[.int .i64 1, .int .i64 0, .slice none 0 0] #[.int .u32 1, .int .u32 0, .bool false] #[.int .u32 1, .int .u32 0, .bool false] #[.bool true, .slice (some ⟨w.heap.size + 1, 0, none⟩) 1 1, .bool false, .slice (some ⟨w.heap.size + 1, 0, none⟩) 1 1] 32 61 47 75 51 86 86 68
  rw [hW]
  have hat : ModAt W.heap.size W (richM w.heap.size) := rich_at b1 b2 b3 b4 b5 b6 b7
  have HAT := hid hat
  have HB := hid hB
  obtain ⟨n0, n1, n2, n3, n4, n5, n6, n7, n8, n9, n10⟩ := BoxAt.mod b0
  clear hat hB b0 b1 b2 b3 b4 b5 b6 b7 hW
  refine bodyPost_ret (v := .agg (richM w.heap.size).v) (by simp [results, Tryz.results19, go_sem, richM, Md.v, n0, n1, n2, n3, n4, n5, n6, n7, n8, n9, n10]) rfl ⟨rfl, HAT.out, HB.out⟩
end Go.Proofs.YtaklngfibnbmcaaGreatDoor.Val

namespace Go.Proofs.YtaklngfibnbmcaaGreatDoor.Val
open Go.RowKit Go.Shelf Go.Proofs.YtaklngfibnbmcaaGreatDoor.Instr Go.Proofs.YtaklngfibnbmcaaGreatDoor.Mod
set_option linter.unusedVariables false

/-- The tables. -/
structure Tb (w : World) : Prop where
  nt : Nams w
  ut : Utf.Tabs w
  ar : Num.Arit w
theorem Tb.on {w w' : World} (h : Tb w) (hb : Below w.heap.size w w') : Tb w' := ⟨h.nt.below hb, h.ut.below hb, h.ar.below hb⟩
theorem of_list (xs : List (Ix × Il × Il)) (b n c : Nat) (w : World) (r : Int × Int) (hT : Tb w) (h : BoxAt w b ((xs.map fun x => x.1.vals.toList).flatten.toArray)) (hb : b < w.heap.size) (hx : ∀ x ∈ xs, LitOk w.heap.size w x) (hc : (mkIl xs).count ≤ 1000000) (hn : xs.length = n) (hn2 : n ≤ 1000) (hr : ∀ g, Md.body (ofM g ⟨some ⟨b, 0, none⟩, c, mkIl xs⟩) 0 = r) :
    Calls Tryz.prog 25 #[.slice (some ⟨b, 0, none⟩) n c] w fun e w' => e = .returned (.tuple #[.int .i64 r.1, .int .i64 r.2]) ∧ Below w.heap.size w w' := by
  have hl : (mkIl xs).len = n := (mkIl_len xs).trans hn
  have hL := list_box hb h hx
  have := of_m ⟨some ⟨b, 0, none⟩, c, mkIl xs⟩ w (by show ListAt _ _ _ (mkIl xs).len _; rw [hl, ← hn]; exact hL) (by show (mkIl xs).len ≤ _; omega) hc hT.nt hT.ut hT.ar
  simp only [hl] at this
  refine this.mono fun e w' h => ?_
  unfold OfP at h
  rw [hr] at h
  exact h
theorem of_none (w : World) (hT : Tb w) : Calls Tryz.prog 25 #[.slice none 0 0] w fun e w' => e = .returned (.tuple #[.int .i64 200, .int .i64 0]) ∧ Below w.heap.size w w' := by
  refine (of_m ⟨none, 0, .nil⟩ w ⟨rfl, .inl rfl⟩ (by decide) (by decide) hT.nt hT.ut hT.ar).mono fun e w' h => ?_
  unfold OfP at h
  rw [show ∀ g, Md.body (ofM g ⟨none, 0, .nil⟩) 0 = (200, 0) from fun g => by kernel_rfl] at h
  exact h
theorem check_rich (g : Nat) (w : World) (hm : ModAt w.heap.size w (richM g)) (hT : Tb w) : Calls Tryz.prog 14 #[.agg (richM g).v] w fun e w' => e = .returned (.agg #[.int .i64 0, .int .i64 0, .int .i64 0, .int .i64 0]) ∧ Below w.heap.size w w' := by
  refine (Check_m (richM g) w hm (rich_few g) (rich_rg g) hT.nt hT.ut hT.ar).mono fun e w' h => ?_
  unfold CheckP at h
  rw [rich_wrong] at h
  exact h
theorem get_ok (n₀ : Nat) (W : World) (n : Int) (hn : 0 ≤ n ∧ n < 4294967296) : LitOk n₀ W (getI n, .nil, .nil) := ⟨by constructor <;> simp [getI] <;> omega, .inl rfl, ⟨rfl, .inl rfl⟩, ⟨rfl, .inl rfl⟩⟩
theorem get0_body (b c g : Nat) : Md.body (ofM g ⟨some ⟨b, 0, none⟩, c, mkIl [(getI 0, .nil, .nil)]⟩) 0 = (0, 0) := by kernel_rfl
theorem get1_body (b c g : Nat) : Md.body (ofM g ⟨some ⟨b, 0, none⟩, c, mkIl [(getI 1, .nil, .nil)]⟩) 0 = (6, 1) := by kernel_rfl
set_option maxRecDepth 100000 in
set_option maxHeartbeats 2000000 in
theorem awake_m (w : World) (hT : Tb w) : Calls Tryz.prog 17 #[] w fun e w' => e = .returned (.bool true) ∧ Below w.heap.size w w' := by
  have HT := hid hT
  have q1 := eqWrong
  have q2 := guardWrong
  clear hT
  go_enter Tryz.func17, Tryz.ntmps17
  go_wp2_with fail
  refine (get_m 0 _).mono ?_
  rintro e w1 ⟨rfl, hb1⟩
  have HB1 := hid hb1
  clear hb1
  have C1 := hid (of_list [(getI 0, .nil, .nil)] w1.heap.size 1 1 (w1.alloc (.cells (getI 0).vals 61)) (0, 0) ((HT.out.on HB1.out).on (belowAlloc _ _)) (BoxAt.made w1 (getI 0).vals _) (by simp) (fun x hx => by obtain rfl := List.mem_singleton.1 hx; exact get_ok _ _ 0 (by omega)) (by decide) rfl (by omega) (fun g => get0_body _ _ g))
  unfold getI Ix.vals at C1
  go_wp2_with fail
  refine C1.out.mono ?_
  rintro e w2 ⟨rfl, hb2⟩
  have HB2 := hid (thenB HB1.out (thenB (belowAlloc w1 _) hb2))
  clear C1 hb2 HB1
  go_wp2_with fail
  refine (get_m 1 _).mono ?_
  rintro e w3 ⟨rfl, hb3⟩
  have HB3 := hid (thenB HB2.out hb3)
  clear hb3 HB2
  have C2 := hid (of_list [(getI 1, .nil, .nil)] w3.heap.size 1 1 (w3.alloc (.cells (getI 1).vals 61)) (6, 1) ((HT.out.on HB3.out).on (belowAlloc _ _)) (BoxAt.made w3 (getI 1).vals _) (by simp) (fun x hx => by obtain rfl := List.mem_singleton.1 hx; exact get_ok _ _ 1 (by omega)) (by decide) rfl (by omega) (fun g => get1_body _ _ g))
  unfold getI Ix.vals at C2
  go_wp2_with fail
  refine C2.out.mono ?_
  rintro e w4 ⟨rfl, hb4⟩
  have HB4 := hid (thenB HB3.out (thenB (belowAlloc w3 _) hb4))
  clear C2 hb4 HB3
  have C3 := hid (of_none w4 (HT.out.on HB4.out))
  go_wp2_with fail
  refine C3.out.mono ?_
  rintro e w5 ⟨rfl, hb5⟩
  have HB5 := hid (thenB HB4.out hb5)
  clear C3 hb5 HB4
  go_wp2_with fail
  refine (rich_m _).mono ?_
  rintro e w6 ⟨rfl, hm6, hb6⟩
  have HB6 := hid (thenB HB5.out hb6)
  have C4 := hid (check_rich _ w6 hm6 (HT.out.on HB6.out))
  clear hm6 hb6 HB5
  go_wp2_with fail
  refine C4.out.mono ?_
  rintro e w7 ⟨rfl, hb7⟩
  have HB7 := hid (thenB HB6.out hb7)
  clear C4 hb7 HB6
  go_wp2
  go_ret
  exact ⟨rfl, HB7.out⟩
end Go.Proofs.YtaklngfibnbmcaaGreatDoor.Val

namespace Go.Proofs.YtaklngfibnbmcaaGreatDoor.Val
open Go.RowKit Go.Shelf Go.Proofs.YtaklngfibnbmcaaGreatDoor.Instr Go.Proofs.YtaklngfibnbmcaaGreatDoor.Mod
set_option linter.unusedVariables false

def opI (op : Int) : Ix := ⟨op, 0, 0, 0, 0, [], none, 0, none, 0, 0, none, 0, 0⟩
def oneI : Ix := ⟨65, 0, 0, 0, 1, [], none, 0, none, 0, 0, none, 0, 0⟩
def blockI (op res : Int) (a : Option Addr) (n c : Nat) : Ix := ⟨op, res, 0, 0, 0, [], none, 0, a, n, c, none, 0, 0⟩
def tableI (b : Nat) : Ix := ⟨14, 0, 1, 0, 0, [0], some ⟨b, 0, none⟩, 1, none, 0, 0, none, 0, 0⟩
theorem one_vals : oneI.vals = #[.int .i64 65, .int .i64 0, .int .u32 0, .int .u32 0, .int .i32 1, .slice none 0 0, .slice none 0 0, .slice none 0 0] := rfl
theorem get_vals (n : Int) : (getI n).vals = #[.int .i64 32, .int .i64 0, .int .u32 n, .int .u32 0, .int .i32 0, .slice none 0 0, .slice none 0 0, .slice none 0 0] := rfl
theorem op_ok (n₀ : Nat) (W : World) (op : Int) (h : 0 ≤ op ∧ op ≤ 200) : LitOk n₀ W (opI op, .nil, .nil) := ⟨by constructor <;> simp [opI] <;> omega, .inl rfl, ⟨rfl, .inl rfl⟩, ⟨rfl, .inl rfl⟩⟩
theorem one_ok (n₀ : Nat) (W : World) : LitOk n₀ W (oneI, .nil, .nil) := ⟨by constructor <;> simp [oneI], .inl rfl, ⟨rfl, .inl rfl⟩, ⟨rfl, .inl rfl⟩⟩
theorem block_ok (n₀ : Nat) (W : World) (op res : Int) (a : Option Addr) (n c : Nat) (t : Il) (h : 0 ≤ op ∧ op ≤ 200) (hr : 0 ≤ res ∧ res ≤ 1) (hn : n ≤ 140737488351232) (hL : ListAt n₀ W a n t) : LitOk n₀ W (blockI op res a n c, t, .nil) :=
  ⟨by constructor <;> simp [blockI] <;> omega, .inl rfl, hL, ⟨rfl, .inl rfl⟩⟩
theorem table_ok {n₀ : Nat} {W : World} {b : Nat} (hb : b < n₀) (h : W.cell? ⟨b, 0, none⟩ = some (.int .u32 0)) : LitOk n₀ W (tableI b, .nil, .nil) :=
  ⟨by constructor <;> simp [tableI], .inr ⟨b, 0, rfl, hb, fun i hi => by
    obtain rfl : i = 0 := by simpa [tableI] using hi
    simpa [tableI] using h⟩, ⟨rfl, .inl rfl⟩, ⟨rfl, .inl rfl⟩⟩
theorem two_mem {α : Type} {P : α → Prop} {a b : α} (ha : P a) (hb : P b) : ∀ x ∈ [a, b], P x := by
  intro x hx
  rcases List.mem_cons.1 hx with rfl | hx
  · exact ha
  · obtain rfl := List.mem_singleton.1 hx; exact hb
theorem three_mem {α : Type} {P : α → Prop} {a b c : α} (ha : P a) (hb : P b) (hc : P c) : ∀ x ∈ [a, b, c], P x := by
  intro x hx
  rcases List.mem_cons.1 hx with rfl | hx
  · exact ha
  · exact two_mem hb hc x hx
theorem one_mem {α : Type} {P : α → Prop} {a : α} (ha : P a) : ∀ x ∈ [a], P x := by
  intro x hx
  obtain rfl := List.mem_singleton.1 hx; exact ha
theorem body_a (b c g : Nat) : Md.body (ofM g ⟨some ⟨b, 0, none⟩, c, mkIl [(getI 0, .nil, .nil), (getI 0, .nil, .nil)]⟩) 0 = (201, 0) := by kernel_rfl
theorem body_b (b c g d : Nat) : Md.body (ofM g ⟨some ⟨b, 0, none⟩, c, mkIl [(blockI 2 1 (some ⟨d, 0, none⟩) 1 1, mkIl [(opI 1, .nil, .nil)], .nil), (opI 26, .nil, .nil), (getI 0, .nil, .nil)]⟩) 0 = (200, 1) := by kernel_rfl
theorem body_c (b c g : Nat) : Md.body (ofM g ⟨some ⟨b, 0, none⟩, c, mkIl [(opI 0, .nil, .nil), (opI 106, .nil, .nil)]⟩) 0 = (0, 0) := by kernel_rfl
theorem body_d (b c g d : Nat) : Md.body (ofM g ⟨some ⟨b, 0, none⟩, c, mkIl [(getI 0, .nil, .nil), (blockI 4 1 (some ⟨d, 0, none⟩) 1 1, mkIl [(oneI, .nil, .nil)], .nil)]⟩) 0 = (200, 2) := by kernel_rfl
theorem body_e (b c g d x : Nat) : Md.body (ofM g ⟨some ⟨b, 0, none⟩, c, mkIl [(blockI 2 0 (some ⟨d, 0, none⟩) 2 2, mkIl [(oneI, .nil, .nil), (tableI x, .nil, .nil)], .nil)]⟩) 0 = (214, 3) := by kernel_rfl
theorem get_lit (n : Int) (w : World) : Calls Tryz.prog 26 #[.int .u32 n] w fun e w' => e = .returned (.agg #[.int .i64 32, .int .i64 0, .int .u32 n, .int .u32 0, .int .i32 0, .slice none 0 0, .slice none 0 0, .slice none 0 0]) ∧ Below w.heap.size w w' := get_m n w
theorem held_keep8 {w w1 w2 : World} {p0 p1 p2 p3 p4 p5 p6 p7 : Addr} {v0 v1 v2 v3 v4 v5 v6 v7 : Value} (h : Below w.heap.size w w1 ∧ w1.cell? p0 = some v0 ∧ w1.cell? p1 = some v1 ∧ w1.cell? p2 = some v2 ∧ w1.cell? p3 = some v3 ∧ w1.cell? p4 = some v4 ∧ w1.cell? p5 = some v5 ∧ w1.cell? p6 = some v6 ∧ w1.cell? p7 = some v7) (hb : Below w1.heap.size w1 w2) :
    Below w.heap.size w w2 ∧ w2.cell? p0 = some v0 ∧ w2.cell? p1 = some v1 ∧ w2.cell? p2 = some v2 ∧ w2.cell? p3 = some v3 ∧ w2.cell? p4 = some v4 ∧ w2.cell? p5 = some v5 ∧ w2.cell? p6 = some v6 ∧ w2.cell? p7 = some v7 :=
  ⟨thenB h.1 hb, Go.Proofs.YtaklngfibnbmcaaGreatDoor.keep hb h.2.1, Go.Proofs.YtaklngfibnbmcaaGreatDoor.keep hb h.2.2.1, Go.Proofs.YtaklngfibnbmcaaGreatDoor.keep hb h.2.2.2.1, Go.Proofs.YtaklngfibnbmcaaGreatDoor.keep hb h.2.2.2.2.1, Go.Proofs.YtaklngfibnbmcaaGreatDoor.keep hb h.2.2.2.2.2.1, Go.Proofs.YtaklngfibnbmcaaGreatDoor.keep hb h.2.2.2.2.2.2.1, Go.Proofs.YtaklngfibnbmcaaGreatDoor.keep hb h.2.2.2.2.2.2.2.1, Go.Proofs.YtaklngfibnbmcaaGreatDoor.keep hb h.2.2.2.2.2.2.2.2⟩
set_option maxRecDepth 100000 in
set_option maxHeartbeats 4000000 in
theorem validKnown_walk (w : World) (hT : Nams w ∧ Utf.Tabs w ∧ Num.Arit w) : Calls Tryz.prog 9 #[] w fun e w' => e = .returned (.bool true) ∧ Below w.heap.size w w' := by
  have HT := hid (Tb.mk hT.1 hT.2.1 hT.2.2)
  clear hT
  obtain ⟨W0, hW0⟩ : ∃ W0, W0 = w.alloc (.cells oneI.vals 61) := ⟨_, rfl⟩
  have hb0 : Below w.heap.size w W0 := by rw [hW0]; exact thenA (Below.refl _ _) _
  have HX : Hid (At oneI w.heap.size W0) := by rw [hW0]; exact At.made oneI w
  have HB := hid hb0
  clear hb0
  rw [one_vals] at hW0
  go_enter Tryz.func9, Tryz.ntmps9
  go_upto_region 2 with fail
  rw [← hW0]
  clear hW0
  go_wp2_with fail
  refine (get_m 0 _).mono ?_
  rintro e w1 ⟨rfl, hb1⟩
  replace HB := hid (thenB HB.out hb1)
  replace HX := hid (HX.out.below hb1)
  clear hb1
  go_wp2_with fail
  refine (get_m 0 _).mono ?_
  rintro e w2 ⟨rfl, hb2⟩
  replace HB := hid (thenB HB.out hb2)
  replace HX := hid (HX.out.below hb2)
  clear hb2
  have C1 := hid (of_list [(getI 0, .nil, .nil), (getI 0, .nil, .nil)] w2.heap.size 2 2 (w2.alloc (.cells ((getI 0).vals ++ (getI 0).vals) 61)) (201, 0) ((HT.out.on HB.out).on (belowAlloc _ _)) (BoxAt.made w2 _ _) (by simp) (two_mem (get_ok _ _ 0 (by omega)) (get_ok _ _ 0 (by omega))) (by decide) rfl (by omega) (fun g => body_a _ _ g))
  rw [show (getI 0).vals ++ (getI 0).vals = #[.int .i64 32, .int .i64 0, .int .u32 0, .int .u32 0, .int .i32 0, .slice none 0 0, .slice none 0 0, .slice none 0 0, .int .i64 32, .int .i64 0, .int .u32 0, .int .u32 0, .int .i32 0, .slice none 0 0, .slice none 0 0, .slice none 0 0] from rfl] at C1
  unfold getI Ix.vals
  go_wp2_with fail
  refine C1.out.mono ?_
  rintro e w3 ⟨rfl, hb3⟩
  replace HB := hid (thenB HB.out (thenB (belowAlloc w2 _) hb3))
  replace HX := hid (HX.out.below (thenB (belowAlloc w2 _) hb3))
  clear C1 hb3
  go_upto_region 3 with fail
  go_wp2_with fail
  refine (get_m 0 _).mono ?_
  rintro e w4 ⟨rfl, hb4⟩
  have hn : BoxAt w4 w3.heap.size (opI 1).vals := (BoxAt.made w3 (opI 1).vals 61).keep (w' := w4) hb4
  have HN := hid hn
  replace HB := hid (thenB HB.out (thenB (belowAlloc w3 _) hb4))
  replace HX := hid (HX.out.below (thenB (belowAlloc w3 _) hb4))
  have HLN := hid (World.block_lt_of_cell? w4 ⟨w3.heap.size, 0, none⟩ (hn 0 _ rfl))
  clear hb4 hn
  obtain ⟨gn, hgn⟩ : ∃ g, g = w3.heap.size := ⟨_, rfl⟩
  rw [← hgn] at HN HLN ⊢
  clear hgn
  have hx1 : LitOk (w4.alloc (.cells ((blockI 2 1 (some ⟨gn, 0, none⟩) 1 1).vals ++ (opI 26).vals ++ (getI 0).vals) 61)).heap.size (w4.alloc (.cells ((blockI 2 1 (some ⟨gn, 0, none⟩) 1 1).vals ++ (opI 26).vals ++ (getI 0).vals) 61)) (blockI 2 1 (some ⟨gn, 0, none⟩) 1 1, mkIl [(opI 1, .nil, .nil)], .nil) :=
    block_ok _ _ 2 1 _ 1 1 _ (by omega) (by omega) (by omega) ((list_box (l := [(opI 1, .nil, .nil)]) HLN.out HN.out (one_mem (op_ok _ _ 1 (by omega)))).on (belowAlloc _ _))
  have C2 := hid (of_list [(blockI 2 1 (some ⟨gn, 0, none⟩) 1 1, mkIl [(opI 1, .nil, .nil)], .nil), (opI 26, .nil, .nil), (getI 0, .nil, .nil)] w4.heap.size 3 3 (w4.alloc (.cells ((blockI 2 1 (some ⟨gn, 0, none⟩) 1 1).vals ++ (opI 26).vals ++ (getI 0).vals) 61)) (200, 1) ((HT.out.on HB.out).on (belowAlloc _ _)) (BoxAt.made w4 _ _) (by simp) (three_mem hx1 (op_ok _ _ 26 (by omega)) (get_ok _ _ 0 (by omega))) (by simp [mkIl, Il.count]) rfl (by omega) (fun g => body_b _ _ g _))
  rw [show (blockI 2 1 (some ⟨gn, 0, none⟩) 1 1).vals ++ (opI 26).vals ++ (getI 0).vals = #[.int .i64 2, .int .i64 1, .int .u32 0, .int .u32 0, .int .i32 0, .slice none 0 0, .slice (some ⟨gn, 0, none⟩) 1 1, .slice none 0 0, .int .i64 26, .int .i64 0, .int .u32 0, .int .u32 0, .int .i32 0, .slice none 0 0, .slice none 0 0, .slice none 0 0, .int .i64 32, .int .i64 0, .int .u32 0, .int .u32 0, .int .i32 0, .slice none 0 0, .slice none 0 0, .slice none 0 0] from rfl] at C2
  rw [get_vals]
  clear hx1
  go_wp2_with fail
  refine C2.out.mono ?_
  rintro e w5 ⟨rfl, hb5⟩
  replace HB := hid (thenB HB.out (thenB (belowAlloc w4 _) hb5))
  replace HX := hid (HX.out.below (thenB (belowAlloc w4 _) hb5))
  clear C2 hb5 HN HLN
  go_upto_region 4 with fail
  have C3 := hid (of_list [(opI 0, .nil, .nil), (opI 106, .nil, .nil)] w5.heap.size 2 2 (w5.alloc (.cells ((opI 0).vals ++ (opI 106).vals) 61)) (0, 0) ((HT.out.on HB.out).on (belowAlloc _ _)) (BoxAt.made w5 _ _) (by simp) (two_mem (op_ok _ _ 0 (by omega)) (op_ok _ _ 106 (by omega))) (by decide) rfl (by omega) (fun g => body_c _ _ g))
  rw [show (opI 0).vals ++ (opI 106).vals = #[.int .i64 0, .int .i64 0, .int .u32 0, .int .u32 0, .int .i32 0, .slice none 0 0, .slice none 0 0, .slice none 0 0, .int .i64 106, .int .i64 0, .int .u32 0, .int .u32 0, .int .i32 0, .slice none 0 0, .slice none 0 0, .slice none 0 0] from rfl] at C3
  go_wp2_with fail
  refine C3.out.mono ?_
  rintro e w6 ⟨rfl, hb6⟩
  replace HB := hid (thenB HB.out (thenB (belowAlloc w5 _) hb6))
  replace HX := hid (HX.out.below (thenB (belowAlloc w5 _) hb6))
  clear C3 hb6
  go_upto_region 5 with fail
  have HD := hid (fun (W : World) (hb : Below w6.heap.size w6 W) (d q : Nat) (hd : BoxAt W d oneI.vals) (hq : q = W.heap.size) => of_list [(getI 0, .nil, .nil), (blockI 4 1 (some ⟨d, 0, none⟩) 1 1, mkIl [(oneI, .nil, .nil)], .nil)] q 2 2 (W.alloc (.cells ((getI 0).vals ++ (blockI 4 1 (some ⟨d, 0, none⟩) 1 1).vals) 61)) (200, 2) ((HT.out.on (thenB HB.out hb)).on (belowAlloc _ _)) (by rw [hq]; exact BoxAt.made W _ _) (by rw [hq]; simp)
    (two_mem (get_ok _ _ 0 (by omega)) (block_ok _ _ 4 1 _ 1 1 _ (by omega) (by omega) (by omega) ((list_box (l := [(oneI, .nil, .nil)]) (World.block_lt_of_cell? W _ (hd 0 _ rfl)) hd (one_mem (one_ok _ _))).on (belowAlloc _ _)))) (by simp [mkIl, Il.count]) rfl (by omega) (fun g => body_d _ _ g _))
  have HD2 : Hid (∀ d, (getI 0).vals ++ (blockI 4 1 (some ⟨d, 0, none⟩) 1 1).vals = #[.int .i64 32, .int .i64 0, .int .u32 0, .int .u32 0, .int .i32 0, .slice none 0 0, .slice none 0 0, .slice none 0 0, .int .i64 4, .int .i64 1, .int .u32 0, .int .u32 0, .int .i32 0, .slice none 0 0, .slice (some ⟨d, 0, none⟩) 1 1, .slice none 0 0]) := hid fun d => rfl
  simp only [HD2.out] at HD
  have hS0 : Below w6.heap.size w6 w6.drew ∧ w6.drew.cell? ⟨w.heap.size, 0, none⟩ = some (.int .i64 65) ∧ w6.drew.cell? ⟨w.heap.size, 1, none⟩ = some (.int .i64 0) ∧ w6.drew.cell? ⟨w.heap.size, 2, none⟩ = some (.int .u32 0) ∧ w6.drew.cell? ⟨w.heap.size, 3, none⟩ = some (.int .u32 0) ∧ w6.drew.cell? ⟨w.heap.size, 4, none⟩ = some (.int .i32 1) ∧ w6.drew.cell? ⟨w.heap.size, 5, none⟩ = some (.slice none 0 0) ∧ w6.drew.cell? ⟨w.heap.size, 6, none⟩ = some (.slice none 0 0) ∧ w6.drew.cell? ⟨w.heap.size, 7, none⟩ = some (.slice none 0 0) := ⟨(Below.refl _ _).drew, HX.out.c0, HX.out.c1, HX.out.c2, HX.out.c3, HX.out.c4, HX.out.c5, HX.out.c6, HX.out.c7⟩
  go_region_held3 (fun w' => Below w6.heap.size w6 w' ∧ w'.cell? ⟨w.heap.size, 0, none⟩ = some (.int .i64 65) ∧ w'.cell? ⟨w.heap.size, 1, none⟩ = some (.int .i64 0) ∧ w'.cell? ⟨w.heap.size, 2, none⟩ = some (.int .u32 0) ∧ w'.cell? ⟨w.heap.size, 3, none⟩ = some (.int .u32 0) ∧ w'.cell? ⟨w.heap.size, 4, none⟩ = some (.int .i32 1) ∧ w'.cell? ⟨w.heap.size, 5, none⟩ = some (.slice none 0 0) ∧ w'.cell? ⟨w.heap.size, 6, none⟩ = some (.slice none 0 0) ∧ w'.cell? ⟨w.heap.size, 7, none⟩ = some (.slice none 0 0)) (first | assumption | exact held_keep8 (by assumption) (by assumption) | exact held_keep8 (by assumption) (belowAlloc _ _))
    (first
      | (go_at_call 26; refine (get_lit 0 _).mono ?_; rintro e w7 ⟨rfl, hb7⟩)
      | (go_at_call 25; first
          | (refine (HD.out (w7.alloc (.cells oneI.vals 61)) (thenB (Stk.undrew hb7) (belowAlloc _ _)) w7.heap.size (w7.heap.size + 1) (BoxAt.made _ _ _) (by simp)).mono ?_; rintro e w8 ⟨rfl, hb8⟩; have HB8 := hid (thenB (thenB (thenB (Stk.undrew hb7) (belowAlloc w7 (.cells oneI.vals 61))) (belowAlloc _ _)) hb8))
          | (refine (HD.out w7 (thenB (belowAlloc w6 (.cells oneI.vals 61)) (Stk.undrew hb7)) w6.heap.size w7.heap.size (BoxAt.keep hb7 (BoxAt.made w6 oneI.vals 61)) rfl).mono ?_; rintro e w8 ⟨rfl, hb8⟩; have HB8 := hid (thenB (thenB (belowAlloc w6 (.cells oneI.vals 61)) (Stk.undrew hb7)) (thenB (belowAlloc w7 _) hb8)))
          | (trace_state; fail)))
  all_goals
    replace HB := hid (thenB HB.out HB8.out)
    replace HX := hid (HX.out.below HB8.out)
    clear HB8 HD HD2 hS0
    try clear hb7
    try clear hb8
    rename_i hHeld
    clear hHeld
    go_upto_region 6 with fail
    have HE := hid (fun (W : World) (hb : Below w8.heap.size w8 W) (d q r : Nat) (hd : W.cell? ⟨d, 0, none⟩ = some (.int .u32 0)) (hq : q = W.heap.size) (hr : r = W.heap.size + 1) =>
      of_list [(blockI 2 0 (some ⟨q, 0, none⟩) 2 2, mkIl [(oneI, .nil, .nil), (tableI d, .nil, .nil)], .nil)] r 1 1 ((W.alloc (.cells (oneI.vals ++ (tableI d).vals) 61)).alloc (.cells (blockI 2 0 (some ⟨q, 0, none⟩) 2 2).vals 61)) (214, 3) ((HT.out.on (thenB HB.out hb)).on ((belowAlloc _ _).alloc (by simp) _)) (by rw [hr, show W.heap.size + 1 = (W.alloc (.cells (oneI.vals ++ (tableI d).vals) 61)).heap.size from by simp]; exact BoxAt.made _ _ _) (by rw [hr]; simp)
      (one_mem (block_ok _ _ 2 0 _ 2 2 _ (by omega) (by omega) (by omega) ((list_box (l := [(oneI, .nil, .nil), (tableI d, .nil, .nil)]) (by rw [hq]; simp) (by rw [hq]; exact BoxAt.made W _ 61) (two_mem (one_ok _ _) (table_ok (Nat.lt_trans (World.block_lt_of_cell? W _ hd) (by simp)) (Go.Proofs.YtaklngfibnbmcaaGreatDoor.keep (belowAlloc W _) hd)))).on (belowAlloc _ _)))) (by simp [mkIl, Il.count]) rfl (by omega) (fun g => body_e _ _ g _ _))
    have HE2 : Hid (∀ d q, oneI.vals ++ (tableI d).vals = #[.int .i64 65, .int .i64 0, .int .u32 0, .int .u32 0, .int .i32 1, .slice none 0 0, .slice none 0 0, .slice none 0 0, .int .i64 14, .int .i64 0, .int .u32 1, .int .u32 0, .int .i32 0, .slice (some ⟨d, 0, none⟩) 1 1, .slice none 0 0, .slice none 0 0] ∧ (blockI 2 0 (some ⟨q, 0, none⟩) 2 2).vals = #[.int .i64 2, .int .i64 0, .int .u32 0, .int .u32 0, .int .i32 0, .slice none 0 0, .slice (some ⟨q, 0, none⟩) 2 2, .slice none 0 0]) := hid fun d q => ⟨rfl, rfl⟩
    simp only [(HE2.out _ 0).1, (HE2.out 0 _).2] at HE
    have e0 := HX.out.c0
    have e1 := HX.out.c1
    have e2 := HX.out.c2
    have e3 := HX.out.c3
    have e4 := HX.out.c4
    have e5 := HX.out.c5
    have e6 := HX.out.c6
    have e7 := HX.out.c7
    go_wp2_with fail
    refine (HE.out (w8.alloc (.cells #[.int .u32 0] 28)) (belowAlloc w8 (.cells #[.int .u32 0] 28)) w8.heap.size (w8.heap.size + 1) (w8.heap.size + 2) (by simp) (by simp) (by simp)).mono ?_
    rintro e w9 ⟨rfl, hb9⟩
    have HB9 := hid (thenB (thenB (belowAlloc w8 (.cells #[.int .u32 0] 28)) ((belowAlloc _ _).alloc (by simp) _)) hb9)
    clear e0 e1 e2 e3 e4 e5 e6 e7 hb9
    replace HB := hid (thenB HB.out HB9.out)
    clear HB9 HE HE2 HX
    go_upto_region 7 with fail
    go_wp2_with fail
    refine (awake_m w9 (HT.out.on HB.out)).mono ?_
    rintro e w10 ⟨rfl, hb10⟩
    replace HB := hid (thenB HB.out hb10)
    clear hb10
    go_wp2_with fail
    all_goals (try go_ret)
    all_goals exact ⟨rfl, HB.out⟩
end Go.Proofs.YtaklngfibnbmcaaGreatDoor.Val
namespace Go.Proofs.YtaklngfibnbmcaaGreatDoor
open Go.RowKit
theorem validKnown_walk (w : World) (hT : Instr.Nams w ∧ Utf.Tabs w ∧ Num.Arit w) : Calls Tryz.prog 9 #[] w fun e w' => e = .returned (.bool true) ∧ Below w.heap.size w w' := Val.validKnown_walk w hT
end Go.Proofs.YtaklngfibnbmcaaGreatDoor
