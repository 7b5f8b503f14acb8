/-
  MODULE: Size and codeError by contract: loops over the range function.
-/
import Derived.Test.YtlfflomeaplidaaDoorModCodes
import Derived.Test.YtlfflomeaplidaaDoorInstrCnt
import Derived.Test.YtlfflomeaplidaaDoorInstrCheck
namespace Go.Proofs.YtlfflomeaplidaaDoor.Mod
open Go.RowKit Go.Shelf Go.Proofs.YtlfflomeaplidaaDoor.Instr

attribute [local go_sem] Oper.semAt_some

/-- What is known of each list. -/
def Fair (w : World) (l : Lst) : Prop := ListAt w.heap.size w l.a l.t.len l.t ∧ l.t.len ≤ 140737488351232 ∧ l.t.count ≤ 1000000
theorem fair_all {m : Md} {w : World} (hm : ModAt w.heap.size w m) (hf : m.few) : ∀ l ∈ m.codes, Fair w l := fun l hl => ⟨hm.ls l hl, hf.fit.ls l hl, hf.cs l hl⟩
theorem Fair.at {w W : World} {l : Lst} (h : Fair w l) (hb : Below w.heap.size w W) : ListAt W.heap.size W l.a l.t.len l.t := h.1.on hb
def valsP {P : Lst → Prop} (pre : List {l : Lst // P l}) : List Lst := pre.map (·.1)
theorem valsP_with (m : Md) (P : Lst → Prop) (hP : ∀ l ∈ m.codes, P l) : valsP (m.codes.attachWith P hP) = m.codes := by simp [valsP]
theorem countL_append : ∀ l r : List Lst, countL (l ++ r) = countL l + countL r
  | [], r => by simp [countL]
  | d :: l, r => by simp only [List.cons_append, countL, countL_append l r]; omega
theorem countL_le {P : Lst → Prop} (h : ∀ l, P l → l.t.count ≤ 1000000) : ∀ pre : List {l : Lst // P l}, countL (valsP pre) ≤ 1000000 * pre.length
  | [] => by simp [valsP, countL]
  | x :: pre => by
    have := countL_le h pre
    have := h x.1 x.2
    simp only [valsP, List.map_cons, countL, List.length_cons] at *
    omega
theorem keepsOthers_below {w w' : World} (h : Below w.heap.size w w') : KeepsOthers w w' := ⟨h.size, fun k _ hk _ => (h.block k (Array.getElem?_eq_some_iff.1 hk).1).trans hk⟩
theorem codes_length (m : Md) (hf : m.few) : m.codes.length ≤ 4000000 := by
  have := hf.lens
  simp [Md.codes]; omega

set_option maxRecDepth 100000 in
set_option maxHeartbeats 2000000 in
theorem Size_any (m : Md) (w : World) (hm : ModAt w.heap.size w m) (hf : m.few) :
    Calls Tryd.prog 32 #[.agg m.v] w fun e w' => e = .returned (.int .i64 m.size) ∧ Below w.heap.size w w' := by
  have HM := hid hm
  have HF := hid hf
  have HCL := hid (codes_length m hf)
  have hbx := BoxAt.made (((w.alloc (.cells m.v 46)).alloc (.cells #[.int .i64 0] 3))) m.v 46
  have hs := cell_new (w.alloc (.cells m.v 46)) (.int .i64 0) 3
  have hB0 : Below w.heap.size w (((w.alloc (.cells m.v 46)).alloc (.cells #[.int .i64 0] 3)).alloc (.cells m.v 46)) := thenA (thenA (thenA (Below.refl _ _) _) _) _
  have hsz : (((w.alloc (.cells m.v 46)).alloc (.cells #[.int .i64 0] 3)).alloc (.cells m.v 46)).heap.size = w.heap.size + 3 := by simp
  have hc0 := cell_alloc' (.cells m.v 46) hs.1
  have hf0 := frozen_alloc' (.cells m.v 46) hs.1 hs.2
  simp only [World.size_alloc] at hc0 hf0 hbx
  clear hm hf hs
  unfold Md.v at hbx hB0 hsz hc0 hf0 ⊢
  refine (callsIn_wide (n := 3)).1 ?_
  refine callsIn_of_wp_marks Tryd.func32 rfl trivial ?_ rfl
  simp only [Tryd.ntmps32, List.size_toArray, List.length_cons, List.length_nil, Nat.reduceAdd, Nat.reduceSub, Array.replicate_succ, Array.replicate_zero, List.push_toArray, List.append_toArray, List.nil_append, List.cons_append]
  gi_wp2_with fail
  refine ⟨trivial, ?_⟩
  refine (codes_in _ m _).mono ?_
  unfold Md.v
  rintro e w' ⟨rfl, rfl⟩
  gi_wp2
  generalize (((w.alloc (.cells #[.slice m.ty'.a m.ty.length m.ty'.c, .slice m.im'.a m.im.length m.im'.c, .slice m.fu'.a m.fu.length m.fu'.c, .slice m.tb'.a m.tb.length m.tb'.c, .slice m.me'.a m.me.length m.me'.c, .slice m.gl'.a m.gl.length m.gl'.c, .slice m.ex'.a m.ex.length m.ex'.c, .bool m.st, .int .u32 m.sn, .slice m.el'.a m.el.length m.el'.c, .slice m.da'.a m.da.length m.da'.c] 46)).alloc (.cells #[.int .i64 0] 3)).alloc (.cells #[.slice m.ty'.a m.ty.length m.ty'.c, .slice m.im'.a m.im.length m.im'.c, .slice m.fu'.a m.fu.length m.fu'.c, .slice m.tb'.a m.tb.length m.tb'.c, .slice m.me'.a m.me.length m.me'.c, .slice m.gl'.a m.gl.length m.gl'.c, .slice m.ex'.a m.ex.length m.ex'.c, .bool m.st, .int .u32 m.sn, .slice m.el'.a m.el.length m.el'.c, .slice m.da'.a m.da.length m.da'.c] 46)) = W0 at hbx hB0 hsz hc0 hf0 ⊢
  have HB0 := hid hB0
  refine wpIn_rangeFunc_ownF rfl (by omega) (gf := 114) (lb := #[.pointer (some ⟨w.heap.size + 1 + 1, 0, none⟩)]) rfl trivial (enters_of Tryd.func114 (by kernel_rfl) rfl)
    (codes_stops _ w.heap.size (w.heap.size + 1 + 1) m W0 (by omega) (by omega) hbx (HM.out.below hB0) HF.out.fit (Fair w) (fair_all HM.out HF.out)) (fun h k => h.trans k) (keptB_b (by omega)) (Below.refl _ _) (fun _ => rfl)
    (fun pre W => (W.cell? ⟨w.heap.size + 1, 0, none⟩ = some (.int .i64 (countL (valsP pre))) ∧ W.frozen? ⟨w.heap.size + 1, 0, none⟩ = false) ∧ Below w.heap.size w W)
    (fun _ _ _ => False)
    (OwnFrom.and (Own.from (fun s A B row hs hg hr => ⟨cell_kept hs.1 hg hr, (frozen_kept hs.1 hg hr).trans hs.2⟩) _) (ownFrom_below (Nat.le_refl _) (by omega)))
    (fun _ _ _ _ _ hs _ _ => hs)
    ⟨⟨hc0, hf0⟩, hB0⟩
    (fun x => { tmps := #[.agg #[.slice m.ty'.a m.ty.length m.ty'.c, .slice m.im'.a m.im.length m.im'.c, .slice m.fu'.a m.fu.length m.fu'.c, .slice m.tb'.a m.tb.length m.tb'.c, .slice m.me'.a m.me.length m.me'.c, .slice m.gl'.a m.gl.length m.gl'.c, .slice m.ex'.a m.ex.length m.ex'.c, .bool m.st, .int .u32 m.sn, .slice m.el'.a m.el.length m.el'.c, .slice m.da'.a m.da.length m.da'.c], .pointer (some ⟨w.heap.size, 0, none⟩), .int .i64 0, .pointer (some ⟨w.heap.size + 1, 0, none⟩), x.1.val, .agg #[.slice m.ty'.a m.ty.length m.ty'.c, .slice m.im'.a m.im.length m.im'.c, .slice m.fu'.a m.fu.length m.fu'.c, .slice m.tb'.a m.tb.length m.tb'.c, .slice m.me'.a m.me.length m.me'.c, .slice m.gl'.a m.gl.length m.gl'.c, .slice m.ex'.a m.ex.length m.ex'.c, .bool m.st, .int .u32 m.sn, .slice m.el'.a m.el.length m.el'.c, .slice m.da'.a m.da.length m.da'.c], .func (.func 114) #[] #[.pointer (some ⟨w.heap.size + 1 + 1, 0, none⟩)], x.1.val, undef, undef, undef, undef, undef], defers := [] }) ?assign ?body ?done ?stop
  case assign =>
    intro l x W K hK
    gi_wp2
    simpa [encP] using hK
  case body =>
    rintro l pre x W ⟨⟨hc, hf⟩, hB⟩ hlt
    have hBd : Below W.heap.size W W.drew := (Below.refl _ _).drew
    have CL := callsIn_wide (n := 0) |>.2 (Count_any x.1.a x.1.t.len x.1.c x.1.t W.drew (x.2.at (hB.trans (hBd.mono hB.size))) (by have := x.2.2.2; omega) x.2.2.1)
    have hle := countL_le (fun l (h : Fair w l) => h.2.2) pre
    have hcn := x.2.2.2
    obtain ⟨N, hN⟩ : ∃ N : Nat, countL (valsP pre) = N := ⟨_, rfl⟩
    obtain ⟨C, hC⟩ : ∃ C : Nat, x.1.t.count = C := ⟨_, rfl⟩
    have HS := hid (show countL (valsP (pre ++ [x])) = N + C by rw [← hN, ← hC]; simp [valsP, countL_append, countL])
    rw [hN] at hc hle
    rw [hC] at CL hcn
    have hln := HCL.out
    have h1 : (0 : Int) ≤ N := by omega
    have h2 : (N : Int) ≤ 4611686018427387904 := by omega
    have h3 : (C : Int) ≤ 1000000 := by omega
    have HWR : Hid (IntKind.i64.wrap ((N : Int) + C) = ((N + C : Nat) : Int)) := by show _ = _; rw [IntKind.wrap_i64]; omega
    have CL2 := hid (CallsIn.mono (R' := fun e w' => e = .returned (.int .i64 C) ∧ w'.cell? ⟨w.heap.size + 1, 0, none⟩ = some (.int .i64 N) ∧ w'.frozen? ⟨w.heap.size + 1, 0, none⟩ = false ∧ Hid (Below W.heap.size W w')) CL (by
      rintro e w' ⟨rfl, hb⟩
      have hb' : Below W.heap.size W w' := hBd.trans (hb.mono hBd.size)
      exact ⟨rfl, Go.Proofs.YtlfflomeaplidaaDoor.keep hb' hc, (hb'.frozen (p := ⟨w.heap.size + 1, 0, none⟩) (World.block_lt_of_cell? W _ hc)).trans hf, hb'⟩))
    have hmix : Tryd.prog.follows .mixedOrders = true := by kernel_rfl
    clear hN hC hle hcn hln hsz hbx hc0 hf0 HM HF hB0 CL
    have HB := hid hB
    unfold Lst.val
    clear hB hBd
    gi_wp2_with fail
    gi_region_with_o (refine ⟨trivial, ?_⟩; refine (CallsIn.inRound l CL2.out).mono ?_; rintro e W3 ⟨rfl, hc3, hf3, hb3⟩)
    all_goals
      gi_wp2
      exact ⟨(keepsOthers_below hb3.out).trans (KeepsOthers.setCell _ _ _), (KeptB.of_below hb3.out HB.out.size).setCell (p := ⟨w.heap.size + 1, 0, none⟩) (by simp) (by simp) _,
        ⟨by rw [HS.out, ← HWR.out]; exact World.cell?_setCell_same' _ _ _ (by rw [hc3]; rfl), by rw [World.frozen?_setCell]; exact hf3⟩, (HB.out.trans (hb3.out.mono HB.out.size)).setCell (p := ⟨w.heap.size + 1, 0, none⟩) (by simp) _⟩
  case done =>
    rintro D ys W hD rfl ⟨⟨hc, _⟩, hB⟩ hK
    rw [valsP_with] at hc
    have HE : Hid (m.size = countL m.codes) := rfl
    gi_wp2
    refine ⟨by simp, .inl ⟨_, _, rfl, run_takeDeferred hK, ?_⟩⟩
    exact ⟨_, results_tmp rfl _ _ _, by rw [HE.out]; rfl, hB.trans (belowK_b (w := w) (Nat.le_refl _) W D _ _ (by omega) hK rfl rfl)⟩
  case stop =>
    rintro D c pre W _ _ h _
    exact h.elim
theorem worstP_snoc (pre : List Lst) (x : Lst) (a : Int) : worstP (pre ++ [x]) a = if checkP x.t = 0 then worstP pre a else checkP x.t := by rw [worstP_append]; rfl
/-- What the loop of codeError holds in its own cells: result, worst. -/
structure Cod (g : Nat) (r : Int) (n : Int) (W : World) : Prop where
  res : W.cell? ⟨g + 1, 0, none⟩ = some (.int .i64 r)
  num : W.cell? ⟨g + 1 + 1, 0, none⟩ = some (.int .i64 n)
  fres : W.frozen? ⟨g + 1, 0, none⟩ = false
  fnum : W.frozen? ⟨g + 1 + 1, 0, none⟩ = false
theorem Cod.own {g : Nat} {r n : Int} {A B : World} {row : Option Nat} (h : Cod g r n A) (hg : A.grownBy B row) (hr : ∀ r, row = some r → ∃ o : Obj, A.heap[r]? = some o ∧ o.isCells = false) : Cod g r n B :=
  ⟨cell_kept h.res hg hr, cell_kept h.num hg hr, (frozen_kept h.res hg hr).trans h.fres, (frozen_kept h.num hg hr).trans h.fnum⟩
theorem Cod.below {g : Nat} {r n : Int} {A B : World} (h : Cod g r n A) (hb : Below A.heap.size A B) : Cod g r n B :=
  have f : ∀ p v, A.cell? p = some v → A.frozen? p = false → B.frozen? p = false := fun p _ hc hf => (hb.frozen (World.block_lt_of_cell? A p hc)).trans hf
  ⟨Go.Proofs.YtlfflomeaplidaaDoor.keep hb h.res, Go.Proofs.YtlfflomeaplidaaDoor.keep hb h.num, f _ _ h.res h.fres, f _ _ h.num h.fnum⟩
theorem Cod.set {g : Nat} {r n n' : Int} {A : World} (h : Cod g r n A) : Cod g r n' (A.setCell ⟨g + 1 + 1, 0, none⟩ (.int .i64 n')) := by
  obtain ⟨r1, r2, f1, f2⟩ := h
  constructor <;> simp [go_sem, *]
set_option maxRecDepth 100000 in
set_option maxHeartbeats 4000000 in
theorem codeError_any (m : Md) (w : World) (hT : Nams w) (hm : ModAt w.heap.size w m) (hf : m.few) :
    Calls Tryd.prog 37 #[.agg m.v] w fun e w' => e = .returned (.int .i64 (codeP m.codes)) ∧ Below w.heap.size w w' := by
  have HM := hid hm
  have HF := hid hf
  have hbx := BoxAt.made (((w.alloc (.cells m.v 46)).alloc (.cells #[.int .i64 0] 28)).alloc (.cells #[.int .i64 0] 28)) m.v 46
  have hS0 : Cod w.heap.size 0 0 (((w.alloc (.cells m.v 46)).alloc (.cells #[.int .i64 0] 28)).alloc (.cells #[.int .i64 0] 28)) := by constructor <;> go_simp
  have hS1 := hS0.below ((Below.refl _ _).alloc (Nat.le_refl _) (.cells m.v 46))
  have hB0 : Below w.heap.size w ((((w.alloc (.cells m.v 46)).alloc (.cells #[.int .i64 0] 28)).alloc (.cells #[.int .i64 0] 28)).alloc (.cells m.v 46)) := thenA (thenA (thenA (thenA (Below.refl _ _) _) _) _) _
  have hsz : ((((w.alloc (.cells m.v 46)).alloc (.cells #[.int .i64 0] 28)).alloc (.cells #[.int .i64 0] 28)).alloc (.cells m.v 46)).heap.size = w.heap.size + 4 := by simp
  simp only [World.size_alloc] at hbx
  clear hm hf hS0
  unfold Md.v at hbx hB0 hsz hS1 ⊢
  refine (callsIn_wide (n := 3)).1 ?_
  refine callsIn_of_wp_marks Tryd.func37 rfl trivial ?_ rfl
  simp only [Tryd.ntmps37, List.size_toArray, List.length_cons, List.length_nil, Nat.reduceAdd, Nat.reduceSub, Array.replicate_succ, Array.replicate_zero, List.push_toArray, List.append_toArray, List.nil_append, List.cons_append]
  gi_wp2_with fail
  refine ⟨trivial, ?_⟩
  refine (codes_in _ m _).mono ?_
  unfold Md.v
  rintro e w' ⟨rfl, rfl⟩
  gi_wp2
  generalize ((((w.alloc (.cells #[.slice m.ty'.a m.ty.length m.ty'.c, .slice m.im'.a m.im.length m.im'.c, .slice m.fu'.a m.fu.length m.fu'.c, .slice m.tb'.a m.tb.length m.tb'.c, .slice m.me'.a m.me.length m.me'.c, .slice m.gl'.a m.gl.length m.gl'.c, .slice m.ex'.a m.ex.length m.ex'.c, .bool m.st, .int .u32 m.sn, .slice m.el'.a m.el.length m.el'.c, .slice m.da'.a m.da.length m.da'.c] 46)).alloc (.cells #[.int .i64 0] 28)).alloc (.cells #[.int .i64 0] 28)).alloc (.cells #[.slice m.ty'.a m.ty.length m.ty'.c, .slice m.im'.a m.im.length m.im'.c, .slice m.fu'.a m.fu.length m.fu'.c, .slice m.tb'.a m.tb.length m.tb'.c, .slice m.me'.a m.me.length m.me'.c, .slice m.gl'.a m.gl.length m.gl'.c, .slice m.ex'.a m.ex.length m.ex'.c, .bool m.st, .int .u32 m.sn, .slice m.el'.a m.el.length m.el'.c, .slice m.da'.a m.da.length m.da'.c] 46)) = W0 at hbx hB0 hsz hS1 ⊢
  have HB0 := hid hB0
  refine wpIn_rangeFunc_ownF rfl (by omega) (gf := 114) (lb := #[.pointer (some ⟨w.heap.size + 1 + 1 + 1, 0, none⟩)]) rfl trivial (enters_of Tryd.func114 (by kernel_rfl) rfl)
    (codes_stops _ w.heap.size (w.heap.size + 1 + 1 + 1) m W0 (by omega) (by omega) hbx (HM.out.below hB0) HF.out.fit (Fair w) (fair_all HM.out HF.out)) (fun h k => h.trans k) (keptB_b (by omega)) (Below.refl _ _) (fun _ => rfl)
    (fun pre W => ((∀ y ∈ valsP pre, checkP y.t ≠ 141) ∧ Cod w.heap.size 0 (worstP (valsP pre) 0) W) ∧ Below w.heap.size w W)
    (fun c pre W => (c = .ret ∧ (∃ y ∈ valsP pre, checkP y.t = 141) ∧ W.cell? ⟨w.heap.size + 1, 0, none⟩ = some (.int .i64 141)) ∧ Below w.heap.size w W)
    (OwnFrom.and (Own.from (fun s A B row hs hg hr => ⟨hs.1, hs.2.own hg hr⟩) _) (ownFrom_below (Nat.le_refl _) (by omega)))
    (fun c => OwnFrom.and (Own.from (fun s A B row hs hg hr => ⟨hs.1, hs.2.1, cell_kept hs.2.2 hg hr⟩) _) (ownFrom_below (Nat.le_refl _) (by omega)))
    ⟨⟨by simp [valsP], hS1⟩, hB0⟩
    (fun x => { tmps := #[.agg #[.slice m.ty'.a m.ty.length m.ty'.c, .slice m.im'.a m.im.length m.im'.c, .slice m.fu'.a m.fu.length m.fu'.c, .slice m.tb'.a m.tb.length m.tb'.c, .slice m.me'.a m.me.length m.me'.c, .slice m.gl'.a m.gl.length m.gl'.c, .slice m.ex'.a m.ex.length m.ex'.c, .bool m.st, .int .u32 m.sn, .slice m.el'.a m.el.length m.el'.c, .slice m.da'.a m.da.length m.da'.c], .pointer (some ⟨w.heap.size, 0, none⟩), .pointer (some ⟨w.heap.size + 1, 0, none⟩), .pointer (some ⟨w.heap.size + 1 + 1, 0, none⟩), x.1.val, undef, .agg #[.slice m.ty'.a m.ty.length m.ty'.c, .slice m.im'.a m.im.length m.im'.c, .slice m.fu'.a m.fu.length m.fu'.c, .slice m.tb'.a m.tb.length m.tb'.c, .slice m.me'.a m.me.length m.me'.c, .slice m.gl'.a m.gl.length m.gl'.c, .slice m.ex'.a m.ex.length m.ex'.c, .bool m.st, .int .u32 m.sn, .slice m.el'.a m.el.length m.el'.c, .slice m.da'.a m.da.length m.da'.c], .func (.func 114) #[] #[.pointer (some ⟨w.heap.size + 1 + 1 + 1, 0, none⟩)], x.1.val, undef, undef, undef, undef, undef, undef, undef, undef, undef, undef], defers := [] }) ?assign ?body ?done ?stop
  case assign =>
    intro l x W K hK
    gi_wp2
    simpa [encP] using hK
  case body =>
    rintro l pre x W ⟨⟨hla, hch⟩, hB⟩ hlt
    have CL := callsIn_wide (n := 0) |>.2 (Check_any x.1.a x.1.t.len x.1.c x.1.t W (hT.below hB) (x.2.at hB) (by have := x.2.2.2; omega) x.2.2.1)
    obtain ⟨N, hN⟩ : ∃ N : Int, worstP (valsP pre) 0 = N := ⟨_, rfl⟩
    obtain ⟨C, hC⟩ : ∃ C : Int, checkP x.1.t = C := ⟨_, rfl⟩
    have HV := hid (show valsP (pre ++ [x]) = valsP pre ++ [x.1] by simp [valsP])
    have HS := hid (show worstP (valsP pre ++ [x.1]) 0 = if C = 0 then N else C by rw [worstP_snoc, hN, hC])
    have HCC := hid (show C = 0 ∨ C = 141 ∨ C = 2 from hC ▸ checkP_cases x.1.t)
    have HC := hid hC
    rw [hN] at hch
    rw [hC] at CL
    have CL2 := hid (CallsIn.mono (R' := fun e w' => e = .returned (.int .i64 C) ∧ Cod w.heap.size 0 N w' ∧ Hid (Below W.heap.size W w')) CL (by
      rintro e w' ⟨rfl, hb⟩
      exact ⟨rfl, hch.below hb, hb⟩))
    have HLA := hid hla
    have HB := hid hB
    clear hN hC hsz hbx hS1 HM HF hB0 CL hla hB hch
    unfold Lst.val
    rcases HCC.out with h | h | h
    · have HS0 := hid (show worstP (valsP (pre ++ [x])) 0 = N by rw [HV.out, HS.out, if_pos h])
      subst h
      gi_wp2_with (refine ⟨trivial, ?_⟩; refine (CallsIn.inRound l CL2.out).mono ?_; rintro e W3 ⟨rfl, hk3, hb3⟩)
      exact ⟨keepsOthers_below hb3.out, KeptB.of_below hb3.out HB.out.size, ⟨by rw [HV.out]; intro y hy; rcases List.mem_append.1 hy with hy | hy; exact HLA.out y hy; rw [List.mem_singleton.1 hy, HC.out]; omega, by rw [HS0.out]; exact hk3⟩, HB.out.trans (hb3.out.mono HB.out.size)⟩
    · have HY := hid (show ∃ y ∈ valsP (pre ++ [x]), checkP y.t = 141 from ⟨x.1, by rw [HV.out]; simp, by rw [HC.out, h]⟩)
      subst h
      gi_wp2_with (refine ⟨trivial, ?_⟩; refine (CallsIn.inRound l CL2.out).mono ?_; rintro e W3 ⟨rfl, ⟨k1, k2, k3, k4⟩, hb3⟩)
      exact ⟨(keepsOthers_below hb3.out).trans (KeepsOthers.setCell _ _ _), ⟨rfl, HY.out, World.cell?_setCell_same' _ _ _ (by rw [k1]; rfl)⟩, (HB.out.trans (hb3.out.mono HB.out.size)).setCell (p := ⟨w.heap.size + 1, 0, none⟩) (by simp) _⟩
    · have HS0 := hid (show worstP (valsP (pre ++ [x])) 0 = 2 by rw [HV.out, HS.out, if_neg (by omega), h])
      subst h
      gi_wp2_with (refine ⟨trivial, ?_⟩; refine (CallsIn.inRound l CL2.out).mono ?_; rintro e W3 ⟨rfl, hk3, hb3⟩; have hk3' := hid hk3; obtain ⟨k1, k2, k3, k4⟩ := hk3)
      exact ⟨(keepsOthers_below hb3.out).trans (KeepsOthers.setCell _ _ _), (KeptB.of_below hb3.out HB.out.size).setCell (p := ⟨w.heap.size + 1 + 1, 0, none⟩) (by simp; omega) (by simp) _,
        ⟨by rw [HV.out]; intro y hy; rcases List.mem_append.1 hy with hy | hy; exact HLA.out y hy; rw [List.mem_singleton.1 hy, HC.out]; omega, by rw [HS0.out]; exact hk3'.out.set⟩, (HB.out.trans (hb3.out.mono HB.out.size)).setCell (p := ⟨w.heap.size + 1 + 1, 0, none⟩) (by simp; omega) _⟩
  case done =>
    rintro D ys W hD rfl ⟨⟨hla, hch⟩, hB⟩ hK
    rw [valsP_with] at hla hch
    obtain ⟨h1, _⟩ := codeP_none m.codes 0 hla (.inl rfl)
    rw [if_neg (by omega)] at h1
    rw [h1] at hch
    obtain ⟨q, hq⟩ : ∃ q, codeP m.codes = q := ⟨_, rfl⟩
    rw [hq] at hch
    have HQ := hid hq
    clear hq h1 hla
    obtain ⟨r1, r2, f1, f2⟩ := hch
    gi_wp2
    have hK' := (KeepsOthers.setCell W ⟨w.heap.size + 1, 0, none⟩ (.int .i64 q)).same D _ hK rfl
    refine ⟨by simp, .inl ⟨_, _, rfl, run_takeDeferred hK', ?_⟩⟩
    have hc5 := cell_kept (World.cell?_setCell_same' W ⟨w.heap.size + 1, 0, none⟩ (.int .i64 q) (by rw [r1]; rfl)) (grownBy_putObj' _ D (.deferred none)) (fun r e => by cases e; exact ⟨_, hK', rfl⟩)
    refine ⟨.int .i64 q, ?_, by rw [HQ.out], (hB.setCell (p := ⟨w.heap.size + 1, 0, none⟩) (by simp) _).trans (belowK_b (w := w) (Nat.le_refl _) _ D _ _ (by omega) hK' rfl rfl)⟩
    simp [results, Tryd.f37, go_sem, hc5]
  case stop =>
    rintro D c pre W hD hpre ⟨⟨rfl, ⟨y, hy, hy1⟩, hc2⟩, hB⟩ hK
    have HR : Hid (codeP m.codes = 141) := by
      show _ = _
      refine codeP_many _ y ?_ hy1
      rw [← valsP_with m (Fair w) (fair_all HM.out HF.out)]
      unfold valsP at hy ⊢
      obtain ⟨z, hz⟩ := hpre
      rw [← hz, List.map_append]
      exact List.mem_append_left _ hy
    clear hy hy1 hpre
    gi_wp2
    refine ⟨by simp, .inl ⟨_, _, rfl, run_takeDeferred hK, ?_⟩⟩
    have hc5 := cell_kept hc2 (grownBy_putObj' _ D (.deferred none)) (fun r e => by cases e; exact ⟨_, hK, rfl⟩)
    refine ⟨.int .i64 141, ?_, by rw [HR.out], hB.trans (belowK_b (w := w) (Nat.le_refl _) W D _ _ (by omega) hK rfl rfl)⟩
    simp [results, Tryd.f37, go_sem, hc5]
end Go.Proofs.YtlfflomeaplidaaDoor.Mod
