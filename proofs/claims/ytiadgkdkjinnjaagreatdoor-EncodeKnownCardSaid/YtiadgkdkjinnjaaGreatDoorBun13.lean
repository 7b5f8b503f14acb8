import Derived.Test.YtiadgkdkjinnjaaGreatDoorBun10
import Derived.Laws.EntriesVeiled
/-
  MODULE: Check by contract: one check behind the other, until one returns an error.
-/
namespace Go.Proofs.YtiadgkdkjinnjaaGreatDoor.Mod
open Go.RowKit Go.Shelf Go.Proofs.YtiadgkdkjinnjaaGreatDoor.Instr

/-- What the checks return, in order. -/
def Md.outs (m : Md) : List Int := [errI m.crowded 141, errI (codeP m.codes == 141) 141, errI (m.anyName longS) 3, errI m.heavy 3, codeP m.codes, errI (m.anyName noText) 2, errI (m.ty.any wrongT) 2, errI (m.im.any wrongI) 2, errI (m.fu.any wrongF) 2, errI (m.ex.any wrongE) 2,
  errI (m.tb.any (beyond 1048576)) 2, errI (m.me.any (beyond 65536)) 2, errI (!m.st && decide (m.sn ≠ 0)) 2]
/-- The first of them that is an error. -/
def firstE : List Int → Int
  | [] => 0
  | e :: r => if e = 0 then firstE r else e
theorem firstE_hit : ∀ (l : List Int) (k : Nat) (hk : k < l.length), (∀ j (hj : j < l.length), j < k → l[j] = 0) → l[k] ≠ 0 → firstE l = l[k]
  | [], k, hk, _, _ => by simp at hk
  | e :: r, 0, hk, _, h => by simp only [List.getElem_cons_zero] at h ⊢; rw [firstE, if_neg h]
  | e :: r, k + 1, hk, hb, h => by
    have h0 : e = 0 := hb 0 (by simp) (by omega)
    rw [firstE, if_pos h0]
    simp only [List.getElem_cons_succ] at h ⊢
    exact firstE_hit r k (by simpa using hk) (fun j hj hjk => by have := hb (j + 1) (by simp; omega) (by omega); simpa using this) h
theorem firstE_miss : ∀ (l : List Int), (∀ j (hj : j < l.length), l[j] = 0) → firstE l = 0
  | [], _ => rfl
  | e :: r, hb => by
    have h0 : e = 0 := hb 0 (by simp)
    rw [firstE, if_pos h0]
    exact firstE_miss r (fun j hj => by have := hb (j + 1) (by simp; omega); simpa using this)
theorem errI_two (b : Bool) (e r : Int) (he : e ≠ 0) : (if errI b e = 0 then r else errI b e) = if b then e else r := by
  cases b <;> simp [errI, he]
theorem check_outs (m : Md) : m.check = firstE m.outs := by
  unfold Md.outs Md.check
  simp only [firstE, errI_two _ _ _ (show (141 : Int) ≠ 0 by decide), errI_two _ _ _ (show (3 : Int) ≠ 0 by decide), errI_two _ _ _ (show (2 : Int) ≠ 0 by decide)]
  have hc := codeP_cases m.codes
  by_cases h1 : m.crowded = true
  · simp [h1]
  rw [if_neg h1, if_neg h1]
  by_cases h2 : codeP m.codes = 141
  · simp [h2]
  have h2' : ¬ (codeP m.codes == 141) = true := by simpa using h2
  rw [if_neg h2, if_neg h2']
  split
  · rfl
  split
  · rfl
  by_cases h3 : codeP m.codes = 0
  · rw [if_pos h3, if_neg (by omega)]
    unfold Md.wrong
    cases m.anyName noText <;> cases m.ty.any wrongT <;> cases m.im.any wrongI <;> cases m.fu.any wrongF <;> cases m.ex.any wrongE <;> cases m.tb.any (beyond 1048576) <;> cases m.me.any (beyond 65536) <;> cases (!m.st && decide (m.sn ≠ 0)) <;> rfl
  · have h4 : codeP m.codes = 2 := by omega
    rw [if_neg h3, h4]; rfl

/-- The function of the k-th check. -/
def chkF (k : Nat) : Nat := [49, 52, 54, 57, 59, 60, 62, 65, 68, 71, 74, 76, 77].getD k 0
/-- What it has captured. -/
def chkB (g k : Nat) : Array Value := [#[.pointer (some ⟨g, 0, none⟩)], #[.pointer (some ⟨g, 0, none⟩), .pointer (some ⟨g + 1, 0, none⟩)], #[.pointer (some ⟨g, 0, none⟩)], #[.pointer (some ⟨g, 0, none⟩)], #[.pointer (some ⟨g + 1, 0, none⟩)], #[.pointer (some ⟨g, 0, none⟩)], #[.pointer (some ⟨g, 0, none⟩)],
  #[.pointer (some ⟨g, 0, none⟩)], #[.pointer (some ⟨g, 0, none⟩)], #[.pointer (some ⟨g, 0, none⟩)], #[.pointer (some ⟨g, 0, none⟩)], #[.pointer (some ⟨g, 0, none⟩)], #[.pointer (some ⟨g, 0, none⟩)]].getD k #[]
theorem chk_enters (k : Nat) (hk : k < 13) : ∀ args w, (callFunc (chkF k) args).run Tryz.prog w = .ok (.enter (chkF k) args) w := by
  match k, hk with
  | 0, _ => exact enters_of Tryz.func49 (by kernel_rfl) rfl
  | 1, _ => exact enters_of Tryz.func52 (by kernel_rfl) rfl
  | 2, _ => exact enters_of Tryz.func54 (by kernel_rfl) rfl
  | 3, _ => exact enters_of Tryz.func57 (by kernel_rfl) rfl
  | 4, _ => exact enters_of Tryz.func59 (by kernel_rfl) rfl
  | 5, _ => exact enters_of Tryz.func60 (by kernel_rfl) rfl
  | 6, _ => exact enters_of Tryz.func62 (by kernel_rfl) rfl
  | 7, _ => exact enters_of Tryz.func65 (by kernel_rfl) rfl
  | 8, _ => exact enters_of Tryz.func68 (by kernel_rfl) rfl
  | 9, _ => exact enters_of Tryz.func71 (by kernel_rfl) rfl
  | 10, _ => exact enters_of Tryz.func74 (by kernel_rfl) rfl
  | 11, _ => exact enters_of Tryz.func76 (by kernel_rfl) rfl
  | 12, _ => exact enters_of Tryz.func77 (by kernel_rfl) rfl

/-- What holds between two checks. -/
structure Chks (w : World) (m : Md) (k : Nat) (W : World) : Prop where
  below : Below w.heap.size w W
  box : BoxAt W w.heap.size m.v
  code : W.cell? ⟨w.heap.size + 1, 0, none⟩ = some (.int .i64 (if k < 2 then 0 else codeP m.codes))
  fr : W.frozen? ⟨w.heap.size + 1, 0, none⟩ = false
  arr : ∀ j, j < 13 → W.cell? ⟨w.heap.size + 2, j, none⟩ = some (.func (.func (chkF j)) #[] (chkB w.heap.size j))
theorem Chks.go {w : World} {m : Md} {k k' : Nat} {W W' : World} (h : Chks w m k W) (hb : Below W.heap.size W W') (hk : k < 2 ↔ k' < 2) : Chks w m k' W' :=
  ⟨h.below.trans (hb.mono h.below.size), h.box.keep hb, by rw [show (if k' < 2 then (0 : Int) else codeP m.codes) = if k < 2 then 0 else codeP m.codes by by_cases h2 : k < 2 <;> simp [h2, ← hk]]; exact Go.Proofs.YtiadgkdkjinnjaaGreatDoor.keep hb h.code, (hb.frozen (p := ⟨w.heap.size + 1, 0, none⟩) (World.block_lt_of_cell? W _ h.code)).trans h.fr, fun j hj => Go.Proofs.YtiadgkdkjinnjaaGreatDoor.keep hb (h.arr j hj)⟩
theorem Chks.set {w : World} {m : Md} {W W' : World} (h : Chks w m 1 W) (hb : Below W.heap.size W W') : Chks w m 2 (W'.setCell ⟨w.heap.size + 1, 0, none⟩ (.int .i64 (codeP m.codes))) := by
  have h' := h.go (k' := 1) hb Iff.rfl
  refine ⟨h'.below.setCell (p := ⟨w.heap.size + 1, 0, none⟩) (by simp) _, fun j x hj => ?_, ?_, ?_, fun j hj => ?_⟩
  · exact (World.cell?_of_block (w := W') (Below.heap_setCell _ _ _ _ (by simp))).trans (h'.box j x hj)
  · rw [if_neg (by omega)]; exact World.cell?_setCell_same' _ _ _ (by rw [h'.code]; rfl)
  · rw [World.frozen?_setCell]; exact h'.fr
  · exact (World.cell?_of_block (w := W') (Below.heap_setCell _ _ _ _ (by simp))).trans (h'.arr j hj)
/-- One check. -/
theorem chk_step (m : Md) (w : World) (hT : Nams w) (hU : Utf.Tabs w) (hm : ModAt w.heap.size w m) (hf : m.few) (k : Nat) (hk : k < 13) (W : World) (h : Chks w m k W) :
    Calls Tryz.prog (chkF k) (chkB w.heap.size k) W fun e w' => e = .returned (.int .i64 (m.outs.getD k 0)) ∧ Chks w m (k + 1) w' := by
  have hm' := hm.on h.below
  have hT' := hT.below h.below
  have hU' := hU.below h.below
  match k, hk, h with
  | 0, _, h => exact (chk1 m _ W h.box hm' hf).mono fun e w' ⟨he, hb⟩ => ⟨he, h.go hb (by simp)⟩
  | 1, _, h => exact (chk2 m _ _ W h.box hm' hf hT' h.code h.fr).mono fun e w' ⟨he, w1, hb, hw⟩ => ⟨he, by subst hw; exact h.set hb⟩
  | 2, _, h => exact (chk3 m _ W h.box hm' hf).mono fun e w' ⟨he, hb⟩ => ⟨he, h.go hb (by simp)⟩
  | 3, _, h => exact (chk4 m _ W h.box hm' hf).mono fun e w' ⟨he, hb⟩ => ⟨he, h.go hb (by simp)⟩
  | 4, _, h => exact (chk5 _ _ W (by have := h.code; rw [if_neg (by omega)] at this; exact this)).mono fun e w' ⟨he, hb⟩ => ⟨he, h.go hb (by simp)⟩
  | 5, _, h => exact (chk6 m _ W h.box hm' hf hU').mono fun e w' ⟨he, hb⟩ => ⟨he, h.go hb (by simp)⟩
  | 6, _, h => exact (chk7 m _ W h.box hm' hf).mono fun e w' ⟨he, hb⟩ => ⟨he, h.go hb (by simp)⟩
  | 7, _, h => exact (chk8 m _ W h.box hm' hf).mono fun e w' ⟨he, hb⟩ => ⟨he, h.go hb (by simp)⟩
  | 8, _, h => exact (chk9 m _ W h.box hm' hf).mono fun e w' ⟨he, hb⟩ => ⟨he, h.go hb (by simp)⟩
  | 9, _, h => exact (chk10 m _ W h.box hm' hf).mono fun e w' ⟨he, hb⟩ => ⟨he, h.go hb (by simp)⟩
  | 10, _, h => exact (chk11 m _ W h.box hm' hf).mono fun e w' ⟨he, hb⟩ => ⟨he, h.go hb (by simp)⟩
  | 11, _, h => exact (chk12 m _ W h.box hm' hf).mono fun e w' ⟨he, hb⟩ => ⟨he, h.go hb (by simp)⟩
  | 12, _, h => exact (chk13 m _ W h.box).mono fun e w' ⟨he, hb⟩ => ⟨he, h.go hb (by simp)⟩

set_option maxRecDepth 100000 in
set_option maxHeartbeats 2000000 in
theorem ModCheck_any (m : Md) (w : World) (hT : Nams w) (hU : Utf.Tabs w) (hm : ModAt w.heap.size w m) (hf : m.few) :
    Calls Tryz.prog 24 #[.agg m.v] w fun e w' => e = .returned (.int .i64 m.check) ∧ Below w.heap.size w w' := by
  have HS := hid (chk_step m w hT hU hm hf)
  have HE := hid (check_outs m)
  have HL := hid (show m.outs.length = 13 from rfl)
  have h0 : Chks w m 0 (((w.alloc (.cells m.v 32)).alloc (.cells #[.int .i64 0] 36)).alloc (.cells #[.func (.func 49) #[] #[.pointer (some ⟨w.heap.size, 0, none⟩)], .func (.func 52) #[] #[.pointer (some ⟨w.heap.size, 0, none⟩), .pointer (some ⟨w.heap.size + 1, 0, none⟩)], .func (.func 54) #[] #[.pointer (some ⟨w.heap.size, 0, none⟩)], .func (.func 57) #[] #[.pointer (some ⟨w.heap.size, 0, none⟩)], .func (.func 59) #[] #[.pointer (some ⟨w.heap.size + 1, 0, none⟩)], .func (.func 60) #[] #[.pointer (some ⟨w.heap.size, 0, none⟩)], .func (.func 62) #[] #[.pointer (some ⟨w.heap.size, 0, none⟩)], .func (.func 65) #[] #[.pointer (some ⟨w.heap.size, 0, none⟩)], .func (.func 68) #[] #[.pointer (some ⟨w.heap.size, 0, none⟩)], .func (.func 71) #[] #[.pointer (some ⟨w.heap.size, 0, none⟩)], .func (.func 74) #[] #[.pointer (some ⟨w.heap.size, 0, none⟩)], .func (.func 76) #[] #[.pointer (some ⟨w.heap.size, 0, none⟩)], .func (.func 77) #[] #[.pointer (some ⟨w.heap.size, 0, none⟩)]] 92)) := by
    refine ⟨thenA (thenA (thenA (Below.refl _ _) _) _) _, ?_, by simp [go_sem], by simp [go_sem], fun j hj => ?_⟩
    · exact (BoxAt.made w m.v _).keep (((Below.refl _ _).alloc (Nat.le_refl _) _).alloc (by simp) _)
    · match j, hj with
      | 0, _ | 1, _ | 2, _ | 3, _ | 4, _ | 5, _ | 6, _ | 7, _ | 8, _ | 9, _ | 10, _ | 11, _ | 12, _ => simp [go_sem, chkF, chkB]
  clear hT hU hm hf
  unfold Md.v at h0 ⊢
  go_enter Tryz.func24, Tryz.ntmps24
  go_wp2
  generalize (((w.alloc (.cells #[.slice m.ty'.a m.ty.length m.ty'.c, .slice m.im'.a m.im.length m.im'.c, .slice m.fu'.a m.fu.length m.fu'.c, .slice m.tb'.a m.tb.length m.tb'.c, .slice m.me'.a m.me.length m.me'.c, .slice m.gl'.a m.gl.length m.gl'.c, .slice m.ex'.a m.ex.length m.ex'.c, .bool m.st, .int .u32 m.sn, .slice m.el'.a m.el.length m.el'.c, .slice m.da'.a m.da.length m.da'.c] 32)).alloc (.cells #[.int .i64 0] 36)).alloc (.cells #[.func (.func 49) #[] #[.pointer (some ⟨w.heap.size, 0, none⟩)], .func (.func 52) #[] #[.pointer (some ⟨w.heap.size, 0, none⟩), .pointer (some ⟨w.heap.size + 1, 0, none⟩)], .func (.func 54) #[] #[.pointer (some ⟨w.heap.size, 0, none⟩)], .func (.func 57) #[] #[.pointer (some ⟨w.heap.size, 0, none⟩)], .func (.func 59) #[] #[.pointer (some ⟨w.heap.size + 1, 0, none⟩)], .func (.func 60) #[] #[.pointer (some ⟨w.heap.size, 0, none⟩)], .func (.func 62) #[] #[.pointer (some ⟨w.heap.size, 0, none⟩)], .func (.func 65) #[] #[.pointer (some ⟨w.heap.size, 0, none⟩)], .func (.func 68) #[] #[.pointer (some ⟨w.heap.size, 0, none⟩)], .func (.func 71) #[] #[.pointer (some ⟨w.heap.size, 0, none⟩)], .func (.func 74) #[] #[.pointer (some ⟨w.heap.size, 0, none⟩)], .func (.func 76) #[] #[.pointer (some ⟨w.heap.size, 0, none⟩)], .func (.func 77) #[] #[.pointer (some ⟨w.heap.size, 0, none⟩)]] 92)) = W0 at h0 ⊢
  have H0 := hid h0
  clear h0
  go_loopw [22] (fun vi wr => ∃ k : Nat, vi = .int .i64 k ∧ k ≤ 13 ∧ Hid (Chks w m k wr) ∧ Hid (∀ j (hj : j < m.outs.length), j < k → m.outs[j] = 0)) (fun vi _ => 13 - (intOf vi).toNat)
  case atStart => exact ⟨0, rfl, Nat.zero_le _, H0, fun j _ h => absurd h (Nat.not_lt_zero _)⟩
  case round =>
    obtain ⟨k, rfl, hk, HC, HA⟩ := hrel
    clear H0
    by_cases hlt : k < 13
    · have hkl : k < m.outs.length := by rw [HL.out]; exact hlt
      have eg := chk_enters k hlt
      have C := hid (HS.out k hlt wr HC.out)
      have hc : wr.cell? ⟨w.heap.size + 1 + 1, k, none⟩ = some (.func (.func (chkF k)) #[] (chkB w.heap.size k)) := HC.out.arr k hlt
      have HG := hid (show m.outs.getD k 0 = m.outs[k] by simp [hkl])
      obtain ⟨G, hG⟩ : ∃ G, chkF k = G := ⟨_, rfl⟩
      obtain ⟨L, hL⟩ : ∃ L, chkB w.heap.size k = L := ⟨_, rfl⟩
      obtain ⟨q, hq⟩ : ∃ q, m.outs.getD k 0 = q := ⟨_, rfl⟩
      rw [hG] at eg C hc
      rw [hL] at C hc
      rw [hq] at C HG
      clear hG hL hq
      have hki : (k : Int) < 13 := by omega
      by_cases h0 : q = 0
      · subst h0
        go_wp2_with (go_at_fn G; refine C.out.mono ?_; rintro e w1 ⟨rfl, hC1⟩)
        go_roundw
        case rel =>
          refine ⟨k + 1, by go_num, by omega, hC1, hid fun j hj hjk => ?_⟩
          by_cases e : j = k
          · subst e; exact HG.out.symm
          · exact HA.out j hj (by omega)
        case measure => simp [intOf]; omega
      · have HF := hid (show m.check = q by
          rw [HE.out, firstE_hit _ k hkl HA.out (by rw [← HG.out]; exact h0), ← HG.out])
        have hq1 : (q == 0) = false := by simpa using h0
        have hq2 : (q != 0) = true := by simpa using h0
        go_wp2_with (go_at_fn G; refine C.out.mono ?_; rintro e w1 ⟨rfl, hC1⟩)
        go_ret
        exact ⟨ret_int HF.out.symm, hC1.below⟩
    · obtain rfl : k = 13 := by omega
      have HF := hid (show m.check = 0 by
        rw [HE.out]; exact firstE_miss _ (fun j hj => HA.out j hj (by rw [HL.out] at hj; exact hj)))
      go_wp2
      go_ret
      exact ⟨ret_int HF.out.symm, HC.out.below⟩
end Go.Proofs.YtiadgkdkjinnjaaGreatDoor.Mod
