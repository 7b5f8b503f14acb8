import Derived.Test.YtepbjkkakfpjgaaGreatDoorBun17
import Derived.Test.YtepbjkkakfpjgaaGreatDoorBun16
import Derived.Test.YtepbjkkakfpjgaaGreatDoorBun10
import Derived.Deep.QuietTactic
import Derived.Shelf.Abstract
import Derived.BigQuiet
/-
  ENCODE: how many items a list has, and each of them, by contract, whatever is appended of an item (tools/gen_enclist.py).
-/
namespace Go.Proofs.YtepbjkkakfpjgaaGreatDoor.Enc
open Go.RowKit Go.Shelf Go.Proofs.YtepbjkkakfpjgaaGreatDoor.Leb Go.Proofs.YtepbjkkakfpjgaaGreatDoor.Instr Go.Proofs.YtepbjkkakfpjgaaGreatDoor.Mod

theorem flat_mono {α : Type} (f : α → List Int) (l : List α) (k : Nat) : ((l.take k).flatMap f).length ≤ (l.flatMap f).length := by
  have : l.flatMap f = (l.take k).flatMap f ++ (l.drop k).flatMap f := by rw [← List.flatMap_append, List.take_append_drop]
  rw [this, List.length_append]; omega
/-- Of bytes as many as somebody needs: all, or more than 'most'. -/
def Cut (most : Int) (ys zs : List Int) : Prop := zs <+: ys ∧ (zs = ys ∨ most < (zs.length : Int))
theorem cut_all (most : Int) (ys : List Int) : Cut most ys ys := ⟨List.prefix_rfl, .inl rfl⟩
theorem Cut.whole {most : Int} {ys zs : List Int} (h : Cut most ys zs) (hl : (ys.length : Int) ≤ most) : zs = ys := by
  rcases h.2 with e | e
  · exact e
  · have := h.1.length_le; omega
/-- Bytes were appended to a buffer, as many as somebody needs. -/
def PutsC (most : Int) (g B : Nat) (v : Value) (w : World) (ys : List Int) (e : Ending) (w' : World) : Prop := ∃ zs, Cut most ys zs ∧ Puts g B v w zs e w'
theorem take_pre {α : Type} (f : α → List Int) (p : List Int) (l : List α) (k : Nat) : p ++ (l.take k).flatMap f <+: p ++ l.flatMap f := by
  refine (List.prefix_append_right_inj p).2 ?_
  have : l.flatMap f = (l.take k).flatMap f ++ (l.drop k).flatMap f := by rw [← List.flatMap_append, List.take_append_drop]
  rw [this]
  exact List.prefix_append _ _
theorem drewnE {B : Nat} {a w : World} (h : Below B a w) (n : Nat) : Below B a (w.drewN n) := ⟨h.os, h.tape, h.output, h.size, h.block⟩
set_option maxRecDepth 100000 in
set_option maxHeartbeats 2000000 in
theorem list_ty (g B : Nat) (v : Value) (l : List (Int × Int)) (a : Option Addr) (n c : Nat) (most : Int) (w0 w : World) (h : Buf g B v w v [] w) (hB : Below w0.heap.size w0 w) (hg : w0.heap.size < g) (hmost : w.cell? ⟨g, 12, none⟩ = some (.int .i64 most))
    (hn : l.length = n) (hr : Mod.Rows w0.heap.size w0 a 2 (l.map tyV)) (hlen : n ≤ 16384) (K : Nat) (eg : ∀ args w, (callFunc K args).run Tryz.prog w = .ok (.enter K args) w) (f : Int × Int → List Int)
    (hp : ∀ (W : World) (v : Value) (xs : List Int) (x : Int × Int), x ∈ l → Below w0.heap.size w0 W → Buf g B v W v xs W → xs.length ≤ 1000000000 → Calls Tryz.prog K #[.pointer (some ⟨g, 0, none⟩), .agg #[.int .i64 x.1, .int .i64 x.2]] W (Puts g B v W (xs ++ f x)))
    (htot : (encU n ++ l.flatMap f).length ≤ 1000000000) :
    Calls Tryz.prog 157 #[.pointer (some ⟨g, 0, none⟩), .slice a n c, .func (.func K) #[.pointer (some ⟨g, 0, none⟩)] #[]] w (PutsC most g B v w (lstB f l)) := by
  have H := hid h
  have HG := hid hg
  have HB := hid hB
  have HR := hid hr
  have HN := hid hn
  have HP := hid hp
  have HT := hid htot
  have HM := hid hmost
  have c0 := h.c
  have HK : Hid (lstB f l = if l.length = 0 then [] else encU l.length ++ l.flatMap f) := rfl
  clear h hg hB hr hn hp htot hmost
  by_cases hz : n = 0
  · subst hz
    have HE := hid (show lstB f l = [] by rw [HK.out, if_pos HN.out])
    go_enter Tryz.func157, Tryz.ntmps157
    go_wp2
    refine bodyPost_ret (results_none rfl _ _ _) rfl ?_
    exact ⟨_, cut_all _ _, rfl, v, by rw [HE.out]; exact H.out⟩
  · have hni : ¬ (n : Int) = 0 := by omega
    have HE := hid (show lstB f l = encU n ++ l.flatMap f by rw [HK.out, if_neg (by rw [HN.out]; exact hz), HN.out])
    have hw := u32_id n (by omega) (by omega)
    have C := hid (number_any g B v [] n w H.out (by omega) (by omega) (by simp))
    rw [List.nil_append] at C
    obtain ⟨p, hp⟩ : ∃ p, encU n = p := ⟨_, rfl⟩
    rw [hp] at C HE HT
    clear hp HK
    go_enter Tryz.func157, Tryz.ntmps157
    go_wp2_with fail
    refine C.out.mono ?_
    rintro e1 w1 ⟨rfl, v1, hb⟩
    have HA1 := hid hb
    have HW1 := hid (hb.deep H.out.own HB.out HG.out)
    clear C hb c0 hw
    go_wp2
    go_loopw [20] (fun vi wr => ∃ (k : Nat) (v9 : Value), vi = .int .i64 k ∧ k ≤ n ∧ Hid (Buf g B v w v9 (p ++ (l.take k).flatMap f) wr) ∧ Hid (Below w0.heap.size w0 wr)) (fun vi _ => n - (intOf vi).toNat)
    case atStart => exact ⟨0, v1, rfl, Nat.zero_le _, hid (by simpa using HA1.out), HW1⟩
    case round =>
      clear HA1 HW1
      obtain ⟨k, v9, rfl, hk, HA, HW⟩ := hrel
      by_cases hlt : k < n
      · have hkl : k < l.length := by rw [HN.out]; exact hlt
        have hki : (k : Int) < (n : Int) := by omega
        obtain ⟨b, off, rfl, hb, hc⟩ := Mod.Rows.get HR.out hkl
        have HX := hid (List.getElem_mem hkl)
        have HST := hid (flat_step f hkl)
        have HLN := hid (show (p ++ (l.take k).flatMap f).length ≤ 1000000000 by have := HT.out; have := flat_mono f l k; rw [List.length_append] at *; omega)
        obtain ⟨x, hx⟩ : ∃ x, l[k] = x := ⟨_, rfl⟩
        rw [hx] at hc HX HST
        have c0 : wr.cell? ⟨b, off + k * 2, none⟩ = some (.int .i64 x.1) := (HW.out.cell (p := ⟨b, off + k * 2 + 0, none⟩) hb).trans (hc 0 (by omega) _ rfl)
        have c1 : wr.cell? ⟨b, off + k * 2 + 1, none⟩ = some (.int .i64 x.2) := (HW.out.cell (p := ⟨b, off + k * 2 + 1, none⟩) hb).trans (hc 1 (by omega) _ rfl)
        clear hc hx hb hkl
        go_wp2_with fail
        have C := hid (HP.out (wr.alloc (.cells #[.int .i64 x.1, .int .i64 x.2] 50)) v9 _ x HX.out (HW.out.trans (((Below.refl wr.heap.size wr).alloc (Nat.le_refl _) (.cells #[.int .i64 x.1, .int .i64 x.2] 50)).mono HW.out.size)) (HA.out.lit (.cells #[.int .i64 x.1, .int .i64 x.2] 50)).again HLN.out)
        refine C.out.mono ?_
        rintro e1 w2 ⟨rfl, v2, hb2⟩
        have HA2 := hid (show Buf g B v w v2 (p ++ (l.take (k + 1)).flatMap f) w2 by rw [HST.out, ← List.append_assoc]; exact (HA.out.lit (.cells #[.int .i64 x.1, .int .i64 x.2] 50)).trans hb2)
        have HW2 := hid (HA2.out.deep H.out.own HB.out HG.out)
        obtain ⟨N, hN⟩ : ∃ N, (p ++ (l.take (k + 1)).flatMap f).length = N := ⟨_, rfl⟩
        obtain ⟨a2, q2, rfl⟩ := HA2.out.own.sliceN hN
        have d0 := HA2.out.c
        have d1 := (HA2.out.rest 12 (by decide)).trans HM.out
        have HD := hid hN
        clear C hb2 hN HA HW HX HST HLN c0 c1
        by_cases hgt : most < (N : Int)
        · have HP2 := hid (show Cut most (lstB f l) (p ++ (l.take (k + 1)).flatMap f) from by rw [HE.out]; exact ⟨take_pre f p l (k + 1), .inr (by rw [HD.out]; exact hgt)⟩)
          have HZ := hid (fun (m : Nat) => show Buf g B v w (.slice a2 N q2) (p ++ (l.take (k + 1)).flatMap f) (w2.drewN m) from HA2.out.on (drewnE (Below.refl w2.heap.size w2) m))
          go_wp2
          go_quiet (fail)
          go_wp2
          refine bodyPost_ret (results_none rfl _ _ _) rfl ?_
          exact ⟨_, HP2.out, rfl, _, HZ.out _⟩
        · skip
          go_wp2
          go_quiet (fail)
          go_wp2
          go_roundw
          case rel => exact ⟨k + 1, _, by go_num, by omega, hid (HA2.out.on (drewnE (Below.refl w2.heap.size w2) _)), drewnE HW2.out _⟩
          case measure => simp [intOf]; omega
      · obtain rfl : k = n := by omega
        have HQ := hid (show l.take k = l from List.take_of_length_le (by rw [HN.out]; exact Nat.le_refl _))
        go_wp2
        go_end0
        exact ⟨_, cut_all _ _, rfl, v9, by have := HA.out; rw [HQ.out, ← HE.out] at this; exact this⟩
set_option maxRecDepth 100000 in
set_option maxHeartbeats 2000000 in
theorem list_im (g B : Nat) (v : Value) (l : List (Imp)) (a : Option Addr) (n c : Nat) (most : Int) (w0 w : World) (h : Buf g B v w v [] w) (hB : Below w0.heap.size w0 w) (hg : w0.heap.size < g) (hmost : w.cell? ⟨g, 12, none⟩ = some (.int .i64 most))
    (hn : l.length = n) (hr : Mod.Rows w0.heap.size w0 a 3 (l.map Imp.v)) (hlen : n ≤ 16384) (K : Nat) (eg : ∀ args w, (callFunc K args).run Tryz.prog w = .ok (.enter K args) w) (f : Imp → List Int)
    (hp : ∀ (W : World) (v : Value) (xs : List Int) (x : Imp), x ∈ l → Below w0.heap.size w0 W → Buf g B v W v xs W → xs.length ≤ 1000000000 → Calls Tryz.prog K #[.pointer (some ⟨g, 0, none⟩), .agg #[.string x.mo, .string x.na, .int .i64 x.ty]] W (Puts g B v W (xs ++ f x)))
    (htot : (encU n ++ l.flatMap f).length ≤ 1000000000) :
    Calls Tryz.prog 159 #[.pointer (some ⟨g, 0, none⟩), .slice a n c, .func (.func K) #[.pointer (some ⟨g, 0, none⟩)] #[]] w (PutsC most g B v w (lstB f l)) := by
  have H := hid h
  have HG := hid hg
  have HB := hid hB
  have HR := hid hr
  have HN := hid hn
  have HP := hid hp
  have HT := hid htot
  have HM := hid hmost
  have c0 := h.c
  have HK : Hid (lstB f l = if l.length = 0 then [] else encU l.length ++ l.flatMap f) := rfl
  clear h hg hB hr hn hp htot hmost
  by_cases hz : n = 0
  · subst hz
    have HE := hid (show lstB f l = [] by rw [HK.out, if_pos HN.out])
    go_enter Tryz.func159, Tryz.ntmps159
    go_wp2
    refine bodyPost_ret (results_none rfl _ _ _) rfl ?_
    exact ⟨_, cut_all _ _, rfl, v, by rw [HE.out]; exact H.out⟩
  · have hni : ¬ (n : Int) = 0 := by omega
    have HE := hid (show lstB f l = encU n ++ l.flatMap f by rw [HK.out, if_neg (by rw [HN.out]; exact hz), HN.out])
    have hw := u32_id n (by omega) (by omega)
    have C := hid (number_any g B v [] n w H.out (by omega) (by omega) (by simp))
    rw [List.nil_append] at C
    obtain ⟨p, hp⟩ : ∃ p, encU n = p := ⟨_, rfl⟩
    rw [hp] at C HE HT
    clear hp HK
    go_enter Tryz.func159, Tryz.ntmps159
    go_wp2_with fail
    refine C.out.mono ?_
    rintro e1 w1 ⟨rfl, v1, hb⟩
    have HA1 := hid hb
    have HW1 := hid (hb.deep H.out.own HB.out HG.out)
    clear C hb c0 hw
    go_wp2
    go_loopw [20] (fun vi wr => ∃ (k : Nat) (v9 : Value), vi = .int .i64 k ∧ k ≤ n ∧ Hid (Buf g B v w v9 (p ++ (l.take k).flatMap f) wr) ∧ Hid (Below w0.heap.size w0 wr)) (fun vi _ => n - (intOf vi).toNat)
    case atStart => exact ⟨0, v1, rfl, Nat.zero_le _, hid (by simpa using HA1.out), HW1⟩
    case round =>
      clear HA1 HW1
      obtain ⟨k, v9, rfl, hk, HA, HW⟩ := hrel
      by_cases hlt : k < n
      · have hkl : k < l.length := by rw [HN.out]; exact hlt
        have hki : (k : Int) < (n : Int) := by omega
        obtain ⟨b, off, rfl, hb, hc⟩ := Mod.Rows.get HR.out hkl
        have HX := hid (List.getElem_mem hkl)
        have HST := hid (flat_step f hkl)
        have HLN := hid (show (p ++ (l.take k).flatMap f).length ≤ 1000000000 by have := HT.out; have := flat_mono f l k; rw [List.length_append] at *; omega)
        obtain ⟨x, hx⟩ : ∃ x, l[k] = x := ⟨_, rfl⟩
        rw [hx] at hc HX HST
        have c0 : wr.cell? ⟨b, off + k * 3, none⟩ = some (.string x.mo) := (HW.out.cell (p := ⟨b, off + k * 3 + 0, none⟩) hb).trans (hc 0 (by omega) _ rfl)
        have c1 : wr.cell? ⟨b, off + k * 3 + 1, none⟩ = some (.string x.na) := (HW.out.cell (p := ⟨b, off + k * 3 + 1, none⟩) hb).trans (hc 1 (by omega) _ rfl)
        have c2 : wr.cell? ⟨b, off + k * 3 + 2, none⟩ = some (.int .i64 x.ty) := (HW.out.cell (p := ⟨b, off + k * 3 + 2, none⟩) hb).trans (hc 2 (by omega) _ rfl)
        clear hc hx hb hkl
        go_wp2_with fail
        have C := hid (HP.out (wr.alloc (.cells #[.string x.mo, .string x.na, .int .i64 x.ty] 73)) v9 _ x HX.out (HW.out.trans (((Below.refl wr.heap.size wr).alloc (Nat.le_refl _) (.cells #[.string x.mo, .string x.na, .int .i64 x.ty] 73)).mono HW.out.size)) (HA.out.lit (.cells #[.string x.mo, .string x.na, .int .i64 x.ty] 73)).again HLN.out)
        refine C.out.mono ?_
        rintro e1 w2 ⟨rfl, v2, hb2⟩
        have HA2 := hid (show Buf g B v w v2 (p ++ (l.take (k + 1)).flatMap f) w2 by rw [HST.out, ← List.append_assoc]; exact (HA.out.lit (.cells #[.string x.mo, .string x.na, .int .i64 x.ty] 73)).trans hb2)
        have HW2 := hid (HA2.out.deep H.out.own HB.out HG.out)
        obtain ⟨N, hN⟩ : ∃ N, (p ++ (l.take (k + 1)).flatMap f).length = N := ⟨_, rfl⟩
        obtain ⟨a2, q2, rfl⟩ := HA2.out.own.sliceN hN
        have d0 := HA2.out.c
        have d1 := (HA2.out.rest 12 (by decide)).trans HM.out
        have HD := hid hN
        clear C hb2 hN HA HW HX HST HLN c0 c1 c2
        by_cases hgt : most < (N : Int)
        · have HP2 := hid (show Cut most (lstB f l) (p ++ (l.take (k + 1)).flatMap f) from by rw [HE.out]; exact ⟨take_pre f p l (k + 1), .inr (by rw [HD.out]; exact hgt)⟩)
          have HZ := hid (fun (m : Nat) => show Buf g B v w (.slice a2 N q2) (p ++ (l.take (k + 1)).flatMap f) (w2.drewN m) from HA2.out.on (drewnE (Below.refl w2.heap.size w2) m))
          go_wp2
          go_quiet (fail)
          go_wp2
          refine bodyPost_ret (results_none rfl _ _ _) rfl ?_
          exact ⟨_, HP2.out, rfl, _, HZ.out _⟩
        · skip
          go_wp2
          go_quiet (fail)
          go_wp2
          go_roundw
          case rel => exact ⟨k + 1, _, by go_num, by omega, hid (HA2.out.on (drewnE (Below.refl w2.heap.size w2) _)), drewnE HW2.out _⟩
          case measure => simp [intOf]; omega
      · obtain rfl : k = n := by omega
        have HQ := hid (show l.take k = l from List.take_of_length_le (by rw [HN.out]; exact Nat.le_refl _))
        go_wp2
        go_end0
        exact ⟨_, cut_all _ _, rfl, v9, by have := HA.out; rw [HQ.out, ← HE.out] at this; exact this⟩
set_option maxRecDepth 100000 in
set_option maxHeartbeats 2000000 in
theorem list_fu (g B : Nat) (v : Value) (l : List (Mod.Fn)) (a : Option Addr) (n c : Nat) (most : Int) (w0 w : World) (h : Buf g B v w v [] w) (hB : Below w0.heap.size w0 w) (hg : w0.heap.size < g) (hmost : w.cell? ⟨g, 12, none⟩ = some (.int .i64 most))
    (hn : l.length = n) (hr : Mod.Rows w0.heap.size w0 a 3 (l.map Mod.Fn.v)) (hlen : n ≤ 16384) (K : Nat) (eg : ∀ args w, (callFunc K args).run Tryz.prog w = .ok (.enter K args) w) (f : Mod.Fn → List Int)
    (hp : ∀ (W : World) (v : Value) (xs : List Int) (x : Mod.Fn), x ∈ l → Below w0.heap.size w0 W → Buf g B v W v xs W → xs.length ≤ 1000000000 → Calls Tryz.prog K #[.pointer (some ⟨g, 0, none⟩), .agg #[.int .i64 x.ty, .int .i64 x.lo, .slice x.l.a x.l.t.len x.l.c]] W (Puts g B v W (xs ++ f x)))
    (htot : (encU n ++ l.flatMap f).length ≤ 1000000000) :
    Calls Tryz.prog 161 #[.pointer (some ⟨g, 0, none⟩), .slice a n c, .func (.func K) #[.pointer (some ⟨g, 0, none⟩)] #[]] w (PutsC most g B v w (lstB f l)) := by
  have H := hid h
  have HG := hid hg
  have HB := hid hB
  have HR := hid hr
  have HN := hid hn
  have HP := hid hp
  have HT := hid htot
  have HM := hid hmost
  have c0 := h.c
  have HK : Hid (lstB f l = if l.length = 0 then [] else encU l.length ++ l.flatMap f) := rfl
  clear h hg hB hr hn hp htot hmost
  by_cases hz : n = 0
  · subst hz
    have HE := hid (show lstB f l = [] by rw [HK.out, if_pos HN.out])
    go_enter Tryz.func161, Tryz.ntmps161
    go_wp2
    refine bodyPost_ret (results_none rfl _ _ _) rfl ?_
    exact ⟨_, cut_all _ _, rfl, v, by rw [HE.out]; exact H.out⟩
  · have hni : ¬ (n : Int) = 0 := by omega
    have HE := hid (show lstB f l = encU n ++ l.flatMap f by rw [HK.out, if_neg (by rw [HN.out]; exact hz), HN.out])
    have hw := u32_id n (by omega) (by omega)
    have C := hid (number_any g B v [] n w H.out (by omega) (by omega) (by simp))
    rw [List.nil_append] at C
    obtain ⟨p, hp⟩ : ∃ p, encU n = p := ⟨_, rfl⟩
    rw [hp] at C HE HT
    clear hp HK
    go_enter Tryz.func161, Tryz.ntmps161
    go_wp2_with fail
    refine C.out.mono ?_
    rintro e1 w1 ⟨rfl, v1, hb⟩
    have HA1 := hid hb
    have HW1 := hid (hb.deep H.out.own HB.out HG.out)
    clear C hb c0 hw
    go_wp2
    go_loopw [20] (fun vi wr => ∃ (k : Nat) (v9 : Value), vi = .int .i64 k ∧ k ≤ n ∧ Hid (Buf g B v w v9 (p ++ (l.take k).flatMap f) wr) ∧ Hid (Below w0.heap.size w0 wr)) (fun vi _ => n - (intOf vi).toNat)
    case atStart => exact ⟨0, v1, rfl, Nat.zero_le _, hid (by simpa using HA1.out), HW1⟩
    case round =>
      clear HA1 HW1
      obtain ⟨k, v9, rfl, hk, HA, HW⟩ := hrel
      by_cases hlt : k < n
      · have hkl : k < l.length := by rw [HN.out]; exact hlt
        have hki : (k : Int) < (n : Int) := by omega
        obtain ⟨b, off, rfl, hb, hc⟩ := Mod.Rows.get HR.out hkl
        have HX := hid (List.getElem_mem hkl)
        have HST := hid (flat_step f hkl)
        have HLN := hid (show (p ++ (l.take k).flatMap f).length ≤ 1000000000 by have := HT.out; have := flat_mono f l k; rw [List.length_append] at *; omega)
        obtain ⟨x, hx⟩ : ∃ x, l[k] = x := ⟨_, rfl⟩
        rw [hx] at hc HX HST
        have c0 : wr.cell? ⟨b, off + k * 3, none⟩ = some (.int .i64 x.ty) := (HW.out.cell (p := ⟨b, off + k * 3 + 0, none⟩) hb).trans (hc 0 (by omega) _ rfl)
        have c1 : wr.cell? ⟨b, off + k * 3 + 1, none⟩ = some (.int .i64 x.lo) := (HW.out.cell (p := ⟨b, off + k * 3 + 1, none⟩) hb).trans (hc 1 (by omega) _ rfl)
        have c2 : wr.cell? ⟨b, off + k * 3 + 2, none⟩ = some (.slice x.l.a x.l.t.len x.l.c) := (HW.out.cell (p := ⟨b, off + k * 3 + 2, none⟩) hb).trans (hc 2 (by omega) _ rfl)
        clear hc hx hb hkl
        go_wp2_with fail
        have C := hid (HP.out (wr.alloc (.cells #[.int .i64 x.ty, .int .i64 x.lo, .slice x.l.a x.l.t.len x.l.c] 66)) v9 _ x HX.out (HW.out.trans (((Below.refl wr.heap.size wr).alloc (Nat.le_refl _) (.cells #[.int .i64 x.ty, .int .i64 x.lo, .slice x.l.a x.l.t.len x.l.c] 66)).mono HW.out.size)) (HA.out.lit (.cells #[.int .i64 x.ty, .int .i64 x.lo, .slice x.l.a x.l.t.len x.l.c] 66)).again HLN.out)
        refine C.out.mono ?_
        rintro e1 w2 ⟨rfl, v2, hb2⟩
        have HA2 := hid (show Buf g B v w v2 (p ++ (l.take (k + 1)).flatMap f) w2 by rw [HST.out, ← List.append_assoc]; exact (HA.out.lit (.cells #[.int .i64 x.ty, .int .i64 x.lo, .slice x.l.a x.l.t.len x.l.c] 66)).trans hb2)
        have HW2 := hid (HA2.out.deep H.out.own HB.out HG.out)
        obtain ⟨N, hN⟩ : ∃ N, (p ++ (l.take (k + 1)).flatMap f).length = N := ⟨_, rfl⟩
        obtain ⟨a2, q2, rfl⟩ := HA2.out.own.sliceN hN
        have d0 := HA2.out.c
        have d1 := (HA2.out.rest 12 (by decide)).trans HM.out
        have HD := hid hN
        clear C hb2 hN HA HW HX HST HLN c0 c1 c2
        by_cases hgt : most < (N : Int)
        · have HP2 := hid (show Cut most (lstB f l) (p ++ (l.take (k + 1)).flatMap f) from by rw [HE.out]; exact ⟨take_pre f p l (k + 1), .inr (by rw [HD.out]; exact hgt)⟩)
          have HZ := hid (fun (m : Nat) => show Buf g B v w (.slice a2 N q2) (p ++ (l.take (k + 1)).flatMap f) (w2.drewN m) from HA2.out.on (drewnE (Below.refl w2.heap.size w2) m))
          go_wp2
          go_quiet (fail)
          go_wp2
          refine bodyPost_ret (results_none rfl _ _ _) rfl ?_
          exact ⟨_, HP2.out, rfl, _, HZ.out _⟩
        · skip
          go_wp2
          go_quiet (fail)
          go_wp2
          go_roundw
          case rel => exact ⟨k + 1, _, by go_num, by omega, hid (HA2.out.on (drewnE (Below.refl w2.heap.size w2) _)), drewnE HW2.out _⟩
          case measure => simp [intOf]; omega
      · obtain rfl : k = n := by omega
        have HQ := hid (show l.take k = l from List.take_of_length_le (by rw [HN.out]; exact Nat.le_refl _))
        go_wp2
        go_end0
        exact ⟨_, cut_all _ _, rfl, v9, by have := HA.out; rw [HQ.out, ← HE.out] at this; exact this⟩
set_option maxRecDepth 100000 in
set_option maxHeartbeats 2000000 in
theorem list_li (g B : Nat) (v : Value) (l : List (Li)) (a : Option Addr) (n c : Nat) (most : Int) (w0 w : World) (h : Buf g B v w v [] w) (hB : Below w0.heap.size w0 w) (hg : w0.heap.size < g) (hmost : w.cell? ⟨g, 12, none⟩ = some (.int .i64 most))
    (hn : l.length = n) (hr : Mod.Rows w0.heap.size w0 a 3 (l.map Li.v)) (hlen : n ≤ 16384) (K : Nat) (eg : ∀ args w, (callFunc K args).run Tryz.prog w = .ok (.enter K args) w) (f : Li → List Int)
    (hp : ∀ (W : World) (v : Value) (xs : List Int) (x : Li), x ∈ l → Below w0.heap.size w0 W → Buf g B v W v xs W → xs.length ≤ 1000000000 → Calls Tryz.prog K #[.pointer (some ⟨g, 0, none⟩), .agg #[.int .u32 x.n, .int .u32 x.x, .bool x.c]] W (Puts g B v W (xs ++ f x)))
    (htot : (encU n ++ l.flatMap f).length ≤ 1000000000) :
    Calls Tryz.prog 163 #[.pointer (some ⟨g, 0, none⟩), .slice a n c, .func (.func K) #[.pointer (some ⟨g, 0, none⟩)] #[]] w (PutsC most g B v w (lstB f l)) := by
  have H := hid h
  have HG := hid hg
  have HB := hid hB
  have HR := hid hr
  have HN := hid hn
  have HP := hid hp
  have HT := hid htot
  have HM := hid hmost
  have c0 := h.c
  have HK : Hid (lstB f l = if l.length = 0 then [] else encU l.length ++ l.flatMap f) := rfl
  clear h hg hB hr hn hp htot hmost
  by_cases hz : n = 0
  · subst hz
    have HE := hid (show lstB f l = [] by rw [HK.out, if_pos HN.out])
    go_enter Tryz.func163, Tryz.ntmps163
    go_wp2
    refine bodyPost_ret (results_none rfl _ _ _) rfl ?_
    exact ⟨_, cut_all _ _, rfl, v, by rw [HE.out]; exact H.out⟩
  · have hni : ¬ (n : Int) = 0 := by omega
    have HE := hid (show lstB f l = encU n ++ l.flatMap f by rw [HK.out, if_neg (by rw [HN.out]; exact hz), HN.out])
    have hw := u32_id n (by omega) (by omega)
    have C := hid (number_any g B v [] n w H.out (by omega) (by omega) (by simp))
    rw [List.nil_append] at C
    obtain ⟨p, hp⟩ : ∃ p, encU n = p := ⟨_, rfl⟩
    rw [hp] at C HE HT
    clear hp HK
    go_enter Tryz.func163, Tryz.ntmps163
    go_wp2_with fail
    refine C.out.mono ?_
    rintro e1 w1 ⟨rfl, v1, hb⟩
    have HA1 := hid hb
    have HW1 := hid (hb.deep H.out.own HB.out HG.out)
    clear C hb c0 hw
    go_wp2
    go_loopw [20] (fun vi wr => ∃ (k : Nat) (v9 : Value), vi = .int .i64 k ∧ k ≤ n ∧ Hid (Buf g B v w v9 (p ++ (l.take k).flatMap f) wr) ∧ Hid (Below w0.heap.size w0 wr)) (fun vi _ => n - (intOf vi).toNat)
    case atStart => exact ⟨0, v1, rfl, Nat.zero_le _, hid (by simpa using HA1.out), HW1⟩
    case round =>
      clear HA1 HW1
      obtain ⟨k, v9, rfl, hk, HA, HW⟩ := hrel
      by_cases hlt : k < n
      · have hkl : k < l.length := by rw [HN.out]; exact hlt
        have hki : (k : Int) < (n : Int) := by omega
        obtain ⟨b, off, rfl, hb, hc⟩ := Mod.Rows.get HR.out hkl
        have HX := hid (List.getElem_mem hkl)
        have HST := hid (flat_step f hkl)
        have HLN := hid (show (p ++ (l.take k).flatMap f).length ≤ 1000000000 by have := HT.out; have := flat_mono f l k; rw [List.length_append] at *; omega)
        obtain ⟨x, hx⟩ : ∃ x, l[k] = x := ⟨_, rfl⟩
        rw [hx] at hc HX HST
        have c0 : wr.cell? ⟨b, off + k * 3, none⟩ = some (.int .u32 x.n) := (HW.out.cell (p := ⟨b, off + k * 3 + 0, none⟩) hb).trans (hc 0 (by omega) _ rfl)
        have c1 : wr.cell? ⟨b, off + k * 3 + 1, none⟩ = some (.int .u32 x.x) := (HW.out.cell (p := ⟨b, off + k * 3 + 1, none⟩) hb).trans (hc 1 (by omega) _ rfl)
        have c2 : wr.cell? ⟨b, off + k * 3 + 2, none⟩ = some (.bool x.c) := (HW.out.cell (p := ⟨b, off + k * 3 + 2, none⟩) hb).trans (hc 2 (by omega) _ rfl)
        clear hc hx hb hkl
        go_wp2_with fail
        have C := hid (HP.out (wr.alloc (.cells #[.int .u32 x.n, .int .u32 x.x, .bool x.c] 60)) v9 _ x HX.out (HW.out.trans (((Below.refl wr.heap.size wr).alloc (Nat.le_refl _) (.cells #[.int .u32 x.n, .int .u32 x.x, .bool x.c] 60)).mono HW.out.size)) (HA.out.lit (.cells #[.int .u32 x.n, .int .u32 x.x, .bool x.c] 60)).again HLN.out)
        refine C.out.mono ?_
        rintro e1 w2 ⟨rfl, v2, hb2⟩
        have HA2 := hid (show Buf g B v w v2 (p ++ (l.take (k + 1)).flatMap f) w2 by rw [HST.out, ← List.append_assoc]; exact (HA.out.lit (.cells #[.int .u32 x.n, .int .u32 x.x, .bool x.c] 60)).trans hb2)
        have HW2 := hid (HA2.out.deep H.out.own HB.out HG.out)
        obtain ⟨N, hN⟩ : ∃ N, (p ++ (l.take (k + 1)).flatMap f).length = N := ⟨_, rfl⟩
        obtain ⟨a2, q2, rfl⟩ := HA2.out.own.sliceN hN
        have d0 := HA2.out.c
        have d1 := (HA2.out.rest 12 (by decide)).trans HM.out
        have HD := hid hN
        clear C hb2 hN HA HW HX HST HLN c0 c1 c2
        by_cases hgt : most < (N : Int)
        · have HP2 := hid (show Cut most (lstB f l) (p ++ (l.take (k + 1)).flatMap f) from by rw [HE.out]; exact ⟨take_pre f p l (k + 1), .inr (by rw [HD.out]; exact hgt)⟩)
          have HZ := hid (fun (m : Nat) => show Buf g B v w (.slice a2 N q2) (p ++ (l.take (k + 1)).flatMap f) (w2.drewN m) from HA2.out.on (drewnE (Below.refl w2.heap.size w2) m))
          go_wp2
          go_quiet (fail)
          go_wp2
          refine bodyPost_ret (results_none rfl _ _ _) rfl ?_
          exact ⟨_, HP2.out, rfl, _, HZ.out _⟩
        · skip
          go_wp2
          go_quiet (fail)
          go_wp2
          go_roundw
          case rel => exact ⟨k + 1, _, by go_num, by omega, hid (HA2.out.on (drewnE (Below.refl w2.heap.size w2) _)), drewnE HW2.out _⟩
          case measure => simp [intOf]; omega
      · obtain rfl : k = n := by omega
        have HQ := hid (show l.take k = l from List.take_of_length_le (by rw [HN.out]; exact Nat.le_refl _))
        go_wp2
        go_end0
        exact ⟨_, cut_all _ _, rfl, v9, by have := HA.out; rw [HQ.out, ← HE.out] at this; exact this⟩
set_option maxRecDepth 100000 in
set_option maxHeartbeats 2000000 in
theorem list_gl (g B : Nat) (v : Value) (l : List (Gl)) (a : Option Addr) (n c : Nat) (most : Int) (w0 w : World) (h : Buf g B v w v [] w) (hB : Below w0.heap.size w0 w) (hg : w0.heap.size < g) (hmost : w.cell? ⟨g, 12, none⟩ = some (.int .i64 most))
    (hn : l.length = n) (hr : Mod.Rows w0.heap.size w0 a 2 (l.map Gl.v)) (hlen : n ≤ 16384) (K : Nat) (eg : ∀ args w, (callFunc K args).run Tryz.prog w = .ok (.enter K args) w) (f : Gl → List Int)
    (hp : ∀ (W : World) (v : Value) (xs : List Int) (x : Gl), x ∈ l → Below w0.heap.size w0 W → Buf g B v W v xs W → xs.length ≤ 1000000000 → Calls Tryz.prog K #[.pointer (some ⟨g, 0, none⟩), .agg #[.bool x.mu, .slice x.l.a x.l.t.len x.l.c]] W (Puts g B v W (xs ++ f x)))
    (htot : (encU n ++ l.flatMap f).length ≤ 1000000000) :
    Calls Tryz.prog 166 #[.pointer (some ⟨g, 0, none⟩), .slice a n c, .func (.func K) #[.pointer (some ⟨g, 0, none⟩)] #[]] w (PutsC most g B v w (lstB f l)) := by
  have H := hid h
  have HG := hid hg
  have HB := hid hB
  have HR := hid hr
  have HN := hid hn
  have HP := hid hp
  have HT := hid htot
  have HM := hid hmost
  have c0 := h.c
  have HK : Hid (lstB f l = if l.length = 0 then [] else encU l.length ++ l.flatMap f) := rfl
  clear h hg hB hr hn hp htot hmost
  by_cases hz : n = 0
  · subst hz
    have HE := hid (show lstB f l = [] by rw [HK.out, if_pos HN.out])
    go_enter Tryz.func166, Tryz.ntmps166
    go_wp2
    refine bodyPost_ret (results_none rfl _ _ _) rfl ?_
    exact ⟨_, cut_all _ _, rfl, v, by rw [HE.out]; exact H.out⟩
  · have hni : ¬ (n : Int) = 0 := by omega
    have HE := hid (show lstB f l = encU n ++ l.flatMap f by rw [HK.out, if_neg (by rw [HN.out]; exact hz), HN.out])
    have hw := u32_id n (by omega) (by omega)
    have C := hid (number_any g B v [] n w H.out (by omega) (by omega) (by simp))
    rw [List.nil_append] at C
    obtain ⟨p, hp⟩ : ∃ p, encU n = p := ⟨_, rfl⟩
    rw [hp] at C HE HT
    clear hp HK
    go_enter Tryz.func166, Tryz.ntmps166
    go_wp2_with fail
    refine C.out.mono ?_
    rintro e1 w1 ⟨rfl, v1, hb⟩
    have HA1 := hid hb
    have HW1 := hid (hb.deep H.out.own HB.out HG.out)
    clear C hb c0 hw
    go_wp2
    go_loopw [20] (fun vi wr => ∃ (k : Nat) (v9 : Value), vi = .int .i64 k ∧ k ≤ n ∧ Hid (Buf g B v w v9 (p ++ (l.take k).flatMap f) wr) ∧ Hid (Below w0.heap.size w0 wr)) (fun vi _ => n - (intOf vi).toNat)
    case atStart => exact ⟨0, v1, rfl, Nat.zero_le _, hid (by simpa using HA1.out), HW1⟩
    case round =>
      clear HA1 HW1
      obtain ⟨k, v9, rfl, hk, HA, HW⟩ := hrel
      by_cases hlt : k < n
      · have hkl : k < l.length := by rw [HN.out]; exact hlt
        have hki : (k : Int) < (n : Int) := by omega
        obtain ⟨b, off, rfl, hb, hc⟩ := Mod.Rows.get HR.out hkl
        have HX := hid (List.getElem_mem hkl)
        have HST := hid (flat_step f hkl)
        have HLN := hid (show (p ++ (l.take k).flatMap f).length ≤ 1000000000 by have := HT.out; have := flat_mono f l k; rw [List.length_append] at *; omega)
        obtain ⟨x, hx⟩ : ∃ x, l[k] = x := ⟨_, rfl⟩
        rw [hx] at hc HX HST
        have c0 : wr.cell? ⟨b, off + k * 2, none⟩ = some (.bool x.mu) := (HW.out.cell (p := ⟨b, off + k * 2 + 0, none⟩) hb).trans (hc 0 (by omega) _ rfl)
        have c1 : wr.cell? ⟨b, off + k * 2 + 1, none⟩ = some (.slice x.l.a x.l.t.len x.l.c) := (HW.out.cell (p := ⟨b, off + k * 2 + 1, none⟩) hb).trans (hc 1 (by omega) _ rfl)
        clear hc hx hb hkl
        go_wp2_with fail
        have C := hid (HP.out (wr.alloc (.cells #[.bool x.mu, .slice x.l.a x.l.t.len x.l.c] 68)) v9 _ x HX.out (HW.out.trans (((Below.refl wr.heap.size wr).alloc (Nat.le_refl _) (.cells #[.bool x.mu, .slice x.l.a x.l.t.len x.l.c] 68)).mono HW.out.size)) (HA.out.lit (.cells #[.bool x.mu, .slice x.l.a x.l.t.len x.l.c] 68)).again HLN.out)
        refine C.out.mono ?_
        rintro e1 w2 ⟨rfl, v2, hb2⟩
        have HA2 := hid (show Buf g B v w v2 (p ++ (l.take (k + 1)).flatMap f) w2 by rw [HST.out, ← List.append_assoc]; exact (HA.out.lit (.cells #[.bool x.mu, .slice x.l.a x.l.t.len x.l.c] 68)).trans hb2)
        have HW2 := hid (HA2.out.deep H.out.own HB.out HG.out)
        obtain ⟨N, hN⟩ : ∃ N, (p ++ (l.take (k + 1)).flatMap f).length = N := ⟨_, rfl⟩
        obtain ⟨a2, q2, rfl⟩ := HA2.out.own.sliceN hN
        have d0 := HA2.out.c
        have d1 := (HA2.out.rest 12 (by decide)).trans HM.out
        have HD := hid hN
        clear C hb2 hN HA HW HX HST HLN c0 c1
        by_cases hgt : most < (N : Int)
        · have HP2 := hid (show Cut most (lstB f l) (p ++ (l.take (k + 1)).flatMap f) from by rw [HE.out]; exact ⟨take_pre f p l (k + 1), .inr (by rw [HD.out]; exact hgt)⟩)
          have HZ := hid (fun (m : Nat) => show Buf g B v w (.slice a2 N q2) (p ++ (l.take (k + 1)).flatMap f) (w2.drewN m) from HA2.out.on (drewnE (Below.refl w2.heap.size w2) m))
          go_wp2
          go_quiet (fail)
          go_wp2
          refine bodyPost_ret (results_none rfl _ _ _) rfl ?_
          exact ⟨_, HP2.out, rfl, _, HZ.out _⟩
        · skip
          go_wp2
          go_quiet (fail)
          go_wp2
          go_roundw
          case rel => exact ⟨k + 1, _, by go_num, by omega, hid (HA2.out.on (drewnE (Below.refl w2.heap.size w2) _)), drewnE HW2.out _⟩
          case measure => simp [intOf]; omega
      · obtain rfl : k = n := by omega
        have HQ := hid (show l.take k = l from List.take_of_length_le (by rw [HN.out]; exact Nat.le_refl _))
        go_wp2
        go_end0
        exact ⟨_, cut_all _ _, rfl, v9, by have := HA.out; rw [HQ.out, ← HE.out] at this; exact this⟩
set_option maxRecDepth 100000 in
set_option maxHeartbeats 2000000 in
theorem list_ex (g B : Nat) (v : Value) (l : List (Ex)) (a : Option Addr) (n c : Nat) (most : Int) (w0 w : World) (h : Buf g B v w v [] w) (hB : Below w0.heap.size w0 w) (hg : w0.heap.size < g) (hmost : w.cell? ⟨g, 12, none⟩ = some (.int .i64 most))
    (hn : l.length = n) (hr : Mod.Rows w0.heap.size w0 a 3 (l.map Ex.v)) (hlen : n ≤ 16384) (K : Nat) (eg : ∀ args w, (callFunc K args).run Tryz.prog w = .ok (.enter K args) w) (f : Ex → List Int)
    (hp : ∀ (W : World) (v : Value) (xs : List Int) (x : Ex), x ∈ l → Below w0.heap.size w0 W → Buf g B v W v xs W → xs.length ≤ 1000000000 → Calls Tryz.prog K #[.pointer (some ⟨g, 0, none⟩), .agg #[.string x.na, .int .i64 x.k, .int .u32 x.i]] W (Puts g B v W (xs ++ f x)))
    (htot : (encU n ++ l.flatMap f).length ≤ 1000000000) :
    Calls Tryz.prog 168 #[.pointer (some ⟨g, 0, none⟩), .slice a n c, .func (.func K) #[.pointer (some ⟨g, 0, none⟩)] #[]] w (PutsC most g B v w (lstB f l)) := by
  have H := hid h
  have HG := hid hg
  have HB := hid hB
  have HR := hid hr
  have HN := hid hn
  have HP := hid hp
  have HT := hid htot
  have HM := hid hmost
  have c0 := h.c
  have HK : Hid (lstB f l = if l.length = 0 then [] else encU l.length ++ l.flatMap f) := rfl
  clear h hg hB hr hn hp htot hmost
  by_cases hz : n = 0
  · subst hz
    have HE := hid (show lstB f l = [] by rw [HK.out, if_pos HN.out])
    go_enter Tryz.func168, Tryz.ntmps168
    go_wp2
    refine bodyPost_ret (results_none rfl _ _ _) rfl ?_
    exact ⟨_, cut_all _ _, rfl, v, by rw [HE.out]; exact H.out⟩
  · have hni : ¬ (n : Int) = 0 := by omega
    have HE := hid (show lstB f l = encU n ++ l.flatMap f by rw [HK.out, if_neg (by rw [HN.out]; exact hz), HN.out])
    have hw := u32_id n (by omega) (by omega)
    have C := hid (number_any g B v [] n w H.out (by omega) (by omega) (by simp))
    rw [List.nil_append] at C
    obtain ⟨p, hp⟩ : ∃ p, encU n = p := ⟨_, rfl⟩
    rw [hp] at C HE HT
    clear hp HK
    go_enter Tryz.func168, Tryz.ntmps168
    go_wp2_with fail
    refine C.out.mono ?_
    rintro e1 w1 ⟨rfl, v1, hb⟩
    have HA1 := hid hb
    have HW1 := hid (hb.deep H.out.own HB.out HG.out)
    clear C hb c0 hw
    go_wp2
    go_loopw [20] (fun vi wr => ∃ (k : Nat) (v9 : Value), vi = .int .i64 k ∧ k ≤ n ∧ Hid (Buf g B v w v9 (p ++ (l.take k).flatMap f) wr) ∧ Hid (Below w0.heap.size w0 wr)) (fun vi _ => n - (intOf vi).toNat)
    case atStart => exact ⟨0, v1, rfl, Nat.zero_le _, hid (by simpa using HA1.out), HW1⟩
    case round =>
      clear HA1 HW1
      obtain ⟨k, v9, rfl, hk, HA, HW⟩ := hrel
      by_cases hlt : k < n
      · have hkl : k < l.length := by rw [HN.out]; exact hlt
        have hki : (k : Int) < (n : Int) := by omega
        obtain ⟨b, off, rfl, hb, hc⟩ := Mod.Rows.get HR.out hkl
        have HX := hid (List.getElem_mem hkl)
        have HST := hid (flat_step f hkl)
        have HLN := hid (show (p ++ (l.take k).flatMap f).length ≤ 1000000000 by have := HT.out; have := flat_mono f l k; rw [List.length_append] at *; omega)
        obtain ⟨x, hx⟩ : ∃ x, l[k] = x := ⟨_, rfl⟩
        rw [hx] at hc HX HST
        have c0 : wr.cell? ⟨b, off + k * 3, none⟩ = some (.string x.na) := (HW.out.cell (p := ⟨b, off + k * 3 + 0, none⟩) hb).trans (hc 0 (by omega) _ rfl)
        have c1 : wr.cell? ⟨b, off + k * 3 + 1, none⟩ = some (.int .i64 x.k) := (HW.out.cell (p := ⟨b, off + k * 3 + 1, none⟩) hb).trans (hc 1 (by omega) _ rfl)
        have c2 : wr.cell? ⟨b, off + k * 3 + 2, none⟩ = some (.int .u32 x.i) := (HW.out.cell (p := ⟨b, off + k * 3 + 2, none⟩) hb).trans (hc 2 (by omega) _ rfl)
        clear hc hx hb hkl
        go_wp2_with fail
        have C := hid (HP.out (wr.alloc (.cells #[.string x.na, .int .i64 x.k, .int .u32 x.i] 75)) v9 _ x HX.out (HW.out.trans (((Below.refl wr.heap.size wr).alloc (Nat.le_refl _) (.cells #[.string x.na, .int .i64 x.k, .int .u32 x.i] 75)).mono HW.out.size)) (HA.out.lit (.cells #[.string x.na, .int .i64 x.k, .int .u32 x.i] 75)).again HLN.out)
        refine C.out.mono ?_
        rintro e1 w2 ⟨rfl, v2, hb2⟩
        have HA2 := hid (show Buf g B v w v2 (p ++ (l.take (k + 1)).flatMap f) w2 by rw [HST.out, ← List.append_assoc]; exact (HA.out.lit (.cells #[.string x.na, .int .i64 x.k, .int .u32 x.i] 75)).trans hb2)
        have HW2 := hid (HA2.out.deep H.out.own HB.out HG.out)
        obtain ⟨N, hN⟩ : ∃ N, (p ++ (l.take (k + 1)).flatMap f).length = N := ⟨_, rfl⟩
        obtain ⟨a2, q2, rfl⟩ := HA2.out.own.sliceN hN
        have d0 := HA2.out.c
        have d1 := (HA2.out.rest 12 (by decide)).trans HM.out
        have HD := hid hN
        clear C hb2 hN HA HW HX HST HLN c0 c1 c2
        by_cases hgt : most < (N : Int)
        · have HP2 := hid (show Cut most (lstB f l) (p ++ (l.take (k + 1)).flatMap f) from by rw [HE.out]; exact ⟨take_pre f p l (k + 1), .inr (by rw [HD.out]; exact hgt)⟩)
          have HZ := hid (fun (m : Nat) => show Buf g B v w (.slice a2 N q2) (p ++ (l.take (k + 1)).flatMap f) (w2.drewN m) from HA2.out.on (drewnE (Below.refl w2.heap.size w2) m))
          go_wp2
          go_quiet (fail)
          go_wp2
          refine bodyPost_ret (results_none rfl _ _ _) rfl ?_
          exact ⟨_, HP2.out, rfl, _, HZ.out _⟩
        · skip
          go_wp2
          go_quiet (fail)
          go_wp2
          go_roundw
          case rel => exact ⟨k + 1, _, by go_num, by omega, hid (HA2.out.on (drewnE (Below.refl w2.heap.size w2) _)), drewnE HW2.out _⟩
          case measure => simp [intOf]; omega
      · obtain rfl : k = n := by omega
        have HQ := hid (show l.take k = l from List.take_of_length_le (by rw [HN.out]; exact Nat.le_refl _))
        go_wp2
        go_end0
        exact ⟨_, cut_all _ _, rfl, v9, by have := HA.out; rw [HQ.out, ← HE.out] at this; exact this⟩
set_option maxRecDepth 100000 in
set_option maxHeartbeats 2000000 in
theorem list_el (g B : Nat) (v : Value) (l : List (El)) (a : Option Addr) (n c : Nat) (most : Int) (w0 w : World) (h : Buf g B v w v [] w) (hB : Below w0.heap.size w0 w) (hg : w0.heap.size < g) (hmost : w.cell? ⟨g, 12, none⟩ = some (.int .i64 most))
    (hn : l.length = n) (hr : Mod.Rows w0.heap.size w0 a 2 (l.map El.v)) (hlen : n ≤ 16384) (K : Nat) (eg : ∀ args w, (callFunc K args).run Tryz.prog w = .ok (.enter K args) w) (f : El → List Int)
    (hp : ∀ (W : World) (v : Value) (xs : List Int) (x : El), x ∈ l → Below w0.heap.size w0 W → Buf g B v W v xs W → xs.length ≤ 1000000000 → Calls Tryz.prog K #[.pointer (some ⟨g, 0, none⟩), .agg #[.slice x.l.a x.l.t.len x.l.c, .slice x.fa x.fs.length x.fc]] W (Puts g B v W (xs ++ f x)))
    (htot : (encU n ++ l.flatMap f).length ≤ 1000000000) :
    Calls Tryz.prog 170 #[.pointer (some ⟨g, 0, none⟩), .slice a n c, .func (.func K) #[.pointer (some ⟨g, 0, none⟩)] #[]] w (PutsC most g B v w (lstB f l)) := by
  have H := hid h
  have HG := hid hg
  have HB := hid hB
  have HR := hid hr
  have HN := hid hn
  have HP := hid hp
  have HT := hid htot
  have HM := hid hmost
  have c0 := h.c
  have HK : Hid (lstB f l = if l.length = 0 then [] else encU l.length ++ l.flatMap f) := rfl
  clear h hg hB hr hn hp htot hmost
  by_cases hz : n = 0
  · subst hz
    have HE := hid (show lstB f l = [] by rw [HK.out, if_pos HN.out])
    go_enter Tryz.func170, Tryz.ntmps170
    go_wp2
    refine bodyPost_ret (results_none rfl _ _ _) rfl ?_
    exact ⟨_, cut_all _ _, rfl, v, by rw [HE.out]; exact H.out⟩
  · have hni : ¬ (n : Int) = 0 := by omega
    have HE := hid (show lstB f l = encU n ++ l.flatMap f by rw [HK.out, if_neg (by rw [HN.out]; exact hz), HN.out])
    have hw := u32_id n (by omega) (by omega)
    have C := hid (number_any g B v [] n w H.out (by omega) (by omega) (by simp))
    rw [List.nil_append] at C
    obtain ⟨p, hp⟩ : ∃ p, encU n = p := ⟨_, rfl⟩
    rw [hp] at C HE HT
    clear hp HK
    go_enter Tryz.func170, Tryz.ntmps170
    go_wp2_with fail
    refine C.out.mono ?_
    rintro e1 w1 ⟨rfl, v1, hb⟩
    have HA1 := hid hb
    have HW1 := hid (hb.deep H.out.own HB.out HG.out)
    clear C hb c0 hw
    go_wp2
    go_loopw [20] (fun vi wr => ∃ (k : Nat) (v9 : Value), vi = .int .i64 k ∧ k ≤ n ∧ Hid (Buf g B v w v9 (p ++ (l.take k).flatMap f) wr) ∧ Hid (Below w0.heap.size w0 wr)) (fun vi _ => n - (intOf vi).toNat)
    case atStart => exact ⟨0, v1, rfl, Nat.zero_le _, hid (by simpa using HA1.out), HW1⟩
    case round =>
      clear HA1 HW1
      obtain ⟨k, v9, rfl, hk, HA, HW⟩ := hrel
      by_cases hlt : k < n
      · have hkl : k < l.length := by rw [HN.out]; exact hlt
        have hki : (k : Int) < (n : Int) := by omega
        obtain ⟨b, off, rfl, hb, hc⟩ := Mod.Rows.get HR.out hkl
        have HX := hid (List.getElem_mem hkl)
        have HST := hid (flat_step f hkl)
        have HLN := hid (show (p ++ (l.take k).flatMap f).length ≤ 1000000000 by have := HT.out; have := flat_mono f l k; rw [List.length_append] at *; omega)
        obtain ⟨x, hx⟩ : ∃ x, l[k] = x := ⟨_, rfl⟩
        rw [hx] at hc HX HST
        have c0 : wr.cell? ⟨b, off + k * 2, none⟩ = some (.slice x.l.a x.l.t.len x.l.c) := (HW.out.cell (p := ⟨b, off + k * 2 + 0, none⟩) hb).trans (hc 0 (by omega) _ rfl)
        have c1 : wr.cell? ⟨b, off + k * 2 + 1, none⟩ = some (.slice x.fa x.fs.length x.fc) := (HW.out.cell (p := ⟨b, off + k * 2 + 1, none⟩) hb).trans (hc 1 (by omega) _ rfl)
        clear hc hx hb hkl
        go_wp2_with fail
        have C := hid (HP.out (wr.alloc (.cells #[.slice x.l.a x.l.t.len x.l.c, .slice x.fa x.fs.length x.fc] 71)) v9 _ x HX.out (HW.out.trans (((Below.refl wr.heap.size wr).alloc (Nat.le_refl _) (.cells #[.slice x.l.a x.l.t.len x.l.c, .slice x.fa x.fs.length x.fc] 71)).mono HW.out.size)) (HA.out.lit (.cells #[.slice x.l.a x.l.t.len x.l.c, .slice x.fa x.fs.length x.fc] 71)).again HLN.out)
        refine C.out.mono ?_
        rintro e1 w2 ⟨rfl, v2, hb2⟩
        have HA2 := hid (show Buf g B v w v2 (p ++ (l.take (k + 1)).flatMap f) w2 by rw [HST.out, ← List.append_assoc]; exact (HA.out.lit (.cells #[.slice x.l.a x.l.t.len x.l.c, .slice x.fa x.fs.length x.fc] 71)).trans hb2)
        have HW2 := hid (HA2.out.deep H.out.own HB.out HG.out)
        obtain ⟨N, hN⟩ : ∃ N, (p ++ (l.take (k + 1)).flatMap f).length = N := ⟨_, rfl⟩
        obtain ⟨a2, q2, rfl⟩ := HA2.out.own.sliceN hN
        have d0 := HA2.out.c
        have d1 := (HA2.out.rest 12 (by decide)).trans HM.out
        have HD := hid hN
        clear C hb2 hN HA HW HX HST HLN c0 c1
        by_cases hgt : most < (N : Int)
        · have HP2 := hid (show Cut most (lstB f l) (p ++ (l.take (k + 1)).flatMap f) from by rw [HE.out]; exact ⟨take_pre f p l (k + 1), .inr (by rw [HD.out]; exact hgt)⟩)
          have HZ := hid (fun (m : Nat) => show Buf g B v w (.slice a2 N q2) (p ++ (l.take (k + 1)).flatMap f) (w2.drewN m) from HA2.out.on (drewnE (Below.refl w2.heap.size w2) m))
          go_wp2
          go_quiet (fail)
          go_wp2
          refine bodyPost_ret (results_none rfl _ _ _) rfl ?_
          exact ⟨_, HP2.out, rfl, _, HZ.out _⟩
        · skip
          go_wp2
          go_quiet (fail)
          go_wp2
          go_roundw
          case rel => exact ⟨k + 1, _, by go_num, by omega, hid (HA2.out.on (drewnE (Below.refl w2.heap.size w2) _)), drewnE HW2.out _⟩
          case measure => simp [intOf]; omega
      · obtain rfl : k = n := by omega
        have HQ := hid (show l.take k = l from List.take_of_length_le (by rw [HN.out]; exact Nat.le_refl _))
        go_wp2
        go_end0
        exact ⟨_, cut_all _ _, rfl, v9, by have := HA.out; rw [HQ.out, ← HE.out] at this; exact this⟩
set_option maxRecDepth 100000 in
set_option maxHeartbeats 2000000 in
theorem list_da (g B : Nat) (v : Value) (l : List (Da)) (a : Option Addr) (n c : Nat) (most : Int) (w0 w : World) (h : Buf g B v w v [] w) (hB : Below w0.heap.size w0 w) (hg : w0.heap.size < g) (hmost : w.cell? ⟨g, 12, none⟩ = some (.int .i64 most))
    (hn : l.length = n) (hr : Mod.Rows w0.heap.size w0 a 2 (l.map Da.v)) (hlen : n ≤ 16384) (K : Nat) (eg : ∀ args w, (callFunc K args).run Tryz.prog w = .ok (.enter K args) w) (f : Da → List Int)
    (hp : ∀ (W : World) (v : Value) (xs : List Int) (x : Da), x ∈ l → Below w0.heap.size w0 W → Buf g B v W v xs W → xs.length ≤ 1000000000 → Calls Tryz.prog K #[.pointer (some ⟨g, 0, none⟩), .agg #[.slice x.l.a x.l.t.len x.l.c, .slice x.ba x.bs.length x.bc]] W (Puts g B v W (xs ++ f x)))
    (htot : (encU n ++ l.flatMap f).length ≤ 1000000000) :
    Calls Tryz.prog 173 #[.pointer (some ⟨g, 0, none⟩), .slice a n c, .func (.func K) #[.pointer (some ⟨g, 0, none⟩)] #[]] w (PutsC most g B v w (lstB f l)) := by
  have H := hid h
  have HG := hid hg
  have HB := hid hB
  have HR := hid hr
  have HN := hid hn
  have HP := hid hp
  have HT := hid htot
  have HM := hid hmost
  have c0 := h.c
  have HK : Hid (lstB f l = if l.length = 0 then [] else encU l.length ++ l.flatMap f) := rfl
  clear h hg hB hr hn hp htot hmost
  by_cases hz : n = 0
  · subst hz
    have HE := hid (show lstB f l = [] by rw [HK.out, if_pos HN.out])
    go_enter Tryz.func173, Tryz.ntmps173
    go_wp2
    refine bodyPost_ret (results_none rfl _ _ _) rfl ?_
    exact ⟨_, cut_all _ _, rfl, v, by rw [HE.out]; exact H.out⟩
  · have hni : ¬ (n : Int) = 0 := by omega
    have HE := hid (show lstB f l = encU n ++ l.flatMap f by rw [HK.out, if_neg (by rw [HN.out]; exact hz), HN.out])
    have hw := u32_id n (by omega) (by omega)
    have C := hid (number_any g B v [] n w H.out (by omega) (by omega) (by simp))
    rw [List.nil_append] at C
    obtain ⟨p, hp⟩ : ∃ p, encU n = p := ⟨_, rfl⟩
    rw [hp] at C HE HT
    clear hp HK
    go_enter Tryz.func173, Tryz.ntmps173
    go_wp2_with fail
    refine C.out.mono ?_
    rintro e1 w1 ⟨rfl, v1, hb⟩
    have HA1 := hid hb
    have HW1 := hid (hb.deep H.out.own HB.out HG.out)
    clear C hb c0 hw
    go_wp2
    go_loopw [20] (fun vi wr => ∃ (k : Nat) (v9 : Value), vi = .int .i64 k ∧ k ≤ n ∧ Hid (Buf g B v w v9 (p ++ (l.take k).flatMap f) wr) ∧ Hid (Below w0.heap.size w0 wr)) (fun vi _ => n - (intOf vi).toNat)
    case atStart => exact ⟨0, v1, rfl, Nat.zero_le _, hid (by simpa using HA1.out), HW1⟩
    case round =>
      clear HA1 HW1
      obtain ⟨k, v9, rfl, hk, HA, HW⟩ := hrel
      by_cases hlt : k < n
      · have hkl : k < l.length := by rw [HN.out]; exact hlt
        have hki : (k : Int) < (n : Int) := by omega
        obtain ⟨b, off, rfl, hb, hc⟩ := Mod.Rows.get HR.out hkl
        have HX := hid (List.getElem_mem hkl)
        have HST := hid (flat_step f hkl)
        have HLN := hid (show (p ++ (l.take k).flatMap f).length ≤ 1000000000 by have := HT.out; have := flat_mono f l k; rw [List.length_append] at *; omega)
        obtain ⟨x, hx⟩ : ∃ x, l[k] = x := ⟨_, rfl⟩
        rw [hx] at hc HX HST
        have c0 : wr.cell? ⟨b, off + k * 2, none⟩ = some (.slice x.l.a x.l.t.len x.l.c) := (HW.out.cell (p := ⟨b, off + k * 2 + 0, none⟩) hb).trans (hc 0 (by omega) _ rfl)
        have c1 : wr.cell? ⟨b, off + k * 2 + 1, none⟩ = some (.slice x.ba x.bs.length x.bc) := (HW.out.cell (p := ⟨b, off + k * 2 + 1, none⟩) hb).trans (hc 1 (by omega) _ rfl)
        clear hc hx hb hkl
        go_wp2_with fail
        have C := hid (HP.out (wr.alloc (.cells #[.slice x.l.a x.l.t.len x.l.c, .slice x.ba x.bs.length x.bc] 47)) v9 _ x HX.out (HW.out.trans (((Below.refl wr.heap.size wr).alloc (Nat.le_refl _) (.cells #[.slice x.l.a x.l.t.len x.l.c, .slice x.ba x.bs.length x.bc] 47)).mono HW.out.size)) (HA.out.lit (.cells #[.slice x.l.a x.l.t.len x.l.c, .slice x.ba x.bs.length x.bc] 47)).again HLN.out)
        refine C.out.mono ?_
        rintro e1 w2 ⟨rfl, v2, hb2⟩
        have HA2 := hid (show Buf g B v w v2 (p ++ (l.take (k + 1)).flatMap f) w2 by rw [HST.out, ← List.append_assoc]; exact (HA.out.lit (.cells #[.slice x.l.a x.l.t.len x.l.c, .slice x.ba x.bs.length x.bc] 47)).trans hb2)
        have HW2 := hid (HA2.out.deep H.out.own HB.out HG.out)
        obtain ⟨N, hN⟩ : ∃ N, (p ++ (l.take (k + 1)).flatMap f).length = N := ⟨_, rfl⟩
        obtain ⟨a2, q2, rfl⟩ := HA2.out.own.sliceN hN
        have d0 := HA2.out.c
        have d1 := (HA2.out.rest 12 (by decide)).trans HM.out
        have HD := hid hN
        clear C hb2 hN HA HW HX HST HLN c0 c1
        by_cases hgt : most < (N : Int)
        · have HP2 := hid (show Cut most (lstB f l) (p ++ (l.take (k + 1)).flatMap f) from by rw [HE.out]; exact ⟨take_pre f p l (k + 1), .inr (by rw [HD.out]; exact hgt)⟩)
          have HZ := hid (fun (m : Nat) => show Buf g B v w (.slice a2 N q2) (p ++ (l.take (k + 1)).flatMap f) (w2.drewN m) from HA2.out.on (drewnE (Below.refl w2.heap.size w2) m))
          go_wp2
          go_quiet (fail)
          go_wp2
          refine bodyPost_ret (results_none rfl _ _ _) rfl ?_
          exact ⟨_, HP2.out, rfl, _, HZ.out _⟩
        · skip
          go_wp2
          go_quiet (fail)
          go_wp2
          go_roundw
          case rel => exact ⟨k + 1, _, by go_num, by omega, hid (HA2.out.on (drewnE (Below.refl w2.heap.size w2) _)), drewnE HW2.out _⟩
          case measure => simp [intOf]; omega
      · obtain rfl : k = n := by omega
        have HQ := hid (show l.take k = l from List.take_of_length_le (by rw [HN.out]; exact Nat.le_refl _))
        go_wp2
        go_end0
        exact ⟨_, cut_all _ _, rfl, v9, by have := HA.out; rw [HQ.out, ← HE.out] at this; exact this⟩
end Go.Proofs.YtepbjkkakfpjgaaGreatDoor.Enc

/-
  ENCODE: what is known of a module that may be; the writer in memory.
-/
namespace Go.Proofs.YtepbjkkakfpjgaaGreatDoor.Enc
open Go.RowKit Go.Proofs.YtepbjkkakfpjgaaGreatDoor.Leb Go.Proofs.YtepbjkkakfpjgaaGreatDoor.Instr Go.Proofs.YtepbjkkakfpjgaaGreatDoor.Mod
open Go.Proofs.YtepbjkkakfpjgaaGreatDoor.Body (encL codeL)

/-- Numbers as large as their types let them be. -/
structure Sized (m : Md) : Prop where
  n0 : ∀ l ∈ m.tb ++ m.me, 0 ≤ l.n
  ei : ∀ e ∈ m.ex, 0 ≤ e.i ∧ e.i < 4294967296
  ef : ∀ e ∈ m.el, ∀ z ∈ e.fs, 0 ≤ z ∧ z < 4294967296
  db : ∀ d ∈ m.da, ∀ z ∈ d.bs, 0 ≤ z ∧ z < 256
  sn : 0 ≤ m.sn ∧ m.sn < 4294967296
/-- A module that may be, in memory. -/
structure Fine (w0 : World) (m : Md) : Prop where
  at_ : ModAt w0.heap.size w0 m
  few : m.few
  nam : Nams w0
  tab : Utf.Tabs w0
  chk : m.check = 0
  enc : ∀ l ∈ m.codes, (encL l.t).length ≤ 90000
  siz : Sized m
theorem check_zero {m : Md} (h : m.check = 0) : m.crowded = false ∧ codeP m.codes = 0 ∧ m.anyName longS = false ∧ m.heavy = false ∧ m.wrong = false := by
  unfold Md.check at h
  cases h1 : m.crowded
  · rw [h1] at h
    simp only [Bool.false_eq_true, if_false] at h
    by_cases h2 : codeP m.codes = 141
    · rw [if_pos h2] at h; simp at h
    · rw [if_neg h2] at h
      cases h3 : m.anyName longS
      · rw [h3] at h
        simp only [Bool.false_eq_true, if_false] at h
        cases h4 : m.heavy
        · rw [h4] at h
          simp only [Bool.false_eq_true, if_false] at h
          by_cases h5 : codeP m.codes = 2
          · rw [if_pos h5] at h; simp at h
          · rw [if_neg h5] at h
            cases h6 : m.wrong
            · exact ⟨rfl, by have := codeP_cases m.codes; omega, rfl, rfl, rfl⟩
            · rw [h6] at h; simp at h
        · rw [h4] at h; simp at h
      · rw [h3] at h; simp at h
  · rw [h1] at h; simp at h
theorem wrong_parts {m : Md} (h : m.wrong = false) : m.anyName noText = false ∧ m.ty.any wrongT = false ∧ m.im.any wrongI = false ∧ m.fu.any wrongF = false ∧ m.ex.any wrongE = false ∧ m.tb.any (beyond 1048576) = false ∧ m.me.any (beyond 65536) = false ∧ (m.st = false → m.sn = 0) := by
  unfold Md.wrong at h
  simp only [Bool.or_eq_false_iff] at h
  obtain ⟨⟨⟨⟨⟨⟨⟨h1, h2⟩, h3⟩, h4⟩, h5⟩, h6⟩, h7⟩, h8⟩ := h
  refine ⟨h1, h2, h3, h4, h5, h6, h7, fun hs => ?_⟩
  rw [hs] at h8
  simpa using h8
theorem any_not {α : Type} {p : α → Bool} {l : List α} (h : l.any p = false) {x : α} (hx : x ∈ l) : p x = false := by
  rw [List.any_eq_false] at h
  simpa using h x hx
structure Fine.Facts (m : Md) : Prop where
  ty : ∀ x ∈ m.ty, Kind.okType x.1 x.2 = true
  im : ∀ x ∈ m.im, x.mo.size ≤ 1000 ∧ x.na.size ≤ 1000 ∧ noText x.mo = false ∧ noText x.na = false ∧ 0 ≤ x.ty ∧ x.ty ≤ 2147483647
  fu : ∀ x ∈ m.fu, 0 ≤ x.ty ∧ x.ty ≤ 2147483647 ∧ 0 ≤ x.lo ∧ x.lo ≤ 50000
  tb : ∀ x ∈ m.tb, Kind.okLim x.n x.x x.c 1048576 = true
  me : ∀ x ∈ m.me, Kind.okLim x.n x.x x.c 65536 = true
  ex : ∀ x ∈ m.ex, x.na.size ≤ 1000 ∧ noText x.na = false ∧ 0 ≤ x.k ∧ x.k ≤ 3
  el : ∀ x ∈ m.el, x.fs.length ≤ 16384
  da : sumB m.da ≤ 1048576
  ck : ∀ l ∈ m.codes, checkP l.t = 0
  lens : m.ty.length ≤ 16384 ∧ m.im.length ≤ 16384 ∧ m.fu.length ≤ 16384 ∧ m.tb.length ≤ 1 ∧ m.me.length ≤ 1 ∧ m.gl.length ≤ 16384 ∧ m.ex.length ≤ 16384 ∧ m.el.length ≤ 16384 ∧ m.da.length ≤ 16384
  st : m.st = false → m.sn = 0
theorem facts_of {m : Md} (h : m.check = 0) : Fine.Facts m := by
  obtain ⟨h1, h2, h3, h4, h5⟩ := check_zero h
  obtain ⟨k1, k2, k3, k4, k5, k6, k7, k8⟩ := wrong_parts h5
  have e3 := h3
  have e1 := k1
  unfold Md.anyName at e3 e1
  simp only [Bool.or_eq_false_iff] at e3 e1
  have hc := h1
  unfold Md.crowded at hc
  simp only [Bool.or_eq_false_iff, decide_eq_false_iff_not] at hc
  obtain ⟨⟨⟨⟨⟨⟨⟨⟨⟨c1, c2⟩, c3⟩, c4⟩, c5⟩, c6⟩, c7⟩, c8⟩, c9⟩, c10⟩ := hc
  refine ⟨fun x hx => ?_, fun x hx => ?_, fun x hx => ?_, fun x hx => ?_, fun x hx => ?_, fun x hx => ?_, fun x hx => ?_, ?_, (codeP_zero _).1 h2, ⟨by omega, by omega, by omega, by omega, by omega, by omega, by omega, by omega, by omega⟩, k8⟩
  · have := any_not k2 hx
    unfold wrongT at this
    simpa using this
  · have a1 := any_not e3.1 hx
    have a2 := any_not e1.1 hx
    have a3 := any_not k3 hx
    simp only [Bool.or_eq_false_iff] at a1 a2
    unfold wrongI wrongN at a3
    unfold longS at a1
    simp only [Bool.or_eq_false_iff, decide_eq_false_iff_not] at a1 a3
    exact ⟨by omega, by omega, a2.1, a2.2, by omega, by omega⟩
  · have a3 := any_not k4 hx
    unfold wrongF wrongN at a3
    simp only [Bool.or_eq_false_iff, decide_eq_false_iff_not] at a3
    exact ⟨by omega, by omega, by omega, by omega⟩
  · have := any_not k6 hx
    unfold beyond at this
    simpa using this
  · have := any_not k7 hx
    unfold beyond at this
    simpa using this
  · have a1 := any_not e3.2 hx
    have a2 := any_not e1.2 hx
    have a3 := any_not k5 hx
    unfold wrongE at a3
    unfold longS at a1
    simp only [Bool.or_eq_false_iff, decide_eq_false_iff_not] at a1 a3
    exact ⟨by omega, a2, by omega, by omega⟩
  · have := any_not c8 hx
    simpa using this
  · unfold Md.heavy at h4
    have := of_decide_eq_false h4
    omega
theorem bytes_few {l : List Da} {d : Da} (h : d ∈ l) : d.bs.length ≤ sumB l := by
  induction l with
  | nil => cases h
  | cons x r ih =>
    rcases List.mem_cons.1 h with rfl | h
    · simp [sumB]
    · have := ih h
      simp only [sumB]; omega
theorem okLim_le {n x most : Int} {c : Bool} (h : Kind.okLim n x c most = true) (h0 : 0 ≤ n) (hm : most ≤ 4294967295) : (0 ≤ n ∧ n ≤ 4294967295) ∧ (0 ≤ x ∧ x ≤ 4294967295) := by
  unfold Kind.okLim at h
  cases c
  · simp at h; omega
  · simp at h; omega
/-- The writer in block g: its buffer, the module, how much is of use. -/
structure Wr (w0 : World) (m : Md) (g B : Nat) (most : Int) (v : Value) (zs : List Int) (W : World) : Prop where
  buf : Buf g B v W v zs W
  low : Below w0.heap.size w0 W
  hg : w0.heap.size < g
  box : ∀ j x, m.v[j]? = some x → W.cell? ⟨g, 1 + j, none⟩ = some x
  most : W.cell? ⟨g, 12, none⟩ = some (.int .i64 most)
theorem mem_fu {m : Md} {x : Mod.Fn} (h : x ∈ m.fu) : x.l ∈ m.codes := by unfold Md.codes; exact List.mem_append_left _ (List.mem_map.2 ⟨_, h, rfl⟩)
theorem mem_gl {m : Md} {x : Gl} (h : x ∈ m.gl) : x.l ∈ m.codes := by unfold Md.codes; exact List.mem_append_right _ (List.mem_append_left _ (List.mem_map.2 ⟨_, h, rfl⟩))
theorem mem_el {m : Md} {x : El} (h : x ∈ m.el) : x.l ∈ m.codes := by unfold Md.codes; exact List.mem_append_right _ (List.mem_append_right _ (List.mem_append_left _ (List.mem_map.2 ⟨_, h, rfl⟩)))
theorem mem_da {m : Md} {x : Da} (h : x ∈ m.da) : x.l ∈ m.codes := by unfold Md.codes; exact List.mem_append_right _ (List.mem_append_right _ (List.mem_append_right _ (List.mem_map.2 ⟨_, h, rfl⟩)))
end Go.Proofs.YtepbjkkakfpjgaaGreatDoor.Enc

/-
  ENCODE: unlike modules have unlike bytes (plain).
-/
namespace Go.Proofs.YtepbjkkakfpjgaaGreatDoor.Enc
open Go.RowKit Go.Proofs.YtepbjkkakfpjgaaGreatDoor.Leb Go.Proofs.YtepbjkkakfpjgaaGreatDoor.Instr Go.Proofs.YtepbjkkakfpjgaaGreatDoor.Mod
open Go.Proofs.YtepbjkkakfpjgaaGreatDoor.Body (encL codeL encP MayT codeQ code_there locL)

/-- What x says ahead of other bytes is told by the bytes. -/
def Sep {α β : Type} (f : α → List Int) (g : α → β) (P : α → Prop) : Prop := ∀ x y r s, P x → P y → f x ++ r = f y ++ s → g x = g y ∧ r = s
theorem encU_sep {n m : Int} {r s : List Int} (h0 : 0 ≤ n) (h1 : n < 4294967296) (k0 : 0 ≤ m) (k1 : m < 4294967296) (h : encU n ++ r = encU m ++ s) : n = m ∧ r = s := by
  have a := getL_encU h0 h1 [] r
  have b := getL_encU k0 k1 [] s
  rw [List.nil_append, h] at a
  rw [List.nil_append, a] at b
  have e : n = m := by
    have := congrArg (fun x => x.1) b
    simpa using this
  subst e
  exact ⟨rfl, List.append_cancel_left h⟩
theorem words_sep {n m : Int} {r s : List Int} (h0 : 0 ≤ n) (h1 : n ≤ 255) (k0 : 0 ≤ m) (k1 : m ≤ 255) (h : Kind.wordsL n ++ r = Kind.wordsL m ++ s) : n = m ∧ r = s := by
  unfold Kind.wordsL at h
  rw [List.append_assoc, List.append_assoc] at h
  obtain ⟨rfl, h⟩ := encU_sep h0 (by omega) k0 (by omega) h
  exact ⟨rfl, List.append_cancel_left h⟩
theorem name_sep {a b : ByteArray} {r s : List Int} (h1 : a.size ≤ 1000) (h2 : b.size ≤ 1000) (h : nameB a ++ r = nameB b ++ s) : a = b ∧ r = s := by
  unfold nameB at h
  rw [List.append_assoc, List.append_assoc] at h
  obtain ⟨e, h⟩ := encU_sep (by omega) (by omega) (by omega) (by omega) h
  obtain ⟨e1, e2⟩ := List.append_inj h (by rw [numsOf_length, numsOf_length]; omega)
  exact ⟨by rw [← str_numsOf a, e1, str_numsOf], e2⟩
/-- Instructions that may be written. -/
def MayL (l : Lst) : Prop := MayT l.t ∧ l.t.deep ≤ 900 ∧ l.t.count ≤ 262144
theorem code_sep {n m : Int} {t u : Il} {r s : List Int} (h1 : MayT t ∧ t.deep ≤ 900 ∧ t.count ≤ 262144) (h2 : MayT u ∧ u.deep ≤ 900 ∧ u.count ≤ 262144) (n0 : 0 ≤ n ∧ n ≤ 50000) (m0 : 0 ≤ m ∧ m ≤ 50000) (h : codeL n t ++ r = codeL m u ++ s) : (n = m ∧ t.bare = u.bare) ∧ r = s := by
  have a := code_there (zs := codeL n t ++ r) (r := r) (p := 0) (Nat.zero_le _) n0.1 n0.2 h1.1 h1.2.1 h1.2.2 rfl
  have b := code_there (zs := codeL m u ++ s) (r := s) (p := 0) (Nat.zero_le _) m0.1 m0.2 h2.1 h2.2.1 h2.2.2 rfl
  rw [h, b] at a
  have e1 : m = n := congrArg (fun x => x.1) a
  have e2 : u.bare = t.bare := congrArg (fun x => x.2.2.2) a
  have e3 : ((0 + (codeL m u).length : Nat) : Int) = ((0 + (codeL n t).length : Nat) : Int) := congrArg (fun x => x.2.1) a
  obtain ⟨_, e4⟩ := List.append_inj h (by omega)
  exact ⟨⟨e1.symm, e2.symm⟩, e4⟩
theorem ins_sep {x y : Lst} {r s : List Int} (h1 : MayL x) (h2 : MayL y) (h : insB x ++ r = insB y ++ s) : x.t.bare = y.t.bare ∧ r = s := by
  have e : codeL 0 x.t ++ r = codeL 0 y.t ++ s := by
    unfold codeL
    rw [List.append_assoc, List.append_assoc]
    exact congrArg _ h
  obtain ⟨⟨_, e1⟩, e2⟩ := code_sep h1 h2 (by omega) (by omega) e
  exact ⟨e1, e2⟩
theorem flat_sep {α β : Type} {f : α → List Int} {g : α → β} {P : α → Prop} (hs : Sep f g P) : ∀ (l l' : List α) (r s : List Int), l.length = l'.length → (∀ x ∈ l, P x) → (∀ x ∈ l', P x) → l.flatMap f ++ r = l'.flatMap f ++ s → l.map g = l'.map g ∧ r = s
  | [], [], r, s, _, _, _, h => ⟨rfl, by simpa using h⟩
  | [], y :: l', _, _, h, _, _, _ => by simp at h
  | x :: l, [], _, _, h, _, _, _ => by simp at h
  | x :: l, y :: l', r, s, hl, h1, h2, h => by
    rw [List.flatMap_cons, List.flatMap_cons, List.append_assoc, List.append_assoc] at h
    obtain ⟨e1, e2⟩ := hs x y _ _ (h1 x (by simp)) (h2 y (by simp)) h
    obtain ⟨e3, e4⟩ := flat_sep hs l l' r s (by simpa using hl) (fun z hz => h1 z (by simp [hz])) (fun z hz => h2 z (by simp [hz])) e2
    exact ⟨by rw [List.map_cons, List.map_cons, e1, e3], e4⟩
theorem lst_sep {α β : Type} {f : α → List Int} {g : α → β} {P : α → Prop} (hs : Sep f g P) {l l' : List α} (n1 : l.length < 4294967296) (n2 : l'.length < 4294967296) (h1 : ∀ x ∈ l, P x) (h2 : ∀ x ∈ l', P x) (h : lstB f l = lstB f l') : l.map g = l'.map g := by
  unfold lstB at h
  have ne : ∀ (n : Int), encU n ≠ [] := fun n e => by
    have h1 := congrArg List.length e
    rw [encU_length, List.length_nil] at h1
    have := (sizeU_pos n).1
    omega
  by_cases z1 : l.length = 0
  · by_cases z2 : l'.length = 0
    · rw [List.eq_nil_of_length_eq_zero z1, List.eq_nil_of_length_eq_zero z2]
    · rw [if_pos z1, if_neg z2] at h
      exact absurd (List.append_eq_nil_iff.1 h.symm).1 (ne _)
  · by_cases z2 : l'.length = 0
    · rw [if_neg z1, if_pos z2] at h
      exact absurd (List.append_eq_nil_iff.1 h).1 (ne _)
    · rw [if_neg z1, if_neg z2] at h
      obtain ⟨e1, e2⟩ := encU_sep (by omega) (by omega) (by omega) (by omega) h
      exact (flat_sep hs l l' [] [] (by omega) h1 h2 (by simpa using e2)).1
theorem fs_sep {a b : List Int} {r s : List Int} (n1 : a.length ≤ 16384) (n2 : b.length ≤ 16384) (h1 : ∀ z ∈ a, 0 ≤ z ∧ z < 4294967296) (h2 : ∀ z ∈ b, 0 ≤ z ∧ z < 4294967296) (h : encU a.length ++ (a.flatMap encU ++ r) = encU b.length ++ (b.flatMap encU ++ s)) : a = b ∧ r = s := by
  obtain ⟨e1, e2⟩ := encU_sep (by omega) (by omega) (by omega) (by omega) h
  have := flat_sep (f := encU) (g := id) (P := fun z => 0 ≤ z ∧ z < 4294967296) (fun x y r s hx hy h => encU_sep hx.1 hx.2 hy.1 hy.2 h) a b r s (by omega) h1 h2 e2
  simpa using this
/-- All that is asked of a module's items. -/
structure Clear (m : Md) : Prop where
  F : Fine.Facts m
  S : Sized m
  L : ∀ l ∈ m.codes, MayL l
  E : ∀ l ∈ m.codes, (encL l.t).length ≤ 90000
theorem Fine.clear {w : World} {m : Md} (h : Fine w m) : Clear m := by
  have F := facts_of h.chk
  refine ⟨F, h.siz, fun l hl => ?_, h.enc⟩
  obtain ⟨_, c2, c3, _⟩ := Go.Proofs.YtepbjkkakfpjgaaGreatDoor.Body.check_parts (F.ck l hl)
  exact ⟨Go.Proofs.YtepbjkkakfpjgaaGreatDoor.Body.mayT_list (h.at_.ls l hl) (F.ck l hl), c3, c2⟩
theorem map_two {α β γ δ : Type} {f1 : α → β} {f2 : α → γ} {g : α → δ} (hg : ∀ x y, f1 x = f1 y → f2 x = f2 y → g x = g y) : ∀ {l l' : List α}, l.map f1 = l'.map f1 → l.map f2 = l'.map f2 → l.map g = l'.map g
  | [], [], _, _ => rfl
  | [], y :: l', h, _ => by simp at h
  | x :: l, [], h, _ => by simp at h
  | x :: l, y :: l', h1, h2 => by
    simp only [List.map_cons, List.cons.injEq] at h1 h2 ⊢
    exact ⟨hg x y h1.1 h2.1, map_two hg h1.2 h2.2⟩
theorem lim_sep {x y : Li} {r s : List Int} {most : Int} (hm : most ≤ 4294967295) (h1 : Kind.okLim x.n x.x x.c most = true) (k1 : 0 ≤ x.n) (h2 : Kind.okLim y.n y.x y.c most = true) (k2 : 0 ≤ y.n) (h : meB x ++ r = meB y ++ s) : x = y ∧ r = s := by
  obtain ⟨a1, a2⟩ := okLim_le h1 k1 hm
  obtain ⟨b1, b2⟩ := okLim_le h2 k2 hm
  obtain ⟨n, m, c⟩ := x
  obtain ⟨n', m', c'⟩ := y
  dsimp only at *
  unfold meB Kind.limL at h
  unfold Kind.okLim at h1 h2
  cases c <;> cases c'
  · simp only [Bool.false_eq_true, if_false, List.cons_append, List.cons.injEq, true_and, Bool.and_eq_true, decide_eq_true_eq] at h h1 h2
    obtain ⟨e1, e2⟩ := encU_sep a1.1 (by omega) b1.1 (by omega) h
    exact ⟨by rw [e1, h1.2, h2.2], e2⟩
  · simp at h
  · simp at h
  · simp only [if_true, List.cons_append, List.cons.injEq, true_and, List.append_assoc] at h
    obtain ⟨e1, e2⟩ := encU_sep a1.1 (by omega) b1.1 (by omega) h
    obtain ⟨e3, e4⟩ := encU_sep a2.1 (by omega) b2.1 (by omega) e2
    exact ⟨by rw [e1, e3], e4⟩
theorem codeL_few {n : Int} {t : Il} (h : (encL t).length ≤ 90000) : (codeL n t).length < 4294967296 := by
  have := (Go.Proofs.YtepbjkkakfpjgaaGreatDoor.Body.loc_len n).1
  unfold codeL
  rw [List.length_append]
  show _ + (encL t ++ [11]).length < _
  simp
  omega
theorem secs_same {a b : Md} (A : Clear a) (B : Clear b) (h : ∀ k, k < 11 → secB a k = secB b k) : a.bare = b.bare := by
  have lens := A.F.lens
  have lens' := B.F.lens
  rw [same_iff]
  have e0 := h 0 (by omega)
  have e1 := h 1 (by omega)
  have e2 := h 2 (by omega)
  have e3 := h 3 (by omega)
  have e4 := h 4 (by omega)
  have e5 := h 5 (by omega)
  have e6 := h 6 (by omega)
  have e7 := h 7 (by omega)
  have e8 := h 8 (by omega)
  have e9 := h 9 (by omega)
  have e10 := h 10 (by omega)
  simp only [secB] at e0 e1 e2 e3 e4 e5 e6 e7 e8 e9 e10
  have idm : ∀ {α : Type} {l l' : List α}, l.map id = l'.map id → l = l' := fun h => by simpa using h
  have hst : a.st = b.st ∧ (a.st = true → a.sn = b.sn) := by
    have ne : ∀ (n : Int), encU n ≠ [] := fun n e => by
      have h1 := congrArg List.length e
      rw [encU_length, List.length_nil] at h1
      have := (sizeU_pos n).1
      omega
    cases h1 : a.st <;> cases h2 : b.st
    · exact ⟨rfl, fun h => by cases h⟩
    · rw [h1, h2] at e7; simp only [Bool.false_eq_true, if_false, if_true] at e7; exact absurd e7.symm (ne _)
    · rw [h1, h2] at e7; simp only [Bool.false_eq_true, if_false, if_true] at e7; exact absurd e7 (ne _)
    · rw [h1, h2] at e7
      simp only [if_true] at e7
      exact ⟨rfl, fun _ => (encU_sep (r := []) (s := []) A.S.sn.1 A.S.sn.2 B.S.sn.1 B.S.sn.2 (by simpa using e7)).1⟩
  refine ⟨idm ?_, idm ?_, ?_, idm ?_, idm ?_, ?_, idm ?_, hst.1, ?_, ?_, ?_⟩
  · refine lst_sep (P := fun x => Kind.okType x.1 x.2 = true) (fun x y r s hx hy h => ?_) (by omega) (by omega) A.F.ty B.F.ty e0
    obtain ⟨p, q, hp, hq, hp1, hq1⟩ := Kind.okType_nat hx
    obtain ⟨p', q', hp', hq', hp1', hq1'⟩ := Kind.okType_nat hy
    unfold tyB Kind.typeL at h
    simp only [List.cons_append, List.cons.injEq, true_and, List.append_assoc] at h
    obtain ⟨k1, k2⟩ := words_sep (by omega) (by omega) (by omega) (by omega) h
    obtain ⟨k3, k4⟩ := words_sep (by omega) (by omega) (by omega) (by omega) k2
    exact ⟨Prod.ext k1 k3, k4⟩
  · refine lst_sep (P := fun x => x.mo.size ≤ 1000 ∧ x.na.size ≤ 1000 ∧ 0 ≤ x.ty ∧ x.ty ≤ 2147483647) (fun x y r s hx hy h => ?_) (by omega) (by omega) (fun x hx => ⟨(A.F.im x hx).1, (A.F.im x hx).2.1, (A.F.im x hx).2.2.2.2⟩) (fun x hx => ⟨(B.F.im x hx).1, (B.F.im x hx).2.1, (B.F.im x hx).2.2.2.2⟩) e1
    unfold impB at h
    simp only [List.append_assoc] at h
    obtain ⟨k1, k2⟩ := name_sep hx.1 hy.1 h
    obtain ⟨k3, k4⟩ := name_sep hx.2.1 hy.2.1 k2
    simp only [List.cons_append, List.cons.injEq, true_and] at k4
    obtain ⟨k5, k6⟩ := encU_sep hx.2.2.1 (by omega) hy.2.2.1 (by omega) k4
    obtain ⟨m, n, t⟩ := x
    obtain ⟨m', n', t'⟩ := y
    dsimp only at k1 k3 k5
    exact ⟨by rw [k1, k3, k5], k6⟩
  · have f1 := lst_sep (g := fun x : Mod.Fn => x.ty) (P := fun x => 0 ≤ x.ty ∧ x.ty ≤ 2147483647) (fun x y r s hx hy h => encU_sep hx.1 (show x.ty < 4294967296 by omega) hy.1 (show y.ty < 4294967296 by omega) h) (by omega) (by omega) (fun x hx => ⟨(A.F.fu x hx).1, (A.F.fu x hx).2.1⟩) (fun x hx => ⟨(B.F.fu x hx).1, (B.F.fu x hx).2.1⟩) e2
    have f2 := lst_sep (g := fun x : Mod.Fn => (x.lo, x.l.t.bare)) (P := fun x => MayL x.l ∧ (0 ≤ x.lo ∧ x.lo ≤ 50000) ∧ (codeL x.lo x.l.t).length < 4294967296) (fun x y r s hx hy h => by
      unfold coB at h
      rw [List.append_assoc, List.append_assoc] at h
      obtain ⟨_, k2⟩ := encU_sep (by omega) (by have := hx.2.2; omega) (by omega) (by have := hy.2.2; omega) h
      obtain ⟨k3, k4⟩ := code_sep hx.1 hy.1 hx.2.1 hy.2.1 k2
      exact ⟨Prod.ext k3.1 k3.2, k4⟩) (by omega) (by omega) (fun x hx => ⟨A.L _ (mem_fu hx), (A.F.fu x hx).2.2, codeL_few (A.E _ (mem_fu hx))⟩) (fun x hx => ⟨B.L _ (mem_fu hx), (B.F.fu x hx).2.2, codeL_few (B.E _ (mem_fu hx))⟩) e9
    refine map_two (fun x y g1 g2 => ?_) f1 f2
    have g3 : x.lo = y.lo := congrArg Prod.fst g2
    have g4 : x.l.t.bare = y.l.t.bare := congrArg Prod.snd g2
    unfold Mod.Fn.bare Lst.bare
    rw [g1, g3, g4]
  · refine lst_sep (P := fun x : Li => Kind.okLim x.n x.x x.c 1048576 = true ∧ 0 ≤ x.n) (fun x y r s hx hy h => ?_) (by omega) (by omega) (fun x hx => ⟨A.F.tb x hx, A.S.n0 x (List.mem_append_left _ hx)⟩) (fun x hx => ⟨B.F.tb x hx, B.S.n0 x (List.mem_append_left _ hx)⟩) e3
    unfold tbB at h
    simp only [List.cons_append, List.cons.injEq, true_and] at h
    exact lim_sep (by omega) hx.1 hx.2 hy.1 hy.2 h
  · exact lst_sep (P := fun x : Li => Kind.okLim x.n x.x x.c 65536 = true ∧ 0 ≤ x.n) (fun x y r s hx hy h => lim_sep (by omega) hx.1 hx.2 hy.1 hy.2 h) (by omega) (by omega) (fun x hx => ⟨A.F.me x hx, A.S.n0 x (List.mem_append_right _ hx)⟩) (fun x hx => ⟨B.F.me x hx, B.S.n0 x (List.mem_append_right _ hx)⟩) e4
  · refine lst_sep (P := fun x : Gl => MayL x.l) (fun x y r s hx hy h => ?_) (by omega) (by omega) (fun x hx => A.L _ (mem_gl hx)) (fun x hx => B.L _ (mem_gl hx)) e5
    unfold glB at h
    simp only [List.cons_append, List.cons.injEq, true_and] at h
    obtain ⟨k1, k2⟩ := h
    obtain ⟨k3, k4⟩ := ins_sep hx hy k2
    have k5 : x.mu = y.mu := by
      cases h1 : x.mu <;> cases h2 : y.mu <;> simp [h1, h2] at k1 ⊢
    exact ⟨by unfold Gl.bare Lst.bare; rw [k3, k5], k4⟩
  · refine lst_sep (P := fun x : Ex => x.na.size ≤ 1000 ∧ 0 ≤ x.i ∧ x.i < 4294967296) (fun x y r s hx hy h => ?_) (by omega) (by omega) (fun x hx => ⟨(A.F.ex x hx).1, A.S.ei x hx⟩) (fun x hx => ⟨(B.F.ex x hx).1, B.S.ei x hx⟩) e6
    unfold exB at h
    simp only [List.append_assoc] at h
    obtain ⟨k1, k2⟩ := name_sep hx.1 hy.1 h
    simp only [List.cons_append, List.cons.injEq] at k2
    obtain ⟨k3, k4⟩ := k2
    obtain ⟨k5, k6⟩ := encU_sep hx.2.1 hx.2.2 hy.2.1 hy.2.2 k4
    obtain ⟨n, k, i⟩ := x
    obtain ⟨n', k', i'⟩ := y
    dsimp only at k1 k3 k5
    exact ⟨by rw [k1, k3, k5], k6⟩
  · cases h1 : a.st
    · rw [A.F.st h1, B.F.st (by rw [← hst.1]; exact h1)]
    · exact hst.2 h1
  · refine lst_sep (P := fun x : El => MayL x.l ∧ x.fs.length ≤ 16384 ∧ ∀ z ∈ x.fs, 0 ≤ z ∧ z < 4294967296) (fun x y r s hx hy h => ?_) (by omega) (by omega) (fun x hx => ⟨A.L _ (mem_el hx), A.F.el x hx, A.S.ef x hx⟩) (fun x hx => ⟨B.L _ (mem_el hx), B.F.el x hx, B.S.ef x hx⟩) e8
    unfold elB at h
    simp only [List.cons_append, List.cons.injEq, true_and, List.append_assoc] at h
    obtain ⟨k1, k2⟩ := ins_sep hx.1 hy.1 h
    obtain ⟨k3, k4⟩ := fs_sep hx.2.1 hy.2.1 hx.2.2 hy.2.2 k2
    exact ⟨by unfold El.bare Lst.bare; rw [k1, k3], k4⟩
  · refine lst_sep (P := fun x : Da => MayL x.l ∧ x.bs.length ≤ 1048576) (fun x y r s hx hy h => ?_) (by omega) (by omega) (fun x hx => ⟨A.L _ (mem_da hx), by have := bytes_few hx; have := A.F.da; omega⟩) (fun x hx => ⟨B.L _ (mem_da hx), by have := bytes_few hx; have := B.F.da; omega⟩) e10
    unfold daB at h
    simp only [List.cons_append, List.cons.injEq, true_and, List.append_assoc] at h
    obtain ⟨k1, k2⟩ := ins_sep hx.1 hy.1 h
    obtain ⟨k3, k4⟩ := encU_sep (by omega) (by have := hx.2; omega) (by omega) (by have := hy.2; omega) k2
    obtain ⟨k5, k6⟩ := List.append_inj k4 (by omega)
    exact ⟨by unfold Da.bare Lst.bare; rw [k1, k5], k6⟩
/-- The sections from the (11 - j)-th on. -/
def tailB (m : Md) : Nat → List Int
  | 0 => []
  | j + 1 => pieceB m (10 - j) ++ tailB m j
theorem mod_tail (m : Md) : modB m = headB ++ tailB m 11 := by
  unfold modB uptoB
  rw [show List.range 11 = [0, 1, 2, 3, 4, 5, 6, 7, 8, 9, 10] from rfl]
  simp only [List.flatMap_cons, List.flatMap_nil, tailB]
theorem head_tail (m : Md) : ∀ j, j ≤ 11 → tailB m j = [] ∨ ∃ (k : Nat) (r : List Int), 11 - j ≤ k ∧ tailB m j = ((k + 1 : Nat) : Int) :: r
  | 0, _ => .inl rfl
  | j + 1, hj => by
    by_cases hs : secB m (10 - j) = []
    · have e : tailB m (j + 1) = tailB m j := by
        show pieceB m (10 - j) ++ tailB m j = _
        unfold pieceB; rw [if_pos hs]; rfl
      rw [e]
      rcases head_tail m j (by omega) with h | ⟨k, r, hk, h⟩
      · exact .inl h
      · exact .inr ⟨k, r, by omega, h⟩
    · refine .inr ⟨10 - j, (encU (secB m (10 - j)).length ++ secB m (10 - j)) ++ tailB m j, by omega, ?_⟩
      show pieceB m (10 - j) ++ tailB m j = _
      unfold pieceB; rw [if_neg hs]; rfl
theorem tails_same {a b : Md} (ha : ∀ k, k < 11 → (secB a k).length < 4294967296) (hb : ∀ k, k < 11 → (secB b k).length < 4294967296) : ∀ j, j ≤ 11 → tailB a j = tailB b j → ∀ k, 11 - j ≤ k → k < 11 → secB a k = secB b k
  | 0, _, _, k, h1, h2 => by omega
  | j + 1, hj, h, k, h1, h2 => by
    have h' : pieceB a (10 - j) ++ tailB a j = pieceB b (10 - j) ++ tailB b j := h
    have go : tailB a j = tailB b j → secB a (10 - j) = secB b (10 - j) → secB a k = secB b k := fun e1 e2 => by
      by_cases hk : k = 10 - j
      · rw [hk]; exact e2
      · exact tails_same ha hb j (by omega) e1 k (by omega) h2
    have cross : ∀ (m n : Md) (r : List Int), tailB m j = ((10 - j + 1 : Nat) : Int) :: r → False := fun m n r e => by
      rcases head_tail m j (by omega) with h | ⟨k, r', hk, h⟩
      · rw [h] at e; cases e
      · rw [h] at e
        simp only [List.cons.injEq] at e
        omega
    unfold pieceB at h'
    by_cases s1 : secB a (10 - j) = []
    · by_cases s2 : secB b (10 - j) = []
      · rw [if_pos s1, if_pos s2] at h'
        exact go (by simpa using h') (by rw [s1, s2])
      · rw [if_pos s1, if_neg s2] at h'
        exact (cross a b _ (by simpa using h')).elim
    · by_cases s2 : secB b (10 - j) = []
      · rw [if_neg s1, if_pos s2] at h'
        exact (cross b a _ (by simpa using h'.symm)).elim
      · rw [if_neg s1, if_neg s2] at h'
        simp only [List.cons_append, List.cons.injEq, true_and, List.append_assoc] at h'
        obtain ⟨e1, e2⟩ := encU_sep (by omega) (by have := ha (10 - j) (by omega); omega) (by omega) (by have := hb (10 - j) (by omega); omega) h'
        obtain ⟨e3, e4⟩ := List.append_inj e2 (by omega)
        exact go e4 e3
theorem mod_apart {a b : Md} (A : Clear a) (B : Clear b) (ha : ∀ k, k < 11 → (secB a k).length < 4294967296) (hb : ∀ k, k < 11 → (secB b k).length < 4294967296) : modB a = modB b ↔ a.bare = b.bare := by
  refine ⟨fun h => secs_same A B (fun k hk => tails_same ha hb 11 (Nat.le_refl _) ?_ k (by omega) hk), modB_core⟩
  rw [mod_tail, mod_tail] at h
  exact List.append_cancel_left h
end Go.Proofs.YtepbjkkakfpjgaaGreatDoor.Enc
