import Derived.Test.YtepbjkkakfpjgaaGreatDoorEt13
import Derived.Test.YtepbjkkakfpjgaaGreatDoorEt10
import Derived.Test.YtepbjkkakfpjgaaGreatDoorEt11
import Derived.Test.YtepbjkkakfpjgaaGreatDoorEt12
import Derived.Test.YtepbjkkakfpjgaaGreatDoorEt01
import Derived.Test.YtepbjkkakfpjgaaGreatDoorEt06
import Derived.Test.YtepbjkkakfpjgaaGreatDoorEt09
import Derived.Test.YtepbjkkakfpjgaaGreatDoorEt08
import Derived.Deep.QuietTactic
import Derived.Shelf.Abstract
import Derived.BigQuiet
namespace Go.Proofs.YtepbjkkakfpjgaaGreatDoor.Enc
open Go.RowKit Go.Shelf Leb Go.Proofs.YtepbjkkakfpjgaaGreatDoor.Instr Go.Proofs.YtepbjkkakfpjgaaGreatDoor.Mod
theorem flat_mono {α : Type} (f : α → List Int) (l : List α) (k : Nat) : ((l.take k).flatMap f).length ≤ (l.flatMap f).length := by
 have : l.flatMap f = (l.take k).flatMap f ++ (l.drop k).flatMap f := by rw [← List.flatMap_append, List.take_append_drop]
 rw [this, List.length_append]; omega
def Cut (most : Int) (ys zs : List Int) : Prop := zs <+: ys ∧ (zs = ys ∨ most < (zs.length : Int))
theorem cut_all (most : Int) (ys : List Int) : Cut most ys ys := ⟨List.prefix_rfl, .inl rfl⟩
theorem Cut.whole {most : Int} {ys zs : List Int} (h : Cut most ys zs) (hl : (ys.length : Int) ≤ most) : zs = ys := by
 rcases h.2 with e | e
 ·exact e
 ·have := h.1.length_le; omega
def PutsC (most : Int) (g B : Nat) (v : Value) (w : World) (ys : List Int) (e : Ending) (w' : World) : Prop := ∃ zs, Cut most ys zs ∧ Puts g B v w zs e w'
theorem take_pre {α : Type} (f : α → List Int) (p : List Int) (l : List α) (k : Nat) : p ++ (l.take k).flatMap f <+: p ++ l.flatMap f := by
 refine (List.prefix_append_right_inj p).2 ?_
 have : l.flatMap f = (l.take k).flatMap f ++ (l.drop k).flatMap f := by rw [← List.flatMap_append, List.take_append_drop]
 rw [this]
 exact List.prefix_append _ _
theorem drewnE {B : Nat} {a w : World} (h : Below B a w) (n : Nat) : Below B a (w.drewN n) := ⟨h.os, h.tape, h.output, h.size, h.block⟩
set_option maxRecDepth 100000 in
set_option maxHeartbeats 2000000 in
theorem list_ty (g B : Nat) (v : Value) (l : List (Int × Int)) (a : Option Addr) (n c : Nat) (most : Int) (w0 w : World) (h : Buf g B v w v [] w) (hB : Below w0.heap.size w0 w) (hg : w0.heap.size < g) (hmost : w.cell? ⟨g, 12, none⟩ = some (.int .i64 most))
  (hn : l.length = n) (hr : Mod.Rows w0.heap.size w0 a 2 (l.map tyV)) (hlen : n ≤ 16384) (K : Nat) (eg : ∀ args w, (callFunc K args).run Tryz.prog w = .ok (.enter K args) w) (f : Int × Int → List Int)
  (hp : ∀ (W : World) (v : Value) (xs : List Int) (x : Int × Int), x ∈ l → Below w0.heap.size w0 W → Buf g B v W v xs W → xs.length ≤ 1000000000 → Calls Tryz.prog K #[.pointer (some ⟨g, 0, none⟩), .agg #[.int .i64 x.1, .int .i64 x.2]] W (Puts g B v W (xs ++ f x)))
  (htot : (encU n ++ l.flatMap f).length ≤ 1000000000) :
  Calls Tryz.prog 157 #[.pointer (some ⟨g, 0, none⟩), .slice a n c, .func (.func K) #[.pointer (some ⟨g, 0, none⟩)] #[]] w (PutsC most g B v w (lstB f l)) := by
 have H := hid h
 have HG := hid hg
 have HB := hid hB
 have HR := hid hr
 have HN := hid hn
 have HP := hid hp
 have HT := hid htot
 have HM := hid hmost
 have c0 := h.c
 have HK : Hid (lstB f l = if l.length = 0 then [] else encU l.length ++ l.flatMap f) := rfl
 clear h hg hB hr hn hp htot hmost
 by_cases hz : n = 0
 ·subst hz
  have HE := hid (show lstB f l = [] by rw [HK.out, if_pos HN.out])
  go_enter Tryz.func157, Tryz.ntmps157
  go_wp2
  refine bodyPost_ret (results_none rfl _ _ _) rfl ?_
  exact ⟨_, cut_all _ _, rfl, v, by rw [HE.out]; exact H.out⟩
 ·have hni : ¬ (n : Int) = 0 := by omega
  have HE := hid (show lstB f l = encU n ++ l.flatMap f by rw [HK.out, if_neg (by rw [HN.out]; exact hz), HN.out])
  have hw := u32_id n (by omega) (by omega)
  have C := hid (number_any g B v [] n w H.out (by omega) (by omega) (by simp))
  rw [List.nil_append] at C
  obtain ⟨p, hp⟩ : ∃ p, encU n = p := ⟨_, rfl⟩
  rw [hp] at C HE HT
  clear hp HK
  go_enter Tryz.func157, Tryz.ntmps157
  go_wp2_with fail
  refine C.out.mono ?_
  rintro e1 w1 ⟨rfl, v1, hb⟩
  have HA1 := hid hb
  have HW1 := hid (hb.deep H.out.own HB.out HG.out)
  clear C hb c0 hw
  go_wp2
  go_loopw [20] (fun vi wr => ∃ (k : Nat) (v9 : Value), vi = .int .i64 k ∧ k ≤ n ∧ Hid (Buf g B v w v9 (p ++ (l.take k).flatMap f) wr) ∧ Hid (Below w0.heap.size w0 wr)) (fun vi _ => n - (intOf vi).toNat)
  case atStart => exact ⟨0, v1, rfl, Nat.zero_le _, hid (by simpa using HA1.out), HW1⟩
  case round =>
   clear HA1 HW1
   obtain ⟨k, v9, rfl, hk, HA, HW⟩ := hrel
   by_cases hlt : k < n
   ·have hkl : k < l.length := by rw [HN.out]; exact hlt
    have hki : (k : Int) < (n : Int) := by omega
    obtain ⟨b, off, rfl, hb, hc⟩ := Mod.Rows.get HR.out hkl
    have HX := hid (List.getElem_mem hkl)
    have HST := hid (flat_step f hkl)
    have HLN := hid (show (p ++ (l.take k).flatMap f).length ≤ 1000000000 by have := HT.out; have := flat_mono f l k; rw [List.length_append] at *; omega)
    obtain ⟨x, hx⟩ : ∃ x, l[k] = x := ⟨_, rfl⟩
    rw [hx] at hc HX HST
    have c0 : wr.cell? ⟨b, off + k * 2, none⟩ = some (.int .i64 x.1) := (HW.out.cell (p := ⟨b, off + k * 2 + 0, none⟩) hb).trans (hc 0 (by omega) _ rfl)
    have c1 : wr.cell? ⟨b, off + k * 2 + 1, none⟩ = some (.int .i64 x.2) := (HW.out.cell (p := ⟨b, off + k * 2 + 1, none⟩) hb).trans (hc 1 (by omega) _ rfl)
    clear hc hx hb hkl
    go_wp2_with fail
    have C := hid (HP.out (wr.alloc (.cells #[.int .i64 x.1, .int .i64 x.2] 50)) v9 _ x HX.out (HW.out.trans (((Below.refl wr.heap.size wr).alloc (Nat.le_refl _) (.cells #[.int .i64 x.1, .int .i64 x.2] 50)).mono HW.out.size)) (HA.out.lit (.cells #[.int .i64 x.1, .int .i64 x.2] 50)).again HLN.out)
    refine C.out.mono ?_
    rintro e1 w2 ⟨rfl, v2, hb2⟩
    have HA2 := hid (show Buf g B v w v2 (p ++ (l.take (k + 1)).flatMap f) w2 by rw [HST.out, ← List.append_assoc]; exact (HA.out.lit (.cells #[.int .i64 x.1, .int .i64 x.2] 50)).trans hb2)
    have HW2 := hid (HA2.out.deep H.out.own HB.out HG.out)
    obtain ⟨N, hN⟩ : ∃ N, (p ++ (l.take (k + 1)).flatMap f).length = N := ⟨_, rfl⟩
    obtain ⟨a2, q2, rfl⟩ := HA2.out.own.sliceN hN
    have d0 := HA2.out.c
    have d1 := (HA2.out.rest 12 (by decide)).trans HM.out
    have HD := hid hN
    clear C hb2 hN HA HW HX HST HLN c0 c1
    by_cases hgt : most < (N : Int)
    ·have HP2 := hid (show Cut most (lstB f l) (p ++ (l.take (k + 1)).flatMap f) from by rw [HE.out]; exact ⟨take_pre f p l (k + 1), .inr (by rw [HD.out]; exact hgt)⟩)
     have HZ := hid (fun (m : Nat) => show Buf g B v w (.slice a2 N q2) (p ++ (l.take (k + 1)).flatMap f) (w2.drewN m) from HA2.out.on (drewnE (Below.refl w2.heap.size w2) m))
     go_wp2
     go_quiet (fail)
     go_wp2
     refine bodyPost_ret (results_none rfl _ _ _) rfl ?_
     exact ⟨_, HP2.out, rfl, _, HZ.out _⟩
    ·skip
     go_wp2
     go_quiet (fail)
     go_wp2
     go_roundw
     case rel => exact ⟨k + 1, _, by go_num, by omega, hid (HA2.out.on (drewnE (Below.refl w2.heap.size w2) _)), drewnE HW2.out _⟩
     case measure => simp [intOf]; omega
   ·obtain rfl : k = n := by omega
    have HQ := hid (show l.take k = l from List.take_of_length_le (by rw [HN.out]; exact Nat.le_refl _))
    go_wp2
    go_end0
    exact ⟨_, cut_all _ _, rfl, v9, by have := HA.out; rw [HQ.out, ← HE.out] at this; exact this⟩
set_option maxRecDepth 100000 in
set_option maxHeartbeats 2000000 in
theorem list_im (g B : Nat) (v : Value) (l : List (Imp)) (a : Option Addr) (n c : Nat) (most : Int) (w0 w : World) (h : Buf g B v w v [] w) (hB : Below w0.heap.size w0 w) (hg : w0.heap.size < g) (hmost : w.cell? ⟨g, 12, none⟩ = some (.int .i64 most))
  (hn : l.length = n) (hr : Mod.Rows w0.heap.size w0 a 3 (l.map Imp.v)) (hlen : n ≤ 16384) (K : Nat) (eg : ∀ args w, (callFunc K args).run Tryz.prog w = .ok (.enter K args) w) (f : Imp → List Int)
  (hp : ∀ (W : World) (v : Value) (xs : List Int) (x : Imp), x ∈ l → Below w0.heap.size w0 W → Buf g B v W v xs W → xs.length ≤ 1000000000 → Calls Tryz.prog K #[.pointer (some ⟨g, 0, none⟩), .agg #[.string x.mo, .string x.na, .int .i64 x.ty]] W (Puts g B v W (xs ++ f x)))
  (htot : (encU n ++ l.flatMap f).length ≤ 1000000000) :
  Calls Tryz.prog 159 #[.pointer (some ⟨g, 0, none⟩), .slice a n c, .func (.func K) #[.pointer (some ⟨g, 0, none⟩)] #[]] w (PutsC most g B v w (lstB f l)) := by
 have H := hid h
 have HG := hid hg
 have HB := hid hB
 have HR := hid hr
 have HN := hid hn
 have HP := hid hp
 have HT := hid htot
 have HM := hid hmost
 have c0 := h.c
 have HK : Hid (lstB f l = if l.length = 0 then [] else encU l.length ++ l.flatMap f) := rfl
 clear h hg hB hr hn hp htot hmost
 by_cases hz : n = 0
 ·subst hz
  have HE := hid (show lstB f l = [] by rw [HK.out, if_pos HN.out])
  go_enter Tryz.func159, Tryz.ntmps159
  go_wp2
  refine bodyPost_ret (results_none rfl _ _ _) rfl ?_
  exact ⟨_, cut_all _ _, rfl, v, by rw [HE.out]; exact H.out⟩
 ·have hni : ¬ (n : Int) = 0 := by omega
  have HE := hid (show lstB f l = encU n ++ l.flatMap f by rw [HK.out, if_neg (by rw [HN.out]; exact hz), HN.out])
  have hw := u32_id n (by omega) (by omega)
  have C := hid (number_any g B v [] n w H.out (by omega) (by omega) (by simp))
  rw [List.nil_append] at C
  obtain ⟨p, hp⟩ : ∃ p, encU n = p := ⟨_, rfl⟩
  rw [hp] at C HE HT
  clear hp HK
  go_enter Tryz.func159, Tryz.ntmps159
  go_wp2_with fail
  refine C.out.mono ?_
  rintro e1 w1 ⟨rfl, v1, hb⟩
  have HA1 := hid hb
  have HW1 := hid (hb.deep H.out.own HB.out HG.out)
  clear C hb c0 hw
  go_wp2
  go_loopw [20] (fun vi wr => ∃ (k : Nat) (v9 : Value), vi = .int .i64 k ∧ k ≤ n ∧ Hid (Buf g B v w v9 (p ++ (l.take k).flatMap f) wr) ∧ Hid (Below w0.heap.size w0 wr)) (fun vi _ => n - (intOf vi).toNat)
  case atStart => exact ⟨0, v1, rfl, Nat.zero_le _, hid (by simpa using HA1.out), HW1⟩
  case round =>
   clear HA1 HW1
   obtain ⟨k, v9, rfl, hk, HA, HW⟩ := hrel
   by_cases hlt : k < n
   ·have hkl : k < l.length := by rw [HN.out]; exact hlt
    have hki : (k : Int) < (n : Int) := by omega
    obtain ⟨b, off, rfl, hb, hc⟩ := Mod.Rows.get HR.out hkl
    have HX := hid (List.getElem_mem hkl)
    have HST := hid (flat_step f hkl)
    have HLN := hid (show (p ++ (l.take k).flatMap f).length ≤ 1000000000 by have := HT.out; have := flat_mono f l k; rw [List.length_append] at *; omega)
    obtain ⟨x, hx⟩ : ∃ x, l[k] = x := ⟨_, rfl⟩
    rw [hx] at hc HX HST
    have c0 : wr.cell? ⟨b, off + k * 3, none⟩ = some (.string x.mo) := (HW.out.cell (p := ⟨b, off + k * 3 + 0, none⟩) hb).trans (hc 0 (by omega) _ rfl)
    have c1 : wr.cell? ⟨b, off + k * 3 + 1, none⟩ = some (.string x.na) := (HW.out.cell (p := ⟨b, off + k * 3 + 1, none⟩) hb).trans (hc 1 (by omega) _ rfl)
    have c2 : wr.cell? ⟨b, off + k * 3 + 2, none⟩ = some (.int .i64 x.ty) := (HW.out.cell (p := ⟨b, off + k * 3 + 2, none⟩) hb).trans (hc 2 (by omega) _ rfl)
    clear hc hx hb hkl
    go_wp2_with fail
    have C := hid (HP.out (wr.alloc (.cells #[.string x.mo, .string x.na, .int .i64 x.ty] 73)) v9 _ x HX.out (HW.out.trans (((Below.refl wr.heap.size wr).alloc (Nat.le_refl _) (.cells #[.string x.mo, .string x.na, .int .i64 x.ty] 73)).mono HW.out.size)) (HA.out.lit (.cells #[.string x.mo, .string x.na, .int .i64 x.ty] 73)).again HLN.out)
    refine C.out.mono ?_
    rintro e1 w2 ⟨rfl, v2, hb2⟩
    have HA2 := hid (show Buf g B v w v2 (p ++ (l.take (k + 1)).flatMap f) w2 by rw [HST.out, ← List.append_assoc]; exact (HA.out.lit (.cells #[.string x.mo, .string x.na, .int .i64 x.ty] 73)).trans hb2)
    have HW2 := hid (HA2.out.deep H.out.own HB.out HG.out)
    obtain ⟨N, hN⟩ : ∃ N, (p ++ (l.take (k + 1)).flatMap f).length = N := ⟨_, rfl⟩
    obtain ⟨a2, q2, rfl⟩ := HA2.out.own.sliceN hN
    have d0 := HA2.out.c
    have d1 := (HA2.out.rest 12 (by decide)).trans HM.out
    have HD := hid hN
    clear C hb2 hN HA HW HX HST HLN c0 c1 c2
    by_cases hgt : most < (N : Int)
    ·have HP2 := hid (show Cut most (lstB f l) (p ++ (l.take (k + 1)).flatMap f) from by rw [HE.out]; exact ⟨take_pre f p l (k + 1), .inr (by rw [HD.out]; exact hgt)⟩)
     have HZ := hid (fun (m : Nat) => show Buf g B v w (.slice a2 N q2) (p ++ (l.take (k + 1)).flatMap f) (w2.drewN m) from HA2.out.on (drewnE (Below.refl w2.heap.size w2) m))
     go_wp2
     go_quiet (fail)
     go_wp2
     refine bodyPost_ret (results_none rfl _ _ _) rfl ?_
     exact ⟨_, HP2.out, rfl, _, HZ.out _⟩
    ·skip
     go_wp2
     go_quiet (fail)
     go_wp2
     go_roundw
     case rel => exact ⟨k + 1, _, by go_num, by omega, hid (HA2.out.on (drewnE (Below.refl w2.heap.size w2) _)), drewnE HW2.out _⟩
     case measure => simp [intOf]; omega
   ·obtain rfl : k = n := by omega
    have HQ := hid (show l.take k = l from List.take_of_length_le (by rw [HN.out]; exact Nat.le_refl _))
    go_wp2
    go_end0
    exact ⟨_, cut_all _ _, rfl, v9, by have := HA.out; rw [HQ.out, ← HE.out] at this; exact this⟩
set_option maxRecDepth 100000 in
set_option maxHeartbeats 2000000 in
theorem list_fu (g B : Nat) (v : Value) (l : List (Mod.Fn)) (a : Option Addr) (n c : Nat) (most : Int) (w0 w : World) (h : Buf g B v w v [] w) (hB : Below w0.heap.size w0 w) (hg : w0.heap.size < g) (hmost : w.cell? ⟨g, 12, none⟩ = some (.int .i64 most))
  (hn : l.length = n) (hr : Mod.Rows w0.heap.size w0 a 3 (l.map Mod.Fn.v)) (hlen : n ≤ 16384) (K : Nat) (eg : ∀ args w, (callFunc K args).run Tryz.prog w = .ok (.enter K args) w) (f : Mod.Fn → List Int)
  (hp : ∀ (W : World) (v : Value) (xs : List Int) (x : Mod.Fn), x ∈ l → Below w0.heap.size w0 W → Buf g B v W v xs W → xs.length ≤ 1000000000 → Calls Tryz.prog K #[.pointer (some ⟨g, 0, none⟩), .agg #[.int .i64 x.ty, .int .i64 x.lo, .slice x.l.a x.l.t.len x.l.c]] W (Puts g B v W (xs ++ f x)))
  (htot : (encU n ++ l.flatMap f).length ≤ 1000000000) :
  Calls Tryz.prog 161 #[.pointer (some ⟨g, 0, none⟩), .slice a n c, .func (.func K) #[.pointer (some ⟨g, 0, none⟩)] #[]] w (PutsC most g B v w (lstB f l)) := by
 have H := hid h
 have HG := hid hg
 have HB := hid hB
 have HR := hid hr
 have HN := hid hn
 have HP := hid hp
 have HT := hid htot
 have HM := hid hmost
 have c0 := h.c
 have HK : Hid (lstB f l = if l.length = 0 then [] else encU l.length ++ l.flatMap f) := rfl
 clear h hg hB hr hn hp htot hmost
 by_cases hz : n = 0
 ·subst hz
  have HE := hid (show lstB f l = [] by rw [HK.out, if_pos HN.out])
  go_enter Tryz.func161, Tryz.ntmps161
  go_wp2
  refine bodyPost_ret (results_none rfl _ _ _) rfl ?_
  exact ⟨_, cut_all _ _, rfl, v, by rw [HE.out]; exact H.out⟩
 ·have hni : ¬ (n : Int) = 0 := by omega
  have HE := hid (show lstB f l = encU n ++ l.flatMap f by rw [HK.out, if_neg (by rw [HN.out]; exact hz), HN.out])
  have hw := u32_id n (by omega) (by omega)
  have C := hid (number_any g B v [] n w H.out (by omega) (by omega) (by simp))
  rw [List.nil_append] at C
  obtain ⟨p, hp⟩ : ∃ p, encU n = p := ⟨_, rfl⟩
  rw [hp] at C HE HT
  clear hp HK
  go_enter Tryz.func161, Tryz.ntmps161
  go_wp2_with fail
  refine C.out.mono ?_
  rintro e1 w1 ⟨rfl, v1, hb⟩
  have HA1 := hid hb
  have HW1 := hid (hb.deep H.out.own HB.out HG.out)
  clear C hb c0 hw
  go_wp2
  go_loopw [20] (fun vi wr => ∃ (k : Nat) (v9 : Value), vi = .int .i64 k ∧ k ≤ n ∧ Hid (Buf g B v w v9 (p ++ (l.take k).flatMap f) wr) ∧ Hid (Below w0.heap.size w0 wr)) (fun vi _ => n - (intOf vi).toNat)
  case atStart => exact ⟨0, v1, rfl, Nat.zero_le _, hid (by simpa using HA1.out), HW1⟩
  case round =>
   clear HA1 HW1
   obtain ⟨k, v9, rfl, hk, HA, HW⟩ := hrel
   by_cases hlt : k < n
   ·have hkl : k < l.length := by rw [HN.out]; exact hlt
    have hki : (k : Int) < (n : Int) := by omega
    obtain ⟨b, off, rfl, hb, hc⟩ := Mod.Rows.get HR.out hkl
    have HX := hid (List.getElem_mem hkl)
    have HST := hid (flat_step f hkl)
    have HLN := hid (show (p ++ (l.take k).flatMap f).length ≤ 1000000000 by have := HT.out; have := flat_mono f l k; rw [List.length_append] at *; omega)
    obtain ⟨x, hx⟩ : ∃ x, l[k] = x := ⟨_, rfl⟩
    rw [hx] at hc HX HST
    have c0 : wr.cell? ⟨b, off + k * 3, none⟩ = some (.int .i64 x.ty) := (HW.out.cell (p := ⟨b, off + k * 3 + 0, none⟩) hb).trans (hc 0 (by omega) _ rfl)
    have c1 : wr.cell? ⟨b, off + k * 3 + 1, none⟩ = some (.int .i64 x.lo) := (HW.out.cell (p := ⟨b, off + k * 3 + 1, none⟩) hb).trans (hc 1 (by omega) _ rfl)
    have c2 : wr.cell? ⟨b, off + k * 3 + 2, none⟩ = some (.slice x.l.a x.l.t.len x.l.c) := (HW.out.cell (p := ⟨b, off + k * 3 + 2, none⟩) hb).trans (hc 2 (by omega) _ rfl)
    clear hc hx hb hkl
    go_wp2_with fail
    have C := hid (HP.out (wr.alloc (.cells #[.int .i64 x.ty, .int .i64 x.lo, .slice x.l.a x.l.t.len x.l.c] 66)) v9 _ x HX.out (HW.out.trans (((Below.refl wr.heap.size wr).alloc (Nat.le_refl _) (.cells #[.int .i64 x.ty, .int .i64 x.lo, .slice x.l.a x.l.t.len x.l.c] 66)).mono HW.out.size)) (HA.out.lit (.cells #[.int .i64 x.ty, .int .i64 x.lo, .slice x.l.a x.l.t.len x.l.c] 66)).again HLN.out)
    refine C.out.mono ?_
    rintro e1 w2 ⟨rfl, v2, hb2⟩
    have HA2 := hid (show Buf g B v w v2 (p ++ (l.take (k + 1)).flatMap f) w2 by rw [HST.out, ← List.append_assoc]; exact (HA.out.lit (.cells #[.int .i64 x.ty, .int .i64 x.lo, .slice x.l.a x.l.t.len x.l.c] 66)).trans hb2)
    have HW2 := hid (HA2.out.deep H.out.own HB.out HG.out)
    obtain ⟨N, hN⟩ : ∃ N, (p ++ (l.take (k + 1)).flatMap f).length = N := ⟨_, rfl⟩
    obtain ⟨a2, q2, rfl⟩ := HA2.out.own.sliceN hN
    have d0 := HA2.out.c
    have d1 := (HA2.out.rest 12 (by decide)).trans HM.out
    have HD := hid hN
    clear C hb2 hN HA HW HX HST HLN c0 c1 c2
    by_cases hgt : most < (N : Int)
    ·have HP2 := hid (show Cut most (lstB f l) (p ++ (l.take (k + 1)).flatMap f) from by rw [HE.out]; exact ⟨take_pre f p l (k + 1), .inr (by rw [HD.out]; exact hgt)⟩)
     have HZ := hid (fun (m : Nat) => show Buf g B v w (.slice a2 N q2) (p ++ (l.take (k + 1)).flatMap f) (w2.drewN m) from HA2.out.on (drewnE (Below.refl w2.heap.size w2) m))
     go_wp2
     go_quiet (fail)
     go_wp2
     refine bodyPost_ret (results_none rfl _ _ _) rfl ?_
     exact ⟨_, HP2.out, rfl, _, HZ.out _⟩
    ·skip
     go_wp2
     go_quiet (fail)
     go_wp2
     go_roundw
     case rel => exact ⟨k + 1, _, by go_num, by omega, hid (HA2.out.on (drewnE (Below.refl w2.heap.size w2) _)), drewnE HW2.out _⟩
     case measure => simp [intOf]; omega
   ·obtain rfl : k = n := by omega
    have HQ := hid (show l.take k = l from List.take_of_length_le (by rw [HN.out]; exact Nat.le_refl _))
    go_wp2
    go_end0
    exact ⟨_, cut_all _ _, rfl, v9, by have := HA.out; rw [HQ.out, ← HE.out] at this; exact this⟩
set_option maxRecDepth 100000 in
set_option maxHeartbeats 2000000 in
theorem list_li (g B : Nat) (v : Value) (l : List (Li)) (a : Option Addr) (n c : Nat) (most : Int) (w0 w : World) (h : Buf g B v w v [] w) (hB : Below w0.heap.size w0 w) (hg : w0.heap.size < g) (hmost : w.cell? ⟨g, 12, none⟩ = some (.int .i64 most))
  (hn : l.length = n) (hr : Mod.Rows w0.heap.size w0 a 3 (l.map Li.v)) (hlen : n ≤ 16384) (K : Nat) (eg : ∀ args w, (callFunc K args).run Tryz.prog w = .ok (.enter K args) w) (f : Li → List Int)
  (hp : ∀ (W : World) (v : Value) (xs : List Int) (x : Li), x ∈ l → Below w0.heap.size w0 W → Buf g B v W v xs W → xs.length ≤ 1000000000 → Calls Tryz.prog K #[.pointer (some ⟨g, 0, none⟩), .agg #[.int .u32 x.n, .int .u32 x.x, .bool x.c]] W (Puts g B v W (xs ++ f x)))
  (htot : (encU n ++ l.flatMap f).length ≤ 1000000000) :
  Calls Tryz.prog 163 #[.pointer (some ⟨g, 0, none⟩), .slice a n c, .func (.func K) #[.pointer (some ⟨g, 0, none⟩)] #[]] w (PutsC most g B v w (lstB f l)) := by
 have H := hid h
 have HG := hid hg
 have HB := hid hB
 have HR := hid hr
 have HN := hid hn
 have HP := hid hp
 have HT := hid htot
 have HM := hid hmost
 have c0 := h.c
 have HK : Hid (lstB f l = if l.length = 0 then [] else encU l.length ++ l.flatMap f) := rfl
 clear h hg hB hr hn hp htot hmost
 by_cases hz : n = 0
 ·subst hz
  have HE := hid (show lstB f l = [] by rw [HK.out, if_pos HN.out])
  go_enter Tryz.func163, Tryz.ntmps163
  go_wp2
  refine bodyPost_ret (results_none rfl _ _ _) rfl ?_
  exact ⟨_, cut_all _ _, rfl, v, by rw [HE.out]; exact H.out⟩
 ·have hni : ¬ (n : Int) = 0 := by omega
  have HE := hid (show lstB f l = encU n ++ l.flatMap f by rw [HK.out, if_neg (by rw [HN.out]; exact hz), HN.out])
  have hw := u32_id n (by omega) (by omega)
  have C := hid (number_any g B v [] n w H.out (by omega) (by omega) (by simp))
  rw [List.nil_append] at C
  obtain ⟨p, hp⟩ : ∃ p, encU n = p := ⟨_, rfl⟩
  rw [hp] at C HE HT
  clear hp HK
  go_enter Tryz.func163, Tryz.ntmps163
  go_wp2_with fail
  refine C.out.mono ?_
  rintro e1 w1 ⟨rfl, v1, hb⟩
  have HA1 := hid hb
  have HW1 := hid (hb.deep H.out.own HB.out HG.out)
  clear C hb c0 hw
  go_wp2
  go_loopw [20] (fun vi wr => ∃ (k : Nat) (v9 : Value), vi = .int .i64 k ∧ k ≤ n ∧ Hid (Buf g B v w v9 (p ++ (l.take k).flatMap f) wr) ∧ Hid (Below w0.heap.size w0 wr)) (fun vi _ => n - (intOf vi).toNat)
  case atStart => exact ⟨0, v1, rfl, Nat.zero_le _, hid (by simpa using HA1.out), HW1⟩
  case round =>
   clear HA1 HW1
   obtain ⟨k, v9, rfl, hk, HA, HW⟩ := hrel
   by_cases hlt : k < n
   ·have hkl : k < l.length := by rw [HN.out]; exact hlt
    have hki : (k : Int) < (n : Int) := by omega
    obtain ⟨b, off, rfl, hb, hc⟩ := Mod.Rows.get HR.out hkl
    have HX := hid (List.getElem_mem hkl)
    have HST := hid (flat_step f hkl)
    have HLN := hid (show (p ++ (l.take k).flatMap f).length ≤ 1000000000 by have := HT.out; have := flat_mono f l k; rw [List.length_append] at *; omega)
    obtain ⟨x, hx⟩ : ∃ x, l[k] = x := ⟨_, rfl⟩
    rw [hx] at hc HX HST
    have c0 : wr.cell? ⟨b, off + k * 3, none⟩ = some (.int .u32 x.n) := (HW.out.cell (p := ⟨b, off + k * 3 + 0, none⟩) hb).trans (hc 0 (by omega) _ rfl)
    have c1 : wr.cell? ⟨b, off + k * 3 + 1, none⟩ = some (.int .u32 x.x) := (HW.out.cell (p := ⟨b, off + k * 3 + 1, none⟩) hb).trans (hc 1 (by omega) _ rfl)
    have c2 : wr.cell? ⟨b, off + k * 3 + 2, none⟩ = some (.bool x.c) := (HW.out.cell (p := ⟨b, off + k * 3 + 2, none⟩) hb).trans (hc 2 (by omega) _ rfl)
    clear hc hx hb hkl
    go_wp2_with fail
    have C := hid (HP.out (wr.alloc (.cells #[.int .u32 x.n, .int .u32 x.x, .bool x.c] 60)) v9 _ x HX.out (HW.out.trans (((Below.refl wr.heap.size wr).alloc (Nat.le_refl _) (.cells #[.int .u32 x.n, .int .u32 x.x, .bool x.c] 60)).mono HW.out.size)) (HA.out.lit (.cells #[.int .u32 x.n, .int .u32 x.x, .bool x.c] 60)).again HLN.out)
    refine C.out.mono ?_
    rintro e1 w2 ⟨rfl, v2, hb2⟩
    have HA2 := hid (show Buf g B v w v2 (p ++ (l.take (k + 1)).flatMap f) w2 by rw [HST.out, ← List.append_assoc]; exact (HA.out.lit (.cells #[.int .u32 x.n, .int .u32 x.x, .bool x.c] 60)).trans hb2)
    have HW2 := hid (HA2.out.deep H.out.own HB.out HG.out)
    obtain ⟨N, hN⟩ : ∃ N, (p ++ (l.take (k + 1)).flatMap f).length = N := ⟨_, rfl⟩
    obtain ⟨a2, q2, rfl⟩ := HA2.out.own.sliceN hN
    have d0 := HA2.out.c
    have d1 := (HA2.out.rest 12 (by decide)).trans HM.out
    have HD := hid hN
    clear C hb2 hN HA HW HX HST HLN c0 c1 c2
    by_cases hgt : most < (N : Int)
    ·have HP2 := hid (show Cut most (lstB f l) (p ++ (l.take (k + 1)).flatMap f) from by rw [HE.out]; exact ⟨take_pre f p l (k + 1), .inr (by rw [HD.out]; exact hgt)⟩)
     have HZ := hid (fun (m : Nat) => show Buf g B v w (.slice a2 N q2) (p ++ (l.take (k + 1)).flatMap f) (w2.drewN m) from HA2.out.on (drewnE (Below.refl w2.heap.size w2) m))
     go_wp2
     go_quiet (fail)
     go_wp2
     refine bodyPost_ret (results_none rfl _ _ _) rfl ?_
     exact ⟨_, HP2.out, rfl, _, HZ.out _⟩
    ·skip
     go_wp2
     go_quiet (fail)
     go_wp2
     go_roundw
     case rel => exact ⟨k + 1, _, by go_num, by omega, hid (HA2.out.on (drewnE (Below.refl w2.heap.size w2) _)), drewnE HW2.out _⟩
     case measure => simp [intOf]; omega
   ·obtain rfl : k = n := by omega
    have HQ := hid (show l.take k = l from List.take_of_length_le (by rw [HN.out]; exact Nat.le_refl _))
    go_wp2
    go_end0
    exact ⟨_, cut_all _ _, rfl, v9, by have := HA.out; rw [HQ.out, ← HE.out] at this; exact this⟩
set_option maxRecDepth 100000 in
set_option maxHeartbeats 2000000 in
theorem list_gl (g B : Nat) (v : Value) (l : List (Gl)) (a : Option Addr) (n c : Nat) (most : Int) (w0 w : World) (h : Buf g B v w v [] w) (hB : Below w0.heap.size w0 w) (hg : w0.heap.size < g) (hmost : w.cell? ⟨g, 12, none⟩ = some (.int .i64 most))
  (hn : l.length = n) (hr : Mod.Rows w0.heap.size w0 a 2 (l.map Gl.v)) (hlen : n ≤ 16384) (K : Nat) (eg : ∀ args w, (callFunc K args).run Tryz.prog w = .ok (.enter K args) w) (f : Gl → List Int)
  (hp : ∀ (W : World) (v : Value) (xs : List Int) (x : Gl), x ∈ l → Below w0.heap.size w0 W → Buf g B v W v xs W → xs.length ≤ 1000000000 → Calls Tryz.prog K #[.pointer (some ⟨g, 0, none⟩), .agg #[.bool x.mu, .slice x.l.a x.l.t.len x.l.c]] W (Puts g B v W (xs ++ f x)))
  (htot : (encU n ++ l.flatMap f).length ≤ 1000000000) :
  Calls Tryz.prog 166 #[.pointer (some ⟨g, 0, none⟩), .slice a n c, .func (.func K) #[.pointer (some ⟨g, 0, none⟩)] #[]] w (PutsC most g B v w (lstB f l)) := by
 have H := hid h
 have HG := hid hg
 have HB := hid hB
 have HR := hid hr
 have HN := hid hn
 have HP := hid hp
 have HT := hid htot
 have HM := hid hmost
 have c0 := h.c
 have HK : Hid (lstB f l = if l.length = 0 then [] else encU l.length ++ l.flatMap f) := rfl
 clear h hg hB hr hn hp htot hmost
 by_cases hz : n = 0
 ·subst hz
  have HE := hid (show lstB f l = [] by rw [HK.out, if_pos HN.out])
  go_enter Tryz.func166, Tryz.ntmps166
  go_wp2
  refine bodyPost_ret (results_none rfl _ _ _) rfl ?_
  exact ⟨_, cut_all _ _, rfl, v, by rw [HE.out]; exact H.out⟩
 ·have hni : ¬ (n : Int) = 0 := by omega
  have HE := hid (show lstB f l = encU n ++ l.flatMap f by rw [HK.out, if_neg (by rw [HN.out]; exact hz), HN.out])
  have hw := u32_id n (by omega) (by omega)
  have C := hid (number_any g B v [] n w H.out (by omega) (by omega) (by simp))
  rw [List.nil_append] at C
  obtain ⟨p, hp⟩ : ∃ p, encU n = p := ⟨_, rfl⟩
  rw [hp] at C HE HT
  clear hp HK
  go_enter Tryz.func166, Tryz.ntmps166
  go_wp2_with fail
  refine C.out.mono ?_
  rintro e1 w1 ⟨rfl, v1, hb⟩
  have HA1 := hid hb
  have HW1 := hid (hb.deep H.out.own HB.out HG.out)
  clear C hb c0 hw
  go_wp2
  go_loopw [20] (fun vi wr => ∃ (k : Nat) (v9 : Value), vi = .int .i64 k ∧ k ≤ n ∧ Hid (Buf g B v w v9 (p ++ (l.take k).flatMap f) wr) ∧ Hid (Below w0.heap.size w0 wr)) (fun vi _ => n - (intOf vi).toNat)
  case atStart => exact ⟨0, v1, rfl, Nat.zero_le _, hid (by simpa using HA1.out), HW1⟩
  case round =>
   clear HA1 HW1
   obtain ⟨k, v9, rfl, hk, HA, HW⟩ := hrel
   by_cases hlt : k < n
   ·have hkl : k < l.length := by rw [HN.out]; exact hlt
    have hki : (k : Int) < (n : Int) := by omega
    obtain ⟨b, off, rfl, hb, hc⟩ := Mod.Rows.get HR.out hkl
    have HX := hid (List.getElem_mem hkl)
    have HST := hid (flat_step f hkl)
    have HLN := hid (show (p ++ (l.take k).flatMap f).length ≤ 1000000000 by have := HT.out; have := flat_mono f l k; rw [List.length_append] at *; omega)
    obtain ⟨x, hx⟩ : ∃ x, l[k] = x := ⟨_, rfl⟩
    rw [hx] at hc HX HST
    have c0 : wr.cell? ⟨b, off + k * 2, none⟩ = some (.bool x.mu) := (HW.out.cell (p := ⟨b, off + k * 2 + 0, none⟩) hb).trans (hc 0 (by omega) _ rfl)
    have c1 : wr.cell? ⟨b, off + k * 2 + 1, none⟩ = some (.slice x.l.a x.l.t.len x.l.c) := (HW.out.cell (p := ⟨b, off + k * 2 + 1, none⟩) hb).trans (hc 1 (by omega) _ rfl)
    clear hc hx hb hkl
    go_wp2_with fail
    have C := hid (HP.out (wr.alloc (.cells #[.bool x.mu, .slice x.l.a x.l.t.len x.l.c] 68)) v9 _ x HX.out (HW.out.trans (((Below.refl wr.heap.size wr).alloc (Nat.le_refl _) (.cells #[.bool x.mu, .slice x.l.a x.l.t.len x.l.c] 68)).mono HW.out.size)) (HA.out.lit (.cells #[.bool x.mu, .slice x.l.a x.l.t.len x.l.c] 68)).again HLN.out)
    refine C.out.mono ?_
    rintro e1 w2 ⟨rfl, v2, hb2⟩
    have HA2 := hid (show Buf g B v w v2 (p ++ (l.take (k + 1)).flatMap f) w2 by rw [HST.out, ← List.append_assoc]; exact (HA.out.lit (.cells #[.bool x.mu, .slice x.l.a x.l.t.len x.l.c] 68)).trans hb2)
    have HW2 := hid (HA2.out.deep H.out.own HB.out HG.out)
    obtain ⟨N, hN⟩ : ∃ N, (p ++ (l.take (k + 1)).flatMap f).length = N := ⟨_, rfl⟩
    obtain ⟨a2, q2, rfl⟩ := HA2.out.own.sliceN hN
    have d0 := HA2.out.c
    have d1 := (HA2.out.rest 12 (by decide)).trans HM.out
    have HD := hid hN
    clear C hb2 hN HA HW HX HST HLN c0 c1
    by_cases hgt : most < (N : Int)
    ·have HP2 := hid (show Cut most (lstB f l) (p ++ (l.take (k + 1)).flatMap f) from by rw [HE.out]; exact ⟨take_pre f p l (k + 1), .inr (by rw [HD.out]; exact hgt)⟩)
     have HZ := hid (fun (m : Nat) => show Buf g B v w (.slice a2 N q2) (p ++ (l.take (k + 1)).flatMap f) (w2.drewN m) from HA2.out.on (drewnE (Below.refl w2.heap.size w2) m))
     go_wp2
     go_quiet (fail)
     go_wp2
     refine bodyPost_ret (results_none rfl _ _ _) rfl ?_
     exact ⟨_, HP2.out, rfl, _, HZ.out _⟩
    ·skip
     go_wp2
     go_quiet (fail)
     go_wp2
     go_roundw
     case rel => exact ⟨k + 1, _, by go_num, by omega, hid (HA2.out.on (drewnE (Below.refl w2.heap.size w2) _)), drewnE HW2.out _⟩
     case measure => simp [intOf]; omega
   ·obtain rfl : k = n := by omega
    have HQ := hid (show l.take k = l from List.take_of_length_le (by rw [HN.out]; exact Nat.le_refl _))
    go_wp2
    go_end0
    exact ⟨_, cut_all _ _, rfl, v9, by have := HA.out; rw [HQ.out, ← HE.out] at this; exact this⟩
set_option maxRecDepth 100000 in
set_option maxHeartbeats 2000000 in
theorem list_ex (g B : Nat) (v : Value) (l : List (Ex)) (a : Option Addr) (n c : Nat) (most : Int) (w0 w : World) (h : Buf g B v w v [] w) (hB : Below w0.heap.size w0 w) (hg : w0.heap.size < g) (hmost : w.cell? ⟨g, 12, none⟩ = some (.int .i64 most))
  (hn : l.length = n) (hr : Mod.Rows w0.heap.size w0 a 3 (l.map Ex.v)) (hlen : n ≤ 16384) (K : Nat) (eg : ∀ args w, (callFunc K args).run Tryz.prog w = .ok (.enter K args) w) (f : Ex → List Int)
  (hp : ∀ (W : World) (v : Value) (xs : List Int) (x : Ex), x ∈ l → Below w0.heap.size w0 W → Buf g B v W v xs W → xs.length ≤ 1000000000 → Calls Tryz.prog K #[.pointer (some ⟨g, 0, none⟩), .agg #[.string x.na, .int .i64 x.k, .int .u32 x.i]] W (Puts g B v W (xs ++ f x)))
  (htot : (encU n ++ l.flatMap f).length ≤ 1000000000) :
  Calls Tryz.prog 168 #[.pointer (some ⟨g, 0, none⟩), .slice a n c, .func (.func K) #[.pointer (some ⟨g, 0, none⟩)] #[]] w (PutsC most g B v w (lstB f l)) := by
 have H := hid h
 have HG := hid hg
 have HB := hid hB
 have HR := hid hr
 have HN := hid hn
 have HP := hid hp
 have HT := hid htot
 have HM := hid hmost
 have c0 := h.c
 have HK : Hid (lstB f l = if l.length = 0 then [] else encU l.length ++ l.flatMap f) := rfl
 clear h hg hB hr hn hp htot hmost
 by_cases hz : n = 0
 ·subst hz
  have HE := hid (show lstB f l = [] by rw [HK.out, if_pos HN.out])
  go_enter Tryz.func168, Tryz.ntmps168
  go_wp2
  refine bodyPost_ret (results_none rfl _ _ _) rfl ?_
  exact ⟨_, cut_all _ _, rfl, v, by rw [HE.out]; exact H.out⟩
 ·have hni : ¬ (n : Int) = 0 := by omega
  have HE := hid (show lstB f l = encU n ++ l.flatMap f by rw [HK.out, if_neg (by rw [HN.out]; exact hz), HN.out])
  have hw := u32_id n (by omega) (by omega)
  have C := hid (number_any g B v [] n w H.out (by omega) (by omega) (by simp))
  rw [List.nil_append] at C
  obtain ⟨p, hp⟩ : ∃ p, encU n = p := ⟨_, rfl⟩
  rw [hp] at C HE HT
  clear hp HK
  go_enter Tryz.func168, Tryz.ntmps168
  go_wp2_with fail
  refine C.out.mono ?_
  rintro e1 w1 ⟨rfl, v1, hb⟩
  have HA1 := hid hb
  have HW1 := hid (hb.deep H.out.own HB.out HG.out)
  clear C hb c0 hw
  go_wp2
  go_loopw [20] (fun vi wr => ∃ (k : Nat) (v9 : Value), vi = .int .i64 k ∧ k ≤ n ∧ Hid (Buf g B v w v9 (p ++ (l.take k).flatMap f) wr) ∧ Hid (Below w0.heap.size w0 wr)) (fun vi _ => n - (intOf vi).toNat)
  case atStart => exact ⟨0, v1, rfl, Nat.zero_le _, hid (by simpa using HA1.out), HW1⟩
  case round =>
   clear HA1 HW1
   obtain ⟨k, v9, rfl, hk, HA, HW⟩ := hrel
   by_cases hlt : k < n
   ·have hkl : k < l.length := by rw [HN.out]; exact hlt
    have hki : (k : Int) < (n : Int) := by omega
    obtain ⟨b, off, rfl, hb, hc⟩ := Mod.Rows.get HR.out hkl
    have HX := hid (List.getElem_mem hkl)
    have HST := hid (flat_step f hkl)
    have HLN := hid (show (p ++ (l.take k).flatMap f).length ≤ 1000000000 by have := HT.out; have := flat_mono f l k; rw [List.length_append] at *; omega)
    obtain ⟨x, hx⟩ : ∃ x, l[k] = x := ⟨_, rfl⟩
    rw [hx] at hc HX HST
    have c0 : wr.cell? ⟨b, off + k * 3, none⟩ = some (.string x.na) := (HW.out.cell (p := ⟨b, off + k * 3 + 0, none⟩) hb).trans (hc 0 (by omega) _ rfl)
    have c1 : wr.cell? ⟨b, off + k * 3 + 1, none⟩ = some (.int .i64 x.k) := (HW.out.cell (p := ⟨b, off + k * 3 + 1, none⟩) hb).trans (hc 1 (by omega) _ rfl)
    have c2 : wr.cell? ⟨b, off + k * 3 + 2, none⟩ = some (.int .u32 x.i) := (HW.out.cell (p := ⟨b, off + k * 3 + 2, none⟩) hb).trans (hc 2 (by omega) _ rfl)
    clear hc hx hb hkl
    go_wp2_with fail
    have C := hid (HP.out (wr.alloc (.cells #[.string x.na, .int .i64 x.k, .int .u32 x.i] 75)) v9 _ x HX.out (HW.out.trans (((Below.refl wr.heap.size wr).alloc (Nat.le_refl _) (.cells #[.string x.na, .int .i64 x.k, .int .u32 x.i] 75)).mono HW.out.size)) (HA.out.lit (.cells #[.string x.na, .int .i64 x.k, .int .u32 x.i] 75)).again HLN.out)
    refine C.out.mono ?_
    rintro e1 w2 ⟨rfl, v2, hb2⟩
    have HA2 := hid (show Buf g B v w v2 (p ++ (l.take (k + 1)).flatMap f) w2 by rw [HST.out, ← List.append_assoc]; exact (HA.out.lit (.cells #[.string x.na, .int .i64 x.k, .int .u32 x.i] 75)).trans hb2)
    have HW2 := hid (HA2.out.deep H.out.own HB.out HG.out)
    obtain ⟨N, hN⟩ : ∃ N, (p ++ (l.take (k + 1)).flatMap f).length = N := ⟨_, rfl⟩
    obtain ⟨a2, q2, rfl⟩ := HA2.out.own.sliceN hN
    have d0 := HA2.out.c
    have d1 := (HA2.out.rest 12 (by decide)).trans HM.out
    have HD := hid hN
    clear C hb2 hN HA HW HX HST HLN c0 c1 c2
    by_cases hgt : most < (N : Int)
    ·have HP2 := hid (show Cut most (lstB f l) (p ++ (l.take (k + 1)).flatMap f) from by rw [HE.out]; exact ⟨take_pre f p l (k + 1), .inr (by rw [HD.out]; exact hgt)⟩)
     have HZ := hid (fun (m : Nat) => show Buf g B v w (.slice a2 N q2) (p ++ (l.take (k + 1)).flatMap f) (w2.drewN m) from HA2.out.on (drewnE (Below.refl w2.heap.size w2) m))
     go_wp2
     go_quiet (fail)
     go_wp2
     refine bodyPost_ret (results_none rfl _ _ _) rfl ?_
     exact ⟨_, HP2.out, rfl, _, HZ.out _⟩
    ·skip
     go_wp2
     go_quiet (fail)
     go_wp2
     go_roundw
     case rel => exact ⟨k + 1, _, by go_num, by omega, hid (HA2.out.on (drewnE (Below.refl w2.heap.size w2) _)), drewnE HW2.out _⟩
     case measure => simp [intOf]; omega
   ·obtain rfl : k = n := by omega
    have HQ := hid (show l.take k = l from List.take_of_length_le (by rw [HN.out]; exact Nat.le_refl _))
    go_wp2
    go_end0
    exact ⟨_, cut_all _ _, rfl, v9, by have := HA.out; rw [HQ.out, ← HE.out] at this; exact this⟩
set_option maxRecDepth 100000 in
set_option maxHeartbeats 2000000 in
theorem list_el (g B : Nat) (v : Value) (l : List (El)) (a : Option Addr) (n c : Nat) (most : Int) (w0 w : World) (h : Buf g B v w v [] w) (hB : Below w0.heap.size w0 w) (hg : w0.heap.size < g) (hmost : w.cell? ⟨g, 12, none⟩ = some (.int .i64 most))
  (hn : l.length = n) (hr : Mod.Rows w0.heap.size w0 a 2 (l.map El.v)) (hlen : n ≤ 16384) (K : Nat) (eg : ∀ args w, (callFunc K args).run Tryz.prog w = .ok (.enter K args) w) (f : El → List Int)
  (hp : ∀ (W : World) (v : Value) (xs : List Int) (x : El), x ∈ l → Below w0.heap.size w0 W → Buf g B v W v xs W → xs.length ≤ 1000000000 → Calls Tryz.prog K #[.pointer (some ⟨g, 0, none⟩), .agg #[.slice x.l.a x.l.t.len x.l.c, .slice x.fa x.fs.length x.fc]] W (Puts g B v W (xs ++ f x)))
  (htot : (encU n ++ l.flatMap f).length ≤ 1000000000) :
  Calls Tryz.prog 170 #[.pointer (some ⟨g, 0, none⟩), .slice a n c, .func (.func K) #[.pointer (some ⟨g, 0, none⟩)] #[]] w (PutsC most g B v w (lstB f l)) := by
 have H := hid h
 have HG := hid hg
 have HB := hid hB
 have HR := hid hr
 have HN := hid hn
 have HP := hid hp
 have HT := hid htot
 have HM := hid hmost
 have c0 := h.c
 have HK : Hid (lstB f l = if l.length = 0 then [] else encU l.length ++ l.flatMap f) := rfl
 clear h hg hB hr hn hp htot hmost
 by_cases hz : n = 0
 ·subst hz
  have HE := hid (show lstB f l = [] by rw [HK.out, if_pos HN.out])
  go_enter Tryz.func170, Tryz.ntmps170
  go_wp2
  refine bodyPost_ret (results_none rfl _ _ _) rfl ?_
  exact ⟨_, cut_all _ _, rfl, v, by rw [HE.out]; exact H.out⟩
 ·have hni : ¬ (n : Int) = 0 := by omega
  have HE := hid (show lstB f l = encU n ++ l.flatMap f by rw [HK.out, if_neg (by rw [HN.out]; exact hz), HN.out])
  have hw := u32_id n (by omega) (by omega)
  have C := hid (number_any g B v [] n w H.out (by omega) (by omega) (by simp))
  rw [List.nil_append] at C
  obtain ⟨p, hp⟩ : ∃ p, encU n = p := ⟨_, rfl⟩
  rw [hp] at C HE HT
  clear hp HK
  go_enter Tryz.func170, Tryz.ntmps170
  go_wp2_with fail
  refine C.out.mono ?_
  rintro e1 w1 ⟨rfl, v1, hb⟩
  have HA1 := hid hb
  have HW1 := hid (hb.deep H.out.own HB.out HG.out)
  clear C hb c0 hw
  go_wp2
  go_loopw [20] (fun vi wr => ∃ (k : Nat) (v9 : Value), vi = .int .i64 k ∧ k ≤ n ∧ Hid (Buf g B v w v9 (p ++ (l.take k).flatMap f) wr) ∧ Hid (Below w0.heap.size w0 wr)) (fun vi _ => n - (intOf vi).toNat)
  case atStart => exact ⟨0, v1, rfl, Nat.zero_le _, hid (by simpa using HA1.out), HW1⟩
  case round =>
   clear HA1 HW1
   obtain ⟨k, v9, rfl, hk, HA, HW⟩ := hrel
   by_cases hlt : k < n
   ·have hkl : k < l.length := by rw [HN.out]; exact hlt
    have hki : (k : Int) < (n : Int) := by omega
    obtain ⟨b, off, rfl, hb, hc⟩ := Mod.Rows.get HR.out hkl
    have HX := hid (List.getElem_mem hkl)
    have HST := hid (flat_step f hkl)
    have HLN := hid (show (p ++ (l.take k).flatMap f).length ≤ 1000000000 by have := HT.out; have := flat_mono f l k; rw [List.length_append] at *; omega)
    obtain ⟨x, hx⟩ : ∃ x, l[k] = x := ⟨_, rfl⟩
    rw [hx] at hc HX HST
    have c0 : wr.cell? ⟨b, off + k * 2, none⟩ = some (.slice x.l.a x.l.t.len x.l.c) := (HW.out.cell (p := ⟨b, off + k * 2 + 0, none⟩) hb).trans (hc 0 (by omega) _ rfl)
    have c1 : wr.cell? ⟨b, off + k * 2 + 1, none⟩ = some (.slice x.fa x.fs.length x.fc) := (HW.out.cell (p := ⟨b, off + k * 2 + 1, none⟩) hb).trans (hc 1 (by omega) _ rfl)
    clear hc hx hb hkl
    go_wp2_with fail
    have C := hid (HP.out (wr.alloc (.cells #[.slice x.l.a x.l.t.len x.l.c, .slice x.fa x.fs.length x.fc] 71)) v9 _ x HX.out (HW.out.trans (((Below.refl wr.heap.size wr).alloc (Nat.le_refl _) (.cells #[.slice x.l.a x.l.t.len x.l.c, .slice x.fa x.fs.length x.fc] 71)).mono HW.out.size)) (HA.out.lit (.cells #[.slice x.l.a x.l.t.len x.l.c, .slice x.fa x.fs.length x.fc] 71)).again HLN.out)
    refine C.out.mono ?_
    rintro e1 w2 ⟨rfl, v2, hb2⟩
    have HA2 := hid (show Buf g B v w v2 (p ++ (l.take (k + 1)).flatMap f) w2 by rw [HST.out, ← List.append_assoc]; exact (HA.out.lit (.cells #[.slice x.l.a x.l.t.len x.l.c, .slice x.fa x.fs.length x.fc] 71)).trans hb2)
    have HW2 := hid (HA2.out.deep H.out.own HB.out HG.out)
    obtain ⟨N, hN⟩ : ∃ N, (p ++ (l.take (k + 1)).flatMap f).length = N := ⟨_, rfl⟩
    obtain ⟨a2, q2, rfl⟩ := HA2.out.own.sliceN hN
    have d0 := HA2.out.c
    have d1 := (HA2.out.rest 12 (by decide)).trans HM.out
    have HD := hid hN
    clear C hb2 hN HA HW HX HST HLN c0 c1
    by_cases hgt : most < (N : Int)
    ·have HP2 := hid (show Cut most (lstB f l) (p ++ (l.take (k + 1)).flatMap f) from by rw [HE.out]; exact ⟨take_pre f p l (k + 1), .inr (by rw [HD.out]; exact hgt)⟩)
     have HZ := hid (fun (m : Nat) => show Buf g B v w (.slice a2 N q2) (p ++ (l.take (k + 1)).flatMap f) (w2.drewN m) from HA2.out.on (drewnE (Below.refl w2.heap.size w2) m))
     go_wp2
     go_quiet (fail)
     go_wp2
     refine bodyPost_ret (results_none rfl _ _ _) rfl ?_
     exact ⟨_, HP2.out, rfl, _, HZ.out _⟩
    ·skip
     go_wp2
     go_quiet (fail)
     go_wp2
     go_roundw
     case rel => exact ⟨k + 1, _, by go_num, by omega, hid (HA2.out.on (drewnE (Below.refl w2.heap.size w2) _)), drewnE HW2.out _⟩
     case measure => simp [intOf]; omega
   ·obtain rfl : k = n := by omega
    have HQ := hid (show l.take k = l from List.take_of_length_le (by rw [HN.out]; exact Nat.le_refl _))
    go_wp2
    go_end0
    exact ⟨_, cut_all _ _, rfl, v9, by have := HA.out; rw [HQ.out, ← HE.out] at this; exact this⟩
set_option maxRecDepth 100000 in
set_option maxHeartbeats 2000000 in
theorem list_da (g B : Nat) (v : Value) (l : List (Da)) (a : Option Addr) (n c : Nat) (most : Int) (w0 w : World) (h : Buf g B v w v [] w) (hB : Below w0.heap.size w0 w) (hg : w0.heap.size < g) (hmost : w.cell? ⟨g, 12, none⟩ = some (.int .i64 most))
  (hn : l.length = n) (hr : Mod.Rows w0.heap.size w0 a 2 (l.map Da.v)) (hlen : n ≤ 16384) (K : Nat) (eg : ∀ args w, (callFunc K args).run Tryz.prog w = .ok (.enter K args) w) (f : Da → List Int)
  (hp : ∀ (W : World) (v : Value) (xs : List Int) (x : Da), x ∈ l → Below w0.heap.size w0 W → Buf g B v W v xs W → xs.length ≤ 1000000000 → Calls Tryz.prog K #[.pointer (some ⟨g, 0, none⟩), .agg #[.slice x.l.a x.l.t.len x.l.c, .slice x.ba x.bs.length x.bc]] W (Puts g B v W (xs ++ f x)))
  (htot : (encU n ++ l.flatMap f).length ≤ 1000000000) :
  Calls Tryz.prog 173 #[.pointer (some ⟨g, 0, none⟩), .slice a n c, .func (.func K) #[.pointer (some ⟨g, 0, none⟩)] #[]] w (PutsC most g B v w (lstB f l)) := by
 have H := hid h
 have HG := hid hg
 have HB := hid hB
 have HR := hid hr
 have HN := hid hn
 have HP := hid hp
 have HT := hid htot
 have HM := hid hmost
 have c0 := h.c
 have HK : Hid (lstB f l = if l.length = 0 then [] else encU l.length ++ l.flatMap f) := rfl
 clear h hg hB hr hn hp htot hmost
 by_cases hz : n = 0
 ·subst hz
  have HE := hid (show lstB f l = [] by rw [HK.out, if_pos HN.out])
  go_enter Tryz.func173, Tryz.ntmps173
  go_wp2
  refine bodyPost_ret (results_none rfl _ _ _) rfl ?_
  exact ⟨_, cut_all _ _, rfl, v, by rw [HE.out]; exact H.out⟩
 ·have hni : ¬ (n : Int) = 0 := by omega
  have HE := hid (show lstB f l = encU n ++ l.flatMap f by rw [HK.out, if_neg (by rw [HN.out]; exact hz), HN.out])
  have hw := u32_id n (by omega) (by omega)
  have C := hid (number_any g B v [] n w H.out (by omega) (by omega) (by simp))
  rw [List.nil_append] at C
  obtain ⟨p, hp⟩ : ∃ p, encU n = p := ⟨_, rfl⟩
  rw [hp] at C HE HT
  clear hp HK
  go_enter Tryz.func173, Tryz.ntmps173
  go_wp2_with fail
  refine C.out.mono ?_
  rintro e1 w1 ⟨rfl, v1, hb⟩
  have HA1 := hid hb
  have HW1 := hid (hb.deep H.out.own HB.out HG.out)
  clear C hb c0 hw
  go_wp2
  go_loopw [20] (fun vi wr => ∃ (k : Nat) (v9 : Value), vi = .int .i64 k ∧ k ≤ n ∧ Hid (Buf g B v w v9 (p ++ (l.take k).flatMap f) wr) ∧ Hid (Below w0.heap.size w0 wr)) (fun vi _ => n - (intOf vi).toNat)
  case atStart => exact ⟨0, v1, rfl, Nat.zero_le _, hid (by simpa using HA1.out), HW1⟩
  case round =>
   clear HA1 HW1
   obtain ⟨k, v9, rfl, hk, HA, HW⟩ := hrel
   by_cases hlt : k < n
   ·have hkl : k < l.length := by rw [HN.out]; exact hlt
    have hki : (k : Int) < (n : Int) := by omega
    obtain ⟨b, off, rfl, hb, hc⟩ := Mod.Rows.get HR.out hkl
    have HX := hid (List.getElem_mem hkl)
    have HST := hid (flat_step f hkl)
    have HLN := hid (show (p ++ (l.take k).flatMap f).length ≤ 1000000000 by have := HT.out; have := flat_mono f l k; rw [List.length_append] at *; omega)
    obtain ⟨x, hx⟩ : ∃ x, l[k] = x := ⟨_, rfl⟩
    rw [hx] at hc HX HST
    have c0 : wr.cell? ⟨b, off + k * 2, none⟩ = some (.slice x.l.a x.l.t.len x.l.c) := (HW.out.cell (p := ⟨b, off + k * 2 + 0, none⟩) hb).trans (hc 0 (by omega) _ rfl)
    have c1 : wr.cell? ⟨b, off + k * 2 + 1, none⟩ = some (.slice x.ba x.bs.length x.bc) := (HW.out.cell (p := ⟨b, off + k * 2 + 1, none⟩) hb).trans (hc 1 (by omega) _ rfl)
    clear hc hx hb hkl
    go_wp2_with fail
    have C := hid (HP.out (wr.alloc (.cells #[.slice x.l.a x.l.t.len x.l.c, .slice x.ba x.bs.length x.bc] 47)) v9 _ x HX.out (HW.out.trans (((Below.refl wr.heap.size wr).alloc (Nat.le_refl _) (.cells #[.slice x.l.a x.l.t.len x.l.c, .slice x.ba x.bs.length x.bc] 47)).mono HW.out.size)) (HA.out.lit (.cells #[.slice x.l.a x.l.t.len x.l.c, .slice x.ba x.bs.length x.bc] 47)).again HLN.out)
    refine C.out.mono ?_
    rintro e1 w2 ⟨rfl, v2, hb2⟩
    have HA2 := hid (show Buf g B v w v2 (p ++ (l.take (k + 1)).flatMap f) w2 by rw [HST.out, ← List.append_assoc]; exact (HA.out.lit (.cells #[.slice x.l.a x.l.t.len x.l.c, .slice x.ba x.bs.length x.bc] 47)).trans hb2)
    have HW2 := hid (HA2.out.deep H.out.own HB.out HG.out)
    obtain ⟨N, hN⟩ : ∃ N, (p ++ (l.take (k + 1)).flatMap f).length = N := ⟨_, rfl⟩
    obtain ⟨a2, q2, rfl⟩ := HA2.out.own.sliceN hN
    have d0 := HA2.out.c
    have d1 := (HA2.out.rest 12 (by decide)).trans HM.out
    have HD := hid hN
    clear C hb2 hN HA HW HX HST HLN c0 c1
    by_cases hgt : most < (N : Int)
    ·have HP2 := hid (show Cut most (lstB f l) (p ++ (l.take (k + 1)).flatMap f) from by rw [HE.out]; exact ⟨take_pre f p l (k + 1), .inr (by rw [HD.out]; exact hgt)⟩)
     have HZ := hid (fun (m : Nat) => show Buf g B v w (.slice a2 N q2) (p ++ (l.take (k + 1)).flatMap f) (w2.drewN m) from HA2.out.on (drewnE (Below.refl w2.heap.size w2) m))
     go_wp2
     go_quiet (fail)
     go_wp2
     refine bodyPost_ret (results_none rfl _ _ _) rfl ?_
     exact ⟨_, HP2.out, rfl, _, HZ.out _⟩
    ·skip
     go_wp2
     go_quiet (fail)
     go_wp2
     go_roundw
     case rel => exact ⟨k + 1, _, by go_num, by omega, hid (HA2.out.on (drewnE (Below.refl w2.heap.size w2) _)), drewnE HW2.out _⟩
     case measure => simp [intOf]; omega
   ·obtain rfl : k = n := by omega
    have HQ := hid (show l.take k = l from List.take_of_length_le (by rw [HN.out]; exact Nat.le_refl _))
    go_wp2
    go_end0
    exact ⟨_, cut_all _ _, rfl, v9, by have := HA.out; rw [HQ.out, ← HE.out] at this; exact this⟩
end Go.Proofs.YtepbjkkakfpjgaaGreatDoor.Enc
namespace Go.Proofs.YtepbjkkakfpjgaaGreatDoor.Enc
open Go.RowKit Leb Go.Proofs.YtepbjkkakfpjgaaGreatDoor.Instr Go.Proofs.YtepbjkkakfpjgaaGreatDoor.Mod
open Go.Proofs.YtepbjkkakfpjgaaGreatDoor.Body (encL codeL)
structure Sized (m : Md) : Prop where
 n0 : ∀ l ∈ m.tb ++ m.me, 0 ≤ l.n
 ei : ∀ e ∈ m.ex, 0 ≤ e.i ∧ e.i < 4294967296
 ef : ∀ e ∈ m.el, ∀ z ∈ e.fs, 0 ≤ z ∧ z < 4294967296
 db : ∀ d ∈ m.da, ∀ z ∈ d.bs, 0 ≤ z ∧ z < 256
 sn : 0 ≤ m.sn ∧ m.sn < 4294967296
structure Fine (w0 : World) (m : Md) : Prop where
 at_ : ModAt w0.heap.size w0 m
 few : m.few
 nam : Nams w0
 tab : Utf.Tabs w0
 chk : m.check = 0
 enc : ∀ l ∈ m.codes, (encL l.t).length ≤ 90000
 siz : Sized m
theorem check_zero {m : Md} (h : m.check = 0) : m.crowded = false ∧ codeP m.codes = 0 ∧ m.anyName longS = false ∧ m.heavy = false ∧ m.wrong = false := by
 unfold Md.check at h
 cases h1 : m.crowded
 ·rw [h1] at h
  simp only [Bool.false_eq_true, if_false] at h
  by_cases h2 : codeP m.codes = 141
  ·rw [if_pos h2] at h; simp at h
  ·rw [if_neg h2] at h
   cases h3 : m.anyName longS
   ·rw [h3] at h
    simp only [Bool.false_eq_true, if_false] at h
    cases h4 : m.heavy
    ·rw [h4] at h
     simp only [Bool.false_eq_true, if_false] at h
     by_cases h5 : codeP m.codes = 2
     ·rw [if_pos h5] at h; simp at h
     ·rw [if_neg h5] at h
      cases h6 : m.wrong
      ·exact ⟨rfl, by have := codeP_cases m.codes; omega, rfl, rfl, rfl⟩
      ·rw [h6] at h; simp at h
    ·rw [h4] at h; simp at h
   ·rw [h3] at h; simp at h
 ·rw [h1] at h; simp at h
theorem wrong_parts {m : Md} (h : m.wrong = false) : m.anyName noText = false ∧ m.ty.any wrongT = false ∧ m.im.any wrongI = false ∧ m.fu.any wrongF = false ∧ m.ex.any wrongE = false ∧ m.tb.any (beyond 1048576) = false ∧ m.me.any (beyond 65536) = false ∧ (m.st = false → m.sn = 0) := by
 unfold Md.wrong at h
 simp only [Bool.or_eq_false_iff] at h
 obtain ⟨⟨⟨⟨⟨⟨⟨h1, h2⟩, h3⟩, h4⟩, h5⟩, h6⟩, h7⟩, h8⟩ := h
 refine ⟨h1, h2, h3, h4, h5, h6, h7, fun hs => ?_⟩
 rw [hs] at h8
 simpa using h8
theorem any_not {α : Type} {p : α → Bool} {l : List α} (h : l.any p = false) {x : α} (hx : x ∈ l) : p x = false := by
 rw [List.any_eq_false] at h
 simpa using h x hx
structure Fine.Facts (m : Md) : Prop where
 ty : ∀ x ∈ m.ty, Kind.okType x.1 x.2 = true
 im : ∀ x ∈ m.im, x.mo.size ≤ 1000 ∧ x.na.size ≤ 1000 ∧ noText x.mo = false ∧ noText x.na = false ∧ 0 ≤ x.ty ∧ x.ty ≤ 2147483647
 fu : ∀ x ∈ m.fu, 0 ≤ x.ty ∧ x.ty ≤ 2147483647 ∧ 0 ≤ x.lo ∧ x.lo ≤ 50000
 tb : ∀ x ∈ m.tb, Kind.okLim x.n x.x x.c 1048576 = true
 me : ∀ x ∈ m.me, Kind.okLim x.n x.x x.c 65536 = true
 ex : ∀ x ∈ m.ex, x.na.size ≤ 1000 ∧ noText x.na = false ∧ 0 ≤ x.k ∧ x.k ≤ 3
 el : ∀ x ∈ m.el, x.fs.length ≤ 16384
 da : sumB m.da ≤ 1048576
 ck : ∀ l ∈ m.codes, checkP l.t = 0
 lens : m.ty.length ≤ 16384 ∧ m.im.length ≤ 16384 ∧ m.fu.length ≤ 16384 ∧ m.tb.length ≤ 1 ∧ m.me.length ≤ 1 ∧ m.gl.length ≤ 16384 ∧ m.ex.length ≤ 16384 ∧ m.el.length ≤ 16384 ∧ m.da.length ≤ 16384
 st : m.st = false → m.sn = 0
theorem facts_of {m : Md} (h : m.check = 0) : Fine.Facts m := by
 obtain ⟨h1, h2, h3, h4, h5⟩ := check_zero h
 obtain ⟨k1, k2, k3, k4, k5, k6, k7, k8⟩ := wrong_parts h5
 have e3 := h3
 have e1 := k1
 unfold Md.anyName at e3 e1
 simp only [Bool.or_eq_false_iff] at e3 e1
 have hc := h1
 unfold Md.crowded at hc
 simp only [Bool.or_eq_false_iff, decide_eq_false_iff_not] at hc
 obtain ⟨⟨⟨⟨⟨⟨⟨⟨⟨c1, c2⟩, c3⟩, c4⟩, c5⟩, c6⟩, c7⟩, c8⟩, c9⟩, c10⟩ := hc
 refine ⟨fun x hx => ?_, fun x hx => ?_, fun x hx => ?_, fun x hx => ?_, fun x hx => ?_, fun x hx => ?_, fun x hx => ?_, ?_, (codeP_zero _).1 h2, ⟨by omega, by omega, by omega, by omega, by omega, by omega, by omega, by omega, by omega⟩, k8⟩
 ·have := any_not k2 hx
  unfold wrongT at this
  simpa using this
 ·have a1 := any_not e3.1 hx
  have a2 := any_not e1.1 hx
  have a3 := any_not k3 hx
  simp only [Bool.or_eq_false_iff] at a1 a2
  unfold wrongI wrongN at a3
  unfold longS at a1
  simp only [Bool.or_eq_false_iff, decide_eq_false_iff_not] at a1 a3
  exact ⟨by omega, by omega, a2.1, a2.2, by omega, by omega⟩
 ·have a3 := any_not k4 hx
  unfold wrongF wrongN at a3
  simp only [Bool.or_eq_false_iff, decide_eq_false_iff_not] at a3
  exact ⟨by omega, by omega, by omega, by omega⟩
 ·have := any_not k6 hx
  unfold beyond at this
  simpa using this
 ·have := any_not k7 hx
  unfold beyond at this
  simpa using this
 ·have a1 := any_not e3.2 hx
  have a2 := any_not e1.2 hx
  have a3 := any_not k5 hx
  unfold wrongE at a3
  unfold longS at a1
  simp only [Bool.or_eq_false_iff, decide_eq_false_iff_not] at a1 a3
  exact ⟨by omega, a2, by omega, by omega⟩
 ·have := any_not c8 hx
  simpa using this
 ·unfold Md.heavy at h4
  have := of_decide_eq_false h4
  omega
theorem bytes_few {l : List Da} {d : Da} (h : d ∈ l) : d.bs.length ≤ sumB l := by
 induction l with
 | nil => cases h
 | cons x r ih =>
  rcases List.mem_cons.1 h with rfl | h
  ·simp [sumB]
  ·have := ih h
   simp only [sumB]; omega
theorem okLim_le {n x most : Int} {c : Bool} (h : Kind.okLim n x c most = true) (h0 : 0 ≤ n) (hm : most ≤ 4294967295) : (0 ≤ n ∧ n ≤ 4294967295) ∧ (0 ≤ x ∧ x ≤ 4294967295) := by
 unfold Kind.okLim at h
 cases c
 ·simp at h; omega
 ·simp at h; omega
structure Wr (w0 : World) (m : Md) (g B : Nat) (most : Int) (v : Value) (zs : List Int) (W : World) : Prop where
 buf : Buf g B v W v zs W
 low : Below w0.heap.size w0 W
 hg : w0.heap.size < g
 box : ∀ j x, m.v[j]? = some x → W.cell? ⟨g, 1 + j, none⟩ = some x
 most : W.cell? ⟨g, 12, none⟩ = some (.int .i64 most)
theorem mem_fu {m : Md} {x : Mod.Fn} (h : x ∈ m.fu) : x.l ∈ m.codes := by unfold Md.codes; exact List.mem_append_left _ (List.mem_map.2 ⟨_, h, rfl⟩)
theorem mem_gl {m : Md} {x : Gl} (h : x ∈ m.gl) : x.l ∈ m.codes := by unfold Md.codes; exact List.mem_append_right _ (List.mem_append_left _ (List.mem_map.2 ⟨_, h, rfl⟩))
theorem mem_el {m : Md} {x : El} (h : x ∈ m.el) : x.l ∈ m.codes := by unfold Md.codes; exact List.mem_append_right _ (List.mem_append_right _ (List.mem_append_left _ (List.mem_map.2 ⟨_, h, rfl⟩)))
theorem mem_da {m : Md} {x : Da} (h : x ∈ m.da) : x.l ∈ m.codes := by unfold Md.codes; exact List.mem_append_right _ (List.mem_append_right _ (List.mem_append_right _ (List.mem_map.2 ⟨_, h, rfl⟩)))
end Go.Proofs.YtepbjkkakfpjgaaGreatDoor.Enc
namespace Go.Proofs.YtepbjkkakfpjgaaGreatDoor.Body
open Go.RowKit Go.Proofs.YtepbjkkakfpjgaaGreatDoor.Instr
theorem rightDoc_any (x : Ix) (w : World) : Calls Tryz.prog 230 #[.agg x.vals] w fun e w' => e = .returned (.bool (lawfulP x)) ∧ Below w.heap.size w w' := by
 by_cases hn : nameL x.op = []
 ·have h0 : lawfulP x = false := by
   rw [← Bool.not_eq_true]; intro h; exact ((lawful_iff x).1 h).1 hn
  rw [h0]
  exact right_none x.op x.res x.a x.b x.n x.tags.length x.ln x.en x.ta x.la x.ea x.tc x.lc x.ec w hn
 ·rcases kind_cases x.op with h | h | h | h | h | h | h | h
  ·exact right_0 x w hn h
  ·by_cases h4 : x.op = 4
   ·exact right_1a x w hn h h4
   ·exact right_1b x w hn h h4
  ·exact right_2 x w hn h
  ·exact right_3 x w hn h
  ·exact right_4 x w hn h
  ·exact right_5 x w hn h
  ·exact right_6 x w hn h
  ·exact right_7 x w hn h
set_option maxHeartbeats 1600000 in
theorem allDoc_any : ∀ (m : Nat) (t : Il) (a : Option Addr) (len c : Nat) (w : World), t.count ≤ m → ListAt w.heap.size w a len t → len ≤ 140737488351232 → t.count ≤ 4611686018427387900 →
  Calls Tryz.prog 216 #[.slice a len c] w fun e w' => e = .returned (.bool t.all) ∧ Below w.heap.size w w' := by
 intro m
 induction m with
 | zero =>
  intro t a len c w hm hL hlen hbig
  cases t with
  | cons x l e r => simp only [Il.count] at hm; omega
  | nil =>
   have h0 : len = 0 := hL.1.symm
   subst h0
   clear hm hL hlen hbig
   go_enter Tryz.func216, Tryz.ntmps216
   go_wp2
   go_loopw [3] (fun si wr => si = .int .i64 0 ∧ wr = w) (fun _ _ => 0)
   case atStart => exact ⟨rfl, rfl⟩
   case round =>
    obtain ⟨rfl, rfl⟩ := hrel
    go_wp2
    go_ret
    exact ⟨rfl, Below.refl _ _⟩
 | succ m ih =>
  intro t a len c w hm hL hlen hbig
  obtain ⟨hL1, hL2⟩ := hL
  rcases hL2 with rfl | ⟨b, off, rfl, hi⟩
  ·have h0 : len = 0 := hL1.symm
   subst h0
   clear ih hm hL1 hlen hbig
   go_enter Tryz.func216, Tryz.ntmps216
   go_wp2
   go_loopw [3] (fun si wr => si = .int .i64 0 ∧ wr = w) (fun _ _ => 0)
   case atStart => exact ⟨rfl, rfl⟩
   case round =>
    obtain ⟨rfl, rfl⟩ := hrel
    go_wp2
    go_ret
    exact ⟨rfl, Below.refl _ _⟩
  ·have HM := hid hm
   have HB := hid hbig
   have HL1 := hid hL1
   have HI := hid hi
   clear hm hbig hL1 hi
   go_enter Tryz.func216, Tryz.ntmps216
   go_wp2
   go_loopw [3] (fun si wr => ∃ (k : Nat) (rest : Il), si = .int .i64 k ∧ k ≤ len ∧ Hid (k + rest.len = len ∧ rest.count ≤ t.count ∧ rest.all = t.all) ∧ Hid (Items w.heap.size w b (off + k * 8) rest) ∧ Below w.heap.size w wr)
    (fun si _ => len - (intOf si).toNat)
   case atStart => exact ⟨0, t, rfl, Nat.zero_le _, ⟨by have := HL1.out; omega, Nat.le_refl _, rfl⟩, by simpa using HI, Below.refl _ _⟩
   case round =>
    obtain ⟨k, rest, rfl, hk, HR, HIR, hb⟩ := hrel
    cases rest with
    | nil =>
     obtain ⟨r1, _, r3⟩ := HR.out
     have hkl : k = len := by simpa [Il.len] using r1
     subst hkl
     have R3 : Hid (t.all = true) := by show _ = _; rw [← r3]; rfl
     clear r3
     go_wp2
     go_ret
     exact ⟨ret_bool R3.out.symm, hb⟩
    | cons x tl te r =>
     have hir := Items.below hb HIR.out
     obtain ⟨hbn, hx, ⟨c0, c1, c2, c3, c4, c5, c6, c7⟩, _⟩ := hir
     have hir0 := HIR.out
     obtain ⟨_, _, _, ht, hLl, hLe, hir'⟩ := hir0
     have hlt : k < len := by have := HR.out.1; simp only [Il.len] at this; omega
     have hLn := hx.ln
     have hEn := hx.en
     have hcnt : tl.count + te.count + 1 ≤ m + 1 ∧ tl.count ≤ 4611686018427387900 ∧ te.count ≤ 4611686018427387900 := by
      have h1 := HR.out.2.1
      have h2 := HM.out
      have h3 := HB.out
      simp only [Il.count] at h1
      omega
     obtain ⟨k1, k2, k3⟩ := hcnt
     have N1 := fun w' => rightDoc_any x w'
     have N2 := fun w' (hb' : Below w.heap.size w w') => ih tl x.la x.ln x.lc w' (by omega) (ListAt.on hLl hb') hLn k2
     have N3 := fun w' (hb' : Below w.heap.size w w') => ih te x.ea x.en x.ec w' (by omega) (ListAt.on hLe hb') hEn k3
     have HE : Hid (t.all = (lawfulP x && tl.all && te.all && r.all)) := by show _ = _; rw [← HR.out.2.2]; rfl
     have H1 := hid N1
     have H2 := hid N2
     have H3 := hid N3
     unfold Ix.vals at H1
     clear N1 N2 N3 ih k1 k2 k3 hLl hLe
     obtain ⟨g0, hg0⟩ : ∃ g, lawfulP x = g := ⟨_, rfl⟩
     obtain ⟨g1, hg1⟩ : ∃ g, tl.all = g := ⟨_, rfl⟩
     obtain ⟨g2, hg2⟩ : ∃ g, te.all = g := ⟨_, rfl⟩
     simp only [hg0] at H1
     simp only [hg1] at H2
     simp only [hg2] at H3
     have HE2 : Hid (t.all = (g0 && g1 && g2 && r.all)) := by show _ = _; rw [HE.out, hg0, hg1, hg2]
     clear hg0 hg1 hg2 HE
     go_wp2_with fail
     refine (H1.out _).mono ?_
     clear H1
     rintro e1 w3 ⟨rfl, hb3⟩
     have hbW := thenB hb hb3
     have d6 := keep (w1 := w3) hb3 c6
     have d7 := keep (w1 := w3) hb3 c7
     cases g0
     ·have R : Hid (t.all = false) := by show _ = _; rw [HE2.out]; rfl
      clear H2 H3
      go_wp2
      go_ret
      exact ⟨ret_bool R.out.symm, hbW⟩
     go_wp2_with fail
     refine (H2.out _ hbW).mono ?_
     clear H2
     rintro e1 w4 ⟨rfl, hb4⟩
     have hbX := thenB hbW hb4
     have e7 := keep (w1 := w4) hb4 d7
     cases g1
     ·have R : Hid (t.all = false) := by show _ = _; rw [HE2.out]; rfl
      clear H3
      go_wp2
      go_ret
      exact ⟨ret_bool R.out.symm, hbX⟩
     go_wp2_with fail
     refine (H3.out _ hbX).mono ?_
     clear H3
     rintro e1 w5 ⟨rfl, hb5⟩
     have hbY := thenB hbX hb5
     cases g2
     ·have R : Hid (t.all = false) := by show _ = _; rw [HE2.out]; rfl
      go_wp2
      go_ret
      exact ⟨ret_bool R.out.symm, hbY⟩
     go_wp2
     go_roundw
     case rel =>
      refine ⟨k + 1, r, by simp, by omega, ⟨by have := HR.out.1; simp only [Il.len] at this; omega, by have := HR.out.2.1; simp only [Il.count] at this; omega, ?_⟩, by rw [show off + (k + 1) * 8 = off + k * 8 + 8 by omega]; exact hir', hbY⟩
      rw [HE2.out]; rfl
     case measure => simp [intOf]; omega
set_option maxHeartbeats 1600000 in
theorem checkDoc_any (t : Il) (a : Option Addr) (len c : Nat) (w : World) (hL : ListAt w.heap.size w a len t) (hlen : len ≤ 140737488351232) (hbig : t.count ≤ 4611686018427387900) :
  Calls Tryz.prog 201 #[.slice a len c] w fun e w' => e = .returned (.int .i64 (checkP t)) ∧ Below w.heap.size w w' := by
 have CA := fun w' (h : ListAt w'.heap.size w' a len t) => allDoc_any t.count t a len c w' (Nat.le_refl _) h hlen hbig
 have CN := fun w' (h : ListAt w'.heap.size w' a len t) => refCount_any t.count t a len c w' (Nat.le_refl _) h hlen hbig
 have CD := fun w' (h : ListAt w'.heap.size w' a len t) => refDeep_any t.count t a len c w' (Nat.le_refl _) h hlen hbig
 have CT := fun w' (h : ListAt w'.heap.size w' a len t) => refTags_any t.count t a len c w' (Nat.le_refl _) h hlen hbig
 unfold checkP
 obtain ⟨ga, hga⟩ : ∃ g, t.all = g := ⟨_, rfl⟩
 simp only [hga] at CA ⊢
 cases ga
 ·have C1 := hid CA
  clear CA CN CD CT hga hbig hlen
  rw [if_neg (by decide)]
  go_enter Tryz.func201, Tryz.ntmps201
  go_wp2_with fail
  refine (C1.out _ hL).mono ?_
  rintro e w1 ⟨rfl, hb1⟩
  go_wp2
  go_ret
  exact ⟨rfl, hb1⟩
 rw [if_pos rfl]
 obtain ⟨n, hn⟩ : ∃ n : Int, (t.count : Int) = n := ⟨_, rfl⟩
 obtain ⟨d, hd⟩ : ∃ d : Int, (t.deep : Int) = d := ⟨_, rfl⟩
 obtain ⟨g, hgt⟩ : ∃ g, t.tags = g := ⟨_, rfl⟩
 simp only [hn] at CN
 simp only [hd] at CD
 simp only [hgt] at CT
 have hR : (if 262144 < t.count ∨ 900 < t.deep ∨ t.tags = true then (141 : Int) else 0) = if 262144 < n ∨ 900 < d ∨ g = true then 141 else 0 := by
  rw [hgt, ← hn, ← hd]
  congr 1
  simp only [eq_iff_iff]
  constructor <;> (rintro (h | h | h)) <;> first | exact .inl (by omega) | exact .inr (.inl (by omega)) | exact .inr (.inr h)
 rw [hR]
 clear hR hn hd hgt hga hbig hlen
 have C1 := hid CA
 have C2 := hid CN
 have C3 := hid CD
 have C4 := hid CT
 clear CA CN CD CT
 by_cases h1 : 262144 < n
 ·rw [if_pos (.inl h1)]
  go_enter Tryz.func201, Tryz.ntmps201
  go_wp2_with fail
  refine (C1.out _ hL).mono ?_
  rintro e w1 ⟨rfl, hb1⟩
  go_wp2_with fail
  refine (C2.out _ (hL.on hb1)).mono ?_
  rintro e w2 ⟨rfl, hb2⟩
  go_wp2
  go_ret
  exact ⟨rfl, thenB hb1 hb2⟩
 ·have h1' : n ≤ 262144 := by omega
  by_cases h2 : 900 < d
  ·rw [if_pos (.inr (.inl h2))]
   go_enter Tryz.func201, Tryz.ntmps201
   go_wp2_with fail
   refine (C1.out _ hL).mono ?_
   rintro e w1 ⟨rfl, hb1⟩
   go_wp2_with fail
   refine (C2.out _ (hL.on hb1)).mono ?_
   rintro e w2 ⟨rfl, hb2⟩
   go_wp2_with fail
   refine (C3.out _ ((hL.on hb1).on hb2)).mono ?_
   rintro e w3 ⟨rfl, hb3⟩
   go_wp2
   go_ret
   exact ⟨rfl, thenB (thenB hb1 hb2) hb3⟩
  ·have h2' : d ≤ 900 := by omega
   have hR : (if 262144 < n ∨ 900 < d ∨ g = true then (141 : Int) else 0) = if g then 141 else 0 := by simp [h1, h2]
   rw [hR]
   clear hR
   cases g
   all_goals
    go_enter Tryz.func201, Tryz.ntmps201
    go_wp2_with fail
    refine (C1.out _ hL).mono ?_
    rintro e w1 ⟨rfl, hb1⟩
    go_wp2_with fail
    refine (C2.out _ (hL.on hb1)).mono ?_
    rintro e w2 ⟨rfl, hb2⟩
    go_wp2_with fail
    refine (C3.out _ ((hL.on hb1).on hb2)).mono ?_
    rintro e w3 ⟨rfl, hb3⟩
    go_wp2_with fail
    refine (C4.out _ (((hL.on hb1).on hb2).on hb3)).mono ?_
    rintro e w4 ⟨rfl, hb4⟩
    go_wp2
    go_ret
    exact ⟨rfl, thenB (thenB (thenB hb1 hb2) hb3) hb4⟩
end Go.Proofs.YtepbjkkakfpjgaaGreatDoor.Body
namespace Go.Proofs.YtepbjkkakfpjgaaGreatDoor.Utf
open Go.RowKit
theorem Rune_any (n : Int) (w : World) : Calls Tryz.prog 225 #[.int .i64 n] w fun e w' => e = .returned (.bool (decide (Rune n))) ∧ w' = w := by
 by_cases h : Rune n
 ·have hd : decide (Rune n) = true := decide_eq_true h
  rw [hd]
  obtain ⟨h0, h1, h2⟩ := h
  by_cases h3 : n < 55296
  ·go_enter Tryz.func225, Tryz.ntmps225
   go_wp2
   go_ret
   exact ⟨rfl, rfl⟩
  ·have h4 : 57343 < n := by omega
   go_enter Tryz.func225, Tryz.ntmps225
   go_wp2
   go_ret
   exact ⟨rfl, rfl⟩
 ·have hd : decide (Rune n) = false := decide_eq_false h
  rw [hd]
  unfold Rune at h
  by_cases h0 : n < 0
  ·clear h hd
   go_enter Tryz.func225, Tryz.ntmps225
   go_wp2
   go_ret
   exact ⟨rfl, rfl⟩
  by_cases h1 : 1114111 < n
  ·clear h hd
   go_enter Tryz.func225, Tryz.ntmps225
   go_wp2
   go_ret
   exact ⟨rfl, rfl⟩
  ·have h2 : ¬ n < 55296 := by omega
   have h3 : ¬ 57343 < n := by omega
   clear h hd
   go_enter Tryz.func225, Tryz.ntmps225
   go_wp2
   go_ret
   exact ⟨rfl, rfl⟩
theorem own_made (w : World) (zs : List Int) (hl : zs.length ≤ 140737488355328) : Own w.heap.size (w.alloc (.cells (zs.map (Value.int .u8)).toArray 5)) (.slice (some ⟨w.heap.size, 0, none⟩) zs.length zs.length) zs := by
 refine ⟨by simp, .inr ⟨w.heap.size, zs.length, (zs.map (Value.int .u8)).toArray, rfl, Nat.le_refl _, ?_, Nat.le_refl _, by unfold maxLen; omega, by simp, ?_⟩⟩
 ·simp [World.alloc, -World.alloc_eq]
 ·rw [List.take_of_length_le (by simp)]
theorem gives_made (w : World) (zs : List Int) (n : Nat) (hn : zs.length = n) (hl : n ≤ 1000) (cs : Array Value) (hc : cs = (zs.map (Value.int .u8)).toArray) : Gives w zs (.returned (.slice (some ⟨w.heap.size, 0, none⟩) n n)) (w.alloc (.cells cs 5)) := by
 subst hn; subst hc
 exact ⟨_, rfl, own_made w zs (by omega), (Below.refl _ _).alloc (Nat.le_refl _) _⟩
theorem one_any (n : Int) (w : World) (h : Rune n) : Calls Tryz.prog 226 #[.int .i64 n] w (Gives w (oneL n)) := by
 obtain ⟨h0, h1, _⟩ := h
 have e1 : Int.tdiv n 64 = n / 64 := Int.tdiv_eq_ediv_of_nonneg h0
 have e2 : Int.tdiv n 4096 = n / 4096 := Int.tdiv_eq_ediv_of_nonneg h0
 have e3 : Int.tdiv n 262144 = n / 262144 := Int.tdiv_eq_ediv_of_nonneg h0
 have e4 : Int.tmod n 64 = n % 64 := Int.tmod_eq_emod_of_nonneg h0
 have e5 : Int.tmod (n / 64) 64 = n / 64 % 64 := Int.tmod_eq_emod_of_nonneg (by omega)
 have e6 : Int.tmod (n / 4096) 64 = n / 4096 % 64 := Int.tmod_eq_emod_of_nonneg (by omega)
 by_cases a : n < 128
 ·have e : oneL n = [n] := by simp [oneL, a]
  rw [e]
  clear e
  go_enter Tryz.func226, Tryz.ntmps226
  go_wp2
  go_ret
  exact gives_made w [n] 1 rfl (by omega) _ rfl
 by_cases b : n < 2048
 ·have e : oneL n = [192 + n / 64, 128 + n % 64] := by simp [oneL, a, b]
  rw [e]
  clear e
  go_enter Tryz.func226, Tryz.ntmps226
  go_wp2
  go_ret
  exact gives_made w [192 + n / 64, 128 + n % 64] 2 rfl (by omega) _ rfl
 by_cases d : n < 65536
 ·have e : oneL n = [224 + n / 4096, 128 + n / 64 % 64, 128 + n % 64] := by simp [oneL, a, b, d]
  rw [e]
  clear e
  go_enter Tryz.func226, Tryz.ntmps226
  go_wp2
  go_ret
  exact gives_made w [224 + n / 4096, 128 + n / 64 % 64, 128 + n % 64] 3 rfl (by omega) _ rfl
 ·have e : oneL n = [240 + n / 262144, 128 + n / 4096 % 64, 128 + n / 64 % 64, 128 + n % 64] := by simp [oneL, a, b, d]
  rw [e]
  clear e
  go_enter Tryz.func226, Tryz.ntmps226
  go_wp2
  go_ret
  exact gives_made w [240 + n / 262144, 128 + n / 4096 % 64, 128 + n / 64 % 64, 128 + n % 64] 4 rfl (by omega) _ rfl
def tailR : List Int → Int × Bool
 | [] => (0, false)
 | c :: _ => if 128 ≤ c ∧ c < 192 then (c - 128, true) else (0, false)
set_option maxHeartbeats 800000 in
theorem tail_any (a : Option Addr) (len cap : Nat) (zs : List Int) (p : Int) (w : World) (hlen : zs.length = len) (hz : Bytes w a zs) (hp : 0 ≤ p) :
  Calls Tryz.prog 224 #[.slice a len cap, .int .i64 p] w fun e w' => e = .returned (.tuple #[.int .i64 (tailR (zs.drop p.toNat)).1, .bool (tailR (zs.drop p.toNat)).2]) ∧ Below w.heap.size w w' := by
 by_cases hl : (len : Int) ≤ p
 ·have : zs.drop p.toNat = [] := List.drop_eq_nil_of_le (by omega)
  rw [this]
  clear hlen this hz
  go_enter Tryz.func224, Tryz.ntmps224
  go_wp2
  exact bodyPost_ret (v := .tuple #[.int .i64 0, .bool false]) (by simp [results, Tryz.results224, go_sem]) rfl ⟨rfl, Below.refl _ _⟩
 obtain ⟨i, rfl⟩ := Int.eq_ofNat_of_zero_le hp
 have hi : i < zs.length := by omega
 obtain ⟨b, off, rfl, hcell⟩ := hz.at (by omega)
 have hc := hcell i hi
 obtain ⟨c0, c1⟩ := hz.get hi
 rw [Int.toNat_natCast, drop_at hi]
 generalize zs.getD i 0 = c at *
 have hil : i < len := by omega
 clear hcell hlen hi hz hp
 by_cases h1 : 128 ≤ c
 ·by_cases h2 : c < 192
  ·have e : tailR (c :: zs.drop (i + 1)) = (c - 128, true) := if_pos ⟨h1, h2⟩
   rw [e]
   clear e
   go_enter Tryz.func224, Tryz.ntmps224
   go_wp2
   exact bodyPost_ret (v := .tuple #[.int .i64 (c - 128), .bool true]) (by simp [results, Tryz.results224, go_sem]) rfl ⟨rfl, Below.refl _ _⟩
  ·have e : tailR (c :: zs.drop (i + 1)) = (0, false) := if_neg (by omega)
   rw [e]
   clear e
   go_enter Tryz.func224, Tryz.ntmps224
   go_wp2
   exact bodyPost_ret (v := .tuple #[.int .i64 0, .bool false]) (by simp [results, Tryz.results224, go_sem]) rfl ⟨rfl, Below.refl _ _⟩
 ·have e : tailR (c :: zs.drop (i + 1)) = (0, false) := if_neg (by omega)
  rw [e]
  clear e
  go_enter Tryz.func224, Tryz.ntmps224
  go_wp2
  exact bodyPost_ret (v := .tuple #[.int .i64 0, .bool false]) (by simp [results, Tryz.results224, go_sem]) rfl ⟨rfl, Below.refl _ _⟩
def firstR (c : Int) : Int × Int × Bool := match firstL c with
 | some (n, k) => (n, k, true)
 | none => (0, 0, false)
theorem first_any (c : Int) (w : World) (c0 : 0 ≤ c) (c1 : c < 256) :
  Calls Tryz.prog 223 #[.int .u8 c] w fun e w' => e = .returned (.tuple #[.int .i64 (firstR c).1, .int .i64 (firstR c).2.1, .bool (firstR c).2.2]) ∧ w' = w := by
 by_cases h1 : c < 128
 ·have e : firstR c = (c, 0, true) := by unfold firstR firstL; rw [if_pos h1]; rfl
  rw [e]; clear e
  go_enter Tryz.func223, Tryz.ntmps223
  go_wp2
  exact bodyPost_ret (v := .tuple #[.int .i64 (c), .int .i64 0, .bool true]) (by simp [results, Tryz.results223, go_sem]) rfl ⟨rfl, rfl⟩
 by_cases h2 : c < 192
 ·have e : firstR c = (0, 0, false) := by unfold firstR firstL; rw [if_neg h1, if_neg (by omega), if_neg (by omega), if_neg (by omega)]
  rw [e]; clear e
  go_enter Tryz.func223, Tryz.ntmps223
  go_wp2
  exact bodyPost_ret (v := .tuple #[.int .i64 (0), .int .i64 0, .bool false]) (by simp [results, Tryz.results223, go_sem]) rfl ⟨rfl, rfl⟩
 by_cases h3 : c < 224
 ·have e : firstR c = (c - 192, 1, true) := by unfold firstR firstL; rw [if_neg h1, if_pos (by omega)]; rfl
  rw [e]; clear e
  go_enter Tryz.func223, Tryz.ntmps223
  go_wp2
  exact bodyPost_ret (v := .tuple #[.int .i64 (c - 192), .int .i64 1, .bool true]) (by simp [results, Tryz.results223, go_sem]) rfl ⟨rfl, rfl⟩
 by_cases h4 : c < 240
 ·have e : firstR c = (c - 224, 2, true) := by unfold firstR firstL; rw [if_neg h1, if_neg (by omega), if_pos (by omega)]; rfl
  rw [e]; clear e
  go_enter Tryz.func223, Tryz.ntmps223
  go_wp2
  exact bodyPost_ret (v := .tuple #[.int .i64 (c - 224), .int .i64 2, .bool true]) (by simp [results, Tryz.results223, go_sem]) rfl ⟨rfl, rfl⟩
 by_cases h5 : c < 248
 ·have e : firstR c = (c - 240, 3, true) := by unfold firstR firstL; rw [if_neg h1, if_neg (by omega), if_neg (by omega), if_pos (by omega)]; rfl
  rw [e]; clear e
  go_enter Tryz.func223, Tryz.ntmps223
  go_wp2
  exact bodyPost_ret (v := .tuple #[.int .i64 (c - 240), .int .i64 3, .bool true]) (by simp [results, Tryz.results223, go_sem]) rfl ⟨rfl, rfl⟩
 ·have e : firstR c = (0, 0, false) := by unfold firstR firstL; rw [if_neg h1, if_neg (by omega), if_neg (by omega), if_neg (by omega)]
  rw [e]; clear e
  go_enter Tryz.func223, Tryz.ntmps223
  go_wp2
  exact bodyPost_ret (v := .tuple #[.int .i64 (0), .int .i64 0, .bool false]) (by simp [results, Tryz.results223, go_sem]) rfl ⟨rfl, rfl⟩
end Go.Proofs.YtepbjkkakfpjgaaGreatDoor.Utf
namespace Go.Proofs.YtepbjkkakfpjgaaGreatDoor.Utf
open Go.RowKit
def atR : List Int → Int × Int × Bool
 | [] => (0, 0, false)
 | c :: t => match firstL c with
  | none => (0, 0, false)
  | some (n0, more) => match tailsL more n0 t with
   | none => (0, 0, false)
   | some n => (n, (more + 1 : Nat), decide (Rune n ∧ (oneL n).length = more + 1))
theorem atR_some {l : List Int} {n : Int} {k : Nat} (h : atL l = some (n, k)) : atR l = (n, (k : Int), true) := by
 cases l with
 | nil => cases h
 | cons c t =>
  simp only [atL] at h
  simp only [atR]
  cases hf : firstL c with
  | none => rw [hf] at h; cases h
  | some q =>
   obtain ⟨n0, more⟩ := q
   rw [hf] at h
   simp only at h ⊢
   cases ht : tailsL more n0 t with
   | none => rw [ht] at h; cases h
   | some m =>
    rw [ht] at h
    simp only at h ⊢
    split at h
    ·rename_i hr
     cases h
     rw [decide_eq_true hr]
    ·cases h
theorem atR_none {l : List Int} (h : atL l = none) : (atR l).2.2 = false := by
 cases l with
 | nil => rfl
 | cons c t =>
  simp only [atL] at h
  simp only [atR]
  cases hf : firstL c with
  | none => rfl
  | some q =>
   obtain ⟨n0, more⟩ := q
   rw [hf] at h
   simp only at h ⊢
   cases ht : tailsL more n0 t with
   | none => rfl
   | some m =>
    rw [ht] at h
    simp only at h ⊢
    split at h
    ·cases h
    ·rename_i hr
     exact decide_eq_false hr
theorem firstL_some {c n : Int} {k : Nat} (h0 : 0 ≤ c) (h : firstL c = some (n, k)) : 0 ≤ n ∧ n < 128 ∧ k ≤ 3 ∧ firstR c = (n, (k : Int), true) := by
 have hr : firstR c = (n, (k : Int), true) := by unfold firstR; rw [h]
 refine ⟨?_, ?_, ?_, hr⟩
 all_goals
  unfold firstL at h
  repeat' split at h
  all_goals first | (cases h; omega) | (cases h)
theorem firstL_none {c : Int} (h : firstL c = none) : firstR c = (0, 0, false) := by unfold firstR; rw [h]
theorem tailsL_step {m : Nat} {n : Int} {l : List Int} (h : (tailR l).2 = true) : tailsL (m + 1) n l = tailsL m (64 * n + (tailR l).1) (l.drop 1) ∧ 0 ≤ (tailR l).1 ∧ (tailR l).1 < 64 := by
 cases l with
 | nil => cases h
 | cons c t =>
  unfold tailR at h ⊢
  by_cases hc : 128 ≤ c ∧ c < 192
  ·simp only [if_pos hc, tailsL, List.drop_one, List.tail_cons]
   exact ⟨trivial, by omega, by omega⟩
  ·simp [if_neg hc] at h
theorem tailsL_stop {m : Nat} {n : Int} {l : List Int} (h : (tailR l).2 = false) : tailsL (m + 1) n l = none := by
 cases l with
 | nil => rfl
 | cons c t =>
  unfold tailR at h
  by_cases hc : 128 ≤ c ∧ c < 192
  ·simp [if_pos hc] at h
  ·simp only [tailsL, if_neg hc]
set_option maxHeartbeats 1600000 in
theorem at_any (a : Option Addr) (len cap : Nat) (zs : List Int) (i : Nat) (w : World) (hlen : zs.length = len) (hz : Bytes w a zs) (hi : i < len) :
  Calls Tryz.prog 207 #[.slice a len cap, .int .i64 i] w fun e w' => e = .returned (.tuple #[.int .i64 (atR (zs.drop i)).1, .int .i64 (atR (zs.drop i)).2.1, .bool (atR (zs.drop i)).2.2]) ∧ Below w.heap.size w w' := by
 have hil : i < zs.length := by omega
 have hz0 := hz
 obtain ⟨b, off, rfl, hcell⟩ := hz.at (by omega)
 have hc := hcell i hil
 obtain ⟨c0, c1⟩ := hz.get hil
 have hmax := hz.size
 rw [hlen] at hmax
 have HD := hid (drop_at hil)
 generalize zs.getD i 0 = c at *
 have HL := hid hlen
 clear hcell hlen hil hz
 cases hf : firstL c with
 | none =>
  have HR : Hid (atR (zs.drop i) = (0, 0, false)) := by
   show _ = _
   rw [HD.out]; simp only [atR, hf]
  have hfr := hid (firstL_none hf)
  clear hf
  go_enter Tryz.func207, Tryz.ntmps207
  go_wp2_with fail
  refine (first_any c _ c0 c1).mono ?_
  rw [hfr.out]
  rintro e w1 ⟨rfl, rfl⟩
  go_wp2
  exact bodyPost_ret (v := .tuple #[.int .i64 0, .int .i64 0, .bool false]) (by simp [results, Tryz.results207, go_sem]) rfl ⟨by rw [HR.out], Below.refl _ _⟩
 | some q =>
  obtain ⟨n0, more⟩ := q
  obtain ⟨hn0, hn1, hm3, hfr⟩ := firstL_some c0 hf
  have HF := hid hfr
  have HA : Hid (atR (zs.drop i) = match tailsL more n0 (zs.drop (i + 1)) with
    | none => (0, 0, false)
    | some n => (n, (more + 1 : Nat), decide (Rune n ∧ (oneL n).length = more + 1))) := by
   show _ = _
   rw [HD.out]; simp only [atR, hf]
  clear hf hfr
  go_enter Tryz.func207, Tryz.ntmps207
  go_wp2_with fail
  refine (first_any c _ c0 c1).mono ?_
  rw [HF.out]
  rintro e w1 ⟨rfl, rfl⟩
  clear HF
  go_wp2
  go_loopw [7, 10] (fun vn vi wr => ∃ (j : Nat) (acc : Int), vi = .int .i64 (j + 1 : Nat) ∧ vn = .int .i64 acc ∧ j ≤ more ∧ 0 ≤ acc ∧ acc < 128 * 64 ^ j ∧ tailsL more n0 (zs.drop (i + 1)) = tailsL (more - j) acc (zs.drop (i + 1 + j)) ∧ Below w1.heap.size w1 wr)
   (fun _ vi _ => more + 1 - (intOf vi).toNat)
  case atStart => exact ⟨0, n0, rfl, rfl, Nat.zero_le _, hn0, by simpa using hn1, rfl, Below.refl _ _⟩
  case round =>
   obtain ⟨j, acc, rfl, rfl, hj, ha0, ha1, hT, hb⟩ := hrel
   have HT := hid hT
   clear hT
   have ha2 : acc < 33554432 := by
    have h4 : j = 0 ∨ j = 1 ∨ j = 2 ∨ j = 3 := by omega
    rcases h4 with rfl | rfl | rfl | rfl <;> simp at ha1 <;> omega
   have HP := hid ha1
   clear ha1
   by_cases hjm : j < more
   ·go_wp2_with fail
    refine (tail_any _ len cap zs _ _ HL.out (hz0.below hb) (by omega)).mono ?_
    have hX : ((i : Int) + ((j : Int) + 1)).toNat = i + 1 + j := by omega
    rw [hX]
    rintro e w2 ⟨rfl, hb2⟩
    have hb' := thenB hb hb2
    obtain ⟨k, hk⟩ : ∃ k, more - j = k + 1 := ⟨more - j - 1, by omega⟩
    cases ht : (tailR (zs.drop (i + 1 + j))).2 with
    | false =>
     have HN : Hid (tailsL more n0 (zs.drop (i + 1)) = none) := by
      show _ = _
      rw [HT.out, hk]; exact tailsL_stop ht
     clear HT hb2 hX hk
     generalize (tailR (zs.drop (i + 1 + j))).1 = t1 at *
     generalize (tailR (zs.drop (i + 1 + j))).2 = t2 at *
     subst ht
     go_wp2
     exact bodyPost_ret (v := .tuple #[.int .i64 0, .int .i64 0, .bool false]) (by simp [results, Tryz.results207, go_sem]) rfl ⟨by rw [HA.out, HN.out], hb'⟩
    | true =>
     obtain ⟨hs1, hs2, hs3⟩ := tailsL_step (m := k) (n := acc) ht
     have HN : Hid (tailsL more n0 (zs.drop (i + 1)) = tailsL (more - (j + 1)) (64 * acc + (tailR (zs.drop (i + 1 + j))).1) (zs.drop (i + 1 + (j + 1)))) := by
      show _ = _
      rw [HT.out, hk, hs1, List.drop_drop]
      exact congr (congr (congrArg tailsL (by omega)) rfl) rfl
     clear HT hb2 hX hk hs1
     generalize (tailR (zs.drop (i + 1 + j))).1 = t1 at *
     generalize (tailR (zs.drop (i + 1 + j))).2 = t2 at *
     subst ht
     have hpw : 64 * acc + t1 < 128 * 64 ^ (j + 1) := by
      have := HP.out
      rw [Int.pow_succ]
      omega
     have HPW := hid hpw
     clear hpw
     go_wp2
     go_roundw
     case rel => exact ⟨j + 1, 64 * acc + t1, by go_num, rfl, by omega, by omega, HPW.out, HN.out, hb'⟩
     case measure => simp [intOf]; omega
   ·obtain rfl : j = more := by omega
    have HN : Hid (tailsL j n0 (zs.drop (i + 1)) = some acc) := by
     show _ = _
     rw [HT.out, Nat.sub_self]; rfl
    clear HT
    go_wp2_with fail
    refine (Rune_any acc _).mono ?_
    by_cases hr : Rune acc
    ·rw [decide_eq_true hr]
     rintro e w2 ⟨rfl, rfl⟩
     have HR := hid hr
     go_wp2_with fail
     refine (one_any acc _ HR.out).mono ?_
     rintro e w3 ⟨v, rfl, ho, hb3⟩
     obtain ⟨a4, c4, rfl⟩ := ho.slice
     have hb' := thenB hb hb3
     have hol := oneL_length acc
     clear ho hb3 hr
     by_cases hm : (oneL acc).length = j + 1
     ·have HO : Hid (atR (zs.drop i) = (acc, (j : Int) + 1, true)) := by
       show _ = _
       rw [HA.out, HN.out]
       simp only [Prod.mk.injEq, true_and, decide_eq_true_eq]
       exact ⟨by omega, HR.out, hm⟩
      generalize (oneL acc).length = m at *
      subst hm
      go_wp2
      exact bodyPost_ret (v := .tuple #[.int .i64 acc, .int .i64 ((j : Int) + 1), .bool true]) (by simp [results, Tryz.results207, go_sem]) rfl ⟨by rw [HO.out], hb'⟩
     ·have HO : Hid (atR (zs.drop i) = (acc, (j : Int) + 1, false)) := by
       show _ = _
       rw [HA.out, HN.out]
       simp only [Prod.mk.injEq, true_and, decide_eq_false_iff_not]
       exact ⟨by omega, fun h => hm h.2⟩
      have hm' : ¬ ((oneL acc).length : Int) = (j : Int) + 1 := by omega
      generalize (oneL acc).length = m at *
      go_wp2
      exact bodyPost_ret (v := .tuple #[.int .i64 acc, .int .i64 ((j : Int) + 1), .bool false]) (by simp [results, Tryz.results207, go_sem, hm']) rfl ⟨by rw [HO.out], hb'⟩
    ·rw [decide_eq_false hr]
     rintro e w2 ⟨rfl, rfl⟩
     have HO : Hid (atR (zs.drop i) = (acc, (j : Int) + 1, false)) := by
      show _ = _
      rw [HA.out, HN.out]
      simp only [Prod.mk.injEq, true_and, decide_eq_false_iff_not]
      exact ⟨by omega, fun h => hr h.1⟩
     clear hr
     go_wp2
     exact bodyPost_ret (v := .tuple #[.int .i64 acc, .int .i64 ((j : Int) + 1), .bool false]) (by simp [results, Tryz.results207, go_sem]) rfl ⟨by rw [HO.out], hb⟩
end Go.Proofs.YtepbjkkakfpjgaaGreatDoor.Utf
namespace Go.Proofs.YtepbjkkakfpjgaaGreatDoor.Utf
open Go.RowKit
set_option maxHeartbeats 3200000 in
theorem refRunes_any (a : Option Addr) (len cap : Nat) (zs : List Int) (w : World) (hlen : zs.length = len) (hz : Bytes w a zs) (hbig : zs.length ≤ 8796093022208) :
  Calls Tryz.prog 185 #[.slice a len cap] w (GotRunes w zs) := by
 have HL := hid hlen
 have hz1 := hz.alloc (.cells #[.int .i64 0, .int .i64 0] 198)
 have c0 : (w.alloc (.cells #[.int .i64 0, .int .i64 0] 198)).cell? ⟨w.heap.size, 0, none⟩ = some (.int .i64 0) := by go_simp
 have c1 : (w.alloc (.cells #[.int .i64 0, .int .i64 0] 198)).cell? ⟨w.heap.size, 1, none⟩ = some (.int .i64 0) := by go_simp
 have f0 : (w.alloc (.cells #[.int .i64 0, .int .i64 0] 198)).frozen? ⟨w.heap.size, 0, none⟩ = false := by go_simp
 have f1 : (w.alloc (.cells #[.int .i64 0, .int .i64 0] 198)).frozen? ⟨w.heap.size, 1, none⟩ = false := by go_simp
 have hA : Below w.heap.size w (w.alloc (.cells #[.int .i64 0, .int .i64 0] 198)) := (Below.refl _ _).alloc (Nat.le_refl _) _
 have hlt : w.heap.size < (w.alloc (.cells #[.int .i64 0, .int .i64 0] 198)).heap.size := by simp
 rw [hlen] at hbig
 clear hlen hz
 go_enter Tryz.func185, Tryz.ntmps185
 go_wp2
 generalize w.alloc (.cells #[.int .i64 0, .int .i64 0] 198) = wa at *
 go_loopw [4, 5] (fun v vi wr => ∃ (pos : Nat) (acc : List Int), vi = .int .i64 pos ∧ OwnK 3 .i64 wa.heap.size wr v acc ∧ Below wa.heap.size wa wr ∧ wa.heap.size ≤ wr.heap.size ∧ pos ≤ len ∧ acc.length ≤ pos ∧
     scan zs = (acc ++ (scan (zs.drop pos)).1, pos + (scan (zs.drop pos)).2)) (fun _ vi _ => len - (intOf vi).toNat)
 case atStart => exact ⟨0, [], rfl, own_nothing _ _ _ _, Below.refl _ _, Nat.le_refl _, Nat.zero_le _, by simp, by simp⟩
 case round =>
  obtain ⟨pos, acc, rfl, hown, hbw, hsw, hpos, hacc, hsc⟩ := hrel
  have HS := hid hsc
  clear hsc
  obtain ⟨av, cv, rfl⟩ := hown.sliceN rfl
  have hAw := hA.trans (hbw.mono (by omega))
  by_cases hp : pos < len
  ·cases ha : atL (zs.drop pos) with
   | none =>
    have HF : Hid (faultL zs = (4, (pos : Int))) := by
     have h := congrArg Prod.snd HS.out
     rw [scan_none ha] at h
     simp only [Nat.add_zero] at h
     show _ = _
     unfold faultL
     rw [h, if_neg (by have := HL.out; omega)]
    have HR : Hid (runesL zs = []) := by
     have h := congrArg Prod.snd HS.out
     rw [scan_none ha] at h
     simp only [Nat.add_zero] at h
     show _ = _
     unfold runesL
     rw [h, if_neg (by have := HL.out; omega)]
    have hr := hid (atR_none ha)
    clear ha HS
    go_wp2_with fail
    refine (at_any a len cap zs pos _ HL.out (hz1.below hbw) hp).mono ?_
    generalize atR (zs.drop pos) = r at *
    obtain ⟨r1, r2, r3⟩ := r
    obtain rfl : r3 = false := hr.out
    rintro e w2 ⟨rfl, hb2⟩
    have c0 := keep hb2 ((hbw.cell (p := ⟨w.heap.size, 0, none⟩) hlt).trans c0)
    have c1 := keep hb2 ((hbw.cell (p := ⟨w.heap.size, 1, none⟩) hlt).trans c1)
    have f0 := (hb2.frozen (p := ⟨w.heap.size, 0, none⟩) (by show w.heap.size < _; omega)).trans ((hbw.frozen (p := ⟨w.heap.size, 0, none⟩) hlt).trans f0)
    have f1 := (hb2.frozen (p := ⟨w.heap.size, 1, none⟩) (by show w.heap.size < _; omega)).trans ((hbw.frozen (p := ⟨w.heap.size, 1, none⟩) hlt).trans f1)
    have hA2 := thenB hAw hb2
    clear hA hAw hbw hb2 hown hz1
    go_wp2
    refine bodyPost_ret (v := .tuple #[.slice none 0 0, .agg #[.int .i64 4, .int .i64 pos]]) (by simp [results, Tryz.results185, go_sem, c0, c1]) rfl ⟨_, by rw [HF.out], ?_, ?_⟩
    ·rw [HR.out]; exact own_nothing _ _ _ _
    ·exact (hA2.setCell (Nat.le_refl _) _).setCell (Nat.le_refl _) _
   | some q =>
    obtain ⟨n, k⟩ := q
    obtain ⟨hn, _, _, hk1, hk4, hkl⟩ := atL_some ha
    have HF : Hid (scan zs = ((acc ++ [n]) ++ (scan (zs.drop (pos + k))).1, (pos + k) + (scan (zs.drop (pos + k))).2)) := by
     have h := HS.out
     rw [scan_some ha, List.drop_drop] at h
     show _ = _
     rw [h]
     simp [Nat.add_assoc]
    have hlk : pos + k ≤ len := by simp at hkl; have := HL.out; omega
    have HLL : Hid ((acc ++ [n]).length ≤ pos + k) := by show _ ≤ _; simp; omega
    have hr := hid (atR_some ha)
    obtain ⟨h0, h1, _⟩ := hn
    clear ha HS hkl
    go_wp2_with fail
    refine (at_any a len cap zs pos _ HL.out (hz1.below hbw) hp).mono ?_
    rw [hr.out]
    rintro e w2 ⟨rfl, hb2⟩
    have hown2 := hown.below hb2
    have hbw2 := hbw.trans (hb2.mono hsw)
    have hsw2 : wa.heap.size ≤ w2.heap.size := by have := hb2.size; omega
    clear hr hAw hbw hb2 hown
    go_wp2_with (first | (at_builtin; refine append_num infoInt Tryz.underlying131 rfl (.tmp 24) (.tmp 26) rfl n rfl hown2 hbw2 hsw2 rfl (by omega) (by omega) ?_; intro v' w5 hown5 hb5 hs5 _))
    go_roundw
    case rel => exact ⟨pos + k, acc ++ [n], by go_num, hown5, hb5, hs5, hlk, HLL.out, HF.out⟩
    case measure => simp [intOf]; omega
  ·have HF : Hid (faultL zs = (0, 0)) := by
    have h := congrArg Prod.snd HS.out
    rw [List.drop_eq_nil_of_le (by have := HL.out; omega), scan_nil] at h
    simp only [Nat.add_zero] at h
    show _ = _
    unfold faultL
    rw [h, if_pos (by have := HL.out; omega)]
   have HR : Hid (runesL zs = acc) := by
    have h := HS.out
    rw [List.drop_eq_nil_of_le (by have := HL.out; omega), scan_nil] at h
    simp only [Nat.add_zero, List.append_nil] at h
    show _ = _
    unfold runesL
    rw [h, if_pos (by have := HL.out; omega)]
   have c0 := (hbw.cell (p := ⟨w.heap.size, 0, none⟩) hlt).trans c0
   have c1 := (hbw.cell (p := ⟨w.heap.size, 1, none⟩) hlt).trans c1
   have f0 := (hbw.frozen (p := ⟨w.heap.size, 0, none⟩) hlt).trans f0
   have f1 := (hbw.frozen (p := ⟨w.heap.size, 1, none⟩) hlt).trans f1
   clear hA hbw hz1 HS
   go_wp2
   refine bodyPost_ret (v := .tuple #[.slice av acc.length cv, .agg #[.int .i64 0, .int .i64 0]]) (by simp [results, Tryz.results185, go_sem, c0, c1]) rfl ⟨_, by rw [HF.out], ?_, ?_⟩
   ·rw [HR.out]
    exact ((hown.setCell (p := ⟨w.heap.size, 0, none⟩) hlt _).setCell (p := ⟨w.heap.size, 1, none⟩) hlt _).mono (by omega)
   ·exact (hAw.setCell (Nat.le_refl _) _).setCell (Nat.le_refl _) _
end Go.Proofs.YtepbjkkakfpjgaaGreatDoor.Utf
namespace Go.Proofs.YtepbjkkakfpjgaaGreatDoor.Utf
open Go.RowKit
theorem badL_fault (zs : List Int) : badL zs = if (faultL zs).1 ≠ 0 then (faultL zs).2 else -1 := by
 unfold badL faultL
 by_cases h : (scan zs).2 = zs.length
 ·simp [h]
 ·simp [h]
set_option maxHeartbeats 800000 in
theorem refBad_any (a : Option Addr) (len cap : Nat) (zs : List Int) (w : World) (hlen : zs.length = len) (hz : Bytes w a zs) (hbig : zs.length ≤ 8796093022208) :
  Calls Tryz.prog 134 #[.slice a len cap] w fun e w' => e = .returned (.int .i64 (badL zs)) ∧ Below w.heap.size w w' := by
 have HB := hid (badL_fault zs)
 have HL := hid hlen
 clear hlen
 go_enter Tryz.func134, Tryz.ntmps134
 go_wp2_with fail
 refine (refRunes_any a len cap zs _ HL.out hz hbig).mono ?_
 rintro e w1 ⟨v, rfl, _, hb⟩
 generalize faultL zs = r at *
 obtain ⟨r1, r2⟩ := r
 clear hz hbig
 by_cases h : r1 = 0
 ·subst h
  go_wp2
  go_ret
  exact ⟨ret_int (by rw [HB.out]; simp), thenA hb _⟩
 ·go_wp2
  go_ret
  exact ⟨ret_int (by rw [HB.out]; simp [h]), thenA hb _⟩
end Go.Proofs.YtepbjkkakfpjgaaGreatDoor.Utf
namespace Go.Proofs.YtepbjkkakfpjgaaGreatDoor.Utf
open Go.RowKit Leb
set_option maxRecDepth 100000 in
set_option maxHeartbeats 1600000 in
theorem refPut_good (zs : List Int) (hz : ∀ z ∈ zs, 0 ≤ z ∧ z < 256) (w : World) (hlong : zs.length ≤ 1048576) (hgood : (scan zs).2 = zs.length) :
  Calls Tryz.prog 177 #[.string (strOfNums zs)] w fun e w' => ∃ v, e = .returned (.tuple #[v, .int .i64 0]) ∧ Own w.heap.size w' v (encU zs.length ++ zs) ∧ Below w.heap.size w w' := by
 have hs : (strOfNums zs).size = zs.length := strOfNums_size zs
 obtain ⟨b, c, w1, hcv, hB, hb1⟩ := bytes_of zs hz (by omega) w
 have HL := hid (badL_none hgood)
 have hw : wrap64 (zs.length : Int) = zs.length := by unfold wrap64; omega
 have HZ := hid hz
 have hsu := sizeU_pos zs.length
 have HS := hid (fun W => bytes_of zs hz (by omega) W)
 clear hz hgood
 generalize strOfNums zs = s at *
 go_enter Tryz.func177, Tryz.ntmps177
 go_wp2_with fail
 refine (refBad_any _ zs.length c zs _ rfl hB (by omega)).mono ?_
 rw [HL.out]
 rintro e w2 ⟨rfl, hb2⟩
 have hA := thenB hb1 hb2
 clear hcv hB hb1 hb2 HL
 go_wp2_with fail
 refine (refU_any zs.length _ (by omega) (by omega)).mono ?_
 rintro e w3 ⟨v, rfl, ho, hb3⟩
 obtain ⟨a3, c3, rfl⟩ := ho.sliceN (encU_length zs.length)
 obtain ⟨b4, c4, w4, hcv4, hB4, hb4⟩ := HS.out w3
 have ho4 := ho.below hb4
 have hb34 := thenB hb3 hb4
 have hs34 := hb34.size
 clear HS ho hb3 hb4
 go_wp2_with (first | (at_builtin; refine append_bytes rfl (.tmp 14) (.tmp 16) rfl rfl ho4 hb34 hs34 _ _ _ rfl (fun h => by cases h) rfl hB4 (by rw [encU_length]; omega) ?_; intro v' w5 ho5 hb5 hs5))
 exact bodyPost_ret (v := .tuple #[v', .int .i64 0]) (by simp [results, Tryz.results177, go_sem]) rfl ⟨v', rfl, ho5.mono (by have := hA.size; omega), thenB hA hb5⟩
end Go.Proofs.YtepbjkkakfpjgaaGreatDoor.Utf
