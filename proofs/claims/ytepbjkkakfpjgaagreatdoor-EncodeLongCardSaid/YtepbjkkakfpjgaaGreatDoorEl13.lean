import Derived.Test.YtepbjkkakfpjgaaGreatDoorEl09
import Derived.Deep.QuietTactic
import Derived.Shelf.Abstract
import Derived.BigQuiet
import Derived.Laws.EntriesVeiled
namespace Go.Proofs.YtepbjkkakfpjgaaGreatDoor.Enc
open Go.RowKit Go.Shelf Go.Proofs.YtepbjkkakfpjgaaGreatDoor.Leb Go.Proofs.YtepbjkkakfpjgaaGreatDoor.Instr Go.Proofs.YtepbjkkakfpjgaaGreatDoor.Mod

theorem flat_mono {α : Type} (f : α → List Int) (l : List α) (k : Nat) : ((l.take k).flatMap f).length ≤ (l.flatMap f).length := by
  have : l.flatMap f = (l.take k).flatMap f ++ (l.drop k).flatMap f := by rw [← List.flatMap_append, List.take_append_drop]
  rw [this, List.length_append]; omega
/-- Of bytes as many as somebody needs: all, or more than 'most'. -/
def Cut (most : Int) (ys zs : List Int) : Prop := zs <+: ys ∧ (zs = ys ∨ most < (zs.length : Int))
theorem cut_all (most : Int) (ys : List Int) : Cut most ys ys := ⟨List.prefix_rfl, .inl rfl⟩
/-- Bytes were appended to a buffer, as many as somebody needs. -/
def PutsC (most : Int) (g B : Nat) (v : Value) (w : World) (ys : List Int) (e : Ending) (w' : World) : Prop := ∃ zs, Cut most ys zs ∧ Puts g B v w zs e w'
theorem take_pre {α : Type} (f : α → List Int) (p : List Int) (l : List α) (k : Nat) : p ++ (l.take k).flatMap f <+: p ++ l.flatMap f := by
  refine (List.prefix_append_right_inj p).2 ?_
  have : l.flatMap f = (l.take k).flatMap f ++ (l.drop k).flatMap f := by rw [← List.flatMap_append, List.take_append_drop]
  rw [this]
  exact List.prefix_append _ _
theorem drewnE {B : Nat} {a w : World} (h : Below B a w) (n : Nat) : Below B a (w.drewN n) := ⟨h.os, h.tape, h.output, h.size, h.block⟩
set_option maxRecDepth 100000 in
set_option maxHeartbeats 2000000 in
theorem list_ty (g B : Nat) (v : Value) (l : List (Int × Int)) (a : Option Addr) (n c : Nat) (most : Int) (w0 w : World) (h : Buf g B v w v [] w) (hB : Below w0.heap.size w0 w) (hg : w0.heap.size < g) (hmost : w.cell? ⟨g, 12, none⟩ = some (.int .i64 most))
    (hn : l.length = n) (hr : Mod.Rows w0.heap.size w0 a 2 (l.map tyV)) (hlen : n ≤ 16384) (K : Nat) (eg : ∀ args w, (callFunc K args).run Tryz.prog w = .ok (.enter K args) w) (f : Int × Int → List Int)
    (hp : ∀ (W : World) (v : Value) (xs : List Int) (x : Int × Int), x ∈ l → Below w0.heap.size w0 W → Buf g B v W v xs W → xs.length ≤ 1000000000 → Calls Tryz.prog K #[.pointer (some ⟨g, 0, none⟩), .agg #[.int .i64 x.1, .int .i64 x.2]] W (Puts g B v W (xs ++ f x)))
    (htot : (encU n ++ l.flatMap f).length ≤ 1000000000) :
    Calls Tryz.prog 157 #[.pointer (some ⟨g, 0, none⟩), .slice a n c, .func (.func K) #[.pointer (some ⟨g, 0, none⟩)] #[]] w (PutsC most g B v w (lstB f l)) := by
  have H := hid h
  have HG := hid hg
  have HB := hid hB
  have HR := hid hr
  have HN := hid hn
  have HP := hid hp
  have HT := hid htot
  have HM := hid hmost
  have c0 := h.c
  have HK : Hid (lstB f l = if l.length = 0 then [] else encU l.length ++ l.flatMap f) := rfl
  clear h hg hB hr hn hp htot hmost
  by_cases hz : n = 0
  · subst hz
    have HE := hid (show lstB f l = [] by rw [HK.out, if_pos HN.out])
    go_enter Tryz.func157, Tryz.ntmps157
    go_wp2
    refine bodyPost_ret (results_none rfl _ _ _) rfl ?_
    exact ⟨_, cut_all _ _, rfl, v, by rw [HE.out]; exact H.out⟩
  · have hni : ¬ (n : Int) = 0 := by omega
    have HE := hid (show lstB f l = encU n ++ l.flatMap f by rw [HK.out, if_neg (by rw [HN.out]; exact hz), HN.out])
    have hw := u32_id n (by omega) (by omega)
    have C := hid (number_any g B v [] n w H.out (by omega) (by omega) (by simp))
    rw [List.nil_append] at C
    obtain ⟨p, hp⟩ : ∃ p, encU n = p := ⟨_, rfl⟩
    rw [hp] at C HE HT
    clear hp HK
    go_enter Tryz.func157, Tryz.ntmps157
    go_wp2_with fail
    refine C.out.mono ?_
    rintro e1 w1 ⟨rfl, v1, hb⟩
    have HA1 := hid hb
    have HW1 := hid (hb.deep H.out.own HB.out HG.out)
    clear C hb c0 hw
    go_wp2
    go_loopw [20] (fun vi wr => ∃ (k : Nat) (v9 : Value), vi = .int .i64 k ∧ k ≤ n ∧ Hid (Buf g B v w v9 (p ++ (l.take k).flatMap f) wr) ∧ Hid (Below w0.heap.size w0 wr)) (fun vi _ => n - (intOf vi).toNat)
    case atStart => exact ⟨0, v1, rfl, Nat.zero_le _, hid (by simpa using HA1.out), HW1⟩
    case round =>
      clear HA1 HW1
      obtain ⟨k, v9, rfl, hk, HA, HW⟩ := hrel
      by_cases hlt : k < n
      · have hkl : k < l.length := by rw [HN.out]; exact hlt
        have hki : (k : Int) < (n : Int) := by omega
        obtain ⟨b, off, rfl, hb, hc⟩ := Mod.Rows.get HR.out hkl
        have HX := hid (List.getElem_mem hkl)
        have HST := hid (flat_step f hkl)
        have HLN := hid (show (p ++ (l.take k).flatMap f).length ≤ 1000000000 by have := HT.out; have := flat_mono f l k; rw [List.length_append] at *; omega)
        obtain ⟨x, hx⟩ : ∃ x, l[k] = x := ⟨_, rfl⟩
        rw [hx] at hc HX HST
        have c0 : wr.cell? ⟨b, off + k * 2, none⟩ = some (.int .i64 x.1) := (HW.out.cell (p := ⟨b, off + k * 2 + 0, none⟩) hb).trans (hc 0 (by omega) _ rfl)
        have c1 : wr.cell? ⟨b, off + k * 2 + 1, none⟩ = some (.int .i64 x.2) := (HW.out.cell (p := ⟨b, off + k * 2 + 1, none⟩) hb).trans (hc 1 (by omega) _ rfl)
        clear hc hx hb hkl
        go_wp2_with fail
        have C := hid (HP.out (wr.alloc (.cells #[.int .i64 x.1, .int .i64 x.2] 50)) v9 _ x HX.out (HW.out.trans (((Below.refl wr.heap.size wr).alloc (Nat.le_refl _) (.cells #[.int .i64 x.1, .int .i64 x.2] 50)).mono HW.out.size)) (HA.out.lit (.cells #[.int .i64 x.1, .int .i64 x.2] 50)).again HLN.out)
        refine C.out.mono ?_
        rintro e1 w2 ⟨rfl, v2, hb2⟩
        have HA2 := hid (show Buf g B v w v2 (p ++ (l.take (k + 1)).flatMap f) w2 by rw [HST.out, ← List.append_assoc]; exact (HA.out.lit (.cells #[.int .i64 x.1, .int .i64 x.2] 50)).trans hb2)
        have HW2 := hid (HA2.out.deep H.out.own HB.out HG.out)
        obtain ⟨N, hN⟩ : ∃ N, (p ++ (l.take (k + 1)).flatMap f).length = N := ⟨_, rfl⟩
        obtain ⟨a2, q2, rfl⟩ := HA2.out.own.sliceN hN
        have d0 := HA2.out.c
        have d1 := (HA2.out.rest 12 (by decide)).trans HM.out
        have HD := hid hN
        clear C hb2 hN HA HW HX HST HLN c0 c1
        by_cases hgt : most < (N : Int)
        · have HP2 := hid (show Cut most (lstB f l) (p ++ (l.take (k + 1)).flatMap f) from by rw [HE.out]; exact ⟨take_pre f p l (k + 1), .inr (by rw [HD.out]; exact hgt)⟩)
          have HZ := hid (fun (m : Nat) => show Buf g B v w (.slice a2 N q2) (p ++ (l.take (k + 1)).flatMap f) (w2.drewN m) from HA2.out.on (drewnE (Below.refl w2.heap.size w2) m))
          go_wp2
          go_quiet (fail)
          go_wp2
          refine bodyPost_ret (results_none rfl _ _ _) rfl ?_
          exact ⟨_, HP2.out, rfl, _, HZ.out _⟩
        · skip
          go_wp2
          go_quiet (fail)
          go_wp2
          go_roundw
          case rel => exact ⟨k + 1, _, by go_num, by omega, hid (HA2.out.on (drewnE (Below.refl w2.heap.size w2) _)), drewnE HW2.out _⟩
          case measure => simp [intOf]; omega
      · obtain rfl : k = n := by omega
        have HQ := hid (show l.take k = l from List.take_of_length_le (by rw [HN.out]; exact Nat.le_refl _))
        go_wp2
        go_end0
        exact ⟨_, cut_all _ _, rfl, v9, by have := HA.out; rw [HQ.out, ← HE.out] at this; exact this⟩
set_option maxRecDepth 100000 in
set_option maxHeartbeats 2000000 in
theorem list_im (g B : Nat) (v : Value) (l : List (Imp)) (a : Option Addr) (n c : Nat) (most : Int) (w0 w : World) (h : Buf g B v w v [] w) (hB : Below w0.heap.size w0 w) (hg : w0.heap.size < g) (hmost : w.cell? ⟨g, 12, none⟩ = some (.int .i64 most))
    (hn : l.length = n) (hr : Mod.Rows w0.heap.size w0 a 3 (l.map Imp.v)) (hlen : n ≤ 16384) (K : Nat) (eg : ∀ args w, (callFunc K args).run Tryz.prog w = .ok (.enter K args) w) (f : Imp → List Int)
    (hp : ∀ (W : World) (v : Value) (xs : List Int) (x : Imp), x ∈ l → Below w0.heap.size w0 W → Buf g B v W v xs W → xs.length ≤ 1000000000 → Calls Tryz.prog K #[.pointer (some ⟨g, 0, none⟩), .agg #[.string x.mo, .string x.na, .int .i64 x.ty]] W (Puts g B v W (xs ++ f x)))
    (htot : (encU n ++ l.flatMap f).length ≤ 1000000000) :
    Calls Tryz.prog 159 #[.pointer (some ⟨g, 0, none⟩), .slice a n c, .func (.func K) #[.pointer (some ⟨g, 0, none⟩)] #[]] w (PutsC most g B v w (lstB f l)) := by
  have H := hid h
  have HG := hid hg
  have HB := hid hB
  have HR := hid hr
  have HN := hid hn
  have HP := hid hp
  have HT := hid htot
  have HM := hid hmost
  have c0 := h.c
  have HK : Hid (lstB f l = if l.length = 0 then [] else encU l.length ++ l.flatMap f) := rfl
  clear h hg hB hr hn hp htot hmost
  by_cases hz : n = 0
  · subst hz
    have HE := hid (show lstB f l = [] by rw [HK.out, if_pos HN.out])
    go_enter Tryz.func159, Tryz.ntmps159
    go_wp2
    refine bodyPost_ret (results_none rfl _ _ _) rfl ?_
    exact ⟨_, cut_all _ _, rfl, v, by rw [HE.out]; exact H.out⟩
  · have hni : ¬ (n : Int) = 0 := by omega
    have HE := hid (show lstB f l = encU n ++ l.flatMap f by rw [HK.out, if_neg (by rw [HN.out]; exact hz), HN.out])
    have hw := u32_id n (by omega) (by omega)
    have C := hid (number_any g B v [] n w H.out (by omega) (by omega) (by simp))
    rw [List.nil_append] at C
    obtain ⟨p, hp⟩ : ∃ p, encU n = p := ⟨_, rfl⟩
    rw [hp] at C HE HT
    clear hp HK
    go_enter Tryz.func159, Tryz.ntmps159
    go_wp2_with fail
    refine C.out.mono ?_
    rintro e1 w1 ⟨rfl, v1, hb⟩
    have HA1 := hid hb
    have HW1 := hid (hb.deep H.out.own HB.out HG.out)
    clear C hb c0 hw
    go_wp2
    go_loopw [20] (fun vi wr => ∃ (k : Nat) (v9 : Value), vi = .int .i64 k ∧ k ≤ n ∧ Hid (Buf g B v w v9 (p ++ (l.take k).flatMap f) wr) ∧ Hid (Below w0.heap.size w0 wr)) (fun vi _ => n - (intOf vi).toNat)
    case atStart => exact ⟨0, v1, rfl, Nat.zero_le _, hid (by simpa using HA1.out), HW1⟩
    case round =>
      clear HA1 HW1
      obtain ⟨k, v9, rfl, hk, HA, HW⟩ := hrel
      by_cases hlt : k < n
      · have hkl : k < l.length := by rw [HN.out]; exact hlt
        have hki : (k : Int) < (n : Int) := by omega
        obtain ⟨b, off, rfl, hb, hc⟩ := Mod.Rows.get HR.out hkl
        have HX := hid (List.getElem_mem hkl)
        have HST := hid (flat_step f hkl)
        have HLN := hid (show (p ++ (l.take k).flatMap f).length ≤ 1000000000 by have := HT.out; have := flat_mono f l k; rw [List.length_append] at *; omega)
        obtain ⟨x, hx⟩ : ∃ x, l[k] = x := ⟨_, rfl⟩
        rw [hx] at hc HX HST
        have c0 : wr.cell? ⟨b, off + k * 3, none⟩ = some (.string x.mo) := (HW.out.cell (p := ⟨b, off + k * 3 + 0, none⟩) hb).trans (hc 0 (by omega) _ rfl)
        have c1 : wr.cell? ⟨b, off + k * 3 + 1, none⟩ = some (.string x.na) := (HW.out.cell (p := ⟨b, off + k * 3 + 1, none⟩) hb).trans (hc 1 (by omega) _ rfl)
        have c2 : wr.cell? ⟨b, off + k * 3 + 2, none⟩ = some (.int .i64 x.ty) := (HW.out.cell (p := ⟨b, off + k * 3 + 2, none⟩) hb).trans (hc 2 (by omega) _ rfl)
        clear hc hx hb hkl
        go_wp2_with fail
        have C := hid (HP.out (wr.alloc (.cells #[.string x.mo, .string x.na, .int .i64 x.ty] 73)) v9 _ x HX.out (HW.out.trans (((Below.refl wr.heap.size wr).alloc (Nat.le_refl _) (.cells #[.string x.mo, .string x.na, .int .i64 x.ty] 73)).mono HW.out.size)) (HA.out.lit (.cells #[.string x.mo, .string x.na, .int .i64 x.ty] 73)).again HLN.out)
        refine C.out.mono ?_
        rintro e1 w2 ⟨rfl, v2, hb2⟩
        have HA2 := hid (show Buf g B v w v2 (p ++ (l.take (k + 1)).flatMap f) w2 by rw [HST.out, ← List.append_assoc]; exact (HA.out.lit (.cells #[.string x.mo, .string x.na, .int .i64 x.ty] 73)).trans hb2)
        have HW2 := hid (HA2.out.deep H.out.own HB.out HG.out)
        obtain ⟨N, hN⟩ : ∃ N, (p ++ (l.take (k + 1)).flatMap f).length = N := ⟨_, rfl⟩
        obtain ⟨a2, q2, rfl⟩ := HA2.out.own.sliceN hN
        have d0 := HA2.out.c
        have d1 := (HA2.out.rest 12 (by decide)).trans HM.out
        have HD := hid hN
        clear C hb2 hN HA HW HX HST HLN c0 c1 c2
        by_cases hgt : most < (N : Int)
        · have HP2 := hid (show Cut most (lstB f l) (p ++ (l.take (k + 1)).flatMap f) from by rw [HE.out]; exact ⟨take_pre f p l (k + 1), .inr (by rw [HD.out]; exact hgt)⟩)
          have HZ := hid (fun (m : Nat) => show Buf g B v w (.slice a2 N q2) (p ++ (l.take (k + 1)).flatMap f) (w2.drewN m) from HA2.out.on (drewnE (Below.refl w2.heap.size w2) m))
          go_wp2
          go_quiet (fail)
          go_wp2
          refine bodyPost_ret (results_none rfl _ _ _) rfl ?_
          exact ⟨_, HP2.out, rfl, _, HZ.out _⟩
        · skip
          go_wp2
          go_quiet (fail)
          go_wp2
          go_roundw
          case rel => exact ⟨k + 1, _, by go_num, by omega, hid (HA2.out.on (drewnE (Below.refl w2.heap.size w2) _)), drewnE HW2.out _⟩
          case measure => simp [intOf]; omega
      · obtain rfl : k = n := by omega
        have HQ := hid (show l.take k = l from List.take_of_length_le (by rw [HN.out]; exact Nat.le_refl _))
        go_wp2
        go_end0
        exact ⟨_, cut_all _ _, rfl, v9, by have := HA.out; rw [HQ.out, ← HE.out] at this; exact this⟩
set_option maxRecDepth 100000 in
set_option maxHeartbeats 2000000 in
theorem list_fu (g B : Nat) (v : Value) (l : List (Mod.Fn)) (a : Option Addr) (n c : Nat) (most : Int) (w0 w : World) (h : Buf g B v w v [] w) (hB : Below w0.heap.size w0 w) (hg : w0.heap.size < g) (hmost : w.cell? ⟨g, 12, none⟩ = some (.int .i64 most))
    (hn : l.length = n) (hr : Mod.Rows w0.heap.size w0 a 3 (l.map Mod.Fn.v)) (hlen : n ≤ 16384) (K : Nat) (eg : ∀ args w, (callFunc K args).run Tryz.prog w = .ok (.enter K args) w) (f : Mod.Fn → List Int)
    (hp : ∀ (W : World) (v : Value) (xs : List Int) (x : Mod.Fn), x ∈ l → Below w0.heap.size w0 W → Buf g B v W v xs W → xs.length ≤ 1000000000 → Calls Tryz.prog K #[.pointer (some ⟨g, 0, none⟩), .agg #[.int .i64 x.ty, .int .i64 x.lo, .slice x.l.a x.l.t.len x.l.c]] W (Puts g B v W (xs ++ f x)))
    (htot : (encU n ++ l.flatMap f).length ≤ 1000000000) :
    Calls Tryz.prog 161 #[.pointer (some ⟨g, 0, none⟩), .slice a n c, .func (.func K) #[.pointer (some ⟨g, 0, none⟩)] #[]] w (PutsC most g B v w (lstB f l)) := by
  have H := hid h
  have HG := hid hg
  have HB := hid hB
  have HR := hid hr
  have HN := hid hn
  have HP := hid hp
  have HT := hid htot
  have HM := hid hmost
  have c0 := h.c
  have HK : Hid (lstB f l = if l.length = 0 then [] else encU l.length ++ l.flatMap f) := rfl
  clear h hg hB hr hn hp htot hmost
  by_cases hz : n = 0
  · subst hz
    have HE := hid (show lstB f l = [] by rw [HK.out, if_pos HN.out])
    go_enter Tryz.func161, Tryz.ntmps161
    go_wp2
    refine bodyPost_ret (results_none rfl _ _ _) rfl ?_
    exact ⟨_, cut_all _ _, rfl, v, by rw [HE.out]; exact H.out⟩
  · have hni : ¬ (n : Int) = 0 := by omega
    have HE := hid (show lstB f l = encU n ++ l.flatMap f by rw [HK.out, if_neg (by rw [HN.out]; exact hz), HN.out])
    have hw := u32_id n (by omega) (by omega)
    have C := hid (number_any g B v [] n w H.out (by omega) (by omega) (by simp))
    rw [List.nil_append] at C
    obtain ⟨p, hp⟩ : ∃ p, encU n = p := ⟨_, rfl⟩
    rw [hp] at C HE HT
    clear hp HK
    go_enter Tryz.func161, Tryz.ntmps161
    go_wp2_with fail
    refine C.out.mono ?_
    rintro e1 w1 ⟨rfl, v1, hb⟩
    have HA1 := hid hb
    have HW1 := hid (hb.deep H.out.own HB.out HG.out)
    clear C hb c0 hw
    go_wp2
    go_loopw [20] (fun vi wr => ∃ (k : Nat) (v9 : Value), vi = .int .i64 k ∧ k ≤ n ∧ Hid (Buf g B v w v9 (p ++ (l.take k).flatMap f) wr) ∧ Hid (Below w0.heap.size w0 wr)) (fun vi _ => n - (intOf vi).toNat)
    case atStart => exact ⟨0, v1, rfl, Nat.zero_le _, hid (by simpa using HA1.out), HW1⟩
    case round =>
      clear HA1 HW1
      obtain ⟨k, v9, rfl, hk, HA, HW⟩ := hrel
      by_cases hlt : k < n
      · have hkl : k < l.length := by rw [HN.out]; exact hlt
        have hki : (k : Int) < (n : Int) := by omega
        obtain ⟨b, off, rfl, hb, hc⟩ := Mod.Rows.get HR.out hkl
        have HX := hid (List.getElem_mem hkl)
        have HST := hid (flat_step f hkl)
        have HLN := hid (show (p ++ (l.take k).flatMap f).length ≤ 1000000000 by have := HT.out; have := flat_mono f l k; rw [List.length_append] at *; omega)
        obtain ⟨x, hx⟩ : ∃ x, l[k] = x := ⟨_, rfl⟩
        rw [hx] at hc HX HST
        have c0 : wr.cell? ⟨b, off + k * 3, none⟩ = some (.int .i64 x.ty) := (HW.out.cell (p := ⟨b, off + k * 3 + 0, none⟩) hb).trans (hc 0 (by omega) _ rfl)
        have c1 : wr.cell? ⟨b, off + k * 3 + 1, none⟩ = some (.int .i64 x.lo) := (HW.out.cell (p := ⟨b, off + k * 3 + 1, none⟩) hb).trans (hc 1 (by omega) _ rfl)
        have c2 : wr.cell? ⟨b, off + k * 3 + 2, none⟩ = some (.slice x.l.a x.l.t.len x.l.c) := (HW.out.cell (p := ⟨b, off + k * 3 + 2, none⟩) hb).trans (hc 2 (by omega) _ rfl)
        clear hc hx hb hkl
        go_wp2_with fail
        have C := hid (HP.out (wr.alloc (.cells #[.int .i64 x.ty, .int .i64 x.lo, .slice x.l.a x.l.t.len x.l.c] 66)) v9 _ x HX.out (HW.out.trans (((Below.refl wr.heap.size wr).alloc (Nat.le_refl _) (.cells #[.int .i64 x.ty, .int .i64 x.lo, .slice x.l.a x.l.t.len x.l.c] 66)).mono HW.out.size)) (HA.out.lit (.cells #[.int .i64 x.ty, .int .i64 x.lo, .slice x.l.a x.l.t.len x.l.c] 66)).again HLN.out)
        refine C.out.mono ?_
        rintro e1 w2 ⟨rfl, v2, hb2⟩
        have HA2 := hid (show Buf g B v w v2 (p ++ (l.take (k + 1)).flatMap f) w2 by rw [HST.out, ← List.append_assoc]; exact (HA.out.lit (.cells #[.int .i64 x.ty, .int .i64 x.lo, .slice x.l.a x.l.t.len x.l.c] 66)).trans hb2)
        have HW2 := hid (HA2.out.deep H.out.own HB.out HG.out)
        obtain ⟨N, hN⟩ : ∃ N, (p ++ (l.take (k + 1)).flatMap f).length = N := ⟨_, rfl⟩
        obtain ⟨a2, q2, rfl⟩ := HA2.out.own.sliceN hN
        have d0 := HA2.out.c
        have d1 := (HA2.out.rest 12 (by decide)).trans HM.out
        have HD := hid hN
        clear C hb2 hN HA HW HX HST HLN c0 c1 c2
        by_cases hgt : most < (N : Int)
        · have HP2 := hid (show Cut most (lstB f l) (p ++ (l.take (k + 1)).flatMap f) from by rw [HE.out]; exact ⟨take_pre f p l (k + 1), .inr (by rw [HD.out]; exact hgt)⟩)
          have HZ := hid (fun (m : Nat) => show Buf g B v w (.slice a2 N q2) (p ++ (l.take (k + 1)).flatMap f) (w2.drewN m) from HA2.out.on (drewnE (Below.refl w2.heap.size w2) m))
          go_wp2
          go_quiet (fail)
          go_wp2
          refine bodyPost_ret (results_none rfl _ _ _) rfl ?_
          exact ⟨_, HP2.out, rfl, _, HZ.out _⟩
        · skip
          go_wp2
          go_quiet (fail)
          go_wp2
          go_roundw
          case rel => exact ⟨k + 1, _, by go_num, by omega, hid (HA2.out.on (drewnE (Below.refl w2.heap.size w2) _)), drewnE HW2.out _⟩
          case measure => simp [intOf]; omega
      · obtain rfl : k = n := by omega
        have HQ := hid (show l.take k = l from List.take_of_length_le (by rw [HN.out]; exact Nat.le_refl _))
        go_wp2
        go_end0
        exact ⟨_, cut_all _ _, rfl, v9, by have := HA.out; rw [HQ.out, ← HE.out] at this; exact this⟩
set_option maxRecDepth 100000 in
set_option maxHeartbeats 2000000 in
theorem list_li (g B : Nat) (v : Value) (l : List (Li)) (a : Option Addr) (n c : Nat) (most : Int) (w0 w : World) (h : Buf g B v w v [] w) (hB : Below w0.heap.size w0 w) (hg : w0.heap.size < g) (hmost : w.cell? ⟨g, 12, none⟩ = some (.int .i64 most))
    (hn : l.length = n) (hr : Mod.Rows w0.heap.size w0 a 3 (l.map Li.v)) (hlen : n ≤ 16384) (K : Nat) (eg : ∀ args w, (callFunc K args).run Tryz.prog w = .ok (.enter K args) w) (f : Li → List Int)
    (hp : ∀ (W : World) (v : Value) (xs : List Int) (x : Li), x ∈ l → Below w0.heap.size w0 W → Buf g B v W v xs W → xs.length ≤ 1000000000 → Calls Tryz.prog K #[.pointer (some ⟨g, 0, none⟩), .agg #[.int .u32 x.n, .int .u32 x.x, .bool x.c]] W (Puts g B v W (xs ++ f x)))
    (htot : (encU n ++ l.flatMap f).length ≤ 1000000000) :
    Calls Tryz.prog 163 #[.pointer (some ⟨g, 0, none⟩), .slice a n c, .func (.func K) #[.pointer (some ⟨g, 0, none⟩)] #[]] w (PutsC most g B v w (lstB f l)) := by
  have H := hid h
  have HG := hid hg
  have HB := hid hB
  have HR := hid hr
  have HN := hid hn
  have HP := hid hp
  have HT := hid htot
  have HM := hid hmost
  have c0 := h.c
  have HK : Hid (lstB f l = if l.length = 0 then [] else encU l.length ++ l.flatMap f) := rfl
  clear h hg hB hr hn hp htot hmost
  by_cases hz : n = 0
  · subst hz
    have HE := hid (show lstB f l = [] by rw [HK.out, if_pos HN.out])
    go_enter Tryz.func163, Tryz.ntmps163
    go_wp2
    refine bodyPost_ret (results_none rfl _ _ _) rfl ?_
    exact ⟨_, cut_all _ _, rfl, v, by rw [HE.out]; exact H.out⟩
  · have hni : ¬ (n : Int) = 0 := by omega
    have HE := hid (show lstB f l = encU n ++ l.flatMap f by rw [HK.out, if_neg (by rw [HN.out]; exact hz), HN.out])
    have hw := u32_id n (by omega) (by omega)
    have C := hid (number_any g B v [] n w H.out (by omega) (by omega) (by simp))
    rw [List.nil_append] at C
    obtain ⟨p, hp⟩ : ∃ p, encU n = p := ⟨_, rfl⟩
    rw [hp] at C HE HT
    clear hp HK
    go_enter Tryz.func163, Tryz.ntmps163
    go_wp2_with fail
    refine C.out.mono ?_
    rintro e1 w1 ⟨rfl, v1, hb⟩
    have HA1 := hid hb
    have HW1 := hid (hb.deep H.out.own HB.out HG.out)
    clear C hb c0 hw
    go_wp2
    go_loopw [20] (fun vi wr => ∃ (k : Nat) (v9 : Value), vi = .int .i64 k ∧ k ≤ n ∧ Hid (Buf g B v w v9 (p ++ (l.take k).flatMap f) wr) ∧ Hid (Below w0.heap.size w0 wr)) (fun vi _ => n - (intOf vi).toNat)
    case atStart => exact ⟨0, v1, rfl, Nat.zero_le _, hid (by simpa using HA1.out), HW1⟩
    case round =>
      clear HA1 HW1
      obtain ⟨k, v9, rfl, hk, HA, HW⟩ := hrel
      by_cases hlt : k < n
      · have hkl : k < l.length := by rw [HN.out]; exact hlt
        have hki : (k : Int) < (n : Int) := by omega
        obtain ⟨b, off, rfl, hb, hc⟩ := Mod.Rows.get HR.out hkl
        have HX := hid (List.getElem_mem hkl)
        have HST := hid (flat_step f hkl)
        have HLN := hid (show (p ++ (l.take k).flatMap f).length ≤ 1000000000 by have := HT.out; have := flat_mono f l k; rw [List.length_append] at *; omega)
        obtain ⟨x, hx⟩ : ∃ x, l[k] = x := ⟨_, rfl⟩
        rw [hx] at hc HX HST
        have c0 : wr.cell? ⟨b, off + k * 3, none⟩ = some (.int .u32 x.n) := (HW.out.cell (p := ⟨b, off + k * 3 + 0, none⟩) hb).trans (hc 0 (by omega) _ rfl)
        have c1 : wr.cell? ⟨b, off + k * 3 + 1, none⟩ = some (.int .u32 x.x) := (HW.out.cell (p := ⟨b, off + k * 3 + 1, none⟩) hb).trans (hc 1 (by omega) _ rfl)
        have c2 : wr.cell? ⟨b, off + k * 3 + 2, none⟩ = some (.bool x.c) := (HW.out.cell (p := ⟨b, off + k * 3 + 2, none⟩) hb).trans (hc 2 (by omega) _ rfl)
        clear hc hx hb hkl
        go_wp2_with fail
        have C := hid (HP.out (wr.alloc (.cells #[.int .u32 x.n, .int .u32 x.x, .bool x.c] 60)) v9 _ x HX.out (HW.out.trans (((Below.refl wr.heap.size wr).alloc (Nat.le_refl _) (.cells #[.int .u32 x.n, .int .u32 x.x, .bool x.c] 60)).mono HW.out.size)) (HA.out.lit (.cells #[.int .u32 x.n, .int .u32 x.x, .bool x.c] 60)).again HLN.out)
        refine C.out.mono ?_
        rintro e1 w2 ⟨rfl, v2, hb2⟩
        have HA2 := hid (show Buf g B v w v2 (p ++ (l.take (k + 1)).flatMap f) w2 by rw [HST.out, ← List.append_assoc]; exact (HA.out.lit (.cells #[.int .u32 x.n, .int .u32 x.x, .bool x.c] 60)).trans hb2)
        have HW2 := hid (HA2.out.deep H.out.own HB.out HG.out)
        obtain ⟨N, hN⟩ : ∃ N, (p ++ (l.take (k + 1)).flatMap f).length = N := ⟨_, rfl⟩
        obtain ⟨a2, q2, rfl⟩ := HA2.out.own.sliceN hN
        have d0 := HA2.out.c
        have d1 := (HA2.out.rest 12 (by decide)).trans HM.out
        have HD := hid hN
        clear C hb2 hN HA HW HX HST HLN c0 c1 c2
        by_cases hgt : most < (N : Int)
        · have HP2 := hid (show Cut most (lstB f l) (p ++ (l.take (k + 1)).flatMap f) from by rw [HE.out]; exact ⟨take_pre f p l (k + 1), .inr (by rw [HD.out]; exact hgt)⟩)
          have HZ := hid (fun (m : Nat) => show Buf g B v w (.slice a2 N q2) (p ++ (l.take (k + 1)).flatMap f) (w2.drewN m) from HA2.out.on (drewnE (Below.refl w2.heap.size w2) m))
          go_wp2
          go_quiet (fail)
          go_wp2
          refine bodyPost_ret (results_none rfl _ _ _) rfl ?_
          exact ⟨_, HP2.out, rfl, _, HZ.out _⟩
        · skip
          go_wp2
          go_quiet (fail)
          go_wp2
          go_roundw
          case rel => exact ⟨k + 1, _, by go_num, by omega, hid (HA2.out.on (drewnE (Below.refl w2.heap.size w2) _)), drewnE HW2.out _⟩
          case measure => simp [intOf]; omega
      · obtain rfl : k = n := by omega
        have HQ := hid (show l.take k = l from List.take_of_length_le (by rw [HN.out]; exact Nat.le_refl _))
        go_wp2
        go_end0
        exact ⟨_, cut_all _ _, rfl, v9, by have := HA.out; rw [HQ.out, ← HE.out] at this; exact this⟩
set_option maxRecDepth 100000 in
set_option maxHeartbeats 2000000 in
theorem list_gl (g B : Nat) (v : Value) (l : List (Gl)) (a : Option Addr) (n c : Nat) (most : Int) (w0 w : World) (h : Buf g B v w v [] w) (hB : Below w0.heap.size w0 w) (hg : w0.heap.size < g) (hmost : w.cell? ⟨g, 12, none⟩ = some (.int .i64 most))
    (hn : l.length = n) (hr : Mod.Rows w0.heap.size w0 a 2 (l.map Gl.v)) (hlen : n ≤ 16384) (K : Nat) (eg : ∀ args w, (callFunc K args).run Tryz.prog w = .ok (.enter K args) w) (f : Gl → List Int)
    (hp : ∀ (W : World) (v : Value) (xs : List Int) (x : Gl), x ∈ l → Below w0.heap.size w0 W → Buf g B v W v xs W → xs.length ≤ 1000000000 → Calls Tryz.prog K #[.pointer (some ⟨g, 0, none⟩), .agg #[.bool x.mu, .slice x.l.a x.l.t.len x.l.c]] W (Puts g B v W (xs ++ f x)))
    (htot : (encU n ++ l.flatMap f).length ≤ 1000000000) :
    Calls Tryz.prog 166 #[.pointer (some ⟨g, 0, none⟩), .slice a n c, .func (.func K) #[.pointer (some ⟨g, 0, none⟩)] #[]] w (PutsC most g B v w (lstB f l)) := by
  have H := hid h
  have HG := hid hg
  have HB := hid hB
  have HR := hid hr
  have HN := hid hn
  have HP := hid hp
  have HT := hid htot
  have HM := hid hmost
  have c0 := h.c
  have HK : Hid (lstB f l = if l.length = 0 then [] else encU l.length ++ l.flatMap f) := rfl
  clear h hg hB hr hn hp htot hmost
  by_cases hz : n = 0
  · subst hz
    have HE := hid (show lstB f l = [] by rw [HK.out, if_pos HN.out])
    go_enter Tryz.func166, Tryz.ntmps166
    go_wp2
    refine bodyPost_ret (results_none rfl _ _ _) rfl ?_
    exact ⟨_, cut_all _ _, rfl, v, by rw [HE.out]; exact H.out⟩
  · have hni : ¬ (n : Int) = 0 := by omega
    have HE := hid (show lstB f l = encU n ++ l.flatMap f by rw [HK.out, if_neg (by rw [HN.out]; exact hz), HN.out])
    have hw := u32_id n (by omega) (by omega)
    have C := hid (number_any g B v [] n w H.out (by omega) (by omega) (by simp))
    rw [List.nil_append] at C
    obtain ⟨p, hp⟩ : ∃ p, encU n = p := ⟨_, rfl⟩
    rw [hp] at C HE HT
    clear hp HK
    go_enter Tryz.func166, Tryz.ntmps166
    go_wp2_with fail
    refine C.out.mono ?_
    rintro e1 w1 ⟨rfl, v1, hb⟩
    have HA1 := hid hb
    have HW1 := hid (hb.deep H.out.own HB.out HG.out)
    clear C hb c0 hw
    go_wp2
    go_loopw [20] (fun vi wr => ∃ (k : Nat) (v9 : Value), vi = .int .i64 k ∧ k ≤ n ∧ Hid (Buf g B v w v9 (p ++ (l.take k).flatMap f) wr) ∧ Hid (Below w0.heap.size w0 wr)) (fun vi _ => n - (intOf vi).toNat)
    case atStart => exact ⟨0, v1, rfl, Nat.zero_le _, hid (by simpa using HA1.out), HW1⟩
    case round =>
      clear HA1 HW1
      obtain ⟨k, v9, rfl, hk, HA, HW⟩ := hrel
      by_cases hlt : k < n
      · have hkl : k < l.length := by rw [HN.out]; exact hlt
        have hki : (k : Int) < (n : Int) := by omega
        obtain ⟨b, off, rfl, hb, hc⟩ := Mod.Rows.get HR.out hkl
        have HX := hid (List.getElem_mem hkl)
        have HST := hid (flat_step f hkl)
        have HLN := hid (show (p ++ (l.take k).flatMap f).length ≤ 1000000000 by have := HT.out; have := flat_mono f l k; rw [List.length_append] at *; omega)
        obtain ⟨x, hx⟩ : ∃ x, l[k] = x := ⟨_, rfl⟩
        rw [hx] at hc HX HST
        have c0 : wr.cell? ⟨b, off + k * 2, none⟩ = some (.bool x.mu) := (HW.out.cell (p := ⟨b, off + k * 2 + 0, none⟩) hb).trans (hc 0 (by omega) _ rfl)
        have c1 : wr.cell? ⟨b, off + k * 2 + 1, none⟩ = some (.slice x.l.a x.l.t.len x.l.c) := (HW.out.cell (p := ⟨b, off + k * 2 + 1, none⟩) hb).trans (hc 1 (by omega) _ rfl)
        clear hc hx hb hkl
        go_wp2_with fail
        have C := hid (HP.out (wr.alloc (.cells #[.bool x.mu, .slice x.l.a x.l.t.len x.l.c] 68)) v9 _ x HX.out (HW.out.trans (((Below.refl wr.heap.size wr).alloc (Nat.le_refl _) (.cells #[.bool x.mu, .slice x.l.a x.l.t.len x.l.c] 68)).mono HW.out.size)) (HA.out.lit (.cells #[.bool x.mu, .slice x.l.a x.l.t.len x.l.c] 68)).again HLN.out)
        refine C.out.mono ?_
        rintro e1 w2 ⟨rfl, v2, hb2⟩
        have HA2 := hid (show Buf g B v w v2 (p ++ (l.take (k + 1)).flatMap f) w2 by rw [HST.out, ← List.append_assoc]; exact (HA.out.lit (.cells #[.bool x.mu, .slice x.l.a x.l.t.len x.l.c] 68)).trans hb2)
        have HW2 := hid (HA2.out.deep H.out.own HB.out HG.out)
        obtain ⟨N, hN⟩ : ∃ N, (p ++ (l.take (k + 1)).flatMap f).length = N := ⟨_, rfl⟩
        obtain ⟨a2, q2, rfl⟩ := HA2.out.own.sliceN hN
        have d0 := HA2.out.c
        have d1 := (HA2.out.rest 12 (by decide)).trans HM.out
        have HD := hid hN
        clear C hb2 hN HA HW HX HST HLN c0 c1
        by_cases hgt : most < (N : Int)
        · have HP2 := hid (show Cut most (lstB f l) (p ++ (l.take (k + 1)).flatMap f) from by rw [HE.out]; exact ⟨take_pre f p l (k + 1), .inr (by rw [HD.out]; exact hgt)⟩)
          have HZ := hid (fun (m : Nat) => show Buf g B v w (.slice a2 N q2) (p ++ (l.take (k + 1)).flatMap f) (w2.drewN m) from HA2.out.on (drewnE (Below.refl w2.heap.size w2) m))
          go_wp2
          go_quiet (fail)
          go_wp2
          refine bodyPost_ret (results_none rfl _ _ _) rfl ?_
          exact ⟨_, HP2.out, rfl, _, HZ.out _⟩
        · skip
          go_wp2
          go_quiet (fail)
          go_wp2
          go_roundw
          case rel => exact ⟨k + 1, _, by go_num, by omega, hid (HA2.out.on (drewnE (Below.refl w2.heap.size w2) _)), drewnE HW2.out _⟩
          case measure => simp [intOf]; omega
      · obtain rfl : k = n := by omega
        have HQ := hid (show l.take k = l from List.take_of_length_le (by rw [HN.out]; exact Nat.le_refl _))
        go_wp2
        go_end0
        exact ⟨_, cut_all _ _, rfl, v9, by have := HA.out; rw [HQ.out, ← HE.out] at this; exact this⟩
set_option maxRecDepth 100000 in
set_option maxHeartbeats 2000000 in
theorem list_ex (g B : Nat) (v : Value) (l : List (Ex)) (a : Option Addr) (n c : Nat) (most : Int) (w0 w : World) (h : Buf g B v w v [] w) (hB : Below w0.heap.size w0 w) (hg : w0.heap.size < g) (hmost : w.cell? ⟨g, 12, none⟩ = some (.int .i64 most))
    (hn : l.length = n) (hr : Mod.Rows w0.heap.size w0 a 3 (l.map Ex.v)) (hlen : n ≤ 16384) (K : Nat) (eg : ∀ args w, (callFunc K args).run Tryz.prog w = .ok (.enter K args) w) (f : Ex → List Int)
    (hp : ∀ (W : World) (v : Value) (xs : List Int) (x : Ex), x ∈ l → Below w0.heap.size w0 W → Buf g B v W v xs W → xs.length ≤ 1000000000 → Calls Tryz.prog K #[.pointer (some ⟨g, 0, none⟩), .agg #[.string x.na, .int .i64 x.k, .int .u32 x.i]] W (Puts g B v W (xs ++ f x)))
    (htot : (encU n ++ l.flatMap f).length ≤ 1000000000) :
    Calls Tryz.prog 168 #[.pointer (some ⟨g, 0, none⟩), .slice a n c, .func (.func K) #[.pointer (some ⟨g, 0, none⟩)] #[]] w (PutsC most g B v w (lstB f l)) := by
  have H := hid h
  have HG := hid hg
  have HB := hid hB
  have HR := hid hr
  have HN := hid hn
  have HP := hid hp
  have HT := hid htot
  have HM := hid hmost
  have c0 := h.c
  have HK : Hid (lstB f l = if l.length = 0 then [] else encU l.length ++ l.flatMap f) := rfl
  clear h hg hB hr hn hp htot hmost
  by_cases hz : n = 0
  · subst hz
    have HE := hid (show lstB f l = [] by rw [HK.out, if_pos HN.out])
    go_enter Tryz.func168, Tryz.ntmps168
    go_wp2
    refine bodyPost_ret (results_none rfl _ _ _) rfl ?_
    exact ⟨_, cut_all _ _, rfl, v, by rw [HE.out]; exact H.out⟩
  · have hni : ¬ (n : Int) = 0 := by omega
    have HE := hid (show lstB f l = encU n ++ l.flatMap f by rw [HK.out, if_neg (by rw [HN.out]; exact hz), HN.out])
    have hw := u32_id n (by omega) (by omega)
    have C := hid (number_any g B v [] n w H.out (by omega) (by omega) (by simp))
    rw [List.nil_append] at C
    obtain ⟨p, hp⟩ : ∃ p, encU n = p := ⟨_, rfl⟩
    rw [hp] at C HE HT
    clear hp HK
    go_enter Tryz.func168, Tryz.ntmps168
    go_wp2_with fail
    refine C.out.mono ?_
    rintro e1 w1 ⟨rfl, v1, hb⟩
    have HA1 := hid hb
    have HW1 := hid (hb.deep H.out.own HB.out HG.out)
    clear C hb c0 hw
    go_wp2
    go_loopw [20] (fun vi wr => ∃ (k : Nat) (v9 : Value), vi = .int .i64 k ∧ k ≤ n ∧ Hid (Buf g B v w v9 (p ++ (l.take k).flatMap f) wr) ∧ Hid (Below w0.heap.size w0 wr)) (fun vi _ => n - (intOf vi).toNat)
    case atStart => exact ⟨0, v1, rfl, Nat.zero_le _, hid (by simpa using HA1.out), HW1⟩
    case round =>
      clear HA1 HW1
      obtain ⟨k, v9, rfl, hk, HA, HW⟩ := hrel
      by_cases hlt : k < n
      · have hkl : k < l.length := by rw [HN.out]; exact hlt
        have hki : (k : Int) < (n : Int) := by omega
        obtain ⟨b, off, rfl, hb, hc⟩ := Mod.Rows.get HR.out hkl
        have HX := hid (List.getElem_mem hkl)
        have HST := hid (flat_step f hkl)
        have HLN := hid (show (p ++ (l.take k).flatMap f).length ≤ 1000000000 by have := HT.out; have := flat_mono f l k; rw [List.length_append] at *; omega)
        obtain ⟨x, hx⟩ : ∃ x, l[k] = x := ⟨_, rfl⟩
        rw [hx] at hc HX HST
        have c0 : wr.cell? ⟨b, off + k * 3, none⟩ = some (.string x.na) := (HW.out.cell (p := ⟨b, off + k * 3 + 0, none⟩) hb).trans (hc 0 (by omega) _ rfl)
        have c1 : wr.cell? ⟨b, off + k * 3 + 1, none⟩ = some (.int .i64 x.k) := (HW.out.cell (p := ⟨b, off + k * 3 + 1, none⟩) hb).trans (hc 1 (by omega) _ rfl)
        have c2 : wr.cell? ⟨b, off + k * 3 + 2, none⟩ = some (.int .u32 x.i) := (HW.out.cell (p := ⟨b, off + k * 3 + 2, none⟩) hb).trans (hc 2 (by omega) _ rfl)
        clear hc hx hb hkl
        go_wp2_with fail
        have C := hid (HP.out (wr.alloc (.cells #[.string x.na, .int .i64 x.k, .int .u32 x.i] 75)) v9 _ x HX.out (HW.out.trans (((Below.refl wr.heap.size wr).alloc (Nat.le_refl _) (.cells #[.string x.na, .int .i64 x.k, .int .u32 x.i] 75)).mono HW.out.size)) (HA.out.lit (.cells #[.string x.na, .int .i64 x.k, .int .u32 x.i] 75)).again HLN.out)
        refine C.out.mono ?_
        rintro e1 w2 ⟨rfl, v2, hb2⟩
        have HA2 := hid (show Buf g B v w v2 (p ++ (l.take (k + 1)).flatMap f) w2 by rw [HST.out, ← List.append_assoc]; exact (HA.out.lit (.cells #[.string x.na, .int .i64 x.k, .int .u32 x.i] 75)).trans hb2)
        have HW2 := hid (HA2.out.deep H.out.own HB.out HG.out)
        obtain ⟨N, hN⟩ : ∃ N, (p ++ (l.take (k + 1)).flatMap f).length = N := ⟨_, rfl⟩
        obtain ⟨a2, q2, rfl⟩ := HA2.out.own.sliceN hN
        have d0 := HA2.out.c
        have d1 := (HA2.out.rest 12 (by decide)).trans HM.out
        have HD := hid hN
        clear C hb2 hN HA HW HX HST HLN c0 c1 c2
        by_cases hgt : most < (N : Int)
        · have HP2 := hid (show Cut most (lstB f l) (p ++ (l.take (k + 1)).flatMap f) from by rw [HE.out]; exact ⟨take_pre f p l (k + 1), .inr (by rw [HD.out]; exact hgt)⟩)
          have HZ := hid (fun (m : Nat) => show Buf g B v w (.slice a2 N q2) (p ++ (l.take (k + 1)).flatMap f) (w2.drewN m) from HA2.out.on (drewnE (Below.refl w2.heap.size w2) m))
          go_wp2
          go_quiet (fail)
          go_wp2
          refine bodyPost_ret (results_none rfl _ _ _) rfl ?_
          exact ⟨_, HP2.out, rfl, _, HZ.out _⟩
        · skip
          go_wp2
          go_quiet (fail)
          go_wp2
          go_roundw
          case rel => exact ⟨k + 1, _, by go_num, by omega, hid (HA2.out.on (drewnE (Below.refl w2.heap.size w2) _)), drewnE HW2.out _⟩
          case measure => simp [intOf]; omega
      · obtain rfl : k = n := by omega
        have HQ := hid (show l.take k = l from List.take_of_length_le (by rw [HN.out]; exact Nat.le_refl _))
        go_wp2
        go_end0
        exact ⟨_, cut_all _ _, rfl, v9, by have := HA.out; rw [HQ.out, ← HE.out] at this; exact this⟩
set_option maxRecDepth 100000 in
set_option maxHeartbeats 2000000 in
theorem list_el (g B : Nat) (v : Value) (l : List (El)) (a : Option Addr) (n c : Nat) (most : Int) (w0 w : World) (h : Buf g B v w v [] w) (hB : Below w0.heap.size w0 w) (hg : w0.heap.size < g) (hmost : w.cell? ⟨g, 12, none⟩ = some (.int .i64 most))
    (hn : l.length = n) (hr : Mod.Rows w0.heap.size w0 a 2 (l.map El.v)) (hlen : n ≤ 16384) (K : Nat) (eg : ∀ args w, (callFunc K args).run Tryz.prog w = .ok (.enter K args) w) (f : El → List Int)
    (hp : ∀ (W : World) (v : Value) (xs : List Int) (x : El), x ∈ l → Below w0.heap.size w0 W → Buf g B v W v xs W → xs.length ≤ 1000000000 → Calls Tryz.prog K #[.pointer (some ⟨g, 0, none⟩), .agg #[.slice x.l.a x.l.t.len x.l.c, .slice x.fa x.fs.length x.fc]] W (Puts g B v W (xs ++ f x)))
    (htot : (encU n ++ l.flatMap f).length ≤ 1000000000) :
    Calls Tryz.prog 170 #[.pointer (some ⟨g, 0, none⟩), .slice a n c, .func (.func K) #[.pointer (some ⟨g, 0, none⟩)] #[]] w (PutsC most g B v w (lstB f l)) := by
  have H := hid h
  have HG := hid hg
  have HB := hid hB
  have HR := hid hr
  have HN := hid hn
  have HP := hid hp
  have HT := hid htot
  have HM := hid hmost
  have c0 := h.c
  have HK : Hid (lstB f l = if l.length = 0 then [] else encU l.length ++ l.flatMap f) := rfl
  clear h hg hB hr hn hp htot hmost
  by_cases hz : n = 0
  · subst hz
    have HE := hid (show lstB f l = [] by rw [HK.out, if_pos HN.out])
    go_enter Tryz.func170, Tryz.ntmps170
    go_wp2
    refine bodyPost_ret (results_none rfl _ _ _) rfl ?_
    exact ⟨_, cut_all _ _, rfl, v, by rw [HE.out]; exact H.out⟩
  · have hni : ¬ (n : Int) = 0 := by omega
    have HE := hid (show lstB f l = encU n ++ l.flatMap f by rw [HK.out, if_neg (by rw [HN.out]; exact hz), HN.out])
    have hw := u32_id n (by omega) (by omega)
    have C := hid (number_any g B v [] n w H.out (by omega) (by omega) (by simp))
    rw [List.nil_append] at C
    obtain ⟨p, hp⟩ : ∃ p, encU n = p := ⟨_, rfl⟩
    rw [hp] at C HE HT
    clear hp HK
    go_enter Tryz.func170, Tryz.ntmps170
    go_wp2_with fail
    refine C.out.mono ?_
    rintro e1 w1 ⟨rfl, v1, hb⟩
    have HA1 := hid hb
    have HW1 := hid (hb.deep H.out.own HB.out HG.out)
    clear C hb c0 hw
    go_wp2
    go_loopw [20] (fun vi wr => ∃ (k : Nat) (v9 : Value), vi = .int .i64 k ∧ k ≤ n ∧ Hid (Buf g B v w v9 (p ++ (l.take k).flatMap f) wr) ∧ Hid (Below w0.heap.size w0 wr)) (fun vi _ => n - (intOf vi).toNat)
    case atStart => exact ⟨0, v1, rfl, Nat.zero_le _, hid (by simpa using HA1.out), HW1⟩
    case round =>
      clear HA1 HW1
      obtain ⟨k, v9, rfl, hk, HA, HW⟩ := hrel
      by_cases hlt : k < n
      · have hkl : k < l.length := by rw [HN.out]; exact hlt
        have hki : (k : Int) < (n : Int) := by omega
        obtain ⟨b, off, rfl, hb, hc⟩ := Mod.Rows.get HR.out hkl
        have HX := hid (List.getElem_mem hkl)
        have HST := hid (flat_step f hkl)
        have HLN := hid (show (p ++ (l.take k).flatMap f).length ≤ 1000000000 by have := HT.out; have := flat_mono f l k; rw [List.length_append] at *; omega)
        obtain ⟨x, hx⟩ : ∃ x, l[k] = x := ⟨_, rfl⟩
        rw [hx] at hc HX HST
        have c0 : wr.cell? ⟨b, off + k * 2, none⟩ = some (.slice x.l.a x.l.t.len x.l.c) := (HW.out.cell (p := ⟨b, off + k * 2 + 0, none⟩) hb).trans (hc 0 (by omega) _ rfl)
        have c1 : wr.cell? ⟨b, off + k * 2 + 1, none⟩ = some (.slice x.fa x.fs.length x.fc) := (HW.out.cell (p := ⟨b, off + k * 2 + 1, none⟩) hb).trans (hc 1 (by omega) _ rfl)
        clear hc hx hb hkl
        go_wp2_with fail
        have C := hid (HP.out (wr.alloc (.cells #[.slice x.l.a x.l.t.len x.l.c, .slice x.fa x.fs.length x.fc] 71)) v9 _ x HX.out (HW.out.trans (((Below.refl wr.heap.size wr).alloc (Nat.le_refl _) (.cells #[.slice x.l.a x.l.t.len x.l.c, .slice x.fa x.fs.length x.fc] 71)).mono HW.out.size)) (HA.out.lit (.cells #[.slice x.l.a x.l.t.len x.l.c, .slice x.fa x.fs.length x.fc] 71)).again HLN.out)
        refine C.out.mono ?_
        rintro e1 w2 ⟨rfl, v2, hb2⟩
        have HA2 := hid (show Buf g B v w v2 (p ++ (l.take (k + 1)).flatMap f) w2 by rw [HST.out, ← List.append_assoc]; exact (HA.out.lit (.cells #[.slice x.l.a x.l.t.len x.l.c, .slice x.fa x.fs.length x.fc] 71)).trans hb2)
        have HW2 := hid (HA2.out.deep H.out.own HB.out HG.out)
        obtain ⟨N, hN⟩ : ∃ N, (p ++ (l.take (k + 1)).flatMap f).length = N := ⟨_, rfl⟩
        obtain ⟨a2, q2, rfl⟩ := HA2.out.own.sliceN hN
        have d0 := HA2.out.c
        have d1 := (HA2.out.rest 12 (by decide)).trans HM.out
        have HD := hid hN
        clear C hb2 hN HA HW HX HST HLN c0 c1
        by_cases hgt : most < (N : Int)
        · have HP2 := hid (show Cut most (lstB f l) (p ++ (l.take (k + 1)).flatMap f) from by rw [HE.out]; exact ⟨take_pre f p l (k + 1), .inr (by rw [HD.out]; exact hgt)⟩)
          have HZ := hid (fun (m : Nat) => show Buf g B v w (.slice a2 N q2) (p ++ (l.take (k + 1)).flatMap f) (w2.drewN m) from HA2.out.on (drewnE (Below.refl w2.heap.size w2) m))
          go_wp2
          go_quiet (fail)
          go_wp2
          refine bodyPost_ret (results_none rfl _ _ _) rfl ?_
          exact ⟨_, HP2.out, rfl, _, HZ.out _⟩
        · skip
          go_wp2
          go_quiet (fail)
          go_wp2
          go_roundw
          case rel => exact ⟨k + 1, _, by go_num, by omega, hid (HA2.out.on (drewnE (Below.refl w2.heap.size w2) _)), drewnE HW2.out _⟩
          case measure => simp [intOf]; omega
      · obtain rfl : k = n := by omega
        have HQ := hid (show l.take k = l from List.take_of_length_le (by rw [HN.out]; exact Nat.le_refl _))
        go_wp2
        go_end0
        exact ⟨_, cut_all _ _, rfl, v9, by have := HA.out; rw [HQ.out, ← HE.out] at this; exact this⟩
set_option maxRecDepth 100000 in
set_option maxHeartbeats 2000000 in
theorem list_da (g B : Nat) (v : Value) (l : List (Da)) (a : Option Addr) (n c : Nat) (most : Int) (w0 w : World) (h : Buf g B v w v [] w) (hB : Below w0.heap.size w0 w) (hg : w0.heap.size < g) (hmost : w.cell? ⟨g, 12, none⟩ = some (.int .i64 most))
    (hn : l.length = n) (hr : Mod.Rows w0.heap.size w0 a 2 (l.map Da.v)) (hlen : n ≤ 16384) (K : Nat) (eg : ∀ args w, (callFunc K args).run Tryz.prog w = .ok (.enter K args) w) (f : Da → List Int)
    (hp : ∀ (W : World) (v : Value) (xs : List Int) (x : Da), x ∈ l → Below w0.heap.size w0 W → Buf g B v W v xs W → xs.length ≤ 1000000000 → Calls Tryz.prog K #[.pointer (some ⟨g, 0, none⟩), .agg #[.slice x.l.a x.l.t.len x.l.c, .slice x.ba x.bs.length x.bc]] W (Puts g B v W (xs ++ f x)))
    (htot : (encU n ++ l.flatMap f).length ≤ 1000000000) :
    Calls Tryz.prog 173 #[.pointer (some ⟨g, 0, none⟩), .slice a n c, .func (.func K) #[.pointer (some ⟨g, 0, none⟩)] #[]] w (PutsC most g B v w (lstB f l)) := by
  have H := hid h
  have HG := hid hg
  have HB := hid hB
  have HR := hid hr
  have HN := hid hn
  have HP := hid hp
  have HT := hid htot
  have HM := hid hmost
  have c0 := h.c
  have HK : Hid (lstB f l = if l.length = 0 then [] else encU l.length ++ l.flatMap f) := rfl
  clear h hg hB hr hn hp htot hmost
  by_cases hz : n = 0
  · subst hz
    have HE := hid (show lstB f l = [] by rw [HK.out, if_pos HN.out])
    go_enter Tryz.func173, Tryz.ntmps173
    go_wp2
    refine bodyPost_ret (results_none rfl _ _ _) rfl ?_
    exact ⟨_, cut_all _ _, rfl, v, by rw [HE.out]; exact H.out⟩
  · have hni : ¬ (n : Int) = 0 := by omega
    have HE := hid (show lstB f l = encU n ++ l.flatMap f by rw [HK.out, if_neg (by rw [HN.out]; exact hz), HN.out])
    have hw := u32_id n (by omega) (by omega)
    have C := hid (number_any g B v [] n w H.out (by omega) (by omega) (by simp))
    rw [List.nil_append] at C
    obtain ⟨p, hp⟩ : ∃ p, encU n = p := ⟨_, rfl⟩
    rw [hp] at C HE HT
    clear hp HK
    go_enter Tryz.func173, Tryz.ntmps173
    go_wp2_with fail
    refine C.out.mono ?_
    rintro e1 w1 ⟨rfl, v1, hb⟩
    have HA1 := hid hb
    have HW1 := hid (hb.deep H.out.own HB.out HG.out)
    clear C hb c0 hw
    go_wp2
    go_loopw [20] (fun vi wr => ∃ (k : Nat) (v9 : Value), vi = .int .i64 k ∧ k ≤ n ∧ Hid (Buf g B v w v9 (p ++ (l.take k).flatMap f) wr) ∧ Hid (Below w0.heap.size w0 wr)) (fun vi _ => n - (intOf vi).toNat)
    case atStart => exact ⟨0, v1, rfl, Nat.zero_le _, hid (by simpa using HA1.out), HW1⟩
    case round =>
      clear HA1 HW1
      obtain ⟨k, v9, rfl, hk, HA, HW⟩ := hrel
      by_cases hlt : k < n
      · have hkl : k < l.length := by rw [HN.out]; exact hlt
        have hki : (k : Int) < (n : Int) := by omega
        obtain ⟨b, off, rfl, hb, hc⟩ := Mod.Rows.get HR.out hkl
        have HX := hid (List.getElem_mem hkl)
        have HST := hid (flat_step f hkl)
        have HLN := hid (show (p ++ (l.take k).flatMap f).length ≤ 1000000000 by have := HT.out; have := flat_mono f l k; rw [List.length_append] at *; omega)
        obtain ⟨x, hx⟩ : ∃ x, l[k] = x := ⟨_, rfl⟩
        rw [hx] at hc HX HST
        have c0 : wr.cell? ⟨b, off + k * 2, none⟩ = some (.slice x.l.a x.l.t.len x.l.c) := (HW.out.cell (p := ⟨b, off + k * 2 + 0, none⟩) hb).trans (hc 0 (by omega) _ rfl)
        have c1 : wr.cell? ⟨b, off + k * 2 + 1, none⟩ = some (.slice x.ba x.bs.length x.bc) := (HW.out.cell (p := ⟨b, off + k * 2 + 1, none⟩) hb).trans (hc 1 (by omega) _ rfl)
        clear hc hx hb hkl
        go_wp2_with fail
        have C := hid (HP.out (wr.alloc (.cells #[.slice x.l.a x.l.t.len x.l.c, .slice x.ba x.bs.length x.bc] 47)) v9 _ x HX.out (HW.out.trans (((Below.refl wr.heap.size wr).alloc (Nat.le_refl _) (.cells #[.slice x.l.a x.l.t.len x.l.c, .slice x.ba x.bs.length x.bc] 47)).mono HW.out.size)) (HA.out.lit (.cells #[.slice x.l.a x.l.t.len x.l.c, .slice x.ba x.bs.length x.bc] 47)).again HLN.out)
        refine C.out.mono ?_
        rintro e1 w2 ⟨rfl, v2, hb2⟩
        have HA2 := hid (show Buf g B v w v2 (p ++ (l.take (k + 1)).flatMap f) w2 by rw [HST.out, ← List.append_assoc]; exact (HA.out.lit (.cells #[.slice x.l.a x.l.t.len x.l.c, .slice x.ba x.bs.length x.bc] 47)).trans hb2)
        have HW2 := hid (HA2.out.deep H.out.own HB.out HG.out)
        obtain ⟨N, hN⟩ : ∃ N, (p ++ (l.take (k + 1)).flatMap f).length = N := ⟨_, rfl⟩
        obtain ⟨a2, q2, rfl⟩ := HA2.out.own.sliceN hN
        have d0 := HA2.out.c
        have d1 := (HA2.out.rest 12 (by decide)).trans HM.out
        have HD := hid hN
        clear C hb2 hN HA HW HX HST HLN c0 c1
        by_cases hgt : most < (N : Int)
        · have HP2 := hid (show Cut most (lstB f l) (p ++ (l.take (k + 1)).flatMap f) from by rw [HE.out]; exact ⟨take_pre f p l (k + 1), .inr (by rw [HD.out]; exact hgt)⟩)
          have HZ := hid (fun (m : Nat) => show Buf g B v w (.slice a2 N q2) (p ++ (l.take (k + 1)).flatMap f) (w2.drewN m) from HA2.out.on (drewnE (Below.refl w2.heap.size w2) m))
          go_wp2
          go_quiet (fail)
          go_wp2
          refine bodyPost_ret (results_none rfl _ _ _) rfl ?_
          exact ⟨_, HP2.out, rfl, _, HZ.out _⟩
        · skip
          go_wp2
          go_quiet (fail)
          go_wp2
          go_roundw
          case rel => exact ⟨k + 1, _, by go_num, by omega, hid (HA2.out.on (drewnE (Below.refl w2.heap.size w2) _)), drewnE HW2.out _⟩
          case measure => simp [intOf]; omega
      · obtain rfl : k = n := by omega
        have HQ := hid (show l.take k = l from List.take_of_length_le (by rw [HN.out]; exact Nat.le_refl _))
        go_wp2
        go_end0
        exact ⟨_, cut_all _ _, rfl, v9, by have := HA.out; rw [HQ.out, ← HE.out] at this; exact this⟩
end Go.Proofs.YtepbjkkakfpjgaaGreatDoor.Enc

namespace Go.Proofs.YtepbjkkakfpjgaaGreatDoor.Mod
open Go.RowKit Go.Shelf Go.Proofs.YtepbjkkakfpjgaaGreatDoor.Instr

theorem BoxAt.all {W : World} {g : Nat} {m : Md} (h : BoxAt W g m.v) : W.cell? ⟨g, 0, none⟩ = some (.slice m.ty'.a m.ty.length m.ty'.c) ∧ W.cell? ⟨g, 1, none⟩ = some (.slice m.im'.a m.im.length m.im'.c) ∧ W.cell? ⟨g, 2, none⟩ = some (.slice m.fu'.a m.fu.length m.fu'.c) ∧
    W.cell? ⟨g, 3, none⟩ = some (.slice m.tb'.a m.tb.length m.tb'.c) ∧ W.cell? ⟨g, 4, none⟩ = some (.slice m.me'.a m.me.length m.me'.c) ∧ W.cell? ⟨g, 5, none⟩ = some (.slice m.gl'.a m.gl.length m.gl'.c) ∧ W.cell? ⟨g, 6, none⟩ = some (.slice m.ex'.a m.ex.length m.ex'.c) ∧
    W.cell? ⟨g, 7, none⟩ = some (.bool m.st) ∧ W.cell? ⟨g, 8, none⟩ = some (.int .u32 m.sn) ∧ W.cell? ⟨g, 9, none⟩ = some (.slice m.el'.a m.el.length m.el'.c) ∧ W.cell? ⟨g, 10, none⟩ = some (.slice m.da'.a m.da.length m.da'.c) :=
  ⟨h 0 _ rfl, h 1 _ rfl, h 2 _ rfl, h 3 _ rfl, h 4 _ rfl, h 5 _ rfl, h 6 _ rfl, h 7 _ rfl, h 8 _ rfl, h 9 _ rfl, h 10 _ rfl⟩

set_option maxHeartbeats 1000000 in
theorem chk1 (m : Md) (g : Nat) (W : World) (hx : BoxAt W g m.v) (hm : ModAt W.heap.size W m) (hf : m.few) : Calls Tryz.prog 48 #[.pointer (some ⟨g, 0, none⟩)] W fun e w' => e = .returned (.int .i64 (errI (m.crowded) 141)) ∧ Below W.heap.size W w' := by
  have C := hid (crowded_any m W hm hf.fit)
  obtain ⟨q, hq⟩ : ∃ q, m.crowded = q := ⟨_, rfl⟩
  rw [hq] at C ⊢
  have E := hid (fun w => errIf_any q 141 w)
  unfold Md.v at C
  obtain ⟨c0,c1,c2,c3,c4,c5,c6,c7,c8,c9,c10⟩ := hx.all
  clear hx hm hf hq
  go_enter Tryz.func48, Tryz.ntmps48
  go_wp2_with fail
  refine C.out.mono ?_
  rintro e w1 ⟨rfl, hb1⟩
  clear C c0 c1 c2 c3 c4 c5 c6 c7 c8 c9 c10
  go_wp2_with fail
  refine (E.out _).mono ?_
  rintro e w2 ⟨rfl, rfl⟩
  go_wp2
  go_ret
  exact ⟨rfl, hb1⟩

set_option maxHeartbeats 1000000 in
theorem chk3 (m : Md) (g : Nat) (W : World) (hx : BoxAt W g m.v) (hm : ModAt W.heap.size W m) (hf : m.few) : Calls Tryz.prog 53 #[.pointer (some ⟨g, 0, none⟩)] W fun e w' => e = .returned (.int .i64 (errI (m.anyName longS) 3)) ∧ Below W.heap.size W w' := by
  have C := hid (anyName_any m 55 longS W hm hf.fit (asks_long W))
  obtain ⟨q, hq⟩ : ∃ q, m.anyName longS = q := ⟨_, rfl⟩
  rw [hq] at C ⊢
  have E := hid (fun w => errIf_any q 3 w)
  unfold Md.v at C
  obtain ⟨c0,c1,c2,c3,c4,c5,c6,c7,c8,c9,c10⟩ := hx.all
  clear hx hm hf hq
  go_enter Tryz.func53, Tryz.ntmps53
  go_wp2_with fail
  refine C.out.mono ?_
  rintro e w1 ⟨rfl, hb1⟩
  clear C c0 c1 c2 c3 c4 c5 c6 c7 c8 c9 c10
  go_wp2_with fail
  refine (E.out _).mono ?_
  rintro e w2 ⟨rfl, rfl⟩
  go_wp2
  go_ret
  exact ⟨rfl, hb1⟩

set_option maxHeartbeats 1000000 in
theorem chk4 (m : Md) (g : Nat) (W : World) (hx : BoxAt W g m.v) (hm : ModAt W.heap.size W m) (hf : m.few) : Calls Tryz.prog 56 #[.pointer (some ⟨g, 0, none⟩)] W fun e w' => e = .returned (.int .i64 (errI (m.heavy) 3)) ∧ Below W.heap.size W w' := by
  have C := hid (heavy_any m.da m.da'.a m.da.length m.da'.c W rfl hm.da hf.fit.da)
  unfold Md.heavy
  obtain ⟨q, hq⟩ : ∃ q, decide (1048576 < sumB m.da) = q := ⟨_, rfl⟩
  rw [hq] at C ⊢
  have E := hid (fun w => errIf_any q 3 w)
  obtain ⟨c0,c1,c2,c3,c4,c5,c6,c7,c8,c9,c10⟩ := hx.all
  clear hx hm hf hq
  go_enter Tryz.func56, Tryz.ntmps56
  go_wp2_with fail
  refine C.out.mono ?_
  rintro e w1 ⟨rfl, hb1⟩
  clear C c0 c1 c2 c3 c4 c5 c6 c7 c8 c9 c10
  go_wp2_with fail
  refine (E.out _).mono ?_
  rintro e w2 ⟨rfl, rfl⟩
  go_wp2
  go_ret
  exact ⟨rfl, hb1⟩

set_option maxHeartbeats 1000000 in
theorem chk6 (m : Md) (g : Nat) (W : World) (hx : BoxAt W g m.v) (hm : ModAt W.heap.size W m) (hf : m.few) (hU : Utf.Tabs W) : Calls Tryz.prog 59 #[.pointer (some ⟨g, 0, none⟩)] W fun e w' => e = .returned (.int .i64 (errI (m.anyName noText) 2)) ∧ Below W.heap.size W w' := by
  have C := hid (anyName_any m 60 noText W hm hf.fit (asks_text W hU))
  obtain ⟨q, hq⟩ : ∃ q, m.anyName noText = q := ⟨_, rfl⟩
  rw [hq] at C ⊢
  have E := hid (fun w => errIf_any q 2 w)
  unfold Md.v at C
  obtain ⟨c0,c1,c2,c3,c4,c5,c6,c7,c8,c9,c10⟩ := hx.all
  clear hx hm hf hq
  go_enter Tryz.func59, Tryz.ntmps59
  go_wp2_with fail
  refine C.out.mono ?_
  rintro e w1 ⟨rfl, hb1⟩
  clear C c0 c1 c2 c3 c4 c5 c6 c7 c8 c9 c10
  go_wp2_with fail
  refine (E.out _).mono ?_
  rintro e w2 ⟨rfl, rfl⟩
  go_wp2
  go_ret
  exact ⟨rfl, hb1⟩

set_option maxHeartbeats 1000000 in
theorem chk7 (m : Md) (g : Nat) (W : World) (hx : BoxAt W g m.v) (hm : ModAt W.heap.size W m) (hf : m.few) : Calls Tryz.prog 61 #[.pointer (some ⟨g, 0, none⟩)] W fun e w' => e = .returned (.int .i64 (errI (m.ty.any wrongT) 2)) ∧ Below W.heap.size W w' := by
  have C := hid (any_ty m.ty m.ty'.a m.ty.length m.ty'.c W rfl hm.ty hf.fit.ty 63 #[] (enters_of Tryz.func63 (by kernel_rfl) rfl) wrongT (fun W' x _ _ => by simp only [Array.append_empty]; exact wrongT_any x W'))
  obtain ⟨q, hq⟩ : ∃ q, m.ty.any wrongT = q := ⟨_, rfl⟩
  rw [hq] at C ⊢
  have E := hid (fun w => errIf_any q 2 w)
  obtain ⟨c0,c1,c2,c3,c4,c5,c6,c7,c8,c9,c10⟩ := hx.all
  clear hx hm hf hq
  go_enter Tryz.func61, Tryz.ntmps61
  go_wp2_with fail
  refine C.out.mono ?_
  rintro e w1 ⟨rfl, hb1⟩
  clear C c0 c1 c2 c3 c4 c5 c6 c7 c8 c9 c10
  go_wp2_with fail
  refine (E.out _).mono ?_
  rintro e w2 ⟨rfl, rfl⟩
  go_wp2
  go_ret
  exact ⟨rfl, hb1⟩

set_option maxHeartbeats 1000000 in
theorem chk8 (m : Md) (g : Nat) (W : World) (hx : BoxAt W g m.v) (hm : ModAt W.heap.size W m) (hf : m.few) : Calls Tryz.prog 64 #[.pointer (some ⟨g, 0, none⟩)] W fun e w' => e = .returned (.int .i64 (errI (m.im.any wrongI) 2)) ∧ Below W.heap.size W w' := by
  have C := hid (any_im m.im m.im'.a m.im.length m.im'.c W rfl hm.im hf.fit.im 66 #[] (enters_of Tryz.func66 (by kernel_rfl) rfl) wrongI (fun W' x _ _ => by simp only [Array.append_empty]; exact wrongI_any x W'))
  obtain ⟨q, hq⟩ : ∃ q, m.im.any wrongI = q := ⟨_, rfl⟩
  rw [hq] at C ⊢
  have E := hid (fun w => errIf_any q 2 w)
  obtain ⟨c0,c1,c2,c3,c4,c5,c6,c7,c8,c9,c10⟩ := hx.all
  clear hx hm hf hq
  go_enter Tryz.func64, Tryz.ntmps64
  go_wp2_with fail
  refine C.out.mono ?_
  rintro e w1 ⟨rfl, hb1⟩
  clear C c0 c1 c2 c3 c4 c5 c6 c7 c8 c9 c10
  go_wp2_with fail
  refine (E.out _).mono ?_
  rintro e w2 ⟨rfl, rfl⟩
  go_wp2
  go_ret
  exact ⟨rfl, hb1⟩

set_option maxHeartbeats 1000000 in
theorem chk9 (m : Md) (g : Nat) (W : World) (hx : BoxAt W g m.v) (hm : ModAt W.heap.size W m) (hf : m.few) : Calls Tryz.prog 67 #[.pointer (some ⟨g, 0, none⟩)] W fun e w' => e = .returned (.int .i64 (errI (m.fu.any wrongF) 2)) ∧ Below W.heap.size W w' := by
  have C := hid (any_fu m.fu m.fu'.a m.fu.length m.fu'.c W rfl hm.fu hf.fit.fu 69 #[] (enters_of Tryz.func69 (by kernel_rfl) rfl) wrongF (fun W' x _ _ => by simp only [Array.append_empty]; exact wrongF_any x W'))
  obtain ⟨q, hq⟩ : ∃ q, m.fu.any wrongF = q := ⟨_, rfl⟩
  rw [hq] at C ⊢
  have E := hid (fun w => errIf_any q 2 w)
  obtain ⟨c0,c1,c2,c3,c4,c5,c6,c7,c8,c9,c10⟩ := hx.all
  clear hx hm hf hq
  go_enter Tryz.func67, Tryz.ntmps67
  go_wp2_with fail
  refine C.out.mono ?_
  rintro e w1 ⟨rfl, hb1⟩
  clear C c0 c1 c2 c3 c4 c5 c6 c7 c8 c9 c10
  go_wp2_with fail
  refine (E.out _).mono ?_
  rintro e w2 ⟨rfl, rfl⟩
  go_wp2
  go_ret
  exact ⟨rfl, hb1⟩

set_option maxHeartbeats 1000000 in
theorem chk10 (m : Md) (g : Nat) (W : World) (hx : BoxAt W g m.v) (hm : ModAt W.heap.size W m) (hf : m.few) : Calls Tryz.prog 70 #[.pointer (some ⟨g, 0, none⟩)] W fun e w' => e = .returned (.int .i64 (errI (m.ex.any wrongE) 2)) ∧ Below W.heap.size W w' := by
  have C := hid (any_ex m.ex m.ex'.a m.ex.length m.ex'.c W rfl hm.ex hf.fit.ex 72 #[] (enters_of Tryz.func72 (by kernel_rfl) rfl) wrongE (fun W' x _ _ => by simp only [Array.append_empty]; exact wrongE_any x W'))
  obtain ⟨q, hq⟩ : ∃ q, m.ex.any wrongE = q := ⟨_, rfl⟩
  rw [hq] at C ⊢
  have E := hid (fun w => errIf_any q 2 w)
  obtain ⟨c0,c1,c2,c3,c4,c5,c6,c7,c8,c9,c10⟩ := hx.all
  clear hx hm hf hq
  go_enter Tryz.func70, Tryz.ntmps70
  go_wp2_with fail
  refine C.out.mono ?_
  rintro e w1 ⟨rfl, hb1⟩
  clear C c0 c1 c2 c3 c4 c5 c6 c7 c8 c9 c10
  go_wp2_with fail
  refine (E.out _).mono ?_
  rintro e w2 ⟨rfl, rfl⟩
  go_wp2
  go_ret
  exact ⟨rfl, hb1⟩

set_option maxHeartbeats 1000000 in
theorem chk11 (m : Md) (g : Nat) (W : World) (hx : BoxAt W g m.v) (hm : ModAt W.heap.size W m) (hf : m.few) : Calls Tryz.prog 73 #[.pointer (some ⟨g, 0, none⟩)] W fun e w' => e = .returned (.int .i64 (errI (m.tb.any (beyond 1048576)) 2)) ∧ Below W.heap.size W w' := by
  have C := hid (anyBeyond_any m.tb m.tb'.a m.tb.length m.tb'.c 1048576 W rfl hm.tb hf.fit.tb)
  obtain ⟨q, hq⟩ : ∃ q, m.tb.any (beyond 1048576) = q := ⟨_, rfl⟩
  rw [hq] at C ⊢
  have E := hid (fun w => errIf_any q 2 w)
  obtain ⟨c0,c1,c2,c3,c4,c5,c6,c7,c8,c9,c10⟩ := hx.all
  clear hx hm hf hq
  go_enter Tryz.func73, Tryz.ntmps73
  go_wp2_with fail
  refine C.out.mono ?_
  rintro e w1 ⟨rfl, hb1⟩
  clear C c0 c1 c2 c3 c4 c5 c6 c7 c8 c9 c10
  go_wp2_with fail
  refine (E.out _).mono ?_
  rintro e w2 ⟨rfl, rfl⟩
  go_wp2
  go_ret
  exact ⟨rfl, hb1⟩

set_option maxHeartbeats 1000000 in
theorem chk12 (m : Md) (g : Nat) (W : World) (hx : BoxAt W g m.v) (hm : ModAt W.heap.size W m) (hf : m.few) : Calls Tryz.prog 75 #[.pointer (some ⟨g, 0, none⟩)] W fun e w' => e = .returned (.int .i64 (errI (m.me.any (beyond 65536)) 2)) ∧ Below W.heap.size W w' := by
  have C := hid (anyBeyond_any m.me m.me'.a m.me.length m.me'.c 65536 W rfl hm.me hf.fit.me)
  obtain ⟨q, hq⟩ : ∃ q, m.me.any (beyond 65536) = q := ⟨_, rfl⟩
  rw [hq] at C ⊢
  have E := hid (fun w => errIf_any q 2 w)
  obtain ⟨c0,c1,c2,c3,c4,c5,c6,c7,c8,c9,c10⟩ := hx.all
  clear hx hm hf hq
  go_enter Tryz.func75, Tryz.ntmps75
  go_wp2_with fail
  refine C.out.mono ?_
  rintro e w1 ⟨rfl, hb1⟩
  clear C c0 c1 c2 c3 c4 c5 c6 c7 c8 c9 c10
  go_wp2_with fail
  refine (E.out _).mono ?_
  rintro e w2 ⟨rfl, rfl⟩
  go_wp2
  go_ret
  exact ⟨rfl, hb1⟩

set_option maxHeartbeats 1000000 in
theorem chk2 (m : Md) (g : Nat) (q0 : Int) (W : World) (hx : BoxAt W g m.v) (hm : ModAt W.heap.size W m) (hf : m.few) (hT : Nams W) (hc : W.cell? ⟨g + 1, 0, none⟩ = some (.int .i64 q0)) (hfr : W.frozen? ⟨g + 1, 0, none⟩ = false) :
    Calls Tryz.prog 51 #[.pointer (some ⟨g, 0, none⟩), .pointer (some ⟨g + 1, 0, none⟩)] W fun e w' => e = .returned (.int .i64 (errI (codeP m.codes == 141) 141)) ∧ ∃ w1, Below W.heap.size W w1 ∧ w' = w1.setCell ⟨g + 1, 0, none⟩ (.int .i64 (codeP m.codes)) := by
  have C := hid (codeError_any m W hT hm hf)
  obtain ⟨q, hq⟩ : ∃ q, codeP m.codes = q := ⟨_, rfl⟩
  rw [hq] at C ⊢
  have E := hid (fun w => errIf_any (q == 141) 141 w)
  have HK := hid (show ∀ w1, Below W.heap.size W w1 → w1.cell? ⟨g + 1, 0, none⟩ = some (.int .i64 q0) ∧ w1.frozen? ⟨g + 1, 0, none⟩ = false from fun w1 hb => ⟨Go.Proofs.YtepbjkkakfpjgaaGreatDoor.keep hb hc, (hb.frozen (p := ⟨g + 1, 0, none⟩) (World.block_lt_of_cell? W _ hc)).trans hfr⟩)
  unfold Md.v at C
  obtain ⟨c0,c1,c2,c3,c4,c5,c6,c7,c8,c9,c10⟩ := hx.all
  clear hx hm hf hq hT hc hfr
  go_enter Tryz.func51, Tryz.ntmps51
  go_wp2_with fail
  refine C.out.mono ?_
  rintro e w1 ⟨rfl, hb1⟩
  obtain ⟨k1, k2⟩ := HK.out w1 hb1
  clear C c0 c1 c2 c3 c4 c5 c6 c7 c8 c9 c10
  go_wp2_with fail
  refine (E.out _).mono ?_
  rintro e w2 ⟨rfl, rfl⟩
  go_wp2
  go_ret
  exact ⟨rfl, w1, hb1, rfl⟩
theorem chk5 (g : Nat) (q : Int) (W : World) (hc : W.cell? ⟨g + 1, 0, none⟩ = some (.int .i64 q)) : Calls Tryz.prog 58 #[.pointer (some ⟨g + 1, 0, none⟩)] W fun e w' => e = .returned (.int .i64 q) ∧ Below W.heap.size W w' := by
  go_enter Tryz.func58, Tryz.ntmps58
  go_wp2
  go_ret
  exact ⟨rfl, Below.refl _ _⟩
set_option maxHeartbeats 1000000 in
theorem chk13 (m : Md) (g : Nat) (W : World) (hx : BoxAt W g m.v) : Calls Tryz.prog 76 #[.pointer (some ⟨g, 0, none⟩)] W fun e w' => e = .returned (.int .i64 (errI (!m.st && decide (m.sn ≠ 0)) 2)) ∧ Below W.heap.size W w' := by
  obtain ⟨c0,c1,c2,c3,c4,c5,c6,c7,c8,c9,c10⟩ := hx.all
  obtain ⟨sn, hsn⟩ : ∃ sn, m.sn = sn := ⟨_, rfl⟩
  obtain ⟨st, hst⟩ : ∃ st, m.st = st := ⟨_, rfl⟩
  rw [hsn] at c8 ⊢
  rw [hst] at c7 ⊢
  clear hx hsn hst
  have E := hid (fun b w => errIf_any b 2 w)
  cases st
  · by_cases h : sn = 0
    · subst h
      go_enter Tryz.func76, Tryz.ntmps76
      go_wp2_with fail
      refine (E.out _ _).mono ?_
      rintro e w2 ⟨rfl, rfl⟩
      go_wp2
      go_ret
      exact ⟨by simp, Below.refl _ _⟩
    · have hn1 : (sn == 0) = false := by simpa using h
      have hn2 : (sn != 0) = true := by simpa using h
      have HH := hid h
      clear h
      go_enter Tryz.func76, Tryz.ntmps76
      go_wp2_with fail
      refine (E.out _ _).mono ?_
      rintro e w2 ⟨rfl, rfl⟩
      go_wp2
      go_ret
      exact ⟨by simp [HH.out], Below.refl _ _⟩
  · go_enter Tryz.func76, Tryz.ntmps76
    go_wp2_with fail
    refine (E.out _ _).mono ?_
    rintro e w2 ⟨rfl, rfl⟩
    go_wp2
    go_ret
    exact ⟨by simp, Below.refl _ _⟩
end Go.Proofs.YtepbjkkakfpjgaaGreatDoor.Mod

namespace Go.Proofs.YtepbjkkakfpjgaaGreatDoor.Mod
open Go.RowKit Go.Shelf Go.Proofs.YtepbjkkakfpjgaaGreatDoor.Instr

/-- What the checks return, in order. -/
def Md.outs (m : Md) : List Int := [errI m.crowded 141, errI (codeP m.codes == 141) 141, errI (m.anyName longS) 3, errI m.heavy 3, codeP m.codes, errI (m.anyName noText) 2, errI (m.ty.any wrongT) 2, errI (m.im.any wrongI) 2, errI (m.fu.any wrongF) 2, errI (m.ex.any wrongE) 2,
  errI (m.tb.any (beyond 1048576)) 2, errI (m.me.any (beyond 65536)) 2, errI (!m.st && decide (m.sn ≠ 0)) 2]
/-- The first of them that is an error. -/
def firstE : List Int → Int
  | [] => 0
  | e :: r => if e = 0 then firstE r else e
theorem firstE_hit : ∀ (l : List Int) (k : Nat) (hk : k < l.length), (∀ j (hj : j < l.length), j < k → l[j] = 0) → l[k] ≠ 0 → firstE l = l[k]
  | [], k, hk, _, _ => by simp at hk
  | e :: r, 0, hk, _, h => by simp only [List.getElem_cons_zero] at h ⊢; rw [firstE, if_neg h]
  | e :: r, k + 1, hk, hb, h => by
    have h0 : e = 0 := hb 0 (by simp) (by omega)
    rw [firstE, if_pos h0]
    simp only [List.getElem_cons_succ] at h ⊢
    exact firstE_hit r k (by simpa using hk) (fun j hj hjk => by have := hb (j + 1) (by simp; omega) (by omega); simpa using this) h
theorem firstE_miss : ∀ (l : List Int), (∀ j (hj : j < l.length), l[j] = 0) → firstE l = 0
  | [], _ => rfl
  | e :: r, hb => by
    have h0 : e = 0 := hb 0 (by simp)
    rw [firstE, if_pos h0]
    exact firstE_miss r (fun j hj => by have := hb (j + 1) (by simp; omega); simpa using this)
theorem errI_two (b : Bool) (e r : Int) (he : e ≠ 0) : (if errI b e = 0 then r else errI b e) = if b then e else r := by
  cases b <;> simp [errI, he]
theorem check_outs (m : Md) : m.check = firstE m.outs := by
  unfold Md.outs Md.check
  simp only [firstE, errI_two _ _ _ (show (141 : Int) ≠ 0 by decide), errI_two _ _ _ (show (3 : Int) ≠ 0 by decide), errI_two _ _ _ (show (2 : Int) ≠ 0 by decide)]
  have hc := codeP_cases m.codes
  by_cases h1 : m.crowded = true
  · simp [h1]
  rw [if_neg h1, if_neg h1]
  by_cases h2 : codeP m.codes = 141
  · simp [h2]
  have h2' : ¬ (codeP m.codes == 141) = true := by simpa using h2
  rw [if_neg h2, if_neg h2']
  split
  · rfl
  split
  · rfl
  by_cases h3 : codeP m.codes = 0
  · rw [if_pos h3, if_neg (by omega)]
    unfold Md.wrong
    cases m.anyName noText <;> cases m.ty.any wrongT <;> cases m.im.any wrongI <;> cases m.fu.any wrongF <;> cases m.ex.any wrongE <;> cases m.tb.any (beyond 1048576) <;> cases m.me.any (beyond 65536) <;> cases (!m.st && decide (m.sn ≠ 0)) <;> rfl
  · have h4 : codeP m.codes = 2 := by omega
    rw [if_neg h3, h4]; rfl

/-- The function of the k-th check. -/
def chkF (k : Nat) : Nat := [48, 51, 53, 56, 58, 59, 61, 64, 67, 70, 73, 75, 76].getD k 0
/-- What it has captured. -/
def chkB (g k : Nat) : Array Value := [#[.pointer (some ⟨g, 0, none⟩)], #[.pointer (some ⟨g, 0, none⟩), .pointer (some ⟨g + 1, 0, none⟩)], #[.pointer (some ⟨g, 0, none⟩)], #[.pointer (some ⟨g, 0, none⟩)], #[.pointer (some ⟨g + 1, 0, none⟩)], #[.pointer (some ⟨g, 0, none⟩)], #[.pointer (some ⟨g, 0, none⟩)],
  #[.pointer (some ⟨g, 0, none⟩)], #[.pointer (some ⟨g, 0, none⟩)], #[.pointer (some ⟨g, 0, none⟩)], #[.pointer (some ⟨g, 0, none⟩)], #[.pointer (some ⟨g, 0, none⟩)], #[.pointer (some ⟨g, 0, none⟩)]].getD k #[]
theorem chk_enters (k : Nat) (hk : k < 13) : ∀ args w, (callFunc (chkF k) args).run Tryz.prog w = .ok (.enter (chkF k) args) w := by
  match k, hk with
  | 0, _ => exact enters_of Tryz.func48 (by kernel_rfl) rfl
  | 1, _ => exact enters_of Tryz.func51 (by kernel_rfl) rfl
  | 2, _ => exact enters_of Tryz.func53 (by kernel_rfl) rfl
  | 3, _ => exact enters_of Tryz.func56 (by kernel_rfl) rfl
  | 4, _ => exact enters_of Tryz.func58 (by kernel_rfl) rfl
  | 5, _ => exact enters_of Tryz.func59 (by kernel_rfl) rfl
  | 6, _ => exact enters_of Tryz.func61 (by kernel_rfl) rfl
  | 7, _ => exact enters_of Tryz.func64 (by kernel_rfl) rfl
  | 8, _ => exact enters_of Tryz.func67 (by kernel_rfl) rfl
  | 9, _ => exact enters_of Tryz.func70 (by kernel_rfl) rfl
  | 10, _ => exact enters_of Tryz.func73 (by kernel_rfl) rfl
  | 11, _ => exact enters_of Tryz.func75 (by kernel_rfl) rfl
  | 12, _ => exact enters_of Tryz.func76 (by kernel_rfl) rfl

/-- What holds between two checks. -/
structure Chks (w : World) (m : Md) (k : Nat) (W : World) : Prop where
  below : Below w.heap.size w W
  box : BoxAt W w.heap.size m.v
  code : W.cell? ⟨w.heap.size + 1, 0, none⟩ = some (.int .i64 (if k < 2 then 0 else codeP m.codes))
  fr : W.frozen? ⟨w.heap.size + 1, 0, none⟩ = false
  arr : ∀ j, j < 13 → W.cell? ⟨w.heap.size + 2, j, none⟩ = some (.func (.func (chkF j)) #[] (chkB w.heap.size j))
theorem Chks.go {w : World} {m : Md} {k k' : Nat} {W W' : World} (h : Chks w m k W) (hb : Below W.heap.size W W') (hk : k < 2 ↔ k' < 2) : Chks w m k' W' :=
  ⟨h.below.trans (hb.mono h.below.size), h.box.keep hb, by rw [show (if k' < 2 then (0 : Int) else codeP m.codes) = if k < 2 then 0 else codeP m.codes by by_cases h2 : k < 2 <;> simp [h2, ← hk]]; exact Go.Proofs.YtepbjkkakfpjgaaGreatDoor.keep hb h.code, (hb.frozen (p := ⟨w.heap.size + 1, 0, none⟩) (World.block_lt_of_cell? W _ h.code)).trans h.fr, fun j hj => Go.Proofs.YtepbjkkakfpjgaaGreatDoor.keep hb (h.arr j hj)⟩
theorem Chks.set {w : World} {m : Md} {W W' : World} (h : Chks w m 1 W) (hb : Below W.heap.size W W') : Chks w m 2 (W'.setCell ⟨w.heap.size + 1, 0, none⟩ (.int .i64 (codeP m.codes))) := by
  have h' := h.go (k' := 1) hb Iff.rfl
  refine ⟨h'.below.setCell (p := ⟨w.heap.size + 1, 0, none⟩) (by simp) _, fun j x hj => ?_, ?_, ?_, fun j hj => ?_⟩
  · exact (World.cell?_of_block (w := W') (Below.heap_setCell _ _ _ _ (by simp))).trans (h'.box j x hj)
  · rw [if_neg (by omega)]; exact World.cell?_setCell_same' _ _ _ (by rw [h'.code]; rfl)
  · rw [World.frozen?_setCell]; exact h'.fr
  · exact (World.cell?_of_block (w := W') (Below.heap_setCell _ _ _ _ (by simp))).trans (h'.arr j hj)
/-- One check. -/
theorem chk_step (m : Md) (w : World) (hT : Nams w) (hU : Utf.Tabs w) (hm : ModAt w.heap.size w m) (hf : m.few) (k : Nat) (hk : k < 13) (W : World) (h : Chks w m k W) :
    Calls Tryz.prog (chkF k) (chkB w.heap.size k) W fun e w' => e = .returned (.int .i64 (m.outs.getD k 0)) ∧ Chks w m (k + 1) w' := by
  have hm' := hm.on h.below
  have hT' := hT.below h.below
  have hU' := hU.below h.below
  match k, hk, h with
  | 0, _, h => exact (chk1 m _ W h.box hm' hf).mono fun e w' ⟨he, hb⟩ => ⟨he, h.go hb (by simp)⟩
  | 1, _, h => exact (chk2 m _ _ W h.box hm' hf hT' h.code h.fr).mono fun e w' ⟨he, w1, hb, hw⟩ => ⟨he, by subst hw; exact h.set hb⟩
  | 2, _, h => exact (chk3 m _ W h.box hm' hf).mono fun e w' ⟨he, hb⟩ => ⟨he, h.go hb (by simp)⟩
  | 3, _, h => exact (chk4 m _ W h.box hm' hf).mono fun e w' ⟨he, hb⟩ => ⟨he, h.go hb (by simp)⟩
  | 4, _, h => exact (chk5 _ _ W (by have := h.code; rw [if_neg (by omega)] at this; exact this)).mono fun e w' ⟨he, hb⟩ => ⟨he, h.go hb (by simp)⟩
  | 5, _, h => exact (chk6 m _ W h.box hm' hf hU').mono fun e w' ⟨he, hb⟩ => ⟨he, h.go hb (by simp)⟩
  | 6, _, h => exact (chk7 m _ W h.box hm' hf).mono fun e w' ⟨he, hb⟩ => ⟨he, h.go hb (by simp)⟩
  | 7, _, h => exact (chk8 m _ W h.box hm' hf).mono fun e w' ⟨he, hb⟩ => ⟨he, h.go hb (by simp)⟩
  | 8, _, h => exact (chk9 m _ W h.box hm' hf).mono fun e w' ⟨he, hb⟩ => ⟨he, h.go hb (by simp)⟩
  | 9, _, h => exact (chk10 m _ W h.box hm' hf).mono fun e w' ⟨he, hb⟩ => ⟨he, h.go hb (by simp)⟩
  | 10, _, h => exact (chk11 m _ W h.box hm' hf).mono fun e w' ⟨he, hb⟩ => ⟨he, h.go hb (by simp)⟩
  | 11, _, h => exact (chk12 m _ W h.box hm' hf).mono fun e w' ⟨he, hb⟩ => ⟨he, h.go hb (by simp)⟩
  | 12, _, h => exact (chk13 m _ W h.box).mono fun e w' ⟨he, hb⟩ => ⟨he, h.go hb (by simp)⟩

set_option maxRecDepth 100000 in
set_option maxHeartbeats 2000000 in
theorem ModCheck_any (m : Md) (w : World) (hT : Nams w) (hU : Utf.Tabs w) (hm : ModAt w.heap.size w m) (hf : m.few) :
    Calls Tryz.prog 23 #[.agg m.v] w fun e w' => e = .returned (.int .i64 m.check) ∧ Below w.heap.size w w' := by
  have HS := hid (chk_step m w hT hU hm hf)
  have HE := hid (check_outs m)
  have HL := hid (show m.outs.length = 13 from rfl)
  have h0 : Chks w m 0 (((w.alloc (.cells m.v 32)).alloc (.cells #[.int .i64 0] 36)).alloc (.cells #[.func (.func 48) #[] #[.pointer (some ⟨w.heap.size, 0, none⟩)], .func (.func 51) #[] #[.pointer (some ⟨w.heap.size, 0, none⟩), .pointer (some ⟨w.heap.size + 1, 0, none⟩)], .func (.func 53) #[] #[.pointer (some ⟨w.heap.size, 0, none⟩)], .func (.func 56) #[] #[.pointer (some ⟨w.heap.size, 0, none⟩)], .func (.func 58) #[] #[.pointer (some ⟨w.heap.size + 1, 0, none⟩)], .func (.func 59) #[] #[.pointer (some ⟨w.heap.size, 0, none⟩)], .func (.func 61) #[] #[.pointer (some ⟨w.heap.size, 0, none⟩)], .func (.func 64) #[] #[.pointer (some ⟨w.heap.size, 0, none⟩)], .func (.func 67) #[] #[.pointer (some ⟨w.heap.size, 0, none⟩)], .func (.func 70) #[] #[.pointer (some ⟨w.heap.size, 0, none⟩)], .func (.func 73) #[] #[.pointer (some ⟨w.heap.size, 0, none⟩)], .func (.func 75) #[] #[.pointer (some ⟨w.heap.size, 0, none⟩)], .func (.func 76) #[] #[.pointer (some ⟨w.heap.size, 0, none⟩)]] 92)) := by
    refine ⟨thenA (thenA (thenA (Below.refl _ _) _) _) _, ?_, by simp [go_sem], by simp [go_sem], fun j hj => ?_⟩
    · exact (BoxAt.made w m.v _).keep (((Below.refl _ _).alloc (Nat.le_refl _) _).alloc (by simp) _)
    · match j, hj with
      | 0, _ | 1, _ | 2, _ | 3, _ | 4, _ | 5, _ | 6, _ | 7, _ | 8, _ | 9, _ | 10, _ | 11, _ | 12, _ => simp [go_sem, chkF, chkB]
  clear hT hU hm hf
  unfold Md.v at h0 ⊢
  go_enter Tryz.func23, Tryz.ntmps23
  go_wp2
  generalize (((w.alloc (.cells #[.slice m.ty'.a m.ty.length m.ty'.c, .slice m.im'.a m.im.length m.im'.c, .slice m.fu'.a m.fu.length m.fu'.c, .slice m.tb'.a m.tb.length m.tb'.c, .slice m.me'.a m.me.length m.me'.c, .slice m.gl'.a m.gl.length m.gl'.c, .slice m.ex'.a m.ex.length m.ex'.c, .bool m.st, .int .u32 m.sn, .slice m.el'.a m.el.length m.el'.c, .slice m.da'.a m.da.length m.da'.c] 32)).alloc (.cells #[.int .i64 0] 36)).alloc (.cells #[.func (.func 48) #[] #[.pointer (some ⟨w.heap.size, 0, none⟩)], .func (.func 51) #[] #[.pointer (some ⟨w.heap.size, 0, none⟩), .pointer (some ⟨w.heap.size + 1, 0, none⟩)], .func (.func 53) #[] #[.pointer (some ⟨w.heap.size, 0, none⟩)], .func (.func 56) #[] #[.pointer (some ⟨w.heap.size, 0, none⟩)], .func (.func 58) #[] #[.pointer (some ⟨w.heap.size + 1, 0, none⟩)], .func (.func 59) #[] #[.pointer (some ⟨w.heap.size, 0, none⟩)], .func (.func 61) #[] #[.pointer (some ⟨w.heap.size, 0, none⟩)], .func (.func 64) #[] #[.pointer (some ⟨w.heap.size, 0, none⟩)], .func (.func 67) #[] #[.pointer (some ⟨w.heap.size, 0, none⟩)], .func (.func 70) #[] #[.pointer (some ⟨w.heap.size, 0, none⟩)], .func (.func 73) #[] #[.pointer (some ⟨w.heap.size, 0, none⟩)], .func (.func 75) #[] #[.pointer (some ⟨w.heap.size, 0, none⟩)], .func (.func 76) #[] #[.pointer (some ⟨w.heap.size, 0, none⟩)]] 92)) = W0 at h0 ⊢
  have H0 := hid h0
  clear h0
  go_loopw [22] (fun vi wr => ∃ k : Nat, vi = .int .i64 k ∧ k ≤ 13 ∧ Hid (Chks w m k wr) ∧ Hid (∀ j (hj : j < m.outs.length), j < k → m.outs[j] = 0)) (fun vi _ => 13 - (intOf vi).toNat)
  case atStart => exact ⟨0, rfl, Nat.zero_le _, H0, fun j _ h => absurd h (Nat.not_lt_zero _)⟩
  case round =>
    obtain ⟨k, rfl, hk, HC, HA⟩ := hrel
    clear H0
    by_cases hlt : k < 13
    · have hkl : k < m.outs.length := by rw [HL.out]; exact hlt
      have eg := chk_enters k hlt
      have C := hid (HS.out k hlt wr HC.out)
      have hc : wr.cell? ⟨w.heap.size + 1 + 1, k, none⟩ = some (.func (.func (chkF k)) #[] (chkB w.heap.size k)) := HC.out.arr k hlt
      have HG := hid (show m.outs.getD k 0 = m.outs[k] by simp [hkl])
      obtain ⟨G, hG⟩ : ∃ G, chkF k = G := ⟨_, rfl⟩
      obtain ⟨L, hL⟩ : ∃ L, chkB w.heap.size k = L := ⟨_, rfl⟩
      obtain ⟨q, hq⟩ : ∃ q, m.outs.getD k 0 = q := ⟨_, rfl⟩
      rw [hG] at eg C hc
      rw [hL] at C hc
      rw [hq] at C HG
      clear hG hL hq
      have hki : (k : Int) < 13 := by omega
      by_cases h0 : q = 0
      · subst h0
        go_wp2_with (go_at_fn G; refine C.out.mono ?_; rintro e w1 ⟨rfl, hC1⟩)
        go_roundw
        case rel =>
          refine ⟨k + 1, by go_num, by omega, hC1, hid fun j hj hjk => ?_⟩
          by_cases e : j = k
          · subst e; exact HG.out.symm
          · exact HA.out j hj (by omega)
        case measure => simp [intOf]; omega
      · have HF := hid (show m.check = q by
          rw [HE.out, firstE_hit _ k hkl HA.out (by rw [← HG.out]; exact h0), ← HG.out])
        have hq1 : (q == 0) = false := by simpa using h0
        have hq2 : (q != 0) = true := by simpa using h0
        go_wp2_with (go_at_fn G; refine C.out.mono ?_; rintro e w1 ⟨rfl, hC1⟩)
        go_ret
        exact ⟨ret_int HF.out.symm, hC1.below⟩
    · obtain rfl : k = 13 := by omega
      have HF := hid (show m.check = 0 by
        rw [HE.out]; exact firstE_miss _ (fun j hj => HA.out j hj (by rw [HL.out] at hj; exact hj)))
      go_wp2
      go_ret
      exact ⟨ret_int HF.out.symm, HC.out.below⟩
end Go.Proofs.YtepbjkkakfpjgaaGreatDoor.Mod

namespace Go.Proofs.YtepbjkkakfpjgaaGreatDoor.Enc
open Go.RowKit Go.Proofs.YtepbjkkakfpjgaaGreatDoor.Leb Go.Proofs.YtepbjkkakfpjgaaGreatDoor.Instr Go.Proofs.YtepbjkkakfpjgaaGreatDoor.Mod
open Go.Proofs.YtepbjkkakfpjgaaGreatDoor.Body (encL codeL)

/-- Numbers as large as their types let them be. -/
structure Sized (m : Md) : Prop where
  n0 : ∀ l ∈ m.tb ++ m.me, 0 ≤ l.n
  ei : ∀ e ∈ m.ex, 0 ≤ e.i ∧ e.i < 4294967296
  ef : ∀ e ∈ m.el, ∀ z ∈ e.fs, 0 ≤ z ∧ z < 4294967296
  db : ∀ d ∈ m.da, ∀ z ∈ d.bs, 0 ≤ z ∧ z < 256
  sn : 0 ≤ m.sn ∧ m.sn < 4294967296
/-- A module that may be, in memory. -/
structure Fine (w0 : World) (m : Md) : Prop where
  at_ : ModAt w0.heap.size w0 m
  few : m.few
  nam : Nams w0
  tab : Utf.Tabs w0
  chk : m.check = 0
  enc : ∀ l ∈ m.codes, (encL l.t).length ≤ 90000
  siz : Sized m
theorem check_zero {m : Md} (h : m.check = 0) : m.crowded = false ∧ codeP m.codes = 0 ∧ m.anyName longS = false ∧ m.heavy = false ∧ m.wrong = false := by
  unfold Md.check at h
  cases h1 : m.crowded
  · rw [h1] at h
    simp only [Bool.false_eq_true, if_false] at h
    by_cases h2 : codeP m.codes = 141
    · rw [if_pos h2] at h; simp at h
    · rw [if_neg h2] at h
      cases h3 : m.anyName longS
      · rw [h3] at h
        simp only [Bool.false_eq_true, if_false] at h
        cases h4 : m.heavy
        · rw [h4] at h
          simp only [Bool.false_eq_true, if_false] at h
          by_cases h5 : codeP m.codes = 2
          · rw [if_pos h5] at h; simp at h
          · rw [if_neg h5] at h
            cases h6 : m.wrong
            · exact ⟨rfl, by have := codeP_cases m.codes; omega, rfl, rfl, rfl⟩
            · rw [h6] at h; simp at h
        · rw [h4] at h; simp at h
      · rw [h3] at h; simp at h
  · rw [h1] at h; simp at h
theorem wrong_parts {m : Md} (h : m.wrong = false) : m.anyName noText = false ∧ m.ty.any wrongT = false ∧ m.im.any wrongI = false ∧ m.fu.any wrongF = false ∧ m.ex.any wrongE = false ∧ m.tb.any (beyond 1048576) = false ∧ m.me.any (beyond 65536) = false ∧ (m.st = false → m.sn = 0) := by
  unfold Md.wrong at h
  simp only [Bool.or_eq_false_iff] at h
  obtain ⟨⟨⟨⟨⟨⟨⟨h1, h2⟩, h3⟩, h4⟩, h5⟩, h6⟩, h7⟩, h8⟩ := h
  refine ⟨h1, h2, h3, h4, h5, h6, h7, fun hs => ?_⟩
  rw [hs] at h8
  simpa using h8
theorem any_not {α : Type} {p : α → Bool} {l : List α} (h : l.any p = false) {x : α} (hx : x ∈ l) : p x = false := by
  rw [List.any_eq_false] at h
  simpa using h x hx
structure Fine.Facts (m : Md) : Prop where
  ty : ∀ x ∈ m.ty, Kind.okType x.1 x.2 = true
  im : ∀ x ∈ m.im, x.mo.size ≤ 1000 ∧ x.na.size ≤ 1000 ∧ noText x.mo = false ∧ noText x.na = false ∧ 0 ≤ x.ty ∧ x.ty ≤ 2147483647
  fu : ∀ x ∈ m.fu, 0 ≤ x.ty ∧ x.ty ≤ 2147483647 ∧ 0 ≤ x.lo ∧ x.lo ≤ 50000
  tb : ∀ x ∈ m.tb, Kind.okLim x.n x.x x.c 1048576 = true
  me : ∀ x ∈ m.me, Kind.okLim x.n x.x x.c 65536 = true
  ex : ∀ x ∈ m.ex, x.na.size ≤ 1000 ∧ noText x.na = false ∧ 0 ≤ x.k ∧ x.k ≤ 3
  el : ∀ x ∈ m.el, x.fs.length ≤ 16384
  da : sumB m.da ≤ 1048576
  ck : ∀ l ∈ m.codes, checkP l.t = 0
  lens : m.ty.length ≤ 16384 ∧ m.im.length ≤ 16384 ∧ m.fu.length ≤ 16384 ∧ m.tb.length ≤ 1 ∧ m.me.length ≤ 1 ∧ m.gl.length ≤ 16384 ∧ m.ex.length ≤ 16384 ∧ m.el.length ≤ 16384 ∧ m.da.length ≤ 16384
  st : m.st = false → m.sn = 0
theorem facts_of {m : Md} (h : m.check = 0) : Fine.Facts m := by
  obtain ⟨h1, h2, h3, h4, h5⟩ := check_zero h
  obtain ⟨k1, k2, k3, k4, k5, k6, k7, k8⟩ := wrong_parts h5
  have e3 := h3
  have e1 := k1
  unfold Md.anyName at e3 e1
  simp only [Bool.or_eq_false_iff] at e3 e1
  have hc := h1
  unfold Md.crowded at hc
  simp only [Bool.or_eq_false_iff, decide_eq_false_iff_not] at hc
  obtain ⟨⟨⟨⟨⟨⟨⟨⟨⟨c1, c2⟩, c3⟩, c4⟩, c5⟩, c6⟩, c7⟩, c8⟩, c9⟩, c10⟩ := hc
  refine ⟨fun x hx => ?_, fun x hx => ?_, fun x hx => ?_, fun x hx => ?_, fun x hx => ?_, fun x hx => ?_, fun x hx => ?_, ?_, (codeP_zero _).1 h2, ⟨by omega, by omega, by omega, by omega, by omega, by omega, by omega, by omega, by omega⟩, k8⟩
  · have := any_not k2 hx
    unfold wrongT at this
    simpa using this
  · have a1 := any_not e3.1 hx
    have a2 := any_not e1.1 hx
    have a3 := any_not k3 hx
    simp only [Bool.or_eq_false_iff] at a1 a2
    unfold wrongI wrongN at a3
    unfold longS at a1
    simp only [Bool.or_eq_false_iff, decide_eq_false_iff_not] at a1 a3
    exact ⟨by omega, by omega, a2.1, a2.2, by omega, by omega⟩
  · have a3 := any_not k4 hx
    unfold wrongF wrongN at a3
    simp only [Bool.or_eq_false_iff, decide_eq_false_iff_not] at a3
    exact ⟨by omega, by omega, by omega, by omega⟩
  · have := any_not k6 hx
    unfold beyond at this
    simpa using this
  · have := any_not k7 hx
    unfold beyond at this
    simpa using this
  · have a1 := any_not e3.2 hx
    have a2 := any_not e1.2 hx
    have a3 := any_not k5 hx
    unfold wrongE at a3
    unfold longS at a1
    simp only [Bool.or_eq_false_iff, decide_eq_false_iff_not] at a1 a3
    exact ⟨by omega, a2, by omega, by omega⟩
  · have := any_not c8 hx
    simpa using this
  · unfold Md.heavy at h4
    have := of_decide_eq_false h4
    omega
theorem bytes_few {l : List Da} {d : Da} (h : d ∈ l) : d.bs.length ≤ sumB l := by
  induction l with
  | nil => cases h
  | cons x r ih =>
    rcases List.mem_cons.1 h with rfl | h
    · simp [sumB]
    · have := ih h
      simp only [sumB]; omega
theorem okLim_le {n x most : Int} {c : Bool} (h : Kind.okLim n x c most = true) (h0 : 0 ≤ n) (hm : most ≤ 4294967295) : (0 ≤ n ∧ n ≤ 4294967295) ∧ (0 ≤ x ∧ x ≤ 4294967295) := by
  unfold Kind.okLim at h
  cases c
  · simp at h; omega
  · simp at h; omega
/-- The writer in block g: its buffer, the module, how much is of use. -/
structure Wr (w0 : World) (m : Md) (g B : Nat) (most : Int) (v : Value) (zs : List Int) (W : World) : Prop where
  buf : Buf g B v W v zs W
  low : Below w0.heap.size w0 W
  hg : w0.heap.size < g
  box : ∀ j x, m.v[j]? = some x → W.cell? ⟨g, 1 + j, none⟩ = some x
  most : W.cell? ⟨g, 12, none⟩ = some (.int .i64 most)
theorem mem_fu {m : Md} {x : Mod.Fn} (h : x ∈ m.fu) : x.l ∈ m.codes := by unfold Md.codes; exact List.mem_append_left _ (List.mem_map.2 ⟨_, h, rfl⟩)
theorem mem_gl {m : Md} {x : Gl} (h : x ∈ m.gl) : x.l ∈ m.codes := by unfold Md.codes; exact List.mem_append_right _ (List.mem_append_left _ (List.mem_map.2 ⟨_, h, rfl⟩))
theorem mem_el {m : Md} {x : El} (h : x ∈ m.el) : x.l ∈ m.codes := by unfold Md.codes; exact List.mem_append_right _ (List.mem_append_right _ (List.mem_append_left _ (List.mem_map.2 ⟨_, h, rfl⟩)))
theorem mem_da {m : Md} {x : Da} (h : x ∈ m.da) : x.l ∈ m.codes := by unfold Md.codes; exact List.mem_append_right _ (List.mem_append_right _ (List.mem_append_right _ (List.mem_map.2 ⟨_, h, rfl⟩)))
end Go.Proofs.YtepbjkkakfpjgaaGreatDoor.Enc
