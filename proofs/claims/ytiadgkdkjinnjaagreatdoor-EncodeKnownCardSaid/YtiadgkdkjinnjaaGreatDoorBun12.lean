import Derived.Test.YtiadgkdkjinnjaaGreatDoorBun11
import Derived.Deep.QuietTactic
import Derived.Shelf.Abstract
import Derived.BigQuiet
/-
  ENCODE: how many items a list has, and each of them, by contract, whatever is appended of an item (tools/gen_enclist.py).
-/
namespace Go.Proofs.YtiadgkdkjinnjaaGreatDoor.Enc
open Go.RowKit Go.Shelf Go.Proofs.YtiadgkdkjinnjaaGreatDoor.Leb Go.Proofs.YtiadgkdkjinnjaaGreatDoor.Instr Go.Proofs.YtiadgkdkjinnjaaGreatDoor.Mod

theorem flat_mono {α : Type} (f : α → List Int) (l : List α) (k : Nat) : ((l.take k).flatMap f).length ≤ (l.flatMap f).length := by
  have : l.flatMap f = (l.take k).flatMap f ++ (l.drop k).flatMap f := by rw [← List.flatMap_append, List.take_append_drop]
  rw [this, List.length_append]; omega
theorem drewnE {B : Nat} {a w : World} (h : Below B a w) (n : Nat) : Below B a (w.drewN n) := ⟨h.os, h.tape, h.output, h.size, h.block⟩
set_option maxRecDepth 100000 in
set_option maxHeartbeats 2000000 in
theorem list_ty (g B : Nat) (v : Value) (l : List (Int × Int)) (a : Option Addr) (n c : Nat) (most : Int) (w0 w : World) (h : Buf g B v w v [] w) (hB : Below w0.heap.size w0 w) (hg : w0.heap.size < g) (hmost : w.cell? ⟨g, 12, none⟩ = some (.int .i64 most))
    (hn : l.length = n) (hr : Mod.Rows w0.heap.size w0 a 2 (l.map tyV)) (hlen : n ≤ 16384) (K : Nat) (eg : ∀ args w, (callFunc K args).run Tryz.prog w = .ok (.enter K args) w) (f : Int × Int → List Int)
    (hp : ∀ (W : World) (v : Value) (xs : List Int) (x : Int × Int), x ∈ l → Below w0.heap.size w0 W → Buf g B v W v xs W → xs.length ≤ 1000000000 → Calls Tryz.prog K #[.pointer (some ⟨g, 0, none⟩), .agg #[.int .i64 x.1, .int .i64 x.2]] W (Puts g B v W (xs ++ f x)))
    (hfit : ∀ k, k < l.length → ((encU n ++ (l.take k).flatMap f).length : Int) ≤ most) (htot : (encU n ++ l.flatMap f).length ≤ 1000000000) :
    Calls Tryz.prog 158 #[.pointer (some ⟨g, 0, none⟩), .slice a n c, .func (.func K) #[.pointer (some ⟨g, 0, none⟩)] #[]] w (Puts g B v w (lstB f l)) := by
  have H := hid h
  have HG := hid hg
  have HB := hid hB
  have HR := hid hr
  have HN := hid hn
  have HP := hid hp
  have HF := hid hfit
  have HT := hid htot
  have HM := hid hmost
  have c0 := h.c
  have HK : Hid (lstB f l = if l.length = 0 then [] else encU l.length ++ l.flatMap f) := rfl
  clear h hg hB hr hn hp hfit htot hmost
  by_cases hz : n = 0
  · subst hz
    have HE := hid (show lstB f l = [] by rw [HK.out, if_pos HN.out])
    go_enter Tryz.func158, Tryz.ntmps158
    go_wp2
    refine bodyPost_ret (results_none rfl _ _ _) rfl ?_
    exact ⟨rfl, v, by rw [HE.out]; exact H.out⟩
  · have hni : ¬ (n : Int) = 0 := by omega
    have HE := hid (show lstB f l = encU n ++ l.flatMap f by rw [HK.out, if_neg (by rw [HN.out]; exact hz), HN.out])
    have hw := u32_id n (by omega) (by omega)
    have C := hid (number_any g B v [] n w H.out (by omega) (by omega) (by simp))
    rw [List.nil_append] at C
    obtain ⟨p, hp⟩ : ∃ p, encU n = p := ⟨_, rfl⟩
    rw [hp] at C HE HF HT
    clear hp HK
    go_enter Tryz.func158, Tryz.ntmps158
    go_wp2_with fail
    refine C.out.mono ?_
    rintro e1 w1 ⟨rfl, v1, hb⟩
    have HA1 := hid hb
    have HW1 := hid (hb.deep H.out.own HB.out HG.out)
    clear C hb c0 hw
    go_wp2
    go_loopw [20] (fun vi wr => ∃ (k : Nat) (v9 : Value), vi = .int .i64 k ∧ k ≤ n ∧ Hid (Buf g B v w v9 (p ++ (l.take k).flatMap f) wr) ∧ Hid (Below w0.heap.size w0 wr)) (fun vi _ => n - (intOf vi).toNat)
    case atStart => exact ⟨0, v1, rfl, Nat.zero_le _, hid (by simpa using HA1.out), HW1⟩
    case round =>
      clear HA1 HW1
      obtain ⟨k, v9, rfl, hk, HA, HW⟩ := hrel
      by_cases hlt : k < n
      · have hkl : k < l.length := by rw [HN.out]; exact hlt
        have hki : (k : Int) < (n : Int) := by omega
        obtain ⟨b, off, rfl, hb, hc⟩ := Mod.Rows.get HR.out hkl
        have HX := hid (List.getElem_mem hkl)
        have HST := hid (flat_step f hkl)
        have HLN := hid (show (p ++ (l.take k).flatMap f).length ≤ 1000000000 by have := HT.out; have := flat_mono f l k; rw [List.length_append] at *; omega)
        obtain ⟨x, hx⟩ : ∃ x, l[k] = x := ⟨_, rfl⟩
        rw [hx] at hc HX HST
        have c0 : wr.cell? ⟨b, off + k * 2, none⟩ = some (.int .i64 x.1) := (HW.out.cell (p := ⟨b, off + k * 2 + 0, none⟩) hb).trans (hc 0 (by omega) _ rfl)
        have c1 : wr.cell? ⟨b, off + k * 2 + 1, none⟩ = some (.int .i64 x.2) := (HW.out.cell (p := ⟨b, off + k * 2 + 1, none⟩) hb).trans (hc 1 (by omega) _ rfl)
        clear hc hx hb hkl
        go_wp2_with fail
        have C := hid (HP.out (wr.alloc (.cells #[.int .i64 x.1, .int .i64 x.2] 50)) v9 _ x HX.out (HW.out.trans (((Below.refl wr.heap.size wr).alloc (Nat.le_refl _) (.cells #[.int .i64 x.1, .int .i64 x.2] 50)).mono HW.out.size)) (HA.out.lit (.cells #[.int .i64 x.1, .int .i64 x.2] 50)).again HLN.out)
        refine C.out.mono ?_
        rintro e1 w2 ⟨rfl, v2, hb2⟩
        have HA2 := hid (show Buf g B v w v2 (p ++ (l.take (k + 1)).flatMap f) w2 by rw [HST.out, ← List.append_assoc]; exact (HA.out.lit (.cells #[.int .i64 x.1, .int .i64 x.2] 50)).trans hb2)
        have HW2 := hid (HA2.out.deep H.out.own HB.out HG.out)
        obtain ⟨N, hN⟩ : ∃ N, (p ++ (l.take (k + 1)).flatMap f).length = N := ⟨_, rfl⟩
        obtain ⟨a2, q2, rfl⟩ := HA2.out.own.sliceN hN
        have d0 := HA2.out.c
        have d1 := (HA2.out.rest 12 (by decide)).trans HM.out
        have HD := hid (show k + 1 < n → (N : Int) ≤ most from fun h => by have := HF.out (k + 1) (by rw [HN.out]; exact h); rw [hN] at this; exact this)
        clear C hb2 hN HA HW HX HST HLN c0 c1
        by_cases hgt : most < (N : Int)
        · have hkn : k + 1 = n := by have := HD.out; omega
          have HQ := hid (show l.take (k + 1) = l from List.take_of_length_le (by rw [HN.out]; omega))
          have HZ := hid (fun (m : Nat) => show Buf g B v w (.slice a2 N q2) (lstB f l) (w2.drewN m) from by have := HA2.out.on (drewnE (Below.refl w2.heap.size w2) m); rw [HQ.out, ← HE.out] at this; exact this)
          go_wp2
          go_quiet (fail)
          go_wp2
          refine bodyPost_ret (results_none rfl _ _ _) rfl ?_
          exact ⟨rfl, _, HZ.out _⟩
        · skip
          go_wp2
          go_quiet (fail)
          go_wp2
          go_roundw
          case rel => exact ⟨k + 1, _, by go_num, by omega, hid (HA2.out.on (drewnE (Below.refl w2.heap.size w2) _)), drewnE HW2.out _⟩
          case measure => simp [intOf]; omega
      · obtain rfl : k = n := by omega
        have HQ := hid (show l.take k = l from List.take_of_length_le (by rw [HN.out]; exact Nat.le_refl _))
        go_wp2
        go_end0
        exact ⟨rfl, v9, by have := HA.out; rw [HQ.out, ← HE.out] at this; exact this⟩
set_option maxRecDepth 100000 in
set_option maxHeartbeats 2000000 in
theorem list_im (g B : Nat) (v : Value) (l : List (Imp)) (a : Option Addr) (n c : Nat) (most : Int) (w0 w : World) (h : Buf g B v w v [] w) (hB : Below w0.heap.size w0 w) (hg : w0.heap.size < g) (hmost : w.cell? ⟨g, 12, none⟩ = some (.int .i64 most))
    (hn : l.length = n) (hr : Mod.Rows w0.heap.size w0 a 3 (l.map Imp.v)) (hlen : n ≤ 16384) (K : Nat) (eg : ∀ args w, (callFunc K args).run Tryz.prog w = .ok (.enter K args) w) (f : Imp → List Int)
    (hp : ∀ (W : World) (v : Value) (xs : List Int) (x : Imp), x ∈ l → Below w0.heap.size w0 W → Buf g B v W v xs W → xs.length ≤ 1000000000 → Calls Tryz.prog K #[.pointer (some ⟨g, 0, none⟩), .agg #[.string x.mo, .string x.na, .int .i64 x.ty]] W (Puts g B v W (xs ++ f x)))
    (hfit : ∀ k, k < l.length → ((encU n ++ (l.take k).flatMap f).length : Int) ≤ most) (htot : (encU n ++ l.flatMap f).length ≤ 1000000000) :
    Calls Tryz.prog 160 #[.pointer (some ⟨g, 0, none⟩), .slice a n c, .func (.func K) #[.pointer (some ⟨g, 0, none⟩)] #[]] w (Puts g B v w (lstB f l)) := by
  have H := hid h
  have HG := hid hg
  have HB := hid hB
  have HR := hid hr
  have HN := hid hn
  have HP := hid hp
  have HF := hid hfit
  have HT := hid htot
  have HM := hid hmost
  have c0 := h.c
  have HK : Hid (lstB f l = if l.length = 0 then [] else encU l.length ++ l.flatMap f) := rfl
  clear h hg hB hr hn hp hfit htot hmost
  by_cases hz : n = 0
  · subst hz
    have HE := hid (show lstB f l = [] by rw [HK.out, if_pos HN.out])
    go_enter Tryz.func160, Tryz.ntmps160
    go_wp2
    refine bodyPost_ret (results_none rfl _ _ _) rfl ?_
    exact ⟨rfl, v, by rw [HE.out]; exact H.out⟩
  · have hni : ¬ (n : Int) = 0 := by omega
    have HE := hid (show lstB f l = encU n ++ l.flatMap f by rw [HK.out, if_neg (by rw [HN.out]; exact hz), HN.out])
    have hw := u32_id n (by omega) (by omega)
    have C := hid (number_any g B v [] n w H.out (by omega) (by omega) (by simp))
    rw [List.nil_append] at C
    obtain ⟨p, hp⟩ : ∃ p, encU n = p := ⟨_, rfl⟩
    rw [hp] at C HE HF HT
    clear hp HK
    go_enter Tryz.func160, Tryz.ntmps160
    go_wp2_with fail
    refine C.out.mono ?_
    rintro e1 w1 ⟨rfl, v1, hb⟩
    have HA1 := hid hb
    have HW1 := hid (hb.deep H.out.own HB.out HG.out)
    clear C hb c0 hw
    go_wp2
    go_loopw [20] (fun vi wr => ∃ (k : Nat) (v9 : Value), vi = .int .i64 k ∧ k ≤ n ∧ Hid (Buf g B v w v9 (p ++ (l.take k).flatMap f) wr) ∧ Hid (Below w0.heap.size w0 wr)) (fun vi _ => n - (intOf vi).toNat)
    case atStart => exact ⟨0, v1, rfl, Nat.zero_le _, hid (by simpa using HA1.out), HW1⟩
    case round =>
      clear HA1 HW1
      obtain ⟨k, v9, rfl, hk, HA, HW⟩ := hrel
      by_cases hlt : k < n
      · have hkl : k < l.length := by rw [HN.out]; exact hlt
        have hki : (k : Int) < (n : Int) := by omega
        obtain ⟨b, off, rfl, hb, hc⟩ := Mod.Rows.get HR.out hkl
        have HX := hid (List.getElem_mem hkl)
        have HST := hid (flat_step f hkl)
        have HLN := hid (show (p ++ (l.take k).flatMap f).length ≤ 1000000000 by have := HT.out; have := flat_mono f l k; rw [List.length_append] at *; omega)
        obtain ⟨x, hx⟩ : ∃ x, l[k] = x := ⟨_, rfl⟩
        rw [hx] at hc HX HST
        have c0 : wr.cell? ⟨b, off + k * 3, none⟩ = some (.string x.mo) := (HW.out.cell (p := ⟨b, off + k * 3 + 0, none⟩) hb).trans (hc 0 (by omega) _ rfl)
        have c1 : wr.cell? ⟨b, off + k * 3 + 1, none⟩ = some (.string x.na) := (HW.out.cell (p := ⟨b, off + k * 3 + 1, none⟩) hb).trans (hc 1 (by omega) _ rfl)
        have c2 : wr.cell? ⟨b, off + k * 3 + 2, none⟩ = some (.int .i64 x.ty) := (HW.out.cell (p := ⟨b, off + k * 3 + 2, none⟩) hb).trans (hc 2 (by omega) _ rfl)
        clear hc hx hb hkl
        go_wp2_with fail
        have C := hid (HP.out (wr.alloc (.cells #[.string x.mo, .string x.na, .int .i64 x.ty] 70)) v9 _ x HX.out (HW.out.trans (((Below.refl wr.heap.size wr).alloc (Nat.le_refl _) (.cells #[.string x.mo, .string x.na, .int .i64 x.ty] 70)).mono HW.out.size)) (HA.out.lit (.cells #[.string x.mo, .string x.na, .int .i64 x.ty] 70)).again HLN.out)
        refine C.out.mono ?_
        rintro e1 w2 ⟨rfl, v2, hb2⟩
        have HA2 := hid (show Buf g B v w v2 (p ++ (l.take (k + 1)).flatMap f) w2 by rw [HST.out, ← List.append_assoc]; exact (HA.out.lit (.cells #[.string x.mo, .string x.na, .int .i64 x.ty] 70)).trans hb2)
        have HW2 := hid (HA2.out.deep H.out.own HB.out HG.out)
        obtain ⟨N, hN⟩ : ∃ N, (p ++ (l.take (k + 1)).flatMap f).length = N := ⟨_, rfl⟩
        obtain ⟨a2, q2, rfl⟩ := HA2.out.own.sliceN hN
        have d0 := HA2.out.c
        have d1 := (HA2.out.rest 12 (by decide)).trans HM.out
        have HD := hid (show k + 1 < n → (N : Int) ≤ most from fun h => by have := HF.out (k + 1) (by rw [HN.out]; exact h); rw [hN] at this; exact this)
        clear C hb2 hN HA HW HX HST HLN c0 c1 c2
        by_cases hgt : most < (N : Int)
        · have hkn : k + 1 = n := by have := HD.out; omega
          have HQ := hid (show l.take (k + 1) = l from List.take_of_length_le (by rw [HN.out]; omega))
          have HZ := hid (fun (m : Nat) => show Buf g B v w (.slice a2 N q2) (lstB f l) (w2.drewN m) from by have := HA2.out.on (drewnE (Below.refl w2.heap.size w2) m); rw [HQ.out, ← HE.out] at this; exact this)
          go_wp2
          go_quiet (fail)
          go_wp2
          refine bodyPost_ret (results_none rfl _ _ _) rfl ?_
          exact ⟨rfl, _, HZ.out _⟩
        · skip
          go_wp2
          go_quiet (fail)
          go_wp2
          go_roundw
          case rel => exact ⟨k + 1, _, by go_num, by omega, hid (HA2.out.on (drewnE (Below.refl w2.heap.size w2) _)), drewnE HW2.out _⟩
          case measure => simp [intOf]; omega
      · obtain rfl : k = n := by omega
        have HQ := hid (show l.take k = l from List.take_of_length_le (by rw [HN.out]; exact Nat.le_refl _))
        go_wp2
        go_end0
        exact ⟨rfl, v9, by have := HA.out; rw [HQ.out, ← HE.out] at this; exact this⟩
set_option maxRecDepth 100000 in
set_option maxHeartbeats 2000000 in
theorem list_fu (g B : Nat) (v : Value) (l : List (Mod.Fn)) (a : Option Addr) (n c : Nat) (most : Int) (w0 w : World) (h : Buf g B v w v [] w) (hB : Below w0.heap.size w0 w) (hg : w0.heap.size < g) (hmost : w.cell? ⟨g, 12, none⟩ = some (.int .i64 most))
    (hn : l.length = n) (hr : Mod.Rows w0.heap.size w0 a 3 (l.map Mod.Fn.v)) (hlen : n ≤ 16384) (K : Nat) (eg : ∀ args w, (callFunc K args).run Tryz.prog w = .ok (.enter K args) w) (f : Mod.Fn → List Int)
    (hp : ∀ (W : World) (v : Value) (xs : List Int) (x : Mod.Fn), x ∈ l → Below w0.heap.size w0 W → Buf g B v W v xs W → xs.length ≤ 1000000000 → Calls Tryz.prog K #[.pointer (some ⟨g, 0, none⟩), .agg #[.int .i64 x.ty, .int .i64 x.lo, .slice x.l.a x.l.t.len x.l.c]] W (Puts g B v W (xs ++ f x)))
    (hfit : ∀ k, k < l.length → ((encU n ++ (l.take k).flatMap f).length : Int) ≤ most) (htot : (encU n ++ l.flatMap f).length ≤ 1000000000) :
    Calls Tryz.prog 162 #[.pointer (some ⟨g, 0, none⟩), .slice a n c, .func (.func K) #[.pointer (some ⟨g, 0, none⟩)] #[]] w (Puts g B v w (lstB f l)) := by
  have H := hid h
  have HG := hid hg
  have HB := hid hB
  have HR := hid hr
  have HN := hid hn
  have HP := hid hp
  have HF := hid hfit
  have HT := hid htot
  have HM := hid hmost
  have c0 := h.c
  have HK : Hid (lstB f l = if l.length = 0 then [] else encU l.length ++ l.flatMap f) := rfl
  clear h hg hB hr hn hp hfit htot hmost
  by_cases hz : n = 0
  · subst hz
    have HE := hid (show lstB f l = [] by rw [HK.out, if_pos HN.out])
    go_enter Tryz.func162, Tryz.ntmps162
    go_wp2
    refine bodyPost_ret (results_none rfl _ _ _) rfl ?_
    exact ⟨rfl, v, by rw [HE.out]; exact H.out⟩
  · have hni : ¬ (n : Int) = 0 := by omega
    have HE := hid (show lstB f l = encU n ++ l.flatMap f by rw [HK.out, if_neg (by rw [HN.out]; exact hz), HN.out])
    have hw := u32_id n (by omega) (by omega)
    have C := hid (number_any g B v [] n w H.out (by omega) (by omega) (by simp))
    rw [List.nil_append] at C
    obtain ⟨p, hp⟩ : ∃ p, encU n = p := ⟨_, rfl⟩
    rw [hp] at C HE HF HT
    clear hp HK
    go_enter Tryz.func162, Tryz.ntmps162
    go_wp2_with fail
    refine C.out.mono ?_
    rintro e1 w1 ⟨rfl, v1, hb⟩
    have HA1 := hid hb
    have HW1 := hid (hb.deep H.out.own HB.out HG.out)
    clear C hb c0 hw
    go_wp2
    go_loopw [20] (fun vi wr => ∃ (k : Nat) (v9 : Value), vi = .int .i64 k ∧ k ≤ n ∧ Hid (Buf g B v w v9 (p ++ (l.take k).flatMap f) wr) ∧ Hid (Below w0.heap.size w0 wr)) (fun vi _ => n - (intOf vi).toNat)
    case atStart => exact ⟨0, v1, rfl, Nat.zero_le _, hid (by simpa using HA1.out), HW1⟩
    case round =>
      clear HA1 HW1
      obtain ⟨k, v9, rfl, hk, HA, HW⟩ := hrel
      by_cases hlt : k < n
      · have hkl : k < l.length := by rw [HN.out]; exact hlt
        have hki : (k : Int) < (n : Int) := by omega
        obtain ⟨b, off, rfl, hb, hc⟩ := Mod.Rows.get HR.out hkl
        have HX := hid (List.getElem_mem hkl)
        have HST := hid (flat_step f hkl)
        have HLN := hid (show (p ++ (l.take k).flatMap f).length ≤ 1000000000 by have := HT.out; have := flat_mono f l k; rw [List.length_append] at *; omega)
        obtain ⟨x, hx⟩ : ∃ x, l[k] = x := ⟨_, rfl⟩
        rw [hx] at hc HX HST
        have c0 : wr.cell? ⟨b, off + k * 3, none⟩ = some (.int .i64 x.ty) := (HW.out.cell (p := ⟨b, off + k * 3 + 0, none⟩) hb).trans (hc 0 (by omega) _ rfl)
        have c1 : wr.cell? ⟨b, off + k * 3 + 1, none⟩ = some (.int .i64 x.lo) := (HW.out.cell (p := ⟨b, off + k * 3 + 1, none⟩) hb).trans (hc 1 (by omega) _ rfl)
        have c2 : wr.cell? ⟨b, off + k * 3 + 2, none⟩ = some (.slice x.l.a x.l.t.len x.l.c) := (HW.out.cell (p := ⟨b, off + k * 3 + 2, none⟩) hb).trans (hc 2 (by omega) _ rfl)
        clear hc hx hb hkl
        go_wp2_with fail
        have C := hid (HP.out (wr.alloc (.cells #[.int .i64 x.ty, .int .i64 x.lo, .slice x.l.a x.l.t.len x.l.c] 63)) v9 _ x HX.out (HW.out.trans (((Below.refl wr.heap.size wr).alloc (Nat.le_refl _) (.cells #[.int .i64 x.ty, .int .i64 x.lo, .slice x.l.a x.l.t.len x.l.c] 63)).mono HW.out.size)) (HA.out.lit (.cells #[.int .i64 x.ty, .int .i64 x.lo, .slice x.l.a x.l.t.len x.l.c] 63)).again HLN.out)
        refine C.out.mono ?_
        rintro e1 w2 ⟨rfl, v2, hb2⟩
        have HA2 := hid (show Buf g B v w v2 (p ++ (l.take (k + 1)).flatMap f) w2 by rw [HST.out, ← List.append_assoc]; exact (HA.out.lit (.cells #[.int .i64 x.ty, .int .i64 x.lo, .slice x.l.a x.l.t.len x.l.c] 63)).trans hb2)
        have HW2 := hid (HA2.out.deep H.out.own HB.out HG.out)
        obtain ⟨N, hN⟩ : ∃ N, (p ++ (l.take (k + 1)).flatMap f).length = N := ⟨_, rfl⟩
        obtain ⟨a2, q2, rfl⟩ := HA2.out.own.sliceN hN
        have d0 := HA2.out.c
        have d1 := (HA2.out.rest 12 (by decide)).trans HM.out
        have HD := hid (show k + 1 < n → (N : Int) ≤ most from fun h => by have := HF.out (k + 1) (by rw [HN.out]; exact h); rw [hN] at this; exact this)
        clear C hb2 hN HA HW HX HST HLN c0 c1 c2
        by_cases hgt : most < (N : Int)
        · have hkn : k + 1 = n := by have := HD.out; omega
          have HQ := hid (show l.take (k + 1) = l from List.take_of_length_le (by rw [HN.out]; omega))
          have HZ := hid (fun (m : Nat) => show Buf g B v w (.slice a2 N q2) (lstB f l) (w2.drewN m) from by have := HA2.out.on (drewnE (Below.refl w2.heap.size w2) m); rw [HQ.out, ← HE.out] at this; exact this)
          go_wp2
          go_quiet (fail)
          go_wp2
          refine bodyPost_ret (results_none rfl _ _ _) rfl ?_
          exact ⟨rfl, _, HZ.out _⟩
        · skip
          go_wp2
          go_quiet (fail)
          go_wp2
          go_roundw
          case rel => exact ⟨k + 1, _, by go_num, by omega, hid (HA2.out.on (drewnE (Below.refl w2.heap.size w2) _)), drewnE HW2.out _⟩
          case measure => simp [intOf]; omega
      · obtain rfl : k = n := by omega
        have HQ := hid (show l.take k = l from List.take_of_length_le (by rw [HN.out]; exact Nat.le_refl _))
        go_wp2
        go_end0
        exact ⟨rfl, v9, by have := HA.out; rw [HQ.out, ← HE.out] at this; exact this⟩
set_option maxRecDepth 100000 in
set_option maxHeartbeats 2000000 in
theorem list_li (g B : Nat) (v : Value) (l : List (Li)) (a : Option Addr) (n c : Nat) (most : Int) (w0 w : World) (h : Buf g B v w v [] w) (hB : Below w0.heap.size w0 w) (hg : w0.heap.size < g) (hmost : w.cell? ⟨g, 12, none⟩ = some (.int .i64 most))
    (hn : l.length = n) (hr : Mod.Rows w0.heap.size w0 a 3 (l.map Li.v)) (hlen : n ≤ 16384) (K : Nat) (eg : ∀ args w, (callFunc K args).run Tryz.prog w = .ok (.enter K args) w) (f : Li → List Int)
    (hp : ∀ (W : World) (v : Value) (xs : List Int) (x : Li), x ∈ l → Below w0.heap.size w0 W → Buf g B v W v xs W → xs.length ≤ 1000000000 → Calls Tryz.prog K #[.pointer (some ⟨g, 0, none⟩), .agg #[.int .u32 x.n, .int .u32 x.x, .bool x.c]] W (Puts g B v W (xs ++ f x)))
    (hfit : ∀ k, k < l.length → ((encU n ++ (l.take k).flatMap f).length : Int) ≤ most) (htot : (encU n ++ l.flatMap f).length ≤ 1000000000) :
    Calls Tryz.prog 164 #[.pointer (some ⟨g, 0, none⟩), .slice a n c, .func (.func K) #[.pointer (some ⟨g, 0, none⟩)] #[]] w (Puts g B v w (lstB f l)) := by
  have H := hid h
  have HG := hid hg
  have HB := hid hB
  have HR := hid hr
  have HN := hid hn
  have HP := hid hp
  have HF := hid hfit
  have HT := hid htot
  have HM := hid hmost
  have c0 := h.c
  have HK : Hid (lstB f l = if l.length = 0 then [] else encU l.length ++ l.flatMap f) := rfl
  clear h hg hB hr hn hp hfit htot hmost
  by_cases hz : n = 0
  · subst hz
    have HE := hid (show lstB f l = [] by rw [HK.out, if_pos HN.out])
    go_enter Tryz.func164, Tryz.ntmps164
    go_wp2
    refine bodyPost_ret (results_none rfl _ _ _) rfl ?_
    exact ⟨rfl, v, by rw [HE.out]; exact H.out⟩
  · have hni : ¬ (n : Int) = 0 := by omega
    have HE := hid (show lstB f l = encU n ++ l.flatMap f by rw [HK.out, if_neg (by rw [HN.out]; exact hz), HN.out])
    have hw := u32_id n (by omega) (by omega)
    have C := hid (number_any g B v [] n w H.out (by omega) (by omega) (by simp))
    rw [List.nil_append] at C
    obtain ⟨p, hp⟩ : ∃ p, encU n = p := ⟨_, rfl⟩
    rw [hp] at C HE HF HT
    clear hp HK
    go_enter Tryz.func164, Tryz.ntmps164
    go_wp2_with fail
    refine C.out.mono ?_
    rintro e1 w1 ⟨rfl, v1, hb⟩
    have HA1 := hid hb
    have HW1 := hid (hb.deep H.out.own HB.out HG.out)
    clear C hb c0 hw
    go_wp2
    go_loopw [20] (fun vi wr => ∃ (k : Nat) (v9 : Value), vi = .int .i64 k ∧ k ≤ n ∧ Hid (Buf g B v w v9 (p ++ (l.take k).flatMap f) wr) ∧ Hid (Below w0.heap.size w0 wr)) (fun vi _ => n - (intOf vi).toNat)
    case atStart => exact ⟨0, v1, rfl, Nat.zero_le _, hid (by simpa using HA1.out), HW1⟩
    case round =>
      clear HA1 HW1
      obtain ⟨k, v9, rfl, hk, HA, HW⟩ := hrel
      by_cases hlt : k < n
      · have hkl : k < l.length := by rw [HN.out]; exact hlt
        have hki : (k : Int) < (n : Int) := by omega
        obtain ⟨b, off, rfl, hb, hc⟩ := Mod.Rows.get HR.out hkl
        have HX := hid (List.getElem_mem hkl)
        have HST := hid (flat_step f hkl)
        have HLN := hid (show (p ++ (l.take k).flatMap f).length ≤ 1000000000 by have := HT.out; have := flat_mono f l k; rw [List.length_append] at *; omega)
        obtain ⟨x, hx⟩ : ∃ x, l[k] = x := ⟨_, rfl⟩
        rw [hx] at hc HX HST
        have c0 : wr.cell? ⟨b, off + k * 3, none⟩ = some (.int .u32 x.n) := (HW.out.cell (p := ⟨b, off + k * 3 + 0, none⟩) hb).trans (hc 0 (by omega) _ rfl)
        have c1 : wr.cell? ⟨b, off + k * 3 + 1, none⟩ = some (.int .u32 x.x) := (HW.out.cell (p := ⟨b, off + k * 3 + 1, none⟩) hb).trans (hc 1 (by omega) _ rfl)
        have c2 : wr.cell? ⟨b, off + k * 3 + 2, none⟩ = some (.bool x.c) := (HW.out.cell (p := ⟨b, off + k * 3 + 2, none⟩) hb).trans (hc 2 (by omega) _ rfl)
        clear hc hx hb hkl
        go_wp2_with fail
        have C := hid (HP.out (wr.alloc (.cells #[.int .u32 x.n, .int .u32 x.x, .bool x.c] 85)) v9 _ x HX.out (HW.out.trans (((Below.refl wr.heap.size wr).alloc (Nat.le_refl _) (.cells #[.int .u32 x.n, .int .u32 x.x, .bool x.c] 85)).mono HW.out.size)) (HA.out.lit (.cells #[.int .u32 x.n, .int .u32 x.x, .bool x.c] 85)).again HLN.out)
        refine C.out.mono ?_
        rintro e1 w2 ⟨rfl, v2, hb2⟩
        have HA2 := hid (show Buf g B v w v2 (p ++ (l.take (k + 1)).flatMap f) w2 by rw [HST.out, ← List.append_assoc]; exact (HA.out.lit (.cells #[.int .u32 x.n, .int .u32 x.x, .bool x.c] 85)).trans hb2)
        have HW2 := hid (HA2.out.deep H.out.own HB.out HG.out)
        obtain ⟨N, hN⟩ : ∃ N, (p ++ (l.take (k + 1)).flatMap f).length = N := ⟨_, rfl⟩
        obtain ⟨a2, q2, rfl⟩ := HA2.out.own.sliceN hN
        have d0 := HA2.out.c
        have d1 := (HA2.out.rest 12 (by decide)).trans HM.out
        have HD := hid (show k + 1 < n → (N : Int) ≤ most from fun h => by have := HF.out (k + 1) (by rw [HN.out]; exact h); rw [hN] at this; exact this)
        clear C hb2 hN HA HW HX HST HLN c0 c1 c2
        by_cases hgt : most < (N : Int)
        · have hkn : k + 1 = n := by have := HD.out; omega
          have HQ := hid (show l.take (k + 1) = l from List.take_of_length_le (by rw [HN.out]; omega))
          have HZ := hid (fun (m : Nat) => show Buf g B v w (.slice a2 N q2) (lstB f l) (w2.drewN m) from by have := HA2.out.on (drewnE (Below.refl w2.heap.size w2) m); rw [HQ.out, ← HE.out] at this; exact this)
          go_wp2
          go_quiet (fail)
          go_wp2
          refine bodyPost_ret (results_none rfl _ _ _) rfl ?_
          exact ⟨rfl, _, HZ.out _⟩
        · skip
          go_wp2
          go_quiet (fail)
          go_wp2
          go_roundw
          case rel => exact ⟨k + 1, _, by go_num, by omega, hid (HA2.out.on (drewnE (Below.refl w2.heap.size w2) _)), drewnE HW2.out _⟩
          case measure => simp [intOf]; omega
      · obtain rfl : k = n := by omega
        have HQ := hid (show l.take k = l from List.take_of_length_le (by rw [HN.out]; exact Nat.le_refl _))
        go_wp2
        go_end0
        exact ⟨rfl, v9, by have := HA.out; rw [HQ.out, ← HE.out] at this; exact this⟩
set_option maxRecDepth 100000 in
set_option maxHeartbeats 2000000 in
theorem list_gl (g B : Nat) (v : Value) (l : List (Gl)) (a : Option Addr) (n c : Nat) (most : Int) (w0 w : World) (h : Buf g B v w v [] w) (hB : Below w0.heap.size w0 w) (hg : w0.heap.size < g) (hmost : w.cell? ⟨g, 12, none⟩ = some (.int .i64 most))
    (hn : l.length = n) (hr : Mod.Rows w0.heap.size w0 a 2 (l.map Gl.v)) (hlen : n ≤ 16384) (K : Nat) (eg : ∀ args w, (callFunc K args).run Tryz.prog w = .ok (.enter K args) w) (f : Gl → List Int)
    (hp : ∀ (W : World) (v : Value) (xs : List Int) (x : Gl), x ∈ l → Below w0.heap.size w0 W → Buf g B v W v xs W → xs.length ≤ 1000000000 → Calls Tryz.prog K #[.pointer (some ⟨g, 0, none⟩), .agg #[.bool x.mu, .slice x.l.a x.l.t.len x.l.c]] W (Puts g B v W (xs ++ f x)))
    (hfit : ∀ k, k < l.length → ((encU n ++ (l.take k).flatMap f).length : Int) ≤ most) (htot : (encU n ++ l.flatMap f).length ≤ 1000000000) :
    Calls Tryz.prog 167 #[.pointer (some ⟨g, 0, none⟩), .slice a n c, .func (.func K) #[.pointer (some ⟨g, 0, none⟩)] #[]] w (Puts g B v w (lstB f l)) := by
  have H := hid h
  have HG := hid hg
  have HB := hid hB
  have HR := hid hr
  have HN := hid hn
  have HP := hid hp
  have HF := hid hfit
  have HT := hid htot
  have HM := hid hmost
  have c0 := h.c
  have HK : Hid (lstB f l = if l.length = 0 then [] else encU l.length ++ l.flatMap f) := rfl
  clear h hg hB hr hn hp hfit htot hmost
  by_cases hz : n = 0
  · subst hz
    have HE := hid (show lstB f l = [] by rw [HK.out, if_pos HN.out])
    go_enter Tryz.func167, Tryz.ntmps167
    go_wp2
    refine bodyPost_ret (results_none rfl _ _ _) rfl ?_
    exact ⟨rfl, v, by rw [HE.out]; exact H.out⟩
  · have hni : ¬ (n : Int) = 0 := by omega
    have HE := hid (show lstB f l = encU n ++ l.flatMap f by rw [HK.out, if_neg (by rw [HN.out]; exact hz), HN.out])
    have hw := u32_id n (by omega) (by omega)
    have C := hid (number_any g B v [] n w H.out (by omega) (by omega) (by simp))
    rw [List.nil_append] at C
    obtain ⟨p, hp⟩ : ∃ p, encU n = p := ⟨_, rfl⟩
    rw [hp] at C HE HF HT
    clear hp HK
    go_enter Tryz.func167, Tryz.ntmps167
    go_wp2_with fail
    refine C.out.mono ?_
    rintro e1 w1 ⟨rfl, v1, hb⟩
    have HA1 := hid hb
    have HW1 := hid (hb.deep H.out.own HB.out HG.out)
    clear C hb c0 hw
    go_wp2
    go_loopw [20] (fun vi wr => ∃ (k : Nat) (v9 : Value), vi = .int .i64 k ∧ k ≤ n ∧ Hid (Buf g B v w v9 (p ++ (l.take k).flatMap f) wr) ∧ Hid (Below w0.heap.size w0 wr)) (fun vi _ => n - (intOf vi).toNat)
    case atStart => exact ⟨0, v1, rfl, Nat.zero_le _, hid (by simpa using HA1.out), HW1⟩
    case round =>
      clear HA1 HW1
      obtain ⟨k, v9, rfl, hk, HA, HW⟩ := hrel
      by_cases hlt : k < n
      · have hkl : k < l.length := by rw [HN.out]; exact hlt
        have hki : (k : Int) < (n : Int) := by omega
        obtain ⟨b, off, rfl, hb, hc⟩ := Mod.Rows.get HR.out hkl
        have HX := hid (List.getElem_mem hkl)
        have HST := hid (flat_step f hkl)
        have HLN := hid (show (p ++ (l.take k).flatMap f).length ≤ 1000000000 by have := HT.out; have := flat_mono f l k; rw [List.length_append] at *; omega)
        obtain ⟨x, hx⟩ : ∃ x, l[k] = x := ⟨_, rfl⟩
        rw [hx] at hc HX HST
        have c0 : wr.cell? ⟨b, off + k * 2, none⟩ = some (.bool x.mu) := (HW.out.cell (p := ⟨b, off + k * 2 + 0, none⟩) hb).trans (hc 0 (by omega) _ rfl)
        have c1 : wr.cell? ⟨b, off + k * 2 + 1, none⟩ = some (.slice x.l.a x.l.t.len x.l.c) := (HW.out.cell (p := ⟨b, off + k * 2 + 1, none⟩) hb).trans (hc 1 (by omega) _ rfl)
        clear hc hx hb hkl
        go_wp2_with fail
        have C := hid (HP.out (wr.alloc (.cells #[.bool x.mu, .slice x.l.a x.l.t.len x.l.c] 65)) v9 _ x HX.out (HW.out.trans (((Below.refl wr.heap.size wr).alloc (Nat.le_refl _) (.cells #[.bool x.mu, .slice x.l.a x.l.t.len x.l.c] 65)).mono HW.out.size)) (HA.out.lit (.cells #[.bool x.mu, .slice x.l.a x.l.t.len x.l.c] 65)).again HLN.out)
        refine C.out.mono ?_
        rintro e1 w2 ⟨rfl, v2, hb2⟩
        have HA2 := hid (show Buf g B v w v2 (p ++ (l.take (k + 1)).flatMap f) w2 by rw [HST.out, ← List.append_assoc]; exact (HA.out.lit (.cells #[.bool x.mu, .slice x.l.a x.l.t.len x.l.c] 65)).trans hb2)
        have HW2 := hid (HA2.out.deep H.out.own HB.out HG.out)
        obtain ⟨N, hN⟩ : ∃ N, (p ++ (l.take (k + 1)).flatMap f).length = N := ⟨_, rfl⟩
        obtain ⟨a2, q2, rfl⟩ := HA2.out.own.sliceN hN
        have d0 := HA2.out.c
        have d1 := (HA2.out.rest 12 (by decide)).trans HM.out
        have HD := hid (show k + 1 < n → (N : Int) ≤ most from fun h => by have := HF.out (k + 1) (by rw [HN.out]; exact h); rw [hN] at this; exact this)
        clear C hb2 hN HA HW HX HST HLN c0 c1
        by_cases hgt : most < (N : Int)
        · have hkn : k + 1 = n := by have := HD.out; omega
          have HQ := hid (show l.take (k + 1) = l from List.take_of_length_le (by rw [HN.out]; omega))
          have HZ := hid (fun (m : Nat) => show Buf g B v w (.slice a2 N q2) (lstB f l) (w2.drewN m) from by have := HA2.out.on (drewnE (Below.refl w2.heap.size w2) m); rw [HQ.out, ← HE.out] at this; exact this)
          go_wp2
          go_quiet (fail)
          go_wp2
          refine bodyPost_ret (results_none rfl _ _ _) rfl ?_
          exact ⟨rfl, _, HZ.out _⟩
        · skip
          go_wp2
          go_quiet (fail)
          go_wp2
          go_roundw
          case rel => exact ⟨k + 1, _, by go_num, by omega, hid (HA2.out.on (drewnE (Below.refl w2.heap.size w2) _)), drewnE HW2.out _⟩
          case measure => simp [intOf]; omega
      · obtain rfl : k = n := by omega
        have HQ := hid (show l.take k = l from List.take_of_length_le (by rw [HN.out]; exact Nat.le_refl _))
        go_wp2
        go_end0
        exact ⟨rfl, v9, by have := HA.out; rw [HQ.out, ← HE.out] at this; exact this⟩
set_option maxRecDepth 100000 in
set_option maxHeartbeats 2000000 in
theorem list_ex (g B : Nat) (v : Value) (l : List (Ex)) (a : Option Addr) (n c : Nat) (most : Int) (w0 w : World) (h : Buf g B v w v [] w) (hB : Below w0.heap.size w0 w) (hg : w0.heap.size < g) (hmost : w.cell? ⟨g, 12, none⟩ = some (.int .i64 most))
    (hn : l.length = n) (hr : Mod.Rows w0.heap.size w0 a 3 (l.map Ex.v)) (hlen : n ≤ 16384) (K : Nat) (eg : ∀ args w, (callFunc K args).run Tryz.prog w = .ok (.enter K args) w) (f : Ex → List Int)
    (hp : ∀ (W : World) (v : Value) (xs : List Int) (x : Ex), x ∈ l → Below w0.heap.size w0 W → Buf g B v W v xs W → xs.length ≤ 1000000000 → Calls Tryz.prog K #[.pointer (some ⟨g, 0, none⟩), .agg #[.string x.na, .int .i64 x.k, .int .u32 x.i]] W (Puts g B v W (xs ++ f x)))
    (hfit : ∀ k, k < l.length → ((encU n ++ (l.take k).flatMap f).length : Int) ≤ most) (htot : (encU n ++ l.flatMap f).length ≤ 1000000000) :
    Calls Tryz.prog 169 #[.pointer (some ⟨g, 0, none⟩), .slice a n c, .func (.func K) #[.pointer (some ⟨g, 0, none⟩)] #[]] w (Puts g B v w (lstB f l)) := by
  have H := hid h
  have HG := hid hg
  have HB := hid hB
  have HR := hid hr
  have HN := hid hn
  have HP := hid hp
  have HF := hid hfit
  have HT := hid htot
  have HM := hid hmost
  have c0 := h.c
  have HK : Hid (lstB f l = if l.length = 0 then [] else encU l.length ++ l.flatMap f) := rfl
  clear h hg hB hr hn hp hfit htot hmost
  by_cases hz : n = 0
  · subst hz
    have HE := hid (show lstB f l = [] by rw [HK.out, if_pos HN.out])
    go_enter Tryz.func169, Tryz.ntmps169
    go_wp2
    refine bodyPost_ret (results_none rfl _ _ _) rfl ?_
    exact ⟨rfl, v, by rw [HE.out]; exact H.out⟩
  · have hni : ¬ (n : Int) = 0 := by omega
    have HE := hid (show lstB f l = encU n ++ l.flatMap f by rw [HK.out, if_neg (by rw [HN.out]; exact hz), HN.out])
    have hw := u32_id n (by omega) (by omega)
    have C := hid (number_any g B v [] n w H.out (by omega) (by omega) (by simp))
    rw [List.nil_append] at C
    obtain ⟨p, hp⟩ : ∃ p, encU n = p := ⟨_, rfl⟩
    rw [hp] at C HE HF HT
    clear hp HK
    go_enter Tryz.func169, Tryz.ntmps169
    go_wp2_with fail
    refine C.out.mono ?_
    rintro e1 w1 ⟨rfl, v1, hb⟩
    have HA1 := hid hb
    have HW1 := hid (hb.deep H.out.own HB.out HG.out)
    clear C hb c0 hw
    go_wp2
    go_loopw [20] (fun vi wr => ∃ (k : Nat) (v9 : Value), vi = .int .i64 k ∧ k ≤ n ∧ Hid (Buf g B v w v9 (p ++ (l.take k).flatMap f) wr) ∧ Hid (Below w0.heap.size w0 wr)) (fun vi _ => n - (intOf vi).toNat)
    case atStart => exact ⟨0, v1, rfl, Nat.zero_le _, hid (by simpa using HA1.out), HW1⟩
    case round =>
      clear HA1 HW1
      obtain ⟨k, v9, rfl, hk, HA, HW⟩ := hrel
      by_cases hlt : k < n
      · have hkl : k < l.length := by rw [HN.out]; exact hlt
        have hki : (k : Int) < (n : Int) := by omega
        obtain ⟨b, off, rfl, hb, hc⟩ := Mod.Rows.get HR.out hkl
        have HX := hid (List.getElem_mem hkl)
        have HST := hid (flat_step f hkl)
        have HLN := hid (show (p ++ (l.take k).flatMap f).length ≤ 1000000000 by have := HT.out; have := flat_mono f l k; rw [List.length_append] at *; omega)
        obtain ⟨x, hx⟩ : ∃ x, l[k] = x := ⟨_, rfl⟩
        rw [hx] at hc HX HST
        have c0 : wr.cell? ⟨b, off + k * 3, none⟩ = some (.string x.na) := (HW.out.cell (p := ⟨b, off + k * 3 + 0, none⟩) hb).trans (hc 0 (by omega) _ rfl)
        have c1 : wr.cell? ⟨b, off + k * 3 + 1, none⟩ = some (.int .i64 x.k) := (HW.out.cell (p := ⟨b, off + k * 3 + 1, none⟩) hb).trans (hc 1 (by omega) _ rfl)
        have c2 : wr.cell? ⟨b, off + k * 3 + 2, none⟩ = some (.int .u32 x.i) := (HW.out.cell (p := ⟨b, off + k * 3 + 2, none⟩) hb).trans (hc 2 (by omega) _ rfl)
        clear hc hx hb hkl
        go_wp2_with fail
        have C := hid (HP.out (wr.alloc (.cells #[.string x.na, .int .i64 x.k, .int .u32 x.i] 72)) v9 _ x HX.out (HW.out.trans (((Below.refl wr.heap.size wr).alloc (Nat.le_refl _) (.cells #[.string x.na, .int .i64 x.k, .int .u32 x.i] 72)).mono HW.out.size)) (HA.out.lit (.cells #[.string x.na, .int .i64 x.k, .int .u32 x.i] 72)).again HLN.out)
        refine C.out.mono ?_
        rintro e1 w2 ⟨rfl, v2, hb2⟩
        have HA2 := hid (show Buf g B v w v2 (p ++ (l.take (k + 1)).flatMap f) w2 by rw [HST.out, ← List.append_assoc]; exact (HA.out.lit (.cells #[.string x.na, .int .i64 x.k, .int .u32 x.i] 72)).trans hb2)
        have HW2 := hid (HA2.out.deep H.out.own HB.out HG.out)
        obtain ⟨N, hN⟩ : ∃ N, (p ++ (l.take (k + 1)).flatMap f).length = N := ⟨_, rfl⟩
        obtain ⟨a2, q2, rfl⟩ := HA2.out.own.sliceN hN
        have d0 := HA2.out.c
        have d1 := (HA2.out.rest 12 (by decide)).trans HM.out
        have HD := hid (show k + 1 < n → (N : Int) ≤ most from fun h => by have := HF.out (k + 1) (by rw [HN.out]; exact h); rw [hN] at this; exact this)
        clear C hb2 hN HA HW HX HST HLN c0 c1 c2
        by_cases hgt : most < (N : Int)
        · have hkn : k + 1 = n := by have := HD.out; omega
          have HQ := hid (show l.take (k + 1) = l from List.take_of_length_le (by rw [HN.out]; omega))
          have HZ := hid (fun (m : Nat) => show Buf g B v w (.slice a2 N q2) (lstB f l) (w2.drewN m) from by have := HA2.out.on (drewnE (Below.refl w2.heap.size w2) m); rw [HQ.out, ← HE.out] at this; exact this)
          go_wp2
          go_quiet (fail)
          go_wp2
          refine bodyPost_ret (results_none rfl _ _ _) rfl ?_
          exact ⟨rfl, _, HZ.out _⟩
        · skip
          go_wp2
          go_quiet (fail)
          go_wp2
          go_roundw
          case rel => exact ⟨k + 1, _, by go_num, by omega, hid (HA2.out.on (drewnE (Below.refl w2.heap.size w2) _)), drewnE HW2.out _⟩
          case measure => simp [intOf]; omega
      · obtain rfl : k = n := by omega
        have HQ := hid (show l.take k = l from List.take_of_length_le (by rw [HN.out]; exact Nat.le_refl _))
        go_wp2
        go_end0
        exact ⟨rfl, v9, by have := HA.out; rw [HQ.out, ← HE.out] at this; exact this⟩
set_option maxRecDepth 100000 in
set_option maxHeartbeats 2000000 in
theorem list_el (g B : Nat) (v : Value) (l : List (El)) (a : Option Addr) (n c : Nat) (most : Int) (w0 w : World) (h : Buf g B v w v [] w) (hB : Below w0.heap.size w0 w) (hg : w0.heap.size < g) (hmost : w.cell? ⟨g, 12, none⟩ = some (.int .i64 most))
    (hn : l.length = n) (hr : Mod.Rows w0.heap.size w0 a 2 (l.map El.v)) (hlen : n ≤ 16384) (K : Nat) (eg : ∀ args w, (callFunc K args).run Tryz.prog w = .ok (.enter K args) w) (f : El → List Int)
    (hp : ∀ (W : World) (v : Value) (xs : List Int) (x : El), x ∈ l → Below w0.heap.size w0 W → Buf g B v W v xs W → xs.length ≤ 1000000000 → Calls Tryz.prog K #[.pointer (some ⟨g, 0, none⟩), .agg #[.slice x.l.a x.l.t.len x.l.c, .slice x.fa x.fs.length x.fc]] W (Puts g B v W (xs ++ f x)))
    (hfit : ∀ k, k < l.length → ((encU n ++ (l.take k).flatMap f).length : Int) ≤ most) (htot : (encU n ++ l.flatMap f).length ≤ 1000000000) :
    Calls Tryz.prog 171 #[.pointer (some ⟨g, 0, none⟩), .slice a n c, .func (.func K) #[.pointer (some ⟨g, 0, none⟩)] #[]] w (Puts g B v w (lstB f l)) := by
  have H := hid h
  have HG := hid hg
  have HB := hid hB
  have HR := hid hr
  have HN := hid hn
  have HP := hid hp
  have HF := hid hfit
  have HT := hid htot
  have HM := hid hmost
  have c0 := h.c
  have HK : Hid (lstB f l = if l.length = 0 then [] else encU l.length ++ l.flatMap f) := rfl
  clear h hg hB hr hn hp hfit htot hmost
  by_cases hz : n = 0
  · subst hz
    have HE := hid (show lstB f l = [] by rw [HK.out, if_pos HN.out])
    go_enter Tryz.func171, Tryz.ntmps171
    go_wp2
    refine bodyPost_ret (results_none rfl _ _ _) rfl ?_
    exact ⟨rfl, v, by rw [HE.out]; exact H.out⟩
  · have hni : ¬ (n : Int) = 0 := by omega
    have HE := hid (show lstB f l = encU n ++ l.flatMap f by rw [HK.out, if_neg (by rw [HN.out]; exact hz), HN.out])
    have hw := u32_id n (by omega) (by omega)
    have C := hid (number_any g B v [] n w H.out (by omega) (by omega) (by simp))
    rw [List.nil_append] at C
    obtain ⟨p, hp⟩ : ∃ p, encU n = p := ⟨_, rfl⟩
    rw [hp] at C HE HF HT
    clear hp HK
    go_enter Tryz.func171, Tryz.ntmps171
    go_wp2_with fail
    refine C.out.mono ?_
    rintro e1 w1 ⟨rfl, v1, hb⟩
    have HA1 := hid hb
    have HW1 := hid (hb.deep H.out.own HB.out HG.out)
    clear C hb c0 hw
    go_wp2
    go_loopw [20] (fun vi wr => ∃ (k : Nat) (v9 : Value), vi = .int .i64 k ∧ k ≤ n ∧ Hid (Buf g B v w v9 (p ++ (l.take k).flatMap f) wr) ∧ Hid (Below w0.heap.size w0 wr)) (fun vi _ => n - (intOf vi).toNat)
    case atStart => exact ⟨0, v1, rfl, Nat.zero_le _, hid (by simpa using HA1.out), HW1⟩
    case round =>
      clear HA1 HW1
      obtain ⟨k, v9, rfl, hk, HA, HW⟩ := hrel
      by_cases hlt : k < n
      · have hkl : k < l.length := by rw [HN.out]; exact hlt
        have hki : (k : Int) < (n : Int) := by omega
        obtain ⟨b, off, rfl, hb, hc⟩ := Mod.Rows.get HR.out hkl
        have HX := hid (List.getElem_mem hkl)
        have HST := hid (flat_step f hkl)
        have HLN := hid (show (p ++ (l.take k).flatMap f).length ≤ 1000000000 by have := HT.out; have := flat_mono f l k; rw [List.length_append] at *; omega)
        obtain ⟨x, hx⟩ : ∃ x, l[k] = x := ⟨_, rfl⟩
        rw [hx] at hc HX HST
        have c0 : wr.cell? ⟨b, off + k * 2, none⟩ = some (.slice x.l.a x.l.t.len x.l.c) := (HW.out.cell (p := ⟨b, off + k * 2 + 0, none⟩) hb).trans (hc 0 (by omega) _ rfl)
        have c1 : wr.cell? ⟨b, off + k * 2 + 1, none⟩ = some (.slice x.fa x.fs.length x.fc) := (HW.out.cell (p := ⟨b, off + k * 2 + 1, none⟩) hb).trans (hc 1 (by omega) _ rfl)
        clear hc hx hb hkl
        go_wp2_with fail
        have C := hid (HP.out (wr.alloc (.cells #[.slice x.l.a x.l.t.len x.l.c, .slice x.fa x.fs.length x.fc] 68)) v9 _ x HX.out (HW.out.trans (((Below.refl wr.heap.size wr).alloc (Nat.le_refl _) (.cells #[.slice x.l.a x.l.t.len x.l.c, .slice x.fa x.fs.length x.fc] 68)).mono HW.out.size)) (HA.out.lit (.cells #[.slice x.l.a x.l.t.len x.l.c, .slice x.fa x.fs.length x.fc] 68)).again HLN.out)
        refine C.out.mono ?_
        rintro e1 w2 ⟨rfl, v2, hb2⟩
        have HA2 := hid (show Buf g B v w v2 (p ++ (l.take (k + 1)).flatMap f) w2 by rw [HST.out, ← List.append_assoc]; exact (HA.out.lit (.cells #[.slice x.l.a x.l.t.len x.l.c, .slice x.fa x.fs.length x.fc] 68)).trans hb2)
        have HW2 := hid (HA2.out.deep H.out.own HB.out HG.out)
        obtain ⟨N, hN⟩ : ∃ N, (p ++ (l.take (k + 1)).flatMap f).length = N := ⟨_, rfl⟩
        obtain ⟨a2, q2, rfl⟩ := HA2.out.own.sliceN hN
        have d0 := HA2.out.c
        have d1 := (HA2.out.rest 12 (by decide)).trans HM.out
        have HD := hid (show k + 1 < n → (N : Int) ≤ most from fun h => by have := HF.out (k + 1) (by rw [HN.out]; exact h); rw [hN] at this; exact this)
        clear C hb2 hN HA HW HX HST HLN c0 c1
        by_cases hgt : most < (N : Int)
        · have hkn : k + 1 = n := by have := HD.out; omega
          have HQ := hid (show l.take (k + 1) = l from List.take_of_length_le (by rw [HN.out]; omega))
          have HZ := hid (fun (m : Nat) => show Buf g B v w (.slice a2 N q2) (lstB f l) (w2.drewN m) from by have := HA2.out.on (drewnE (Below.refl w2.heap.size w2) m); rw [HQ.out, ← HE.out] at this; exact this)
          go_wp2
          go_quiet (fail)
          go_wp2
          refine bodyPost_ret (results_none rfl _ _ _) rfl ?_
          exact ⟨rfl, _, HZ.out _⟩
        · skip
          go_wp2
          go_quiet (fail)
          go_wp2
          go_roundw
          case rel => exact ⟨k + 1, _, by go_num, by omega, hid (HA2.out.on (drewnE (Below.refl w2.heap.size w2) _)), drewnE HW2.out _⟩
          case measure => simp [intOf]; omega
      · obtain rfl : k = n := by omega
        have HQ := hid (show l.take k = l from List.take_of_length_le (by rw [HN.out]; exact Nat.le_refl _))
        go_wp2
        go_end0
        exact ⟨rfl, v9, by have := HA.out; rw [HQ.out, ← HE.out] at this; exact this⟩
set_option maxRecDepth 100000 in
set_option maxHeartbeats 2000000 in
theorem list_da (g B : Nat) (v : Value) (l : List (Da)) (a : Option Addr) (n c : Nat) (most : Int) (w0 w : World) (h : Buf g B v w v [] w) (hB : Below w0.heap.size w0 w) (hg : w0.heap.size < g) (hmost : w.cell? ⟨g, 12, none⟩ = some (.int .i64 most))
    (hn : l.length = n) (hr : Mod.Rows w0.heap.size w0 a 2 (l.map Da.v)) (hlen : n ≤ 16384) (K : Nat) (eg : ∀ args w, (callFunc K args).run Tryz.prog w = .ok (.enter K args) w) (f : Da → List Int)
    (hp : ∀ (W : World) (v : Value) (xs : List Int) (x : Da), x ∈ l → Below w0.heap.size w0 W → Buf g B v W v xs W → xs.length ≤ 1000000000 → Calls Tryz.prog K #[.pointer (some ⟨g, 0, none⟩), .agg #[.slice x.l.a x.l.t.len x.l.c, .slice x.ba x.bs.length x.bc]] W (Puts g B v W (xs ++ f x)))
    (hfit : ∀ k, k < l.length → ((encU n ++ (l.take k).flatMap f).length : Int) ≤ most) (htot : (encU n ++ l.flatMap f).length ≤ 1000000000) :
    Calls Tryz.prog 174 #[.pointer (some ⟨g, 0, none⟩), .slice a n c, .func (.func K) #[.pointer (some ⟨g, 0, none⟩)] #[]] w (Puts g B v w (lstB f l)) := by
  have H := hid h
  have HG := hid hg
  have HB := hid hB
  have HR := hid hr
  have HN := hid hn
  have HP := hid hp
  have HF := hid hfit
  have HT := hid htot
  have HM := hid hmost
  have c0 := h.c
  have HK : Hid (lstB f l = if l.length = 0 then [] else encU l.length ++ l.flatMap f) := rfl
  clear h hg hB hr hn hp hfit htot hmost
  by_cases hz : n = 0
  · subst hz
    have HE := hid (show lstB f l = [] by rw [HK.out, if_pos HN.out])
    go_enter Tryz.func174, Tryz.ntmps174
    go_wp2
    refine bodyPost_ret (results_none rfl _ _ _) rfl ?_
    exact ⟨rfl, v, by rw [HE.out]; exact H.out⟩
  · have hni : ¬ (n : Int) = 0 := by omega
    have HE := hid (show lstB f l = encU n ++ l.flatMap f by rw [HK.out, if_neg (by rw [HN.out]; exact hz), HN.out])
    have hw := u32_id n (by omega) (by omega)
    have C := hid (number_any g B v [] n w H.out (by omega) (by omega) (by simp))
    rw [List.nil_append] at C
    obtain ⟨p, hp⟩ : ∃ p, encU n = p := ⟨_, rfl⟩
    rw [hp] at C HE HF HT
    clear hp HK
    go_enter Tryz.func174, Tryz.ntmps174
    go_wp2_with fail
    refine C.out.mono ?_
    rintro e1 w1 ⟨rfl, v1, hb⟩
    have HA1 := hid hb
    have HW1 := hid (hb.deep H.out.own HB.out HG.out)
    clear C hb c0 hw
    go_wp2
    go_loopw [20] (fun vi wr => ∃ (k : Nat) (v9 : Value), vi = .int .i64 k ∧ k ≤ n ∧ Hid (Buf g B v w v9 (p ++ (l.take k).flatMap f) wr) ∧ Hid (Below w0.heap.size w0 wr)) (fun vi _ => n - (intOf vi).toNat)
    case atStart => exact ⟨0, v1, rfl, Nat.zero_le _, hid (by simpa using HA1.out), HW1⟩
    case round =>
      clear HA1 HW1
      obtain ⟨k, v9, rfl, hk, HA, HW⟩ := hrel
      by_cases hlt : k < n
      · have hkl : k < l.length := by rw [HN.out]; exact hlt
        have hki : (k : Int) < (n : Int) := by omega
        obtain ⟨b, off, rfl, hb, hc⟩ := Mod.Rows.get HR.out hkl
        have HX := hid (List.getElem_mem hkl)
        have HST := hid (flat_step f hkl)
        have HLN := hid (show (p ++ (l.take k).flatMap f).length ≤ 1000000000 by have := HT.out; have := flat_mono f l k; rw [List.length_append] at *; omega)
        obtain ⟨x, hx⟩ : ∃ x, l[k] = x := ⟨_, rfl⟩
        rw [hx] at hc HX HST
        have c0 : wr.cell? ⟨b, off + k * 2, none⟩ = some (.slice x.l.a x.l.t.len x.l.c) := (HW.out.cell (p := ⟨b, off + k * 2 + 0, none⟩) hb).trans (hc 0 (by omega) _ rfl)
        have c1 : wr.cell? ⟨b, off + k * 2 + 1, none⟩ = some (.slice x.ba x.bs.length x.bc) := (HW.out.cell (p := ⟨b, off + k * 2 + 1, none⟩) hb).trans (hc 1 (by omega) _ rfl)
        clear hc hx hb hkl
        go_wp2_with fail
        have C := hid (HP.out (wr.alloc (.cells #[.slice x.l.a x.l.t.len x.l.c, .slice x.ba x.bs.length x.bc] 47)) v9 _ x HX.out (HW.out.trans (((Below.refl wr.heap.size wr).alloc (Nat.le_refl _) (.cells #[.slice x.l.a x.l.t.len x.l.c, .slice x.ba x.bs.length x.bc] 47)).mono HW.out.size)) (HA.out.lit (.cells #[.slice x.l.a x.l.t.len x.l.c, .slice x.ba x.bs.length x.bc] 47)).again HLN.out)
        refine C.out.mono ?_
        rintro e1 w2 ⟨rfl, v2, hb2⟩
        have HA2 := hid (show Buf g B v w v2 (p ++ (l.take (k + 1)).flatMap f) w2 by rw [HST.out, ← List.append_assoc]; exact (HA.out.lit (.cells #[.slice x.l.a x.l.t.len x.l.c, .slice x.ba x.bs.length x.bc] 47)).trans hb2)
        have HW2 := hid (HA2.out.deep H.out.own HB.out HG.out)
        obtain ⟨N, hN⟩ : ∃ N, (p ++ (l.take (k + 1)).flatMap f).length = N := ⟨_, rfl⟩
        obtain ⟨a2, q2, rfl⟩ := HA2.out.own.sliceN hN
        have d0 := HA2.out.c
        have d1 := (HA2.out.rest 12 (by decide)).trans HM.out
        have HD := hid (show k + 1 < n → (N : Int) ≤ most from fun h => by have := HF.out (k + 1) (by rw [HN.out]; exact h); rw [hN] at this; exact this)
        clear C hb2 hN HA HW HX HST HLN c0 c1
        by_cases hgt : most < (N : Int)
        · have hkn : k + 1 = n := by have := HD.out; omega
          have HQ := hid (show l.take (k + 1) = l from List.take_of_length_le (by rw [HN.out]; omega))
          have HZ := hid (fun (m : Nat) => show Buf g B v w (.slice a2 N q2) (lstB f l) (w2.drewN m) from by have := HA2.out.on (drewnE (Below.refl w2.heap.size w2) m); rw [HQ.out, ← HE.out] at this; exact this)
          go_wp2
          go_quiet (fail)
          go_wp2
          refine bodyPost_ret (results_none rfl _ _ _) rfl ?_
          exact ⟨rfl, _, HZ.out _⟩
        · skip
          go_wp2
          go_quiet (fail)
          go_wp2
          go_roundw
          case rel => exact ⟨k + 1, _, by go_num, by omega, hid (HA2.out.on (drewnE (Below.refl w2.heap.size w2) _)), drewnE HW2.out _⟩
          case measure => simp [intOf]; omega
      · obtain rfl : k = n := by omega
        have HQ := hid (show l.take k = l from List.take_of_length_le (by rw [HN.out]; exact Nat.le_refl _))
        go_wp2
        go_end0
        exact ⟨rfl, v9, by have := HA.out; rw [HQ.out, ← HE.out] at this; exact this⟩
end Go.Proofs.YtiadgkdkjinnjaaGreatDoor.Enc
