import Derived.Test.YtepbjkkakfpjgaaGreatDoorEt08
import Derived.Test.YtepbjkkakfpjgaaGreatDoorEt06
import Derived.Test.YtepbjkkakfpjgaaGreatDoorEt05
import Derived.Test.YtepbjkkakfpjgaaGreatDoorEt01
import Derived.Test.YtepbjkkakfpjgaaGreatDoorEt03
import Derived.Test.YtepbjkkakfpjgaaGreatDoorEt07
import Derived.Test.YtepbjkkakfpjgaaGreatDoorEt04
import Derived.Deep.RegionHeld3
import Derived.Defers
import Derived.FnLit
import Derived.Deep.RegionHeldLaw
import Derived.BigQuiet
import Derived.Deep.RegionLaw
namespace Go.Proofs.YtepbjkkakfpjgaaGreatDoor.Kind
open Go.RowKit Leb
theorem step_append_bytes {ops : Array Oper} {o : Oper} {a : Act} {w : World} {K : Act → World → Prop} {Q : Exit → Act → World → Prop} {E : Prop}
  (hg : o.guard = none) (s x : Operand) (hop : o.op = .call { callee := .builtin .append, args := #[s, x], argTypes := #[35, 35] })
  {base : Nat} (v : Value) {xs ys : List Int} (hs : a.eval s = v) (hown : Own base w v xs) (hbase : base ≤ w.heap.size)
  (b n c : Nat) (hx : a.eval x = .slice (some ⟨b, 0, none⟩) n c) (hn : ys.length = n) (hy : Bytes w (some ⟨b, 0, none⟩) ys) (hl : xs.length + ys.length ≤ 140737488351232)
  (h : ∀ v' w', Own base w' v' (xs ++ ys) → w.grownBy w' v.ownBlock → K (a.put o.dst v') w') :
  if Region.wanted o (yielded ops a.tmps) = true then Oper.wp Tryz.prog o a w K Q else E := by
 have hw : Region.wanted o (yielded ops a.tmps) = true := by simp [Region.wanted, hg]
 rw [if_pos hw]
 obtain ⟨i0, hi, hz0, hz1, hz2⟩ := info_parts infoByte
 subst hn
 refine wp_append_own w s x 35 hop base 5 i0 (.int .u8 0) 1 1 Tryz.underlying35 hi hz0 hz1 hz2 rfl (by decide) v xs.length _ hs hown ⟨b, 0, none⟩ ys.length c (ys.map (Value.int .u8)) hx (by simp)
  ?_ ?_ ?_ ?_ hbase (fun v' w' hown' hgrow _ => h v' w' (by unfold Own; rw [List.length_append, List.map_append]; exact hown') hgrow)
 ·intro j u hj
  have hjl : j < ys.length := by
   rcases Nat.lt_or_ge j ys.length with h | h
   ·exact h
   ·rw [List.getElem?_eq_none (by simpa using h)] at hj; cases hj
  rcases hy.at_ with h0 | ⟨b', off, he, hc⟩
  ·rw [h0] at hjl; simp at hjl
  ·simp only [Option.some.injEq, Addr.mk.injEq] at he
   obtain ⟨rfl, rfl, _⟩ := he
   have hplain : (⟨b, 0, none⟩ : Addr).add j = ⟨b, 0 + j, none⟩ := by unfold Addr.add; split <;> simp_all
   rw [hplain, hc j hjl, ← hj, getD_lt hjl]; simp [hjl]
 ·intro u hu
  obtain ⟨n, _, rfl⟩ := List.mem_map.1 hu
  rfl
 ·unfold maxLen; omega
 ·omega
theorem Own.at {base : Nat} {w : World} {a : Option Addr} {n c : Nat} {zs : List Int} (h : Own base w (.slice a n c) zs) (hn : 0 < zs.length) : ∃ g, a = some ⟨g, 0, none⟩ ∧ base ≤ g ∧ g < w.heap.size := by
 rcases h.2 with ⟨_, h0⟩ | ⟨g, cap, cur, hv, hb, hh, _⟩
 ·omega
 ·simp only [Value.slice.injEq] at hv
  exact ⟨g, hv.1, hb, (Array.getElem?_eq_some_iff.1 hh).1⟩
theorem Bytes.grown {w w' : World} {g row : Nat} {zs : List Int} (h : Bytes w (some ⟨g, 0, none⟩) zs) (hg : w.grownBy w' (some row)) (hlt : g < w.heap.size) (hne : g ≠ row) : Bytes w' (some ⟨g, 0, none⟩) zs := by
 refine ⟨h.byte, h.size, ?_⟩
 rcases h.at_ with h0 | ⟨b, off, he, hc⟩
 ·exact .inl h0
 ·simp only [Option.some.injEq, Addr.mk.injEq] at he
  obtain ⟨rfl, rfl, _⟩ := he
  exact .inr ⟨g, 0, rfl, fun i hi => (World.cell?_of_block (w := w) (hg.block g hlt (fun e => hne (by simpa using e)))).trans (hc i hi)⟩
theorem own_lit_d (w : World) (z : Int) : Own w.heap.size (w.alloc (.cells #[.int .u8 z] 5)).drew (.slice (some ⟨w.heap.size, 0, none⟩) 1 1) [z] := own_lit w z
theorem cat1_len (n : Int) : ([1] ++ encU n).length = 1 + sizeU n := by simp [encU_length]; omega
set_option maxHeartbeats 3200000 in
theorem refPutLimits_capped (n x most : Int) (h : okLim n x true most = true) (h0 : 0 ≤ n ∧ n ≤ 4294967295) (h1 : 0 ≤ x ∧ x ≤ 4294967295) (w : World) : Calls Tryz.prog 116 #[.agg #[.int .u32 n, .int .u32 x, .bool true], .int .u32 most] w (PutOk w (limL n x true)) := by
 have hC := fun w => refCheckLimits_any n x true most w
 have hc0 : codeLim n x true most = 0 := by unfold codeLim; rw [if_pos h]
 simp only [hc0] at hC
 have HCAT := hid (limL_cat n x)
 have HLE := hid (limL_len n x)
 have HC1 := hid (cat1_len n)
 have hs := sizeU_pos n
 have hs2 := sizeU_pos x
 clear hc0 h
 go_enter Tryz.func116, Tryz.ntmps116
 go_wp2_with fail
 refine (hC _).mono ?_
 rintro e w1 ⟨rfl, hb1⟩
 have hW0 : Below w.heap.size w (w.alloc (.cells #[.int .u32 n, .int .u32 x, .bool true] 60)) := (Below.refl _ _).alloc (Nat.le_refl _) _
 have hs0 : w.heap.size + 1 = (w.alloc (.cells #[.int .u32 n, .int .u32 x, .bool true] 60)).heap.size := by simp
 have HS0 := hid hs0
 obtain ⟨d0, d1, d2⟩ := three hb1
 have c0 : (w.alloc (.cells #[.int .u32 n, .int .u32 x, .bool true] 60)).cell? ⟨w.heap.size, 0, none⟩ = some (.int .u32 n) := by go_simp
 have c1 : (w.alloc (.cells #[.int .u32 n, .int .u32 x, .bool true] 60)).cell? ⟨w.heap.size, 1, none⟩ = some (.int .u32 x) := by go_simp
 clear hC hs0
 generalize w.alloc (.cells #[.int .u32 n, .int .u32 x, .bool true] 60) = W0 at *
 go_wp2
 have hS := keepN (w := W0) (w' := w1.drew) c0 c1 hb1.drew
 go_region_held_law (fun w' => Below W0.heap.size W0 w' ∧ w'.cell? ⟨w.heap.size, 0, none⟩ = some (.int .u32 n) ∧ w'.cell? ⟨w.heap.size, 1, none⟩ = some (.int .u32 x))
  (first
    | (with_reducible assumption)
    | (with_reducible exact keepN c0 c1 hB29)
    | (with_reducible exact keepN c0 c1 hB25)
    | (with_reducible exact keepN c0 c1 hA16)
    | (with_reducible exact keepN c0 c1 hA13)
    | (with_reducible exact keepN c0 c1 (thenA hA16 _))
    | (with_reducible exact keepN c0 c1 (thenA hA13 _))
    | exact keepN c0 c1 (hb1.alloc hb1.size _).drew)
  (first
    | (have hoL := ((own_lit_d w1 1).below hb13).mono (base' := W0.heap.size) (hb1.size); have hyc := hy13; have hAc := hA13
       refine step_append_bytes rfl (.tmp 21) (.tmp 24) rfl (base := W0.heap.size) (.slice (some ⟨w1.heap.size, 0, none⟩) 1 1) (by go_simp) hoL hAc.size g13 (sizeU n) c13 (by go_simp) (encU_length n) hyc (by rw [encU_length]; simp; omega) ?_
       intro v25 w25 ho25 hg25
       have hB25 := hAc.grown hg25 hAc.size (fun k h => by simp only [Value.ownBlock, Option.some.injEq] at h; subst h; exact hb1.size)
       clear hoL hyc hAc hg25
       obtain ⟨a25, c25, rfl⟩ := ho25.sliceN HC1.out)
    | (have hoL := (((own_lit_d w1 1).below hb13).below hb16).mono (base' := W0.heap.size) (hb1.size); have hyc := hy13.below hb16; have hAc := hA16
       refine step_append_bytes rfl (.tmp 21) (.tmp 24) rfl (base := W0.heap.size) (.slice (some ⟨w1.heap.size, 0, none⟩) 1 1) (by go_simp) hoL hAc.size g13 (sizeU n) c13 (by go_simp) (encU_length n) hyc (by rw [encU_length]; simp; omega) ?_
       intro v25 w25 ho25 hg25
       have hB25 := hAc.grown hg25 hAc.size (fun k h => by simp only [Value.ownBlock, Option.some.injEq] at h; subst h; exact hb1.size)
       have hy16 := Bytes.grown hy16 hg25 hi16 (by have h1 := hb13.size; have h2 := lo16; (try simp at h1); (try simp at h2); omega)
       clear hoL hyc hAc hg25
       obtain ⟨a25, c25, rfl⟩ := ho25.sliceN HC1.out)
    | (have hoL := (own_lit w13 1).mono (base' := W0.heap.size) (hA13.size); have hyc := hy13.alloc (.cells #[.int .u8 1] 5); have hAc := thenA hA13 (.cells #[.int .u8 1] 5)
       refine step_append_bytes rfl (.tmp 21) (.tmp 24) rfl (base := W0.heap.size) (.slice (some ⟨w13.heap.size, 0, none⟩) 1 1) (by go_simp) hoL hAc.size g13 (sizeU n) c13 (by go_simp) (encU_length n) hyc (by rw [encU_length]; simp; omega) ?_
       intro v25 w25 ho25 hg25
       have hB25 := hAc.grown hg25 hAc.size (fun k h => by simp only [Value.ownBlock, Option.some.injEq] at h; subst h; exact hA13.size)
       clear hoL hyc hAc hg25
       obtain ⟨a25, c25, rfl⟩ := ho25.sliceN HC1.out)
    | (have hoL := ((own_lit w13 1).below hb16).mono (base' := W0.heap.size) (hA13.size); have hyc := (hy13.alloc (.cells #[.int .u8 1] 5)).below hb16; have hAc := hA16
       refine step_append_bytes rfl (.tmp 21) (.tmp 24) rfl (base := W0.heap.size) (.slice (some ⟨w13.heap.size, 0, none⟩) 1 1) (by go_simp) hoL hAc.size g13 (sizeU n) c13 (by go_simp) (encU_length n) hyc (by rw [encU_length]; simp; omega) ?_
       intro v25 w25 ho25 hg25
       have hB25 := hAc.grown hg25 hAc.size (fun k h => by simp only [Value.ownBlock, Option.some.injEq] at h; subst h; exact hA13.size)
       have hy16 := Bytes.grown hy16 hg25 hi16 (by have h2 := lo16; (try simp at h2); omega)
       clear hoL hyc hAc hg25
       obtain ⟨a25, c25, rfl⟩ := ho25.sliceN HC1.out)
    | (have hoL := (own_lit w16 1).mono (base' := W0.heap.size) (hA16.size); have hyc := (hy13.below hb16).alloc (.cells #[.int .u8 1] 5); have hAc := thenA hA16 (.cells #[.int .u8 1] 5)
       refine step_append_bytes rfl (.tmp 21) (.tmp 24) rfl (base := W0.heap.size) (.slice (some ⟨w16.heap.size, 0, none⟩) 1 1) (by go_simp) hoL hAc.size g13 (sizeU n) c13 (by go_simp) (encU_length n) hyc (by rw [encU_length]; simp; omega) ?_
       intro v25 w25 ho25 hg25
       have hB25 := hAc.grown hg25 hAc.size (fun k h => by simp only [Value.ownBlock, Option.some.injEq] at h; subst h; exact hA16.size)
       have hy16 := Bytes.grown (hy16.alloc (.cells #[.int .u8 1] 5)) hg25 (by simp; omega) (by omega)
       clear hoL hyc hAc hg25
       obtain ⟨a25, c25, rfl⟩ := ho25.sliceN HC1.out)
    | (have hoM := ho25.below hb16; have hAc := hA16
       refine step_append_bytes rfl (.tmp 25) (.tmp 28) rfl (base := W0.heap.size) (.slice a25 (1 + sizeU n) c25) (by go_simp) hoM hAc.size g16 (sizeU x) c16 (by go_simp) (encU_length x) hy16 (by rw [HC1.out, encU_length]; omega) ?_
       intro v29 w29 ho29 hg29
       have hB29 := hAc.grown hg29 hAc.size (fun k h => (World.ownsRow.lt hoM k h).1)
       clear hoM hAc hg29
       rw [HCAT.out] at ho29
       obtain ⟨a29, c29, rfl⟩ := ho29.sliceN HLE.out)
    | (have hoM := ho25; have hAc := hB25
       refine step_append_bytes rfl (.tmp 25) (.tmp 28) rfl (base := W0.heap.size) (.slice a25 (1 + sizeU n) c25) (by go_simp) hoM hAc.size g16 (sizeU x) c16 (by go_simp) (encU_length x) hy16 (by rw [HC1.out, encU_length]; omega) ?_
       intro v29 w29 ho29 hg29
       have hB29 := hAc.grown hg29 hAc.size (fun k h => (World.ownsRow.lt hoM k h).1)
       clear hoM hAc hg29
       rw [HCAT.out] at ho29
       obtain ⟨a29, c29, rfl⟩ := ho29.sliceN HLE.out)
    | (go_at_call 113; ((with_reducible refine (refU_any n _ (by omega) (by omega)).mono ?_); rintro e w13 ⟨v13, rfl, ho13, hb13⟩; obtain ⟨a13, c13, rfl⟩ := ho13.sliceN (encU_length n); obtain ⟨g13, rfl, lo13, hi13⟩ := Own.at ho13 (by rw [encU_length]; omega); have hy13 := ho13.bytes (encU_bytes n) (by rw [encU_length]; omega); have hA13 := thenB (w := W0) (box_out (x := .int .u32 n) (y := .int .u32 x) (k := w.heap.size) (by assumption)) hb13; clear ho13))
    | (go_at_call 113; ((with_reducible refine (refU_any x _ (by omega) (by omega)).mono ?_); rintro e w16 ⟨v16, rfl, ho16, hb16⟩; obtain ⟨a16, c16, rfl⟩ := ho16.sliceN (encU_length x); obtain ⟨g16, rfl, lo16, hi16⟩ := Own.at ho16 (by rw [encU_length]; omega); have hy16 := ho16.bytes (encU_bytes x) (by rw [encU_length]; omega); have hA16 := thenB (w := W0) (box_out (x := .int .u32 n) (y := .int .u32 x) (k := w.heap.size) (by assumption)) hb16; clear ho16)))
 all_goals go_wp2
 all_goals go_ret2
 all_goals exact ⟨.slice a29 (1 + sizeU n + sizeU x) c29, by simp, ho29.mono (by have := HS0.out; omega), hW0.trans (hB29.mono (by have := HS0.out; omega))⟩
end Go.Proofs.YtepbjkkakfpjgaaGreatDoor.Kind
namespace Go.Proofs.YtepbjkkakfpjgaaGreatDoor.Kind
set_option linter.unusedVariables false
open Go.RowKit Leb
def putZ (p r : Int) : List Int := if okType p r then typeL p r else []
def limZ (n x : Int) (c : Bool) (most : Int) : List Int := if okLim n x c most then limL n x c else []
def PutRes (w : World) (zs : List Int) (m : Nat) (er : Int) (e : Ending) (w' : World) : Prop := ∃ a q, e = .returned (.tuple #[.slice a m q, .int .i64 er]) ∧ Bytes w' a zs ∧ Hid (a = none → q = 0) ∧ Below w.heap.size w w'
theorem typeL_bytes (p r : Int) : ∀ z ∈ typeL p r, 0 ≤ z ∧ z < 256 := by
 intro z hz
 unfold typeL at hz
 rcases List.mem_cons.1 hz with h | h
 ·omega
 ·rcases List.mem_append.1 h with h | h
  ·exact wordsL_bytes _ z h
  ·exact wordsL_bytes _ z h
theorem limL_bytes (n x : Int) (c : Bool) : ∀ z ∈ limL n x c, 0 ≤ z ∧ z < 256 := by
 intro z hz
 unfold limL at hz
 cases c
 ·simp only [Bool.false_eq_true, if_false] at hz
  rcases List.mem_cons.1 hz with h | h
  ·omega
  ·exact encU_bytes _ z h
 ·simp only [if_true] at hz
  rcases List.mem_cons.1 hz with h | h
  ·omega
  ·rcases List.mem_append.1 h with h | h
   ·exact encU_bytes _ z h
   ·exact encU_bytes _ z h
theorem putRes_ok {w w' : World} {zs : List Int} {m : Nat} {e : Ending} (hm : zs.length = m) (hb : ∀ z ∈ zs, 0 ≤ z ∧ z < 256) (hl : zs.length ≤ 1000) (h : PutOk w zs e w') : PutRes w zs m 0 e w' := by
 obtain ⟨v, he, ho, hB⟩ := h
 obtain ⟨a, q, rfl⟩ := ho.sliceN hm
 exact ⟨a, q, he, ho.bytes hb (by omega), ho.nil, hB⟩
theorem putRes_no {w w' : World} {e : Ending} (h : PutNo w e w') : PutRes w [] 0 2 e w' :=
 ⟨none, 0, h.1, ⟨by simp, by simp, .inl rfl⟩, (hid fun _ => rfl), h.2⟩
theorem okType_nat {p r : Int} (h : okType p r = true) : ∃ a b : Nat, p = a ∧ r = b ∧ a ≤ 255 ∧ b ≤ 1 := by
 unfold okType at h; simp at h
 exact ⟨p.toNat, r.toNat, by omega, by omega, by omega, by omega⟩
theorem typeL_le (p r : Nat) (hp : p ≤ 255) (hr : r ≤ 1) : (typeL p r).length ≤ 1000 := by
 rw [typeL_len]; have := sizeU_pos p; have := sizeU_pos r; omega
theorem put_any (p r : Int) (m : Nat) (hm : (putZ p r).length = m) (w : World) : Calls Tryz.prog 194 #[.agg #[.int .i64 p, .int .i64 r]] w (PutRes w (putZ p r) m (codeType p r)) := by
 by_cases h : okType p r = true
 ·have e1 : putZ p r = typeL p r := by unfold putZ; rw [if_pos h]
  have e2 : codeType p r = 0 := by unfold codeType; rw [if_pos h]
  rw [e1] at hm; rw [e1, e2]
  obtain ⟨a, b, rfl, rfl, ha, hb⟩ := okType_nat h
  exact (put_ok a b ha hb w).mono fun e w' he => putRes_ok hm (typeL_bytes _ _) (typeL_le a b ha hb) he
 ·have h' : okType p r = false := by simpa using h
  have e1 : putZ p r = [] := by unfold putZ; rw [h']; rfl
  have e2 : codeType p r = 2 := by unfold codeType; rw [h']; rfl
  rw [e1] at hm; rw [e1, e2]
  obtain rfl : m = 0 := by simpa using hm.symm
  exact (put_no p r h' w).mono fun e w' he => putRes_no he
theorem refPut_any (p r : Int) (m : Nat) (hm : (putZ p r).length = m) (w : World) : Calls Tryz.prog 114 #[.agg #[.int .i64 p, .int .i64 r]] w (PutRes w (putZ p r) m (codeType p r)) := by
 by_cases h : okType p r = true
 ·have e1 : putZ p r = typeL p r := by unfold putZ; rw [if_pos h]
  have e2 : codeType p r = 0 := by unfold codeType; rw [if_pos h]
  rw [e1] at hm; rw [e1, e2]
  obtain ⟨a, b, rfl, rfl, ha, hb⟩ := okType_nat h
  exact (refPut_ok a b ha hb w).mono fun e w' he => putRes_ok hm (typeL_bytes _ _) (typeL_le a b ha hb) he
 ·have h' : okType p r = false := by simpa using h
  have e1 : putZ p r = [] := by unfold putZ; rw [h']; rfl
  have e2 : codeType p r = 2 := by unfold codeType; rw [h']; rfl
  rw [e1] at hm; rw [e1, e2]
  obtain rfl : m = 0 := by simpa using hm.symm
  exact (refPut_no p r h' w).mono fun e w' he => putRes_no he
theorem limL_le (n x : Int) (c : Bool) : (limL n x c).length ≤ 1000 := by
 have := sizeU_pos n; have := sizeU_pos x
 cases c <;> unfold limL <;> simp [encU_length] <;> omega
theorem putLim_any (n x : Int) (c : Bool) (most : Int) (m : Nat) (hm : (limZ n x c most).length = m) (h0 : 0 ≤ n ∧ n ≤ 4294967295) (h1 : 0 ≤ x ∧ x ≤ 4294967295) (w : World) :
  Calls Tryz.prog 196 #[.agg #[.int .u32 n, .int .u32 x, .bool c], .int .u32 most] w (PutRes w (limZ n x c most) m (codeLim n x c most)) := by
 by_cases h : okLim n x c most = true
 ·have e1 : limZ n x c most = limL n x c := by unfold limZ; rw [if_pos h]
  have e2 : codeLim n x c most = 0 := by unfold codeLim; rw [if_pos h]
  rw [e1] at hm; rw [e1, e2]
  cases c
  ·exact (putLimits_plain n x most h h0 w).mono fun e w' he => putRes_ok hm (limL_bytes _ _ _) (limL_le _ _ _) he
  ·exact (putLimits_capped n x most h h0 h1 w).mono fun e w' he => putRes_ok hm (limL_bytes _ _ _) (limL_le _ _ _) he
 ·have h' : okLim n x c most = false := by simpa using h
  have e1 : limZ n x c most = [] := by unfold limZ; rw [h']; rfl
  have e2 : codeLim n x c most = 2 := by unfold codeLim; rw [h']; rfl
  rw [e1] at hm; rw [e1, e2]
  obtain rfl : m = 0 := by simpa using hm.symm
  exact (putLimits_no n x c most h' w).mono fun e w' he => putRes_no he
theorem refPutLim_any (n x : Int) (c : Bool) (most : Int) (m : Nat) (hm : (limZ n x c most).length = m) (h0 : 0 ≤ n ∧ n ≤ 4294967295) (h1 : 0 ≤ x ∧ x ≤ 4294967295) (w : World) :
  Calls Tryz.prog 116 #[.agg #[.int .u32 n, .int .u32 x, .bool c], .int .u32 most] w (PutRes w (limZ n x c most) m (codeLim n x c most)) := by
 by_cases h : okLim n x c most = true
 ·have e1 : limZ n x c most = limL n x c := by unfold limZ; rw [if_pos h]
  have e2 : codeLim n x c most = 0 := by unfold codeLim; rw [if_pos h]
  rw [e1] at hm; rw [e1, e2]
  cases c
  ·exact (refPutLimits_plain n x most h h0 w).mono fun e w' he => putRes_ok hm (limL_bytes _ _ _) (limL_le _ _ _) he
  ·exact (refPutLimits_capped n x most h h0 h1 w).mono fun e w' he => putRes_ok hm (limL_bytes _ _ _) (limL_le _ _ _) he
 ·have h' : okLim n x c most = false := by simpa using h
  have e1 : limZ n x c most = [] := by unfold limZ; rw [h']; rfl
  have e2 : codeLim n x c most = 2 := by unfold codeLim; rw [h']; rfl
  rw [e1] at hm; rw [e1, e2]
  obtain rfl : m = 0 := by simpa using hm.symm
  exact (refPutLimits_no n x c most h' w).mono fun e w' he => putRes_no he
end Go.Proofs.YtepbjkkakfpjgaaGreatDoor.Kind
namespace Go.Proofs.YtepbjkkakfpjgaaGreatDoor.Enc
open Go.RowKit Go.Proofs.YtepbjkkakfpjgaaGreatDoor.Instr Leb Go.Proofs.YtepbjkkakfpjgaaGreatDoor.Mod
open Go.Proofs.YtepbjkkakfpjgaaGreatDoor.Body (encL codeL)
def insB (l : Lst) : List Int := Body.encP l.t
def nameB (s : ByteArray) : List Int := encU s.size ++ numsOf s
def tyB (x : Int × Int) : List Int := Kind.typeL x.1 x.2
def impB (i : Imp) : List Int := nameB i.mo ++ (nameB i.na ++ (0 :: encU i.ty))
def fnB (f : Mod.Fn) : List Int := encU f.ty
def tbB (l : Li) : List Int := 112 :: Kind.limL l.n l.x l.c
def meB (l : Li) : List Int := Kind.limL l.n l.x l.c
def glB (g : Gl) : List Int := 127 :: (if g.mu then 1 else 0) :: insB g.l
def exB (e : Ex) : List Int := nameB e.na ++ (e.k :: encU e.i)
def elB (e : El) : List Int := 0 :: (insB e.l ++ (encU e.fs.length ++ e.fs.flatMap encU))
def coB (f : Mod.Fn) : List Int := encU (codeL f.lo f.l.t).length ++ codeL f.lo f.l.t
def daB (d : Da) : List Int := 0 :: (insB d.l ++ (encU d.bs.length ++ d.bs))
def lstB {α : Type} (f : α → List Int) (l : List α) : List Int := if l.length = 0 then [] else encU l.length ++ l.flatMap f
def secB (m : Md) : Nat → List Int
 | 0 => lstB tyB m.ty
 | 1 => lstB impB m.im
 | 2 => lstB fnB m.fu
 | 3 => lstB tbB m.tb
 | 4 => lstB meB m.me
 | 5 => lstB glB m.gl
 | 6 => lstB exB m.ex
 | 7 => if m.st then encU m.sn else []
 | 8 => lstB elB m.el
 | 9 => lstB coB m.fu
 | 10 => lstB daB m.da
 | _ => []
def pieceB (m : Md) (k : Nat) : List Int := if secB m k = [] then [] else ((k + 1 : Nat) : Int) :: (encU (secB m k).length ++ secB m k)
def headB : List Int := [0, 97, 115, 109, 1, 0, 0, 0]
def uptoB (m : Md) (k : Nat) : List Int := headB ++ (List.range k).flatMap (pieceB m)
def modB (m : Md) : List Int := uptoB m 11
theorem upto_succ (m : Md) (k : Nat) : uptoB m (k + 1) = uptoB m k ++ pieceB m k := by
 unfold uptoB
 rw [List.range_succ, List.flatMap_append, List.append_assoc]
 simp
theorem flat_step {α : Type} (f : α → List Int) {l : List α} {k : Nat} (hk : k < l.length) : (l.take (k + 1)).flatMap f = (l.take k).flatMap f ++ f l[k] := by
 rw [List.take_succ_eq_append_getElem hk, List.flatMap_append]
 simp
theorem encL_bareE : ∀ t : Il, encL t.bare = encL t
 | .nil => rfl
 | .cons x l e r => by
  have h : Body.encRest x.bare = Body.encRest x := rfl
  simp only [Il.bare, encL, h, encL_bareE l, encL_bareE e, encL_bareE r]
  rfl
theorem insB_bare (l : Lst) : insB l.bare = insB l := by
 unfold insB Body.encP Lst.bare
 rw [encL_bareE]
theorem codeL_bareE (n : Int) (t : Il) : codeL n t.bare = codeL n t := by
 unfold codeL Body.encP
 rw [encL_bareE]
theorem lstB_map {α : Type} (f : α → List Int) (g : α → α) (h : ∀ x, f (g x) = f x) (l : List α) : lstB f (l.map g) = lstB f l := by
 unfold lstB
 rw [List.length_map, List.flatMap_map]
 simp only [h]
theorem secB_bare (m : Md) (k : Nat) : secB m.bare k = secB m k := by
 match k with
 | 0 => simp only [secB]; rfl
 | 1 => simp only [secB]; rfl
 | 2 => simp only [secB]; exact lstB_map fnB Mod.Fn.bare (fun _ => rfl) m.fu
 | 3 => simp only [secB]; rfl
 | 4 => simp only [secB]; rfl
 | 5 => simp only [secB]; exact lstB_map glB Gl.bare (fun x => by unfold glB; rw [show (Gl.bare x).l = x.l.bare from rfl, insB_bare]; rfl) m.gl
 | 6 => simp only [secB]; rfl
 | 7 => simp only [secB]; rfl
 | 8 => simp only [secB]; exact lstB_map elB El.bare (fun x => by unfold elB; rw [show (El.bare x).l = x.l.bare from rfl, insB_bare]; rfl) m.el
 | 9 => simp only [secB]; exact lstB_map coB Mod.Fn.bare (fun x => by unfold coB; rw [show (Mod.Fn.bare x).l.t = x.l.t.bare from rfl, codeL_bareE]; rfl) m.fu
 | 10 => simp only [secB]; exact lstB_map daB Da.bare (fun x => by unfold daB; rw [show (Da.bare x).l = x.l.bare from rfl, insB_bare]; rfl) m.da
 | n + 11 => simp [secB]
theorem secB_core {a b : Md} (h : a.bare = b.bare) (k : Nat) : secB a k = secB b k := by rw [← secB_bare a, h, secB_bare]
theorem modB_core {a b : Md} (h : a.bare = b.bare) : modB a = modB b := by
 have : pieceB a = pieceB b := by
  funext k
  unfold pieceB
  rw [secB_core h]
 unfold modB uptoB
 rw [this]
end Go.Proofs.YtepbjkkakfpjgaaGreatDoor.Enc
namespace Go.Proofs.YtepbjkkakfpjgaaGreatDoor.Enc
open Go.RowKit
open Go.Proofs.YtepbjkkakfpjgaaGreatDoor.Body (Grew)
structure Buf (g B : Nat) (v0 : Value) (w0 : World) (v : Value) (zs : List Int) (w : World) : Prop where
 c : w.cell? ⟨g, 0, none⟩ = some v
 f : w.frozen? ⟨g, 0, none⟩ = false
 own : Own B w v zs
 touch : Touch (fun j => j = g ∨ v0.ownBlock = some j) w0 w
 rest : ∀ j, j ≠ 0 → w.cell? ⟨g, j, none⟩ = w0.cell? ⟨g, j, none⟩
 new : ∀ q, v.ownBlock = some q → v0.ownBlock = some q ∨ w0.heap.size ≤ q
 sep : v.ownBlock ≠ some g
 low : g ≤ B + 1
 lowB : B ≤ w0.heap.size
 gl : g < w0.heap.size
 full : Full v0 w0 → Full v w
theorem Buf.start {g B : Nat} {v : Value} {zs : List Int} {w : World} (c : w.cell? ⟨g, 0, none⟩ = some v) (f : w.frozen? ⟨g, 0, none⟩ = false) (own : Own B w v zs) (sep : v.ownBlock ≠ some g) (low : g ≤ B + 1) (lowB : B ≤ w.heap.size) : Buf g B v w v zs w :=
 ⟨c, f, own, .refl _ _, fun _ _ => rfl, fun _ h => .inl h, sep, low, lowB, World.block_lt_of_cell? w _ c, id⟩
theorem Buf.again {g B : Nat} {v0 v : Value} {zs : List Int} {w0 w : World} (h : Buf g B v0 w0 v zs w) : Buf g B v w v zs w := .start h.c h.f h.own h.sep h.low (Nat.le_trans h.lowB h.touch.size)
theorem Buf.lt {g B : Nat} {v0 v : Value} {zs : List Int} {w0 w : World} (h : Buf g B v0 w0 v zs w) : g < w.heap.size := World.block_lt_of_cell? w _ h.c
theorem Buf.ne {g B : Nat} {v0 v : Value} {zs : List Int} {w0 w : World} (h : Buf g B v0 w0 v zs w) : ¬ v.ownBlock = some g := h.sep
theorem Buf.trans {g B : Nat} {v0 v1 v2 : Value} {xs zs : List Int} {w0 w1 w2 : World} (h : Buf g B v0 w0 v1 xs w1) (k : Buf g B v1 w1 v2 zs w2) : Buf g B v0 w0 v2 zs w2 := by
 refine ⟨k.c, k.f, k.own, ⟨k.touch.os.trans h.touch.os, k.touch.tape.trans h.touch.tape, k.touch.output.trans h.touch.output, Nat.le_trans h.touch.size k.touch.size, fun j hj hk => ?_⟩, fun j hj => (k.rest j hj).trans (h.rest j hj), fun q hq => ?_, k.sep, h.low, h.lowB, h.gl, fun a => k.full (h.full a)⟩
 ·refine (k.touch.block j (Nat.lt_of_lt_of_le hj h.touch.size) (fun e => ?_)).trans (h.touch.block j hj hk)
  rcases e with e | e
  ·exact hk (.inl e)
  ·rcases h.new j e with e | e
   ·exact hk (.inr e)
   ·omega
 ·rcases k.new q hq with e | e
  ·exact h.new q e
  ·exact .inr (Nat.le_trans h.touch.size e)
theorem Buf.on {g B : Nat} {v0 v : Value} {zs : List Int} {w0 w w' : World} (h : Buf g B v0 w0 v zs w) (hb : Below w.heap.size w w') : Buf g B v0 w0 v zs w' := by
 refine ⟨keep hb h.c, (hb.frozen (p := ⟨g, 0, none⟩) h.lt).trans h.f, h.own.below hb, h.touch.trans (Touch.of_below hb), fun j hj => ?_, h.new, h.sep, h.low, h.lowB, h.gl, fun a => (h.full a).below hb⟩
 exact (hb.cell (p := ⟨g, j, none⟩) h.lt).trans (h.rest j hj)
theorem Buf.put {g B : Nat} {v0 v v' : Value} {xs zs : List Int} {w0 w w' : World} (h : Buf g B v0 w0 v xs w) (k : Grew B v w v' zs w') (kf : Full v w → Full v' w') : Buf g B v0 w0 v' zs (w'.setCell ⟨g, 0, none⟩ v') := by
 have hg : g < w'.heap.size := Nat.lt_of_lt_of_le h.lt k.touch.size
 have hsep : v'.ownBlock ≠ some g := fun e => by
  rcases k.new _ e with e | e
  ·exact h.sep e
  ·have := h.lt; omega
 have hcell : ∀ j, w'.cell? ⟨g, j, none⟩ = w.cell? ⟨g, j, none⟩ := fun j => World.cell?_of_block (k.touch.block g h.lt h.ne)
 have hfr : w'.frozen? ⟨g, 0, none⟩ = false := (World.frozen?_of_block (w := w) (k.touch.block g h.lt h.ne)).trans h.f
 have t1 : Touch (fun j => j = g ∨ v.ownBlock = some j) w (w'.setCell ⟨g, 0, none⟩ v') := (k.touch.mono (fun j hj => .inr hj)).setCell (.inl (.inl rfl)) v'
 refine ⟨World.cell?_setCell_same' _ _ _ (by rw [hcell 0, h.c]; rfl), by rw [World.frozen?_setCell]; exact hfr, touch_row k.own ((Touch.refl (fun j => j = g) w').setCell (.inl rfl) v') (fun q hq e => hsep (by rw [hq, e])), ⟨t1.os.trans h.touch.os, t1.tape.trans h.touch.tape, t1.output.trans h.touch.output, Nat.le_trans h.touch.size t1.size, fun j hj hk => ?_⟩, fun j hj => ?_, fun q hq => ?_, hsep, h.low, h.lowB, h.gl, fun a => (kf (h.full a)).touch ((Touch.refl (fun j => j = g) w').setCell (.inl rfl) v') (fun q hq e => hsep (by rw [hq, e]))⟩
 ·refine (t1.block j (Nat.lt_of_lt_of_le hj h.touch.size) (fun e => ?_)).trans (h.touch.block j hj hk)
  rcases e with e | e
  ·exact hk (.inl e)
  ·rcases h.new j e with e | e
   ·exact hk (.inr e)
   ·omega
 ·refine Eq.trans ?_ ((hcell j).trans (h.rest j hj))
  exact World.cell?_setCell_other _ _ _ _ (by intro e; simp only [Addr.mk.injEq, true_and, and_true] at e; exact hj e.symm)
 ·rcases k.new q hq with e | e
  ·exact h.new q e
  ·exact .inr (Nat.le_trans h.touch.size e)
theorem Buf.old {g B : Nat} {v0 v v' : Value} {xs zs : List Int} {w0 w w' : World} (h : Buf g B v0 w0 v xs w) (k : Grew B v w v' zs w') : w'.cell? ⟨g, 0, none⟩ = some v ∧ w'.frozen? ⟨g, 0, none⟩ = false :=
 ⟨(World.cell?_of_block (k.touch.block g h.lt h.ne)).trans h.c, (World.frozen?_of_block (w := w) (k.touch.block g h.lt h.ne)).trans h.f⟩
theorem Buf.below {g B n : Nat} {v0 v : Value} {zs : List Int} {w0 w : World} (h : Buf g B v0 w0 v zs w) (hg : n ≤ g) (hv : ∀ q, v0.ownBlock = some q → n ≤ q) : Below n w0 w :=
 h.touch.below (Nat.le_trans hg (Nat.le_of_lt h.gl)) (fun j hj => by rcases hj with rfl | hj; exact hg; exact hv j hj)
def Puts (g B : Nat) (v : Value) (w : World) (zs : List Int) (e : Ending) (w' : World) : Prop := e = .returned (.tuple #[]) ∧ ∃ v', Buf g B v w v' zs w'
end Go.Proofs.YtepbjkkakfpjgaaGreatDoor.Enc
namespace Go.Proofs.YtepbjkkakfpjgaaGreatDoor.Enc
open Go.RowKit Leb
open Go.Proofs.YtepbjkkakfpjgaaGreatDoor.Body (Grew)
theorem run_append_two (t t2 ty e e2 : TypeId) (ht : Tryz.prog.underlying t = some (.slice e)) (ht2 : Tryz.prog.underlying t2 = some (.slice e2)) (s x : Value) (w : World) :
  (Builtin.append_ #[t, t2] ty #[s, x]).run Tryz.prog w = (Builtin.append_ #[t, t] ty #[s, x]).run Tryz.prog w := by
 cases s <;> simp [Builtin.append_, run_underlying ht, run_underlying ht2, sizeOf, typeInfo]
theorem run_puts (t2 e2 ty : TypeId) (ht2 : Tryz.prog.underlying t2 = some (.slice e2)) {B : Nat} {wr : World} {v : Value} {xs ys : List Int} (hown : Own B wr v xs) (hB : B ≤ wr.heap.size)
  (a : Option Addr) (n c : Nat) (hn : ys.length = n) (hy : Bytes wr a ys) (hl : xs.length + ys.length ≤ 140737488351232) :
  ∃ v' w', (Builtin.append_ #[76, t2] ty #[v, .slice a n c]).run Tryz.prog wr = .ok v' w' ∧ Grew B v wr v' (xs ++ ys) w' ∧ (Full v wr → Full v' w') := by
 obtain ⟨i0, hi, hz0, hz1, hz2⟩ := info_parts infoByte
 subst hn
 rw [run_append_two _ t2 _ _ e2 Tryz.underlying76 ht2]
 have fin : ∀ (v' : Value) (w' : World), w'.ownsRow B 5 1 v' (xs.length + ys.length) (xs.map (Value.int .u8) ++ ys.map (Value.int .u8)) → wr.grownBy w' v.ownBlock → (v'.ownBlock = v.ownBlock ∨ v'.ownBlock = some wr.heap.size) → Grew B v wr v' (xs ++ ys) w' := by
  intro v' w' h1 h2 h3
  refine ⟨by unfold Own; rw [List.length_append, List.map_append]; exact h1, Touch.of_grown h2, fun g hg => ?_⟩
  rcases h3 with h3 | h3
  ·exact .inl (by rw [← h3]; exact hg)
  ·rw [h3, Option.some.injEq] at hg; exact .inr (by omega)
 cases a with
 | none =>
  have h0 : ys = [] := by
   rcases hy.at_ with h | ⟨b, off, h, _⟩
   ·exact h
   ·cases h
  subst h0
  refine ⟨v, wr, ?_, by rw [List.append_nil]; exact Grew.refl hown, id⟩
  rcases hown.2 with ⟨rfl, h0⟩ | ⟨g, cap, cur, rfl, _, _, hnc, _⟩
  ·simp [Builtin.append_, run_underlying Tryz.underlying76, sizeOf, typeInfo, hi, Builtin.lenOf, Builtin.firstCells]
  ·simp [Builtin.append_, run_underlying Tryz.underlying76, sizeOf, typeInfo, hi, Builtin.lenOf, Builtin.firstCells, hnc, storeCells]
 | some ad =>
  have hnews : ∀ (j : Nat) (u : Value), (ys.map (Value.int .u8))[j]? = some u → wr.cell? (ad.add j) = some u := by
   intro j u hj
   have hjl : j < ys.length := by
    rcases Nat.lt_or_ge j ys.length with h | h
    ·exact h
    ·rw [List.getElem?_eq_none (by simpa using h)] at hj; cases hj
   rcases hy.at_ with h | ⟨b, off, h, hc⟩
   ·subst h; exact absurd hjl (by simp)
   ·obtain rfl := Option.some.inj h
    have hplain : (⟨b, off, none⟩ : Addr).add j = ⟨b, off + j, none⟩ := by unfold Addr.add; split <;> simp_all
    rw [hplain, hc j hjl]
    rw [← hj, getD_lt hjl]; simp [hjl]
  obtain ⟨v', w', hr, h2, h3, _, h5⟩ := run_append_own_at (P := Tryz.prog) wr B 76 ty 5 i0 (.int .u8 0) 1 1 Tryz.underlying76 hi hz0 hz1 hz2 rfl (by decide) v xs.length _ hown ad ys.length c (ys.map (Value.int .u8)) (by simp)
   hnews (fun u hu => by obtain ⟨n, _, rfl⟩ := List.mem_map.1 hu; rfl) (by unfold maxLen; omega) (by omega) hB
  exact ⟨v', w', hr, fin v' w' h2 h3 h5, fun hF => append_full _ ty Tryz.underlying76 hown ad ys.length c rfl hnews hl hr hF⟩
section
variable {ops : Array Oper} {rest : List Oper} {o : Oper} {act : Act} {Q : Exit → Act → World → Prop}
theorem puts_wp (t2 e2 : TypeId) (ht2 : Tryz.prog.underlying t2 = some (.slice e2)) (hgd : o.guard = none) (s x : Operand) (ho : o.op = .call { callee := .builtin .append, args := #[s, x], argTypes := #[76, t2] })
  {B : Nat} {wr : World} {v : Value} {xs ys : List Int} (hs : act.eval s = v) (hown : Own B wr v xs) (hB : B ≤ wr.heap.size)
  (a : Option Addr) (n c : Nat) (hx : act.eval x = .slice a n c) (hn : ys.length = n) (hy : Bytes wr a ys) (hl : xs.length + ys.length ≤ 140737488351232)
  (h : ∀ v' w', Grew B v wr v' (xs ++ ys) w' → (Full v wr → Full v' w') → wpList Tryz.prog ops Q rest (act.put o.dst v') w') :
  wpList Tryz.prog ops Q (o :: rest) act wr := by
 refine wpList_plain hgd fun K hK => ?_
 obtain ⟨v', w', hr, hg, hgf⟩ := run_puts t2 e2 o.type ht2 hown hB a n c hn hy hl
 unfold Oper.wp
 simp [execOp, ho, resolve, invoke, builtin, hs, hx, hr, Result.andThen]
 exact hK _ _ (h v' w' hg hgf)
end
section
variable {ops : Array Oper} {o : Oper} {act : Act} {K : Act → World → Prop} {Q : Exit → Act → World → Prop} {E : Prop}
theorem puts_step (t2 e2 : TypeId) (ht2 : Tryz.prog.underlying t2 = some (.slice e2)) (hgd : o.guard = none) (s x : Operand) (ho : o.op = .call { callee := .builtin .append, args := #[s, x], argTypes := #[76, t2] })
  {B : Nat} {wr : World} {v : Value} {xs ys : List Int} (hs : act.eval s = v) (hown : Own B wr v xs) (hB : B ≤ wr.heap.size)
  (a : Option Addr) (n c : Nat) (hx : act.eval x = .slice a n c) (hn : ys.length = n) (hy : Bytes wr a ys) (hl : xs.length + ys.length ≤ 140737488351232)
  (h : ∀ v' w', Grew B v wr v' (xs ++ ys) w' → (Full v wr → Full v' w') → K (act.put o.dst v') w') :
  if Region.wanted o (yielded ops act.tmps) = true then Oper.wp Tryz.prog o act wr K Q else E := by
 have hw : Region.wanted o (yielded ops act.tmps) = true := by simp [Region.wanted, hgd]
 rw [if_pos hw]
 obtain ⟨v', w', hr, hg, hgf⟩ := run_puts t2 e2 o.type ht2 hown hB a n c hn hy hl
 unfold Oper.wp
 simp [execOp, ho, resolve, invoke, builtin, hs, hx, hr, Result.andThen]
 exact h v' w' hg hgf
end
theorem lit_byte (w : World) (z : Int) (t : TypeId) (g : Nat) (hg : g = w.heap.size) (hz : 0 ≤ z ∧ z < 256) : Bytes (w.alloc (.cells #[.int .u8 z] t)) (some ⟨g, 0, none⟩) [z] := by
 subst hg
 exact ⟨by simpa using hz, by simp, .inr ⟨_, 0, rfl, fun i hi => by
   have : i = 0 := by simpa using hi
   subst this
   simp [go_sem]⟩⟩
theorem Buf.lit {g B : Nat} {v0 v : Value} {zs : List Int} {w0 w : World} (h : Buf g B v0 w0 v zs w) (o : Obj) : Buf g B v0 w0 v zs (w.alloc o) := h.on ((Below.refl _ _).alloc (Nat.le_refl _) o)
set_option maxRecDepth 100000 in
set_option maxHeartbeats 1000000 in
theorem byte_any (g B : Nat) (v : Value) (xs : List Int) (z : Int) (w : World) (h : Buf g B v w v xs w) (hz : 0 ≤ z ∧ z < 256) (hl : xs.length ≤ 2000000000) :
  Calls Tryz.prog 34 #[.pointer (some ⟨g, 0, none⟩), .int .u8 z] w (Puts g B v w (xs ++ [z])) := by
 have H := hid h
 have H1 := hid (h.lit (.cells #[.int .u8 z] 5))
 have c0 := h.c
 have f0 := h.f
 have LB := hid (lit_byte w z 5 w.heap.size rfl hz)
 have HL := hid (show xs.length + [z].length ≤ 140737488351232 by simp; omega)
 clear h hz hl
 go_enter Tryz.func34, Tryz.ntmps34
 go_wp2_with (first
   | (at_builtin; refine puts_wp (ys := [z]) 76 5 Tryz.underlying76 rfl (.tmp 7) (.tmp 9) rfl rfl H1.out.own (Nat.le_trans H1.out.lowB H1.out.touch.size) _ 1 1 rfl rfl LB.out HL.out ?_; intro v1 w1 hg hgf; obtain ⟨c1, f1⟩ := H1.out.old hg; have HN := hid hg.own; obtain ⟨N, hN⟩ : ∃ N, (xs ++ [z]).length = N := ⟨_, rfl⟩; obtain ⟨a1, q1, rfl⟩ := HN.out.sliceN hN; have HG := hid (H1.out.put hg hgf); clear hg hgf c0 f0 HN hN))
 go_end0
 exact ⟨rfl, _, HG.out⟩
set_option maxRecDepth 100000 in
set_option maxHeartbeats 1000000 in
theorem put_anyE (g B : Nat) (v : Value) (xs ys : List Int) (a : Option Addr) (n c : Nat) (e : Int) (w : World) (h : Buf g B v w v xs w) (hn : ys.length = n) (hy : Bytes w a ys) (hl : xs.length + ys.length ≤ 2000000000) :
  Calls Tryz.prog 193 #[.pointer (some ⟨g, 0, none⟩), .slice a n c, .int .i64 e] w (Puts g B v w (xs ++ ys)) := by
 have H := hid h
 have c0 := h.c
 have f0 := h.f
 have LB := hid hy
 have LN := hid hn
 have HL := hid (show xs.length + ys.length ≤ 140737488351232 by omega)
 clear h hy hl hn
 go_enter Tryz.func193, Tryz.ntmps193
 go_wp2_with (first
   | (at_builtin; refine puts_wp (ys := ys) 35 5 Tryz.underlying35 rfl (.tmp 9) (.tmp 10) rfl rfl H.out.own (Nat.le_trans H.out.lowB H.out.touch.size) a n c rfl LN.out LB.out HL.out ?_; intro v1 w1 hg hgf; obtain ⟨c1, f1⟩ := H.out.old hg; have HN := hid hg.own; obtain ⟨N, hN⟩ : ∃ N, (xs ++ ys).length = N := ⟨_, rfl⟩; obtain ⟨a1, q1, rfl⟩ := HN.out.sliceN hN; have HG := hid (H.out.put hg hgf); clear hg hgf c0 f0 HN hN))
 go_end0
 exact ⟨rfl, _, HG.out⟩
set_option maxRecDepth 100000 in
set_option maxHeartbeats 2000000 in
theorem number_any (g B : Nat) (v : Value) (xs : List Int) (z : Int) (w : World) (h : Buf g B v w v xs w) (h0 : 0 ≤ z) (h1 : z < 4294967296) (hl : xs.length ≤ 2000000000) :
  Calls Tryz.prog 110 #[.pointer (some ⟨g, 0, none⟩), .int .u32 z] w (Puts g B v w (xs ++ encU z)) := by
 have H := hid h
 have P := hid (fun W => putU_any z W h0 h1)
 have HBY := hid (encU_bytes z)
 have HEL := hid (show (encU z).length ≤ 5 from by rw [encU_length]; exact (sizeU_pos z).2)
 have HL := hid hl
 have c0 := h.c
 have f0 := h.f
 have HD := hid ((Below.refl w.heap.size w).drew)
 obtain ⟨ys, hys⟩ : ∃ ys, encU z = ys := ⟨_, rfl⟩
 rw [hys] at P HBY HEL ⊢
 clear h hl hys
 go_enter Tryz.func110, Tryz.ntmps110
 go_wp2
 have hd := (Below.refl w.heap.size w).drew
 have H0 := hid (H.out.on hd)
 clear hd
 go_region_law
  (first
    | (refine puts_step (ys := ys) 35 5 Tryz.underlying35 rfl (.tmp 7) (.tmp 9) rfl rfl H2.out.own (Nat.le_trans H2.out.lowB H2.out.touch.size) _ _ _ rfl HN2.out HY2.out HL2.out ?_; intro v3 w3 hg hgf; obtain ⟨c3, f3⟩ := H2.out.old hg; have HN := hid hg.own; obtain ⟨N, hN⟩ : ∃ N, (xs ++ ys).length = N := ⟨_, rfl⟩; obtain ⟨a1, q1, rfl⟩ := HN.out.sliceN hN; have HG := hid (H2.out.put hg hgf); clear hg hgf HN hN)
    | (go_simp; go_at_call 175; refine (P.out _).mono ?_; rintro e1 w2 ⟨v2, rfl, ho2, hb2⟩; obtain ⟨n2, hn2⟩ : ∃ n, ys.length = n := ⟨_, rfl⟩; have HN2 := hid hn2; have ho3 := ho2; obtain ⟨a2, q2, rfl⟩ := ho3.sliceN hn2; have HY2 := hid (ho2.bytes HBY.out (by have := HEL.out; omega)); have H2 := hid (H0.out.on hb2); have c2 := H2.out.c; have f2 := H2.out.f; have HL2 := hid (show xs.length + ys.length ≤ 140737488351232 by have := HEL.out; have := HL.out; omega); clear ho2 ho3 hb2 hn2))
 all_goals
  go_end0
  exact ⟨rfl, _, HG.out⟩
theorem Bytes.touchE {S : Nat → Prop} {w w' : World} {a : Option Addr} {zs : List Int} (h : Bytes w a zs) (ht : Touch S w w') (hk : ∀ b off, a = some ⟨b, off, none⟩ → zs ≠ [] → ¬ S b) : Bytes w' a zs := by
 refine ⟨h.byte, h.size, ?_⟩
 by_cases h9 : zs = []
 ·exact .inl h9
 ·rcases h.at_ with h0 | ⟨b, off, rfl, hc⟩
  ·exact .inl h0
  ·exact .inr ⟨b, off, rfl, fun i hi => ht.cell (hk b off rfl h9) (hc i hi)⟩
set_option maxRecDepth 100000 in
set_option maxHeartbeats 2000000 in
theorem sized_any (g B : Nat) (v : Value) (xs ys : List Int) (a : Option Addr) (n c : Nat) (w : World) (h : Buf g B v w v xs w) (hn : ys.length = n) (hy : Bytes w a ys) (hl : xs.length + ys.length ≤ 1500000000)
  (hs : ∀ b off, a = some ⟨b, off, none⟩ → ys ≠ [] → ¬ (b = g ∨ v.ownBlock = some b)) :
  Calls Tryz.prog 35 #[.pointer (some ⟨g, 0, none⟩), .slice a n c] w (Puts g B v w (xs ++ (encU n ++ ys))) := by
 have H := hid h
 have hn4 : (n : Int) < 4294967296 := by omega
 have hw : IntKind.u32.wrap (n : Int) = n := by rw [IntKind.wrap_u32]; omega
 have P := hid (number_any g B v xs n w h (by omega) hn4 (by omega))
 have HEL := hid (show (encU n).length ≤ 5 from by rw [encU_length]; exact (sizeU_pos n).2)
 have HL := hid hl
 have LB := hid (fun w' (ht : Touch (fun j => j = g ∨ v.ownBlock = some j) w w') => Bytes.touchE hy ht hs)
 have LN := hid hn
 obtain ⟨zs, hzs⟩ : ∃ zs, encU n = zs := ⟨_, rfl⟩
 rw [hzs] at P HEL ⊢
 have e : xs ++ (zs ++ ys) = (xs ++ zs) ++ ys := by rw [List.append_assoc]
 rw [e]
 clear h hl hy hn hs hzs e
 go_enter Tryz.func35, Tryz.ntmps35
 go_wp2_with fail
 refine P.out.mono ?_
 rintro e1 w1 ⟨rfl, v1, hb⟩
 have H1 := hid hb
 have LB1 := hid (LB.out w1 hb.touch)
 have c1 := hb.c
 have f1 := hb.f
 have HL1 := hid (show (xs ++ zs).length + ys.length ≤ 140737488351232 by rw [List.length_append]; have := HL.out; have := HEL.out; omega)
 clear P hb LB
 go_wp2_with (first
   | (at_builtin; refine puts_wp (ys := ys) 35 5 Tryz.underlying35 rfl (.tmp 12) (.tmp 13) rfl rfl H1.out.own (Nat.le_trans H1.out.lowB H1.out.touch.size) a n c rfl LN.out LB1.out HL1.out ?_; intro v2 w2 hg hgf; obtain ⟨c2, f2⟩ := H1.out.old hg; have HN := hid hg.own; obtain ⟨N, hN⟩ : ∃ N, (xs ++ zs ++ ys).length = N := ⟨_, rfl⟩; obtain ⟨a1, q1, rfl⟩ := HN.out.sliceN hN; have HG := hid (H1.out.put hg hgf); clear hg hgf c1 f1 HN hN))
 go_end0
 exact ⟨rfl, _, HG.out⟩
end Go.Proofs.YtepbjkkakfpjgaaGreatDoor.Enc
namespace Go.Proofs.YtepbjkkakfpjgaaGreatDoor.Utf
open Go.RowKit Leb
set_option maxHeartbeats 1600000 in
theorem Put_good (zs : List Int) (hz : ∀ z ∈ zs, 0 ≤ z ∧ z < 256) (w : World) (hT : Tabs w) (hlong : zs.length ≤ 1048576) (hgood : (scan zs).2 = zs.length) :
  Calls Tryz.prog 195 #[.string (strOfNums zs)] w fun e w' => ∃ v, e = .returned (.tuple #[v, .int .i64 0]) ∧ Own w.heap.size w' v (encU zs.length ++ zs) ∧ Below w.heap.size w w' := by
 have hs : (strOfNums zs).size = zs.length := strOfNums_size zs
 have HB := hid (bad_any zs hz w hT)
 have HL := hid (badL_none hgood)
 have hw : wrap64 (zs.length : Int) = zs.length := by unfold wrap64; omega
 have HZ := hid hz
 have hsu := sizeU_pos zs.length
 clear hz hT hgood
 go_enter Tryz.func195, Tryz.ntmps195
 go_wp2_with fail
 refine HB.out.mono ?_
 rw [HL.out]
 rintro e w1 ⟨rfl, hb1⟩
 go_wp2_with fail
 refine (putU_any zs.length _ (by omega) (by omega)).mono ?_
 rintro e w2 ⟨v, rfl, ho, hb2⟩
 obtain ⟨a3, c3, rfl⟩ := ho.sliceN (encU_length zs.length)
 have hs2 := hb2.size
 clear HB HL
 go_wp2_with (first | (at_builtin; refine append_str rfl (.tmp 13) (.tmp 14) rfl rfl ho hb2 hs2 rfl HZ.out (by rw [encU_length]; omega) ?_; intro v' w3 ho3 hb3 hs3))
 exact bodyPost_ret (v := .tuple #[v', .int .i64 0]) (by simp [results, Tryz.results195, go_sem]) rfl ⟨v', rfl, ho3.mono (by have := hb1.size; omega), thenB hb1 hb3⟩
end Go.Proofs.YtepbjkkakfpjgaaGreatDoor.Utf
namespace Go.Proofs.YtepbjkkakfpjgaaGreatDoor.Enc
open Go.RowKit Leb Go.Proofs.YtepbjkkakfpjgaaGreatDoor.Instr Go.Proofs.YtepbjkkakfpjgaaGreatDoor.Mod
open Go.Proofs.YtepbjkkakfpjgaaGreatDoor.Body (encL codeL PutP)
def GotB (w : World) (zs : List Int) (n : Nat) (e : Ending) (w' : World) : Prop := ∃ a c, e = .returned (.tuple #[.slice a n c, .int .i64 0]) ∧ Bytes w' a zs ∧ Below w.heap.size w w' ∧ zs.length = n
theorem got_own {w w' : World} {zs : List Int} {n : Nat} {e : Ending} (hn : zs.length = n) (hz : ∀ z ∈ zs, 0 ≤ z ∧ z < 256) (hl : zs.length ≤ 140737488351232) (h : ∃ v, e = .returned (.tuple #[v, .int .i64 0]) ∧ Own w.heap.size w' v zs ∧ Below w.heap.size w w') : GotB w zs n e w' := by
 obtain ⟨v, rfl, ho, hb⟩ := h
 obtain ⟨a, c, rfl⟩ := ho.sliceN hn
 exact ⟨a, c, rfl, ho.bytes hz hl, hb, hn⟩
theorem type_got (x : Int × Int) (h : Kind.okType x.1 x.2 = true) (n : Nat) (hn : (tyB x).length = n) (w : World) : Calls Tryz.prog 194 #[.agg #[.int .i64 x.1, .int .i64 x.2]] w (GotB w (tyB x) n) := by
 have e1 : Kind.putZ x.1 x.2 = tyB x := by unfold Kind.putZ tyB; rw [if_pos h]
 have e2 : Kind.codeType x.1 x.2 = 0 := by unfold Kind.codeType; rw [if_pos h]
 have := Kind.put_any x.1 x.2 n (by rw [e1]; exact hn) w
 rw [e1, e2] at this
 exact this.mono fun e w' ⟨a, q, he, hb, _, hB⟩ => ⟨a, q, he, hb, hB, hn⟩
theorem lim_got (l : Li) (most : Int) (h : Kind.okLim l.n l.x l.c most = true) (h0 : 0 ≤ l.n ∧ l.n ≤ 4294967295) (h1 : 0 ≤ l.x ∧ l.x ≤ 4294967295) (n : Nat) (hn : (meB l).length = n) (w : World) :
  Calls Tryz.prog 196 #[.agg #[.int .u32 l.n, .int .u32 l.x, .bool l.c], .int .u32 most] w (GotB w (meB l) n) := by
 have e1 : Kind.limZ l.n l.x l.c most = meB l := by unfold Kind.limZ meB; rw [if_pos h]
 have e2 : Kind.codeLim l.n l.x l.c most = 0 := by unfold Kind.codeLim; rw [if_pos h]
 have := Kind.putLim_any l.n l.x l.c most n (by rw [e1]; exact hn) h0 h1 w
 rw [e1, e2] at this
 exact this.mono fun e w' ⟨a, q, he, hb, _, hB⟩ => ⟨a, q, he, hb, hB, hn⟩
theorem nameB_bytes (s : ByteArray) : ∀ z ∈ nameB s, 0 ≤ z ∧ z < 256 := by
 intro z hz
 unfold nameB at hz
 rcases List.mem_append.1 hz with h | h
 ·exact encU_bytes _ z h
 ·exact numsOf_bytes s z h
theorem nameB_len (s : ByteArray) : (nameB s).length ≤ s.size + 5 := by
 unfold nameB
 rw [List.length_append, encU_length, numsOf_length]
 have := (sizeU_pos s.size).2
 omega
theorem name_got (s : ByteArray) (w : World) (hU : Utf.Tabs w) (hs : s.size ≤ 1048576) (ht : noText s = false) (n : Nat) (hn : (nameB s).length = n) : Calls Tryz.prog 195 #[.string s] w (GotB w (nameB s) n) := by
 have hb : (Utf.scan (numsOf s)).2 = (numsOf s).length := (Utf.badL_neg _).1 (by
   unfold noText at ht
   have := of_decide_eq_false ht
   omega)
 have := Utf.Put_good (numsOf s) (numsOf_bytes s) w hU (by rw [numsOf_length]; exact hs) hb
 rw [str_numsOf, numsOf_length] at this
 have hl := nameB_len s
 exact this.mono fun e w' h => got_own hn (nameB_bytes s) (by omega) h
theorem insB_bytes {n₀ : Nat} {w : World} {l : Lst} (hL : ListAt n₀ w l.a l.t.len l.t) (h : checkP l.t = 0) : ∀ z ∈ insB l, 0 ≤ z ∧ z < 256 := Body.encP_bytesC (Body.mayT_list hL h)
theorem ins_got (l : Lst) (w : World) (hL : ListAt w.heap.size w l.a l.t.len l.t) (hl : l.t.len ≤ 140737488351232) (hT : Nams w) (hc : l.t.count ≤ 1000000) (hx : (encL l.t).length ≤ 90000) (h : checkP l.t = 0) (n : Nat) (hn : (insB l).length = n) :
  Calls Tryz.prog 197 #[.slice l.a l.t.len l.c] w (GotB w (insB l) n) := by
 have := Body.Put_any l.t l.a l.t.len l.c w hL hl hT (by omega) (by omega)
 have e : Body.putB l.t = insB l := by unfold Body.putB insB; rw [if_pos h]
 rw [e, h] at this
 refine this.mono fun e w' h' => got_own hn (insB_bytes hL h) ?_ h'
 show (encL l.t ++ [11]).length ≤ _
 simp; omega
theorem code_got (f : Mod.Fn) (w : World) (hL : ListAt w.heap.size w f.l.a f.l.t.len f.l.t) (hl : f.l.t.len ≤ 140737488351232) (hT : Nams w) (hc : f.l.t.count ≤ 1000000) (hx : (encL f.l.t).length ≤ 90000) (h : checkP f.l.t = 0) (h0 : 0 ≤ f.lo) (h1 : f.lo ≤ 50000) (n : Nat) (hn : (codeL f.lo f.l.t).length = n) :
  Calls Tryz.prog 198 #[.agg #[.int .i64 f.lo, .slice f.l.a f.l.t.len f.l.c]] w (fun e w' => GotB w (codeL f.lo f.l.t) n e w' ∧ ∀ a c, e = .returned (.tuple #[.slice a n c, .int .i64 0]) → ∀ b off, a = some ⟨b, off, none⟩ → w.heap.size ≤ b) := by
 have := Body.PutCode_any f.lo f.l.t f.l.a f.l.t.len f.l.c w hL hl hT (by omega) hx
 have e0 : Body.checkC f.lo f.l.t = 0 := by unfold Body.checkC; rw [if_neg (by omega)]; exact h
 have e : Body.putC f.lo f.l.t = codeL f.lo f.l.t := by unfold Body.putC; rw [if_pos e0]
 rw [e, e0] at this
 have hby : ∀ z ∈ codeL f.lo f.l.t, 0 ≤ z ∧ z < 256 := by
  intro z hz
  rcases List.mem_append.1 hz with hz | hz
  ·exact Body.loc_bytes f.lo z hz
  ·exact Body.encP_bytesC (Body.mayT_list hL h) z hz
 have hle : (codeL f.lo f.l.t).length ≤ 140737488351232 := by
  have := (Body.loc_len f.lo).1
  unfold codeL
  rw [List.length_append]
  show _ + (encL f.l.t ++ [11]).length ≤ _
  simp; omega
 refine this.mono fun e w' h' => ⟨got_own hn hby hle h', ?_⟩
 obtain ⟨v, rfl, ho, hb⟩ := h'
 intro a c hE b off ha
 subst ha
 have hv : v = .slice (some ⟨b, off, none⟩) n c := by simpa using hE
 subst hv
 exact (World.ownsRow.lt ho b rfl).1
end Go.Proofs.YtepbjkkakfpjgaaGreatDoor.Enc
namespace Go.Proofs.YtepbjkkakfpjgaaGreatDoor.Mod
open Go.RowKit Go.Proofs.YtepbjkkakfpjgaaGreatDoor.Instr
def errI (b : Bool) (e : Int) : Int := if b then e else 0
theorem errIf_any (b : Bool) (e : Int) (w : World) : Calls Tryz.prog 49 #[.bool b, .int .i64 e] w fun x w' => x = .returned (.int .i64 (errI b e)) ∧ w = w' := by
 cases b
 all_goals
  go_enter Tryz.func49, Tryz.ntmps49
  go_wp2
  go_ret
  exact ⟨rfl, rfl⟩
theorem max_two (x y : Int) : max x y = if y > x then y else x := by split <;> omega
set_option maxHeartbeats 1000000 in
theorem crowded_any (m : Md) (w : World) (hm : ModAt w.heap.size w m) (hf : m.fits) :
  Calls Tryz.prog 50 #[.agg m.v] w fun e w' => e = .returned (.bool m.crowded) ∧ Below w.heap.size w w' := by
 have hb0 := (Below.refl w.heap.size w).alloc (Nat.le_refl _) (.cells m.v 32)
 have HE := hid (crowded_eq m)
 have HR := hid (hm.on hb0).el
 have HB := hid hb0
 have HX := hid (BoxAt.made w m.v 32)
 have hl := hf.el
 have hmx : ∀ (ts : Array TypeId) (t : TypeId) (w : World), Sem.run Tryz.prog (Builtin.max_ ts t #[.int .i64 (m.ty.length : Int), .int .i64 (m.im.length : Int), .int .i64 (m.fu.length : Int), .int .i64 (m.gl.length : Int), .int .i64 (m.ex.length : Int), .int .i64 (m.el.length : Int), .int .i64 (m.da.length : Int)]) w = .ok (.int .i64 m.max7) w := by
  intro ts t w
  unfold Md.max7
  simp only [max_two]
  simp [Builtin.max_, Builtin.max2]
 obtain ⟨L0, hL0⟩ : ∃ L0, m.max7 = L0 := ⟨_, rfl⟩
 rw [hL0] at HE hmx
 unfold Md.v at HR HB HX ⊢
 clear hm hf hb0 hL0
 generalize m.el'.a = a at HR HB HX ⊢
 go_enter Tryz.func50, Tryz.ntmps50
 go_wp2
 clear hmx
 obtain ⟨n, hn⟩ : ∃ n, m.el.length = n := ⟨_, rfl⟩
 have HN := hid hn
 rw [hn] at HX HB HR hl ⊢
 clear hn
 generalize w.alloc (.cells #[.slice m.ty'.a m.ty.length m.ty'.c, .slice m.im'.a m.im.length m.im'.c, .slice m.fu'.a m.fu.length m.fu'.c, .slice m.tb'.a m.tb.length m.tb'.c, .slice m.me'.a m.me.length m.me'.c, .slice m.gl'.a m.gl.length m.gl'.c, .slice m.ex'.a m.ex.length m.ex'.c, .bool m.st, .int .u32 m.sn, .slice a n m.el'.c, .slice m.da'.a m.da.length m.da'.c] 32) = W0 at HX HB HR ⊢
 go_loopw [3, 31] (fun vl vi wr => ∃ (k : Nat) (L : Int), vl = .int .i64 L ∧ vi = .int .i64 k ∧ k ≤ n ∧ Hid (L = longP (m.el.take k) L0) ∧ Hid (Below W0.heap.size W0 wr)) (fun _ vi _ => n - (intOf vi).toNat)
 case atStart => exact ⟨0, L0, rfl, rfl, Nat.zero_le _, rfl, Below.refl _ _⟩
 case round =>
  obtain ⟨k, L, rfl, rfl, hk, HL, HW⟩ := hrel
  by_cases hlt : k < n
  ·have hkl : k < m.el.length := by rw [HN.out]; exact hlt
   obtain ⟨b, off, rfl, hb, hc⟩ := Rows.get HR.out hkl
   have HS := hid (show longP (m.el.take (k + 1)) L0 = max L (m.el[k].fs.length : Int) by rw [List.take_succ_eq_append_getElem hkl, longP_snoc, ← HL.out])
   obtain ⟨x, hxe⟩ : ∃ x, m.el[k] = x := ⟨_, rfl⟩
   rw [hxe] at hc HS
   have cc : ∀ j, j < 2 → ∀ v, x.v[j]? = some v → wr.cell? ⟨b, off + k * 2 + j, none⟩ = some v := fun j hj v hv => (HW.out.cell (p := ⟨b, off + k * 2 + j, none⟩) hb).trans (hc j hj v hv)
   have c0 : wr.cell? ⟨b, off + k * 2, none⟩ = some x.l.val := cc 0 (by omega) _ rfl
   have c1 : wr.cell? ⟨b, off + k * 2 + 1, none⟩ = some (.slice x.fa x.fs.length x.fc) := cc 1 (by omega) _ rfl
   have hki : (k : Int) < (n : Int) := by omega
   unfold Lst.val at c0
   have HW' := hid (show Below W0.heap.size W0 (wr.alloc (.cells #[.slice x.l.a x.l.t.len x.l.c, .slice x.fa x.fs.length x.fc] 71)) from HW.out.alloc HW.out.size _)
   clear hxe hc cc hb
   by_cases hgt : (x.fs.length : Int) > L
   ·have HS' := hid (show (x.fs.length : Int) = longP (m.el.take (k + 1)) L0 by rw [HS.out]; omega)
    go_wp2
    go_roundw
    case rel => first | exact ⟨k + 1, _, rfl, by go_num, by omega, HS', HW'⟩ | exact ⟨k + 1, _, rfl, by go_num, by omega, hid HS.out.symm, HW'⟩
    case measure => simp [intOf]; omega
   ·have HS' := hid (show L = longP (m.el.take (k + 1)) L0 by rw [HS.out]; omega)
    go_wp2
    go_roundw
    case rel => first | exact ⟨k + 1, _, rfl, by go_num, by omega, HS', HW'⟩ | exact ⟨k + 1, _, rfl, by go_num, by omega, hid HS.out.symm, HW'⟩
    case measure => simp [intOf]; omega
  ·obtain rfl : k = n := by omega
   have HE' := hid (show m.crowded = (decide (16384 < L) || (decide (1 < m.tb.length) || decide (1 < m.me.length))) by rw [HE.out, HL.out, ← HN.out, List.take_length])
   have x3 := Go.Proofs.YtepbjkkakfpjgaaGreatDoor.keep HW.out (HX.out 3 _ rfl)
   have x4 := Go.Proofs.YtepbjkkakfpjgaaGreatDoor.keep HW.out (HX.out 4 _ rfl)
   have HF := hid (HB.out.trans (HW.out.mono HB.out.size))
   clear HR HL HX HE HW HB
   by_cases h1 : 16384 < L
   ·have HC := hid (show m.crowded = true by rw [HE'.out, decide_eq_true h1, Bool.true_or])
    clear HE'
    go_wp2
    go_ret
    exact ⟨ret_bool HC.out.symm, HF.out⟩
   ·by_cases h2 : (1 : Int) < (m.tb.length : Int)
    ·have HC := hid (show m.crowded = true by rw [HE'.out, decide_eq_true (show 1 < m.tb.length by omega), Bool.true_or, Bool.or_true])
     clear HE'
     go_wp2
     go_ret
     exact ⟨ret_bool HC.out.symm, HF.out⟩
    ·have HC := hid (show m.crowded = decide (1 < m.me.length) by rw [HE'.out, decide_eq_false h1, decide_eq_false (show ¬ 1 < m.tb.length by omega), Bool.false_or, Bool.false_or])
     clear HE'
     go_wp2
     go_ret
     exact ⟨ret_bool (by rw [HC.out]; simp; omega), HF.out⟩
set_option maxHeartbeats 1000000 in
theorem heavy_any (l : List Da) (a : Option Addr) (n c : Nat) (w : World) (hn : l.length = n) (hr : Rows w.heap.size w a 2 (l.map Da.v)) (hl : n ≤ 140737488351232) :
  Calls Tryz.prog 57 #[.slice a n c] w fun e w' => e = .returned (.bool (decide (1048576 < sumB l))) ∧ Below w.heap.size w w' := by
 have HR := hid hr
 have HN := hid hn
 clear hr hn
 go_enter Tryz.func57, Tryz.ntmps57
 go_wp2
 go_loopw [3, 8] (fun vl vi wr => ∃ (k : Nat) (L : Int), vl = .int .i64 L ∧ vi = .int .i64 k ∧ k ≤ n ∧ 0 ≤ L ∧ L ≤ 1048576 ∧ Hid (L = 1048576 - (sumB (l.take k) : Int)) ∧ Hid (Below w.heap.size w wr)) (fun _ vi _ => n - (intOf vi).toNat)
 case atStart => exact ⟨0, 1048576, rfl, rfl, Nat.zero_le _, by omega, by omega, rfl, Below.refl _ _⟩
 case round =>
  obtain ⟨k, L, rfl, rfl, hk, h0, h1, HL, HW⟩ := hrel
  by_cases hlt : k < n
  ·have hkl : k < l.length := by rw [HN.out]; exact hlt
   obtain ⟨b, off, rfl, hb, hc⟩ := Rows.get HR.out hkl
   have HS := hid (sumB_step hkl)
   have HT := hid (sumB_take l (k + 1))
   obtain ⟨x, hxe⟩ : ∃ x, l[k] = x := ⟨_, rfl⟩
   rw [hxe] at hc HS
   have cc : ∀ j, j < 2 → ∀ v, x.v[j]? = some v → wr.cell? ⟨b, off + k * 2 + j, none⟩ = some v := fun j hj v hv => (HW.out.cell (p := ⟨b, off + k * 2 + j, none⟩) hb).trans (hc j hj v hv)
   have c0 : wr.cell? ⟨b, off + k * 2, none⟩ = some x.l.val := cc 0 (by omega) _ rfl
   have c1 : wr.cell? ⟨b, off + k * 2 + 1, none⟩ = some (.slice x.ba x.bs.length x.bc) := cc 1 (by omega) _ rfl
   have hki : (k : Int) < (n : Int) := by omega
   unfold Lst.val at c0
   have HW' := hid (show Below w.heap.size w (wr.alloc (.cells #[.slice x.l.a x.l.t.len x.l.c, .slice x.ba x.bs.length x.bc] 47)) from HW.out.alloc HW.out.size _)
   clear hxe hc cc hb
   by_cases hgt : L < (x.bs.length : Int)
   ·have HC := hid (show decide (1048576 < sumB l) = true by rw [decide_eq_true_eq]; have := HS.out; have := HT.out; have := HL.out; omega)
    go_wp2
    go_ret
    exact ⟨ret_bool HC.out.symm, HW'.out⟩
   ·have HL' := hid (show L - (x.bs.length : Int) = 1048576 - (sumB (l.take (k + 1)) : Int) by rw [HS.out]; have := HL.out; omega)
    go_wp2
    go_roundw
    case rel => exact ⟨k + 1, _, rfl, by go_num, by omega, by omega, by omega, HL', HW'⟩
    case measure => simp [intOf]; omega
  ·obtain rfl : k = n := by omega
   have HC := hid (show decide (1048576 < sumB l) = false by rw [decide_eq_false_iff_not]; have := HL.out; rw [← HN.out, List.take_length] at this; omega)
   go_wp2
   go_ret
   exact ⟨ret_bool HC.out.symm, HW.out⟩
end Go.Proofs.YtepbjkkakfpjgaaGreatDoor.Mod
namespace Go.Proofs.YtepbjkkakfpjgaaGreatDoor.Mod
open Go.RowKit Go.Shelf Go.Proofs.YtepbjkkakfpjgaaGreatDoor.Instr
def Asks (w : World) (g : Nat) (p : ByteArray → Bool) : Prop :=
 (∀ args w, (callFunc g args).run Tryz.prog w = .ok (.enter g args) w) ∧
  ∀ (W : World) (s : ByteArray), s.size ≤ 140737488351232 → Below w.heap.size w W → Calls Tryz.prog g #[.string s] W fun e w' => e = .returned (.bool (p s)) ∧ Below W.heap.size W w'
theorem Asks.on {w w' : World} {g : Nat} {p : ByteArray → Bool} (h : Asks w g p) (hb : Below w.heap.size w w') : Asks w' g p := ⟨h.1, fun W s hs hW => h.2 W s hs (hb.trans (hW.mono hb.size))⟩
set_option maxHeartbeats 400000 in
theorem anyName1_any (x : Imp) (b g : Nat) (p : ByteArray → Bool) (w : World) (hc : w.cell? ⟨b, 0, none⟩ = some (.func (.func g) #[] #[])) (hp : Asks w g p) (h1 : x.mo.size ≤ 140737488351232) (h2 : x.na.size ≤ 140737488351232) :
  Calls Tryz.prog 120 #[.agg #[.string x.mo, .string x.na, .int .i64 x.ty], .pointer (some ⟨b, 0, none⟩)] w fun e w' => e = .returned (.bool (p x.mo || p x.na)) ∧ Below w.heap.size w w' := by
 have eg := hp.1
 have C1 := hid (hp.2 (w.alloc (.cells #[.string x.mo, .string x.na, .int .i64 x.ty] 73)) x.mo h1 ((Below.refl _ _).alloc (Nat.le_refl _) _))
 have C2 := hid (fun W (hb : Below w.heap.size w W) => hp.2 W x.na h2 hb)
 have HC := hid (show ∀ w1, Below w.heap.size w w1 → w1.cell? ⟨b, 0, none⟩ = some (.func (.func g) #[] #[]) from fun w1 hb => Go.Proofs.YtepbjkkakfpjgaaGreatDoor.keep hb hc)
 have hbl := World.block_lt_of_cell? w _ hc
 obtain ⟨q, hq⟩ : ∃ q, p x.mo = q := ⟨_, rfl⟩
 rw [hq] at C1 ⊢
 clear hq hp h1 h2
 cases q with
 | true =>
  go_enter Tryz.func120, Tryz.ntmps120
  go_wp2_with (go_at_fn g; refine C1.out.mono ?_; rintro e w1 ⟨rfl, hb1⟩)
  go_ret
  exact ⟨rfl, thenB ((Below.refl _ _).alloc (Nat.le_refl _) _) hb1⟩
 | false =>
  rw [Bool.false_or]
  obtain ⟨r, hr⟩ : ∃ r, p x.na = r := ⟨_, rfl⟩
  rw [hr] at C2 ⊢
  clear hr
  go_enter Tryz.func120, Tryz.ntmps120
  go_wp2_with fail
  refine (Calls.mono (R' := fun e w1 => (e = .returned (.bool false) ∧ Below w.heap.size w w1) ∧ w1.cell? ⟨b, 0, none⟩ = some (.func (.func g) #[] #[]) ∧ w1.cell? ⟨w.heap.size, 1, none⟩ = some (.string x.na)) C1.out ?_).mono ?_
  ·rintro e w1 ⟨rfl, hb1⟩
   have hB := thenB ((Below.refl _ _).alloc (Nat.le_refl _) _) hb1
   exact ⟨⟨rfl, hB⟩, HC.out _ hB, Go.Proofs.YtepbjkkakfpjgaaGreatDoor.keep hb1 (by go_simp)⟩
  rintro e w1 ⟨⟨rfl, hb1⟩, hc1, hc2⟩
  have C3 := hid (C2.out w1 hb1)
  clear hc C2
  go_wp2_with (go_at_fn g; refine C3.out.mono ?_; rintro e w2 ⟨rfl, hb2⟩)
  go_ret
  exact ⟨rfl, thenB hb1 hb2⟩
set_option maxHeartbeats 400000 in
theorem anyName2_any (x : Ex) (b g : Nat) (p : ByteArray → Bool) (w : World) (hc : w.cell? ⟨b, 0, none⟩ = some (.func (.func g) #[] #[])) (hp : Asks w g p) (h1 : x.na.size ≤ 140737488351232) :
  Calls Tryz.prog 121 #[.agg #[.string x.na, .int .i64 x.k, .int .u32 x.i], .pointer (some ⟨b, 0, none⟩)] w fun e w' => e = .returned (.bool (p x.na)) ∧ Below w.heap.size w w' := by
 have eg := hp.1
 have C1 := hid (hp.2 (w.alloc (.cells #[.string x.na, .int .i64 x.k, .int .u32 x.i] 75)) x.na h1 ((Below.refl _ _).alloc (Nat.le_refl _) _))
 have hbl := World.block_lt_of_cell? w _ hc
 clear hp h1
 go_enter Tryz.func121, Tryz.ntmps121
 go_wp2_with (go_at_fn g; refine C1.out.mono ?_; rintro e w1 ⟨rfl, hb1⟩)
 go_ret
 exact ⟨rfl, thenB ((Below.refl _ _).alloc (Nat.le_refl _) _) hb1⟩
theorem enters1 : ∀ args w, (callFunc 120 args).run Tryz.prog w = .ok (.enter 120 args) w := enters_of Tryz.func120 (by kernel_rfl) rfl
theorem enters2 : ∀ args w, (callFunc 121 args).run Tryz.prog w = .ok (.enter 121 args) w := enters_of Tryz.func121 (by kernel_rfl) rfl
set_option maxHeartbeats 1000000 in
theorem anyName_any (m : Md) (g : Nat) (p : ByteArray → Bool) (w : World) (hm : ModAt w.heap.size w m) (hf : m.fits) (hp : Asks w g p) :
  Calls Tryz.prog 54 #[.agg m.v, .func (.func g) #[] #[]] w fun e w' => e = .returned (.bool (m.anyName p)) ∧ Below w.heap.size w w' := by
 have B1 := hid (((Below.refl w.heap.size w).alloc (Nat.le_refl _) (.cells m.v 32)).alloc (by simp) (.cells #[.func (.func g) #[] #[]] 94))
 have hbx : BoxAt ((w.alloc (.cells m.v 32)).alloc (.cells #[.func (.func g) #[] #[]] 94)) w.heap.size m.v := (BoxAt.made w m.v _).keep ((Below.refl _ _).alloc (Nat.le_refl _) _)
 have hcb : ((w.alloc (.cells m.v 32)).alloc (.cells #[.func (.func g) #[] #[]] 94)).cell? ⟨w.heap.size + 1, 0, none⟩ = some (.func (.func g) #[] #[]) := by go_simp
 have C1 := hid (any_im m.im m.im'.a m.im.length m.im'.c ((w.alloc (.cells m.v 32)).alloc (.cells #[.func (.func g) #[] #[]] 94)) rfl (hm.on B1.out).im hf.im
   120 #[.pointer (some ⟨w.heap.size + 1, 0, none⟩)] enters1 (fun x => p x.mo || p x.na) (fun W x hx hW => anyName1_any x _ g p W (Go.Proofs.YtepbjkkakfpjgaaGreatDoor.keep hW hcb) ((hp.on B1.out).on hW) (hf.iS x hx).1 (hf.iS x hx).2))
 have C2 := hid (fun (W : World) (hW : Below ((w.alloc (.cells m.v 32)).alloc (.cells #[.func (.func g) #[] #[]] 94)).heap.size ((w.alloc (.cells m.v 32)).alloc (.cells #[.func (.func g) #[] #[]] 94)) W) =>
   any_ex m.ex m.ex'.a m.ex.length m.ex'.c W rfl ((hm.on B1.out).on hW).ex hf.ex
     121 #[.pointer (some ⟨w.heap.size + 1, 0, none⟩)] enters2 (fun x => p x.na) (fun W' x hx hW' => anyName2_any x _ g p W' (Go.Proofs.YtepbjkkakfpjgaaGreatDoor.keep hW' (Go.Proofs.YtepbjkkakfpjgaaGreatDoor.keep hW hcb)) (((hp.on B1.out).on hW).on hW') (hf.eS x hx)))
 have HX := hid (fun (W : World) (hW : Below ((w.alloc (.cells m.v 32)).alloc (.cells #[.func (.func g) #[] #[]] 94)).heap.size ((w.alloc (.cells m.v 32)).alloc (.cells #[.func (.func g) #[] #[]] 94)) W) => (hbx.keep hW) 6 _ rfl)
 have HE : Hid (m.anyName p = ((m.im.any fun i => p i.mo || p i.na) || (m.ex.any fun e => p e.na))) := rfl
 obtain ⟨q, hq⟩ : ∃ q, (m.im.any fun x => p x.mo || p x.na) = q := ⟨_, rfl⟩
 rw [hq] at C1 HE
 unfold Md.v at C1 C2 B1 HX ⊢
 clear hq hcb hbx hm hf hp
 cases q with
 | true =>
  have HE' : Hid (m.anyName p = true) := by show _ = _; rw [HE.out, Bool.true_or]
  clear HE
  go_enter Tryz.func54, Tryz.ntmps54
  go_wp2_with fail
  refine C1.out.mono ?_
  rintro e w1 ⟨rfl, hb1⟩
  clear C1 C2 HX
  go_wp2
  go_ret
  exact ⟨ret_bool HE'.out.symm, B1.out.trans (hb1.mono B1.out.size)⟩
 | false =>
  obtain ⟨r, hr⟩ : ∃ r, (m.ex.any fun x => p x.na) = r := ⟨_, rfl⟩
  have HE' : Hid (m.anyName p = r) := by show _ = _; rw [HE.out, Bool.false_or]; exact hr
  rw [hr] at C2
  clear HE hr
  go_enter Tryz.func54, Tryz.ntmps54
  go_wp2_with fail
  refine C1.out.mono ?_
  rintro e w1 ⟨rfl, hb1⟩
  have hx := HX.out w1 hb1
  have C3 := hid (C2.out w1 hb1)
  clear C1 C2 HX
  go_wp2_with fail
  refine C3.out.mono ?_
  rintro e w2 ⟨rfl, hb2⟩
  clear C3 hx
  go_wp2
  go_ret
  exact ⟨ret_bool HE'.out.symm, B1.out.trans ((thenB hb1 hb2).mono B1.out.size)⟩
end Go.Proofs.YtepbjkkakfpjgaaGreatDoor.Mod
namespace Go.Proofs.YtepbjkkakfpjgaaGreatDoor.Mod
open Go.RowKit Go.Proofs.YtepbjkkakfpjgaaGreatDoor.Instr
theorem wrongN_any (n : Int) (w : World) : Calls Tryz.prog 126 #[.int .i64 n] w fun e w' => e = .returned (.bool (wrongN n)) ∧ w = w' := by
 have H : Hid (wrongN n = (decide (n < 0) || decide (2147483647 < n))) := rfl
 by_cases h : n < 0
 ·have HE : Hid (wrongN n = true) := by show _ = _; rw [H.out]; simp [h]
  go_enter Tryz.func126, Tryz.ntmps126
  go_wp2
  go_ret
  exact ⟨ret_bool HE.out.symm, rfl⟩
 ·have h' : decide (n < 0) = false := by simpa using h
  have HE : Hid (wrongN n = decide (2147483647 < n)) := by show _ = _; rw [H.out, h', Bool.false_or]
  clear H
  go_enter Tryz.func126, Tryz.ntmps126
  go_wp2
  go_ret
  exact ⟨ret_bool HE.out.symm, rfl⟩
theorem wrongI_any (x : Imp) (w : World) : Calls Tryz.prog 66 #[.agg #[.string x.mo, .string x.na, .int .i64 x.ty]] w fun e w' => e = .returned (.bool (wrongI x)) ∧ Below w.heap.size w w' := by
 unfold wrongI
 obtain ⟨q, hq⟩ : ∃ q, wrongN x.ty = q := ⟨_, rfl⟩
 have C := hid (fun w => wrongN_any x.ty w)
 rw [hq] at C ⊢
 clear hq
 go_enter Tryz.func66, Tryz.ntmps66
 go_wp2_with fail
 refine (C.out _).mono ?_
 rintro e w1 ⟨rfl, rfl⟩
 go_wp2
 go_ret
 exact ⟨rfl, (Below.refl _ _).alloc (Nat.le_refl _) _⟩
set_option maxHeartbeats 800000 in
theorem wrongF_any (x : Fn) (w : World) : Calls Tryz.prog 69 #[.agg #[.int .i64 x.ty, .int .i64 x.lo, .slice x.l.a x.l.t.len x.l.c]] w fun e w' => e = .returned (.bool (wrongF x)) ∧ Below w.heap.size w w' := by
 have H : Hid (wrongF x = (wrongN x.ty || (decide (x.lo < 0) || decide (50000 < x.lo)))) := rfl
 obtain ⟨q, hq⟩ : ∃ q, wrongN x.ty = q := ⟨_, rfl⟩
 have C := hid (fun w => wrongN_any x.ty w)
 rw [hq] at C H
 clear hq
 obtain ⟨lo, hlo⟩ : ∃ lo, x.lo = lo := ⟨_, rfl⟩
 rw [hlo] at H ⊢
 clear hlo
 cases q with
 | true =>
  have HE : Hid (wrongF x = true) := by show _ = _; rw [H.out]; rfl
  go_enter Tryz.func69, Tryz.ntmps69
  go_wp2_with fail
  refine (C.out _).mono ?_
  rintro e w1 ⟨rfl, rfl⟩
  go_wp2
  go_ret
  exact ⟨ret_bool HE.out.symm, (Below.refl _ _).alloc (Nat.le_refl _) _⟩
 | false =>
  by_cases h : lo < 0
  ·have HE : Hid (wrongF x = true) := by show _ = _; rw [H.out]; simp [h]
   go_enter Tryz.func69, Tryz.ntmps69
   go_wp2_with fail
   refine (C.out _).mono ?_
   rintro e w1 ⟨rfl, rfl⟩
   go_wp2
   go_ret
   exact ⟨ret_bool HE.out.symm, (Below.refl _ _).alloc (Nat.le_refl _) _⟩
  ·have h' : decide (lo < 0) = false := by simpa using h
   have HE : Hid (wrongF x = decide (50000 < lo)) := by show _ = _; rw [H.out, h', Bool.false_or, Bool.false_or]
   go_enter Tryz.func69, Tryz.ntmps69
   go_wp2_with fail
   refine (C.out _).mono ?_
   rintro e w1 ⟨rfl, rfl⟩
   go_wp2
   go_ret
   exact ⟨ret_bool HE.out.symm, (Below.refl _ _).alloc (Nat.le_refl _) _⟩
theorem wrongE_any (x : Ex) (w : World) : Calls Tryz.prog 72 #[.agg #[.string x.na, .int .i64 x.k, .int .u32 x.i]] w fun e w' => e = .returned (.bool (wrongE x)) ∧ Below w.heap.size w w' := by
 have H : Hid (wrongE x = (decide (x.k < 0) || decide (3 < x.k))) := rfl
 obtain ⟨lo, hlo⟩ : ∃ lo, x.k = lo := ⟨_, rfl⟩
 rw [hlo] at H ⊢
 clear hlo
 by_cases h : lo < 0
 ·have HE : Hid (wrongE x = true) := by show _ = _; rw [H.out]; simp [h]
  go_enter Tryz.func72, Tryz.ntmps72
  go_wp2
  go_ret
  exact ⟨ret_bool HE.out.symm, (Below.refl _ _).alloc (Nat.le_refl _) _⟩
 ·have h' : decide (lo < 0) = false := by simpa using h
  have HE : Hid (wrongE x = decide (3 < lo)) := by show _ = _; rw [H.out, h', Bool.false_or]
  go_enter Tryz.func72, Tryz.ntmps72
  go_wp2
  go_ret
  exact ⟨ret_bool HE.out.symm, (Below.refl _ _).alloc (Nat.le_refl _) _⟩
theorem isLong_any (s : ByteArray) (w : World) : Calls Tryz.prog 55 #[.string s] w fun e w' => e = .returned (.bool (longS s)) ∧ Below w.heap.size w w' := by
 have HE : Hid (longS s = decide (1000 < s.size)) := rfl
 go_enter Tryz.func55, Tryz.ntmps55
 go_wp2
 go_ret
 exact ⟨ret_bool (by rw [HE.out]; simp; omega), Below.refl _ _⟩
theorem wrongT_any (x : Int × Int) (w : World) : Calls Tryz.prog 63 #[.agg #[.int .i64 x.1, .int .i64 x.2]] w fun e w' => e = .returned (.bool (wrongT x)) ∧ Below w.heap.size w w' := by
 have C := hid (fun w => Kind.check_any x.1 x.2 w)
 unfold Kind.codeType at C
 unfold wrongT
 obtain ⟨q, hq⟩ : ∃ q, Kind.okType x.1 x.2 = q := ⟨_, rfl⟩
 rw [hq] at C ⊢
 clear hq
 cases q
 all_goals
  simp only [Bool.false_eq_true, if_true, if_false] at C
  go_enter Tryz.func63, Tryz.ntmps63
  go_wp2_with fail
  refine (C.out _).mono ?_
  rintro e w1 ⟨rfl, hb1⟩
  go_wp2
  go_ret
  exact ⟨rfl, thenB ((Below.refl _ _).alloc (Nat.le_refl _) _) hb1⟩
theorem beyond_any (x : Li) (g : Nat) (most : Int) (w : World) (hc : w.cell? ⟨g, 0, none⟩ = some (.int .u32 most)) :
  Calls Tryz.prog 129 #[.agg #[.int .u32 x.n, .int .u32 x.x, .bool x.c], .pointer (some ⟨g, 0, none⟩)] w fun e w' => e = .returned (.bool (beyond most x)) ∧ Below w.heap.size w w' := by
 have C := hid (fun w => Kind.checkLimits_any x.n x.x x.c most w)
 unfold Kind.codeLim at C
 unfold beyond
 obtain ⟨q, hq⟩ : ∃ q, Kind.okLim x.n x.x x.c most = q := ⟨_, rfl⟩
 rw [hq] at C ⊢
 clear hq
 have hg := World.block_lt_of_cell? w _ hc
 cases q
 all_goals
  simp only [Bool.false_eq_true, if_true, if_false] at C
  go_enter Tryz.func129, Tryz.ntmps129
  go_wp2_with fail
  refine (C.out _).mono ?_
  rintro e w1 ⟨rfl, hb1⟩
  go_wp2
  go_ret
  exact ⟨rfl, thenB ((Below.refl _ _).alloc (Nat.le_refl _) _) hb1⟩
end Go.Proofs.YtepbjkkakfpjgaaGreatDoor.Mod
namespace Go.Proofs.YtepbjkkakfpjgaaGreatDoor.Mod
open Go.RowKit Go.Shelf Go.Proofs.YtepbjkkakfpjgaaGreatDoor.Instr
theorem entersB : ∀ args w, (callFunc 129 args).run Tryz.prog w = .ok (.enter 129 args) w := enters_of Tryz.func129 (by kernel_rfl) rfl
set_option maxHeartbeats 1000000 in
theorem anyBeyond_any (l : List Li) (a : Option Addr) (n c : Nat) (most : Int) (w : World) (hn : l.length = n) (hr : Rows w.heap.size w a 3 (l.map Li.v)) (hl : n ≤ 140737488351232) :
  Calls Tryz.prog 74 #[.slice a n c, .int .u32 most] w fun e w' => e = .returned (.bool (l.any (beyond most))) ∧ Below w.heap.size w w' := by
 have hB := (Below.refl w.heap.size w).alloc (Nat.le_refl _) (.cells #[.int .u32 most] 28)
 have hc : (w.alloc (.cells #[.int .u32 most] 28)).cell? ⟨w.heap.size, 0, none⟩ = some (.int .u32 most) := by go_simp
 have C := hid (any_li l a n c (w.alloc (.cells #[.int .u32 most] 28)) hn ((hr.below hB).more hB.size) hl 129 #[.pointer (some ⟨w.heap.size, 0, none⟩)] entersB (beyond most)
   (fun W x _ hW => beyond_any x _ most W (Go.Proofs.YtepbjkkakfpjgaaGreatDoor.keep hW hc)))
 have HB := hid hB
 clear hB hc hn hr
 go_enter Tryz.func74, Tryz.ntmps74
 go_wp2_with fail
 refine C.out.mono ?_
 rintro e w1 ⟨rfl, hb1⟩
 clear C
 go_wp2
 go_ret
 exact ⟨rfl, HB.out.trans (hb1.mono HB.out.size)⟩
theorem Bad_any (zs : List Int) (a : Option Addr) (n c : Nat) (w : World) (hT : Utf.Tabs w) (hn : zs.length = n) (hz : Bytes w a zs) :
  Calls Tryz.prog 122 #[.slice a n c] w fun e w' => e = .returned (.int .i64 (Utf.badL zs)) ∧ Below w.heap.size w w' := by
 have e1 := str_of hz n c hn
 have C := hid (Utf.bad_any zs hz.byte w hT)
 clear hn hz
 go_enter Tryz.func122, Tryz.ntmps122
 go_wp2_with fail
 refine C.out.mono ?_
 rintro e w1 ⟨rfl, hb1⟩
 clear C
 go_wp2
 go_ret
 exact ⟨rfl, hb1⟩
set_option maxHeartbeats 400000 in
theorem isNoText_any (s : ByteArray) (w : World) (hT : Utf.Tabs w) (hs : s.size ≤ 140737488351232) : Calls Tryz.prog 60 #[.string s] w fun e w' => e = .returned (.bool (noText s)) ∧ Below w.heap.size w w' := by
 unfold noText
 obtain ⟨b, c, w1, e1, hz, hb1⟩ := bytes_of (numsOf s) (numsOf_bytes s) (by rw [numsOf_length]; exact hs) w
 rw [str_numsOf] at e1
 have C := hid (Bad_any (numsOf s) _ _ c w1 (hT.below hb1) rfl hz)
 obtain ⟨q, hq⟩ : ∃ q, Utf.badL (numsOf s) = q := ⟨_, rfl⟩
 rw [hq] at C ⊢
 obtain ⟨n, hn⟩ : ∃ n, (numsOf s).length = n := ⟨_, rfl⟩
 rw [hn] at C e1
 have HB := hid hb1
 clear hq hn hz hb1 hT
 go_enter Tryz.func60, Tryz.ntmps60
 go_wp2_with fail
 refine C.out.mono ?_
 rintro e w2 ⟨rfl, hb2⟩
 clear C e1
 go_wp2
 go_ret
 exact ⟨rfl, thenB HB.out hb2⟩
theorem asks_long (w : World) : Asks w 55 longS := ⟨enters_of Tryz.func55 (by kernel_rfl) rfl, fun W s _ _ => isLong_any s W⟩
theorem asks_text (w : World) (hT : Utf.Tabs w) : Asks w 60 noText := ⟨enters_of Tryz.func60 (by kernel_rfl) rfl, fun W s hs hW => isNoText_any s W (hT.below hW) hs⟩
end Go.Proofs.YtepbjkkakfpjgaaGreatDoor.Mod
namespace Go.Proofs.YtepbjkkakfpjgaaGreatDoor.Mod
open Go.RowKit Go.Shelf Go.Proofs.YtepbjkkakfpjgaaGreatDoor.Instr
attribute [local go_sem] Oper.semAt_some
def Fair (w : World) (l : Lst) : Prop := ListAt w.heap.size w l.a l.t.len l.t ∧ l.t.len ≤ 140737488351232 ∧ l.t.count ≤ 1000000
theorem fair_all {m : Md} {w : World} (hm : ModAt w.heap.size w m) (hf : m.few) : ∀ l ∈ m.codes, Fair w l := fun l hl => ⟨hm.ls l hl, hf.fit.ls l hl, hf.cs l hl⟩
theorem Fair.at {w W : World} {l : Lst} (h : Fair w l) (hb : Below w.heap.size w W) : ListAt W.heap.size W l.a l.t.len l.t := h.1.on hb
def valsP {P : Lst → Prop} (pre : List {l : Lst // P l}) : List Lst := pre.map (·.1)
theorem valsP_with (m : Md) (P : Lst → Prop) (hP : ∀ l ∈ m.codes, P l) : valsP (m.codes.attachWith P hP) = m.codes := by simp [valsP]
theorem keepsOthers_below {w w' : World} (h : Below w.heap.size w w') : KeepsOthers w w' := ⟨h.size, fun k _ hk _ => (h.block k (Array.getElem?_eq_some_iff.1 hk).1).trans hk⟩
theorem worstP_snoc (pre : List Lst) (x : Lst) (a : Int) : worstP (pre ++ [x]) a = if checkP x.t = 0 then worstP pre a else checkP x.t := by rw [worstP_append]; rfl
structure Cod (g : Nat) (r : Int) (n : Int) (W : World) : Prop where
 res : W.cell? ⟨g + 1, 0, none⟩ = some (.int .i64 r)
 num : W.cell? ⟨g + 1 + 1, 0, none⟩ = some (.int .i64 n)
 fres : W.frozen? ⟨g + 1, 0, none⟩ = false
 fnum : W.frozen? ⟨g + 1 + 1, 0, none⟩ = false
theorem Cod.own {g : Nat} {r n : Int} {A B : World} {row : Option Nat} (h : Cod g r n A) (hg : A.grownBy B row) (hr : ∀ r, row = some r → ∃ o : Obj, A.heap[r]? = some o ∧ o.isCells = false) : Cod g r n B :=
 ⟨cell_kept h.res hg hr, cell_kept h.num hg hr, (frozen_kept h.res hg hr).trans h.fres, (frozen_kept h.num hg hr).trans h.fnum⟩
theorem Cod.below {g : Nat} {r n : Int} {A B : World} (h : Cod g r n A) (hb : Below A.heap.size A B) : Cod g r n B :=
 have f : ∀ p v, A.cell? p = some v → A.frozen? p = false → B.frozen? p = false := fun p _ hc hf => (hb.frozen (World.block_lt_of_cell? A p hc)).trans hf
 ⟨Go.Proofs.YtepbjkkakfpjgaaGreatDoor.keep hb h.res, Go.Proofs.YtepbjkkakfpjgaaGreatDoor.keep hb h.num, f _ _ h.res h.fres, f _ _ h.num h.fnum⟩
theorem Cod.set {g : Nat} {r n n' : Int} {A : World} (h : Cod g r n A) : Cod g r n' (A.setCell ⟨g + 1 + 1, 0, none⟩ (.int .i64 n')) := by
 obtain ⟨r1, r2, f1, f2⟩ := h
 constructor <;> simp [go_sem, *]
set_option maxRecDepth 100000 in
set_option maxHeartbeats 4000000 in
theorem codeError_any (m : Md) (w : World) (hT : Nams w) (hm : ModAt w.heap.size w m) (hf : m.few) :
  Calls Tryz.prog 52 #[.agg m.v] w fun e w' => e = .returned (.int .i64 (codeP m.codes)) ∧ Below w.heap.size w w' := by
 have HM := hid hm
 have HF := hid hf
 have hbx := BoxAt.made (((w.alloc (.cells m.v 32)).alloc (.cells #[.int .i64 0] 36)).alloc (.cells #[.int .i64 0] 36)) m.v 32
 have hS0 : Cod w.heap.size 0 0 (((w.alloc (.cells m.v 32)).alloc (.cells #[.int .i64 0] 36)).alloc (.cells #[.int .i64 0] 36)) := by constructor <;> go_simp
 have hS1 := hS0.below ((Below.refl _ _).alloc (Nat.le_refl _) (.cells m.v 32))
 have hB0 : Below w.heap.size w ((((w.alloc (.cells m.v 32)).alloc (.cells #[.int .i64 0] 36)).alloc (.cells #[.int .i64 0] 36)).alloc (.cells m.v 32)) := thenA (thenA (thenA (thenA (Below.refl _ _) _) _) _) _
 have hsz : ((((w.alloc (.cells m.v 32)).alloc (.cells #[.int .i64 0] 36)).alloc (.cells #[.int .i64 0] 36)).alloc (.cells m.v 32)).heap.size = w.heap.size + 4 := by simp
 simp only [World.size_alloc] at hbx
 clear hm hf hS0
 unfold Md.v at hbx hB0 hsz hS1 ⊢
 refine (callsIn_wide (n := 3)).1 ?_
 refine callsIn_of_wp_marks Tryz.func52 rfl trivial ?_ rfl
 simp only [Tryz.ntmps52, List.size_toArray, List.length_cons, List.length_nil, Nat.reduceAdd, Nat.reduceSub, Array.replicate_succ, Array.replicate_zero, List.push_toArray, List.append_toArray, List.nil_append, List.cons_append]
 gi_wp2_with fail
 refine ⟨trivial, ?_⟩
 refine (codes_in _ m _).mono ?_
 unfold Md.v
 rintro e w' ⟨rfl, rfl⟩
 gi_wp2
 generalize ((((w.alloc (.cells #[.slice m.ty'.a m.ty.length m.ty'.c, .slice m.im'.a m.im.length m.im'.c, .slice m.fu'.a m.fu.length m.fu'.c, .slice m.tb'.a m.tb.length m.tb'.c, .slice m.me'.a m.me.length m.me'.c, .slice m.gl'.a m.gl.length m.gl'.c, .slice m.ex'.a m.ex.length m.ex'.c, .bool m.st, .int .u32 m.sn, .slice m.el'.a m.el.length m.el'.c, .slice m.da'.a m.da.length m.da'.c] 32)).alloc (.cells #[.int .i64 0] 36)).alloc (.cells #[.int .i64 0] 36)).alloc (.cells #[.slice m.ty'.a m.ty.length m.ty'.c, .slice m.im'.a m.im.length m.im'.c, .slice m.fu'.a m.fu.length m.fu'.c, .slice m.tb'.a m.tb.length m.tb'.c, .slice m.me'.a m.me.length m.me'.c, .slice m.gl'.a m.gl.length m.gl'.c, .slice m.ex'.a m.ex.length m.ex'.c, .bool m.st, .int .u32 m.sn, .slice m.el'.a m.el.length m.el'.c, .slice m.da'.a m.da.length m.da'.c] 32)) = W0 at hbx hB0 hsz hS1 ⊢
 have HB0 := hid hB0
 refine wpIn_rangeFunc_ownF rfl (by omega) (gf := 136) (lb := #[.pointer (some ⟨w.heap.size + 1 + 1 + 1, 0, none⟩)]) rfl trivial (enters_of Tryz.func136 (by kernel_rfl) rfl)
  (codes_stops _ w.heap.size (w.heap.size + 1 + 1 + 1) m W0 (by omega) (by omega) hbx (HM.out.below hB0) HF.out.fit (Fair w) (fair_all HM.out HF.out)) (fun h k => h.trans k) (keptB_b (by omega)) (Below.refl _ _) (fun _ => rfl)
  (fun pre W => ((∀ y ∈ valsP pre, checkP y.t ≠ 141) ∧ Cod w.heap.size 0 (worstP (valsP pre) 0) W) ∧ Below w.heap.size w W)
  (fun c pre W => (c = .ret ∧ (∃ y ∈ valsP pre, checkP y.t = 141) ∧ W.cell? ⟨w.heap.size + 1, 0, none⟩ = some (.int .i64 141)) ∧ Below w.heap.size w W)
  (OwnFrom.and (Own.from (fun s A B row hs hg hr => ⟨hs.1, hs.2.own hg hr⟩) _) (ownFrom_below (Nat.le_refl _) (by omega)))
  (fun c => OwnFrom.and (Own.from (fun s A B row hs hg hr => ⟨hs.1, hs.2.1, cell_kept hs.2.2 hg hr⟩) _) (ownFrom_below (Nat.le_refl _) (by omega)))
  ⟨⟨by simp [valsP], hS1⟩, hB0⟩
  (fun x => { tmps := #[.agg #[.slice m.ty'.a m.ty.length m.ty'.c, .slice m.im'.a m.im.length m.im'.c, .slice m.fu'.a m.fu.length m.fu'.c, .slice m.tb'.a m.tb.length m.tb'.c, .slice m.me'.a m.me.length m.me'.c, .slice m.gl'.a m.gl.length m.gl'.c, .slice m.ex'.a m.ex.length m.ex'.c, .bool m.st, .int .u32 m.sn, .slice m.el'.a m.el.length m.el'.c, .slice m.da'.a m.da.length m.da'.c], .pointer (some ⟨w.heap.size, 0, none⟩), .pointer (some ⟨w.heap.size + 1, 0, none⟩), .pointer (some ⟨w.heap.size + 1 + 1, 0, none⟩), x.1.val, undef, .agg #[.slice m.ty'.a m.ty.length m.ty'.c, .slice m.im'.a m.im.length m.im'.c, .slice m.fu'.a m.fu.length m.fu'.c, .slice m.tb'.a m.tb.length m.tb'.c, .slice m.me'.a m.me.length m.me'.c, .slice m.gl'.a m.gl.length m.gl'.c, .slice m.ex'.a m.ex.length m.ex'.c, .bool m.st, .int .u32 m.sn, .slice m.el'.a m.el.length m.el'.c, .slice m.da'.a m.da.length m.da'.c], .func (.func 136) #[] #[.pointer (some ⟨w.heap.size + 1 + 1 + 1, 0, none⟩)], x.1.val, undef, undef, undef, undef, undef, undef, undef, undef, undef, undef], defers := [] }) ?assign ?body ?done ?stop
 case assign =>
  intro l x W K hK
  gi_wp2
  simpa [encP] using hK
 case body =>
  rintro l pre x W ⟨⟨hla, hch⟩, hB⟩ hlt
  have CL := callsIn_wide (n := 0) |>.2 (Check_any x.1.a x.1.t.len x.1.c x.1.t W (hT.below hB) (x.2.at hB) (by have := x.2.2.2; omega) x.2.2.1)
  obtain ⟨N, hN⟩ : ∃ N : Int, worstP (valsP pre) 0 = N := ⟨_, rfl⟩
  obtain ⟨C, hC⟩ : ∃ C : Int, checkP x.1.t = C := ⟨_, rfl⟩
  have HV := hid (show valsP (pre ++ [x]) = valsP pre ++ [x.1] by simp [valsP])
  have HS := hid (show worstP (valsP pre ++ [x.1]) 0 = if C = 0 then N else C by rw [worstP_snoc, hN, hC])
  have HCC := hid (show C = 0 ∨ C = 141 ∨ C = 2 from hC ▸ checkP_cases x.1.t)
  have HC := hid hC
  rw [hN] at hch
  rw [hC] at CL
  have CL2 := hid (CallsIn.mono (R' := fun e w' => e = .returned (.int .i64 C) ∧ Cod w.heap.size 0 N w' ∧ Hid (Below W.heap.size W w')) CL (by
    rintro e w' ⟨rfl, hb⟩
    exact ⟨rfl, hch.below hb, hb⟩))
  have HLA := hid hla
  have HB := hid hB
  clear hN hC hsz hbx hS1 HM HF hB0 CL hla hB hch
  unfold Lst.val
  rcases HCC.out with h | h | h
  ·have HS0 := hid (show worstP (valsP (pre ++ [x])) 0 = N by rw [HV.out, HS.out, if_pos h])
   subst h
   gi_wp2_with (refine ⟨trivial, ?_⟩; refine (CallsIn.inRound l CL2.out).mono ?_; rintro e W3 ⟨rfl, hk3, hb3⟩)
   exact ⟨keepsOthers_below hb3.out, KeptB.of_below hb3.out HB.out.size, ⟨by rw [HV.out]; intro y hy; rcases List.mem_append.1 hy with hy | hy; exact HLA.out y hy; rw [List.mem_singleton.1 hy, HC.out]; omega, by rw [HS0.out]; exact hk3⟩, HB.out.trans (hb3.out.mono HB.out.size)⟩
  ·have HY := hid (show ∃ y ∈ valsP (pre ++ [x]), checkP y.t = 141 from ⟨x.1, by rw [HV.out]; simp, by rw [HC.out, h]⟩)
   subst h
   gi_wp2_with (refine ⟨trivial, ?_⟩; refine (CallsIn.inRound l CL2.out).mono ?_; rintro e W3 ⟨rfl, ⟨k1, k2, k3, k4⟩, hb3⟩)
   exact ⟨(keepsOthers_below hb3.out).trans (KeepsOthers.setCell _ _ _), ⟨rfl, HY.out, World.cell?_setCell_same' _ _ _ (by rw [k1]; rfl)⟩, (HB.out.trans (hb3.out.mono HB.out.size)).setCell (p := ⟨w.heap.size + 1, 0, none⟩) (by simp) _⟩
  ·have HS0 := hid (show worstP (valsP (pre ++ [x])) 0 = 2 by rw [HV.out, HS.out, if_neg (by omega), h])
   subst h
   gi_wp2_with (refine ⟨trivial, ?_⟩; refine (CallsIn.inRound l CL2.out).mono ?_; rintro e W3 ⟨rfl, hk3, hb3⟩; have hk3' := hid hk3; obtain ⟨k1, k2, k3, k4⟩ := hk3)
   exact ⟨(keepsOthers_below hb3.out).trans (KeepsOthers.setCell _ _ _), (KeptB.of_below hb3.out HB.out.size).setCell (p := ⟨w.heap.size + 1 + 1, 0, none⟩) (by simp; omega) (by simp) _,
     ⟨by rw [HV.out]; intro y hy; rcases List.mem_append.1 hy with hy | hy; exact HLA.out y hy; rw [List.mem_singleton.1 hy, HC.out]; omega, by rw [HS0.out]; exact hk3'.out.set⟩, (HB.out.trans (hb3.out.mono HB.out.size)).setCell (p := ⟨w.heap.size + 1 + 1, 0, none⟩) (by simp; omega) _⟩
 case done =>
  rintro D ys W hD rfl ⟨⟨hla, hch⟩, hB⟩ hK
  rw [valsP_with] at hla hch
  obtain ⟨h1, _⟩ := codeP_none m.codes 0 hla (.inl rfl)
  rw [if_neg (by omega)] at h1
  rw [h1] at hch
  obtain ⟨q, hq⟩ : ∃ q, codeP m.codes = q := ⟨_, rfl⟩
  rw [hq] at hch
  have HQ := hid hq
  clear hq h1 hla
  obtain ⟨r1, r2, f1, f2⟩ := hch
  gi_wp2
  have hK' := (KeepsOthers.setCell W ⟨w.heap.size + 1, 0, none⟩ (.int .i64 q)).same D _ hK rfl
  refine ⟨by simp, .inl ⟨_, _, rfl, run_takeDeferred hK', ?_⟩⟩
  have hc5 := cell_kept (World.cell?_setCell_same' W ⟨w.heap.size + 1, 0, none⟩ (.int .i64 q) (by rw [r1]; rfl)) (grownBy_putObj' _ D (.deferred none)) (fun r e => by cases e; exact ⟨_, hK', rfl⟩)
  refine ⟨.int .i64 q, ?_, by rw [HQ.out], (hB.setCell (p := ⟨w.heap.size + 1, 0, none⟩) (by simp) _).trans (belowK_b (w := w) (Nat.le_refl _) _ D _ _ (by omega) hK' rfl rfl)⟩
  simp [results, Tryz.f52, go_sem, hc5]
 case stop =>
  rintro D c pre W hD hpre ⟨⟨rfl, ⟨y, hy, hy1⟩, hc2⟩, hB⟩ hK
  have HR : Hid (codeP m.codes = 141) := by
   show _ = _
   refine codeP_many _ y ?_ hy1
   rw [← valsP_with m (Fair w) (fair_all HM.out HF.out)]
   unfold valsP at hy ⊢
   obtain ⟨z, hz⟩ := hpre
   rw [← hz, List.map_append]
   exact List.mem_append_left _ hy
  clear hy hy1 hpre
  gi_wp2
  refine ⟨by simp, .inl ⟨_, _, rfl, run_takeDeferred hK, ?_⟩⟩
  have hc5 := cell_kept hc2 (grownBy_putObj' _ D (.deferred none)) (fun r e => by cases e; exact ⟨_, hK, rfl⟩)
  refine ⟨.int .i64 141, ?_, by rw [HR.out], hB.trans (belowK_b (w := w) (Nat.le_refl _) W D _ _ (by omega) hK rfl rfl)⟩
  simp [results, Tryz.f52, go_sem, hc5]
end Go.Proofs.YtepbjkkakfpjgaaGreatDoor.Mod
namespace Go.Proofs.YtepbjkkakfpjgaaGreatDoor.Body
set_option linter.unusedVariables false
open Go.RowKit Go.Proofs.YtepbjkkakfpjgaaGreatDoor.Instr
theorem lists_kind (op : Int) : listsP op = decide (kindP op = 1) := by
 unfold listsP kindP
 (repeat' split) <;> simp_all <;> omega
theorem which_kind (op : Int) : whichP op = decide (kindP op = 2 ∨ kindP op = 3) := by
 unfold whichP kindP
 (repeat' split) <;> simp_all <;> omega
theorem stored_kind (op : Int) : storedP op = decide (kindP op = 5) := by
 unfold storedP kindP
 (repeat' split) <;> simp_all <;> omega
theorem four_kind {op : Int} : op = 14 ↔ kindP op = 4 := by
 unfold kindP
 (repeat' split) <;> simp_all <;> omega
theorem seven_kind {op : Int} : op = 65 ↔ kindP op = 7 := by
 unfold kindP
 (repeat' split) <;> simp_all <;> omega
theorem right_none (op res a b n : Int) (tl ln en : Nat) (ta la ea : Option Addr) (tc lc ec : Nat) (w : World) (h : nameL op = []) :
  Calls Tryz.prog 230 #[.agg #[.int .i64 op, .int .i64 res, .int .u32 a, .int .u32 b, .int .i32 n, .slice ta tl tc, .slice la ln lc, .slice ea en ec]] w fun e w' => e = .returned (.bool false) ∧ Below w.heap.size w w' := by
 have FA := hid (fun W => refAlign_any op W)
 have FN := hid (fun W => refName_any op W)
 have hs : strOfNums (nameL op) = ⟨#[]⟩ := by rw [h]; rfl
 rw [hs] at FN
 obtain ⟨al, hal⟩ : ∃ al, alignP op = al := ⟨_, rfl⟩
 obtain ⟨st, hst⟩ : ∃ st, storedP op = st := ⟨_, rfl⟩
 rw [hal, hst] at FA
 have M := hid ((fun o => (Below.refl w.heap.size w).alloc (Nat.le_refl _) o) (.cells #[.int .i64 op, .int .i64 res, .int .u32 a, .int .u32 b, .int .i32 n, .slice ta tl tc, .slice la ln lc, .slice ea en ec] 126))
 clear h hs hal hst
 go_enter Tryz.func230, Tryz.ntmps230
 go_wp2_with fail
 refine (FA.out _).mono ?_
 rintro e w1 ⟨rfl, rfl⟩
 go_wp2_with fail
 refine (FN.out _).mono ?_
 rintro e w1 ⟨rfl, hb1⟩
 have HB := hid (M.out.trans (hb1.mono M.out.size))
 clear hb1
 go_wp2
 go_ret
 exact ⟨rfl, HB.out⟩
end Go.Proofs.YtepbjkkakfpjgaaGreatDoor.Body
namespace Go.Proofs.YtepbjkkakfpjgaaGreatDoor.Leb
open Go.RowKit
theorem and127_s {x : Int} : bits .and .i64 x 127 = x % 128 := by
 show IntKind.i64.wrap ((BitVec.ofInt 64 x &&& BitVec.ofInt 64 127).toNat : Int) = _
 have h : (BitVec.ofInt 64 127).toNat = 127 := by decide
 rw [BitVec.toNat_and, h, BitVec.toNat_ofInt, nat_mask7, IntKind.wrap_i64]
 omega
set_option maxHeartbeats 3200000 in
theorem refS_any (n : Int) (w : World) (h0 : -2147483648 ≤ n) (h1 : n < 2147483648) :
  Calls Tryz.prog 234 #[.int .i32 n] w (Gives w (encS n)) := by
 go_enter Tryz.func234, Tryz.ntmps234
 go_wp2
 go_loopw [3, 4] (fun out su wr => ∃ (m : Int) (xs : List Int), -2147483648 ≤ m ∧ m < 2147483648 ∧ su = .int .i64 m ∧ Own w.heap.size wr out xs ∧ xs ++ encS m = encS n ∧ xs.length ≤ 5 ∧ Below w.heap.size w wr ∧ w.heap.size ≤ wr.heap.size)
  (fun _ su _ => (intOf su).natAbs)
 case atStart => exact ⟨n, [], h0, h1, rfl, World.ownsRow_nil _ _ _ _, rfl, by decide, Below.refl _ _, Nat.le_refl _⟩
 case round =>
  obtain ⟨m, xs, hm0, hm1, rfl, hown, hp, hx5, hb, hsz⟩ := hrel
  obtain ⟨a, c, rfl⟩ := hown.slice
  have HP := hid hp
  clear hp
  have hmask := and127_s (x := m)
  by_cases hl : m < -64 ∨ 64 ≤ m
  ·have HF : Hid ((xs ++ [m % 128 + 128]) ++ encS (m / 128) = encS n) := by
    have := HP.out; rw [encS_step hl hm0 hm1] at this; rw [← this]; simp; exact trivial
   have H5 : Hid ((xs ++ [m % 128 + 128]).length ≤ 5) := by
    have h := congrArg List.length HF.out
    have := sizeS_pos n
    simp [encS_length] at h
    show _ ≤ _
    simp; omega
   clear HP
   rcases hl with hl | hl
   ·go_wp2_with (first | (at_builtin; refine append_byte rfl (.tmp 13) (.tmp 18) rfl (m % 128 + 128) rfl hown hb hsz rfl (by omega) ?_; intro v' w1 hown' hb' hsz'))
    go_roundw
    case rel => exact ⟨m / 128, xs ++ [m % 128 + 128], by omega, by omega, rfl, hown', HF.out, H5.out, hb', hsz'⟩
    case measure => simp [intOf]; omega
   ·have hl2 : ¬ m < -64 := by omega
    go_wp2_with (first | (at_builtin; refine append_byte rfl (.tmp 13) (.tmp 18) rfl (m % 128 + 128) rfl hown hb hsz rfl (by omega) ?_; intro v' w1 hown' hb' hsz'))
    go_roundw
    case rel => exact ⟨m / 128, xs ++ [m % 128 + 128], by omega, by omega, rfl, hown', HF.out, H5.out, hb', hsz'⟩
    case measure => simp [intOf]; omega
  ·have HF : Hid (xs ++ [m % 128] = encS n) := by
    have := HP.out; rw [encS_last (by omega) (by omega)] at this; exact this
   have hl1 : ¬ m < -64 := by omega
   have hl2 : ¬ 63 < m := by omega
   clear HP hl
   go_wp2_with (first | (at_builtin; refine append_byte rfl (.tmp 22) (.tmp 26) rfl (m % 128) rfl hown hb hsz rfl (by omega) ?_; intro v' w1 hown' hb' hsz'))
   go_ret
   rw [HF.out] at hown'
   exact ⟨v', rfl, hown', hb'⟩
end Go.Proofs.YtepbjkkakfpjgaaGreatDoor.Leb
namespace Go.Proofs.YtepbjkkakfpjgaaGreatDoor.Utf
open Go.RowKit
theorem infoInt : (Tryz.prog.info? 3).map (fun i => (i.zero, i.size, i.bytes)) = some (some (.int .i64 0), 1, 8) := by kernel_rfl
def faultL (zs : List Int) : Int × Int := if (scan zs).2 = zs.length then (0, 0) else (4, (scan zs).2)
def runesL (zs : List Int) : List Int := if (scan zs).2 = zs.length then (scan zs).1 else []
def GotRunes (w : World) (zs : List Int) (e : Ending) (w' : World) : Prop :=
 ∃ v, e = .returned (.tuple #[v, .agg #[.int .i64 (faultL zs).1, .int .i64 (faultL zs).2]]) ∧ OwnK 3 .i64 w.heap.size w' v (runesL zs) ∧ Below w.heap.size w w'
theorem own_nothing (e : TypeId) (k : IntKind) (base : Nat) (w : World) : OwnK e k base w (.slice none 0 0) [] := World.ownsRow_nil _ _ _ _
end Go.Proofs.YtepbjkkakfpjgaaGreatDoor.Utf
namespace Go.Proofs.YtepbjkkakfpjgaaGreatDoor.Body
open Go.RowKit Go.Proofs.YtepbjkkakfpjgaaGreatDoor.Instr
open Kind (Rd numR refuseR)
def zeroI : Value := .agg #[.int .i64 0, .int .i64 0, .int .u32 0, .int .u32 0, .int .i32 0, .slice none 0 0, .slice none 0 0, .slice none 0 0]
theorem infoI : (Tryz.prog.info? 126).map (fun i => (i.zero, i.size, i.bytes)) = some (some zeroI, 8, 104) := by kernel_rfl
section
variable {ops : Array Oper} {o : Oper} {act : Act} {K : Act → World → Prop} {Q : Exit → Act → World → Prop} {E : Prop}
end
end Go.Proofs.YtepbjkkakfpjgaaGreatDoor.Body
/-
  BODY: closeTop, by contract.
-/
namespace Go.Proofs.YtepbjkkakfpjgaaGreatDoor.Body
open Go.RowKit Go.Proofs.YtepbjkkakfpjgaaGreatDoor.Instr
open Kind (Rd numR refuseR)
end Go.Proofs.YtepbjkkakfpjgaaGreatDoor.Body
/-
  BODY: closeTop, by contract, on the stack of open lists.
-/
namespace Go.Proofs.YtepbjkkakfpjgaaGreatDoor.Body
open Go.RowKit Go.Proofs.YtepbjkkakfpjgaaGreatDoor.Instr
open Kind (Rd numR refuseR)
end Go.Proofs.YtepbjkkakfpjgaaGreatDoor.Body
