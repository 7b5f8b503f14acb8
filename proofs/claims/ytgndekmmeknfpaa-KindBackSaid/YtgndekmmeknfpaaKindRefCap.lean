/-
  Kind: the document's own PutLimits of capped limits, by contract: one region that draws its order, with two calls and two appends.
-/
import Derived.Test.YtgndekmmeknfpaaKindRef
import Derived.Test.YtgndekmmeknfpaaKindNum
namespace Go.Proofs.Ytgndekmmeknfpaa.Kind
open Go.RowKit Go.Proofs.Ytgndekmmeknfpaa.Leb

theorem step_append_bytes {ops : Array Oper} {o : Oper} {a : Act} {w : World} {K : Act → World → Prop} {Q : Exit → Act → World → Prop} {E : Prop}
    (hg : o.guard = none) (s x : Operand) (hop : o.op = .call { callee := .builtin .append, args := #[s, x], argTypes := #[27, 27] })
    {base : Nat} (v : Value) {xs ys : List Int} (hs : a.eval s = v) (hown : Own base w v xs) (hbase : base ≤ w.heap.size)
    (b n c : Nat) (hx : a.eval x = .slice (some ⟨b, 0, none⟩) n c) (hn : ys.length = n) (hy : Bytes w (some ⟨b, 0, none⟩) ys) (hl : xs.length + ys.length ≤ 140737488351232)
    (h : ∀ v' w', Own base w' v' (xs ++ ys) → w.grownBy w' v.ownBlock → K (a.put o.dst v') w') :
    if Region.wanted o (yielded ops a.tmps) = true then Oper.wp Try.prog o a w K Q else E := by
  have hw : Region.wanted o (yielded ops a.tmps) = true := by simp [Region.wanted, hg]
  rw [if_pos hw]
  obtain ⟨i0, hi, hz0, hz1, hz2⟩ := info_parts infoByte
  subst hn
  refine wp_append_own w s x 27 hop base 5 i0 (.int .u8 0) 1 1 Try.underlying27 hi hz0 hz1 hz2 rfl (by decide) v xs.length _ hs hown ⟨b, 0, none⟩ ys.length c (ys.map (Value.int .u8)) hx (by simp)
    ?_ ?_ ?_ ?_ hbase (fun v' w' hown' hgrow _ => h v' w' (by unfold Own; rw [List.length_append, List.map_append]; exact hown') hgrow)
  · intro j u hj
    have hjl : j < ys.length := by
      rcases Nat.lt_or_ge j ys.length with h | h
      · exact h
      · rw [List.getElem?_eq_none (by simpa using h)] at hj; cases hj
    rcases hy.at_ with h0 | ⟨b', off, he, hc⟩
    · rw [h0] at hjl; simp at hjl
    · simp only [Option.some.injEq, Addr.mk.injEq] at he
      obtain ⟨rfl, rfl, _⟩ := he
      have hplain : (⟨b, 0, none⟩ : Addr).add j = ⟨b, 0 + j, none⟩ := by unfold Addr.add; split <;> simp_all
      rw [hplain, hc j hjl, ← hj, getD_lt hjl]; simp [hjl]
  · intro u hu
    obtain ⟨n, _, rfl⟩ := List.mem_map.1 hu
    rfl
  · unfold maxLen; omega
  · omega
theorem Own.at {base : Nat} {w : World} {a : Option Addr} {n c : Nat} {zs : List Int} (h : Own base w (.slice a n c) zs) (hn : 0 < zs.length) : ∃ g, a = some ⟨g, 0, none⟩ ∧ base ≤ g ∧ g < w.heap.size := by
  rcases h.2 with ⟨_, h0⟩ | ⟨g, cap, cur, hv, hb, hh, _⟩
  · omega
  · simp only [Value.slice.injEq] at hv
    exact ⟨g, hv.1, hb, (Array.getElem?_eq_some_iff.1 hh).1⟩
theorem Bytes.grown {w w' : World} {g row : Nat} {zs : List Int} (h : Bytes w (some ⟨g, 0, none⟩) zs) (hg : w.grownBy w' (some row)) (hlt : g < w.heap.size) (hne : g ≠ row) : Bytes w' (some ⟨g, 0, none⟩) zs := by
  refine ⟨h.byte, h.size, ?_⟩
  rcases h.at_ with h0 | ⟨b, off, he, hc⟩
  · exact .inl h0
  · simp only [Option.some.injEq, Addr.mk.injEq] at he
    obtain ⟨rfl, rfl, _⟩ := he
    exact .inr ⟨g, 0, rfl, fun i hi => (World.cell?_of_block (w := w) (hg.block g hlt (fun e => hne (by simpa using e)))).trans (hc i hi)⟩
theorem own_lit_d (w : World) (z : Int) : Own w.heap.size (w.alloc (.cells #[.int .u8 z] 5)).drew (.slice (some ⟨w.heap.size, 0, none⟩) 1 1) [z] := own_lit w z
theorem cat1_len (n : Int) : ([1] ++ encU n).length = 1 + sizeU n := by simp [encU_length]; omega

set_option maxHeartbeats 3200000 in
theorem refPutLimits_capped (n x most : Int) (h : okLim n x true most = true) (h0 : 0 ≤ n ∧ n ≤ 4294967295) (h1 : 0 ≤ x ∧ x ≤ 4294967295) (w : World) : Calls Try.prog 9 #[.agg #[.int .u32 n, .int .u32 x, .bool true], .int .u32 most] w (PutOk w (limL n x true)) := by
  have hC := fun w => refCheckLimits_any n x true most w
  have hc0 : codeLim n x true most = 0 := by unfold codeLim; rw [if_pos h]
  simp only [hc0] at hC
  have HCAT := hid (limL_cat n x)
  have HLE := hid (limL_len n x)
  have HC1 := hid (cat1_len n)
  have hs := sizeU_pos n
  have hs2 := sizeU_pos x
  clear hc0 h
  go_enter Try.func9, Try.ntmps9
  go_wp2_with fail
  refine (hC _).mono ?_
  rintro e w1 ⟨rfl, hb1⟩
  have hW0 : Below w.heap.size w (w.alloc (.cells #[.int .u32 n, .int .u32 x, .bool true] 26)) := (Below.refl _ _).alloc (Nat.le_refl _) _
  have hs0 : w.heap.size + 1 = (w.alloc (.cells #[.int .u32 n, .int .u32 x, .bool true] 26)).heap.size := by simp
  have HS0 := hid hs0
  obtain ⟨d0, d1, d2⟩ := three hb1
  have c0 : (w.alloc (.cells #[.int .u32 n, .int .u32 x, .bool true] 26)).cell? ⟨w.heap.size, 0, none⟩ = some (.int .u32 n) := by go_simp
  have c1 : (w.alloc (.cells #[.int .u32 n, .int .u32 x, .bool true] 26)).cell? ⟨w.heap.size, 1, none⟩ = some (.int .u32 x) := by go_simp
  clear hC hs0
  generalize w.alloc (.cells #[.int .u32 n, .int .u32 x, .bool true] 26) = W0 at *
  go_wp2
  have hS := keepN (w := W0) (w' := w1.drew) c0 c1 hb1.drew
  go_region_held_law (fun w' => Below W0.heap.size W0 w' ∧ w'.cell? ⟨w.heap.size, 0, none⟩ = some (.int .u32 n) ∧ w'.cell? ⟨w.heap.size, 1, none⟩ = some (.int .u32 x))
    (first
      | (with_reducible assumption)
      | (with_reducible exact keepN c0 c1 hB29)
      | (with_reducible exact keepN c0 c1 hB25)
      | (with_reducible exact keepN c0 c1 hA16)
      | (with_reducible exact keepN c0 c1 hA13)
      | (with_reducible exact keepN c0 c1 (thenA hA16 _))
      | (with_reducible exact keepN c0 c1 (thenA hA13 _))
      | exact keepN c0 c1 (hb1.alloc hb1.size _).drew)
    (first
      | (have hoL := ((own_lit_d w1 1).below hb13).mono (base' := W0.heap.size) (hb1.size); have hyc := hy13; have hAc := hA13
         refine step_append_bytes rfl (.tmp 21) (.tmp 24) rfl (base := W0.heap.size) (.slice (some ⟨w1.heap.size, 0, none⟩) 1 1) (by go_simp) hoL hAc.size g13 (sizeU n) c13 (by go_simp) (encU_length n) hyc (by rw [encU_length]; simp; omega) ?_
         intro v25 w25 ho25 hg25
         have hB25 := hAc.grown hg25 hAc.size (fun k h => by simp only [Value.ownBlock, Option.some.injEq] at h; subst h; exact hb1.size)
         clear hoL hyc hAc hg25
         obtain ⟨a25, c25, rfl⟩ := ho25.sliceN HC1.out)
      | (have hoL := (((own_lit_d w1 1).below hb13).below hb16).mono (base' := W0.heap.size) (hb1.size); have hyc := hy13.below hb16; have hAc := hA16
         refine step_append_bytes rfl (.tmp 21) (.tmp 24) rfl (base := W0.heap.size) (.slice (some ⟨w1.heap.size, 0, none⟩) 1 1) (by go_simp) hoL hAc.size g13 (sizeU n) c13 (by go_simp) (encU_length n) hyc (by rw [encU_length]; simp; omega) ?_
         intro v25 w25 ho25 hg25
         have hB25 := hAc.grown hg25 hAc.size (fun k h => by simp only [Value.ownBlock, Option.some.injEq] at h; subst h; exact hb1.size)
         have hy16 := Bytes.grown hy16 hg25 hi16 (by have h1 := hb13.size; have h2 := lo16; (try simp at h1); (try simp at h2); omega)
         clear hoL hyc hAc hg25
         obtain ⟨a25, c25, rfl⟩ := ho25.sliceN HC1.out)
      | (have hoL := (own_lit w13 1).mono (base' := W0.heap.size) (hA13.size); have hyc := hy13.alloc (.cells #[.int .u8 1] 5); have hAc := thenA hA13 (.cells #[.int .u8 1] 5)
         refine step_append_bytes rfl (.tmp 21) (.tmp 24) rfl (base := W0.heap.size) (.slice (some ⟨w13.heap.size, 0, none⟩) 1 1) (by go_simp) hoL hAc.size g13 (sizeU n) c13 (by go_simp) (encU_length n) hyc (by rw [encU_length]; simp; omega) ?_
         intro v25 w25 ho25 hg25
         have hB25 := hAc.grown hg25 hAc.size (fun k h => by simp only [Value.ownBlock, Option.some.injEq] at h; subst h; exact hA13.size)
         clear hoL hyc hAc hg25
         obtain ⟨a25, c25, rfl⟩ := ho25.sliceN HC1.out)
      | (have hoL := ((own_lit w13 1).below hb16).mono (base' := W0.heap.size) (hA13.size); have hyc := (hy13.alloc (.cells #[.int .u8 1] 5)).below hb16; have hAc := hA16
         refine step_append_bytes rfl (.tmp 21) (.tmp 24) rfl (base := W0.heap.size) (.slice (some ⟨w13.heap.size, 0, none⟩) 1 1) (by go_simp) hoL hAc.size g13 (sizeU n) c13 (by go_simp) (encU_length n) hyc (by rw [encU_length]; simp; omega) ?_
         intro v25 w25 ho25 hg25
         have hB25 := hAc.grown hg25 hAc.size (fun k h => by simp only [Value.ownBlock, Option.some.injEq] at h; subst h; exact hA13.size)
         have hy16 := Bytes.grown hy16 hg25 hi16 (by have h2 := lo16; (try simp at h2); omega)
         clear hoL hyc hAc hg25
         obtain ⟨a25, c25, rfl⟩ := ho25.sliceN HC1.out)
      | (have hoL := (own_lit w16 1).mono (base' := W0.heap.size) (hA16.size); have hyc := (hy13.below hb16).alloc (.cells #[.int .u8 1] 5); have hAc := thenA hA16 (.cells #[.int .u8 1] 5)
         refine step_append_bytes rfl (.tmp 21) (.tmp 24) rfl (base := W0.heap.size) (.slice (some ⟨w16.heap.size, 0, none⟩) 1 1) (by go_simp) hoL hAc.size g13 (sizeU n) c13 (by go_simp) (encU_length n) hyc (by rw [encU_length]; simp; omega) ?_
         intro v25 w25 ho25 hg25
         have hB25 := hAc.grown hg25 hAc.size (fun k h => by simp only [Value.ownBlock, Option.some.injEq] at h; subst h; exact hA16.size)
         have hy16 := Bytes.grown (hy16.alloc (.cells #[.int .u8 1] 5)) hg25 (by simp; omega) (by omega)
         clear hoL hyc hAc hg25
         obtain ⟨a25, c25, rfl⟩ := ho25.sliceN HC1.out)
      | (have hoM := ho25.below hb16; have hAc := hA16
         refine step_append_bytes rfl (.tmp 25) (.tmp 28) rfl (base := W0.heap.size) (.slice a25 (1 + sizeU n) c25) (by go_simp) hoM hAc.size g16 (sizeU x) c16 (by go_simp) (encU_length x) hy16 (by rw [HC1.out, encU_length]; omega) ?_
         intro v29 w29 ho29 hg29
         have hB29 := hAc.grown hg29 hAc.size (fun k h => (World.ownsRow.lt hoM k h).1)
         clear hoM hAc hg29
         rw [HCAT.out] at ho29
         obtain ⟨a29, c29, rfl⟩ := ho29.sliceN HLE.out)
      | (have hoM := ho25; have hAc := hB25
         refine step_append_bytes rfl (.tmp 25) (.tmp 28) rfl (base := W0.heap.size) (.slice a25 (1 + sizeU n) c25) (by go_simp) hoM hAc.size g16 (sizeU x) c16 (by go_simp) (encU_length x) hy16 (by rw [HC1.out, encU_length]; omega) ?_
         intro v29 w29 ho29 hg29
         have hB29 := hAc.grown hg29 hAc.size (fun k h => (World.ownsRow.lt hoM k h).1)
         clear hoM hAc hg29
         rw [HCAT.out] at ho29
         obtain ⟨a29, c29, rfl⟩ := ho29.sliceN HLE.out)
      | (go_at_call 22; ((with_reducible refine (refU_any n _ (by omega) (by omega)).mono ?_); rintro e w13 ⟨v13, rfl, ho13, hb13⟩; obtain ⟨a13, c13, rfl⟩ := ho13.sliceN (encU_length n); obtain ⟨g13, rfl, lo13, hi13⟩ := Own.at ho13 (by rw [encU_length]; omega); have hy13 := ho13.bytes (encU_bytes n) (by rw [encU_length]; omega); have hA13 := thenB (w := W0) (box_out (x := .int .u32 n) (y := .int .u32 x) (k := w.heap.size) (by assumption)) hb13; clear ho13))
      | (go_at_call 22; ((with_reducible refine (refU_any x _ (by omega) (by omega)).mono ?_); rintro e w16 ⟨v16, rfl, ho16, hb16⟩; obtain ⟨a16, c16, rfl⟩ := ho16.sliceN (encU_length x); obtain ⟨g16, rfl, lo16, hi16⟩ := Own.at ho16 (by rw [encU_length]; omega); have hy16 := ho16.bytes (encU_bytes x) (by rw [encU_length]; omega); have hA16 := thenB (w := W0) (box_out (x := .int .u32 n) (y := .int .u32 x) (k := w.heap.size) (by assumption)) hb16; clear ho16)))
  all_goals go_wp2
  all_goals go_ret2
  all_goals exact ⟨.slice a29 (1 + sizeU n + sizeU x) c29, by simp, ho29.mono (by have := HS0.out; omega), hW0.trans (hB29.mono (by have := HS0.out; omega))⟩
end Go.Proofs.Ytgndekmmeknfpaa.Kind
