import Derived.Test.YtepbjkkakfpjgaaGreatDoorMc06
import Derived.Test.YtepbjkkakfpjgaaGreatDoorMc05
import Derived.Test.YtepbjkkakfpjgaaGreatDoorMc01
import Derived.Test.YtepbjkkakfpjgaaGreatDoorMc02
import Derived.Laws.AppendOwnNone
import Derived.Deep.RegionHeld
import Derived.RegionTactic
import Derived.BigQuiet
import Derived.Laws.BytesArg
import Derived.Deep.QuietTactic
import Derived.Deep.RegionHeld3
import Derived.Deep.RegionLaw
namespace Go.Proofs.YtepbjkkakfpjgaaGreatDoor.Body
set_option linter.unusedVariables false
open Go.RowKit Go.Proofs.YtepbjkkakfpjgaaGreatDoor.Instr

theorem run_append_none (w : World) (base : Nat) (t ty e : TypeId) (i : TypeInfo) (size c : Nat) (ht : Tryz.prog.underlying t = some (.slice e)) (hi : Tryz.prog.info? e = some i)
    (v : Value) (n : Nat) (xs : List Value) (hown : w.ownsRow base e size v n xs) :
    (Builtin.append_ #[t, t] ty #[v, .slice none 0 c]).run Tryz.prog w = .ok v w := by
  rcases hown.2 with ⟨rfl, rfl⟩ | ⟨g, cap, cur, rfl, _, _, hnc, _⟩
  · simp [Builtin.append_, run_underlying ht, sizeOf, typeInfo, hi, Builtin.lenOf, Builtin.firstCells]
  · simp [Builtin.append_, run_underlying ht, sizeOf, typeInfo, hi, Builtin.lenOf, Builtin.firstCells, hnc, storeCells]
section
variable {ops : Array Oper} {rest : List Oper} {o : Oper} {act : Act} {Q : Exit → Act → World → Prop}
theorem append_none (hgd : o.guard = none) (s x : Operand) (t : TypeId) (ho : o.op = .call { callee := .builtin .append, args := #[s, x], argTypes := #[t, t] })
    {w : World} (base : Nat) (e : TypeId) (i : TypeInfo) (size c : Nat) (ht : Tryz.prog.underlying t = some (.slice e)) (hi : Tryz.prog.info? e = some i)
    (v : Value) (n : Nat) (xs : List Value) (hs : act.eval s = v) (hown : w.ownsRow base e size v n xs) (hx : act.eval x = .slice none 0 c)
    (h : wpList Tryz.prog ops Q rest (act.put o.dst v) w) : wpList Tryz.prog ops Q (o :: rest) act w := by
  refine wpList_plain hgd fun K hK => ?_
  have hrun := run_append_none w base t o.type e i size c ht hi v n xs hown
  unfold Oper.wp
  simp [execOp, ho, resolve, invoke, builtin, hs, hx, hrun, Result.andThen]
  exact hK _ _ h
theorem append_u32s (hgd : o.guard = none) (s x : Operand) (ho : o.op = .call { callee := .builtin .append, args := #[s, x], argTypes := #[69, 69] })
    {base : Nat} {w0 wr : World} {v : Value} {xs ys : List Int} (hs : act.eval s = v) (hown : OwnK 28 .u32 base wr v xs) (hb : Below base w0 wr) (hbase : base ≤ wr.heap.size)
    (a2 : Option Addr) (n c : Nat) (hx : act.eval x = .slice a2 n c) (hn : ys.length = n) (hy : TagsAt wr.heap.size wr a2 ys) (hl : xs.length + ys.length ≤ 8796093022208)
    (h : ∀ v' w', OwnK 28 .u32 base w' v' (xs ++ ys) → Below base w0 w' → base ≤ w'.heap.size → wpList Tryz.prog ops Q rest (act.put o.dst v') w') :
    wpList Tryz.prog ops Q (o :: rest) act wr := by
  obtain ⟨i0, hi, hz0, hz1, hz2⟩ := info_parts infoU32
  subst hn
  have fin : ∀ v' w', w'.ownsRow base 28 1 v' (xs.length + ys.length) (xs.map (Value.int .u32) ++ ys.map (Value.int .u32)) → wr.grownBy w' v.ownBlock → wpList Tryz.prog ops Q rest (act.put o.dst v') w' := by
    intro v' w' hown' hgrow
    refine h v' w' ?_ (hb.grown hgrow (by omega) (fun k hk => (World.ownsRow.lt hown k hk).1)) (by have := hgrow.size; omega)
    unfold OwnK; rw [List.length_append, List.map_append]; exact hown'
  rcases hy with h0 | ⟨b, off, rfl, hlt, hc⟩
  · subst h0
    cases a2 with
    | none => exact append_none hgd s x 69 ho base 28 i0 1 c Tryz.underlying69 hi v xs.length _ hs hown hx (h v wr (by simpa using hown) hb hbase)
    | some ad =>
      refine wpList_append_own _ hgd s x 69 ho base 28 i0 (.int .u32 0) 1 4 Tryz.underlying69 hi hz0 hz1 hz2 rfl (by decide) v xs.length _ hs hown ad 0 c [] hx rfl
        (by simp) (by simp) ?_ ?_ hbase (fun v' w' hown' hgrow _ => fin v' w' (by simpa using hown') hgrow)
      · unfold maxLen; simp at hl; omega
      · simp at hl; omega
  · refine wpList_append_own _ hgd s x 69 ho base 28 i0 (.int .u32 0) 1 4 Tryz.underlying69 hi hz0 hz1 hz2 rfl (by decide) v xs.length _ hs hown ⟨b, off, none⟩ ys.length c (ys.map (Value.int .u32)) hx (by simp)
      ?_ ?_ ?_ ?_ hbase (fun v' w' hown' hgrow _ => fin v' w' hown' hgrow)
    · intro j u hj
      have hjl : j < ys.length := by
        rcases Nat.lt_or_ge j ys.length with h | h
        · exact h
        · rw [List.getElem?_eq_none (by simpa using h)] at hj; cases hj
      have hplain : (⟨b, off, none⟩ : Addr).add j = ⟨b, off + j, none⟩ := by unfold Addr.add; split <;> simp_all
      rw [hplain, hc j hjl]
      rw [← hj, getD_lt hjl]; simp [hjl]
    · intro u hu
      obtain ⟨n, _, rfl⟩ := List.mem_map.1 hu
      rfl
    · unfold maxLen; omega
    · omega
end
section
variable {ops : Array Oper} {rest : List Oper} {o : Oper} {act : Act} {Q : Exit → Act → World → Prop}
theorem append_insG (hgd : o.guard = none) (s x : Operand) (ho : o.op = .call { callee := .builtin .append, args := #[s, x], argTypes := #[45, 45] })
    {base n : Nat} {wr : World} {v : Value} {xs : List Value} (y : Ix) (hs : act.eval s = v) (hown : wr.ownsRow base 126 8 v n xs) (hbase : base ≤ wr.heap.size) (g0 : Nat) (hg0 : g0 = wr.heap.size)
    (hx : act.eval x = .slice (some ⟨g0, 0, none⟩) 1 1) (hn : n ≤ 1000000)
    (h : ∀ g cap w', w'.ownsRow base 126 8 (.slice (some ⟨g, 0, none⟩) (n + 1) cap) (n + 1) (xs ++ y.vals.toList) → (wr.alloc (.cells y.vals 126)).grownBy w' v.ownBlock → (v.ownBlock = some g ∨ g = (wr.alloc (.cells y.vals 126)).heap.size) → wpList Tryz.prog ops Q rest (act.put o.dst (.slice (some ⟨g, 0, none⟩) (n + 1) cap)) w') :
    wpList Tryz.prog ops Q (o :: rest) act (wr.alloc (.cells y.vals 126)) := by
  subst hg0
  exact append_ins hgd s x ho y hs hown hbase hx hn h
end
/-- What CopyInstrs gives. -/
def GotCopy (w : World) (n : Nat) (t : Il) (e : Ending) (w' : World) : Prop :=
  ∃ (a : Option Addr) (c : Nat) (u : Il), e = .returned (.slice a n c) ∧ Below w.heap.size w w' ∧ ListAt w'.heap.size w' a n u ∧ (∀ q ∈ blkOf n a ++ u.foot, w.heap.size ≤ q) ∧ u.bare = t.bare
theorem own_none32 (w : World) : OwnK 28 .u32 w.heap.size (w.alloc (.cells #[] 28)) (.slice (some ⟨w.heap.size, 0, none⟩) 0 0) [] := World.ownsRow_made w #[] 0 (Nat.le_refl _) (by unfold maxLen; omega) rfl
/-- What is still to be copied. -/
def Left (w : World) (a : Option Addr) (k : Nat) (r : Il) : Prop := r = .nil ∨ ∃ b off, a = some ⟨b, off, none⟩ ∧ Items w.heap.size w b (off + k * 8) r

set_option maxRecDepth 100000 in
set_option maxHeartbeats 6400000 in
theorem copy_any : ∀ (m : Nat) (t : Il) (a : Option Addr) (n c : Nat) (w : World), t.weight ≤ m → m ≤ 100000 → ListAt w.heap.size w a n t →
    Calls Tryz.prog 38 #[.slice a n c] w (GotCopy w n t) := by
  intro m
  induction m using Nat.strongRecOn with
  | ind m ih =>
    intro t a n c w hm hm1 hL
    have hIH : ∀ (t' : Il) (a' : Option Addr) (n' c' : Nat) (w' : World), t'.weight < m → ListAt w'.heap.size w' a' n' t' → Calls Tryz.prog 38 #[.slice a' n' c'] w' (GotCopy w' n' t') :=
      fun t' a' n' c' w' h1 h2 => ih t'.weight h1 t' a' n' c' w' (Nat.le_refl _) (by omega) h2
    have IH := hid hIH
    have HW := hid hm
    have H0 := hid (show Left w a 0 t from by
      rcases hL.2 with h | ⟨b, off, h1, h2⟩
      · exact .inl h
      · exact .inr ⟨b, off, h1, by simpa using h2⟩)
    have HLN := hid hL.1
    clear hIH ih hm hL
    go_enter Tryz.func38, Tryz.ntmps38
    go_wp2
    go_loopw [3, 4, 5] (fun vo vi v5 wr => ∃ (k : Nat) (u r : Il), vi = .int .i64 k ∧ u.len = k ∧ r.len + k = n ∧ r.weight + k ≤ m ∧ Hid (LOk w vo u wr) ∧ Hid (Below w.heap.size w wr) ∧ Hid (Left w a k r) ∧ Hid (u.bare.app r.bare = t.bare)) (fun _ vi _ _ => n - (intOf vi).toNat)
    case atStart => exact ⟨0, .nil, t, rfl, rfl, HLN.out, HW.out, LOk.start w w, Below.refl _ _, H0, rfl⟩
    case round =>
      clear H0 HW HLN
      obtain ⟨k, u, r, rfl, hu, hr, hw, HO, HB, HI, HE⟩ := hrel
      cases r with
      | nil =>
        simp only [Il.len] at hr
        obtain rfl : k = n := by omega
        obtain ⟨a0, c0, rfl, hl, hlow⟩ := HO.out.value
        rw [hu] at hl hlow ⊢
        have HLL := hid hl
        have HLW := hid hlow
        have hE := HE.out
        simp only [Il.bare, app_nil] at hE
        have HE2 := hid hE
        clear hl hlow hE HO HI HE
        go_wp2
        go_ret
        exact ⟨a0, c0, u, rfl, HB.out, HLL.out, HLW.out, HE2.out⟩
      | cons x l e r =>
        simp only [Il.len] at hr
        simp only [Il.weight] at hw
        have hkn : (k : Int) < (n : Int) := by omega
        obtain ⟨b, off, rfl, hits⟩ : ∃ b off, a = some ⟨b, off, none⟩ ∧ Items w.heap.size w b (off + k * 8) (.cons x l e r) := by
          rcases HI.out with h | h
          · cases h
          · exact h
        obtain ⟨op, res, xa, xb, xn, tags, ta, tc, la, ln, lc, ea, en, ec⟩ := x
        obtain ⟨hb, hx, ⟨c0, c1, c2, c3, c4, c5, c6, c7⟩, htg, hl, he, hrr⟩ := hits
        have HX := hid hx
        dsimp only at c0 c1 c2 c3 c4 c5 c6 c7 htg hl he hw
        have cc : ∀ i v, w.cell? ⟨b, i, none⟩ = some v → wr.cell? ⟨b, i, none⟩ = some v := fun i v h => (HB.out.cell (p := ⟨b, i, none⟩) hb).trans h
        have c0 := cc _ _ c0
        have c1 := cc _ _ c1
        have c2 := cc _ _ c2
        have c3 := cc _ _ c3
        have c4 := cc _ _ c4
        have c5 := cc _ _ c5
        have c6 := cc _ _ c6
        have c7 := cc _ _ c7
        have HR2 := hid (show Left w (some ⟨b, off, none⟩) (k + 1) r from .inr ⟨b, off, rfl, by rw [show off + (k + 1) * 8 = off + k * 8 + 8 by omega]; exact hrr⟩)
        have C1 := hid (fun W (hb : Below w.heap.size w W) => IH.out l la ln lc W (by omega) (show ListAt W.heap.size W la ln l from ListAt.on (w := w) hl hb))
        have C2 := hid (fun W (hb : Below w.heap.size w W) => IH.out e ea en ec W (by omega) (show ListAt W.heap.size W ea en e from ListAt.on (w := w) he hb))
        have hTG : TagsAt w.heap.size w ta tags := htg
        have HTG := hid (fun W (hb : Below w.heap.size w W) => (hTG.below hb).more hb.size)
        have htl : tags.length ≤ 100000 := by omega
        have Y0 := bx_made ⟨op, res, xa, xb, xn, tags, ta, tc, la, ln, lc, ea, en, ec⟩ wr
        have W0B := hid (alloc_bq wr (.cells #[.int .i64 op, .int .i64 res, .int .u32 xa, .int .u32 xb, .int .i32 xn, .slice ta tags.length tc, .slice la ln lc, .slice ea en ec] 126))
        have Y1 := hid (Y0.alloc (.cells #[] 28))
        have OW := own_none32 (wr.alloc (.cells (⟨op, res, xa, xb, xn, tags, ta, tc, la, ln, lc, ea, en, ec⟩ : Ix).vals 126))
        rw [show (wr.alloc (.cells (⟨op, res, xa, xb, xn, tags, ta, tc, la, ln, lc, ea, en, ec⟩ : Ix).vals 126)).heap.size = wr.heap.size + 1 by simp] at OW
        have HOW := hid OW
        obtain ⟨⟨-, -, -, -, -, b5, -, -⟩, -, -, -, -, -, g5, -, -⟩ := Y1.out
        dsimp only [Ix.vals] at b5 g5
        clear hb htg hl he hrr cc hx HI Y0 OW hTG
        have BW1 := hid (HB.out.trans ((thenA W0B.out (.cells #[] 28)).mono HB.out.size))
        have SZ1 := hid (show wr.heap.size + 1 ≤ ((wr.alloc (.cells #[.int .i64 op, .int .i64 res, .int .u32 xa, .int .u32 xb, .int .i32 xn, .slice ta tags.length tc, .slice la ln lc, .slice ea en ec] 126)).alloc (.cells #[] 28)).heap.size by simp)
        have HTL := hid htl
        clear htl
        go_wp2_with (first
          | (at_builtin; refine append_u32s rfl (.tmp 16) (.tmp 18) rfl rfl HOW.out (Below.refl _ _) SZ1.out ta tags.length tc rfl rfl (HTG.out _ BW1.out) (by have := HTL.out; simp; omega) ?_; intro v6 w6 ho6 hb6 hs6; rw [List.nil_append] at ho6; obtain ⟨a6, c6', rfl⟩ := ho6.sliceN (n := tags.length) rfl; have O6 := hid ho6; have B6 := hid hb6; clear b5 g5 ho6 hb6; have Y6 := hid (Y1.out.belowB B6.out (Nat.lt_succ_self _)); have b5 := Y6.out.at_.c5; have g5 := Y6.out.f5; dsimp only at b5; refine Hid.out ?_))
        refine hid ?_
        have Y7 := hid (Y6.out.setT tags a6 c6')
        have BR6 := hid ((thenA W0B.out (.cells #[] 28)).trans (B6.out.mono (Nat.le_succ _)))
        have BR7 := hid (BR6.out.setCell (p := ⟨wr.heap.size, 5, none⟩) (Nat.le_refl _) (.slice a6 tags.length c6'))
        have BW7 := hid (HB.out.trans (BR7.out.mono HB.out.size))
        have TG6 := hid (tags_of O6.out)
        have SV67 := hid ((Save.refl wr.heap.size w6).setCell (p := ⟨wr.heap.size, 5, none⟩) (.inl rfl) (.slice a6 tags.length c6'))
        have D1 := hid (C1.out _ BW7.out)
        obtain ⟨⟨-, -, -, -, -, -, b6, -⟩, -, -, -, -, -, -, g6, -⟩ := Y7.out
        dsimp only at b6 g6
        clear C1 Y6 Y1 HOW HTG W0B BW1 SZ1 B6
        go_wp2_with fail
        refine D1.out.mono ?_
        clear D1 b5 g5
        rintro e1 w8 ⟨a8, c8, u8, rfl, hb8, hl8, hlow8, hbr8⟩
        have Y8 := hid (Y7.out.belowB hb8 (by have := World.block_lt_of_cell? _ _ Y7.out.at_.c0; simpa using this))
        have BR8 := hid (BR7.out.trans (hb8.mono BR7.out.size))
        have SV68 := hid (SV67.out.trans (Save.of_below hb8))
        have HL8 := hid hl8
        have HLW8 := hid (fun q hq => Nat.le_trans (show w6.heap.size ≤ (w6.setCell ⟨wr.heap.size, 5, none⟩ (.slice a6 tags.length c6')).heap.size from by simp [World.setCell]) (hlow8 q hq))
        have HBR8 := hid hbr8
        obtain ⟨⟨-, -, -, -, -, -, b6, -⟩, -, -, -, -, -, -, g6, -⟩ := Y8.out
        dsimp only at b6 g6
        have Y9 := hid (Y8.out.setL a8 ln c8)
        have BR9 := hid (BR8.out.setCell (p := ⟨wr.heap.size, 6, none⟩) (Nat.le_refl _) (.slice a8 ln c8))
        have SV89 := hid ((Save.refl wr.heap.size w8).setCell (p := ⟨wr.heap.size, 6, none⟩) (.inl rfl) (.slice a8 ln c8))
        have BW9 := hid (HB.out.trans (BR9.out.mono HB.out.size))
        have D2 := hid (C2.out _ BW9.out)
        obtain ⟨⟨-, -, -, -, -, -, -, b7⟩, -, -, -, -, -, -, -, g7⟩ := Y9.out
        dsimp only at b7 g7
        clear C2 Y7 Y8 hb8 hl8 hlow8 hbr8 BR7 BR8 SV67
        go_wp2_with fail
        refine D2.out.mono ?_
        clear D2 b6 g6
        rintro e2 w10 ⟨a10, c10, u10, rfl, hb10, hl10, hlow10, hbr10⟩
        have Y10 := hid (Y9.out.belowB hb10 (by have := World.block_lt_of_cell? _ _ Y9.out.at_.c0; simpa using this))
        have BR10 := hid (BR9.out.trans (hb10.mono BR9.out.size))
        have SV810 := hid (SV89.out.trans (Save.of_below hb10))
        have HL10 := hid hl10
        have HLW10 := hid (fun q hq => Nat.le_trans (show w8.heap.size ≤ (w8.setCell ⟨wr.heap.size, 6, none⟩ (.slice a8 ln c8)).heap.size from by simp [World.setCell]) (hlow10 q hq))
        have HBR10 := hid hbr10
        have Y11 := hid (Y10.out.setE a10 en c10)
        have BR11 := hid (BR10.out.setCell (p := ⟨wr.heap.size, 7, none⟩) (Nat.le_refl _) (.slice a10 en c10))
        have SV1011 := hid ((Save.refl wr.heap.size w10).setCell (p := ⟨wr.heap.size, 7, none⟩) (.inl rfl) (.slice a10 en c10))
        obtain ⟨⟨-, -, -, -, -, -, -, b7⟩, -, -, -, -, -, -, -, g7⟩ := Y10.out
        dsimp only at b7 g7
        obtain ⟨⟨z0, z1, z2, z3, z4, z5, z6, z7⟩, -, -, -, -, -, -, -, -⟩ := Y11.out
        dsimp only at z0 z1 z2 z3 z4 z5 z6 z7
        clear Y9 Y10 hb10 hl10 hlow10 hbr10 BR9 BR10 SV89
        have SZ6 := hid (show wr.heap.size + 1 ≤ w6.heap.size from hs6)
        have SZ8 := hid (show w6.heap.size ≤ w8.heap.size from SV68.out.size)
        have kids : (Il.cons ⟨op, res, xa, xb, xn, tags, a6, c6', a8, ln, c8, a10, en, c10⟩ u8 u10 .nil).kids (w10.setCell ⟨wr.heap.size, 7, none⟩ (.slice a10 en c10)) := by
          have hx := HX.out
          refine ⟨⟨hx.op, hx.res, hx.a, hx.b, hx.n, hx.tags, hx.tn, hx.ln, hx.en⟩, ?_, ?_, ?_, trivial⟩
          · have T := (SV68.out.trans SV810.out).trans SV1011.out
            refine (TG6.out.1.touch (.of_save T) (fun q hq h => ?_)).more T.size
            have := TG6.out.2.1 q hq
            omega
          · have T := SV810.out.trans SV1011.out
            refine ListAt.more T.size (HL8.out.touch (.of_save T) (fun q hq h => ?_))
            have h1 := HLW8.out q hq
            have h2 := SZ6.out
            omega
          · refine ListAt.more SV1011.out.size (HL10.out.touch (.of_save SV1011.out) (fun q hq h => ?_))
            have h1 := HLW10.out q hq
            have h2 := SZ6.out
            have h3 := SZ8.out
            omega
        have hlo : ∀ q ∈ (Il.cons ⟨op, res, xa, xb, xn, tags, a6, c6', a8, ln, c8, a10, en, c10⟩ u8 u10 .nil).foot, wr.heap.size ≤ q := by
          intro q hq
          simp only [Il.foot, List.append_nil] at hq
          have h2 := SZ6.out
          have h3 := SZ8.out
          rcases List.mem_append.1 hq with hq | hq
          · rcases List.mem_append.1 hq with hq | hq
            · have := TG6.out.2.1 q hq; omega
            · have := HLW8.out q hq; omega
          · have := HLW10.out q hq; omega
        have KD := hid kids
        have HLO := hid hlo
        have HO11 := hid (HO.out.touch (S := fun _ => False) (.of_below BR11.out) (fun _ _ h => h))
        have hsz11 : w.heap.size ≤ (w10.setCell ⟨wr.heap.size, 7, none⟩ (.slice a10 en c10)).heap.size := Nat.le_trans HB.out.size BR11.out.size
        have hu1 : u.len ≤ 1000000 := by omega
        have ROW := hid HO11.out.row
        clear kids hlo
        go_wp2_with (first
          | (at_builtin; refine append_insG rfl (.tmp 29) (.tmp 31) rfl ⟨op, res, xa, xb, xn, tags, a6, c6', a8, ln, c8, a10, en, c10⟩ rfl ROW.out hsz11 w10.heap.size (by simp [World.setCell]) rfl hu1 ?_; intro g cap6 w12 hown hgrow hat; have HOWN := hid hown; have HGR := hid hgrow; have HAT := hid hat; clear hown hgrow hat; refine Hid.out ?_))
        refine hid ?_
        go_wp2
        go_roundw
        case rel =>
          have hsn := HO.out.snoc HO11.out KD.out HLO.out HB.out.size HOWN.out HGR.out HAT.out
          have hB := below_grown HO11.out.row hsz11 HGR.out
          rw [hu] at hsn
          refine ⟨k + 1, u.app (.cons ⟨op, res, xa, xb, xn, tags, a6, c6', a8, ln, c8, a10, en, c10⟩ u8 u10 .nil), r, by go_num, by rw [app_len]; simp only [Il.len]; omega, by omega, by omega, hsn, (HB.out.trans (BR11.out.mono HB.out.size)).trans hB, HR2, ?_⟩
          show (u.app (.cons ⟨op, res, xa, xb, xn, tags, a6, c6', a8, ln, c8, a10, en, c10⟩ u8 u10 .nil)).bare.app r.bare = t.bare
          rw [bare_app, app_assoc, ← HE.out]
          simp only [Il.bare, Ix.bare, HBR8.out, HBR10.out, Il.app]
        case measure => simp [intOf]; omega
end Go.Proofs.YtepbjkkakfpjgaaGreatDoor.Body

namespace Go.Proofs.YtepbjkkakfpjgaaGreatDoor.Mod
open Go.RowKit Go.Proofs.YtepbjkkakfpjgaaGreatDoor.Instr
set_option linter.unusedVariables false

theorem infoTy : (Tryz.prog.info? 50).map (fun i => (i.zero, i.size, i.bytes)) = some (some (.agg #[.int .i64 0, .int .i64 0]), 2, 16) := by kernel_rfl
theorem infoIm : (Tryz.prog.info? 73).map (fun i => (i.zero, i.size, i.bytes)) = some (some (.agg #[.string ⟨#[]⟩, .string ⟨#[]⟩, .int .i64 0]), 3, 40) := by kernel_rfl
theorem infoFn : (Tryz.prog.info? 66).map (fun i => (i.zero, i.size, i.bytes)) = some (some (.agg #[.int .i64 0, .int .i64 0, .slice none 0 0]), 3, 40) := by kernel_rfl
theorem infoLi : (Tryz.prog.info? 60).map (fun i => (i.zero, i.size, i.bytes)) = some (some (.agg #[.int .u32 0, .int .u32 0, .bool false]), 3, 12) := by kernel_rfl
theorem infoGl : (Tryz.prog.info? 68).map (fun i => (i.zero, i.size, i.bytes)) = some (some (.agg #[.bool false, .slice none 0 0]), 2, 32) := by kernel_rfl
theorem infoEx : (Tryz.prog.info? 75).map (fun i => (i.zero, i.size, i.bytes)) = some (some (.agg #[.string ⟨#[]⟩, .int .i64 0, .int .u32 0]), 3, 32) := by kernel_rfl
theorem infoEl : (Tryz.prog.info? 71).map (fun i => (i.zero, i.size, i.bytes)) = some (some (.agg #[.slice none 0 0, .slice none 0 0]), 2, 48) := by kernel_rfl
theorem infoDa : (Tryz.prog.info? 47).map (fun i => (i.zero, i.size, i.bytes)) = some (some (.agg #[.slice none 0 0, .slice none 0 0]), 2, 48) := by kernel_rfl
theorem BoxAt.set {W : World} {g : Nat} {v : Array Value} (h : BoxAt W g v) (j : Nat) (hj : j < v.size) (u : Value) : BoxAt (W.setCell ⟨g, j, none⟩ u) g (v.setIfInBounds j u) := by
  intro i x hi
  by_cases e : i = j
  · subst e
    rw [Array.getElem?_setIfInBounds_self_of_lt hj] at hi
    cases hi
    exact World.cell?_setCell_same _ _ _ (h i _ (Array.getElem?_eq_getElem hj))
  · rw [Array.getElem?_setIfInBounds_ne (fun k => e k.symm)] at hi
    exact (World.cell?_setCell_other _ _ _ _ (fun k => e (by injection k with _ k2 _; exact k2.symm))).trans (h i x hi)
theorem BoxAt.belowB {W W' : World} {B g : Nat} {v : Array Value} (h : BoxAt W g v) (hb : Below B W W') (hg : g < B) : BoxAt W' g v := fun j x hj => (hb.cell (p := ⟨g, j, none⟩) hg).trans (h j x hj)
theorem BoxAt.setFar {W : World} {g : Nat} {v : Array Value} (h : BoxAt W g v) {p : Addr} (hp : p.block ≠ g) (u : Value) : BoxAt (W.setCell p u) g v := fun j x hj => (World.cell?_setCell_far W p ⟨g, j, none⟩ u hp).trans (h j x hj)
def zeroM : Array Value := #[.slice none 0 0, .slice none 0 0, .slice none 0 0, .slice none 0 0, .slice none 0 0, .slice none 0 0, .slice none 0 0, .bool false, .int .u32 0, .slice none 0 0, .slice none 0 0]
structure Cp (w : World) (mv o : Array Value) (W : World) : Prop where
  below : Below w.heap.size w W
  size : w.heap.size + 3 ≤ W.heap.size
  mod : BoxAt W w.heap.size mv
  res : BoxAt W (w.heap.size + 1) zeroM
  resf : ∀ j, W.frozen? ⟨w.heap.size + 1, j, none⟩ = false
  out : BoxAt W (w.heap.size + 2) o
  outf : ∀ j, W.frozen? ⟨w.heap.size + 2, j, none⟩ = false
theorem Cp.on {w : World} {mv o : Array Value} {W W' : World} (h : Cp w mv o W) (hb : Below (w.heap.size + 3) W W') : Cp w mv o W' :=
  ⟨h.below.trans (hb.mono (by omega)), Nat.le_trans h.size hb.size, h.mod.belowB hb (by omega), h.res.belowB hb (by omega), fun j => (hb.frozen (p := ⟨w.heap.size + 1, j, none⟩) (by simp)).trans (h.resf j), h.out.belowB hb (by omega), fun j => (hb.frozen (p := ⟨w.heap.size + 2, j, none⟩) (by simp)).trans (h.outf j)⟩
theorem Cp.go {w : World} {mv o : Array Value} {W W' : World} (h : Cp w mv o W) (hb : Below W.heap.size W W') : Cp w mv o W' := h.on (hb.mono h.size)
theorem Cp.set {w : World} {mv o : Array Value} {W : World} (h : Cp w mv o W) (j : Nat) (hj : j < o.size) (u : Value) : Cp w mv (o.setIfInBounds j u) (W.setCell ⟨w.heap.size + 2, j, none⟩ u) :=
  ⟨h.below.setCell (by simp) _, by simpa [World.setCell] using h.size, h.mod.setFar (by simp) _, h.res.setFar (by simp) _, fun j => by rw [World.frozen?_setCell]; exact h.resf j, h.out.set j hj u, fun j => by rw [World.frozen?_setCell]; exact h.outf j⟩
theorem Cp.start (w : World) (mv : Array Value) : Cp w mv mv (((w.alloc (.cells mv 32)).alloc (.cells zeroM 32)).alloc (.cells mv 32)) := by
  have h0 := (Below.refl w.heap.size w).alloc (Nat.le_refl _) (.cells mv 32)
  have a1 := BoxAt.made w mv 32
  have a2 := BoxAt.made (w.alloc (.cells mv 32)) zeroM 32
  have a3 := BoxAt.made ((w.alloc (.cells mv 32)).alloc (.cells zeroM 32)) mv 32
  have b1 := fun W o => (Below.refl (World.heap W).size W).alloc (Nat.le_refl _) o
  rw [World.size_alloc] at a2
  rw [World.size_alloc, World.size_alloc] at a3
  refine ⟨(h0.alloc (by simp) _).alloc (by simp; omega) _, by simp, (a1.keep (b1 _ _)).keep (b1 _ _), a2.keep (b1 _ _), fun j => ?_, a3, fun j => ?_⟩
  · refine ((b1 ((w.alloc (.cells mv 32)).alloc (.cells zeroM 32)) (.cells mv 32)).frozen (p := ⟨w.heap.size + 1, j, none⟩) (by simp)).trans ?_
    have h := heap_alloc_new (w.alloc (.cells mv 32)) (.cells zeroM 32)
    rw [World.size_alloc] at h
    exact Soft.frozen ⟨_, _, h⟩ j
  · have h := heap_alloc_new ((w.alloc (.cells mv 32)).alloc (.cells zeroM 32)) (.cells mv 32)
    rw [World.size_alloc, World.size_alloc] at h
    exact Soft.frozen (q := w.heap.size + 2) ⟨_, _, h⟩ j

section
variable {ops : Array Oper} {rest : List Oper} {o : Oper} {act : Act} {Q : Exit → Act → World → Prop}
/-- A whole list that lies somewhere is appended. -/
theorem append_list {e ts : TypeId} {sz nb : Nat} {z : Value} (inf : (Tryz.prog.info? e).map (fun i => (i.zero, i.size, i.bytes)) = some (some z, sz, nb)) (hz : z.cells.size = sz) (h0 : 0 < sz) (hnb : nb ≤ 1000) (ut : Tryz.prog.underlying ts = some (.slice e))
    (hgd : o.guard = none) (s x : Operand) (ho : o.op = .call { callee := .builtin .append, args := #[s, x], argTypes := #[ts, ts] })
    {base : Nat} {wr : World} {v : Value} (hs : act.eval s = v) (hown : OwnR e sz base wr v []) (hbase : base ≤ wr.heap.size)
    (a2 : Option Addr) (n c : Nat) (hx : act.eval x = .slice a2 n c) (ys : List (List Value)) (hn : ys.length = n) (hy : Rows wr.heap.size wr a2 sz ys) (hlen : ∀ r ∈ ys, r.length = sz) (h1 : ∀ r ∈ ys, ∀ u ∈ r, u.oneCell' = true)
    (hl : ys.length ≤ 1000000000)
    (h : ∀ v' w', OwnR e sz base w' v' ys → Below base wr w' → base ≤ w'.heap.size → wpList Tryz.prog ops Q rest (act.put o.dst v') w') :
    wpList Tryz.prog ops Q (o :: rest) act wr := by
  obtain ⟨i0, hi, hz0, hz1, hz2⟩ := info_parts inf
  subst hn
  have hb0 := Below.refl base wr
  rcases hy with h2 | ⟨b, off, rfl, hlt, hc⟩
  · subst h2
    cases a2 with
    | none => exact Body.append_none hgd s x ts ho base e i0 sz c ut hi v _ _ hs hown.row hx (h v wr hown hb0 hbase)
    | some ad =>
      refine append_rows inf hz h0 hnb ut hgd s x ho (xs := []) [] hs hown hb0 hbase ad 0 c rfl hx (by simp) (by simp) (by simp) (by simp) (fun v' w' h3 h4 h5 _ => h v' w' h3 h4 h5)
  · refine append_rows inf hz h0 hnb ut hgd s x ho (xs := []) ys hs hown hb0 hbase ⟨b, off, none⟩ ys.length c rfl hx hlen (fun j u hj => ?_) h1 (by simpa using hl) (fun v' w' h3 h4 h5 _ => h v' w' h3 h4 h5)
    have hfl := flat_length ys hlen
    have hjl : j < ys.length * sz := by
      rcases Nat.lt_or_ge j (ys.length * sz) with h | h
      · exact h
      · rw [List.getElem?_eq_none (by omega)] at hj; cases hj
    have hq : j / sz < ys.length := (Nat.div_lt_iff_lt_mul h0).2 hjl
    have hr : j % sz < sz := Nat.mod_lt _ h0
    have hjj : j / sz * sz + j % sz = j := by rw [Nat.mul_comm]; exact Nat.div_add_mod j sz
    have hg := flat_get ys hlen (j / sz) (j % sz) hq hr
    rw [hjj, hj] at hg
    have := hc (j / sz) hq (j % sz) hr u hg.symm
    rw [Nat.add_assoc, hjj] at this
    have hplain : (⟨b, off, none⟩ : Addr).add j = ⟨b, off + j, none⟩ := by unfold Addr.add; split <;> simp_all
    rw [hplain]
    exact this
end
section
variable {α : Type}
theorem OwnR.madeG {W : World} (e : TypeId) (sz g : Nat) (hg : g = W.heap.size) : OwnR e sz g (W.alloc (.cells #[] e)) (.slice (some ⟨g, 0, none⟩) 0 0) [] := by
  subst hg; exact OwnR.made e sz W
theorem OwnR.alloc {e : TypeId} {sz base : Nat} {w : World} {v : Value} {rs : List (List Value)} (h : OwnR e sz base w v rs) (o : Obj) : OwnR e sz base (w.alloc o) v rs := h.below ((Below.refl _ _).alloc (Nat.le_refl _) o)
/-- What an append of one item gives. -/
theorem Got.more {e : TypeId} {sz nb base n0 : Nat} {f : α → List Value} {p : α → Part} {W w' : World} {v : Value} {us : List α} (x0 : α) (hG : Got e sz base f p W v us) (hlen : (f x0).length = sz) (hlie : (p x0).lies W) (hlo : ∀ q ∈ (p x0).foot, n0 ≤ q) (hb : base ≤ n0) (hv : ∀ g, v.ownBlock = some g → g < n0) {g cap : Nat}
    (hown : w'.ownsRow base e sz (.slice (some ⟨g, 0, none⟩) (us.length + 1) cap) (us.length + 1) ((us.map f).flatten ++ f x0)) (hgrow : (W.alloc (.cells (f x0).toArray e)).grownBy w' v.ownBlock) (hat : v.ownBlock = some g ∨ g = W.heap.size + 1) :
    Got e sz base f p w' (.slice (some ⟨g, 0, none⟩) (us.length + 1) cap) (us ++ [x0]) := by
  have hb1 := (Below.refl W.heap.size W).alloc (Nat.le_refl _) (.cells (f x0).toArray e)
  have hG1 := hG.below hb1
  have hs1 : (W.alloc (.cells (f x0).toArray e)).heap.size = W.heap.size + 1 := by simp
  refine Got.snoc (n0 := n0) hG1 (Part.touch (S := fun _ => False) hlie (.of_below hb1) (fun _ _ h => h)) hlo (fun q hq => by have := foot_lt hlie q hq; omega) hb hv ⟨?_, ?_⟩ hgrow (fun q hq => ?_)
  · rw [List.flatten_append, List.length_append, List.length_map]
    simpa using hown
  · intro r hr
    rcases List.mem_append.1 hr with hr | hr
    · exact hG.row.len r hr
    · rw [List.mem_singleton] at hr; subst hr; exact hlen
  · simp only [Value.ownBlock, Option.some.injEq] at hq
    subst hq
    rcases hat with h | h
    · exact .inl h
    · right; omega
theorem Got.len {e : TypeId} {sz base : Nat} {f : α → List Value} {p : α → Part} {W : World} {v : Value} {us : List α} (h : Got e sz base f p W v us) : ∃ a c, v = .slice a us.length c ∧ (a = none → c = 0) := by
  rcases h.row.row.2 with ⟨rfl, h0⟩ | ⟨g, cap, cur, rfl, _⟩
  · exact ⟨none, 0, by simpa using h0.symm, fun _ => rfl⟩
  · exact ⟨_, cap, by rw [List.length_map], fun h => by cases h⟩
end
section
variable {ops : Array Oper} {rest : List Oper} {o : Oper} {act : Act} {Q : Exit → Act → World → Prop} {α : Type}
/-- One item, laid as a literal, is appended. -/
theorem append_item {e ts : TypeId} {sz nb : Nat} {z : Value} (inf : (Tryz.prog.info? e).map (fun i => (i.zero, i.size, i.bytes)) = some (some z, sz, nb)) (hz : z.cells.size = sz) (h0 : 0 < sz) (hnb : nb ≤ 1000) (ut : Tryz.prog.underlying ts = some (.slice e))
    (hgd : o.guard = none) (s x : Operand) (ho : o.op = .call { callee := .builtin .append, args := #[s, x], argTypes := #[ts, ts] })
    {base n0 : Nat} {f : α → List Value} {p : α → Part} {W : World} {v : Value} {us : List α} (x0 : α) (hs : act.eval s = v) (hG : Got e sz base f p W v us) (hbase : base ≤ W.heap.size) (g0 : Nat) (hg0 : g0 = W.heap.size) (hx : act.eval x = .slice (some ⟨g0, 0, none⟩) 1 1)
    (hlen : (f x0).length = sz) (h1 : ∀ u ∈ f x0, u.oneCell' = true) (hl : us.length ≤ 1000000) (hlie : (p x0).lies W) (hlo : ∀ q ∈ (p x0).foot, n0 ≤ q) (hb : base ≤ n0) (hv : ∀ g, v.ownBlock = some g → g < n0)
    (h : ∀ g cap w', Got e sz base f p w' (.slice (some ⟨g, 0, none⟩) (us.length + 1) cap) (us ++ [x0]) → Below base W w' → wpList Tryz.prog ops Q rest (act.put o.dst (.slice (some ⟨g, 0, none⟩) (us.length + 1) cap)) w') :
    wpList Tryz.prog ops Q (o :: rest) act (W.alloc (.cells (f x0).toArray e)) := by
  obtain ⟨i0, hi, hz0, hz1, hz2⟩ := info_parts inf
  subst hg0
  have hb1 := (Below.refl W.heap.size W).alloc (Nat.le_refl _) (.cells (f x0).toArray e)
  have hr := hG.row.alloc (.cells (f x0).toArray e)
  refine wpList_append_lies _ hgd s x ts ho base e i0 z sz nb ut hi hz0 hz1 hz2 hz h0 v us.length (us.map f).flatten hs (by have := hr.row; rwa [List.length_map] at this) ⟨W.heap.size, 0, none⟩ 1 1 (f x0) hx (by rw [hlen, Nat.one_mul])
    (World.news_of_block (heap_alloc_new W _)) h1 (by omega) (by unfold maxLen; omega) ?_ (by simp; omega) (W.heap.size + 1) (by simp) (fun g cap w' h2 h3 h4 _ => h g cap w' (hG.more (nb := nb) x0 hlen hlie hlo hb hv h2 h3 h4) ?_)
  · calc (us.length + 1) * nb ≤ 1000001 * 1000 := Nat.mul_le_mul (by omega) hnb
      _ ≤ _ := by omega
  · exact ((hb1.mono hbase).grown h3 (by simp; omega) (fun k hk => (World.ownsRow.lt hr.row k hk).1))
/-- The same at a step of a region that draws its order. -/
theorem step_item {e ts : TypeId} {sz nb : Nat} {z : Value} {E : Prop} {K : Act → World → Prop} (inf : (Tryz.prog.info? e).map (fun i => (i.zero, i.size, i.bytes)) = some (some z, sz, nb)) (hz : z.cells.size = sz) (h0 : 0 < sz) (hnb : nb ≤ 1000) (ut : Tryz.prog.underlying ts = some (.slice e))
    (hgd : o.guard = none) (s x : Operand) (ho : o.op = .call { callee := .builtin .append, args := #[s, x], argTypes := #[ts, ts] })
    {base n0 : Nat} {f : α → List Value} {p : α → Part} {W : World} {v : Value} {us : List α} (x0 : α) (hs : act.eval s = v) (hG : Got e sz base f p W v us) (hbase : base ≤ W.heap.size) (g0 : Nat) (hg0 : g0 = W.heap.size) (hx : act.eval x = .slice (some ⟨g0, 0, none⟩) 1 1)
    (hlen : (f x0).length = sz) (h1 : ∀ u ∈ f x0, u.oneCell' = true) (hl : us.length ≤ 1000000) (hlie : (p x0).lies W) (hlo : ∀ q ∈ (p x0).foot, n0 ≤ q) (hb : base ≤ n0) (hv : ∀ g, v.ownBlock = some g → g < n0)
    (h : ∀ g cap w', Got e sz base f p w' (.slice (some ⟨g, 0, none⟩) (us.length + 1) cap) (us ++ [x0]) → Below base W w' → K (act.put o.dst (.slice (some ⟨g, 0, none⟩) (us.length + 1) cap)) w') :
    if Region.wanted o (yielded ops act.tmps) = true then Oper.wp Tryz.prog o act (W.alloc (.cells (f x0).toArray e)) K Q else E := by
  obtain ⟨i0, hi, hz0, hz1, hz2⟩ := info_parts inf
  subst hg0
  have hb1 := (Below.refl W.heap.size W).alloc (Nat.le_refl _) (.cells (f x0).toArray e)
  have hr := hG.row.alloc (.cells (f x0).toArray e)
  have hw : Region.wanted o (yielded ops act.tmps) = true := by simp [Region.wanted, hgd]
  rw [if_pos hw]
  refine wp_append_lies _ s x ts ho base e i0 z sz nb ut hi hz0 hz1 hz2 hz h0 v us.length (us.map f).flatten hs (by have := hr.row; rwa [List.length_map] at this) ⟨W.heap.size, 0, none⟩ 1 1 (f x0) hx (by rw [hlen, Nat.one_mul])
    (World.news_of_block (heap_alloc_new W _)) h1 (by omega) (by unfold maxLen; omega) ?_ (by simp; omega) (W.heap.size + 1) (by simp) (fun g cap w' h2 h3 h4 _ => h g cap w' (hG.more (nb := nb) x0 hlen hlie hlo hb hv h2 h3 h4) ?_)
  · calc (us.length + 1) * nb ≤ 1000001 * 1000 := Nat.mul_le_mul (by omega) hnb
      _ ≤ _ := by omega
  · exact ((hb1.mono hbase).grown h3 (by simp; omega) (fun k hk => (World.ownsRow.lt hr.row k hk).1))
end
end Go.Proofs.YtepbjkkakfpjgaaGreatDoor.Mod

namespace Go.Proofs.YtepbjkkakfpjgaaGreatDoor.Mod
open Go.RowKit Go.Proofs.YtepbjkkakfpjgaaGreatDoor.Instr
set_option linter.unusedVariables false

theorem Got.rows {α : Type} {e : TypeId} {sz base : Nat} {f : α → List Value} {p : α → Part} {W : World} {v : Value} {us : List α} (h : Got e sz base f p W v us) : ∃ a c, v = .slice a us.length c ∧ Rows W.heap.size W a sz (us.map f) := by
  obtain ⟨a, c, hv, hr, _⟩ := h.row.rows
  rw [List.length_map] at hv
  exact ⟨a, c, hv, hr⟩
theorem OwnR.rowsN {α : Type} {e : TypeId} {sz base : Nat} {f : α → List Value} {W : World} {v : Value} {us : List α} (h : OwnR e sz base W v (us.map f)) : ∃ a c, v = .slice a us.length c ∧ Rows W.heap.size W a sz (us.map f) := by
  obtain ⟨a, c, hv, hr, _⟩ := h.rows
  rw [List.length_map] at hv
  exact ⟨a, c, hv, hr⟩
/-- The copy as a module. -/
theorem copy_md {m : Md} {W : World} {e1 e2 e3 e4 e5 e6 e7 e8 e9 : TypeId} {b1 b2 b3 b4 b5 b6 b7 b8 b9 : Nat} {v1 v2 v3 v4 v5 v6 v7 v8 v9 : Value} {fus : List Fn} {gls : List Gl} {els : List El} {das : List Da}
    (h1 : OwnR e1 2 b1 W v1 (m.ty.map tyV)) (h2 : OwnR e2 3 b2 W v2 (m.im.map Imp.v)) (h3 : Got e3 3 b3 Fn.v partF W v3 fus) (h4 : OwnR e4 3 b4 W v4 (m.tb.map Li.v)) (h5 : OwnR e5 3 b5 W v5 (m.me.map Li.v))
    (h6 : Got e6 2 b6 Gl.v partG W v6 gls) (h7 : OwnR e7 3 b7 W v7 (m.ex.map Ex.v)) (h8 : Got e8 2 b8 El.v partE W v8 els) (h9 : Got e9 2 b9 Da.v partD W v9 das)
    (q3 : fus.map Fn.bare = m.fu.map Fn.bare) (q6 : gls.map Gl.bare = m.gl.map Gl.bare) (q8 : els.map El.bare = m.el.map El.bare) (q9 : das.map Da.bare = m.da.map Da.bare) :
    ∃ m' : Md, m'.v = #[v1, v2, v3, v4, v5, v6, v7, .bool m.st, .int .u32 m.sn, v8, v9] ∧ ModAt W.heap.size W m' ∧ m'.bare = m.bare := by
  obtain ⟨a1, c1, rfl, r1⟩ := h1.rowsN
  obtain ⟨a2, c2, rfl, r2⟩ := h2.rowsN
  obtain ⟨a3, c3, rfl, r3⟩ := h3.rows
  obtain ⟨a4, c4, rfl, r4⟩ := h4.rowsN
  obtain ⟨a5, c5, rfl, r5⟩ := h5.rowsN
  obtain ⟨a6, c6, rfl, r6⟩ := h6.rows
  obtain ⟨a7, c7, rfl, r7⟩ := h7.rowsN
  obtain ⟨a8, c8, rfl, r8⟩ := h8.rows
  obtain ⟨a9, c9, rfl, r9⟩ := h9.rows
  refine ⟨⟨m.ty, m.im, fus, m.tb, m.me, gls, m.ex, m.st, m.sn, els, das, ⟨a1, c1⟩, ⟨a2, c2⟩, ⟨a3, c3⟩, ⟨a4, c4⟩, ⟨a5, c5⟩, ⟨a6, c6⟩, ⟨a7, c7⟩, ⟨a8, c8⟩, ⟨a9, c9⟩⟩, rfl, ⟨r1, r2, r3, r4, r5, r6, r7, r8, r9, fun l hl => ?_, fun e he => (h8.kids e he).2.1, fun d hd => (h9.kids d hd).2.2⟩, same_iff.2 ⟨rfl, rfl, q3, rfl, rfl, q6, rfl, rfl, rfl, q8, q9⟩⟩
  unfold Md.codes at hl
  rcases List.mem_append.1 hl with hl | hl
  · obtain ⟨x, hx, rfl⟩ := List.mem_map.1 hl
    exact (h3.kids x hx).1
  · rcases List.mem_append.1 hl with hl | hl
    · obtain ⟨x, hx, rfl⟩ := List.mem_map.1 hl
      exact (h6.kids x hx).1
    · rcases List.mem_append.1 hl with hl | hl
      · obtain ⟨x, hx, rfl⟩ := List.mem_map.1 hl
        exact (h8.kids x hx).1
      · obtain ⟨x, hx, rfl⟩ := List.mem_map.1 hl
        exact (h9.kids x hx).1
theorem map_snoc {α : Type} (f : α → α) {us l : List α} {k : Nat} {x : α} (h : us.map f = (l.take k).map f) (hk : k < l.length) (hx : f x = f l[k]) : (us ++ [x]).map f = (l.take (k + 1)).map f := by
  rw [List.take_succ_eq_append_getElem hk, List.map_append, List.map_append, h]
  simp [hx]
theorem OwnR.save {e : TypeId} {sz base k : Nat} {W W' : World} {v : Value} {rs : List (List Value)} (h : OwnR e sz base W v rs) (hs : Save k W W') (hk : k < base) : OwnR e sz base W' v rs :=
  h.touch (.of_save hs) (fun g hg e => by have := (World.ownsRow.lt h.row g hg).1; omega)
theorem OwnR.slc {α : Type} {e : TypeId} {sz base n : Nat} {f : α → List Value} {W : World} {v : Value} {us : List α} (h : OwnR e sz base W v (us.map f)) (hn : us.length = n) : ∃ a c, v = .slice a n c := by
  obtain ⟨a, c, rfl, _⟩ := h.rowsN
  exact ⟨a, c, by rw [hn]⟩
theorem Got.slc {α : Type} {e : TypeId} {sz base n : Nat} {f : α → List Value} {p : α → Part} {W : World} {v : Value} {us : List α} (h : Got e sz base f p W v us) (hn : us.length = n) : ∃ a c, v = .slice a n c := h.row.slc hn
theorem Save.thenB {k : Nat} {a b c : World} (h : Save k a b) (g : Below a.heap.size b c) : Save k a c :=
  ⟨g.os.trans h.os, g.tape.trans h.tape, g.output.trans h.output, Nat.le_trans h.size g.size, fun j hj hk => (g.block j hj).trans (h.block j hj hk)⟩
/-- The five lists that are taken over whole. -/
structure Five (m : Md) (B : Nat) (W : World) (v1 v2 v4 v5 v7 : Value) : Prop where
  ty : OwnR 50 2 B W v1 (m.ty.map tyV)
  im : OwnR 73 3 B W v2 (m.im.map Imp.v)
  tb : OwnR 60 3 B W v4 (m.tb.map Li.v)
  me : OwnR 60 3 B W v5 (m.me.map Li.v)
  ex : OwnR 75 3 B W v7 (m.ex.map Ex.v)
theorem Five.save {m : Md} {B k : Nat} {W W' : World} {v1 v2 v4 v5 v7 : Value} (h : Five m B W v1 v2 v4 v5 v7) (hs : Save k W W') (hk : k < B) : Five m B W' v1 v2 v4 v5 v7 :=
  ⟨h.ty.save hs hk, h.im.save hs hk, h.tb.save hs hk, h.me.save hs hk, h.ex.save hs hk⟩
end Go.Proofs.YtepbjkkakfpjgaaGreatDoor.Mod

namespace Go.Proofs.YtepbjkkakfpjgaaGreatDoor.Mod
open Go.RowKit Go.Proofs.YtepbjkkakfpjgaaGreatDoor.Instr
set_option linter.unusedVariables false

theorem held_mk3 {k : Nat} {V W : World} {p0 p1 p2 : Addr} {v0 v1 v2 : Value} (h0 : V.cell? p0 = some v0) (h1 : V.cell? p1 = some v1) (h2 : V.cell? p2 = some v2) (n0 : p0.block ≠ k) (n1 : p1.block ≠ k) (n2 : p2.block ≠ k) (h : Save k V W) :
    Save k V W ∧ W.cell? p0 = some v0 ∧ W.cell? p1 = some v1 ∧ W.cell? p2 = some v2 := ⟨h, h.cell n0 h0, h.cell n1 h1, h.cell n2 h2⟩
theorem held_ms {A B C D : Prop} {p : Addr} {v : Value} {W X : World} (h : A ∧ B ∧ C ∧ D) (e : X.cell? p = W.cell? p) (hv : W.cell? p = some v) : A ∧ B ∧ C ∧ D ∧ X.cell? p = some v := ⟨h.1, h.2.1, h.2.2.1, h.2.2.2, e.trans hv⟩
/-- What a copy of a list gives, by its own length. -/
def GotN (W : World) (xl : Il) (e : Ending) (w' : World) : Prop :=
  ∃ (a : Option Addr) (c : Nat) (u : Il), e = .returned (.slice a u.len c) ∧ Below W.heap.size W w' ∧ ListAt w'.heap.size w' a u.len u ∧ (∀ q ∈ blkOf u.len a ++ u.foot, W.heap.size ≤ q) ∧ u.bare = xl.bare
theorem copy_n {k : Nat} {w V : World} {xl : Il} {xa : Option Addr} {xn xc : Nat} (hl : ListAt w.heap.size w xa xn xl) (hw : xl.weight ≤ 5000) (hV : Below w.heap.size w V) (hk : w.heap.size ≤ k) (W : World) (hs : Save k V W) :
    Calls Tryz.prog 38 #[.slice xa xn xc] W (GotN W xl) := by
  refine (Go.Proofs.YtepbjkkakfpjgaaGreatDoor.Body.copy_any 5000 xl xa xn xc W hw (by omega) (hl.on (hV.trans (hs.below hV.size hk)))).mono ?_
  rintro e w' ⟨a, c, u, rfl, h1, h2, h3, h4⟩
  have := h2.1
  subst this
  exact ⟨a, c, u, rfl, h1, h2, h3, h4⟩
section
variable {ops : Array Oper} {rest : List Oper} {o : Oper} {act : Act} {Q : Exit → Act → World → Prop}
theorem step_none {E : Prop} {K : Act → World → Prop} (hgd : o.guard = none) (s x : Operand) (t : TypeId) (ho : o.op = .call { callee := .builtin .append, args := #[s, x], argTypes := #[t, t] })
    {w : World} (base : Nat) (e : TypeId) (i : TypeInfo) (size c : Nat) (ht : Tryz.prog.underlying t = some (.slice e)) (hi : Tryz.prog.info? e = some i)
    (v : Value) (n : Nat) (xs : List Value) (hs : act.eval s = v) (hown : w.ownsRow base e size v n xs) (hx : act.eval x = .slice none 0 c)
    (h : K (act.put o.dst v) w) : if Region.wanted o (yielded ops act.tmps) = true then Oper.wp Tryz.prog o act w K Q else E := by
  have hw : Region.wanted o (yielded ops act.tmps) = true := by simp [Region.wanted, hgd]
  rw [if_pos hw]
  have hrun := Go.Proofs.YtepbjkkakfpjgaaGreatDoor.Body.run_append_none w base t o.type e i size c ht hi v n xs hown
  unfold Oper.wp
  simp [execOp, ho, resolve, invoke, builtin, hs, hx, hrun, Result.andThen]
  exact h
/-- A whole list that lies somewhere is appended, at a step of a region that draws its order. -/
theorem step_list {e ts : TypeId} {sz nb : Nat} {z : Value} {E : Prop} {K : Act → World → Prop} (inf : (Tryz.prog.info? e).map (fun i => (i.zero, i.size, i.bytes)) = some (some z, sz, nb)) (hz : z.cells.size = sz) (h0 : 0 < sz) (hnb : nb ≤ 1000) (ut : Tryz.prog.underlying ts = some (.slice e))
    (hgd : o.guard = none) (s x : Operand) (ho : o.op = .call { callee := .builtin .append, args := #[s, x], argTypes := #[ts, ts] })
    {base : Nat} {wr : World} {v : Value} (hs : act.eval s = v) (hown : OwnR e sz base wr v []) (hbase : base ≤ wr.heap.size)
    (a2 : Option Addr) (n c : Nat) (hx : act.eval x = .slice a2 n c) (ys : List (List Value)) (hn : ys.length = n) (hy : Rows wr.heap.size wr a2 sz ys) (hlen : ∀ r ∈ ys, r.length = sz) (h1 : ∀ r ∈ ys, ∀ u ∈ r, u.oneCell' = true)
    (hl : ys.length ≤ 1000000000)
    (h : ∀ v' w', OwnR e sz base w' v' ys → Touch (fun j => v.ownBlock = some j) wr w' → K (act.put o.dst v') w') :
    if Region.wanted o (yielded ops act.tmps) = true then Oper.wp Tryz.prog o act wr K Q else E := by
  obtain ⟨i0, hi, hz0, hz1, hz2⟩ := info_parts inf
  subst hn
  have hb0 := Below.refl base wr
  rcases hy with h2 | ⟨b, off, rfl, hlt, hc⟩
  · subst h2
    cases a2 with
    | none => exact step_none hgd s x ts ho base e i0 sz c ut hi v _ _ hs hown.row hx (h v wr hown (Touch.refl _ _))
    | some ad =>
      refine step_rows inf hz h0 hnb ut hgd s x ho (xs := []) [] hs hown hb0 hbase ad 0 c rfl hx (by simp) (by simp) (by simp) (by simp) (fun v' w' h3 h4 h5 h6 => h v' w' h3 (Touch.of_grown h6))
  · refine step_rows inf hz h0 hnb ut hgd s x ho (xs := []) ys hs hown hb0 hbase ⟨b, off, none⟩ ys.length c rfl hx hlen (fun j u hj => ?_) h1 (by simpa using hl) (fun v' w' h3 h4 h5 h6 => h v' w' h3 (Touch.of_grown h6))
    have hfl := flat_length ys hlen
    have hjl : j < ys.length * sz := by
      rcases Nat.lt_or_ge j (ys.length * sz) with h | h
      · exact h
      · rw [List.getElem?_eq_none (by omega)] at hj; cases hj
    have hq : j / sz < ys.length := (Nat.div_lt_iff_lt_mul h0).2 hjl
    have hr : j % sz < sz := Nat.mod_lt _ h0
    have hjj : j / sz * sz + j % sz = j := by rw [Nat.mul_comm]; exact Nat.div_add_mod j sz
    have hg := flat_get ys hlen (j / sz) (j % sz) hq hr
    rw [hjj, hj] at hg
    have := hc (j / sz) hq (j % sz) hr u hg.symm
    rw [Nat.add_assoc, hjj] at this
    have hplain : (⟨b, off, none⟩ : Addr).add j = ⟨b, off + j, none⟩ := by unfold Addr.add; split <;> simp_all
    rw [hplain]
    exact this
end
def oneI (z : Int) : List Value := [.int .u32 z]
def oneB (z : Int) : List Value := [.int .u8 z]
theorem oneI_one : ∀ x, ∀ u ∈ oneI x, u.oneCell' = true := by intro x u hu; simp only [oneI, List.mem_cons, List.not_mem_nil, or_false] at hu; subst hu; rfl
theorem oneB_one : ∀ x, ∀ u ∈ oneB x, u.oneCell' = true := by intro x u hu; simp only [oneB, List.mem_cons, List.not_mem_nil, or_false] at hu; subst hu; rfl
theorem infoI32 : (Tryz.prog.info? 28).map (fun i => (i.zero, i.size, i.bytes)) = some (some (.int .u32 0), 1, 4) := by kernel_rfl
theorem infoB8 : (Tryz.prog.info? 5).map (fun i => (i.zero, i.size, i.bytes)) = some (some (.int .u8 0), 1, 1) := by kernel_rfl
theorem rows_of_tags {n₀ : Nat} {w : World} {a : Option Addr} {zs : List Int} (h : TagsAt n₀ w a zs) : Rows n₀ w a 1 (zs.map oneI) := by
  rcases h with h | ⟨b, off, ha, hl, hc⟩
  · exact .inl (by rw [h]; rfl)
  · refine .inr ⟨b, off, ha, hl, fun i hi j hj v hv => ?_⟩
    have hi' : i < zs.length := by simpa using hi
    obtain rfl : j = 0 := by omega
    have := hc i hi'
    rw [List.getD_eq_getElem?_getD, List.getElem?_map, List.getElem?_eq_getElem hi'] at hv
    simp only [oneI, Option.map_some, Option.getD_some, List.getElem?_cons_zero, Option.some.injEq] at hv
    subst hv
    rw [List.getD_eq_getElem?_getD, List.getElem?_eq_getElem hi'] at this
    simpa using this
theorem rows_of_bytes {n₀ : Nat} {w : World} {a : Option Addr} {zs : List Int} (h : BytesAt n₀ w a zs) : Rows n₀ w a 1 (zs.map oneB) := by
  rcases h with h | ⟨b, off, ha, hl, hc⟩
  · exact .inl (by rw [h]; rfl)
  · refine .inr ⟨b, off, ha, hl, fun i hi j hj v hv => ?_⟩
    have hi' : i < zs.length := by simpa using hi
    obtain rfl : j = 0 := by omega
    have := hc i hi'
    rw [List.getD_eq_getElem?_getD, List.getElem?_map, List.getElem?_eq_getElem hi'] at hv
    simp only [oneB, Option.map_some, Option.getD_some, List.getElem?_cons_zero, Option.some.injEq] at hv
    subst hv
    rw [List.getD_eq_getElem?_getD, List.getElem?_eq_getElem hi'] at this
    simpa using this
theorem tags_of_rows {n₀ : Nat} {w : World} {a : Option Addr} {zs : List Int} (h : Rows n₀ w a 1 (zs.map oneI)) : TagsAt n₀ w a zs := by
  rcases h with h | ⟨b, off, ha, hl, hc⟩
  · exact .inl (by simpa using h)
  · refine .inr ⟨b, off, ha, hl, fun i hi => ?_⟩
    have := hc i (by simpa using hi) 0 (by omega) (.int .u32 (zs.getD i 0)) (by rw [List.getD_eq_getElem?_getD, List.getElem?_map, List.getElem?_eq_getElem hi]; simp [oneI, List.getD_eq_getElem?_getD, List.getElem?_eq_getElem hi])
    simpa using this
theorem bytes_of_rows {n₀ : Nat} {w : World} {a : Option Addr} {zs : List Int} (h : Rows n₀ w a 1 (zs.map oneB)) : BytesAt n₀ w a zs := by
  rcases h with h | ⟨b, off, ha, hl, hc⟩
  · exact .inl (by simpa using h)
  · refine .inr ⟨b, off, ha, hl, fun i hi => ?_⟩
    have := hc i (by simpa using hi) 0 (by omega) (.int .u8 (zs.getD i 0)) (by rw [List.getD_eq_getElem?_getD, List.getElem?_map, List.getElem?_eq_getElem hi]; simp [oneB, List.getD_eq_getElem?_getD, List.getElem?_eq_getElem hi])
    simpa using this
/-- What a list of labels or bytes that was taken over gives. -/
theorem own_list {e : TypeId} {sz base : Nat} {W : World} {v : Value} {zs : List Int} {f : Int → List Value} (h : OwnR e sz base W v (zs.map f)) : ∃ a c, v = .slice a zs.length c ∧ Rows W.heap.size W a sz (zs.map f) ∧ ∀ q ∈ blkOf zs.length a, base ≤ q := by
  obtain ⟨a, c, hv, hr, hl⟩ := h.rows
  rw [List.length_map] at hv
  refine ⟨a, c, hv, hr, fun q hq => ?_⟩
  unfold blkOf at hq
  split at hq
  · simp at hq
  · rename_i hne
    cases a with
    | none => simp at hq
    | some ad =>
      simp only [List.mem_singleton] at hq
      subst hq
      exact hl _ (by rw [hv]; rfl)
theorem part_own {w8 W : World} {a8 : Option Addr} {u8 : Il} (hl8 : ListAt w8.heap.size w8 a8 u8.len u8) {S : Nat → Prop} (ht : Touch S w8 W) (hne : ∀ q ∈ blkOf u8.len a8 ++ u8.foot, ¬ S q) : ListAt W.heap.size W a8 u8.len u8 := (hl8.touch ht hne).more ht.size
theorem foot_G {mu : Bool} {a8 : Option Addr} {c8 : Nat} {u8 : Il} {n0 : Nat} (h : ∀ q ∈ blkOf u8.len a8 ++ u8.foot, n0 ≤ q) : ∀ q ∈ (partG ⟨mu, ⟨a8, c8, u8⟩⟩).foot, n0 ≤ q := fun q hq => by
  have h2 : q ∈ (blkOf u8.len a8 ++ u8.foot) ++ ([] ++ []) := hq
  simp only [List.append_nil] at h2
  exact h q h2
theorem foot_E {fs : List Int} {fa : Option Addr} {fc : Nat} {a8 : Option Addr} {c8 : Nat} {u8 : Il} {n0 : Nat} (h : ∀ q ∈ blkOf u8.len a8 ++ u8.foot, n0 ≤ q) (h2 : ∀ q ∈ blkOf fs.length fa, n0 ≤ q) : ∀ q ∈ (partE ⟨⟨a8, c8, u8⟩, fa, fc, fs⟩).foot, n0 ≤ q := fun q hq => by
  have h3 : q ∈ (blkOf u8.len a8 ++ u8.foot) ++ (blkOf fs.length fa ++ []) := hq
  rw [List.append_nil] at h3
  rcases List.mem_append.1 h3 with h4 | h4
  · exact h q h4
  · exact h2 q h4
theorem foot_D {fs : List Int} {fa : Option Addr} {fc : Nat} {a8 : Option Addr} {c8 : Nat} {u8 : Il} {n0 : Nat} (h : ∀ q ∈ blkOf u8.len a8 ++ u8.foot, n0 ≤ q) (h2 : ∀ q ∈ blkOf fs.length fa, n0 ≤ q) : ∀ q ∈ (partD ⟨⟨a8, c8, u8⟩, fa, fc, fs⟩).foot, n0 ≤ q := fun q hq => by
  have h3 : q ∈ (blkOf u8.len a8 ++ u8.foot) ++ ([] ++ blkOf fs.length fa) := hq
  rw [List.nil_append] at h3
  rcases List.mem_append.1 h3 with h4 | h4
  · exact h q h4
  · exact h2 q h4
/-- A module's box that is written all over. -/
theorem box_stored {V : World} {g : Nat} (h : BoxAt V g zeroM) (v0 v1 v2 v3 v4 v5 v6 v7 v8 v9 v10 : Value) : BoxAt (((((((((((V.setCell ⟨g, 0, none⟩ v0).setCell ⟨g, 1, none⟩ v1).setCell ⟨g, 2, none⟩ v2).setCell ⟨g, 3, none⟩ v3).setCell ⟨g, 4, none⟩ v4).setCell ⟨g, 5, none⟩ v5).setCell ⟨g, 6, none⟩ v6).setCell ⟨g, 7, none⟩ v7).setCell ⟨g, 8, none⟩ v8).setCell ⟨g, 9, none⟩ v9).setCell ⟨g, 10, none⟩ v10) g #[v0, v1, v2, v3, v4, v5, v6, v7, v8, v9, v10] := by
  have h2 := (((((((((((h.set 0 (by simp [zeroM]) v0).set 1 (by simp [zeroM]) v1).set 2 (by simp [zeroM]) v2).set 3 (by simp [zeroM]) v3).set 4 (by simp [zeroM]) v4).set 5 (by simp [zeroM]) v5).set 6 (by simp [zeroM]) v6).set 7 (by simp [zeroM]) v7).set 8 (by simp [zeroM]) v8).set 9 (by simp [zeroM]) v9).set 10 (by simp [zeroM]) v10)
  unfold zeroM at h2
  simpa only [List.setIfInBounds_toArray, List.set_cons_zero, List.set_cons_succ] using h2
end Go.Proofs.YtepbjkkakfpjgaaGreatDoor.Mod

namespace Go.Proofs.YtepbjkkakfpjgaaGreatDoor.Body
open Go.RowKit Go.Proofs.YtepbjkkakfpjgaaGreatDoor.Instr

theorem drewn {B : Nat} {a w : World} (h : Below B a w) (n : Nat) : Below B a (w.drewN n) := ⟨h.os, h.tape, h.output, h.size, h.block⟩

/-- Eight cells of an instruction. -/
def Eight (x : Ix) (b off : Nat) (w : World) : Prop :=
  w.cell? ⟨b, off, none⟩ = some (.int .i64 x.op) ∧ w.cell? ⟨b, off + 1, none⟩ = some (.int .i64 x.res) ∧ w.cell? ⟨b, off + 2, none⟩ = some (.int .u32 x.a) ∧ w.cell? ⟨b, off + 3, none⟩ = some (.int .u32 x.b) ∧
    w.cell? ⟨b, off + 4, none⟩ = some (.int .i32 x.n) ∧ w.cell? ⟨b, off + 5, none⟩ = some (.slice x.ta x.tags.length x.tc) ∧ w.cell? ⟨b, off + 6, none⟩ = some (.slice x.la x.ln x.lc) ∧ w.cell? ⟨b, off + 7, none⟩ = some (.slice x.ea x.en x.ec)
/-- What two equal lists have ahead, from the k-th on. -/
def Pair (n₀ n k m : Nat) (a1 a2 : Option Addr) (w : World) : Prop :=
  k = n ∨ ∃ b1 o1 b2 o2 r s, a1 = some ⟨b1, o1, none⟩ ∧ a2 = some ⟨b2, o2, none⟩ ∧ Items n₀ w b1 (o1 + k * 8) r ∧ Items n₀ w b2 (o2 + k * 8) s ∧ Il.bare r = Il.bare s ∧ r.len + k = n ∧ r.count ≤ m + 1
theorem Pair.start {n₀ n m : Nat} {a1 a2 : Option Addr} {w : World} {t u : Il} (hm : t.count ≤ m + 1) (h1 : ListAt n₀ w a1 n t) (h2 : ListAt n₀ w a2 n u) (he : t.bare = u.bare) : Pair n₀ n 0 m a1 a2 w := by
  rcases h1.2 with rfl | ⟨b1, o1, ha1, hi1⟩
  · exact .inl h1.1
  · rcases h2.2 with rfl | ⟨b2, o2, ha2, hi2⟩
    · exact .inl h2.1
    · exact .inr ⟨b1, o1, b2, o2, t, u, ha1, ha2, by simpa using hi1, by simpa using hi2, he, h1.1, hm⟩
theorem Pair.below {n₀ n k m : Nat} {a1 a2 : Option Addr} {w w' : World} (h : Pair n₀ n k m a1 a2 w) (hb : Below n₀ w w') : Pair n₀ n k m a1 a2 w' := by
  rcases h with h | ⟨b1, o1, b2, o2, r, s, h1, h2, h3, h4, h5⟩
  · exact .inl h
  · exact .inr ⟨b1, o1, b2, o2, r, s, h1, h2, h3.below hb, h4.below hb, h5⟩
/-- The tables of two equal ones. -/
structure Twin (n₀ m : Nat) (x y : Ix) (w : World) : Prop where
  okx : x.ok
  tx : TagsAt n₀ w x.ta x.tags
  ty : TagsAt n₀ w y.ta x.tags
  l : ∃ t u, t.count ≤ m ∧ ListAt n₀ w x.la x.ln t ∧ ListAt n₀ w y.la x.ln u ∧ t.bare = u.bare
  e : ∃ t u, t.count ≤ m ∧ ListAt n₀ w x.ea x.en t ∧ ListAt n₀ w y.ea x.en u ∧ t.bare = u.bare
theorem Pair.step {n₀ n k m : Nat} {a1 a2 : Option Addr} {w : World} (h : Pair n₀ n k m a1 a2 w) (hk : k < n) :
    ∃ (x : Ix) (ta : Option Addr) (tc : Nat) (la : Option Addr) (lc : Nat) (ea : Option Addr) (ec b1 o1 b2 o2 : Nat), b1 < n₀ ∧ b2 < n₀ ∧ a1 = some ⟨b1, o1, none⟩ ∧ a2 = some ⟨b2, o2, none⟩ ∧ Eight x b1 (o1 + k * 8) w ∧
      Eight ⟨x.op, x.res, x.a, x.b, x.n, x.tags, ta, tc, la, x.ln, lc, ea, x.en, ec⟩ b2 (o2 + k * 8) w ∧ Twin n₀ m x ⟨x.op, x.res, x.a, x.b, x.n, x.tags, ta, tc, la, x.ln, lc, ea, x.en, ec⟩ w ∧ Pair n₀ n (k + 1) m a1 a2 w := by
  rcases h with h | ⟨b1, o1, b2, o2, r, s, h1, h2, h3, h4, h5, h6, h7⟩
  · omega
  · cases r with
    | nil => simp only [Il.len] at h6; omega
    | cons x l e r =>
      cases s with
      | nil => simp [Il.bare] at h5
      | cons y l' e' s =>
        obtain ⟨op, res, a, b, nn, tags, ta, tc, la, ln, lc, ea, en, ec⟩ := x
        obtain ⟨op', res', a', b', nn', tags', ta', tc', la', ln', lc', ea', en', ec'⟩ := y
        simp only [Il.bare, Ix.bare, Il.cons.injEq, Ix.mk.injEq] at h5
        obtain ⟨⟨rfl, rfl, rfl, rfl, rfl, rfl, _, _, _, rfl, _, _, rfl, _⟩, hbl, hbe, hbr⟩ := h5
        obtain ⟨hb1, hx, c, ht, hl, he, hr⟩ := h3
        obtain ⟨hb2, _, c', ht', hl', he', hr'⟩ := h4
        simp only [Il.len] at h6
        simp only [Il.count] at h7
        refine ⟨⟨op, res, a, b, nn, tags, ta, tc, la, ln, lc, ea, en, ec⟩, ta', tc', la', lc', ea', ec', b1, o1, b2, o2, hb1, hb2, h1, h2, c, c', ⟨hx, ht, ht', ⟨l, l', by omega, hl, hl', hbl⟩, ⟨e, e', by omega, he, he', hbe⟩⟩, .inr ⟨b1, o1, b2, o2, r, s, h1, h2, ?_, ?_, hbr, by omega, by omega⟩⟩
        · rw [show o1 + (k + 1) * 8 = o1 + k * 8 + 8 by omega]; exact hr
        · rw [show o2 + (k + 1) * 8 = o2 + k * 8 + 8 by omega]; exact hr'

theorem two_boxes (w : World) (x y : Ix) : At x w.heap.size (((w.alloc (.cells x.vals 126)).alloc (.cells y.vals 126)).drew) ∧ At y (w.heap.size + 1) (((w.alloc (.cells x.vals 126)).alloc (.cells y.vals 126)).drew) ∧
    Below w.heap.size w (((w.alloc (.cells x.vals 126)).alloc (.cells y.vals 126)).drew) := by
  have hb : Below w.heap.size w (((w.alloc (.cells x.vals 126)).alloc (.cells y.vals 126)).drew) :=
    drewn ((((Below.refl w.heap.size w).alloc (Nat.le_refl _) _)).alloc (by simp) _) 1
  have h1 : At x w.heap.size ((w.alloc (.cells x.vals 126)).alloc (.cells y.vals 126)) := (At.made x w).below ((Below.refl _ _).alloc (Nat.le_refl _) _)
  have h2 : At y (w.alloc (.cells x.vals 126)).heap.size ((w.alloc (.cells x.vals 126)).alloc (.cells y.vals 126)) := At.made y _
  rw [World.size_alloc] at h2
  exact ⟨⟨h1.c0, h1.c1, h1.c2, h1.c3, h1.c4, h1.c5, h1.c6, h1.c7⟩, ⟨h2.c0, h2.c1, h2.c2, h2.c3, h2.c4, h2.c5, h2.c6, h2.c7⟩, hb⟩

end Go.Proofs.YtepbjkkakfpjgaaGreatDoor.Body

namespace Go.Proofs.YtepbjkkakfpjgaaGreatDoor
open Go.RowKit

theorem strOf_inj {xs ys : List Int} (hx : ∀ z ∈ xs, 0 ≤ z ∧ z < 256) (hy : ∀ z ∈ ys, 0 ≤ z ∧ z < 256) (h : xs.map (fun n => UInt8.ofNat n.toNat) = ys.map (fun n => UInt8.ofNat n.toNat)) : xs = ys := by
  induction xs generalizing ys with
  | nil => cases ys <;> simp_all
  | cons x xs ih =>
    cases ys with
    | nil => simp at h
    | cons y ys =>
      simp only [List.map_cons, List.cons.injEq] at h
      have h1 := hx x (by simp)
      have h2 := hy y (by simp)
      have h3 := congrArg UInt8.toNat h.1
      simp only [UInt8.toNat_ofNat'] at h3
      have : x = y := by omega
      rw [this, ih (fun z hz => hx z (by simp [hz])) (fun z hz => hy z (by simp [hz])) h.2]

theorem SameBytes_any (a1 a2 : Option Addr) (l1 c1 l2 c2 : Nat) (xs ys : List Int) (w : World) (hl1 : xs.length = l1) (hl2 : ys.length = l2) (hx : Bytes w a1 xs) (hy : Bytes w a2 ys) :
    Calls Tryz.prog 11 #[.slice a1 l1 c1, .slice a2 l2 c2] w fun e w' => e = .returned (.bool (decide (xs = ys))) ∧ w = w' := by
  have e1 := str_of hx l1 c1 hl1
  have e2 := str_of hy l2 c2 hl2
  have HE : Hid (((strOfNums xs).toList == (strOfNums ys).toList) = decide (xs = ys)) := by
    show (_ == _) = decide _
    by_cases h : xs = ys
    · subst h; simp
    · have : ¬ (strOfNums xs).toList = (strOfNums ys).toList := fun hh => h (strOf_inj hx.byte hy.byte (by rw [ByteArray.toList_eq, ByteArray.toList_eq, strOfNums_data, strOfNums_data] at hh; exact hh))
      simp [h, this]
  clear hl1 hl2
  go_enter Tryz.func11, Tryz.ntmps11
  go_wp2
  go_ret
  exact ⟨ret_bool HE.out, rfl⟩
end Go.Proofs.YtepbjkkakfpjgaaGreatDoor


namespace Go.Proofs.YtepbjkkakfpjgaaGreatDoor.Body
open Go.RowKit Go.Proofs.YtepbjkkakfpjgaaGreatDoor.Instr
theorem isSome_doc {op : Int} : ((strOfNums (nameL op)).toList.isEmpty = true) ↔ nameL op = [] := by
  rw [ByteArray.toList_eq, strOfNums_data]
  simp
end Go.Proofs.YtepbjkkakfpjgaaGreatDoor.Body

namespace Go.Proofs.YtepbjkkakfpjgaaGreatDoor.Instr
open Go.RowKit

theorem held_out2 {w w1 : World} {p q : Addr} {x y : Value} (h : Below w.heap.size w w1 ∧ w1.cell? p = some x ∧ w1.cell? q = some y) : Below w.heap.size w w1 := h.1
theorem held_keep2 {w w1 w2 : World} {p q : Addr} {x y : Value} (h : Below w.heap.size w w1 ∧ w1.cell? p = some x ∧ w1.cell? q = some y) (hb : Below w1.heap.size w1 w2) :
    Below w.heap.size w w2 ∧ w2.cell? p = some x ∧ w2.cell? q = some y := ⟨thenB h.1 hb, keep hb h.2.1, keep hb h.2.2⟩

set_option maxHeartbeats 1600000 in
theorem refCount_any : ∀ (m : Nat) (t : Il) (a : Option Addr) (len c : Nat) (w : World), t.count ≤ m → ListAt w.heap.size w a len t → len ≤ 140737488351232 → t.count ≤ 4611686018427387900 →
    Calls Tryz.prog 83 #[.slice a len c] w fun e w' => e = .returned (.int .i64 t.count) ∧ Below w.heap.size w w' := by
  intro m
  induction m with
  | zero =>
    intro t a len c w hm hL hlen hbig
    cases t with
    | cons x l e r => simp only [Il.count] at hm; omega
    | nil =>
      have h0 : len = 0 := hL.1.symm
      subst h0
      clear hm hL hlen hbig
      go_enter Tryz.func83, Tryz.ntmps83
      go_wp2
      go_loopw [3, 4] (fun sn si wr => sn = .int .i64 0 ∧ si = .int .i64 0 ∧ wr = w) (fun _ _ _ => 0)
      case atStart => exact ⟨rfl, rfl, rfl⟩
      case round =>
        obtain ⟨rfl, rfl, rfl⟩ := hrel
        go_wp2
        go_ret
        exact ⟨rfl, Below.refl _ _⟩
  | succ m ih =>
    intro t a len c w hm hL hlen hbig
    obtain ⟨hL1, hL2⟩ := hL
    rcases hL2 with rfl | ⟨b, off, rfl, hi⟩
    · have h0 : len = 0 := hL1.symm
      subst h0
      clear ih hm hL1 hlen hbig
      go_enter Tryz.func83, Tryz.ntmps83
      go_wp2
      go_loopw [3, 4] (fun sn si wr => sn = .int .i64 0 ∧ si = .int .i64 0 ∧ wr = w) (fun _ _ _ => 0)
      case atStart => exact ⟨rfl, rfl, rfl⟩
      case round =>
        obtain ⟨rfl, rfl, rfl⟩ := hrel
        go_wp2
        go_ret
        exact ⟨rfl, Below.refl _ _⟩
    · have HM := hid hm
      have HB := hid hbig
      have HL1 := hid hL1
      have HI := hid hi
      clear hm hbig hL1 hi
      go_enter Tryz.func83, Tryz.ntmps83
      go_wp2
      go_loopw [3, 4] (fun sn si wr => ∃ (k : Nat) (n : Int) (rest : Il), si = .int .i64 k ∧ sn = .int .i64 n ∧ k ≤ len ∧ 0 ≤ n ∧ n ≤ 4611686018427387900 ∧ Hid (k + rest.len = len ∧ rest.count ≤ t.count ∧ n + (rest.count - rest.len : Int) = t.count) ∧ Hid (Items w.heap.size w b (off + k * 8) rest) ∧ Below w.heap.size w wr)
        (fun _ si _ => len - (intOf si).toNat)
      case atStart => exact ⟨0, len, t, rfl, rfl, Nat.zero_le _, by omega, by omega, ⟨by have := HL1.out; omega, Nat.le_refl _, by have := HL1.out; omega⟩, by simpa using HI, Below.refl _ _⟩
      case round =>
        obtain ⟨k, n, rest, rfl, rfl, hk, hn0, hn1, HR, HIR, hb⟩ := hrel
        cases rest with
        | nil =>
          obtain ⟨r1, _, r3⟩ := HR.out
          have hkl : k = len := by simpa [Il.len] using r1
          subst hkl
          have R3 : Hid (n = t.count) := by show _ = _; simp only [Il.count, Il.len] at r3; omega
          clear r3
          go_wp2
          go_ret
          exact ⟨ret_int R3.out, hb⟩
        | cons x tl te r =>
          have hir := Items.below hb HIR.out
          obtain ⟨hbn, hx, ⟨c0, c1, c2, c3, c4, c5, c6, c7⟩, _⟩ := hir
          have hir0 := HIR.out
          obtain ⟨_, _, _, ht, hLl, hLe, hir'⟩ := hir0
          have hlt : k < len := by have := HR.out.1; simp only [Il.len] at this; omega
          have hLn := hx.ln
          have hEn := hx.en
          have hcnt : tl.count + te.count + 1 ≤ m + 1 ∧ tl.count ≤ 4611686018427387900 ∧ te.count ≤ 4611686018427387900 := by
            have h1 := HR.out.2.1
            have h2 := HM.out
            have h3 := HB.out
            simp only [Il.count] at h1
            omega
          obtain ⟨k1, k2, k3⟩ := hcnt
          have N2 := fun w' (hb' : Below w.heap.size w w') => ih tl x.la x.ln x.lc w' (by omega) (ListAt.on hLl hb') hLn k2
          have N3 := fun w' (hb' : Below w.heap.size w w') => ih te x.ea x.en x.ec w' (by omega) (ListAt.on hLe hb') hEn k3
          have hq : n + tl.count + te.count ≤ 4611686018427387900 := by
            have h1 := HR.out.2.2
            have h2 := HB.out
            have h3 := len_le_count r
            simp only [Il.count, Il.len] at h1
            omega
          obtain ⟨q2, hq2⟩ : ∃ q : Int, (tl.count : Int) = q := ⟨_, rfl⟩
          obtain ⟨q3, hq3⟩ : ∃ q : Int, (te.count : Int) = q := ⟨_, rfl⟩
          have y1 : 0 ≤ q2 := by omega
          have y2 : 0 ≤ q3 := by omega
          rw [hq2, hq3] at hq
          simp only [hq2, hq3] at N2 N3
          have Q2 := hid hq2
          have Q3 := hid hq3
          have H2 := hid N2
          have H3 := hid N3
          have hv1 : IntKind.i64.wrap (n + q2) = n + q2 := by rw [IntKind.wrap_i64]; omega
          have hv2 : IntKind.i64.wrap (n + q2 + q3) = n + q2 + q3 := by rw [IntKind.wrap_i64]; omega
          clear N2 N3 hq2 hq3 ih k1 k2 k3 hLl hLe
          have hS0 : Below w.heap.size w wr.drew ∧ wr.drew.cell? ⟨b, off + k * 8 + 6, none⟩ = some (.slice x.la x.ln x.lc) ∧ wr.drew.cell? ⟨b, off + k * 8 + 7, none⟩ = some (.slice x.ea x.en x.ec) := ⟨hb.drew, c6, c7⟩
          go_wp2
          (first
            | go_loud (go_region_held3 (fun w' => Below w.heap.size w w' ∧ w'.cell? ⟨b, off + k * 8 + 6, none⟩ = some (.slice x.la x.ln x.lc) ∧ w'.cell? ⟨b, off + k * 8 + 7, none⟩ = some (.slice x.ea x.en x.ec))
                (first | assumption | exact held_keep2 (by assumption) (by assumption))
                (first
                  | (go_at_call 83; (with_reducible refine (H2.out _ (held_out2 (by assumption))).mono ?_); rintro e w7 ⟨rfl, hb7⟩)
                  | (go_at_call 83; (with_reducible refine (H3.out _ (held_out2 (by assumption))).mono ?_); rintro e w8 ⟨rfl, hb8⟩)))
            | fail)
          go_wp2
          have hbE := held_out2 (by assumption)
          have g2 := Q2.out
          have g3 := Q3.out
          refine ⟨⟨k + 1, n + q2 + q3, r, by simp, rfl, by omega, by omega, by omega, ⟨by have := HR.out.1; simp only [Il.len] at this; omega, by have := HR.out.2.1; simp only [Il.count] at this; omega, ?_⟩, by rw [show off + (k + 1) * 8 = off + k * 8 + 8 by omega]; exact hir', hbE⟩, by simp [intOf]; omega⟩
          have h1 := HR.out.2.2
          simp only [Il.count, Il.len] at h1
          omega

set_option maxHeartbeats 1600000 in
theorem refDeep_any : ∀ (m : Nat) (t : Il) (a : Option Addr) (len c : Nat) (w : World), t.count ≤ m → ListAt w.heap.size w a len t → len ≤ 140737488351232 → t.count ≤ 4611686018427387900 →
    Calls Tryz.prog 217 #[.slice a len c] w fun e w' => e = .returned (.int .i64 t.deep) ∧ Below w.heap.size w w' := by
  intro m
  induction m with
  | zero =>
    intro t a len c w hm hL hlen hbig
    cases t with
    | cons x l e r => simp only [Il.count] at hm; omega
    | nil =>
      have h0 : len = 0 := hL.1.symm
      subst h0
      clear hm hL hlen hbig
      go_enter Tryz.func217, Tryz.ntmps217
      go_wp2
      go_loopw [3, 4] (fun sn si wr => sn = .int .i64 0 ∧ si = .int .i64 0 ∧ wr = w) (fun _ _ _ => 0)
      case atStart => exact ⟨rfl, rfl, rfl⟩
      case round =>
        obtain ⟨rfl, rfl, rfl⟩ := hrel
        go_wp2
        go_ret
        exact ⟨rfl, Below.refl _ _⟩
  | succ m ih =>
    intro t a len c w hm hL hlen hbig
    obtain ⟨hL1, hL2⟩ := hL
    rcases hL2 with rfl | ⟨b, off, rfl, hi⟩
    · have h0 : len = 0 := hL1.symm
      subst h0
      clear ih hm hL1 hlen hbig
      go_enter Tryz.func217, Tryz.ntmps217
      go_wp2
      go_loopw [3, 4] (fun sn si wr => sn = .int .i64 0 ∧ si = .int .i64 0 ∧ wr = w) (fun _ _ _ => 0)
      case atStart => exact ⟨rfl, rfl, rfl⟩
      case round =>
        obtain ⟨rfl, rfl, rfl⟩ := hrel
        go_wp2
        go_ret
        exact ⟨rfl, Below.refl _ _⟩
    · have HM := hid hm
      have HB := hid hbig
      have HL1 := hid hL1
      have HI := hid hi
      clear hm hbig hL1 hi
      go_enter Tryz.func217, Tryz.ntmps217
      go_wp2
      go_loopw [3, 4] (fun sn si wr => ∃ (k : Nat) (n : Int) (rest : Il), si = .int .i64 k ∧ sn = .int .i64 n ∧ k ≤ len ∧ 0 ≤ n ∧ n ≤ 4611686018427387900 ∧ Hid (k + rest.len = len ∧ rest.count ≤ t.count ∧ max n rest.deep = t.deep) ∧ Hid (Items w.heap.size w b (off + k * 8) rest) ∧ Below w.heap.size w wr)
        (fun _ si _ => len - (intOf si).toNat)
      case atStart => exact ⟨0, 0, t, rfl, rfl, Nat.zero_le _, by omega, by omega, ⟨by have := HL1.out; omega, Nat.le_refl _, by omega⟩, by simpa using HI, Below.refl _ _⟩
      case round =>
        obtain ⟨k, n, rest, rfl, rfl, hk, hn0, hn1, HR, HIR, hb⟩ := hrel
        cases rest with
        | nil =>
          obtain ⟨r1, _, r3⟩ := HR.out
          have hkl : k = len := by simpa [Il.len] using r1
          subst hkl
          have R3 : Hid (n = t.deep) := by show _ = _; simp only [Il.deep] at r3; omega
          clear r3
          go_wp2
          go_ret
          exact ⟨ret_int R3.out, hb⟩
        | cons x tl te r =>
          have hir := Items.below hb HIR.out
          obtain ⟨hbn, hx, ⟨c0, c1, c2, c3, c4, c5, c6, c7⟩, _⟩ := hir
          have hir0 := HIR.out
          obtain ⟨_, _, _, ht, hLl, hLe, hir'⟩ := hir0
          have hlt : k < len := by have := HR.out.1; simp only [Il.len] at this; omega
          have hLn := hx.ln
          have hEn := hx.en
          have hcnt : tl.count + te.count + 1 ≤ m + 1 ∧ tl.count ≤ 4611686018427387900 ∧ te.count ≤ 4611686018427387900 := by
            have h1 := HR.out.2.1
            have h2 := HM.out
            have h3 := HB.out
            simp only [Il.count] at h1
            omega
          obtain ⟨k1, k2, k3⟩ := hcnt
          have N2 := fun w' (hb' : Below w.heap.size w w') => ih tl x.la x.ln x.lc w' (by omega) (ListAt.on hLl hb') hLn k2
          have N3 := fun w' (hb' : Below w.heap.size w w') => ih te x.ea x.en x.ec w' (by omega) (ListAt.on hLe hb') hEn k3
          have d2 := deep_le_count tl
          have d3 := deep_le_count te
          have hq : (tl.deep : Int) ≤ 4611686018427387899 ∧ (te.deep : Int) ≤ 4611686018427387899 := by
            have h1 := HR.out.2.1
            have h2 := HB.out
            simp only [Il.count] at h1
            omega
          obtain ⟨q2, hq2⟩ : ∃ q : Int, (tl.deep : Int) = q := ⟨_, rfl⟩
          obtain ⟨q3, hq3⟩ : ∃ q : Int, (te.deep : Int) = q := ⟨_, rfl⟩
          have y1 : 0 ≤ q2 := by omega
          have y2 : 0 ≤ q3 := by omega
          rw [hq2, hq3] at hq
          obtain ⟨y3, y4⟩ := hq
          simp only [hq2, hq3] at N2 N3
          have Q2 := hid hq2
          have Q3 := hid hq3
          have H2 := hid N2
          have H3 := hid N3
          have hv1 : IntKind.i64.wrap (1 + max q2 q3) = 1 + max q2 q3 := by rw [IntKind.wrap_i64]; omega
          clear N2 N3 hq2 hq3 ih k1 k2 k3 hLl hLe d2 d3
          have hS0 : Below w.heap.size w wr.drew ∧ wr.drew.cell? ⟨b, off + k * 8 + 6, none⟩ = some (.slice x.la x.ln x.lc) ∧ wr.drew.cell? ⟨b, off + k * 8 + 7, none⟩ = some (.slice x.ea x.en x.ec) := ⟨hb.drew, c6, c7⟩
          go_wp2
          (first
            | go_loud (go_region_held3 (fun w' => Below w.heap.size w w' ∧ w'.cell? ⟨b, off + k * 8 + 6, none⟩ = some (.slice x.la x.ln x.lc) ∧ w'.cell? ⟨b, off + k * 8 + 7, none⟩ = some (.slice x.ea x.en x.ec))
                (first | assumption | exact held_keep2 (by assumption) (by assumption))
                (first
                  | (go_at_call 217; (with_reducible refine (H2.out _ (held_out2 (by assumption))).mono ?_); rintro e w7 ⟨rfl, hb7⟩)
                  | (go_at_call 217; (with_reducible refine (H3.out _ (held_out2 (by assumption))).mono ?_); rintro e w8 ⟨rfl, hb8⟩)))
            | fail)
          go_wp2
          have hbE := held_out2 (by assumption)
          have g2 := Q2.out
          have g3 := Q3.out
          refine ⟨⟨k + 1, max n (1 + max q2 q3), r, by simp, rfl, by omega, by omega, by omega, ⟨by have := HR.out.1; simp only [Il.len] at this; omega, by have := HR.out.2.1; simp only [Il.count] at this; omega, ?_⟩, by rw [show off + (k + 1) * 8 = off + k * 8 + 8 by omega]; exact hir', hbE⟩, by simp [intOf]; omega⟩
          have h1 := HR.out.2.2
          simp only [Il.deep] at h1
          omega

set_option maxHeartbeats 1600000 in
theorem refTags_any : ∀ (m : Nat) (t : Il) (a : Option Addr) (len c : Nat) (w : World), t.count ≤ m → ListAt w.heap.size w a len t → len ≤ 140737488351232 → t.count ≤ 4611686018427387900 →
    Calls Tryz.prog 218 #[.slice a len c] w fun e w' => e = .returned (.bool t.tags) ∧ Below w.heap.size w w' := by
  intro m
  induction m with
  | zero =>
    intro t a len c w hm hL hlen hbig
    cases t with
    | cons x l e r => simp only [Il.count] at hm; omega
    | nil =>
      have h0 : len = 0 := hL.1.symm
      subst h0
      clear hm hL hlen hbig
      go_enter Tryz.func218, Tryz.ntmps218
      go_wp2
      go_loopw [3] (fun si wr => si = .int .i64 0 ∧ wr = w) (fun _ _ => 0)
      case atStart => exact ⟨rfl, rfl⟩
      case round =>
        obtain ⟨rfl, rfl⟩ := hrel
        go_wp2
        go_ret
        exact ⟨rfl, Below.refl _ _⟩
  | succ m ih =>
    intro t a len c w hm hL hlen hbig
    obtain ⟨hL1, hL2⟩ := hL
    rcases hL2 with rfl | ⟨b, off, rfl, hi⟩
    · have h0 : len = 0 := hL1.symm
      subst h0
      clear ih hm hL1 hlen hbig
      go_enter Tryz.func218, Tryz.ntmps218
      go_wp2
      go_loopw [3] (fun si wr => si = .int .i64 0 ∧ wr = w) (fun _ _ => 0)
      case atStart => exact ⟨rfl, rfl⟩
      case round =>
        obtain ⟨rfl, rfl⟩ := hrel
        go_wp2
        go_ret
        exact ⟨rfl, Below.refl _ _⟩
    · have HM := hid hm
      have HB := hid hbig
      have HL1 := hid hL1
      have HI := hid hi
      clear hm hbig hL1 hi
      go_enter Tryz.func218, Tryz.ntmps218
      go_wp2
      go_loopw [3] (fun si wr => ∃ (k : Nat) (rest : Il), si = .int .i64 k ∧ k ≤ len ∧ Hid (k + rest.len = len ∧ rest.count ≤ t.count ∧ rest.tags = t.tags) ∧ Hid (Items w.heap.size w b (off + k * 8) rest) ∧ Below w.heap.size w wr)
        (fun si _ => len - (intOf si).toNat)
      case atStart => exact ⟨0, t, rfl, Nat.zero_le _, ⟨by have := HL1.out; omega, Nat.le_refl _, rfl⟩, by simpa using HI, Below.refl _ _⟩
      case round =>
        obtain ⟨k, rest, rfl, hk, HR, HIR, hb⟩ := hrel
        cases rest with
        | nil =>
          obtain ⟨r1, _, r3⟩ := HR.out
          have hkl : k = len := by simpa [Il.len] using r1
          subst hkl
          have R3 : Hid (t.tags = false) := by show _ = _; rw [← r3]; rfl
          clear r3
          go_wp2
          go_ret
          exact ⟨ret_bool R3.out.symm, hb⟩
        | cons x tl te r =>
          have hir := Items.below hb HIR.out
          obtain ⟨hbn, hx, ⟨c0, c1, c2, c3, c4, c5, c6, c7⟩, _⟩ := hir
          have hir0 := HIR.out
          obtain ⟨_, _, _, ht, hLl, hLe, hir'⟩ := hir0
          have hlt : k < len := by have := HR.out.1; simp only [Il.len] at this; omega
          have hLn := hx.ln
          have hEn := hx.en
          have hcnt : tl.count + te.count + 1 ≤ m + 1 ∧ tl.count ≤ 4611686018427387900 ∧ te.count ≤ 4611686018427387900 := by
            have h1 := HR.out.2.1
            have h2 := HM.out
            have h3 := HB.out
            simp only [Il.count] at h1
            omega
          obtain ⟨k1, k2, k3⟩ := hcnt
          have N2 := fun w' (hb' : Below w.heap.size w w') => ih tl x.la x.ln x.lc w' (by omega) (ListAt.on hLl hb') hLn k2
          have N3 := fun w' (hb' : Below w.heap.size w w') => ih te x.ea x.en x.ec w' (by omega) (ListAt.on hLe hb') hEn k3
          have HE : Hid (t.tags = (decide (16384 < x.tags.length) || tl.tags || te.tags || r.tags)) := by show _ = _; rw [← HR.out.2.2]; rfl
          have htn := hx.tn
          have H2 := hid N2
          have H3 := hid N3
          clear N2 N3 ih k1 k2 k3 hLl hLe
          by_cases hbig : 16384 < x.tags.length
          · have R : Hid (t.tags = true) := by show _ = _; rw [HE.out]; simp [hbig]
            have hbig' : (16384 : Int) < (x.tags.length : Int) := by omega
            clear H2 H3
            go_wp2
            go_ret
            exact ⟨ret_bool R.out.symm, hb⟩
          · have hbig' : ¬ (16384 : Int) < (x.tags.length : Int) := by omega
            obtain ⟨g1, hg1⟩ : ∃ g, tl.tags = g := ⟨_, rfl⟩
            obtain ⟨g2, hg2⟩ : ∃ g, te.tags = g := ⟨_, rfl⟩
            simp only [hg1] at H2
            simp only [hg2] at H3
            have HE2 : Hid (t.tags = (g1 || g2 || r.tags)) := by show _ = _; rw [HE.out, hg1, hg2]; simp [hbig]
            clear hg1 hg2 HE
            go_wp2_with fail
            refine (H2.out _ hb).mono ?_
            clear H2
            rintro e1 w3 ⟨rfl, hb3⟩
            have hbW := thenB hb hb3
            have d6 := keep hb3 c6
            have d7 := keep hb3 c7
            cases g1
            · go_wp2_with fail
              refine (H3.out _ hbW).mono ?_
              clear H3
              rintro e1 w4 ⟨rfl, hb4⟩
              have hbX := thenB hbW hb4
              cases g2
              · go_wp2
                go_roundw
                case rel =>
                  refine ⟨k + 1, r, by simp, by omega, ⟨by have := HR.out.1; simp only [Il.len] at this; omega, by have := HR.out.2.1; simp only [Il.count] at this; omega, ?_⟩, by rw [show off + (k + 1) * 8 = off + k * 8 + 8 by omega]; exact hir', hbX⟩
                  rw [HE2.out]; rfl
                case measure => simp [intOf]; omega
              · have R : Hid (t.tags = true) := by show _ = _; rw [HE2.out]; rfl
                go_wp2
                go_ret
                exact ⟨ret_bool R.out.symm, hbX⟩
            · have R : Hid (t.tags = true) := by show _ = _; rw [HE2.out]; simp
              clear H3
              go_wp2
              go_ret
              exact ⟨ret_bool R.out.symm, hbW⟩

end Go.Proofs.YtepbjkkakfpjgaaGreatDoor.Instr

namespace Go.Proofs.YtepbjkkakfpjgaaGreatDoor.Body
set_option linter.unusedVariables false
open Go.RowKit Go.Proofs.YtepbjkkakfpjgaaGreatDoor.Instr

theorem lists_kind (op : Int) : listsP op = decide (kindP op = 1) := by
  unfold listsP kindP
  (repeat' split) <;> simp_all <;> omega
theorem which_kind (op : Int) : whichP op = decide (kindP op = 2 ∨ kindP op = 3) := by
  unfold whichP kindP
  (repeat' split) <;> simp_all <;> omega
theorem stored_kind (op : Int) : storedP op = decide (kindP op = 5) := by
  unfold storedP kindP
  (repeat' split) <;> simp_all <;> omega
theorem four_kind {op : Int} : op = 14 ↔ kindP op = 4 := by
  unfold kindP
  (repeat' split) <;> simp_all <;> omega
theorem seven_kind {op : Int} : op = 65 ↔ kindP op = 7 := by
  unfold kindP
  (repeat' split) <;> simp_all <;> omega
theorem right_none (op res a b n : Int) (tl ln en : Nat) (ta la ea : Option Addr) (tc lc ec : Nat) (w : World) (h : nameL op = []) :
    Calls Tryz.prog 230 #[.agg #[.int .i64 op, .int .i64 res, .int .u32 a, .int .u32 b, .int .i32 n, .slice ta tl tc, .slice la ln lc, .slice ea en ec]] w fun e w' => e = .returned (.bool false) ∧ Below w.heap.size w w' := by
  have FA := hid (fun W => refAlign_any op W)
  have FN := hid (fun W => refName_any op W)
  have hs : strOfNums (nameL op) = ⟨#[]⟩ := by rw [h]; rfl
  rw [hs] at FN
  obtain ⟨al, hal⟩ : ∃ al, alignP op = al := ⟨_, rfl⟩
  obtain ⟨st, hst⟩ : ∃ st, storedP op = st := ⟨_, rfl⟩
  rw [hal, hst] at FA
  have M := hid ((fun o => (Below.refl w.heap.size w).alloc (Nat.le_refl _) o) (.cells #[.int .i64 op, .int .i64 res, .int .u32 a, .int .u32 b, .int .i32 n, .slice ta tl tc, .slice la ln lc, .slice ea en ec] 126))
  clear h hs hal hst
  go_enter Tryz.func230, Tryz.ntmps230
  go_wp2_with fail
  refine (FA.out _).mono ?_
  rintro e w1 ⟨rfl, rfl⟩
  go_wp2_with fail
  refine (FN.out _).mono ?_
  rintro e w1 ⟨rfl, hb1⟩
  have HB := hid (M.out.trans (hb1.mono M.out.size))
  clear hb1
  go_wp2
  go_ret
  exact ⟨rfl, HB.out⟩
end Go.Proofs.YtepbjkkakfpjgaaGreatDoor.Body

namespace Go.Proofs.YtepbjkkakfpjgaaGreatDoor.Mod
open Go.RowKit Go.Proofs.YtepbjkkakfpjgaaGreatDoor.Instr

def strR (s : ByteArray) : List Value := [.string s]
def twoR (l : List Imp) : List ByteArray := l.flatMap fun i => [i.mo, i.na]
/-- All names. -/
def Md.names (m : Md) : List ByteArray := twoR m.im ++ m.ex.map (·.na)
theorem twoR_take {l : List Imp} {k : Nat} (hk : k < l.length) : (twoR (l.take (k + 1))).map strR = (twoR (l.take k)).map strR ++ [[.string l[k].mo], [.string l[k].na]] := by
  unfold twoR; rw [List.take_succ_eq_append_getElem hk, List.flatMap_append, List.map_append]; rfl
theorem exN_take {l : List Ex} {k : Nat} (hk : k < l.length) (xs : List (List Value)) : xs ++ ((l.take (k + 1)).map (·.na)).map strR = (xs ++ ((l.take k).map (·.na)).map strR) ++ [[.string l[k].na]] := by
  rw [List.take_succ_eq_append_getElem hk, List.map_append, List.map_append, ← List.append_assoc]; rfl
theorem twoR_len (l : List Imp) : (twoR l).length = 2 * l.length := by
  unfold twoR
  induction l with
  | nil => rfl
  | cons a l ih => rw [List.flatMap_cons, List.length_append, ih, List.length_cons]; simp; omega
theorem infoStr : (Tryz.prog.info? 9).map (fun i => (i.zero, i.size, i.bytes)) = some (some (.string ⟨#[]⟩), 1, 16) := by kernel_rfl
set_option maxHeartbeats 2000000 in
set_option maxRecDepth 100000 in
theorem refNames_any (m : Md) (w : World) (hm : ModAt w.heap.size w m) (hf : m.few) :
    Calls Tryz.prog 132 #[.agg m.v] w fun e w' => ∃ a c, e = .returned (.slice a m.names.length c) ∧ Rows w'.heap.size w' a 1 (m.names.map strR) ∧ Below w.heap.size w w' := by
  have hb0 := (Below.refl w.heap.size w).alloc (Nat.le_refl _) (.cells m.v 32)
  have HB := hid hb0
  have HM := hid (hm.on hb0)
  have HX := hid (BoxAt.made w m.v 32)
  have HF := hid hf
  unfold Md.v at HB HX HM ⊢
  clear hm hf hb0
  go_enter Tryz.func132, Tryz.ntmps132
  go_wp2
  generalize w.alloc (.cells #[.slice m.ty'.a m.ty.length m.ty'.c, .slice m.im'.a m.im.length m.im'.c, .slice m.fu'.a m.fu.length m.fu'.c, .slice m.tb'.a m.tb.length m.tb'.c, .slice m.me'.a m.me.length m.me'.c, .slice m.gl'.a m.gl.length m.gl'.c, .slice m.ex'.a m.ex.length m.ex'.c, .bool m.st, .int .u32 m.sn, .slice m.el'.a m.el.length m.el'.c, .slice m.da'.a m.da.length m.da'.c] 32) = W0 at HB HM HX ⊢
  obtain ⟨li, hli⟩ : ∃ n, m.im.length = n := ⟨_, rfl⟩
  obtain ⟨lx, hlx⟩ : ∃ n, m.ex.length = n := ⟨_, rfl⟩
  have Lli := hid hli
  have Llx := hid hlx
  have bli : li ≤ 1000000 := by have := HF.out.lens; omega
  have blx : lx ≤ 1000000 := by have := HF.out.lens; omega
  have Xim := hid (show W0.cell? ⟨w.heap.size, 1, none⟩ = some (.slice m.im'.a li m.im'.c) by rw [← hli]; exact HX.out 1 _ rfl)
  have Xex := hid (show W0.cell? ⟨w.heap.size, 6, none⟩ = some (.slice m.ex'.a lx m.ex'.c) by rw [← hlx]; exact HX.out 6 _ rfl)
  have Rim := hid HM.out.im
  have Rex := hid HM.out.ex
  clear hli hlx HX HM HF
  go_loopw [3, 4] (fun vo vi wr => ∃ k : Nat, vi = .int .i64 k ∧ k ≤ li ∧ Hid (OwnR 9 1 W0.heap.size wr vo ((twoR (m.im.take k)).map strR)) ∧ Hid (Below W0.heap.size W0 wr)) (fun _ vi _ => li - (intOf vi).toNat)
  case atStart => exact ⟨0, rfl, Nat.zero_le _, OwnR.start _ _ _ _, Below.refl _ _⟩
  case round =>
    obtain ⟨k, rfl, hk, HO, HW⟩ := hrel
    have hbx := Go.Proofs.YtepbjkkakfpjgaaGreatDoor.keep HW.out Xim.out
    by_cases hlt : k < li
    · have hkl : k < m.im.length := by rw [Lli.out]; exact hlt
      obtain ⟨b, off, ha, hb, hc⟩ := Rows.get Rim.out hkl
      rw [ha] at hbx
      have HS := hid (twoR_take hkl)
      have HLN := hid (show ((twoR (m.im.take k)).map strR).length ≤ 4000000 by rw [List.length_map, twoR_len, List.length_take]; omega)
      obtain ⟨x, hxe⟩ : ∃ x, m.im[k] = x := ⟨_, rfl⟩
      rw [hxe] at hc HS
      have cc : ∀ j, j < 3 → ∀ v, x.v[j]? = some v → wr.cell? ⟨b, off + k * 3 + j, none⟩ = some v := fun j hj v hv => (HW.out.cell (p := ⟨b, off + k * 3 + j, none⟩) hb).trans (hc j hj v hv)
      have c0 : wr.cell? ⟨b, off + k * 3, none⟩ = some (.string x.mo) := cc 0 (by omega) _ rfl
      have c1 : wr.cell? ⟨b, off + k * 3 + 1, none⟩ = some (.string x.na) := cc 1 (by omega) _ rfl
      have hki : (k : Int) < (li : Int) := by omega
      obtain ⟨xs, hxs⟩ : ∃ xs, (twoR (m.im.take k)).map strR = xs := ⟨_, rfl⟩
      obtain ⟨ys, hys⟩ : ∃ ys, (twoR (m.im.take (k + 1))).map strR = ys := ⟨_, rfl⟩
      rw [hxs] at HO HLN HS
      rw [hys] at HS
      have HYS := hid hys
      obtain ⟨s0, hs0⟩ : ∃ s, x.mo = s := ⟨_, rfl⟩
      obtain ⟨s1, hs1⟩ : ∃ s, x.na = s := ⟨_, rfl⟩
      rw [hs0] at c0 HS
      rw [hs1] at c1 HS
      clear hc cc hb ha hkl hxe hxs hys hs0 hs1 hk
      go_wp2
      have HD := hid ((Below.refl wr.heap.size wr).drew)
      have HO2 := hid (HO.out.below HD.out)
      have HW2 := hid (HW.out.trans (HD.out.mono HW.out.size))
      go_region_law
        (first
          | (refine step_rows infoStr rfl (by omega) (by omega) Tryz.underlying149 rfl (.tmp 13) (.tmp 26) rfl [[.string s0], [.string s1]] rfl (HO2.out.below ((Below.refl _ _).alloc (Nat.le_refl _) _)) (thenA HW2.out _) (by have := HW.out.size; simp; omega)
               ⟨wr.drew.heap.size, 0, none⟩ 2 2 rfl rfl (by simp) (World.news_of_block (heap_alloc_new wr.drew _)) (by simp [Value.oneCell']) (by have := HLN.out; omega) ?_
             intro v' w' hown hbl hsz hgr))
      all_goals
        have hown1 := hid hown
        have hbl1 := hid hbl
        clear hown hbl hgr hsz HO2 HW2 HD hbx c0 c1 HO HW
        go_wp2
        go_roundw
        case rel => exact ⟨k + 1, by go_num, by omega, hid (by rw [HYS.out, HS.out]; exact hown1.out), hbl1⟩
        case measure => simp [intOf]; omega
    · obtain rfl : k = li := by omega
      have HO1 := hid (show OwnR 9 1 W0.heap.size wr u3 ((twoR m.im).map strR) by have := HO.out; rwa [List.take_of_length_le (by rw [Lli.out]; exact Nat.le_refl _)] at this)
      have HW1 := HW
      obtain ⟨xs0, hxs0⟩ : ∃ xs, (twoR m.im).map strR = xs := ⟨_, rfl⟩
      have hxl0 : xs0.length ≤ 4000000 := by rw [← hxs0, List.length_map, twoR_len, Lli.out]; omega
      have HX0 := hid hxs0
      rw [hxs0] at HO1
      clear HO HW hk hxs0
      go_wp2
      go_loopw [3, 5] (fun vo vi wr => ∃ j : Nat, vi = .int .i64 j ∧ j ≤ lx ∧ Hid (OwnR 9 1 W0.heap.size wr vo (xs0 ++ ((m.ex.take j).map (·.na)).map strR)) ∧ Hid (Below W0.heap.size W0 wr)) (fun _ vi _ => lx - (intOf vi).toNat)
      case atStart => exact ⟨0, rfl, Nat.zero_le _, hid (by simpa using HO1.out), HW1⟩
      case round =>
        clear HO1 HW1
        obtain ⟨j, rfl, hj, HO, HW⟩ := hrel
        have hbx := Go.Proofs.YtepbjkkakfpjgaaGreatDoor.keep HW.out Xex.out
        by_cases hlt : j < lx
        · have hkl : j < m.ex.length := by rw [Llx.out]; exact hlt
          obtain ⟨b, off, ha, hb, hc⟩ := Rows.get Rex.out hkl
          rw [ha] at hbx
          have HS := hid (exN_take hkl xs0)
          have HLN := hid (show (xs0 ++ ((m.ex.take j).map (·.na)).map strR).length ≤ 6000000 by rw [List.length_append, List.length_map, List.length_map, List.length_take]; omega)
          obtain ⟨x, hxe⟩ : ∃ x, m.ex[j] = x := ⟨_, rfl⟩
          rw [hxe] at hc HS
          have c0 : ∀ W, Below wr.heap.size wr W → W.cell? ⟨b, off + j * 3, none⟩ = some (.string x.na) := fun W hW => Go.Proofs.YtepbjkkakfpjgaaGreatDoor.keep hW ((HW.out.cell (p := ⟨b, off + j * 3 + 0, none⟩) hb).trans (hc 0 (by omega) (.string x.na) rfl))
          have c0 := c0 wr (Below.refl _ _)
          have hki : (j : Int) < (lx : Int) := by omega
          obtain ⟨xs, hxs⟩ : ∃ xs, xs0 ++ ((m.ex.take j).map (·.na)).map strR = xs := ⟨_, rfl⟩
          obtain ⟨ys, hys⟩ : ∃ ys, xs0 ++ ((m.ex.take (j + 1)).map (·.na)).map strR = ys := ⟨_, rfl⟩
          rw [hxs] at HO HLN HS
          rw [hys] at HS
          have HYS := hid hys
          obtain ⟨s0, hs0⟩ : ∃ s, x.na = s := ⟨_, rfl⟩
          rw [hs0] at c0 HS
          clear hc hb ha hkl hxe hxs hys hs0 hj
          go_wp2_with first
            | (refine append_rows infoStr rfl (by omega) (by omega) Tryz.underlying149 rfl (.tmp 35) (.tmp 42) rfl [[.string s0]] rfl (HO.out.below ((Below.refl _ _).alloc (Nat.le_refl _) _)) (thenA HW.out _) (by have := HW.out.size; simp; omega)
                 ⟨wr.heap.size, 0, none⟩ 1 1 rfl rfl (by simp) (World.news_of_block (heap_alloc_new wr _)) (by simp [Value.oneCell']) (by have := HLN.out; omega) ?_
               intro v' w' hown hbl hsz hgr)
          have hown1 := hid hown
          have hbl1 := hid hbl
          clear hown hbl hgr hsz hbx c0 HO HW
          go_wp2
          go_roundw
          case rel => exact ⟨j + 1, by go_num, by omega, hid (by rw [HYS.out, HS.out]; exact hown1.out), hbl1⟩
          case measure => simp [intOf]; omega
        · obtain rfl : j = lx := by omega
          have HO1 := hid (show OwnR 9 1 W0.heap.size wr u3 (m.names.map strR) by have := HO.out; rw [List.take_of_length_le (by rw [Llx.out]; exact Nat.le_refl _), ← HX0.out] at this; unfold Md.names; rw [List.map_append]; exact this)
          have hHO := HO1.out.rows
          rw [List.length_map] at hHO
          obtain ⟨a, c, rfl, hr, _⟩ := hHO
          have HR := hid hr
          clear HO HO1 hr
          go_wp2
          go_ret
          exact ⟨a, c, rfl, HR.out, HB.out.trans (HW.out.mono HB.out.size)⟩
end Go.Proofs.YtepbjkkakfpjgaaGreatDoor.Mod

namespace Go.Proofs.YtepbjkkakfpjgaaGreatDoor.Utf
open Go.RowKit

theorem infoInt : (Tryz.prog.info? 3).map (fun i => (i.zero, i.size, i.bytes)) = some (some (.int .i64 0), 1, 8) := by kernel_rfl
/-- What Runes hands back: the runes, no fault; or none, and the fault. -/
def faultL (zs : List Int) : Int × Int := if (scan zs).2 = zs.length then (0, 0) else (4, (scan zs).2)
def runesL (zs : List Int) : List Int := if (scan zs).2 = zs.length then (scan zs).1 else []
/-- What Runes hands back. -/
def GotRunes (w : World) (zs : List Int) (e : Ending) (w' : World) : Prop :=
  ∃ v, e = .returned (.tuple #[v, .agg #[.int .i64 (faultL zs).1, .int .i64 (faultL zs).2]]) ∧ OwnK 3 .i64 w.heap.size w' v (runesL zs) ∧ Below w.heap.size w w'
theorem own_nothing (e : TypeId) (k : IntKind) (base : Nat) (w : World) : OwnK e k base w (.slice none 0 0) [] := World.ownsRow_nil _ _ _ _
end Go.Proofs.YtepbjkkakfpjgaaGreatDoor.Utf

namespace Go.Proofs.YtepbjkkakfpjgaaGreatDoor.Instr
open Go.RowKit Go.Shelf

theorem cell_new (W : World) (v : Value) (t : TypeId) : (W.alloc (.cells #[v] t)).cell? ⟨W.heap.size, 0, none⟩ = some v ∧ (W.alloc (.cells #[v] t)).frozen? ⟨W.heap.size, 0, none⟩ = false := by
  constructor <;> go_simp
theorem cell_alloc' {W : World} {a : Addr} {v : Value} (o : Obj) (h : W.cell? a = some v) : (W.alloc o).cell? a = some v := cell_kept h (World.grownBy_alloc W o none) (fun r e => by cases e)
theorem frozen_alloc' {W : World} {a : Addr} {v : Value} (o : Obj) (h : W.cell? a = some v) (hf : W.frozen? a = false) : (W.alloc o).frozen? a = false := (frozen_kept h (World.grownBy_alloc W o none) (fun r e => by cases e)).trans hf

end Go.Proofs.YtepbjkkakfpjgaaGreatDoor.Instr
