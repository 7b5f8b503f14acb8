import Derived.Test.YtepbjkkakfpjgaaGreatDoorEt21
import Derived.Test.YtepbjkkakfpjgaaGreatDoorEt20
import Derived.Test.YtepbjkkakfpjgaaGreatDoorEt19
import Derived.Laws.AppendOwnNone
import Derived.Deep.RegionHeld
namespace Go.Proofs.YtepbjkkakfpjgaaGreatDoor.Body
set_option linter.unusedVariables false
open Go.RowKit Go.Proofs.YtepbjkkakfpjgaaGreatDoor.Instr
theorem run_append_none (w : World) (base : Nat) (t ty e : TypeId) (i : TypeInfo) (size c : Nat) (ht : Tryz.prog.underlying t = some (.slice e)) (hi : Tryz.prog.info? e = some i)
  (v : Value) (n : Nat) (xs : List Value) (hown : w.ownsRow base e size v n xs) :
  (Builtin.append_ #[t, t] ty #[v, .slice none 0 c]).run Tryz.prog w = .ok v w := by
 rcases hown.2 with ⟨rfl, rfl⟩ | ⟨g, cap, cur, rfl, _, _, hnc, _⟩
 ·simp [Builtin.append_, run_underlying ht, sizeOf, typeInfo, hi, Builtin.lenOf, Builtin.firstCells]
 ·simp [Builtin.append_, run_underlying ht, sizeOf, typeInfo, hi, Builtin.lenOf, Builtin.firstCells, hnc, storeCells]
section
variable {ops : Array Oper} {rest : List Oper} {o : Oper} {act : Act} {Q : Exit → Act → World → Prop}
theorem append_none (hgd : o.guard = none) (s x : Operand) (t : TypeId) (ho : o.op = .call { callee := .builtin .append, args := #[s, x], argTypes := #[t, t] })
  {w : World} (base : Nat) (e : TypeId) (i : TypeInfo) (size c : Nat) (ht : Tryz.prog.underlying t = some (.slice e)) (hi : Tryz.prog.info? e = some i)
  (v : Value) (n : Nat) (xs : List Value) (hs : act.eval s = v) (hown : w.ownsRow base e size v n xs) (hx : act.eval x = .slice none 0 c)
  (h : wpList Tryz.prog ops Q rest (act.put o.dst v) w) : wpList Tryz.prog ops Q (o :: rest) act w := by
 refine wpList_plain hgd fun K hK => ?_
 have hrun := run_append_none w base t o.type e i size c ht hi v n xs hown
 unfold Oper.wp
 simp [execOp, ho, resolve, invoke, builtin, hs, hx, hrun, Result.andThen]
 exact hK _ _ h
theorem append_u32s (hgd : o.guard = none) (s x : Operand) (ho : o.op = .call { callee := .builtin .append, args := #[s, x], argTypes := #[69, 69] })
  {base : Nat} {w0 wr : World} {v : Value} {xs ys : List Int} (hs : act.eval s = v) (hown : OwnK 28 .u32 base wr v xs) (hb : Below base w0 wr) (hbase : base ≤ wr.heap.size)
  (a2 : Option Addr) (n c : Nat) (hx : act.eval x = .slice a2 n c) (hn : ys.length = n) (hy : TagsAt wr.heap.size wr a2 ys) (hl : xs.length + ys.length ≤ 8796093022208)
  (h : ∀ v' w', OwnK 28 .u32 base w' v' (xs ++ ys) → Below base w0 w' → base ≤ w'.heap.size → wpList Tryz.prog ops Q rest (act.put o.dst v') w') :
  wpList Tryz.prog ops Q (o :: rest) act wr := by
 obtain ⟨i0, hi, hz0, hz1, hz2⟩ := info_parts infoU32
 subst hn
 have fin : ∀ v' w', w'.ownsRow base 28 1 v' (xs.length + ys.length) (xs.map (Value.int .u32) ++ ys.map (Value.int .u32)) → wr.grownBy w' v.ownBlock → wpList Tryz.prog ops Q rest (act.put o.dst v') w' := by
  intro v' w' hown' hgrow
  refine h v' w' ?_ (hb.grown hgrow (by omega) (fun k hk => (World.ownsRow.lt hown k hk).1)) (by have := hgrow.size; omega)
  unfold OwnK; rw [List.length_append, List.map_append]; exact hown'
 rcases hy with h0 | ⟨b, off, rfl, hlt, hc⟩
 ·subst h0
  cases a2 with
  | none => exact append_none hgd s x 69 ho base 28 i0 1 c Tryz.underlying69 hi v xs.length _ hs hown hx (h v wr (by simpa using hown) hb hbase)
  | some ad =>
   refine wpList_append_own _ hgd s x 69 ho base 28 i0 (.int .u32 0) 1 4 Tryz.underlying69 hi hz0 hz1 hz2 rfl (by decide) v xs.length _ hs hown ad 0 c [] hx rfl
    (by simp) (by simp) ?_ ?_ hbase (fun v' w' hown' hgrow _ => fin v' w' (by simpa using hown') hgrow)
   ·unfold maxLen; simp at hl; omega
   ·simp at hl; omega
 ·refine wpList_append_own _ hgd s x 69 ho base 28 i0 (.int .u32 0) 1 4 Tryz.underlying69 hi hz0 hz1 hz2 rfl (by decide) v xs.length _ hs hown ⟨b, off, none⟩ ys.length c (ys.map (Value.int .u32)) hx (by simp)
   ?_ ?_ ?_ ?_ hbase (fun v' w' hown' hgrow _ => fin v' w' hown' hgrow)
  ·intro j u hj
   have hjl : j < ys.length := by
    rcases Nat.lt_or_ge j ys.length with h | h
    ·exact h
    ·rw [List.getElem?_eq_none (by simpa using h)] at hj; cases hj
   have hplain : (⟨b, off, none⟩ : Addr).add j = ⟨b, off + j, none⟩ := by unfold Addr.add; split <;> simp_all
   rw [hplain, hc j hjl]
   rw [← hj, getD_lt hjl]; simp [hjl]
  ·intro u hu
   obtain ⟨n, _, rfl⟩ := List.mem_map.1 hu
   rfl
  ·unfold maxLen; omega
  ·omega
end
section
variable {ops : Array Oper} {rest : List Oper} {o : Oper} {act : Act} {Q : Exit → Act → World → Prop}
theorem append_insG (hgd : o.guard = none) (s x : Operand) (ho : o.op = .call { callee := .builtin .append, args := #[s, x], argTypes := #[45, 45] })
  {base n : Nat} {wr : World} {v : Value} {xs : List Value} (y : Ix) (hs : act.eval s = v) (hown : wr.ownsRow base 126 8 v n xs) (hbase : base ≤ wr.heap.size) (g0 : Nat) (hg0 : g0 = wr.heap.size)
  (hx : act.eval x = .slice (some ⟨g0, 0, none⟩) 1 1) (hn : n ≤ 1000000)
  (h : ∀ g cap w', w'.ownsRow base 126 8 (.slice (some ⟨g, 0, none⟩) (n + 1) cap) (n + 1) (xs ++ y.vals.toList) → (wr.alloc (.cells y.vals 126)).grownBy w' v.ownBlock → (v.ownBlock = some g ∨ g = (wr.alloc (.cells y.vals 126)).heap.size) → wpList Tryz.prog ops Q rest (act.put o.dst (.slice (some ⟨g, 0, none⟩) (n + 1) cap)) w') :
  wpList Tryz.prog ops Q (o :: rest) act (wr.alloc (.cells y.vals 126)) := by
 subst hg0
 exact append_ins hgd s x ho y hs hown hbase hx hn h
end
def GotCopy (w : World) (n : Nat) (t : Il) (e : Ending) (w' : World) : Prop :=
 ∃ (a : Option Addr) (c : Nat) (u : Il), e = .returned (.slice a n c) ∧ Below w.heap.size w w' ∧ ListAt w'.heap.size w' a n u ∧ (∀ q ∈ blkOf n a ++ u.foot, w.heap.size ≤ q) ∧ u.bare = t.bare
theorem own_none32 (w : World) : OwnK 28 .u32 w.heap.size (w.alloc (.cells #[] 28)) (.slice (some ⟨w.heap.size, 0, none⟩) 0 0) [] := World.ownsRow_made w #[] 0 (Nat.le_refl _) (by unfold maxLen; omega) rfl
def Left (w : World) (a : Option Addr) (k : Nat) (r : Il) : Prop := r = .nil ∨ ∃ b off, a = some ⟨b, off, none⟩ ∧ Items w.heap.size w b (off + k * 8) r
set_option maxRecDepth 100000 in
set_option maxHeartbeats 6400000 in
theorem copy_any : ∀ (m : Nat) (t : Il) (a : Option Addr) (n c : Nat) (w : World), t.weight ≤ m → m ≤ 100000 → ListAt w.heap.size w a n t →
  Calls Tryz.prog 38 #[.slice a n c] w (GotCopy w n t) := by
 intro m
 induction m using Nat.strongRecOn with
 | ind m ih =>
  intro t a n c w hm hm1 hL
  have hIH : ∀ (t' : Il) (a' : Option Addr) (n' c' : Nat) (w' : World), t'.weight < m → ListAt w'.heap.size w' a' n' t' → Calls Tryz.prog 38 #[.slice a' n' c'] w' (GotCopy w' n' t') :=
   fun t' a' n' c' w' h1 h2 => ih t'.weight h1 t' a' n' c' w' (Nat.le_refl _) (by omega) h2
  have IH := hid hIH
  have HW := hid hm
  have H0 := hid (show Left w a 0 t from by
    rcases hL.2 with h | ⟨b, off, h1, h2⟩
    · exact .inl h
    · exact .inr ⟨b, off, h1, by simpa using h2⟩)
  have HLN := hid hL.1
  clear hIH ih hm hL
  go_enter Tryz.func38, Tryz.ntmps38
  go_wp2
  go_loopw [3, 4, 5] (fun vo vi v5 wr => ∃ (k : Nat) (u r : Il), vi = .int .i64 k ∧ u.len = k ∧ r.len + k = n ∧ r.weight + k ≤ m ∧ Hid (LOk w vo u wr) ∧ Hid (Below w.heap.size w wr) ∧ Hid (Left w a k r) ∧ Hid (u.bare.app r.bare = t.bare)) (fun _ vi _ _ => n - (intOf vi).toNat)
  case atStart => exact ⟨0, .nil, t, rfl, rfl, HLN.out, HW.out, LOk.start w w, Below.refl _ _, H0, rfl⟩
  case round =>
   clear H0 HW HLN
   obtain ⟨k, u, r, rfl, hu, hr, hw, HO, HB, HI, HE⟩ := hrel
   cases r with
   | nil =>
    simp only [Il.len] at hr
    obtain rfl : k = n := by omega
    obtain ⟨a0, c0, rfl, hl, hlow⟩ := HO.out.value
    rw [hu] at hl hlow ⊢
    have HLL := hid hl
    have HLW := hid hlow
    have hE := HE.out
    simp only [Il.bare, app_nil] at hE
    have HE2 := hid hE
    clear hl hlow hE HO HI HE
    go_wp2
    go_ret
    exact ⟨a0, c0, u, rfl, HB.out, HLL.out, HLW.out, HE2.out⟩
   | cons x l e r =>
    simp only [Il.len] at hr
    simp only [Il.weight] at hw
    have hkn : (k : Int) < (n : Int) := by omega
    obtain ⟨b, off, rfl, hits⟩ : ∃ b off, a = some ⟨b, off, none⟩ ∧ Items w.heap.size w b (off + k * 8) (.cons x l e r) := by
     rcases HI.out with h | h
     ·cases h
     ·exact h
    obtain ⟨op, res, xa, xb, xn, tags, ta, tc, la, ln, lc, ea, en, ec⟩ := x
    obtain ⟨hb, hx, ⟨c0, c1, c2, c3, c4, c5, c6, c7⟩, htg, hl, he, hrr⟩ := hits
    have HX := hid hx
    dsimp only at c0 c1 c2 c3 c4 c5 c6 c7 htg hl he hw
    have cc : ∀ i v, w.cell? ⟨b, i, none⟩ = some v → wr.cell? ⟨b, i, none⟩ = some v := fun i v h => (HB.out.cell (p := ⟨b, i, none⟩) hb).trans h
    have c0 := cc _ _ c0
    have c1 := cc _ _ c1
    have c2 := cc _ _ c2
    have c3 := cc _ _ c3
    have c4 := cc _ _ c4
    have c5 := cc _ _ c5
    have c6 := cc _ _ c6
    have c7 := cc _ _ c7
    have HR2 := hid (show Left w (some ⟨b, off, none⟩) (k + 1) r from .inr ⟨b, off, rfl, by rw [show off + (k + 1) * 8 = off + k * 8 + 8 by omega]; exact hrr⟩)
    have C1 := hid (fun W (hb : Below w.heap.size w W) => IH.out l la ln lc W (by omega) (show ListAt W.heap.size W la ln l from ListAt.on (w := w) hl hb))
    have C2 := hid (fun W (hb : Below w.heap.size w W) => IH.out e ea en ec W (by omega) (show ListAt W.heap.size W ea en e from ListAt.on (w := w) he hb))
    have hTG : TagsAt w.heap.size w ta tags := htg
    have HTG := hid (fun W (hb : Below w.heap.size w W) => (hTG.below hb).more hb.size)
    have htl : tags.length ≤ 100000 := by omega
    have Y0 := bx_made ⟨op, res, xa, xb, xn, tags, ta, tc, la, ln, lc, ea, en, ec⟩ wr
    have W0B := hid (alloc_bq wr (.cells #[.int .i64 op, .int .i64 res, .int .u32 xa, .int .u32 xb, .int .i32 xn, .slice ta tags.length tc, .slice la ln lc, .slice ea en ec] 126))
    have Y1 := hid (Y0.alloc (.cells #[] 28))
    have OW := own_none32 (wr.alloc (.cells (⟨op, res, xa, xb, xn, tags, ta, tc, la, ln, lc, ea, en, ec⟩ : Ix).vals 126))
    rw [show (wr.alloc (.cells (⟨op, res, xa, xb, xn, tags, ta, tc, la, ln, lc, ea, en, ec⟩ : Ix).vals 126)).heap.size = wr.heap.size + 1 by simp] at OW
    have HOW := hid OW
    obtain ⟨⟨-, -, -, -, -, b5, -, -⟩, -, -, -, -, -, g5, -, -⟩ := Y1.out
    dsimp only [Ix.vals] at b5 g5
    clear hb htg hl he hrr cc hx HI Y0 OW hTG
    have BW1 := hid (HB.out.trans ((thenA W0B.out (.cells #[] 28)).mono HB.out.size))
    have SZ1 := hid (show wr.heap.size + 1 ≤ ((wr.alloc (.cells #[.int .i64 op, .int .i64 res, .int .u32 xa, .int .u32 xb, .int .i32 xn, .slice ta tags.length tc, .slice la ln lc, .slice ea en ec] 126)).alloc (.cells #[] 28)).heap.size by simp)
    have HTL := hid htl
    clear htl
    go_wp2_with (first
      | (at_builtin; refine append_u32s rfl (.tmp 16) (.tmp 18) rfl rfl HOW.out (Below.refl _ _) SZ1.out ta tags.length tc rfl rfl (HTG.out _ BW1.out) (by have := HTL.out; simp; omega) ?_; intro v6 w6 ho6 hb6 hs6; rw [List.nil_append] at ho6; obtain ⟨a6, c6', rfl⟩ := ho6.sliceN (n := tags.length) rfl; have O6 := hid ho6; have B6 := hid hb6; clear b5 g5 ho6 hb6; have Y6 := hid (Y1.out.belowB B6.out (Nat.lt_succ_self _)); have b5 := Y6.out.at_.c5; have g5 := Y6.out.f5; dsimp only at b5; refine Hid.out ?_))
    refine hid ?_
    have Y7 := hid (Y6.out.setT tags a6 c6')
    have BR6 := hid ((thenA W0B.out (.cells #[] 28)).trans (B6.out.mono (Nat.le_succ _)))
    have BR7 := hid (BR6.out.setCell (p := ⟨wr.heap.size, 5, none⟩) (Nat.le_refl _) (.slice a6 tags.length c6'))
    have BW7 := hid (HB.out.trans (BR7.out.mono HB.out.size))
    have TG6 := hid (tags_of O6.out)
    have SV67 := hid ((Save.refl wr.heap.size w6).setCell (p := ⟨wr.heap.size, 5, none⟩) (.inl rfl) (.slice a6 tags.length c6'))
    have D1 := hid (C1.out _ BW7.out)
    obtain ⟨⟨-, -, -, -, -, -, b6, -⟩, -, -, -, -, -, -, g6, -⟩ := Y7.out
    dsimp only at b6 g6
    clear C1 Y6 Y1 HOW HTG W0B BW1 SZ1 B6
    go_wp2_with fail
    refine D1.out.mono ?_
    clear D1 b5 g5
    rintro e1 w8 ⟨a8, c8, u8, rfl, hb8, hl8, hlow8, hbr8⟩
    have Y8 := hid (Y7.out.belowB hb8 (by have := World.block_lt_of_cell? _ _ Y7.out.at_.c0; simpa using this))
    have BR8 := hid (BR7.out.trans (hb8.mono BR7.out.size))
    have SV68 := hid (SV67.out.trans (Save.of_below hb8))
    have HL8 := hid hl8
    have HLW8 := hid (fun q hq => Nat.le_trans (show w6.heap.size ≤ (w6.setCell ⟨wr.heap.size, 5, none⟩ (.slice a6 tags.length c6')).heap.size from by simp [World.setCell]) (hlow8 q hq))
    have HBR8 := hid hbr8
    obtain ⟨⟨-, -, -, -, -, -, b6, -⟩, -, -, -, -, -, -, g6, -⟩ := Y8.out
    dsimp only at b6 g6
    have Y9 := hid (Y8.out.setL a8 ln c8)
    have BR9 := hid (BR8.out.setCell (p := ⟨wr.heap.size, 6, none⟩) (Nat.le_refl _) (.slice a8 ln c8))
    have SV89 := hid ((Save.refl wr.heap.size w8).setCell (p := ⟨wr.heap.size, 6, none⟩) (.inl rfl) (.slice a8 ln c8))
    have BW9 := hid (HB.out.trans (BR9.out.mono HB.out.size))
    have D2 := hid (C2.out _ BW9.out)
    obtain ⟨⟨-, -, -, -, -, -, -, b7⟩, -, -, -, -, -, -, -, g7⟩ := Y9.out
    dsimp only at b7 g7
    clear C2 Y7 Y8 hb8 hl8 hlow8 hbr8 BR7 BR8 SV67
    go_wp2_with fail
    refine D2.out.mono ?_
    clear D2 b6 g6
    rintro e2 w10 ⟨a10, c10, u10, rfl, hb10, hl10, hlow10, hbr10⟩
    have Y10 := hid (Y9.out.belowB hb10 (by have := World.block_lt_of_cell? _ _ Y9.out.at_.c0; simpa using this))
    have BR10 := hid (BR9.out.trans (hb10.mono BR9.out.size))
    have SV810 := hid (SV89.out.trans (Save.of_below hb10))
    have HL10 := hid hl10
    have HLW10 := hid (fun q hq => Nat.le_trans (show w8.heap.size ≤ (w8.setCell ⟨wr.heap.size, 6, none⟩ (.slice a8 ln c8)).heap.size from by simp [World.setCell]) (hlow10 q hq))
    have HBR10 := hid hbr10
    have Y11 := hid (Y10.out.setE a10 en c10)
    have BR11 := hid (BR10.out.setCell (p := ⟨wr.heap.size, 7, none⟩) (Nat.le_refl _) (.slice a10 en c10))
    have SV1011 := hid ((Save.refl wr.heap.size w10).setCell (p := ⟨wr.heap.size, 7, none⟩) (.inl rfl) (.slice a10 en c10))
    obtain ⟨⟨-, -, -, -, -, -, -, b7⟩, -, -, -, -, -, -, -, g7⟩ := Y10.out
    dsimp only at b7 g7
    obtain ⟨⟨z0, z1, z2, z3, z4, z5, z6, z7⟩, -, -, -, -, -, -, -, -⟩ := Y11.out
    dsimp only at z0 z1 z2 z3 z4 z5 z6 z7
    clear Y9 Y10 hb10 hl10 hlow10 hbr10 BR9 BR10 SV89
    have SZ6 := hid (show wr.heap.size + 1 ≤ w6.heap.size from hs6)
    have SZ8 := hid (show w6.heap.size ≤ w8.heap.size from SV68.out.size)
    have kids : (Il.cons ⟨op, res, xa, xb, xn, tags, a6, c6', a8, ln, c8, a10, en, c10⟩ u8 u10 .nil).kids (w10.setCell ⟨wr.heap.size, 7, none⟩ (.slice a10 en c10)) := by
     have hx := HX.out
     refine ⟨⟨hx.op, hx.res, hx.a, hx.b, hx.n, hx.tags, hx.tn, hx.ln, hx.en⟩, ?_, ?_, ?_, trivial⟩
     ·have T := (SV68.out.trans SV810.out).trans SV1011.out
      refine (TG6.out.1.touch (.of_save T) (fun q hq h => ?_)).more T.size
      have := TG6.out.2.1 q hq
      omega
     ·have T := SV810.out.trans SV1011.out
      refine ListAt.more T.size (HL8.out.touch (.of_save T) (fun q hq h => ?_))
      have h1 := HLW8.out q hq
      have h2 := SZ6.out
      omega
     ·refine ListAt.more SV1011.out.size (HL10.out.touch (.of_save SV1011.out) (fun q hq h => ?_))
      have h1 := HLW10.out q hq
      have h2 := SZ6.out
      have h3 := SZ8.out
      omega
    have hlo : ∀ q ∈ (Il.cons ⟨op, res, xa, xb, xn, tags, a6, c6', a8, ln, c8, a10, en, c10⟩ u8 u10 .nil).foot, wr.heap.size ≤ q := by
     intro q hq
     simp only [Il.foot, List.append_nil] at hq
     have h2 := SZ6.out
     have h3 := SZ8.out
     rcases List.mem_append.1 hq with hq | hq
     ·rcases List.mem_append.1 hq with hq | hq
      ·have := TG6.out.2.1 q hq; omega
      ·have := HLW8.out q hq; omega
     ·have := HLW10.out q hq; omega
    have KD := hid kids
    have HLO := hid hlo
    have HO11 := hid (HO.out.touch (S := fun _ => False) (.of_below BR11.out) (fun _ _ h => h))
    have hsz11 : w.heap.size ≤ (w10.setCell ⟨wr.heap.size, 7, none⟩ (.slice a10 en c10)).heap.size := Nat.le_trans HB.out.size BR11.out.size
    have hu1 : u.len ≤ 1000000 := by omega
    have ROW := hid HO11.out.row
    clear kids hlo
    go_wp2_with (first
      | (at_builtin; refine append_insG rfl (.tmp 29) (.tmp 31) rfl ⟨op, res, xa, xb, xn, tags, a6, c6', a8, ln, c8, a10, en, c10⟩ rfl ROW.out hsz11 w10.heap.size (by simp [World.setCell]) rfl hu1 ?_; intro g cap6 w12 hown hgrow hat; have HOWN := hid hown; have HGR := hid hgrow; have HAT := hid hat; clear hown hgrow hat; refine Hid.out ?_))
    refine hid ?_
    go_wp2
    go_roundw
    case rel =>
     have hsn := HO.out.snoc HO11.out KD.out HLO.out HB.out.size HOWN.out HGR.out HAT.out
     have hB := below_grown HO11.out.row hsz11 HGR.out
     rw [hu] at hsn
     refine ⟨k + 1, u.app (.cons ⟨op, res, xa, xb, xn, tags, a6, c6', a8, ln, c8, a10, en, c10⟩ u8 u10 .nil), r, by go_num, by rw [app_len]; simp only [Il.len]; omega, by omega, by omega, hsn, (HB.out.trans (BR11.out.mono HB.out.size)).trans hB, HR2, ?_⟩
     show (u.app (.cons ⟨op, res, xa, xb, xn, tags, a6, c6', a8, ln, c8, a10, en, c10⟩ u8 u10 .nil)).bare.app r.bare = t.bare
     rw [bare_app, app_assoc, ← HE.out]
     simp only [Il.bare, Ix.bare, HBR8.out, HBR10.out, Il.app]
    case measure => simp [intOf]; omega
end Go.Proofs.YtepbjkkakfpjgaaGreatDoor.Body
namespace Go.Proofs.YtepbjkkakfpjgaaGreatDoor.Mod
open Go.RowKit Go.Proofs.YtepbjkkakfpjgaaGreatDoor.Instr
set_option linter.unusedVariables false
theorem infoTy : (Tryz.prog.info? 50).map (fun i => (i.zero, i.size, i.bytes)) = some (some (.agg #[.int .i64 0, .int .i64 0]), 2, 16) := by kernel_rfl
theorem infoIm : (Tryz.prog.info? 73).map (fun i => (i.zero, i.size, i.bytes)) = some (some (.agg #[.string ⟨#[]⟩, .string ⟨#[]⟩, .int .i64 0]), 3, 40) := by kernel_rfl
theorem infoFn : (Tryz.prog.info? 66).map (fun i => (i.zero, i.size, i.bytes)) = some (some (.agg #[.int .i64 0, .int .i64 0, .slice none 0 0]), 3, 40) := by kernel_rfl
theorem infoLi : (Tryz.prog.info? 60).map (fun i => (i.zero, i.size, i.bytes)) = some (some (.agg #[.int .u32 0, .int .u32 0, .bool false]), 3, 12) := by kernel_rfl
theorem infoGl : (Tryz.prog.info? 68).map (fun i => (i.zero, i.size, i.bytes)) = some (some (.agg #[.bool false, .slice none 0 0]), 2, 32) := by kernel_rfl
theorem infoEx : (Tryz.prog.info? 75).map (fun i => (i.zero, i.size, i.bytes)) = some (some (.agg #[.string ⟨#[]⟩, .int .i64 0, .int .u32 0]), 3, 32) := by kernel_rfl
theorem infoEl : (Tryz.prog.info? 71).map (fun i => (i.zero, i.size, i.bytes)) = some (some (.agg #[.slice none 0 0, .slice none 0 0]), 2, 48) := by kernel_rfl
theorem infoDa : (Tryz.prog.info? 47).map (fun i => (i.zero, i.size, i.bytes)) = some (some (.agg #[.slice none 0 0, .slice none 0 0]), 2, 48) := by kernel_rfl
theorem BoxAt.set {W : World} {g : Nat} {v : Array Value} (h : BoxAt W g v) (j : Nat) (hj : j < v.size) (u : Value) : BoxAt (W.setCell ⟨g, j, none⟩ u) g (v.setIfInBounds j u) := by
 intro i x hi
 by_cases e : i = j
 ·subst e
  rw [Array.getElem?_setIfInBounds_self_of_lt hj] at hi
  cases hi
  exact World.cell?_setCell_same _ _ _ (h i _ (Array.getElem?_eq_getElem hj))
 ·rw [Array.getElem?_setIfInBounds_ne (fun k => e k.symm)] at hi
  exact (World.cell?_setCell_other _ _ _ _ (fun k => e (by injection k with _ k2 _; exact k2.symm))).trans (h i x hi)
theorem BoxAt.belowB {W W' : World} {B g : Nat} {v : Array Value} (h : BoxAt W g v) (hb : Below B W W') (hg : g < B) : BoxAt W' g v := fun j x hj => (hb.cell (p := ⟨g, j, none⟩) hg).trans (h j x hj)
theorem BoxAt.setFar {W : World} {g : Nat} {v : Array Value} (h : BoxAt W g v) {p : Addr} (hp : p.block ≠ g) (u : Value) : BoxAt (W.setCell p u) g v := fun j x hj => (World.cell?_setCell_far W p ⟨g, j, none⟩ u hp).trans (h j x hj)
def zeroM : Array Value := #[.slice none 0 0, .slice none 0 0, .slice none 0 0, .slice none 0 0, .slice none 0 0, .slice none 0 0, .slice none 0 0, .bool false, .int .u32 0, .slice none 0 0, .slice none 0 0]
structure Cp (w : World) (mv o : Array Value) (W : World) : Prop where
 below : Below w.heap.size w W
 size : w.heap.size + 3 ≤ W.heap.size
 mod : BoxAt W w.heap.size mv
 res : BoxAt W (w.heap.size + 1) zeroM
 resf : ∀ j, W.frozen? ⟨w.heap.size + 1, j, none⟩ = false
 out : BoxAt W (w.heap.size + 2) o
 outf : ∀ j, W.frozen? ⟨w.heap.size + 2, j, none⟩ = false
theorem Cp.on {w : World} {mv o : Array Value} {W W' : World} (h : Cp w mv o W) (hb : Below (w.heap.size + 3) W W') : Cp w mv o W' :=
 ⟨h.below.trans (hb.mono (by omega)), Nat.le_trans h.size hb.size, h.mod.belowB hb (by omega), h.res.belowB hb (by omega), fun j => (hb.frozen (p := ⟨w.heap.size + 1, j, none⟩) (by simp)).trans (h.resf j), h.out.belowB hb (by omega), fun j => (hb.frozen (p := ⟨w.heap.size + 2, j, none⟩) (by simp)).trans (h.outf j)⟩
theorem Cp.go {w : World} {mv o : Array Value} {W W' : World} (h : Cp w mv o W) (hb : Below W.heap.size W W') : Cp w mv o W' := h.on (hb.mono h.size)
theorem Cp.set {w : World} {mv o : Array Value} {W : World} (h : Cp w mv o W) (j : Nat) (hj : j < o.size) (u : Value) : Cp w mv (o.setIfInBounds j u) (W.setCell ⟨w.heap.size + 2, j, none⟩ u) :=
 ⟨h.below.setCell (by simp) _, by simpa [World.setCell] using h.size, h.mod.setFar (by simp) _, h.res.setFar (by simp) _, fun j => by rw [World.frozen?_setCell]; exact h.resf j, h.out.set j hj u, fun j => by rw [World.frozen?_setCell]; exact h.outf j⟩
theorem Cp.start (w : World) (mv : Array Value) : Cp w mv mv (((w.alloc (.cells mv 32)).alloc (.cells zeroM 32)).alloc (.cells mv 32)) := by
 have h0 := (Below.refl w.heap.size w).alloc (Nat.le_refl _) (.cells mv 32)
 have a1 := BoxAt.made w mv 32
 have a2 := BoxAt.made (w.alloc (.cells mv 32)) zeroM 32
 have a3 := BoxAt.made ((w.alloc (.cells mv 32)).alloc (.cells zeroM 32)) mv 32
 have b1 := fun W o => (Below.refl (World.heap W).size W).alloc (Nat.le_refl _) o
 rw [World.size_alloc] at a2
 rw [World.size_alloc, World.size_alloc] at a3
 refine ⟨(h0.alloc (by simp) _).alloc (by simp; omega) _, by simp, (a1.keep (b1 _ _)).keep (b1 _ _), a2.keep (b1 _ _), fun j => ?_, a3, fun j => ?_⟩
 ·refine ((b1 ((w.alloc (.cells mv 32)).alloc (.cells zeroM 32)) (.cells mv 32)).frozen (p := ⟨w.heap.size + 1, j, none⟩) (by simp)).trans ?_
  have h := heap_alloc_new (w.alloc (.cells mv 32)) (.cells zeroM 32)
  rw [World.size_alloc] at h
  exact Soft.frozen ⟨_, _, h⟩ j
 ·have h := heap_alloc_new ((w.alloc (.cells mv 32)).alloc (.cells zeroM 32)) (.cells mv 32)
  rw [World.size_alloc, World.size_alloc] at h
  exact Soft.frozen (q := w.heap.size + 2) ⟨_, _, h⟩ j
section
variable {ops : Array Oper} {rest : List Oper} {o : Oper} {act : Act} {Q : Exit → Act → World → Prop}
theorem append_list {e ts : TypeId} {sz nb : Nat} {z : Value} (inf : (Tryz.prog.info? e).map (fun i => (i.zero, i.size, i.bytes)) = some (some z, sz, nb)) (hz : z.cells.size = sz) (h0 : 0 < sz) (hnb : nb ≤ 1000) (ut : Tryz.prog.underlying ts = some (.slice e))
  (hgd : o.guard = none) (s x : Operand) (ho : o.op = .call { callee := .builtin .append, args := #[s, x], argTypes := #[ts, ts] })
  {base : Nat} {wr : World} {v : Value} (hs : act.eval s = v) (hown : OwnR e sz base wr v []) (hbase : base ≤ wr.heap.size)
  (a2 : Option Addr) (n c : Nat) (hx : act.eval x = .slice a2 n c) (ys : List (List Value)) (hn : ys.length = n) (hy : Rows wr.heap.size wr a2 sz ys) (hlen : ∀ r ∈ ys, r.length = sz) (h1 : ∀ r ∈ ys, ∀ u ∈ r, u.oneCell' = true)
  (hl : ys.length ≤ 1000000000)
  (h : ∀ v' w', OwnR e sz base w' v' ys → Below base wr w' → base ≤ w'.heap.size → wpList Tryz.prog ops Q rest (act.put o.dst v') w') :
  wpList Tryz.prog ops Q (o :: rest) act wr := by
 obtain ⟨i0, hi, hz0, hz1, hz2⟩ := info_parts inf
 subst hn
 have hb0 := Below.refl base wr
 rcases hy with h2 | ⟨b, off, rfl, hlt, hc⟩
 ·subst h2
  cases a2 with
  | none => exact Body.append_none hgd s x ts ho base e i0 sz c ut hi v _ _ hs hown.row hx (h v wr hown hb0 hbase)
  | some ad =>
   refine append_rows inf hz h0 hnb ut hgd s x ho (xs := []) [] hs hown hb0 hbase ad 0 c rfl hx (by simp) (by simp) (by simp) (by simp) (fun v' w' h3 h4 h5 _ => h v' w' h3 h4 h5)
 ·refine append_rows inf hz h0 hnb ut hgd s x ho (xs := []) ys hs hown hb0 hbase ⟨b, off, none⟩ ys.length c rfl hx hlen (fun j u hj => ?_) h1 (by simpa using hl) (fun v' w' h3 h4 h5 _ => h v' w' h3 h4 h5)
  have hfl := flat_length ys hlen
  have hjl : j < ys.length * sz := by
   rcases Nat.lt_or_ge j (ys.length * sz) with h | h
   ·exact h
   ·rw [List.getElem?_eq_none (by omega)] at hj; cases hj
  have hq : j / sz < ys.length := (Nat.div_lt_iff_lt_mul h0).2 hjl
  have hr : j % sz < sz := Nat.mod_lt _ h0
  have hjj : j / sz * sz + j % sz = j := by rw [Nat.mul_comm]; exact Nat.div_add_mod j sz
  have hg := flat_get ys hlen (j / sz) (j % sz) hq hr
  rw [hjj, hj] at hg
  have := hc (j / sz) hq (j % sz) hr u hg.symm
  rw [Nat.add_assoc, hjj] at this
  have hplain : (⟨b, off, none⟩ : Addr).add j = ⟨b, off + j, none⟩ := by unfold Addr.add; split <;> simp_all
  rw [hplain]
  exact this
end
section
variable {α : Type}
theorem OwnR.madeG {W : World} (e : TypeId) (sz g : Nat) (hg : g = W.heap.size) : OwnR e sz g (W.alloc (.cells #[] e)) (.slice (some ⟨g, 0, none⟩) 0 0) [] := by
 subst hg; exact OwnR.made e sz W
theorem OwnR.alloc {e : TypeId} {sz base : Nat} {w : World} {v : Value} {rs : List (List Value)} (h : OwnR e sz base w v rs) (o : Obj) : OwnR e sz base (w.alloc o) v rs := h.below ((Below.refl _ _).alloc (Nat.le_refl _) o)
theorem Got.more {e : TypeId} {sz nb base n0 : Nat} {f : α → List Value} {p : α → Part} {W w' : World} {v : Value} {us : List α} (x0 : α) (hG : Got e sz base f p W v us) (hlen : (f x0).length = sz) (hlie : (p x0).lies W) (hlo : ∀ q ∈ (p x0).foot, n0 ≤ q) (hb : base ≤ n0) (hv : ∀ g, v.ownBlock = some g → g < n0) {g cap : Nat}
  (hown : w'.ownsRow base e sz (.slice (some ⟨g, 0, none⟩) (us.length + 1) cap) (us.length + 1) ((us.map f).flatten ++ f x0)) (hgrow : (W.alloc (.cells (f x0).toArray e)).grownBy w' v.ownBlock) (hat : v.ownBlock = some g ∨ g = W.heap.size + 1) :
  Got e sz base f p w' (.slice (some ⟨g, 0, none⟩) (us.length + 1) cap) (us ++ [x0]) := by
 have hb1 := (Below.refl W.heap.size W).alloc (Nat.le_refl _) (.cells (f x0).toArray e)
 have hG1 := hG.below hb1
 have hs1 : (W.alloc (.cells (f x0).toArray e)).heap.size = W.heap.size + 1 := by simp
 refine Got.snoc (n0 := n0) hG1 (Part.touch (S := fun _ => False) hlie (.of_below hb1) (fun _ _ h => h)) hlo (fun q hq => by have := foot_lt hlie q hq; omega) hb hv ⟨?_, ?_⟩ hgrow (fun q hq => ?_)
 ·rw [List.flatten_append, List.length_append, List.length_map]
  simpa using hown
 ·intro r hr
  rcases List.mem_append.1 hr with hr | hr
  ·exact hG.row.len r hr
  ·rw [List.mem_singleton] at hr; subst hr; exact hlen
 ·simp only [Value.ownBlock, Option.some.injEq] at hq
  subst hq
  rcases hat with h | h
  ·exact .inl h
  ·right; omega
theorem Got.len {e : TypeId} {sz base : Nat} {f : α → List Value} {p : α → Part} {W : World} {v : Value} {us : List α} (h : Got e sz base f p W v us) : ∃ a c, v = .slice a us.length c ∧ (a = none → c = 0) := by
 rcases h.row.row.2 with ⟨rfl, h0⟩ | ⟨g, cap, cur, rfl, _⟩
 ·exact ⟨none, 0, by simpa using h0.symm, fun _ => rfl⟩
 ·exact ⟨_, cap, by rw [List.length_map], fun h => by cases h⟩
end
section
variable {ops : Array Oper} {rest : List Oper} {o : Oper} {act : Act} {Q : Exit → Act → World → Prop} {α : Type}
theorem append_item {e ts : TypeId} {sz nb : Nat} {z : Value} (inf : (Tryz.prog.info? e).map (fun i => (i.zero, i.size, i.bytes)) = some (some z, sz, nb)) (hz : z.cells.size = sz) (h0 : 0 < sz) (hnb : nb ≤ 1000) (ut : Tryz.prog.underlying ts = some (.slice e))
  (hgd : o.guard = none) (s x : Operand) (ho : o.op = .call { callee := .builtin .append, args := #[s, x], argTypes := #[ts, ts] })
  {base n0 : Nat} {f : α → List Value} {p : α → Part} {W : World} {v : Value} {us : List α} (x0 : α) (hs : act.eval s = v) (hG : Got e sz base f p W v us) (hbase : base ≤ W.heap.size) (g0 : Nat) (hg0 : g0 = W.heap.size) (hx : act.eval x = .slice (some ⟨g0, 0, none⟩) 1 1)
  (hlen : (f x0).length = sz) (h1 : ∀ u ∈ f x0, u.oneCell' = true) (hl : us.length ≤ 1000000) (hlie : (p x0).lies W) (hlo : ∀ q ∈ (p x0).foot, n0 ≤ q) (hb : base ≤ n0) (hv : ∀ g, v.ownBlock = some g → g < n0)
  (h : ∀ g cap w', Got e sz base f p w' (.slice (some ⟨g, 0, none⟩) (us.length + 1) cap) (us ++ [x0]) → Below base W w' → wpList Tryz.prog ops Q rest (act.put o.dst (.slice (some ⟨g, 0, none⟩) (us.length + 1) cap)) w') :
  wpList Tryz.prog ops Q (o :: rest) act (W.alloc (.cells (f x0).toArray e)) := by
 obtain ⟨i0, hi, hz0, hz1, hz2⟩ := info_parts inf
 subst hg0
 have hb1 := (Below.refl W.heap.size W).alloc (Nat.le_refl _) (.cells (f x0).toArray e)
 have hr := hG.row.alloc (.cells (f x0).toArray e)
 refine wpList_append_lies _ hgd s x ts ho base e i0 z sz nb ut hi hz0 hz1 hz2 hz h0 v us.length (us.map f).flatten hs (by have := hr.row; rwa [List.length_map] at this) ⟨W.heap.size, 0, none⟩ 1 1 (f x0) hx (by rw [hlen, Nat.one_mul])
  (World.news_of_block (heap_alloc_new W _)) h1 (by omega) (by unfold maxLen; omega) ?_ (by simp; omega) (W.heap.size + 1) (by simp) (fun g cap w' h2 h3 h4 _ => h g cap w' (hG.more (nb := nb) x0 hlen hlie hlo hb hv h2 h3 h4) ?_)
 ·calc (us.length + 1) * nb ≤ 1000001 * 1000 := Nat.mul_le_mul (by omega) hnb
   _ ≤ _ := by omega
 ·exact ((hb1.mono hbase).grown h3 (by simp; omega) (fun k hk => (World.ownsRow.lt hr.row k hk).1))
theorem step_item {e ts : TypeId} {sz nb : Nat} {z : Value} {E : Prop} {K : Act → World → Prop} (inf : (Tryz.prog.info? e).map (fun i => (i.zero, i.size, i.bytes)) = some (some z, sz, nb)) (hz : z.cells.size = sz) (h0 : 0 < sz) (hnb : nb ≤ 1000) (ut : Tryz.prog.underlying ts = some (.slice e))
  (hgd : o.guard = none) (s x : Operand) (ho : o.op = .call { callee := .builtin .append, args := #[s, x], argTypes := #[ts, ts] })
  {base n0 : Nat} {f : α → List Value} {p : α → Part} {W : World} {v : Value} {us : List α} (x0 : α) (hs : act.eval s = v) (hG : Got e sz base f p W v us) (hbase : base ≤ W.heap.size) (g0 : Nat) (hg0 : g0 = W.heap.size) (hx : act.eval x = .slice (some ⟨g0, 0, none⟩) 1 1)
  (hlen : (f x0).length = sz) (h1 : ∀ u ∈ f x0, u.oneCell' = true) (hl : us.length ≤ 1000000) (hlie : (p x0).lies W) (hlo : ∀ q ∈ (p x0).foot, n0 ≤ q) (hb : base ≤ n0) (hv : ∀ g, v.ownBlock = some g → g < n0)
  (h : ∀ g cap w', Got e sz base f p w' (.slice (some ⟨g, 0, none⟩) (us.length + 1) cap) (us ++ [x0]) → Below base W w' → K (act.put o.dst (.slice (some ⟨g, 0, none⟩) (us.length + 1) cap)) w') :
  if Region.wanted o (yielded ops act.tmps) = true then Oper.wp Tryz.prog o act (W.alloc (.cells (f x0).toArray e)) K Q else E := by
 obtain ⟨i0, hi, hz0, hz1, hz2⟩ := info_parts inf
 subst hg0
 have hb1 := (Below.refl W.heap.size W).alloc (Nat.le_refl _) (.cells (f x0).toArray e)
 have hr := hG.row.alloc (.cells (f x0).toArray e)
 have hw : Region.wanted o (yielded ops act.tmps) = true := by simp [Region.wanted, hgd]
 rw [if_pos hw]
 refine wp_append_lies _ s x ts ho base e i0 z sz nb ut hi hz0 hz1 hz2 hz h0 v us.length (us.map f).flatten hs (by have := hr.row; rwa [List.length_map] at this) ⟨W.heap.size, 0, none⟩ 1 1 (f x0) hx (by rw [hlen, Nat.one_mul])
  (World.news_of_block (heap_alloc_new W _)) h1 (by omega) (by unfold maxLen; omega) ?_ (by simp; omega) (W.heap.size + 1) (by simp) (fun g cap w' h2 h3 h4 _ => h g cap w' (hG.more (nb := nb) x0 hlen hlie hlo hb hv h2 h3 h4) ?_)
 ·calc (us.length + 1) * nb ≤ 1000001 * 1000 := Nat.mul_le_mul (by omega) hnb
   _ ≤ _ := by omega
 ·exact ((hb1.mono hbase).grown h3 (by simp; omega) (fun k hk => (World.ownsRow.lt hr.row k hk).1))
end
end Go.Proofs.YtepbjkkakfpjgaaGreatDoor.Mod
namespace Go.Proofs.YtepbjkkakfpjgaaGreatDoor.Mod
open Go.RowKit Go.Proofs.YtepbjkkakfpjgaaGreatDoor.Instr
set_option linter.unusedVariables false
theorem Got.rows {α : Type} {e : TypeId} {sz base : Nat} {f : α → List Value} {p : α → Part} {W : World} {v : Value} {us : List α} (h : Got e sz base f p W v us) : ∃ a c, v = .slice a us.length c ∧ Rows W.heap.size W a sz (us.map f) := by
 obtain ⟨a, c, hv, hr, _⟩ := h.row.rows
 rw [List.length_map] at hv
 exact ⟨a, c, hv, hr⟩
theorem OwnR.rowsN {α : Type} {e : TypeId} {sz base : Nat} {f : α → List Value} {W : World} {v : Value} {us : List α} (h : OwnR e sz base W v (us.map f)) : ∃ a c, v = .slice a us.length c ∧ Rows W.heap.size W a sz (us.map f) := by
 obtain ⟨a, c, hv, hr, _⟩ := h.rows
 rw [List.length_map] at hv
 exact ⟨a, c, hv, hr⟩
theorem copy_md {m : Md} {W : World} {e1 e2 e3 e4 e5 e6 e7 e8 e9 : TypeId} {b1 b2 b3 b4 b5 b6 b7 b8 b9 : Nat} {v1 v2 v3 v4 v5 v6 v7 v8 v9 : Value} {fus : List Fn} {gls : List Gl} {els : List El} {das : List Da}
  (h1 : OwnR e1 2 b1 W v1 (m.ty.map tyV)) (h2 : OwnR e2 3 b2 W v2 (m.im.map Imp.v)) (h3 : Got e3 3 b3 Fn.v partF W v3 fus) (h4 : OwnR e4 3 b4 W v4 (m.tb.map Li.v)) (h5 : OwnR e5 3 b5 W v5 (m.me.map Li.v))
  (h6 : Got e6 2 b6 Gl.v partG W v6 gls) (h7 : OwnR e7 3 b7 W v7 (m.ex.map Ex.v)) (h8 : Got e8 2 b8 El.v partE W v8 els) (h9 : Got e9 2 b9 Da.v partD W v9 das)
  (q3 : fus.map Fn.bare = m.fu.map Fn.bare) (q6 : gls.map Gl.bare = m.gl.map Gl.bare) (q8 : els.map El.bare = m.el.map El.bare) (q9 : das.map Da.bare = m.da.map Da.bare) :
  ∃ m' : Md, m'.v = #[v1, v2, v3, v4, v5, v6, v7, .bool m.st, .int .u32 m.sn, v8, v9] ∧ ModAt W.heap.size W m' ∧ m'.bare = m.bare := by
 obtain ⟨a1, c1, rfl, r1⟩ := h1.rowsN
 obtain ⟨a2, c2, rfl, r2⟩ := h2.rowsN
 obtain ⟨a3, c3, rfl, r3⟩ := h3.rows
 obtain ⟨a4, c4, rfl, r4⟩ := h4.rowsN
 obtain ⟨a5, c5, rfl, r5⟩ := h5.rowsN
 obtain ⟨a6, c6, rfl, r6⟩ := h6.rows
 obtain ⟨a7, c7, rfl, r7⟩ := h7.rowsN
 obtain ⟨a8, c8, rfl, r8⟩ := h8.rows
 obtain ⟨a9, c9, rfl, r9⟩ := h9.rows
 refine ⟨⟨m.ty, m.im, fus, m.tb, m.me, gls, m.ex, m.st, m.sn, els, das, ⟨a1, c1⟩, ⟨a2, c2⟩, ⟨a3, c3⟩, ⟨a4, c4⟩, ⟨a5, c5⟩, ⟨a6, c6⟩, ⟨a7, c7⟩, ⟨a8, c8⟩, ⟨a9, c9⟩⟩, rfl, ⟨r1, r2, r3, r4, r5, r6, r7, r8, r9, fun l hl => ?_, fun e he => (h8.kids e he).2.1, fun d hd => (h9.kids d hd).2.2⟩, same_iff.2 ⟨rfl, rfl, q3, rfl, rfl, q6, rfl, rfl, rfl, q8, q9⟩⟩
 unfold Md.codes at hl
 rcases List.mem_append.1 hl with hl | hl
 ·obtain ⟨x, hx, rfl⟩ := List.mem_map.1 hl
  exact (h3.kids x hx).1
 ·rcases List.mem_append.1 hl with hl | hl
  ·obtain ⟨x, hx, rfl⟩ := List.mem_map.1 hl
   exact (h6.kids x hx).1
  ·rcases List.mem_append.1 hl with hl | hl
   ·obtain ⟨x, hx, rfl⟩ := List.mem_map.1 hl
    exact (h8.kids x hx).1
   ·obtain ⟨x, hx, rfl⟩ := List.mem_map.1 hl
    exact (h9.kids x hx).1
theorem map_snoc {α : Type} (f : α → α) {us l : List α} {k : Nat} {x : α} (h : us.map f = (l.take k).map f) (hk : k < l.length) (hx : f x = f l[k]) : (us ++ [x]).map f = (l.take (k + 1)).map f := by
 rw [List.take_succ_eq_append_getElem hk, List.map_append, List.map_append, h]
 simp [hx]
theorem OwnR.save {e : TypeId} {sz base k : Nat} {W W' : World} {v : Value} {rs : List (List Value)} (h : OwnR e sz base W v rs) (hs : Save k W W') (hk : k < base) : OwnR e sz base W' v rs :=
 h.touch (.of_save hs) (fun g hg e => by have := (World.ownsRow.lt h.row g hg).1; omega)
theorem OwnR.slc {α : Type} {e : TypeId} {sz base n : Nat} {f : α → List Value} {W : World} {v : Value} {us : List α} (h : OwnR e sz base W v (us.map f)) (hn : us.length = n) : ∃ a c, v = .slice a n c := by
 obtain ⟨a, c, rfl, _⟩ := h.rowsN
 exact ⟨a, c, by rw [hn]⟩
theorem Got.slc {α : Type} {e : TypeId} {sz base n : Nat} {f : α → List Value} {p : α → Part} {W : World} {v : Value} {us : List α} (h : Got e sz base f p W v us) (hn : us.length = n) : ∃ a c, v = .slice a n c := h.row.slc hn
theorem Save.thenB {k : Nat} {a b c : World} (h : Save k a b) (g : Below a.heap.size b c) : Save k a c :=
 ⟨g.os.trans h.os, g.tape.trans h.tape, g.output.trans h.output, Nat.le_trans h.size g.size, fun j hj hk => (g.block j hj).trans (h.block j hj hk)⟩
structure Five (m : Md) (B : Nat) (W : World) (v1 v2 v4 v5 v7 : Value) : Prop where
 ty : OwnR 50 2 B W v1 (m.ty.map tyV)
 im : OwnR 73 3 B W v2 (m.im.map Imp.v)
 tb : OwnR 60 3 B W v4 (m.tb.map Li.v)
 me : OwnR 60 3 B W v5 (m.me.map Li.v)
 ex : OwnR 75 3 B W v7 (m.ex.map Ex.v)
theorem Five.save {m : Md} {B k : Nat} {W W' : World} {v1 v2 v4 v5 v7 : Value} (h : Five m B W v1 v2 v4 v5 v7) (hs : Save k W W') (hk : k < B) : Five m B W' v1 v2 v4 v5 v7 :=
 ⟨h.ty.save hs hk, h.im.save hs hk, h.tb.save hs hk, h.me.save hs hk, h.ex.save hs hk⟩
end Go.Proofs.YtepbjkkakfpjgaaGreatDoor.Mod
namespace Go.Proofs.YtepbjkkakfpjgaaGreatDoor.Mod
open Go.RowKit Go.Proofs.YtepbjkkakfpjgaaGreatDoor.Instr
set_option linter.unusedVariables false
theorem held_mk3 {k : Nat} {V W : World} {p0 p1 p2 : Addr} {v0 v1 v2 : Value} (h0 : V.cell? p0 = some v0) (h1 : V.cell? p1 = some v1) (h2 : V.cell? p2 = some v2) (n0 : p0.block ≠ k) (n1 : p1.block ≠ k) (n2 : p2.block ≠ k) (h : Save k V W) :
  Save k V W ∧ W.cell? p0 = some v0 ∧ W.cell? p1 = some v1 ∧ W.cell? p2 = some v2 := ⟨h, h.cell n0 h0, h.cell n1 h1, h.cell n2 h2⟩
theorem held_ms {A B C D : Prop} {p : Addr} {v : Value} {W X : World} (h : A ∧ B ∧ C ∧ D) (e : X.cell? p = W.cell? p) (hv : W.cell? p = some v) : A ∧ B ∧ C ∧ D ∧ X.cell? p = some v := ⟨h.1, h.2.1, h.2.2.1, h.2.2.2, e.trans hv⟩
def GotN (W : World) (xl : Il) (e : Ending) (w' : World) : Prop :=
 ∃ (a : Option Addr) (c : Nat) (u : Il), e = .returned (.slice a u.len c) ∧ Below W.heap.size W w' ∧ ListAt w'.heap.size w' a u.len u ∧ (∀ q ∈ blkOf u.len a ++ u.foot, W.heap.size ≤ q) ∧ u.bare = xl.bare
theorem copy_n {k : Nat} {w V : World} {xl : Il} {xa : Option Addr} {xn xc : Nat} (hl : ListAt w.heap.size w xa xn xl) (hw : xl.weight ≤ 5000) (hV : Below w.heap.size w V) (hk : w.heap.size ≤ k) (W : World) (hs : Save k V W) :
  Calls Tryz.prog 38 #[.slice xa xn xc] W (GotN W xl) := by
 refine (Body.copy_any 5000 xl xa xn xc W hw (by omega) (hl.on (hV.trans (hs.below hV.size hk)))).mono ?_
 rintro e w' ⟨a, c, u, rfl, h1, h2, h3, h4⟩
 have := h2.1
 subst this
 exact ⟨a, c, u, rfl, h1, h2, h3, h4⟩
section
variable {ops : Array Oper} {rest : List Oper} {o : Oper} {act : Act} {Q : Exit → Act → World → Prop}
theorem step_none {E : Prop} {K : Act → World → Prop} (hgd : o.guard = none) (s x : Operand) (t : TypeId) (ho : o.op = .call { callee := .builtin .append, args := #[s, x], argTypes := #[t, t] })
  {w : World} (base : Nat) (e : TypeId) (i : TypeInfo) (size c : Nat) (ht : Tryz.prog.underlying t = some (.slice e)) (hi : Tryz.prog.info? e = some i)
  (v : Value) (n : Nat) (xs : List Value) (hs : act.eval s = v) (hown : w.ownsRow base e size v n xs) (hx : act.eval x = .slice none 0 c)
  (h : K (act.put o.dst v) w) : if Region.wanted o (yielded ops act.tmps) = true then Oper.wp Tryz.prog o act w K Q else E := by
 have hw : Region.wanted o (yielded ops act.tmps) = true := by simp [Region.wanted, hgd]
 rw [if_pos hw]
 have hrun := Body.run_append_none w base t o.type e i size c ht hi v n xs hown
 unfold Oper.wp
 simp [execOp, ho, resolve, invoke, builtin, hs, hx, hrun, Result.andThen]
 exact h
theorem step_list {e ts : TypeId} {sz nb : Nat} {z : Value} {E : Prop} {K : Act → World → Prop} (inf : (Tryz.prog.info? e).map (fun i => (i.zero, i.size, i.bytes)) = some (some z, sz, nb)) (hz : z.cells.size = sz) (h0 : 0 < sz) (hnb : nb ≤ 1000) (ut : Tryz.prog.underlying ts = some (.slice e))
  (hgd : o.guard = none) (s x : Operand) (ho : o.op = .call { callee := .builtin .append, args := #[s, x], argTypes := #[ts, ts] })
  {base : Nat} {wr : World} {v : Value} (hs : act.eval s = v) (hown : OwnR e sz base wr v []) (hbase : base ≤ wr.heap.size)
  (a2 : Option Addr) (n c : Nat) (hx : act.eval x = .slice a2 n c) (ys : List (List Value)) (hn : ys.length = n) (hy : Rows wr.heap.size wr a2 sz ys) (hlen : ∀ r ∈ ys, r.length = sz) (h1 : ∀ r ∈ ys, ∀ u ∈ r, u.oneCell' = true)
  (hl : ys.length ≤ 1000000000)
  (h : ∀ v' w', OwnR e sz base w' v' ys → Touch (fun j => v.ownBlock = some j) wr w' → K (act.put o.dst v') w') :
  if Region.wanted o (yielded ops act.tmps) = true then Oper.wp Tryz.prog o act wr K Q else E := by
 obtain ⟨i0, hi, hz0, hz1, hz2⟩ := info_parts inf
 subst hn
 have hb0 := Below.refl base wr
 rcases hy with h2 | ⟨b, off, rfl, hlt, hc⟩
 ·subst h2
  cases a2 with
  | none => exact step_none hgd s x ts ho base e i0 sz c ut hi v _ _ hs hown.row hx (h v wr hown (Touch.refl _ _))
  | some ad =>
   refine step_rows inf hz h0 hnb ut hgd s x ho (xs := []) [] hs hown hb0 hbase ad 0 c rfl hx (by simp) (by simp) (by simp) (by simp) (fun v' w' h3 h4 h5 h6 => h v' w' h3 (Touch.of_grown h6))
 ·refine step_rows inf hz h0 hnb ut hgd s x ho (xs := []) ys hs hown hb0 hbase ⟨b, off, none⟩ ys.length c rfl hx hlen (fun j u hj => ?_) h1 (by simpa using hl) (fun v' w' h3 h4 h5 h6 => h v' w' h3 (Touch.of_grown h6))
  have hfl := flat_length ys hlen
  have hjl : j < ys.length * sz := by
   rcases Nat.lt_or_ge j (ys.length * sz) with h | h
   ·exact h
   ·rw [List.getElem?_eq_none (by omega)] at hj; cases hj
  have hq : j / sz < ys.length := (Nat.div_lt_iff_lt_mul h0).2 hjl
  have hr : j % sz < sz := Nat.mod_lt _ h0
  have hjj : j / sz * sz + j % sz = j := by rw [Nat.mul_comm]; exact Nat.div_add_mod j sz
  have hg := flat_get ys hlen (j / sz) (j % sz) hq hr
  rw [hjj, hj] at hg
  have := hc (j / sz) hq (j % sz) hr u hg.symm
  rw [Nat.add_assoc, hjj] at this
  have hplain : (⟨b, off, none⟩ : Addr).add j = ⟨b, off + j, none⟩ := by unfold Addr.add; split <;> simp_all
  rw [hplain]
  exact this
end
def oneI (z : Int) : List Value := [.int .u32 z]
def oneB (z : Int) : List Value := [.int .u8 z]
theorem oneI_one : ∀ x, ∀ u ∈ oneI x, u.oneCell' = true := by intro x u hu; simp only [oneI, List.mem_cons, List.not_mem_nil, or_false] at hu; subst hu; rfl
theorem oneB_one : ∀ x, ∀ u ∈ oneB x, u.oneCell' = true := by intro x u hu; simp only [oneB, List.mem_cons, List.not_mem_nil, or_false] at hu; subst hu; rfl
theorem infoI32 : (Tryz.prog.info? 28).map (fun i => (i.zero, i.size, i.bytes)) = some (some (.int .u32 0), 1, 4) := by kernel_rfl
theorem infoB8 : (Tryz.prog.info? 5).map (fun i => (i.zero, i.size, i.bytes)) = some (some (.int .u8 0), 1, 1) := by kernel_rfl
theorem rows_of_tags {n₀ : Nat} {w : World} {a : Option Addr} {zs : List Int} (h : TagsAt n₀ w a zs) : Rows n₀ w a 1 (zs.map oneI) := by
 rcases h with h | ⟨b, off, ha, hl, hc⟩
 ·exact .inl (by rw [h]; rfl)
 ·refine .inr ⟨b, off, ha, hl, fun i hi j hj v hv => ?_⟩
  have hi' : i < zs.length := by simpa using hi
  obtain rfl : j = 0 := by omega
  have := hc i hi'
  rw [List.getD_eq_getElem?_getD, List.getElem?_map, List.getElem?_eq_getElem hi'] at hv
  simp only [oneI, Option.map_some, Option.getD_some, List.getElem?_cons_zero, Option.some.injEq] at hv
  subst hv
  rw [List.getD_eq_getElem?_getD, List.getElem?_eq_getElem hi'] at this
  simpa using this
theorem rows_of_bytes {n₀ : Nat} {w : World} {a : Option Addr} {zs : List Int} (h : BytesAt n₀ w a zs) : Rows n₀ w a 1 (zs.map oneB) := by
 rcases h with h | ⟨b, off, ha, hl, hc⟩
 ·exact .inl (by rw [h]; rfl)
 ·refine .inr ⟨b, off, ha, hl, fun i hi j hj v hv => ?_⟩
  have hi' : i < zs.length := by simpa using hi
  obtain rfl : j = 0 := by omega
  have := hc i hi'
  rw [List.getD_eq_getElem?_getD, List.getElem?_map, List.getElem?_eq_getElem hi'] at hv
  simp only [oneB, Option.map_some, Option.getD_some, List.getElem?_cons_zero, Option.some.injEq] at hv
  subst hv
  rw [List.getD_eq_getElem?_getD, List.getElem?_eq_getElem hi'] at this
  simpa using this
theorem tags_of_rows {n₀ : Nat} {w : World} {a : Option Addr} {zs : List Int} (h : Rows n₀ w a 1 (zs.map oneI)) : TagsAt n₀ w a zs := by
 rcases h with h | ⟨b, off, ha, hl, hc⟩
 ·exact .inl (by simpa using h)
 ·refine .inr ⟨b, off, ha, hl, fun i hi => ?_⟩
  have := hc i (by simpa using hi) 0 (by omega) (.int .u32 (zs.getD i 0)) (by rw [List.getD_eq_getElem?_getD, List.getElem?_map, List.getElem?_eq_getElem hi]; simp [oneI, List.getD_eq_getElem?_getD, List.getElem?_eq_getElem hi])
  simpa using this
theorem bytes_of_rows {n₀ : Nat} {w : World} {a : Option Addr} {zs : List Int} (h : Rows n₀ w a 1 (zs.map oneB)) : BytesAt n₀ w a zs := by
 rcases h with h | ⟨b, off, ha, hl, hc⟩
 ·exact .inl (by simpa using h)
 ·refine .inr ⟨b, off, ha, hl, fun i hi => ?_⟩
  have := hc i (by simpa using hi) 0 (by omega) (.int .u8 (zs.getD i 0)) (by rw [List.getD_eq_getElem?_getD, List.getElem?_map, List.getElem?_eq_getElem hi]; simp [oneB, List.getD_eq_getElem?_getD, List.getElem?_eq_getElem hi])
  simpa using this
theorem own_list {e : TypeId} {sz base : Nat} {W : World} {v : Value} {zs : List Int} {f : Int → List Value} (h : OwnR e sz base W v (zs.map f)) : ∃ a c, v = .slice a zs.length c ∧ Rows W.heap.size W a sz (zs.map f) ∧ ∀ q ∈ blkOf zs.length a, base ≤ q := by
 obtain ⟨a, c, hv, hr, hl⟩ := h.rows
 rw [List.length_map] at hv
 refine ⟨a, c, hv, hr, fun q hq => ?_⟩
 unfold blkOf at hq
 split at hq
 ·simp at hq
 ·rename_i hne
  cases a with
  | none => simp at hq
  | some ad =>
   simp only [List.mem_singleton] at hq
   subst hq
   exact hl _ (by rw [hv]; rfl)
theorem part_own {w8 W : World} {a8 : Option Addr} {u8 : Il} (hl8 : ListAt w8.heap.size w8 a8 u8.len u8) {S : Nat → Prop} (ht : Touch S w8 W) (hne : ∀ q ∈ blkOf u8.len a8 ++ u8.foot, ¬ S q) : ListAt W.heap.size W a8 u8.len u8 := (hl8.touch ht hne).more ht.size
theorem foot_G {mu : Bool} {a8 : Option Addr} {c8 : Nat} {u8 : Il} {n0 : Nat} (h : ∀ q ∈ blkOf u8.len a8 ++ u8.foot, n0 ≤ q) : ∀ q ∈ (partG ⟨mu, ⟨a8, c8, u8⟩⟩).foot, n0 ≤ q := fun q hq => by
 have h2 : q ∈ (blkOf u8.len a8 ++ u8.foot) ++ ([] ++ []) := hq
 simp only [List.append_nil] at h2
 exact h q h2
theorem foot_E {fs : List Int} {fa : Option Addr} {fc : Nat} {a8 : Option Addr} {c8 : Nat} {u8 : Il} {n0 : Nat} (h : ∀ q ∈ blkOf u8.len a8 ++ u8.foot, n0 ≤ q) (h2 : ∀ q ∈ blkOf fs.length fa, n0 ≤ q) : ∀ q ∈ (partE ⟨⟨a8, c8, u8⟩, fa, fc, fs⟩).foot, n0 ≤ q := fun q hq => by
 have h3 : q ∈ (blkOf u8.len a8 ++ u8.foot) ++ (blkOf fs.length fa ++ []) := hq
 rw [List.append_nil] at h3
 rcases List.mem_append.1 h3 with h4 | h4
 ·exact h q h4
 ·exact h2 q h4
theorem foot_D {fs : List Int} {fa : Option Addr} {fc : Nat} {a8 : Option Addr} {c8 : Nat} {u8 : Il} {n0 : Nat} (h : ∀ q ∈ blkOf u8.len a8 ++ u8.foot, n0 ≤ q) (h2 : ∀ q ∈ blkOf fs.length fa, n0 ≤ q) : ∀ q ∈ (partD ⟨⟨a8, c8, u8⟩, fa, fc, fs⟩).foot, n0 ≤ q := fun q hq => by
 have h3 : q ∈ (blkOf u8.len a8 ++ u8.foot) ++ ([] ++ blkOf fs.length fa) := hq
 rw [List.nil_append] at h3
 rcases List.mem_append.1 h3 with h4 | h4
 ·exact h q h4
 ·exact h2 q h4
theorem box_stored {V : World} {g : Nat} (h : BoxAt V g zeroM) (v0 v1 v2 v3 v4 v5 v6 v7 v8 v9 v10 : Value) : BoxAt (((((((((((V.setCell ⟨g, 0, none⟩ v0).setCell ⟨g, 1, none⟩ v1).setCell ⟨g, 2, none⟩ v2).setCell ⟨g, 3, none⟩ v3).setCell ⟨g, 4, none⟩ v4).setCell ⟨g, 5, none⟩ v5).setCell ⟨g, 6, none⟩ v6).setCell ⟨g, 7, none⟩ v7).setCell ⟨g, 8, none⟩ v8).setCell ⟨g, 9, none⟩ v9).setCell ⟨g, 10, none⟩ v10) g #[v0, v1, v2, v3, v4, v5, v6, v7, v8, v9, v10] := by
 have h2 := (((((((((((h.set 0 (by simp [zeroM]) v0).set 1 (by simp [zeroM]) v1).set 2 (by simp [zeroM]) v2).set 3 (by simp [zeroM]) v3).set 4 (by simp [zeroM]) v4).set 5 (by simp [zeroM]) v5).set 6 (by simp [zeroM]) v6).set 7 (by simp [zeroM]) v7).set 8 (by simp [zeroM]) v8).set 9 (by simp [zeroM]) v9).set 10 (by simp [zeroM]) v10)
 unfold zeroM at h2
 simpa only [List.setIfInBounds_toArray, List.set_cons_zero, List.set_cons_succ] using h2
end Go.Proofs.YtepbjkkakfpjgaaGreatDoor.Mod
