import Derived.Test.YtepbjkkakfpjgaaGreatDoorEt20
import Derived.Test.YtepbjkkakfpjgaaGreatDoorEt08
import Derived.Test.YtepbjkkakfpjgaaGreatDoorEt14
import Derived.Test.YtepbjkkakfpjgaaGreatDoorEt16
import Derived.Test.YtepbjkkakfpjgaaGreatDoorEt06
import Derived.Test.YtepbjkkakfpjgaaGreatDoorEt05
import Derived.Test.YtepbjkkakfpjgaaGreatDoorEt04
import Derived.Test.YtepbjkkakfpjgaaGreatDoorEt01
import Derived.Test.YtepbjkkakfpjgaaGreatDoorEt18
import Derived.KernelRfl
import Derived.Deep.RegionHeld3
import Derived.RegionTactic
import Derived.BigRegion
import Derived.BigQuiet
namespace Go.Proofs.YtepbjkkakfpjgaaGreatDoor.Enc
open Go.RowKit Go.Shelf Leb Go.Proofs.YtepbjkkakfpjgaaGreatDoor.Instr Go.Proofs.YtepbjkkakfpjgaaGreatDoor.Mod
open Go.Proofs.YtepbjkkakfpjgaaGreatDoor.Body (encL codeL PutP)
def noneM : Md where
 ty := []
 im := []
 fu := []
 tb := []
 me := []
 gl := []
 ex := []
 st := false
 sn := 0
 el := []
 da := []
 ty' := ⟨none, 0⟩
 im' := ⟨none, 0⟩
 fu' := ⟨none, 0⟩
 tb' := ⟨none, 0⟩
 me' := ⟨none, 0⟩
 gl' := ⟨none, 0⟩
 ex' := ⟨none, 0⟩
 el' := ⟨none, 0⟩
 da' := ⟨none, 0⟩
theorem noneM_few : noneM.few := ⟨⟨by simp [noneM], by simp [noneM], by simp [noneM], by simp [noneM], by simp [noneM], by simp [noneM], by simp [noneM], by simp [noneM], by simp [noneM], by simp [noneM, Md.codes], by simp [noneM], by simp [noneM], by simp [noneM], by simp [noneM]⟩, by simp [noneM, Md.codes], by simp [noneM]⟩
theorem noneM_at (w : World) : ModAt w.heap.size w noneM := ⟨.inl rfl, .inl rfl, .inl rfl, .inl rfl, .inl rfl, .inl rfl, .inl rfl, .inl rfl, .inl rfl, by simp [noneM, Md.codes], by simp [noneM], by simp [noneM]⟩
theorem noneM_ready (w : World) (hT : Nams w) (hU : Utf.Tabs w) : Ready w noneM := ⟨hT, hU, noneM_at w, noneM_few, ⟨by simp [noneM], by simp [noneM], by simp [noneM], by simp [noneM], by simp [noneM]⟩, by simp [noneM, Md.codes]⟩
theorem fit_nil {α : Type} (f : α → List Int) (most : Int) : FitP f [] most := by
 unfold FitP
 rw [List.flatMap_nil, List.append_nil, encU_length]
 have := (sizeU_pos (([] : List α).length : Int)).2
 omega
theorem fit_small {α : Type} (f : α → List Int) (l : List α) (most : Int) (_hm : ((encU l.length ++ l.flatMap f).length : Int) ≤ most) (h : (encU l.length ++ l.flatMap f).length ≤ 1000000000) : FitP f l most := h
theorem noneM_fit (most : Int) : FitAll noneM most := ⟨fit_nil _ _, fit_nil _ _, fit_nil _ _, fit_nil _ _, fit_nil _ _, fit_nil _ _, fit_nil _ _, fit_nil _ _, fit_nil _ _, fit_nil _ _⟩
theorem noneM_mod : modR noneM = (headB, 0) := by kernel_rfl
theorem mod_none (w : World) (hT : Nams w) (hU : Utf.Tabs w) :
  Calls Tryz.prog 10 #[.agg #[.slice none 0 0, .slice none 0 0, .slice none 0 0, .slice none 0 0, .slice none 0 0, .slice none 0 0, .slice none 0 0, .bool false, .int .u32 0, .slice none 0 0, .slice none 0 0]] w (ModP w headB 0) := by
 have := Module_any noneM w (noneM_ready w hT hU) (fun _ => noneM_fit _)
 rw [noneM_mod] at this
 exact this
def memsM (b : Nat) (l : List Li) : Md := { noneM with me := l, me' := ⟨some ⟨b, 0, none⟩, l.length⟩ }
theorem memsM_ready (b : Nat) (l : List Li) (w : World) (hT : Nams w) (hU : Utf.Tabs w) (hr : Mod.Rows w.heap.size w (some ⟨b, 0, none⟩) 3 (l.map Li.v)) (hl : l.length ≤ 1000) (h0 : ∀ x ∈ l, 0 ≤ x.n) : Ready w (memsM b l) := by
 have A := noneM_at w
 have F := noneM_few
 refine ⟨hT, hU, ⟨A.ty, A.im, A.fu, A.tb, hr, A.gl, A.ex, A.el, A.da, A.ls, A.fs, A.bs⟩, ⟨⟨F.fit.ty, F.fit.im, F.fit.fu, F.fit.tb, by simp [memsM]; omega, F.fit.gl, F.fit.ex, F.fit.el, F.fit.da, F.fit.ls, F.fit.fs, F.fit.bs, F.fit.iS, F.fit.eS⟩, F.cs, by simp [memsM, noneM]; omega⟩, ⟨?_, by simp [memsM, noneM], by simp [memsM, noneM], by simp [memsM, noneM], by simp [memsM, noneM]⟩, by simp [memsM, noneM, Md.codes]⟩
 intro x hx
 have : x ∈ l := by simpa [memsM, noneM] using hx
 exact h0 x this
theorem rows_one (w : World) (b : Nat) (x : Li) (h : BoxAt w b #[.int .u32 x.n, .int .u32 x.x, .bool x.c]) : Mod.Rows w.heap.size w (some ⟨b, 0, none⟩) 3 ([x].map Li.v) := by
 have hb := World.block_lt_of_cell? w _ (h 0 _ rfl)
 refine .inr ⟨b, 0, rfl, hb, fun i hi j hj v hv => ?_⟩
 have hi' : i = 0 := by simpa using hi
 subst hi'
 have hj' : j = 0 ∨ j = 1 ∨ j = 2 := by omega
 rcases hj' with rfl | rfl | rfl <;> simp [Li.v] at hv <;> subst hv
 ·exact h 0 _ rfl
 ·exact h 1 _ rfl
 ·exact h 2 _ rfl
def oneMem : List Int := [0, 97, 115, 109, 1, 0, 0, 0, 5, 4, 1, 1, 1, 2]
theorem oneMem_mod (b : Nat) : modR (memsM b [⟨1, 2, true⟩]) = (oneMem, 0) := by kernel_rfl
theorem oneMem_fit (b : Nat) : FitAll (memsM b [⟨1, 2, true⟩]) 1048576 := ⟨fit_nil _ _, fit_nil _ _, fit_nil _ _, fit_nil _ _, fit_small meB [⟨1, 2, true⟩] _ (by decide +kernel) (by decide +kernel), fit_nil _ _, fit_nil _ _, fit_nil _ _, fit_nil _ _, fit_nil _ _⟩
theorem mod_mem (b : Nat) (w : World) (hT : Nams w) (hU : Utf.Tabs w) (h : BoxAt w b #[.int .u32 1, .int .u32 2, .bool true]) :
  Calls Tryz.prog 10 #[.agg #[.slice none 0 0, .slice none 0 0, .slice none 0 0, .slice none 0 0, .slice (some ⟨b, 0, none⟩) 1 1, .slice none 0 0, .slice none 0 0, .bool false, .int .u32 0, .slice none 0 0, .slice none 0 0]] w (ModP w oneMem 0) := by
 have := Module_any (memsM b [⟨1, 2, true⟩]) w (memsM_ready b _ w hT hU (rows_one w b ⟨1, 2, true⟩ h) (by simp) (by simp)) (fun _ => oneMem_fit b)
 rw [oneMem_mod] at this
 exact this
set_option maxHeartbeats 1000000 in
theorem first_any (w : World) : Calls Tryz.prog 31 #[] w fun e w' => e = .returned (.slice (some ⟨w.heap.size, 0, none⟩) 8 8) ∧ Own w.heap.size w' (.slice (some ⟨w.heap.size, 0, none⟩) 8 8) headB ∧ Below w.heap.size w w' := by
 go_enter Tryz.func31, Tryz.ntmps31
 go_wp2
 go_ret
 exact ⟨rfl, World.ownsRow_lit (base := w.heap.size) (e := 5) (size := 1) w #[.int .u8 0, .int .u8 97, .int .u8 115, .int .u8 109, .int .u8 1, .int .u8 0, .int .u8 0, .int .u8 0] 8 (Nat.le_refl _) (by decide) rfl, (Below.refl _ _).alloc (Nat.le_refl _) _⟩
section
variable {ops : Array Oper} {rest : List Oper} {o : Oper} {act : Act} {Q : Exit → Act → World → Prop}
theorem bytes_wanted (hw : Region.wanted o (yielded ops act.tmps) = true) (s x : Operand) (ho : o.op = .call { callee := .builtin .append, args := #[s, x], argTypes := #[35, 35] })
  {base : Nat} {w0 wr : World} {v : Value} {xs ys : List Int} (hs : act.eval s = v) (hown : Own base wr v xs) (hb : Below base w0 wr) (hbase : base ≤ wr.heap.size)
  (ad : Addr) (n c : Nat) (hx : act.eval x = .slice (some ad) n c) (hn : ys.length = n) (hy : Bytes wr (some ad) ys) (hl : xs.length + ys.length ≤ 140737488351232)
  (h : ∀ v' w', Own base w' v' (xs ++ ys) → Below base w0 w' → base ≤ w'.heap.size → wpList Tryz.prog ops Q rest (act.put o.dst v') w') :
  wpList Tryz.prog ops Q (o :: rest) act wr := by
 obtain ⟨i0, hi, hz0, hz1, hz2⟩ := info_parts infoByte
 subst hn
 refine BigFrame.wpList_want hw fun K hK => ?_
 refine wp_append_own _ s x 35 ho base 5 i0 (.int .u8 0) 1 1 Tryz.underlying35 hi hz0 hz1 hz2 rfl (by decide) v xs.length _ hs hown ad ys.length c (ys.map (Value.int .u8)) hx (by simp)
  (fun j u hj => ?_) (fun u hu => by obtain ⟨n, _, rfl⟩ := List.mem_map.1 hu; rfl) (by unfold maxLen; omega) (by omega) hbase (fun v' w' hown' hgrow _ => hK _ _ (h v' w' ?_ (hb.grown hgrow hbase (fun k hk => (World.ownsRow.lt hown k hk).1)) (by have := hgrow.size; omega)))
 ·have hjl : j < ys.length := by
   rcases Nat.lt_or_ge j ys.length with h | h
   ·exact h
   ·rw [List.getElem?_eq_none (by simpa using h)] at hj; cases hj
  obtain ⟨b, off, he, hc⟩ := hy.at (by omega)
  obtain rfl := Option.some.inj he
  have hplain : (⟨b, off, none⟩ : Addr).add j = ⟨b, off + j, none⟩ := by unfold Addr.add; split <;> simp_all
  rw [hplain, hc j hjl]
  rw [← hj, getD_lt hjl]; simp [hjl]
 ·unfold Own; rw [List.length_append, List.map_append]; exact hown'
end
theorem headB_bytes : ∀ z ∈ headB, 0 ≤ z ∧ z < 256 := by intro z hz; unfold headB at hz; simp at hz; omega
set_option maxRecDepth 100000 in
set_option maxHeartbeats 4000000 in
theorem awake8 (w : World) (hT : Nams w) (hU : Utf.Tabs w) : Calls Tryz.prog 8 #[] w fun e w' => e = .returned (.bool true) ∧ Below w.heap.size w w' := by
 have HT := hid hT
 have HU := hid hU
 have C := hid (mod_none w hT hU)
 clear hT hU
 go_enter Tryz.func8, Tryz.ntmps8
 go_wp2_with fail
 refine C.out.mono ?_
 rintro e w1 ⟨a1, n1, c1, rfl, hn1, hy1, _, hb1⟩
 have HY1 := hid hy1
 have HN1 := hid hn1
 have HB1 := hid hb1
 clear C hn1 hy1 hb1
 have hb2 := (Below.refl w1.heap.size w1).alloc (Nat.le_refl _) (.cells #[.int .u32 1, .int .u32 2, .bool true] 60)
 have HB2 := hid (thenB HB1.out hb2)
 have HY2 := hid (HY1.out.below hb2)
 have C := hid (mod_mem w1.heap.size _ (HT.out.below HB2.out) (HU.out.below HB2.out) (BoxAt.made w1 #[.int .u32 1, .int .u32 2, .bool true] 60))
 clear hb2 HB1 HY1
 go_wp2_with fail
 refine C.out.mono ?_
 rintro e w2 ⟨a2, n2, c2, rfl, hn2, hy2, _, hb3⟩
 have HZ2 := hid hy2
 have HN2 := hid hn2
 have HB3 := hid (thenB HB2.out hb3)
 have HY3 := hid (HY2.out.below hb3)
 clear C hn2 hy2 hb3 HB2 HY2
 have C := hid (first_any w2)
 go_wp2_with fail
 refine C.out.mono ?_
 rintro e w3 ⟨rfl, ho3, hb4⟩
 have HB4 := hid (thenB HB3.out hb4)
 have HY4 := hid (HY3.out.below hb4)
 have HZ4 := hid (HZ2.out.below hb4)
 have C2 := hid (SameBytes_any a1 _ n1 c1 8 8 headB headB w3 HN1.out rfl HY4.out (ho3.bytes headB_bytes (by decide)))
 clear C ho3 hb4 HB3 HY3 HZ2
 go_wp2_with fail
 refine C2.out.mono ?_
 rintro e w4 ⟨rfl, rfl⟩
 clear C2
 have C := hid (first_any w3)
 go_wp2_with fail
 refine C.out.mono ?_
 rintro e w5 ⟨rfl, ho5, hb5⟩
 have HB5 := hid (thenB HB4.out hb5)
 have hb6 := (Below.refl w5.heap.size w5).alloc (Nat.le_refl _) (.cells #[.int .u8 5, .int .u8 4, .int .u8 1, .int .u8 1, .int .u8 1, .int .u8 2] 5)
 have HO6 := hid (ho5.alloc (.cells #[.int .u8 5, .int .u8 4, .int .u8 1, .int .u8 1, .int .u8 1, .int .u8 2] 5))
 have HS6 := hid (show w3.heap.size ≤ (w5.alloc (.cells #[.int .u8 5, .int .u8 4, .int .u8 1, .int .u8 1, .int .u8 1, .int .u8 2] 5)).heap.size by have := hb5.size; simp; omega)
 have HR6 := hid (hb5.trans (hb6.mono hb5.size))
 have HL6 := hid (show Bytes (w5.alloc (.cells #[.int .u8 5, .int .u8 4, .int .u8 1, .int .u8 1, .int .u8 1, .int .u8 2] 5)) (some ⟨w5.heap.size, 0, none⟩) [5, 4, 1, 1, 1, 2] from ⟨by intro z hz; simp at hz; omega, by simp, .inr ⟨_, 0, rfl, fun i hi => by
   have hi6 : i < 6 := hi
   match i, hi6 with
   | 0, _ | 1, _ | 2, _ | 3, _ | 4, _ | 5, _ => simp [go_sem]⟩⟩)
 clear C ho5 hb5 hb6 HY4
 have C2 := hid (fun (a7 : Option Addr) (c7 : Nat) (w7 : World) (h1 : Own w3.heap.size w7 (.slice a7 14 c7) oneMem) (h2 : Below w3.heap.size w3 w7) => SameBytes_any a2 a7 n2 c2 14 c7 oneMem oneMem w7 HN2.out rfl (HZ4.out.below h2) (h1.bytes (by intro z hz; unfold oneMem at hz; simp at hz; omega) (by decide)))
 clear HZ4
 go_wp2_with (first
   | (at_builtin; refine bytes_wanted (ys := [5, 4, 1, 1, 1, 2]) (by first | rfl | simp [Region.wanted, yielded]) (.tmp 30) (.tmp 31) rfl rfl HO6.out HR6.out HS6.out _ 6 6 rfl rfl HL6.out (by decide) ?_; intro v7 w7 ho7 hb7 hs7; have HO7 := hid ho7; have HB7 := hid hb7; clear ho7 hb7 hs7; obtain ⟨a7, c7, rfl⟩ := HO7.out.sliceN (n := 14) rfl; have C3 := hid (C2.out a7 c7 w7 HO7.out HB7.out))
   | (go_at_call 11; refine C3.out.mono ?_; rintro e w8 ⟨rfl, rfl⟩))
 go_ret
 exact ⟨by simp, HB4.out.trans (HB7.out.mono HB4.out.size)⟩
end Go.Proofs.YtepbjkkakfpjgaaGreatDoor.Enc
namespace Go.Proofs.YtepbjkkakfpjgaaGreatDoor.Mod
open Go.RowKit Go.Proofs.YtepbjkkakfpjgaaGreatDoor.Instr
def wsum {α : Type} (g : α → Nat) : List α → Nat
 | [] => 0
 | x :: r => g x + wsum g r
theorem wsum_append {α : Type} (g : α → Nat) : ∀ l r : List α, wsum g (l ++ r) = wsum g l + wsum g r
 | [], r => by simp [wsum]
 | x :: l, r => by simp only [List.cons_append, wsum, wsum_append g l r]; omega
theorem wsum_step {α : Type} (g : α → Nat) {l : List α} {k : Nat} (hk : k < l.length) : wsum g (l.take (k + 1)) = wsum g (l.take k) + g l[k] := by
 rw [List.take_succ_eq_append_getElem hk, wsum_append]
 simp [wsum]
def msF (x : Mod.Fn) : Nat := x.l.t.weight
def msG (x : Gl) : Nat := x.l.t.weight
def msE (x : El) : Nat := x.l.t.weight + x.fs.length
def msD (x : Da) : Nat := x.l.t.weight + x.bs.length
def msI (x : Imp) : Nat := x.mo.size + x.na.size
def msX (x : Ex) : Nat := x.na.size
def Md.total (m : Md) : Nat := (m.ty.length + m.im.length + m.fu.length + m.tb.length + m.me.length + m.gl.length + m.ex.length + m.el.length + m.da.length) + wsum msF m.fu + wsum msG m.gl + wsum msE m.el + wsum msD m.da + wsum msI m.im + wsum msX m.ex
def Big (m : Md) (w : World) (e : Ending) (w' : World) : Prop := ∃ b, e = .returned (.bool b) ∧ (b = false → m.small 5000 ∧ m.total ≤ 5000) ∧ Below w.heap.size w w'
theorem big_true {m : Md} {w w' : World} (h : Below w.heap.size w w') : Big m w (.returned (.bool true)) w' := ⟨true, rfl, fun h => by simp at h, h⟩
theorem big_end {m : Md} {w w' : World} {N : Int} (h : Below w.heap.size w w') (hs : N ≤ 5000 → m.small 5000 ∧ m.total ≤ 5000) : Big m w (.returned (.bool (decide (5000 < N)))) w' := ⟨_, rfl, fun hh => hs (by simpa using hh), h⟩
set_option maxHeartbeats 8000000 in
set_option maxRecDepth 100000 in
theorem Big_any (m : Md) (w : World) (hm : ModAt w.heap.size w m) (hf : m.fits) :
  Calls Tryz.prog 9 #[.agg m.v, .int .i64 5000] w (Big m w) := by
 have hb0 := (Below.refl w.heap.size w).alloc (Nat.le_refl _) (.cells m.v 32)
 have HB := hid hb0
 have HM := hid (hm.on hb0)
 have HX := hid (BoxAt.made w m.v 32)
 have HF := hid hf
 obtain ⟨ty, im, fu, tb, me, gl, ex, st, sn, el, da, ty', im', fu', tb', me', gl', ex', el', da'⟩ := m
 have b1 := hf.ty
 have b2 := hf.im
 have b3 := hf.fu
 have b4 := hf.tb
 have b5 := hf.me
 have b6 := hf.gl
 have b7 := hf.ex
 have b8 := hf.el
 have b9 := hf.da
 dsimp only at b1 b2 b3 b4 b5 b6 b7 b8 b9
 unfold Md.v at HB HM HX ⊢
 dsimp only at HB HM HX ⊢
 clear hm hf hb0
 by_cases h1 : 5000 < ty.length + im.length + fu.length + tb.length + me.length + gl.length + ex.length + el.length + da.length
 ·have h1i : (5000 : Int) < (ty.length : Int) + im.length + fu.length + tb.length + me.length + gl.length + ex.length + el.length + da.length := by omega
  go_enter Tryz.func9, Tryz.ntmps9
  go_wp2
  go_ret
  exact big_true HB.out
 ·have h1i : ¬ (5000 : Int) < (ty.length : Int) + im.length + fu.length + tb.length + me.length + gl.length + ex.length + el.length + da.length := by omega
  have hsum : ty.length + im.length + fu.length + tb.length + me.length + gl.length + ex.length + el.length + da.length ≤ 5000 := by omega
  have HSUM := hid hsum
  clear h1
  go_enter Tryz.func9, Tryz.ntmps9
  go_wp2
  obtain ⟨N0, hN0⟩ : ∃ N0 : Int, (ty.length : Int) + im.length + fu.length + tb.length + me.length + gl.length + ex.length + el.length + da.length = N0 := ⟨_, rfl⟩
  have l_ty : ty.length ≤ 5000 := by omega
  have l_im : im.length ≤ 5000 := by omega
  have l_fu : fu.length ≤ 5000 := by omega
  have l_tb : tb.length ≤ 5000 := by omega
  have l_me : me.length ≤ 5000 := by omega
  have l_gl : gl.length ≤ 5000 := by omega
  have l_ex : ex.length ≤ 5000 := by omega
  have l_el : el.length ≤ 5000 := by omega
  have l_da : da.length ≤ 5000 := by omega
  have hN1 : N0 ≤ 5000 := by omega
  have hN2 : 0 ≤ N0 := by omega
  have HI := hid (show (0 < fu.length ∨ 0 < gl.length ∨ 0 < el.length ∨ 0 < da.length ∨ 0 < im.length ∨ 0 < ex.length) → 1 ≤ N0 by omega)
  have HN0 := hid hN0
  rw [hN0]
  clear hN0 h1i hsum b1 b2 b3 b4 b5 b6 b7 b8 b9
  generalize w.alloc (.cells #[.slice ty'.a ty.length ty'.c, .slice im'.a im.length im'.c, .slice fu'.a fu.length fu'.c, .slice tb'.a tb.length tb'.c, .slice me'.a me.length me'.c, .slice gl'.a gl.length gl'.c, .slice ex'.a ex.length ex'.c, .bool st, .int .u32 sn, .slice el'.a el.length el'.c, .slice da'.a da.length da'.c] 32) = W0 at HB HM HX ⊢
  have Xfu := hid (show W0.cell? ⟨w.heap.size, 2, none⟩ = some (.slice fu'.a fu.length fu'.c) from HX.out 2 _ rfl)
  have Rfu := hid (show Rows W0.heap.size W0 fu'.a 3 (fu.map Fn.v) from HM.out.fu)
  obtain ⟨nfu, hnfu⟩ : ∃ n, fu.length = n := ⟨_, rfl⟩
  have Lfu := hid hnfu
  rw [hnfu] at l_fu Xfu
  clear hnfu
  have Xgl := hid (show W0.cell? ⟨w.heap.size, 5, none⟩ = some (.slice gl'.a gl.length gl'.c) from HX.out 5 _ rfl)
  have Rgl := hid (show Rows W0.heap.size W0 gl'.a 2 (gl.map Gl.v) from HM.out.gl)
  obtain ⟨ngl, hngl⟩ : ∃ n, gl.length = n := ⟨_, rfl⟩
  have Lgl := hid hngl
  rw [hngl] at l_gl Xgl
  clear hngl
  have Xel := hid (show W0.cell? ⟨w.heap.size, 9, none⟩ = some (.slice el'.a el.length el'.c) from HX.out 9 _ rfl)
  have Rel := hid (show Rows W0.heap.size W0 el'.a 2 (el.map El.v) from HM.out.el)
  obtain ⟨nel, hnel⟩ : ∃ n, el.length = n := ⟨_, rfl⟩
  have Lel := hid hnel
  rw [hnel] at l_el Xel
  clear hnel
  have Xda := hid (show W0.cell? ⟨w.heap.size, 10, none⟩ = some (.slice da'.a da.length da'.c) from HX.out 10 _ rfl)
  have Rda := hid (show Rows W0.heap.size W0 da'.a 2 (da.map Da.v) from HM.out.da)
  obtain ⟨nda, hnda⟩ : ∃ n, da.length = n := ⟨_, rfl⟩
  have Lda := hid hnda
  rw [hnda] at l_da Xda
  clear hnda
  have Xim := hid (show W0.cell? ⟨w.heap.size, 1, none⟩ = some (.slice im'.a im.length im'.c) from HX.out 1 _ rfl)
  have Rim := hid (show Rows W0.heap.size W0 im'.a 3 (im.map Imp.v) from HM.out.im)
  obtain ⟨nim, hnim⟩ : ∃ n, im.length = n := ⟨_, rfl⟩
  have Lim := hid hnim
  rw [hnim] at l_im Xim
  clear hnim
  have Xex := hid (show W0.cell? ⟨w.heap.size, 6, none⟩ = some (.slice ex'.a ex.length ex'.c) from HX.out 6 _ rfl)
  have Rex := hid (show Rows W0.heap.size W0 ex'.a 3 (ex.map Ex.v) from HM.out.ex)
  obtain ⟨nex, hnex⟩ : ∃ n, ex.length = n := ⟨_, rfl⟩
  have Lex := hid hnex
  rw [hnex] at l_ex Xex
  clear hnex
  clear HX
  go_loopw [5, 6] (fun vn vi wr => ∃ (k : Nat) (N : Int), vn = .int .i64 N ∧ vi = .int .i64 k ∧ k ≤ nfu ∧ N0 ≤ N ∧ N ≤ 5000 + 20002 * (k : Int) ∧ Hid (N ≤ 5000 → ((True) ∧ ∀ (j : Nat) (hj : j < fu.length), j < k → ∃ x, x = fu[j] ∧ x.l.t.weight ≤ 5000) ∧ N0 + (wsum msF (fu.take k) : Int) ≤ N) ∧ Hid (Below W0.heap.size W0 wr)) (fun _ vi _ => nfu - (intOf vi).toNat)
  case atStart => exact ⟨0, N0, rfl, rfl, Nat.zero_le _, by omega, by omega, fun _ => ⟨⟨trivial, fun j _ h => absurd h (Nat.not_lt_zero _)⟩, by simp [wsum]⟩, Below.refl _ _⟩
  case round =>
   obtain ⟨k, N, rfl, rfl, hk, hNa, hNb, HQ, HW⟩ := hrel
   have hbx := Go.Proofs.YtepbjkkakfpjgaaGreatDoor.keep HW.out Xfu.out
   by_cases hlt : k < nfu
   ·have hkl : k < fu.length := by rw [Lfu.out]; exact hlt
    obtain ⟨b, off, ha, hb, hc⟩ := Rows.get Rfu.out hkl
    rw [ha] at hbx
    have hx : fu[k] ∈ fu := List.getElem_mem hkl
    have hLs := HM.out.ls fu[k].l (by unfold Md.codes; exact List.mem_append_left _ (List.mem_map.2 ⟨_, hx, rfl⟩))
    have hLl := HF.out.ls fu[k].l (by unfold Md.codes; exact List.mem_append_left _ (List.mem_map.2 ⟨_, hx, rfl⟩))
    have HST := hid (wsum_step msF hkl)
    obtain ⟨x, hxe⟩ : ∃ x, fu[k] = x := ⟨_, rfl⟩
    have HXE := hid hxe
    rw [hxe] at hc HST hLs hLl
    have cc : ∀ j, j < 3 → ∀ v, x.v[j]? = some v → wr.cell? ⟨b, off + k * 3 + j, none⟩ = some v := fun j hj v hv => (HW.out.cell (p := ⟨b, off + k * 3 + j, none⟩) hb).trans (hc j hj v hv)
    have c2 : wr.cell? ⟨b, off + k * 3 + 2, none⟩ = some (.slice x.l.a x.l.t.len x.l.c) := cc 2 (by omega) _ rfl
    have hki : (k : Int) < (nfu : Int) := by omega
    have hN1' : 1 ≤ N0 := HI.out (by omega)
    have hgo := go_bounds x.l.t 0 5000 (by omega) (by omega) (by omega)
    obtain ⟨q, hq⟩ : ∃ q, x.l.t.go 0 5000 = q := ⟨_, rfl⟩
    have C := hid (Instrs_any x.l.t.count x.l.t x.l.a x.l.t.len x.l.c 5000 wr (Nat.le_refl _) ((hLs.below HW.out).more HW.out.size) hLl (by omega) (by omega))
    rw [hq] at C hgo
    obtain ⟨hg0, hg1, hg2⟩ := hgo
    have HG := hid hg2
    have HQ' := hid (show N + q ≤ 5000 → ((True) ∧ ∀ (j : Nat) (hj : j < fu.length), j < k + 1 → ∃ x, x = fu[j] ∧ x.l.t.weight ≤ 5000) ∧ N0 + (wsum msF (fu.take (k + 1)) : Int) ≤ N + q from fun h => ⟨⟨(HQ.out (by omega)).1.1, fun j hj hjk => by
      by_cases e : j = k
      · subst e; exact ⟨x, HXE.out.symm, by have := HG.out (by omega); omega⟩
      · exact (HQ.out (by omega)).1.2 j hj (by omega)⟩, by
      have h1 := (HQ.out (by omega)).2
      have h2 := HST.out
      have h3 : msF x = x.l.t.weight := rfl
      have h4 := HG.out (by omega)
      rw [h2]
      push_cast
      omega⟩)
    clear HST hx hxe hc cc hb ha hLs hLl hq hg2
    go_wp2_with fail
    refine C.out.mono ?_
    rintro e w1 ⟨rfl, rfl⟩
    go_wp2
    go_roundw
    case rel => exact ⟨k + 1, _, rfl, by go_num, by omega, by omega, by omega, HQ', HW⟩
    case measure => simp [intOf]; omega
   ·obtain rfl : k = nfu := by omega
    have HP := hid (show N ≤ 5000 → ((True) ∧ ∀ x ∈ fu, x.l.t.weight ≤ 5000) ∧ N0 + (wsum msF fu : Int) ≤ N from fun h => ⟨⟨(HQ.out h).1.1, fun x hx => by
      obtain ⟨j, hj, rfl⟩ := List.mem_iff_getElem.1 hx
      obtain ⟨y, hy, hq⟩ := (HQ.out h).1.2 j hj (by rw [← Lfu.out]; exact hj)
      subst hy; exact hq⟩, by have h1 := (HQ.out h).2; rwa [List.take_of_length_le (by rw [Lfu.out]; exact Nat.le_refl _)] at h1⟩)
    have hNN1 : N0 ≤ N := by omega
    have hNN2 : N ≤ 100015000 := by omega
    have HBL := HW
    clear HQ hNa hNb HW hlt hk
    obtain ⟨NN, rfl⟩ : ∃ NN, NN = N := ⟨_, rfl⟩
    go_wp2
    clear hbx
    go_loopw [5, 7] (fun vn vi wr => ∃ (k : Nat) (N : Int), vn = .int .i64 N ∧ vi = .int .i64 k ∧ k ≤ ngl ∧ N0 ≤ N ∧ N ≤ 100015000 + 20002 * (k : Int) ∧ Hid (N ≤ 5000 → (((True) ∧ ∀ x ∈ fu, x.l.t.weight ≤ 5000) ∧ ∀ (j : Nat) (hj : j < gl.length), j < k → ∃ x, x = gl[j] ∧ x.l.t.weight ≤ 5000) ∧ N0 + (wsum msF fu : Int) + (wsum msG (gl.take k) : Int) ≤ N) ∧ Hid (Below W0.heap.size W0 wr)) (fun _ vi _ => ngl - (intOf vi).toNat)
    case atStart => exact ⟨0, NN, rfl, rfl, Nat.zero_le _, by omega, by omega, fun h => ⟨⟨(HP.out h).1, fun j _ h => absurd h (Nat.not_lt_zero _)⟩, by have := (HP.out h).2; simpa [wsum] using this⟩, HBL⟩
    case round =>
     clear HP HBL hNN1 hNN2
     obtain ⟨k, N, rfl, rfl, hk, hNa, hNb, HQ, HW⟩ := hrel
     have hbx := Go.Proofs.YtepbjkkakfpjgaaGreatDoor.keep HW.out Xgl.out
     by_cases hlt : k < ngl
     ·have hkl : k < gl.length := by rw [Lgl.out]; exact hlt
      obtain ⟨b, off, ha, hb, hc⟩ := Rows.get Rgl.out hkl
      rw [ha] at hbx
      have hx : gl[k] ∈ gl := List.getElem_mem hkl
      have hLs := HM.out.ls gl[k].l (by unfold Md.codes; exact List.mem_append_right _ (List.mem_append_left _ (List.mem_map.2 ⟨_, hx, rfl⟩)))
      have hLl := HF.out.ls gl[k].l (by unfold Md.codes; exact List.mem_append_right _ (List.mem_append_left _ (List.mem_map.2 ⟨_, hx, rfl⟩)))
      have HST := hid (wsum_step msG hkl)
      obtain ⟨x, hxe⟩ : ∃ x, gl[k] = x := ⟨_, rfl⟩
      have HXE := hid hxe
      rw [hxe] at hc HST hLs hLl
      have cc : ∀ j, j < 2 → ∀ v, x.v[j]? = some v → wr.cell? ⟨b, off + k * 2 + j, none⟩ = some v := fun j hj v hv => (HW.out.cell (p := ⟨b, off + k * 2 + j, none⟩) hb).trans (hc j hj v hv)
      have c1 : wr.cell? ⟨b, off + k * 2 + 1, none⟩ = some (.slice x.l.a x.l.t.len x.l.c) := cc 1 (by omega) _ rfl
      have hki : (k : Int) < (ngl : Int) := by omega
      have hN1' : 1 ≤ N0 := HI.out (by omega)
      have hgo := go_bounds x.l.t 0 5000 (by omega) (by omega) (by omega)
      obtain ⟨q, hq⟩ : ∃ q, x.l.t.go 0 5000 = q := ⟨_, rfl⟩
      have C := hid (Instrs_any x.l.t.count x.l.t x.l.a x.l.t.len x.l.c 5000 wr (Nat.le_refl _) ((hLs.below HW.out).more HW.out.size) hLl (by omega) (by omega))
      rw [hq] at C hgo
      obtain ⟨hg0, hg1, hg2⟩ := hgo
      have HG := hid hg2
      have HQ' := hid (show N + q ≤ 5000 → (((True) ∧ ∀ x ∈ fu, x.l.t.weight ≤ 5000) ∧ ∀ (j : Nat) (hj : j < gl.length), j < k + 1 → ∃ x, x = gl[j] ∧ x.l.t.weight ≤ 5000) ∧ N0 + (wsum msF fu : Int) + (wsum msG (gl.take (k + 1)) : Int) ≤ N + q from fun h => ⟨⟨(HQ.out (by omega)).1.1, fun j hj hjk => by
        by_cases e : j = k
        · subst e; exact ⟨x, HXE.out.symm, by have := HG.out (by omega); omega⟩
        · exact (HQ.out (by omega)).1.2 j hj (by omega)⟩, by
        have h1 := (HQ.out (by omega)).2
        have h2 := HST.out
        have h3 : msG x = x.l.t.weight := rfl
        have h4 := HG.out (by omega)
        rw [h2]
        push_cast
        omega⟩)
      clear HST hx hxe hc cc hb ha hLs hLl hq hg2
      go_wp2_with fail
      refine C.out.mono ?_
      rintro e w1 ⟨rfl, rfl⟩
      go_wp2
      go_roundw
      case rel => exact ⟨k + 1, _, rfl, by go_num, by omega, by omega, by omega, HQ', HW⟩
      case measure => simp [intOf]; omega
     ·obtain rfl : k = ngl := by omega
      have HP := hid (show N ≤ 5000 → (((True) ∧ ∀ x ∈ fu, x.l.t.weight ≤ 5000) ∧ ∀ x ∈ gl, x.l.t.weight ≤ 5000) ∧ N0 + (wsum msF fu : Int) + (wsum msG gl : Int) ≤ N from fun h => ⟨⟨(HQ.out h).1.1, fun x hx => by
        obtain ⟨j, hj, rfl⟩ := List.mem_iff_getElem.1 hx
        obtain ⟨y, hy, hq⟩ := (HQ.out h).1.2 j hj (by rw [← Lgl.out]; exact hj)
        subst hy; exact hq⟩, by have h1 := (HQ.out h).2; rwa [List.take_of_length_le (by rw [Lgl.out]; exact Nat.le_refl _)] at h1⟩)
      have hNN1 : N0 ≤ N := by omega
      have hNN2 : N ≤ 200025000 := by omega
      have HBL := HW
      clear HQ hNa hNb HW hlt hk
      obtain ⟨NN, rfl⟩ : ∃ NN, NN = N := ⟨_, rfl⟩
      go_wp2
      clear hbx
      go_loopw [5, 8] (fun vn vi wr => ∃ (k : Nat) (N : Int), vn = .int .i64 N ∧ vi = .int .i64 k ∧ k ≤ nel ∧ N0 ≤ N ∧ N ≤ 200025000 + 20002 * (k : Int) ∧ Hid (N ≤ 5000 → ((((True) ∧ ∀ x ∈ fu, x.l.t.weight ≤ 5000) ∧ ∀ x ∈ gl, x.l.t.weight ≤ 5000) ∧ ∀ (j : Nat) (hj : j < el.length), j < k → ∃ x, x = el[j] ∧ x.l.t.weight ≤ 5000 ∧ x.fs.length ≤ 5000) ∧ N0 + (wsum msF fu : Int) + (wsum msG gl : Int) + (wsum msE (el.take k) : Int) ≤ N) ∧ Hid (Below W0.heap.size W0 wr)) (fun _ vi _ => nel - (intOf vi).toNat)
      case atStart => exact ⟨0, NN, rfl, rfl, Nat.zero_le _, by omega, by omega, fun h => ⟨⟨(HP.out h).1, fun j _ h => absurd h (Nat.not_lt_zero _)⟩, by have := (HP.out h).2; simpa [wsum] using this⟩, HBL⟩
      case round =>
       clear HP HBL hNN1 hNN2
       obtain ⟨k, N, rfl, rfl, hk, hNa, hNb, HQ, HW⟩ := hrel
       have hbx := Go.Proofs.YtepbjkkakfpjgaaGreatDoor.keep HW.out Xel.out
       by_cases hlt : k < nel
       ·have hkl : k < el.length := by rw [Lel.out]; exact hlt
        obtain ⟨b, off, ha, hb, hc⟩ := Rows.get Rel.out hkl
        rw [ha] at hbx
        have hx : el[k] ∈ el := List.getElem_mem hkl
        have hLs := HM.out.ls el[k].l (by unfold Md.codes; exact List.mem_append_right _ (List.mem_append_right _ (List.mem_append_left _ (List.mem_map.2 ⟨_, hx, rfl⟩))))
        have hLl := HF.out.ls el[k].l (by unfold Md.codes; exact List.mem_append_right _ (List.mem_append_right _ (List.mem_append_left _ (List.mem_map.2 ⟨_, hx, rfl⟩))))
        have hS := HF.out.fs _ hx
        have HST := hid (wsum_step msE hkl)
        obtain ⟨x, hxe⟩ : ∃ x, el[k] = x := ⟨_, rfl⟩
        have HXE := hid hxe
        rw [hxe] at hc HST hLs hLl hS
        have cc : ∀ j, j < 2 → ∀ v, x.v[j]? = some v → wr.cell? ⟨b, off + k * 2 + j, none⟩ = some v := fun j hj v hv => (HW.out.cell (p := ⟨b, off + k * 2 + j, none⟩) hb).trans (hc j hj v hv)
        have c0 : wr.cell? ⟨b, off + k * 2, none⟩ = some (.slice x.l.a x.l.t.len x.l.c) := cc 0 (by omega) _ rfl
        have c1 : wr.cell? ⟨b, off + k * 2 + 1, none⟩ = some (.slice x.fa x.fs.length x.fc) := cc 1 (by omega) _ rfl
        have hki : (k : Int) < (nel : Int) := by omega
        have hN1' : 1 ≤ N0 := HI.out (by omega)
        have hgo := go_bounds x.l.t 0 5000 (by omega) (by omega) (by omega)
        obtain ⟨q, hq⟩ : ∃ q, x.l.t.go 0 5000 = q := ⟨_, rfl⟩
        have C := hid (show ∀ a, Calls Tryz.prog 32 #[.slice x.l.a x.l.t.len x.l.c, .int .i64 5000] (wr.drewN a) fun e w' => e = .returned (.int .i64 (x.l.t.go 0 5000)) ∧ w' = wr.drewN a from fun a => (Instrs_any x.l.t.count x.l.t x.l.a x.l.t.len x.l.c 5000 _ (Nat.le_refl _) ((hLs.below (drewQ HW.out a)).more (drewQ HW.out a).size) hLl (by omega) (by omega)).mono fun e w' ⟨he, hw⟩ => ⟨he, hw.symm⟩)
        rw [hq] at C hgo
        obtain ⟨hg0, hg1, hg2⟩ := hgo
        have HG := hid hg2
        by_cases hmn : (5000 : Int) < (x.fs.length : Int)
        ·have hmz : min (x.fs.length : Int) 5000 = 5000 := by omega
         have e0 : IntKind.i64.wrap (N + q) = N + q := by rw [IntKind.wrap_i64]; omega
         have e1 : IntKind.i64.wrap (N + q + 5000) = N + q + 5000 := by rw [IntKind.wrap_i64]; omega
         have HQ' := hid (show N + q + 5000 ≤ 5000 → ((((True) ∧ ∀ x ∈ fu, x.l.t.weight ≤ 5000) ∧ ∀ x ∈ gl, x.l.t.weight ≤ 5000) ∧ ∀ (j : Nat) (hj : j < el.length), j < k + 1 → ∃ x, x = el[j] ∧ x.l.t.weight ≤ 5000 ∧ x.fs.length ≤ 5000) ∧ N0 + (wsum msF fu : Int) + (wsum msG gl : Int) + (wsum msE (el.take (k + 1)) : Int) ≤ N + q + 5000 from fun h => ⟨⟨(HQ.out (by omega)).1.1, fun j hj hjk => by
           by_cases e : j = k
           · subst e; exact ⟨x, HXE.out.symm, by have := HG.out (by omega); omega, by omega⟩
           · exact (HQ.out (by omega)).1.2 j hj (by omega)⟩, by
           have h1 := (HQ.out (by omega)).2
           have h2 := HST.out
           have h3 : msE x = x.l.t.weight + x.fs.length := rfl
           have h4 := HG.out (by omega)
           rw [h2]
           push_cast
           omega⟩)
         have hz1 := show N0 ≤ N + q + 5000 by omega
         have hz2 := show N + q + 5000 ≤ 200025000 + 20002 * ((k + 1 : Nat) : Int) by omega
         clear HST hx hxe hc cc hb ha hLs hLl hq hg2
         go_wp2
         go_quiet ((go_at_call 32; exact Calls.quiet_of_same (C.out _)))
         go_wp2
         go_roundw
         case rel => exact ⟨k + 1, _, rfl, by go_num, by omega, hz1, hz2, HQ', drewQ HW.out _⟩
         case measure => simp [intOf]; omega
        ·have hmz : min (x.fs.length : Int) 5000 = (x.fs.length : Int) := by omega
         have e0 : IntKind.i64.wrap (N + q) = N + q := by rw [IntKind.wrap_i64]; omega
         have e1 : IntKind.i64.wrap (N + q + (x.fs.length : Int)) = N + q + (x.fs.length : Int) := by rw [IntKind.wrap_i64]; omega
         have HQ' := hid (show N + q + (x.fs.length : Int) ≤ 5000 → ((((True) ∧ ∀ x ∈ fu, x.l.t.weight ≤ 5000) ∧ ∀ x ∈ gl, x.l.t.weight ≤ 5000) ∧ ∀ (j : Nat) (hj : j < el.length), j < k + 1 → ∃ x, x = el[j] ∧ x.l.t.weight ≤ 5000 ∧ x.fs.length ≤ 5000) ∧ N0 + (wsum msF fu : Int) + (wsum msG gl : Int) + (wsum msE (el.take (k + 1)) : Int) ≤ N + q + (x.fs.length : Int) from fun h => ⟨⟨(HQ.out (by omega)).1.1, fun j hj hjk => by
           by_cases e : j = k
           · subst e; exact ⟨x, HXE.out.symm, by have := HG.out (by omega); omega, by omega⟩
           · exact (HQ.out (by omega)).1.2 j hj (by omega)⟩, by
           have h1 := (HQ.out (by omega)).2
           have h2 := HST.out
           have h3 : msE x = x.l.t.weight + x.fs.length := rfl
           have h4 := HG.out (by omega)
           rw [h2]
           push_cast
           omega⟩)
         have hz1 := show N0 ≤ N + q + (x.fs.length : Int) by omega
         have hz2 := show N + q + (x.fs.length : Int) ≤ 200025000 + 20002 * ((k + 1 : Nat) : Int) by omega
         clear HST hx hxe hc cc hb ha hLs hLl hq hg2
         go_wp2
         go_quiet ((go_at_call 32; exact Calls.quiet_of_same (C.out _)))
         go_wp2
         go_roundw
         case rel => exact ⟨k + 1, _, rfl, by go_num, by omega, hz1, hz2, HQ', drewQ HW.out _⟩
         case measure => simp [intOf]; omega
       ·obtain rfl : k = nel := by omega
        have HP := hid (show N ≤ 5000 → ((((True) ∧ ∀ x ∈ fu, x.l.t.weight ≤ 5000) ∧ ∀ x ∈ gl, x.l.t.weight ≤ 5000) ∧ ∀ x ∈ el, x.l.t.weight ≤ 5000 ∧ x.fs.length ≤ 5000) ∧ N0 + (wsum msF fu : Int) + (wsum msG gl : Int) + (wsum msE el : Int) ≤ N from fun h => ⟨⟨(HQ.out h).1.1, fun x hx => by
          obtain ⟨j, hj, rfl⟩ := List.mem_iff_getElem.1 hx
          obtain ⟨y, hy, hq⟩ := (HQ.out h).1.2 j hj (by rw [← Lel.out]; exact hj)
          subst hy; exact hq⟩, by have h1 := (HQ.out h).2; rwa [List.take_of_length_le (by rw [Lel.out]; exact Nat.le_refl _)] at h1⟩)
        have hNN1 : N0 ≤ N := by omega
        have hNN2 : N ≤ 300035000 := by omega
        have HBL := HW
        clear HQ hNa hNb HW hlt hk
        obtain ⟨NN, rfl⟩ : ∃ NN, NN = N := ⟨_, rfl⟩
        go_wp2
        clear hbx
        go_loopw [5, 9] (fun vn vi wr => ∃ (k : Nat) (N : Int), vn = .int .i64 N ∧ vi = .int .i64 k ∧ k ≤ nda ∧ N0 ≤ N ∧ N ≤ 300035000 + 20002 * (k : Int) ∧ Hid (N ≤ 5000 → (((((True) ∧ ∀ x ∈ fu, x.l.t.weight ≤ 5000) ∧ ∀ x ∈ gl, x.l.t.weight ≤ 5000) ∧ ∀ x ∈ el, x.l.t.weight ≤ 5000 ∧ x.fs.length ≤ 5000) ∧ ∀ (j : Nat) (hj : j < da.length), j < k → ∃ x, x = da[j] ∧ x.l.t.weight ≤ 5000 ∧ x.bs.length ≤ 5000) ∧ N0 + (wsum msF fu : Int) + (wsum msG gl : Int) + (wsum msE el : Int) + (wsum msD (da.take k) : Int) ≤ N) ∧ Hid (Below W0.heap.size W0 wr)) (fun _ vi _ => nda - (intOf vi).toNat)
        case atStart => exact ⟨0, NN, rfl, rfl, Nat.zero_le _, by omega, by omega, fun h => ⟨⟨(HP.out h).1, fun j _ h => absurd h (Nat.not_lt_zero _)⟩, by have := (HP.out h).2; simpa [wsum] using this⟩, HBL⟩
        case round =>
         clear HP HBL hNN1 hNN2
         obtain ⟨k, N, rfl, rfl, hk, hNa, hNb, HQ, HW⟩ := hrel
         have hbx := Go.Proofs.YtepbjkkakfpjgaaGreatDoor.keep HW.out Xda.out
         by_cases hlt : k < nda
         ·have hkl : k < da.length := by rw [Lda.out]; exact hlt
          obtain ⟨b, off, ha, hb, hc⟩ := Rows.get Rda.out hkl
          rw [ha] at hbx
          have hx : da[k] ∈ da := List.getElem_mem hkl
          have hLs := HM.out.ls da[k].l (by unfold Md.codes; exact List.mem_append_right _ (List.mem_append_right _ (List.mem_append_right _ (List.mem_map.2 ⟨_, hx, rfl⟩))))
          have hLl := HF.out.ls da[k].l (by unfold Md.codes; exact List.mem_append_right _ (List.mem_append_right _ (List.mem_append_right _ (List.mem_map.2 ⟨_, hx, rfl⟩))))
          have hS := HF.out.bs _ hx
          have HST := hid (wsum_step msD hkl)
          obtain ⟨x, hxe⟩ : ∃ x, da[k] = x := ⟨_, rfl⟩
          have HXE := hid hxe
          rw [hxe] at hc HST hLs hLl hS
          have cc : ∀ j, j < 2 → ∀ v, x.v[j]? = some v → wr.cell? ⟨b, off + k * 2 + j, none⟩ = some v := fun j hj v hv => (HW.out.cell (p := ⟨b, off + k * 2 + j, none⟩) hb).trans (hc j hj v hv)
          have c0 : wr.cell? ⟨b, off + k * 2, none⟩ = some (.slice x.l.a x.l.t.len x.l.c) := cc 0 (by omega) _ rfl
          have c1 : wr.cell? ⟨b, off + k * 2 + 1, none⟩ = some (.slice x.ba x.bs.length x.bc) := cc 1 (by omega) _ rfl
          have hki : (k : Int) < (nda : Int) := by omega
          have hN1' : 1 ≤ N0 := HI.out (by omega)
          have hgo := go_bounds x.l.t 0 5000 (by omega) (by omega) (by omega)
          obtain ⟨q, hq⟩ : ∃ q, x.l.t.go 0 5000 = q := ⟨_, rfl⟩
          have C := hid (show ∀ a, Calls Tryz.prog 32 #[.slice x.l.a x.l.t.len x.l.c, .int .i64 5000] (wr.drewN a) fun e w' => e = .returned (.int .i64 (x.l.t.go 0 5000)) ∧ w' = wr.drewN a from fun a => (Instrs_any x.l.t.count x.l.t x.l.a x.l.t.len x.l.c 5000 _ (Nat.le_refl _) ((hLs.below (drewQ HW.out a)).more (drewQ HW.out a).size) hLl (by omega) (by omega)).mono fun e w' ⟨he, hw⟩ => ⟨he, hw.symm⟩)
          rw [hq] at C hgo
          obtain ⟨hg0, hg1, hg2⟩ := hgo
          have HG := hid hg2
          by_cases hmn : (5000 : Int) < (x.bs.length : Int)
          ·have hmz : min (x.bs.length : Int) 5000 = 5000 := by omega
           have e0 : IntKind.i64.wrap (N + q) = N + q := by rw [IntKind.wrap_i64]; omega
           have e1 : IntKind.i64.wrap (N + q + 5000) = N + q + 5000 := by rw [IntKind.wrap_i64]; omega
           have HQ' := hid (show N + q + 5000 ≤ 5000 → (((((True) ∧ ∀ x ∈ fu, x.l.t.weight ≤ 5000) ∧ ∀ x ∈ gl, x.l.t.weight ≤ 5000) ∧ ∀ x ∈ el, x.l.t.weight ≤ 5000 ∧ x.fs.length ≤ 5000) ∧ ∀ (j : Nat) (hj : j < da.length), j < k + 1 → ∃ x, x = da[j] ∧ x.l.t.weight ≤ 5000 ∧ x.bs.length ≤ 5000) ∧ N0 + (wsum msF fu : Int) + (wsum msG gl : Int) + (wsum msE el : Int) + (wsum msD (da.take (k + 1)) : Int) ≤ N + q + 5000 from fun h => ⟨⟨(HQ.out (by omega)).1.1, fun j hj hjk => by
             by_cases e : j = k
             · subst e; exact ⟨x, HXE.out.symm, by have := HG.out (by omega); omega, by omega⟩
             · exact (HQ.out (by omega)).1.2 j hj (by omega)⟩, by
             have h1 := (HQ.out (by omega)).2
             have h2 := HST.out
             have h3 : msD x = x.l.t.weight + x.bs.length := rfl
             have h4 := HG.out (by omega)
             rw [h2]
             push_cast
             omega⟩)
           have hz1 := show N0 ≤ N + q + 5000 by omega
           have hz2 := show N + q + 5000 ≤ 300035000 + 20002 * ((k + 1 : Nat) : Int) by omega
           clear HST hx hxe hc cc hb ha hLs hLl hq hg2
           go_wp2
           go_quiet ((go_at_call 32; exact Calls.quiet_of_same (C.out _)))
           go_wp2
           go_roundw
           case rel => exact ⟨k + 1, _, rfl, by go_num, by omega, hz1, hz2, HQ', drewQ HW.out _⟩
           case measure => simp [intOf]; omega
          ·have hmz : min (x.bs.length : Int) 5000 = (x.bs.length : Int) := by omega
           have e0 : IntKind.i64.wrap (N + q) = N + q := by rw [IntKind.wrap_i64]; omega
           have e1 : IntKind.i64.wrap (N + q + (x.bs.length : Int)) = N + q + (x.bs.length : Int) := by rw [IntKind.wrap_i64]; omega
           have HQ' := hid (show N + q + (x.bs.length : Int) ≤ 5000 → (((((True) ∧ ∀ x ∈ fu, x.l.t.weight ≤ 5000) ∧ ∀ x ∈ gl, x.l.t.weight ≤ 5000) ∧ ∀ x ∈ el, x.l.t.weight ≤ 5000 ∧ x.fs.length ≤ 5000) ∧ ∀ (j : Nat) (hj : j < da.length), j < k + 1 → ∃ x, x = da[j] ∧ x.l.t.weight ≤ 5000 ∧ x.bs.length ≤ 5000) ∧ N0 + (wsum msF fu : Int) + (wsum msG gl : Int) + (wsum msE el : Int) + (wsum msD (da.take (k + 1)) : Int) ≤ N + q + (x.bs.length : Int) from fun h => ⟨⟨(HQ.out (by omega)).1.1, fun j hj hjk => by
             by_cases e : j = k
             · subst e; exact ⟨x, HXE.out.symm, by have := HG.out (by omega); omega, by omega⟩
             · exact (HQ.out (by omega)).1.2 j hj (by omega)⟩, by
             have h1 := (HQ.out (by omega)).2
             have h2 := HST.out
             have h3 : msD x = x.l.t.weight + x.bs.length := rfl
             have h4 := HG.out (by omega)
             rw [h2]
             push_cast
             omega⟩)
           have hz1 := show N0 ≤ N + q + (x.bs.length : Int) by omega
           have hz2 := show N + q + (x.bs.length : Int) ≤ 300035000 + 20002 * ((k + 1 : Nat) : Int) by omega
           clear HST hx hxe hc cc hb ha hLs hLl hq hg2
           go_wp2
           go_quiet ((go_at_call 32; exact Calls.quiet_of_same (C.out _)))
           go_wp2
           go_roundw
           case rel => exact ⟨k + 1, _, rfl, by go_num, by omega, hz1, hz2, HQ', drewQ HW.out _⟩
           case measure => simp [intOf]; omega
         ·obtain rfl : k = nda := by omega
          have HP := hid (show N ≤ 5000 → (((((True) ∧ ∀ x ∈ fu, x.l.t.weight ≤ 5000) ∧ ∀ x ∈ gl, x.l.t.weight ≤ 5000) ∧ ∀ x ∈ el, x.l.t.weight ≤ 5000 ∧ x.fs.length ≤ 5000) ∧ ∀ x ∈ da, x.l.t.weight ≤ 5000 ∧ x.bs.length ≤ 5000) ∧ N0 + (wsum msF fu : Int) + (wsum msG gl : Int) + (wsum msE el : Int) + (wsum msD da : Int) ≤ N from fun h => ⟨⟨(HQ.out h).1.1, fun x hx => by
            obtain ⟨j, hj, rfl⟩ := List.mem_iff_getElem.1 hx
            obtain ⟨y, hy, hq⟩ := (HQ.out h).1.2 j hj (by rw [← Lda.out]; exact hj)
            subst hy; exact hq⟩, by have h1 := (HQ.out h).2; rwa [List.take_of_length_le (by rw [Lda.out]; exact Nat.le_refl _)] at h1⟩)
          have hNN1 : N0 ≤ N := by omega
          have hNN2 : N ≤ 400045000 := by omega
          have HBL := HW
          clear HQ hNa hNb HW hlt hk
          obtain ⟨NN, rfl⟩ : ∃ NN, NN = N := ⟨_, rfl⟩
          go_wp2
          clear hbx
          go_loopw [5, 10] (fun vn vi wr => ∃ (k : Nat) (N : Int), vn = .int .i64 N ∧ vi = .int .i64 k ∧ k ≤ nim ∧ N0 ≤ N ∧ N ≤ 400045000 + 20002 * (k : Int) ∧ Hid (N ≤ 5000 → ((((((True) ∧ ∀ x ∈ fu, x.l.t.weight ≤ 5000) ∧ ∀ x ∈ gl, x.l.t.weight ≤ 5000) ∧ ∀ x ∈ el, x.l.t.weight ≤ 5000 ∧ x.fs.length ≤ 5000) ∧ ∀ x ∈ da, x.l.t.weight ≤ 5000 ∧ x.bs.length ≤ 5000) ∧ ∀ (j : Nat) (hj : j < im.length), j < k → ∃ x, x = im[j] ∧ x.mo.size ≤ 5000 ∧ x.na.size ≤ 5000) ∧ N0 + (wsum msF fu : Int) + (wsum msG gl : Int) + (wsum msE el : Int) + (wsum msD da : Int) + (wsum msI (im.take k) : Int) ≤ N) ∧ Hid (Below W0.heap.size W0 wr)) (fun _ vi _ => nim - (intOf vi).toNat)
          case atStart => exact ⟨0, NN, rfl, rfl, Nat.zero_le _, by omega, by omega, fun h => ⟨⟨(HP.out h).1, fun j _ h => absurd h (Nat.not_lt_zero _)⟩, by have := (HP.out h).2; simpa [wsum] using this⟩, HBL⟩
          case round =>
           clear HP HBL hNN1 hNN2
           obtain ⟨k, N, rfl, rfl, hk, hNa, hNb, HQ, HW⟩ := hrel
           have hbx := Go.Proofs.YtepbjkkakfpjgaaGreatDoor.keep HW.out Xim.out
           by_cases hlt : k < nim
           ·have hkl : k < im.length := by rw [Lim.out]; exact hlt
            obtain ⟨b, off, ha, hb, hc⟩ := Rows.get Rim.out hkl
            rw [ha] at hbx
            have hx : im[k] ∈ im := List.getElem_mem hkl
            have hS := HF.out.iS _ hx
            have HST := hid (wsum_step msI hkl)
            obtain ⟨x, hxe⟩ : ∃ x, im[k] = x := ⟨_, rfl⟩
            have HXE := hid hxe
            rw [hxe] at hc HST hS
            have cc : ∀ j, j < 3 → ∀ v, x.v[j]? = some v → wr.cell? ⟨b, off + k * 3 + j, none⟩ = some v := fun j hj v hv => (HW.out.cell (p := ⟨b, off + k * 3 + j, none⟩) hb).trans (hc j hj v hv)
            have c0 : wr.cell? ⟨b, off + k * 3, none⟩ = some (.string x.mo) := cc 0 (by omega) _ rfl
            have c1 : wr.cell? ⟨b, off + k * 3 + 1, none⟩ = some (.string x.na) := cc 1 (by omega) _ rfl
            have hki : (k : Int) < (nim : Int) := by omega
            have hN1' : 1 ≤ N0 := HI.out (by omega)
            by_cases hm1 : (5000 : Int) < (x.mo.size : Int)
            ·by_cases hm2 : (5000 : Int) < (x.na.size : Int)
             ·have hmz : min (x.mo.size : Int) 5000 = 5000 := by omega
              have hmy : min (x.na.size : Int) 5000 = 5000 := by omega
              have e0 : IntKind.i64.wrap (N + 5000) = N + 5000 := by rw [IntKind.wrap_i64]; omega
              have e1 : IntKind.i64.wrap (N + 5000 + 5000) = N + 5000 + 5000 := by rw [IntKind.wrap_i64]; omega
              have HQ' := hid (show N + 5000 + 5000 ≤ 5000 → ((((((True) ∧ ∀ x ∈ fu, x.l.t.weight ≤ 5000) ∧ ∀ x ∈ gl, x.l.t.weight ≤ 5000) ∧ ∀ x ∈ el, x.l.t.weight ≤ 5000 ∧ x.fs.length ≤ 5000) ∧ ∀ x ∈ da, x.l.t.weight ≤ 5000 ∧ x.bs.length ≤ 5000) ∧ ∀ (j : Nat) (hj : j < im.length), j < k + 1 → ∃ x, x = im[j] ∧ x.mo.size ≤ 5000 ∧ x.na.size ≤ 5000) ∧ N0 + (wsum msF fu : Int) + (wsum msG gl : Int) + (wsum msE el : Int) + (wsum msD da : Int) + (wsum msI (im.take (k + 1)) : Int) ≤ N + 5000 + 5000 from fun h => ⟨⟨(HQ.out (by omega)).1.1, fun j hj hjk => by
                by_cases e : j = k
                · subst e; exact ⟨x, HXE.out.symm, by omega, by omega⟩
                · exact (HQ.out (by omega)).1.2 j hj (by omega)⟩, by
                have h1 := (HQ.out (by omega)).2
                have h2 := HST.out
                have h3 : msI x = x.mo.size + x.na.size := rfl
                rw [h2]
                push_cast
                omega⟩)
              have hz1 := show N0 ≤ N + 5000 + 5000 by omega
              have hz2 := show N + 5000 + 5000 ≤ 400045000 + 20002 * ((k + 1 : Nat) : Int) by omega
              clear HST hx hxe hc cc hb ha
              go_wp2
              go_quiet (fail)
              go_wp2
              go_roundw
              case rel => exact ⟨k + 1, _, rfl, by go_num, by omega, hz1, hz2, HQ', drewQ HW.out _⟩
              case measure => simp [intOf]; omega
             ·have hmz : min (x.mo.size : Int) 5000 = 5000 := by omega
              have hmy : min (x.na.size : Int) 5000 = (x.na.size : Int) := by omega
              have e0 : IntKind.i64.wrap (N + 5000) = N + 5000 := by rw [IntKind.wrap_i64]; omega
              have e1 : IntKind.i64.wrap (N + 5000 + (x.na.size : Int)) = N + 5000 + (x.na.size : Int) := by rw [IntKind.wrap_i64]; omega
              have HQ' := hid (show N + 5000 + (x.na.size : Int) ≤ 5000 → ((((((True) ∧ ∀ x ∈ fu, x.l.t.weight ≤ 5000) ∧ ∀ x ∈ gl, x.l.t.weight ≤ 5000) ∧ ∀ x ∈ el, x.l.t.weight ≤ 5000 ∧ x.fs.length ≤ 5000) ∧ ∀ x ∈ da, x.l.t.weight ≤ 5000 ∧ x.bs.length ≤ 5000) ∧ ∀ (j : Nat) (hj : j < im.length), j < k + 1 → ∃ x, x = im[j] ∧ x.mo.size ≤ 5000 ∧ x.na.size ≤ 5000) ∧ N0 + (wsum msF fu : Int) + (wsum msG gl : Int) + (wsum msE el : Int) + (wsum msD da : Int) + (wsum msI (im.take (k + 1)) : Int) ≤ N + 5000 + (x.na.size : Int) from fun h => ⟨⟨(HQ.out (by omega)).1.1, fun j hj hjk => by
                by_cases e : j = k
                · subst e; exact ⟨x, HXE.out.symm, by omega, by omega⟩
                · exact (HQ.out (by omega)).1.2 j hj (by omega)⟩, by
                have h1 := (HQ.out (by omega)).2
                have h2 := HST.out
                have h3 : msI x = x.mo.size + x.na.size := rfl
                rw [h2]
                push_cast
                omega⟩)
              have hz1 := show N0 ≤ N + 5000 + (x.na.size : Int) by omega
              have hz2 := show N + 5000 + (x.na.size : Int) ≤ 400045000 + 20002 * ((k + 1 : Nat) : Int) by omega
              clear HST hx hxe hc cc hb ha
              go_wp2
              go_quiet (fail)
              go_wp2
              go_roundw
              case rel => exact ⟨k + 1, _, rfl, by go_num, by omega, hz1, hz2, HQ', drewQ HW.out _⟩
              case measure => simp [intOf]; omega
            ·by_cases hm2 : (5000 : Int) < (x.na.size : Int)
             ·have hmz : min (x.mo.size : Int) 5000 = (x.mo.size : Int) := by omega
              have hmy : min (x.na.size : Int) 5000 = 5000 := by omega
              have e0 : IntKind.i64.wrap (N + (x.mo.size : Int)) = N + (x.mo.size : Int) := by rw [IntKind.wrap_i64]; omega
              have e1 : IntKind.i64.wrap (N + (x.mo.size : Int) + 5000) = N + (x.mo.size : Int) + 5000 := by rw [IntKind.wrap_i64]; omega
              have HQ' := hid (show N + (x.mo.size : Int) + 5000 ≤ 5000 → ((((((True) ∧ ∀ x ∈ fu, x.l.t.weight ≤ 5000) ∧ ∀ x ∈ gl, x.l.t.weight ≤ 5000) ∧ ∀ x ∈ el, x.l.t.weight ≤ 5000 ∧ x.fs.length ≤ 5000) ∧ ∀ x ∈ da, x.l.t.weight ≤ 5000 ∧ x.bs.length ≤ 5000) ∧ ∀ (j : Nat) (hj : j < im.length), j < k + 1 → ∃ x, x = im[j] ∧ x.mo.size ≤ 5000 ∧ x.na.size ≤ 5000) ∧ N0 + (wsum msF fu : Int) + (wsum msG gl : Int) + (wsum msE el : Int) + (wsum msD da : Int) + (wsum msI (im.take (k + 1)) : Int) ≤ N + (x.mo.size : Int) + 5000 from fun h => ⟨⟨(HQ.out (by omega)).1.1, fun j hj hjk => by
                by_cases e : j = k
                · subst e; exact ⟨x, HXE.out.symm, by omega, by omega⟩
                · exact (HQ.out (by omega)).1.2 j hj (by omega)⟩, by
                have h1 := (HQ.out (by omega)).2
                have h2 := HST.out
                have h3 : msI x = x.mo.size + x.na.size := rfl
                rw [h2]
                push_cast
                omega⟩)
              have hz1 := show N0 ≤ N + (x.mo.size : Int) + 5000 by omega
              have hz2 := show N + (x.mo.size : Int) + 5000 ≤ 400045000 + 20002 * ((k + 1 : Nat) : Int) by omega
              clear HST hx hxe hc cc hb ha
              go_wp2
              go_quiet (fail)
              go_wp2
              go_roundw
              case rel => exact ⟨k + 1, _, rfl, by go_num, by omega, hz1, hz2, HQ', drewQ HW.out _⟩
              case measure => simp [intOf]; omega
             ·have hmz : min (x.mo.size : Int) 5000 = (x.mo.size : Int) := by omega
              have hmy : min (x.na.size : Int) 5000 = (x.na.size : Int) := by omega
              have e0 : IntKind.i64.wrap (N + (x.mo.size : Int)) = N + (x.mo.size : Int) := by rw [IntKind.wrap_i64]; omega
              have e1 : IntKind.i64.wrap (N + (x.mo.size : Int) + (x.na.size : Int)) = N + (x.mo.size : Int) + (x.na.size : Int) := by rw [IntKind.wrap_i64]; omega
              have HQ' := hid (show N + (x.mo.size : Int) + (x.na.size : Int) ≤ 5000 → ((((((True) ∧ ∀ x ∈ fu, x.l.t.weight ≤ 5000) ∧ ∀ x ∈ gl, x.l.t.weight ≤ 5000) ∧ ∀ x ∈ el, x.l.t.weight ≤ 5000 ∧ x.fs.length ≤ 5000) ∧ ∀ x ∈ da, x.l.t.weight ≤ 5000 ∧ x.bs.length ≤ 5000) ∧ ∀ (j : Nat) (hj : j < im.length), j < k + 1 → ∃ x, x = im[j] ∧ x.mo.size ≤ 5000 ∧ x.na.size ≤ 5000) ∧ N0 + (wsum msF fu : Int) + (wsum msG gl : Int) + (wsum msE el : Int) + (wsum msD da : Int) + (wsum msI (im.take (k + 1)) : Int) ≤ N + (x.mo.size : Int) + (x.na.size : Int) from fun h => ⟨⟨(HQ.out (by omega)).1.1, fun j hj hjk => by
                by_cases e : j = k
                · subst e; exact ⟨x, HXE.out.symm, by omega, by omega⟩
                · exact (HQ.out (by omega)).1.2 j hj (by omega)⟩, by
                have h1 := (HQ.out (by omega)).2
                have h2 := HST.out
                have h3 : msI x = x.mo.size + x.na.size := rfl
                rw [h2]
                push_cast
                omega⟩)
              have hz1 := show N0 ≤ N + (x.mo.size : Int) + (x.na.size : Int) by omega
              have hz2 := show N + (x.mo.size : Int) + (x.na.size : Int) ≤ 400045000 + 20002 * ((k + 1 : Nat) : Int) by omega
              clear HST hx hxe hc cc hb ha
              go_wp2
              go_quiet (fail)
              go_wp2
              go_roundw
              case rel => exact ⟨k + 1, _, rfl, by go_num, by omega, hz1, hz2, HQ', drewQ HW.out _⟩
              case measure => simp [intOf]; omega
           ·obtain rfl : k = nim := by omega
            have HP := hid (show N ≤ 5000 → ((((((True) ∧ ∀ x ∈ fu, x.l.t.weight ≤ 5000) ∧ ∀ x ∈ gl, x.l.t.weight ≤ 5000) ∧ ∀ x ∈ el, x.l.t.weight ≤ 5000 ∧ x.fs.length ≤ 5000) ∧ ∀ x ∈ da, x.l.t.weight ≤ 5000 ∧ x.bs.length ≤ 5000) ∧ ∀ x ∈ im, x.mo.size ≤ 5000 ∧ x.na.size ≤ 5000) ∧ N0 + (wsum msF fu : Int) + (wsum msG gl : Int) + (wsum msE el : Int) + (wsum msD da : Int) + (wsum msI im : Int) ≤ N from fun h => ⟨⟨(HQ.out h).1.1, fun x hx => by
              obtain ⟨j, hj, rfl⟩ := List.mem_iff_getElem.1 hx
              obtain ⟨y, hy, hq⟩ := (HQ.out h).1.2 j hj (by rw [← Lim.out]; exact hj)
              subst hy; exact hq⟩, by have h1 := (HQ.out h).2; rwa [List.take_of_length_le (by rw [Lim.out]; exact Nat.le_refl _)] at h1⟩)
            have hNN1 : N0 ≤ N := by omega
            have hNN2 : N ≤ 500055000 := by omega
            have HBL := HW
            clear HQ hNa hNb HW hlt hk
            obtain ⟨NN, rfl⟩ : ∃ NN, NN = N := ⟨_, rfl⟩
            go_wp2
            clear hbx
            go_loopw [5, 11] (fun vn vi wr => ∃ (k : Nat) (N : Int), vn = .int .i64 N ∧ vi = .int .i64 k ∧ k ≤ nex ∧ N0 ≤ N ∧ N ≤ 500055000 + 20002 * (k : Int) ∧ Hid (N ≤ 5000 → (((((((True) ∧ ∀ x ∈ fu, x.l.t.weight ≤ 5000) ∧ ∀ x ∈ gl, x.l.t.weight ≤ 5000) ∧ ∀ x ∈ el, x.l.t.weight ≤ 5000 ∧ x.fs.length ≤ 5000) ∧ ∀ x ∈ da, x.l.t.weight ≤ 5000 ∧ x.bs.length ≤ 5000) ∧ ∀ x ∈ im, x.mo.size ≤ 5000 ∧ x.na.size ≤ 5000) ∧ ∀ (j : Nat) (hj : j < ex.length), j < k → ∃ x, x = ex[j] ∧ x.na.size ≤ 5000) ∧ N0 + (wsum msF fu : Int) + (wsum msG gl : Int) + (wsum msE el : Int) + (wsum msD da : Int) + (wsum msI im : Int) + (wsum msX (ex.take k) : Int) ≤ N) ∧ Hid (Below W0.heap.size W0 wr)) (fun _ vi _ => nex - (intOf vi).toNat)
            case atStart => exact ⟨0, NN, rfl, rfl, Nat.zero_le _, by omega, by omega, fun h => ⟨⟨(HP.out h).1, fun j _ h => absurd h (Nat.not_lt_zero _)⟩, by have := (HP.out h).2; simpa [wsum] using this⟩, HBL⟩
            case round =>
             clear HP HBL hNN1 hNN2
             obtain ⟨k, N, rfl, rfl, hk, hNa, hNb, HQ, HW⟩ := hrel
             have hbx := Go.Proofs.YtepbjkkakfpjgaaGreatDoor.keep HW.out Xex.out
             by_cases hlt : k < nex
             ·have hkl : k < ex.length := by rw [Lex.out]; exact hlt
              obtain ⟨b, off, ha, hb, hc⟩ := Rows.get Rex.out hkl
              rw [ha] at hbx
              have hx : ex[k] ∈ ex := List.getElem_mem hkl
              have hS := HF.out.eS _ hx
              have HST := hid (wsum_step msX hkl)
              obtain ⟨x, hxe⟩ : ∃ x, ex[k] = x := ⟨_, rfl⟩
              have HXE := hid hxe
              rw [hxe] at hc HST hS
              have cc : ∀ j, j < 3 → ∀ v, x.v[j]? = some v → wr.cell? ⟨b, off + k * 3 + j, none⟩ = some v := fun j hj v hv => (HW.out.cell (p := ⟨b, off + k * 3 + j, none⟩) hb).trans (hc j hj v hv)
              have c0 : wr.cell? ⟨b, off + k * 3, none⟩ = some (.string x.na) := cc 0 (by omega) _ rfl
              have hki : (k : Int) < (nex : Int) := by omega
              have hN1' : 1 ≤ N0 := HI.out (by omega)
              by_cases hmn : (5000 : Int) < (x.na.size : Int)
              ·have hmz : min (x.na.size : Int) 5000 = 5000 := by omega
               have HQ' := hid (show N + 5000 ≤ 5000 → (((((((True) ∧ ∀ x ∈ fu, x.l.t.weight ≤ 5000) ∧ ∀ x ∈ gl, x.l.t.weight ≤ 5000) ∧ ∀ x ∈ el, x.l.t.weight ≤ 5000 ∧ x.fs.length ≤ 5000) ∧ ∀ x ∈ da, x.l.t.weight ≤ 5000 ∧ x.bs.length ≤ 5000) ∧ ∀ x ∈ im, x.mo.size ≤ 5000 ∧ x.na.size ≤ 5000) ∧ ∀ (j : Nat) (hj : j < ex.length), j < k + 1 → ∃ x, x = ex[j] ∧ x.na.size ≤ 5000) ∧ N0 + (wsum msF fu : Int) + (wsum msG gl : Int) + (wsum msE el : Int) + (wsum msD da : Int) + (wsum msI im : Int) + (wsum msX (ex.take (k + 1)) : Int) ≤ N + 5000 from fun h => ⟨⟨(HQ.out (by omega)).1.1, fun j hj hjk => by
                 by_cases e : j = k
                 · subst e; exact ⟨x, HXE.out.symm, by omega⟩
                 · exact (HQ.out (by omega)).1.2 j hj (by omega)⟩, by
                 have h1 := (HQ.out (by omega)).2
                 have h2 := HST.out
                 have h3 : msX x = x.na.size := rfl
                 rw [h2]
                 push_cast
                 omega⟩)
               clear HST hx hxe hc cc hb ha
               go_wp2
               go_roundw
               case rel => exact ⟨k + 1, _, rfl, by go_num, by omega, by omega, by omega, HQ', HW⟩
               case measure => simp [intOf]; omega
              ·have hmz : min (x.na.size : Int) 5000 = (x.na.size : Int) := by omega
               have HQ' := hid (show N + (x.na.size : Int) ≤ 5000 → (((((((True) ∧ ∀ x ∈ fu, x.l.t.weight ≤ 5000) ∧ ∀ x ∈ gl, x.l.t.weight ≤ 5000) ∧ ∀ x ∈ el, x.l.t.weight ≤ 5000 ∧ x.fs.length ≤ 5000) ∧ ∀ x ∈ da, x.l.t.weight ≤ 5000 ∧ x.bs.length ≤ 5000) ∧ ∀ x ∈ im, x.mo.size ≤ 5000 ∧ x.na.size ≤ 5000) ∧ ∀ (j : Nat) (hj : j < ex.length), j < k + 1 → ∃ x, x = ex[j] ∧ x.na.size ≤ 5000) ∧ N0 + (wsum msF fu : Int) + (wsum msG gl : Int) + (wsum msE el : Int) + (wsum msD da : Int) + (wsum msI im : Int) + (wsum msX (ex.take (k + 1)) : Int) ≤ N + (x.na.size : Int) from fun h => ⟨⟨(HQ.out (by omega)).1.1, fun j hj hjk => by
                 by_cases e : j = k
                 · subst e; exact ⟨x, HXE.out.symm, by omega⟩
                 · exact (HQ.out (by omega)).1.2 j hj (by omega)⟩, by
                 have h1 := (HQ.out (by omega)).2
                 have h2 := HST.out
                 have h3 : msX x = x.na.size := rfl
                 rw [h2]
                 push_cast
                 omega⟩)
               clear HST hx hxe hc cc hb ha
               go_wp2
               go_roundw
               case rel => exact ⟨k + 1, _, rfl, by go_num, by omega, by omega, by omega, HQ', HW⟩
               case measure => simp [intOf]; omega
             ·obtain rfl : k = nex := by omega
              have HP := hid (show N ≤ 5000 → (((((((True) ∧ ∀ x ∈ fu, x.l.t.weight ≤ 5000) ∧ ∀ x ∈ gl, x.l.t.weight ≤ 5000) ∧ ∀ x ∈ el, x.l.t.weight ≤ 5000 ∧ x.fs.length ≤ 5000) ∧ ∀ x ∈ da, x.l.t.weight ≤ 5000 ∧ x.bs.length ≤ 5000) ∧ ∀ x ∈ im, x.mo.size ≤ 5000 ∧ x.na.size ≤ 5000) ∧ ∀ x ∈ ex, x.na.size ≤ 5000) ∧ N0 + (wsum msF fu : Int) + (wsum msG gl : Int) + (wsum msE el : Int) + (wsum msD da : Int) + (wsum msI im : Int) + (wsum msX ex : Int) ≤ N from fun h => ⟨⟨(HQ.out h).1.1, fun x hx => by
                obtain ⟨j, hj, rfl⟩ := List.mem_iff_getElem.1 hx
                obtain ⟨y, hy, hq⟩ := (HQ.out h).1.2 j hj (by rw [← Lex.out]; exact hj)
                subst hy; exact hq⟩, by have h1 := (HQ.out h).2; rwa [List.take_of_length_le (by rw [Lex.out]; exact Nat.le_refl _)] at h1⟩)
              have hNN1 : N0 ≤ N := by omega
              have hNN2 : N ≤ 600065000 := by omega
              have HBL := HW
              clear HQ hNa hNb HW hlt hk
              have HZ := hid (big_end (m := (⟨ty, im, fu, tb, me, gl, ex, st, sn, el, da, ty', im', fu', tb', me', gl', ex', el', da'⟩ : Md)) (N := N) (HB.out.trans (HBL.out.mono HB.out.size)) (fun h => by
                obtain ⟨⟨⟨⟨⟨⟨⟨_, z1⟩, z2⟩, z3⟩, z4⟩, z5⟩, z6⟩, zs⟩ := HP.out h
                refine ⟨⟨HSUM.out, fun l hl => ?_, fun e he => (z3 e he).2, fun d hd => (z4 d hd).2, z5, z6⟩, by have := HN0.out; unfold Md.total; dsimp only; omega⟩
                unfold Md.codes at hl
                simp only [List.mem_append, List.mem_map] at hl
                rcases hl with ⟨x, hx, rfl⟩ | ⟨x, hx, rfl⟩ | ⟨x, hx, rfl⟩ | ⟨x, hx, rfl⟩
                · exact z1 x hx
                · exact z2 x hx
                · exact (z3 x hx).1
                · exact (z4 x hx).1))
              go_wp2
              go_ret
              exact HZ.out
end Go.Proofs.YtepbjkkakfpjgaaGreatDoor.Mod
namespace Go.Proofs.YtepbjkkakfpjgaaGreatDoor.Enc
open Go.RowKit Leb Go.Proofs.YtepbjkkakfpjgaaGreatDoor.Instr Go.Proofs.YtepbjkkakfpjgaaGreatDoor.Mod
open Go.Proofs.YtepbjkkakfpjgaaGreatDoor.Body (encL codeL encP encRest encTags locL)
theorem tags_lenE : ∀ l : List Int, (l.flatMap encU).length ≤ 5 * l.length
 | [] => by simp
 | a :: r => by
  have h := tags_lenE r
  have h1 := (sizeU_pos a).2
  rw [List.flatMap_cons, List.length_append, encU_length, List.length_cons]
  omega
theorem flat_le {α : Type} (f : α → List Int) (C : Nat) : ∀ l : List α, (∀ x ∈ l, (f x).length ≤ C) → (l.flatMap f).length ≤ l.length * C
 | [], _ => by simp
 | a :: r, h => by
  have h1 := flat_le f C r (fun x hx => h x (List.mem_cons_of_mem _ hx))
  have h2 := h a (List.mem_cons_self ..)
  rw [List.flatMap_cons, List.length_append, List.length_cons, Nat.add_mul]
  omega
theorem fit_le {α : Type} (f : α → List Int) (l : List α) (most : Int) (hl : l.length ≤ 5000) (h : ∀ x ∈ l, (f x).length ≤ 150000) : FitP f l most := by
 unfold FitP
 have h1 := flat_le f 150000 l h
 have h2 := (sizeU_pos (l.length : Int)).2
 have h3 : l.length * 150000 ≤ 5000 * 150000 := Nat.mul_le_mul_right _ hl
 rw [List.length_append, encU_length]
 omega
theorem name_le {s : ByteArray} (h : s.size ≤ 1000) : (nameB s).length ≤ 1005 := by
 have := (sizeU_pos (s.size : Int)).2
 unfold nameB
 rw [List.length_append, encU_length, numsOf_length]
 omega
theorem words_le {n : Int} (h : n ≤ 255) : (Kind.wordsL n).length ≤ 260 := by
 have := (sizeU_pos n).2
 unfold Kind.wordsL
 rw [List.length_append, encU_length, List.length_replicate]
 omega
theorem ins_le {l : Lst} (h : (encL l.t).length ≤ 90000) : (insB l).length ≤ 90001 := by
 unfold insB Body.encP
 rw [List.length_append, List.length_singleton]
 omega
theorem lim_le (n x : Int) (c : Bool) : (Kind.limL n x c).length ≤ 11 := by
 have h1 := (sizeU_pos n).2
 have h2 := (sizeU_pos x).2
 unfold Kind.limL
 split <;> simp only [List.length_cons, List.length_append, encU_length] <;> omega
theorem code_le {n : Int} {t : Il} (h : (encL t).length ≤ 90000) : (codeL n t).length ≤ 90020 := by
 have h1 := (sizeU_pos n).2
 unfold codeL Body.encP
 rw [List.length_append, List.length_append, List.length_singleton]
 have h2 : (locL n).length ≤ 12 := by
  unfold locL
  split <;> simp only [List.length_cons, List.length_append, List.length_nil, encU_length] <;> omega
 omega
theorem fit_of {m : Md} (most : Int) (hc : m.check = 0) (hs : m.small 5000) (he : ∀ l ∈ m.codes, (encL l.t).length ≤ 90000) : FitAll m most := by
 have F := facts_of hc
 have hl := hs.lens
 refine ⟨fit_le _ _ _ (by omega) fun x hx => ?_, fit_le _ _ _ (by omega) fun x hx => ?_, fit_le _ _ _ (by omega) fun x hx => ?_, fit_le _ _ _ (by omega) fun x hx => ?_, fit_le _ _ _ (by omega) fun x hx => ?_, fit_le _ _ _ (by omega) fun x hx => ?_, fit_le _ _ _ (by omega) fun x hx => ?_, fit_le _ _ _ (by omega) fun x hx => ?_, fit_le _ _ _ (by omega) fun x hx => ?_, fit_le _ _ _ (by omega) fun x hx => ?_⟩
 ·have h := F.ty x hx
  unfold Kind.okType at h
  simp only [Bool.and_eq_true, decide_eq_true_eq] at h
  have h1 := words_le (n := x.1) (by omega)
  have h2 := words_le (n := x.2) (by omega)
  unfold tyB Kind.typeL
  rw [List.length_cons, List.length_append]
  omega
 ·have h := F.im x hx
  have h1 := name_le h.1
  have h2 := name_le h.2.1
  have h3 := (sizeU_pos x.ty).2
  unfold impB
  simp only [List.length_cons, List.length_append, encU_length]
  omega
 ·have h3 := (sizeU_pos x.ty).2
  unfold fnB
  rw [encU_length]
  omega
 ·have h := lim_le x.n x.x x.c
  unfold tbB
  rw [List.length_cons]
  omega
 ·have h := lim_le x.n x.x x.c
  unfold meB
  omega
 ·have h := ins_le (he _ (mem_gl hx))
  unfold glB
  simp only [List.length_cons]
  omega
 ·have h1 := name_le (F.ex x hx).1
  have h3 := (sizeU_pos x.i).2
  unfold exB
  simp only [List.length_cons, List.length_append, encU_length]
  omega
 ·have h := ins_le (he _ (mem_el hx))
  have h1 := hs.fs x hx
  have h2 := tags_lenE x.fs
  have h3 := (sizeU_pos (x.fs.length : Int)).2
  unfold elB
  simp only [List.length_cons, List.length_append, encU_length]
  omega
 ·have h := code_le (n := x.lo) (he _ (mem_fu hx))
  have h3 := (sizeU_pos ((codeL x.lo x.l.t).length : Int)).2
  unfold coB
  rw [List.length_append, encU_length]
  omega
 ·have h := ins_le (he _ (mem_da hx))
  have h1 := hs.bs x hx
  have h3 := (sizeU_pos (x.bs.length : Int)).2
  unfold daB
  simp only [List.length_cons, List.length_append, encU_length]
  omega
end Go.Proofs.YtepbjkkakfpjgaaGreatDoor.Enc
namespace Go.Proofs.YtepbjkkakfpjgaaGreatDoor.Enc
open Go.RowKit Leb Go.Proofs.YtepbjkkakfpjgaaGreatDoor.Instr Go.Proofs.YtepbjkkakfpjgaaGreatDoor.Mod
open Go.Proofs.YtepbjkkakfpjgaaGreatDoor.Body (encL codeL encRest encTags encU_lens encS_lens)
theorem rest_lenE (x : Ix) : (encRest x).length ≤ 10 + 5 * x.tags.length := by
 have ha := (encU_lens x.a).1
 have hb := (encU_lens x.b).1
 have hn := (encS_lens x.n).1
 have ht := (encU_lens (x.tags.length : Int)).1
 have hl := tags_lenE x.tags
 unfold encRest encTags
 split <;> (try simp only [List.length_append, List.length_cons, List.length_nil]) <;> omega
theorem encL_lenE : ∀ t : Il, (encL t).length ≤ 13 * t.weight
 | .nil => by simp [encL]
 | .cons x l e r => by
  have h0 := rest_lenE x
  have h1 := encL_lenE l
  have h2 := encL_lenE e
  have h3 := encL_lenE r
  simp only [encL, Il.weight]
  split <;> (try split) <;> simp only [List.length_append, List.length_cons, List.length_nil] <;> omega
theorem enc_few {m : Md} (hs : m.small 5000) : ∀ l ∈ m.codes, (encL l.t).length ≤ 90000 := fun l hl => by
 have h1 := encL_lenE l.t
 have h2 := hs.ls l hl
 omega
theorem ready_of {w : World} {m : Md} (hT : Nams w) (hU : Utf.Tabs w) (hm : ModAt w.heap.size w m) (hf : m.fits) (hr : m.ranged) (hs : m.small 5000) : Ready w m := by
 have hl := hs.lens
 refine ⟨hT, hU, hm, ⟨hf, fun l h => ?_, by omega, by omega, by omega, by omega, by omega, by omega, by omega, by omega, by omega⟩, ⟨hr.n0, hr.ei, hr.ef, hr.db, hr.sn⟩, enc_few hs⟩
 have h1 := weight_count l.t
 have h2 := hs.ls l h
 omega
end Go.Proofs.YtepbjkkakfpjgaaGreatDoor.Enc
namespace Go.Proofs.YtepbjkkakfpjgaaGreatDoor.Body
set_option linter.unusedVariables false
open Go.RowKit Go.Proofs.YtepbjkkakfpjgaaGreatDoor.Instr
open Kind (Rd numR refuseR)
theorem Bx.belowB {B : Nat} {w w' : World} {g : Nat} {x : Ix} (h : Bx g x w) (hb : Below B w w') (hg : g < B) : Bx g x w' :=
 ⟨⟨(hb.cell hg).trans h.at_.c0, (hb.cell hg).trans h.at_.c1, (hb.cell hg).trans h.at_.c2, (hb.cell hg).trans h.at_.c3, (hb.cell hg).trans h.at_.c4, (hb.cell hg).trans h.at_.c5, (hb.cell hg).trans h.at_.c6, (hb.cell hg).trans h.at_.c7⟩,
   (hb.frozen hg).trans h.f0, (hb.frozen hg).trans h.f1, (hb.frozen hg).trans h.f2, (hb.frozen hg).trans h.f3, (hb.frozen hg).trans h.f4, (hb.frozen hg).trans h.f5, (hb.frozen hg).trans h.f6, (hb.frozen hg).trans h.f7⟩
structure Mid (w : World) (k : Nat) (v : Value) (n : Int) (s : Rd) (x : Ix) (W : World) : Prop where
 r : RcIs W k v s n
 sv : Save k w W
 res : Bx w.heap.size zeroX W
 box : Bx (w.heap.size + 1) x W
 lt : k < w.heap.size
section
variable {w W W' : World} {k : Nat} {v : Value} {n : Int} {s s' : Rd} {x : Ix}
end
def fin (w : World) (g : Nat) (x : Ix) : World :=
 (((((((w.setCell ⟨g, 0, none⟩ (.int .i64 x.op)).setCell ⟨g, 1, none⟩ (.int .i64 x.res)).setCell ⟨g, 2, none⟩ (.int .u32 x.a)).setCell ⟨g, 3, none⟩ (.int .u32 x.b)).setCell ⟨g, 4, none⟩ (.int .i32 x.n)).setCell ⟨g, 5, none⟩ (.slice x.ta x.tags.length x.tc)).setCell ⟨g, 6, none⟩ (.slice x.la x.ln x.lc)).setCell ⟨g, 7, none⟩ (.slice x.ea x.en x.ec)
end Go.Proofs.YtepbjkkakfpjgaaGreatDoor.Body
/-
  BODY: the document's own reading of an instruction with labels, by contract.
-/
namespace Go.Proofs.YtepbjkkakfpjgaaGreatDoor.Body
set_option linter.unusedVariables false
open Go.RowKit Go.Proofs.YtepbjkkakfpjgaaGreatDoor.Instr
open Kind (Rd numR refuseR)
end Go.Proofs.YtepbjkkakfpjgaaGreatDoor.Body
/-
  BODY: the document's own reading of lists: what a list, and an instruction with lists, give; the list that is read so far (plain, and in memory).
-/
namespace Go.Proofs.YtepbjkkakfpjgaaGreatDoor.Body
set_option linter.unusedVariables false
open Go.RowKit Go.Proofs.YtepbjkkakfpjgaaGreatDoor.Instr
open Kind (Rd numR refuseR)
structure LOk (w : World) (out : Value) (t : Il) (W : World) : Prop where
 row : W.ownsRow w.heap.size 126 8 out t.len t.cells
 kids : t.kids W
 low : ∀ q ∈ t.foot, w.heap.size ≤ q
 apart : ∀ q ∈ t.foot, out.ownBlock ≠ some q
theorem LOk.start (w W : World) : LOk w (.slice none 0 0) .nil W := ⟨World.ownsRow_nil _ _ _ _, trivial, by simp [Il.foot], by simp [Il.foot]⟩
theorem LOk.touch {S : Nat → Prop} {w W W' : World} {out : Value} {t : Il} (h : LOk w out t W) (ht : Touch S W W') (hs : ∀ q, w.heap.size ≤ q → ¬ S q) : LOk w out t W' :=
 ⟨touch_row h.row ht (fun g hg => hs g (World.ownsRow.lt h.row g hg).1), kids_touch ht h.kids (fun q hq => hs q (h.low q hq)), h.low, h.apart⟩
theorem LOk.value {w W : World} {out : Value} {t : Il} (h : LOk w out t W) : ∃ a c, out = .slice a t.len c ∧ ListAt W.heap.size W a t.len t ∧ ∀ q ∈ blkOf t.len a ++ t.foot, w.heap.size ≤ q := by
 obtain ⟨a, c, e1, e2, e3⟩ := list_of_row h.row h.kids
 refine ⟨a, c, e1, e2, fun q hq => ?_⟩
 rcases List.mem_append.1 hq with hq | hq
 ·rw [e3] at hq
  split at hq
  ·simp at hq
  ·split at hq
   ·rename_i g hg
    simp at hq
    subst hq
    exact (World.ownsRow.lt h.row q hg).1
   ·simp at hq
 ·exact h.low q hq
theorem LOk.snoc {w W W2 W3 : World} {out : Value} {t : Il} {y : Ix} {l f : Il} {g cap : Nat} {o : Obj} (h : LOk w out t W) (h2 : LOk w out t W2) (hk : (Il.cons y l f .nil).kids W2) (hlo : ∀ q ∈ (Il.cons y l f .nil).foot, W.heap.size ≤ q) (hw : w.heap.size ≤ W.heap.size)
  (hown : W3.ownsRow w.heap.size 126 8 (.slice (some ⟨g, 0, none⟩) (t.len + 1) cap) (t.len + 1) (t.cells ++ y.vals.toList)) (hg : (W2.alloc o).grownBy W3 out.ownBlock) (hat : out.ownBlock = some g ∨ g = (W2.alloc o).heap.size) :
  LOk w (.slice (some ⟨g, 0, none⟩) (t.len + 1) cap) (t.app (.cons y l f .nil)) W3 := by
 have ht : Touch (fun j => out.ownBlock = some j) W2 W3 := (Touch.of_below (thenA (Below.refl _ _) o)).trans (Touch.of_grown hg)
 have hne : ∀ q ∈ (Il.cons y l f .nil).foot, out.ownBlock ≠ some q := fun q hq e => by
  have h1 := hlo q hq
  have h3 := (World.ownsRow.lt h.row q e).2
  omega
 have hlt : ∀ q ∈ t.foot, q < W2.heap.size := kids_lt h2.kids
 have hlt2 : ∀ q ∈ (Il.cons y l f .nil).foot, q < W2.heap.size := kids_lt hk
 have hsz : (W2.alloc o).heap.size = W2.heap.size + 1 := by simp
 refine ⟨?_, kids_app _ _ (kids_touch ht h2.kids h2.apart) (kids_touch ht hk hne), ?_, ?_⟩
 ·rw [app_len, cells_app]
  simp only [Il.len, Il.cells, List.append_nil, Nat.zero_add]
  exact hown
 ·intro q hq
  rw [foot_app] at hq
  rcases List.mem_append.1 hq with hq | hq
  ·exact h2.low q hq
  ·exact Nat.le_trans hw (hlo q hq)
 ·intro q hq e
  simp only [Value.ownBlock, Option.some.injEq] at e
  subst e
  rw [foot_app] at hq
  rcases hat with hat | hat
  ·rcases List.mem_append.1 hq with hq | hq
   ·exact h2.apart g hq hat
   ·exact hne g hq hat
  ·rcases List.mem_append.1 hq with hq | hq
   ·have := hlt g hq; omega
   ·have := hlt2 g hq; omega
section
variable {ops : Array Oper} {rest : List Oper} {o : Oper} {act : Act} {Q : Exit → Act → World → Prop}
theorem append_ins (hgd : o.guard = none) (s x : Operand) (ho : o.op = .call { callee := .builtin .append, args := #[s, x], argTypes := #[45, 45] })
  {base n : Nat} {wr : World} {v : Value} {xs : List Value} (y : Ix) (hs : act.eval s = v) (hown : wr.ownsRow base 126 8 v n xs) (hbase : base ≤ wr.heap.size)
  (hx : act.eval x = .slice (some ⟨wr.heap.size, 0, none⟩) 1 1) (hn : n ≤ 1000000)
  (h : ∀ g cap w', w'.ownsRow base 126 8 (.slice (some ⟨g, 0, none⟩) (n + 1) cap) (n + 1) (xs ++ y.vals.toList) → (wr.alloc (.cells y.vals 126)).grownBy w' v.ownBlock → (v.ownBlock = some g ∨ g = (wr.alloc (.cells y.vals 126)).heap.size) → wpList Tryz.prog ops Q rest (act.put o.dst (.slice (some ⟨g, 0, none⟩) (n + 1) cap)) w') :
  wpList Tryz.prog ops Q (o :: rest) act (wr.alloc (.cells y.vals 126)) := by
 obtain ⟨i0, hi, hz0, hz1, hz2⟩ := info_parts infoI
 refine wpList_append_lies _ hgd s x 45 ho base 126 i0 zeroI 8 104 Tryz.underlying45 hi hz0 hz1 hz2 rfl (by decide) v n xs hs (World.ownsRow.alloc hown _) ⟨wr.heap.size, 0, none⟩ 1 1 y.vals.toList hx rfl
  (World.news_of_block (heap_alloc_new wr _)) ?_ (by omega) ?_ ?_ ?_ _ rfl (fun g cap w' h1 h2 h3 _ => h g cap w' h1 h2 h3)
 ·intro u hu
  simp only [Ix.vals, List.mem_cons, List.not_mem_nil, or_false] at hu
  rcases hu with rfl | rfl | rfl | rfl | rfl | rfl | rfl | rfl <;> rfl
 ·unfold maxLen; omega
 ·omega
 ·simp; omega
end
end Go.Proofs.YtepbjkkakfpjgaaGreatDoor.Body
/-
  BODY: the document's own reading of an instruction that has lists, by contract. (tools/gen_bodyrefb.py)
-/
namespace Go.Proofs.YtepbjkkakfpjgaaGreatDoor.Body
set_option linter.unusedVariables false
open Go.RowKit Go.Proofs.YtepbjkkakfpjgaaGreatDoor.Instr
open Kind (Rd numR refuseR)
theorem Bx.setL {g : Nat} {x : Ix} {w : World} (h : Bx g x w) (a : Option Addr) (n c : Nat) : Bx g ⟨x.op, x.res, x.a, x.b, x.n, x.tags, x.ta, x.tc, a, n, c, x.ea, x.en, x.ec⟩ (w.setCell ⟨g, 6, none⟩ (.slice a n c)) := by
 obtain ⟨⟨c0, c1, c2, c3, c4, c5, c6, c7⟩, f0, f1, f2, f3, f4, f5, f6, f7⟩ := h
 refine ⟨⟨?_, ?_, ?_, ?_, ?_, ?_, ?_, ?_⟩, ?_, ?_, ?_, ?_, ?_, ?_, ?_, ?_⟩ <;> simp [go_sem, *]
theorem Bx.setE {g : Nat} {x : Ix} {w : World} (h : Bx g x w) (a : Option Addr) (n c : Nat) : Bx g ⟨x.op, x.res, x.a, x.b, x.n, x.tags, x.ta, x.tc, x.la, x.ln, x.lc, a, n, c⟩ (w.setCell ⟨g, 7, none⟩ (.slice a n c)) := by
 obtain ⟨⟨c0, c1, c2, c3, c4, c5, c6, c7⟩, f0, f1, f2, f3, f4, f5, f6, f7⟩ := h
 refine ⟨⟨?_, ?_, ?_, ?_, ?_, ?_, ?_, ?_⟩, ?_, ?_, ?_, ?_, ?_, ?_, ?_, ?_⟩ <;> simp [go_sem, *]
structure Blk (w : World) (k : Nat) (v : Value) (n : Int) (s : Rd) (x : Ix) (W : World) : Prop where
 r : RcIs W k v s n
 sv : Save k w W
 box : Bx w.heap.size x W
 res : Bx (w.heap.size + 1) zeroX W
 lt : k < w.heap.size
section
variable {w W W' : World} {k : Nat} {v : Value} {n : Int} {s s' : Rd} {x : Ix}
theorem Blk.size (M : Blk w k v n s x W) : w.heap.size + 2 ≤ W.heap.size := by
 have := World.block_lt_of_cell? W _ M.res.at_.c0
 simp only at this
 omega
end
end Go.Proofs.YtepbjkkakfpjgaaGreatDoor.Body
/-
  BODY: the document's own one and list, by contract. (tools/gen_bodyrefl.py)
-/
namespace Go.Proofs.YtepbjkkakfpjgaaGreatDoor.Body
set_option linter.unusedVariables false
open Go.RowKit Go.Proofs.YtepbjkkakfpjgaaGreatDoor.Instr
open Kind (Rd numR refuseR)
theorem Mid.size {w W : World} {k : Nat} {v : Value} {n : Int} {s : Rd} {x : Ix} (M : Mid w k v n s x W) : w.heap.size + 2 ≤ W.heap.size := by
 have := World.block_lt_of_cell? W _ M.box.at_.c0
 simp only at this
 omega
end Go.Proofs.YtepbjkkakfpjgaaGreatDoor.Body
/-
  BODY: the document's own list, by contract. (tools/gen_bodyrefm.py)
-/
namespace Go.Proofs.YtepbjkkakfpjgaaGreatDoor.Body
set_option linter.unusedVariables false
open Go.RowKit Go.Proofs.YtepbjkkakfpjgaaGreatDoor.Instr
open Kind (Rd numR refuseR)
def LI (zs : List Int) (d : Nat) (o : Bool) (w : World) (R : Lr) (out : Value) (W : World) (s : Rd) (c : Int) : Prop :=
 if s.2.1 = 0 then ∃ t, LOk w out t W ∧ R = Lr.pre t.bare (listF zs d o c s) ∧ (t.len : Int) ≤ c ∧ 0 ≤ c ∧ c ≤ 262144
 else (∃ a n e, out = .slice a n e) ∧ R.s = s ∧ R.n = c
theorem below_grown {w W W' : World} {out : Value} {n : Nat} {xs : List Value} {o : Obj} (h : W.ownsRow w.heap.size 126 8 out n xs) (hw : w.heap.size ≤ W.heap.size) (hg : (W.alloc o).grownBy W' out.ownBlock) : Below w.heap.size W W' :=
 ((Below.refl w.heap.size W).alloc hw o).grown hg (by simp; omega) (fun j hj => (World.ownsRow.lt h j hj).1)
end Go.Proofs.YtepbjkkakfpjgaaGreatDoor.Body
/-
  BODY: the document's own Get, by contract.
-/
namespace Go.Proofs.YtepbjkkakfpjgaaGreatDoor.Body
set_option linter.unusedVariables false
open Go.RowKit Go.Proofs.YtepbjkkakfpjgaaGreatDoor.Instr
open Kind (Rd numR refuseR)
theorem alloc_bq (w : World) (o : Obj) : Below w.heap.size w (w.alloc o) := (Below.refl _ _).alloc (Nat.le_refl _) o
end Go.Proofs.YtepbjkkakfpjgaaGreatDoor.Body
namespace Go.Proofs.YtepbjkkakfpjgaaGreatDoor
open Go
section
variable {P : Program} {md : Region.Mode} {ops : Array Oper} {Q : Exit → Act → World → Prop} {S : World → Prop} {L : Nat}
def Till (P : Program) (md : Region.Mode) (ops : Array Oper) (Q : Exit → Act → World → Prop) (S : World → Prop) (L : Nat) : Nat → Array Bool → Act → World → Prop
 | 0, l, a, w => Region.ready md ops l = [] ∧ Q .normal a w
 | n + 1, l, a, w => (Region.ready md ops l = [] → Q .normal a w) ∧ ∀ i ∈ Region.ready md ops l, wpOp P ops Q i (fun a' w' => (i ≠ L → S w') ∧ Till P md ops Q S L n (l.setIfInBounds i true) a' w') a w
theorem Till.any : ∀ (n : Nat) (l : Array Bool) (a : Act) (w : World), Till P md ops Q S L n l a w → wpAny P md ops Q n l a w
 | 0, _, _, _, h => h
 | n + 1, _, _, _, h => ⟨h.1, fun i hi => wpOp_mono (fun a' w' k => Till.any n _ a' w' k.2) (h.2 i hi)⟩
theorem Till.begin {id : Nat} {a : Act} {w : World} (hm : P.follows .mixedOrders = true) (hS : S w.drew)
  (h : S w.drew → Till P .any ops Q S L ops.size (Array.replicate ops.size false) a w.drew) : (Code.region id ops true).wp P Q a w :=
 wp_region_any hm (Till.any _ _ _ _ (h hS))
theorem not_ahead {l : Array Bool} {i j : Nat} {oj : Oper} (hj : ops[j]? = some oj) (hw : (oj.after.any fun e => Region.binds md e && e.on == i) = true) (hi : i ∈ Region.ready md ops l) : j ∉ Region.ready md ops l := by
 intro h
 obtain ⟨_, o, ho, hall⟩ := mem_ready.1 h
 rw [hj] at ho
 obtain rfl := Option.some.inj ho
 obtain ⟨e, he, hb⟩ := Array.any_eq_true'.1 hw
 simp only [Bool.and_eq_true, beq_iff_eq] at hb
 have h1 := hall e he hb.1
 rw [hb.2] at h1
 have h0 := (mem_ready.1 hi).1
 rw [Array.getD_eq_getD_getElem?] at h0 h1
 cases hl : l[i]? with
 | none => rw [hl] at h1; simp at h1
 | some b => rw [hl] at h0 h1; simp at h0 h1; rw [h0] at h1; cases h1
theorem Till.first {i : Nat} {oi oL : Oper} {v : Value} (hi : ops[i]? = some oi) (hsel : ∀ (j : Nat) (o : Oper) cs b, ops[j]? = some o → o.op ≠ .select cs b)
  (hL : ops[L]? = some oL) (hw : (oL.after.any fun e => Region.binds md e && e.on == i) = true) (hQ : ∀ c a w, Q (.panic c) (a.put oi.dst v) w → Q (.panic c) a w) :
  ∀ (n : Nat) (l : Array Bool) (a : Act) (w : World),
   (∀ j oj, ops[j]? = some oj → j ≠ i → l.getD j true = false → (∀ e ∈ oj.after, Region.binds md e = true → e.on ≠ i) → oi.apart ops oj = true) →
   i ∈ Region.ready md ops l → YieldsIf P ops S oi v a → S w → Till P md ops Q S L n (l.setIfInBounds i true) (a.put oi.dst v) w → Till P md ops Q S L (n + 1) l a w
 | n, l, a, w, hfree, hr, hy, hS, H => by
  refine ⟨fun h => (by rw [h] at hr; cases hr), fun j hj => ?_⟩
  rcases Nat.decEq j i with hji | hji
  rotate_left
  ·subst hji; exact hy.wpOp hi hS ⟨fun _ => hS, H⟩
  have hjL : j ≠ L := fun e => not_ahead hL hw hr (e ▸ hj)
  have hj2 := ready_mono hj hji
  cases n with
  | zero => rw [H.1] at hj2; cases hj2
  | succ n =>
   have h1 := H.2 j hj2
   obtain ⟨hjun, oj, hoj, hall⟩ := mem_ready.1 hj
   have hno : ∀ e ∈ oj.after, Region.binds md e = true → e.on ≠ i := fun e he hb heq => by
    refine not_ahead hoj ?_ hr hj
    exact Array.any_eq_true'.2 ⟨e, he, by simp [hb, heq]⟩
   have h2 := wpOp_putIf hoj (hfree j oj hoj hji hjun hno) (fun cs b => hsel i oi cs b hi) (fun cs b => hsel j oj cs b hoj) hQ hy h1
   refine wpOp_mono (fun a' w' k => ⟨fun h => k.2.1 h, Till.first hi hsel hL hw hQ n (l.setIfInBounds j true) a' w' (fun q oq hq hqi hun hn => ?_) (ready_mono hr (Ne.symm hji)) k.1 (k.2.1 hjL) ?_⟩) h2
   ·refine hfree q oq hq hqi ?_ hn
    by_cases e : j = q
    ·subst e; exact hjun
    ·rwa [getD_set_ne true e] at hun
   ·rw [Array.setIfInBounds_comm _ _ hji]; exact k.2.2
theorem Till.take {i : Nat} {oi oL : Oper} {v : Value} {n : Nat} {l : Array Bool} {a : Act} {w : World} (hi : ops[i]? = some oi) (hs : Region.noSelect ops = true) (hf : Region.free md ops l i = true) (hr : (Region.ready md ops l).contains i = true)
  (hL : ops[L]? = some oL) (hw : (oL.after.any fun e => Region.binds md e && e.on == i) = true) (hQ : ∀ c a w, Q (.panic c) (a.put oi.dst v) w → Q (.panic c) a w) (hy : YieldsIf P ops S oi v a) (hS : S w)
  (h : Till P md ops Q S L n (l.setIfInBounds i true) (a.put oi.dst v) w) : Till P md ops Q S L (n + 1) l a w :=
 Till.first hi (Region.noSelect_spec hs) hL hw hQ n l a w (Region.free_spec hi hf) (by simpa using hr) hy hS h
def Then (P : Program) (md : Region.Mode) (ops : Array Oper) (Q : Exit → Act → World → Prop) (S : World → Prop) (L n : Nat) (l : Array Bool) (a : Act) (w : World) (i : Nat) : Prop :=
 wpOp P ops Q i (fun a' w' => (i ≠ L → S w') ∧ Till P md ops Q S L n (l.setIfInBounds i true) a' w') a w
theorem Then.of {n : Nat} {l : Array Bool} {a : Act} {w : World} {i : Nat} {o : Oper} (ho : ops[i]? = some o)
  (h : ∀ K' : Act → World → Prop, Shut (∀ a w, (i ≠ L → S w) → (S w ∨ i = L → Till P md ops Q S L n (l.setIfInBounds i true) a w) → K' a w) → if Region.wanted o (yielded ops a.tmps) = true then Oper.wp P o a w K' Q else K' (a.put o.dst undef) w) : Then P md ops Q S L n l a w i :=
 wpOp_step ho (fun K' hK => h K' (fun a w hS hW => hK a w ⟨hS, hW (by
   by_cases e : i = L
   · exact .inr e
   · exact .inl (hS e))⟩))
theorem Till.one {n : Nat} {l : Array Bool} {a : Act} {w : World} {i : Nat} (hr : Region.ready md ops l = [i]) (h : Then P md ops Q S L n l a w i) : Till P md ops Q S L (n + 1) l a w :=
 ⟨fun h0 => (by rw [hr] at h0; cases h0), fun j hj => by rw [hr, List.mem_singleton] at hj; subst hj; exact h⟩
theorem Till.two {n : Nat} {l : Array Bool} {a : Act} {w : World} {i k : Nat} (hr : Region.ready md ops l = [i, k]) (h : Then P md ops Q S L n l a w i) (g : Then P md ops Q S L n l a w k) : Till P md ops Q S L (n + 1) l a w :=
 ⟨fun h0 => (by rw [hr] at h0; cases h0), fun j hj => by
   rw [hr] at hj
   rcases List.mem_cons.1 hj with rfl | hj
   · exact h
   · rw [List.mem_singleton] at hj; subst hj; exact g⟩
theorem Till.done {l : Array Bool} {a : Act} {w : World} (hr : Region.ready md ops l = []) (h : Q .normal a w) : ∀ n, Till P md ops Q S L n l a w
 | 0 => ⟨hr, h⟩
 | _ + 1 => ⟨fun _ => h, by rw [hr]; simp⟩
end
end Go.Proofs.YtepbjkkakfpjgaaGreatDoor
namespace Go.Proofs.YtepbjkkakfpjgaaGreatDoor.Mod
open Go.RowKit Go.Proofs.YtepbjkkakfpjgaaGreatDoor.Instr
theorem eqImp (a b a' b' : ByteArray) (c c' : Int) (w : World) : (Op.equalIn 10000 73 (.agg #[.string a, .string b, .int .i64 c]) (.agg #[.string a', .string b', .int .i64 c'])).run Tryz.prog w = .ok (a.toList == a'.toList && b.toList == b'.toList && c == c') w := by
 have u3 := Tryz.underlying3
 have a3 := Tryz.isAgg3
 have z3 := Tryz.sizeOf3
 have u4 := Tryz.underlying9
 have a4 := Tryz.isAgg9
 have z4 := Tryz.sizeOf9
 have hS : Tryz.prog.underlying 73 = some (.struct (Tryz.prog.fieldsOf 73)) := by kernel_rfl
 have hp : Tryz.prog.stoodInHeld 73 = false := by kernel_rfl
 rw [show (10000 : Nat) = 9999 + 1 from rfl, run_equalIn_agg w 9999 73 _ _ hS hp]
 simp only [Program.fieldsOf, Tryz.underlying73]
 go_simp
 by_cases h1 : a.toList = a'.toList <;> by_cases h2 : b.toList = b'.toList <;> by_cases h3 : c = c' <;> simp [h1, h2, h3]
theorem guardImp (op : BinOp) (x y : Operand) (xs ys : Array Value) (w : World) : (eqGuard op 73 x y (.agg xs) (.agg ys)).run Tryz.prog w = .ok () w :=
 run_eqGuard_agg w op _ x y xs ys (by kernel_rfl)
theorem eqExp (a a' : ByteArray) (b c b' c' : Int) (w : World) : (Op.equalIn 10000 75 (.agg #[.string a, .int .i64 b, .int .u32 c]) (.agg #[.string a', .int .i64 b', .int .u32 c'])).run Tryz.prog w = .ok (a.toList == a'.toList && b == b' && c == c') w := by
 have u3 := Tryz.underlying3
 have a3 := Tryz.isAgg3
 have z3 := Tryz.sizeOf3
 have u4 := Tryz.underlying9
 have a4 := Tryz.isAgg9
 have z4 := Tryz.sizeOf9
 have u5 := Tryz.underlying28
 have a5 := Tryz.isAgg28
 have z5 := Tryz.sizeOf28
 have hS : Tryz.prog.underlying 75 = some (.struct (Tryz.prog.fieldsOf 75)) := by kernel_rfl
 have hp : Tryz.prog.stoodInHeld 75 = false := by kernel_rfl
 rw [show (10000 : Nat) = 9999 + 1 from rfl, run_equalIn_agg w 9999 75 _ _ hS hp]
 simp only [Program.fieldsOf, Tryz.underlying75]
 go_simp
 by_cases h1 : a.toList = a'.toList <;> by_cases h2 : b = b' <;> by_cases h3 : c = c' <;> simp [h1, h2, h3]
theorem guardExp (op : BinOp) (x y : Operand) (xs ys : Array Value) (w : World) : (eqGuard op 75 x y (.agg xs) (.agg ys)).run Tryz.prog w = .ok () w :=
 run_eqGuard_agg w op _ x y xs ys (by kernel_rfl)
theorem toList_ne {a b : ByteArray} (h : ¬ a = b) : ¬ a.toList = b.toList := fun e => h (ByteArray.ext (Array.toList_inj.1 (by rwa [ByteArray.toList_eq, ByteArray.toList_eq] at e)))
set_option maxRecDepth 100000 in
set_option maxHeartbeats 2000000 in
theorem SameCodes_any (x y : Mod.Fn) (n₀ : Nat) (w : World) (h1 : ListAt n₀ w x.l.a x.l.t.len x.l.t) (h2 : ListAt n₀ w y.l.a y.l.t.len y.l.t) (hn : n₀ ≤ w.heap.size) (b1 : x.l.t.len ≤ 140737488351232) (b2 : y.l.t.len ≤ 140737488351232) :
  Calls Tryz.prog 36 #[.agg #[.int .i64 x.lo, .slice x.l.a x.l.t.len x.l.c], .agg #[.int .i64 y.lo, .slice y.l.a y.l.t.len y.l.c]] w fun e w' => e = .returned (.bool (is (x.lo = y.lo ∧ x.l.t.bare = y.l.t.bare))) ∧ Below w.heap.size w w' := by
 have hb0 := (Below.refl w.heap.size w).alloc (Nat.le_refl _) (.cells #[.int .i64 x.lo, .slice x.l.a x.l.t.len x.l.c] 64)
 have hb1 := thenA hb0 (.cells #[.int .i64 y.lo, .slice y.l.a y.l.t.len y.l.c] 64)
 have C := hid (SameInstrs_any n₀ (max x.l.t.count y.l.t.count) x.l.t y.l.t x.l.a y.l.a x.l.t.len y.l.t.len x.l.c y.l.c _ (by omega) (by omega) (h1.below (hb1.mono hn)) (h2.below (hb1.mono hn)) (Nat.le_trans hn hb1.size) b1 b2)
 have HB := hid hb1
 obtain ⟨lo, hlo⟩ : ∃ n, x.lo = n := ⟨_, rfl⟩
 obtain ⟨lo', hlo'⟩ : ∃ n, y.lo = n := ⟨_, rfl⟩
 have HY := hid (fun (g : lo = lo') (g2 : x.l.t.bare = y.l.t.bare) => is_yes (p := x.lo = y.lo ∧ x.l.t.bare = y.l.t.bare) ⟨by rw [hlo, hlo', g], g2⟩)
 have HN := hid (fun (g : ¬ (lo = lo' ∧ x.l.t.bare = y.l.t.bare)) => is_no (p := x.lo = y.lo ∧ x.l.t.bare = y.l.t.bare) (fun e => g ⟨by rw [← hlo, ← hlo', e.1], e.2⟩))
 obtain ⟨r, hr⟩ : ∃ r, is (x.lo = y.lo ∧ x.l.t.bare = y.l.t.bare) = r := ⟨_, rfl⟩
 rw [hr] at HY HN ⊢
 rw [hlo, hlo'] at C HB ⊢
 clear h1 h2 hb0 hb1 hlo hlo' hr
 by_cases g : lo = lo'
 ·subst g
  by_cases g2 : x.l.t.bare = y.l.t.bare
  ·rw [is_yes g2] at C
   have HE := hid (HY.out rfl g2)
   clear HY HN g2
   go_enter Tryz.func36, Tryz.ntmps36
   go_wp2_with fail
   refine C.out.mono ?_
   rintro e w1 ⟨rfl, hb⟩
   clear C
   go_wp2
   go_ret
   exact ⟨ret_bool HE.out.symm, HB.out.trans (hb.mono HB.out.size)⟩
  ·rw [is_no g2] at C
   have HE := hid (HN.out (fun h => g2 h.2))
   clear HY HN g2
   go_enter Tryz.func36, Tryz.ntmps36
   go_wp2_with fail
   refine C.out.mono ?_
   rintro e w1 ⟨rfl, hb⟩
   clear C
   go_wp2
   go_ret
   exact ⟨ret_bool HE.out.symm, HB.out.trans (hb.mono HB.out.size)⟩
 ·have HE := hid (HN.out (fun h => g h.1))
  have q1 : (lo == lo') = false := beq_eq_false_iff_ne.2 g
  clear HY HN C
  go_enter Tryz.func36, Tryz.ntmps36
  go_wp2
  go_ret
  exact ⟨ret_bool HE.out.symm, HB.out⟩
end Go.Proofs.YtepbjkkakfpjgaaGreatDoor.Mod
