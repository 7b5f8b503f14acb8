import Derived.Test.YtckdnhafookcgaaGreatDoorPr12
import Derived.Test.YtckdnhafookcgaaGreatDoorPr01
import Derived.Test.YtckdnhafookcgaaGreatDoorPr05
import Derived.Test.YtckdnhafookcgaaGreatDoorPr10
import Derived.Test.YtckdnhafookcgaaGreatDoorPr11
import Derived.Deep.RegionHeld
import Derived.RegionTactic
import Derived.BigRegion
import Derived.Deep.QuietTactic
import Derived.BigQuiet
import Derived.Lib.SliceRun
import Derived.Deep.RegionHeld3
import Derived.Deep.Cut
import Derived.Laws.StructEq
namespace Go.Proofs.YtckdnhafookcgaaGreatDoor.Instr
end Go.Proofs.YtckdnhafookcgaaGreatDoor.Instr
namespace Go.Proofs.YtckdnhafookcgaaGreatDoor.Num
end Go.Proofs.YtckdnhafookcgaaGreatDoor.Num
namespace Go.Proofs.YtckdnhafookcgaaGreatDoor.Kind
end Go.Proofs.YtckdnhafookcgaaGreatDoor.Kind
namespace Go.Proofs.YtckdnhafookcgaaGreatDoor.Mod
end Go.Proofs.YtckdnhafookcgaaGreatDoor.Mod
namespace Go.Proofs.YtckdnhafookcgaaGreatDoor.Mod
open Go.RowKit Go.Proofs.YtckdnhafookcgaaGreatDoor.Instr
set_option linter.unusedVariables false

theorem infoTy : (Tryz.prog.info? 92).map (fun i => (i.zero, i.size, i.bytes)) = some (some (.agg #[.int .i64 0, .int .i64 0]), 2, 16) := by kernel_rfl
theorem infoIm : (Tryz.prog.info? 90).map (fun i => (i.zero, i.size, i.bytes)) = some (some (.agg #[.string ⟨#[]⟩, .string ⟨#[]⟩, .int .i64 0]), 3, 40) := by kernel_rfl
theorem infoFn : (Tryz.prog.info? 101).map (fun i => (i.zero, i.size, i.bytes)) = some (some (.agg #[.int .i64 0, .int .i64 0, .slice none 0 0]), 3, 40) := by kernel_rfl
theorem infoLi : (Tryz.prog.info? 83).map (fun i => (i.zero, i.size, i.bytes)) = some (some (.agg #[.int .u32 0, .int .u32 0, .bool false]), 3, 12) := by kernel_rfl
theorem infoGl : (Tryz.prog.info? 94).map (fun i => (i.zero, i.size, i.bytes)) = some (some (.agg #[.bool false, .slice none 0 0]), 2, 32) := by kernel_rfl
theorem infoEx : (Tryz.prog.info? 111).map (fun i => (i.zero, i.size, i.bytes)) = some (some (.agg #[.string ⟨#[]⟩, .int .i64 0, .int .u32 0]), 3, 32) := by kernel_rfl
theorem infoEl : (Tryz.prog.info? 109).map (fun i => (i.zero, i.size, i.bytes)) = some (some (.agg #[.slice none 0 0, .slice none 0 0]), 2, 48) := by kernel_rfl
theorem infoDa : (Tryz.prog.info? 88).map (fun i => (i.zero, i.size, i.bytes)) = some (some (.agg #[.slice none 0 0, .slice none 0 0]), 2, 48) := by kernel_rfl
theorem BoxAt.belowB {W W' : World} {B g : Nat} {v : Array Value} (h : BoxAt W g v) (hb : Below B W W') (hg : g < B) : BoxAt W' g v := fun j x hj => (hb.cell (p := ⟨g, j, none⟩) hg).trans (h j x hj)
def zeroM : Array Value := #[.slice none 0 0, .slice none 0 0, .slice none 0 0, .slice none 0 0, .slice none 0 0, .slice none 0 0, .slice none 0 0, .bool false, .int .u32 0, .slice none 0 0, .slice none 0 0]
structure Cp (w : World) (mv o : Array Value) (W : World) : Prop where
  below : Below w.heap.size w W
  size : w.heap.size + 3 ≤ W.heap.size
  mod : BoxAt W w.heap.size mv
  res : BoxAt W (w.heap.size + 1) zeroM
  resf : ∀ j, W.frozen? ⟨w.heap.size + 1, j, none⟩ = false
  out : BoxAt W (w.heap.size + 2) o
  outf : ∀ j, W.frozen? ⟨w.heap.size + 2, j, none⟩ = false
theorem Cp.on {w : World} {mv o : Array Value} {W W' : World} (h : Cp w mv o W) (hb : Below (w.heap.size + 3) W W') : Cp w mv o W' :=
  ⟨h.below.trans (hb.mono (by omega)), Nat.le_trans h.size hb.size, h.mod.belowB hb (by omega), h.res.belowB hb (by omega), fun j => (hb.frozen (p := ⟨w.heap.size + 1, j, none⟩) (by simp)).trans (h.resf j), h.out.belowB hb (by omega), fun j => (hb.frozen (p := ⟨w.heap.size + 2, j, none⟩) (by simp)).trans (h.outf j)⟩
section
variable {ops : Array Oper} {rest : List Oper} {o : Oper} {act : Act} {Q : Exit → Act → World → Prop}
/-- A whole list that lies somewhere is appended. -/
theorem append_list {e ts : TypeId} {sz nb : Nat} {z : Value} (inf : (Tryz.prog.info? e).map (fun i => (i.zero, i.size, i.bytes)) = some (some z, sz, nb)) (hz : z.cells.size = sz) (h0 : 0 < sz) (hnb : nb ≤ 1000) (ut : Tryz.prog.underlying ts = some (.slice e))
    (hgd : o.guard = none) (s x : Operand) (ho : o.op = .call { callee := .builtin .append, args := #[s, x], argTypes := #[ts, ts] })
    {base : Nat} {wr : World} {v : Value} (hs : act.eval s = v) (hown : OwnR e sz base wr v []) (hbase : base ≤ wr.heap.size)
    (a2 : Option Addr) (n c : Nat) (hx : act.eval x = .slice a2 n c) (ys : List (List Value)) (hn : ys.length = n) (hy : Rows wr.heap.size wr a2 sz ys) (hlen : ∀ r ∈ ys, r.length = sz) (h1 : ∀ r ∈ ys, ∀ u ∈ r, u.oneCell' = true)
    (hl : ys.length ≤ 1000000000)
    (h : ∀ v' w', OwnR e sz base w' v' ys → Below base wr w' → base ≤ w'.heap.size → wpList Tryz.prog ops Q rest (act.put o.dst v') w') :
    wpList Tryz.prog ops Q (o :: rest) act wr := by
  obtain ⟨i0, hi, hz0, hz1, hz2⟩ := info_parts inf
  subst hn
  have hb0 := Below.refl base wr
  rcases hy with h2 | ⟨b, off, rfl, hlt, hc⟩
  · subst h2
    cases a2 with
    | none => exact Body.append_none hgd s x ts ho base e i0 sz c ut hi v _ _ hs hown.row hx (h v wr hown hb0 hbase)
    | some ad =>
      refine append_rows inf hz h0 hnb ut hgd s x ho (xs := []) [] hs hown hb0 hbase ad 0 c rfl hx (by simp) (by simp) (by simp) (by simp) (fun v' w' h3 h4 h5 _ => h v' w' h3 h4 h5)
  · refine append_rows inf hz h0 hnb ut hgd s x ho (xs := []) ys hs hown hb0 hbase ⟨b, off, none⟩ ys.length c rfl hx hlen (fun j u hj => ?_) h1 (by simpa using hl) (fun v' w' h3 h4 h5 _ => h v' w' h3 h4 h5)
    have hfl := flat_length ys hlen
    have hjl : j < ys.length * sz := by
      rcases Nat.lt_or_ge j (ys.length * sz) with h | h
      · exact h
      · rw [List.getElem?_eq_none (by omega)] at hj; cases hj
    have hq : j / sz < ys.length := (Nat.div_lt_iff_lt_mul h0).2 hjl
    have hr : j % sz < sz := Nat.mod_lt _ h0
    have hjj : j / sz * sz + j % sz = j := by rw [Nat.mul_comm]; exact Nat.div_add_mod j sz
    have hg := flat_get ys hlen (j / sz) (j % sz) hq hr
    rw [hjj, hj] at hg
    have := hc (j / sz) hq (j % sz) hr u hg.symm
    rw [Nat.add_assoc, hjj] at this
    have hplain : (⟨b, off, none⟩ : Addr).add j = ⟨b, off + j, none⟩ := by unfold Addr.add; split <;> simp_all
    rw [hplain]
    exact this
end
section
variable {α : Type}
theorem OwnR.madeG {W : World} (e : TypeId) (sz g : Nat) (hg : g = W.heap.size) : OwnR e sz g (W.alloc (.cells #[] e)) (.slice (some ⟨g, 0, none⟩) 0 0) [] := by
  subst hg; exact OwnR.made e sz W
theorem OwnR.alloc {e : TypeId} {sz base : Nat} {w : World} {v : Value} {rs : List (List Value)} (h : OwnR e sz base w v rs) (o : Obj) : OwnR e sz base (w.alloc o) v rs := h.below ((Below.refl _ _).alloc (Nat.le_refl _) o)
/-- What an append of one item gives. -/
theorem Got.more {e : TypeId} {sz nb base n0 : Nat} {f : α → List Value} {p : α → Part} {W w' : World} {v : Value} {us : List α} (x0 : α) (hG : Got e sz base f p W v us) (hlen : (f x0).length = sz) (hlie : (p x0).lies W) (hlo : ∀ q ∈ (p x0).foot, n0 ≤ q) (hb : base ≤ n0) (hv : ∀ g, v.ownBlock = some g → g < n0) {g cap : Nat}
    (hown : w'.ownsRow base e sz (.slice (some ⟨g, 0, none⟩) (us.length + 1) cap) (us.length + 1) ((us.map f).flatten ++ f x0)) (hgrow : (W.alloc (.cells (f x0).toArray e)).grownBy w' v.ownBlock) (hat : v.ownBlock = some g ∨ g = W.heap.size + 1) :
    Got e sz base f p w' (.slice (some ⟨g, 0, none⟩) (us.length + 1) cap) (us ++ [x0]) := by
  have hb1 := (Below.refl W.heap.size W).alloc (Nat.le_refl _) (.cells (f x0).toArray e)
  have hG1 := hG.below hb1
  have hs1 : (W.alloc (.cells (f x0).toArray e)).heap.size = W.heap.size + 1 := by simp
  refine Got.snoc (n0 := n0) hG1 (Part.touch (S := fun _ => False) hlie (.of_below hb1) (fun _ _ h => h)) hlo (fun q hq => by have := foot_lt hlie q hq; omega) hb hv ⟨?_, ?_⟩ hgrow (fun q hq => ?_)
  · rw [List.flatten_append, List.length_append, List.length_map]
    simpa using hown
  · intro r hr
    rcases List.mem_append.1 hr with hr | hr
    · exact hG.row.len r hr
    · rw [List.mem_singleton] at hr; subst hr; exact hlen
  · simp only [Value.ownBlock, Option.some.injEq] at hq
    subst hq
    rcases hat with h | h
    · exact .inl h
    · right; omega
theorem Got.len {e : TypeId} {sz base : Nat} {f : α → List Value} {p : α → Part} {W : World} {v : Value} {us : List α} (h : Got e sz base f p W v us) : ∃ a c, v = .slice a us.length c ∧ (a = none → c = 0) := by
  rcases h.row.row.2 with ⟨rfl, h0⟩ | ⟨g, cap, cur, rfl, _⟩
  · exact ⟨none, 0, by simpa using h0.symm, fun _ => rfl⟩
  · exact ⟨_, cap, by rw [List.length_map], fun h => by cases h⟩
end
section
variable {ops : Array Oper} {rest : List Oper} {o : Oper} {act : Act} {Q : Exit → Act → World → Prop} {α : Type}
end
end Go.Proofs.YtckdnhafookcgaaGreatDoor.Mod

namespace Go.Proofs.YtckdnhafookcgaaGreatDoor.Mod
open Go.RowKit Go.Proofs.YtckdnhafookcgaaGreatDoor.Instr
set_option linter.unusedVariables false

theorem Got.rows {α : Type} {e : TypeId} {sz base : Nat} {f : α → List Value} {p : α → Part} {W : World} {v : Value} {us : List α} (h : Got e sz base f p W v us) : ∃ a c, v = .slice a us.length c ∧ Rows W.heap.size W a sz (us.map f) := by
  obtain ⟨a, c, hv, hr, _⟩ := h.row.rows
  rw [List.length_map] at hv
  exact ⟨a, c, hv, hr⟩
theorem OwnR.save {e : TypeId} {sz base k : Nat} {W W' : World} {v : Value} {rs : List (List Value)} (h : OwnR e sz base W v rs) (hs : Save k W W') (hk : k < base) : OwnR e sz base W' v rs :=
  h.touch (.of_save hs) (fun g hg e => by have := (World.ownsRow.lt h.row g hg).1; omega)
/-- The five lists that are taken over whole. -/
structure Five (m : Md) (B : Nat) (W : World) (v1 v2 v4 v5 v7 : Value) : Prop where
  ty : OwnR 92 2 B W v1 (m.ty.map tyV)
  im : OwnR 90 3 B W v2 (m.im.map Imp.v)
  tb : OwnR 83 3 B W v4 (m.tb.map Li.v)
  me : OwnR 83 3 B W v5 (m.me.map Li.v)
  ex : OwnR 111 3 B W v7 (m.ex.map Ex.v)
theorem Five.save {m : Md} {B k : Nat} {W W' : World} {v1 v2 v4 v5 v7 : Value} (h : Five m B W v1 v2 v4 v5 v7) (hs : Save k W W') (hk : k < B) : Five m B W' v1 v2 v4 v5 v7 :=
  ⟨h.ty.save hs hk, h.im.save hs hk, h.tb.save hs hk, h.me.save hs hk, h.ex.save hs hk⟩
end Go.Proofs.YtckdnhafookcgaaGreatDoor.Mod

namespace Go.Proofs.YtckdnhafookcgaaGreatDoor.Mod
open Go.RowKit Go.Proofs.YtckdnhafookcgaaGreatDoor.Instr
set_option linter.unusedVariables false

section
variable {ops : Array Oper} {rest : List Oper} {o : Oper} {act : Act} {Q : Exit → Act → World → Prop}
end
theorem infoI32 : (Tryz.prog.info? 28).map (fun i => (i.zero, i.size, i.bytes)) = some (some (.int .u32 0), 1, 4) := by kernel_rfl
end Go.Proofs.YtckdnhafookcgaaGreatDoor.Mod

namespace Go.Proofs.YtckdnhafookcgaaGreatDoor.Mod
open Go.RowKit Go.Proofs.YtckdnhafookcgaaGreatDoor.Instr

/-- All in it together is little. -/
structure Md.small (m : Md) (most : Nat) : Prop where
  lens : m.ty.length + m.im.length + m.fu.length + m.tb.length + m.me.length + m.gl.length + m.ex.length + m.el.length + m.da.length ≤ most
  ls : ∀ l ∈ m.codes, l.t.weight ≤ most
  fs : ∀ e ∈ m.el, e.fs.length ≤ most
  bs : ∀ d ∈ m.da, d.bs.length ≤ most
  iS : ∀ i ∈ m.im, i.mo.size ≤ most ∧ i.na.size ≤ most
  eS : ∀ e ∈ m.ex, e.na.size ≤ most
def Large (m : Md) (w : World) (e : Ending) (w' : World) : Prop := ∃ b, e = .returned (.bool b) ∧ (b = false → m.small 5000) ∧ Below w.heap.size w w'
theorem large_true {m : Md} {w w' : World} (h : Below w.heap.size w w') : Large m w (.returned (.bool true)) w' := ⟨true, rfl, fun h => by simp at h, h⟩
theorem large_end {m : Md} {w w' : World} {N : Int} (h : Below w.heap.size w w') (hs : N ≤ 5000 → m.small 5000) : Large m w (.returned (.bool (decide (5000 < N)))) w' := ⟨_, rfl, fun hh => hs (by simpa using hh), h⟩
theorem drewQ {B : Nat} {w w' : World} (h : Below B w w') (n : Nat) : Below B w (w'.drewN n) := ⟨h.os, h.tape, h.output, h.size, h.block⟩
set_option maxHeartbeats 8000000 in
set_option maxRecDepth 100000 in
theorem Large_any (m : Md) (w : World) (hm : ModAt w.heap.size w m) (hf : m.fits) :
    Calls Tryz.prog 11 #[.agg m.v, .int .i64 5000] w (Large m w) := by
  have hb0 := (Below.refl w.heap.size w).alloc (Nat.le_refl _) (.cells m.v 32)
  have HB := hid hb0
  have HM := hid (hm.on hb0)
  have HX := hid (BoxAt.made w m.v 32)
  have HF := hid hf
  obtain ⟨ty, im, fu, tb, me, gl, ex, st, sn, el, da, ty', im', fu', tb', me', gl', ex', el', da'⟩ := m
  have b1 := hf.ty
  have b2 := hf.im
  have b3 := hf.fu
  have b4 := hf.tb
  have b5 := hf.me
  have b6 := hf.gl
  have b7 := hf.ex
  have b8 := hf.el
  have b9 := hf.da
  dsimp only at b1 b2 b3 b4 b5 b6 b7 b8 b9
  unfold Md.v at HB HM HX ⊢
  dsimp only at HB HM HX ⊢
  clear hm hf hb0
  by_cases h1 : 5000 < ty.length + im.length + fu.length + tb.length + me.length + gl.length + ex.length + el.length + da.length
  · have h1i : (5000 : Int) < (ty.length : Int) + im.length + fu.length + tb.length + me.length + gl.length + ex.length + el.length + da.length := by omega
    go_enter Tryz.func11, Tryz.ntmps11
    go_wp2
    go_ret
    exact large_true HB.out
  · have h1i : ¬ (5000 : Int) < (ty.length : Int) + im.length + fu.length + tb.length + me.length + gl.length + ex.length + el.length + da.length := by omega
    have hsum : ty.length + im.length + fu.length + tb.length + me.length + gl.length + ex.length + el.length + da.length ≤ 5000 := by omega
    have HSUM := hid hsum
    clear h1
    go_enter Tryz.func11, Tryz.ntmps11
    go_wp2
    obtain ⟨N0, hN0⟩ : ∃ N0 : Int, (ty.length : Int) + im.length + fu.length + tb.length + me.length + gl.length + ex.length + el.length + da.length = N0 := ⟨_, rfl⟩
    have l_ty : ty.length ≤ 5000 := by omega
    have l_im : im.length ≤ 5000 := by omega
    have l_fu : fu.length ≤ 5000 := by omega
    have l_tb : tb.length ≤ 5000 := by omega
    have l_me : me.length ≤ 5000 := by omega
    have l_gl : gl.length ≤ 5000 := by omega
    have l_ex : ex.length ≤ 5000 := by omega
    have l_el : el.length ≤ 5000 := by omega
    have l_da : da.length ≤ 5000 := by omega
    have hN1 : N0 ≤ 5000 := by omega
    have hN2 : 0 ≤ N0 := by omega
    have HI := hid (show (0 < fu.length ∨ 0 < gl.length ∨ 0 < el.length ∨ 0 < da.length ∨ 0 < im.length ∨ 0 < ex.length) → 1 ≤ N0 by omega)
    rw [hN0]
    clear hN0 h1i hsum b1 b2 b3 b4 b5 b6 b7 b8 b9
    generalize w.alloc (.cells #[.slice ty'.a ty.length ty'.c, .slice im'.a im.length im'.c, .slice fu'.a fu.length fu'.c, .slice tb'.a tb.length tb'.c, .slice me'.a me.length me'.c, .slice gl'.a gl.length gl'.c, .slice ex'.a ex.length ex'.c, .bool st, .int .u32 sn, .slice el'.a el.length el'.c, .slice da'.a da.length da'.c] 32) = W0 at HB HM HX ⊢
    have Xfu := hid (show W0.cell? ⟨w.heap.size, 2, none⟩ = some (.slice fu'.a fu.length fu'.c) from HX.out 2 _ rfl)
    have Rfu := hid (show Rows W0.heap.size W0 fu'.a 3 (fu.map Fn.v) from HM.out.fu)
    obtain ⟨nfu, hnfu⟩ : ∃ n, fu.length = n := ⟨_, rfl⟩
    have Lfu := hid hnfu
    rw [hnfu] at l_fu Xfu
    clear hnfu
    have Xgl := hid (show W0.cell? ⟨w.heap.size, 5, none⟩ = some (.slice gl'.a gl.length gl'.c) from HX.out 5 _ rfl)
    have Rgl := hid (show Rows W0.heap.size W0 gl'.a 2 (gl.map Gl.v) from HM.out.gl)
    obtain ⟨ngl, hngl⟩ : ∃ n, gl.length = n := ⟨_, rfl⟩
    have Lgl := hid hngl
    rw [hngl] at l_gl Xgl
    clear hngl
    have Xel := hid (show W0.cell? ⟨w.heap.size, 9, none⟩ = some (.slice el'.a el.length el'.c) from HX.out 9 _ rfl)
    have Rel := hid (show Rows W0.heap.size W0 el'.a 2 (el.map El.v) from HM.out.el)
    obtain ⟨nel, hnel⟩ : ∃ n, el.length = n := ⟨_, rfl⟩
    have Lel := hid hnel
    rw [hnel] at l_el Xel
    clear hnel
    have Xda := hid (show W0.cell? ⟨w.heap.size, 10, none⟩ = some (.slice da'.a da.length da'.c) from HX.out 10 _ rfl)
    have Rda := hid (show Rows W0.heap.size W0 da'.a 2 (da.map Da.v) from HM.out.da)
    obtain ⟨nda, hnda⟩ : ∃ n, da.length = n := ⟨_, rfl⟩
    have Lda := hid hnda
    rw [hnda] at l_da Xda
    clear hnda
    have Xim := hid (show W0.cell? ⟨w.heap.size, 1, none⟩ = some (.slice im'.a im.length im'.c) from HX.out 1 _ rfl)
    have Rim := hid (show Rows W0.heap.size W0 im'.a 3 (im.map Imp.v) from HM.out.im)
    obtain ⟨nim, hnim⟩ : ∃ n, im.length = n := ⟨_, rfl⟩
    have Lim := hid hnim
    rw [hnim] at l_im Xim
    clear hnim
    have Xex := hid (show W0.cell? ⟨w.heap.size, 6, none⟩ = some (.slice ex'.a ex.length ex'.c) from HX.out 6 _ rfl)
    have Rex := hid (show Rows W0.heap.size W0 ex'.a 3 (ex.map Ex.v) from HM.out.ex)
    obtain ⟨nex, hnex⟩ : ∃ n, ex.length = n := ⟨_, rfl⟩
    have Lex := hid hnex
    rw [hnex] at l_ex Xex
    clear hnex
    clear HX
    go_loopw [5, 6] (fun vn vi wr => ∃ (k : Nat) (N : Int), vn = .int .i64 N ∧ vi = .int .i64 k ∧ k ≤ nfu ∧ N0 ≤ N ∧ N ≤ 5000 + 20002 * (k : Int) ∧ Hid (N ≤ 5000 → (True) ∧ ∀ (j : Nat) (hj : j < fu.length), j < k → ∃ x, x = fu[j] ∧ x.l.t.weight ≤ 5000) ∧ Hid (Below W0.heap.size W0 wr)) (fun _ vi _ => nfu - (intOf vi).toNat)
    case atStart => exact ⟨0, N0, rfl, rfl, Nat.zero_le _, by omega, by omega, fun _ => ⟨trivial, fun j _ h => absurd h (Nat.not_lt_zero _)⟩, Below.refl _ _⟩
    case round =>
      obtain ⟨k, N, rfl, rfl, hk, hNa, hNb, HQ, HW⟩ := hrel
      have hbx := Go.Proofs.YtckdnhafookcgaaGreatDoor.keep HW.out Xfu.out
      by_cases hlt : k < nfu
      · have hkl : k < fu.length := by rw [Lfu.out]; exact hlt
        obtain ⟨b, off, ha, hb, hc⟩ := Rows.get Rfu.out hkl
        rw [ha] at hbx
        have hx : fu[k] ∈ fu := List.getElem_mem hkl
        have hLs := HM.out.ls fu[k].l (by unfold Md.codes; exact List.mem_append_left _ (List.mem_map.2 ⟨_, hx, rfl⟩))
        have hLl := HF.out.ls fu[k].l (by unfold Md.codes; exact List.mem_append_left _ (List.mem_map.2 ⟨_, hx, rfl⟩))
        obtain ⟨x, hxe⟩ : ∃ x, fu[k] = x := ⟨_, rfl⟩
        have HXE := hid hxe
        rw [hxe] at hc hLs hLl
        have cc : ∀ j, j < 3 → ∀ v, x.v[j]? = some v → wr.cell? ⟨b, off + k * 3 + j, none⟩ = some v := fun j hj v hv => (HW.out.cell (p := ⟨b, off + k * 3 + j, none⟩) hb).trans (hc j hj v hv)
        have c2 : wr.cell? ⟨b, off + k * 3 + 2, none⟩ = some (.slice x.l.a x.l.t.len x.l.c) := cc 2 (by omega) _ rfl
        have hki : (k : Int) < (nfu : Int) := by omega
        have hN1' : 1 ≤ N0 := HI.out (by omega)
        have hgo := go_bounds x.l.t 0 5000 (by omega) (by omega) (by omega)
        obtain ⟨q, hq⟩ : ∃ q, x.l.t.go 0 5000 = q := ⟨_, rfl⟩
        have C := hid (Instrs_any x.l.t.count x.l.t x.l.a x.l.t.len x.l.c 5000 wr (Nat.le_refl _) ((hLs.below HW.out).more HW.out.size) hLl (by omega) (by omega))
        rw [hq] at C hgo
        obtain ⟨hg0, hg1, hg2⟩ := hgo
        have HG := hid hg2
        have HQ' := hid (show N + q ≤ 5000 → (True) ∧ ∀ (j : Nat) (hj : j < fu.length), j < k + 1 → ∃ x, x = fu[j] ∧ x.l.t.weight ≤ 5000 from fun h => ⟨(HQ.out (by omega)).1, fun j hj hjk => by
          by_cases e : j = k
          · subst e; exact ⟨x, HXE.out.symm, by have := HG.out (by omega); omega⟩
          · exact (HQ.out (by omega)).2 j hj (by omega)⟩)
        clear hx hxe hc cc hb ha hLs hLl hq hg2
        go_wp2_with fail
        refine C.out.mono ?_
        rintro e w1 ⟨rfl, rfl⟩
        go_wp2
        go_roundw
        case rel => exact ⟨k + 1, _, rfl, by go_num, by omega, by omega, by omega, HQ', HW⟩
        case measure => simp [intOf]; omega
      · obtain rfl : k = nfu := by omega
        have HP := hid (show N ≤ 5000 → (True) ∧ ∀ x ∈ fu, x.l.t.weight ≤ 5000 from fun h => ⟨(HQ.out h).1, fun x hx => by
          obtain ⟨j, hj, rfl⟩ := List.mem_iff_getElem.1 hx
          obtain ⟨y, hy, hq⟩ := (HQ.out h).2 j hj (by rw [← Lfu.out]; exact hj)
          subst hy; exact hq⟩)
        have hNN1 : N0 ≤ N := by omega
        have hNN2 : N ≤ 100015000 := by omega
        have HBL := HW
        clear HQ hNa hNb HW hlt hk
        obtain ⟨NN, rfl⟩ : ∃ NN, NN = N := ⟨_, rfl⟩
        go_wp2
        clear hbx
        go_loopw [5, 7] (fun vn vi wr => ∃ (k : Nat) (N : Int), vn = .int .i64 N ∧ vi = .int .i64 k ∧ k ≤ ngl ∧ N0 ≤ N ∧ N ≤ 100015000 + 20002 * (k : Int) ∧ Hid (N ≤ 5000 → ((True) ∧ ∀ x ∈ fu, x.l.t.weight ≤ 5000) ∧ ∀ (j : Nat) (hj : j < gl.length), j < k → ∃ x, x = gl[j] ∧ x.l.t.weight ≤ 5000) ∧ Hid (Below W0.heap.size W0 wr)) (fun _ vi _ => ngl - (intOf vi).toNat)
        case atStart => exact ⟨0, NN, rfl, rfl, Nat.zero_le _, by omega, by omega, fun h => ⟨HP.out h, fun j _ h => absurd h (Nat.not_lt_zero _)⟩, HBL⟩
        case round =>
          clear HP HBL hNN1 hNN2
          obtain ⟨k, N, rfl, rfl, hk, hNa, hNb, HQ, HW⟩ := hrel
          have hbx := Go.Proofs.YtckdnhafookcgaaGreatDoor.keep HW.out Xgl.out
          by_cases hlt : k < ngl
          · have hkl : k < gl.length := by rw [Lgl.out]; exact hlt
            obtain ⟨b, off, ha, hb, hc⟩ := Rows.get Rgl.out hkl
            rw [ha] at hbx
            have hx : gl[k] ∈ gl := List.getElem_mem hkl
            have hLs := HM.out.ls gl[k].l (by unfold Md.codes; exact List.mem_append_right _ (List.mem_append_left _ (List.mem_map.2 ⟨_, hx, rfl⟩)))
            have hLl := HF.out.ls gl[k].l (by unfold Md.codes; exact List.mem_append_right _ (List.mem_append_left _ (List.mem_map.2 ⟨_, hx, rfl⟩)))
            obtain ⟨x, hxe⟩ : ∃ x, gl[k] = x := ⟨_, rfl⟩
            have HXE := hid hxe
            rw [hxe] at hc hLs hLl
            have cc : ∀ j, j < 2 → ∀ v, x.v[j]? = some v → wr.cell? ⟨b, off + k * 2 + j, none⟩ = some v := fun j hj v hv => (HW.out.cell (p := ⟨b, off + k * 2 + j, none⟩) hb).trans (hc j hj v hv)
            have c1 : wr.cell? ⟨b, off + k * 2 + 1, none⟩ = some (.slice x.l.a x.l.t.len x.l.c) := cc 1 (by omega) _ rfl
            have hki : (k : Int) < (ngl : Int) := by omega
            have hN1' : 1 ≤ N0 := HI.out (by omega)
            have hgo := go_bounds x.l.t 0 5000 (by omega) (by omega) (by omega)
            obtain ⟨q, hq⟩ : ∃ q, x.l.t.go 0 5000 = q := ⟨_, rfl⟩
            have C := hid (Instrs_any x.l.t.count x.l.t x.l.a x.l.t.len x.l.c 5000 wr (Nat.le_refl _) ((hLs.below HW.out).more HW.out.size) hLl (by omega) (by omega))
            rw [hq] at C hgo
            obtain ⟨hg0, hg1, hg2⟩ := hgo
            have HG := hid hg2
            have HQ' := hid (show N + q ≤ 5000 → ((True) ∧ ∀ x ∈ fu, x.l.t.weight ≤ 5000) ∧ ∀ (j : Nat) (hj : j < gl.length), j < k + 1 → ∃ x, x = gl[j] ∧ x.l.t.weight ≤ 5000 from fun h => ⟨(HQ.out (by omega)).1, fun j hj hjk => by
              by_cases e : j = k
              · subst e; exact ⟨x, HXE.out.symm, by have := HG.out (by omega); omega⟩
              · exact (HQ.out (by omega)).2 j hj (by omega)⟩)
            clear hx hxe hc cc hb ha hLs hLl hq hg2
            go_wp2_with fail
            refine C.out.mono ?_
            rintro e w1 ⟨rfl, rfl⟩
            go_wp2
            go_roundw
            case rel => exact ⟨k + 1, _, rfl, by go_num, by omega, by omega, by omega, HQ', HW⟩
            case measure => simp [intOf]; omega
          · obtain rfl : k = ngl := by omega
            have HP := hid (show N ≤ 5000 → ((True) ∧ ∀ x ∈ fu, x.l.t.weight ≤ 5000) ∧ ∀ x ∈ gl, x.l.t.weight ≤ 5000 from fun h => ⟨(HQ.out h).1, fun x hx => by
              obtain ⟨j, hj, rfl⟩ := List.mem_iff_getElem.1 hx
              obtain ⟨y, hy, hq⟩ := (HQ.out h).2 j hj (by rw [← Lgl.out]; exact hj)
              subst hy; exact hq⟩)
            have hNN1 : N0 ≤ N := by omega
            have hNN2 : N ≤ 200025000 := by omega
            have HBL := HW
            clear HQ hNa hNb HW hlt hk
            obtain ⟨NN, rfl⟩ : ∃ NN, NN = N := ⟨_, rfl⟩
            go_wp2
            clear hbx
            go_loopw [5, 8] (fun vn vi wr => ∃ (k : Nat) (N : Int), vn = .int .i64 N ∧ vi = .int .i64 k ∧ k ≤ nel ∧ N0 ≤ N ∧ N ≤ 200025000 + 20002 * (k : Int) ∧ Hid (N ≤ 5000 → (((True) ∧ ∀ x ∈ fu, x.l.t.weight ≤ 5000) ∧ ∀ x ∈ gl, x.l.t.weight ≤ 5000) ∧ ∀ (j : Nat) (hj : j < el.length), j < k → ∃ x, x = el[j] ∧ x.l.t.weight ≤ 5000 ∧ x.fs.length ≤ 5000) ∧ Hid (Below W0.heap.size W0 wr)) (fun _ vi _ => nel - (intOf vi).toNat)
            case atStart => exact ⟨0, NN, rfl, rfl, Nat.zero_le _, by omega, by omega, fun h => ⟨HP.out h, fun j _ h => absurd h (Nat.not_lt_zero _)⟩, HBL⟩
            case round =>
              clear HP HBL hNN1 hNN2
              obtain ⟨k, N, rfl, rfl, hk, hNa, hNb, HQ, HW⟩ := hrel
              have hbx := Go.Proofs.YtckdnhafookcgaaGreatDoor.keep HW.out Xel.out
              by_cases hlt : k < nel
              · have hkl : k < el.length := by rw [Lel.out]; exact hlt
                obtain ⟨b, off, ha, hb, hc⟩ := Rows.get Rel.out hkl
                rw [ha] at hbx
                have hx : el[k] ∈ el := List.getElem_mem hkl
                have hLs := HM.out.ls el[k].l (by unfold Md.codes; exact List.mem_append_right _ (List.mem_append_right _ (List.mem_append_left _ (List.mem_map.2 ⟨_, hx, rfl⟩))))
                have hLl := HF.out.ls el[k].l (by unfold Md.codes; exact List.mem_append_right _ (List.mem_append_right _ (List.mem_append_left _ (List.mem_map.2 ⟨_, hx, rfl⟩))))
                have hS := HF.out.fs _ hx
                obtain ⟨x, hxe⟩ : ∃ x, el[k] = x := ⟨_, rfl⟩
                have HXE := hid hxe
                rw [hxe] at hc hLs hLl hS
                have cc : ∀ j, j < 2 → ∀ v, x.v[j]? = some v → wr.cell? ⟨b, off + k * 2 + j, none⟩ = some v := fun j hj v hv => (HW.out.cell (p := ⟨b, off + k * 2 + j, none⟩) hb).trans (hc j hj v hv)
                have c0 : wr.cell? ⟨b, off + k * 2, none⟩ = some (.slice x.l.a x.l.t.len x.l.c) := cc 0 (by omega) _ rfl
                have c1 : wr.cell? ⟨b, off + k * 2 + 1, none⟩ = some (.slice x.fa x.fs.length x.fc) := cc 1 (by omega) _ rfl
                have hki : (k : Int) < (nel : Int) := by omega
                have hN1' : 1 ≤ N0 := HI.out (by omega)
                have hgo := go_bounds x.l.t 0 5000 (by omega) (by omega) (by omega)
                obtain ⟨q, hq⟩ : ∃ q, x.l.t.go 0 5000 = q := ⟨_, rfl⟩
                have C := hid (show ∀ a, Calls Tryz.prog 34 #[.slice x.l.a x.l.t.len x.l.c, .int .i64 5000] (wr.drewN a) fun e w' => e = .returned (.int .i64 (x.l.t.go 0 5000)) ∧ w' = wr.drewN a from fun a => (Instrs_any x.l.t.count x.l.t x.l.a x.l.t.len x.l.c 5000 _ (Nat.le_refl _) ((hLs.below (drewQ HW.out a)).more (drewQ HW.out a).size) hLl (by omega) (by omega)).mono fun e w' ⟨he, hw⟩ => ⟨he, hw.symm⟩)
                rw [hq] at C hgo
                obtain ⟨hg0, hg1, hg2⟩ := hgo
                have HG := hid hg2
                by_cases hmn : (5000 : Int) < (x.fs.length : Int)
                · have hmz : min (x.fs.length : Int) 5000 = 5000 := by omega
                  have e0 : IntKind.i64.wrap (N + q) = N + q := by rw [IntKind.wrap_i64]; omega
                  have e1 : IntKind.i64.wrap (N + q + 5000) = N + q + 5000 := by rw [IntKind.wrap_i64]; omega
                  have HQ' := hid (show N + q + 5000 ≤ 5000 → (((True) ∧ ∀ x ∈ fu, x.l.t.weight ≤ 5000) ∧ ∀ x ∈ gl, x.l.t.weight ≤ 5000) ∧ ∀ (j : Nat) (hj : j < el.length), j < k + 1 → ∃ x, x = el[j] ∧ x.l.t.weight ≤ 5000 ∧ x.fs.length ≤ 5000 from fun h => ⟨(HQ.out (by omega)).1, fun j hj hjk => by
                    by_cases e : j = k
                    · subst e; exact ⟨x, HXE.out.symm, by have := HG.out (by omega); omega, by omega⟩
                    · exact (HQ.out (by omega)).2 j hj (by omega)⟩)
                  have hz1 := show N0 ≤ N + q + 5000 by omega
                  have hz2 := show N + q + 5000 ≤ 200025000 + 20002 * ((k + 1 : Nat) : Int) by omega
                  clear hx hxe hc cc hb ha hLs hLl hq hg2
                  go_wp2
                  go_quiet ((go_at_call 34; exact Calls.quiet_of_same (C.out _)))
                  go_wp2
                  go_roundw
                  case rel => exact ⟨k + 1, _, rfl, by go_num, by omega, hz1, hz2, HQ', drewQ HW.out _⟩
                  case measure => simp [intOf]; omega
                · have hmz : min (x.fs.length : Int) 5000 = (x.fs.length : Int) := by omega
                  have e0 : IntKind.i64.wrap (N + q) = N + q := by rw [IntKind.wrap_i64]; omega
                  have e1 : IntKind.i64.wrap (N + q + (x.fs.length : Int)) = N + q + (x.fs.length : Int) := by rw [IntKind.wrap_i64]; omega
                  have HQ' := hid (show N + q + (x.fs.length : Int) ≤ 5000 → (((True) ∧ ∀ x ∈ fu, x.l.t.weight ≤ 5000) ∧ ∀ x ∈ gl, x.l.t.weight ≤ 5000) ∧ ∀ (j : Nat) (hj : j < el.length), j < k + 1 → ∃ x, x = el[j] ∧ x.l.t.weight ≤ 5000 ∧ x.fs.length ≤ 5000 from fun h => ⟨(HQ.out (by omega)).1, fun j hj hjk => by
                    by_cases e : j = k
                    · subst e; exact ⟨x, HXE.out.symm, by have := HG.out (by omega); omega, by omega⟩
                    · exact (HQ.out (by omega)).2 j hj (by omega)⟩)
                  have hz1 := show N0 ≤ N + q + (x.fs.length : Int) by omega
                  have hz2 := show N + q + (x.fs.length : Int) ≤ 200025000 + 20002 * ((k + 1 : Nat) : Int) by omega
                  clear hx hxe hc cc hb ha hLs hLl hq hg2
                  go_wp2
                  go_quiet ((go_at_call 34; exact Calls.quiet_of_same (C.out _)))
                  go_wp2
                  go_roundw
                  case rel => exact ⟨k + 1, _, rfl, by go_num, by omega, hz1, hz2, HQ', drewQ HW.out _⟩
                  case measure => simp [intOf]; omega
              · obtain rfl : k = nel := by omega
                have HP := hid (show N ≤ 5000 → (((True) ∧ ∀ x ∈ fu, x.l.t.weight ≤ 5000) ∧ ∀ x ∈ gl, x.l.t.weight ≤ 5000) ∧ ∀ x ∈ el, x.l.t.weight ≤ 5000 ∧ x.fs.length ≤ 5000 from fun h => ⟨(HQ.out h).1, fun x hx => by
                  obtain ⟨j, hj, rfl⟩ := List.mem_iff_getElem.1 hx
                  obtain ⟨y, hy, hq⟩ := (HQ.out h).2 j hj (by rw [← Lel.out]; exact hj)
                  subst hy; exact hq⟩)
                have hNN1 : N0 ≤ N := by omega
                have hNN2 : N ≤ 300035000 := by omega
                have HBL := HW
                clear HQ hNa hNb HW hlt hk
                obtain ⟨NN, rfl⟩ : ∃ NN, NN = N := ⟨_, rfl⟩
                go_wp2
                clear hbx
                go_loopw [5, 9] (fun vn vi wr => ∃ (k : Nat) (N : Int), vn = .int .i64 N ∧ vi = .int .i64 k ∧ k ≤ nda ∧ N0 ≤ N ∧ N ≤ 300035000 + 20002 * (k : Int) ∧ Hid (N ≤ 5000 → ((((True) ∧ ∀ x ∈ fu, x.l.t.weight ≤ 5000) ∧ ∀ x ∈ gl, x.l.t.weight ≤ 5000) ∧ ∀ x ∈ el, x.l.t.weight ≤ 5000 ∧ x.fs.length ≤ 5000) ∧ ∀ (j : Nat) (hj : j < da.length), j < k → ∃ x, x = da[j] ∧ x.l.t.weight ≤ 5000 ∧ x.bs.length ≤ 5000) ∧ Hid (Below W0.heap.size W0 wr)) (fun _ vi _ => nda - (intOf vi).toNat)
                case atStart => exact ⟨0, NN, rfl, rfl, Nat.zero_le _, by omega, by omega, fun h => ⟨HP.out h, fun j _ h => absurd h (Nat.not_lt_zero _)⟩, HBL⟩
                case round =>
                  clear HP HBL hNN1 hNN2
                  obtain ⟨k, N, rfl, rfl, hk, hNa, hNb, HQ, HW⟩ := hrel
                  have hbx := Go.Proofs.YtckdnhafookcgaaGreatDoor.keep HW.out Xda.out
                  by_cases hlt : k < nda
                  · have hkl : k < da.length := by rw [Lda.out]; exact hlt
                    obtain ⟨b, off, ha, hb, hc⟩ := Rows.get Rda.out hkl
                    rw [ha] at hbx
                    have hx : da[k] ∈ da := List.getElem_mem hkl
                    have hLs := HM.out.ls da[k].l (by unfold Md.codes; exact List.mem_append_right _ (List.mem_append_right _ (List.mem_append_right _ (List.mem_map.2 ⟨_, hx, rfl⟩))))
                    have hLl := HF.out.ls da[k].l (by unfold Md.codes; exact List.mem_append_right _ (List.mem_append_right _ (List.mem_append_right _ (List.mem_map.2 ⟨_, hx, rfl⟩))))
                    have hS := HF.out.bs _ hx
                    obtain ⟨x, hxe⟩ : ∃ x, da[k] = x := ⟨_, rfl⟩
                    have HXE := hid hxe
                    rw [hxe] at hc hLs hLl hS
                    have cc : ∀ j, j < 2 → ∀ v, x.v[j]? = some v → wr.cell? ⟨b, off + k * 2 + j, none⟩ = some v := fun j hj v hv => (HW.out.cell (p := ⟨b, off + k * 2 + j, none⟩) hb).trans (hc j hj v hv)
                    have c0 : wr.cell? ⟨b, off + k * 2, none⟩ = some (.slice x.l.a x.l.t.len x.l.c) := cc 0 (by omega) _ rfl
                    have c1 : wr.cell? ⟨b, off + k * 2 + 1, none⟩ = some (.slice x.ba x.bs.length x.bc) := cc 1 (by omega) _ rfl
                    have hki : (k : Int) < (nda : Int) := by omega
                    have hN1' : 1 ≤ N0 := HI.out (by omega)
                    have hgo := go_bounds x.l.t 0 5000 (by omega) (by omega) (by omega)
                    obtain ⟨q, hq⟩ : ∃ q, x.l.t.go 0 5000 = q := ⟨_, rfl⟩
                    have C := hid (show ∀ a, Calls Tryz.prog 34 #[.slice x.l.a x.l.t.len x.l.c, .int .i64 5000] (wr.drewN a) fun e w' => e = .returned (.int .i64 (x.l.t.go 0 5000)) ∧ w' = wr.drewN a from fun a => (Instrs_any x.l.t.count x.l.t x.l.a x.l.t.len x.l.c 5000 _ (Nat.le_refl _) ((hLs.below (drewQ HW.out a)).more (drewQ HW.out a).size) hLl (by omega) (by omega)).mono fun e w' ⟨he, hw⟩ => ⟨he, hw.symm⟩)
                    rw [hq] at C hgo
                    obtain ⟨hg0, hg1, hg2⟩ := hgo
                    have HG := hid hg2
                    by_cases hmn : (5000 : Int) < (x.bs.length : Int)
                    · have hmz : min (x.bs.length : Int) 5000 = 5000 := by omega
                      have e0 : IntKind.i64.wrap (N + q) = N + q := by rw [IntKind.wrap_i64]; omega
                      have e1 : IntKind.i64.wrap (N + q + 5000) = N + q + 5000 := by rw [IntKind.wrap_i64]; omega
                      have HQ' := hid (show N + q + 5000 ≤ 5000 → ((((True) ∧ ∀ x ∈ fu, x.l.t.weight ≤ 5000) ∧ ∀ x ∈ gl, x.l.t.weight ≤ 5000) ∧ ∀ x ∈ el, x.l.t.weight ≤ 5000 ∧ x.fs.length ≤ 5000) ∧ ∀ (j : Nat) (hj : j < da.length), j < k + 1 → ∃ x, x = da[j] ∧ x.l.t.weight ≤ 5000 ∧ x.bs.length ≤ 5000 from fun h => ⟨(HQ.out (by omega)).1, fun j hj hjk => by
                        by_cases e : j = k
                        · subst e; exact ⟨x, HXE.out.symm, by have := HG.out (by omega); omega, by omega⟩
                        · exact (HQ.out (by omega)).2 j hj (by omega)⟩)
                      have hz1 := show N0 ≤ N + q + 5000 by omega
                      have hz2 := show N + q + 5000 ≤ 300035000 + 20002 * ((k + 1 : Nat) : Int) by omega
                      clear hx hxe hc cc hb ha hLs hLl hq hg2
                      go_wp2
                      go_quiet ((go_at_call 34; exact Calls.quiet_of_same (C.out _)))
                      go_wp2
                      go_roundw
                      case rel => exact ⟨k + 1, _, rfl, by go_num, by omega, hz1, hz2, HQ', drewQ HW.out _⟩
                      case measure => simp [intOf]; omega
                    · have hmz : min (x.bs.length : Int) 5000 = (x.bs.length : Int) := by omega
                      have e0 : IntKind.i64.wrap (N + q) = N + q := by rw [IntKind.wrap_i64]; omega
                      have e1 : IntKind.i64.wrap (N + q + (x.bs.length : Int)) = N + q + (x.bs.length : Int) := by rw [IntKind.wrap_i64]; omega
                      have HQ' := hid (show N + q + (x.bs.length : Int) ≤ 5000 → ((((True) ∧ ∀ x ∈ fu, x.l.t.weight ≤ 5000) ∧ ∀ x ∈ gl, x.l.t.weight ≤ 5000) ∧ ∀ x ∈ el, x.l.t.weight ≤ 5000 ∧ x.fs.length ≤ 5000) ∧ ∀ (j : Nat) (hj : j < da.length), j < k + 1 → ∃ x, x = da[j] ∧ x.l.t.weight ≤ 5000 ∧ x.bs.length ≤ 5000 from fun h => ⟨(HQ.out (by omega)).1, fun j hj hjk => by
                        by_cases e : j = k
                        · subst e; exact ⟨x, HXE.out.symm, by have := HG.out (by omega); omega, by omega⟩
                        · exact (HQ.out (by omega)).2 j hj (by omega)⟩)
                      have hz1 := show N0 ≤ N + q + (x.bs.length : Int) by omega
                      have hz2 := show N + q + (x.bs.length : Int) ≤ 300035000 + 20002 * ((k + 1 : Nat) : Int) by omega
                      clear hx hxe hc cc hb ha hLs hLl hq hg2
                      go_wp2
                      go_quiet ((go_at_call 34; exact Calls.quiet_of_same (C.out _)))
                      go_wp2
                      go_roundw
                      case rel => exact ⟨k + 1, _, rfl, by go_num, by omega, hz1, hz2, HQ', drewQ HW.out _⟩
                      case measure => simp [intOf]; omega
                  · obtain rfl : k = nda := by omega
                    have HP := hid (show N ≤ 5000 → ((((True) ∧ ∀ x ∈ fu, x.l.t.weight ≤ 5000) ∧ ∀ x ∈ gl, x.l.t.weight ≤ 5000) ∧ ∀ x ∈ el, x.l.t.weight ≤ 5000 ∧ x.fs.length ≤ 5000) ∧ ∀ x ∈ da, x.l.t.weight ≤ 5000 ∧ x.bs.length ≤ 5000 from fun h => ⟨(HQ.out h).1, fun x hx => by
                      obtain ⟨j, hj, rfl⟩ := List.mem_iff_getElem.1 hx
                      obtain ⟨y, hy, hq⟩ := (HQ.out h).2 j hj (by rw [← Lda.out]; exact hj)
                      subst hy; exact hq⟩)
                    have hNN1 : N0 ≤ N := by omega
                    have hNN2 : N ≤ 400045000 := by omega
                    have HBL := HW
                    clear HQ hNa hNb HW hlt hk
                    obtain ⟨NN, rfl⟩ : ∃ NN, NN = N := ⟨_, rfl⟩
                    go_wp2
                    clear hbx
                    go_loopw [5, 10] (fun vn vi wr => ∃ (k : Nat) (N : Int), vn = .int .i64 N ∧ vi = .int .i64 k ∧ k ≤ nim ∧ N0 ≤ N ∧ N ≤ 400045000 + 20002 * (k : Int) ∧ Hid (N ≤ 5000 → (((((True) ∧ ∀ x ∈ fu, x.l.t.weight ≤ 5000) ∧ ∀ x ∈ gl, x.l.t.weight ≤ 5000) ∧ ∀ x ∈ el, x.l.t.weight ≤ 5000 ∧ x.fs.length ≤ 5000) ∧ ∀ x ∈ da, x.l.t.weight ≤ 5000 ∧ x.bs.length ≤ 5000) ∧ ∀ (j : Nat) (hj : j < im.length), j < k → ∃ x, x = im[j] ∧ x.mo.size ≤ 5000 ∧ x.na.size ≤ 5000) ∧ Hid (Below W0.heap.size W0 wr)) (fun _ vi _ => nim - (intOf vi).toNat)
                    case atStart => exact ⟨0, NN, rfl, rfl, Nat.zero_le _, by omega, by omega, fun h => ⟨HP.out h, fun j _ h => absurd h (Nat.not_lt_zero _)⟩, HBL⟩
                    case round =>
                      clear HP HBL hNN1 hNN2
                      obtain ⟨k, N, rfl, rfl, hk, hNa, hNb, HQ, HW⟩ := hrel
                      have hbx := Go.Proofs.YtckdnhafookcgaaGreatDoor.keep HW.out Xim.out
                      by_cases hlt : k < nim
                      · have hkl : k < im.length := by rw [Lim.out]; exact hlt
                        obtain ⟨b, off, ha, hb, hc⟩ := Rows.get Rim.out hkl
                        rw [ha] at hbx
                        have hx : im[k] ∈ im := List.getElem_mem hkl
                        have hS := HF.out.iS _ hx
                        obtain ⟨x, hxe⟩ : ∃ x, im[k] = x := ⟨_, rfl⟩
                        have HXE := hid hxe
                        rw [hxe] at hc hS
                        have cc : ∀ j, j < 3 → ∀ v, x.v[j]? = some v → wr.cell? ⟨b, off + k * 3 + j, none⟩ = some v := fun j hj v hv => (HW.out.cell (p := ⟨b, off + k * 3 + j, none⟩) hb).trans (hc j hj v hv)
                        have c0 : wr.cell? ⟨b, off + k * 3, none⟩ = some (.string x.mo) := cc 0 (by omega) _ rfl
                        have c1 : wr.cell? ⟨b, off + k * 3 + 1, none⟩ = some (.string x.na) := cc 1 (by omega) _ rfl
                        have hki : (k : Int) < (nim : Int) := by omega
                        have hN1' : 1 ≤ N0 := HI.out (by omega)
                        by_cases hm1 : (5000 : Int) < (x.mo.size : Int)
                        · by_cases hm2 : (5000 : Int) < (x.na.size : Int)
                          · have hmz : min (x.mo.size : Int) 5000 = 5000 := by omega
                            have hmy : min (x.na.size : Int) 5000 = 5000 := by omega
                            have e0 : IntKind.i64.wrap (N + 5000) = N + 5000 := by rw [IntKind.wrap_i64]; omega
                            have e1 : IntKind.i64.wrap (N + 5000 + 5000) = N + 5000 + 5000 := by rw [IntKind.wrap_i64]; omega
                            have HQ' := hid (show N + 5000 + 5000 ≤ 5000 → (((((True) ∧ ∀ x ∈ fu, x.l.t.weight ≤ 5000) ∧ ∀ x ∈ gl, x.l.t.weight ≤ 5000) ∧ ∀ x ∈ el, x.l.t.weight ≤ 5000 ∧ x.fs.length ≤ 5000) ∧ ∀ x ∈ da, x.l.t.weight ≤ 5000 ∧ x.bs.length ≤ 5000) ∧ ∀ (j : Nat) (hj : j < im.length), j < k + 1 → ∃ x, x = im[j] ∧ x.mo.size ≤ 5000 ∧ x.na.size ≤ 5000 from fun h => ⟨(HQ.out (by omega)).1, fun j hj hjk => by
                              by_cases e : j = k
                              · subst e; exact ⟨x, HXE.out.symm, by omega, by omega⟩
                              · exact (HQ.out (by omega)).2 j hj (by omega)⟩)
                            have hz1 := show N0 ≤ N + 5000 + 5000 by omega
                            have hz2 := show N + 5000 + 5000 ≤ 400045000 + 20002 * ((k + 1 : Nat) : Int) by omega
                            clear hx hxe hc cc hb ha
                            go_wp2
                            go_quiet (fail)
                            go_wp2
                            go_roundw
                            case rel => exact ⟨k + 1, _, rfl, by go_num, by omega, hz1, hz2, HQ', drewQ HW.out _⟩
                            case measure => simp [intOf]; omega
                          · have hmz : min (x.mo.size : Int) 5000 = 5000 := by omega
                            have hmy : min (x.na.size : Int) 5000 = (x.na.size : Int) := by omega
                            have e0 : IntKind.i64.wrap (N + 5000) = N + 5000 := by rw [IntKind.wrap_i64]; omega
                            have e1 : IntKind.i64.wrap (N + 5000 + (x.na.size : Int)) = N + 5000 + (x.na.size : Int) := by rw [IntKind.wrap_i64]; omega
                            have HQ' := hid (show N + 5000 + (x.na.size : Int) ≤ 5000 → (((((True) ∧ ∀ x ∈ fu, x.l.t.weight ≤ 5000) ∧ ∀ x ∈ gl, x.l.t.weight ≤ 5000) ∧ ∀ x ∈ el, x.l.t.weight ≤ 5000 ∧ x.fs.length ≤ 5000) ∧ ∀ x ∈ da, x.l.t.weight ≤ 5000 ∧ x.bs.length ≤ 5000) ∧ ∀ (j : Nat) (hj : j < im.length), j < k + 1 → ∃ x, x = im[j] ∧ x.mo.size ≤ 5000 ∧ x.na.size ≤ 5000 from fun h => ⟨(HQ.out (by omega)).1, fun j hj hjk => by
                              by_cases e : j = k
                              · subst e; exact ⟨x, HXE.out.symm, by omega, by omega⟩
                              · exact (HQ.out (by omega)).2 j hj (by omega)⟩)
                            have hz1 := show N0 ≤ N + 5000 + (x.na.size : Int) by omega
                            have hz2 := show N + 5000 + (x.na.size : Int) ≤ 400045000 + 20002 * ((k + 1 : Nat) : Int) by omega
                            clear hx hxe hc cc hb ha
                            go_wp2
                            go_quiet (fail)
                            go_wp2
                            go_roundw
                            case rel => exact ⟨k + 1, _, rfl, by go_num, by omega, hz1, hz2, HQ', drewQ HW.out _⟩
                            case measure => simp [intOf]; omega
                        · by_cases hm2 : (5000 : Int) < (x.na.size : Int)
                          · have hmz : min (x.mo.size : Int) 5000 = (x.mo.size : Int) := by omega
                            have hmy : min (x.na.size : Int) 5000 = 5000 := by omega
                            have e0 : IntKind.i64.wrap (N + (x.mo.size : Int)) = N + (x.mo.size : Int) := by rw [IntKind.wrap_i64]; omega
                            have e1 : IntKind.i64.wrap (N + (x.mo.size : Int) + 5000) = N + (x.mo.size : Int) + 5000 := by rw [IntKind.wrap_i64]; omega
                            have HQ' := hid (show N + (x.mo.size : Int) + 5000 ≤ 5000 → (((((True) ∧ ∀ x ∈ fu, x.l.t.weight ≤ 5000) ∧ ∀ x ∈ gl, x.l.t.weight ≤ 5000) ∧ ∀ x ∈ el, x.l.t.weight ≤ 5000 ∧ x.fs.length ≤ 5000) ∧ ∀ x ∈ da, x.l.t.weight ≤ 5000 ∧ x.bs.length ≤ 5000) ∧ ∀ (j : Nat) (hj : j < im.length), j < k + 1 → ∃ x, x = im[j] ∧ x.mo.size ≤ 5000 ∧ x.na.size ≤ 5000 from fun h => ⟨(HQ.out (by omega)).1, fun j hj hjk => by
                              by_cases e : j = k
                              · subst e; exact ⟨x, HXE.out.symm, by omega, by omega⟩
                              · exact (HQ.out (by omega)).2 j hj (by omega)⟩)
                            have hz1 := show N0 ≤ N + (x.mo.size : Int) + 5000 by omega
                            have hz2 := show N + (x.mo.size : Int) + 5000 ≤ 400045000 + 20002 * ((k + 1 : Nat) : Int) by omega
                            clear hx hxe hc cc hb ha
                            go_wp2
                            go_quiet (fail)
                            go_wp2
                            go_roundw
                            case rel => exact ⟨k + 1, _, rfl, by go_num, by omega, hz1, hz2, HQ', drewQ HW.out _⟩
                            case measure => simp [intOf]; omega
                          · have hmz : min (x.mo.size : Int) 5000 = (x.mo.size : Int) := by omega
                            have hmy : min (x.na.size : Int) 5000 = (x.na.size : Int) := by omega
                            have e0 : IntKind.i64.wrap (N + (x.mo.size : Int)) = N + (x.mo.size : Int) := by rw [IntKind.wrap_i64]; omega
                            have e1 : IntKind.i64.wrap (N + (x.mo.size : Int) + (x.na.size : Int)) = N + (x.mo.size : Int) + (x.na.size : Int) := by rw [IntKind.wrap_i64]; omega
                            have HQ' := hid (show N + (x.mo.size : Int) + (x.na.size : Int) ≤ 5000 → (((((True) ∧ ∀ x ∈ fu, x.l.t.weight ≤ 5000) ∧ ∀ x ∈ gl, x.l.t.weight ≤ 5000) ∧ ∀ x ∈ el, x.l.t.weight ≤ 5000 ∧ x.fs.length ≤ 5000) ∧ ∀ x ∈ da, x.l.t.weight ≤ 5000 ∧ x.bs.length ≤ 5000) ∧ ∀ (j : Nat) (hj : j < im.length), j < k + 1 → ∃ x, x = im[j] ∧ x.mo.size ≤ 5000 ∧ x.na.size ≤ 5000 from fun h => ⟨(HQ.out (by omega)).1, fun j hj hjk => by
                              by_cases e : j = k
                              · subst e; exact ⟨x, HXE.out.symm, by omega, by omega⟩
                              · exact (HQ.out (by omega)).2 j hj (by omega)⟩)
                            have hz1 := show N0 ≤ N + (x.mo.size : Int) + (x.na.size : Int) by omega
                            have hz2 := show N + (x.mo.size : Int) + (x.na.size : Int) ≤ 400045000 + 20002 * ((k + 1 : Nat) : Int) by omega
                            clear hx hxe hc cc hb ha
                            go_wp2
                            go_quiet (fail)
                            go_wp2
                            go_roundw
                            case rel => exact ⟨k + 1, _, rfl, by go_num, by omega, hz1, hz2, HQ', drewQ HW.out _⟩
                            case measure => simp [intOf]; omega
                      · obtain rfl : k = nim := by omega
                        have HP := hid (show N ≤ 5000 → (((((True) ∧ ∀ x ∈ fu, x.l.t.weight ≤ 5000) ∧ ∀ x ∈ gl, x.l.t.weight ≤ 5000) ∧ ∀ x ∈ el, x.l.t.weight ≤ 5000 ∧ x.fs.length ≤ 5000) ∧ ∀ x ∈ da, x.l.t.weight ≤ 5000 ∧ x.bs.length ≤ 5000) ∧ ∀ x ∈ im, x.mo.size ≤ 5000 ∧ x.na.size ≤ 5000 from fun h => ⟨(HQ.out h).1, fun x hx => by
                          obtain ⟨j, hj, rfl⟩ := List.mem_iff_getElem.1 hx
                          obtain ⟨y, hy, hq⟩ := (HQ.out h).2 j hj (by rw [← Lim.out]; exact hj)
                          subst hy; exact hq⟩)
                        have hNN1 : N0 ≤ N := by omega
                        have hNN2 : N ≤ 500055000 := by omega
                        have HBL := HW
                        clear HQ hNa hNb HW hlt hk
                        obtain ⟨NN, rfl⟩ : ∃ NN, NN = N := ⟨_, rfl⟩
                        go_wp2
                        clear hbx
                        go_loopw [5, 11] (fun vn vi wr => ∃ (k : Nat) (N : Int), vn = .int .i64 N ∧ vi = .int .i64 k ∧ k ≤ nex ∧ N0 ≤ N ∧ N ≤ 500055000 + 20002 * (k : Int) ∧ Hid (N ≤ 5000 → ((((((True) ∧ ∀ x ∈ fu, x.l.t.weight ≤ 5000) ∧ ∀ x ∈ gl, x.l.t.weight ≤ 5000) ∧ ∀ x ∈ el, x.l.t.weight ≤ 5000 ∧ x.fs.length ≤ 5000) ∧ ∀ x ∈ da, x.l.t.weight ≤ 5000 ∧ x.bs.length ≤ 5000) ∧ ∀ x ∈ im, x.mo.size ≤ 5000 ∧ x.na.size ≤ 5000) ∧ ∀ (j : Nat) (hj : j < ex.length), j < k → ∃ x, x = ex[j] ∧ x.na.size ≤ 5000) ∧ Hid (Below W0.heap.size W0 wr)) (fun _ vi _ => nex - (intOf vi).toNat)
                        case atStart => exact ⟨0, NN, rfl, rfl, Nat.zero_le _, by omega, by omega, fun h => ⟨HP.out h, fun j _ h => absurd h (Nat.not_lt_zero _)⟩, HBL⟩
                        case round =>
                          clear HP HBL hNN1 hNN2
                          obtain ⟨k, N, rfl, rfl, hk, hNa, hNb, HQ, HW⟩ := hrel
                          have hbx := Go.Proofs.YtckdnhafookcgaaGreatDoor.keep HW.out Xex.out
                          by_cases hlt : k < nex
                          · have hkl : k < ex.length := by rw [Lex.out]; exact hlt
                            obtain ⟨b, off, ha, hb, hc⟩ := Rows.get Rex.out hkl
                            rw [ha] at hbx
                            have hx : ex[k] ∈ ex := List.getElem_mem hkl
                            have hS := HF.out.eS _ hx
                            obtain ⟨x, hxe⟩ : ∃ x, ex[k] = x := ⟨_, rfl⟩
                            have HXE := hid hxe
                            rw [hxe] at hc hS
                            have cc : ∀ j, j < 3 → ∀ v, x.v[j]? = some v → wr.cell? ⟨b, off + k * 3 + j, none⟩ = some v := fun j hj v hv => (HW.out.cell (p := ⟨b, off + k * 3 + j, none⟩) hb).trans (hc j hj v hv)
                            have c0 : wr.cell? ⟨b, off + k * 3, none⟩ = some (.string x.na) := cc 0 (by omega) _ rfl
                            have hki : (k : Int) < (nex : Int) := by omega
                            have hN1' : 1 ≤ N0 := HI.out (by omega)
                            by_cases hmn : (5000 : Int) < (x.na.size : Int)
                            · have hmz : min (x.na.size : Int) 5000 = 5000 := by omega
                              have HQ' := hid (show N + 5000 ≤ 5000 → ((((((True) ∧ ∀ x ∈ fu, x.l.t.weight ≤ 5000) ∧ ∀ x ∈ gl, x.l.t.weight ≤ 5000) ∧ ∀ x ∈ el, x.l.t.weight ≤ 5000 ∧ x.fs.length ≤ 5000) ∧ ∀ x ∈ da, x.l.t.weight ≤ 5000 ∧ x.bs.length ≤ 5000) ∧ ∀ x ∈ im, x.mo.size ≤ 5000 ∧ x.na.size ≤ 5000) ∧ ∀ (j : Nat) (hj : j < ex.length), j < k + 1 → ∃ x, x = ex[j] ∧ x.na.size ≤ 5000 from fun h => ⟨(HQ.out (by omega)).1, fun j hj hjk => by
                                by_cases e : j = k
                                · subst e; exact ⟨x, HXE.out.symm, by omega⟩
                                · exact (HQ.out (by omega)).2 j hj (by omega)⟩)
                              clear hx hxe hc cc hb ha
                              go_wp2
                              go_roundw
                              case rel => exact ⟨k + 1, _, rfl, by go_num, by omega, by omega, by omega, HQ', HW⟩
                              case measure => simp [intOf]; omega
                            · have hmz : min (x.na.size : Int) 5000 = (x.na.size : Int) := by omega
                              have HQ' := hid (show N + (x.na.size : Int) ≤ 5000 → ((((((True) ∧ ∀ x ∈ fu, x.l.t.weight ≤ 5000) ∧ ∀ x ∈ gl, x.l.t.weight ≤ 5000) ∧ ∀ x ∈ el, x.l.t.weight ≤ 5000 ∧ x.fs.length ≤ 5000) ∧ ∀ x ∈ da, x.l.t.weight ≤ 5000 ∧ x.bs.length ≤ 5000) ∧ ∀ x ∈ im, x.mo.size ≤ 5000 ∧ x.na.size ≤ 5000) ∧ ∀ (j : Nat) (hj : j < ex.length), j < k + 1 → ∃ x, x = ex[j] ∧ x.na.size ≤ 5000 from fun h => ⟨(HQ.out (by omega)).1, fun j hj hjk => by
                                by_cases e : j = k
                                · subst e; exact ⟨x, HXE.out.symm, by omega⟩
                                · exact (HQ.out (by omega)).2 j hj (by omega)⟩)
                              clear hx hxe hc cc hb ha
                              go_wp2
                              go_roundw
                              case rel => exact ⟨k + 1, _, rfl, by go_num, by omega, by omega, by omega, HQ', HW⟩
                              case measure => simp [intOf]; omega
                          · obtain rfl : k = nex := by omega
                            have HP := hid (show N ≤ 5000 → ((((((True) ∧ ∀ x ∈ fu, x.l.t.weight ≤ 5000) ∧ ∀ x ∈ gl, x.l.t.weight ≤ 5000) ∧ ∀ x ∈ el, x.l.t.weight ≤ 5000 ∧ x.fs.length ≤ 5000) ∧ ∀ x ∈ da, x.l.t.weight ≤ 5000 ∧ x.bs.length ≤ 5000) ∧ ∀ x ∈ im, x.mo.size ≤ 5000 ∧ x.na.size ≤ 5000) ∧ ∀ x ∈ ex, x.na.size ≤ 5000 from fun h => ⟨(HQ.out h).1, fun x hx => by
                              obtain ⟨j, hj, rfl⟩ := List.mem_iff_getElem.1 hx
                              obtain ⟨y, hy, hq⟩ := (HQ.out h).2 j hj (by rw [← Lex.out]; exact hj)
                              subst hy; exact hq⟩)
                            have hNN1 : N0 ≤ N := by omega
                            have hNN2 : N ≤ 600065000 := by omega
                            have HBL := HW
                            clear HQ hNa hNb HW hlt hk
                            have HZ := hid (large_end (m := (⟨ty, im, fu, tb, me, gl, ex, st, sn, el, da, ty', im', fu', tb', me', gl', ex', el', da'⟩ : Md)) (N := N) (HB.out.trans (HBL.out.mono HB.out.size)) (fun h => by
                              obtain ⟨⟨⟨⟨⟨⟨_, z1⟩, z2⟩, z3⟩, z4⟩, z5⟩, z6⟩ := HP.out h
                              refine ⟨HSUM.out, fun l hl => ?_, fun e he => (z3 e he).2, fun d hd => (z4 d hd).2, z5, z6⟩
                              unfold Md.codes at hl
                              simp only [List.mem_append, List.mem_map] at hl
                              rcases hl with ⟨x, hx, rfl⟩ | ⟨x, hx, rfl⟩ | ⟨x, hx, rfl⟩ | ⟨x, hx, rfl⟩
                              · exact z1 x hx
                              · exact z2 x hx
                              · exact (z3 x hx).1
                              · exact (z4 x hx).1))
                            go_wp2
                            go_ret
                            exact HZ.out
end Go.Proofs.YtckdnhafookcgaaGreatDoor.Mod

namespace Go.Proofs.YtckdnhafookcgaaGreatDoor.Mod
open Go.RowKit Go.Proofs.YtckdnhafookcgaaGreatDoor.Instr

set_option maxRecDepth 100000 in
set_option maxHeartbeats 2000000 in
theorem clone_ty (w : World) (a : Option Addr) (n c : Nat) (ys : List (List Value)) (hn : ys.length = n) (hr : Rows w.heap.size w a 2 ys) (hlen : ∀ r ∈ ys, r.length = 2) (h1 : ∀ r ∈ ys, ∀ u ∈ r, u.oneCell' = true) (hl : ys.length ≤ 1000000000) :
    Calls Tryz.prog 86 #[.slice a n c] w fun e w' => ∃ v, e = .returned v ∧ OwnR 92 2 w.heap.size w' v ys ∧ Below w.heap.size w w' := by
  have HN := hid hn
  have HR := hid hr
  have HL := hid hlen
  have H1 := hid h1
  have HM := hid hl
  clear hn hr hlen h1 hl
  cases a with
  | none =>
    have HY : Hid (ys = []) := hid (HR.out.elim id (fun ⟨b, off, h, _⟩ => by cases h))
    have qn := Lib.run_eql_slice_nil (P := Tryz.prog) w 22 92 none n c 0 0 Tryz.underlying22
    rw [Option.isNone_none] at qn
    go_enter Tryz.func86, Tryz.ntmps86
    go_wp2
    go_ret
    exact ⟨_, rfl, by rw [HY.out]; exact OwnR.start _ _ _ _, Below.refl _ _⟩
  | some ad =>
    have qn := Lib.run_eql_slice_nil (P := Tryz.prog) w 22 92 (some ad) n c 0 0 Tryz.underlying22
    rw [Option.isNone_some] at qn
    go_enter Tryz.func86, Tryz.ntmps86
    go_wp2_with (at_builtin; refine append_list infoTy rfl (by omega) (by omega) Tryz.underlying22 rfl (.tmp 5) (.tmp 6) rfl rfl (OwnR.madeG 92 2 _ rfl) (by simp) _ _ _ rfl ys HN.out ((HR.out.below ((Below.refl _ _).alloc (Nat.le_refl _) _)).more (by simp)) HL.out H1.out HM.out ?_; intro v1 u1 ho hb hsz)
    go_ret
    exact ⟨_, rfl, ho, (((Below.refl w.heap.size w).alloc (Nat.le_refl _) _).trans hb)⟩

set_option maxRecDepth 100000 in
set_option maxHeartbeats 2000000 in
theorem clone_im (w : World) (a : Option Addr) (n c : Nat) (ys : List (List Value)) (hn : ys.length = n) (hr : Rows w.heap.size w a 3 ys) (hlen : ∀ r ∈ ys, r.length = 3) (h1 : ∀ r ∈ ys, ∀ u ∈ r, u.oneCell' = true) (hl : ys.length ≤ 1000000000) :
    Calls Tryz.prog 87 #[.slice a n c] w fun e w' => ∃ v, e = .returned v ∧ OwnR 90 3 w.heap.size w' v ys ∧ Below w.heap.size w w' := by
  have HN := hid hn
  have HR := hid hr
  have HL := hid hlen
  have H1 := hid h1
  have HM := hid hl
  clear hn hr hlen h1 hl
  cases a with
  | none =>
    have HY : Hid (ys = []) := hid (HR.out.elim id (fun ⟨b, off, h, _⟩ => by cases h))
    have qn := Lib.run_eql_slice_nil (P := Tryz.prog) w 23 90 none n c 0 0 Tryz.underlying23
    rw [Option.isNone_none] at qn
    go_enter Tryz.func87, Tryz.ntmps87
    go_wp2
    go_ret
    exact ⟨_, rfl, by rw [HY.out]; exact OwnR.start _ _ _ _, Below.refl _ _⟩
  | some ad =>
    have qn := Lib.run_eql_slice_nil (P := Tryz.prog) w 23 90 (some ad) n c 0 0 Tryz.underlying23
    rw [Option.isNone_some] at qn
    go_enter Tryz.func87, Tryz.ntmps87
    go_wp2_with (at_builtin; refine append_list infoIm rfl (by omega) (by omega) Tryz.underlying23 rfl (.tmp 5) (.tmp 6) rfl rfl (OwnR.madeG 90 3 _ rfl) (by simp) _ _ _ rfl ys HN.out ((HR.out.below ((Below.refl _ _).alloc (Nat.le_refl _) _)).more (by simp)) HL.out H1.out HM.out ?_; intro v1 u1 ho hb hsz)
    go_ret
    exact ⟨_, rfl, ho, (((Below.refl w.heap.size w).alloc (Nat.le_refl _) _).trans hb)⟩

set_option maxRecDepth 100000 in
set_option maxHeartbeats 2000000 in
theorem clone_fu (w : World) (a : Option Addr) (n c : Nat) (ys : List (List Value)) (hn : ys.length = n) (hr : Rows w.heap.size w a 3 ys) (hlen : ∀ r ∈ ys, r.length = 3) (h1 : ∀ r ∈ ys, ∀ u ∈ r, u.oneCell' = true) (hl : ys.length ≤ 1000000000) :
    Calls Tryz.prog 165 #[.slice a n c] w fun e w' => ∃ v, e = .returned v ∧ OwnR 101 3 w.heap.size w' v ys ∧ Below w.heap.size w w' := by
  have HN := hid hn
  have HR := hid hr
  have HL := hid hlen
  have H1 := hid h1
  have HM := hid hl
  clear hn hr hlen h1 hl
  cases a with
  | none =>
    have HY : Hid (ys = []) := hid (HR.out.elim id (fun ⟨b, off, h, _⟩ => by cases h))
    have qn := Lib.run_eql_slice_nil (P := Tryz.prog) w 24 101 none n c 0 0 Tryz.underlying24
    rw [Option.isNone_none] at qn
    go_enter Tryz.func165, Tryz.ntmps165
    go_wp2
    go_ret
    exact ⟨_, rfl, by rw [HY.out]; exact OwnR.start _ _ _ _, Below.refl _ _⟩
  | some ad =>
    have qn := Lib.run_eql_slice_nil (P := Tryz.prog) w 24 101 (some ad) n c 0 0 Tryz.underlying24
    rw [Option.isNone_some] at qn
    go_enter Tryz.func165, Tryz.ntmps165
    go_wp2_with (at_builtin; refine append_list infoFn rfl (by omega) (by omega) Tryz.underlying24 rfl (.tmp 5) (.tmp 6) rfl rfl (OwnR.madeG 101 3 _ rfl) (by simp) _ _ _ rfl ys HN.out ((HR.out.below ((Below.refl _ _).alloc (Nat.le_refl _) _)).more (by simp)) HL.out H1.out HM.out ?_; intro v1 u1 ho hb hsz)
    go_ret
    exact ⟨_, rfl, ho, (((Below.refl w.heap.size w).alloc (Nat.le_refl _) _).trans hb)⟩

set_option maxRecDepth 100000 in
set_option maxHeartbeats 2000000 in
theorem clone_li (w : World) (a : Option Addr) (n c : Nat) (ys : List (List Value)) (hn : ys.length = n) (hr : Rows w.heap.size w a 3 ys) (hlen : ∀ r ∈ ys, r.length = 3) (h1 : ∀ r ∈ ys, ∀ u ∈ r, u.oneCell' = true) (hl : ys.length ≤ 1000000000) :
    Calls Tryz.prog 90 #[.slice a n c] w fun e w' => ∃ v, e = .returned v ∧ OwnR 83 3 w.heap.size w' v ys ∧ Below w.heap.size w w' := by
  have HN := hid hn
  have HR := hid hr
  have HL := hid hlen
  have H1 := hid h1
  have HM := hid hl
  clear hn hr hlen h1 hl
  cases a with
  | none =>
    have HY : Hid (ys = []) := hid (HR.out.elim id (fun ⟨b, off, h, _⟩ => by cases h))
    have qn := Lib.run_eql_slice_nil (P := Tryz.prog) w 25 83 none n c 0 0 Tryz.underlying25
    rw [Option.isNone_none] at qn
    go_enter Tryz.func90, Tryz.ntmps90
    go_wp2
    go_ret
    exact ⟨_, rfl, by rw [HY.out]; exact OwnR.start _ _ _ _, Below.refl _ _⟩
  | some ad =>
    have qn := Lib.run_eql_slice_nil (P := Tryz.prog) w 25 83 (some ad) n c 0 0 Tryz.underlying25
    rw [Option.isNone_some] at qn
    go_enter Tryz.func90, Tryz.ntmps90
    go_wp2_with (at_builtin; refine append_list infoLi rfl (by omega) (by omega) Tryz.underlying25 rfl (.tmp 5) (.tmp 6) rfl rfl (OwnR.madeG 83 3 _ rfl) (by simp) _ _ _ rfl ys HN.out ((HR.out.below ((Below.refl _ _).alloc (Nat.le_refl _) _)).more (by simp)) HL.out H1.out HM.out ?_; intro v1 u1 ho hb hsz)
    go_ret
    exact ⟨_, rfl, ho, (((Below.refl w.heap.size w).alloc (Nat.le_refl _) _).trans hb)⟩

set_option maxRecDepth 100000 in
set_option maxHeartbeats 2000000 in
theorem clone_gl (w : World) (a : Option Addr) (n c : Nat) (ys : List (List Value)) (hn : ys.length = n) (hr : Rows w.heap.size w a 2 ys) (hlen : ∀ r ∈ ys, r.length = 2) (h1 : ∀ r ∈ ys, ∀ u ∈ r, u.oneCell' = true) (hl : ys.length ≤ 1000000000) :
    Calls Tryz.prog 167 #[.slice a n c] w fun e w' => ∃ v, e = .returned v ∧ OwnR 94 2 w.heap.size w' v ys ∧ Below w.heap.size w w' := by
  have HN := hid hn
  have HR := hid hr
  have HL := hid hlen
  have H1 := hid h1
  have HM := hid hl
  clear hn hr hlen h1 hl
  cases a with
  | none =>
    have HY : Hid (ys = []) := hid (HR.out.elim id (fun ⟨b, off, h, _⟩ => by cases h))
    have qn := Lib.run_eql_slice_nil (P := Tryz.prog) w 26 94 none n c 0 0 Tryz.underlying26
    rw [Option.isNone_none] at qn
    go_enter Tryz.func167, Tryz.ntmps167
    go_wp2
    go_ret
    exact ⟨_, rfl, by rw [HY.out]; exact OwnR.start _ _ _ _, Below.refl _ _⟩
  | some ad =>
    have qn := Lib.run_eql_slice_nil (P := Tryz.prog) w 26 94 (some ad) n c 0 0 Tryz.underlying26
    rw [Option.isNone_some] at qn
    go_enter Tryz.func167, Tryz.ntmps167
    go_wp2_with (at_builtin; refine append_list infoGl rfl (by omega) (by omega) Tryz.underlying26 rfl (.tmp 5) (.tmp 6) rfl rfl (OwnR.madeG 94 2 _ rfl) (by simp) _ _ _ rfl ys HN.out ((HR.out.below ((Below.refl _ _).alloc (Nat.le_refl _) _)).more (by simp)) HL.out H1.out HM.out ?_; intro v1 u1 ho hb hsz)
    go_ret
    exact ⟨_, rfl, ho, (((Below.refl w.heap.size w).alloc (Nat.le_refl _) _).trans hb)⟩

set_option maxRecDepth 100000 in
set_option maxHeartbeats 2000000 in
theorem clone_ex (w : World) (a : Option Addr) (n c : Nat) (ys : List (List Value)) (hn : ys.length = n) (hr : Rows w.heap.size w a 3 ys) (hlen : ∀ r ∈ ys, r.length = 3) (h1 : ∀ r ∈ ys, ∀ u ∈ r, u.oneCell' = true) (hl : ys.length ≤ 1000000000) :
    Calls Tryz.prog 93 #[.slice a n c] w fun e w' => ∃ v, e = .returned v ∧ OwnR 111 3 w.heap.size w' v ys ∧ Below w.heap.size w w' := by
  have HN := hid hn
  have HR := hid hr
  have HL := hid hlen
  have H1 := hid h1
  have HM := hid hl
  clear hn hr hlen h1 hl
  cases a with
  | none =>
    have HY : Hid (ys = []) := hid (HR.out.elim id (fun ⟨b, off, h, _⟩ => by cases h))
    have qn := Lib.run_eql_slice_nil (P := Tryz.prog) w 27 111 none n c 0 0 Tryz.underlying27
    rw [Option.isNone_none] at qn
    go_enter Tryz.func93, Tryz.ntmps93
    go_wp2
    go_ret
    exact ⟨_, rfl, by rw [HY.out]; exact OwnR.start _ _ _ _, Below.refl _ _⟩
  | some ad =>
    have qn := Lib.run_eql_slice_nil (P := Tryz.prog) w 27 111 (some ad) n c 0 0 Tryz.underlying27
    rw [Option.isNone_some] at qn
    go_enter Tryz.func93, Tryz.ntmps93
    go_wp2_with (at_builtin; refine append_list infoEx rfl (by omega) (by omega) Tryz.underlying27 rfl (.tmp 5) (.tmp 6) rfl rfl (OwnR.madeG 111 3 _ rfl) (by simp) _ _ _ rfl ys HN.out ((HR.out.below ((Below.refl _ _).alloc (Nat.le_refl _) _)).more (by simp)) HL.out H1.out HM.out ?_; intro v1 u1 ho hb hsz)
    go_ret
    exact ⟨_, rfl, ho, (((Below.refl w.heap.size w).alloc (Nat.le_refl _) _).trans hb)⟩

set_option maxRecDepth 100000 in
set_option maxHeartbeats 2000000 in
theorem clone_el (w : World) (a : Option Addr) (n c : Nat) (ys : List (List Value)) (hn : ys.length = n) (hr : Rows w.heap.size w a 2 ys) (hlen : ∀ r ∈ ys, r.length = 2) (h1 : ∀ r ∈ ys, ∀ u ∈ r, u.oneCell' = true) (hl : ys.length ≤ 1000000000) :
    Calls Tryz.prog 168 #[.slice a n c] w fun e w' => ∃ v, e = .returned v ∧ OwnR 109 2 w.heap.size w' v ys ∧ Below w.heap.size w w' := by
  have HN := hid hn
  have HR := hid hr
  have HL := hid hlen
  have H1 := hid h1
  have HM := hid hl
  clear hn hr hlen h1 hl
  cases a with
  | none =>
    have HY : Hid (ys = []) := hid (HR.out.elim id (fun ⟨b, off, h, _⟩ => by cases h))
    have qn := Lib.run_eql_slice_nil (P := Tryz.prog) w 29 109 none n c 0 0 Tryz.underlying29
    rw [Option.isNone_none] at qn
    go_enter Tryz.func168, Tryz.ntmps168
    go_wp2
    go_ret
    exact ⟨_, rfl, by rw [HY.out]; exact OwnR.start _ _ _ _, Below.refl _ _⟩
  | some ad =>
    have qn := Lib.run_eql_slice_nil (P := Tryz.prog) w 29 109 (some ad) n c 0 0 Tryz.underlying29
    rw [Option.isNone_some] at qn
    go_enter Tryz.func168, Tryz.ntmps168
    go_wp2_with (at_builtin; refine append_list infoEl rfl (by omega) (by omega) Tryz.underlying29 rfl (.tmp 5) (.tmp 6) rfl rfl (OwnR.madeG 109 2 _ rfl) (by simp) _ _ _ rfl ys HN.out ((HR.out.below ((Below.refl _ _).alloc (Nat.le_refl _) _)).more (by simp)) HL.out H1.out HM.out ?_; intro v1 u1 ho hb hsz)
    go_ret
    exact ⟨_, rfl, ho, (((Below.refl w.heap.size w).alloc (Nat.le_refl _) _).trans hb)⟩

set_option maxRecDepth 100000 in
set_option maxHeartbeats 2000000 in
theorem clone_da (w : World) (a : Option Addr) (n c : Nat) (ys : List (List Value)) (hn : ys.length = n) (hr : Rows w.heap.size w a 2 ys) (hlen : ∀ r ∈ ys, r.length = 2) (h1 : ∀ r ∈ ys, ∀ u ∈ r, u.oneCell' = true) (hl : ys.length ≤ 1000000000) :
    Calls Tryz.prog 170 #[.slice a n c] w fun e w' => ∃ v, e = .returned v ∧ OwnR 88 2 w.heap.size w' v ys ∧ Below w.heap.size w w' := by
  have HN := hid hn
  have HR := hid hr
  have HL := hid hlen
  have H1 := hid h1
  have HM := hid hl
  clear hn hr hlen h1 hl
  cases a with
  | none =>
    have HY : Hid (ys = []) := hid (HR.out.elim id (fun ⟨b, off, h, _⟩ => by cases h))
    have qn := Lib.run_eql_slice_nil (P := Tryz.prog) w 30 88 none n c 0 0 Tryz.underlying30
    rw [Option.isNone_none] at qn
    go_enter Tryz.func170, Tryz.ntmps170
    go_wp2
    go_ret
    exact ⟨_, rfl, by rw [HY.out]; exact OwnR.start _ _ _ _, Below.refl _ _⟩
  | some ad =>
    have qn := Lib.run_eql_slice_nil (P := Tryz.prog) w 30 88 (some ad) n c 0 0 Tryz.underlying30
    rw [Option.isNone_some] at qn
    go_enter Tryz.func170, Tryz.ntmps170
    go_wp2_with (at_builtin; refine append_list infoDa rfl (by omega) (by omega) Tryz.underlying30 rfl (.tmp 5) (.tmp 6) rfl rfl (OwnR.madeG 88 2 _ rfl) (by simp) _ _ _ rfl ys HN.out ((HR.out.below ((Below.refl _ _).alloc (Nat.le_refl _) _)).more (by simp)) HL.out H1.out HM.out ?_; intro v1 u1 ho hb hsz)
    go_ret
    exact ⟨_, rfl, ho, (((Below.refl w.heap.size w).alloc (Nat.le_refl _) _).trans hb)⟩

set_option maxRecDepth 100000 in
set_option maxHeartbeats 2000000 in
theorem clone_in (w : World) (a : Option Addr) (n c : Nat) (ys : List (List Value)) (hn : ys.length = n) (hr : Rows w.heap.size w a 8 ys) (hlen : ∀ r ∈ ys, r.length = 8) (h1 : ∀ r ∈ ys, ∀ u ∈ r, u.oneCell' = true) (hl : ys.length ≤ 1000000000) :
    Calls Tryz.prog 234 #[.slice a n c] w fun e w' => ∃ v, e = .returned v ∧ OwnR 105 8 w.heap.size w' v ys ∧ Below w.heap.size w w' := by
  have HN := hid hn
  have HR := hid hr
  have HL := hid hlen
  have H1 := hid h1
  have HM := hid hl
  clear hn hr hlen h1 hl
  cases a with
  | none =>
    have HY : Hid (ys = []) := hid (HR.out.elim id (fun ⟨b, off, h, _⟩ => by cases h))
    have qn := Lib.run_eql_slice_nil (P := Tryz.prog) w 85 105 none n c 0 0 Tryz.underlying85
    rw [Option.isNone_none] at qn
    go_enter Tryz.func234, Tryz.ntmps234
    go_wp2
    go_ret
    exact ⟨_, rfl, by rw [HY.out]; exact OwnR.start _ _ _ _, Below.refl _ _⟩
  | some ad =>
    have qn := Lib.run_eql_slice_nil (P := Tryz.prog) w 85 105 (some ad) n c 0 0 Tryz.underlying85
    rw [Option.isNone_some] at qn
    go_enter Tryz.func234, Tryz.ntmps234
    go_wp2_with (at_builtin; refine append_list Body.infoI rfl (by omega) (by omega) Tryz.underlying85 rfl (.tmp 5) (.tmp 6) rfl rfl (OwnR.madeG 105 8 _ rfl) (by simp) _ _ _ rfl ys HN.out ((HR.out.below ((Below.refl _ _).alloc (Nat.le_refl _) _)).more (by simp)) HL.out H1.out HM.out ?_; intro v1 u1 ho hb hsz)
    go_ret
    exact ⟨_, rfl, ho, (((Below.refl w.heap.size w).alloc (Nat.le_refl _) _).trans hb)⟩

set_option maxRecDepth 100000 in
set_option maxHeartbeats 2000000 in
theorem clone_u4 (w : World) (a : Option Addr) (n c : Nat) (ys : List (List Value)) (hn : ys.length = n) (hr : Rows w.heap.size w a 1 ys) (hlen : ∀ r ∈ ys, r.length = 1) (h1 : ∀ r ∈ ys, ∀ u ∈ r, u.oneCell' = true) (hl : ys.length ≤ 1000000000) :
    Calls Tryz.prog 169 #[.slice a n c] w fun e w' => ∃ v, e = .returned v ∧ OwnR 28 1 w.heap.size w' v ys ∧ Below w.heap.size w w' := by
  have HN := hid hn
  have HR := hid hr
  have HL := hid hlen
  have H1 := hid h1
  have HM := hid hl
  clear hn hr hlen h1 hl
  cases a with
  | none =>
    have HY : Hid (ys = []) := hid (HR.out.elim id (fun ⟨b, off, h, _⟩ => by cases h))
    have qn := Lib.run_eql_slice_nil (P := Tryz.prog) w 50 28 none n c 0 0 Tryz.underlying50
    rw [Option.isNone_none] at qn
    go_enter Tryz.func169, Tryz.ntmps169
    go_wp2
    go_ret
    exact ⟨_, rfl, by rw [HY.out]; exact OwnR.start _ _ _ _, Below.refl _ _⟩
  | some ad =>
    have qn := Lib.run_eql_slice_nil (P := Tryz.prog) w 50 28 (some ad) n c 0 0 Tryz.underlying50
    rw [Option.isNone_some] at qn
    go_enter Tryz.func169, Tryz.ntmps169
    go_wp2_with (at_builtin; refine append_list infoI32 rfl (by omega) (by omega) Tryz.underlying50 rfl (.tmp 5) (.tmp 6) rfl rfl (OwnR.madeG 28 1 _ rfl) (by simp) _ _ _ rfl ys HN.out ((HR.out.below ((Below.refl _ _).alloc (Nat.le_refl _) _)).more (by simp)) HL.out H1.out HM.out ?_; intro v1 u1 ho hb hsz)
    go_ret
    exact ⟨_, rfl, ho, (((Below.refl w.heap.size w).alloc (Nat.le_refl _) _).trans hb)⟩

end Go.Proofs.YtckdnhafookcgaaGreatDoor.Mod

namespace Go.Proofs.YtckdnhafookcgaaGreatDoor.Mod
open Go.RowKit Go.Proofs.YtckdnhafookcgaaGreatDoor.Instr

/-- Two worlds with the same blocks from lo on and below hi. -/
def Same2 (lo hi : Nat) (w w' : World) : Prop := ∀ b, lo ≤ b → b < hi → w'.heap[b]? = w.heap[b]?
theorem Same2.of_below {lo hi B : Nat} {w w' : World} (h : Below B w w') (hh : hi ≤ B) : Same2 lo hi w w' := fun b _ h2 => h.block b (by omega)
theorem Same2.set {lo hi b o : Nat} {w : World} {v : Value} (h : b < lo ∨ hi ≤ b) : Same2 lo hi w (w.setCell ⟨b, o, none⟩ v) := fun q h1 h2 => Below.heap_setCell w ⟨b, o, none⟩ v q (by simp only; omega)
theorem Same2.trans {lo hi : Nat} {a b c : World} (h : Same2 lo hi a b) (g : Same2 lo hi b c) : Same2 lo hi a c := fun q h1 h2 => (g q h1 h2).trans (h q h1 h2)
theorem Same2.cell {lo hi b o : Nat} {w w' : World} (h : Same2 lo hi w w') (h1 : lo ≤ b) (h2 : b < hi) : w'.cell? ⟨b, o, none⟩ = w.cell? ⟨b, o, none⟩ := by
  simp only [World.cell?, h b h1 h2]
theorem Blk.frame {lo hi b : Nat} {w w' : World} (s : Same2 lo hi w w') (h : Blk lo hi w b) : Blk lo hi w' b := by
  obtain ⟨h1, h2, cs, e, h3⟩ := h
  exact ⟨h1, h2, cs, e, (s b h1 h2).trans h3⟩
theorem TagsO.frame {lo hi : Nat} {w w' : World} (s : Same2 lo hi w w') {a : Option Addr} {zs : List Int} (h : TagsO lo hi w a zs) : TagsO lo hi w' a zs := by
  rcases h with h | ⟨b, off, ha, hb, hc⟩
  · exact .inl h
  · exact .inr ⟨b, off, ha, hb.frame s, fun i hi => (s.cell hb.1 hb.2.1).trans (hc i hi)⟩
theorem ItemsO.frame {lo hi : Nat} {w w' : World} (s : Same2 lo hi w w') : ∀ {t : Il} {b off : Nat}, ItemsO lo hi w b off t → ItemsO lo hi w' b off t
  | .nil, _, _, _ => trivial
  | .cons x l e r, b, off, ⟨hb, hx, hc, ht, ⟨l1, l2⟩, ⟨e1, e2⟩, hr⟩ => by
    refine ⟨hb.frame s, hx, fun j v hj => (s.cell hb.1 hb.2.1).trans (hc j v hj), ht.frame s, ⟨l1, ?_⟩, ⟨e1, ?_⟩, ItemsO.frame s hr⟩
    · rcases l2 with h | ⟨b', o', h1, h2⟩
      · exact .inl h
      · exact .inr ⟨b', o', h1, ItemsO.frame s h2⟩
    · rcases e2 with h | ⟨b', o', h1, h2⟩
      · exact .inl h
      · exact .inr ⟨b', o', h1, ItemsO.frame s h2⟩
theorem ListO.frame {lo hi n : Nat} {w w' : World} (s : Same2 lo hi w w') {a : Option Addr} {t : Il} (h : ListO lo hi w a n t) : ListO lo hi w' a n t := by
  refine ⟨h.1, ?_⟩
  rcases h.2 with h | ⟨b, off, h1, h2⟩
  · exact .inl h
  · exact .inr ⟨b, off, h1, h2.frame s⟩
theorem Blk.mono {lo hi lo' hi' b : Nat} {w : World} (h1 : lo' ≤ lo) (h2 : hi ≤ hi') (h : Blk lo hi w b) : Blk lo' hi' w b := ⟨Nat.le_trans h1 h.1, Nat.lt_of_lt_of_le h.2.1 h2, h.2.2⟩
theorem TagsO.mono {lo hi lo' hi' : Nat} {w : World} (h1 : lo' ≤ lo) (h2 : hi ≤ hi') {a : Option Addr} {zs : List Int} (h : TagsO lo hi w a zs) : TagsO lo' hi' w a zs := by
  rcases h with h | ⟨b, off, ha, hb, hc⟩
  · exact .inl h
  · exact .inr ⟨b, off, ha, hb.mono h1 h2, hc⟩
theorem ItemsO.mono {lo hi lo' hi' : Nat} {w : World} (g1 : lo' ≤ lo) (g2 : hi ≤ hi') : ∀ {t : Il} {b off : Nat}, ItemsO lo hi w b off t → ItemsO lo' hi' w b off t
  | .nil, _, _, _ => trivial
  | .cons x l e r, b, off, ⟨hb, hx, hc, ht, ⟨l1, l2⟩, ⟨e1, e2⟩, hr⟩ => by
    refine ⟨hb.mono g1 g2, hx, hc, ht.mono g1 g2, ⟨l1, ?_⟩, ⟨e1, ?_⟩, ItemsO.mono g1 g2 hr⟩
    · rcases l2 with h | ⟨b', o', h1, h2⟩
      · exact .inl h
      · exact .inr ⟨b', o', h1, ItemsO.mono g1 g2 h2⟩
    · rcases e2 with h | ⟨b', o', h1, h2⟩
      · exact .inl h
      · exact .inr ⟨b', o', h1, ItemsO.mono g1 g2 h2⟩
theorem ListO.mono {lo hi lo' hi' n : Nat} {w : World} (g1 : lo' ≤ lo) (g2 : hi ≤ hi') {a : Option Addr} {t : Il} (h : ListO lo hi w a n t) : ListO lo' hi' w a n t := by
  refine ⟨h.1, ?_⟩
  rcases h.2 with h | ⟨b, off, h1, h2⟩
  · exact .inl h
  · exact .inr ⟨b, off, h1, h2.mono g1 g2⟩
/-- The rows of one cell that numbers are. -/
def oneU (zs : List Int) : List (List Value) := zs.map fun z => [.int .u32 z]
theorem rows_tags {n₀ : Nat} {w : World} {a : Option Addr} {zs : List Int} (h : TagsAt n₀ w a zs) : Rows n₀ w a 1 (oneU zs) := by
  rcases h with h | ⟨b, off, ha, hb, hc⟩
  · exact .inl (by rw [h]; rfl)
  · refine .inr ⟨b, off, ha, hb, fun i hi j hj v hv => ?_⟩
    unfold oneU at hi hv
    rw [List.length_map] at hi
    obtain rfl : j = 0 := by omega
    have : (List.map (fun z => [Value.int .u32 z]) zs).getD i [] = [.int .u32 (zs.getD i 0)] := by simp [hi]
    rw [this] at hv
    cases hv
    rw [Nat.mul_one, Nat.add_zero]
    exact hc i hi
theorem flat_oneU (zs : List Int) : (oneU zs).flatten = zs.map (Value.int .u32) := by
  unfold oneU
  induction zs with
  | nil => rfl
  | cons z r ih => simp only [List.map_cons, List.flatten_cons, ih]; rfl
theorem own_tags {e : TypeId} {base : Nat} {w : World} {v : Value} {zs : List Int} (h : OwnR e 1 base w v (oneU zs)) : ∃ a c, v = .slice a zs.length c ∧ TagsO base w.heap.size w a zs := by
  have hn : (oneU zs).length = zs.length := by unfold oneU; rw [List.length_map]
  rcases h.row.2 with ⟨rfl, h0⟩ | ⟨g, cap, cur, rfl, hb, hg, h1, h2, h3, h4⟩
  · have : zs = [] := List.length_eq_zero_iff.1 (by omega)
    subst this
    exact ⟨none, 0, rfl, .inl rfl⟩
  · refine ⟨some ⟨g, 0, none⟩, cap, by rw [hn], .inr ⟨g, 0, rfl, ⟨hb, ?_, cur, e, hg⟩, fun i hi => ?_⟩⟩
    · rcases Nat.lt_or_ge g w.heap.size with h | h
      · exact h
      · rw [Array.getElem?_eq_none h] at hg; cases hg
    · rw [flat_oneU, hn, Nat.mul_one] at h4
      have hx : cur[i]? = some (.int .u32 (zs.getD i 0)) := by
        have h5 := congrArg (fun l => l[i]?) h4
        simp only [List.getElem?_take, if_pos hi, List.getElem?_map] at h5
        rw [Array.getElem?_toList] at h5
        rw [h5, List.getElem?_eq_getElem hi, getD_lt hi]; rfl
      rw [Nat.zero_add]
      simp [World.cell?, hg, hx]
end Go.Proofs.YtckdnhafookcgaaGreatDoor.Mod

namespace Go.Proofs.YtckdnhafookcgaaGreatDoor.Mem
open Go.RowKit Go.Proofs.YtckdnhafookcgaaGreatDoor.Instr Go.Proofs.YtckdnhafookcgaaGreatDoor.Num Go.Proofs.YtckdnhafookcgaaGreatDoor.Kind
open Go.Maps (Keyed int_keyed IsMap)
set_option linter.unusedVariables false

theorem zero_byte : (0 : Int) ≤ 0 ∧ (0 : Int) < 256 := by decide
/-- A memory that was just made. -/
theorem MemAt.new {W0 W : World} {p mb n t : Nat} {es : List Int} (hb : W.heap[p]? = some (.cells #[.pointer (some ⟨p, 0, none⟩), .int .u32 n, .int .u32 t, .map (some mb)] 146 (0, 0))) (hm : W.heap[mb]? = some (.map #[] 0)) (h1 : W0.heap.size ≤ p) (h2 : W0.heap.size ≤ mb) (hn : n ≤ t) (ht : t ≤ 65536) :
    MemAt W0.heap.size W p mb 0 (.map []) ⟨n, t, fun _ => 0⟩ := by
  refine ⟨hb, h1, h2, ⟨#[], 0, hm, ⟨by simp, MapKept.stamped_empty 0, by simp⟩, Nat.le_refl _, rfl⟩, Maps.isMap_empty, ⟨hn, ht, fun _ => zero_byte⟩, fun k => .inl ⟨rfl, fun _ _ => rfl⟩, fun k k' g h => by cases h⟩
/-- What New gives. -/
def NewTo (W : World) (n t : Nat) (e : Ending) (w' : World) : Prop := ∃ p, e = .returned (.tuple #[.pointer (some ⟨p, 0, none⟩), .int .i64 0]) ∧ MemIs W.heap.size w' p 0 ⟨n, t, fun _ => 0⟩ ∧ Below W.heap.size W w'
theorem new_end {W w1 w2 : World} (hb : Below W.heap.size W w1) {n t : Nat} (hn : n ≤ t) (ht : t ≤ 65536)
    (hc : w2.heap[w1.heap.size + 1]? = some (.cells #[.pointer (some ⟨w1.heap.size + 1, 0, none⟩), .int .u32 n, .int .u32 t, .map (some w1.heap.size)] 146 (0, 0))) (hm : w2.heap[w1.heap.size]? = some (.map #[] 0)) (h2 : Below w1.heap.size w1 w2) :
    NewTo W n t (.returned (.tuple #[.pointer (some ⟨w1.heap.size + 1, 0, none⟩), .int .i64 0])) w2 :=
  ⟨w1.heap.size + 1, rfl, ⟨w1.heap.size, .map [], 0, Nat.le_refl _, MemAt.new (es := []) hc hm (by have := hb.size; omega) hb.size hn ht⟩, thenB hb h2⟩
theorem new_made {W w1 : World} (hb : Below W.heap.size W w1) {n t : Nat} (hn : n ≤ t) (ht : t ≤ 65536) :
    NewTo W n t (.returned (.tuple #[.pointer (some ⟨w1.heap.size + 1, 0, none⟩), .int .i64 0])) ((w1.alloc (.map #[] 0)).alloc (.cells #[.pointer (some ⟨w1.heap.size + 1, 0, none⟩), .int .u32 n, .int .u32 t, .map (some w1.heap.size)] 146)) := by
  refine new_end hb hn ht ?_ ?_ (thenA (thenA (Below.refl _ _) _) _)
  · have := (MapKept.heap_alloc (w1.alloc (.map #[] 0)) (.cells #[.pointer (some ⟨w1.heap.size + 1, 0, none⟩), .int .u32 n, .int .u32 t, .map (some w1.heap.size)] 146)).1
    rw [World.size_alloc] at this
    exact this
  · have h1 := (MapKept.heap_alloc w1 (.map #[] 0)).1
    exact ((thenA (Below.refl (w1.alloc (.map #[] 0)).heap.size (w1.alloc (.map #[] 0))) _).block _ (by simp)).trans h1
set_option maxRecDepth 100000 in
set_option maxHeartbeats 1000000 in
theorem New_false (n x : Nat) (W : World) (he : codeLim n x false 65536 = 0) :
    Calls Tryz.prog 99 #[.agg #[.int .u32 n, .int .u32 x, .bool false]] W (NewTo W n 65536) := by
  have C := hid (fun w => checkLimits_any n x false 65536 w)
  rw [he] at C
  have hn : n ≤ 65536 ∧ 65536 ≤ 65536 := by
    unfold codeLim at he
    by_cases h : okLim n x false 65536 = true
    · unfold okLim at h
      simp at h
      omega
    · rw [if_neg h] at he
      exact absurd he (by decide)
  have HN := hid hn
  clear hn he
  have hmm := @run_makeMap Tryz.prog
  go_enter Tryz.func99, Tryz.ntmps99
  go_wp2_with fail
  refine (C.out _).mono ?_
  rintro en w1 ⟨rfl, hb1⟩
  have hb2 := hid (thenB (thenA (Below.refl W.heap.size W) _) hb1)
  have k0 := keep hb1 (show (W.alloc (.cells #[.int .u32 n, .int .u32 x, .bool false] 83)).cell? ⟨W.heap.size, 0, none⟩ = some (.int .u32 n) from by go_simp)
  have k1 := keep hb1 (show (W.alloc (.cells #[.int .u32 n, .int .u32 x, .bool false] 83)).cell? ⟨W.heap.size, 1, none⟩ = some (.int .u32 x) from by go_simp)
  have k2 := keep hb1 (show (W.alloc (.cells #[.int .u32 n, .int .u32 x, .bool false] 83)).cell? ⟨W.heap.size, 2, none⟩ = some (.bool false) from by go_simp)
  have hlt : W.heap.size < w1.heap.size := by have := hb1.size; simp at this; omega
  clear C hb1
  go_wp2
  go_ret2
  exact new_made (t := 65536) hb2.out HN.out.1 HN.out.2
set_option maxRecDepth 100000 in
set_option maxHeartbeats 1000000 in
theorem New_true (n x : Nat) (W : World) (he : codeLim n x true 65536 = 0) :
    Calls Tryz.prog 99 #[.agg #[.int .u32 n, .int .u32 x, .bool true]] W (NewTo W n x) := by
  have C := hid (fun w => checkLimits_any n x true 65536 w)
  rw [he] at C
  have hn : n ≤ x ∧ x ≤ 65536 := by
    unfold codeLim at he
    by_cases h : okLim n x true 65536 = true
    · unfold okLim at h
      simp at h
      omega
    · rw [if_neg h] at he
      exact absurd he (by decide)
  have HN := hid hn
  clear hn he
  have hmm := @run_makeMap Tryz.prog
  go_enter Tryz.func99, Tryz.ntmps99
  go_wp2_with fail
  refine (C.out _).mono ?_
  rintro en w1 ⟨rfl, hb1⟩
  have hb2 := hid (thenB (thenA (Below.refl W.heap.size W) _) hb1)
  have k0 := keep hb1 (show (W.alloc (.cells #[.int .u32 n, .int .u32 x, .bool true] 83)).cell? ⟨W.heap.size, 0, none⟩ = some (.int .u32 n) from by go_simp)
  have k1 := keep hb1 (show (W.alloc (.cells #[.int .u32 n, .int .u32 x, .bool true] 83)).cell? ⟨W.heap.size, 1, none⟩ = some (.int .u32 x) from by go_simp)
  have k2 := keep hb1 (show (W.alloc (.cells #[.int .u32 n, .int .u32 x, .bool true] 83)).cell? ⟨W.heap.size, 2, none⟩ = some (.bool true) from by go_simp)
  have hlt : W.heap.size < w1.heap.size := by have := hb1.size; simp at this; omega
  clear C hb1
  go_wp2
  go_ret2
  exact new_made hb2.out HN.out.1 HN.out.2
end Go.Proofs.YtckdnhafookcgaaGreatDoor.Mem

namespace Go.Proofs.YtckdnhafookcgaaGreatDoor.Val
open Go.RowKit Go.Proofs.YtckdnhafookcgaaGreatDoor.Instr Go.Proofs.YtckdnhafookcgaaGreatDoor.Mod
set_option linter.unusedVariables false

theorem cbare_all : ∀ t : Il, t.bare.all = t.all
  | .nil => rfl
  | .cons x l e r => by simp only [Il.bare, Il.all, cbare_all l, cbare_all e, cbare_all r]; rfl
theorem cbare_count : ∀ t : Il, t.bare.count = t.count
  | .nil => rfl
  | .cons x l e r => by simp [Il.bare, Il.count, cbare_count l, cbare_count e, cbare_count r]
theorem cbare_deep : ∀ t : Il, t.bare.deep = t.deep
  | .nil => rfl
  | .cons x l e r => by simp [Il.bare, Il.deep, cbare_deep l, cbare_deep e, cbare_deep r]
theorem cbare_tags : ∀ t : Il, t.bare.tags = t.tags
  | .nil => rfl
  | .cons x l e r => by simp only [Il.bare, Il.tags, cbare_tags l, cbare_tags e, cbare_tags r]; rfl
theorem cbare_check (t : Il) : checkP t.bare = checkP t := by unfold checkP; rw [cbare_all, cbare_count, cbare_deep, cbare_tags]
theorem constP_bare (t : Il) : constP t.bare = constP t := by
  cases t with
  | nil => rfl
  | cons x l e r =>
    cases r with
    | nil =>
      have h := cbare_check (.cons x l e .nil)
      simp only [Il.bare] at h ⊢
      show (if x.bare.op = 65 ∧ checkP (.cons x.bare l.bare e.bare .nil) = 0 then (IntKind.u32.wrap x.bare.n, (0 : Int)) else (0, 210)) = (if x.op = 65 ∧ checkP (.cons x l e .nil) = 0 then (IntKind.u32.wrap x.n, (0 : Int)) else (0, 210))
      rw [h]; rfl
    | cons x' l' e' r' => rfl
end Go.Proofs.YtckdnhafookcgaaGreatDoor.Val

namespace Go.Proofs.YtckdnhafookcgaaGreatDoor.Val
open Go.RowKit Go.Shelf Go.Proofs.YtckdnhafookcgaaGreatDoor.Instr Go.Proofs.YtckdnhafookcgaaGreatDoor.Mod
set_option linter.unusedVariables false

theorem eqWrong (a b c d x y z t : Int) (w : World) : (Op.equalIn 10000 80 (.agg #[.int .i64 a, .int .i64 b, .int .i64 c, .int .i64 d]) (.agg #[.int .i64 x, .int .i64 y, .int .i64 z, .int .i64 t])).run Tryz.prog w = .ok (a == x && b == y && c == z && d == t) w := by
  have u3 := Tryz.underlying3
  have a3 := Tryz.isAgg3
  have z3 := Tryz.sizeOf3
  have u4 := Tryz.underlying38
  have a4 := Tryz.isAgg38
  have z4 := Tryz.sizeOf38
  have hS : Tryz.prog.underlying 80 = some (.struct (Tryz.prog.fieldsOf 80)) := by kernel_rfl
  have hp : Tryz.prog.stoodInHeld 80 = false := by kernel_rfl
  rw [show (10000 : Nat) = 9999 + 1 from rfl, run_equalIn_agg w 9999 80 _ _ hS hp]
  simp only [Program.fieldsOf, Tryz.underlying80]
  go_simp
  by_cases h1 : a = x <;> by_cases h2 : b = y <;> by_cases h3 : c = z <;> by_cases h4 : d = t <;> simp [h1, h2, h3, h4]
theorem guardWrong (op : BinOp) (x y : Operand) (xs ys : Array Value) (w : World) : (eqGuard op 80 x y (.agg xs) (.agg ys)).run Tryz.prog w = .ok () w :=
  run_eqGuard_agg w op _ x y xs ys (by kernel_rfl)
/-- Rows in a block of their own. -/
theorem rows_box {W : World} {b sz : Nat} {rs : List (List Value)} (hb : b < W.heap.size) (hl : ∀ r ∈ rs, r.length = sz) (h : BoxAt W b (rs.flatten.toArray)) : Mod.Rows W.heap.size W (some ⟨b, 0, none⟩) sz rs :=
  .inr ⟨b, 0, rfl, hb, fun i hi j hj v hv => by
    have hf := Stk.flat_get rs hl i j hi hj
    rw [hv] at hf
    have := h (i * sz + j) v (by simpa using hf)
    simpa using this⟩
/-- Instructions, one behind the other, each with its lists. -/
def mkIl : List (Ix × Il × Il) → Il
  | [] => .nil
  | x :: r => .cons x.1 x.2.1 x.2.2 (mkIl r)
theorem mkIl_len : ∀ l : List (Ix × Il × Il), (mkIl l).len = l.length
  | [] => rfl
  | x :: r => by simp [mkIl, Il.len, mkIl_len r]
/-- What is asked of an instruction in a literal. -/
structure LitOk (n₀ : Nat) (W : World) (x : Ix × Il × Il) : Prop where
  ok : x.1.ok
  tags : TagsAt n₀ W x.1.ta x.1.tags
  l : x.2.1.len = x.1.ln ∧ (x.2.1 = .nil ∨ ∃ b' o', x.1.la = some ⟨b', o', none⟩ ∧ Items n₀ W b' o' x.2.1)
  e : x.2.2.len = x.1.en ∧ (x.2.2 = .nil ∨ ∃ b' o', x.1.ea = some ⟨b', o', none⟩ ∧ Items n₀ W b' o' x.2.2)
theorem items_of {n₀ : Nat} {W : World} {g : Nat} (hg : g < n₀) : ∀ (l : List (Ix × Il × Il)) (off : Nat), (∀ i (hi : i < l.length), ∀ j v, (l[i].1.vals)[j]? = some v → W.cell? ⟨g, off + i * 8 + j, none⟩ = some v) → (∀ x ∈ l, LitOk n₀ W x) → Items n₀ W g off (mkIl l)
  | [], _, _, _ => trivial
  | x :: r, off, h, hx => by
    have c : ∀ j v, (x.1.vals)[j]? = some v → W.cell? ⟨g, off + j, none⟩ = some v := fun j v hv => by have := h 0 (by simp) j v hv; simpa using this
    have hx0 := hx x (by simp)
    refine ⟨hg, hx0.ok, ⟨c 0 _ rfl, c 1 _ rfl, c 2 _ rfl, c 3 _ rfl, c 4 _ rfl, c 5 _ rfl, c 6 _ rfl, c 7 _ rfl⟩, hx0.tags, hx0.l, hx0.e, items_of hg r (off + 8) (fun i hi j v hv => ?_) (fun y hy => hx y (by simp [hy]))⟩
    have := h (i + 1) (by simp; omega) j v hv
    rw [show off + (i + 1) * 8 + j = off + 8 + i * 8 + j by omega] at this
    exact this
theorem list_box {W : World} {g : Nat} {l : List (Ix × Il × Il)} (hg : g < W.heap.size) (h : BoxAt W g ((l.map fun x => x.1.vals.toList).flatten.toArray)) (hx : ∀ x ∈ l, LitOk W.heap.size W x) : ListAt W.heap.size W (some ⟨g, 0, none⟩) l.length (mkIl l) := by
  refine ⟨mkIl_len l, .inr ⟨g, 0, rfl, items_of hg l 0 (fun i hi j v hv => ?_) hx⟩⟩
  have hlen : ∀ r ∈ l.map (fun x => x.1.vals.toList), r.length = 8 := by
    intro r hr
    obtain ⟨x, _, rfl⟩ := List.mem_map.1 hr
    rfl
  have hj : j < 8 := by
    rcases Nat.lt_or_ge j 8 with h | h
    · exact h
    · rw [Array.getElem?_eq_none (by show 8 ≤ j; exact h)] at hv; cases hv
  have hf := Stk.flat_get (l.map fun x => x.1.vals.toList) hlen i j (by simpa using hi) hj
  have hgd : (l.map fun x => x.1.vals.toList).getD i [] = l[i].1.vals.toList := by simp [hi]
  rw [hgd] at hf
  have := h (i * 8 + j) v (by rw [List.getElem?_toArray, hf]; simpa using hv)
  simpa using this
end Go.Proofs.YtckdnhafookcgaaGreatDoor.Val

namespace Go.Proofs.YtckdnhafookcgaaGreatDoor.Val
open Go.RowKit Go.Shelf Go.Proofs.YtckdnhafookcgaaGreatDoor.Instr Go.Proofs.YtckdnhafookcgaaGreatDoor.Mod
set_option linter.unusedVariables false

/-- The tables. -/
structure Tb (w : World) : Prop where
  nt : Nams w
  ut : Utf.Tabs w
  ar : Num.Arit w
theorem Tb.on {w w' : World} (h : Tb w) (hb : Below w.heap.size w w') : Tb w' := ⟨h.nt.below hb, h.ut.below hb, h.ar.below hb⟩
end Go.Proofs.YtckdnhafookcgaaGreatDoor.Val

namespace Go.Proofs.YtckdnhafookcgaaGreatDoor.Mod
open Go.RowKit Go.Shelf Go.Proofs.YtckdnhafookcgaaGreatDoor.Instr

theorem count_le_weight : ∀ t : Il, t.count ≤ t.weight
  | .nil => Nat.le_refl _
  | .cons x l e r => by have := count_le_weight l; have := count_le_weight e; have := count_le_weight r; simp only [Il.count, Il.weight]; omega
theorem small_few' {m : Md} {k : Nat} (h : m.small k) (hk : k ≤ 1000000) (hf : m.fits) : m.few := ⟨hf, fun l hl => by have := h.ls l hl; have := count_le_weight l.t; omega, by have := h.lens; omega⟩
end Go.Proofs.YtckdnhafookcgaaGreatDoor.Mod
namespace Go.Proofs.YtckdnhafookcgaaGreatDoor
open Go.RowKit
end Go.Proofs.YtckdnhafookcgaaGreatDoor

namespace Go.Proofs.YtckdnhafookcgaaGreatDoor.Mem
open Go.RowKit Go.Proofs.YtckdnhafookcgaaGreatDoor.Instr Go.Proofs.YtckdnhafookcgaaGreatDoor.Num Go.Proofs.YtckdnhafookcgaaGreatDoor.Kind
open Go.Maps (Keyed int_keyed IsMap)
set_option linter.unusedVariables false

/-- A memory of the examples: a word is stored at 8. -/
def m8 : Mm := ⟨1, 2, putF (fun _ => 0) 8 [254, 255, 255, 255]⟩
theorem bytes_heap {w : World} {g : Nat} {zs : List Int} {T : TypeId} (h : w.heap[g]? = some (.cells (zs.map (Value.int .u8)).toArray T (0, 0))) (hz : ∀ z ∈ zs, 0 ≤ z ∧ z < 256) (hl : zs.length ≤ 140737488351232) : Bytes w (some ⟨g, 0, none⟩) zs :=
  ⟨hz, hl, .inr ⟨g, 0, rfl, nums_of_heap h⟩⟩
end Go.Proofs.YtckdnhafookcgaaGreatDoor.Mem
