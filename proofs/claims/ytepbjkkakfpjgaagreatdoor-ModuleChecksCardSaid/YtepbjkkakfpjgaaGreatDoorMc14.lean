import Derived.Test.YtepbjkkakfpjgaaGreatDoorMc09
import Derived.Test.YtepbjkkakfpjgaaGreatDoorMc06
import Derived.Test.YtepbjkkakfpjgaaGreatDoorMc01
import Derived.Test.YtepbjkkakfpjgaaGreatDoorMc07
import Derived.Test.YtepbjkkakfpjgaaGreatDoorMc10
import Derived.Test.YtepbjkkakfpjgaaGreatDoorMc11
import Derived.Test.YtepbjkkakfpjgaaGreatDoorMc12
import Derived.RegionTactic
import Derived.BigRegion
import Derived.BigQuiet
import Derived.Deep.RegionHeld3
import Derived.Deep.RegionHeldLaw
namespace Go.Proofs.YtepbjkkakfpjgaaGreatDoor.Mod
open Go.RowKit Go.Proofs.YtepbjkkakfpjgaaGreatDoor.Instr

theorem eqImp (a b a' b' : ByteArray) (c c' : Int) (w : World) : (Op.equalIn 10000 73 (.agg #[.string a, .string b, .int .i64 c]) (.agg #[.string a', .string b', .int .i64 c'])).run Tryz.prog w = .ok (a.toList == a'.toList && b.toList == b'.toList && c == c') w := by
  have u3 := Tryz.underlying3
  have a3 := Tryz.isAgg3
  have z3 := Tryz.sizeOf3
  have u4 := Tryz.underlying9
  have a4 := Tryz.isAgg9
  have z4 := Tryz.sizeOf9
  have hS : Tryz.prog.underlying 73 = some (.struct (Tryz.prog.fieldsOf 73)) := by kernel_rfl
  have hp : Tryz.prog.stoodInHeld 73 = false := by kernel_rfl
  rw [show (10000 : Nat) = 9999 + 1 from rfl, run_equalIn_agg w 9999 73 _ _ hS hp]
  simp only [Program.fieldsOf, Tryz.underlying73]
  go_simp
  by_cases h1 : a.toList = a'.toList <;> by_cases h2 : b.toList = b'.toList <;> by_cases h3 : c = c' <;> simp [h1, h2, h3]
theorem guardImp (op : BinOp) (x y : Operand) (xs ys : Array Value) (w : World) : (eqGuard op 73 x y (.agg xs) (.agg ys)).run Tryz.prog w = .ok () w :=
  run_eqGuard_agg w op _ x y xs ys (by kernel_rfl)
theorem eqExp (a a' : ByteArray) (b c b' c' : Int) (w : World) : (Op.equalIn 10000 75 (.agg #[.string a, .int .i64 b, .int .u32 c]) (.agg #[.string a', .int .i64 b', .int .u32 c'])).run Tryz.prog w = .ok (a.toList == a'.toList && b == b' && c == c') w := by
  have u3 := Tryz.underlying3
  have a3 := Tryz.isAgg3
  have z3 := Tryz.sizeOf3
  have u4 := Tryz.underlying9
  have a4 := Tryz.isAgg9
  have z4 := Tryz.sizeOf9
  have u5 := Tryz.underlying28
  have a5 := Tryz.isAgg28
  have z5 := Tryz.sizeOf28
  have hS : Tryz.prog.underlying 75 = some (.struct (Tryz.prog.fieldsOf 75)) := by kernel_rfl
  have hp : Tryz.prog.stoodInHeld 75 = false := by kernel_rfl
  rw [show (10000 : Nat) = 9999 + 1 from rfl, run_equalIn_agg w 9999 75 _ _ hS hp]
  simp only [Program.fieldsOf, Tryz.underlying75]
  go_simp
  by_cases h1 : a.toList = a'.toList <;> by_cases h2 : b = b' <;> by_cases h3 : c = c' <;> simp [h1, h2, h3]
theorem guardExp (op : BinOp) (x y : Operand) (xs ys : Array Value) (w : World) : (eqGuard op 75 x y (.agg xs) (.agg ys)).run Tryz.prog w = .ok () w :=
  run_eqGuard_agg w op _ x y xs ys (by kernel_rfl)
theorem toList_ne {a b : ByteArray} (h : ¬ a = b) : ¬ a.toList = b.toList := fun e => h (ByteArray.ext (Array.toList_inj.1 (by rwa [ByteArray.toList_eq, ByteArray.toList_eq] at e)))
set_option maxRecDepth 100000 in
set_option maxHeartbeats 2000000 in
theorem SameCodes_any (x y : Mod.Fn) (n₀ : Nat) (w : World) (h1 : ListAt n₀ w x.l.a x.l.t.len x.l.t) (h2 : ListAt n₀ w y.l.a y.l.t.len y.l.t) (hn : n₀ ≤ w.heap.size) (b1 : x.l.t.len ≤ 140737488351232) (b2 : y.l.t.len ≤ 140737488351232) :
    Calls Tryz.prog 36 #[.agg #[.int .i64 x.lo, .slice x.l.a x.l.t.len x.l.c], .agg #[.int .i64 y.lo, .slice y.l.a y.l.t.len y.l.c]] w fun e w' => e = .returned (.bool (is (x.lo = y.lo ∧ x.l.t.bare = y.l.t.bare))) ∧ Below w.heap.size w w' := by
  have hb0 := (Below.refl w.heap.size w).alloc (Nat.le_refl _) (.cells #[.int .i64 x.lo, .slice x.l.a x.l.t.len x.l.c] 64)
  have hb1 := thenA hb0 (.cells #[.int .i64 y.lo, .slice y.l.a y.l.t.len y.l.c] 64)
  have C := hid (SameInstrs_any n₀ (max x.l.t.count y.l.t.count) x.l.t y.l.t x.l.a y.l.a x.l.t.len y.l.t.len x.l.c y.l.c _ (by omega) (by omega) (h1.below (hb1.mono hn)) (h2.below (hb1.mono hn)) (Nat.le_trans hn hb1.size) b1 b2)
  have HB := hid hb1
  obtain ⟨lo, hlo⟩ : ∃ n, x.lo = n := ⟨_, rfl⟩
  obtain ⟨lo', hlo'⟩ : ∃ n, y.lo = n := ⟨_, rfl⟩
  have HY := hid (fun (g : lo = lo') (g2 : x.l.t.bare = y.l.t.bare) => is_yes (p := x.lo = y.lo ∧ x.l.t.bare = y.l.t.bare) ⟨by rw [hlo, hlo', g], g2⟩)
  have HN := hid (fun (g : ¬ (lo = lo' ∧ x.l.t.bare = y.l.t.bare)) => is_no (p := x.lo = y.lo ∧ x.l.t.bare = y.l.t.bare) (fun e => g ⟨by rw [← hlo, ← hlo', e.1], e.2⟩))
  obtain ⟨r, hr⟩ : ∃ r, is (x.lo = y.lo ∧ x.l.t.bare = y.l.t.bare) = r := ⟨_, rfl⟩
  rw [hr] at HY HN ⊢
  rw [hlo, hlo'] at C HB ⊢
  clear h1 h2 hb0 hb1 hlo hlo' hr
  by_cases g : lo = lo'
  · subst g
    by_cases g2 : x.l.t.bare = y.l.t.bare
    · rw [is_yes g2] at C
      have HE := hid (HY.out rfl g2)
      clear HY HN g2
      go_enter Tryz.func36, Tryz.ntmps36
      go_wp2_with fail
      refine C.out.mono ?_
      rintro e w1 ⟨rfl, hb⟩
      clear C
      go_wp2
      go_ret
      exact ⟨ret_bool HE.out.symm, HB.out.trans (hb.mono HB.out.size)⟩
    · rw [is_no g2] at C
      have HE := hid (HN.out (fun h => g2 h.2))
      clear HY HN g2
      go_enter Tryz.func36, Tryz.ntmps36
      go_wp2_with fail
      refine C.out.mono ?_
      rintro e w1 ⟨rfl, hb⟩
      clear C
      go_wp2
      go_ret
      exact ⟨ret_bool HE.out.symm, HB.out.trans (hb.mono HB.out.size)⟩
  · have HE := hid (HN.out (fun h => g h.1))
    have q1 : (lo == lo') = false := beq_eq_false_iff_ne.2 g
    clear HY HN C
    go_enter Tryz.func36, Tryz.ntmps36
    go_wp2
    go_ret
    exact ⟨ret_bool HE.out.symm, HB.out⟩
end Go.Proofs.YtepbjkkakfpjgaaGreatDoor.Mod

namespace Go.Proofs.YtepbjkkakfpjgaaGreatDoor.Mod
open Go.RowKit Go.Proofs.YtepbjkkakfpjgaaGreatDoor.Instr

def wsum {α : Type} (g : α → Nat) : List α → Nat
  | [] => 0
  | x :: r => g x + wsum g r
theorem wsum_append {α : Type} (g : α → Nat) : ∀ l r : List α, wsum g (l ++ r) = wsum g l + wsum g r
  | [], r => by simp [wsum]
  | x :: l, r => by simp only [List.cons_append, wsum, wsum_append g l r]; omega
theorem wsum_step {α : Type} (g : α → Nat) {l : List α} {k : Nat} (hk : k < l.length) : wsum g (l.take (k + 1)) = wsum g (l.take k) + g l[k] := by
  rw [List.take_succ_eq_append_getElem hk, wsum_append]
  simp [wsum]
def msF (x : Mod.Fn) : Nat := x.l.t.weight
def msG (x : Gl) : Nat := x.l.t.weight
def msE (x : El) : Nat := x.l.t.weight + x.fs.length
def msD (x : Da) : Nat := x.l.t.weight + x.bs.length
def msI (x : Imp) : Nat := x.mo.size + x.na.size
def msX (x : Ex) : Nat := x.na.size
/-- All that a module has, together. -/
def Md.total (m : Md) : Nat := (m.ty.length + m.im.length + m.fu.length + m.tb.length + m.me.length + m.gl.length + m.ex.length + m.el.length + m.da.length) + wsum msF m.fu + wsum msG m.gl + wsum msE m.el + wsum msD m.da + wsum msI m.im + wsum msX m.ex
def Big (m : Md) (w : World) (e : Ending) (w' : World) : Prop := ∃ b, e = .returned (.bool b) ∧ (b = false → m.small 5000 ∧ m.total ≤ 5000) ∧ Below w.heap.size w w'
theorem big_true {m : Md} {w w' : World} (h : Below w.heap.size w w') : Big m w (.returned (.bool true)) w' := ⟨true, rfl, fun h => by simp at h, h⟩
theorem big_end {m : Md} {w w' : World} {N : Int} (h : Below w.heap.size w w') (hs : N ≤ 5000 → m.small 5000 ∧ m.total ≤ 5000) : Big m w (.returned (.bool (decide (5000 < N)))) w' := ⟨_, rfl, fun hh => hs (by simpa using hh), h⟩
set_option maxHeartbeats 8000000 in
set_option maxRecDepth 100000 in
theorem Big_any (m : Md) (w : World) (hm : ModAt w.heap.size w m) (hf : m.fits) :
    Calls Tryz.prog 9 #[.agg m.v, .int .i64 5000] w (Big m w) := by
  have hb0 := (Below.refl w.heap.size w).alloc (Nat.le_refl _) (.cells m.v 32)
  have HB := hid hb0
  have HM := hid (hm.on hb0)
  have HX := hid (BoxAt.made w m.v 32)
  have HF := hid hf
  obtain ⟨ty, im, fu, tb, me, gl, ex, st, sn, el, da, ty', im', fu', tb', me', gl', ex', el', da'⟩ := m
  have b1 := hf.ty
  have b2 := hf.im
  have b3 := hf.fu
  have b4 := hf.tb
  have b5 := hf.me
  have b6 := hf.gl
  have b7 := hf.ex
  have b8 := hf.el
  have b9 := hf.da
  dsimp only at b1 b2 b3 b4 b5 b6 b7 b8 b9
  unfold Md.v at HB HM HX ⊢
  dsimp only at HB HM HX ⊢
  clear hm hf hb0
  by_cases h1 : 5000 < ty.length + im.length + fu.length + tb.length + me.length + gl.length + ex.length + el.length + da.length
  · have h1i : (5000 : Int) < (ty.length : Int) + im.length + fu.length + tb.length + me.length + gl.length + ex.length + el.length + da.length := by omega
    go_enter Tryz.func9, Tryz.ntmps9
    go_wp2
    go_ret
    exact big_true HB.out
  · have h1i : ¬ (5000 : Int) < (ty.length : Int) + im.length + fu.length + tb.length + me.length + gl.length + ex.length + el.length + da.length := by omega
    have hsum : ty.length + im.length + fu.length + tb.length + me.length + gl.length + ex.length + el.length + da.length ≤ 5000 := by omega
    have HSUM := hid hsum
    clear h1
    go_enter Tryz.func9, Tryz.ntmps9
    go_wp2
    obtain ⟨N0, hN0⟩ : ∃ N0 : Int, (ty.length : Int) + im.length + fu.length + tb.length + me.length + gl.length + ex.length + el.length + da.length = N0 := ⟨_, rfl⟩
    have l_ty : ty.length ≤ 5000 := by omega
    have l_im : im.length ≤ 5000 := by omega
    have l_fu : fu.length ≤ 5000 := by omega
    have l_tb : tb.length ≤ 5000 := by omega
    have l_me : me.length ≤ 5000 := by omega
    have l_gl : gl.length ≤ 5000 := by omega
    have l_ex : ex.length ≤ 5000 := by omega
    have l_el : el.length ≤ 5000 := by omega
    have l_da : da.length ≤ 5000 := by omega
    have hN1 : N0 ≤ 5000 := by omega
    have hN2 : 0 ≤ N0 := by omega
    have HI := hid (show (0 < fu.length ∨ 0 < gl.length ∨ 0 < el.length ∨ 0 < da.length ∨ 0 < im.length ∨ 0 < ex.length) → 1 ≤ N0 by omega)
    have HN0 := hid hN0
    rw [hN0]
    clear hN0 h1i hsum b1 b2 b3 b4 b5 b6 b7 b8 b9
    generalize w.alloc (.cells #[.slice ty'.a ty.length ty'.c, .slice im'.a im.length im'.c, .slice fu'.a fu.length fu'.c, .slice tb'.a tb.length tb'.c, .slice me'.a me.length me'.c, .slice gl'.a gl.length gl'.c, .slice ex'.a ex.length ex'.c, .bool st, .int .u32 sn, .slice el'.a el.length el'.c, .slice da'.a da.length da'.c] 32) = W0 at HB HM HX ⊢
    have Xfu := hid (show W0.cell? ⟨w.heap.size, 2, none⟩ = some (.slice fu'.a fu.length fu'.c) from HX.out 2 _ rfl)
    have Rfu := hid (show Rows W0.heap.size W0 fu'.a 3 (fu.map Fn.v) from HM.out.fu)
    obtain ⟨nfu, hnfu⟩ : ∃ n, fu.length = n := ⟨_, rfl⟩
    have Lfu := hid hnfu
    rw [hnfu] at l_fu Xfu
    clear hnfu
    have Xgl := hid (show W0.cell? ⟨w.heap.size, 5, none⟩ = some (.slice gl'.a gl.length gl'.c) from HX.out 5 _ rfl)
    have Rgl := hid (show Rows W0.heap.size W0 gl'.a 2 (gl.map Gl.v) from HM.out.gl)
    obtain ⟨ngl, hngl⟩ : ∃ n, gl.length = n := ⟨_, rfl⟩
    have Lgl := hid hngl
    rw [hngl] at l_gl Xgl
    clear hngl
    have Xel := hid (show W0.cell? ⟨w.heap.size, 9, none⟩ = some (.slice el'.a el.length el'.c) from HX.out 9 _ rfl)
    have Rel := hid (show Rows W0.heap.size W0 el'.a 2 (el.map El.v) from HM.out.el)
    obtain ⟨nel, hnel⟩ : ∃ n, el.length = n := ⟨_, rfl⟩
    have Lel := hid hnel
    rw [hnel] at l_el Xel
    clear hnel
    have Xda := hid (show W0.cell? ⟨w.heap.size, 10, none⟩ = some (.slice da'.a da.length da'.c) from HX.out 10 _ rfl)
    have Rda := hid (show Rows W0.heap.size W0 da'.a 2 (da.map Da.v) from HM.out.da)
    obtain ⟨nda, hnda⟩ : ∃ n, da.length = n := ⟨_, rfl⟩
    have Lda := hid hnda
    rw [hnda] at l_da Xda
    clear hnda
    have Xim := hid (show W0.cell? ⟨w.heap.size, 1, none⟩ = some (.slice im'.a im.length im'.c) from HX.out 1 _ rfl)
    have Rim := hid (show Rows W0.heap.size W0 im'.a 3 (im.map Imp.v) from HM.out.im)
    obtain ⟨nim, hnim⟩ : ∃ n, im.length = n := ⟨_, rfl⟩
    have Lim := hid hnim
    rw [hnim] at l_im Xim
    clear hnim
    have Xex := hid (show W0.cell? ⟨w.heap.size, 6, none⟩ = some (.slice ex'.a ex.length ex'.c) from HX.out 6 _ rfl)
    have Rex := hid (show Rows W0.heap.size W0 ex'.a 3 (ex.map Ex.v) from HM.out.ex)
    obtain ⟨nex, hnex⟩ : ∃ n, ex.length = n := ⟨_, rfl⟩
    have Lex := hid hnex
    rw [hnex] at l_ex Xex
    clear hnex
    clear HX
    go_loopw [5, 6] (fun vn vi wr => ∃ (k : Nat) (N : Int), vn = .int .i64 N ∧ vi = .int .i64 k ∧ k ≤ nfu ∧ N0 ≤ N ∧ N ≤ 5000 + 20002 * (k : Int) ∧ Hid (N ≤ 5000 → ((True) ∧ ∀ (j : Nat) (hj : j < fu.length), j < k → ∃ x, x = fu[j] ∧ x.l.t.weight ≤ 5000) ∧ N0 + (wsum msF (fu.take k) : Int) ≤ N) ∧ Hid (Below W0.heap.size W0 wr)) (fun _ vi _ => nfu - (intOf vi).toNat)
    case atStart => exact ⟨0, N0, rfl, rfl, Nat.zero_le _, by omega, by omega, fun _ => ⟨⟨trivial, fun j _ h => absurd h (Nat.not_lt_zero _)⟩, by simp [wsum]⟩, Below.refl _ _⟩
    case round =>
      obtain ⟨k, N, rfl, rfl, hk, hNa, hNb, HQ, HW⟩ := hrel
      have hbx := Go.Proofs.YtepbjkkakfpjgaaGreatDoor.keep HW.out Xfu.out
      by_cases hlt : k < nfu
      · have hkl : k < fu.length := by rw [Lfu.out]; exact hlt
        obtain ⟨b, off, ha, hb, hc⟩ := Rows.get Rfu.out hkl
        rw [ha] at hbx
        have hx : fu[k] ∈ fu := List.getElem_mem hkl
        have hLs := HM.out.ls fu[k].l (by unfold Md.codes; exact List.mem_append_left _ (List.mem_map.2 ⟨_, hx, rfl⟩))
        have hLl := HF.out.ls fu[k].l (by unfold Md.codes; exact List.mem_append_left _ (List.mem_map.2 ⟨_, hx, rfl⟩))
        have HST := hid (wsum_step msF hkl)
        obtain ⟨x, hxe⟩ : ∃ x, fu[k] = x := ⟨_, rfl⟩
        have HXE := hid hxe
        rw [hxe] at hc HST hLs hLl
        have cc : ∀ j, j < 3 → ∀ v, x.v[j]? = some v → wr.cell? ⟨b, off + k * 3 + j, none⟩ = some v := fun j hj v hv => (HW.out.cell (p := ⟨b, off + k * 3 + j, none⟩) hb).trans (hc j hj v hv)
        have c2 : wr.cell? ⟨b, off + k * 3 + 2, none⟩ = some (.slice x.l.a x.l.t.len x.l.c) := cc 2 (by omega) _ rfl
        have hki : (k : Int) < (nfu : Int) := by omega
        have hN1' : 1 ≤ N0 := HI.out (by omega)
        have hgo := go_bounds x.l.t 0 5000 (by omega) (by omega) (by omega)
        obtain ⟨q, hq⟩ : ∃ q, x.l.t.go 0 5000 = q := ⟨_, rfl⟩
        have C := hid (Instrs_any x.l.t.count x.l.t x.l.a x.l.t.len x.l.c 5000 wr (Nat.le_refl _) ((hLs.below HW.out).more HW.out.size) hLl (by omega) (by omega))
        rw [hq] at C hgo
        obtain ⟨hg0, hg1, hg2⟩ := hgo
        have HG := hid hg2
        have HQ' := hid (show N + q ≤ 5000 → ((True) ∧ ∀ (j : Nat) (hj : j < fu.length), j < k + 1 → ∃ x, x = fu[j] ∧ x.l.t.weight ≤ 5000) ∧ N0 + (wsum msF (fu.take (k + 1)) : Int) ≤ N + q from fun h => ⟨⟨(HQ.out (by omega)).1.1, fun j hj hjk => by
          by_cases e : j = k
          · subst e; exact ⟨x, HXE.out.symm, by have := HG.out (by omega); omega⟩
          · exact (HQ.out (by omega)).1.2 j hj (by omega)⟩, by
          have h1 := (HQ.out (by omega)).2
          have h2 := HST.out
          have h3 : msF x = x.l.t.weight := rfl
          have h4 := HG.out (by omega)
          rw [h2]
          push_cast
          omega⟩)
        clear HST hx hxe hc cc hb ha hLs hLl hq hg2
        go_wp2_with fail
        refine C.out.mono ?_
        rintro e w1 ⟨rfl, rfl⟩
        go_wp2
        go_roundw
        case rel => exact ⟨k + 1, _, rfl, by go_num, by omega, by omega, by omega, HQ', HW⟩
        case measure => simp [intOf]; omega
      · obtain rfl : k = nfu := by omega
        have HP := hid (show N ≤ 5000 → ((True) ∧ ∀ x ∈ fu, x.l.t.weight ≤ 5000) ∧ N0 + (wsum msF fu : Int) ≤ N from fun h => ⟨⟨(HQ.out h).1.1, fun x hx => by
          obtain ⟨j, hj, rfl⟩ := List.mem_iff_getElem.1 hx
          obtain ⟨y, hy, hq⟩ := (HQ.out h).1.2 j hj (by rw [← Lfu.out]; exact hj)
          subst hy; exact hq⟩, by have h1 := (HQ.out h).2; rwa [List.take_of_length_le (by rw [Lfu.out]; exact Nat.le_refl _)] at h1⟩)
        have hNN1 : N0 ≤ N := by omega
        have hNN2 : N ≤ 100015000 := by omega
        have HBL := HW
        clear HQ hNa hNb HW hlt hk
        obtain ⟨NN, rfl⟩ : ∃ NN, NN = N := ⟨_, rfl⟩
        go_wp2
        clear hbx
        go_loopw [5, 7] (fun vn vi wr => ∃ (k : Nat) (N : Int), vn = .int .i64 N ∧ vi = .int .i64 k ∧ k ≤ ngl ∧ N0 ≤ N ∧ N ≤ 100015000 + 20002 * (k : Int) ∧ Hid (N ≤ 5000 → (((True) ∧ ∀ x ∈ fu, x.l.t.weight ≤ 5000) ∧ ∀ (j : Nat) (hj : j < gl.length), j < k → ∃ x, x = gl[j] ∧ x.l.t.weight ≤ 5000) ∧ N0 + (wsum msF fu : Int) + (wsum msG (gl.take k) : Int) ≤ N) ∧ Hid (Below W0.heap.size W0 wr)) (fun _ vi _ => ngl - (intOf vi).toNat)
        case atStart => exact ⟨0, NN, rfl, rfl, Nat.zero_le _, by omega, by omega, fun h => ⟨⟨(HP.out h).1, fun j _ h => absurd h (Nat.not_lt_zero _)⟩, by have := (HP.out h).2; simpa [wsum] using this⟩, HBL⟩
        case round =>
          clear HP HBL hNN1 hNN2
          obtain ⟨k, N, rfl, rfl, hk, hNa, hNb, HQ, HW⟩ := hrel
          have hbx := Go.Proofs.YtepbjkkakfpjgaaGreatDoor.keep HW.out Xgl.out
          by_cases hlt : k < ngl
          · have hkl : k < gl.length := by rw [Lgl.out]; exact hlt
            obtain ⟨b, off, ha, hb, hc⟩ := Rows.get Rgl.out hkl
            rw [ha] at hbx
            have hx : gl[k] ∈ gl := List.getElem_mem hkl
            have hLs := HM.out.ls gl[k].l (by unfold Md.codes; exact List.mem_append_right _ (List.mem_append_left _ (List.mem_map.2 ⟨_, hx, rfl⟩)))
            have hLl := HF.out.ls gl[k].l (by unfold Md.codes; exact List.mem_append_right _ (List.mem_append_left _ (List.mem_map.2 ⟨_, hx, rfl⟩)))
            have HST := hid (wsum_step msG hkl)
            obtain ⟨x, hxe⟩ : ∃ x, gl[k] = x := ⟨_, rfl⟩
            have HXE := hid hxe
            rw [hxe] at hc HST hLs hLl
            have cc : ∀ j, j < 2 → ∀ v, x.v[j]? = some v → wr.cell? ⟨b, off + k * 2 + j, none⟩ = some v := fun j hj v hv => (HW.out.cell (p := ⟨b, off + k * 2 + j, none⟩) hb).trans (hc j hj v hv)
            have c1 : wr.cell? ⟨b, off + k * 2 + 1, none⟩ = some (.slice x.l.a x.l.t.len x.l.c) := cc 1 (by omega) _ rfl
            have hki : (k : Int) < (ngl : Int) := by omega
            have hN1' : 1 ≤ N0 := HI.out (by omega)
            have hgo := go_bounds x.l.t 0 5000 (by omega) (by omega) (by omega)
            obtain ⟨q, hq⟩ : ∃ q, x.l.t.go 0 5000 = q := ⟨_, rfl⟩
            have C := hid (Instrs_any x.l.t.count x.l.t x.l.a x.l.t.len x.l.c 5000 wr (Nat.le_refl _) ((hLs.below HW.out).more HW.out.size) hLl (by omega) (by omega))
            rw [hq] at C hgo
            obtain ⟨hg0, hg1, hg2⟩ := hgo
            have HG := hid hg2
            have HQ' := hid (show N + q ≤ 5000 → (((True) ∧ ∀ x ∈ fu, x.l.t.weight ≤ 5000) ∧ ∀ (j : Nat) (hj : j < gl.length), j < k + 1 → ∃ x, x = gl[j] ∧ x.l.t.weight ≤ 5000) ∧ N0 + (wsum msF fu : Int) + (wsum msG (gl.take (k + 1)) : Int) ≤ N + q from fun h => ⟨⟨(HQ.out (by omega)).1.1, fun j hj hjk => by
              by_cases e : j = k
              · subst e; exact ⟨x, HXE.out.symm, by have := HG.out (by omega); omega⟩
              · exact (HQ.out (by omega)).1.2 j hj (by omega)⟩, by
              have h1 := (HQ.out (by omega)).2
              have h2 := HST.out
              have h3 : msG x = x.l.t.weight := rfl
              have h4 := HG.out (by omega)
              rw [h2]
              push_cast
              omega⟩)
            clear HST hx hxe hc cc hb ha hLs hLl hq hg2
            go_wp2_with fail
            refine C.out.mono ?_
            rintro e w1 ⟨rfl, rfl⟩
            go_wp2
            go_roundw
            case rel => exact ⟨k + 1, _, rfl, by go_num, by omega, by omega, by omega, HQ', HW⟩
            case measure => simp [intOf]; omega
          · obtain rfl : k = ngl := by omega
            have HP := hid (show N ≤ 5000 → (((True) ∧ ∀ x ∈ fu, x.l.t.weight ≤ 5000) ∧ ∀ x ∈ gl, x.l.t.weight ≤ 5000) ∧ N0 + (wsum msF fu : Int) + (wsum msG gl : Int) ≤ N from fun h => ⟨⟨(HQ.out h).1.1, fun x hx => by
              obtain ⟨j, hj, rfl⟩ := List.mem_iff_getElem.1 hx
              obtain ⟨y, hy, hq⟩ := (HQ.out h).1.2 j hj (by rw [← Lgl.out]; exact hj)
              subst hy; exact hq⟩, by have h1 := (HQ.out h).2; rwa [List.take_of_length_le (by rw [Lgl.out]; exact Nat.le_refl _)] at h1⟩)
            have hNN1 : N0 ≤ N := by omega
            have hNN2 : N ≤ 200025000 := by omega
            have HBL := HW
            clear HQ hNa hNb HW hlt hk
            obtain ⟨NN, rfl⟩ : ∃ NN, NN = N := ⟨_, rfl⟩
            go_wp2
            clear hbx
            go_loopw [5, 8] (fun vn vi wr => ∃ (k : Nat) (N : Int), vn = .int .i64 N ∧ vi = .int .i64 k ∧ k ≤ nel ∧ N0 ≤ N ∧ N ≤ 200025000 + 20002 * (k : Int) ∧ Hid (N ≤ 5000 → ((((True) ∧ ∀ x ∈ fu, x.l.t.weight ≤ 5000) ∧ ∀ x ∈ gl, x.l.t.weight ≤ 5000) ∧ ∀ (j : Nat) (hj : j < el.length), j < k → ∃ x, x = el[j] ∧ x.l.t.weight ≤ 5000 ∧ x.fs.length ≤ 5000) ∧ N0 + (wsum msF fu : Int) + (wsum msG gl : Int) + (wsum msE (el.take k) : Int) ≤ N) ∧ Hid (Below W0.heap.size W0 wr)) (fun _ vi _ => nel - (intOf vi).toNat)
            case atStart => exact ⟨0, NN, rfl, rfl, Nat.zero_le _, by omega, by omega, fun h => ⟨⟨(HP.out h).1, fun j _ h => absurd h (Nat.not_lt_zero _)⟩, by have := (HP.out h).2; simpa [wsum] using this⟩, HBL⟩
            case round =>
              clear HP HBL hNN1 hNN2
              obtain ⟨k, N, rfl, rfl, hk, hNa, hNb, HQ, HW⟩ := hrel
              have hbx := Go.Proofs.YtepbjkkakfpjgaaGreatDoor.keep HW.out Xel.out
              by_cases hlt : k < nel
              · have hkl : k < el.length := by rw [Lel.out]; exact hlt
                obtain ⟨b, off, ha, hb, hc⟩ := Rows.get Rel.out hkl
                rw [ha] at hbx
                have hx : el[k] ∈ el := List.getElem_mem hkl
                have hLs := HM.out.ls el[k].l (by unfold Md.codes; exact List.mem_append_right _ (List.mem_append_right _ (List.mem_append_left _ (List.mem_map.2 ⟨_, hx, rfl⟩))))
                have hLl := HF.out.ls el[k].l (by unfold Md.codes; exact List.mem_append_right _ (List.mem_append_right _ (List.mem_append_left _ (List.mem_map.2 ⟨_, hx, rfl⟩))))
                have hS := HF.out.fs _ hx
                have HST := hid (wsum_step msE hkl)
                obtain ⟨x, hxe⟩ : ∃ x, el[k] = x := ⟨_, rfl⟩
                have HXE := hid hxe
                rw [hxe] at hc HST hLs hLl hS
                have cc : ∀ j, j < 2 → ∀ v, x.v[j]? = some v → wr.cell? ⟨b, off + k * 2 + j, none⟩ = some v := fun j hj v hv => (HW.out.cell (p := ⟨b, off + k * 2 + j, none⟩) hb).trans (hc j hj v hv)
                have c0 : wr.cell? ⟨b, off + k * 2, none⟩ = some (.slice x.l.a x.l.t.len x.l.c) := cc 0 (by omega) _ rfl
                have c1 : wr.cell? ⟨b, off + k * 2 + 1, none⟩ = some (.slice x.fa x.fs.length x.fc) := cc 1 (by omega) _ rfl
                have hki : (k : Int) < (nel : Int) := by omega
                have hN1' : 1 ≤ N0 := HI.out (by omega)
                have hgo := go_bounds x.l.t 0 5000 (by omega) (by omega) (by omega)
                obtain ⟨q, hq⟩ : ∃ q, x.l.t.go 0 5000 = q := ⟨_, rfl⟩
                have C := hid (show ∀ a, Calls Tryz.prog 32 #[.slice x.l.a x.l.t.len x.l.c, .int .i64 5000] (wr.drewN a) fun e w' => e = .returned (.int .i64 (x.l.t.go 0 5000)) ∧ w' = wr.drewN a from fun a => (Instrs_any x.l.t.count x.l.t x.l.a x.l.t.len x.l.c 5000 _ (Nat.le_refl _) ((hLs.below (drewQ HW.out a)).more (drewQ HW.out a).size) hLl (by omega) (by omega)).mono fun e w' ⟨he, hw⟩ => ⟨he, hw.symm⟩)
                rw [hq] at C hgo
                obtain ⟨hg0, hg1, hg2⟩ := hgo
                have HG := hid hg2
                by_cases hmn : (5000 : Int) < (x.fs.length : Int)
                · have hmz : min (x.fs.length : Int) 5000 = 5000 := by omega
                  have e0 : IntKind.i64.wrap (N + q) = N + q := by rw [IntKind.wrap_i64]; omega
                  have e1 : IntKind.i64.wrap (N + q + 5000) = N + q + 5000 := by rw [IntKind.wrap_i64]; omega
                  have HQ' := hid (show N + q + 5000 ≤ 5000 → ((((True) ∧ ∀ x ∈ fu, x.l.t.weight ≤ 5000) ∧ ∀ x ∈ gl, x.l.t.weight ≤ 5000) ∧ ∀ (j : Nat) (hj : j < el.length), j < k + 1 → ∃ x, x = el[j] ∧ x.l.t.weight ≤ 5000 ∧ x.fs.length ≤ 5000) ∧ N0 + (wsum msF fu : Int) + (wsum msG gl : Int) + (wsum msE (el.take (k + 1)) : Int) ≤ N + q + 5000 from fun h => ⟨⟨(HQ.out (by omega)).1.1, fun j hj hjk => by
                    by_cases e : j = k
                    · subst e; exact ⟨x, HXE.out.symm, by have := HG.out (by omega); omega, by omega⟩
                    · exact (HQ.out (by omega)).1.2 j hj (by omega)⟩, by
                    have h1 := (HQ.out (by omega)).2
                    have h2 := HST.out
                    have h3 : msE x = x.l.t.weight + x.fs.length := rfl
                    have h4 := HG.out (by omega)
                    rw [h2]
                    push_cast
                    omega⟩)
                  have hz1 := show N0 ≤ N + q + 5000 by omega
                  have hz2 := show N + q + 5000 ≤ 200025000 + 20002 * ((k + 1 : Nat) : Int) by omega
                  clear HST hx hxe hc cc hb ha hLs hLl hq hg2
                  go_wp2
                  go_quiet ((go_at_call 32; exact Calls.quiet_of_same (C.out _)))
                  go_wp2
                  go_roundw
                  case rel => exact ⟨k + 1, _, rfl, by go_num, by omega, hz1, hz2, HQ', drewQ HW.out _⟩
                  case measure => simp [intOf]; omega
                · have hmz : min (x.fs.length : Int) 5000 = (x.fs.length : Int) := by omega
                  have e0 : IntKind.i64.wrap (N + q) = N + q := by rw [IntKind.wrap_i64]; omega
                  have e1 : IntKind.i64.wrap (N + q + (x.fs.length : Int)) = N + q + (x.fs.length : Int) := by rw [IntKind.wrap_i64]; omega
                  have HQ' := hid (show N + q + (x.fs.length : Int) ≤ 5000 → ((((True) ∧ ∀ x ∈ fu, x.l.t.weight ≤ 5000) ∧ ∀ x ∈ gl, x.l.t.weight ≤ 5000) ∧ ∀ (j : Nat) (hj : j < el.length), j < k + 1 → ∃ x, x = el[j] ∧ x.l.t.weight ≤ 5000 ∧ x.fs.length ≤ 5000) ∧ N0 + (wsum msF fu : Int) + (wsum msG gl : Int) + (wsum msE (el.take (k + 1)) : Int) ≤ N + q + (x.fs.length : Int) from fun h => ⟨⟨(HQ.out (by omega)).1.1, fun j hj hjk => by
                    by_cases e : j = k
                    · subst e; exact ⟨x, HXE.out.symm, by have := HG.out (by omega); omega, by omega⟩
                    · exact (HQ.out (by omega)).1.2 j hj (by omega)⟩, by
                    have h1 := (HQ.out (by omega)).2
                    have h2 := HST.out
                    have h3 : msE x = x.l.t.weight + x.fs.length := rfl
                    have h4 := HG.out (by omega)
                    rw [h2]
                    push_cast
                    omega⟩)
                  have hz1 := show N0 ≤ N + q + (x.fs.length : Int) by omega
                  have hz2 := show N + q + (x.fs.length : Int) ≤ 200025000 + 20002 * ((k + 1 : Nat) : Int) by omega
                  clear HST hx hxe hc cc hb ha hLs hLl hq hg2
                  go_wp2
                  go_quiet ((go_at_call 32; exact Calls.quiet_of_same (C.out _)))
                  go_wp2
                  go_roundw
                  case rel => exact ⟨k + 1, _, rfl, by go_num, by omega, hz1, hz2, HQ', drewQ HW.out _⟩
                  case measure => simp [intOf]; omega
              · obtain rfl : k = nel := by omega
                have HP := hid (show N ≤ 5000 → ((((True) ∧ ∀ x ∈ fu, x.l.t.weight ≤ 5000) ∧ ∀ x ∈ gl, x.l.t.weight ≤ 5000) ∧ ∀ x ∈ el, x.l.t.weight ≤ 5000 ∧ x.fs.length ≤ 5000) ∧ N0 + (wsum msF fu : Int) + (wsum msG gl : Int) + (wsum msE el : Int) ≤ N from fun h => ⟨⟨(HQ.out h).1.1, fun x hx => by
                  obtain ⟨j, hj, rfl⟩ := List.mem_iff_getElem.1 hx
                  obtain ⟨y, hy, hq⟩ := (HQ.out h).1.2 j hj (by rw [← Lel.out]; exact hj)
                  subst hy; exact hq⟩, by have h1 := (HQ.out h).2; rwa [List.take_of_length_le (by rw [Lel.out]; exact Nat.le_refl _)] at h1⟩)
                have hNN1 : N0 ≤ N := by omega
                have hNN2 : N ≤ 300035000 := by omega
                have HBL := HW
                clear HQ hNa hNb HW hlt hk
                obtain ⟨NN, rfl⟩ : ∃ NN, NN = N := ⟨_, rfl⟩
                go_wp2
                clear hbx
                go_loopw [5, 9] (fun vn vi wr => ∃ (k : Nat) (N : Int), vn = .int .i64 N ∧ vi = .int .i64 k ∧ k ≤ nda ∧ N0 ≤ N ∧ N ≤ 300035000 + 20002 * (k : Int) ∧ Hid (N ≤ 5000 → (((((True) ∧ ∀ x ∈ fu, x.l.t.weight ≤ 5000) ∧ ∀ x ∈ gl, x.l.t.weight ≤ 5000) ∧ ∀ x ∈ el, x.l.t.weight ≤ 5000 ∧ x.fs.length ≤ 5000) ∧ ∀ (j : Nat) (hj : j < da.length), j < k → ∃ x, x = da[j] ∧ x.l.t.weight ≤ 5000 ∧ x.bs.length ≤ 5000) ∧ N0 + (wsum msF fu : Int) + (wsum msG gl : Int) + (wsum msE el : Int) + (wsum msD (da.take k) : Int) ≤ N) ∧ Hid (Below W0.heap.size W0 wr)) (fun _ vi _ => nda - (intOf vi).toNat)
                case atStart => exact ⟨0, NN, rfl, rfl, Nat.zero_le _, by omega, by omega, fun h => ⟨⟨(HP.out h).1, fun j _ h => absurd h (Nat.not_lt_zero _)⟩, by have := (HP.out h).2; simpa [wsum] using this⟩, HBL⟩
                case round =>
                  clear HP HBL hNN1 hNN2
                  obtain ⟨k, N, rfl, rfl, hk, hNa, hNb, HQ, HW⟩ := hrel
                  have hbx := Go.Proofs.YtepbjkkakfpjgaaGreatDoor.keep HW.out Xda.out
                  by_cases hlt : k < nda
                  · have hkl : k < da.length := by rw [Lda.out]; exact hlt
                    obtain ⟨b, off, ha, hb, hc⟩ := Rows.get Rda.out hkl
                    rw [ha] at hbx
                    have hx : da[k] ∈ da := List.getElem_mem hkl
                    have hLs := HM.out.ls da[k].l (by unfold Md.codes; exact List.mem_append_right _ (List.mem_append_right _ (List.mem_append_right _ (List.mem_map.2 ⟨_, hx, rfl⟩))))
                    have hLl := HF.out.ls da[k].l (by unfold Md.codes; exact List.mem_append_right _ (List.mem_append_right _ (List.mem_append_right _ (List.mem_map.2 ⟨_, hx, rfl⟩))))
                    have hS := HF.out.bs _ hx
                    have HST := hid (wsum_step msD hkl)
                    obtain ⟨x, hxe⟩ : ∃ x, da[k] = x := ⟨_, rfl⟩
                    have HXE := hid hxe
                    rw [hxe] at hc HST hLs hLl hS
                    have cc : ∀ j, j < 2 → ∀ v, x.v[j]? = some v → wr.cell? ⟨b, off + k * 2 + j, none⟩ = some v := fun j hj v hv => (HW.out.cell (p := ⟨b, off + k * 2 + j, none⟩) hb).trans (hc j hj v hv)
                    have c0 : wr.cell? ⟨b, off + k * 2, none⟩ = some (.slice x.l.a x.l.t.len x.l.c) := cc 0 (by omega) _ rfl
                    have c1 : wr.cell? ⟨b, off + k * 2 + 1, none⟩ = some (.slice x.ba x.bs.length x.bc) := cc 1 (by omega) _ rfl
                    have hki : (k : Int) < (nda : Int) := by omega
                    have hN1' : 1 ≤ N0 := HI.out (by omega)
                    have hgo := go_bounds x.l.t 0 5000 (by omega) (by omega) (by omega)
                    obtain ⟨q, hq⟩ : ∃ q, x.l.t.go 0 5000 = q := ⟨_, rfl⟩
                    have C := hid (show ∀ a, Calls Tryz.prog 32 #[.slice x.l.a x.l.t.len x.l.c, .int .i64 5000] (wr.drewN a) fun e w' => e = .returned (.int .i64 (x.l.t.go 0 5000)) ∧ w' = wr.drewN a from fun a => (Instrs_any x.l.t.count x.l.t x.l.a x.l.t.len x.l.c 5000 _ (Nat.le_refl _) ((hLs.below (drewQ HW.out a)).more (drewQ HW.out a).size) hLl (by omega) (by omega)).mono fun e w' ⟨he, hw⟩ => ⟨he, hw.symm⟩)
                    rw [hq] at C hgo
                    obtain ⟨hg0, hg1, hg2⟩ := hgo
                    have HG := hid hg2
                    by_cases hmn : (5000 : Int) < (x.bs.length : Int)
                    · have hmz : min (x.bs.length : Int) 5000 = 5000 := by omega
                      have e0 : IntKind.i64.wrap (N + q) = N + q := by rw [IntKind.wrap_i64]; omega
                      have e1 : IntKind.i64.wrap (N + q + 5000) = N + q + 5000 := by rw [IntKind.wrap_i64]; omega
                      have HQ' := hid (show N + q + 5000 ≤ 5000 → (((((True) ∧ ∀ x ∈ fu, x.l.t.weight ≤ 5000) ∧ ∀ x ∈ gl, x.l.t.weight ≤ 5000) ∧ ∀ x ∈ el, x.l.t.weight ≤ 5000 ∧ x.fs.length ≤ 5000) ∧ ∀ (j : Nat) (hj : j < da.length), j < k + 1 → ∃ x, x = da[j] ∧ x.l.t.weight ≤ 5000 ∧ x.bs.length ≤ 5000) ∧ N0 + (wsum msF fu : Int) + (wsum msG gl : Int) + (wsum msE el : Int) + (wsum msD (da.take (k + 1)) : Int) ≤ N + q + 5000 from fun h => ⟨⟨(HQ.out (by omega)).1.1, fun j hj hjk => by
                        by_cases e : j = k
                        · subst e; exact ⟨x, HXE.out.symm, by have := HG.out (by omega); omega, by omega⟩
                        · exact (HQ.out (by omega)).1.2 j hj (by omega)⟩, by
                        have h1 := (HQ.out (by omega)).2
                        have h2 := HST.out
                        have h3 : msD x = x.l.t.weight + x.bs.length := rfl
                        have h4 := HG.out (by omega)
                        rw [h2]
                        push_cast
                        omega⟩)
                      have hz1 := show N0 ≤ N + q + 5000 by omega
                      have hz2 := show N + q + 5000 ≤ 300035000 + 20002 * ((k + 1 : Nat) : Int) by omega
                      clear HST hx hxe hc cc hb ha hLs hLl hq hg2
                      go_wp2
                      go_quiet ((go_at_call 32; exact Calls.quiet_of_same (C.out _)))
                      go_wp2
                      go_roundw
                      case rel => exact ⟨k + 1, _, rfl, by go_num, by omega, hz1, hz2, HQ', drewQ HW.out _⟩
                      case measure => simp [intOf]; omega
                    · have hmz : min (x.bs.length : Int) 5000 = (x.bs.length : Int) := by omega
                      have e0 : IntKind.i64.wrap (N + q) = N + q := by rw [IntKind.wrap_i64]; omega
                      have e1 : IntKind.i64.wrap (N + q + (x.bs.length : Int)) = N + q + (x.bs.length : Int) := by rw [IntKind.wrap_i64]; omega
                      have HQ' := hid (show N + q + (x.bs.length : Int) ≤ 5000 → (((((True) ∧ ∀ x ∈ fu, x.l.t.weight ≤ 5000) ∧ ∀ x ∈ gl, x.l.t.weight ≤ 5000) ∧ ∀ x ∈ el, x.l.t.weight ≤ 5000 ∧ x.fs.length ≤ 5000) ∧ ∀ (j : Nat) (hj : j < da.length), j < k + 1 → ∃ x, x = da[j] ∧ x.l.t.weight ≤ 5000 ∧ x.bs.length ≤ 5000) ∧ N0 + (wsum msF fu : Int) + (wsum msG gl : Int) + (wsum msE el : Int) + (wsum msD (da.take (k + 1)) : Int) ≤ N + q + (x.bs.length : Int) from fun h => ⟨⟨(HQ.out (by omega)).1.1, fun j hj hjk => by
                        by_cases e : j = k
                        · subst e; exact ⟨x, HXE.out.symm, by have := HG.out (by omega); omega, by omega⟩
                        · exact (HQ.out (by omega)).1.2 j hj (by omega)⟩, by
                        have h1 := (HQ.out (by omega)).2
                        have h2 := HST.out
                        have h3 : msD x = x.l.t.weight + x.bs.length := rfl
                        have h4 := HG.out (by omega)
                        rw [h2]
                        push_cast
                        omega⟩)
                      have hz1 := show N0 ≤ N + q + (x.bs.length : Int) by omega
                      have hz2 := show N + q + (x.bs.length : Int) ≤ 300035000 + 20002 * ((k + 1 : Nat) : Int) by omega
                      clear HST hx hxe hc cc hb ha hLs hLl hq hg2
                      go_wp2
                      go_quiet ((go_at_call 32; exact Calls.quiet_of_same (C.out _)))
                      go_wp2
                      go_roundw
                      case rel => exact ⟨k + 1, _, rfl, by go_num, by omega, hz1, hz2, HQ', drewQ HW.out _⟩
                      case measure => simp [intOf]; omega
                  · obtain rfl : k = nda := by omega
                    have HP := hid (show N ≤ 5000 → (((((True) ∧ ∀ x ∈ fu, x.l.t.weight ≤ 5000) ∧ ∀ x ∈ gl, x.l.t.weight ≤ 5000) ∧ ∀ x ∈ el, x.l.t.weight ≤ 5000 ∧ x.fs.length ≤ 5000) ∧ ∀ x ∈ da, x.l.t.weight ≤ 5000 ∧ x.bs.length ≤ 5000) ∧ N0 + (wsum msF fu : Int) + (wsum msG gl : Int) + (wsum msE el : Int) + (wsum msD da : Int) ≤ N from fun h => ⟨⟨(HQ.out h).1.1, fun x hx => by
                      obtain ⟨j, hj, rfl⟩ := List.mem_iff_getElem.1 hx
                      obtain ⟨y, hy, hq⟩ := (HQ.out h).1.2 j hj (by rw [← Lda.out]; exact hj)
                      subst hy; exact hq⟩, by have h1 := (HQ.out h).2; rwa [List.take_of_length_le (by rw [Lda.out]; exact Nat.le_refl _)] at h1⟩)
                    have hNN1 : N0 ≤ N := by omega
                    have hNN2 : N ≤ 400045000 := by omega
                    have HBL := HW
                    clear HQ hNa hNb HW hlt hk
                    obtain ⟨NN, rfl⟩ : ∃ NN, NN = N := ⟨_, rfl⟩
                    go_wp2
                    clear hbx
                    go_loopw [5, 10] (fun vn vi wr => ∃ (k : Nat) (N : Int), vn = .int .i64 N ∧ vi = .int .i64 k ∧ k ≤ nim ∧ N0 ≤ N ∧ N ≤ 400045000 + 20002 * (k : Int) ∧ Hid (N ≤ 5000 → ((((((True) ∧ ∀ x ∈ fu, x.l.t.weight ≤ 5000) ∧ ∀ x ∈ gl, x.l.t.weight ≤ 5000) ∧ ∀ x ∈ el, x.l.t.weight ≤ 5000 ∧ x.fs.length ≤ 5000) ∧ ∀ x ∈ da, x.l.t.weight ≤ 5000 ∧ x.bs.length ≤ 5000) ∧ ∀ (j : Nat) (hj : j < im.length), j < k → ∃ x, x = im[j] ∧ x.mo.size ≤ 5000 ∧ x.na.size ≤ 5000) ∧ N0 + (wsum msF fu : Int) + (wsum msG gl : Int) + (wsum msE el : Int) + (wsum msD da : Int) + (wsum msI (im.take k) : Int) ≤ N) ∧ Hid (Below W0.heap.size W0 wr)) (fun _ vi _ => nim - (intOf vi).toNat)
                    case atStart => exact ⟨0, NN, rfl, rfl, Nat.zero_le _, by omega, by omega, fun h => ⟨⟨(HP.out h).1, fun j _ h => absurd h (Nat.not_lt_zero _)⟩, by have := (HP.out h).2; simpa [wsum] using this⟩, HBL⟩
                    case round =>
                      clear HP HBL hNN1 hNN2
                      obtain ⟨k, N, rfl, rfl, hk, hNa, hNb, HQ, HW⟩ := hrel
                      have hbx := Go.Proofs.YtepbjkkakfpjgaaGreatDoor.keep HW.out Xim.out
                      by_cases hlt : k < nim
                      · have hkl : k < im.length := by rw [Lim.out]; exact hlt
                        obtain ⟨b, off, ha, hb, hc⟩ := Rows.get Rim.out hkl
                        rw [ha] at hbx
                        have hx : im[k] ∈ im := List.getElem_mem hkl
                        have hS := HF.out.iS _ hx
                        have HST := hid (wsum_step msI hkl)
                        obtain ⟨x, hxe⟩ : ∃ x, im[k] = x := ⟨_, rfl⟩
                        have HXE := hid hxe
                        rw [hxe] at hc HST hS
                        have cc : ∀ j, j < 3 → ∀ v, x.v[j]? = some v → wr.cell? ⟨b, off + k * 3 + j, none⟩ = some v := fun j hj v hv => (HW.out.cell (p := ⟨b, off + k * 3 + j, none⟩) hb).trans (hc j hj v hv)
                        have c0 : wr.cell? ⟨b, off + k * 3, none⟩ = some (.string x.mo) := cc 0 (by omega) _ rfl
                        have c1 : wr.cell? ⟨b, off + k * 3 + 1, none⟩ = some (.string x.na) := cc 1 (by omega) _ rfl
                        have hki : (k : Int) < (nim : Int) := by omega
                        have hN1' : 1 ≤ N0 := HI.out (by omega)
                        by_cases hm1 : (5000 : Int) < (x.mo.size : Int)
                        · by_cases hm2 : (5000 : Int) < (x.na.size : Int)
                          · have hmz : min (x.mo.size : Int) 5000 = 5000 := by omega
                            have hmy : min (x.na.size : Int) 5000 = 5000 := by omega
                            have e0 : IntKind.i64.wrap (N + 5000) = N + 5000 := by rw [IntKind.wrap_i64]; omega
                            have e1 : IntKind.i64.wrap (N + 5000 + 5000) = N + 5000 + 5000 := by rw [IntKind.wrap_i64]; omega
                            have HQ' := hid (show N + 5000 + 5000 ≤ 5000 → ((((((True) ∧ ∀ x ∈ fu, x.l.t.weight ≤ 5000) ∧ ∀ x ∈ gl, x.l.t.weight ≤ 5000) ∧ ∀ x ∈ el, x.l.t.weight ≤ 5000 ∧ x.fs.length ≤ 5000) ∧ ∀ x ∈ da, x.l.t.weight ≤ 5000 ∧ x.bs.length ≤ 5000) ∧ ∀ (j : Nat) (hj : j < im.length), j < k + 1 → ∃ x, x = im[j] ∧ x.mo.size ≤ 5000 ∧ x.na.size ≤ 5000) ∧ N0 + (wsum msF fu : Int) + (wsum msG gl : Int) + (wsum msE el : Int) + (wsum msD da : Int) + (wsum msI (im.take (k + 1)) : Int) ≤ N + 5000 + 5000 from fun h => ⟨⟨(HQ.out (by omega)).1.1, fun j hj hjk => by
                              by_cases e : j = k
                              · subst e; exact ⟨x, HXE.out.symm, by omega, by omega⟩
                              · exact (HQ.out (by omega)).1.2 j hj (by omega)⟩, by
                              have h1 := (HQ.out (by omega)).2
                              have h2 := HST.out
                              have h3 : msI x = x.mo.size + x.na.size := rfl
                              rw [h2]
                              push_cast
                              omega⟩)
                            have hz1 := show N0 ≤ N + 5000 + 5000 by omega
                            have hz2 := show N + 5000 + 5000 ≤ 400045000 + 20002 * ((k + 1 : Nat) : Int) by omega
                            clear HST hx hxe hc cc hb ha
                            go_wp2
                            go_quiet (fail)
                            go_wp2
                            go_roundw
                            case rel => exact ⟨k + 1, _, rfl, by go_num, by omega, hz1, hz2, HQ', drewQ HW.out _⟩
                            case measure => simp [intOf]; omega
                          · have hmz : min (x.mo.size : Int) 5000 = 5000 := by omega
                            have hmy : min (x.na.size : Int) 5000 = (x.na.size : Int) := by omega
                            have e0 : IntKind.i64.wrap (N + 5000) = N + 5000 := by rw [IntKind.wrap_i64]; omega
                            have e1 : IntKind.i64.wrap (N + 5000 + (x.na.size : Int)) = N + 5000 + (x.na.size : Int) := by rw [IntKind.wrap_i64]; omega
                            have HQ' := hid (show N + 5000 + (x.na.size : Int) ≤ 5000 → ((((((True) ∧ ∀ x ∈ fu, x.l.t.weight ≤ 5000) ∧ ∀ x ∈ gl, x.l.t.weight ≤ 5000) ∧ ∀ x ∈ el, x.l.t.weight ≤ 5000 ∧ x.fs.length ≤ 5000) ∧ ∀ x ∈ da, x.l.t.weight ≤ 5000 ∧ x.bs.length ≤ 5000) ∧ ∀ (j : Nat) (hj : j < im.length), j < k + 1 → ∃ x, x = im[j] ∧ x.mo.size ≤ 5000 ∧ x.na.size ≤ 5000) ∧ N0 + (wsum msF fu : Int) + (wsum msG gl : Int) + (wsum msE el : Int) + (wsum msD da : Int) + (wsum msI (im.take (k + 1)) : Int) ≤ N + 5000 + (x.na.size : Int) from fun h => ⟨⟨(HQ.out (by omega)).1.1, fun j hj hjk => by
                              by_cases e : j = k
                              · subst e; exact ⟨x, HXE.out.symm, by omega, by omega⟩
                              · exact (HQ.out (by omega)).1.2 j hj (by omega)⟩, by
                              have h1 := (HQ.out (by omega)).2
                              have h2 := HST.out
                              have h3 : msI x = x.mo.size + x.na.size := rfl
                              rw [h2]
                              push_cast
                              omega⟩)
                            have hz1 := show N0 ≤ N + 5000 + (x.na.size : Int) by omega
                            have hz2 := show N + 5000 + (x.na.size : Int) ≤ 400045000 + 20002 * ((k + 1 : Nat) : Int) by omega
                            clear HST hx hxe hc cc hb ha
                            go_wp2
                            go_quiet (fail)
                            go_wp2
                            go_roundw
                            case rel => exact ⟨k + 1, _, rfl, by go_num, by omega, hz1, hz2, HQ', drewQ HW.out _⟩
                            case measure => simp [intOf]; omega
                        · by_cases hm2 : (5000 : Int) < (x.na.size : Int)
                          · have hmz : min (x.mo.size : Int) 5000 = (x.mo.size : Int) := by omega
                            have hmy : min (x.na.size : Int) 5000 = 5000 := by omega
                            have e0 : IntKind.i64.wrap (N + (x.mo.size : Int)) = N + (x.mo.size : Int) := by rw [IntKind.wrap_i64]; omega
                            have e1 : IntKind.i64.wrap (N + (x.mo.size : Int) + 5000) = N + (x.mo.size : Int) + 5000 := by rw [IntKind.wrap_i64]; omega
                            have HQ' := hid (show N + (x.mo.size : Int) + 5000 ≤ 5000 → ((((((True) ∧ ∀ x ∈ fu, x.l.t.weight ≤ 5000) ∧ ∀ x ∈ gl, x.l.t.weight ≤ 5000) ∧ ∀ x ∈ el, x.l.t.weight ≤ 5000 ∧ x.fs.length ≤ 5000) ∧ ∀ x ∈ da, x.l.t.weight ≤ 5000 ∧ x.bs.length ≤ 5000) ∧ ∀ (j : Nat) (hj : j < im.length), j < k + 1 → ∃ x, x = im[j] ∧ x.mo.size ≤ 5000 ∧ x.na.size ≤ 5000) ∧ N0 + (wsum msF fu : Int) + (wsum msG gl : Int) + (wsum msE el : Int) + (wsum msD da : Int) + (wsum msI (im.take (k + 1)) : Int) ≤ N + (x.mo.size : Int) + 5000 from fun h => ⟨⟨(HQ.out (by omega)).1.1, fun j hj hjk => by
                              by_cases e : j = k
                              · subst e; exact ⟨x, HXE.out.symm, by omega, by omega⟩
                              · exact (HQ.out (by omega)).1.2 j hj (by omega)⟩, by
                              have h1 := (HQ.out (by omega)).2
                              have h2 := HST.out
                              have h3 : msI x = x.mo.size + x.na.size := rfl
                              rw [h2]
                              push_cast
                              omega⟩)
                            have hz1 := show N0 ≤ N + (x.mo.size : Int) + 5000 by omega
                            have hz2 := show N + (x.mo.size : Int) + 5000 ≤ 400045000 + 20002 * ((k + 1 : Nat) : Int) by omega
                            clear HST hx hxe hc cc hb ha
                            go_wp2
                            go_quiet (fail)
                            go_wp2
                            go_roundw
                            case rel => exact ⟨k + 1, _, rfl, by go_num, by omega, hz1, hz2, HQ', drewQ HW.out _⟩
                            case measure => simp [intOf]; omega
                          · have hmz : min (x.mo.size : Int) 5000 = (x.mo.size : Int) := by omega
                            have hmy : min (x.na.size : Int) 5000 = (x.na.size : Int) := by omega
                            have e0 : IntKind.i64.wrap (N + (x.mo.size : Int)) = N + (x.mo.size : Int) := by rw [IntKind.wrap_i64]; omega
                            have e1 : IntKind.i64.wrap (N + (x.mo.size : Int) + (x.na.size : Int)) = N + (x.mo.size : Int) + (x.na.size : Int) := by rw [IntKind.wrap_i64]; omega
                            have HQ' := hid (show N + (x.mo.size : Int) + (x.na.size : Int) ≤ 5000 → ((((((True) ∧ ∀ x ∈ fu, x.l.t.weight ≤ 5000) ∧ ∀ x ∈ gl, x.l.t.weight ≤ 5000) ∧ ∀ x ∈ el, x.l.t.weight ≤ 5000 ∧ x.fs.length ≤ 5000) ∧ ∀ x ∈ da, x.l.t.weight ≤ 5000 ∧ x.bs.length ≤ 5000) ∧ ∀ (j : Nat) (hj : j < im.length), j < k + 1 → ∃ x, x = im[j] ∧ x.mo.size ≤ 5000 ∧ x.na.size ≤ 5000) ∧ N0 + (wsum msF fu : Int) + (wsum msG gl : Int) + (wsum msE el : Int) + (wsum msD da : Int) + (wsum msI (im.take (k + 1)) : Int) ≤ N + (x.mo.size : Int) + (x.na.size : Int) from fun h => ⟨⟨(HQ.out (by omega)).1.1, fun j hj hjk => by
                              by_cases e : j = k
                              · subst e; exact ⟨x, HXE.out.symm, by omega, by omega⟩
                              · exact (HQ.out (by omega)).1.2 j hj (by omega)⟩, by
                              have h1 := (HQ.out (by omega)).2
                              have h2 := HST.out
                              have h3 : msI x = x.mo.size + x.na.size := rfl
                              rw [h2]
                              push_cast
                              omega⟩)
                            have hz1 := show N0 ≤ N + (x.mo.size : Int) + (x.na.size : Int) by omega
                            have hz2 := show N + (x.mo.size : Int) + (x.na.size : Int) ≤ 400045000 + 20002 * ((k + 1 : Nat) : Int) by omega
                            clear HST hx hxe hc cc hb ha
                            go_wp2
                            go_quiet (fail)
                            go_wp2
                            go_roundw
                            case rel => exact ⟨k + 1, _, rfl, by go_num, by omega, hz1, hz2, HQ', drewQ HW.out _⟩
                            case measure => simp [intOf]; omega
                      · obtain rfl : k = nim := by omega
                        have HP := hid (show N ≤ 5000 → ((((((True) ∧ ∀ x ∈ fu, x.l.t.weight ≤ 5000) ∧ ∀ x ∈ gl, x.l.t.weight ≤ 5000) ∧ ∀ x ∈ el, x.l.t.weight ≤ 5000 ∧ x.fs.length ≤ 5000) ∧ ∀ x ∈ da, x.l.t.weight ≤ 5000 ∧ x.bs.length ≤ 5000) ∧ ∀ x ∈ im, x.mo.size ≤ 5000 ∧ x.na.size ≤ 5000) ∧ N0 + (wsum msF fu : Int) + (wsum msG gl : Int) + (wsum msE el : Int) + (wsum msD da : Int) + (wsum msI im : Int) ≤ N from fun h => ⟨⟨(HQ.out h).1.1, fun x hx => by
                          obtain ⟨j, hj, rfl⟩ := List.mem_iff_getElem.1 hx
                          obtain ⟨y, hy, hq⟩ := (HQ.out h).1.2 j hj (by rw [← Lim.out]; exact hj)
                          subst hy; exact hq⟩, by have h1 := (HQ.out h).2; rwa [List.take_of_length_le (by rw [Lim.out]; exact Nat.le_refl _)] at h1⟩)
                        have hNN1 : N0 ≤ N := by omega
                        have hNN2 : N ≤ 500055000 := by omega
                        have HBL := HW
                        clear HQ hNa hNb HW hlt hk
                        obtain ⟨NN, rfl⟩ : ∃ NN, NN = N := ⟨_, rfl⟩
                        go_wp2
                        clear hbx
                        go_loopw [5, 11] (fun vn vi wr => ∃ (k : Nat) (N : Int), vn = .int .i64 N ∧ vi = .int .i64 k ∧ k ≤ nex ∧ N0 ≤ N ∧ N ≤ 500055000 + 20002 * (k : Int) ∧ Hid (N ≤ 5000 → (((((((True) ∧ ∀ x ∈ fu, x.l.t.weight ≤ 5000) ∧ ∀ x ∈ gl, x.l.t.weight ≤ 5000) ∧ ∀ x ∈ el, x.l.t.weight ≤ 5000 ∧ x.fs.length ≤ 5000) ∧ ∀ x ∈ da, x.l.t.weight ≤ 5000 ∧ x.bs.length ≤ 5000) ∧ ∀ x ∈ im, x.mo.size ≤ 5000 ∧ x.na.size ≤ 5000) ∧ ∀ (j : Nat) (hj : j < ex.length), j < k → ∃ x, x = ex[j] ∧ x.na.size ≤ 5000) ∧ N0 + (wsum msF fu : Int) + (wsum msG gl : Int) + (wsum msE el : Int) + (wsum msD da : Int) + (wsum msI im : Int) + (wsum msX (ex.take k) : Int) ≤ N) ∧ Hid (Below W0.heap.size W0 wr)) (fun _ vi _ => nex - (intOf vi).toNat)
                        case atStart => exact ⟨0, NN, rfl, rfl, Nat.zero_le _, by omega, by omega, fun h => ⟨⟨(HP.out h).1, fun j _ h => absurd h (Nat.not_lt_zero _)⟩, by have := (HP.out h).2; simpa [wsum] using this⟩, HBL⟩
                        case round =>
                          clear HP HBL hNN1 hNN2
                          obtain ⟨k, N, rfl, rfl, hk, hNa, hNb, HQ, HW⟩ := hrel
                          have hbx := Go.Proofs.YtepbjkkakfpjgaaGreatDoor.keep HW.out Xex.out
                          by_cases hlt : k < nex
                          · have hkl : k < ex.length := by rw [Lex.out]; exact hlt
                            obtain ⟨b, off, ha, hb, hc⟩ := Rows.get Rex.out hkl
                            rw [ha] at hbx
                            have hx : ex[k] ∈ ex := List.getElem_mem hkl
                            have hS := HF.out.eS _ hx
                            have HST := hid (wsum_step msX hkl)
                            obtain ⟨x, hxe⟩ : ∃ x, ex[k] = x := ⟨_, rfl⟩
                            have HXE := hid hxe
                            rw [hxe] at hc HST hS
                            have cc : ∀ j, j < 3 → ∀ v, x.v[j]? = some v → wr.cell? ⟨b, off + k * 3 + j, none⟩ = some v := fun j hj v hv => (HW.out.cell (p := ⟨b, off + k * 3 + j, none⟩) hb).trans (hc j hj v hv)
                            have c0 : wr.cell? ⟨b, off + k * 3, none⟩ = some (.string x.na) := cc 0 (by omega) _ rfl
                            have hki : (k : Int) < (nex : Int) := by omega
                            have hN1' : 1 ≤ N0 := HI.out (by omega)
                            by_cases hmn : (5000 : Int) < (x.na.size : Int)
                            · have hmz : min (x.na.size : Int) 5000 = 5000 := by omega
                              have HQ' := hid (show N + 5000 ≤ 5000 → (((((((True) ∧ ∀ x ∈ fu, x.l.t.weight ≤ 5000) ∧ ∀ x ∈ gl, x.l.t.weight ≤ 5000) ∧ ∀ x ∈ el, x.l.t.weight ≤ 5000 ∧ x.fs.length ≤ 5000) ∧ ∀ x ∈ da, x.l.t.weight ≤ 5000 ∧ x.bs.length ≤ 5000) ∧ ∀ x ∈ im, x.mo.size ≤ 5000 ∧ x.na.size ≤ 5000) ∧ ∀ (j : Nat) (hj : j < ex.length), j < k + 1 → ∃ x, x = ex[j] ∧ x.na.size ≤ 5000) ∧ N0 + (wsum msF fu : Int) + (wsum msG gl : Int) + (wsum msE el : Int) + (wsum msD da : Int) + (wsum msI im : Int) + (wsum msX (ex.take (k + 1)) : Int) ≤ N + 5000 from fun h => ⟨⟨(HQ.out (by omega)).1.1, fun j hj hjk => by
                                by_cases e : j = k
                                · subst e; exact ⟨x, HXE.out.symm, by omega⟩
                                · exact (HQ.out (by omega)).1.2 j hj (by omega)⟩, by
                                have h1 := (HQ.out (by omega)).2
                                have h2 := HST.out
                                have h3 : msX x = x.na.size := rfl
                                rw [h2]
                                push_cast
                                omega⟩)
                              clear HST hx hxe hc cc hb ha
                              go_wp2
                              go_roundw
                              case rel => exact ⟨k + 1, _, rfl, by go_num, by omega, by omega, by omega, HQ', HW⟩
                              case measure => simp [intOf]; omega
                            · have hmz : min (x.na.size : Int) 5000 = (x.na.size : Int) := by omega
                              have HQ' := hid (show N + (x.na.size : Int) ≤ 5000 → (((((((True) ∧ ∀ x ∈ fu, x.l.t.weight ≤ 5000) ∧ ∀ x ∈ gl, x.l.t.weight ≤ 5000) ∧ ∀ x ∈ el, x.l.t.weight ≤ 5000 ∧ x.fs.length ≤ 5000) ∧ ∀ x ∈ da, x.l.t.weight ≤ 5000 ∧ x.bs.length ≤ 5000) ∧ ∀ x ∈ im, x.mo.size ≤ 5000 ∧ x.na.size ≤ 5000) ∧ ∀ (j : Nat) (hj : j < ex.length), j < k + 1 → ∃ x, x = ex[j] ∧ x.na.size ≤ 5000) ∧ N0 + (wsum msF fu : Int) + (wsum msG gl : Int) + (wsum msE el : Int) + (wsum msD da : Int) + (wsum msI im : Int) + (wsum msX (ex.take (k + 1)) : Int) ≤ N + (x.na.size : Int) from fun h => ⟨⟨(HQ.out (by omega)).1.1, fun j hj hjk => by
                                by_cases e : j = k
                                · subst e; exact ⟨x, HXE.out.symm, by omega⟩
                                · exact (HQ.out (by omega)).1.2 j hj (by omega)⟩, by
                                have h1 := (HQ.out (by omega)).2
                                have h2 := HST.out
                                have h3 : msX x = x.na.size := rfl
                                rw [h2]
                                push_cast
                                omega⟩)
                              clear HST hx hxe hc cc hb ha
                              go_wp2
                              go_roundw
                              case rel => exact ⟨k + 1, _, rfl, by go_num, by omega, by omega, by omega, HQ', HW⟩
                              case measure => simp [intOf]; omega
                          · obtain rfl : k = nex := by omega
                            have HP := hid (show N ≤ 5000 → (((((((True) ∧ ∀ x ∈ fu, x.l.t.weight ≤ 5000) ∧ ∀ x ∈ gl, x.l.t.weight ≤ 5000) ∧ ∀ x ∈ el, x.l.t.weight ≤ 5000 ∧ x.fs.length ≤ 5000) ∧ ∀ x ∈ da, x.l.t.weight ≤ 5000 ∧ x.bs.length ≤ 5000) ∧ ∀ x ∈ im, x.mo.size ≤ 5000 ∧ x.na.size ≤ 5000) ∧ ∀ x ∈ ex, x.na.size ≤ 5000) ∧ N0 + (wsum msF fu : Int) + (wsum msG gl : Int) + (wsum msE el : Int) + (wsum msD da : Int) + (wsum msI im : Int) + (wsum msX ex : Int) ≤ N from fun h => ⟨⟨(HQ.out h).1.1, fun x hx => by
                              obtain ⟨j, hj, rfl⟩ := List.mem_iff_getElem.1 hx
                              obtain ⟨y, hy, hq⟩ := (HQ.out h).1.2 j hj (by rw [← Lex.out]; exact hj)
                              subst hy; exact hq⟩, by have h1 := (HQ.out h).2; rwa [List.take_of_length_le (by rw [Lex.out]; exact Nat.le_refl _)] at h1⟩)
                            have hNN1 : N0 ≤ N := by omega
                            have hNN2 : N ≤ 600065000 := by omega
                            have HBL := HW
                            clear HQ hNa hNb HW hlt hk
                            have HZ := hid (big_end (m := (⟨ty, im, fu, tb, me, gl, ex, st, sn, el, da, ty', im', fu', tb', me', gl', ex', el', da'⟩ : Md)) (N := N) (HB.out.trans (HBL.out.mono HB.out.size)) (fun h => by
                              obtain ⟨⟨⟨⟨⟨⟨⟨_, z1⟩, z2⟩, z3⟩, z4⟩, z5⟩, z6⟩, zs⟩ := HP.out h
                              refine ⟨⟨HSUM.out, fun l hl => ?_, fun e he => (z3 e he).2, fun d hd => (z4 d hd).2, z5, z6⟩, by have := HN0.out; unfold Md.total; dsimp only; omega⟩
                              unfold Md.codes at hl
                              simp only [List.mem_append, List.mem_map] at hl
                              rcases hl with ⟨x, hx, rfl⟩ | ⟨x, hx, rfl⟩ | ⟨x, hx, rfl⟩ | ⟨x, hx, rfl⟩
                              · exact z1 x hx
                              · exact z2 x hx
                              · exact (z3 x hx).1
                              · exact (z4 x hx).1))
                            go_wp2
                            go_ret
                            exact HZ.out
end Go.Proofs.YtepbjkkakfpjgaaGreatDoor.Mod

namespace Go.Proofs.YtepbjkkakfpjgaaGreatDoor.Body
open Go.RowKit Go.Proofs.YtepbjkkakfpjgaaGreatDoor.Instr

theorem rightDoc_any (x : Ix) (w : World) : Calls Tryz.prog 230 #[.agg x.vals] w fun e w' => e = .returned (.bool (lawfulP x)) ∧ Below w.heap.size w w' := by
  by_cases hn : nameL x.op = []
  · have h0 : lawfulP x = false := by
      rw [← Bool.not_eq_true]; intro h; exact ((lawful_iff x).1 h).1 hn
    rw [h0]
    exact right_none x.op x.res x.a x.b x.n x.tags.length x.ln x.en x.ta x.la x.ea x.tc x.lc x.ec w hn
  · rcases kind_cases x.op with h | h | h | h | h | h | h | h
    · exact right_0 x w hn h
    · by_cases h4 : x.op = 4
      · exact right_1a x w hn h h4
      · exact right_1b x w hn h h4
    · exact right_2 x w hn h
    · exact right_3 x w hn h
    · exact right_4 x w hn h
    · exact right_5 x w hn h
    · exact right_6 x w hn h
    · exact right_7 x w hn h
set_option maxHeartbeats 1600000 in
theorem allDoc_any : ∀ (m : Nat) (t : Il) (a : Option Addr) (len c : Nat) (w : World), t.count ≤ m → ListAt w.heap.size w a len t → len ≤ 140737488351232 → t.count ≤ 4611686018427387900 →
    Calls Tryz.prog 216 #[.slice a len c] w fun e w' => e = .returned (.bool t.all) ∧ Below w.heap.size w w' := by
  intro m
  induction m with
  | zero =>
    intro t a len c w hm hL hlen hbig
    cases t with
    | cons x l e r => simp only [Il.count] at hm; omega
    | nil =>
      have h0 : len = 0 := hL.1.symm
      subst h0
      clear hm hL hlen hbig
      go_enter Tryz.func216, Tryz.ntmps216
      go_wp2
      go_loopw [3] (fun si wr => si = .int .i64 0 ∧ wr = w) (fun _ _ => 0)
      case atStart => exact ⟨rfl, rfl⟩
      case round =>
        obtain ⟨rfl, rfl⟩ := hrel
        go_wp2
        go_ret
        exact ⟨rfl, Below.refl _ _⟩
  | succ m ih =>
    intro t a len c w hm hL hlen hbig
    obtain ⟨hL1, hL2⟩ := hL
    rcases hL2 with rfl | ⟨b, off, rfl, hi⟩
    · have h0 : len = 0 := hL1.symm
      subst h0
      clear ih hm hL1 hlen hbig
      go_enter Tryz.func216, Tryz.ntmps216
      go_wp2
      go_loopw [3] (fun si wr => si = .int .i64 0 ∧ wr = w) (fun _ _ => 0)
      case atStart => exact ⟨rfl, rfl⟩
      case round =>
        obtain ⟨rfl, rfl⟩ := hrel
        go_wp2
        go_ret
        exact ⟨rfl, Below.refl _ _⟩
    · have HM := hid hm
      have HB := hid hbig
      have HL1 := hid hL1
      have HI := hid hi
      clear hm hbig hL1 hi
      go_enter Tryz.func216, Tryz.ntmps216
      go_wp2
      go_loopw [3] (fun si wr => ∃ (k : Nat) (rest : Il), si = .int .i64 k ∧ k ≤ len ∧ Hid (k + rest.len = len ∧ rest.count ≤ t.count ∧ rest.all = t.all) ∧ Hid (Items w.heap.size w b (off + k * 8) rest) ∧ Below w.heap.size w wr)
        (fun si _ => len - (intOf si).toNat)
      case atStart => exact ⟨0, t, rfl, Nat.zero_le _, ⟨by have := HL1.out; omega, Nat.le_refl _, rfl⟩, by simpa using HI, Below.refl _ _⟩
      case round =>
        obtain ⟨k, rest, rfl, hk, HR, HIR, hb⟩ := hrel
        cases rest with
        | nil =>
          obtain ⟨r1, _, r3⟩ := HR.out
          have hkl : k = len := by simpa [Il.len] using r1
          subst hkl
          have R3 : Hid (t.all = true) := by show _ = _; rw [← r3]; rfl
          clear r3
          go_wp2
          go_ret
          exact ⟨ret_bool R3.out.symm, hb⟩
        | cons x tl te r =>
          have hir := Items.below hb HIR.out
          obtain ⟨hbn, hx, ⟨c0, c1, c2, c3, c4, c5, c6, c7⟩, _⟩ := hir
          have hir0 := HIR.out
          obtain ⟨_, _, _, ht, hLl, hLe, hir'⟩ := hir0
          have hlt : k < len := by have := HR.out.1; simp only [Il.len] at this; omega
          have hLn := hx.ln
          have hEn := hx.en
          have hcnt : tl.count + te.count + 1 ≤ m + 1 ∧ tl.count ≤ 4611686018427387900 ∧ te.count ≤ 4611686018427387900 := by
            have h1 := HR.out.2.1
            have h2 := HM.out
            have h3 := HB.out
            simp only [Il.count] at h1
            omega
          obtain ⟨k1, k2, k3⟩ := hcnt
          have N1 := fun w' => rightDoc_any x w'
          have N2 := fun w' (hb' : Below w.heap.size w w') => ih tl x.la x.ln x.lc w' (by omega) (ListAt.on hLl hb') hLn k2
          have N3 := fun w' (hb' : Below w.heap.size w w') => ih te x.ea x.en x.ec w' (by omega) (ListAt.on hLe hb') hEn k3
          have HE : Hid (t.all = (lawfulP x && tl.all && te.all && r.all)) := by show _ = _; rw [← HR.out.2.2]; rfl
          have H1 := hid N1
          have H2 := hid N2
          have H3 := hid N3
          unfold Ix.vals at H1
          clear N1 N2 N3 ih k1 k2 k3 hLl hLe
          obtain ⟨g0, hg0⟩ : ∃ g, lawfulP x = g := ⟨_, rfl⟩
          obtain ⟨g1, hg1⟩ : ∃ g, tl.all = g := ⟨_, rfl⟩
          obtain ⟨g2, hg2⟩ : ∃ g, te.all = g := ⟨_, rfl⟩
          simp only [hg0] at H1
          simp only [hg1] at H2
          simp only [hg2] at H3
          have HE2 : Hid (t.all = (g0 && g1 && g2 && r.all)) := by show _ = _; rw [HE.out, hg0, hg1, hg2]
          clear hg0 hg1 hg2 HE
          go_wp2_with fail
          refine (H1.out _).mono ?_
          clear H1
          rintro e1 w3 ⟨rfl, hb3⟩
          have hbW := thenB hb hb3
          have d6 := keep (w1 := w3) hb3 c6
          have d7 := keep (w1 := w3) hb3 c7
          cases g0
          · have R : Hid (t.all = false) := by show _ = _; rw [HE2.out]; rfl
            clear H2 H3
            go_wp2
            go_ret
            exact ⟨ret_bool R.out.symm, hbW⟩
          go_wp2_with fail
          refine (H2.out _ hbW).mono ?_
          clear H2
          rintro e1 w4 ⟨rfl, hb4⟩
          have hbX := thenB hbW hb4
          have e7 := keep (w1 := w4) hb4 d7
          cases g1
          · have R : Hid (t.all = false) := by show _ = _; rw [HE2.out]; rfl
            clear H3
            go_wp2
            go_ret
            exact ⟨ret_bool R.out.symm, hbX⟩
          go_wp2_with fail
          refine (H3.out _ hbX).mono ?_
          clear H3
          rintro e1 w5 ⟨rfl, hb5⟩
          have hbY := thenB hbX hb5
          cases g2
          · have R : Hid (t.all = false) := by show _ = _; rw [HE2.out]; rfl
            go_wp2
            go_ret
            exact ⟨ret_bool R.out.symm, hbY⟩
          go_wp2
          go_roundw
          case rel =>
            refine ⟨k + 1, r, by simp, by omega, ⟨by have := HR.out.1; simp only [Il.len] at this; omega, by have := HR.out.2.1; simp only [Il.count] at this; omega, ?_⟩, by rw [show off + (k + 1) * 8 = off + k * 8 + 8 by omega]; exact hir', hbY⟩
            rw [HE2.out]; rfl
          case measure => simp [intOf]; omega

set_option maxHeartbeats 1600000 in
theorem checkDoc_any (t : Il) (a : Option Addr) (len c : Nat) (w : World) (hL : ListAt w.heap.size w a len t) (hlen : len ≤ 140737488351232) (hbig : t.count ≤ 4611686018427387900) :
    Calls Tryz.prog 201 #[.slice a len c] w fun e w' => e = .returned (.int .i64 (checkP t)) ∧ Below w.heap.size w w' := by
  have CA := fun w' (h : ListAt w'.heap.size w' a len t) => allDoc_any t.count t a len c w' (Nat.le_refl _) h hlen hbig
  have CN := fun w' (h : ListAt w'.heap.size w' a len t) => refCount_any t.count t a len c w' (Nat.le_refl _) h hlen hbig
  have CD := fun w' (h : ListAt w'.heap.size w' a len t) => refDeep_any t.count t a len c w' (Nat.le_refl _) h hlen hbig
  have CT := fun w' (h : ListAt w'.heap.size w' a len t) => refTags_any t.count t a len c w' (Nat.le_refl _) h hlen hbig
  unfold checkP
  obtain ⟨ga, hga⟩ : ∃ g, t.all = g := ⟨_, rfl⟩
  simp only [hga] at CA ⊢
  cases ga
  · have C1 := hid CA
    clear CA CN CD CT hga hbig hlen
    rw [if_neg (by decide)]
    go_enter Tryz.func201, Tryz.ntmps201
    go_wp2_with fail
    refine (C1.out _ hL).mono ?_
    rintro e w1 ⟨rfl, hb1⟩
    go_wp2
    go_ret
    exact ⟨rfl, hb1⟩
  rw [if_pos rfl]
  obtain ⟨n, hn⟩ : ∃ n : Int, (t.count : Int) = n := ⟨_, rfl⟩
  obtain ⟨d, hd⟩ : ∃ d : Int, (t.deep : Int) = d := ⟨_, rfl⟩
  obtain ⟨g, hgt⟩ : ∃ g, t.tags = g := ⟨_, rfl⟩
  simp only [hn] at CN
  simp only [hd] at CD
  simp only [hgt] at CT
  have hR : (if 262144 < t.count ∨ 900 < t.deep ∨ t.tags = true then (141 : Int) else 0) = if 262144 < n ∨ 900 < d ∨ g = true then 141 else 0 := by
    rw [hgt, ← hn, ← hd]
    congr 1
    simp only [eq_iff_iff]
    constructor <;> (rintro (h | h | h)) <;> first | exact .inl (by omega) | exact .inr (.inl (by omega)) | exact .inr (.inr h)
  rw [hR]
  clear hR hn hd hgt hga hbig hlen
  have C1 := hid CA
  have C2 := hid CN
  have C3 := hid CD
  have C4 := hid CT
  clear CA CN CD CT
  by_cases h1 : 262144 < n
  · rw [if_pos (.inl h1)]
    go_enter Tryz.func201, Tryz.ntmps201
    go_wp2_with fail
    refine (C1.out _ hL).mono ?_
    rintro e w1 ⟨rfl, hb1⟩
    go_wp2_with fail
    refine (C2.out _ (hL.on hb1)).mono ?_
    rintro e w2 ⟨rfl, hb2⟩
    go_wp2
    go_ret
    exact ⟨rfl, thenB hb1 hb2⟩
  · have h1' : n ≤ 262144 := by omega
    by_cases h2 : 900 < d
    · rw [if_pos (.inr (.inl h2))]
      go_enter Tryz.func201, Tryz.ntmps201
      go_wp2_with fail
      refine (C1.out _ hL).mono ?_
      rintro e w1 ⟨rfl, hb1⟩
      go_wp2_with fail
      refine (C2.out _ (hL.on hb1)).mono ?_
      rintro e w2 ⟨rfl, hb2⟩
      go_wp2_with fail
      refine (C3.out _ ((hL.on hb1).on hb2)).mono ?_
      rintro e w3 ⟨rfl, hb3⟩
      go_wp2
      go_ret
      exact ⟨rfl, thenB (thenB hb1 hb2) hb3⟩
    · have h2' : d ≤ 900 := by omega
      have hR : (if 262144 < n ∨ 900 < d ∨ g = true then (141 : Int) else 0) = if g then 141 else 0 := by simp [h1, h2]
      rw [hR]
      clear hR
      cases g
      all_goals
        go_enter Tryz.func201, Tryz.ntmps201
        go_wp2_with fail
        refine (C1.out _ hL).mono ?_
        rintro e w1 ⟨rfl, hb1⟩
        go_wp2_with fail
        refine (C2.out _ (hL.on hb1)).mono ?_
        rintro e w2 ⟨rfl, hb2⟩
        go_wp2_with fail
        refine (C3.out _ ((hL.on hb1).on hb2)).mono ?_
        rintro e w3 ⟨rfl, hb3⟩
        go_wp2_with fail
        refine (C4.out _ (((hL.on hb1).on hb2).on hb3)).mono ?_
        rintro e w4 ⟨rfl, hb4⟩
        go_wp2
        go_ret
        exact ⟨rfl, thenB (thenB (thenB hb1 hb2) hb3) hb4⟩
end Go.Proofs.YtepbjkkakfpjgaaGreatDoor.Body

namespace Go.Proofs.YtepbjkkakfpjgaaGreatDoor.Mod
open Go.RowKit Go.Proofs.YtepbjkkakfpjgaaGreatDoor.Instr

/-- A name, or the data, are too long. -/
def Md.long (m : Md) : Bool := m.names.any longS || m.heavy
theorem long_yes {m : Md} {k : Nat} (hk : k < m.da.length) (h : 1048576 < sumB (m.da.take k) + m.da[k].bs.length) : m.long = true := by
  unfold Md.long Md.heavy
  have := sumB_step hk
  have h2 := sumB_take m.da (k + 1)
  simp only [Bool.or_eq_true, decide_eq_true_eq]
  omega
theorem names_few {m : Md} (h : m.few) : m.names.length ≤ 3000000 := by
  unfold Md.names
  have := h.lens
  rw [List.length_append, twoR_len, List.length_map]; omega
theorem names_size {m : Md} (h : m.fits) : ∀ s ∈ m.names, s.size ≤ 140737488351232 := by
  intro s hs
  unfold Md.names twoR at hs
  rcases List.mem_append.1 hs with hs | hs
  · obtain ⟨i, hi, hs⟩ := List.mem_flatMap.1 hs
    have := h.iS i hi
    simp only [List.mem_cons, List.not_mem_nil, or_false] at hs
    rcases hs with rfl | rfl
    · exact this.1
    · exact this.2
  · obtain ⟨e, he, rfl⟩ := List.mem_map.1 hs
    exact h.eS e he
theorem str_at {w : World} {a : Option Addr} {l : List ByteArray} {n : Nat} (h : Rows n w a 1 (l.map strR)) {k : Nat} (hk : k < l.length) : ∃ b off, a = some ⟨b, off, none⟩ ∧ b < n ∧ w.cell? ⟨b, off + k, none⟩ = some (.string l[k]) := by
  obtain ⟨b, off, ha, hb, hc⟩ := Rows.get h hk
  refine ⟨b, off, ha, hb, ?_⟩
  have := hc 0 (by omega) _ rfl
  rwa [Nat.mul_one, Nat.add_zero] at this
set_option maxHeartbeats 4000000 in
set_option maxRecDepth 100000 in
theorem refLong_any (m : Md) (w : World) (hm : ModAt w.heap.size w m) (hf : m.few) :
    Calls Tryz.prog 78 #[.agg m.v] w fun x w' => x = .returned (.bool m.long) ∧ Below w.heap.size w w' := by
  have hb0 := (Below.refl w.heap.size w).alloc (Nat.le_refl _) (.cells m.v 32)
  have HB := hid hb0
  have HM := hid (hm.on hb0)
  have HX := hid (BoxAt.made w m.v 32)
  have HF := hid hf
  have C := hid (refNames_any m _ (hm.on hb0) hf)
  have HLF := hid (names_few hf)
  have HLS := hid (names_size hf.fit)
  have HLD := hid (show ∀ d ∈ m.da, d.bs.length ≤ 140737488351232 from hf.fit.bs)
  have HL : Hid (m.long = (m.names.any longS || decide (1048576 < sumB m.da))) := rfl
  have hld : m.da.length ≤ 1000000 := hf.lens.2.2.2.2.2.2.2.2
  have X0 := (BoxAt.made w m.v 32)
  unfold Md.v at HB HX HM X0 C ⊢
  clear hm hf hb0
  have x0 := X0 0 _ rfl
  have x1 := X0 1 _ rfl
  have x2 := X0 2 _ rfl
  have x3 := X0 3 _ rfl
  have x4 := X0 4 _ rfl
  have x5 := X0 5 _ rfl
  have x6 := X0 6 _ rfl
  have x7 := X0 7 _ rfl
  have x8 := X0 8 _ rfl
  have x9 := X0 9 _ rfl
  have x10 := X0 10 _ rfl
  clear X0
  go_enter Tryz.func78, Tryz.ntmps78
  go_wp2_with fail
  refine C.out.mono ?_
  rintro e w1 ⟨a, c, rfl, hr, hb1⟩
  have HX1 := hid (HX.out.keep hb1)
  have HB1 := hid (HB.out.trans (hb1.mono HB.out.size))
  have HM1 := hid (HM.out.on hb1)
  have RN := hid hr
  clear C hr hb1 HX HB HM x0 x1 x2 x3 x4 x5 x6 x7 x8 x9 x10
  obtain ⟨ln, hln⟩ : ∃ n, m.names.length = n := ⟨_, rfl⟩
  obtain ⟨ld, hldd⟩ : ∃ n, m.da.length = n := ⟨_, rfl⟩
  have Lln := hid hln
  have Lld := hid hldd
  have bln : ln ≤ 3000000 := by have := HLF.out; omega
  rw [hldd] at hld
  have k10 : w1.cell? ⟨w.heap.size, 10, none⟩ = some (.slice m.da'.a ld m.da'.c) := by rw [← hldd]; exact HX1.out 10 _ rfl
  have RD := hid HM1.out.da
  rw [hln]
  clear HX1 HM1 HLF hln hldd HF
  go_wp2
  go_loopw [4] (fun vi wr => ∃ k : Nat, vi = .int .i64 k ∧ k ≤ ln ∧ wr = w1 ∧ Hid (∀ j (hj : j < m.names.length), j < k → longS m.names[j] = false)) (fun vi _ => ln - (intOf vi).toNat)
  case atStart => exact ⟨0, rfl, Nat.zero_le _, rfl, none_upto _ _⟩
  case round =>
    obtain ⟨k, rfl, hk, rfl, HQ⟩ := hrel
    by_cases hlt : k < ln
    · have hkl : k < m.names.length := by rw [Lln.out]; exact hlt
      obtain ⟨b, off, rfl, hb, hc⟩ := str_at RN.out hkl
      have HT := hid (fun (h : longS m.names[k] = true) => show m.long = true by rw [HL.out, any_some hkl h]; rfl)
      have HO := hid (fun (h : longS m.names[k] = false) => any_take hkl HQ.out h)
      have hsz := HLS.out m.names[k] (List.getElem_mem hkl)
      have HWT : Hid (longS m.names[k] = decide (1000 < m.names[k].size)) := rfl
      obtain ⟨s, hs⟩ : ∃ s, m.names[k] = s := ⟨_, rfl⟩
      rw [hs] at hc hsz HWT HT
      have HO1 : Hid (longS s = false → ∀ j (hj : j < m.names.length), j < k + 1 → longS m.names[j] = false) := by rw [← hs]; exact HO
      have hki : (k : Int) < (ln : Int) := by omega
      clear hs hb hkl HO HQ
      by_cases g : 1000 < s.size
      · have HE := hid (HT.out (by rw [HWT.out]; simp [g]))
        have gi : (1000 : Int) < (s.size : Int) := by omega
        clear HT HO1 HWT
        go_wp2
        go_ret
        exact ⟨ret_bool HE.out.symm, HB1.out⟩
      · have HE := hid (HO1.out (by rw [HWT.out]; simp [g]))
        have gi : ¬ (1000 : Int) < (s.size : Int) := by omega
        clear HT HO1 HWT
        go_wp2
        go_roundw
        case rel => exact ⟨k + 1, by go_num, by omega, trivial, HE⟩
        case measure => simp [intOf]; omega
    · obtain rfl : k = ln := by omega
      have HN := hid (any_none (p := longS) (l := m.names) (fun j hj => HQ.out j hj (by rw [← Lln.out]; exact hj)))
      clear HQ
      go_wp2
      go_loopw [5, 6] (fun vn vi w9 => ∃ i N : Nat, vn = .int .i64 N ∧ vi = .int .i64 i ∧ i ≤ ld ∧ N ≤ 1048576 ∧ w9 = wr ∧ Hid (N = sumB (m.da.take i))) (fun _ vi _ => ld - (intOf vi).toNat)
      case atStart => exact ⟨0, 0, rfl, rfl, Nat.zero_le _, Nat.zero_le _, rfl, rfl⟩
      case round =>
        obtain ⟨i, N, rfl, rfl, hi, hN, rfl, HQ⟩ := hrel
        by_cases hltd : i < ld
        · have hkl : i < m.da.length := by rw [Lld.out]; exact hltd
          obtain ⟨b, off, ha, hb, hc⟩ := Rows.get RD.out hkl
          rw [ha] at k10
          have HT := hid (fun h => long_yes (m := m) hkl h)
          have HS := hid (sumB_step hkl)
          have hsz := HLD.out m.da[i] (List.getElem_mem hkl)
          obtain ⟨x, hx⟩ : ∃ x, m.da[i] = x := ⟨_, rfl⟩
          rw [hx] at hc HT HS hsz
          have c1 := hc 1 (by omega) (.slice x.ba x.bs.length x.bc) rfl
          obtain ⟨q, hq⟩ : ∃ q, x.bs.length = q := ⟨_, rfl⟩
          rw [hq] at c1 HT HS hsz
          have hki : (i : Int) < (ld : Int) := by omega
          clear hc hx hq hb ha hkl hlt
          by_cases g : 1048576 < N + q
          · have HE := hid (HT.out (by rw [← HQ.out]; exact g))
            have gi : (1048576 : Int) - (N : Int) < (q : Int) := by omega
            clear HT HS HQ
            go_wp2
            go_ret
            exact ⟨ret_bool HE.out.symm, HB1.out⟩
          · have HE := hid (show N + q = sumB (m.da.take (i + 1)) by rw [HS.out, ← HQ.out])
            have gi : ¬ (1048576 : Int) - (N : Int) < (q : Int) := by omega
            clear HT HS HQ
            go_wp2
            go_roundw
            case rel => exact ⟨i + 1, N + q, by go_num, by go_num, by omega, by omega, trivial, HE⟩
            case measure => simp [intOf]; omega
        · obtain rfl : i = ld := by omega
          have HE := hid (show m.long = false by
            rw [HL.out, HN.out]
            have := HQ.out
            rw [List.take_of_length_le (by rw [Lld.out]; exact Nat.le_refl _)] at this
            have : ¬ 1048576 < sumB m.da := by omega
            simp [this])
          clear HQ
          go_wp2
          go_ret
          exact ⟨ret_bool HE.out.symm, HB1.out⟩
end Go.Proofs.YtepbjkkakfpjgaaGreatDoor.Mod

namespace Go.Proofs.YtepbjkkakfpjgaaGreatDoor.Kind
open Go.RowKit

theorem nearestType_any (p r : Int) (w : World) : Calls Tryz.prog 181 #[.agg #[.int .i64 p, .int .i64 r]] w
    fun e w' => e = .returned (.agg #[.int .i64 (min (max p 0) 255), .int .i64 (min (max r 0) 1)]) ∧ Below w.heap.size w w' := by
  go_enter Tryz.func181, Tryz.ntmps181
  go_wp2
  all_goals
    refine bodyPost_ret (v := .agg #[.int .i64 (min (max p 0) 255), .int .i64 (min (max r 0) 1)]) ?_ rfl ⟨rfl, ((Below.refl _ _).alloc (Nat.le_refl _) _).alloc (by simp) _⟩
    first
      | (simp [results, Tryz.results181, go_sem]; done)
      | (simp [results, Tryz.results181, go_sem]; omega)
theorem near_ok {p r : Int} (h : okType p r = true) : min (max p 0) 255 = p ∧ min (max r 0) 1 = r := by
  unfold okType at h; simp at h; omega
theorem near_no {p r : Int} (h : okType p r = false) : ¬ (p = min (max p 0) 255 ∧ r = min (max r 0) 1) := by
  rintro ⟨h1, h2⟩
  have : okType p r = true := by unfold okType; simp; omega
  rw [h] at this; cases this
theorem box_start (w : World) (x y : Value) (t : TypeId) : Below w.heap.size w (w.alloc (.cells #[x, y] t)).drew ∧ (w.alloc (.cells #[x, y] t)).drew.cell? ⟨w.heap.size, 0, none⟩ = some x ∧ (w.alloc (.cells #[x, y] t)).drew.cell? ⟨w.heap.size, 1, none⟩ = some y :=
  ⟨((Below.refl _ _).alloc (Nat.le_refl _) _).drew, by go_simp, by go_simp⟩
theorem box_keep {w w1 w2 : World} {x y : Value} {k : Nat} (h : Below w.heap.size w w1 ∧ w1.cell? ⟨k, 0, none⟩ = some x ∧ w1.cell? ⟨k, 1, none⟩ = some y) (hb : Below w1.heap.size w1 w2) :
    Below w.heap.size w w2 ∧ w2.cell? ⟨k, 0, none⟩ = some x ∧ w2.cell? ⟨k, 1, none⟩ = some y := ⟨thenB h.1 hb, keep hb h.2.1, keep hb h.2.2⟩
theorem box_out {w w1 : World} {x y : Value} {k : Nat} (h : Below w.heap.size w w1 ∧ w1.cell? ⟨k, 0, none⟩ = some x ∧ w1.cell? ⟨k, 1, none⟩ = some y) : Below w.heap.size w w1 := h.1
def codeType (p r : Int) : Int := if okType p r then 0 else 2
set_option maxHeartbeats 800000 in
theorem check_any (p r : Int) (w : World) : Calls Tryz.prog 124 #[.agg #[.int .i64 p, .int .i64 r]] w
    fun e w' => e = .returned (.int .i64 (codeType p r)) ∧ Below w.heap.size w w' := by
  have q1 := eqType
  have q2 := guardType
  have hN := fun w => nearestType_any p r w
  by_cases h : okType p r = true
  · obtain ⟨e1, e2⟩ := near_ok h
    have HC : Hid (codeType p r = 0) := by unfold codeType; rw [if_pos h]; rfl
    simp only [e1, e2] at hN
    clear h e1 e2
    go_enter Tryz.func124, Tryz.ntmps124
    go_wp2
    go_region_held3 (fun w' => Below w.heap.size w w' ∧ w'.cell? ⟨w.heap.size, 0, none⟩ = some (.int .i64 p) ∧ w'.cell? ⟨w.heap.size, 1, none⟩ = some (.int .i64 r)) (first | assumption | exact box_start w _ _ _ | exact box_keep (by assumption) (by assumption))
      (first
        | (go_at_call 181; refine (hN _).mono ?_; rintro e w2 ⟨rfl, hb2⟩))
    go_wp2
    go_ret
    exact ⟨ret_int HC.out.symm, box_out (x := .int .i64 p) (y := .int .i64 r) (k := w.heap.size) (by assumption)⟩
  · have h' : okType p r = false := by simpa using h
    have hn := near_no h'
    have HC : Hid (codeType p r = 2) := by unfold codeType; rw [h']; rfl
    generalize min (max p 0) 255 = m1 at *
    generalize min (max r 0) 1 = m2 at *
    have hor : (p == m1) = false ∧ (p != m1) = true ∨ (r == m2) = false ∧ (r != m2) = true := by
      by_cases h1 : p = m1
      · right
        have : r ≠ m2 := fun h2 => hn ⟨h1, h2⟩
        simp [this]
      · left; simp [h1]
    clear h h' hn
    rcases hor with ⟨n1, n2⟩ | ⟨n1, n2⟩
    all_goals
      go_enter Tryz.func124, Tryz.ntmps124
      go_wp2
      go_region_held3 (fun w' => Below w.heap.size w w' ∧ w'.cell? ⟨w.heap.size, 0, none⟩ = some (.int .i64 p) ∧ w'.cell? ⟨w.heap.size, 1, none⟩ = some (.int .i64 r)) (first | assumption | exact box_start w _ _ _ | exact box_keep (by assumption) (by assumption))
        (first
          | (go_at_call 181; refine (hN _).mono ?_; rintro e w2 ⟨rfl, hb2⟩))
      go_wp2
      go_ret
      exact ⟨ret_int HC.out.symm, box_out (x := .int .i64 p) (y := .int .i64 r) (k := w.heap.size) (by assumption)⟩

theorem nearestLimits_any (n x most : Int) (c : Bool) (w : World) : Calls Tryz.prog 183 #[.agg #[.int .u32 n, .int .u32 x, .bool c], .int .u32 most] w
    fun e w' => e = .returned (.agg #[.int .u32 (min n most), .int .u32 (if c then min (max x (min n most)) most else 0), .bool c]) ∧ Below w.heap.size w w' := by
  cases c
  · go_enter Tryz.func183, Tryz.ntmps183
    go_wp2
    all_goals
      refine bodyPost_ret (v := .agg #[.int .u32 (min n most), .int .u32 0, .bool false]) ?_ rfl ⟨rfl, ?_⟩
      · simp [results, Tryz.results183, go_sem]
        try omega
      · first | exact ((Below.refl _ _).alloc (Nat.le_refl _) _).alloc (by simp) _ | trace_state
  · go_enter Tryz.func183, Tryz.ntmps183
    go_wp2
    all_goals
      refine bodyPost_ret (v := .agg #[.int .u32 (min n most), .int .u32 (min (max x (min n most)) most), .bool true]) ?_ rfl ⟨rfl, ?_⟩
      · simp [results, Tryz.results183, go_sem]
        try omega
      · first | exact ((Below.refl _ _).alloc (Nat.le_refl _) _).alloc (by simp) _ | trace_state
theorem nearL_ok {n x most : Int} {c : Bool} (h : okLim n x c most = true) : min n most = n ∧ (if c then min (max x (min n most)) most else 0) = x := by
  unfold okLim at h; cases c <;> simp at h ⊢ <;> omega
theorem nearL_no {n x most : Int} {c : Bool} (h : okLim n x c most = false) : ¬ (n = min n most ∧ x = (if c then min (max x (min n most)) most else 0)) := by
  rintro ⟨h1, h2⟩
  have : okLim n x c most = true := by unfold okLim; cases c <;> simp at h2 ⊢ <;> omega
  rw [h] at this; cases this
def codeLim (n x : Int) (c : Bool) (most : Int) : Int := if okLim n x c most then 0 else 2
theorem box3_start (w : World) (x y z : Value) (t : TypeId) : Below w.heap.size w (w.alloc (.cells #[x, y, z] t)).drew ∧ (w.alloc (.cells #[x, y, z] t)).drew.cell? ⟨w.heap.size, 0, none⟩ = some x ∧ (w.alloc (.cells #[x, y, z] t)).drew.cell? ⟨w.heap.size, 1, none⟩ = some y ∧ (w.alloc (.cells #[x, y, z] t)).drew.cell? ⟨w.heap.size, 2, none⟩ = some z :=
  ⟨((Below.refl _ _).alloc (Nat.le_refl _) _).drew, by go_simp, by go_simp, by go_simp⟩
theorem box3_keep {w w1 w2 : World} {x y z : Value} {k : Nat} (h : Below w.heap.size w w1 ∧ w1.cell? ⟨k, 0, none⟩ = some x ∧ w1.cell? ⟨k, 1, none⟩ = some y ∧ w1.cell? ⟨k, 2, none⟩ = some z) (hb : Below w1.heap.size w1 w2) :
    Below w.heap.size w w2 ∧ w2.cell? ⟨k, 0, none⟩ = some x ∧ w2.cell? ⟨k, 1, none⟩ = some y ∧ w2.cell? ⟨k, 2, none⟩ = some z := ⟨thenB h.1 hb, keep hb h.2.1, keep hb h.2.2.1, keep hb h.2.2.2⟩
theorem box3_out {w w1 : World} {x y z : Value} {k : Nat} (h : Below w.heap.size w w1 ∧ w1.cell? ⟨k, 0, none⟩ = some x ∧ w1.cell? ⟨k, 1, none⟩ = some y ∧ w1.cell? ⟨k, 2, none⟩ = some z) : Below w.heap.size w w1 := h.1
set_option maxHeartbeats 800000 in
theorem checkLimits_any (n x : Int) (c : Bool) (most : Int) (w : World) : Calls Tryz.prog 130 #[.agg #[.int .u32 n, .int .u32 x, .bool c], .int .u32 most] w
    fun e w' => e = .returned (.int .i64 (codeLim n x c most)) ∧ Below w.heap.size w w' := by
  have q1 := eqLim
  have q2 := guardLim
  have hN := fun w => nearestLimits_any n x most c w
  by_cases h : okLim n x c most = true
  · obtain ⟨e1, e2⟩ := nearL_ok h
    have HC : Hid (codeLim n x c most = 0) := by unfold codeLim; rw [if_pos h]; rfl
    rw [e2] at hN
    simp only [e1] at hN
    clear h e1 e2
    go_enter Tryz.func130, Tryz.ntmps130
    go_wp2
    go_region_held3 (fun w' => Below w.heap.size w w' ∧ w'.cell? ⟨w.heap.size, 0, none⟩ = some (.int .u32 n) ∧ w'.cell? ⟨w.heap.size, 1, none⟩ = some (.int .u32 x) ∧ w'.cell? ⟨w.heap.size, 2, none⟩ = some (.bool c)) (first | assumption | exact box3_start w _ _ _ _ | exact box3_keep (by assumption) (by assumption))
      (first
        | (go_at_call 183; refine (hN _).mono ?_; rintro e w2 ⟨rfl, hb2⟩))
    go_wp2
    go_ret
    exact ⟨ret_int HC.out.symm, box3_out (x := .int .u32 n) (y := .int .u32 x) (z := .bool c) (k := w.heap.size) (by assumption)⟩
  · have h' : okLim n x c most = false := by simpa using h
    have hn := nearL_no h'
    have HC : Hid (codeLim n x c most = 2) := by unfold codeLim; rw [h']; rfl
    generalize (if c then min (max x (min n most)) most else 0) = m2 at *
    generalize min n most = m1 at *
    have hor : (n == m1) = false ∧ (n != m1) = true ∨ (x == m2) = false ∧ (x != m2) = true := by
      by_cases h1 : n = m1
      · right
        have : x ≠ m2 := fun h2 => hn ⟨h1, h2⟩
        simp [this]
      · left; simp [h1]
    clear h h' hn
    rcases hor with ⟨n1, n2⟩ | ⟨n1, n2⟩
    all_goals
      go_enter Tryz.func130, Tryz.ntmps130
      go_wp2
      go_region_held3 (fun w' => Below w.heap.size w w' ∧ w'.cell? ⟨w.heap.size, 0, none⟩ = some (.int .u32 n) ∧ w'.cell? ⟨w.heap.size, 1, none⟩ = some (.int .u32 x) ∧ w'.cell? ⟨w.heap.size, 2, none⟩ = some (.bool c)) (first | assumption | exact box3_start w _ _ _ _ | exact box3_keep (by assumption) (by assumption))
        (first
          | (go_at_call 183; refine (hN _).mono ?_; rintro e w2 ⟨rfl, hb2⟩))
      go_wp2
      go_ret
      exact ⟨ret_int HC.out.symm, box3_out (x := .int .u32 n) (y := .int .u32 x) (z := .bool c) (k := w.heap.size) (by assumption)⟩
end Go.Proofs.YtepbjkkakfpjgaaGreatDoor.Kind

namespace Go.Proofs.YtepbjkkakfpjgaaGreatDoor.Kind
open Go.RowKit

theorem refCheck_any (p r : Int) (w : World) : Calls Tryz.prog 133 #[.agg #[.int .i64 p, .int .i64 r]] w
    fun e w' => e = .returned (.int .i64 (codeType p r)) ∧ Below w.heap.size w w' := by
  by_cases h1 : p < 0
  · have HC : Hid (codeType p r = 2) := by show _ = _; unfold codeType okType; rw [if_neg]; simp; omega
    have d1 : decide (p < 0) = true := decide_eq_true h1
    go_enter Tryz.func133, Tryz.ntmps133
    go_wp2
    go_ret
    exact ⟨ret_int HC.out.symm, (Below.refl _ _).alloc (Nat.le_refl _) _⟩
  · by_cases h2 : 255 < p
    · have HC : Hid (codeType p r = 2) := by show _ = _; unfold codeType okType; rw [if_neg]; simp; omega
      go_enter Tryz.func133, Tryz.ntmps133
      go_wp2
      go_ret
      exact ⟨ret_int HC.out.symm, (Below.refl _ _).alloc (Nat.le_refl _) _⟩
    · by_cases h3 : r < 0
      · have HC : Hid (codeType p r = 2) := by show _ = _; unfold codeType okType; rw [if_neg]; simp; omega
        go_enter Tryz.func133, Tryz.ntmps133
        go_wp2
        go_ret
        exact ⟨ret_int HC.out.symm, (Below.refl _ _).alloc (Nat.le_refl _) _⟩
      · by_cases h4 : 1 < r
        · have HC : Hid (codeType p r = 2) := by show _ = _; unfold codeType okType; rw [if_neg]; simp; omega
          go_enter Tryz.func133, Tryz.ntmps133
          go_wp2
          go_ret
          exact ⟨ret_int HC.out.symm, (Below.refl _ _).alloc (Nat.le_refl _) _⟩
        · have HC : Hid (codeType p r = 0) := by show _ = _; unfold codeType okType; rw [if_pos]; simp; omega
          go_enter Tryz.func133, Tryz.ntmps133
          go_wp2
          go_ret
          exact ⟨ret_int HC.out.symm, (Below.refl _ _).alloc (Nat.le_refl _) _⟩

set_option maxHeartbeats 800000 in
theorem refCheckLimits_any (n x : Int) (c : Bool) (most : Int) (w : World) : Calls Tryz.prog 135 #[.agg #[.int .u32 n, .int .u32 x, .bool c], .int .u32 most] w
    fun e w' => e = .returned (.int .i64 (codeLim n x c most)) ∧ Below w.heap.size w w' := by
  by_cases h1 : most < n
  · have HC : Hid (codeLim n x c most = 2) := by show _ = _; unfold codeLim okLim; rw [if_neg]; simp; omega
    go_enter Tryz.func135, Tryz.ntmps135
    go_wp2
    go_ret
    exact ⟨ret_int HC.out.symm, (Below.refl _ _).alloc (Nat.le_refl _) _⟩
  · cases c
    · by_cases h2 : x = 0
      · subst h2
        have HC : Hid (codeLim n 0 false most = 0) := by show _ = _; unfold codeLim okLim; rw [if_pos]; simp; omega
        go_enter Tryz.func135, Tryz.ntmps135
        go_wp2
        go_ret
        exact ⟨ret_int HC.out.symm, (Below.refl _ _).alloc (Nat.le_refl _) _⟩
      · have HC : Hid (codeLim n x false most = 2) := by show _ = _; unfold codeLim okLim; rw [if_neg]; simp; omega
        have h3 : (x != 0) = true := by simp [h2]
        go_enter Tryz.func135, Tryz.ntmps135
        go_wp2
        go_ret
        exact ⟨ret_int HC.out.symm, (Below.refl _ _).alloc (Nat.le_refl _) _⟩
    · by_cases h2 : x < n
      · have HC : Hid (codeLim n x true most = 2) := by show _ = _; unfold codeLim okLim; rw [if_neg]; simp; omega
        go_enter Tryz.func135, Tryz.ntmps135
        go_wp2
        go_ret
        exact ⟨ret_int HC.out.symm, (Below.refl _ _).alloc (Nat.le_refl _) _⟩
      · by_cases h3 : most < x
        · have HC : Hid (codeLim n x true most = 2) := by show _ = _; unfold codeLim okLim; rw [if_neg]; simp; omega
          go_enter Tryz.func135, Tryz.ntmps135
          go_wp2
          go_ret
          exact ⟨ret_int HC.out.symm, (Below.refl _ _).alloc (Nat.le_refl _) _⟩
        · have HC : Hid (codeLim n x true most = 0) := by show _ = _; unfold codeLim okLim; rw [if_pos]; simp; omega
          go_enter Tryz.func135, Tryz.ntmps135
          go_wp2
          go_ret
          exact ⟨ret_int HC.out.symm, (Below.refl _ _).alloc (Nat.le_refl _) _⟩

end Go.Proofs.YtepbjkkakfpjgaaGreatDoor.Kind
