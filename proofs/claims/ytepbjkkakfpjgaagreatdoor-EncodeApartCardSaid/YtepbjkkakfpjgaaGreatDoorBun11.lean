import Derived.Test.YtepbjkkakfpjgaaGreatDoorBun06
import Derived.Test.YtepbjkkakfpjgaaGreatDoorBun08
import Derived.Test.YtepbjkkakfpjgaaGreatDoorBun07
import Derived.Test.YtepbjkkakfpjgaaGreatDoorBun01
import Derived.RegionTactic
import Derived.BigRegion
import Derived.Deep.QuietTactic
import Derived.BigQuiet
/-
  MODULE: errIf, crowded, heavy, by contract.
-/
namespace Go.Proofs.YtepbjkkakfpjgaaGreatDoor.Mod
open Go.RowKit Go.Proofs.YtepbjkkakfpjgaaGreatDoor.Instr

def errI (b : Bool) (e : Int) : Int := if b then e else 0
theorem errIf_any (b : Bool) (e : Int) (w : World) : Calls Tryz.prog 49 #[.bool b, .int .i64 e] w fun x w' => x = .returned (.int .i64 (errI b e)) ∧ w = w' := by
  cases b
  all_goals
    go_enter Tryz.func49, Tryz.ntmps49
    go_wp2
    go_ret
    exact ⟨rfl, rfl⟩
theorem max_two (x y : Int) : max x y = if y > x then y else x := by split <;> omega
set_option maxHeartbeats 1000000 in
theorem crowded_any (m : Md) (w : World) (hm : ModAt w.heap.size w m) (hf : m.fits) :
    Calls Tryz.prog 50 #[.agg m.v] w fun e w' => e = .returned (.bool m.crowded) ∧ Below w.heap.size w w' := by
  have hb0 := (Below.refl w.heap.size w).alloc (Nat.le_refl _) (.cells m.v 32)
  have HE := hid (crowded_eq m)
  have HR := hid (hm.on hb0).el
  have HB := hid hb0
  have HX := hid (BoxAt.made w m.v 32)
  have hl := hf.el
  have hmx : ∀ (ts : Array TypeId) (t : TypeId) (w : World), Sem.run Tryz.prog (Builtin.max_ ts t #[.int .i64 (m.ty.length : Int), .int .i64 (m.im.length : Int), .int .i64 (m.fu.length : Int), .int .i64 (m.gl.length : Int), .int .i64 (m.ex.length : Int), .int .i64 (m.el.length : Int), .int .i64 (m.da.length : Int)]) w = .ok (.int .i64 m.max7) w := by
    intro ts t w
    unfold Md.max7
    simp only [max_two]
    simp [Builtin.max_, Builtin.max2]
  obtain ⟨L0, hL0⟩ : ∃ L0, m.max7 = L0 := ⟨_, rfl⟩
  rw [hL0] at HE hmx
  unfold Md.v at HR HB HX ⊢
  clear hm hf hb0 hL0
  generalize m.el'.a = a at HR HB HX ⊢
  go_enter Tryz.func50, Tryz.ntmps50
  go_wp2
  clear hmx
  obtain ⟨n, hn⟩ : ∃ n, m.el.length = n := ⟨_, rfl⟩
  have HN := hid hn
  rw [hn] at HX HB HR hl ⊢
  clear hn
  generalize w.alloc (.cells #[.slice m.ty'.a m.ty.length m.ty'.c, .slice m.im'.a m.im.length m.im'.c, .slice m.fu'.a m.fu.length m.fu'.c, .slice m.tb'.a m.tb.length m.tb'.c, .slice m.me'.a m.me.length m.me'.c, .slice m.gl'.a m.gl.length m.gl'.c, .slice m.ex'.a m.ex.length m.ex'.c, .bool m.st, .int .u32 m.sn, .slice a n m.el'.c, .slice m.da'.a m.da.length m.da'.c] 32) = W0 at HX HB HR ⊢
  go_loopw [3, 31] (fun vl vi wr => ∃ (k : Nat) (L : Int), vl = .int .i64 L ∧ vi = .int .i64 k ∧ k ≤ n ∧ Hid (L = longP (m.el.take k) L0) ∧ Hid (Below W0.heap.size W0 wr)) (fun _ vi _ => n - (intOf vi).toNat)
  case atStart => exact ⟨0, L0, rfl, rfl, Nat.zero_le _, rfl, Below.refl _ _⟩
  case round =>
    obtain ⟨k, L, rfl, rfl, hk, HL, HW⟩ := hrel
    by_cases hlt : k < n
    · have hkl : k < m.el.length := by rw [HN.out]; exact hlt
      obtain ⟨b, off, rfl, hb, hc⟩ := Rows.get HR.out hkl
      have HS := hid (show longP (m.el.take (k + 1)) L0 = max L (m.el[k].fs.length : Int) by rw [List.take_succ_eq_append_getElem hkl, longP_snoc, ← HL.out])
      obtain ⟨x, hxe⟩ : ∃ x, m.el[k] = x := ⟨_, rfl⟩
      rw [hxe] at hc HS
      have cc : ∀ j, j < 2 → ∀ v, x.v[j]? = some v → wr.cell? ⟨b, off + k * 2 + j, none⟩ = some v := fun j hj v hv => (HW.out.cell (p := ⟨b, off + k * 2 + j, none⟩) hb).trans (hc j hj v hv)
      have c0 : wr.cell? ⟨b, off + k * 2, none⟩ = some x.l.val := cc 0 (by omega) _ rfl
      have c1 : wr.cell? ⟨b, off + k * 2 + 1, none⟩ = some (.slice x.fa x.fs.length x.fc) := cc 1 (by omega) _ rfl
      have hki : (k : Int) < (n : Int) := by omega
      unfold Lst.val at c0
      have HW' := hid (show Below W0.heap.size W0 (wr.alloc (.cells #[.slice x.l.a x.l.t.len x.l.c, .slice x.fa x.fs.length x.fc] 71)) from HW.out.alloc HW.out.size _)
      clear hxe hc cc hb
      by_cases hgt : (x.fs.length : Int) > L
      · have HS' := hid (show (x.fs.length : Int) = longP (m.el.take (k + 1)) L0 by rw [HS.out]; omega)
        go_wp2
        go_roundw
        case rel => first | exact ⟨k + 1, _, rfl, by go_num, by omega, HS', HW'⟩ | exact ⟨k + 1, _, rfl, by go_num, by omega, hid HS.out.symm, HW'⟩
        case measure => simp [intOf]; omega
      · have HS' := hid (show L = longP (m.el.take (k + 1)) L0 by rw [HS.out]; omega)
        go_wp2
        go_roundw
        case rel => first | exact ⟨k + 1, _, rfl, by go_num, by omega, HS', HW'⟩ | exact ⟨k + 1, _, rfl, by go_num, by omega, hid HS.out.symm, HW'⟩
        case measure => simp [intOf]; omega
    · obtain rfl : k = n := by omega
      have HE' := hid (show m.crowded = (decide (16384 < L) || (decide (1 < m.tb.length) || decide (1 < m.me.length))) by rw [HE.out, HL.out, ← HN.out, List.take_length])
      have x3 := Go.Proofs.YtepbjkkakfpjgaaGreatDoor.keep HW.out (HX.out 3 _ rfl)
      have x4 := Go.Proofs.YtepbjkkakfpjgaaGreatDoor.keep HW.out (HX.out 4 _ rfl)
      have HF := hid (HB.out.trans (HW.out.mono HB.out.size))
      clear HR HL HX HE HW HB
      by_cases h1 : 16384 < L
      · have HC := hid (show m.crowded = true by rw [HE'.out, decide_eq_true h1, Bool.true_or])
        clear HE'
        go_wp2
        go_ret
        exact ⟨ret_bool HC.out.symm, HF.out⟩
      · by_cases h2 : (1 : Int) < (m.tb.length : Int)
        · have HC := hid (show m.crowded = true by rw [HE'.out, decide_eq_true (show 1 < m.tb.length by omega), Bool.true_or, Bool.or_true])
          clear HE'
          go_wp2
          go_ret
          exact ⟨ret_bool HC.out.symm, HF.out⟩
        · have HC := hid (show m.crowded = decide (1 < m.me.length) by rw [HE'.out, decide_eq_false h1, decide_eq_false (show ¬ 1 < m.tb.length by omega), Bool.false_or, Bool.false_or])
          clear HE'
          go_wp2
          go_ret
          exact ⟨ret_bool (by rw [HC.out]; simp; omega), HF.out⟩

set_option maxHeartbeats 1000000 in
theorem heavy_any (l : List Da) (a : Option Addr) (n c : Nat) (w : World) (hn : l.length = n) (hr : Rows w.heap.size w a 2 (l.map Da.v)) (hl : n ≤ 140737488351232) :
    Calls Tryz.prog 57 #[.slice a n c] w fun e w' => e = .returned (.bool (decide (1048576 < sumB l))) ∧ Below w.heap.size w w' := by
  have HR := hid hr
  have HN := hid hn
  clear hr hn
  go_enter Tryz.func57, Tryz.ntmps57
  go_wp2
  go_loopw [3, 8] (fun vl vi wr => ∃ (k : Nat) (L : Int), vl = .int .i64 L ∧ vi = .int .i64 k ∧ k ≤ n ∧ 0 ≤ L ∧ L ≤ 1048576 ∧ Hid (L = 1048576 - (sumB (l.take k) : Int)) ∧ Hid (Below w.heap.size w wr)) (fun _ vi _ => n - (intOf vi).toNat)
  case atStart => exact ⟨0, 1048576, rfl, rfl, Nat.zero_le _, by omega, by omega, rfl, Below.refl _ _⟩
  case round =>
    obtain ⟨k, L, rfl, rfl, hk, h0, h1, HL, HW⟩ := hrel
    by_cases hlt : k < n
    · have hkl : k < l.length := by rw [HN.out]; exact hlt
      obtain ⟨b, off, rfl, hb, hc⟩ := Rows.get HR.out hkl
      have HS := hid (sumB_step hkl)
      have HT := hid (sumB_take l (k + 1))
      obtain ⟨x, hxe⟩ : ∃ x, l[k] = x := ⟨_, rfl⟩
      rw [hxe] at hc HS
      have cc : ∀ j, j < 2 → ∀ v, x.v[j]? = some v → wr.cell? ⟨b, off + k * 2 + j, none⟩ = some v := fun j hj v hv => (HW.out.cell (p := ⟨b, off + k * 2 + j, none⟩) hb).trans (hc j hj v hv)
      have c0 : wr.cell? ⟨b, off + k * 2, none⟩ = some x.l.val := cc 0 (by omega) _ rfl
      have c1 : wr.cell? ⟨b, off + k * 2 + 1, none⟩ = some (.slice x.ba x.bs.length x.bc) := cc 1 (by omega) _ rfl
      have hki : (k : Int) < (n : Int) := by omega
      unfold Lst.val at c0
      have HW' := hid (show Below w.heap.size w (wr.alloc (.cells #[.slice x.l.a x.l.t.len x.l.c, .slice x.ba x.bs.length x.bc] 47)) from HW.out.alloc HW.out.size _)
      clear hxe hc cc hb
      by_cases hgt : L < (x.bs.length : Int)
      · have HC := hid (show decide (1048576 < sumB l) = true by rw [decide_eq_true_eq]; have := HS.out; have := HT.out; have := HL.out; omega)
        go_wp2
        go_ret
        exact ⟨ret_bool HC.out.symm, HW'.out⟩
      · have HL' := hid (show L - (x.bs.length : Int) = 1048576 - (sumB (l.take (k + 1)) : Int) by rw [HS.out]; have := HL.out; omega)
        go_wp2
        go_roundw
        case rel => exact ⟨k + 1, _, rfl, by go_num, by omega, by omega, by omega, HL', HW'⟩
        case measure => simp [intOf]; omega
    · obtain rfl : k = n := by omega
      have HC := hid (show decide (1048576 < sumB l) = false by rw [decide_eq_false_iff_not]; have := HL.out; rw [← HN.out, List.take_length] at this; omega)
      go_wp2
      go_ret
      exact ⟨ret_bool HC.out.symm, HW.out⟩
end Go.Proofs.YtepbjkkakfpjgaaGreatDoor.Mod

/-
  MODULE: whether a module is more than is gone through, by contract.
-/
namespace Go.Proofs.YtepbjkkakfpjgaaGreatDoor.Mod
open Go.RowKit Go.Proofs.YtepbjkkakfpjgaaGreatDoor.Instr

/-- All in it together is little. -/
structure Md.small (m : Md) (most : Nat) : Prop where
  lens : m.ty.length + m.im.length + m.fu.length + m.tb.length + m.me.length + m.gl.length + m.ex.length + m.el.length + m.da.length ≤ most
  ls : ∀ l ∈ m.codes, l.t.weight ≤ most
  fs : ∀ e ∈ m.el, e.fs.length ≤ most
  bs : ∀ d ∈ m.da, d.bs.length ≤ most
  iS : ∀ i ∈ m.im, i.mo.size ≤ most ∧ i.na.size ≤ most
  eS : ∀ e ∈ m.ex, e.na.size ≤ most
def Large (m : Md) (w : World) (e : Ending) (w' : World) : Prop := ∃ b, e = .returned (.bool b) ∧ (b = false → m.small 5000) ∧ Below w.heap.size w w'
theorem large_true {m : Md} {w w' : World} (h : Below w.heap.size w w') : Large m w (.returned (.bool true)) w' := ⟨true, rfl, fun h => by simp at h, h⟩
theorem large_end {m : Md} {w w' : World} {N : Int} (h : Below w.heap.size w w') (hs : N ≤ 5000 → m.small 5000) : Large m w (.returned (.bool (decide (5000 < N)))) w' := ⟨_, rfl, fun hh => hs (by simpa using hh), h⟩
theorem drewQ {B : Nat} {w w' : World} (h : Below B w w') (n : Nat) : Below B w (w'.drewN n) := ⟨h.os, h.tape, h.output, h.size, h.block⟩
set_option maxHeartbeats 8000000 in
set_option maxRecDepth 100000 in
theorem Large_any (m : Md) (w : World) (hm : ModAt w.heap.size w m) (hf : m.fits) :
    Calls Tryz.prog 9 #[.agg m.v, .int .i64 5000] w (Large m w) := by
  have hb0 := (Below.refl w.heap.size w).alloc (Nat.le_refl _) (.cells m.v 32)
  have HB := hid hb0
  have HM := hid (hm.on hb0)
  have HX := hid (BoxAt.made w m.v 32)
  have HF := hid hf
  obtain ⟨ty, im, fu, tb, me, gl, ex, st, sn, el, da, ty', im', fu', tb', me', gl', ex', el', da'⟩ := m
  have b1 := hf.ty
  have b2 := hf.im
  have b3 := hf.fu
  have b4 := hf.tb
  have b5 := hf.me
  have b6 := hf.gl
  have b7 := hf.ex
  have b8 := hf.el
  have b9 := hf.da
  dsimp only at b1 b2 b3 b4 b5 b6 b7 b8 b9
  unfold Md.v at HB HM HX ⊢
  dsimp only at HB HM HX ⊢
  clear hm hf hb0
  by_cases h1 : 5000 < ty.length + im.length + fu.length + tb.length + me.length + gl.length + ex.length + el.length + da.length
  · have h1i : (5000 : Int) < (ty.length : Int) + im.length + fu.length + tb.length + me.length + gl.length + ex.length + el.length + da.length := by omega
    go_enter Tryz.func9, Tryz.ntmps9
    go_wp2
    go_ret
    exact large_true HB.out
  · have h1i : ¬ (5000 : Int) < (ty.length : Int) + im.length + fu.length + tb.length + me.length + gl.length + ex.length + el.length + da.length := by omega
    have hsum : ty.length + im.length + fu.length + tb.length + me.length + gl.length + ex.length + el.length + da.length ≤ 5000 := by omega
    have HSUM := hid hsum
    clear h1
    go_enter Tryz.func9, Tryz.ntmps9
    go_wp2
    obtain ⟨N0, hN0⟩ : ∃ N0 : Int, (ty.length : Int) + im.length + fu.length + tb.length + me.length + gl.length + ex.length + el.length + da.length = N0 := ⟨_, rfl⟩
    have l_ty : ty.length ≤ 5000 := by omega
    have l_im : im.length ≤ 5000 := by omega
    have l_fu : fu.length ≤ 5000 := by omega
    have l_tb : tb.length ≤ 5000 := by omega
    have l_me : me.length ≤ 5000 := by omega
    have l_gl : gl.length ≤ 5000 := by omega
    have l_ex : ex.length ≤ 5000 := by omega
    have l_el : el.length ≤ 5000 := by omega
    have l_da : da.length ≤ 5000 := by omega
    have hN1 : N0 ≤ 5000 := by omega
    have hN2 : 0 ≤ N0 := by omega
    have HI := hid (show (0 < fu.length ∨ 0 < gl.length ∨ 0 < el.length ∨ 0 < da.length ∨ 0 < im.length ∨ 0 < ex.length) → 1 ≤ N0 by omega)
    rw [hN0]
    clear hN0 h1i hsum b1 b2 b3 b4 b5 b6 b7 b8 b9
    generalize w.alloc (.cells #[.slice ty'.a ty.length ty'.c, .slice im'.a im.length im'.c, .slice fu'.a fu.length fu'.c, .slice tb'.a tb.length tb'.c, .slice me'.a me.length me'.c, .slice gl'.a gl.length gl'.c, .slice ex'.a ex.length ex'.c, .bool st, .int .u32 sn, .slice el'.a el.length el'.c, .slice da'.a da.length da'.c] 32) = W0 at HB HM HX ⊢
    have Xfu := hid (show W0.cell? ⟨w.heap.size, 2, none⟩ = some (.slice fu'.a fu.length fu'.c) from HX.out 2 _ rfl)
    have Rfu := hid (show Rows W0.heap.size W0 fu'.a 3 (fu.map Fn.v) from HM.out.fu)
    obtain ⟨nfu, hnfu⟩ : ∃ n, fu.length = n := ⟨_, rfl⟩
    have Lfu := hid hnfu
    rw [hnfu] at l_fu Xfu
    clear hnfu
    have Xgl := hid (show W0.cell? ⟨w.heap.size, 5, none⟩ = some (.slice gl'.a gl.length gl'.c) from HX.out 5 _ rfl)
    have Rgl := hid (show Rows W0.heap.size W0 gl'.a 2 (gl.map Gl.v) from HM.out.gl)
    obtain ⟨ngl, hngl⟩ : ∃ n, gl.length = n := ⟨_, rfl⟩
    have Lgl := hid hngl
    rw [hngl] at l_gl Xgl
    clear hngl
    have Xel := hid (show W0.cell? ⟨w.heap.size, 9, none⟩ = some (.slice el'.a el.length el'.c) from HX.out 9 _ rfl)
    have Rel := hid (show Rows W0.heap.size W0 el'.a 2 (el.map El.v) from HM.out.el)
    obtain ⟨nel, hnel⟩ : ∃ n, el.length = n := ⟨_, rfl⟩
    have Lel := hid hnel
    rw [hnel] at l_el Xel
    clear hnel
    have Xda := hid (show W0.cell? ⟨w.heap.size, 10, none⟩ = some (.slice da'.a da.length da'.c) from HX.out 10 _ rfl)
    have Rda := hid (show Rows W0.heap.size W0 da'.a 2 (da.map Da.v) from HM.out.da)
    obtain ⟨nda, hnda⟩ : ∃ n, da.length = n := ⟨_, rfl⟩
    have Lda := hid hnda
    rw [hnda] at l_da Xda
    clear hnda
    have Xim := hid (show W0.cell? ⟨w.heap.size, 1, none⟩ = some (.slice im'.a im.length im'.c) from HX.out 1 _ rfl)
    have Rim := hid (show Rows W0.heap.size W0 im'.a 3 (im.map Imp.v) from HM.out.im)
    obtain ⟨nim, hnim⟩ : ∃ n, im.length = n := ⟨_, rfl⟩
    have Lim := hid hnim
    rw [hnim] at l_im Xim
    clear hnim
    have Xex := hid (show W0.cell? ⟨w.heap.size, 6, none⟩ = some (.slice ex'.a ex.length ex'.c) from HX.out 6 _ rfl)
    have Rex := hid (show Rows W0.heap.size W0 ex'.a 3 (ex.map Ex.v) from HM.out.ex)
    obtain ⟨nex, hnex⟩ : ∃ n, ex.length = n := ⟨_, rfl⟩
    have Lex := hid hnex
    rw [hnex] at l_ex Xex
    clear hnex
    clear HX
    go_loopw [5, 6] (fun vn vi wr => ∃ (k : Nat) (N : Int), vn = .int .i64 N ∧ vi = .int .i64 k ∧ k ≤ nfu ∧ N0 ≤ N ∧ N ≤ 5000 + 20002 * (k : Int) ∧ Hid (N ≤ 5000 → (True) ∧ ∀ (j : Nat) (hj : j < fu.length), j < k → ∃ x, x = fu[j] ∧ x.l.t.weight ≤ 5000) ∧ Hid (Below W0.heap.size W0 wr)) (fun _ vi _ => nfu - (intOf vi).toNat)
    case atStart => exact ⟨0, N0, rfl, rfl, Nat.zero_le _, by omega, by omega, fun _ => ⟨trivial, fun j _ h => absurd h (Nat.not_lt_zero _)⟩, Below.refl _ _⟩
    case round =>
      obtain ⟨k, N, rfl, rfl, hk, hNa, hNb, HQ, HW⟩ := hrel
      have hbx := Go.Proofs.YtepbjkkakfpjgaaGreatDoor.keep HW.out Xfu.out
      by_cases hlt : k < nfu
      · have hkl : k < fu.length := by rw [Lfu.out]; exact hlt
        obtain ⟨b, off, ha, hb, hc⟩ := Rows.get Rfu.out hkl
        rw [ha] at hbx
        have hx : fu[k] ∈ fu := List.getElem_mem hkl
        have hLs := HM.out.ls fu[k].l (by unfold Md.codes; exact List.mem_append_left _ (List.mem_map.2 ⟨_, hx, rfl⟩))
        have hLl := HF.out.ls fu[k].l (by unfold Md.codes; exact List.mem_append_left _ (List.mem_map.2 ⟨_, hx, rfl⟩))
        obtain ⟨x, hxe⟩ : ∃ x, fu[k] = x := ⟨_, rfl⟩
        have HXE := hid hxe
        rw [hxe] at hc hLs hLl
        have cc : ∀ j, j < 3 → ∀ v, x.v[j]? = some v → wr.cell? ⟨b, off + k * 3 + j, none⟩ = some v := fun j hj v hv => (HW.out.cell (p := ⟨b, off + k * 3 + j, none⟩) hb).trans (hc j hj v hv)
        have c2 : wr.cell? ⟨b, off + k * 3 + 2, none⟩ = some (.slice x.l.a x.l.t.len x.l.c) := cc 2 (by omega) _ rfl
        have hki : (k : Int) < (nfu : Int) := by omega
        have hN1' : 1 ≤ N0 := HI.out (by omega)
        have hgo := go_bounds x.l.t 0 5000 (by omega) (by omega) (by omega)
        obtain ⟨q, hq⟩ : ∃ q, x.l.t.go 0 5000 = q := ⟨_, rfl⟩
        have C := hid (Instrs_any x.l.t.count x.l.t x.l.a x.l.t.len x.l.c 5000 wr (Nat.le_refl _) ((hLs.below HW.out).more HW.out.size) hLl (by omega) (by omega))
        rw [hq] at C hgo
        obtain ⟨hg0, hg1, hg2⟩ := hgo
        have HG := hid hg2
        have HQ' := hid (show N + q ≤ 5000 → (True) ∧ ∀ (j : Nat) (hj : j < fu.length), j < k + 1 → ∃ x, x = fu[j] ∧ x.l.t.weight ≤ 5000 from fun h => ⟨(HQ.out (by omega)).1, fun j hj hjk => by
          by_cases e : j = k
          · subst e; exact ⟨x, HXE.out.symm, by have := HG.out (by omega); omega⟩
          · exact (HQ.out (by omega)).2 j hj (by omega)⟩)
        clear hx hxe hc cc hb ha hLs hLl hq hg2
        go_wp2_with fail
        refine C.out.mono ?_
        rintro e w1 ⟨rfl, rfl⟩
        go_wp2
        go_roundw
        case rel => exact ⟨k + 1, _, rfl, by go_num, by omega, by omega, by omega, HQ', HW⟩
        case measure => simp [intOf]; omega
      · obtain rfl : k = nfu := by omega
        have HP := hid (show N ≤ 5000 → (True) ∧ ∀ x ∈ fu, x.l.t.weight ≤ 5000 from fun h => ⟨(HQ.out h).1, fun x hx => by
          obtain ⟨j, hj, rfl⟩ := List.mem_iff_getElem.1 hx
          obtain ⟨y, hy, hq⟩ := (HQ.out h).2 j hj (by rw [← Lfu.out]; exact hj)
          subst hy; exact hq⟩)
        have hNN1 : N0 ≤ N := by omega
        have hNN2 : N ≤ 100015000 := by omega
        have HBL := HW
        clear HQ hNa hNb HW hlt hk
        obtain ⟨NN, rfl⟩ : ∃ NN, NN = N := ⟨_, rfl⟩
        go_wp2
        clear hbx
        go_loopw [5, 7] (fun vn vi wr => ∃ (k : Nat) (N : Int), vn = .int .i64 N ∧ vi = .int .i64 k ∧ k ≤ ngl ∧ N0 ≤ N ∧ N ≤ 100015000 + 20002 * (k : Int) ∧ Hid (N ≤ 5000 → ((True) ∧ ∀ x ∈ fu, x.l.t.weight ≤ 5000) ∧ ∀ (j : Nat) (hj : j < gl.length), j < k → ∃ x, x = gl[j] ∧ x.l.t.weight ≤ 5000) ∧ Hid (Below W0.heap.size W0 wr)) (fun _ vi _ => ngl - (intOf vi).toNat)
        case atStart => exact ⟨0, NN, rfl, rfl, Nat.zero_le _, by omega, by omega, fun h => ⟨HP.out h, fun j _ h => absurd h (Nat.not_lt_zero _)⟩, HBL⟩
        case round =>
          clear HP HBL hNN1 hNN2
          obtain ⟨k, N, rfl, rfl, hk, hNa, hNb, HQ, HW⟩ := hrel
          have hbx := Go.Proofs.YtepbjkkakfpjgaaGreatDoor.keep HW.out Xgl.out
          by_cases hlt : k < ngl
          · have hkl : k < gl.length := by rw [Lgl.out]; exact hlt
            obtain ⟨b, off, ha, hb, hc⟩ := Rows.get Rgl.out hkl
            rw [ha] at hbx
            have hx : gl[k] ∈ gl := List.getElem_mem hkl
            have hLs := HM.out.ls gl[k].l (by unfold Md.codes; exact List.mem_append_right _ (List.mem_append_left _ (List.mem_map.2 ⟨_, hx, rfl⟩)))
            have hLl := HF.out.ls gl[k].l (by unfold Md.codes; exact List.mem_append_right _ (List.mem_append_left _ (List.mem_map.2 ⟨_, hx, rfl⟩)))
            obtain ⟨x, hxe⟩ : ∃ x, gl[k] = x := ⟨_, rfl⟩
            have HXE := hid hxe
            rw [hxe] at hc hLs hLl
            have cc : ∀ j, j < 2 → ∀ v, x.v[j]? = some v → wr.cell? ⟨b, off + k * 2 + j, none⟩ = some v := fun j hj v hv => (HW.out.cell (p := ⟨b, off + k * 2 + j, none⟩) hb).trans (hc j hj v hv)
            have c1 : wr.cell? ⟨b, off + k * 2 + 1, none⟩ = some (.slice x.l.a x.l.t.len x.l.c) := cc 1 (by omega) _ rfl
            have hki : (k : Int) < (ngl : Int) := by omega
            have hN1' : 1 ≤ N0 := HI.out (by omega)
            have hgo := go_bounds x.l.t 0 5000 (by omega) (by omega) (by omega)
            obtain ⟨q, hq⟩ : ∃ q, x.l.t.go 0 5000 = q := ⟨_, rfl⟩
            have C := hid (Instrs_any x.l.t.count x.l.t x.l.a x.l.t.len x.l.c 5000 wr (Nat.le_refl _) ((hLs.below HW.out).more HW.out.size) hLl (by omega) (by omega))
            rw [hq] at C hgo
            obtain ⟨hg0, hg1, hg2⟩ := hgo
            have HG := hid hg2
            have HQ' := hid (show N + q ≤ 5000 → ((True) ∧ ∀ x ∈ fu, x.l.t.weight ≤ 5000) ∧ ∀ (j : Nat) (hj : j < gl.length), j < k + 1 → ∃ x, x = gl[j] ∧ x.l.t.weight ≤ 5000 from fun h => ⟨(HQ.out (by omega)).1, fun j hj hjk => by
              by_cases e : j = k
              · subst e; exact ⟨x, HXE.out.symm, by have := HG.out (by omega); omega⟩
              · exact (HQ.out (by omega)).2 j hj (by omega)⟩)
            clear hx hxe hc cc hb ha hLs hLl hq hg2
            go_wp2_with fail
            refine C.out.mono ?_
            rintro e w1 ⟨rfl, rfl⟩
            go_wp2
            go_roundw
            case rel => exact ⟨k + 1, _, rfl, by go_num, by omega, by omega, by omega, HQ', HW⟩
            case measure => simp [intOf]; omega
          · obtain rfl : k = ngl := by omega
            have HP := hid (show N ≤ 5000 → ((True) ∧ ∀ x ∈ fu, x.l.t.weight ≤ 5000) ∧ ∀ x ∈ gl, x.l.t.weight ≤ 5000 from fun h => ⟨(HQ.out h).1, fun x hx => by
              obtain ⟨j, hj, rfl⟩ := List.mem_iff_getElem.1 hx
              obtain ⟨y, hy, hq⟩ := (HQ.out h).2 j hj (by rw [← Lgl.out]; exact hj)
              subst hy; exact hq⟩)
            have hNN1 : N0 ≤ N := by omega
            have hNN2 : N ≤ 200025000 := by omega
            have HBL := HW
            clear HQ hNa hNb HW hlt hk
            obtain ⟨NN, rfl⟩ : ∃ NN, NN = N := ⟨_, rfl⟩
            go_wp2
            clear hbx
            go_loopw [5, 8] (fun vn vi wr => ∃ (k : Nat) (N : Int), vn = .int .i64 N ∧ vi = .int .i64 k ∧ k ≤ nel ∧ N0 ≤ N ∧ N ≤ 200025000 + 20002 * (k : Int) ∧ Hid (N ≤ 5000 → (((True) ∧ ∀ x ∈ fu, x.l.t.weight ≤ 5000) ∧ ∀ x ∈ gl, x.l.t.weight ≤ 5000) ∧ ∀ (j : Nat) (hj : j < el.length), j < k → ∃ x, x = el[j] ∧ x.l.t.weight ≤ 5000 ∧ x.fs.length ≤ 5000) ∧ Hid (Below W0.heap.size W0 wr)) (fun _ vi _ => nel - (intOf vi).toNat)
            case atStart => exact ⟨0, NN, rfl, rfl, Nat.zero_le _, by omega, by omega, fun h => ⟨HP.out h, fun j _ h => absurd h (Nat.not_lt_zero _)⟩, HBL⟩
            case round =>
              clear HP HBL hNN1 hNN2
              obtain ⟨k, N, rfl, rfl, hk, hNa, hNb, HQ, HW⟩ := hrel
              have hbx := Go.Proofs.YtepbjkkakfpjgaaGreatDoor.keep HW.out Xel.out
              by_cases hlt : k < nel
              · have hkl : k < el.length := by rw [Lel.out]; exact hlt
                obtain ⟨b, off, ha, hb, hc⟩ := Rows.get Rel.out hkl
                rw [ha] at hbx
                have hx : el[k] ∈ el := List.getElem_mem hkl
                have hLs := HM.out.ls el[k].l (by unfold Md.codes; exact List.mem_append_right _ (List.mem_append_right _ (List.mem_append_left _ (List.mem_map.2 ⟨_, hx, rfl⟩))))
                have hLl := HF.out.ls el[k].l (by unfold Md.codes; exact List.mem_append_right _ (List.mem_append_right _ (List.mem_append_left _ (List.mem_map.2 ⟨_, hx, rfl⟩))))
                have hS := HF.out.fs _ hx
                obtain ⟨x, hxe⟩ : ∃ x, el[k] = x := ⟨_, rfl⟩
                have HXE := hid hxe
                rw [hxe] at hc hLs hLl hS
                have cc : ∀ j, j < 2 → ∀ v, x.v[j]? = some v → wr.cell? ⟨b, off + k * 2 + j, none⟩ = some v := fun j hj v hv => (HW.out.cell (p := ⟨b, off + k * 2 + j, none⟩) hb).trans (hc j hj v hv)
                have c0 : wr.cell? ⟨b, off + k * 2, none⟩ = some (.slice x.l.a x.l.t.len x.l.c) := cc 0 (by omega) _ rfl
                have c1 : wr.cell? ⟨b, off + k * 2 + 1, none⟩ = some (.slice x.fa x.fs.length x.fc) := cc 1 (by omega) _ rfl
                have hki : (k : Int) < (nel : Int) := by omega
                have hN1' : 1 ≤ N0 := HI.out (by omega)
                have hgo := go_bounds x.l.t 0 5000 (by omega) (by omega) (by omega)
                obtain ⟨q, hq⟩ : ∃ q, x.l.t.go 0 5000 = q := ⟨_, rfl⟩
                have C := hid (show ∀ a, Calls Tryz.prog 32 #[.slice x.l.a x.l.t.len x.l.c, .int .i64 5000] (wr.drewN a) fun e w' => e = .returned (.int .i64 (x.l.t.go 0 5000)) ∧ w' = wr.drewN a from fun a => (Instrs_any x.l.t.count x.l.t x.l.a x.l.t.len x.l.c 5000 _ (Nat.le_refl _) ((hLs.below (drewQ HW.out a)).more (drewQ HW.out a).size) hLl (by omega) (by omega)).mono fun e w' ⟨he, hw⟩ => ⟨he, hw.symm⟩)
                rw [hq] at C hgo
                obtain ⟨hg0, hg1, hg2⟩ := hgo
                have HG := hid hg2
                by_cases hmn : (5000 : Int) < (x.fs.length : Int)
                · have hmz : min (x.fs.length : Int) 5000 = 5000 := by omega
                  have e0 : IntKind.i64.wrap (N + q) = N + q := by rw [IntKind.wrap_i64]; omega
                  have e1 : IntKind.i64.wrap (N + q + 5000) = N + q + 5000 := by rw [IntKind.wrap_i64]; omega
                  have HQ' := hid (show N + q + 5000 ≤ 5000 → (((True) ∧ ∀ x ∈ fu, x.l.t.weight ≤ 5000) ∧ ∀ x ∈ gl, x.l.t.weight ≤ 5000) ∧ ∀ (j : Nat) (hj : j < el.length), j < k + 1 → ∃ x, x = el[j] ∧ x.l.t.weight ≤ 5000 ∧ x.fs.length ≤ 5000 from fun h => ⟨(HQ.out (by omega)).1, fun j hj hjk => by
                    by_cases e : j = k
                    · subst e; exact ⟨x, HXE.out.symm, by have := HG.out (by omega); omega, by omega⟩
                    · exact (HQ.out (by omega)).2 j hj (by omega)⟩)
                  have hz1 := show N0 ≤ N + q + 5000 by omega
                  have hz2 := show N + q + 5000 ≤ 200025000 + 20002 * ((k + 1 : Nat) : Int) by omega
                  clear hx hxe hc cc hb ha hLs hLl hq hg2
                  go_wp2
                  go_quiet ((go_at_call 32; exact Calls.quiet_of_same (C.out _)))
                  go_wp2
                  go_roundw
                  case rel => exact ⟨k + 1, _, rfl, by go_num, by omega, hz1, hz2, HQ', drewQ HW.out _⟩
                  case measure => simp [intOf]; omega
                · have hmz : min (x.fs.length : Int) 5000 = (x.fs.length : Int) := by omega
                  have e0 : IntKind.i64.wrap (N + q) = N + q := by rw [IntKind.wrap_i64]; omega
                  have e1 : IntKind.i64.wrap (N + q + (x.fs.length : Int)) = N + q + (x.fs.length : Int) := by rw [IntKind.wrap_i64]; omega
                  have HQ' := hid (show N + q + (x.fs.length : Int) ≤ 5000 → (((True) ∧ ∀ x ∈ fu, x.l.t.weight ≤ 5000) ∧ ∀ x ∈ gl, x.l.t.weight ≤ 5000) ∧ ∀ (j : Nat) (hj : j < el.length), j < k + 1 → ∃ x, x = el[j] ∧ x.l.t.weight ≤ 5000 ∧ x.fs.length ≤ 5000 from fun h => ⟨(HQ.out (by omega)).1, fun j hj hjk => by
                    by_cases e : j = k
                    · subst e; exact ⟨x, HXE.out.symm, by have := HG.out (by omega); omega, by omega⟩
                    · exact (HQ.out (by omega)).2 j hj (by omega)⟩)
                  have hz1 := show N0 ≤ N + q + (x.fs.length : Int) by omega
                  have hz2 := show N + q + (x.fs.length : Int) ≤ 200025000 + 20002 * ((k + 1 : Nat) : Int) by omega
                  clear hx hxe hc cc hb ha hLs hLl hq hg2
                  go_wp2
                  go_quiet ((go_at_call 32; exact Calls.quiet_of_same (C.out _)))
                  go_wp2
                  go_roundw
                  case rel => exact ⟨k + 1, _, rfl, by go_num, by omega, hz1, hz2, HQ', drewQ HW.out _⟩
                  case measure => simp [intOf]; omega
              · obtain rfl : k = nel := by omega
                have HP := hid (show N ≤ 5000 → (((True) ∧ ∀ x ∈ fu, x.l.t.weight ≤ 5000) ∧ ∀ x ∈ gl, x.l.t.weight ≤ 5000) ∧ ∀ x ∈ el, x.l.t.weight ≤ 5000 ∧ x.fs.length ≤ 5000 from fun h => ⟨(HQ.out h).1, fun x hx => by
                  obtain ⟨j, hj, rfl⟩ := List.mem_iff_getElem.1 hx
                  obtain ⟨y, hy, hq⟩ := (HQ.out h).2 j hj (by rw [← Lel.out]; exact hj)
                  subst hy; exact hq⟩)
                have hNN1 : N0 ≤ N := by omega
                have hNN2 : N ≤ 300035000 := by omega
                have HBL := HW
                clear HQ hNa hNb HW hlt hk
                obtain ⟨NN, rfl⟩ : ∃ NN, NN = N := ⟨_, rfl⟩
                go_wp2
                clear hbx
                go_loopw [5, 9] (fun vn vi wr => ∃ (k : Nat) (N : Int), vn = .int .i64 N ∧ vi = .int .i64 k ∧ k ≤ nda ∧ N0 ≤ N ∧ N ≤ 300035000 + 20002 * (k : Int) ∧ Hid (N ≤ 5000 → ((((True) ∧ ∀ x ∈ fu, x.l.t.weight ≤ 5000) ∧ ∀ x ∈ gl, x.l.t.weight ≤ 5000) ∧ ∀ x ∈ el, x.l.t.weight ≤ 5000 ∧ x.fs.length ≤ 5000) ∧ ∀ (j : Nat) (hj : j < da.length), j < k → ∃ x, x = da[j] ∧ x.l.t.weight ≤ 5000 ∧ x.bs.length ≤ 5000) ∧ Hid (Below W0.heap.size W0 wr)) (fun _ vi _ => nda - (intOf vi).toNat)
                case atStart => exact ⟨0, NN, rfl, rfl, Nat.zero_le _, by omega, by omega, fun h => ⟨HP.out h, fun j _ h => absurd h (Nat.not_lt_zero _)⟩, HBL⟩
                case round =>
                  clear HP HBL hNN1 hNN2
                  obtain ⟨k, N, rfl, rfl, hk, hNa, hNb, HQ, HW⟩ := hrel
                  have hbx := Go.Proofs.YtepbjkkakfpjgaaGreatDoor.keep HW.out Xda.out
                  by_cases hlt : k < nda
                  · have hkl : k < da.length := by rw [Lda.out]; exact hlt
                    obtain ⟨b, off, ha, hb, hc⟩ := Rows.get Rda.out hkl
                    rw [ha] at hbx
                    have hx : da[k] ∈ da := List.getElem_mem hkl
                    have hLs := HM.out.ls da[k].l (by unfold Md.codes; exact List.mem_append_right _ (List.mem_append_right _ (List.mem_append_right _ (List.mem_map.2 ⟨_, hx, rfl⟩))))
                    have hLl := HF.out.ls da[k].l (by unfold Md.codes; exact List.mem_append_right _ (List.mem_append_right _ (List.mem_append_right _ (List.mem_map.2 ⟨_, hx, rfl⟩))))
                    have hS := HF.out.bs _ hx
                    obtain ⟨x, hxe⟩ : ∃ x, da[k] = x := ⟨_, rfl⟩
                    have HXE := hid hxe
                    rw [hxe] at hc hLs hLl hS
                    have cc : ∀ j, j < 2 → ∀ v, x.v[j]? = some v → wr.cell? ⟨b, off + k * 2 + j, none⟩ = some v := fun j hj v hv => (HW.out.cell (p := ⟨b, off + k * 2 + j, none⟩) hb).trans (hc j hj v hv)
                    have c0 : wr.cell? ⟨b, off + k * 2, none⟩ = some (.slice x.l.a x.l.t.len x.l.c) := cc 0 (by omega) _ rfl
                    have c1 : wr.cell? ⟨b, off + k * 2 + 1, none⟩ = some (.slice x.ba x.bs.length x.bc) := cc 1 (by omega) _ rfl
                    have hki : (k : Int) < (nda : Int) := by omega
                    have hN1' : 1 ≤ N0 := HI.out (by omega)
                    have hgo := go_bounds x.l.t 0 5000 (by omega) (by omega) (by omega)
                    obtain ⟨q, hq⟩ : ∃ q, x.l.t.go 0 5000 = q := ⟨_, rfl⟩
                    have C := hid (show ∀ a, Calls Tryz.prog 32 #[.slice x.l.a x.l.t.len x.l.c, .int .i64 5000] (wr.drewN a) fun e w' => e = .returned (.int .i64 (x.l.t.go 0 5000)) ∧ w' = wr.drewN a from fun a => (Instrs_any x.l.t.count x.l.t x.l.a x.l.t.len x.l.c 5000 _ (Nat.le_refl _) ((hLs.below (drewQ HW.out a)).more (drewQ HW.out a).size) hLl (by omega) (by omega)).mono fun e w' ⟨he, hw⟩ => ⟨he, hw.symm⟩)
                    rw [hq] at C hgo
                    obtain ⟨hg0, hg1, hg2⟩ := hgo
                    have HG := hid hg2
                    by_cases hmn : (5000 : Int) < (x.bs.length : Int)
                    · have hmz : min (x.bs.length : Int) 5000 = 5000 := by omega
                      have e0 : IntKind.i64.wrap (N + q) = N + q := by rw [IntKind.wrap_i64]; omega
                      have e1 : IntKind.i64.wrap (N + q + 5000) = N + q + 5000 := by rw [IntKind.wrap_i64]; omega
                      have HQ' := hid (show N + q + 5000 ≤ 5000 → ((((True) ∧ ∀ x ∈ fu, x.l.t.weight ≤ 5000) ∧ ∀ x ∈ gl, x.l.t.weight ≤ 5000) ∧ ∀ x ∈ el, x.l.t.weight ≤ 5000 ∧ x.fs.length ≤ 5000) ∧ ∀ (j : Nat) (hj : j < da.length), j < k + 1 → ∃ x, x = da[j] ∧ x.l.t.weight ≤ 5000 ∧ x.bs.length ≤ 5000 from fun h => ⟨(HQ.out (by omega)).1, fun j hj hjk => by
                        by_cases e : j = k
                        · subst e; exact ⟨x, HXE.out.symm, by have := HG.out (by omega); omega, by omega⟩
                        · exact (HQ.out (by omega)).2 j hj (by omega)⟩)
                      have hz1 := show N0 ≤ N + q + 5000 by omega
                      have hz2 := show N + q + 5000 ≤ 300035000 + 20002 * ((k + 1 : Nat) : Int) by omega
                      clear hx hxe hc cc hb ha hLs hLl hq hg2
                      go_wp2
                      go_quiet ((go_at_call 32; exact Calls.quiet_of_same (C.out _)))
                      go_wp2
                      go_roundw
                      case rel => exact ⟨k + 1, _, rfl, by go_num, by omega, hz1, hz2, HQ', drewQ HW.out _⟩
                      case measure => simp [intOf]; omega
                    · have hmz : min (x.bs.length : Int) 5000 = (x.bs.length : Int) := by omega
                      have e0 : IntKind.i64.wrap (N + q) = N + q := by rw [IntKind.wrap_i64]; omega
                      have e1 : IntKind.i64.wrap (N + q + (x.bs.length : Int)) = N + q + (x.bs.length : Int) := by rw [IntKind.wrap_i64]; omega
                      have HQ' := hid (show N + q + (x.bs.length : Int) ≤ 5000 → ((((True) ∧ ∀ x ∈ fu, x.l.t.weight ≤ 5000) ∧ ∀ x ∈ gl, x.l.t.weight ≤ 5000) ∧ ∀ x ∈ el, x.l.t.weight ≤ 5000 ∧ x.fs.length ≤ 5000) ∧ ∀ (j : Nat) (hj : j < da.length), j < k + 1 → ∃ x, x = da[j] ∧ x.l.t.weight ≤ 5000 ∧ x.bs.length ≤ 5000 from fun h => ⟨(HQ.out (by omega)).1, fun j hj hjk => by
                        by_cases e : j = k
                        · subst e; exact ⟨x, HXE.out.symm, by have := HG.out (by omega); omega, by omega⟩
                        · exact (HQ.out (by omega)).2 j hj (by omega)⟩)
                      have hz1 := show N0 ≤ N + q + (x.bs.length : Int) by omega
                      have hz2 := show N + q + (x.bs.length : Int) ≤ 300035000 + 20002 * ((k + 1 : Nat) : Int) by omega
                      clear hx hxe hc cc hb ha hLs hLl hq hg2
                      go_wp2
                      go_quiet ((go_at_call 32; exact Calls.quiet_of_same (C.out _)))
                      go_wp2
                      go_roundw
                      case rel => exact ⟨k + 1, _, rfl, by go_num, by omega, hz1, hz2, HQ', drewQ HW.out _⟩
                      case measure => simp [intOf]; omega
                  · obtain rfl : k = nda := by omega
                    have HP := hid (show N ≤ 5000 → ((((True) ∧ ∀ x ∈ fu, x.l.t.weight ≤ 5000) ∧ ∀ x ∈ gl, x.l.t.weight ≤ 5000) ∧ ∀ x ∈ el, x.l.t.weight ≤ 5000 ∧ x.fs.length ≤ 5000) ∧ ∀ x ∈ da, x.l.t.weight ≤ 5000 ∧ x.bs.length ≤ 5000 from fun h => ⟨(HQ.out h).1, fun x hx => by
                      obtain ⟨j, hj, rfl⟩ := List.mem_iff_getElem.1 hx
                      obtain ⟨y, hy, hq⟩ := (HQ.out h).2 j hj (by rw [← Lda.out]; exact hj)
                      subst hy; exact hq⟩)
                    have hNN1 : N0 ≤ N := by omega
                    have hNN2 : N ≤ 400045000 := by omega
                    have HBL := HW
                    clear HQ hNa hNb HW hlt hk
                    obtain ⟨NN, rfl⟩ : ∃ NN, NN = N := ⟨_, rfl⟩
                    go_wp2
                    clear hbx
                    go_loopw [5, 10] (fun vn vi wr => ∃ (k : Nat) (N : Int), vn = .int .i64 N ∧ vi = .int .i64 k ∧ k ≤ nim ∧ N0 ≤ N ∧ N ≤ 400045000 + 20002 * (k : Int) ∧ Hid (N ≤ 5000 → (((((True) ∧ ∀ x ∈ fu, x.l.t.weight ≤ 5000) ∧ ∀ x ∈ gl, x.l.t.weight ≤ 5000) ∧ ∀ x ∈ el, x.l.t.weight ≤ 5000 ∧ x.fs.length ≤ 5000) ∧ ∀ x ∈ da, x.l.t.weight ≤ 5000 ∧ x.bs.length ≤ 5000) ∧ ∀ (j : Nat) (hj : j < im.length), j < k → ∃ x, x = im[j] ∧ x.mo.size ≤ 5000 ∧ x.na.size ≤ 5000) ∧ Hid (Below W0.heap.size W0 wr)) (fun _ vi _ => nim - (intOf vi).toNat)
                    case atStart => exact ⟨0, NN, rfl, rfl, Nat.zero_le _, by omega, by omega, fun h => ⟨HP.out h, fun j _ h => absurd h (Nat.not_lt_zero _)⟩, HBL⟩
                    case round =>
                      clear HP HBL hNN1 hNN2
                      obtain ⟨k, N, rfl, rfl, hk, hNa, hNb, HQ, HW⟩ := hrel
                      have hbx := Go.Proofs.YtepbjkkakfpjgaaGreatDoor.keep HW.out Xim.out
                      by_cases hlt : k < nim
                      · have hkl : k < im.length := by rw [Lim.out]; exact hlt
                        obtain ⟨b, off, ha, hb, hc⟩ := Rows.get Rim.out hkl
                        rw [ha] at hbx
                        have hx : im[k] ∈ im := List.getElem_mem hkl
                        have hS := HF.out.iS _ hx
                        obtain ⟨x, hxe⟩ : ∃ x, im[k] = x := ⟨_, rfl⟩
                        have HXE := hid hxe
                        rw [hxe] at hc hS
                        have cc : ∀ j, j < 3 → ∀ v, x.v[j]? = some v → wr.cell? ⟨b, off + k * 3 + j, none⟩ = some v := fun j hj v hv => (HW.out.cell (p := ⟨b, off + k * 3 + j, none⟩) hb).trans (hc j hj v hv)
                        have c0 : wr.cell? ⟨b, off + k * 3, none⟩ = some (.string x.mo) := cc 0 (by omega) _ rfl
                        have c1 : wr.cell? ⟨b, off + k * 3 + 1, none⟩ = some (.string x.na) := cc 1 (by omega) _ rfl
                        have hki : (k : Int) < (nim : Int) := by omega
                        have hN1' : 1 ≤ N0 := HI.out (by omega)
                        by_cases hm1 : (5000 : Int) < (x.mo.size : Int)
                        · by_cases hm2 : (5000 : Int) < (x.na.size : Int)
                          · have hmz : min (x.mo.size : Int) 5000 = 5000 := by omega
                            have hmy : min (x.na.size : Int) 5000 = 5000 := by omega
                            have e0 : IntKind.i64.wrap (N + 5000) = N + 5000 := by rw [IntKind.wrap_i64]; omega
                            have e1 : IntKind.i64.wrap (N + 5000 + 5000) = N + 5000 + 5000 := by rw [IntKind.wrap_i64]; omega
                            have HQ' := hid (show N + 5000 + 5000 ≤ 5000 → (((((True) ∧ ∀ x ∈ fu, x.l.t.weight ≤ 5000) ∧ ∀ x ∈ gl, x.l.t.weight ≤ 5000) ∧ ∀ x ∈ el, x.l.t.weight ≤ 5000 ∧ x.fs.length ≤ 5000) ∧ ∀ x ∈ da, x.l.t.weight ≤ 5000 ∧ x.bs.length ≤ 5000) ∧ ∀ (j : Nat) (hj : j < im.length), j < k + 1 → ∃ x, x = im[j] ∧ x.mo.size ≤ 5000 ∧ x.na.size ≤ 5000 from fun h => ⟨(HQ.out (by omega)).1, fun j hj hjk => by
                              by_cases e : j = k
                              · subst e; exact ⟨x, HXE.out.symm, by omega, by omega⟩
                              · exact (HQ.out (by omega)).2 j hj (by omega)⟩)
                            have hz1 := show N0 ≤ N + 5000 + 5000 by omega
                            have hz2 := show N + 5000 + 5000 ≤ 400045000 + 20002 * ((k + 1 : Nat) : Int) by omega
                            clear hx hxe hc cc hb ha
                            go_wp2
                            go_quiet (fail)
                            go_wp2
                            go_roundw
                            case rel => exact ⟨k + 1, _, rfl, by go_num, by omega, hz1, hz2, HQ', drewQ HW.out _⟩
                            case measure => simp [intOf]; omega
                          · have hmz : min (x.mo.size : Int) 5000 = 5000 := by omega
                            have hmy : min (x.na.size : Int) 5000 = (x.na.size : Int) := by omega
                            have e0 : IntKind.i64.wrap (N + 5000) = N + 5000 := by rw [IntKind.wrap_i64]; omega
                            have e1 : IntKind.i64.wrap (N + 5000 + (x.na.size : Int)) = N + 5000 + (x.na.size : Int) := by rw [IntKind.wrap_i64]; omega
                            have HQ' := hid (show N + 5000 + (x.na.size : Int) ≤ 5000 → (((((True) ∧ ∀ x ∈ fu, x.l.t.weight ≤ 5000) ∧ ∀ x ∈ gl, x.l.t.weight ≤ 5000) ∧ ∀ x ∈ el, x.l.t.weight ≤ 5000 ∧ x.fs.length ≤ 5000) ∧ ∀ x ∈ da, x.l.t.weight ≤ 5000 ∧ x.bs.length ≤ 5000) ∧ ∀ (j : Nat) (hj : j < im.length), j < k + 1 → ∃ x, x = im[j] ∧ x.mo.size ≤ 5000 ∧ x.na.size ≤ 5000 from fun h => ⟨(HQ.out (by omega)).1, fun j hj hjk => by
                              by_cases e : j = k
                              · subst e; exact ⟨x, HXE.out.symm, by omega, by omega⟩
                              · exact (HQ.out (by omega)).2 j hj (by omega)⟩)
                            have hz1 := show N0 ≤ N + 5000 + (x.na.size : Int) by omega
                            have hz2 := show N + 5000 + (x.na.size : Int) ≤ 400045000 + 20002 * ((k + 1 : Nat) : Int) by omega
                            clear hx hxe hc cc hb ha
                            go_wp2
                            go_quiet (fail)
                            go_wp2
                            go_roundw
                            case rel => exact ⟨k + 1, _, rfl, by go_num, by omega, hz1, hz2, HQ', drewQ HW.out _⟩
                            case measure => simp [intOf]; omega
                        · by_cases hm2 : (5000 : Int) < (x.na.size : Int)
                          · have hmz : min (x.mo.size : Int) 5000 = (x.mo.size : Int) := by omega
                            have hmy : min (x.na.size : Int) 5000 = 5000 := by omega
                            have e0 : IntKind.i64.wrap (N + (x.mo.size : Int)) = N + (x.mo.size : Int) := by rw [IntKind.wrap_i64]; omega
                            have e1 : IntKind.i64.wrap (N + (x.mo.size : Int) + 5000) = N + (x.mo.size : Int) + 5000 := by rw [IntKind.wrap_i64]; omega
                            have HQ' := hid (show N + (x.mo.size : Int) + 5000 ≤ 5000 → (((((True) ∧ ∀ x ∈ fu, x.l.t.weight ≤ 5000) ∧ ∀ x ∈ gl, x.l.t.weight ≤ 5000) ∧ ∀ x ∈ el, x.l.t.weight ≤ 5000 ∧ x.fs.length ≤ 5000) ∧ ∀ x ∈ da, x.l.t.weight ≤ 5000 ∧ x.bs.length ≤ 5000) ∧ ∀ (j : Nat) (hj : j < im.length), j < k + 1 → ∃ x, x = im[j] ∧ x.mo.size ≤ 5000 ∧ x.na.size ≤ 5000 from fun h => ⟨(HQ.out (by omega)).1, fun j hj hjk => by
                              by_cases e : j = k
                              · subst e; exact ⟨x, HXE.out.symm, by omega, by omega⟩
                              · exact (HQ.out (by omega)).2 j hj (by omega)⟩)
                            have hz1 := show N0 ≤ N + (x.mo.size : Int) + 5000 by omega
                            have hz2 := show N + (x.mo.size : Int) + 5000 ≤ 400045000 + 20002 * ((k + 1 : Nat) : Int) by omega
                            clear hx hxe hc cc hb ha
                            go_wp2
                            go_quiet (fail)
                            go_wp2
                            go_roundw
                            case rel => exact ⟨k + 1, _, rfl, by go_num, by omega, hz1, hz2, HQ', drewQ HW.out _⟩
                            case measure => simp [intOf]; omega
                          · have hmz : min (x.mo.size : Int) 5000 = (x.mo.size : Int) := by omega
                            have hmy : min (x.na.size : Int) 5000 = (x.na.size : Int) := by omega
                            have e0 : IntKind.i64.wrap (N + (x.mo.size : Int)) = N + (x.mo.size : Int) := by rw [IntKind.wrap_i64]; omega
                            have e1 : IntKind.i64.wrap (N + (x.mo.size : Int) + (x.na.size : Int)) = N + (x.mo.size : Int) + (x.na.size : Int) := by rw [IntKind.wrap_i64]; omega
                            have HQ' := hid (show N + (x.mo.size : Int) + (x.na.size : Int) ≤ 5000 → (((((True) ∧ ∀ x ∈ fu, x.l.t.weight ≤ 5000) ∧ ∀ x ∈ gl, x.l.t.weight ≤ 5000) ∧ ∀ x ∈ el, x.l.t.weight ≤ 5000 ∧ x.fs.length ≤ 5000) ∧ ∀ x ∈ da, x.l.t.weight ≤ 5000 ∧ x.bs.length ≤ 5000) ∧ ∀ (j : Nat) (hj : j < im.length), j < k + 1 → ∃ x, x = im[j] ∧ x.mo.size ≤ 5000 ∧ x.na.size ≤ 5000 from fun h => ⟨(HQ.out (by omega)).1, fun j hj hjk => by
                              by_cases e : j = k
                              · subst e; exact ⟨x, HXE.out.symm, by omega, by omega⟩
                              · exact (HQ.out (by omega)).2 j hj (by omega)⟩)
                            have hz1 := show N0 ≤ N + (x.mo.size : Int) + (x.na.size : Int) by omega
                            have hz2 := show N + (x.mo.size : Int) + (x.na.size : Int) ≤ 400045000 + 20002 * ((k + 1 : Nat) : Int) by omega
                            clear hx hxe hc cc hb ha
                            go_wp2
                            go_quiet (fail)
                            go_wp2
                            go_roundw
                            case rel => exact ⟨k + 1, _, rfl, by go_num, by omega, hz1, hz2, HQ', drewQ HW.out _⟩
                            case measure => simp [intOf]; omega
                      · obtain rfl : k = nim := by omega
                        have HP := hid (show N ≤ 5000 → (((((True) ∧ ∀ x ∈ fu, x.l.t.weight ≤ 5000) ∧ ∀ x ∈ gl, x.l.t.weight ≤ 5000) ∧ ∀ x ∈ el, x.l.t.weight ≤ 5000 ∧ x.fs.length ≤ 5000) ∧ ∀ x ∈ da, x.l.t.weight ≤ 5000 ∧ x.bs.length ≤ 5000) ∧ ∀ x ∈ im, x.mo.size ≤ 5000 ∧ x.na.size ≤ 5000 from fun h => ⟨(HQ.out h).1, fun x hx => by
                          obtain ⟨j, hj, rfl⟩ := List.mem_iff_getElem.1 hx
                          obtain ⟨y, hy, hq⟩ := (HQ.out h).2 j hj (by rw [← Lim.out]; exact hj)
                          subst hy; exact hq⟩)
                        have hNN1 : N0 ≤ N := by omega
                        have hNN2 : N ≤ 500055000 := by omega
                        have HBL := HW
                        clear HQ hNa hNb HW hlt hk
                        obtain ⟨NN, rfl⟩ : ∃ NN, NN = N := ⟨_, rfl⟩
                        go_wp2
                        clear hbx
                        go_loopw [5, 11] (fun vn vi wr => ∃ (k : Nat) (N : Int), vn = .int .i64 N ∧ vi = .int .i64 k ∧ k ≤ nex ∧ N0 ≤ N ∧ N ≤ 500055000 + 20002 * (k : Int) ∧ Hid (N ≤ 5000 → ((((((True) ∧ ∀ x ∈ fu, x.l.t.weight ≤ 5000) ∧ ∀ x ∈ gl, x.l.t.weight ≤ 5000) ∧ ∀ x ∈ el, x.l.t.weight ≤ 5000 ∧ x.fs.length ≤ 5000) ∧ ∀ x ∈ da, x.l.t.weight ≤ 5000 ∧ x.bs.length ≤ 5000) ∧ ∀ x ∈ im, x.mo.size ≤ 5000 ∧ x.na.size ≤ 5000) ∧ ∀ (j : Nat) (hj : j < ex.length), j < k → ∃ x, x = ex[j] ∧ x.na.size ≤ 5000) ∧ Hid (Below W0.heap.size W0 wr)) (fun _ vi _ => nex - (intOf vi).toNat)
                        case atStart => exact ⟨0, NN, rfl, rfl, Nat.zero_le _, by omega, by omega, fun h => ⟨HP.out h, fun j _ h => absurd h (Nat.not_lt_zero _)⟩, HBL⟩
                        case round =>
                          clear HP HBL hNN1 hNN2
                          obtain ⟨k, N, rfl, rfl, hk, hNa, hNb, HQ, HW⟩ := hrel
                          have hbx := Go.Proofs.YtepbjkkakfpjgaaGreatDoor.keep HW.out Xex.out
                          by_cases hlt : k < nex
                          · have hkl : k < ex.length := by rw [Lex.out]; exact hlt
                            obtain ⟨b, off, ha, hb, hc⟩ := Rows.get Rex.out hkl
                            rw [ha] at hbx
                            have hx : ex[k] ∈ ex := List.getElem_mem hkl
                            have hS := HF.out.eS _ hx
                            obtain ⟨x, hxe⟩ : ∃ x, ex[k] = x := ⟨_, rfl⟩
                            have HXE := hid hxe
                            rw [hxe] at hc hS
                            have cc : ∀ j, j < 3 → ∀ v, x.v[j]? = some v → wr.cell? ⟨b, off + k * 3 + j, none⟩ = some v := fun j hj v hv => (HW.out.cell (p := ⟨b, off + k * 3 + j, none⟩) hb).trans (hc j hj v hv)
                            have c0 : wr.cell? ⟨b, off + k * 3, none⟩ = some (.string x.na) := cc 0 (by omega) _ rfl
                            have hki : (k : Int) < (nex : Int) := by omega
                            have hN1' : 1 ≤ N0 := HI.out (by omega)
                            by_cases hmn : (5000 : Int) < (x.na.size : Int)
                            · have hmz : min (x.na.size : Int) 5000 = 5000 := by omega
                              have HQ' := hid (show N + 5000 ≤ 5000 → ((((((True) ∧ ∀ x ∈ fu, x.l.t.weight ≤ 5000) ∧ ∀ x ∈ gl, x.l.t.weight ≤ 5000) ∧ ∀ x ∈ el, x.l.t.weight ≤ 5000 ∧ x.fs.length ≤ 5000) ∧ ∀ x ∈ da, x.l.t.weight ≤ 5000 ∧ x.bs.length ≤ 5000) ∧ ∀ x ∈ im, x.mo.size ≤ 5000 ∧ x.na.size ≤ 5000) ∧ ∀ (j : Nat) (hj : j < ex.length), j < k + 1 → ∃ x, x = ex[j] ∧ x.na.size ≤ 5000 from fun h => ⟨(HQ.out (by omega)).1, fun j hj hjk => by
                                by_cases e : j = k
                                · subst e; exact ⟨x, HXE.out.symm, by omega⟩
                                · exact (HQ.out (by omega)).2 j hj (by omega)⟩)
                              clear hx hxe hc cc hb ha
                              go_wp2
                              go_roundw
                              case rel => exact ⟨k + 1, _, rfl, by go_num, by omega, by omega, by omega, HQ', HW⟩
                              case measure => simp [intOf]; omega
                            · have hmz : min (x.na.size : Int) 5000 = (x.na.size : Int) := by omega
                              have HQ' := hid (show N + (x.na.size : Int) ≤ 5000 → ((((((True) ∧ ∀ x ∈ fu, x.l.t.weight ≤ 5000) ∧ ∀ x ∈ gl, x.l.t.weight ≤ 5000) ∧ ∀ x ∈ el, x.l.t.weight ≤ 5000 ∧ x.fs.length ≤ 5000) ∧ ∀ x ∈ da, x.l.t.weight ≤ 5000 ∧ x.bs.length ≤ 5000) ∧ ∀ x ∈ im, x.mo.size ≤ 5000 ∧ x.na.size ≤ 5000) ∧ ∀ (j : Nat) (hj : j < ex.length), j < k + 1 → ∃ x, x = ex[j] ∧ x.na.size ≤ 5000 from fun h => ⟨(HQ.out (by omega)).1, fun j hj hjk => by
                                by_cases e : j = k
                                · subst e; exact ⟨x, HXE.out.symm, by omega⟩
                                · exact (HQ.out (by omega)).2 j hj (by omega)⟩)
                              clear hx hxe hc cc hb ha
                              go_wp2
                              go_roundw
                              case rel => exact ⟨k + 1, _, rfl, by go_num, by omega, by omega, by omega, HQ', HW⟩
                              case measure => simp [intOf]; omega
                          · obtain rfl : k = nex := by omega
                            have HP := hid (show N ≤ 5000 → ((((((True) ∧ ∀ x ∈ fu, x.l.t.weight ≤ 5000) ∧ ∀ x ∈ gl, x.l.t.weight ≤ 5000) ∧ ∀ x ∈ el, x.l.t.weight ≤ 5000 ∧ x.fs.length ≤ 5000) ∧ ∀ x ∈ da, x.l.t.weight ≤ 5000 ∧ x.bs.length ≤ 5000) ∧ ∀ x ∈ im, x.mo.size ≤ 5000 ∧ x.na.size ≤ 5000) ∧ ∀ x ∈ ex, x.na.size ≤ 5000 from fun h => ⟨(HQ.out h).1, fun x hx => by
                              obtain ⟨j, hj, rfl⟩ := List.mem_iff_getElem.1 hx
                              obtain ⟨y, hy, hq⟩ := (HQ.out h).2 j hj (by rw [← Lex.out]; exact hj)
                              subst hy; exact hq⟩)
                            have hNN1 : N0 ≤ N := by omega
                            have hNN2 : N ≤ 600065000 := by omega
                            have HBL := HW
                            clear HQ hNa hNb HW hlt hk
                            have HZ := hid (large_end (m := (⟨ty, im, fu, tb, me, gl, ex, st, sn, el, da, ty', im', fu', tb', me', gl', ex', el', da'⟩ : Md)) (N := N) (HB.out.trans (HBL.out.mono HB.out.size)) (fun h => by
                              obtain ⟨⟨⟨⟨⟨⟨_, z1⟩, z2⟩, z3⟩, z4⟩, z5⟩, z6⟩ := HP.out h
                              refine ⟨HSUM.out, fun l hl => ?_, fun e he => (z3 e he).2, fun d hd => (z4 d hd).2, z5, z6⟩
                              unfold Md.codes at hl
                              simp only [List.mem_append, List.mem_map] at hl
                              rcases hl with ⟨x, hx, rfl⟩ | ⟨x, hx, rfl⟩ | ⟨x, hx, rfl⟩ | ⟨x, hx, rfl⟩
                              · exact z1 x hx
                              · exact z2 x hx
                              · exact (z3 x hx).1
                              · exact (z4 x hx).1))
                            go_wp2
                            go_ret
                            exact HZ.out
end Go.Proofs.YtepbjkkakfpjgaaGreatDoor.Mod

/-
  MODULE: whether one of the names is such, whatever is asked of it.
-/
namespace Go.Proofs.YtepbjkkakfpjgaaGreatDoor.Mod
open Go.RowKit Go.Shelf Go.Proofs.YtepbjkkakfpjgaaGreatDoor.Instr

/-- What is asked of a name: by function g, in whatever world. -/
def Asks (w : World) (g : Nat) (p : ByteArray → Bool) : Prop :=
  (∀ args w, (callFunc g args).run Tryz.prog w = .ok (.enter g args) w) ∧
    ∀ (W : World) (s : ByteArray), s.size ≤ 140737488351232 → Below w.heap.size w W → Calls Tryz.prog g #[.string s] W fun e w' => e = .returned (.bool (p s)) ∧ Below W.heap.size W w'
theorem Asks.on {w w' : World} {g : Nat} {p : ByteArray → Bool} (h : Asks w g p) (hb : Below w.heap.size w w') : Asks w' g p := ⟨h.1, fun W s hs hW => h.2 W s hs (hb.trans (hW.mono hb.size))⟩

set_option maxHeartbeats 400000 in
theorem anyName1_any (x : Imp) (b g : Nat) (p : ByteArray → Bool) (w : World) (hc : w.cell? ⟨b, 0, none⟩ = some (.func (.func g) #[] #[])) (hp : Asks w g p) (h1 : x.mo.size ≤ 140737488351232) (h2 : x.na.size ≤ 140737488351232) :
    Calls Tryz.prog 120 #[.agg #[.string x.mo, .string x.na, .int .i64 x.ty], .pointer (some ⟨b, 0, none⟩)] w fun e w' => e = .returned (.bool (p x.mo || p x.na)) ∧ Below w.heap.size w w' := by
  have eg := hp.1
  have C1 := hid (hp.2 (w.alloc (.cells #[.string x.mo, .string x.na, .int .i64 x.ty] 73)) x.mo h1 ((Below.refl _ _).alloc (Nat.le_refl _) _))
  have C2 := hid (fun W (hb : Below w.heap.size w W) => hp.2 W x.na h2 hb)
  have HC := hid (show ∀ w1, Below w.heap.size w w1 → w1.cell? ⟨b, 0, none⟩ = some (.func (.func g) #[] #[]) from fun w1 hb => Go.Proofs.YtepbjkkakfpjgaaGreatDoor.keep hb hc)
  have hbl := World.block_lt_of_cell? w _ hc
  obtain ⟨q, hq⟩ : ∃ q, p x.mo = q := ⟨_, rfl⟩
  rw [hq] at C1 ⊢
  clear hq hp h1 h2
  cases q with
  | true =>
    go_enter Tryz.func120, Tryz.ntmps120
    go_wp2_with (go_at_fn g; refine C1.out.mono ?_; rintro e w1 ⟨rfl, hb1⟩)
    go_ret
    exact ⟨rfl, thenB ((Below.refl _ _).alloc (Nat.le_refl _) _) hb1⟩
  | false =>
    rw [Bool.false_or]
    obtain ⟨r, hr⟩ : ∃ r, p x.na = r := ⟨_, rfl⟩
    rw [hr] at C2 ⊢
    clear hr
    go_enter Tryz.func120, Tryz.ntmps120
    go_wp2_with fail
    refine (Calls.mono (R' := fun e w1 => (e = .returned (.bool false) ∧ Below w.heap.size w w1) ∧ w1.cell? ⟨b, 0, none⟩ = some (.func (.func g) #[] #[]) ∧ w1.cell? ⟨w.heap.size, 1, none⟩ = some (.string x.na)) C1.out ?_).mono ?_
    · rintro e w1 ⟨rfl, hb1⟩
      have hB := thenB ((Below.refl _ _).alloc (Nat.le_refl _) _) hb1
      exact ⟨⟨rfl, hB⟩, HC.out _ hB, Go.Proofs.YtepbjkkakfpjgaaGreatDoor.keep hb1 (by go_simp)⟩
    rintro e w1 ⟨⟨rfl, hb1⟩, hc1, hc2⟩
    have C3 := hid (C2.out w1 hb1)
    clear hc C2
    go_wp2_with (go_at_fn g; refine C3.out.mono ?_; rintro e w2 ⟨rfl, hb2⟩)
    go_ret
    exact ⟨rfl, thenB hb1 hb2⟩
set_option maxHeartbeats 400000 in
theorem anyName2_any (x : Ex) (b g : Nat) (p : ByteArray → Bool) (w : World) (hc : w.cell? ⟨b, 0, none⟩ = some (.func (.func g) #[] #[])) (hp : Asks w g p) (h1 : x.na.size ≤ 140737488351232) :
    Calls Tryz.prog 121 #[.agg #[.string x.na, .int .i64 x.k, .int .u32 x.i], .pointer (some ⟨b, 0, none⟩)] w fun e w' => e = .returned (.bool (p x.na)) ∧ Below w.heap.size w w' := by
  have eg := hp.1
  have C1 := hid (hp.2 (w.alloc (.cells #[.string x.na, .int .i64 x.k, .int .u32 x.i] 75)) x.na h1 ((Below.refl _ _).alloc (Nat.le_refl _) _))
  have hbl := World.block_lt_of_cell? w _ hc
  clear hp h1
  go_enter Tryz.func121, Tryz.ntmps121
  go_wp2_with (go_at_fn g; refine C1.out.mono ?_; rintro e w1 ⟨rfl, hb1⟩)
  go_ret
  exact ⟨rfl, thenB ((Below.refl _ _).alloc (Nat.le_refl _) _) hb1⟩

theorem enters1 : ∀ args w, (callFunc 120 args).run Tryz.prog w = .ok (.enter 120 args) w := enters_of Tryz.func120 (by kernel_rfl) rfl
theorem enters2 : ∀ args w, (callFunc 121 args).run Tryz.prog w = .ok (.enter 121 args) w := enters_of Tryz.func121 (by kernel_rfl) rfl
set_option maxHeartbeats 1000000 in
theorem anyName_any (m : Md) (g : Nat) (p : ByteArray → Bool) (w : World) (hm : ModAt w.heap.size w m) (hf : m.fits) (hp : Asks w g p) :
    Calls Tryz.prog 54 #[.agg m.v, .func (.func g) #[] #[]] w fun e w' => e = .returned (.bool (m.anyName p)) ∧ Below w.heap.size w w' := by
  have B1 := hid (((Below.refl w.heap.size w).alloc (Nat.le_refl _) (.cells m.v 32)).alloc (by simp) (.cells #[.func (.func g) #[] #[]] 94))
  have hbx : BoxAt ((w.alloc (.cells m.v 32)).alloc (.cells #[.func (.func g) #[] #[]] 94)) w.heap.size m.v := (BoxAt.made w m.v _).keep ((Below.refl _ _).alloc (Nat.le_refl _) _)
  have hcb : ((w.alloc (.cells m.v 32)).alloc (.cells #[.func (.func g) #[] #[]] 94)).cell? ⟨w.heap.size + 1, 0, none⟩ = some (.func (.func g) #[] #[]) := by go_simp
  have C1 := hid (any_im m.im m.im'.a m.im.length m.im'.c ((w.alloc (.cells m.v 32)).alloc (.cells #[.func (.func g) #[] #[]] 94)) rfl (hm.on B1.out).im hf.im
    120 #[.pointer (some ⟨w.heap.size + 1, 0, none⟩)] enters1 (fun x => p x.mo || p x.na) (fun W x hx hW => anyName1_any x _ g p W (Go.Proofs.YtepbjkkakfpjgaaGreatDoor.keep hW hcb) ((hp.on B1.out).on hW) (hf.iS x hx).1 (hf.iS x hx).2))
  have C2 := hid (fun (W : World) (hW : Below ((w.alloc (.cells m.v 32)).alloc (.cells #[.func (.func g) #[] #[]] 94)).heap.size ((w.alloc (.cells m.v 32)).alloc (.cells #[.func (.func g) #[] #[]] 94)) W) =>
    any_ex m.ex m.ex'.a m.ex.length m.ex'.c W rfl ((hm.on B1.out).on hW).ex hf.ex
      121 #[.pointer (some ⟨w.heap.size + 1, 0, none⟩)] enters2 (fun x => p x.na) (fun W' x hx hW' => anyName2_any x _ g p W' (Go.Proofs.YtepbjkkakfpjgaaGreatDoor.keep hW' (Go.Proofs.YtepbjkkakfpjgaaGreatDoor.keep hW hcb)) (((hp.on B1.out).on hW).on hW') (hf.eS x hx)))
  have HX := hid (fun (W : World) (hW : Below ((w.alloc (.cells m.v 32)).alloc (.cells #[.func (.func g) #[] #[]] 94)).heap.size ((w.alloc (.cells m.v 32)).alloc (.cells #[.func (.func g) #[] #[]] 94)) W) => (hbx.keep hW) 6 _ rfl)
  have HE : Hid (m.anyName p = ((m.im.any fun i => p i.mo || p i.na) || (m.ex.any fun e => p e.na))) := rfl
  obtain ⟨q, hq⟩ : ∃ q, (m.im.any fun x => p x.mo || p x.na) = q := ⟨_, rfl⟩
  rw [hq] at C1 HE
  unfold Md.v at C1 C2 B1 HX ⊢
  clear hq hcb hbx hm hf hp
  cases q with
  | true =>
    have HE' : Hid (m.anyName p = true) := by show _ = _; rw [HE.out, Bool.true_or]
    clear HE
    go_enter Tryz.func54, Tryz.ntmps54
    go_wp2_with fail
    refine C1.out.mono ?_
    rintro e w1 ⟨rfl, hb1⟩
    clear C1 C2 HX
    go_wp2
    go_ret
    exact ⟨ret_bool HE'.out.symm, B1.out.trans (hb1.mono B1.out.size)⟩
  | false =>
    obtain ⟨r, hr⟩ : ∃ r, (m.ex.any fun x => p x.na) = r := ⟨_, rfl⟩
    have HE' : Hid (m.anyName p = r) := by show _ = _; rw [HE.out, Bool.false_or]; exact hr
    rw [hr] at C2
    clear HE hr
    go_enter Tryz.func54, Tryz.ntmps54
    go_wp2_with fail
    refine C1.out.mono ?_
    rintro e w1 ⟨rfl, hb1⟩
    have hx := HX.out w1 hb1
    have C3 := hid (C2.out w1 hb1)
    clear C1 C2 HX
    go_wp2_with fail
    refine C3.out.mono ?_
    rintro e w2 ⟨rfl, hb2⟩
    clear C3 hx
    go_wp2
    go_ret
    exact ⟨ret_bool HE'.out.symm, B1.out.trans ((thenB hb1 hb2).mono B1.out.size)⟩
end Go.Proofs.YtepbjkkakfpjgaaGreatDoor.Mod

/-
  MODULE: Size and codeError by contract: loops over the range function.
-/
namespace Go.Proofs.YtepbjkkakfpjgaaGreatDoor.Mod
open Go.RowKit Go.Shelf Go.Proofs.YtepbjkkakfpjgaaGreatDoor.Instr

attribute [local go_sem] Oper.semAt_some

/-- What is known of each list. -/
def Fair (w : World) (l : Lst) : Prop := ListAt w.heap.size w l.a l.t.len l.t ∧ l.t.len ≤ 140737488351232 ∧ l.t.count ≤ 1000000
theorem fair_all {m : Md} {w : World} (hm : ModAt w.heap.size w m) (hf : m.few) : ∀ l ∈ m.codes, Fair w l := fun l hl => ⟨hm.ls l hl, hf.fit.ls l hl, hf.cs l hl⟩
theorem Fair.at {w W : World} {l : Lst} (h : Fair w l) (hb : Below w.heap.size w W) : ListAt W.heap.size W l.a l.t.len l.t := h.1.on hb
def valsP {P : Lst → Prop} (pre : List {l : Lst // P l}) : List Lst := pre.map (·.1)
theorem valsP_with (m : Md) (P : Lst → Prop) (hP : ∀ l ∈ m.codes, P l) : valsP (m.codes.attachWith P hP) = m.codes := by simp [valsP]
theorem countL_append : ∀ l r : List Lst, countL (l ++ r) = countL l + countL r
  | [], r => by simp [countL]
  | d :: l, r => by simp only [List.cons_append, countL, countL_append l r]; omega
theorem countL_le {P : Lst → Prop} (h : ∀ l, P l → l.t.count ≤ 1000000) : ∀ pre : List {l : Lst // P l}, countL (valsP pre) ≤ 1000000 * pre.length
  | [] => by simp [valsP, countL]
  | x :: pre => by
    have := countL_le h pre
    have := h x.1 x.2
    simp only [valsP, List.map_cons, countL, List.length_cons] at *
    omega
theorem keepsOthers_below {w w' : World} (h : Below w.heap.size w w') : KeepsOthers w w' := ⟨h.size, fun k _ hk _ => (h.block k (Array.getElem?_eq_some_iff.1 hk).1).trans hk⟩
theorem codes_length (m : Md) (hf : m.few) : m.codes.length ≤ 4000000 := by
  have := hf.lens
  simp [Md.codes]; omega

set_option maxRecDepth 100000 in
set_option maxHeartbeats 2000000 in
theorem Size_any (m : Md) (w : World) (hm : ModAt w.heap.size w m) (hf : m.few) :
    Calls Tryz.prog 25 #[.agg m.v] w fun e w' => e = .returned (.int .i64 m.size) ∧ Below w.heap.size w w' := by
  have HM := hid hm
  have HF := hid hf
  have HCL := hid (codes_length m hf)
  have hbx := BoxAt.made (((w.alloc (.cells m.v 32)).alloc (.cells #[.int .i64 0] 3))) m.v 32
  have hs := cell_new (w.alloc (.cells m.v 32)) (.int .i64 0) 3
  have hB0 : Below w.heap.size w (((w.alloc (.cells m.v 32)).alloc (.cells #[.int .i64 0] 3)).alloc (.cells m.v 32)) := thenA (thenA (thenA (Below.refl _ _) _) _) _
  have hsz : (((w.alloc (.cells m.v 32)).alloc (.cells #[.int .i64 0] 3)).alloc (.cells m.v 32)).heap.size = w.heap.size + 3 := by simp
  have hc0 := cell_alloc' (.cells m.v 32) hs.1
  have hf0 := frozen_alloc' (.cells m.v 32) hs.1 hs.2
  simp only [World.size_alloc] at hc0 hf0 hbx
  clear hm hf hs
  unfold Md.v at hbx hB0 hsz hc0 hf0 ⊢
  refine (callsIn_wide (n := 3)).1 ?_
  refine callsIn_of_wp_marks Tryz.func25 rfl trivial ?_ rfl
  simp only [Tryz.ntmps25, List.size_toArray, List.length_cons, List.length_nil, Nat.reduceAdd, Nat.reduceSub, Array.replicate_succ, Array.replicate_zero, List.push_toArray, List.append_toArray, List.nil_append, List.cons_append]
  gi_wp2_with fail
  refine ⟨trivial, ?_⟩
  refine (codes_in _ m _).mono ?_
  unfold Md.v
  rintro e w' ⟨rfl, rfl⟩
  gi_wp2
  generalize (((w.alloc (.cells #[.slice m.ty'.a m.ty.length m.ty'.c, .slice m.im'.a m.im.length m.im'.c, .slice m.fu'.a m.fu.length m.fu'.c, .slice m.tb'.a m.tb.length m.tb'.c, .slice m.me'.a m.me.length m.me'.c, .slice m.gl'.a m.gl.length m.gl'.c, .slice m.ex'.a m.ex.length m.ex'.c, .bool m.st, .int .u32 m.sn, .slice m.el'.a m.el.length m.el'.c, .slice m.da'.a m.da.length m.da'.c] 32)).alloc (.cells #[.int .i64 0] 3)).alloc (.cells #[.slice m.ty'.a m.ty.length m.ty'.c, .slice m.im'.a m.im.length m.im'.c, .slice m.fu'.a m.fu.length m.fu'.c, .slice m.tb'.a m.tb.length m.tb'.c, .slice m.me'.a m.me.length m.me'.c, .slice m.gl'.a m.gl.length m.gl'.c, .slice m.ex'.a m.ex.length m.ex'.c, .bool m.st, .int .u32 m.sn, .slice m.el'.a m.el.length m.el'.c, .slice m.da'.a m.da.length m.da'.c] 32)) = W0 at hbx hB0 hsz hc0 hf0 ⊢
  have HB0 := hid hB0
  refine wpIn_rangeFunc_ownF rfl (by omega) (gf := 136) (lb := #[.pointer (some ⟨w.heap.size + 1 + 1, 0, none⟩)]) rfl trivial (enters_of Tryz.func136 (by kernel_rfl) rfl)
    (codes_stops _ w.heap.size (w.heap.size + 1 + 1) m W0 (by omega) (by omega) hbx (HM.out.below hB0) HF.out.fit (Fair w) (fair_all HM.out HF.out)) (fun h k => h.trans k) (keptB_b (by omega)) (Below.refl _ _) (fun _ => rfl)
    (fun pre W => (W.cell? ⟨w.heap.size + 1, 0, none⟩ = some (.int .i64 (countL (valsP pre))) ∧ W.frozen? ⟨w.heap.size + 1, 0, none⟩ = false) ∧ Below w.heap.size w W)
    (fun _ _ _ => False)
    (OwnFrom.and (Own.from (fun s A B row hs hg hr => ⟨cell_kept hs.1 hg hr, (frozen_kept hs.1 hg hr).trans hs.2⟩) _) (ownFrom_below (Nat.le_refl _) (by omega)))
    (fun _ _ _ _ _ hs _ _ => hs)
    ⟨⟨hc0, hf0⟩, hB0⟩
    (fun x => { tmps := #[.agg #[.slice m.ty'.a m.ty.length m.ty'.c, .slice m.im'.a m.im.length m.im'.c, .slice m.fu'.a m.fu.length m.fu'.c, .slice m.tb'.a m.tb.length m.tb'.c, .slice m.me'.a m.me.length m.me'.c, .slice m.gl'.a m.gl.length m.gl'.c, .slice m.ex'.a m.ex.length m.ex'.c, .bool m.st, .int .u32 m.sn, .slice m.el'.a m.el.length m.el'.c, .slice m.da'.a m.da.length m.da'.c], .pointer (some ⟨w.heap.size, 0, none⟩), .int .i64 0, .pointer (some ⟨w.heap.size + 1, 0, none⟩), x.1.val, .agg #[.slice m.ty'.a m.ty.length m.ty'.c, .slice m.im'.a m.im.length m.im'.c, .slice m.fu'.a m.fu.length m.fu'.c, .slice m.tb'.a m.tb.length m.tb'.c, .slice m.me'.a m.me.length m.me'.c, .slice m.gl'.a m.gl.length m.gl'.c, .slice m.ex'.a m.ex.length m.ex'.c, .bool m.st, .int .u32 m.sn, .slice m.el'.a m.el.length m.el'.c, .slice m.da'.a m.da.length m.da'.c], .func (.func 136) #[] #[.pointer (some ⟨w.heap.size + 1 + 1, 0, none⟩)], x.1.val, undef, undef, undef, undef, undef], defers := [] }) ?assign ?body ?done ?stop
  case assign =>
    intro l x W K hK
    gi_wp2
    simpa [encP] using hK
  case body =>
    rintro l pre x W ⟨⟨hc, hf⟩, hB⟩ hlt
    have hBd : Below W.heap.size W W.drew := (Below.refl _ _).drew
    have CL := callsIn_wide (n := 0) |>.2 (Count_any x.1.a x.1.t.len x.1.c x.1.t W.drew (x.2.at (hB.trans (hBd.mono hB.size))) (by have := x.2.2.2; omega) x.2.2.1)
    have hle := countL_le (fun l (h : Fair w l) => h.2.2) pre
    have hcn := x.2.2.2
    obtain ⟨N, hN⟩ : ∃ N : Nat, countL (valsP pre) = N := ⟨_, rfl⟩
    obtain ⟨C, hC⟩ : ∃ C : Nat, x.1.t.count = C := ⟨_, rfl⟩
    have HS := hid (show countL (valsP (pre ++ [x])) = N + C by rw [← hN, ← hC]; simp [valsP, countL_append, countL])
    rw [hN] at hc hle
    rw [hC] at CL hcn
    have hln := HCL.out
    have h1 : (0 : Int) ≤ N := by omega
    have h2 : (N : Int) ≤ 4611686018427387904 := by omega
    have h3 : (C : Int) ≤ 1000000 := by omega
    have HWR : Hid (IntKind.i64.wrap ((N : Int) + C) = ((N + C : Nat) : Int)) := by show _ = _; rw [IntKind.wrap_i64]; omega
    have CL2 := hid (CallsIn.mono (R' := fun e w' => e = .returned (.int .i64 C) ∧ w'.cell? ⟨w.heap.size + 1, 0, none⟩ = some (.int .i64 N) ∧ w'.frozen? ⟨w.heap.size + 1, 0, none⟩ = false ∧ Hid (Below W.heap.size W w')) CL (by
      rintro e w' ⟨rfl, hb⟩
      have hb' : Below W.heap.size W w' := hBd.trans (hb.mono hBd.size)
      exact ⟨rfl, Go.Proofs.YtepbjkkakfpjgaaGreatDoor.keep hb' hc, (hb'.frozen (p := ⟨w.heap.size + 1, 0, none⟩) (World.block_lt_of_cell? W _ hc)).trans hf, hb'⟩))
    have hmix : Tryz.prog.follows .mixedOrders = true := by kernel_rfl
    clear hN hC hle hcn hln hsz hbx hc0 hf0 HM HF hB0 CL
    have HB := hid hB
    unfold Lst.val
    clear hB hBd
    gi_wp2_with fail
    gi_region_with_o (refine ⟨trivial, ?_⟩; refine (CallsIn.inRound l CL2.out).mono ?_; rintro e W3 ⟨rfl, hc3, hf3, hb3⟩)
    all_goals
      gi_wp2
      exact ⟨(keepsOthers_below hb3.out).trans (KeepsOthers.setCell _ _ _), (KeptB.of_below hb3.out HB.out.size).setCell (p := ⟨w.heap.size + 1, 0, none⟩) (by simp) (by simp) _,
        ⟨by rw [HS.out, ← HWR.out]; exact World.cell?_setCell_same' _ _ _ (by rw [hc3]; rfl), by rw [World.frozen?_setCell]; exact hf3⟩, (HB.out.trans (hb3.out.mono HB.out.size)).setCell (p := ⟨w.heap.size + 1, 0, none⟩) (by simp) _⟩
  case done =>
    rintro D ys W hD rfl ⟨⟨hc, _⟩, hB⟩ hK
    rw [valsP_with] at hc
    have HE : Hid (m.size = countL m.codes) := rfl
    gi_wp2
    refine ⟨by simp, .inl ⟨_, _, rfl, run_takeDeferred hK, ?_⟩⟩
    exact ⟨_, results_tmp rfl _ _ _, by rw [HE.out]; rfl, hB.trans (belowK_b (w := w) (Nat.le_refl _) W D _ _ (by omega) hK rfl rfl)⟩
  case stop =>
    rintro D c pre W _ _ h _
    exact h.elim
theorem worstP_snoc (pre : List Lst) (x : Lst) (a : Int) : worstP (pre ++ [x]) a = if checkP x.t = 0 then worstP pre a else checkP x.t := by rw [worstP_append]; rfl
/-- What the loop of codeError holds in its own cells: result, worst. -/
structure Cod (g : Nat) (r : Int) (n : Int) (W : World) : Prop where
  res : W.cell? ⟨g + 1, 0, none⟩ = some (.int .i64 r)
  num : W.cell? ⟨g + 1 + 1, 0, none⟩ = some (.int .i64 n)
  fres : W.frozen? ⟨g + 1, 0, none⟩ = false
  fnum : W.frozen? ⟨g + 1 + 1, 0, none⟩ = false
theorem Cod.own {g : Nat} {r n : Int} {A B : World} {row : Option Nat} (h : Cod g r n A) (hg : A.grownBy B row) (hr : ∀ r, row = some r → ∃ o : Obj, A.heap[r]? = some o ∧ o.isCells = false) : Cod g r n B :=
  ⟨cell_kept h.res hg hr, cell_kept h.num hg hr, (frozen_kept h.res hg hr).trans h.fres, (frozen_kept h.num hg hr).trans h.fnum⟩
theorem Cod.below {g : Nat} {r n : Int} {A B : World} (h : Cod g r n A) (hb : Below A.heap.size A B) : Cod g r n B :=
  have f : ∀ p v, A.cell? p = some v → A.frozen? p = false → B.frozen? p = false := fun p _ hc hf => (hb.frozen (World.block_lt_of_cell? A p hc)).trans hf
  ⟨Go.Proofs.YtepbjkkakfpjgaaGreatDoor.keep hb h.res, Go.Proofs.YtepbjkkakfpjgaaGreatDoor.keep hb h.num, f _ _ h.res h.fres, f _ _ h.num h.fnum⟩
theorem Cod.set {g : Nat} {r n n' : Int} {A : World} (h : Cod g r n A) : Cod g r n' (A.setCell ⟨g + 1 + 1, 0, none⟩ (.int .i64 n')) := by
  obtain ⟨r1, r2, f1, f2⟩ := h
  constructor <;> simp [go_sem, *]
set_option maxRecDepth 100000 in
set_option maxHeartbeats 4000000 in
theorem codeError_any (m : Md) (w : World) (hT : Nams w) (hm : ModAt w.heap.size w m) (hf : m.few) :
    Calls Tryz.prog 52 #[.agg m.v] w fun e w' => e = .returned (.int .i64 (codeP m.codes)) ∧ Below w.heap.size w w' := by
  have HM := hid hm
  have HF := hid hf
  have hbx := BoxAt.made (((w.alloc (.cells m.v 32)).alloc (.cells #[.int .i64 0] 36)).alloc (.cells #[.int .i64 0] 36)) m.v 32
  have hS0 : Cod w.heap.size 0 0 (((w.alloc (.cells m.v 32)).alloc (.cells #[.int .i64 0] 36)).alloc (.cells #[.int .i64 0] 36)) := by constructor <;> go_simp
  have hS1 := hS0.below ((Below.refl _ _).alloc (Nat.le_refl _) (.cells m.v 32))
  have hB0 : Below w.heap.size w ((((w.alloc (.cells m.v 32)).alloc (.cells #[.int .i64 0] 36)).alloc (.cells #[.int .i64 0] 36)).alloc (.cells m.v 32)) := thenA (thenA (thenA (thenA (Below.refl _ _) _) _) _) _
  have hsz : ((((w.alloc (.cells m.v 32)).alloc (.cells #[.int .i64 0] 36)).alloc (.cells #[.int .i64 0] 36)).alloc (.cells m.v 32)).heap.size = w.heap.size + 4 := by simp
  simp only [World.size_alloc] at hbx
  clear hm hf hS0
  unfold Md.v at hbx hB0 hsz hS1 ⊢
  refine (callsIn_wide (n := 3)).1 ?_
  refine callsIn_of_wp_marks Tryz.func52 rfl trivial ?_ rfl
  simp only [Tryz.ntmps52, List.size_toArray, List.length_cons, List.length_nil, Nat.reduceAdd, Nat.reduceSub, Array.replicate_succ, Array.replicate_zero, List.push_toArray, List.append_toArray, List.nil_append, List.cons_append]
  gi_wp2_with fail
  refine ⟨trivial, ?_⟩
  refine (codes_in _ m _).mono ?_
  unfold Md.v
  rintro e w' ⟨rfl, rfl⟩
  gi_wp2
  generalize ((((w.alloc (.cells #[.slice m.ty'.a m.ty.length m.ty'.c, .slice m.im'.a m.im.length m.im'.c, .slice m.fu'.a m.fu.length m.fu'.c, .slice m.tb'.a m.tb.length m.tb'.c, .slice m.me'.a m.me.length m.me'.c, .slice m.gl'.a m.gl.length m.gl'.c, .slice m.ex'.a m.ex.length m.ex'.c, .bool m.st, .int .u32 m.sn, .slice m.el'.a m.el.length m.el'.c, .slice m.da'.a m.da.length m.da'.c] 32)).alloc (.cells #[.int .i64 0] 36)).alloc (.cells #[.int .i64 0] 36)).alloc (.cells #[.slice m.ty'.a m.ty.length m.ty'.c, .slice m.im'.a m.im.length m.im'.c, .slice m.fu'.a m.fu.length m.fu'.c, .slice m.tb'.a m.tb.length m.tb'.c, .slice m.me'.a m.me.length m.me'.c, .slice m.gl'.a m.gl.length m.gl'.c, .slice m.ex'.a m.ex.length m.ex'.c, .bool m.st, .int .u32 m.sn, .slice m.el'.a m.el.length m.el'.c, .slice m.da'.a m.da.length m.da'.c] 32)) = W0 at hbx hB0 hsz hS1 ⊢
  have HB0 := hid hB0
  refine wpIn_rangeFunc_ownF rfl (by omega) (gf := 136) (lb := #[.pointer (some ⟨w.heap.size + 1 + 1 + 1, 0, none⟩)]) rfl trivial (enters_of Tryz.func136 (by kernel_rfl) rfl)
    (codes_stops _ w.heap.size (w.heap.size + 1 + 1 + 1) m W0 (by omega) (by omega) hbx (HM.out.below hB0) HF.out.fit (Fair w) (fair_all HM.out HF.out)) (fun h k => h.trans k) (keptB_b (by omega)) (Below.refl _ _) (fun _ => rfl)
    (fun pre W => ((∀ y ∈ valsP pre, checkP y.t ≠ 141) ∧ Cod w.heap.size 0 (worstP (valsP pre) 0) W) ∧ Below w.heap.size w W)
    (fun c pre W => (c = .ret ∧ (∃ y ∈ valsP pre, checkP y.t = 141) ∧ W.cell? ⟨w.heap.size + 1, 0, none⟩ = some (.int .i64 141)) ∧ Below w.heap.size w W)
    (OwnFrom.and (Own.from (fun s A B row hs hg hr => ⟨hs.1, hs.2.own hg hr⟩) _) (ownFrom_below (Nat.le_refl _) (by omega)))
    (fun c => OwnFrom.and (Own.from (fun s A B row hs hg hr => ⟨hs.1, hs.2.1, cell_kept hs.2.2 hg hr⟩) _) (ownFrom_below (Nat.le_refl _) (by omega)))
    ⟨⟨by simp [valsP], hS1⟩, hB0⟩
    (fun x => { tmps := #[.agg #[.slice m.ty'.a m.ty.length m.ty'.c, .slice m.im'.a m.im.length m.im'.c, .slice m.fu'.a m.fu.length m.fu'.c, .slice m.tb'.a m.tb.length m.tb'.c, .slice m.me'.a m.me.length m.me'.c, .slice m.gl'.a m.gl.length m.gl'.c, .slice m.ex'.a m.ex.length m.ex'.c, .bool m.st, .int .u32 m.sn, .slice m.el'.a m.el.length m.el'.c, .slice m.da'.a m.da.length m.da'.c], .pointer (some ⟨w.heap.size, 0, none⟩), .pointer (some ⟨w.heap.size + 1, 0, none⟩), .pointer (some ⟨w.heap.size + 1 + 1, 0, none⟩), x.1.val, undef, .agg #[.slice m.ty'.a m.ty.length m.ty'.c, .slice m.im'.a m.im.length m.im'.c, .slice m.fu'.a m.fu.length m.fu'.c, .slice m.tb'.a m.tb.length m.tb'.c, .slice m.me'.a m.me.length m.me'.c, .slice m.gl'.a m.gl.length m.gl'.c, .slice m.ex'.a m.ex.length m.ex'.c, .bool m.st, .int .u32 m.sn, .slice m.el'.a m.el.length m.el'.c, .slice m.da'.a m.da.length m.da'.c], .func (.func 136) #[] #[.pointer (some ⟨w.heap.size + 1 + 1 + 1, 0, none⟩)], x.1.val, undef, undef, undef, undef, undef, undef, undef, undef, undef, undef], defers := [] }) ?assign ?body ?done ?stop
  case assign =>
    intro l x W K hK
    gi_wp2
    simpa [encP] using hK
  case body =>
    rintro l pre x W ⟨⟨hla, hch⟩, hB⟩ hlt
    have CL := callsIn_wide (n := 0) |>.2 (Check_any x.1.a x.1.t.len x.1.c x.1.t W (hT.below hB) (x.2.at hB) (by have := x.2.2.2; omega) x.2.2.1)
    obtain ⟨N, hN⟩ : ∃ N : Int, worstP (valsP pre) 0 = N := ⟨_, rfl⟩
    obtain ⟨C, hC⟩ : ∃ C : Int, checkP x.1.t = C := ⟨_, rfl⟩
    have HV := hid (show valsP (pre ++ [x]) = valsP pre ++ [x.1] by simp [valsP])
    have HS := hid (show worstP (valsP pre ++ [x.1]) 0 = if C = 0 then N else C by rw [worstP_snoc, hN, hC])
    have HCC := hid (show C = 0 ∨ C = 141 ∨ C = 2 from hC ▸ checkP_cases x.1.t)
    have HC := hid hC
    rw [hN] at hch
    rw [hC] at CL
    have CL2 := hid (CallsIn.mono (R' := fun e w' => e = .returned (.int .i64 C) ∧ Cod w.heap.size 0 N w' ∧ Hid (Below W.heap.size W w')) CL (by
      rintro e w' ⟨rfl, hb⟩
      exact ⟨rfl, hch.below hb, hb⟩))
    have HLA := hid hla
    have HB := hid hB
    clear hN hC hsz hbx hS1 HM HF hB0 CL hla hB hch
    unfold Lst.val
    rcases HCC.out with h | h | h
    · have HS0 := hid (show worstP (valsP (pre ++ [x])) 0 = N by rw [HV.out, HS.out, if_pos h])
      subst h
      gi_wp2_with (refine ⟨trivial, ?_⟩; refine (CallsIn.inRound l CL2.out).mono ?_; rintro e W3 ⟨rfl, hk3, hb3⟩)
      exact ⟨keepsOthers_below hb3.out, KeptB.of_below hb3.out HB.out.size, ⟨by rw [HV.out]; intro y hy; rcases List.mem_append.1 hy with hy | hy; exact HLA.out y hy; rw [List.mem_singleton.1 hy, HC.out]; omega, by rw [HS0.out]; exact hk3⟩, HB.out.trans (hb3.out.mono HB.out.size)⟩
    · have HY := hid (show ∃ y ∈ valsP (pre ++ [x]), checkP y.t = 141 from ⟨x.1, by rw [HV.out]; simp, by rw [HC.out, h]⟩)
      subst h
      gi_wp2_with (refine ⟨trivial, ?_⟩; refine (CallsIn.inRound l CL2.out).mono ?_; rintro e W3 ⟨rfl, ⟨k1, k2, k3, k4⟩, hb3⟩)
      exact ⟨(keepsOthers_below hb3.out).trans (KeepsOthers.setCell _ _ _), ⟨rfl, HY.out, World.cell?_setCell_same' _ _ _ (by rw [k1]; rfl)⟩, (HB.out.trans (hb3.out.mono HB.out.size)).setCell (p := ⟨w.heap.size + 1, 0, none⟩) (by simp) _⟩
    · have HS0 := hid (show worstP (valsP (pre ++ [x])) 0 = 2 by rw [HV.out, HS.out, if_neg (by omega), h])
      subst h
      gi_wp2_with (refine ⟨trivial, ?_⟩; refine (CallsIn.inRound l CL2.out).mono ?_; rintro e W3 ⟨rfl, hk3, hb3⟩; have hk3' := hid hk3; obtain ⟨k1, k2, k3, k4⟩ := hk3)
      exact ⟨(keepsOthers_below hb3.out).trans (KeepsOthers.setCell _ _ _), (KeptB.of_below hb3.out HB.out.size).setCell (p := ⟨w.heap.size + 1 + 1, 0, none⟩) (by simp; omega) (by simp) _,
        ⟨by rw [HV.out]; intro y hy; rcases List.mem_append.1 hy with hy | hy; exact HLA.out y hy; rw [List.mem_singleton.1 hy, HC.out]; omega, by rw [HS0.out]; exact hk3'.out.set⟩, (HB.out.trans (hb3.out.mono HB.out.size)).setCell (p := ⟨w.heap.size + 1 + 1, 0, none⟩) (by simp; omega) _⟩
  case done =>
    rintro D ys W hD rfl ⟨⟨hla, hch⟩, hB⟩ hK
    rw [valsP_with] at hla hch
    obtain ⟨h1, _⟩ := codeP_none m.codes 0 hla (.inl rfl)
    rw [if_neg (by omega)] at h1
    rw [h1] at hch
    obtain ⟨q, hq⟩ : ∃ q, codeP m.codes = q := ⟨_, rfl⟩
    rw [hq] at hch
    have HQ := hid hq
    clear hq h1 hla
    obtain ⟨r1, r2, f1, f2⟩ := hch
    gi_wp2
    have hK' := (KeepsOthers.setCell W ⟨w.heap.size + 1, 0, none⟩ (.int .i64 q)).same D _ hK rfl
    refine ⟨by simp, .inl ⟨_, _, rfl, run_takeDeferred hK', ?_⟩⟩
    have hc5 := cell_kept (World.cell?_setCell_same' W ⟨w.heap.size + 1, 0, none⟩ (.int .i64 q) (by rw [r1]; rfl)) (grownBy_putObj' _ D (.deferred none)) (fun r e => by cases e; exact ⟨_, hK', rfl⟩)
    refine ⟨.int .i64 q, ?_, by rw [HQ.out], (hB.setCell (p := ⟨w.heap.size + 1, 0, none⟩) (by simp) _).trans (belowK_b (w := w) (Nat.le_refl _) _ D _ _ (by omega) hK' rfl rfl)⟩
    simp [results, Tryz.f52, go_sem, hc5]
  case stop =>
    rintro D c pre W hD hpre ⟨⟨rfl, ⟨y, hy, hy1⟩, hc2⟩, hB⟩ hK
    have HR : Hid (codeP m.codes = 141) := by
      show _ = _
      refine codeP_many _ y ?_ hy1
      rw [← valsP_with m (Fair w) (fair_all HM.out HF.out)]
      unfold valsP at hy ⊢
      obtain ⟨z, hz⟩ := hpre
      rw [← hz, List.map_append]
      exact List.mem_append_left _ hy
    clear hy hy1 hpre
    gi_wp2
    refine ⟨by simp, .inl ⟨_, _, rfl, run_takeDeferred hK, ?_⟩⟩
    have hc5 := cell_kept hc2 (grownBy_putObj' _ D (.deferred none)) (fun r e => by cases e; exact ⟨_, hK, rfl⟩)
    refine ⟨.int .i64 141, ?_, by rw [HR.out], hB.trans (belowK_b (w := w) (Nat.le_refl _) W D _ _ (by omega) hK rfl rfl)⟩
    simp [results, Tryz.f52, go_sem, hc5]
end Go.Proofs.YtepbjkkakfpjgaaGreatDoor.Mod

/-
  MODULE: the small predicates: what is wrong with a number, an import, a function, an export, a type, limits; how long a name is.
-/
namespace Go.Proofs.YtepbjkkakfpjgaaGreatDoor.Mod
open Go.RowKit Go.Proofs.YtepbjkkakfpjgaaGreatDoor.Instr

theorem wrongN_any (n : Int) (w : World) : Calls Tryz.prog 126 #[.int .i64 n] w fun e w' => e = .returned (.bool (wrongN n)) ∧ w = w' := by
  have H : Hid (wrongN n = (decide (n < 0) || decide (2147483647 < n))) := rfl
  by_cases h : n < 0
  · have HE : Hid (wrongN n = true) := by show _ = _; rw [H.out]; simp [h]
    go_enter Tryz.func126, Tryz.ntmps126
    go_wp2
    go_ret
    exact ⟨ret_bool HE.out.symm, rfl⟩
  · have h' : decide (n < 0) = false := by simpa using h
    have HE : Hid (wrongN n = decide (2147483647 < n)) := by show _ = _; rw [H.out, h', Bool.false_or]
    clear H
    go_enter Tryz.func126, Tryz.ntmps126
    go_wp2
    go_ret
    exact ⟨ret_bool HE.out.symm, rfl⟩
theorem wrongI_any (x : Imp) (w : World) : Calls Tryz.prog 66 #[.agg #[.string x.mo, .string x.na, .int .i64 x.ty]] w fun e w' => e = .returned (.bool (wrongI x)) ∧ Below w.heap.size w w' := by
  unfold wrongI
  obtain ⟨q, hq⟩ : ∃ q, wrongN x.ty = q := ⟨_, rfl⟩
  have C := hid (fun w => wrongN_any x.ty w)
  rw [hq] at C ⊢
  clear hq
  go_enter Tryz.func66, Tryz.ntmps66
  go_wp2_with fail
  refine (C.out _).mono ?_
  rintro e w1 ⟨rfl, rfl⟩
  go_wp2
  go_ret
  exact ⟨rfl, (Below.refl _ _).alloc (Nat.le_refl _) _⟩
set_option maxHeartbeats 800000 in
theorem wrongF_any (x : Fn) (w : World) : Calls Tryz.prog 69 #[.agg #[.int .i64 x.ty, .int .i64 x.lo, .slice x.l.a x.l.t.len x.l.c]] w fun e w' => e = .returned (.bool (wrongF x)) ∧ Below w.heap.size w w' := by
  have H : Hid (wrongF x = (wrongN x.ty || (decide (x.lo < 0) || decide (50000 < x.lo)))) := rfl
  obtain ⟨q, hq⟩ : ∃ q, wrongN x.ty = q := ⟨_, rfl⟩
  have C := hid (fun w => wrongN_any x.ty w)
  rw [hq] at C H
  clear hq
  obtain ⟨lo, hlo⟩ : ∃ lo, x.lo = lo := ⟨_, rfl⟩
  rw [hlo] at H ⊢
  clear hlo
  cases q with
  | true =>
    have HE : Hid (wrongF x = true) := by show _ = _; rw [H.out]; rfl
    go_enter Tryz.func69, Tryz.ntmps69
    go_wp2_with fail
    refine (C.out _).mono ?_
    rintro e w1 ⟨rfl, rfl⟩
    go_wp2
    go_ret
    exact ⟨ret_bool HE.out.symm, (Below.refl _ _).alloc (Nat.le_refl _) _⟩
  | false =>
    by_cases h : lo < 0
    · have HE : Hid (wrongF x = true) := by show _ = _; rw [H.out]; simp [h]
      go_enter Tryz.func69, Tryz.ntmps69
      go_wp2_with fail
      refine (C.out _).mono ?_
      rintro e w1 ⟨rfl, rfl⟩
      go_wp2
      go_ret
      exact ⟨ret_bool HE.out.symm, (Below.refl _ _).alloc (Nat.le_refl _) _⟩
    · have h' : decide (lo < 0) = false := by simpa using h
      have HE : Hid (wrongF x = decide (50000 < lo)) := by show _ = _; rw [H.out, h', Bool.false_or, Bool.false_or]
      go_enter Tryz.func69, Tryz.ntmps69
      go_wp2_with fail
      refine (C.out _).mono ?_
      rintro e w1 ⟨rfl, rfl⟩
      go_wp2
      go_ret
      exact ⟨ret_bool HE.out.symm, (Below.refl _ _).alloc (Nat.le_refl _) _⟩
theorem wrongE_any (x : Ex) (w : World) : Calls Tryz.prog 72 #[.agg #[.string x.na, .int .i64 x.k, .int .u32 x.i]] w fun e w' => e = .returned (.bool (wrongE x)) ∧ Below w.heap.size w w' := by
  have H : Hid (wrongE x = (decide (x.k < 0) || decide (3 < x.k))) := rfl
  obtain ⟨lo, hlo⟩ : ∃ lo, x.k = lo := ⟨_, rfl⟩
  rw [hlo] at H ⊢
  clear hlo
  by_cases h : lo < 0
  · have HE : Hid (wrongE x = true) := by show _ = _; rw [H.out]; simp [h]
    go_enter Tryz.func72, Tryz.ntmps72
    go_wp2
    go_ret
    exact ⟨ret_bool HE.out.symm, (Below.refl _ _).alloc (Nat.le_refl _) _⟩
  · have h' : decide (lo < 0) = false := by simpa using h
    have HE : Hid (wrongE x = decide (3 < lo)) := by show _ = _; rw [H.out, h', Bool.false_or]
    go_enter Tryz.func72, Tryz.ntmps72
    go_wp2
    go_ret
    exact ⟨ret_bool HE.out.symm, (Below.refl _ _).alloc (Nat.le_refl _) _⟩
theorem isLong_any (s : ByteArray) (w : World) : Calls Tryz.prog 55 #[.string s] w fun e w' => e = .returned (.bool (longS s)) ∧ Below w.heap.size w w' := by
  have HE : Hid (longS s = decide (1000 < s.size)) := rfl
  go_enter Tryz.func55, Tryz.ntmps55
  go_wp2
  go_ret
  exact ⟨ret_bool (by rw [HE.out]; simp; omega), Below.refl _ _⟩
theorem wrongT_any (x : Int × Int) (w : World) : Calls Tryz.prog 63 #[.agg #[.int .i64 x.1, .int .i64 x.2]] w fun e w' => e = .returned (.bool (wrongT x)) ∧ Below w.heap.size w w' := by
  have C := hid (fun w => Kind.check_any x.1 x.2 w)
  unfold Kind.codeType at C
  unfold wrongT
  obtain ⟨q, hq⟩ : ∃ q, Kind.okType x.1 x.2 = q := ⟨_, rfl⟩
  rw [hq] at C ⊢
  clear hq
  cases q
  all_goals
    simp only [Bool.false_eq_true, if_true, if_false] at C
    go_enter Tryz.func63, Tryz.ntmps63
    go_wp2_with fail
    refine (C.out _).mono ?_
    rintro e w1 ⟨rfl, hb1⟩
    go_wp2
    go_ret
    exact ⟨rfl, thenB ((Below.refl _ _).alloc (Nat.le_refl _) _) hb1⟩
theorem beyond_any (x : Li) (g : Nat) (most : Int) (w : World) (hc : w.cell? ⟨g, 0, none⟩ = some (.int .u32 most)) :
    Calls Tryz.prog 129 #[.agg #[.int .u32 x.n, .int .u32 x.x, .bool x.c], .pointer (some ⟨g, 0, none⟩)] w fun e w' => e = .returned (.bool (beyond most x)) ∧ Below w.heap.size w w' := by
  have C := hid (fun w => Kind.checkLimits_any x.n x.x x.c most w)
  unfold Kind.codeLim at C
  unfold beyond
  obtain ⟨q, hq⟩ : ∃ q, Kind.okLim x.n x.x x.c most = q := ⟨_, rfl⟩
  rw [hq] at C ⊢
  clear hq
  have hg := World.block_lt_of_cell? w _ hc
  cases q
  all_goals
    simp only [Bool.false_eq_true, if_true, if_false] at C
    go_enter Tryz.func129, Tryz.ntmps129
    go_wp2_with fail
    refine (C.out _).mono ?_
    rintro e w1 ⟨rfl, hb1⟩
    go_wp2
    go_ret
    exact ⟨rfl, thenB ((Below.refl _ _).alloc (Nat.le_refl _) _) hb1⟩
end Go.Proofs.YtepbjkkakfpjgaaGreatDoor.Mod
