/-
  MODULE: errIf, crowded, heavy, by contract.
-/
import Derived.Test.YtlfflomeaplidaaDoorModHeap
namespace Go.Proofs.YtlfflomeaplidaaDoor.Mod
open Go.RowKit Go.Proofs.YtlfflomeaplidaaDoor.Instr

def errI (b : Bool) (e : Int) : Int := if b then e else 0
theorem errIf_any (b : Bool) (e : Int) (w : World) : Calls Tryd.prog 34 #[.bool b, .int .i64 e] w fun x w' => x = .returned (.int .i64 (errI b e)) ∧ w = w' := by
  cases b
  all_goals
    go_enter Tryd.func34, Tryd.ntmps34
    go_wp2
    go_ret
    exact ⟨rfl, rfl⟩
theorem max_two (x y : Int) : max x y = if y > x then y else x := by split <;> omega
set_option maxHeartbeats 1000000 in
theorem crowded_any (m : Md) (w : World) (hm : ModAt w.heap.size w m) (hf : m.fits) :
    Calls Tryd.prog 35 #[.agg m.v] w fun e w' => e = .returned (.bool m.crowded) ∧ Below w.heap.size w w' := by
  have hb0 := (Below.refl w.heap.size w).alloc (Nat.le_refl _) (.cells m.v 46)
  have HE := hid (crowded_eq m)
  have HR := hid (hm.on hb0).el
  have HB := hid hb0
  have HX := hid (BoxAt.made w m.v 46)
  have hl := hf.el
  have hmx : ∀ (ts : Array TypeId) (t : TypeId) (w : World), Sem.run Tryd.prog (Builtin.max_ ts t #[.int .i64 (m.ty.length : Int), .int .i64 (m.im.length : Int), .int .i64 (m.fu.length : Int), .int .i64 (m.gl.length : Int), .int .i64 (m.ex.length : Int), .int .i64 (m.el.length : Int), .int .i64 (m.da.length : Int)]) w = .ok (.int .i64 m.max7) w := by
    intro ts t w
    unfold Md.max7
    simp only [max_two]
    simp [Builtin.max_, Builtin.max2]
  obtain ⟨L0, hL0⟩ : ∃ L0, m.max7 = L0 := ⟨_, rfl⟩
  rw [hL0] at HE hmx
  unfold Md.v at HR HB HX ⊢
  clear hm hf hb0 hL0
  generalize m.el'.a = a at HR HB HX ⊢
  go_enter Tryd.func35, Tryd.ntmps35
  go_wp2
  clear hmx
  obtain ⟨n, hn⟩ : ∃ n, m.el.length = n := ⟨_, rfl⟩
  have HN := hid hn
  rw [hn] at HX HB HR hl ⊢
  clear hn
  generalize w.alloc (.cells #[.slice m.ty'.a m.ty.length m.ty'.c, .slice m.im'.a m.im.length m.im'.c, .slice m.fu'.a m.fu.length m.fu'.c, .slice m.tb'.a m.tb.length m.tb'.c, .slice m.me'.a m.me.length m.me'.c, .slice m.gl'.a m.gl.length m.gl'.c, .slice m.ex'.a m.ex.length m.ex'.c, .bool m.st, .int .u32 m.sn, .slice a n m.el'.c, .slice m.da'.a m.da.length m.da'.c] 46) = W0 at HX HB HR ⊢
  go_loopw [3, 31] (fun vl vi wr => ∃ (k : Nat) (L : Int), vl = .int .i64 L ∧ vi = .int .i64 k ∧ k ≤ n ∧ Hid (L = longP (m.el.take k) L0) ∧ Hid (Below W0.heap.size W0 wr)) (fun _ vi _ => n - (intOf vi).toNat)
  case atStart => exact ⟨0, L0, rfl, rfl, Nat.zero_le _, rfl, Below.refl _ _⟩
  case round =>
    obtain ⟨k, L, rfl, rfl, hk, HL, HW⟩ := hrel
    by_cases hlt : k < n
    · have hkl : k < m.el.length := by rw [HN.out]; exact hlt
      obtain ⟨b, off, rfl, hb, hc⟩ := Rows.get HR.out hkl
      have HS := hid (show longP (m.el.take (k + 1)) L0 = max L (m.el[k].fs.length : Int) by rw [List.take_succ_eq_append_getElem hkl, longP_snoc, ← HL.out])
      obtain ⟨x, hxe⟩ : ∃ x, m.el[k] = x := ⟨_, rfl⟩
      rw [hxe] at hc HS
      have cc : ∀ j, j < 2 → ∀ v, x.v[j]? = some v → wr.cell? ⟨b, off + k * 2 + j, none⟩ = some v := fun j hj v hv => (HW.out.cell (p := ⟨b, off + k * 2 + j, none⟩) hb).trans (hc j hj v hv)
      have c0 : wr.cell? ⟨b, off + k * 2, none⟩ = some x.l.val := cc 0 (by omega) _ rfl
      have c1 : wr.cell? ⟨b, off + k * 2 + 1, none⟩ = some (.slice x.fa x.fs.length x.fc) := cc 1 (by omega) _ rfl
      have hki : (k : Int) < (n : Int) := by omega
      unfold Lst.val at c0
      have HW' := hid (show Below W0.heap.size W0 (wr.alloc (.cells #[.slice x.l.a x.l.t.len x.l.c, .slice x.fa x.fs.length x.fc] 79)) from HW.out.alloc HW.out.size _)
      clear hxe hc cc hb
      by_cases hgt : (x.fs.length : Int) > L
      · have HS' := hid (show (x.fs.length : Int) = longP (m.el.take (k + 1)) L0 by rw [HS.out]; omega)
        go_wp2
        go_roundw
        case rel => exact ⟨k + 1, _, rfl, by go_num, by omega, HS', HW'⟩
        case measure => simp [intOf]; omega
      · have HS' := hid (show L = longP (m.el.take (k + 1)) L0 by rw [HS.out]; omega)
        go_wp2
        go_roundw
        case rel => exact ⟨k + 1, _, rfl, by go_num, by omega, HS', HW'⟩
        case measure => simp [intOf]; omega
    · obtain rfl : k = n := by omega
      have HE' := hid (show m.crowded = (decide (16384 < L) || (decide (1 < m.tb.length) || decide (1 < m.me.length))) by rw [HE.out, HL.out, ← HN.out, List.take_length])
      have x3 := Go.Proofs.YtlfflomeaplidaaDoor.keep HW.out (HX.out 3 _ rfl)
      have x4 := Go.Proofs.YtlfflomeaplidaaDoor.keep HW.out (HX.out 4 _ rfl)
      have HF := hid (HB.out.trans (HW.out.mono HB.out.size))
      clear HR HL HX HE HW HB
      by_cases h1 : 16384 < L
      · have HC := hid (show m.crowded = true by rw [HE'.out, decide_eq_true h1, Bool.true_or])
        clear HE'
        go_wp2
        go_ret
        exact ⟨ret_bool HC.out.symm, HF.out⟩
      · by_cases h2 : (1 : Int) < (m.tb.length : Int)
        · have HC := hid (show m.crowded = true by rw [HE'.out, decide_eq_true (show 1 < m.tb.length by omega), Bool.true_or, Bool.or_true])
          clear HE'
          go_wp2
          go_ret
          exact ⟨ret_bool HC.out.symm, HF.out⟩
        · have HC := hid (show m.crowded = decide (1 < m.me.length) by rw [HE'.out, decide_eq_false h1, decide_eq_false (show ¬ 1 < m.tb.length by omega), Bool.false_or, Bool.false_or])
          clear HE'
          go_wp2
          go_ret
          exact ⟨ret_bool (by rw [HC.out]; simp; omega), HF.out⟩

set_option maxHeartbeats 1000000 in
theorem heavy_any (l : List Da) (a : Option Addr) (n c : Nat) (w : World) (hn : l.length = n) (hr : Rows w.heap.size w a 2 (l.map Da.v)) (hl : n ≤ 140737488351232) :
    Calls Tryd.prog 42 #[.slice a n c] w fun e w' => e = .returned (.bool (decide (1048576 < sumB l))) ∧ Below w.heap.size w w' := by
  have HR := hid hr
  have HN := hid hn
  clear hr hn
  go_enter Tryd.func42, Tryd.ntmps42
  go_wp2
  go_loopw [3, 8] (fun vl vi wr => ∃ (k : Nat) (L : Int), vl = .int .i64 L ∧ vi = .int .i64 k ∧ k ≤ n ∧ 0 ≤ L ∧ L ≤ 1048576 ∧ Hid (L = 1048576 - (sumB (l.take k) : Int)) ∧ Hid (Below w.heap.size w wr)) (fun _ vi _ => n - (intOf vi).toNat)
  case atStart => exact ⟨0, 1048576, rfl, rfl, Nat.zero_le _, by omega, by omega, rfl, Below.refl _ _⟩
  case round =>
    obtain ⟨k, L, rfl, rfl, hk, h0, h1, HL, HW⟩ := hrel
    by_cases hlt : k < n
    · have hkl : k < l.length := by rw [HN.out]; exact hlt
      obtain ⟨b, off, rfl, hb, hc⟩ := Rows.get HR.out hkl
      have HS := hid (sumB_step hkl)
      have HT := hid (sumB_take l (k + 1))
      obtain ⟨x, hxe⟩ : ∃ x, l[k] = x := ⟨_, rfl⟩
      rw [hxe] at hc HS
      have cc : ∀ j, j < 2 → ∀ v, x.v[j]? = some v → wr.cell? ⟨b, off + k * 2 + j, none⟩ = some v := fun j hj v hv => (HW.out.cell (p := ⟨b, off + k * 2 + j, none⟩) hb).trans (hc j hj v hv)
      have c0 : wr.cell? ⟨b, off + k * 2, none⟩ = some x.l.val := cc 0 (by omega) _ rfl
      have c1 : wr.cell? ⟨b, off + k * 2 + 1, none⟩ = some (.slice x.ba x.bs.length x.bc) := cc 1 (by omega) _ rfl
      have hki : (k : Int) < (n : Int) := by omega
      unfold Lst.val at c0
      have HW' := hid (show Below w.heap.size w (wr.alloc (.cells #[.slice x.l.a x.l.t.len x.l.c, .slice x.ba x.bs.length x.bc] 81)) from HW.out.alloc HW.out.size _)
      clear hxe hc cc hb
      by_cases hgt : L < (x.bs.length : Int)
      · have HC := hid (show decide (1048576 < sumB l) = true by rw [decide_eq_true_eq]; have := HS.out; have := HT.out; have := HL.out; omega)
        go_wp2
        go_ret
        exact ⟨ret_bool HC.out.symm, HW'.out⟩
      · have HL' := hid (show L - (x.bs.length : Int) = 1048576 - (sumB (l.take (k + 1)) : Int) by rw [HS.out]; have := HL.out; omega)
        go_wp2
        go_roundw
        case rel => exact ⟨k + 1, _, rfl, by go_num, by omega, by omega, by omega, HL', HW'⟩
        case measure => simp [intOf]; omega
    · obtain rfl : k = n := by omega
      have HC := hid (show decide (1048576 < sumB l) = false by rw [decide_eq_false_iff_not]; have := HL.out; rw [← HN.out, List.take_length] at this; omega)
      go_wp2
      go_ret
      exact ⟨ret_bool HC.out.symm, HW.out⟩
end Go.Proofs.YtlfflomeaplidaaDoor.Mod
