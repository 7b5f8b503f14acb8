/-
  MODULE: less and Pick by contract.
-/
import Derived.Test.YtlfflomeaplidaaDoorModLessP
namespace Go.Proofs.YtlfflomeaplidaaDoor.Mod
open Go.RowKit Go.Proofs.YtlfflomeaplidaaDoor.Instr
set_option linter.unusedVariables false

theorem Pick_any (x : Int) (w : World) (hx : -9223372036854775808 ≤ x ∧ x ≤ 9223372036854775807) : Calls Tryd.prog 19 #[.int .i64 x, .int .i64 9] w fun e w' => e = .returned (.int .i64 (x % 9)) ∧ w = w' := by
  obtain ⟨hx1, hx2⟩ := hx
  by_cases h : 0 ≤ x
  · have h1 : ¬ x % 9 < 0 := by omega
    go_enter Tryd.func19, Tryd.ntmps19
    go_wp2
    go_ret
    exact ⟨rfl, rfl⟩
  · have ht : x.tmod 9 = -((-x) % 9) := by
      rw [← Int.tmod_eq_emod_of_nonneg (by omega : 0 ≤ -x), Int.neg_tmod, Int.neg_neg]
    have h2 : 0 ≤ (-x) % 9 ∧ (-x) % 9 < 9 := by omega
    by_cases h3 : (-x) % 9 = 0
    · have h4 : x.tmod 9 = 0 := by omega
      have h5 : x % 9 = 0 := by omega
      have HX := hid h5
      clear ht h2 h3 h5
      go_enter Tryd.func19, Tryd.ntmps19
      go_wp2
      go_ret
      exact ⟨ret_int HX.out.symm, rfl⟩
    · obtain ⟨r, hr⟩ : ∃ r, x.tmod 9 = r := ⟨_, rfl⟩
      have h4 : r < 0 := by omega
      have h5 : -9 < r := by omega
      have HX := hid (show x % 9 = r + 9 by omega)
      clear ht h2 h3
      go_enter Tryd.func19, Tryd.ntmps19
      go_wp2
      go_ret
      exact ⟨ret_int HX.out.symm, rfl⟩
/-- The call's answer, whichever it is. -/
def Lessened (m : Md) (i : Nat) (w : World) (e : Ending) (w' : World) : Prop := e = .returned (.agg (m.less i).v) ∧ Below w.heap.size w w'

set_option maxHeartbeats 1000000 in
set_option maxRecDepth 100000 in
theorem less_0 (m : Md) (w : World) (hf : m.fits) (hc : m.caps) : Calls Tryd.prog 18 #[.agg m.v, .int .i64 0] w (Lessened m 0 w) := by
  have hl := hf.ty
  have hcp := hc.ty
  obtain ⟨n, hn⟩ : ∃ n, m.ty.length = n := ⟨_, rfl⟩
  have hd : m.ty.dropLast.length = n - 1 := by rw [List.length_dropLast, hn]
  rw [hn] at hl hcp
  unfold Md.v
  rw [hn]
  clear hf hc
  cases n with
  | zero =>
    have HD := hid hd
    have HN := hid hn
    clear hd hn
    go_enter Tryd.func18, Tryd.ntmps18
    go_wp2
    refine bodyPost_ret (v := .agg (m.less 0).v) ?_ rfl ⟨rfl, ?_⟩
    · simp [results, Tryd.results18, go_sem, Md.less, Md.v, HN.out]
    · exact thenA (thenA (Below.refl _ _) _) _
  | succ n =>
    have e1 : ((n + 1 : Nat) : Int) = (n : Int) + 1 := by omega
    have HD := hid (show m.ty.dropLast.length = n by omega)
    have h0 : (0 : Int) < (n : Int) + 1 := by omega
    have h0' : 0 < n + 1 := by omega
    have HC := hid hcp
    have hcq : (n : Int) ≤ (m.ty'.c : Int) := by omega
    rw [show (n + 1 : Nat) = n + 1 from rfl]
    clear hd hn
    go_enter Tryd.func18, Tryd.ntmps18
    go_wp2
    refine bodyPost_ret (v := .agg (m.less 0).v) ?_ rfl ⟨rfl, ?_⟩
    · simp [results, Tryd.results18, go_sem, Md.less, Md.v, HD.out]
    · exact thenA (thenA (Below.refl _ _) _) _

set_option maxHeartbeats 1000000 in
set_option maxRecDepth 100000 in
theorem less_1 (m : Md) (w : World) (hf : m.fits) (hc : m.caps) : Calls Tryd.prog 18 #[.agg m.v, .int .i64 1] w (Lessened m 1 w) := by
  have hl := hf.im
  have hcp := hc.im
  obtain ⟨n, hn⟩ : ∃ n, m.im.length = n := ⟨_, rfl⟩
  have hd : m.im.dropLast.length = n - 1 := by rw [List.length_dropLast, hn]
  rw [hn] at hl hcp
  unfold Md.v
  rw [hn]
  clear hf hc
  cases n with
  | zero =>
    have HD := hid hd
    have HN := hid hn
    clear hd hn
    go_enter Tryd.func18, Tryd.ntmps18
    go_wp2
    refine bodyPost_ret (v := .agg (m.less 1).v) ?_ rfl ⟨rfl, ?_⟩
    · simp [results, Tryd.results18, go_sem, Md.less, Md.v, HN.out]
    · exact thenA (thenA (Below.refl _ _) _) _
  | succ n =>
    have e1 : ((n + 1 : Nat) : Int) = (n : Int) + 1 := by omega
    have HD := hid (show m.im.dropLast.length = n by omega)
    have h0 : (0 : Int) < (n : Int) + 1 := by omega
    have h0' : 0 < n + 1 := by omega
    have HC := hid hcp
    have hcq : (n : Int) ≤ (m.im'.c : Int) := by omega
    rw [show (n + 1 : Nat) = n + 1 from rfl]
    clear hd hn
    go_enter Tryd.func18, Tryd.ntmps18
    go_wp2
    refine bodyPost_ret (v := .agg (m.less 1).v) ?_ rfl ⟨rfl, ?_⟩
    · simp [results, Tryd.results18, go_sem, Md.less, Md.v, HD.out]
    · exact thenA (thenA (Below.refl _ _) _) _

set_option maxHeartbeats 1000000 in
set_option maxRecDepth 100000 in
theorem less_2 (m : Md) (w : World) (hf : m.fits) (hc : m.caps) : Calls Tryd.prog 18 #[.agg m.v, .int .i64 2] w (Lessened m 2 w) := by
  have hl := hf.fu
  have hcp := hc.fu
  obtain ⟨n, hn⟩ : ∃ n, m.fu.length = n := ⟨_, rfl⟩
  have hd : m.fu.dropLast.length = n - 1 := by rw [List.length_dropLast, hn]
  rw [hn] at hl hcp
  unfold Md.v
  rw [hn]
  clear hf hc
  cases n with
  | zero =>
    have HD := hid hd
    have HN := hid hn
    clear hd hn
    go_enter Tryd.func18, Tryd.ntmps18
    go_wp2
    refine bodyPost_ret (v := .agg (m.less 2).v) ?_ rfl ⟨rfl, ?_⟩
    · simp [results, Tryd.results18, go_sem, Md.less, Md.v, HN.out]
    · exact thenA (thenA (Below.refl _ _) _) _
  | succ n =>
    have e1 : ((n + 1 : Nat) : Int) = (n : Int) + 1 := by omega
    have HD := hid (show m.fu.dropLast.length = n by omega)
    have h0 : (0 : Int) < (n : Int) + 1 := by omega
    have h0' : 0 < n + 1 := by omega
    have HC := hid hcp
    have hcq : (n : Int) ≤ (m.fu'.c : Int) := by omega
    rw [show (n + 1 : Nat) = n + 1 from rfl]
    clear hd hn
    go_enter Tryd.func18, Tryd.ntmps18
    go_wp2
    refine bodyPost_ret (v := .agg (m.less 2).v) ?_ rfl ⟨rfl, ?_⟩
    · simp [results, Tryd.results18, go_sem, Md.less, Md.v, HD.out]
    · exact thenA (thenA (Below.refl _ _) _) _

set_option maxHeartbeats 1000000 in
set_option maxRecDepth 100000 in
theorem less_3 (m : Md) (w : World) (hf : m.fits) (hc : m.caps) : Calls Tryd.prog 18 #[.agg m.v, .int .i64 3] w (Lessened m 3 w) := by
  unfold Md.v
  go_enter Tryd.func18, Tryd.ntmps18
  go_wp2
  refine bodyPost_ret (v := .agg (m.less 3).v) (by simp [results, Tryd.results18, go_sem, Md.less, Md.v]) rfl ⟨rfl, ?_⟩
  exact thenA (thenA (Below.refl _ _) _) _

set_option maxHeartbeats 1000000 in
set_option maxRecDepth 100000 in
theorem less_4 (m : Md) (w : World) (hf : m.fits) (hc : m.caps) : Calls Tryd.prog 18 #[.agg m.v, .int .i64 4] w (Lessened m 4 w) := by
  have hl := hf.gl
  have hcp := hc.gl
  obtain ⟨n, hn⟩ : ∃ n, m.gl.length = n := ⟨_, rfl⟩
  have hd : m.gl.dropLast.length = n - 1 := by rw [List.length_dropLast, hn]
  rw [hn] at hl hcp
  unfold Md.v
  rw [hn]
  clear hf hc
  cases n with
  | zero =>
    have HD := hid hd
    have HN := hid hn
    clear hd hn
    go_enter Tryd.func18, Tryd.ntmps18
    go_wp2
    refine bodyPost_ret (v := .agg (m.less 4).v) ?_ rfl ⟨rfl, ?_⟩
    · simp [results, Tryd.results18, go_sem, Md.less, Md.v, HN.out]
    · exact thenA (thenA (Below.refl _ _) _) _
  | succ n =>
    have e1 : ((n + 1 : Nat) : Int) = (n : Int) + 1 := by omega
    have HD := hid (show m.gl.dropLast.length = n by omega)
    have h0 : (0 : Int) < (n : Int) + 1 := by omega
    have h0' : 0 < n + 1 := by omega
    have HC := hid hcp
    have hcq : (n : Int) ≤ (m.gl'.c : Int) := by omega
    rw [show (n + 1 : Nat) = n + 1 from rfl]
    clear hd hn
    go_enter Tryd.func18, Tryd.ntmps18
    go_wp2
    refine bodyPost_ret (v := .agg (m.less 4).v) ?_ rfl ⟨rfl, ?_⟩
    · simp [results, Tryd.results18, go_sem, Md.less, Md.v, HD.out]
    · exact thenA (thenA (Below.refl _ _) _) _

set_option maxHeartbeats 1000000 in
set_option maxRecDepth 100000 in
theorem less_5 (m : Md) (w : World) (hf : m.fits) (hc : m.caps) : Calls Tryd.prog 18 #[.agg m.v, .int .i64 5] w (Lessened m 5 w) := by
  have hl := hf.ex
  have hcp := hc.ex
  obtain ⟨n, hn⟩ : ∃ n, m.ex.length = n := ⟨_, rfl⟩
  have hd : m.ex.dropLast.length = n - 1 := by rw [List.length_dropLast, hn]
  rw [hn] at hl hcp
  unfold Md.v
  rw [hn]
  clear hf hc
  cases n with
  | zero =>
    have HD := hid hd
    have HN := hid hn
    clear hd hn
    go_enter Tryd.func18, Tryd.ntmps18
    go_wp2
    refine bodyPost_ret (v := .agg (m.less 5).v) ?_ rfl ⟨rfl, ?_⟩
    · simp [results, Tryd.results18, go_sem, Md.less, Md.v, HN.out]
    · exact thenA (thenA (Below.refl _ _) _) _
  | succ n =>
    have e1 : ((n + 1 : Nat) : Int) = (n : Int) + 1 := by omega
    have HD := hid (show m.ex.dropLast.length = n by omega)
    have h0 : (0 : Int) < (n : Int) + 1 := by omega
    have h0' : 0 < n + 1 := by omega
    have HC := hid hcp
    have hcq : (n : Int) ≤ (m.ex'.c : Int) := by omega
    rw [show (n + 1 : Nat) = n + 1 from rfl]
    clear hd hn
    go_enter Tryd.func18, Tryd.ntmps18
    go_wp2
    refine bodyPost_ret (v := .agg (m.less 5).v) ?_ rfl ⟨rfl, ?_⟩
    · simp [results, Tryd.results18, go_sem, Md.less, Md.v, HD.out]
    · exact thenA (thenA (Below.refl _ _) _) _

set_option maxHeartbeats 1000000 in
set_option maxRecDepth 100000 in
theorem less_6 (m : Md) (w : World) (hf : m.fits) (hc : m.caps) : Calls Tryd.prog 18 #[.agg m.v, .int .i64 6] w (Lessened m 6 w) := by
  have hl := hf.el
  have hcp := hc.el
  obtain ⟨n, hn⟩ : ∃ n, m.el.length = n := ⟨_, rfl⟩
  have hd : m.el.dropLast.length = n - 1 := by rw [List.length_dropLast, hn]
  rw [hn] at hl hcp
  unfold Md.v
  rw [hn]
  clear hf hc
  cases n with
  | zero =>
    have HD := hid hd
    have HN := hid hn
    clear hd hn
    go_enter Tryd.func18, Tryd.ntmps18
    go_wp2
    refine bodyPost_ret (v := .agg (m.less 6).v) ?_ rfl ⟨rfl, ?_⟩
    · simp [results, Tryd.results18, go_sem, Md.less, Md.v, HN.out]
    · exact thenA (thenA (Below.refl _ _) _) _
  | succ n =>
    have e1 : ((n + 1 : Nat) : Int) = (n : Int) + 1 := by omega
    have HD := hid (show m.el.dropLast.length = n by omega)
    have h0 : (0 : Int) < (n : Int) + 1 := by omega
    have h0' : 0 < n + 1 := by omega
    have HC := hid hcp
    have hcq : (n : Int) ≤ (m.el'.c : Int) := by omega
    rw [show (n + 1 : Nat) = n + 1 from rfl]
    clear hd hn
    go_enter Tryd.func18, Tryd.ntmps18
    go_wp2
    refine bodyPost_ret (v := .agg (m.less 6).v) ?_ rfl ⟨rfl, ?_⟩
    · simp [results, Tryd.results18, go_sem, Md.less, Md.v, HD.out]
    · exact thenA (thenA (Below.refl _ _) _) _

set_option maxHeartbeats 1000000 in
set_option maxRecDepth 100000 in
theorem less_7 (m : Md) (w : World) (hf : m.fits) (hc : m.caps) : Calls Tryd.prog 18 #[.agg m.v, .int .i64 7] w (Lessened m 7 w) := by
  have hl := hf.da
  have hcp := hc.da
  obtain ⟨n, hn⟩ : ∃ n, m.da.length = n := ⟨_, rfl⟩
  have hd : m.da.dropLast.length = n - 1 := by rw [List.length_dropLast, hn]
  rw [hn] at hl hcp
  unfold Md.v
  rw [hn]
  clear hf hc
  cases n with
  | zero =>
    have HD := hid hd
    have HN := hid hn
    clear hd hn
    go_enter Tryd.func18, Tryd.ntmps18
    go_wp2
    refine bodyPost_ret (v := .agg (m.less 7).v) ?_ rfl ⟨rfl, ?_⟩
    · simp [results, Tryd.results18, go_sem, Md.less, Md.v, HN.out]
    · exact thenA (thenA (Below.refl _ _) _) _
  | succ n =>
    have e1 : ((n + 1 : Nat) : Int) = (n : Int) + 1 := by omega
    have HD := hid (show m.da.dropLast.length = n by omega)
    have h0 : (0 : Int) < (n : Int) + 1 := by omega
    have h0' : 0 < n + 1 := by omega
    have HC := hid hcp
    have hcq : (n : Int) ≤ (m.da'.c : Int) := by omega
    rw [show (n + 1 : Nat) = n + 1 from rfl]
    clear hd hn
    go_enter Tryd.func18, Tryd.ntmps18
    go_wp2
    refine bodyPost_ret (v := .agg (m.less 7).v) ?_ rfl ⟨rfl, ?_⟩
    · simp [results, Tryd.results18, go_sem, Md.less, Md.v, HD.out]
    · exact thenA (thenA (Below.refl _ _) _) _

set_option maxHeartbeats 1000000 in
set_option maxRecDepth 100000 in
theorem less_8 (m : Md) (w : World) (hf : m.fits) (hc : m.caps) : Calls Tryd.prog 18 #[.agg m.v, .int .i64 8] w (Lessened m 8 w) := by
  unfold Md.v
  go_enter Tryd.func18, Tryd.ntmps18
  go_wp2
  refine bodyPost_ret (v := .agg (m.less 8).v) (by simp [results, Tryd.results18, go_sem, Md.less, Md.v]) rfl ⟨rfl, ?_⟩
  exact thenA (thenA (Below.refl _ _) _) _

theorem less_any (m : Md) (i : Nat) (hi : i < 9) (w : World) (hf : m.fits) (hc : m.caps) : Calls Tryd.prog 18 #[.agg m.v, .int .i64 (i : Int)] w (Lessened m i w) := by
  match i, hi with
  | 0, _ => exact less_0 m w hf hc
  | 1, _ => exact less_1 m w hf hc
  | 2, _ => exact less_2 m w hf hc
  | 3, _ => exact less_3 m w hf hc
  | 4, _ => exact less_4 m w hf hc
  | 5, _ => exact less_5 m w hf hc
  | 6, _ => exact less_6 m w hf hc
  | 7, _ => exact less_7 m w hf hc
  | 8, _ => exact less_8 m w hf hc
end Go.Proofs.YtlfflomeaplidaaDoor.Mod
