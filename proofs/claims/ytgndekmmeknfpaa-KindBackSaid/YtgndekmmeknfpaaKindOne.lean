/-
  Kind: the reader's oneOf, by contract.
-/
import Derived.Test.YtgndekmmeknfpaaKindRead
namespace Go.Proofs.Ytgndekmmeknfpaa.Kind
open Go.RowKit

theorem drewB (w : World) (n : Nat) : Below w.heap.size w (w.drewN n) := ⟨rfl, rfl, rfl, Nat.le_refl _, fun _ _ => rfl⟩
theorem Does.of_save {k : Nat} {v r : Value} {w w0 w' : World} {s : Rd} {e : Ending} (h0 : Save k w w0) (h : Does k v w0 r s e w') : Does k v w r s e w' := ⟨h.1, h.2.1, h0.trans h.2.2⟩

theorem oneOf_bad (k : Nat) (v : Value) (s : Rd) (l : Value) (w : World) (h : RdIs w k v s) (h0 : s.2.1 ≠ 0) :
    Calls Try.prog 27 #[.pointer (some ⟨k, 0, none⟩), l] w (Does k v w (.int .u8 0) s) := by
  have hf := faulty_yes k v s w h h0
  go_enter Try.func27, Try.ntmps27
  go_wp2_with fail
  refine hf.mono ?_
  rintro e1 w1 ⟨rfl, rfl⟩
  clear hf
  go_wp2
  go_ret
  exact ⟨rfl, h, Save.refl _ _⟩

set_option maxHeartbeats 800000 in
theorem oneOf_end (k : Nat) (av : Option Addr) (len cap : Nat) (l : Value) (w : World) (h : RdIs w k (.slice av len cap) ((len : Int), 0, 0)) :
    Calls Try.prog 27 #[.pointer (some ⟨k, 0, none⟩), l] w (Does k (.slice av len cap) w (.int .u8 0) ((len : Int), 4, (len : Int))) := by
  have hf := faulty_no k _ _ w h rfl
  have c0 := h.c0
  have c1 := h.c1
  have hd : ∀ n, RdIs (w.drewN n) k (.slice av len cap) ((len : Int), 0, 0) := fun n => h.below (drewB w n)
  have HD := hid hd
  have hs : ∀ n, Save k w (w.drewN n) := fun n => .of_below (drewB w n)
  have HS := hid hs
  simp only at c1
  clear h hd hs
  go_enter Try.func27, Try.ntmps27
  go_wp2_with fail
  refine hf.mono ?_
  rintro e1 w1 ⟨rfl, rfl⟩
  clear hf
  go_wp2
  go_quiet (fail)
  go_wp2_with fail
  refine (refuse_any k _ _ 4 len _ (HD.out _)).mono ?_
  rintro e2 w2 ⟨rfl, h2, s2⟩
  go_wp2
  go_ret
  exact ⟨rfl, h2, (HS.out _).trans s2⟩

set_option maxHeartbeats 1600000 in
theorem oneOf_miss (k : Nat) (av : Option Addr) (len cap i : Nat) (zs : List Int) (a : Option Addr) (n c : Nat) (ls : List Int) (w : World) (h : RdIs w k (.slice av len cap) ((i : Int), 0, 0)) (hi : i < len) (hlen : zs.length = len) (hz : Bytes w av zs)
    (hn : ls.length = n) (hl : Bytes w a ls) (hno : ls.contains (zs.getD i 0) = false) :
    Calls Try.prog 27 #[.pointer (some ⟨k, 0, none⟩), .slice a n c] w (Does k (.slice av len cap) w (.int .u8 0) ((i : Int), 140, (i : Int))) := by
  have hf := faulty_no k _ _ w h rfl
  have c0 := h.c0
  have c1 := h.c1
  have hd : ∀ n, RdIs (w.drewN n) k (.slice av len cap) ((i : Int), 0, 0) := fun n => h.below (drewB w n)
  have HD := hid hd
  have hs : ∀ n, Save k w (w.drewN n) := fun n => .of_below (drewB w n)
  have HS := hid hs
  have hmax := hz.size
  rw [hlen] at hmax
  have hil : i < zs.length := by omega
  obtain ⟨b, off, rfl, hcell⟩ := hz.at (by omega)
  have hc := hcell i hil
  have hC := fun m => contains_any a n c ls (zs.getD i 0) (w.drewN m) hn (hl.below (drewB w m))
  rw [hno] at hC
  generalize zs.getD i 0 = y at *
  simp only at c1
  have hne : ¬ i = len := by omega
  clear h hd hs hcell hno hlen hz hl hil
  go_enter Try.func27, Try.ntmps27
  go_wp2_with fail
  refine hf.mono ?_
  rintro e1 w1 ⟨rfl, rfl⟩
  clear hf
  go_wp2
  go_quiet (fail)
  go_wp2
  go_quiet (fail)
  go_wp2_with fail
  refine (hC _).mono ?_
  rintro e1 w1 ⟨rfl, rfl⟩
  go_wp2_with fail
  refine (refuse_any k _ _ 140 i _ (HD.out _)).mono ?_
  rintro e2 w2 ⟨rfl, h2, s2⟩
  go_wp2
  go_ret
  exact ⟨rfl, h2, (HS.out _).trans s2⟩

set_option maxHeartbeats 1600000 in
theorem oneOf_hit (k : Nat) (av : Option Addr) (len cap i : Nat) (zs : List Int) (a : Option Addr) (n c : Nat) (ls : List Int) (w : World) (h : RdIs w k (.slice av len cap) ((i : Int), 0, 0)) (hi : i < len) (hlen : zs.length = len) (hz : Bytes w av zs)
    (hn : ls.length = n) (hl : Bytes w a ls) (hno : ls.contains (zs.getD i 0) = true) :
    Calls Try.prog 27 #[.pointer (some ⟨k, 0, none⟩), .slice a n c] w (Does k (.slice av len cap) w (.int .u8 (zs.getD i 0)) ((i : Int) + 1, 0, 0)) := by
  have hf := faulty_no k _ _ w h rfl
  have c0 := h.c0
  have c1 := h.c1
  have f1 := h.f1
  have hd : ∀ n, RdIs (w.drewN n) k (.slice av len cap) ((i : Int), 0, 0) := fun n => h.below (drewB w n)
  have HD := hid hd
  have hs : ∀ n, Save k w (w.drewN n) := fun n => .of_below (drewB w n)
  have HS := hid hs
  have hmax := hz.size
  rw [hlen] at hmax
  have hil : i < zs.length := by omega
  obtain ⟨b, off, rfl, hcell⟩ := hz.at (by omega)
  have hc := hcell i hil
  have hC := fun m => contains_any a n c ls (zs.getD i 0) (w.drewN m) hn (hl.below (drewB w m))
  rw [hno] at hC
  generalize zs.getD i 0 = y at *
  simp only at c1
  have hne : ¬ i = len := by omega
  clear h hd hs hcell hno hlen hz hl hil
  go_enter Try.func27, Try.ntmps27
  go_wp2_with fail
  refine hf.mono ?_
  rintro e1 w1 ⟨rfl, rfl⟩
  clear hf
  go_wp2
  go_quiet (fail)
  go_wp2
  go_quiet (fail)
  go_wp2_with fail
  refine (hC _).mono ?_
  rintro e1 w1 ⟨rfl, rfl⟩
  go_wp2
  go_ret
  refine ⟨rfl, ?_, (HS.out _).setCell (p := ⟨k, 1, none⟩) (.inl rfl) _⟩
  have h1 := HD.out
  refine ⟨?_, ?_, ?_, ?_, ?_, ?_, ?_, ?_⟩ <;> simp [go_sem, (h1 _).c0, (h1 _).c1, (h1 _).c2, (h1 _).c3, (h1 _).f0, (h1 _).f1, (h1 _).f2, (h1 _).f3]

theorem oneOf_any (k : Nat) (av : Option Addr) (len cap : Nat) (zs : List Int) (s : Rd) (a : Option Addr) (n c : Nat) (ls : List Int) (ok : Int → Bool) (w : World) (h : RdIs w k (.slice av len cap) s) (hg : Good zs s) (hlen : zs.length = len) (hz : Bytes w av zs)
    (hn : ls.length = n) (hl : Bytes w a ls) (hok : ∀ x, ok x = ls.contains x) :
    Calls Try.prog 27 #[.pointer (some ⟨k, 0, none⟩), .slice a n c] w (Does k (.slice av len cap) w (.int .u8 (oneR zs ok s).1) (oneR zs ok s).2) := by
  unfold oneR
  by_cases h0 : s.2.1 = 0
  · rw [if_pos h0]
    obtain ⟨p, e, f⟩ := s
    obtain ⟨g1, g2, g3⟩ := hg h0
    simp only at h0 g1 g2 g3 ⊢
    subst h0 g3
    obtain ⟨i, rfl⟩ := Int.eq_ofNat_of_zero_le g1
    by_cases hi : (i : Int) = zs.length
    · rw [if_pos hi]
      obtain rfl : i = len := by omega
      exact oneOf_end k av i cap _ w h
    · rw [if_neg hi, Int.toNat_natCast]
      by_cases hc : ok (zs.getD i 0) = true
      · rw [if_pos hc]
        exact oneOf_hit k av len cap i zs a n c ls w h (by omega) hlen hz hn hl (by rw [← hok]; exact hc)
      · rw [if_neg hc]
        exact oneOf_miss k av len cap i zs a n c ls w h (by omega) hlen hz hn hl (by rw [← hok]; simpa using hc)
  · rw [if_neg h0]
    exact oneOf_bad k _ s _ w h h0
end Go.Proofs.Ytgndekmmeknfpaa.Kind
