/-
  LEB: put, PutU, PutS by contracts: the bytes that the plain functions tell, in new memory.
-/
import Derived.Test.YtlfflomeaplidaaDoorLebNums
namespace Go.Proofs.YtlfflomeaplidaaDoor.Leb
open Go.RowKit

theorem and127_64 {c : Int} (h0 : 0 ≤ c) (h1 : c < 2 ^ 64) : bits .and .u64 c 127 = c % 128 := bits_mask .u64 64 (by decide) (fun n h h' => by rw [IntKind.wrap_u64]; omega) 7 (by decide) c h0 h1
theorem or128 {c : Int} (h0 : 0 ≤ c) (h1 : c < 128) : bits .or .u8 c 128 = c + 128 := by
  have hh : ∀ n : Fin 128, bits .or .u8 (n.val : Int) 128 = (n.val : Int) + 128 := by decide +kernel
  obtain ⟨m, rfl⟩ := Int.eq_ofNat_of_zero_le h0
  exact hh ⟨m, by omega⟩
def U64 (u : Int) : Prop := 0 ≤ u ∧ u < 2 ^ 64
theorem U64.div {u : Int} (h : U64 u) : U64 (u / 128) := by unfold U64 at *; omega

theorem put_more {xs : List Int} {k s : Nat} {u u0 : Int} (hk : k + 1 < s) (h : xs ++ putL (s - k) u = putL s u0) :
    (xs ++ [u % 128 + 128]) ++ putL (s - (k + 1)) (u / 128) = putL s u0 := by
  obtain ⟨d, hd⟩ : ∃ d, s - k = d + 2 := ⟨s - k - 2, by omega⟩
  have : s - (k + 1) = d + 1 := by omega
  rw [hd, putL] at h
  rw [this, ← h]; simp
theorem put_last {xs : List Int} {k s : Nat} {u u0 : Int} (hk : k + 1 = s) (h : xs ++ putL (s - k) u = putL s u0) : xs ++ [u % 128] = putL s u0 := by
  have : s - k = 1 := by omega
  rw [this, putL] at h
  exact h

set_option maxRecDepth 100000 in
set_option maxHeartbeats 1600000 in
theorem put_any (u : Int) (s : Nat) (w : World) (hu : U64 u) (hs : 1 ≤ s) (hs9 : s ≤ 9) :
    Calls Tryd.prog 106 #[.int .u64 u, .int .i64 s] w (Gives w (putL s u)) := by
  obtain ⟨i0, hi, hz0, hz1, hz2⟩ := info_parts infoByte
  go_enter Tryd.func106, Tryd.ntmps106
  go_wp2_with (at_make; refine wpList_make_own _ rfl _ _ 27 rfl w.heap.size 5 i0 (.int .u8 0) 1 Tryd.underlying27 hi hz0 hz1 _ _ _ s rfl rfl (by omega) ?b2 ?b3 (Nat.le_refl _) ?_)
  case b2 => rw [hz2]; omega
  case b3 => unfold maxLen; omega
  intro w0 hown0 hgrow0
  go_wp2
  go_loopw [0, 5] (fun su out wr => ∃ (k : Nat) (U : Int) (xs : List Int), k < s ∧ xs.length = k ∧ U64 U ∧ su = .int .u64 U ∧ Own w.heap.size wr out xs ∧ (∃ a c, out = .slice a k c) ∧ xs ++ putL (s - k) U = putL s u ∧ Below w.heap.size w wr)
    (fun _ out _ => match out with | .slice _ n _ => s - n | _ => 0)
  case atStart => exact ⟨0, u, [], by omega, rfl, hu, rfl, hown0, ⟨_, _, rfl⟩, rfl, (Below.refl _ _).grown hgrow0 (Nat.le_refl _) (fun k h => by cases h)⟩
  case round =>
    obtain ⟨k, U, xs, hk, hx, hU, rfl, hown, ⟨a, c, rfl⟩, hp, hb⟩ := hrel
    have hm := and127_64 hU.1 hU.2
    have ho := or128 (c := U % 128) (by omega) (by omega)
    have hu0 := hU.1
    have HP := hid hp
    have HX := hid hx
    clear hp hx
    have hsz := hb.size
    by_cases hl : s ≤ k + 1
    · have HF := hid (put_last (by omega) HP.out)
      clear HP
      go_wp2_with (first | (at_builtin; refine wpList_append_own _ rfl (.tmp 19) (.tmp 21) 27 rfl w.heap.size 5 i0 (.int .u8 0) 1 1 Tryd.underlying27 hi hz0 hz1 hz2 rfl (by decide) _ _ _ rfl (hown.alloc _) ⟨wr.heap.size, 0, none⟩ 1 1 [.int .u8 (U % 128)] rfl rfl ?c1 ?c2 ?c3 ?c4 ?c5 ?_))
      case c1 =>
        intro j v hj
        match j, hj with
        | 0, hj => simp at hj; subst hj; simp [Addr.add]
      case c2 => intro v hv; simp at hv; subst hv; rfl
      case c3 => have := HX.out; unfold maxLen; omega
      case c4 => have := HX.out; omega
      case c5 => simp; omega
      intro v' w1 hown' hgrow _
      go_wp2
      go_ret
      have hown1 := Own.of_snoc HX.out (by rw [HX.out] at hown'; exact hown')
      rw [HF.out] at hown1
      exact ⟨v', rfl, hown1, below_append hown hb _ hsz hgrow⟩
    · have HF := hid (put_more (by omega) HP.out)
      clear HP
      go_wp2_with (first | (at_builtin; refine wpList_append_own _ rfl (.tmp 23) (.tmp 26) 27 rfl w.heap.size 5 i0 (.int .u8 0) 1 1 Tryd.underlying27 hi hz0 hz1 hz2 rfl (by decide) _ _ _ rfl (hown.alloc _) ⟨wr.heap.size, 0, none⟩ 1 1 [.int .u8 (U % 128 + 128)] rfl rfl ?d1 ?d2 ?d3 ?d4 ?d5 ?_))
      case d1 =>
        intro j v hj
        match j, hj with
        | 0, hj => simp at hj; subst hj; simp [Addr.add]
      case d2 => intro v hv; simp at hv; subst hv; rfl
      case d3 => have := HX.out; unfold maxLen; omega
      case d4 => have := HX.out; omega
      case d5 => simp; omega
      intro v' w1 hown' hgrow _
      go_wp2
      go_roundw
      case rel =>
        have hown1 := Own.of_snoc HX.out (by rw [HX.out] at hown'; exact hown')
        have hsl := hown1.slice
        have hlen : (xs ++ [U % 128 + 128]).length = k + 1 := by rw [List.length_append, HX.out]; rfl
        rw [hlen] at hsl
        exact ⟨k + 1, U / 128, xs ++ [U % 128 + 128], by omega, hlen, hU.div, rfl, hown1, hsl, HF.out, below_append hown hb _ hsz hgrow⟩
      case measure =>
        have hown1 := Own.of_snoc HX.out (by rw [HX.out] at hown'; exact hown')
        obtain ⟨a', c', h'⟩ := hown1.slice
        have hlen : (xs ++ [U % 128 + 128]).length = k + 1 := by rw [List.length_append, HX.out]; rfl
        rw [hlen] at h'
        rw [h']
        simp
        omega

theorem Gives.of_eq {w : World} {zs zs' : List Int} (h : zs = zs') {e : Ending} {w' : World} (hg : Gives w zs e w') : Gives w zs' e w' := h ▸ hg

set_option maxHeartbeats 400000 in
theorem putU_any (n : Int) (w : World) (h0 : 0 ≤ n) (h1 : n < 4294967296) : Calls Tryd.prog 72 #[.int .u32 n] w (Gives w (encU n)) := by
  have hs := sizeU_pos n
  have hu : U64 n := ⟨h0, by omega⟩
  go_enter Tryd.func72, Tryd.ntmps72
  go_wp2_with (go_at_call 107; refine (sizeU_any _ _ (by omega) (by omega)).mono ?_; rintro e w' ⟨rfl, rfl⟩)
  refine (put_any n (sizeU n) w hu (by omega) (by omega)).mono ?_
  rintro e w' ⟨v, rfl, ho, hb⟩
  go_wp2
  go_ret
  exact ⟨v, rfl, ho, hb⟩

end Go.Proofs.YtlfflomeaplidaaDoor.Leb
