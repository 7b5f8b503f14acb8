/-
  NAME: the document's own answers, by contracts: Rune, one, tail, first, at.
-/
import Derived.Test.YtgmcknblfgealaaDoorUtfPlain
import Derived.Test.YtgmcknblfgealaaDoorBase2
import Derived.Test.YtgmcknblfgealaaDoorInts
namespace Go.Proofs.YtgmcknblfgealaaDoor.Utf
open Go.RowKit

theorem Rune_any (n : Int) (w : World) : Calls Tryd.prog 29 #[.int .i64 n] w fun e w' => e = .returned (.bool (decide (Rune n))) ∧ w' = w := by
  by_cases h : Rune n
  · have hd : decide (Rune n) = true := decide_eq_true h
    rw [hd]
    obtain ⟨h0, h1, h2⟩ := h
    by_cases h3 : n < 55296
    · go_enter Tryd.func29, Tryd.ntmps29
      go_wp2
      go_ret
      exact ⟨rfl, rfl⟩
    · have h4 : 57343 < n := by omega
      go_enter Tryd.func29, Tryd.ntmps29
      go_wp2
      go_ret
      exact ⟨rfl, rfl⟩
  · have hd : decide (Rune n) = false := decide_eq_false h
    rw [hd]
    unfold Rune at h
    by_cases h0 : n < 0
    · clear h hd
      go_enter Tryd.func29, Tryd.ntmps29
      go_wp2
      go_ret
      exact ⟨rfl, rfl⟩
    by_cases h1 : 1114111 < n
    · clear h hd
      go_enter Tryd.func29, Tryd.ntmps29
      go_wp2
      go_ret
      exact ⟨rfl, rfl⟩
    · have h2 : ¬ n < 55296 := by omega
      have h3 : ¬ 57343 < n := by omega
      clear h hd
      go_enter Tryd.func29, Tryd.ntmps29
      go_wp2
      go_ret
      exact ⟨rfl, rfl⟩

/-- A list written out, in new memory. -/
theorem own_made (w : World) (zs : List Int) (hl : zs.length ≤ 140737488355328) : Own w.heap.size (w.alloc (.cells (zs.map (Value.int .u8)).toArray 5)) (.slice (some ⟨w.heap.size, 0, none⟩) zs.length zs.length) zs := by
  refine ⟨by simp, .inr ⟨w.heap.size, zs.length, (zs.map (Value.int .u8)).toArray, rfl, Nat.le_refl _, ?_, Nat.le_refl _, by unfold maxLen; omega, by simp, ?_⟩⟩
  · simp [World.alloc, -World.alloc_eq]
  · rw [List.take_of_length_le (by simp)]
theorem gives_made (w : World) (zs : List Int) (n : Nat) (hn : zs.length = n) (hl : n ≤ 1000) (cs : Array Value) (hc : cs = (zs.map (Value.int .u8)).toArray) : Gives w zs (.returned (.slice (some ⟨w.heap.size, 0, none⟩) n n)) (w.alloc (.cells cs 5)) := by
  subst hn; subst hc
  exact ⟨_, rfl, own_made w zs (by omega), (Below.refl _ _).alloc (Nat.le_refl _) _⟩

theorem one_any (n : Int) (w : World) (h : Rune n) : Calls Tryd.prog 30 #[.int .i64 n] w (Gives w (oneL n)) := by
  obtain ⟨h0, h1, _⟩ := h
  have e1 : Int.tdiv n 64 = n / 64 := Int.tdiv_eq_ediv_of_nonneg h0
  have e2 : Int.tdiv n 4096 = n / 4096 := Int.tdiv_eq_ediv_of_nonneg h0
  have e3 : Int.tdiv n 262144 = n / 262144 := Int.tdiv_eq_ediv_of_nonneg h0
  have e4 : Int.tmod n 64 = n % 64 := Int.tmod_eq_emod_of_nonneg h0
  have e5 : Int.tmod (n / 64) 64 = n / 64 % 64 := Int.tmod_eq_emod_of_nonneg (by omega)
  have e6 : Int.tmod (n / 4096) 64 = n / 4096 % 64 := Int.tmod_eq_emod_of_nonneg (by omega)
  by_cases a : n < 128
  · have e : oneL n = [n] := by simp [oneL, a]
    rw [e]
    clear e
    go_enter Tryd.func30, Tryd.ntmps30
    go_wp2
    go_ret
    exact gives_made w [n] 1 rfl (by omega) _ rfl
  by_cases b : n < 2048
  · have e : oneL n = [192 + n / 64, 128 + n % 64] := by simp [oneL, a, b]
    rw [e]
    clear e
    go_enter Tryd.func30, Tryd.ntmps30
    go_wp2
    go_ret
    exact gives_made w [192 + n / 64, 128 + n % 64] 2 rfl (by omega) _ rfl
  by_cases d : n < 65536
  · have e : oneL n = [224 + n / 4096, 128 + n / 64 % 64, 128 + n % 64] := by simp [oneL, a, b, d]
    rw [e]
    clear e
    go_enter Tryd.func30, Tryd.ntmps30
    go_wp2
    go_ret
    exact gives_made w [224 + n / 4096, 128 + n / 64 % 64, 128 + n % 64] 3 rfl (by omega) _ rfl
  · have e : oneL n = [240 + n / 262144, 128 + n / 4096 % 64, 128 + n / 64 % 64, 128 + n % 64] := by simp [oneL, a, b, d]
    rw [e]
    clear e
    go_enter Tryd.func30, Tryd.ntmps30
    go_wp2
    go_ret
    exact gives_made w [240 + n / 262144, 128 + n / 4096 % 64, 128 + n / 64 % 64, 128 + n % 64] 4 rfl (by omega) _ rfl

/-- The part of a byte that goes on. -/
def tailR : List Int → Int × Bool
  | [] => (0, false)
  | c :: _ => if 128 ≤ c ∧ c < 192 then (c - 128, true) else (0, false)

set_option maxHeartbeats 800000 in
theorem tail_any (a : Option Addr) (len cap : Nat) (zs : List Int) (p : Int) (w : World) (hlen : zs.length = len) (hz : Bytes w a zs) (hp : 0 ≤ p) :
    Calls Tryd.prog 37 #[.slice a len cap, .int .i64 p] w fun e w' => e = .returned (.tuple #[.int .i64 (tailR (zs.drop p.toNat)).1, .bool (tailR (zs.drop p.toNat)).2]) ∧ Below w.heap.size w w' := by
  by_cases hl : (len : Int) ≤ p
  · have : zs.drop p.toNat = [] := List.drop_eq_nil_of_le (by omega)
    rw [this]
    clear hlen this hz
    go_enter Tryd.func37, Tryd.ntmps37
    go_wp2
    exact bodyPost_ret (v := .tuple #[.int .i64 0, .bool false]) (by simp [results, Tryd.results37, go_sem]) rfl ⟨rfl, Below.refl _ _⟩
  obtain ⟨i, rfl⟩ := Int.eq_ofNat_of_zero_le hp
  have hi : i < zs.length := by omega
  obtain ⟨b, off, rfl, hcell⟩ := hz.at (by omega)
  have hc := hcell i hi
  obtain ⟨c0, c1⟩ := hz.get hi
  rw [Int.toNat_natCast, drop_at hi]
  generalize zs.getD i 0 = c at *
  have hil : i < len := by omega
  clear hcell hlen hi hz hp
  by_cases h1 : 128 ≤ c
  · by_cases h2 : c < 192
    · have e : tailR (c :: zs.drop (i + 1)) = (c - 128, true) := if_pos ⟨h1, h2⟩
      rw [e]
      clear e
      go_enter Tryd.func37, Tryd.ntmps37
      go_wp2
      exact bodyPost_ret (v := .tuple #[.int .i64 (c - 128), .bool true]) (by simp [results, Tryd.results37, go_sem]) rfl ⟨rfl, Below.refl _ _⟩
    · have e : tailR (c :: zs.drop (i + 1)) = (0, false) := if_neg (by omega)
      rw [e]
      clear e
      go_enter Tryd.func37, Tryd.ntmps37
      go_wp2
      exact bodyPost_ret (v := .tuple #[.int .i64 0, .bool false]) (by simp [results, Tryd.results37, go_sem]) rfl ⟨rfl, Below.refl _ _⟩
  · have e : tailR (c :: zs.drop (i + 1)) = (0, false) := if_neg (by omega)
    rw [e]
    clear e
    go_enter Tryd.func37, Tryd.ntmps37
    go_wp2
    exact bodyPost_ret (v := .tuple #[.int .i64 0, .bool false]) (by simp [results, Tryd.results37, go_sem]) rfl ⟨rfl, Below.refl _ _⟩

/-- The part of a first byte, how many go on, and whether it is one. -/
def firstR (c : Int) : Int × Int × Bool := match firstL c with
  | some (n, k) => (n, k, true)
  | none => (0, 0, false)
theorem first_any (c : Int) (w : World) (c0 : 0 ≤ c) (c1 : c < 256) :
    Calls Tryd.prog 36 #[.int .u8 c] w fun e w' => e = .returned (.tuple #[.int .i64 (firstR c).1, .int .i64 (firstR c).2.1, .bool (firstR c).2.2]) ∧ w' = w := by
  by_cases h1 : c < 128
  · have e : firstR c = (c, 0, true) := by unfold firstR firstL; rw [if_pos h1]; rfl
    rw [e]; clear e
    go_enter Tryd.func36, Tryd.ntmps36
    go_wp2
    exact bodyPost_ret (v := .tuple #[.int .i64 (c), .int .i64 0, .bool true]) (by simp [results, Tryd.results36, go_sem]) rfl ⟨rfl, rfl⟩
  by_cases h2 : c < 192
  · have e : firstR c = (0, 0, false) := by unfold firstR firstL; rw [if_neg h1, if_neg (by omega), if_neg (by omega), if_neg (by omega)]
    rw [e]; clear e
    go_enter Tryd.func36, Tryd.ntmps36
    go_wp2
    exact bodyPost_ret (v := .tuple #[.int .i64 (0), .int .i64 0, .bool false]) (by simp [results, Tryd.results36, go_sem]) rfl ⟨rfl, rfl⟩
  by_cases h3 : c < 224
  · have e : firstR c = (c - 192, 1, true) := by unfold firstR firstL; rw [if_neg h1, if_pos (by omega)]; rfl
    rw [e]; clear e
    go_enter Tryd.func36, Tryd.ntmps36
    go_wp2
    exact bodyPost_ret (v := .tuple #[.int .i64 (c - 192), .int .i64 1, .bool true]) (by simp [results, Tryd.results36, go_sem]) rfl ⟨rfl, rfl⟩
  by_cases h4 : c < 240
  · have e : firstR c = (c - 224, 2, true) := by unfold firstR firstL; rw [if_neg h1, if_neg (by omega), if_pos (by omega)]; rfl
    rw [e]; clear e
    go_enter Tryd.func36, Tryd.ntmps36
    go_wp2
    exact bodyPost_ret (v := .tuple #[.int .i64 (c - 224), .int .i64 2, .bool true]) (by simp [results, Tryd.results36, go_sem]) rfl ⟨rfl, rfl⟩
  by_cases h5 : c < 248
  · have e : firstR c = (c - 240, 3, true) := by unfold firstR firstL; rw [if_neg h1, if_neg (by omega), if_neg (by omega), if_pos (by omega)]; rfl
    rw [e]; clear e
    go_enter Tryd.func36, Tryd.ntmps36
    go_wp2
    exact bodyPost_ret (v := .tuple #[.int .i64 (c - 240), .int .i64 3, .bool true]) (by simp [results, Tryd.results36, go_sem]) rfl ⟨rfl, rfl⟩
  · have e : firstR c = (0, 0, false) := by unfold firstR firstL; rw [if_neg h1, if_neg (by omega), if_neg (by omega), if_neg (by omega)]
    rw [e]; clear e
    go_enter Tryd.func36, Tryd.ntmps36
    go_wp2
    exact bodyPost_ret (v := .tuple #[.int .i64 (0), .int .i64 0, .bool false]) (by simp [results, Tryd.results36, go_sem]) rfl ⟨rfl, rfl⟩
end Go.Proofs.YtgmcknblfgealaaDoor.Utf
