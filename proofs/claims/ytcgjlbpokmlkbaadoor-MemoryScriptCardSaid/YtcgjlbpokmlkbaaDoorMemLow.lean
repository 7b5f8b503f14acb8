/-
  MEMORY: made, has, width, wordOf, bytesOf by contracts.
-/
import Derived.Test.YtcgjlbpokmlkbaaDoorMemAt
import Derived.Deep.RegionHeld3
import Derived.LaidEqlPtr
namespace Go.Proofs.YtcgjlbpokmlkbaaDoor.Mem
open Go.RowKit Go.Proofs.YtcgjlbpokmlkbaaDoor.Instr Go.Proofs.YtcgjlbpokmlkbaaDoor.Num
set_option linter.unusedVariables false

theorem ptrInfo : ∃ j, Tryd.prog.info? 47 = some j := ⟨_, rfl⟩
theorem eq_same (a : Addr) (w : World) : (binOp .eql 28 (.pointer (some a)) (.pointer (some a))).run Tryd.prog w = .ok (.bool true) w := by
  obtain ⟨j, hj⟩ := ptrInfo
  exact run_eql_ptr_same w a Tryd.underlying28 hj
theorem eq_none (a : Addr) (w : World) : (binOp .eql 28 (.pointer none) (.pointer (some a))).run Tryd.prog w = .ok (.bool false) w := by
  have h : ∀ d : Nat, (Op.equalIn (d + 1) 28 (.pointer none) (.pointer (some a))).run Tryd.prog w = .ok false w := fun d => by
    simp [Op.equalIn, run_underlying Tryd.underlying28]
  simp only [binOp]
  simp [Op.equal, Op.maxDepth, h 9999]
set_option maxRecDepth 100000 in
theorem made_yes (p : Nat) (w : World) (c : w.cell? ⟨p, 0, none⟩ = some (.pointer (some ⟨p, 0, none⟩))) :
    Calls Tryd.prog 33 #[.pointer (some ⟨p, 0, none⟩)] w fun e w' => e = .returned (.bool true) ∧ w = w' := by
  have q1 := eq_same
  go_enter Tryd.func33, Tryd.ntmps33
  go_wp2
  go_ret
  exact ⟨rfl, rfl⟩
/-- What nobody made: nil, or a box of noughts. -/
def Unmade (w : World) (v : Value) : Prop := v = .pointer none ∨ ∃ p, v = .pointer (some ⟨p, 0, none⟩) ∧ w.cell? ⟨p, 0, none⟩ = some (.pointer none)
set_option maxRecDepth 100000 in
theorem made_no (v : Value) (w : World) (h : Unmade w v) :
    Calls Tryd.prog 33 #[v] w fun e w' => e = .returned (.bool false) ∧ w = w' := by
  have q1 := eq_none
  rcases h with rfl | ⟨p, rfl, c⟩
  all_goals
    go_enter Tryd.func33, Tryd.ntmps33
    go_wp2
    go_ret
    exact ⟨rfl, rfl⟩
theorem has_any (p : Nat) (n s k : Int) (w : World) (c : w.cell? ⟨p, 1, none⟩ = some (.int .u32 n)) (hn : 0 ≤ n ∧ n ≤ 65536) (hs : 0 ≤ s ∧ s ≤ 8589934590) (hk : 0 ≤ k ∧ k ≤ 140737488351232) :
    Calls Tryd.prog 38 #[.pointer (some ⟨p, 0, none⟩), .int .u64 s, .int .u64 k] w fun e w' => e = .returned (.bool (decide (s + k ≤ n * 65536))) ∧ w = w' := by
  obtain ⟨n0, n1⟩ := hn
  obtain ⟨s0, s1⟩ := hs
  obtain ⟨k0, k1⟩ := hk
  go_enter Tryd.func38, Tryd.ntmps38
  go_wp2
  go_ret
  exact ⟨by simp, rfl⟩
def widthQ (op takes : Int) : Bool := storedP op && decide (takesP op = takes)
theorem width_any (op takes : Int) (w : World) (hT : Arit w) :
    Calls Tryd.prog 48 #[.int .i64 op, .int .i64 takes] w fun e w' => e = .returned (.tuple #[.int .i64 (wd op : Int), .bool (widthQ op takes)]) ∧ Below w.heap.size w w' := by
  have CA := Align_any op w
  have CS := Shape_any op w hT
  have hq : widthQ op takes = (storedP op && decide (takesP op = takes)) := rfl
  rw [hq]
  clear hq
  generalize takesP op = t at *
  generalize leavesP op = l at *
  generalize knownP op = kn at *
  rcases alignP_wd op with ⟨h1, h2⟩ | ⟨h1, h2⟩ | ⟨h1, h2⟩ <;> rw [h1] at CA <;> rw [h2] <;> clear h1 h2 <;> cases hst : storedP op <;> rw [hst] at CA <;> clear hst
  all_goals
    have CA := hid CA
    have CS := hid CS
    go_enter Tryd.func48, Tryd.ntmps48
    go_wp2_with fail
    refine CA.out.mono ?_
    rintro e w1 ⟨rfl, rfl⟩
    go_wp2_with fail
    refine CS.out.mono ?_
    rintro e w2 ⟨rfl, hb⟩
    go_wp2
    go_ret2
    exact ⟨by first | rfl | (by_cases ht : t = takes <;> simp [ht]), hb⟩

theorem or_low {u h : Int} (i : Nat) (h0 : 0 ≤ u) (h1 : u < 2 ^ i) (h2 : 0 ≤ h) (h3 : h < 4294967296) (h4 : h % 2 ^ i = 0) (h5 : u < 4294967296) : bits .or .u32 u h = u + h := by
  rw [u32_or u h h0 h5 h2 h3]
  obtain ⟨a, rfl⟩ := Int.eq_ofNat_of_zero_le h0
  obtain ⟨b, rfl⟩ := Int.eq_ofNat_of_zero_le h2
  have e1 : b % 2 ^ i = 0 := by exact_mod_cast h4
  have e2 : a < 2 ^ i := by exact_mod_cast h1
  rw [Int.toNat_natCast, Int.toNat_natCast, Nat.or_comm, nat_join i b a e1 e2]
  omega
def word4 (a b c d : Int) : Int := a + 256 * (b + 256 * (c + 256 * d))
theorem wordOf_any (a b c d : Int) (w : World) (ha : 0 ≤ a ∧ a < 256) (hb : 0 ≤ b ∧ b < 256) (hc : 0 ≤ c ∧ c < 256) (hd : 0 ≤ d ∧ d < 256) :
    Calls Tryd.prog 36 #[.agg #[.int .u8 a, .int .u8 b, .int .u8 c, .int .u8 d]] w fun e w' => e = .returned (.int .u32 (word4 a b c d)) ∧ Below w.heap.size w w' := by
  have e1 : bits .or .u32 a (b * 256) = a + b * 256 := or_low 8 (by omega) (by omega) (by omega) (by omega) (by omega) (by omega)
  have e2 : bits .or .u32 (a + b * 256) (c * 65536) = a + b * 256 + c * 65536 := or_low 16 (by omega) (by omega) (by omega) (by omega) (by omega) (by omega)
  have e3 : bits .or .u32 (a + b * 256 + c * 65536) (d * 16777216) = a + b * 256 + c * 65536 + d * 16777216 := or_low 24 (by omega) (by omega) (by omega) (by omega) (by omega) (by omega)
  have HE : Hid (word4 a b c d = a + b * 256 + c * 65536 + d * 16777216) := hid (by unfold word4; omega)
  obtain ⟨a0, a1⟩ := ha
  obtain ⟨b0, b1⟩ := hb
  obtain ⟨c0, c1⟩ := hc
  obtain ⟨d0, d1⟩ := hd
  go_enter Tryd.func36, Tryd.ntmps36
  go_wp2
  go_ret
  exact ⟨ret_int (by rw [HE.out]), thenA (Below.refl _ _) _⟩
theorem bytesOf_any (v : Int) (w : World) (hv : 0 ≤ v ∧ v < 4294967296) :
    Calls Tryd.prog 39 #[.int .u32 v] w fun e w' => e = .returned (.agg #[.int .u8 (v % 256), .int .u8 (v / 256 % 256), .int .u8 (v / 65536 % 256), .int .u8 (v / 16777216 % 256)]) ∧ Below w.heap.size w w' := by
  obtain ⟨v0, v1⟩ := hv
  go_enter Tryd.func39, Tryd.ntmps39
  go_wp2
  refine bodyPost_ret (v := .agg #[.int .u8 (v % 256), .int .u8 (v / 256 % 256), .int .u8 (v / 65536 % 256), .int .u8 (v / 16777216 % 256)]) (by simp [results, Tryd.f39, go_sem]; omega) rfl ?_
  exact ⟨rfl, thenA (Below.refl _ _) _⟩
end Go.Proofs.YtcgjlbpokmlkbaaDoor.Mem
