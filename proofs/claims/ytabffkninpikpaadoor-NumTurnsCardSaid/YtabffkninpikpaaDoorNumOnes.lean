/-
  NUM: the walks of the statements NumOnes and NumTurns.
-/
import Derived.Test.YtabffkninpikpaaDoorNumRefOne
import Derived.Test.YtabffkninpikpaaDoorNumRefTwo
namespace Go.Proofs.YtabffkninpikpaaDoor
open Go.RowKit Num

set_option maxHeartbeats 1600000 in
theorem numOnes_walk (w : World) (op : Int) (_ho : -9223372036854775808 ≤ op ∧ op ≤ 9223372036854775807) (a : Int) (ha : 0 ≤ a ∧ a ≤ 4294967295) (hT : DeB w ∧ Arit w) :
    Calls Tryd.prog 3 #[.int .i64 op, .int .u32 a] w fun e w' => e = .returned (.bool true) ∧ Below w.heap.size w w' := by
  obtain ⟨hD, hA⟩ := hT
  have C := One_any op a w (by omega) (by omega) hA hD
  have D := fun W => refOne_any op a W (by omega) (by omega)
  have E := fun W hW => Arity_any op W hW
  have F := fun W => refArity_any op W
  have G := fun W hW => awake_any W hW
  generalize oneE op = er at *
  generalize oneV op a = v at *
  generalize arity op = n at *
  have C := hid C
  have D := hid D
  have E := hid E
  have F := hid F
  have G := hid G
  clear hD
  have HA := hid hA
  clear hA
  go_enter Tryd.func3, Tryd.ntmps3
  go_wp2_with fail
  refine C.out.mono ?_
  rintro e w1 ⟨rfl, hb⟩
  have H1 := hid (HA.out.below hb)
  go_wp2_with fail
  refine (D.out _).mono ?_
  rintro e w' ⟨rfl, rfl⟩
  go_wp2_with fail
  refine (E.out _ H1.out).mono ?_
  rintro e w' ⟨rfl, rfl⟩
  go_wp2_with fail
  refine (F.out _).mono ?_
  rintro e w' ⟨rfl, rfl⟩
  go_wp2_with fail
  refine (G.out _ H1.out).mono ?_
  rintro e w' ⟨rfl, rfl⟩
  go_wp2
  go_ret
  exact ⟨rfl, hb⟩

theorem turn_back {m k : Nat} (hm : m < 4294967296) (hk : k < 32) : turnN (turnN m k) ((32 - k) % 32) = m := by
  apply Nat.eq_of_testBit_eq
  intro i
  by_cases hi : i < 32
  · rw [test_turn (turnN_lt hm) (by omega) hi, test_turn hm hk (by omega)]
    congr 1; omega
  · rw [test_high (turnN_lt (turnN_lt hm)) (by omega), test_high hm (by omega)]
theorem rot_back {a b : Int} (h0 : 0 ≤ a) (h1 : a < 4294967296) : rotr (rotl a b) b = a := by
  obtain ⟨m, rfl⟩ := Int.eq_ofNat_of_zero_le h0
  unfold rotl rotr
  rw [turn_nat, turn_nat, show ((32 - b % 32) % 32).toNat = (32 - (b % 32).toNat) % 32 by omega, turn_back (by omega) (by omega)]
theorem low_clz {l : Int} {k : Nat} (h0 : 0 ≤ l) (hk : k < 32) (h1 : l < 2 ^ (32 - k)) : (k : Int) ≤ 32 - (Lib.bitLen l.toNat : Int) := by
  obtain ⟨m, rfl⟩ := Int.eq_ofNat_of_zero_le h0
  have h1' : m < 2 ^ (32 - k) := by exact_mod_cast h1
  have := Lib.bitLen_le m (32 - k) (by omega) h1'
  rw [Int.toNat_natCast]; omega
theorem twoK_plain {op a b : Int} (ho : 116 ≤ op ∧ op ≤ 120) : twoK op a b = comb op a b := by
  have ha : arity op = 2 := by unfold arity; rw [if_neg (by omega), if_pos (by omega)]
  have hr : refuse op a b = 0 := refuse_out (by omega)
  unfold twoK twoE twoV
  rw [if_pos ha, if_pos hr, if_pos ⟨ha, hr⟩]
theorem oneV_is {op a : Int} (ho : arity op = 1) : oneV op a = cnt op a ∧ oneE op = 0 := by
  unfold oneV oneE; rw [if_pos ho, if_pos ho]; exact ⟨rfl, rfl⟩
theorem back_low (a : Int) (k : Nat) (hk : k < 32) : a * 2 ^ k % 4294967296 / 2 ^ k < 2 ^ (32 - k) := by
  have hp : (0 : Int) < 2 ^ k := Int.pow_pos (by decide)
  rw [Int.ediv_lt_iff_lt_mul hp, ← Int.pow_add, show 32 - k + k = 32 by omega]
  omega
set_option maxHeartbeats 1600000 in
theorem numTurns_walk (w : World) (a : Int) (ha : 0 ≤ a ∧ a ≤ 4294967295) (b : Int) (hb : 0 ≤ b ∧ b ≤ 4294967295) (hT : DeB w ∧ Arit w) :
    Calls Tryd.prog 7 #[.int .u32 a, .int .u32 b] w fun e w' => e = .returned (.bool true) ∧ Below w.heap.size w w' := by
  obtain ⟨hD, hA⟩ := hT
  obtain ⟨h0, h1⟩ := ha
  obtain ⟨k0, k1⟩ := hb
  have h1' : a < 4294967296 := by omega
  have G := awake_any w hA
  obtain ⟨u, hu⟩ : ∃ u, rotl a b = u := ⟨_, rfl⟩
  have ur : 0 ≤ u ∧ u < 4294967296 := by rw [← hu]; exact turn_lt h0 h1' _
  have A := two_any 119 a b w (by omega) (by omega) (by omega) (by omega) hA
  rw [twoK_plain (by omega), show comb 119 a b = rotl a b from rfl, hu] at A
  have B := two_any 120 u b w (by omega) (by omega) (by omega) (by omega) hA
  rw [twoK_plain (by omega), show comb 120 u b = rotr u b from rfl, ← hu, rot_back h0 h1', hu] at B
  have no := ones_range h0 h1'
  obtain ⟨n, hn⟩ : ∃ n, ones a = n := ⟨_, rfl⟩
  have C := One_any 105 a w (by omega) (by omega) hA hD
  rw [(oneV_is (op := 105) (a := a) (by decide)).1, (oneV_is (op := 105) (a := a) (by decide)).2, show cnt 105 a = ones a from rfl, hn] at C
  have D := fun W hA hD => One_any 105 u W (by omega) (by omega) hA hD
  rw [(oneV_is (op := 105) (a := u) (by decide)).1, (oneV_is (op := 105) (a := u) (by decide)).2, show cnt 105 u = ones u from rfl, ← hu, show ones (rotl a b) = ones a from ones_turn h0 h1' (by omega), hn, hu] at D
  rw [hn] at no
  obtain ⟨s, hs⟩ : ∃ s, shlW a b = s := ⟨_, rfl⟩
  have sr : 0 ≤ s ∧ s < 4294967296 := by rw [← hs]; unfold shlW; omega
  obtain ⟨l, hl⟩ : ∃ l, shrU s b = l := ⟨_, rfl⟩
  have hL : a * 2 ^ (b % 32).toNat % 4294967296 / 2 ^ (b % 32).toNat = l := by rw [← hl, ← hs]; rfl
  have hk : (b % 32).toNat < 32 := by omega
  have l2 := back_low a (b % 32).toNat hk
  have l0 : 0 ≤ l := by rw [← hl]; exact Int.ediv_nonneg sr.1 (Int.le_of_lt (Int.pow_pos (by decide)))
  have l1 : l ≤ s := by rw [← hl]; exact Int.ediv_le_self _ sr.1
  rw [hL] at l2
  have E := fun W hA => two_any 116 a b W (by omega) (by omega) (by omega) (by omega) hA
  rw [twoK_plain (by omega), show comb 116 a b = shlW a b from rfl, hs] at E
  have F := fun W hA => two_any 118 s b W (by omega) (by omega) (by omega) (by omega) hA
  rw [twoK_plain (by omega), show comb 118 s b = shrU s b from rfl, hl] at F
  have zr := low_clz l0 hk l2
  have zk : ((b % 32).toNat : Int) = b % 32 := by omega
  rw [zk] at zr
  have zb := bitLen_range l0 (by omega)
  obtain ⟨z, hz⟩ : ∃ z : Int, 32 - (Lib.bitLen l.toNat : Int) = z := ⟨_, rfl⟩
  have zz : z ≤ 32 := by omega
  have Z := fun W hA hD => One_any 103 l W l0 (by omega) hA hD
  rw [(oneV_is (op := 103) (a := l) (by decide)).1, (oneV_is (op := 103) (a := l) (by decide)).2, show cnt 103 l = 32 - (Lib.bitLen l.toNat : Int) from rfl, hz] at Z
  rw [hz] at zr
  have G := hid G
  have A := hid A
  have B := hid B
  have C := hid C
  have D := hid D
  have E := hid E
  have F := hid F
  have Z := hid Z
  have HA := hid hA
  have HD := hid hD
  clear hA hD hu ur hn hs hl l2 zk zb hz hk
  go_enter Tryd.func7, Tryd.ntmps7
  go_wp2_with fail
  refine G.out.mono ?_
  rintro e w' ⟨rfl, rfl⟩
  go_wp2_with fail
  refine A.out.mono ?_
  rintro e w' ⟨rfl, rfl⟩
  go_wp2_with fail
  refine B.out.mono ?_
  rintro e w' ⟨rfl, rfl⟩
  go_wp2_with fail
  refine C.out.mono ?_
  rintro e w1 ⟨rfl, hb1⟩
  have HA1 := hid (HA.out.below hb1)
  have HD1 := hid (HD.out.below hb1)
  go_wp2_with fail
  refine (D.out _ HA1.out HD1.out).mono ?_
  rintro e w2 ⟨rfl, hb2⟩
  have HA2 := hid (HA1.out.below hb2)
  have HD2 := hid (HD1.out.below hb2)
  have hb2 := thenB hb1 hb2
  clear hb1
  go_wp2_with fail
  refine (E.out _ HA2.out).mono ?_
  rintro e w' ⟨rfl, rfl⟩
  go_wp2_with fail
  refine (F.out _ HA2.out).mono ?_
  rintro e w' ⟨rfl, rfl⟩
  go_wp2_with fail
  refine (Z.out _ HA2.out HD2.out).mono ?_
  rintro e w3 ⟨rfl, hb3⟩
  have hb3 := thenB hb2 hb3
  clear hb2
  go_wp2
  go_ret
  exact ⟨rfl, hb3⟩
end Go.Proofs.YtabffkninpikpaaDoor
