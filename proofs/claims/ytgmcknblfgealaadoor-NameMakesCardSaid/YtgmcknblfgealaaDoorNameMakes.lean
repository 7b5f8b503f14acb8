/-
  NAME: the walk of the statement NameMakes: the text of any numbers as runes, and the bytes of any name, as the document says.
-/
import Derived.Test.YtgmcknblfgealaaDoorNameRunes
namespace Go.Proofs.YtgmcknblfgealaaDoor
open Go.RowKit Utf Leb

theorem ofL_length (ns : List Int) : (ofL ns).1.length ≤ 4 * ns.length := by
  unfold ofL
  split
  · exact textL_length ns
  · simp
theorem putN_length (zs : List Int) : (putN zs).1.length ≤ zs.length + 5 := by
  have := sizeU_pos zs.length
  unfold putN
  split
  · simp
  · split
    · simp
    · simp [encU_length]; omega

set_option maxHeartbeats 6400000 in
theorem nameMakes_walk' (w : World) (a : Option Addr) (len cap : Nat) (ns : List Int) (hlen : ns.length = len) (hz : Nums .i64 w a ns) (hi : ∀ n ∈ ns, -9223372036854775808 ≤ n ∧ n ≤ 9223372036854775807)
    (zs : List Int) (hs : ∀ z ∈ zs, 0 ≤ z ∧ z < 256) (hT : Tabs w) :
    Calls Tryd.prog 4 #[.slice a len cap, .string (strOfNums zs)] w fun e w' => e = .returned (.bool true) ∧ Below w.heap.size w w' := by
  have hsz : (strOfNums zs).size = zs.length := strOfNums_size zs
  by_cases hg : 500 < len
  · generalize strOfNums zs = s at *
    clear hlen hz hi hs hT
    go_enter Tryd.func4, Tryd.ntmps4
    go_wp2
    go_ret
    exact ⟨rfl, Below.refl _ _⟩
  by_cases hg2 : 2000 < zs.length
  · generalize strOfNums zs = s at *
    clear hlen hz hi hs hT
    go_enter Tryd.func4, Tryd.ntmps4
    go_wp2
    go_ret
    exact ⟨rfl, Below.refl _ _⟩
  have HL := hid hlen
  have HI := hid hi
  have HS := hid hs
  obtain ⟨m, hm⟩ : ∃ m, (ofL ns).1.length = m := ⟨_, rfl⟩
  obtain ⟨q, hq⟩ : ∃ q, (putN zs).1.length = q := ⟨_, rfl⟩
  have hmb : m ≤ 2000 := by have := ofL_length ns; omega
  have hqb : q ≤ 2005 := by have := putN_length zs; omega
  have HM := hid hm
  have HQ := hid hq
  have P1 := hid (fun W hW => Put_any zs hs W hW)
  have P2 := hid (fun W => refPut_any zs hs W)
  generalize strOfNums zs = s at *
  clear hlen hi hs hm hq
  go_enter Tryd.func4, Tryd.ntmps4
  go_wp2_with fail
  refine (LentInts_any a len cap ns _ HL.out hz (by omega)).mono ?_
  rintro e w1 ⟨rfl, hh, hA⟩
  have hin := nums_prefix hh
  have hb := hz.below hA
  have hT1 := hT.below hA
  clear hh hT hz
  go_wp2_with fail
  refine (Of_any _ len (len + 3) ns _ HL.out hin HI.out (by omega)).mono ?_
  unfold GotBytes Hands
  rintro e w2 ⟨v, rfl, a1, c1, rfl, hx, _, hb2⟩
  rw [HM.out]
  have hb := hb.below hb2
  have hT2 := hT1.below hb2
  have hA2 := thenB hA hb2
  clear hb2 hT1 hA hin
  go_wp2_with fail
  refine (refOf_any _ len cap ns _ HL.out hb (by omega)).mono ?_
  unfold GotBytes Hands
  rintro e w3 ⟨v, rfl, a2, c2, rfl, hy, _, hb3⟩
  rw [HM.out]
  have hx := hx.below hb3
  have hT3 := hT2.below hb3
  have hA3 := thenB hA2 hb3
  clear hb3 hT2 hA2 hb
  generalize ofL ns = r at *
  obtain ⟨r1, r2⟩ := r
  simp only at *
  go_wp2_with fail
  refine (P1.out _ hT3).mono ?_
  unfold GotBytes Hands
  rintro e w4 ⟨v, rfl, a3, c3, rfl, hu, _, hb4⟩
  rw [HQ.out]
  have hx := hx.below hb4
  have hy := hy.below hb4
  have hT4 := hT3.below hb4
  have hA4 := thenB hA3 hb4
  clear hb4 hT3 hA3 P1
  go_wp2_with fail
  refine (P2.out _).mono ?_
  unfold GotBytes Hands
  rintro e w5 ⟨v, rfl, a4, c4, rfl, hv, _, hb5⟩
  rw [HQ.out]
  have hx := hx.below hb5
  have hy := hy.below hb5
  have hu := hu.below hb5
  have hT5 := hT4.below hb5
  have hA5 := thenB hA4 hb5
  clear hb5 hT4 hA4 P2
  generalize putN zs = r at *
  obtain ⟨u1, u2⟩ := r
  simp only at *
  go_wp2_with fail
  refine (SameBytes_yes a1 a2 m c1 m c2 r1 _ HM.out HM.out hx hy).mono ?_
  rintro e w6 ⟨rfl, rfl⟩
  go_wp2_with fail
  refine (SameBytes_yes a3 a4 q c3 q c4 u1 _ HQ.out HQ.out hu hv).mono ?_
  rintro e w6 ⟨rfl, rfl⟩
  clear hx hy hu hv
  go_wp2_with fail
  refine (Utf.awake_any _ hT5).mono ?_
  rintro e w8 ⟨rfl, hb8⟩
  go_wp2
  go_ret
  exact ⟨rfl, thenB hA5 hb8⟩
theorem nameMakes_walk (w : World) (a : Option Addr) (len cap : Nat) (ns : List Int) (hlen : ns.length = len) (hz : Nums .i64 w a ns) (hi : ∀ n ∈ ns, -9223372036854775808 ≤ n ∧ n ≤ 9223372036854775807)
    (s : ByteArray) (hT : Tabs w) :
    Calls Tryd.prog 4 #[.slice a len cap, .string s] w fun e w' => e = .returned (.bool true) ∧ Below w.heap.size w w' := by
  have := nameMakes_walk' w a len cap ns hlen hz hi (numsOf s) (numsOf_bytes s) hT
  rwa [str_numsOf] at this
end Go.Proofs.YtgmcknblfgealaaDoor
