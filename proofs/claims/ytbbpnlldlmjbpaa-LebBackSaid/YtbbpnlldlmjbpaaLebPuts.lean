/-
  LEB: the walk of the statement LebPuts: what PutU, PutS, SizeU and SizeS tell is what the document's own answers tell.
-/
import Derived.Test.YtbbpnlldlmjbpaaLebRef
import Derived.Test.YtbbpnlldlmjbpaaKitBytes
namespace Go.Proofs.Ytbbpnlldlmjbpaa
open Go.RowKit Leb

theorem SameBytes_yes (a1 a2 : Option Addr) (l1 c1 l2 c2 : Nat) (xs : List Int) (w : World) (hl1 : xs.length = l1) (hl2 : xs.length = l2) (hx : Bytes w a1 xs) (hy : Bytes w a2 xs) :
    Calls Try.prog 9 #[.slice a1 l1 c1, .slice a2 l2 c2] w fun e w' => e = .returned (.bool true) ∧ w = w' :=
  (SameBytes_any a1 a2 l1 c1 l2 c2 xs xs w hl1 hl2 hx hy).mono fun e w' ⟨he, hw⟩ => ⟨by rw [he]; simp, hw⟩
theorem wrap32_bounds (n : Int) : -2147483648 ≤ wrap32 n ∧ wrap32 n < 2147483648 := by unfold wrap32; omega

set_option maxHeartbeats 3200000 in
theorem lebPuts_walk (w : World) (n : Int) (hn : 0 ≤ n ∧ n ≤ 4294967295) :
    Calls Try.prog 3 #[.int .u32 n] w fun e w' => e = .returned (.bool true) ∧ Below w.heap.size w w' := by
  obtain ⟨h0, h1⟩ := hn
  obtain ⟨m0, m1⟩ := wrap32_bounds n
  have hs := sizeU_pos n
  have ht := sizeS_pos (wrap32 n)
  go_enter Try.func3, Try.ntmps3
  go_wp2_with fail
  refine (refU_any n _ (by omega) (by omega)).mono ?_
  rintro e w1 ⟨v, rfl, ho, hb1⟩
  obtain ⟨a1, c1, rfl⟩ := ho.slice
  have hy1 := ho.bytes (encU_bytes n) (by rw [encU_length]; omega)
  clear ho
  rw [encU_length]
  go_wp2_with fail
  refine (refS_any (wrap32 n) _ (by omega) (by omega)).mono ?_
  rintro e w2 ⟨v, rfl, ho, hb2⟩
  obtain ⟨a2, c2, rfl⟩ := ho.slice
  have hy2 := ho.bytes (encS_bytes (wrap32 n)) (by rw [encS_length]; omega)
  have hy1 := hy1.below hb2
  have hA := thenB hb1 hb2
  clear ho hb1 hb2
  rw [encS_length]
  go_wp2_with fail
  refine (putU_any n _ (by omega) (by omega)).mono ?_
  rintro e w3 ⟨v, rfl, ho, hb3⟩
  obtain ⟨a3, c3, rfl⟩ := ho.slice
  have hy3 := ho.bytes (encU_bytes n) (by rw [encU_length]; omega)
  have hy1 := hy1.below hb3
  have hy2 := hy2.below hb3
  have hA := thenB hA hb3
  clear ho hb3
  rw [encU_length]
  go_wp2_with fail
  refine (SameBytes_yes _ _ _ _ _ _ (encU n) _ (encU_length n) (encU_length n) hy3 hy1).mono ?_
  rintro e w4 ⟨rfl, rfl⟩
  go_wp2_with fail
  refine (sizeU_any n _ (by omega) (by omega)).mono ?_
  rintro e w4 ⟨rfl, rfl⟩
  go_wp2_with fail
  refine (putS_any (wrap32 n) _ (by omega) (by omega)).mono ?_
  rintro e w5 ⟨v, rfl, ho, hb5⟩
  obtain ⟨a5, c5, rfl⟩ := ho.slice
  have hy5 := ho.bytes (encS_bytes (wrap32 n)) (by rw [encS_length]; omega)
  have hy2 := hy2.below hb5
  have hA := thenB hA hb5
  clear ho hb5
  rw [encS_length]
  go_wp2_with fail
  refine (SameBytes_yes _ _ _ _ _ _ (encS (wrap32 n)) _ (encS_length _) (encS_length _) hy5 hy2).mono ?_
  rintro e w6 ⟨rfl, rfl⟩
  go_wp2_with fail
  refine (sizeS_any (wrap32 n) _ (by omega) (by omega)).mono ?_
  rintro e w6 ⟨rfl, rfl⟩
  go_wp2
  go_ret
  exact ⟨rfl, hA⟩
end Go.Proofs.Ytbbpnlldlmjbpaa
