/-
  NAME: what the statements' own small function 'awake' answers: true.
-/
import Derived.Test.YtgmcknblfgealaaDoorNameRefRest
import Derived.Test.YtgmcknblfgealaaDoorNameGet
import Derived.Test.YtgmcknblfgealaaDoorKitSame
namespace Go.Proofs.YtgmcknblfgealaaDoor.Utf
open Go.RowKit

/-- Lists written out. -/
theorem bytes_made (w : World) (zs : List Int) (hz : ∀ z ∈ zs, 0 ≤ z ∧ z < 256) (hl : zs.length ≤ 1000) (cs : Array Value) (hc : cs = (zs.map (Value.int .u8)).toArray) (g : Nat) (hg : g = w.heap.size) : Bytes (w.alloc (.cells cs 5)) (some ⟨g, 0, none⟩) zs := by
  subst hc
  subst hg
  exact (own_made w zs (by omega)).bytes hz (by omega)
theorem nums_made (w : World) (k : IntKind) (e : TypeId) (zs : List Int) (cs : Array Value) (hc : cs = (zs.map (Value.int k)).toArray) (g : Nat) (hg : g = w.heap.size) : Nums k (w.alloc (.cells cs e)) (some ⟨g, 0, none⟩) zs := by
  subst hc
  subst hg
  exact ⟨.inr ⟨w.heap.size, 0, rfl, nums_of_heap (e := e) (by simp [World.alloc, -World.alloc_eq])⟩⟩
theorem alloc_below (w : World) (o : Obj) : Below w.heap.size w (w.alloc o) := (Below.refl _ _).alloc (Nat.le_refl _) o

set_option maxHeartbeats 1600000 in
theorem awake_any (w : World) (hT : Tabs w) : Calls Tryd.prog 16 #[] w fun e w' => e = .returned (.bool true) ∧ Below w.heap.size w w' := by
  have F1 := hid (show faultL [97, 226, 130, 172] = (0, 0) by decide +kernel)
  have F2 := hid (show runesL [97, 226, 130, 172] = [97, 8364] by decide +kernel)
  have F3 := hid (show nameL [2, 97, 98, 9] 0 = ([97, 98], 3, 0, 0) by decide +kernel)
  have F4 := hid (show badL [97, 195] = 1 by decide +kernel)
  have F5 := hid (show strOfNums [97, 98] = ⟨#[97, 98]⟩ from rfl)
  go_enter Tryd.func16, Tryd.ntmps16
  go_wp2_with fail
  refine (Runes_any _ 4 4 [97, 226, 130, 172] _ rfl (bytes_made _ _ (by decide) (by decide) _ rfl _ (by simp)) (hT.alloc _) (by decide)).mono ?_
  unfold GotRunes
  rw [F1.out, F2.out]
  rintro e w1 ⟨v, rfl, ho, hb1⟩
  obtain ⟨a1, c1, rfl⟩ := ho.sliceN (n := 2) rfl
  have hA := (alloc_below w _).trans (hb1.mono (by simp))
  have hT1 := hT.below hA
  have hx := ho.nums
  clear hb1 ho
  go_wp2_with fail
  refine (Get_any _ 4 4 0 [2, 97, 98, 9] _ rfl (bytes_made _ _ (by decide) (by decide) _ rfl _ (by simp)) (by omega) ((hT1.alloc _).alloc _)).mono ?_
  unfold GotName
  rw [F3.out, F5.out]
  rintro e w2 ⟨rfl, hb2⟩
  have hx := ((hx.alloc _).alloc _).below hb2
  have k0 : (w1.alloc (.cells #[.int .i64 0, .int .i64 0] 27)).cell? ⟨w1.heap.size, 0, none⟩ = some (.int .i64 0) := by go_simp
  have k0 := keep hb2 (keepA k0 _)
  have hA := (thenA (thenA hA _) _).trans (hb2.mono (by simp; have := hA.size; omega))
  have hT2 := hT.below hA
  clear hb2 hT1
  have k0a := fun o => keepA k0 o
  go_wp2_with fail
  refine (SameInts_any a1 _ 2 c1 2 2 [97, 8364] [97, 8364] _ rfl rfl ((hx.alloc _).alloc _) (nums_made _ _ _ [97, 8364] _ rfl _ (by simp)) (by omega)).mono ?_
  have F6 : decide (([97, 8364] : List Int) = [97, 8364]) = true := decide_eq_true rfl
  rw [F6]
  clear F6
  rintro e w3 ⟨rfl, hb3⟩
  have k1 : (w2.alloc (.cells #[.int .i64 0, .int .i64 0] 27)).cell? ⟨w2.heap.size, 0, none⟩ = some (.int .i64 0) := by go_simp
  have k1 := keep hb3 (keepA k1 _)
  have hA := (thenA (thenA hA _) _).trans (hb3.mono (by simp; have := hA.size; omega))
  have hT3 := hT.below hA
  clear hb3 hT2 hx k0 k0a
  go_wp2_with fail
  refine (Bad_any _ 2 2 [97, 195] _ rfl (bytes_made _ _ (by decide) (by decide) _ rfl _ (by simp)) (hT3.alloc _)).mono ?_
  rw [F4.out]
  rintro e w4 ⟨rfl, hb4⟩
  have hA := (thenA hA _).trans (hb4.mono (by simp; have := hA.size; omega))
  go_wp2
  go_ret
  exact ⟨rfl, hA⟩
end Go.Proofs.YtgmcknblfgealaaDoor.Utf
