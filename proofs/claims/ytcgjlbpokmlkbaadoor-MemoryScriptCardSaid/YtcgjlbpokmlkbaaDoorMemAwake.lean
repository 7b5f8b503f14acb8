/-
  MEMORY: a fresh memory, and what the examples say: fresh, loads, awake by contracts.
-/
import Derived.Test.YtcgjlbpokmlkbaaDoorMemNew
namespace Go.Proofs.YtcgjlbpokmlkbaaDoor.Mem
open Go.RowKit Go.Proofs.YtcgjlbpokmlkbaaDoor.Instr Go.Proofs.YtcgjlbpokmlkbaaDoor.Num Go.Proofs.YtcgjlbpokmlkbaaDoor.Kind
open Go.Maps (Keyed int_keyed IsMap)
set_option linter.unusedVariables false

def FreshTo (W : World) (e : Ending) (w' : World) : Prop := ∃ p, e = .returned (.pointer (some ⟨p, 0, none⟩)) ∧ MemIs W.heap.size w' p 0 ⟨1, 2, fun _ => 0⟩ ∧ Below W.heap.size W w'
theorem fresh_any (W : World) : Calls Tryd.prog 20 #[] W (FreshTo W) := by
  have C : Hid (Calls Tryd.prog 10 #[.agg #[.int .u32 1, .int .u32 2, .bool true]] W (NewTo W 1 2)) := hid (New_true 1 2 W rfl)
  go_enter Tryd.func20, Tryd.ntmps20
  go_wp2_with fail
  refine C.out.mono ?_
  rintro e w1 ⟨p, rfl, hm, hb⟩
  have HM := hid hm
  have HB := hid hb
  clear hm hb C
  go_wp2
  go_ret
  exact ⟨p, rfl, HM.out, HB.out⟩
theorem loads_any {B : Nat} {W : World} {p K : Nat} {m : Mm} (hM : MemIs B W p K m) (op x z : Int) (s : Nat) (hx : 0 ≤ x ∧ x ≤ 4294967295) (hs : (s : Int) = x) (hT : Arit W) :
    Calls Tryd.prog 22 #[.pointer (some ⟨p, 0, none⟩), .int .i64 op, .int .u32 x, .int .u32 z] W fun e w' => e = .returned (.bool (decide ((m.load op s).2 = 0) && decide ((m.load op s).1 = z))) ∧ Below W.heap.size W w' := by
  have C := hid (Load_any hM op x 0 s hx ⟨by decide, by decide⟩ (by omega) hT)
  generalize m.load op s = r at *
  obtain ⟨u, e⟩ := r
  simp only at C ⊢
  clear hM hs hT
  by_cases he : e = 0
  · subst he
    go_enter Tryd.func22, Tryd.ntmps22
    go_wp2_with fail
    refine C.out.mono ?_
    rintro e w1 ⟨rfl, hb⟩
    go_wp2
    go_ret
    refine ⟨ret_bool ?_, hb⟩
    by_cases hz : u = z <;> simp [hz]
  · have hne : (e == 0) = false := by simpa using he
    go_enter Tryd.func22, Tryd.ntmps22
    go_wp2_with fail
    refine C.out.mono ?_
    rintro e w1 ⟨rfl, hb⟩
    go_wp2
    go_ret
    exact ⟨ret_bool (by simp [he]), hb⟩
/-- A memory of the examples: a word is stored at 8. -/
def m8 : Mm := ⟨1, 2, putF (fun _ => 0) 8 [254, 255, 255, 255]⟩
theorem m8_read : m8.read 7 6 = ([0, 254, 255, 255, 255, 0], 0) := by decide +kernel
theorem m8_load : m8.load 45 8 = (254, 0) ∧ m8.load 44 8 = (4294967294, 0) := by decide +kernel
theorem m8_store : (Mm.store ⟨1, 2, fun _ => 0⟩ 54 8 4294967294) = (m8, 0) := rfl
theorem bytes_heap {w : World} {g : Nat} {zs : List Int} {T : TypeId} (h : w.heap[g]? = some (.cells (zs.map (Value.int .u8)).toArray T (0, 0))) (hz : ∀ z ∈ zs, 0 ≤ z ∧ z < 256) (hl : zs.length ≤ 140737488351232) : Bytes w (some ⟨g, 0, none⟩) zs :=
  ⟨hz, hl, .inr ⟨g, 0, rfl, nums_of_heap h⟩⟩
set_option maxRecDepth 100000 in
theorem awake_any (W : World) (hT : Arit W) : Calls Tryd.prog 14 #[] W fun e w' => e = .returned (.bool true) ∧ Below W.heap.size W w' := by
  have HT := hid hT
  clear hT
  go_enter Tryd.func14, Tryd.ntmps14
  go_wp2_with fail
  refine (fresh_any W).mono ?_
  rintro e w1 ⟨p, rfl, hm, hb⟩
  have HM := hid hm
  have HB := hid hb
  have C1 := hid (Store_any hm hb.size (by decide) 54 8 0 4294967294 8 ⟨by decide, by decide⟩ ⟨by decide, by decide⟩ ⟨by decide, by decide⟩ rfl (HT.out.below hb))
  rw [m8_store] at C1
  clear hm hb HM
  go_wp2_with fail
  refine C1.out.mono ?_
  rintro e w2 ⟨rfl, hW⟩
  have HB2 := hid (HB.out.trans hW.2.2)
  have HM2 := hid hW.1
  have C2 := hid (Read_any hW.1 7 6 (by decide) (by decide))
  rw [m8_read] at C2
  clear hW C1 HB
  go_wp2_with fail
  refine C2.out.mono ?_
  rintro e w3 ⟨h3, hb3⟩
  rcases h3 with ⟨g, rfl, hg, hh⟩ | ⟨_, h0⟩
  · have hzb : ∀ z ∈ ([0, 254, 255, 255, 255, 0] : List Int), 0 ≤ z ∧ z < 256 := by decide
    have HB3 := hid (HB2.out.trans (hb3.mono HB2.out.size))
    have HM3 := hid (HM2.out.below hb3)
    have b1 := hid ((bytes_heap hh hzb (by decide)).alloc (.cells #[.int .u8 0, .int .u8 254, .int .u8 255, .int .u8 255, .int .u8 255, .int .u8 0] 5))
    have b2 := hid (bytes_heap (w := w3.alloc (.cells #[.int .u8 0, .int .u8 254, .int .u8 255, .int .u8 255, .int .u8 255, .int .u8 0] 5)) (g := w3.heap.size) (zs := [0, 254, 255, 255, 255, 0]) (T := 5) (MapKept.heap_alloc w3 _).1 hzb (by decide))
    have HB4 := hid (thenA HB3.out (.cells #[.int .u8 0, .int .u8 254, .int .u8 255, .int .u8 255, .int .u8 255, .int .u8 0] 5))
    have HM4 := hid (HM3.out.below (thenA (Below.refl _ _) (.cells #[.int .u8 0, .int .u8 254, .int .u8 255, .int .u8 255, .int .u8 255, .int .u8 0] 5)))
    clear hh hb3 HB2 HM2 C2 HB3 HM3
    go_wp2_with fail
    refine (SameBytes_yes _ _ _ _ _ _ [0, 254, 255, 255, 255, 0] _ rfl rfl b1.out b2.out).mono ?_
    rintro e w4 ⟨rfl, rfl⟩
    clear b1 b2
    have C3 := hid (loads_any HM4.out 45 8 254 8 ⟨by decide, by decide⟩ rfl (HT.out.below HB4.out))
    rw [m8_load.1] at C3
    go_wp2_with fail
    refine C3.out.mono ?_
    rintro e w5 ⟨rfl, hb5⟩
    have HB5 := hid (thenB HB4.out hb5)
    have C4 := hid (loads_any (HM4.out.below hb5) 44 8 4294967294 8 ⟨by decide, by decide⟩ rfl (HT.out.below HB5.out))
    rw [m8_load.2] at C4
    clear HB4 HM4 hb5 C3
    go_wp2_with fail
    refine C4.out.mono ?_
    rintro e w6 ⟨rfl, hb6⟩
    have HB6 := hid (thenB HB5.out hb6)
    clear hb6 HB5 C4
    go_wp2
    go_ret
    exact ⟨rfl, HB6.out⟩
  · cases h0
end Go.Proofs.YtcgjlbpokmlkbaaDoor.Mem
