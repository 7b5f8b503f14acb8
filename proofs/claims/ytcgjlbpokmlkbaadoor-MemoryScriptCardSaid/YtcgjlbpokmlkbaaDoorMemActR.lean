/-
  MEMORY: a call of both: Read.
-/
import Derived.Test.YtcgjlbpokmlkbaaDoorMemAct
namespace Go.Proofs.YtcgjlbpokmlkbaaDoor.Mem
open Go.RowKit Go.Proofs.YtcgjlbpokmlkbaaDoor.Instr Go.Proofs.YtcgjlbpokmlkbaaDoor.Num
set_option linter.unusedVariables false

theorem rowF_byte (f : Nat → Int) (hf : ∀ a, 0 ≤ f a ∧ f a < 256) (s n : Nat) (z : Int) (hz : z ∈ rowF f s n) : 0 ≤ z ∧ z < 256 := by
  obtain ⟨i, hi, rfl⟩ := List.mem_iff_getElem.1 hz
  have := rowF_getD f n s i (by simpa [rowF_length] using hi)
  rw [List.getD_eq_getElem?_getD, List.getElem?_eq_getElem hi, Option.getD_some] at this
  rw [this]
  exact hf _
theorem read_ok {m : Mm} (h : m.ok) (s n : Nat) : (∀ z ∈ (m.read s n).1, 0 ≤ z ∧ z < 256) ∧ (m.read s n).1.length ≤ 1048576 := by
  unfold Mm.read
  split
  · split
    · refine ⟨fun z hz => ?_, by rw [rowF_length]; assumption⟩
      exact rowF_byte _ h.byte s n z hz
    · exact ⟨fun z hz => by simp at hz, by simp⟩
  · exact ⟨fun z hz => by simp at hz, by simp⟩
def GotA (B : Nat) (w : World) (zs : List Int) (ga : Option Addr) : Prop := (ga = none ∧ zs = []) ∨ ∃ g, ga = some ⟨g, 0, none⟩ ∧ B ≤ g ∧ w.heap[g]? = some (.cells (zs.map (Value.int .u8)).toArray 5 (0, 0))
theorem got_view {w w' : World} {zs : List Int} {e : Int} {en : Ending} (h : GotB w zs e en w') : ∃ ga, en = .returned (.tuple #[.slice ga zs.length zs.length, .int .i64 e]) ∧ GotA w.heap.size w' zs ga := by
  rcases h with ⟨g, rfl, hg, hh⟩ | ⟨rfl, rfl⟩
  · exact ⟨_, rfl, .inr ⟨g, rfl, hg, hh⟩⟩
  · exact ⟨none, rfl, .inl ⟨rfl, rfl⟩⟩
theorem GotA.bytes {B : Nat} {w : World} {zs : List Int} {ga : Option Addr} (h : GotA B w zs ga) (hz : ∀ z ∈ zs, 0 ≤ z ∧ z < 256) (hl : zs.length ≤ 1048576) : Bytes w ga zs := by
  rcases h with ⟨rfl, rfl⟩ | ⟨g, rfl, _, hh⟩
  · exact ⟨by simp, by simp, .inl rfl⟩
  · exact bytes_heap hh hz (by omega)
theorem GotA.below {B : Nat} {w w' : World} {zs : List Int} {ga : Option Addr} (h : GotA B w zs ga) (hb : Below w.heap.size w w') : GotA B w' zs ga := by
  rcases h with h | ⟨g, rfl, hg, hh⟩
  · exact .inl h
  · exact .inr ⟨g, rfl, hg, (hb.block _ (Array.getElem?_eq_some_iff.1 hh).1).trans hh⟩
theorem over_got {B p q K : Nat} {w : World} {zs : List Int} {ga : Option Addr} {m : Mm} (h : GotA B w zs ga) (hl : zs.length ≤ 1048576) (hM : MemIs B w p K m) (hI : RefIs B w q K m) :
    Calls Tryd.prog 29 #[.slice ga zs.length zs.length] w fun e w' => e = .returned (.tuple #[]) ∧ MemIs B w' p K m ∧ RefIs B w' q K m ∧ Below B w w' := by
  rcases h with ⟨rfl, rfl⟩ | ⟨g, rfl, hg, hh⟩
  · exact (overB_nil w).mono fun e w' ⟨h1, h2⟩ => by subst h2; exact ⟨h1, hM, hI, Below.refl _ _⟩
  · exact (over_block g zs.length zs.length w (Byted.of hh) (Nat.le_refl _) (by omega)).mono fun e w' ⟨h1, h2⟩ =>
      ⟨h1, hM.save h2 hh (u8_own _ _), hI.save h2 hh (u8_ref _ _), h2.below (Nat.le_trans hg (Nat.le_of_lt (Array.getElem?_eq_some_iff.1 hh).1)) hg⟩
set_option maxRecDepth 100000 in
set_option maxHeartbeats 2000000 in
theorem act_read {B : Nat} {W : World} {p q K : Nat} {m : Mm} (hM : MemIs B W p K m) (hI : RefIs B W q K m) (hB : B ≤ W.heap.size) (op o : Int) (x v : Nat) (a : Option Addr) (n c : Nat) (hx : x ≤ 4294967295) (hv : v ≤ 4294967295) :
    Calls Tryd.prog 12 #[.pointer (some ⟨p, 0, none⟩), .pointer (some ⟨q, 0, none⟩), .agg #[.int .i64 3, .int .i64 op, .int .u32 x, .int .u32 o, .int .u32 v, .slice a n c]] W fun e w' => e = .returned (.bool true) ∧ Both B W p q (K + 300) w' := by
  have hb0 := thenA (Below.refl W.heap.size W) (y6 3 op x o v a n c)
  have hM1 := hM.below hb0
  have hI1 := hI.below hb0
  have C1 := hid (Read_any hM1 x v hx hv)
  have hk := act_box W 3 op x o v a n c
  have HB0 := hid hb0
  have HM := hid hM1
  have HI := hid hI1
  have HX := hid hx
  have HV := hid hv
  have HBs := hid hB
  have HRO := hid (read_ok hM.ok x v)
  obtain ⟨zs, e0, hr⟩ : ∃ zs e0, m.read x v = (zs, e0) := ⟨_, _, rfl⟩
  have HR := hid hr
  rw [hr] at C1 HRO
  clear hM hI hb0 hM1 hI1 hx hv hB hr
  go_enter Tryd.func12, Tryd.ntmps12
  go_wp2_with fail
  refine C1.out.mono ?_
  rintro e w1 ⟨hg1, hb1⟩
  obtain ⟨ga, rfl, hga⟩ := got_view hg1
  have HM1 := hid (HM.out.below hb1)
  have HI1 := hid (HI.out.below hb1)
  have hk1 := (hb1.block _ (by simp)).trans hk
  have HB1 := hid (thenB HB0.out hb1)
  have C2 := hid (Read_ref HI1.out HM1.out.ok x v HX.out HV.out)
  rw [HR.out] at C2
  have HGA := hid hga
  obtain ⟨_, _, k2, _, k4, _⟩ := act_cells hk1
  clear hk hk1 hb1 hg1 hga HM HI C1 HB0
  go_wp2_with fail
  refine C2.out.mono ?_
  rintro e w2 ⟨hg2, hb2⟩
  obtain ⟨gb, rfl, hgb⟩ := got_view hg2
  have HM2 := hid (HM1.out.below hb2)
  have HI2 := hid (HI1.out.below hb2)
  have HB2 := hid (thenB HB1.out hb2)
  have hga2 := HGA.out.below hb2
  have HGA2 : Hid (GotA B w2 zs ga) := by
    rcases hga2 with h | ⟨g, h1, h2, h3⟩
    · exact .inl h
    · exact .inr ⟨g, h1, by have := HBs.out; simp at h2; omega, h3⟩
  have hba := hga2.bytes HRO.out.1 HRO.out.2
  have hbb := hgb.bytes HRO.out.1 HRO.out.2
  have C3 := hid (SameBytes_yes ga gb zs.length zs.length zs.length zs.length zs w2 rfl rfl hba hbb)
  clear C2 hb2 HM1 HI1 HB1 k2 k4 hg2 hgb hga2 hba hbb HGA
  go_wp2_with fail
  refine C3.out.mono ?_
  rintro e w3 ⟨rfl, rfl⟩
  have C4 := hid (over_got HGA2.out HRO.out.2 HM2.out HI2.out)
  clear C3
  go_wp2_with fail
  refine C4.out.mono ?_
  rintro e w4 ⟨rfl, hm4, hi4, hb4⟩
  have HM4 := hid hm4
  have HI4 := hid hi4
  have HB4 := hid ((HB2.out.mono HBs.out).trans hb4)
  clear C4 hm4 hi4 hb4 HM2 HI2 HB2 HGA2
  go_wp2
  go_ret
  exact ⟨ret_bool (by simp), Both.mk' HM4.out HI4.out HB4.out⟩
end Go.Proofs.YtcgjlbpokmlkbaaDoor.Mem
