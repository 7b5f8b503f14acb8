import Derived.Test.YtckdnhafookcgaaGreatDoorPr18
import Derived.Test.YtckdnhafookcgaaGreatDoorPr15
import Derived.Test.YtckdnhafookcgaaGreatDoorPr14
import Derived.Test.YtckdnhafookcgaaGreatDoorPr04
import Derived.Test.YtckdnhafookcgaaGreatDoorCards
import Derived.Test.YtckdnhafookcgaaGreatDoorTie
namespace Go.Proofs.YtckdnhafookcgaaGreatDoor.Instr
end Go.Proofs.YtckdnhafookcgaaGreatDoor.Instr
namespace Go.Proofs.YtckdnhafookcgaaGreatDoor.Mod
end Go.Proofs.YtckdnhafookcgaaGreatDoor.Mod
namespace Go.Proofs.YtckdnhafookcgaaGreatDoor.Val
end Go.Proofs.YtckdnhafookcgaaGreatDoor.Val
namespace Go.Proofs.YtckdnhafookcgaaGreatDoor.Mem
end Go.Proofs.YtckdnhafookcgaaGreatDoor.Mem
namespace Go.Proofs.YtckdnhafookcgaaGreatDoor.Pl
open Go.RowKit Go.Shelf Go.Proofs.YtckdnhafookcgaaGreatDoor.Instr Go.Proofs.YtckdnhafookcgaaGreatDoor.Mod Go.Proofs.YtckdnhafookcgaaGreatDoor.Val
open Go.Proofs.YtckdnhafookcgaaGreatDoor.Mem (MemIs MemAt Wrote Keep isOwn Mm)
set_option linter.unusedVariables false

def numI (n : Int) : Ix := ⟨65, 0, 0, 0, n, [], none, 0, none, 0, 0, none, 0, 0⟩
def numL (g : Nat) (n : Int) : Lst := ⟨some ⟨g, 0, none⟩, 1, mkIl [(numI n, .nil, .nil)]⟩
theorem at_any (n : Int) (w : World) : Calls Tryz.prog 32 #[.int .i32 n] w fun e w' => e = .returned (.slice (some ⟨w.heap.size, 0, none⟩) 1 1) ∧ w' = w.alloc (.cells (numI n).vals 105) := by
  go_enter Tryz.func32, Tryz.ntmps32
  go_wp2
  go_ret
  exact ⟨rfl, rfl⟩
def tabM (g : Nat) (n : Int) : Md where
  ty := [(0, 0)]
  im := []
  fu := [⟨0, 0, ⟨none, 0, .nil⟩⟩]
  tb := [⟨3, 0, false⟩]
  me := []
  gl := []
  ex := []
  st := false
  sn := 0
  el := [⟨numL (g + 1 + 1 + 1 + 1) n, some ⟨g + 1 + 1 + 1 + 1 + 1, 0, none⟩, 2, [0, 0]⟩]
  da := []
  ty' := ⟨some ⟨g + 1, 0, none⟩, 1⟩
  im' := ⟨none, 0⟩
  fu' := ⟨some ⟨g + 1 + 1, 0, none⟩, 1⟩
  tb' := ⟨some ⟨g + 1 + 1 + 1, 0, none⟩, 1⟩
  me' := ⟨none, 0⟩
  gl' := ⟨none, 0⟩
  ex' := ⟨none, 0⟩
  el' := ⟨some ⟨g + 1 + 1 + 1 + 1 + 1 + 1, 0, none⟩, 1⟩
  da' := ⟨none, 0⟩
theorem numI_ok (n : Int) (hn : -2147483648 ≤ n ∧ n < 2147483648) : (numI n).ok := by constructor <;> simp [numI] <;> omega
theorem numL_at {W : World} {g : Nat} {n : Int} (hn : -2147483648 ≤ n ∧ n < 2147483648) (h : BoxAt W g (numI n).vals) : ListAt W.heap.size W (numL g n).a (numL g n).t.len (numL g n).t :=
  list_box (l := [(numI n, .nil, .nil)]) (World.block_lt_of_cell? W ⟨g, 0, none⟩ (h 0 _ rfl)) h (fun x hx => by
    obtain rfl := List.mem_singleton.1 hx
    exact ⟨numI_ok n hn, .inl rfl, ⟨rfl, .inl rfl⟩, ⟨rfl, .inl rfl⟩⟩)
theorem box_lt {W : World} {b : Nat} {v : Array Value} {x : Value} (h : BoxAt W b v) (h0 : v[0]? = some x) : b < W.heap.size := World.block_lt_of_cell? W ⟨b, 0, none⟩ (h 0 x h0)
theorem tabM_in {W : World} {g : Nat} {n : Int} (hn : -2147483648 ≤ n ∧ n < 2147483648) (b1 : BoxAt W (g + 1) #[.int .i64 0, .int .i64 0]) (b2 : BoxAt W (g + 1 + 1) #[.int .i64 0, .int .i64 0, .slice none 0 0]) (b3 : BoxAt W (g + 1 + 1 + 1) #[.int .u32 3, .int .u32 0, .bool false]) (b4 : BoxAt W (g + 1 + 1 + 1 + 1) (numI n).vals)
    (b5 : BoxAt W (g + 1 + 1 + 1 + 1 + 1) #[.int .u32 0, .int .u32 0]) (b6 : BoxAt W (g + 1 + 1 + 1 + 1 + 1 + 1) #[.slice (some ⟨g + 1 + 1 + 1 + 1, 0, none⟩) 1 1, .slice (some ⟨g + 1 + 1 + 1 + 1 + 1, 0, none⟩) 2 2]) : NewIn W (tabM g n) := by
  have hcs : ∀ l ∈ (tabM g n).codes, l = ⟨none, 0, .nil⟩ ∨ l = numL (g + 1 + 1 + 1 + 1) n := by
    intro l hl
    simp [tabM, Md.codes] at hl
    exact hl
  refine ⟨⟨rows_box (box_lt b1 rfl) (by simp [tabM, tyV]) b1, .inl rfl, rows_box (box_lt b2 rfl) (by simp [tabM, Mod.Fn.v]) b2, rows_box (box_lt b3 rfl) (by simp [tabM, Li.v]) b3, .inl rfl, .inl rfl, .inl rfl, rows_box (box_lt b6 rfl) (by simp [tabM, El.v]) b6, .inl rfl, fun l hl => ?_, fun e he => ?_, by simp [tabM]⟩, ⟨⟨by simp [tabM], by simp [tabM], by simp [tabM], by simp [tabM], by simp [tabM], by simp [tabM], by simp [tabM], by simp [tabM], by simp [tabM], fun l hl => ?_, by simp [tabM], by simp [tabM], by simp [tabM], by simp [tabM]⟩, fun l hl => ?_, by simp [tabM]⟩, ⟨by simp [tabM], by simp [tabM], by simp [tabM], by simp [tabM], by simp [tabM]⟩, ⟨by simp [tabM], fun l hl => ?_, by simp [tabM], by simp [tabM], by simp [tabM], by simp [tabM]⟩⟩
  · rcases hcs l hl with rfl | rfl
    · exact ⟨rfl, .inl rfl⟩
    · exact numL_at hn b4
  · simp only [tabM, List.mem_singleton] at he
    subst he
    refine .inr ⟨_, 0, rfl, box_lt b5 rfl, fun i hi => ?_⟩
    match i, hi with
    | 0, _ => simpa using b5 0 _ rfl
    | 1, _ => simpa using b5 1 _ rfl
  · rcases hcs l hl with rfl | rfl <;> simp [numL, mkIl, Il.len]
  · rcases hcs l hl with rfl | rfl <;> simp [numL, mkIl, Il.count]
  · rcases hcs l hl with rfl | rfl <;> simp [numL, mkIl, Il.weight, numI]
theorem tab1 (g : Nat) : newP (tabM g 1) = (0, ⟨[], [], [none, some 0, some 0], none⟩) := by kernel_rfl
theorem tab2 (g : Nat) : newP (tabM g 2) = (220, ⟨[], [], [], none⟩) := by kernel_rfl
theorem chain7 (w : World) (A0 A1 A2 A3 A4 A5 A6 : Array Value) (t0 t1 t2 t3 t4 t5 t6 : TypeId) : ∃ W, (((((((w.alloc (.cells A0 t0)).alloc (.cells A1 t1)).alloc (.cells A2 t2)).alloc (.cells A3 t3)).alloc (.cells A4 t4)).alloc (.cells A5 t5)).alloc (.cells A6 t6)) = W ∧ (BoxAt W (w.heap.size) A0 ∧ BoxAt W (w.heap.size + 1) A1 ∧ BoxAt W (w.heap.size + 1 + 1) A2 ∧ BoxAt W (w.heap.size + 1 + 1 + 1) A3 ∧ BoxAt W (w.heap.size + 1 + 1 + 1 + 1) A4 ∧ BoxAt W (w.heap.size + 1 + 1 + 1 + 1 + 1) A5 ∧ BoxAt W (w.heap.size + 1 + 1 + 1 + 1 + 1 + 1) A6) ∧ Below w.heap.size w W := by
  refine ⟨_, rfl, ⟨?_, ?_, ?_, ?_, ?_, ?_, ?_⟩, (thenA (thenA (thenA (thenA (thenA (thenA (thenA (Below.refl _ _) _) _) _) _) _) _) _)⟩ <;> (intro j x h; simp [go_sem, h])
set_option maxRecDepth 100000 in
theorem tabled_m (n : Int) (hn : -2147483648 ≤ n ∧ n < 2147483648) (w : World) : Calls Tryz.prog 55 #[.int .i32 n] w fun e w' => e = .returned (.agg (tabM w.heap.size n).v) ∧ NewIn w' (tabM w.heap.size n) ∧ Below w.heap.size w w' := by
  have HN := hid hn
  clear hn
  go_enter Tryz.func55, Tryz.ntmps55
  go_wp2_with fail
  refine (at_any n _).mono ?_
  rintro e w1 ⟨rfl, rfl⟩
  go_wp2
  obtain ⟨W, hW, ⟨b0, b1, b2, b3, b4, b5, b6⟩, hB⟩ := chain7 w #[.slice (some ⟨w.heap.size + 1, 0, none⟩) 1 1, .slice none 0 0, .slice (some ⟨w.heap.size + 1 + 1, 0, none⟩) 1 1, .slice (some ⟨w.heap.size + 1 + 1 + 1, 0, none⟩) 1 1, .slice none 0 0, .slice none 0 0, .slice none 0 0, .bool false, .int .u32 0, .slice (some ⟨w.heap.size + 1 + 1 + 1 + 1 + 1 + 1, 0, none⟩) 1 1, .slice none 0 0] #[.int .i64 0, .int .i64 0] #[.int .i64 0, .int .i64 0, .slice none 0 0] #[.int .u32 3, .int .u32 0, .bool false] (numI n).vals #[.int .u32 0, .int .u32 0] #[.slice (some ⟨w.heap.size + 1 + 1 + 1 + 1, 0, none⟩) 1 1, .slice (some ⟨w.heap.size + 1 + 1 + 1 + 1 + 1, 0, none⟩) 2 2] 32 92 101 83 105 28 109
  rw [hW]
  have HIN := hid (tabM_in HN.out b1 b2 b3 b4 b5 b6)
  have HB := hid hB
  obtain ⟨n0, n1, n2, n3, n4, n5, n6, n7, n8, n9, n10⟩ := BoxAt.mod b0
  clear hB b0 b1 b2 b3 b4 b5 b6 hW
  refine bodyPost_ret (v := .agg (tabM w.heap.size n).v) (by simp [results, Tryz.results55, go_sem, tabM, Md.v, n0, n1, n2, n3, n4, n5, n6, n7, n8, n9, n10]) rfl ⟨rfl, HIN.out, HB.out⟩
end Go.Proofs.YtckdnhafookcgaaGreatDoor.Pl

namespace Go.Proofs.YtckdnhafookcgaaGreatDoor.Pl
open Go.RowKit Go.Shelf Go.Proofs.YtckdnhafookcgaaGreatDoor.Instr Go.Proofs.YtckdnhafookcgaaGreatDoor.Mod Go.Proofs.YtckdnhafookcgaaGreatDoor.Val
open Go.Proofs.YtckdnhafookcgaaGreatDoor.Mem (MemIs MemAt Wrote Keep isOwn Mm)
set_option linter.unusedVariables false

/-- A place is made: its memory apart. -/
def NewYes (x : Pc) (w : World) (e : Ending) (w' : World) : Prop :=
  (∃ hi p H gb d tv mv, e = .returned (.tuple #[.pointer (some ⟨p, 0, none⟩), .int .i64 0]) ∧ PlAt w.heap.size hi w' p H gb 1048576 d tv mv x) ∧ Below w.heap.size w w'
theorem New_yes {m : Md} {x : Pc} {w : World} (hi : NewIn w m) (hT : Tb w) (h : newP m = (0, x)) : Calls Tryz.prog 14 #[.agg m.v] w (NewYes x w) := by
  refine (New_any m w hi hT).mono ?_
  rintro e w' ⟨hq | ⟨x', hi', p, H, gb, d, tv, mv, h1, h2, h3, h4⟩, hb⟩
  · obtain ⟨er, h1, h2, h3⟩ := hq
    rw [h] at h2
    simp only [Prod.mk.injEq] at h2
    exact absurd h2.1.symm h1
  · rw [h] at h1
    simp only [Prod.mk.injEq, true_and] at h1
    subst h1
    exact ⟨⟨hi', p, H, gb, d, tv, mv, h2, h4⟩, hb⟩
theorem New_no {m : Md} {er : Int} {w : World} (hi : NewIn w m) (hT : Tb w) (h : (newP m).1 = er) (hne : er ≠ 0) : Calls Tryz.prog 14 #[.agg m.v] w fun e w' => e = .returned (.tuple #[.pointer none, .int .i64 er]) ∧ Below w.heap.size w w' := by
  refine (New_any m w hi hT).mono ?_
  rintro e w' ⟨hq | ⟨x', hi', p, H, gb, d, tv, mv, h1, h2, h3, h4⟩, hb⟩
  · obtain ⟨er', h1, h2, h3⟩ := hq
    rw [h2] at h
    simp only at h
    subst h
    exact ⟨h3, hb⟩
  · rw [h1] at h
    exact absurd h.symm hne
set_option maxRecDepth 100000 in
set_option maxHeartbeats 2000000 in
theorem awake_p (w : World) (hT : Tb w) : Calls Tryz.prog 17 #[] w fun e w' => e = .returned (.bool true) ∧ Below w.heap.size w w' := by
  have HT := hid hT
  clear hT
  go_enter Tryz.func17, Tryz.ntmps17
  go_wp2_with fail
  refine (tabled_m 1 (by omega) w).mono ?_
  rintro e w1 ⟨rfl, hin, hb1⟩
  have HB1 := hid hb1
  have C1 := hid (New_yes hin (HT.out.on hb1) (tab1 _))
  clear hin hb1
  go_wp2_with fail
  refine C1.out.mono ?_
  rintro e w2 ⟨⟨hi, p, H, gb, d, tv, mv, rfl, hpl⟩, hb2⟩
  have HB2 := hid (thenB HB1.out hb2)
  have HPL := hid hpl
  clear C1 hb2 HB1 hpl
  go_wp2_with fail
  refine (tabled_m 2 (by omega) w2).mono ?_
  rintro e w3 ⟨rfl, hin, hb3⟩
  have HB3 := hid (thenB HB2.out hb3)
  have HPL3 := hid (HPL.out.below hb3)
  have C1 := hid (New_no hin (HT.out.on HB3.out) (er := 220) (by rw [tab2]) (by decide))
  clear hin hb3 HB2 HPL
  go_wp2_with fail
  refine C1.out.mono ?_
  rintro e w4 ⟨rfl, hb4⟩
  have HB4 := hid (thenB HB3.out hb4)
  have HPL4 := hid (HPL3.out.below hb4)
  have E0 := hid (Entry_yes HPL4.out 0 (by omega))
  have E1 := hid (Entry_yes HPL4.out 1 (by omega))
  have E3 := hid (Entry_yes HPL4.out 3 (by omega))
  rw [show entryP ⟨[], [], [none, some 0, some 0], none⟩ 0 = (0, false, 0) from rfl] at E0
  rw [show entryP ⟨[], [], [none, some 0, some 0], none⟩ 1 = (0, true, 0) from rfl] at E1
  rw [show entryP ⟨[], [], [none, some 0, some 0], none⟩ 3 = (0, false, 220) from rfl] at E3
  clear C1 hb4 HB3 HPL3
  go_wp2_with fail
  refine E0.out.mono ?_
  rintro e w5 ⟨rfl, rfl⟩
  go_wp2_with fail
  refine E1.out.mono ?_
  rintro e w5 ⟨rfl, rfl⟩
  go_wp2_with fail
  refine E3.out.mono ?_
  rintro e w5 ⟨rfl, rfl⟩
  go_wp2
  go_ret
  exact ⟨rfl, HB4.out⟩
end Go.Proofs.YtckdnhafookcgaaGreatDoor.Pl

namespace Go.Proofs.YtckdnhafookcgaaGreatDoor.Pl
open Go.RowKit Go.Shelf Go.Proofs.YtckdnhafookcgaaGreatDoor.Instr Go.Proofs.YtckdnhafookcgaaGreatDoor.Mod Go.Proofs.YtckdnhafookcgaaGreatDoor.Val
set_option linter.unusedVariables false

def SomeBool (w : World) (e : Ending) (w' : World) : Prop := ∃ b, e = .returned (.bool b) ∧ Below w.heap.size w w'
set_option maxRecDepth 100000 in
set_option maxHeartbeats 4000000 in
theorem many_any (m : Md) (w : World) (hm : ModAt w.heap.size w m) (hf : m.fits) (hr : ∀ l ∈ m.me, 0 ≤ l.n) : Calls Tryz.prog 41 #[.agg m.v, .bool false] w (SomeBool w) := by
  have hb0 := (Below.refl w.heap.size w).alloc (Nat.le_refl _) (.cells m.v 32)
  have HR := hid hm.me
  have HB := hid hb0
  have HX := hid (BoxAt.made w m.v 32)
  have hl := hf.me
  obtain ⟨n, hn⟩ : ∃ n, m.me.length = n := ⟨_, rfl⟩
  have HN := hid hn
  unfold SomeBool
  unfold Md.v at HX HB ⊢
  rw [hn] at hl HX HB ⊢
  clear hm hf hb0 hn hr
  generalize m.me'.a = a at HR HB HX ⊢
  obtain ⟨W0, hW0⟩ : ∃ W0, W0 = w.alloc (.cells #[.slice m.ty'.a m.ty.length m.ty'.c, .slice m.im'.a m.im.length m.im'.c, .slice m.fu'.a m.fu.length m.fu'.c, .slice m.tb'.a m.tb.length m.tb'.c, .slice a n m.me'.c, .slice m.gl'.a m.gl.length m.gl'.c, .slice m.ex'.a m.ex.length m.ex'.c, .bool m.st, .int .u32 m.sn, .slice m.el'.a m.el.length m.el'.c, .slice m.da'.a m.da.length m.da'.c] 32) := ⟨_, rfl⟩
  rw [← hW0] at HX HB
  have HW0 := hid hW0
  clear hW0
  go_enter Tryz.func41, Tryz.ntmps41
  go_upto_region 1 with fail
  rw [← HW0.out]
  clear HW0
  go_wp2
  go_loopw [5] (fun vi wr => ∃ k : Nat, vi = .int .i64 k ∧ k ≤ n ∧ Hid (Below W0.heap.size W0 wr)) (fun vi _ => n - (intOf vi).toNat)
  case atStart => exact ⟨0, rfl, Nat.zero_le _, Below.refl _ _⟩
  case round =>
    obtain ⟨k, rfl, hk, HW⟩ := hrel
    have x4 := Go.Proofs.YtckdnhafookcgaaGreatDoor.keep HW.out (HX.out 4 _ rfl)
    by_cases hlt : k < n
    · have hkl : k < m.me.length := by rw [HN.out]; exact hlt
      obtain ⟨b, off, rfl, hb, hc⟩ := Rows.get HR.out hkl
      obtain ⟨x, hxe⟩ : ∃ x, m.me[k] = x := ⟨_, rfl⟩
      rw [hxe] at hc
      have hbw : Below w.heap.size w wr := HB.out.trans (HW.out.mono HB.out.size)
      have cc : ∀ j, j < 3 → ∀ v, x.v[j]? = some v → wr.cell? ⟨b, off + k * 3 + j, none⟩ = some v := fun j hj v hv => (hbw.cell (p := ⟨b, off + k * 3 + j, none⟩) hb).trans (hc j hj v hv)
      have c0 : wr.cell? ⟨b, off + k * 3, none⟩ = some (.int .u32 x.n) := cc 0 (by omega) _ rfl
      have c1 : wr.cell? ⟨b, off + k * 3 + 1, none⟩ = some (.int .u32 x.x) := cc 1 (by omega) _ rfl
      have c2 : wr.cell? ⟨b, off + k * 3 + 2, none⟩ = some (.bool x.c) := cc 2 (by omega) _ rfl
      have hki : (k : Int) < (n : Int) := by omega
      have hk0 : (0 : Int) ≤ (k : Int) := by omega
      have HW2 := hid (HW.out.alloc HW.out.size (.cells #[.int .u32 x.n, .int .u32 x.x, .bool x.c] 83))
      have HF := hid (HB.out.trans (HW2.out.mono HB.out.size))
      clear hxe hc cc hb hbw
      by_cases hgt : 64 < x.n
      · go_wp2
        go_ret
        exact ⟨true, rfl, HF.out⟩
      · go_wp2
        go_roundw
        case rel => exact ⟨k + 1, by go_num, by omega, HW2⟩
        case measure => simp [intOf]; omega
    · obtain rfl : k = n := by omega
      have HF := hid (HB.out.trans (HW.out.mono HB.out.size))
      go_wp2
      go_ret
      exact ⟨false, rfl, HF.out⟩
set_option maxRecDepth 100000 in
set_option maxHeartbeats 4000000 in
theorem wide_any (m : Md) (w : World) (hm : ModAt w.heap.size w m) (hf : m.fits) (hr : ∀ l ∈ m.me, 0 ≤ l.n) : Calls Tryz.prog 12 #[.agg m.v] w (SomeBool w) := by
  have hb0 := (Below.refl w.heap.size w).alloc (Nat.le_refl _) (.cells m.v 32)
  have HR := hid hm.tb
  have HB := hid hb0
  have HX := hid (BoxAt.made w m.v 32)
  have hl := hf.tb
  have CM := hid (fun W (hb : Below w.heap.size w W) => many_any m W ((hm.below hb).more hb.size) hf hr)
  obtain ⟨n, hn⟩ : ∃ n, m.tb.length = n := ⟨_, rfl⟩
  have HN := hid hn
  unfold SomeBool at CM ⊢
  unfold Md.v at HX HB CM ⊢
  rw [hn] at hl HX HB CM ⊢
  clear hm hf hb0 hn hr
  generalize m.tb'.a = a at HR HB HX CM ⊢
  obtain ⟨W0, hW0⟩ : ∃ W0, W0 = w.alloc (.cells #[.slice m.ty'.a m.ty.length m.ty'.c, .slice m.im'.a m.im.length m.im'.c, .slice m.fu'.a m.fu.length m.fu'.c, .slice a n m.tb'.c, .slice m.me'.a m.me.length m.me'.c, .slice m.gl'.a m.gl.length m.gl'.c, .slice m.ex'.a m.ex.length m.ex'.c, .bool m.st, .int .u32 m.sn, .slice m.el'.a m.el.length m.el'.c, .slice m.da'.a m.da.length m.da'.c] 32) := ⟨_, rfl⟩
  rw [← hW0] at HX HB
  have HW0 := hid hW0
  clear hW0
  go_enter Tryz.func12, Tryz.ntmps12
  go_upto_region 1 with fail
  rw [← HW0.out]
  clear HW0
  go_wp2
  go_loopw [3] (fun vi wr => ∃ k : Nat, vi = .int .i64 k ∧ k ≤ n ∧ wr = W0) (fun vi _ => n - (intOf vi).toNat)
  case atStart => exact ⟨0, rfl, Nat.zero_le _, by first | rfl | trivial⟩
  case round =>
    obtain ⟨k, rfl, hk, rfl⟩ := hrel
    obtain ⟨n0, n1, n2, n3, n4, n5, n6, n7, n8, n9, n10⟩ := BoxAt.mod HX.out
    have hk0 : (0 : Int) ≤ (k : Int) := by omega
    by_cases hlt : k < n ∧ k < 2
    · have hkl : k < m.tb.length := by rw [HN.out]; exact hlt.1
      obtain ⟨b, off, rfl, hb, hc⟩ := Rows.get HR.out hkl
      obtain ⟨x, hxe⟩ : ∃ x, m.tb[k] = x := ⟨_, rfl⟩
      rw [hxe] at hc
      have c0 : wr.cell? ⟨b, off + k * 3, none⟩ = some (.int .u32 x.n) := (HB.out.cell (p := ⟨b, off + k * 3 + 0, none⟩) hb).trans (hc 0 (by omega) _ rfl)
      have hki : (k : Int) < (n : Int) := by omega
      have hk2 : (k : Int) < 2 := by omega
      clear hxe hc hb
      by_cases hgt : 2000 < x.n
      · go_wp2
        go_ret
        exact ⟨true, rfl, HB.out⟩
      · go_wp2
        go_roundw
        case rel => exact ⟨k + 1, by go_num, by omega, trivial⟩
        case measure => simp [intOf]; omega
    · have CC := hid (CM.out wr HB.out)
      by_cases hkn : k < n
      · have hki : (k : Int) < (n : Int) := by omega
        have hk2 : ¬ ((k : Int) < 2) := by omega
        clear hlt hkn
        go_wp2_with fail
        refine CC.out.mono ?_
        rintro e w1 ⟨b, rfl, hb⟩
        have HF := hid (thenB HB.out hb)
        clear CC hb n0 n1 n2 n3 n4 n5 n6 n7 n8 n9 n10
        go_wp2
        go_ret
        exact ⟨b, rfl, HF.out⟩
      · have hki : ¬ ((k : Int) < (n : Int)) := by omega
        clear hlt hkn
        go_wp2_with fail
        refine CC.out.mono ?_
        rintro e w1 ⟨b, rfl, hb⟩
        have HF := hid (thenB HB.out hb)
        clear CC hb n0 n1 n2 n3 n4 n5 n6 n7 n8 n9 n10
        go_wp2
        go_ret
        exact ⟨b, rfl, HF.out⟩
end Go.Proofs.YtckdnhafookcgaaGreatDoor.Pl

namespace Go.Proofs.YtckdnhafookcgaaGreatDoor.Pl
open Go.RowKit Go.Shelf Go.Proofs.YtckdnhafookcgaaGreatDoor.Instr Go.Proofs.YtckdnhafookcgaaGreatDoor.Mod Go.Proofs.YtckdnhafookcgaaGreatDoor.Val
open Go.Proofs.YtckdnhafookcgaaGreatDoor.Mem (MemIs MemAt Wrote Keep isOwn Mm)
set_option linter.unusedVariables false

def readyM (m : Md) : Md := { m with im := [], im' := ⟨none, 0⟩, el := [], el' := ⟨none, 0⟩, da := [], da' := ⟨none, 0⟩ }
theorem ready_sub (m : Md) : Sub (readyM m) m := ⟨List.prefix_refl _, List.nil_prefix, List.prefix_refl _, List.prefix_refl _, List.prefix_refl _, List.prefix_refl _, List.prefix_refl _, List.nil_prefix, List.nil_prefix, .inl ⟨rfl, rfl⟩⟩
theorem ready_lies (m : Md) : Lies (readyM m) m := ⟨.inl rfl, .inr rfl, .inl rfl, .inl rfl, .inl rfl, .inl rfl, .inl rfl, .inr rfl, .inr rfl⟩
theorem ready_ranged {m : Md} (h : m.ranged) : (readyM m).ranged := ⟨h.n0, h.ei, by simp [readyM], by simp [readyM], h.sn⟩
theorem small_sub {m' m : Md} (h : Sub m' m) (hs : m.small 5000) : m'.small 5000 := by
  have := h.ty.length_le; have := h.im.length_le; have := h.fu.length_le; have := h.gl.length_le; have := h.ex.length_le; have := h.el.length_le; have := h.da.length_le; have := h.tb.length_le; have := h.me.length_le
  have := hs.lens
  exact ⟨by omega, fun l hl => hs.ls l (codes_mem h l hl), fun e he => hs.fs e (h.el.subset he), fun e he => hs.bs e (h.da.subset he), fun e he => hs.iS e (h.im.subset he), fun e he => hs.eS e (h.ex.subset he)⟩
theorem ready_in {w W : World} {m : Md} (hm : ModAt w.heap.size w m) (hb : Below w.heap.size w W) (hf : m.few) (hr : m.ranged) (hs : m.small 5000) : NewIn W (readyM m) :=
  ⟨at_sub (ready_sub m) (ready_lies m) ((hm.below hb).more hb.size), few_sub (ready_sub m) hf, ready_ranged hr, small_sub (ready_sub m) hs⟩
def memh : List Li → Option Mm
  | [] => none
  | l :: _ => some (mem0 l)
def readyX (m : Md) : Pc := ⟨[], globs m, tab0 m, memh m.me⟩
theorem tab0_nil {m : Md} (h : m.tb.length = 0) : tab0 m = [] := by
  unfold tab0
  generalize m.tb = l at h
  cases l with
  | nil => rfl
  | cons x r => simp at h
theorem ready_new {m : Md} (h : (wrongP (readyM m)).e = 0) : newP (readyM m) = (0, readyX m) := by
  refine newP_ok h rfl (t := tab0 m) ?_ (o := memh m.me) ?_
  · unfold tabP
    show (if m.tb.length = 0 then some [] else some (tab0 m)) = some (tab0 m)
    split
    · rename_i h0; rw [tab0_nil h0]
    · rfl
  · rw [memP_eq]
    show memL m.me [] = some (memh m.me)
    cases m.me <;> rfl
theorem tab0_get (m : Md) (k : Nat) : (tab0 m).getD k none = none := by
  unfold tab0
  generalize m.tb = l
  cases l with
  | nil => rfl
  | cons x r => simp [List.getElem?_replicate]; split <;> rfl
theorem ready_entry (m : Md) (k : Nat) : entryP (readyX m) k = (0, false, if k < (tab0 m).length then 0 else 220) := by
  unfold entryP
  show (if k < (tab0 m).length then (match (tab0 m).getD k none with | some z => (z, true, (0 : Int)) | none => (0, false, 0)) else (0, false, 220)) = _
  rw [tab0_get]
  split <;> rfl
theorem mem0_read (l : Li) (s : Nat) : (mem0 l).read s 1 = if (mem0 l).has s 1 then ([0], 0) else ([], 220) := by
  unfold Mem.Mm.read
  rfl
/-- One byte that a call made. -/
theorem byte_new (W : World) (T : TypeId) : Bytes (W.alloc (.cells #[.int .u8 0] T)) (some ⟨W.heap.size, 0, none⟩) [0] :=
  Mem.bytes_heap (zs := [0]) (T := T) (MapKept.heap_alloc W _).1 (by decide) (by decide)
theorem byte_newD (W : World) (T : TypeId) : Bytes (W.alloc (.cells #[.int .u8 0] T)).drew (some ⟨W.heap.size, 0, none⟩) [0] := byte_new W.drew T
end Go.Proofs.YtckdnhafookcgaaGreatDoor.Pl

namespace Go.Proofs.YtckdnhafookcgaaGreatDoor.Pl
open Go.RowKit Go.Shelf Go.Proofs.YtckdnhafookcgaaGreatDoor.Instr Go.Proofs.YtckdnhafookcgaaGreatDoor.Mod Go.Proofs.YtckdnhafookcgaaGreatDoor.Val
open Go.Proofs.YtckdnhafookcgaaGreatDoor.Mem (MemIs MemAt Wrote Keep isOwn Mm Read_any Pages_any)
set_option linter.unusedVariables false

theorem held_out2p {w w1 : World} {p q : Addr} {x y : Value} (h : Below w.heap.size w w1 ∧ w1.cell? p = some x ∧ w1.cell? q = some y) : Below w.heap.size w w1 := h.1
theorem held_keep2p {w w1 w2 : World} {p q : Addr} {x y : Value} (h : Below w.heap.size w w1 ∧ w1.cell? p = some x ∧ w1.cell? q = some y) (hb : Below w1.heap.size w1 w2) : Below w.heap.size w w2 ∧ w2.cell? p = some x ∧ w2.cell? q = some y := ⟨thenB h.1 hb, Go.Proofs.YtckdnhafookcgaaGreatDoor.keep hb h.2.1, Go.Proofs.YtckdnhafookcgaaGreatDoor.keep hb h.2.2⟩
theorem memh_nil {l : List Li} (h : l.length = 0) : memh l = none := by
  cases l with
  | nil => rfl
  | cons x r => simp at h
theorem memh_cons {l : List Li} (h : 0 < l.length) : memh l = some (mem0 (l[0])) := by
  cases l with
  | nil => simp at h
  | cons x r => rfl
set_option maxRecDepth 100000 in
set_option maxHeartbeats 8000000 in
theorem placeReady_go (m : Md) (s n : Nat) (w : World) (hm : ModAt w.heap.size w m) (hf : m.fits) (hr : m.ranged) (hs : s ≤ 4294967295) (hn : n ≤ 4294967295) (hT : Tb w) :
    Calls Tryz.prog 6 #[.agg m.v, .int .u32 s, .int .u32 n] w fun e w' => e = .returned (.bool true) ∧ Below w.heap.size w w' := by
  have hb0 := (Below.refl w.heap.size w).alloc (Nat.le_refl _) (.cells m.v 32)
  have HB := hid hb0
  have HX := hid (NB.made w m.v)
  have HM := hid hm
  have HF := hid hf
  have HR := hid hr
  have HT := hid hT
  have CL := hid (fun W (hb : Below w.heap.size w W) => Large_any m W ((hm.below hb).more hb.size) hf)
  have CW := hid (fun W (hb : Below w.heap.size w W) => wide_any m W ((hm.below hb).more hb.size) hf (fun l hl => hr.n0 l (List.mem_append_right _ hl)))
  have CC := hid (fun W (hb : Below w.heap.size w W) (hi : NewIn W (readyM m)) => Check_m (readyM m) W hi.at_ hi.few ⟨hi.rng.ei, hi.rng.ef, hi.rng.sn⟩ (hT.on hb).nt (hT.on hb).ut (hT.on hb).ar)
  have CN := hid (fun W (hb : Below w.heap.size w W) (hi : NewIn W (readyM m)) (h : newP (readyM m) = (0, readyX m)) => New_yes hi (hT.on hb) h)
  unfold Large at CL
  unfold SomeBool at CW
  unfold CheckP at CC
  unfold NewYes at CN
  have hv : (readyM m).v = #[.slice m.ty'.a m.ty.length m.ty'.c, .slice none 0 0, .slice m.fu'.a m.fu.length m.fu'.c, .slice m.tb'.a m.tb.length m.tb'.c, .slice m.me'.a m.me.length m.me'.c, .slice m.gl'.a m.gl.length m.gl'.c, .slice m.ex'.a m.ex.length m.ex'.c, .bool m.st, .int .u32 m.sn, .slice none 0 0, .slice none 0 0] := rfl
  rw [hv] at CC CN
  unfold Md.v at HX HB CL CW ⊢
  clear hm hf hb0 hr hT hv
  have q1 := eqWrong
  have q2 := guardWrong
  obtain ⟨W0, hW0⟩ : ∃ W0, W0 = w.alloc (.cells #[.slice m.ty'.a m.ty.length m.ty'.c, .slice m.im'.a m.im.length m.im'.c, .slice m.fu'.a m.fu.length m.fu'.c, .slice m.tb'.a m.tb.length m.tb'.c, .slice m.me'.a m.me.length m.me'.c, .slice m.gl'.a m.gl.length m.gl'.c, .slice m.ex'.a m.ex.length m.ex'.c, .bool m.st, .int .u32 m.sn, .slice m.el'.a m.el.length m.el'.c, .slice m.da'.a m.da.length m.da'.c] 32) := ⟨_, rfl⟩
  rw [← hW0] at HX HB
  have HW0 := hid hW0
  clear hW0
  go_enter Tryz.func6, Tryz.ntmps6
  go_upto_region 1 with fail
  rw [← HW0.out]
  clear HW0
  have CA := hid (awake_p W0 (HT.out.on HB.out))
  go_wp2_with fail
  refine CA.out.mono ?_
  rintro e w1 ⟨rfl, hb1⟩
  have HX1 := hid (HX.out.below hb1)
  have HB1 := hid (thenB HB.out hb1)
  clear CA hb1 HX HB
  obtain ⟨n0, n1, n2, n3, n4, n5, n6, n7, n8, n9, n10⟩ := HX1.out.cs
  have C1 := hid (CL.out w1 HB1.out)
  go_wp2_with fail
  refine C1.out.mono ?_
  rintro e w2 ⟨bl, rfl, hsm, hb2⟩
  have HX2 := hid (HX1.out.below hb2)
  have HB2 := hid (thenB HB1.out hb2)
  have HSM := hid hsm
  clear C1 hb2 HX1 HB1 n0 n1 n2 n3 n4 n5 n6 n7 n8 n9 n10 hsm
  cases bl with
  | true =>
    clear HSM
    go_wp2
    go_ret
    exact ⟨rfl, HB2.out⟩
  | false =>
    have HS := hid (HSM.out rfl)
    have HFW := hid (small_few' HS.out (by omega) HF.out)
    clear HSM
    obtain ⟨n0, n1, n2, n3, n4, n5, n6, n7, n8, n9, n10⟩ := HX2.out.cs
    have C1 := hid (CW.out w2 HB2.out)
    go_wp2_with fail
    refine C1.out.mono ?_
    rintro e w3 ⟨bw, rfl, hb3⟩
    have HX3 := hid (HX2.out.below hb3)
    have HB3 := hid (thenB HB2.out hb3)
    clear C1 hb3 HX2 HB2 n0 n1 n2 n3 n4 n5 n6 n7 n8 n9 n10
    cases bw with
    | true =>
      go_wp2
      go_ret
      exact ⟨rfl, HB3.out⟩
    | false =>
      obtain ⟨n0, n1, n2, n3, n4, n5, n6, n7, n8, n9, n10⟩ := HX3.out.cs
      obtain ⟨f0, f1, f2, f3, f4, f5, f6, f7, f8, f9, f10⟩ := HX3.out.fs
      go_upto_region 7 with fail
      obtain ⟨W7, hW7⟩ : ∃ W7, W7 = ((w3.setCell ⟨w.heap.size, 1, none⟩ (.slice none 0 0)).setCell ⟨w.heap.size, 9, none⟩ (.slice none 0 0)).setCell ⟨w.heap.size, 10, none⟩ (.slice none 0 0) := ⟨_, rfl⟩
      rw [← hW7]
      have HX7 := hid (show NB W7 w.heap.size #[.slice m.ty'.a m.ty.length m.ty'.c, .slice none 0 0, .slice m.fu'.a m.fu.length m.fu'.c, .slice m.tb'.a m.tb.length m.tb'.c, .slice m.me'.a m.me.length m.me'.c, .slice m.gl'.a m.gl.length m.gl'.c, .slice m.ex'.a m.ex.length m.ex'.c, .bool m.st, .int .u32 m.sn, .slice none 0 0, .slice none 0 0] by rw [hW7]; exact ((HX3.out.set 1 (.slice none 0 0)).set 9 (.slice none 0 0)).set 10 (.slice none 0 0))
      have HB7 := hid (show Below w.heap.size w W7 by rw [hW7]; exact ((HB3.out.setCell (Nat.le_refl _) _).setCell (Nat.le_refl _) _).setCell (Nat.le_refl _) _)
      clear hW7 n0 n1 n2 n3 n4 n5 n6 n7 n8 n9 n10 f0 f1 f2 f3 f4 f5 f6 f7 f8 f9 f10 HX3 HB3
      obtain ⟨n0, n1, n2, n3, n4, n5, n6, n7, n8, n9, n10⟩ := HX7.out.cs
      have C1 := hid (CC.out W7 HB7.out (ready_in HM.out HB7.out HFW.out HR.out HS.out))
      obtain ⟨⟨we, wsec, wi, wa⟩, hwr⟩ : ∃ q, wrongP (readyM m) = q := ⟨_, rfl⟩
      rw [hwr] at C1
      have HWR := hid (show (wrongP (readyM m)).e = we by rw [hwr])
      simp only [Wr.v] at C1
      clear CC hwr
      go_wp2_with fail
      refine C1.out.mono ?_
      rintro e w8 ⟨rfl, hb8⟩
      have HX8 := hid (HX7.out.below hb8)
      have HB8 := hid (thenB HB7.out hb8)
      clear C1 hb8 n0 n1 n2 n3 n4 n5 n6 n7 n8 n9 n10 HX7 HB7
      obtain ⟨n0, n1, n2, n3, n4, n5, n6, n7, n8, n9, n10⟩ := HX8.out.cs
      by_cases hall : (we == 0 && wsec == 0 && wi == 0 && wa == 0) = true
      · have hwe : we = 0 := by simp only [Bool.and_eq_true, beq_iff_eq] at hall; exact hall.1.1.1
        have HNW := hid (ready_new (m := m) (by rw [HWR.out]; exact hwe))
        have C1 := hid (CN.out w8 HB8.out (ready_in HM.out HB8.out HFW.out HR.out HS.out) HNW.out)
        have SND := hid (sound_of (m := readyM m) (wrong_zero (by rw [HWR.out]; exact hwe)) HR.out.n0)
        clear CN hwe
        go_wp2_with fail
        refine C1.out.mono ?_
        rintro e w9 ⟨⟨hi, p, H, gb, d, tv, mv, rfl, hpl⟩, hb9⟩
        have HX9 := hid (HX8.out.below hb9)
        have HB9 := hid (thenB HB8.out hb9)
        have HPL := hid hpl
        clear C1 hb9 HX8 HB8 hpl n0 n1 n2 n3 n4 n5 n6 n7 n8 n9 n10 hall q1 q2
        have C1 := hid (Entry_yes HPL.out n hn)
        have C2 := hid (Size_yes HPL.out)
        rw [ready_entry] at C1
        simp only at C1
        obtain ⟨N, hN⟩ : ∃ N, (tab0 m).length = N := ⟨_, rfl⟩
        rw [show (readyX m).tb = tab0 m from rfl, hN] at C2
        rw [hN] at C1
        obtain ⟨n0, n1, n2, n3, n4, n5, n6, n7, n8, n9, n10⟩ := HX9.out.cs
        have hnN : n < N ∨ ¬ n < N := by omega
        rcases hnN with h1 | h1
        · rw [if_pos h1] at C1
          have hge : (n : Int) < (N : Int) := by omega
          have hge2 : ¬ ((N : Int) ≤ (n : Int)) := by omega
          clear h1 hN
          go_wp2_with fail
          refine C1.out.mono ?_
          rintro e w10 ⟨rfl, rfl⟩
          go_wp2_with fail
          refine C2.out.mono ?_
          rintro e w10 ⟨rfl, rfl⟩
          clear C1 C2
          go_upto_region 15 with fail
          rcases (show m.me.length = 0 ∨ 0 < m.me.length by omega) with h0 | h0
          · have hnb : ((m.me.length : Int) == 0) = true := by simp [h0]
            have hmv : mv = .pointer none := by
              have := HPL.out.me
              rw [show (readyX m).me = memh m.me from rfl, memh_nil h0] at this
              exact this
            subst hmv
            have CM := hid (Memory_yes HPL.out)
            clear h0
            go_wp2_with fail
            refine CM.out.mono ?_
            rintro e w10 ⟨rfl, rfl⟩
            go_wp2
            go_ret
            exact ⟨rfl, HB9.out⟩
          · have hnb : ((m.me.length : Int) == 0) = false := by rw [beq_eq_false_iff_ne]; omega
            have hmv : ∃ pm, mv = .pointer (some ⟨pm, 0, none⟩) ∧ MemIs hi w9 pm 1048576 (mem0 (m.me[0])) := by
              have := HPL.out.me
              rw [show (readyX m).me = memh m.me from rfl, memh_cons h0] at this
              exact this
            obtain ⟨pm, rfl, hmi⟩ := hmv
            have hlo := (SND.out.me (m.me[0]) (List.getElem_mem h0)).n
            obtain ⟨b3, off3, ha, hb3, hc3⟩ := Rows.get HM.out.me h0
            obtain ⟨l, hl⟩ : ∃ l, m.me[0] = l := ⟨_, rfl⟩
            rw [hl] at hmi hlo hc3
            obtain ⟨Nm, hNm⟩ : ∃ Nm : Nat, l.n = (Nm : Int) := ⟨l.n.toNat, by omega⟩
            have c3 : w9.cell? ⟨b3, off3, none⟩ = some (.int .u32 (Nm : Int)) := by
              have := (HB9.out.cell (p := ⟨b3, off3 + 0 * 3 + 0, none⟩) hb3).trans (hc3 0 (by omega) (.int .u32 l.n) rfl)
              rw [hNm] at this
              simpa using this
            have hpg : (mem0 l).n = Nm := by unfold mem0; simp only; rw [hNm]; simp
            obtain ⟨K, hK⟩ : ∃ K, m.me.length = K := ⟨_, rfl⟩
            rw [ha, hK] at n4
            rw [hK] at hnb h0
            have hK0 : (0 : Int) < (K : Int) := by omega
            have hK1 : 0 < K := by omega
            have CM := hid (Memory_yes HPL.out)
            have CR := hid (Read_any hmi s 1 hs (by omega))
            rw [mem0_read] at CR
            have HMI := hid hmi
            have HC3 := hid c3
            have HN4 := hid n4
            generalize (mem0 l).has s 1 = hhas at CR
            clear hmi hlo hc3 hb3 hl hNm hK h0 c3
            go_wp2_with fail
            refine CM.out.mono ?_
            rintro e w10 ⟨rfl, rfl⟩
            go_wp2_with fail
            refine CR.out.mono ?_
            rintro e w10 ⟨hgot, hb10⟩
            have HB10 := hid (thenB HB9.out hb10)
            have n4 := Go.Proofs.YtckdnhafookcgaaGreatDoor.keep hb10 HN4.out
            have c3 := Go.Proofs.YtckdnhafookcgaaGreatDoor.keep hb10 HC3.out
            have CMM := hid (fun (W : World) (h : Below w10.heap.size w10 W) => Memory_yes ((HPL.out.below hb10).below h))
            have CPP := hid (fun (W : World) (h : Below w10.heap.size w10 W) => Pages_any ((HMI.out.below hb10).below h))
            rw [hpg] at CPP
            have hS0 : Below w10.heap.size w10 w10.drew ∧ w10.drew.cell? ⟨w.heap.size, 4, none⟩ = some (.slice (some ⟨b3, off3, none⟩) K m.me'.c) ∧ w10.drew.cell? ⟨b3, off3, none⟩ = some (.int .u32 (Nm : Int)) := ⟨(Below.refl _ _).drew, n4, c3⟩
            clear CM CR HC3 HN4 HX9 HB9 hpg HMI
            cases hhas with
            | true =>
              rcases hgot with ⟨g, rfl, hg, hgc⟩ | ⟨_, h0⟩
              · have HBY := hid (Mem.bytes_heap (zs := [0]) hgc (by decide) (by decide))
                have CSB := hid (fun (W : World) (h : Below w10.heap.size w10 W) {a2 : Option Addr} (hy : Bytes W a2 [0]) => SameBytes_yes (some ⟨g, 0, none⟩) a2 1 1 1 1 [0] W rfl rfl (HBY.out.below h) hy)
                clear hg hgc hb10
                go_upto_region 18 with fail
                (first | go_loud (go_region_held3 (fun w' => Below w10.heap.size w10 w' ∧ w'.cell? ⟨w.heap.size, 4, none⟩ = some (.slice (some ⟨b3, off3, none⟩) K m.me'.c) ∧ w'.cell? ⟨b3, off3, none⟩ = some (.int .u32 (Nm : Int))) (first | assumption | exact held_keep2p (by assumption) (by assumption) | exact held_keep2p (by assumption) (belowAlloc _ _)) (first | (go_at_call 20; (with_reducible refine (CMM.out _ (held_out2p (by assumption))).mono ?_); rintro e11 w11 ⟨rfl, rfl⟩) | (go_at_call 31; (with_reducible refine (CPP.out _ (held_out2p (by assumption))).mono ?_); rintro e12 w12 ⟨rfl, rfl⟩) | (go_at_call 29; (first | refine (CSB.out _ (held_out2p (by assumption)) (byte_newD _ _)).mono ?_ | refine (CSB.out _ (held_out2p (by assumption)) (byte_new _ _)).mono ?_); rintro e13 w13 ⟨rfl, rfl⟩))) | fail)
                go_wp2
                go_ret
                first | exact ⟨rfl, (thenA HB10.out _).drew⟩ | exact ⟨rfl, thenA HB10.out.drew _⟩
              · cases h0
            | false =>
              rcases hgot with ⟨g, rfl, hg, hgc⟩ | ⟨rfl, _⟩
              all_goals
                clear hb10
                try clear hg hgc
                go_upto_region 18 with fail
                go_quiet (first | (go_at_call 20; exact Calls.quiet_of_same ((CMM.out _ (drewN (Below.refl _ _))).mono fun e w' h => ⟨h.1, h.2.symm⟩)) | (go_at_call 31; exact Calls.quiet_of_same ((CPP.out _ (drewN (Below.refl _ _))).mono fun e w' h => ⟨h.1, h.2.symm⟩)))
                go_wp2
                go_ret
                exact ⟨rfl, drewN HB10.out⟩
        · rw [if_neg h1] at C1
          clear h1 hN
          go_wp2_with fail
          refine C1.out.mono ?_
          rintro e w10 ⟨rfl, rfl⟩
          clear C1 C2
          go_upto_region 15 with fail
          rcases (show m.me.length = 0 ∨ 0 < m.me.length by omega) with h0 | h0
          · have hnb : ((m.me.length : Int) == 0) = true := by simp [h0]
            have hmv : mv = .pointer none := by
              have := HPL.out.me
              rw [show (readyX m).me = memh m.me from rfl, memh_nil h0] at this
              exact this
            subst hmv
            have CM := hid (Memory_yes HPL.out)
            clear h0
            go_wp2_with fail
            refine CM.out.mono ?_
            rintro e w10 ⟨rfl, rfl⟩
            go_wp2
            go_ret
            exact ⟨rfl, HB9.out⟩
          · have hnb : ((m.me.length : Int) == 0) = false := by rw [beq_eq_false_iff_ne]; omega
            have hmv : ∃ pm, mv = .pointer (some ⟨pm, 0, none⟩) ∧ MemIs hi w9 pm 1048576 (mem0 (m.me[0])) := by
              have := HPL.out.me
              rw [show (readyX m).me = memh m.me from rfl, memh_cons h0] at this
              exact this
            obtain ⟨pm, rfl, hmi⟩ := hmv
            have hlo := (SND.out.me (m.me[0]) (List.getElem_mem h0)).n
            obtain ⟨b3, off3, ha, hb3, hc3⟩ := Rows.get HM.out.me h0
            obtain ⟨l, hl⟩ : ∃ l, m.me[0] = l := ⟨_, rfl⟩
            rw [hl] at hmi hlo hc3
            obtain ⟨Nm, hNm⟩ : ∃ Nm : Nat, l.n = (Nm : Int) := ⟨l.n.toNat, by omega⟩
            have c3 : w9.cell? ⟨b3, off3, none⟩ = some (.int .u32 (Nm : Int)) := by
              have := (HB9.out.cell (p := ⟨b3, off3 + 0 * 3 + 0, none⟩) hb3).trans (hc3 0 (by omega) (.int .u32 l.n) rfl)
              rw [hNm] at this
              simpa using this
            have hpg : (mem0 l).n = Nm := by unfold mem0; simp only; rw [hNm]; simp
            obtain ⟨K, hK⟩ : ∃ K, m.me.length = K := ⟨_, rfl⟩
            rw [ha, hK] at n4
            rw [hK] at hnb h0
            have hK0 : (0 : Int) < (K : Int) := by omega
            have hK1 : 0 < K := by omega
            have CM := hid (Memory_yes HPL.out)
            have CR := hid (Read_any hmi s 1 hs (by omega))
            rw [mem0_read] at CR
            have HMI := hid hmi
            have HC3 := hid c3
            have HN4 := hid n4
            generalize (mem0 l).has s 1 = hhas at CR
            clear hmi hlo hc3 hb3 hl hNm hK h0 c3
            go_wp2_with fail
            refine CM.out.mono ?_
            rintro e w10 ⟨rfl, rfl⟩
            go_wp2_with fail
            refine CR.out.mono ?_
            rintro e w10 ⟨hgot, hb10⟩
            have HB10 := hid (thenB HB9.out hb10)
            have n4 := Go.Proofs.YtckdnhafookcgaaGreatDoor.keep hb10 HN4.out
            have c3 := Go.Proofs.YtckdnhafookcgaaGreatDoor.keep hb10 HC3.out
            have CMM := hid (fun (W : World) (h : Below w10.heap.size w10 W) => Memory_yes ((HPL.out.below hb10).below h))
            have CPP := hid (fun (W : World) (h : Below w10.heap.size w10 W) => Pages_any ((HMI.out.below hb10).below h))
            rw [hpg] at CPP
            have hS0 : Below w10.heap.size w10 w10.drew ∧ w10.drew.cell? ⟨w.heap.size, 4, none⟩ = some (.slice (some ⟨b3, off3, none⟩) K m.me'.c) ∧ w10.drew.cell? ⟨b3, off3, none⟩ = some (.int .u32 (Nm : Int)) := ⟨(Below.refl _ _).drew, n4, c3⟩
            clear CM CR HC3 HN4 HX9 HB9 hpg HMI
            cases hhas with
            | true =>
              rcases hgot with ⟨g, rfl, hg, hgc⟩ | ⟨_, h0⟩
              · have HBY := hid (Mem.bytes_heap (zs := [0]) hgc (by decide) (by decide))
                have CSB := hid (fun (W : World) (h : Below w10.heap.size w10 W) {a2 : Option Addr} (hy : Bytes W a2 [0]) => SameBytes_yes (some ⟨g, 0, none⟩) a2 1 1 1 1 [0] W rfl rfl (HBY.out.below h) hy)
                clear hg hgc hb10
                go_upto_region 18 with fail
                (first | go_loud (go_region_held3 (fun w' => Below w10.heap.size w10 w' ∧ w'.cell? ⟨w.heap.size, 4, none⟩ = some (.slice (some ⟨b3, off3, none⟩) K m.me'.c) ∧ w'.cell? ⟨b3, off3, none⟩ = some (.int .u32 (Nm : Int))) (first | assumption | exact held_keep2p (by assumption) (by assumption) | exact held_keep2p (by assumption) (belowAlloc _ _)) (first | (go_at_call 20; (with_reducible refine (CMM.out _ (held_out2p (by assumption))).mono ?_); rintro e11 w11 ⟨rfl, rfl⟩) | (go_at_call 31; (with_reducible refine (CPP.out _ (held_out2p (by assumption))).mono ?_); rintro e12 w12 ⟨rfl, rfl⟩) | (go_at_call 29; (first | refine (CSB.out _ (held_out2p (by assumption)) (byte_newD _ _)).mono ?_ | refine (CSB.out _ (held_out2p (by assumption)) (byte_new _ _)).mono ?_); rintro e13 w13 ⟨rfl, rfl⟩))) | fail)
                go_wp2
                go_ret
                first | exact ⟨rfl, (thenA HB10.out _).drew⟩ | exact ⟨rfl, thenA HB10.out.drew _⟩
              · cases h0
            | false =>
              rcases hgot with ⟨g, rfl, hg, hgc⟩ | ⟨rfl, _⟩
              all_goals
                clear hb10
                try clear hg hgc
                go_upto_region 18 with fail
                go_quiet (first | (go_at_call 20; exact Calls.quiet_of_same ((CMM.out _ (drewN (Below.refl _ _))).mono fun e w' h => ⟨h.1, h.2.symm⟩)) | (go_at_call 31; exact Calls.quiet_of_same ((CPP.out _ (drewN (Below.refl _ _))).mono fun e w' h => ⟨h.1, h.2.symm⟩)))
                go_wp2
                go_ret
                exact ⟨rfl, drewN HB10.out⟩
      · have hall2 : (we == 0 && wsec == 0 && wi == 0 && wa == 0) = false := by simpa using hall
        clear hall
        go_wp2
        go_ret
        exact ⟨rfl, HB8.out⟩
end Go.Proofs.YtckdnhafookcgaaGreatDoor.Pl
namespace Go.Proofs.YtckdnhafookcgaaGreatDoor
open Go.RowKit
set_option linter.unusedVariables false
theorem placeReady_walk (w : World) (m : Mod.Md) (hm : Mod.ModAt w.heap.size w m) (hf : m.fits) (hc : m.caps) (hr : m.ranged) (s : Int) (hs : 0 ≤ s ∧ s ≤ 4294967295) (n : Int) (hn : 0 ≤ n ∧ n ≤ 4294967295) (hT : Instr.Nams w ∧ Utf.Tabs w ∧ Num.Arit w) :
    Calls Tryz.prog 6 #[.agg m.v, .int .u32 s, .int .u32 n] w fun e w' => e = .returned (.bool true) ∧ Below w.heap.size w w' := by
  obtain ⟨S, rfl⟩ : ∃ S : Nat, s = (S : Int) := ⟨s.toNat, by omega⟩
  obtain ⟨N, rfl⟩ : ∃ N : Nat, n = (N : Int) := ⟨n.toNat, by omega⟩
  exact Pl.placeReady_go m S N w hm hf hr (by omega) (by omega) ⟨hT.1, hT.2.1, hT.2.2⟩
end Go.Proofs.YtckdnhafookcgaaGreatDoor

namespace Go.Proofs.YtckdnhafookcgaaGreatDoor.placeReady
open Go.ChangeShapes Go.WideShapes Go.ChangeAt Go.RowKit
open Go.ChangeMaps (open_string shut_string)
set_option linter.unusedVariables false

set_option maxRecDepth 100000 in
theorem lifted (os : Os) (started : os.Started) (H : Type) (enc : TypeId × Value → H) :
    ReturnsInHanded {} Tryz.checked os 6 .any (fun w args => (Rows.placeReadySpec.pre enc Tryz.prog Tryz.f6 [] false w args ∧ laidMetH Tryz.prog laid4 w) ∧ sizedMet enc Tryz.prog Tryz.f6 (OpenSpec.ofChange Rows.placeReadySpec) false w args)
      (Rows.placeReadySpec.post enc Tryz.prog Tryz.f6 false true false false) := by
  refine returnsInHanded_of_change_and (C := Tryz.checked) (X := fun w _ => laidMetH Tryz.prog laid4 w) (fun _ _ _ hh h => h.of_heap hh) ownK started (by kernel_rfl) Tryz.func6
    (ChangeSpec.witness_shaped (enc := enc) (C := Tryz.checked) (os := os) (X := fun w _ => laidMetH Tryz.prog laid4 w) false (World.laidAll Tryz.prog os laid4) #[.agg #[.slice none 0 0, .slice none 0 0, .slice none 0 0, .slice none 0 0, .slice none 0 0, .slice none 0 0, .slice none 0 0, .bool false, .int .u32 0, .slice none 0 0, .slice none 0 0], .int .u32 0, .int .u32 0] 8 (World.laidAll_os _ _ _)
      (World.shaped_of_ZipB (by kernel_rfl) (by kernel_rfl)) (by kernel_rfl) (by kernel_rfl) (by kernel_rfl)
      (by rw [MakeChecks.laidMetH_plain _ _ _ (by kernel_rfl)]; exact laidMet_laidAll _ (by kernel_rfl) (by kernel_rfl))) ?_
  intro W base args ds gs before hval0 hW _ hsz0 hL _
  have hval : ∀ (j : Nat) t v, Tryz.f6.params[j]? = some t → args[j]? = some v → Value.okWide Tryz.prog W .any base t v := hval0
  have hW' := hW
  obtain ⟨p, q, hA0, hV, rfl, hfz, hnd⟩ := hW
  have hA : DataW.TrodAll enc Tryz.prog W 0 (fun _ => true) true Tryz.f6.params.toList args.toList ds p := hA0
  have hsz : (DataW.weightsEach Tryz.prog (Tryz.f6.params.toList ++ Rows.placeReadySpec.plain.varTypes Tryz.prog) (ds ++ gs)).all (· ≤ reachBytes) = true := hsz0
  rw [Tryz.params6] at hA hval hsz
  obtain ⟨v0, vs0, d0, ds0, p0, q0, hargs, rfl, rfl, h0, r0⟩ := trodAll_cons hA
  obtain ⟨v1, vs1, d1, ds1, p1, q1, rfl, rfl, rfl, h1, r1⟩ := trodAll_cons r0
  obtain ⟨v2, vs2, d2, ds2, p2, q2, rfl, rfl, rfl, h2, r2⟩ := trodAll_cons r1
  obtain ⟨rfl, rfl, rfl⟩ := trodAll_nil r2
  obtain rfl : args = #[v0, v1, v2] := by cases args; simp_all
  obtain ⟨rfl, rfl⟩ := trodVars_none hV
  have k0 := h0
  have lt0 : ∀ x ∈ p0, x.block < W.heap.size := by obtain ⟨m, hm⟩ := k0; exact DataW.trod_lt m _ _ _ hm
  obtain ⟨m0, rfl, hm0, hf0, hc0, hr0⟩ := Mod.open_moduleR hsz 0 rfl rfl (hval 0 32 v0 rfl rfl) k0
  obtain ⟨a1, rfl, rfl, rfl, w1⟩ := open_int Tryz.underlying28 (hval 1 28 v1 rfl rfl) h1
  have b1 := bounds_u32 w1
  obtain ⟨a2, rfl, rfl, rfl, w2⟩ := open_int Tryz.underlying28 (hval 2 28 v2 rfl rfl) h2
  have b2 := bounds_u32 w2
  rw [MakeChecks.laidMetH_plain _ _ _ (by kernel_rfl)] at hL
  have hT := tabs_4 hL
  clear hA0 hval0
  refine (placeReady_walk W m0 hm0 hf0 hc0 hr0 a1 b1 a2 b2 hT).mono fun e W' ⟨he, bel⟩ => ?_
  subst he
  exact ⟨_, rfl, _, _, _, [], _, [], hW', trodAll_mk1 (shut_bool Tryz.underlying4 _), (trodAll_cons_mk (Below.trod laidOutK (by kernel_rfl) (of_decide_eq_true (by kernel_rfl)) k0 bel lt0) (trodAll_cons_mk (shut_int Tryz.underlying28 w1) (trodAll_cons_mk (shut_int Tryz.underlying28 w2) trodAll_mk0))), rfl, bel.frame _, fun h => by cases h⟩
end Go.Proofs.YtckdnhafookcgaaGreatDoor.placeReady
