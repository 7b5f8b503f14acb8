import Derived.Test.YtckdnhafookcgaaGreatDoorPn20
import Derived.Test.YtckdnhafookcgaaGreatDoorPn16
import Derived.LaidEqlPtr
namespace Go.Proofs.YtckdnhafookcgaaGreatDoor.Instr
end Go.Proofs.YtckdnhafookcgaaGreatDoor.Instr
namespace Go.Proofs.YtckdnhafookcgaaGreatDoor.Mod
end Go.Proofs.YtckdnhafookcgaaGreatDoor.Mod
namespace Go.Proofs.YtckdnhafookcgaaGreatDoor.Val
end Go.Proofs.YtckdnhafookcgaaGreatDoor.Val
namespace Go.Proofs.YtckdnhafookcgaaGreatDoor.Mem
end Go.Proofs.YtckdnhafookcgaaGreatDoor.Mem
namespace Go.Proofs.YtckdnhafookcgaaGreatDoor.Pl
open Go.RowKit Go.Shelf Go.Proofs.YtckdnhafookcgaaGreatDoor.Instr Go.Proofs.YtckdnhafookcgaaGreatDoor.Mod Go.Proofs.YtckdnhafookcgaaGreatDoor.Val
open Go.Proofs.YtckdnhafookcgaaGreatDoor.Mem (MemIs MemAt Wrote Keep isOwn Mm)
set_option linter.unusedVariables false

theorem eqp_same (a : Addr) (w : World) : (binOp .eql 37 (.pointer (some a)) (.pointer (some a))).run Tryz.prog w = .ok (.bool true) w := by
  obtain ⟨j, hj⟩ := info_of_underlying Tryz.underlying63
  exact run_eql_ptr_same w a Tryz.underlying37 hj
theorem eqp_none (a : Addr) (w : World) : (binOp .eql 37 (.pointer none) (.pointer (some a))).run Tryz.prog w = .ok (.bool false) w := by
  have h : ∀ d : Nat, (Op.equalIn (d + 1) 37 (.pointer none) (.pointer (some a))).run Tryz.prog w = .ok false w := fun d => by
    simp [Op.equalIn, run_underlying Tryz.underlying37]
  simp only [binOp]
  simp [Op.equal, Op.maxDepth, h 9999]
theorem made_yes (p : Nat) (w : World) (c : w.cell? ⟨p, 0, none⟩ = some (.pointer (some ⟨p, 0, none⟩))) :
    Calls Tryz.prog 58 #[.pointer (some ⟨p, 0, none⟩)] w fun e w' => e = .returned (.bool true) ∧ w = w' := by
  have q1 := eqp_same
  go_enter Tryz.func58, Tryz.ntmps58
  go_wp2
  go_ret
  exact ⟨rfl, rfl⟩
def Unmade (w : World) (v : Value) : Prop := v = .pointer none ∨ ∃ p, v = .pointer (some ⟨p, 0, none⟩) ∧ w.cell? ⟨p, 0, none⟩ = some (.pointer none)
theorem made_no (v : Value) (w : World) (h : Unmade w v) : Calls Tryz.prog 58 #[v] w fun e w' => e = .returned (.bool false) ∧ w = w' := by
  have q1 := eqp_none
  rcases h with rfl | ⟨p, rfl, c⟩
  all_goals
    go_enter Tryz.func58, Tryz.ntmps58
    go_wp2
    go_ret
    exact ⟨rfl, rfl⟩
theorem has_ptr (a : Option Addr) (n c k : Nat) (w : World) (hn : n ≤ 4294967295) (hk : k ≤ 4294967295) :
    Calls Tryz.prog 64 #[.slice a n c, .int .u32 k] w fun e w' => e = .returned (.bool (decide (k < n))) ∧ w = w' := by
  have h1 : IntKind.u64.wrap (k : Int) = (k : Int) := by rw [IntKind.wrap_u64]; omega
  have h2 : IntKind.u64.wrap (n : Int) = (n : Int) := by rw [IntKind.wrap_u64]; omega
  go_enter Tryz.func64, Tryz.ntmps64
  go_wp2
  go_ret
  exact ⟨by simp, rfl⟩
theorem has_u32 (a : Option Addr) (n c k : Nat) (w : World) (hn : n ≤ 4294967295) (hk : k ≤ 4294967295) :
    Calls Tryz.prog 65 #[.slice a n c, .int .u32 k] w fun e w' => e = .returned (.bool (decide (k < n))) ∧ w = w' := by
  have h1 : IntKind.u64.wrap (k : Int) = (k : Int) := by rw [IntKind.wrap_u64]; omega
  have h2 : IntKind.u64.wrap (n : Int) = (n : Int) := by rw [IntKind.wrap_u64]; omega
  go_enter Tryz.func65, Tryz.ntmps65
  go_wp2
  go_ret
  exact ⟨by simp, rfl⟩
theorem has_int (a : Option Addr) (n c k : Nat) (w : World) (hn : n ≤ 4294967295) (hk : k ≤ 4294967295) :
    Calls Tryz.prog 66 #[.slice a n c, .int .u32 k] w fun e w' => e = .returned (.bool (decide (k < n))) ∧ w = w' := by
  have h1 : IntKind.u64.wrap (k : Int) = (k : Int) := by rw [IntKind.wrap_u64]; omega
  have h2 : IntKind.u64.wrap (n : Int) = (n : Int) := by rw [IntKind.wrap_u64]; omega
  go_enter Tryz.func66, Tryz.ntmps66
  go_wp2
  go_ret
  exact ⟨by simp, rfl⟩
/-! What nobody made. -/
theorem Size_no (v : Value) (w : World) (h : Unmade w v) : Calls Tryz.prog 19 #[v] w fun e w' => e = .returned (.int .u32 0) ∧ w = w' := by
  have C := made_no v w h
  go_enter Tryz.func19, Tryz.ntmps19
  go_wp2_with fail
  refine C.mono ?_
  rintro e w1 ⟨rfl, rfl⟩
  go_wp2
  go_ret
  exact ⟨rfl, rfl⟩
theorem Memory_no (v : Value) (w : World) (h : Unmade w v) : Calls Tryz.prog 20 #[v] w fun e w' => e = .returned (.pointer none) ∧ w = w' := by
  have C := made_no v w h
  go_enter Tryz.func20, Tryz.ntmps20
  go_wp2_with fail
  refine C.mono ?_
  rintro e w1 ⟨rfl, rfl⟩
  go_wp2
  go_ret
  exact ⟨rfl, rfl⟩
theorem Entry_no (v : Value) (k : Int) (w : World) (h : Unmade w v) : Calls Tryz.prog 23 #[v, .int .u32 k] w fun e w' => e = .returned (.tuple #[.int .u32 0, .bool false, .int .i64 1]) ∧ w = w' := by
  have C := made_no v w h
  go_enter Tryz.func23, Tryz.ntmps23
  go_wp2_with fail
  refine C.mono ?_
  rintro e w1 ⟨rfl, rfl⟩
  go_wp2
  go_ret3
  exact ⟨rfl, rfl⟩
theorem Global_no (v : Value) (k : Int) (w : World) (h : Unmade w v) : Calls Tryz.prog 24 #[v, .int .u32 k] w fun e w' => e = .returned (.tuple #[.int .u32 0, .int .i64 1]) ∧ w = w' := by
  have C := made_no v w h
  go_enter Tryz.func24, Tryz.ntmps24
  go_wp2_with fail
  refine C.mono ?_
  rintro e w1 ⟨rfl, rfl⟩
  go_wp2
  go_ret2
  exact ⟨rfl, rfl⟩
theorem SetGlobal_no (v : Value) (k z : Int) (w : World) (h : Unmade w v) : Calls Tryz.prog 26 #[v, .int .u32 k, .int .u32 z] w fun e w' => e = .returned (.int .i64 1) ∧ w = w' := by
  have C := made_no v w h
  go_enter Tryz.func26, Tryz.ntmps26
  go_wp2_with fail
  refine C.mono ?_
  rintro e w1 ⟨rfl, rfl⟩
  go_wp2
  go_ret
  exact ⟨rfl, rfl⟩
theorem Host_no (v : Value) (k : Int) (w : World) (h : Unmade w v) : Calls Tryz.prog 25 #[v, .int .u32 k] w fun e w' => e = .returned (.tuple #[.int .i64 0, .bool false]) ∧ w = w' := by
  have C := made_no v w h
  go_enter Tryz.func25, Tryz.ntmps25
  go_wp2_with fail
  refine C.mono ?_
  rintro e w1 ⟨rfl, rfl⟩
  go_wp2
  go_ret2
  exact ⟨rfl, rfl⟩
theorem Module_no (v : Value) (w : World) (h : Unmade w v) : Calls Tryz.prog 22 #[v] w fun e w' => e = .returned (.agg #[.slice none 0 0, .slice none 0 0, .slice none 0 0, .slice none 0 0, .slice none 0 0, .slice none 0 0, .slice none 0 0, .bool false, .int .u32 0, .slice none 0 0, .slice none 0 0]) ∧ Below w.heap.size w w' := by
  have h2 : Unmade (w.alloc (.cells #[.slice none 0 0, .slice none 0 0, .slice none 0 0, .slice none 0 0, .slice none 0 0, .slice none 0 0, .slice none 0 0, .bool false, .int .u32 0, .slice none 0 0, .slice none 0 0] 32)) v := by
    rcases h with rfl | ⟨p, rfl, c⟩
    · exact .inl rfl
    · exact .inr ⟨p, rfl, Go.Proofs.YtckdnhafookcgaaGreatDoor.keep (belowAlloc _ _) c⟩
  have C := made_no v _ h2
  go_enter Tryz.func22, Tryz.ntmps22
  go_wp2_with fail
  refine C.mono ?_
  rintro e w1 ⟨rfl, rfl⟩
  go_wp2
  refine bodyPost_ret (v := .agg #[.slice none 0 0, .slice none 0 0, .slice none 0 0, .slice none 0 0, .slice none 0 0, .slice none 0 0, .slice none 0 0, .bool false, .int .u32 0, .slice none 0 0, .slice none 0 0]) (by simp [results, Tryz.results22, go_sem]) rfl ⟨rfl, thenA (Below.refl _ _) _⟩
/-! What New returned. -/
section
variable {lo hi p H gb K : Nat} {w : World} {d : Md} {tv mv : Value} {x : Pc}
theorem PlAt.c (h : PlAt lo hi w p H gb K d tv mv x) : w.cell? ⟨p, 0, none⟩ = some (.pointer (some ⟨p, 0, none⟩)) ∧ w.cell? ⟨p, 12, none⟩ = some (.slice (some ⟨H, 0, none⟩) x.hs.length x.hs.length) ∧ w.cell? ⟨p, 13, none⟩ = some (.slice (some ⟨gb, 0, none⟩) x.gs.length x.gs.length) ∧ w.cell? ⟨p, 14, none⟩ = some tv ∧ w.cell? ⟨p, 15, none⟩ = some mv ∧ w.cell? ⟨p, 6, none⟩ = some (.slice d.gl'.a d.gl.length d.gl'.c) := by
  have hb := h.box
  refine ⟨?_, ?_, ?_, ?_, ?_, ?_⟩ <;> simp [World.cell?, hb]
def entryP (x : Pc) (k : Nat) : Int × Bool × Int := if k < x.tb.length then (match x.tb.getD k none with | some z => (z, true, 0) | none => (0, false, 0)) else (0, false, 220)
theorem Entry_yes (h : PlAt lo hi w p H gb K d tv mv x) (k : Nat) (hk : k ≤ 4294967295) : Calls Tryz.prog 23 #[.pointer (some ⟨p, 0, none⟩), .int .u32 k] w fun e w' => e = .returned (.tuple #[.int .u32 (entryP x k).1, .bool (entryP x k).2.1, .int .i64 (entryP x k).2.2]) ∧ w = w' := by
  obtain ⟨c0, c12, c13, c14, c15, c6⟩ := h.c
  have C := hid (made_yes p w c0)
  have hl := h.ls.2.2
  unfold entryP
  rcases h.tb with ⟨rfl, h2⟩ | ⟨T, rfl, hT, htab⟩
  · have C2 := hid (has_ptr none 0 0 k w (by omega) hk)
    rw [h2]
    simp only [List.length_nil, Nat.not_lt_zero, if_false]
    rw [decide_eq_false (Nat.not_lt_zero k)] at C2
    clear h h2 hl
    go_enter Tryz.func23, Tryz.ntmps23
    go_wp2_with fail
    refine C.out.mono ?_
    rintro e w1 ⟨rfl, rfl⟩
    go_wp2_with fail
    refine C2.out.mono ?_
    rintro e w1 ⟨rfl, rfl⟩
    go_wp2
    go_ret3
    exact ⟨rfl, rfl⟩
  · have C2 := hid (has_ptr (some ⟨T, 0, none⟩) x.tb.length x.tb.length k w hl hk)
    by_cases hkn : k < x.tb.length
    · obtain ⟨v, hv, hp⟩ := htab.cell hkn
      rw [decide_eq_true hkn] at C2
      rw [if_pos hkn]
      generalize x.tb.getD k none = o at *
      generalize x.tb.length = n at *
      have hki : (k : Int) < (n : Int) := by omega
      cases o with
      | none =>
        simp only [PtrO] at hp
        subst hp
        clear h htab hkn
        go_enter Tryz.func23, Tryz.ntmps23
        go_wp2_with fail
        refine C.out.mono ?_
        rintro e w1 ⟨rfl, rfl⟩
        go_wp2_with fail
        refine C2.out.mono ?_
        rintro e w1 ⟨rfl, rfl⟩
        go_wp2
        go_ret3
        exact ⟨rfl, rfl⟩
      | some z =>
        simp only [PtrO] at hp
        obtain ⟨b, i, rfl, -, hz⟩ := hp
        clear h htab hkn
        go_enter Tryz.func23, Tryz.ntmps23
        go_wp2_with fail
        refine C.out.mono ?_
        rintro e w1 ⟨rfl, rfl⟩
        go_wp2_with fail
        refine C2.out.mono ?_
        rintro e w1 ⟨rfl, rfl⟩
        go_wp2
        go_ret3
        exact ⟨rfl, rfl⟩
    · rw [decide_eq_false hkn] at C2
      rw [if_neg hkn]
      clear h htab
      generalize x.tb.length = n at *
      clear hkn
      go_enter Tryz.func23, Tryz.ntmps23
      go_wp2_with fail
      refine C.out.mono ?_
      rintro e w1 ⟨rfl, rfl⟩
      go_wp2_with fail
      refine C2.out.mono ?_
      rintro e w1 ⟨rfl, rfl⟩
      go_wp2
      go_ret3
      exact ⟨rfl, rfl⟩
def globalP (x : Pc) (k : Nat) : Int × Int := if k < x.gs.length then (x.gs.getD k 0, 0) else (0, 6)
theorem Global_yes (h : PlAt lo hi w p H gb K d tv mv x) (k : Nat) (hk : k ≤ 4294967295) : Calls Tryz.prog 24 #[.pointer (some ⟨p, 0, none⟩), .int .u32 k] w fun e w' => e = .returned (.tuple #[.int .u32 (globalP x k).1, .int .i64 (globalP x k).2]) ∧ w = w' := by
  obtain ⟨c0, c12, c13, c14, c15, c6⟩ := h.c
  have C := hid (made_yes p w c0)
  have hl := h.ls.2.1
  have C2 := hid (has_u32 (some ⟨gb, 0, none⟩) x.gs.length x.gs.length k w (by omega) hk)
  unfold globalP
  by_cases hkn : k < x.gs.length
  · have hv := h.gs.cell hkn
    rw [decide_eq_true hkn] at C2
    rw [if_pos hkn]
    generalize x.gs.getD k 0 = z at *
    generalize x.gs.length = n at *
    have hki : (k : Int) < (n : Int) := by omega
    clear h hkn
    go_enter Tryz.func24, Tryz.ntmps24
    go_wp2_with fail
    refine C.out.mono ?_
    rintro e w1 ⟨rfl, rfl⟩
    go_wp2_with fail
    refine C2.out.mono ?_
    rintro e w1 ⟨rfl, rfl⟩
    go_wp2
    go_ret2
    exact ⟨rfl, rfl⟩
  · rw [decide_eq_false hkn] at C2
    rw [if_neg hkn]
    clear h
    generalize x.gs.length = n at *
    clear hkn
    go_enter Tryz.func24, Tryz.ntmps24
    go_wp2_with fail
    refine C.out.mono ?_
    rintro e w1 ⟨rfl, rfl⟩
    go_wp2_with fail
    refine C2.out.mono ?_
    rintro e w1 ⟨rfl, rfl⟩
    go_wp2
    go_ret2
    exact ⟨rfl, rfl⟩
def hostAtP (x : Pc) (k : Nat) : Int × Bool := if k < x.hs.length then (x.hs.getD k 0, true) else (0, false)
theorem Host_yes (h : PlAt lo hi w p H gb K d tv mv x) (k : Nat) (hk : k ≤ 4294967295) : Calls Tryz.prog 25 #[.pointer (some ⟨p, 0, none⟩), .int .u32 k] w fun e w' => e = .returned (.tuple #[.int .i64 (hostAtP x k).1, .bool (hostAtP x k).2]) ∧ w = w' := by
  obtain ⟨c0, c12, c13, c14, c15, c6⟩ := h.c
  have C := hid (made_yes p w c0)
  have hl := h.ls.1
  have C2 := hid (has_int (some ⟨H, 0, none⟩) x.hs.length x.hs.length k w (by omega) hk)
  unfold hostAtP
  by_cases hkn : k < x.hs.length
  · have hv := h.hs.cell hkn
    rw [decide_eq_true hkn] at C2
    rw [if_pos hkn]
    generalize x.hs.getD k 0 = z at *
    generalize x.hs.length = n at *
    have hki : (k : Int) < (n : Int) := by omega
    clear h hkn
    go_enter Tryz.func25, Tryz.ntmps25
    go_wp2_with fail
    refine C.out.mono ?_
    rintro e w1 ⟨rfl, rfl⟩
    go_wp2_with fail
    refine C2.out.mono ?_
    rintro e w1 ⟨rfl, rfl⟩
    go_wp2
    go_ret2
    exact ⟨rfl, rfl⟩
  · rw [decide_eq_false hkn] at C2
    rw [if_neg hkn]
    clear h
    generalize x.hs.length = n at *
    clear hkn
    go_enter Tryz.func25, Tryz.ntmps25
    go_wp2_with fail
    refine C.out.mono ?_
    rintro e w1 ⟨rfl, rfl⟩
    go_wp2_with fail
    refine C2.out.mono ?_
    rintro e w1 ⟨rfl, rfl⟩
    go_wp2
    go_ret2
    exact ⟨rfl, rfl⟩
end
end Go.Proofs.YtckdnhafookcgaaGreatDoor.Pl

namespace Go.Proofs.YtckdnhafookcgaaGreatDoor.Pl
open Go.RowKit Go.Shelf Go.Proofs.YtckdnhafookcgaaGreatDoor.Instr Go.Proofs.YtckdnhafookcgaaGreatDoor.Mod Go.Proofs.YtckdnhafookcgaaGreatDoor.Val
open Go.Proofs.YtckdnhafookcgaaGreatDoor.Mem (MemIs MemAt Wrote Keep isOwn Mm)
set_option linter.unusedVariables false

def setE (x : Pc) (mu : List Bool) (k : Nat) : Int := if k < x.gs.length then (if mu.getD k false then 0 else 212) else 6
def setX (x : Pc) (mu : List Bool) (k : Nat) (v : Int) : Pc := if setE x mu k = 0 then { x with gs := x.gs.set k v } else x
def SetQ (lo hi : Nat) (w : World) (p H gb K : Nat) (d : Md) (tv mv : Value) (x : Pc) (k : Nat) (v : Int) (e : Ending) (w' : World) : Prop :=
  e = .returned (.int .i64 (setE x (d.gl.map (·.mu)) k)) ∧ PlAt lo hi w' p H gb K d tv mv (setX x (d.gl.map (·.mu)) k v) ∧ Save gb w w' ∧ w'.heap.size = w.heap.size
theorem SetGlobal_yes {lo hi p H gb K : Nat} {w : World} {d : Md} {tv mv : Value} {x : Pc} (h : PlAt lo hi w p H gb K d tv mv x) (k : Nat) (hk : k ≤ 4294967295) (v : Int) (hv : 0 ≤ v ∧ v < 4294967296) :
    Calls Tryz.prog 26 #[.pointer (some ⟨p, 0, none⟩), .int .u32 k, .int .u32 v] w (SetQ lo hi w p H gb K d tv mv x k v) := by
  obtain ⟨c0, c12, c13, c14, c15, c6⟩ := h.c
  have C := hid (made_yes p w c0)
  have hl := h.ls.2.1
  have C2 := hid (has_u32 (some ⟨gb, 0, none⟩) x.gs.length x.gs.length k w (by omega) hk)
  have HP := hid h
  unfold SetQ
  by_cases hkn : k < x.gs.length
  · have hkd : k < d.gl.length := by rw [← h.gl]; exact hkn
    obtain ⟨b, off, ha, hb, hc⟩ := Rows.get h.at_.gl hkd
    rw [ha] at c6
    have hmu : (d.gl.map (·.mu)).getD k false = (d.gl[k]).mu := by simp [hkd]
    have hE : setE x (d.gl.map (·.mu)) k = if (d.gl[k]).mu then 0 else 212 := by unfold setE; rw [if_pos hkn, hmu]
    have hX : setX x (d.gl.map (·.mu)) k v = if (d.gl[k]).mu then { x with gs := x.gs.set k v } else x := by
      unfold setX; rw [hE]
      cases (d.gl[k]).mu <;> rfl
    rw [hE, hX]
    have cm : w.cell? ⟨b, off + k * 2, none⟩ = some (.bool (d.gl[k]).mu) := hc 0 (by omega) _ rfl
    have hgd : (k : Int) < (d.gl.length : Int) := by omega
    generalize hmm : (d.gl[k]).mu = mu at *
    clear hc hmu hE hX hmm hkd ha hb
    generalize d.gl.length = nd at *
    rw [decide_eq_true hkn] at C2
    have hv0 := h.gs.cell hkn
    have hf0 : w.frozen? ⟨gb, k, none⟩ = false := frozen_heap h.gs k
    have HS := hid (h.setG hkn v)
    generalize hz : x.gs.getD k 0 = z at hv0
    generalize hn : x.gs.length = n at *
    have hki : (k : Int) < (n : Int) := by omega
    clear h hkn hz
    cases mu with
    | true =>
      go_enter Tryz.func26, Tryz.ntmps26
      go_wp2_with fail
      refine C.out.mono ?_
      rintro e w1 ⟨rfl, rfl⟩
      go_wp2_with fail
      refine C2.out.mono ?_
      rintro e w1 ⟨rfl, rfl⟩
      go_wp2
      go_ret
      exact ⟨rfl, HS.out, Save.setCell (p := ⟨gb, k, none⟩) (Save.refl gb _) (.inl rfl) _, by simp [World.setCell]⟩
    | false =>
      go_enter Tryz.func26, Tryz.ntmps26
      go_wp2_with fail
      refine C.out.mono ?_
      rintro e w1 ⟨rfl, rfl⟩
      go_wp2_with fail
      refine C2.out.mono ?_
      rintro e w1 ⟨rfl, rfl⟩
      go_wp2
      go_ret
      exact ⟨rfl, HP.out, Save.refl _ _, rfl⟩
  · have hE : setE x (d.gl.map (·.mu)) k = 6 := by unfold setE; rw [if_neg hkn]
    have hX : setX x (d.gl.map (·.mu)) k v = x := by unfold setX; rw [hE, if_neg (by decide)]
    rw [hE, hX]
    rw [decide_eq_false hkn] at C2
    clear h hE hX
    generalize hn : x.gs.length = n at *
    clear hkn
    go_enter Tryz.func26, Tryz.ntmps26
    go_wp2_with fail
    refine C.out.mono ?_
    rintro e w1 ⟨rfl, rfl⟩
    go_wp2_with fail
    refine C2.out.mono ?_
    rintro e w1 ⟨rfl, rfl⟩
    go_wp2
    go_ret
    exact ⟨rfl, HP.out, Save.refl _ _, rfl⟩
end Go.Proofs.YtckdnhafookcgaaGreatDoor.Pl

namespace Go.Proofs.YtckdnhafookcgaaGreatDoor.Pl
open Go.RowKit Go.Shelf Go.Proofs.YtckdnhafookcgaaGreatDoor.Instr Go.Proofs.YtckdnhafookcgaaGreatDoor.Mod Go.Proofs.YtckdnhafookcgaaGreatDoor.Val
open Go.Proofs.YtckdnhafookcgaaGreatDoor.Mem (MemIs MemAt Wrote Keep isOwn Mm)
set_option linter.unusedVariables false

def numI (n : Int) : Ix := ⟨65, 0, 0, 0, n, [], none, 0, none, 0, 0, none, 0, 0⟩
def numL (g : Nat) (n : Int) : Lst := ⟨some ⟨g, 0, none⟩, 1, mkIl [(numI n, .nil, .nil)]⟩
theorem at_any (n : Int) (w : World) : Calls Tryz.prog 32 #[.int .i32 n] w fun e w' => e = .returned (.slice (some ⟨w.heap.size, 0, none⟩) 1 1) ∧ w' = w.alloc (.cells (numI n).vals 105) := by
  go_enter Tryz.func32, Tryz.ntmps32
  go_wp2
  go_ret
  exact ⟨rfl, rfl⟩
def tabM (g : Nat) (n : Int) : Md where
  ty := [(0, 0)]
  im := []
  fu := [⟨0, 0, ⟨none, 0, .nil⟩⟩]
  tb := [⟨3, 0, false⟩]
  me := []
  gl := []
  ex := []
  st := false
  sn := 0
  el := [⟨numL (g + 1 + 1 + 1 + 1) n, some ⟨g + 1 + 1 + 1 + 1 + 1, 0, none⟩, 2, [0, 0]⟩]
  da := []
  ty' := ⟨some ⟨g + 1, 0, none⟩, 1⟩
  im' := ⟨none, 0⟩
  fu' := ⟨some ⟨g + 1 + 1, 0, none⟩, 1⟩
  tb' := ⟨some ⟨g + 1 + 1 + 1, 0, none⟩, 1⟩
  me' := ⟨none, 0⟩
  gl' := ⟨none, 0⟩
  ex' := ⟨none, 0⟩
  el' := ⟨some ⟨g + 1 + 1 + 1 + 1 + 1 + 1, 0, none⟩, 1⟩
  da' := ⟨none, 0⟩
def memM (gm ga gb gd : Nat) (zs : List Int) : Md where
  ty := []
  im := []
  fu := []
  tb := []
  me := [⟨1, 0, false⟩]
  gl := []
  ex := []
  st := false
  sn := 0
  el := []
  da := [⟨numL ga 65535, some ⟨gb, 0, none⟩, zs.length, zs⟩]
  ty' := ⟨none, 0⟩
  im' := ⟨none, 0⟩
  fu' := ⟨none, 0⟩
  tb' := ⟨none, 0⟩
  me' := ⟨some ⟨gm, 0, none⟩, 1⟩
  gl' := ⟨none, 0⟩
  ex' := ⟨none, 0⟩
  el' := ⟨none, 0⟩
  da' := ⟨some ⟨gd, 0, none⟩, 1⟩
def impM (gt gi : Nat) (p r : Int) : Md where
  ty := [(p, r)]
  im := [⟨strHost, strGet, 0⟩]
  fu := []
  tb := []
  me := []
  gl := []
  ex := []
  st := false
  sn := 0
  el := []
  da := []
  ty' := ⟨some ⟨gt, 0, none⟩, 1⟩
  im' := ⟨some ⟨gi, 0, none⟩, 1⟩
  fu' := ⟨none, 0⟩
  tb' := ⟨none, 0⟩
  me' := ⟨none, 0⟩
  gl' := ⟨none, 0⟩
  ex' := ⟨none, 0⟩
  el' := ⟨none, 0⟩
  da' := ⟨none, 0⟩
def gloM (ga gg : Nat) : Md where
  ty := []
  im := []
  fu := []
  tb := []
  me := []
  gl := [⟨true, numL ga 7⟩]
  ex := []
  st := false
  sn := 0
  el := []
  da := []
  ty' := ⟨none, 0⟩
  im' := ⟨none, 0⟩
  fu' := ⟨none, 0⟩
  tb' := ⟨none, 0⟩
  me' := ⟨none, 0⟩
  gl' := ⟨some ⟨gg, 0, none⟩, 1⟩
  ex' := ⟨none, 0⟩
  el' := ⟨none, 0⟩
  da' := ⟨none, 0⟩
theorem numI_ok (n : Int) (hn : -2147483648 ≤ n ∧ n < 2147483648) : (numI n).ok := by constructor <;> simp [numI] <;> omega
theorem numL_at {W : World} {g : Nat} {n : Int} (hn : -2147483648 ≤ n ∧ n < 2147483648) (h : BoxAt W g (numI n).vals) : ListAt W.heap.size W (numL g n).a (numL g n).t.len (numL g n).t :=
  list_box (l := [(numI n, .nil, .nil)]) (World.block_lt_of_cell? W ⟨g, 0, none⟩ (h 0 _ rfl)) h (fun x hx => by
    obtain rfl := List.mem_singleton.1 hx
    exact ⟨numI_ok n hn, .inl rfl, ⟨rfl, .inl rfl⟩, ⟨rfl, .inl rfl⟩⟩)
theorem box_lt {W : World} {b : Nat} {v : Array Value} {x : Value} (h : BoxAt W b v) (h0 : v[0]? = some x) : b < W.heap.size := World.block_lt_of_cell? W ⟨b, 0, none⟩ (h 0 x h0)
theorem tabM_in {W : World} {g : Nat} {n : Int} (hn : -2147483648 ≤ n ∧ n < 2147483648) (b1 : BoxAt W (g + 1) #[.int .i64 0, .int .i64 0]) (b2 : BoxAt W (g + 1 + 1) #[.int .i64 0, .int .i64 0, .slice none 0 0]) (b3 : BoxAt W (g + 1 + 1 + 1) #[.int .u32 3, .int .u32 0, .bool false]) (b4 : BoxAt W (g + 1 + 1 + 1 + 1) (numI n).vals)
    (b5 : BoxAt W (g + 1 + 1 + 1 + 1 + 1) #[.int .u32 0, .int .u32 0]) (b6 : BoxAt W (g + 1 + 1 + 1 + 1 + 1 + 1) #[.slice (some ⟨g + 1 + 1 + 1 + 1, 0, none⟩) 1 1, .slice (some ⟨g + 1 + 1 + 1 + 1 + 1, 0, none⟩) 2 2]) : NewIn W (tabM g n) := by
  have hcs : ∀ l ∈ (tabM g n).codes, l = ⟨none, 0, .nil⟩ ∨ l = numL (g + 1 + 1 + 1 + 1) n := by
    intro l hl
    simp [tabM, Md.codes] at hl
    exact hl
  refine ⟨⟨rows_box (box_lt b1 rfl) (by simp [tabM, tyV]) b1, .inl rfl, rows_box (box_lt b2 rfl) (by simp [tabM, Mod.Fn.v]) b2, rows_box (box_lt b3 rfl) (by simp [tabM, Li.v]) b3, .inl rfl, .inl rfl, .inl rfl, rows_box (box_lt b6 rfl) (by simp [tabM, El.v]) b6, .inl rfl, fun l hl => ?_, fun e he => ?_, by simp [tabM]⟩, ⟨⟨by simp [tabM], by simp [tabM], by simp [tabM], by simp [tabM], by simp [tabM], by simp [tabM], by simp [tabM], by simp [tabM], by simp [tabM], fun l hl => ?_, by simp [tabM], by simp [tabM], by simp [tabM], by simp [tabM]⟩, fun l hl => ?_, by simp [tabM]⟩, ⟨by simp [tabM], by simp [tabM], by simp [tabM], by simp [tabM], by simp [tabM]⟩, ⟨by simp [tabM], fun l hl => ?_, by simp [tabM], by simp [tabM], by simp [tabM], by simp [tabM]⟩⟩
  · rcases hcs l hl with rfl | rfl
    · exact ⟨rfl, .inl rfl⟩
    · exact numL_at hn b4
  · simp only [tabM, List.mem_singleton] at he
    subst he
    refine .inr ⟨_, 0, rfl, box_lt b5 rfl, fun i hi => ?_⟩
    match i, hi with
    | 0, _ => simpa using b5 0 _ rfl
    | 1, _ => simpa using b5 1 _ rfl
  · rcases hcs l hl with rfl | rfl <;> simp [numL, mkIl, Il.len]
  · rcases hcs l hl with rfl | rfl <;> simp [numL, mkIl, Il.count]
  · rcases hcs l hl with rfl | rfl <;> simp [numL, mkIl, Il.weight, numI]
theorem tab1 (g : Nat) : newP (tabM g 1) = (0, ⟨[], [], [none, some 0, some 0], none⟩) := by kernel_rfl
theorem tab2 (g : Nat) : newP (tabM g 2) = (220, ⟨[], [], [], none⟩) := by kernel_rfl
theorem chain7 (w : World) (A0 A1 A2 A3 A4 A5 A6 : Array Value) (t0 t1 t2 t3 t4 t5 t6 : TypeId) : ∃ W, (((((((w.alloc (.cells A0 t0)).alloc (.cells A1 t1)).alloc (.cells A2 t2)).alloc (.cells A3 t3)).alloc (.cells A4 t4)).alloc (.cells A5 t5)).alloc (.cells A6 t6)) = W ∧ (BoxAt W (w.heap.size) A0 ∧ BoxAt W (w.heap.size + 1) A1 ∧ BoxAt W (w.heap.size + 1 + 1) A2 ∧ BoxAt W (w.heap.size + 1 + 1 + 1) A3 ∧ BoxAt W (w.heap.size + 1 + 1 + 1 + 1) A4 ∧ BoxAt W (w.heap.size + 1 + 1 + 1 + 1 + 1) A5 ∧ BoxAt W (w.heap.size + 1 + 1 + 1 + 1 + 1 + 1) A6) ∧ Below w.heap.size w W := by
  refine ⟨_, rfl, ⟨?_, ?_, ?_, ?_, ?_, ?_, ?_⟩, (thenA (thenA (thenA (thenA (thenA (thenA (thenA (Below.refl _ _) _) _) _) _) _) _) _)⟩ <;> (intro j x h; simp [go_sem, h])
set_option maxRecDepth 100000 in
theorem tabled_m (n : Int) (hn : -2147483648 ≤ n ∧ n < 2147483648) (w : World) : Calls Tryz.prog 55 #[.int .i32 n] w fun e w' => e = .returned (.agg (tabM w.heap.size n).v) ∧ NewIn w' (tabM w.heap.size n) ∧ Below w.heap.size w w' := by
  have HN := hid hn
  clear hn
  go_enter Tryz.func55, Tryz.ntmps55
  go_wp2_with fail
  refine (at_any n _).mono ?_
  rintro e w1 ⟨rfl, rfl⟩
  go_wp2
  obtain ⟨W, hW, ⟨b0, b1, b2, b3, b4, b5, b6⟩, hB⟩ := chain7 w #[.slice (some ⟨w.heap.size + 1, 0, none⟩) 1 1, .slice none 0 0, .slice (some ⟨w.heap.size + 1 + 1, 0, none⟩) 1 1, .slice (some ⟨w.heap.size + 1 + 1 + 1, 0, none⟩) 1 1, .slice none 0 0, .slice none 0 0, .slice none 0 0, .bool false, .int .u32 0, .slice (some ⟨w.heap.size + 1 + 1 + 1 + 1 + 1 + 1, 0, none⟩) 1 1, .slice none 0 0] #[.int .i64 0, .int .i64 0] #[.int .i64 0, .int .i64 0, .slice none 0 0] #[.int .u32 3, .int .u32 0, .bool false] (numI n).vals #[.int .u32 0, .int .u32 0] #[.slice (some ⟨w.heap.size + 1 + 1 + 1 + 1, 0, none⟩) 1 1, .slice (some ⟨w.heap.size + 1 + 1 + 1 + 1 + 1, 0, none⟩) 2 2] 32 92 101 83 105 28 109
  rw [hW]
  have HIN := hid (tabM_in HN.out b1 b2 b3 b4 b5 b6)
  have HB := hid hB
  obtain ⟨n0, n1, n2, n3, n4, n5, n6, n7, n8, n9, n10⟩ := BoxAt.mod b0
  clear hB b0 b1 b2 b3 b4 b5 b6 hW
  refine bodyPost_ret (v := .agg (tabM w.heap.size n).v) (by simp [results, Tryz.results55, go_sem, tabM, Md.v, n0, n1, n2, n3, n4, n5, n6, n7, n8, n9, n10]) rfl ⟨rfl, HIN.out, HB.out⟩
end Go.Proofs.YtckdnhafookcgaaGreatDoor.Pl

namespace Go.Proofs.YtckdnhafookcgaaGreatDoor.Pl
open Go.RowKit Go.Shelf Go.Proofs.YtckdnhafookcgaaGreatDoor.Instr Go.Proofs.YtckdnhafookcgaaGreatDoor.Mod Go.Proofs.YtckdnhafookcgaaGreatDoor.Val
open Go.Proofs.YtckdnhafookcgaaGreatDoor.Mem (MemIs MemAt Wrote Keep isOwn Mm)
set_option linter.unusedVariables false

/-- A place is made: its memory apart. -/
def NewYes (x : Pc) (w : World) (e : Ending) (w' : World) : Prop :=
  (∃ hi p H gb d tv mv, e = .returned (.tuple #[.pointer (some ⟨p, 0, none⟩), .int .i64 0]) ∧ PlAt w.heap.size hi w' p H gb 1048576 d tv mv x) ∧ Below w.heap.size w w'
theorem New_yes {m : Md} {x : Pc} {w : World} (hi : NewIn w m) (hT : Tb w) (h : newP m = (0, x)) : Calls Tryz.prog 14 #[.agg m.v] w (NewYes x w) := by
  refine (New_any m w hi hT).mono ?_
  rintro e w' ⟨hq | ⟨x', hi', p, H, gb, d, tv, mv, h1, h2, h3, h4⟩, hb⟩
  · obtain ⟨er, h1, h2, h3⟩ := hq
    rw [h] at h2
    simp only [Prod.mk.injEq] at h2
    exact absurd h2.1.symm h1
  · rw [h] at h1
    simp only [Prod.mk.injEq, true_and] at h1
    subst h1
    exact ⟨⟨hi', p, H, gb, d, tv, mv, h2, h4⟩, hb⟩
theorem New_no {m : Md} {er : Int} {w : World} (hi : NewIn w m) (hT : Tb w) (h : (newP m).1 = er) (hne : er ≠ 0) : Calls Tryz.prog 14 #[.agg m.v] w fun e w' => e = .returned (.tuple #[.pointer none, .int .i64 er]) ∧ Below w.heap.size w w' := by
  refine (New_any m w hi hT).mono ?_
  rintro e w' ⟨hq | ⟨x', hi', p, H, gb, d, tv, mv, h1, h2, h3, h4⟩, hb⟩
  · obtain ⟨er', h1, h2, h3⟩ := hq
    rw [h2] at h
    simp only at h
    subst h
    exact ⟨h3, hb⟩
  · rw [h1] at h
    exact absurd h.symm hne
set_option maxRecDepth 100000 in
set_option maxHeartbeats 2000000 in
theorem awake_p (w : World) (hT : Tb w) : Calls Tryz.prog 17 #[] w fun e w' => e = .returned (.bool true) ∧ Below w.heap.size w w' := by
  have HT := hid hT
  clear hT
  go_enter Tryz.func17, Tryz.ntmps17
  go_wp2_with fail
  refine (tabled_m 1 (by omega) w).mono ?_
  rintro e w1 ⟨rfl, hin, hb1⟩
  have HB1 := hid hb1
  have C1 := hid (New_yes hin (HT.out.on hb1) (tab1 _))
  clear hin hb1
  go_wp2_with fail
  refine C1.out.mono ?_
  rintro e w2 ⟨⟨hi, p, H, gb, d, tv, mv, rfl, hpl⟩, hb2⟩
  have HB2 := hid (thenB HB1.out hb2)
  have HPL := hid hpl
  clear C1 hb2 HB1 hpl
  go_wp2_with fail
  refine (tabled_m 2 (by omega) w2).mono ?_
  rintro e w3 ⟨rfl, hin, hb3⟩
  have HB3 := hid (thenB HB2.out hb3)
  have HPL3 := hid (HPL.out.below hb3)
  have C1 := hid (New_no hin (HT.out.on HB3.out) (er := 220) (by rw [tab2]) (by decide))
  clear hin hb3 HB2 HPL
  go_wp2_with fail
  refine C1.out.mono ?_
  rintro e w4 ⟨rfl, hb4⟩
  have HB4 := hid (thenB HB3.out hb4)
  have HPL4 := hid (HPL3.out.below hb4)
  have E0 := hid (Entry_yes HPL4.out 0 (by omega))
  have E1 := hid (Entry_yes HPL4.out 1 (by omega))
  have E3 := hid (Entry_yes HPL4.out 3 (by omega))
  rw [show entryP ⟨[], [], [none, some 0, some 0], none⟩ 0 = (0, false, 0) from rfl] at E0
  rw [show entryP ⟨[], [], [none, some 0, some 0], none⟩ 1 = (0, true, 0) from rfl] at E1
  rw [show entryP ⟨[], [], [none, some 0, some 0], none⟩ 3 = (0, false, 220) from rfl] at E3
  clear C1 hb4 HB3 HPL3
  go_wp2_with fail
  refine E0.out.mono ?_
  rintro e w5 ⟨rfl, rfl⟩
  go_wp2_with fail
  refine E1.out.mono ?_
  rintro e w5 ⟨rfl, rfl⟩
  go_wp2_with fail
  refine E3.out.mono ?_
  rintro e w5 ⟨rfl, rfl⟩
  go_wp2
  go_ret
  exact ⟨rfl, HB4.out⟩
end Go.Proofs.YtckdnhafookcgaaGreatDoor.Pl

namespace Go.Proofs.YtckdnhafookcgaaGreatDoor.Pl
open Go.RowKit Go.Shelf Go.Proofs.YtckdnhafookcgaaGreatDoor.Instr Go.Proofs.YtckdnhafookcgaaGreatDoor.Mod Go.Proofs.YtckdnhafookcgaaGreatDoor.Val
set_option linter.unusedVariables false

def emptyM : Md where
  ty := []
  im := []
  fu := []
  tb := []
  me := []
  gl := []
  ex := []
  st := false
  sn := 0
  el := []
  da := []
  ty' := ⟨none, 0⟩
  im' := ⟨none, 0⟩
  fu' := ⟨none, 0⟩
  tb' := ⟨none, 0⟩
  me' := ⟨none, 0⟩
  gl' := ⟨none, 0⟩
  ex' := ⟨none, 0⟩
  el' := ⟨none, 0⟩
  da' := ⟨none, 0⟩
theorem empty_at (n : Nat) (W : World) : ModAt n W emptyM := ⟨.inl rfl, .inl rfl, .inl rfl, .inl rfl, .inl rfl, .inl rfl, .inl rfl, .inl rfl, .inl rfl, by simp [emptyM, Md.codes], by simp [emptyM], by simp [emptyM]⟩
theorem empty_fits : emptyM.fits := by constructor <;> simp [emptyM, Md.codes]
theorem empty_same : is (Same emptyM emptyM) = true := by
  unfold Mod.is
  exact @decide_eq_true _ (Classical.propDecidable _) (same_iff.1 rfl)
theorem sameEmpty (W : World) : Calls Tryz.prog 16 #[.agg #[.slice none 0 0, .slice none 0 0, .slice none 0 0, .slice none 0 0, .slice none 0 0, .slice none 0 0, .slice none 0 0, .bool false, .int .u32 0, .slice none 0 0, .slice none 0 0], .agg #[.slice none 0 0, .slice none 0 0, .slice none 0 0, .slice none 0 0, .slice none 0 0, .slice none 0 0, .slice none 0 0, .bool false, .int .u32 0, .slice none 0 0, .slice none 0 0]] W fun e w' => e = .returned (.bool true) ∧ Below W.heap.size W w' := by
  have := SameWasm_any emptyM emptyM W (empty_at _ _) (empty_at _ _) empty_fits empty_fits (by simp [emptyM]) (by simp [emptyM])
  rw [empty_same] at this
  exact this
theorem Unmade.on {w w' : World} {v : Value} (h : Unmade w v) (hb : Below w.heap.size w w') : Unmade w' v := by
  rcases h with rfl | ⟨p, rfl, c⟩
  · exact .inl rfl
  · exact .inr ⟨p, rfl, Go.Proofs.YtckdnhafookcgaaGreatDoor.keep hb c⟩
set_option maxRecDepth 100000 in
set_option maxHeartbeats 4000000 in
theorem placeNone_go (n v : Int) (w : World) (hT : Tb w) : Calls Tryz.prog 4 #[.int .u32 n, .int .u32 v] w fun e w' => e = .returned (.bool true) ∧ Below w.heap.size w w' := by
  have HT := hid hT
  clear hT
  go_enter Tryz.func4, Tryz.ntmps4
  go_wp2
  obtain ⟨W0, hW0⟩ : ∃ W0, W0 = (w.alloc (.cells #[.pointer none, .slice none 0 0, .slice none 0 0, .slice none 0 0, .slice none 0 0, .slice none 0 0, .slice none 0 0, .slice none 0 0, .bool false, .int .u32 0, .slice none 0 0, .slice none 0 0, .slice none 0 0, .slice none 0 0, .slice none 0 0, .pointer none] 63)).alloc (.cells #[.pointer none, .pointer (some ⟨w.heap.size, 0, none⟩)] 37) := ⟨_, rfl⟩
  rw [← hW0]
  have HB := hid (show Below w.heap.size w W0 by rw [hW0]; exact thenA (thenA (Below.refl _ _) _) _)
  have HU1 := hid (show W0.cell? ⟨w.heap.size + 1, 0, none⟩ = some (.pointer none) by rw [hW0]; go_simp)
  have HU2 := hid (show W0.cell? ⟨w.heap.size + 1, 1, none⟩ = some (.pointer (some ⟨w.heap.size, 0, none⟩)) by rw [hW0]; go_simp)
  have HU3 := hid (show Unmade W0 (.pointer (some ⟨w.heap.size, 0, none⟩)) from .inr ⟨w.heap.size, rfl, by rw [hW0]; go_simp⟩)
  clear hW0
  go_loopw [6] (fun vi wr => ∃ k : Nat, vi = .int .i64 k ∧ k ≤ 2 ∧ Hid (Below W0.heap.size W0 wr)) (fun vi _ => 2 - (intOf vi).toNat)
  case atStart => exact ⟨0, rfl, by omega, Below.refl _ _⟩
  case round =>
    obtain ⟨k, rfl, hk, HW⟩ := hrel
    by_cases hlt : k < 2
    · obtain ⟨q, hq, hu⟩ : ∃ q, W0.cell? ⟨w.heap.size + 1, k, none⟩ = some q ∧ Unmade W0 q := by
        match k, hlt with
        | 0, _ => exact ⟨_, HU1.out, .inl rfl⟩
        | 1, _ => exact ⟨_, HU2.out, HU3.out⟩
      have c0 := Go.Proofs.YtckdnhafookcgaaGreatDoor.keep HW.out hq
      have HUM := hid (hu.on HW.out)
      have hki : (k : Int) < 2 := by omega
      have hk0 : (0 : Int) ≤ (k : Int) := by omega
      have C1 := hid (Entry_no q n wr HUM.out)
      have C2 := hid (Global_no q n wr HUM.out)
      have C3 := hid (Host_no q n wr HUM.out)
      have C4 := hid (Module_no q wr HUM.out)
      clear hq hu
      go_wp2_with fail
      refine C1.out.mono ?_
      rintro e w1 ⟨rfl, rfl⟩
      go_wp2_with fail
      refine C2.out.mono ?_
      rintro e w1 ⟨rfl, rfl⟩
      go_wp2_with fail
      refine C3.out.mono ?_
      rintro e w1 ⟨rfl, rfl⟩
      go_wp2_with fail
      refine C4.out.mono ?_
      rintro e w2 ⟨rfl, hb2⟩
      have HW2 := hid (thenA (thenB HW.out hb2) (.cells #[.slice none 0 0, .slice none 0 0, .slice none 0 0, .slice none 0 0, .slice none 0 0, .slice none 0 0, .slice none 0 0, .bool false, .int .u32 0, .slice none 0 0, .slice none 0 0] 32))
      have hbx := BoxAt.made w2 #[.slice none 0 0, .slice none 0 0, .slice none 0 0, .slice none 0 0, .slice none 0 0, .slice none 0 0, .slice none 0 0, .bool false, .int .u32 0, .slice none 0 0, .slice none 0 0] 32
      have HUM2 := hid ((HUM.out.on hb2).on (belowAlloc w2 (.cells #[.slice none 0 0, .slice none 0 0, .slice none 0 0, .slice none 0 0, .slice none 0 0, .slice none 0 0, .slice none 0 0, .bool false, .int .u32 0, .slice none 0 0, .slice none 0 0] 32)))
      have c1 := Go.Proofs.YtckdnhafookcgaaGreatDoor.keep (belowAlloc w2 (.cells #[.slice none 0 0, .slice none 0 0, .slice none 0 0, .slice none 0 0, .slice none 0 0, .slice none 0 0, .slice none 0 0, .bool false, .int .u32 0, .slice none 0 0, .slice none 0 0] 32)) (Go.Proofs.YtckdnhafookcgaaGreatDoor.keep hb2 c0)
      have C5 := hid (SetGlobal_no q n v _ HUM2.out)
      have C6 := hid (Memory_no q _ HUM2.out)
      have C7 := hid (Size_no q _ HUM2.out)
      have C8 := hid (sameEmpty (w2.alloc (.cells #[.slice none 0 0, .slice none 0 0, .slice none 0 0, .slice none 0 0, .slice none 0 0, .slice none 0 0, .slice none 0 0, .bool false, .int .u32 0, .slice none 0 0, .slice none 0 0] 32)))
      clear C1 C2 C3 C4 hb2 c0 HUM hbx
      go_wp2_with fail
      refine C5.out.mono ?_
      rintro e w3 ⟨rfl, rfl⟩
      go_wp2_with fail
      refine C6.out.mono ?_
      rintro e w3 ⟨rfl, rfl⟩
      go_wp2_with fail
      refine C7.out.mono ?_
      rintro e w3 ⟨rfl, rfl⟩
      go_wp2_with fail
      refine C8.out.mono ?_
      rintro e w3 ⟨rfl, hb3⟩
      have HW3 := hid (thenB HW2.out hb3)
      clear C5 C6 C7 C8 hb3 c1 HUM2 HW2
      go_wp2
      go_roundw
      case rel => exact ⟨k + 1, by go_num, by omega, HW3⟩
      case measure => simp [intOf]; omega
    · obtain rfl : k = 2 := by omega
      have HF := hid (HB.out.trans (HW.out.mono HB.out.size))
      have CA := hid (awake_p wr (HT.out.on HF.out))
      go_wp2_with fail
      refine CA.out.mono ?_
      rintro e w1 ⟨rfl, hb1⟩
      have HF2 := hid (thenB HF.out hb1)
      clear CA hb1
      go_wp2
      go_ret
      exact ⟨rfl, HF2.out⟩
end Go.Proofs.YtckdnhafookcgaaGreatDoor.Pl
namespace Go.Proofs.YtckdnhafookcgaaGreatDoor
open Go.RowKit
theorem placeNone_walk (w : World) (n : Int) (_hn : 0 ≤ n ∧ n ≤ 4294967295) (v : Int) (_hv : 0 ≤ v ∧ v ≤ 4294967295) (hT : Instr.Nams w ∧ Utf.Tabs w ∧ Num.Arit w) :
    Calls Tryz.prog 4 #[.int .u32 n, .int .u32 v] w fun e w' => e = .returned (.bool true) ∧ Below w.heap.size w w' := Pl.placeNone_go n v w ⟨hT.1, hT.2.1, hT.2.2⟩
end Go.Proofs.YtckdnhafookcgaaGreatDoor

namespace Go.Proofs.YtckdnhafookcgaaGreatDoor.Pl
open Go.RowKit Go.Shelf Go.Proofs.YtckdnhafookcgaaGreatDoor.Instr Go.Proofs.YtckdnhafookcgaaGreatDoor.Mod Go.Proofs.YtckdnhafookcgaaGreatDoor.Val
open Go.Proofs.YtckdnhafookcgaaGreatDoor.Mem (MemIs MemAt Wrote Keep isOwn Mm)
set_option linter.unusedVariables false

theorem memM_in {W : World} {gm ga gb gd : Nat} {zs : List Int} (hz : ∀ z ∈ zs, 0 ≤ z ∧ z < 256) (hzl : zs.length ≤ 2) (h0 : zs ≠ []) (b1 : BoxAt W gm #[.int .u32 1, .int .u32 0, .bool false]) (b2 : BoxAt W ga (numI 65535).vals) (b3 : BoxAt W gb ((zs.map (Value.int .u8)).toArray)) (b4 : BoxAt W gd #[.slice (some ⟨ga, 0, none⟩) 1 1, .slice (some ⟨gb, 0, none⟩) zs.length zs.length]) : NewIn W (memM gm ga gb gd zs) := by
  have hcs : ∀ l ∈ (memM gm ga gb gd zs).codes, l = numL ga 65535 := by
    intro l hl
    simpa [memM, Md.codes] using hl
  refine ⟨⟨.inl rfl, .inl rfl, .inl rfl, .inl rfl, rows_box (box_lt b1 rfl) (by simp [memM, Li.v]) b1, .inl rfl, .inl rfl, .inl rfl, rows_box (box_lt b4 rfl) (by simp [memM, Da.v]) b4, fun l hl => ?_, by simp [memM], fun e he => ?_⟩, ⟨⟨by simp [memM], by simp [memM], by simp [memM], by simp [memM], by simp [memM], by simp [memM], by simp [memM], by simp [memM], by simp [memM], fun l hl => ?_, by simp [memM], by simp [memM]; omega, by simp [memM], by simp [memM]⟩, fun l hl => ?_, by simp [memM]⟩, ⟨by simp [memM], by simp [memM], by simp [memM], by simpa [memM] using hz, by simp [memM]⟩, ⟨by simp [memM], fun l hl => ?_, by simp [memM], by simp [memM]; omega, by simp [memM], by simp [memM]⟩⟩
  · rw [hcs l hl]; exact numL_at (by omega) b2
  · simp only [memM, List.mem_singleton] at he
    subst he
    have hlt : gb < W.heap.size := by
      cases zs with
      | nil => exact absurd rfl h0
      | cons z r => exact box_lt b3 (x := .int .u8 z) (by simp)
    refine .inr ⟨gb, 0, rfl, hlt, fun i hi => ?_⟩
    have hi' : i < zs.length := hi
    have := b3 i (.int .u8 (zs.getD i 0)) (by simp [hi'])
    simpa using this
  · rw [hcs l hl]; simp [numL, mkIl, Il.len]
  · rw [hcs l hl]; simp [numL, mkIl, Il.count]
  · rw [hcs l hl]; simp [numL, mkIl, Il.weight, numI]
theorem impM_in {W : World} {gt gi : Nat} {p r : Int} (b1 : BoxAt W gt #[.int .i64 p, .int .i64 r]) (b2 : BoxAt W gi #[.string strHost, .string strGet, .int .i64 0]) : NewIn W (impM gt gi p r) := by
  refine ⟨⟨rows_box (box_lt b1 rfl) (by simp [impM, tyV]) b1, rows_box (box_lt b2 rfl) (by simp [impM, Imp.v]) b2, .inl rfl, .inl rfl, .inl rfl, .inl rfl, .inl rfl, .inl rfl, .inl rfl, by simp [impM, Md.codes], by simp [impM], by simp [impM]⟩, ⟨⟨by simp [impM], by simp [impM], by simp [impM], by simp [impM], by simp [impM], by simp [impM], by simp [impM], by simp [impM], by simp [impM], by simp [impM, Md.codes], by simp [impM], by simp [impM], ?_, by simp [impM]⟩, by simp [impM, Md.codes], by simp [impM]⟩, ⟨by simp [impM], by simp [impM], by simp [impM], by simp [impM], by simp [impM]⟩, ⟨by simp [impM], by simp [impM, Md.codes], by simp [impM], by simp [impM], ?_, by simp [impM]⟩⟩
  · intro i hi
    simp only [impM, List.mem_singleton] at hi
    subst hi; decide
  · intro i hi
    simp only [impM, List.mem_singleton] at hi
    subst hi; decide
theorem gloM_in {W : World} {ga gg : Nat} (b1 : BoxAt W ga (numI 7).vals) (b2 : BoxAt W gg #[.bool true, .slice (some ⟨ga, 0, none⟩) 1 1]) : NewIn W (gloM ga gg) := by
  have hcs : ∀ l ∈ (gloM ga gg).codes, l = numL ga 7 := by
    intro l hl
    simpa [gloM, Md.codes] using hl
  refine ⟨⟨.inl rfl, .inl rfl, .inl rfl, .inl rfl, .inl rfl, rows_box (box_lt b2 rfl) (by simp [gloM, Gl.v]) b2, .inl rfl, .inl rfl, .inl rfl, fun l hl => ?_, by simp [gloM], by simp [gloM]⟩, ⟨⟨by simp [gloM], by simp [gloM], by simp [gloM], by simp [gloM], by simp [gloM], by simp [gloM], by simp [gloM], by simp [gloM], by simp [gloM], fun l hl => ?_, by simp [gloM], by simp [gloM], by simp [gloM], by simp [gloM]⟩, fun l hl => ?_, by simp [gloM]⟩, ⟨by simp [gloM], by simp [gloM], by simp [gloM], by simp [gloM], by simp [gloM]⟩, ⟨by simp [gloM], fun l hl => ?_, by simp [gloM], by simp [gloM], by simp [gloM], by simp [gloM]⟩⟩
  · rw [hcs l hl]; exact numL_at (by omega) b1
  · rw [hcs l hl]; simp [numL, mkIl, Il.len]
  · rw [hcs l hl]; simp [numL, mkIl, Il.count]
  · rw [hcs l hl]; simp [numL, mkIl, Il.weight, numI]
theorem chain4 (w : World) (A0 A1 A2 A3 : Array Value) (t0 t1 t2 t3 : TypeId) : ∃ W, ((((w.alloc (.cells A0 t0)).alloc (.cells A1 t1)).alloc (.cells A2 t2)).alloc (.cells A3 t3)) = W ∧ (BoxAt W (w.heap.size) A0 ∧ BoxAt W (w.heap.size + 1) A1 ∧ BoxAt W (w.heap.size + 1 + 1) A2 ∧ BoxAt W (w.heap.size + 1 + 1 + 1) A3) ∧ Below w.heap.size w W := by
  refine ⟨_, rfl, ⟨?_, ?_, ?_, ?_⟩, (thenA (thenA (thenA (thenA (Below.refl _ _) _) _) _) _)⟩ <;> (intro j x h; simp [go_sem, h])
theorem chain2 (w : World) (A0 A1 : Array Value) (t0 t1 : TypeId) : ∃ W, ((w.alloc (.cells A0 t0)).alloc (.cells A1 t1)) = W ∧ (BoxAt W (w.heap.size) A0 ∧ BoxAt W (w.heap.size + 1) A1) ∧ Below w.heap.size w W := by
  refine ⟨_, rfl, ⟨?_, ?_⟩, (thenA (thenA (Below.refl _ _) _) _)⟩ <;> (intro j x h; simp [go_sem, h])
theorem mem2_new (gm ga gb gd : Nat) : (newP (memM gm ga gb gd [1, 2])).1 = 220 := by kernel_rfl
theorem mem1_new (gm ga gb gd : Nat) : (newP (memM gm ga gb gd [1])).1 = 0 := by kernel_rfl
theorem imp1_new (gt gi : Nat) : newP (impM gt gi 0 1) = (0, ⟨[1], [], [], none⟩) := by kernel_rfl
theorem imp0_new (gt gi : Nat) : (newP (impM gt gi 1 0)).1 = 230 := by kernel_rfl
theorem glo_new (ga gg : Nat) : newP (gloM ga gg) = (0, ⟨[], [7], [], none⟩) := by kernel_rfl
theorem glo_mu (ga gg : Nat) : (gloM ga gg).gl.map (·.mu) = [true] := rfl
/-- New's module, and the globals that may be set. -/
theorem New_mu {m : Md} {x : Pc} {w : World} (hi : NewIn w m) (hT : Tb w) (h : newP m = (0, x)) : Calls Tryz.prog 14 #[.agg m.v] w fun e w' => (∃ hi p H gb d tv mv, e = .returned (.tuple #[.pointer (some ⟨p, 0, none⟩), .int .i64 0]) ∧ d.gl.map (·.mu) = m.gl.map (·.mu) ∧ PlAt w.heap.size hi w' p H gb 1048576 d tv mv x) ∧ Below w.heap.size w w' := by
  refine (New_any m w hi hT).mono ?_
  rintro e w' ⟨hq | ⟨x', hi', p, H, gb, d, tv, mv, h1, h2, h3, h4⟩, hb⟩
  · obtain ⟨er, h1, h2, h3⟩ := hq
    rw [h] at h2
    simp only [Prod.mk.injEq] at h2
    exact absurd h2.1.symm h1
  · rw [h] at h1
    simp only [Prod.mk.injEq, true_and] at h1
    subst h1
    refine ⟨⟨hi', p, H, gb, d, tv, mv, h2, ?_, h4⟩, hb⟩
    have e : ∀ l : List Gl, l.map (·.mu) = (l.map Gl.bare).map (·.mu) := fun l => by rw [List.map_map]; rfl
    exact (e d.gl).trans ((congrArg _ (same_iff.1 h3).gl).trans (e m.gl).symm)
set_option maxRecDepth 100000 in
set_option maxHeartbeats 4000000 in
theorem placeKnown_go (w : World) (hT : Tb w) : Calls Tryz.prog 7 #[] w fun e w' => e = .returned (.bool true) ∧ Below w.heap.size w w' := by
  have HT := hid hT
  clear hT
  go_enter Tryz.func7, Tryz.ntmps7
  go_wp2_with fail
  refine (at_any 65535 _).mono ?_
  rintro e w1 ⟨rfl, rfl⟩
  obtain ⟨W1, hW1, ⟨b0, b1, b2, b3⟩, hB1⟩ := chain4 w #[.int .u32 1, .int .u32 0, .bool false] (numI 65535).vals #[.int .u8 1, .int .u8 2] #[.slice (some ⟨w.heap.size + 1, 0, none⟩) 1 1, .slice (some ⟨w.heap.size + 1 + 1, 0, none⟩) 2 2] 83 105 5 88
  have C1 := hid (New_no (memM_in (zs := [1, 2]) (by decide) (by decide) (by decide) b0 b1 b2 b3) (HT.out.on hB1) (mem2_new _ _ _ _) (by decide))
  have HL := hid b0
  have HB1 := hid hB1
  have HW1 := hid hW1
  clear hW1 hB1 b0 b1 b2 b3
  go_wp2_with fail
  rw [HW1.out]
  refine C1.out.mono ?_
  rintro e w2 ⟨rfl, hb2⟩
  have HB2 := hid (thenB HB1.out hb2)
  have HL2 := hid (HL.out.keep hb2)
  clear C1 hb2 HB1 HL HW1
  go_wp2_with fail
  refine (at_any 65535 _).mono ?_
  rintro e w3 ⟨rfl, rfl⟩
  obtain ⟨W3, hW3, ⟨b1, b2, b3⟩, hB3⟩ := chain3 w2 (numI 65535).vals #[.int .u8 1] #[.slice (some ⟨w2.heap.size, 0, none⟩) 1 1, .slice (some ⟨w2.heap.size + 1, 0, none⟩) 1 1] 105 5 88
  have C1 := hid (New_yes (memM_in (zs := [1]) (by decide) (by decide) (by decide) (HL2.out.keep hB3) b1 b2 b3) (HT.out.on (thenB HB2.out hB3)) (x := (newP (memM w.heap.size w2.heap.size (w2.heap.size + 1) (w2.heap.size + 1 + 1) [1])).2) (by rw [← mem1_new w.heap.size w2.heap.size (w2.heap.size + 1) (w2.heap.size + 1 + 1)]))
  generalize (newP (memM w.heap.size w2.heap.size (w2.heap.size + 1) (w2.heap.size + 1 + 1) [1])).2 = x1 at C1
  have HB3 := hid (thenB HB2.out hB3)
  have HW3 := hid hW3
  clear hW3 hB3 b1 b2 b3
  go_wp2_with fail
  rw [HW3.out]
  refine C1.out.mono ?_
  rintro e w4 ⟨⟨hi, p, H, gb, d, tv, mv, rfl, hpl⟩, hb4⟩
  have HB4 := hid (thenB HB3.out hb4)
  clear C1 hb4 HB3 HW3 hpl HL2 HB2
  obtain ⟨W4, hW4, ⟨b0, b1⟩, hB5⟩ := chain2 w4 #[.string strHost, .string strGet, .int .i64 0] #[.int .i64 0, .int .i64 1] 90 92
  have C1 := hid (New_yes (impM_in b1 b0) (HT.out.on (thenB HB4.out hB5)) (imp1_new _ _))
  have HB5 := hid (thenB HB4.out hB5)
  have HW4 := hid hW4
  have HI := hid b0
  clear hW4 hB5 b0 b1
  go_wp2_with fail
  simp only [strHost, strGet] at HW4
  rw [HW4.out]
  refine C1.out.mono ?_
  rintro e w5 ⟨⟨hi5, p5, H5, gb5, d5, tv5, mv5, rfl, hpl⟩, hb5⟩
  have HB6 := hid (thenB HB5.out hb5)
  have HI5 := hid (HI.out.keep hb5)
  have HPB := hid hpl
  clear C1 hb5 HB5 HW4 HI hpl
  have hbt := belowAlloc w5 (.cells #[.int .i64 1, .int .i64 0] 92)
  have C1 := hid (New_no (impM_in (gt := w5.heap.size) (p := 1) (r := 0) (BoxAt.made w5 _ _) (HI5.out.keep hbt)) (HT.out.on (thenB HB6.out hbt)) (imp0_new _ _) (by decide))
  have HB7 := hid (thenB HB6.out hbt)
  have HPB7 := hid (HPB.out.below hbt)
  clear hbt
  go_wp2_with fail
  refine C1.out.mono ?_
  rintro e w6 ⟨rfl, hb6⟩
  have HB8 := hid (thenB HB7.out hb6)
  have HPB8 := hid (HPB7.out.below hb6)
  clear C1 hb6 HB7 HPB7 HI5 HPB HB6
  go_wp2_with fail
  refine (at_any 7 _).mono ?_
  rintro e w7 ⟨rfl, rfl⟩
  obtain ⟨W7, hW7, ⟨b0, b1⟩, hB7⟩ := chain2 w6 (numI 7).vals #[.bool true, .slice (some ⟨w6.heap.size, 0, none⟩) 1 1] 105 94
  have C1 := hid (New_mu (gloM_in b0 b1) (HT.out.on (thenB HB8.out hB7)) (glo_new _ _))
  have HB9 := hid (thenB HB8.out hB7)
  have HPB9 := hid (HPB8.out.below hB7)
  have HW7 := hid hW7
  clear hW7 hB7 b0 b1
  go_wp2_with fail
  rw [HW7.out]
  refine C1.out.mono ?_
  rintro e w8 ⟨⟨hi8, p8, H8, gb8, d8, tv8, mv8, rfl, hmu, hpl⟩, hb8⟩
  have HB10 := hid (thenB HB9.out hb8)
  have HPB10 := hid (HPB9.out.below hb8)
  have HLO := hid (show w.heap.size ≤ gb8 by have h1 := hpl.lh; have h2 := hpl.hg; have h3 := HB9.out.size; omega)
  have HMU := hid (hmu.trans (glo_mu _ _))
  have HPC := hid hpl
  have C2 := hid (Host_yes HPB10.out 0 (by omega))
  have C3 := hid (Global_yes HPC.out 0 (by omega))
  have C4 := hid (SetGlobal_yes HPC.out 0 (by omega) 9 (by omega))
  unfold SetQ at C4
  rw [HMU.out] at C4
  rw [show hostAtP ⟨[1], [], [], none⟩ 0 = (1, true) from rfl] at C2
  rw [show globalP ⟨[], [7], [], none⟩ 0 = (7, 0) from rfl] at C3
  rw [show setE ⟨[], [7], [], none⟩ [true] 0 = 0 from rfl, show setX ⟨[], [7], [], none⟩ [true] 0 9 = ⟨[], [9], [], none⟩ from rfl] at C4
  clear C1 hb8 HB9 HPB9 HW7 hmu hpl HB8 HPB8
  go_wp2_with fail
  refine C2.out.mono ?_
  rintro e w9 ⟨rfl, rfl⟩
  go_wp2_with fail
  refine C3.out.mono ?_
  rintro e w9 ⟨rfl, rfl⟩
  go_wp2_with fail
  refine C4.out.mono ?_
  rintro e w9 ⟨rfl, hp9, hs9, hz9⟩
  have HB11 := hid (HB10.out.trans (hs9.below HB10.out.size HLO.out))
  have C5 := hid (Global_yes hp9 0 (by omega))
  have C6 := hid (Global_yes hp9 1 (by omega))
  rw [show globalP ⟨[], [9], [], none⟩ 0 = (9, 0) from rfl] at C5
  rw [show globalP ⟨[], [9], [], none⟩ 1 = (0, 6) from rfl] at C6
  clear C2 C3 C4 hp9 hs9 hz9 HPB10 HPC HB10
  go_wp2_with fail
  refine C5.out.mono ?_
  rintro e w10 ⟨rfl, rfl⟩
  go_wp2_with fail
  refine C6.out.mono ?_
  rintro e w10 ⟨rfl, rfl⟩
  have CA := hid (awake_p w9 (HT.out.on HB11.out))
  go_wp2_with fail
  refine CA.out.mono ?_
  rintro e w11 ⟨rfl, hb11⟩
  have HB12 := hid (thenB HB11.out hb11)
  clear CA C5 C6 hb11
  go_wp2
  go_ret
  exact ⟨rfl, HB12.out⟩
end Go.Proofs.YtckdnhafookcgaaGreatDoor.Pl
namespace Go.Proofs.YtckdnhafookcgaaGreatDoor
open Go.RowKit
theorem placeKnown_walk (w : World) (hT : Instr.Nams w ∧ Utf.Tabs w ∧ Num.Arit w) :
    Calls Tryz.prog 7 #[] w fun e w' => e = .returned (.bool true) ∧ Below w.heap.size w w' := Pl.placeKnown_go w ⟨hT.1, hT.2.1, hT.2.2⟩
end Go.Proofs.YtckdnhafookcgaaGreatDoor
