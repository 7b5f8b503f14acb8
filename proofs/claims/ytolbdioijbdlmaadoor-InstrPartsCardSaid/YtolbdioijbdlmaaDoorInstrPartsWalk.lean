/-
  INSTR: InstrParts: all cases.
-/
import Derived.Test.YtolbdioijbdlmaaDoorInstrParts
import Derived.Test.YtolbdioijbdlmaaDoorInstrOpen
namespace Go.Proofs.YtolbdioijbdlmaaDoor
open Go.RowKit Go.Proofs.YtolbdioijbdlmaaDoor.Instr

set_option maxRecDepth 100000 in
set_option maxHeartbeats 1600000 in
theorem parts_none (w : World) (a : Option Addr) (cap : Nat) (hT : Tabs w) :
    Calls Tryd.prog 5 #[.slice a 0 cap] w fun e w' => e = .returned (.bool true) ∧ Below w.heap.size w w' := by
  have hL : ∀ w', ListAt w'.heap.size w' a 0 .nil := fun w' => no_list _ _ _
  have CI := fun w' => Instrs_any 0 .nil a 0 cap 2000 w' (Nat.le_refl _) (hL w') (by omega) (by omega) (by omega)
  have CC := fun w' (hn : Nams w') => Check_any a 0 cap .nil w' hn (hL w') (by simp [Il.count]) (by omega)
  have CN := fun w' => Count_any a 0 cap .nil w' (hL w') (by simp [Il.count]) (by omega)
  have CD := fun w' => Deep_any a 0 cap .nil w' (hL w') (by simp [Il.count]) (by omega)
  have CX := fun w' (h2 : Tabs w') => Text_any a 0 cap .nil w' (hL w') (by simp [Il.text]) (by omega) h2.pow h2.nm
  simp only [show Il.nil.go 0 2000 = 0 from rfl] at CI
  simp only [show checkP .nil = 0 by decide] at CC
  simp only [show ((Il.nil.count : Nat) : Int) = 0 from rfl] at CN
  simp only [show ((Il.nil.deep : Nat) : Int) = 0 from rfl] at CD
  simp only [show strOfNums Il.nil.text = ⟨#[]⟩ from rfl] at CX
  have C1 := hid CI
  have C2 := hid CC
  have C3 := hid CN
  have C4 := hid CD
  have C5 := hid CX
  clear CI CC CN CD CX hL
  go_enter Tryd.func5, Tryd.ntmps5
  go_wp2_with fail
  refine (awake_any w hT).mono ?_
  rintro e w1 ⟨rfl, hb1⟩
  have hT1 := hT.below hb1
  go_wp2_with fail
  refine (C1.out w1).mono ?_
  rintro e w2 ⟨rfl, rfl⟩
  go_wp2_with fail
  refine (C2.out w1 hT1.nm).mono ?_
  rintro e w2 ⟨rfl, hb2⟩
  have hT2 := hT1.below hb2
  have hb2' := thenB hb1 hb2
  clear hT1 hb1 hb2 C1 C2
  go_wp2
  go_loopw [4, 5, 6, 7] (fun s4 s5 s6 s7 wr => s4 = .int .i64 0 ∧ s5 = .string ⟨#[]⟩ ∧ s6 = .int .i64 0 ∧ s7 = .int .i64 0 ∧ wr = w2) (fun _ _ _ _ _ => 0)
  case atStart => exact ⟨rfl, rfl, rfl, rfl, rfl⟩
  case round =>
    obtain ⟨rfl, rfl, rfl, rfl, rfl⟩ := hrel
    go_wp2_with fail
    refine (C3.out _).mono ?_
    clear C3
    rintro e w3 ⟨rfl, hb3⟩
    have hT3 := hT2.below hb3
    go_wp2_with fail
    refine (C5.out _ hT3).mono ?_
    clear C5
    rintro e w4 ⟨rfl, hb4⟩
    go_wp2_with fail
    refine (C4.out _).mono ?_
    clear C4
    rintro e w5 ⟨rfl, hb5⟩
    go_wp2
    go_ret
    exact ⟨rfl, thenB (thenB (thenB hb2' hb3) hb4) hb5⟩
theorem instrParts_walk (w : World) (a : Option Addr) (len cap : Nat) (t : Il) (hL : ListAt w.heap.size w a len t) (hlc : len ≤ cap) (hlen : len ≤ 140737488351232) (hT : Tabs w) :
    Calls Tryd.prog 5 #[.slice a len cap] w fun e w' => e = .returned (.bool true) ∧ Below w.heap.size w w' := by
  by_cases h : 2000 < t.go 0 2000
  · exact parts_many w a len cap t hL hlen hT h
  · have hb := go_bounds t 0 2000 (by omega) (by omega) (by omega)
    have hw := hb.2.2 (by omega)
    have hc := weight_count t
    by_cases hq : checkP t = 0
    · obtain ⟨hl1, hl2⟩ := hL
      rcases hl2 with rfl | ⟨b, off, rfl, hi⟩
      · have h0 : len = 0 := hl1.symm
        subst h0
        exact parts_none w a cap hT
      · have htx := text_len t hi.okt
        exact parts_fine w b off len cap t hl1 hi hlc hlen hT (by omega) (fine_of hq (by omega)) (by omega)
    · exact parts_wrong w a len cap t hL hlen hT (by omega) hq (by omega)
end Go.Proofs.YtolbdioijbdlmaaDoor
