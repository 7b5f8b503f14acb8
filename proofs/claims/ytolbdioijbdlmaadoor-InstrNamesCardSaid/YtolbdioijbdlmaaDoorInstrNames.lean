/-
  INSTR: InstrNames: the walk.
-/
import Derived.Test.YtolbdioijbdlmaaDoorInstrRefName
import Derived.Test.YtolbdioijbdlmaaDoorInstrRefShape
namespace Go.Proofs.YtolbdioijbdlmaaDoor
open Go.RowKit Go.Proofs.YtolbdioijbdlmaaDoor.Instr

set_option maxRecDepth 100000 in
set_option maxHeartbeats 4000000 in
theorem instrNames_walk (w : World) (op : Int) (_b : -9223372036854775808 ≤ op ∧ op ≤ 9223372036854775807) (hT : Tabs w) : Calls Tryd.prog 3 #[.int .i64 op] w fun e w' => e = .returned (.bool true) ∧ Below w.heap.size w w' := by
  clear _b
  have C1 := Shape_any op w hT.ar
  have C2 := fun w' => refShape_any op w'
  have C3 := fun w' => Align_any op w'
  have C4 := fun w' => refAlign_any op w'
  have C5 := fun w' (h : Nams w') => Name_any op w' h
  have C6 := fun w' => refName_any op w'
  obtain ⟨t, ht⟩ : ∃ t, takesP op = t := ⟨_, rfl⟩
  obtain ⟨l, hl⟩ : ∃ l, leavesP op = l := ⟨_, rfl⟩
  obtain ⟨k, hk⟩ : ∃ k, knownP op = k := ⟨_, rfl⟩
  obtain ⟨a, ha⟩ : ∃ a, alignP op = a := ⟨_, rfl⟩
  obtain ⟨s, hs⟩ : ∃ s, storedP op = s := ⟨_, rfl⟩
  obtain ⟨n, hn⟩ : ∃ n, strOfNums (nameL op) = n := ⟨_, rfl⟩
  simp only [ht, hl, hk, ha, hs, hn] at C1 C2 C3 C4 C5 C6
  clear ht hl hk ha hs hn
  have D1 := hid C1
  have D2 := hid C2
  have D3 := hid C3
  have D4 := hid C4
  have D5 := hid C5
  have D6 := hid C6
  clear C1 C2 C3 C4 C5 C6
  go_enter Tryd.func3, Tryd.ntmps3
  go_wp2_with fail
  refine D1.out.mono ?_
  clear D1
  rintro e w1 ⟨rfl, hb1⟩
  have hT1 := hT.below hb1
  go_wp2_with fail
  refine (D2.out _).mono ?_
  clear D2
  rintro e w2 ⟨rfl, rfl⟩
  go_wp2_with fail
  refine (D3.out _).mono ?_
  clear D3
  rintro e w2 ⟨rfl, rfl⟩
  go_wp2_with fail
  refine (D4.out _).mono ?_
  clear D4
  rintro e w2 ⟨rfl, rfl⟩
  go_wp2_with fail
  refine (D5.out _ hT1.nm).mono ?_
  clear D5
  rintro e w2 ⟨rfl, rfl⟩
  go_wp2_with fail
  refine (D6.out _).mono ?_
  clear D6
  rintro e w2 ⟨rfl, hb2⟩
  have hT2 := hT1.below hb2
  have eq1 : (n.toList == n.toList) = true := by simp
  go_wp2_with fail
  refine (awake_any w2 hT2).mono ?_
  rintro e w3 ⟨rfl, hb3⟩
  go_wp2
  go_ret
  exact ⟨rfl, thenB (thenB hb1 hb2) hb3⟩
end Go.Proofs.YtolbdioijbdlmaaDoor
