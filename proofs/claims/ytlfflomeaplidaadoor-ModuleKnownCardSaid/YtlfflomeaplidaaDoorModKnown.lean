/-
  MODULE: the chapter's examples.
-/
import Derived.Test.YtlfflomeaplidaaDoorModAwake
import Derived.Laws.MakeOwn
namespace Go.Proofs.YtlfflomeaplidaaDoor.Mod
open Go.RowKit Go.Shelf Go.Proofs.YtlfflomeaplidaaDoor.Instr

theorem make_bytes (w : World) (n : Nat) (hn : n ≤ 140737488351232) : ∃ w', (Instr.makeSlice 27 (.int .i64 (n : Int)) (.int .i64 (n : Int))).run Tryd.prog w = .ok (.slice (some ⟨w.heap.size, 0, none⟩) n n) w' ∧ Bytes w' (some ⟨w.heap.size, 0, none⟩) (List.replicate n 0) ∧ Below w.heap.size w w' := by
  obtain ⟨i0, hi, hz0, hz1, hz2⟩ := info_parts infoByte
  obtain ⟨w', h1, h2, h3⟩ := run_make_full w w.heap.size 27 5 i0 (.int .u8 0) 1 Tryd.underlying27 hi hz0 hz1 .i64 .i64 n (by rw [hz2]; omega) (by unfold maxLen; omega) (Nat.le_refl _)
  refine ⟨w', h1, ?_, (Below.refl _ _).grown h3 (Nat.le_refl _) (fun k h => by cases h)⟩
  have hcells : (Value.int .u8 0).cells = #[Value.int .u8 0] := rfl
  rw [hcells, toList_madeCells_one] at h2
  have h4 : Own w.heap.size w' (.slice (some ⟨w.heap.size, 0, none⟩) n n) (List.replicate n 0) := by
    unfold Own
    simpa using h2
  exact h4.bytes (by simp) (by simp; omega)

def noneM : Md where
  ty := []
  im := []
  fu := []
  tb := []
  me := []
  gl := []
  ex := []
  st := false
  sn := 0
  el := []
  da := []
  ty' := ⟨none, 0⟩
  im' := ⟨none, 0⟩
  fu' := ⟨none, 0⟩
  tb' := ⟨none, 0⟩
  me' := ⟨none, 0⟩
  gl' := ⟨none, 0⟩
  ex' := ⟨none, 0⟩
  el' := ⟨none, 0⟩
  da' := ⟨none, 0⟩
theorem noneM_few : noneM.few := ⟨⟨by simp [noneM], by simp [noneM], by simp [noneM], by simp [noneM], by simp [noneM], by simp [noneM], by simp [noneM], by simp [noneM], by simp [noneM], by simp [noneM, Md.codes], by simp [noneM], by simp [noneM], by simp [noneM], by simp [noneM]⟩, by simp [noneM, Md.codes], by simp [noneM]⟩
theorem noneM_at (w : World) : ModAt w.heap.size w noneM := ⟨.inl rfl, .inl rfl, .inl rfl, .inl rfl, .inl rfl, .inl rfl, .inl rfl, .inl rfl, .inl rfl, by simp [noneM, Md.codes], by simp [noneM], by simp [noneM]⟩
theorem check_none (w : World) (hT : Nams w) (hU : Utf.Tabs w) :
    Calls Tryd.prog 17 #[.agg #[.slice none 0 0, .slice none 0 0, .slice none 0 0, .slice none 0 0, .slice none 0 0, .slice none 0 0, .slice none 0 0, .bool false, .int .u32 0, .slice none 0 0, .slice none 0 0]] w fun e w' => e = .returned (.int .i64 0) ∧ Below w.heap.size w w' := by
  have := ModCheck_any noneM w hT hU (noneM_at w) noneM_few
  rw [show noneM.check = 0 by kernel_rfl] at this
  exact this
theorem check_start (w : World) (hT : Nams w) (hU : Utf.Tabs w) :
    Calls Tryd.prog 17 #[.agg #[.slice none 0 0, .slice none 0 0, .slice none 0 0, .slice none 0 0, .slice none 0 0, .slice none 0 0, .slice none 0 0, .bool false, .int .u32 1, .slice none 0 0, .slice none 0 0]] w fun e w' => e = .returned (.int .i64 2) ∧ Below w.heap.size w w' := by
  have A := noneM_at w
  have F := noneM_few
  have := ModCheck_any { noneM with sn := 1 } w hT hU ⟨A.ty, A.im, A.fu, A.tb, A.me, A.gl, A.ex, A.el, A.da, A.ls, A.fs, A.bs⟩ ⟨⟨F.fit.ty, F.fit.im, F.fit.fu, F.fit.tb, F.fit.me, F.fit.gl, F.fit.ex, F.fit.el, F.fit.da, F.fit.ls, F.fit.fs, F.fit.bs, F.fit.iS, F.fit.eS⟩, F.cs, F.lens⟩
  rw [show ({ noneM with sn := 1 } : Md).check = 2 by kernel_rfl] at this
  exact this
def memM (b : Nat) : Md := { noneM with me := [⟨0, 0, false⟩, ⟨0, 0, false⟩], me' := ⟨some ⟨b, 0, none⟩, 2⟩ }
theorem check_mems (b : Nat) (w : World) (hT : Nams w) (hU : Utf.Tabs w) (h : BoxAt w b #[.int .u32 0, .int .u32 0, .bool false, .int .u32 0, .int .u32 0, .bool false]) :
    Calls Tryd.prog 17 #[.agg #[.slice none 0 0, .slice none 0 0, .slice none 0 0, .slice none 0 0, .slice (some ⟨b, 0, none⟩) 2 2, .slice none 0 0, .slice none 0 0, .bool false, .int .u32 0, .slice none 0 0, .slice none 0 0]] w fun e w' => e = .returned (.int .i64 141) ∧ Below w.heap.size w w' := by
  have A := noneM_at w
  have F := noneM_few
  have hb := World.block_lt_of_cell? w _ (h 0 _ rfl)
  have hm : Rows w.heap.size w (some ⟨b, 0, none⟩) 3 ((memM b).me.map Li.v) := .inr ⟨b, 0, rfl, hb, fun i hi j hj v hv => by
    simp only [memM, List.map_cons, List.map_nil, List.length_cons, List.length_nil] at hi hv
    have hi' : i = 0 ∨ i = 1 := by omega
    have hj' : j = 0 ∨ j = 1 ∨ j = 2 := by omega
    rcases hi' with rfl | rfl <;> rcases hj' with rfl | rfl | rfl <;> simp [Li.v] at hv <;> subst hv
    · exact h 0 _ rfl
    · exact h 1 _ rfl
    · exact h 2 _ rfl
    · exact h 3 _ rfl
    · exact h 4 _ rfl
    · exact h 5 _ rfl⟩
  have := ModCheck_any (memM b) w hT hU ⟨A.ty, A.im, A.fu, A.tb, hm, A.gl, A.ex, A.el, A.da, A.ls, A.fs, A.bs⟩ ⟨⟨F.fit.ty, F.fit.im, F.fit.fu, F.fit.tb, by simp [memM], F.fit.gl, F.fit.ex, F.fit.el, F.fit.da, F.fit.ls, F.fit.fs, F.fit.bs, F.fit.iS, F.fit.eS⟩, F.cs, by simp [memM, noneM]⟩
  rw [show (memM b).check = 141 by kernel_rfl] at this
  exact this
def exM (b : Nat) (na : ByteArray) (k : Int) : Md := { noneM with ex := [⟨na, k, 0⟩], ex' := ⟨some ⟨b, 0, none⟩, 1⟩ }
theorem check_ex (b : Nat) (na : ByteArray) (k e : Int) (w : World) (hT : Nams w) (hU : Utf.Tabs w) (h : BoxAt w b #[.string na, .int .i64 k, .int .u32 0]) (hn : na.size ≤ 1000000) (he : (exM b na k).check = e) :
    Calls Tryd.prog 17 #[.agg #[.slice none 0 0, .slice none 0 0, .slice none 0 0, .slice none 0 0, .slice none 0 0, .slice none 0 0, .slice (some ⟨b, 0, none⟩) 1 1, .bool false, .int .u32 0, .slice none 0 0, .slice none 0 0]] w fun x w' => x = .returned (.int .i64 e) ∧ Below w.heap.size w w' := by
  have A := noneM_at w
  have F := noneM_few
  have hb := World.block_lt_of_cell? w _ (h 0 _ rfl)
  have hm : Rows w.heap.size w (some ⟨b, 0, none⟩) 3 ((exM b na k).ex.map Ex.v) := .inr ⟨b, 0, rfl, hb, fun i hi j hj v hv => by
    simp only [exM, List.map_cons, List.map_nil, List.length_cons, List.length_nil] at hi hv
    obtain rfl : i = 0 := by omega
    have := h j v (by simpa [Ex.v] using hv)
    simpa using this⟩
  have := ModCheck_any (exM b na k) w hT hU ⟨A.ty, A.im, A.fu, A.tb, A.me, A.gl, hm, A.el, A.da, A.ls, A.fs, A.bs⟩ ⟨⟨F.fit.ty, F.fit.im, F.fit.fu, F.fit.tb, F.fit.me, F.fit.gl, by simp [exM], F.fit.el, F.fit.da, F.fit.ls, F.fit.fs, F.fit.bs, F.fit.iS, fun x hx => by simp only [exM, List.mem_singleton] at hx; subst hx; show na.size ≤ _; omega⟩, F.cs, by simp [exM, noneM]⟩
  rw [he] at this
  exact this
theorem ex_long (b : Nat) (na : ByteArray) (h : 1000 < na.size) : (exM b na 0).check = 3 := by
  simp [Md.check, exM, noneM, Md.crowded, Md.codes, codeP, Md.anyName, longS, h]
theorem ex_bad (b : Nat) : (exM b (strOfNums [255]) 0).check = 2 := by kernel_rfl
theorem ex_kind (b : Nat) : (exM b ⟨#[]⟩ 4).check = 2 := by kernel_rfl
theorem one_byte (w : World) : (convert 27 9 (.slice (some ⟨w.heap.size, 0, none⟩) 1 1)).run Tryd.prog (w.alloc (.cells #[.int .u8 255] 5)) = .ok (.string (strOfNums [255])) (w.alloc (.cells #[.int .u8 255] 5)) := by
  have hz : Bytes (w.alloc (.cells #[.int .u8 255] 5)) (some ⟨w.heap.size, 0, none⟩) [255] := by
    refine ⟨by simp, by simp, .inr ⟨w.heap.size, 0, rfl, fun i hi => ?_⟩⟩
    obtain rfl : i = 0 := by simpa using hi
    simp [go_sem]
  exact str_of hz 1 1 rfl
set_option maxHeartbeats 2000000 in
set_option maxRecDepth 100000 in
theorem moduleKnown_walk (w : World) (hT : Nams w) (hU : Utf.Tabs w) : Calls Tryd.prog 5 #[] w fun e w' => e = .returned (.bool true) ∧ Below w.heap.size w w' := by
  have HT := hid hT
  have HU := hid hU
  obtain ⟨w1, hmk, hz, hb1⟩ := make_bytes (w.alloc (.cells #[.slice none 0 0, .slice none 0 0, .slice none 0 0, .slice none 0 0, .slice none 0 0, .slice none 0 0, .slice none 0 0, .bool false, .int .u32 0, .slice none 0 0, .slice none 0 0] 46)) 1001 (by omega)
  rw [World.size_alloc] at hmk hz hb1
  have hmk' : (Instr.makeSlice 27 (.int .i64 1001) (.int .i64 1001)).run Tryd.prog (w.alloc (.cells #[.slice none 0 0, .slice none 0 0, .slice none 0 0, .slice none 0 0, .slice none 0 0, .slice none 0 0, .slice none 0 0, .bool false, .int .u32 0, .slice none 0 0, .slice none 0 0] 46)) = .ok (.slice (some ⟨w.heap.size + 1, 0, none⟩) 1001 1001) w1 := hmk
  have hst := str_of hz 1001 1001 (by simp)
  obtain ⟨s, hs⟩ : ∃ s, strOfNums (List.replicate 1001 0) = s := ⟨_, rfl⟩
  have hss : s.size = 1001 := by rw [← hs, strOfNums_size]; simp
  rw [hs] at hst
  have HSS := hid hss
  have HB1 := hid (show Below w.heap.size w w1 from (belowA w _).trans (hb1.mono (by omega)))
  have hbx := (BoxAt.made w #[.slice none 0 0, .slice none 0 0, .slice none 0 0, .slice none 0 0, .slice none 0 0, .slice none 0 0, .slice none 0 0, .bool false, .int .u32 0, .slice none 0 0, .slice none 0 0] 46).keep (w' := w1) (by rw [World.size_alloc]; exact hb1)
  have HBX := hid hbx
  have n0 : w1.cell? ⟨w.heap.size, 0, none⟩ = some (.slice none 0 0) := HBX.out 0 _ rfl
  have n1 : w1.cell? ⟨w.heap.size, 1, none⟩ = some (.slice none 0 0) := HBX.out 1 _ rfl
  have n2 : w1.cell? ⟨w.heap.size, 2, none⟩ = some (.slice none 0 0) := HBX.out 2 _ rfl
  have n3 : w1.cell? ⟨w.heap.size, 3, none⟩ = some (.slice none 0 0) := HBX.out 3 _ rfl
  have n4 : w1.cell? ⟨w.heap.size, 4, none⟩ = some (.slice none 0 0) := HBX.out 4 _ rfl
  have n5 : w1.cell? ⟨w.heap.size, 5, none⟩ = some (.slice none 0 0) := HBX.out 5 _ rfl
  have n6 : w1.cell? ⟨w.heap.size, 6, none⟩ = some (.slice none 0 0) := HBX.out 6 _ rfl
  have n7 : w1.cell? ⟨w.heap.size, 7, none⟩ = some (.bool false) := HBX.out 7 _ rfl
  have n8 : w1.cell? ⟨w.heap.size, 8, none⟩ = some (.int .u32 0) := HBX.out 8 _ rfl
  have n9 : w1.cell? ⟨w.heap.size, 9, none⟩ = some (.slice none 0 0) := HBX.out 9 _ rfl
  have n10 : w1.cell? ⟨w.heap.size, 10, none⟩ = some (.slice none 0 0) := HBX.out 10 _ rfl
  have hl1 := World.block_lt_of_cell? w1 _ n0
  clear hT hU hmk hz hs hss hb1 hbx HBX
  go_enter Tryd.func5, Tryd.ntmps5
  have L2 := hid (BoxAt.made (w1.alloc (.cells #[.string s, .int .i64 0, .int .u32 0] 58)) #[.slice none 0 0, .slice none 0 0, .slice none 0 0, .slice none 0 0, .slice none 0 0, .slice none 0 0, .slice (some ⟨w1.heap.size, 0, none⟩) 1 1, .bool false, .int .u32 0, .slice none 0 0, .slice none 0 0] 46)
  have E2 := hid ((BoxAt.made w1 #[.string s, .int .i64 0, .int .u32 0] 58).keep (belowA (w1.alloc (.cells #[.string s, .int .i64 0, .int .u32 0] 58)) (.cells #[.slice none 0 0, .slice none 0 0, .slice none 0 0, .slice none 0 0, .slice none 0 0, .slice none 0 0, .slice (some ⟨w1.heap.size, 0, none⟩) 1 1, .bool false, .int .u32 0, .slice none 0 0, .slice none 0 0] 46)))
  have B2 := hid (thenA (thenA HB1.out (.cells #[.string s, .int .i64 0, .int .u32 0] 58)) (.cells #[.slice none 0 0, .slice none 0 0, .slice none 0 0, .slice none 0 0, .slice none 0 0, .slice none 0 0, .slice (some ⟨w1.heap.size, 0, none⟩) 1 1, .bool false, .int .u32 0, .slice none 0 0, .slice none 0 0] 46))
  go_wp2_with fail
  clear n0 n1 n2 n3 n4 n5 n6 n7 n8 n9 n10 hmk' hst hl1 HB1
  generalize (w1.alloc (.cells #[.string s, .int .i64 0, .int .u32 0] 58)).alloc (.cells #[.slice none 0 0, .slice none 0 0, .slice none 0 0, .slice none 0 0, .slice none 0 0, .slice none 0 0, .slice (some ⟨w1.heap.size, 0, none⟩) 1 1, .bool false, .int .u32 0, .slice none 0 0, .slice none 0 0] 46) = w2 at L2 E2 B2 ⊢
  have hlx : (w1.alloc (.cells #[.string s, .int .i64 0, .int .u32 0] 58)).heap.size = w1.heap.size + 1 := World.size_alloc _ _
  rw [hlx] at L2
  clear hlx
  have C := hid (check_none w2 (HT.out.below B2.out) (HU.out.below B2.out))
  refine C.out.mono ?_
  rintro e w3 ⟨rfl, hb⟩
  have L3 := hid (L2.out.keep hb)
  have E3 := hid (E2.out.keep hb)
  have B3 := hid (thenB B2.out hb)
  clear C hb L2 E2 B2
  have hmk2 : ∀ w, (Instr.makeSlice 39 (.int .i64 2) (.int .i64 2)).run Tryd.prog w = .ok (.slice (some ⟨w.heap.size, 0, none⟩) 2 2) (w.alloc (.cells #[.int .u32 0, .int .u32 0, .bool false, .int .u32 0, .int .u32 0, .bool false] 128)) := fun _ => by kernel_rfl
  go_wp2_with fail
  clear hmk2
  have M4 := BoxAt.made w3 #[.int .u32 0, .int .u32 0, .bool false, .int .u32 0, .int .u32 0, .bool false] 128
  have B4 := hid (thenA B3.out (.cells #[.int .u32 0, .int .u32 0, .bool false, .int .u32 0, .int .u32 0, .bool false] 128))
  have L4 := hid (L3.out.keep (belowA w3 (.cells #[.int .u32 0, .int .u32 0, .bool false, .int .u32 0, .int .u32 0, .bool false] 128)))
  have E4 := hid (E3.out.keep (belowA w3 (.cells #[.int .u32 0, .int .u32 0, .bool false, .int .u32 0, .int .u32 0, .bool false] 128)))
  have C := hid (check_mems _ _ (HT.out.below B4.out) (HU.out.below B4.out) M4)
  clear M4 L3 E3 B3
  refine C.out.mono ?_
  rintro e w5 ⟨rfl, hb⟩
  have L5 := hid (L4.out.keep hb)
  have E5 := hid (E4.out.keep hb)
  have B5 := hid (thenB B4.out hb)
  clear C hb L4 E4 B4
  have C := hid (check_start w5 (HT.out.below B5.out) (HU.out.below B5.out))
  go_wp2_with fail
  refine C.out.mono ?_
  rintro e w6 ⟨rfl, hb⟩
  have L6 := hid (L5.out.keep hb)
  have E6 := hid (E5.out.keep hb)
  have B6 := hid (thenB B5.out hb)
  clear C hb L5 E5 B5
  have C := hid (awake_any w6 (HT.out.below B6.out) (HU.out.below B6.out))
  go_wp2_with fail
  refine C.out.mono ?_
  rintro e w7 ⟨rfl, hb⟩
  have L7 := hid (L6.out.keep hb)
  have E7 := hid (E6.out.keep hb)
  have B7 := hid (thenB B6.out hb)
  clear C hb L6 E6 B6
  have hst2 := one_byte w7
  obtain ⟨s2, hs2⟩ : ∃ s2, strOfNums [255] = s2 := ⟨_, rfl⟩
  rw [hs2] at hst2
  have HS2 := hid hs2
  clear hs2
  go_wp2_with fail
  clear hst2
  have M7 := BoxAt.made (w7.alloc (.cells #[.int .u8 255] 5)) #[.string s2, .int .i64 0, .int .u32 0] 58
  have Q7 := hid (thenA (belowA w7 (.cells #[.int .u8 255] 5)) (.cells #[.string s2, .int .i64 0, .int .u32 0] 58))
  have C := hid (check_ex _ s2 0 2 _ (HT.out.below (thenB B7.out Q7.out)) (HU.out.below (thenB B7.out Q7.out)) M7 (by rw [← HS2.out, strOfNums_size]; simp) (by rw [← HS2.out]; exact ex_bad _))
  rw [World.size_alloc] at C
  clear M7
  refine C.out.mono ?_
  rintro e w8 ⟨rfl, hb⟩
  have L8 := hid (L7.out.keep (thenB Q7.out hb))
  have E8 := hid (E7.out.keep (thenB Q7.out hb))
  have B8 := hid (thenB B7.out (thenB Q7.out hb))
  clear C hb L7 E7 B7 Q7 HS2
  have n0 : w8.cell? ⟨w1.heap.size + 1, 0, none⟩ = some (.slice none 0 0) := L8.out 0 _ rfl
  have n1 : w8.cell? ⟨w1.heap.size + 1, 1, none⟩ = some (.slice none 0 0) := L8.out 1 _ rfl
  have n2 : w8.cell? ⟨w1.heap.size + 1, 2, none⟩ = some (.slice none 0 0) := L8.out 2 _ rfl
  have n3 : w8.cell? ⟨w1.heap.size + 1, 3, none⟩ = some (.slice none 0 0) := L8.out 3 _ rfl
  have n4 : w8.cell? ⟨w1.heap.size + 1, 4, none⟩ = some (.slice none 0 0) := L8.out 4 _ rfl
  have n5 : w8.cell? ⟨w1.heap.size + 1, 5, none⟩ = some (.slice none 0 0) := L8.out 5 _ rfl
  have n6 : w8.cell? ⟨w1.heap.size + 1, 6, none⟩ = some (.slice (some ⟨w1.heap.size, 0, none⟩) 1 1) := L8.out 6 _ rfl
  have n7 : w8.cell? ⟨w1.heap.size + 1, 7, none⟩ = some (.bool false) := L8.out 7 _ rfl
  have n8 : w8.cell? ⟨w1.heap.size + 1, 8, none⟩ = some (.int .u32 0) := L8.out 8 _ rfl
  have n9 : w8.cell? ⟨w1.heap.size + 1, 9, none⟩ = some (.slice none 0 0) := L8.out 9 _ rfl
  have n10 : w8.cell? ⟨w1.heap.size + 1, 10, none⟩ = some (.slice none 0 0) := L8.out 10 _ rfl
  have C := hid (check_ex w1.heap.size s 0 3 w8 (HT.out.below B8.out) (HU.out.below B8.out) E8.out (by rw [HSS.out]; omega) (ex_long _ s (by rw [HSS.out]; omega)))
  go_wp2_with fail
  refine C.out.mono ?_
  rintro e w9 ⟨rfl, hb⟩
  have B9 := hid (thenB B8.out hb)
  clear C hb L8 E8 B8 n0 n1 n2 n3 n4 n5 n6 n7 n8 n9 n10
  go_wp2_with fail
  have M9 := BoxAt.made w9 #[.string ⟨#[]⟩, .int .i64 4, .int .u32 0] 58
  have B10 := hid (thenA B9.out (.cells #[.string ⟨#[]⟩, .int .i64 4, .int .u32 0] 58))
  have C := hid (check_ex _ ⟨#[]⟩ 4 2 _ (HT.out.below B10.out) (HU.out.below B10.out) M9 (by decide) (ex_kind _))
  clear M9 B9
  refine C.out.mono ?_
  rintro e w11 ⟨rfl, hb⟩
  have B11 := hid (thenB B10.out hb)
  clear C hb B10
  go_wp2
  go_ret
  exact ⟨rfl, B11.out⟩
end Go.Proofs.YtlfflomeaplidaaDoor.Mod
namespace Go.Proofs.YtlfflomeaplidaaDoor
open Go.RowKit
theorem moduleKnown_walk (w : World) (hT : Instr.Nams w ∧ Utf.Tabs w) : Calls Tryd.prog 5 #[] w fun e w' => e = .returned (.bool true) ∧ Below w.heap.size w w' := Mod.moduleKnown_walk w hT.1 hT.2
end Go.Proofs.YtlfflomeaplidaaDoor
