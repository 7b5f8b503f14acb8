/-
  THE STATEMENT LexKnown: the walk.
-/
import Derived.Test.YtllodmoookcimaaDoorLexWrite
namespace Go.Proofs.YtllodmoookcimaaDoor.Lex
open Go.RowKit Go.Proofs.YtllodmoookcimaaDoor.Utf
set_option linter.unusedSimpArgs false
set_option linter.unusedVariables false

theorem rowsN (w : World) (l : List Wd) (cs : Array Value) (hc : cs.toList = (l.map Wd.row).flatten) : WordsAt (w.alloc (.cells cs 31)) (some ⟨w.heap.size, 0, none⟩) l := by
  refine .inr ⟨w.heap.size, 0, rfl, by simp, fun i hi j hj v hv => ?_⟩
  have hlen : ∀ r ∈ l.map Wd.row, r.length = 4 := fun r hr => by
    obtain ⟨x, _, rfl⟩ := List.mem_map.1 hr
    rfl
  have hf := Stk.flat_get (l.map Wd.row) hlen i j hi hj
  rw [hv, ← hc] at hf
  rw [Lib.cell_of_heap (heap_alloc_new w _)]
  simpa using hf
theorem lit_str (zs : List Int) (hb : ∀ z ∈ zs, 0 ≤ z ∧ z < 256) (cs : Array Value) (hc : cs.toList = zs.map (Value.int .u8)) (n : Nat) (hn : zs.length = n) (h0 : 0 < n) (hl : n ≤ 1000000) (W : World) :
    (convert 43 9 (.slice (some ⟨W.heap.size, 0, none⟩) n n)).run Tryd.prog (W.alloc (.cells cs 5)) = .ok (.string (strOfNums zs)) (W.alloc (.cells cs 5)) := by
  refine str_of ⟨hb, by omega, .inr ⟨W.heap.size, 0, rfl, fun i hi => ?_⟩⟩ n n hn
  rw [Lib.cell_of_heap (heap_alloc_new W _), Nat.zero_add]
  have : cs.toList[i]? = some (.int .u8 (zs.getD i 0)) := by rw [hc, getD_lt hi]; simp [hi]
  simpa using this
theorem known_1 : lexP [108, 101, 116, 32, 120, 32, 61, 32, 34, 97, 92, 110, 34, 32, 40, 42, 32, 40, 42, 32, 42, 41, 32, 42, 41, 32, 105, 110, 32, 120] = .ok [⟨6, 0, 0, [108, 101, 116]⟩, ⟨3, 0, 4, [120]⟩, ⟨7, 0, 6, [61]⟩, ⟨2, 0, 8, [97, 10]⟩, ⟨6, 0, 26, [105, 110]⟩, ⟨3, 0, 29, [120]⟩] := by decide +kernel
theorem known_2 : lexP [50, 49, 52, 55, 52, 56, 51, 54, 52, 55] = .ok [⟨1, -1, 0, []⟩] := by decide +kernel
theorem known_f0 : lexP [50, 49, 52, 55, 52, 56, 51, 54, 52, 56] = .bad 254 0 := by decide +kernel
theorem known_f1 : lexP [34, 97] = .bad 252 0 := by decide +kernel
theorem known_f2 : lexP [40, 42, 32, 97] = .bad 253 0 := by decide +kernel
theorem known_f3 : lexP [34, 92, 57, 34] = .bad 252 0 := by decide +kernel
theorem known_r1 : (scan [97, 195, 169, 255]).2 = 3 := by decide +kernel
theorem known_r2 : (scan [237, 160, 128]).2 = 0 := by decide +kernel
theorem known_w : writeP [⟨2, 0, 0, [195, 169]⟩, ⟨1, -1, 0, []⟩] = some [34, 92, 49, 57, 53, 92, 49, 54, 57, 34, 32, 50, 49, 52, 55, 52, 56, 51, 54, 52, 55] := by decide +kernel
set_option maxRecDepth 10000 in
set_option maxHeartbeats 4000000 in
theorem known_any (w : World) (h8 : Tabs8 w) (hT : Words w) (hP : Pow w) :
    Calls Tryd.prog 7 #[] w fun e w' => e = .returned (.bool true) ∧ Below w.heap.size w w' := by
  have s1 : strOfNums [108, 101, 116, 32, 120, 32, 61, 32, 34, 97, 92, 110, 34, 32, 40, 42, 32, 40, 42, 32, 42, 41, 32, 42, 41, 32, 105, 110, 32, 120] = ⟨#[108, 101, 116, 32, 120, 32, 61, 32, 34, 97, 92, 110, 34, 32, 40, 42, 32, 40, 42, 32, 42, 41, 32, 42, 41, 32, 105, 110, 32, 120]⟩ := rfl
  have s2 : strOfNums [50, 49, 52, 55, 52, 56, 51, 54, 52, 55] = ⟨#[50, 49, 52, 55, 52, 56, 51, 54, 52, 55]⟩ := rfl
  have z0 : strOfNums [50, 49, 52, 55, 52, 56, 51, 54, 52, 56] = ⟨#[50, 49, 52, 55, 52, 56, 51, 54, 52, 56]⟩ := rfl
  have z1 : strOfNums [34, 97] = ⟨#[34, 97]⟩ := rfl
  have z2 : strOfNums [40, 42, 32, 97] = ⟨#[40, 42, 32, 97]⟩ := rfl
  have z3 : strOfNums [34, 92, 57, 34] = ⟨#[34, 92, 57, 34]⟩ := rfl
  have H1 := hid (fun n c hn W a h1 h2 h3 => has_yes _ (by decide) _ known_1 (by decide) a n c hn W h1 h2 h3)
  have H2 := hid (fun n c hn W a h1 h2 h3 => has_yes _ (by decide) _ known_2 (by decide) a n c hn W h1 h2 h3)
  have F0 := hid (fun W h1 h2 => faulty_yes _ (by decide) _ _ known_f0 W h1 h2)
  rw [z0] at F0
  have F1 := hid (fun W h1 h2 => faulty_yes _ (by decide) _ _ known_f1 W h1 h2)
  rw [z1] at F1
  have F2 := hid (fun W h1 h2 => faulty_yes _ (by decide) _ _ known_f2 W h1 h2)
  rw [z2] at F2
  have F3 := hid (fun W h1 h2 => faulty_yes _ (by decide) _ _ known_f3 W h1 h2)
  rw [z3] at F3
  rw [s1] at H1
  rw [s2] at H2
  have R1 := hid (fun W h => Right_any [97, 195, 169, 255] (by decide) W h)
  have R2 := hid (fun W h => Right_any [237, 160, 128] (by decide) W h)
  rw [known_r1] at R1
  rw [known_r2] at R2
  have cv1 := lit_str [97, 195, 169, 255] (by decide) #[.int .u8 97, .int .u8 195, .int .u8 169, .int .u8 255] rfl 4 rfl (by decide) (by decide)
  have cv2 := lit_str [237, 160, 128] (by decide) #[.int .u8 237, .int .u8 160, .int .u8 128] rfl 3 rfl (by decide) (by decide)
  have cv3 := lit_str [195, 169] (by decide) #[.int .u8 195, .int .u8 169] rfl 2 rfl (by decide) (by decide)
  have WR := hid (fun a c W h1 h2 h3 => Write_any [⟨2, 0, 0, [195, 169]⟩, ⟨1, -1, 0, []⟩] a 2 c rfl ⟨by simp only [Bytes8]; decide, by decide, by decide⟩ W h1 h2 h3)
  have hwv : writeV [⟨2, 0, 0, [195, 169]⟩, ⟨1, -1, 0, []⟩] = (strOfNums [34, 92, 49, 57, 53, 92, 49, 54, 57, 34, 32, 50, 49, 52, 55, 52, 56, 51, 54, 52, 55], 0) := by unfold writeV; rw [known_w]
  rw [hwv] at WR
  have hres : ((strOfNums [34, 92, 49, 57, 53, 92, 49, 54, 57, 34, 32, 50, 49, 52, 55, 52, 56, 51, 54, 52, 55]).toList == [34, 92, 49, 57, 53, 92, 49, 54, 57, 34, 32, 50, 49, 52, 55, 52, 56, 51, 54, 52, 55]) = true := by rw [Go.ByteArray.toList_eq]; rfl
  have HR3 := hid (fun W => rowsN W [⟨2, 0, 0, [195, 169]⟩, ⟨1, -1, 0, []⟩] #[.int .i64 2, .int .i64 0, .int .i64 0, .string (strOfNums [195, 169]), .int .i64 1, .int .i64 (-1), .int .i64 0, .string ⟨#[]⟩] rfl)
  have HR1 := hid (fun W => rowsN W [⟨6, 0, 0, [108, 101, 116]⟩, ⟨3, 0, 4, [120]⟩, ⟨7, 0, 6, [61]⟩, ⟨2, 0, 8, [97, 10]⟩, ⟨6, 0, 26, [105, 110]⟩, ⟨3, 0, 29, [120]⟩] #[.int .i64 6, .int .i64 0, .int .i64 0, .string ⟨#[108, 101, 116]⟩, .int .i64 3, .int .i64 0, .int .i64 4, .string ⟨#[120]⟩, .int .i64 7, .int .i64 0, .int .i64 6, .string ⟨#[61]⟩, .int .i64 2, .int .i64 0, .int .i64 8, .string ⟨#[97, 10]⟩, .int .i64 6, .int .i64 0, .int .i64 26, .string ⟨#[105, 110]⟩, .int .i64 3, .int .i64 0, .int .i64 29, .string ⟨#[120]⟩] rfl)
  have HR2 := hid (fun W => rowsN W [⟨1, -1, 0, []⟩] #[.int .i64 1, .int .i64 (-1), .int .i64 0, .string ⟨#[]⟩] rfl)
  have AW := hid (fun W h1 h2 => awake_any W h1 h2)
  have H8 := hid h8
  have HT := hid hT
  have HP := hid hP
  generalize strOfNums [34, 92, 49, 57, 53, 92, 49, 54, 57, 34, 32, 50, 49, 52, 55, 52, 56, 51, 54, 52, 55] = res at *
  generalize strOfNums [97, 195, 169, 255] = b1 at *
  generalize strOfNums [237, 160, 128] = b2 at *
  generalize strOfNums [195, 169] = b3 at *
  clear h8 hT hP s1 s2 z0 z1 z2 z3 hwv
  have B0 := hid (thenA (Below.refl _ w) (.cells #[.int .i64 6, .int .i64 0, .int .i64 0, .string ⟨#[108, 101, 116]⟩, .int .i64 3, .int .i64 0, .int .i64 4, .string ⟨#[120]⟩, .int .i64 7, .int .i64 0, .int .i64 6, .string ⟨#[61]⟩, .int .i64 2, .int .i64 0, .int .i64 8, .string ⟨#[97, 10]⟩, .int .i64 6, .int .i64 0, .int .i64 26, .string ⟨#[105, 110]⟩, .int .i64 3, .int .i64 0, .int .i64 29, .string ⟨#[120]⟩] 31))
  go_enter Tryd.func7, Tryd.ntmps7
  go_wp2_with fail
  refine (H1.out 6 6 rfl _ _ (HR1.out w) (H8.out.below B0.out) (HT.out.below B0.out)).mono ?_
  rintro e w1 ⟨rfl, hb⟩
  have B1 := hid (B0.out.trans (hb.mono B0.out.size))
  clear hb B0
  have B1a := hid (thenA B1.out (.cells #[.int .i64 1, .int .i64 (-1), .int .i64 0, .string ⟨#[]⟩] 31))
  go_wp2_with fail
  refine (H2.out 1 1 rfl _ _ (HR2.out w1) (H8.out.below B1a.out) (HT.out.below B1a.out)).mono ?_
  rintro e w2 ⟨rfl, hb⟩
  have B2 := hid (B1a.out.trans (hb.mono B1a.out.size))
  clear hb B1 B1a
  go_wp2_with fail
  refine (F0.out _ (H8.out.below B2.out) (HT.out.below B2.out)).mono ?_
  rintro e w3 ⟨rfl, hb⟩
  have B3 := hid (B2.out.trans (hb.mono B2.out.size))
  clear hb B2
  go_wp2_with fail
  refine (F1.out _ (H8.out.below B3.out) (HT.out.below B3.out)).mono ?_
  rintro e w4 ⟨rfl, hb⟩
  have B4 := hid (B3.out.trans (hb.mono B3.out.size))
  clear hb B3
  go_wp2_with fail
  refine (F2.out _ (H8.out.below B4.out) (HT.out.below B4.out)).mono ?_
  rintro e w5 ⟨rfl, hb⟩
  have B5 := hid (B4.out.trans (hb.mono B4.out.size))
  clear hb B4
  go_wp2_with fail
  refine (F3.out _ (H8.out.below B5.out) (HT.out.below B5.out)).mono ?_
  rintro e w6 ⟨rfl, hb⟩
  have B6 := hid (B5.out.trans (hb.mono B5.out.size))
  clear hb B5
  have B6a := hid (thenA B6.out (.cells #[.int .u8 97, .int .u8 195, .int .u8 169, .int .u8 255] 5))
  go_wp2_with fail
  refine (R1.out _ (H8.out.below B6a.out)).mono ?_
  rintro e w7 ⟨rfl, hb⟩
  have B7 := hid (B6a.out.trans (hb.mono B6a.out.size))
  clear hb B6 B6a
  have B7a := hid (thenA B7.out (.cells #[.int .u8 237, .int .u8 160, .int .u8 128] 5))
  go_wp2_with fail
  refine (R2.out _ (H8.out.below B7a.out)).mono ?_
  rintro e w8 ⟨rfl, hb⟩
  have B8 := hid (B7a.out.trans (hb.mono B7a.out.size))
  clear hb B7 B7a
  have B8a := hid (thenA (thenA B8.out (.cells #[.int .u8 195, .int .u8 169] 5)) (.cells #[.int .i64 2, .int .i64 0, .int .i64 0, .string b3, .int .i64 1, .int .i64 (-1), .int .i64 0, .string ⟨#[]⟩] 31))
  go_wp2_with fail
  have hr3 := HR3.out (w8.alloc (.cells #[.int .u8 195, .int .u8 169] 5))
  rw [World.size_alloc] at hr3
  have hgo := WR.out _ 2 _ hr3 (HT.out.below B8a.out) (HP.out.below B8a.out)
  clear hr3
  refine hgo.mono ?_
  clear hgo
  rintro e w9 ⟨rfl, hb⟩
  have B9 := hid (B8a.out.trans (hb.mono B8a.out.size))
  clear hb B8 B8a
  go_wp2_with fail
  refine (AW.out _ (H8.out.below B9.out) (HT.out.below B9.out)).mono ?_
  rintro e w10 ⟨rfl, hb⟩
  have B10 := hid (B9.out.trans (hb.mono B9.out.size))
  clear hb B9
  go_wp2
  go_ret
  exact ⟨ret_bool (by simp [hres]), B10.out⟩
end Go.Proofs.YtllodmoookcimaaDoor.Lex
namespace Go.Proofs.YtllodmoookcimaaDoor
theorem lexKnown_walk (w : World) (hT : Lex.Tabs8 w ∧ Lex.Words w ∧ Lex.Pow w) :
    Calls Tryd.prog 7 #[] w fun e w' => e = .returned (.bool true) ∧ RowKit.Below w.heap.size w w' := Lex.known_any w hT.1 hT.2.1 hT.2.2
end Go.Proofs.YtllodmoookcimaaDoor
