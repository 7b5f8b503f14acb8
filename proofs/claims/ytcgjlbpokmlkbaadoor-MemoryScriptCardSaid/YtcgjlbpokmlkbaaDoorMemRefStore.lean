/-
  MEMORY: the document's Store, Read, New by contracts.
-/
import Derived.Test.YtcgjlbpokmlkbaaDoorMemRefWrite
namespace Go.Proofs.YtcgjlbpokmlkbaaDoor.Mem
open Go.RowKit Go.Proofs.YtcgjlbpokmlkbaaDoor.Instr Go.Proofs.YtcgjlbpokmlkbaaDoor.Num Go.Proofs.YtcgjlbpokmlkbaaDoor.Kind
open Go.Proofs.YtcgjlbpokmlkbaaDoor.Stk (OwnR)
set_option linter.unusedVariables false

theorem stores_op {op : Int} : isStore op = true ↔ storedP op = true ∧ 54 ≤ op := by simp [isStore]
/-- The word behind i bytes of it. -/
def wordAt (v : Int) (i : Nat) : Int := if i = 0 then v else if i = 1 then v / 256 else if i = 2 then v / 65536 else if i = 3 then v / 16777216 else v / 4294967296
theorem wordAt_step (v : Int) (i : Nat) (hi : i < 4) (hv : 0 ≤ v ∧ v < 4294967296) : wordAt v i % 256 = (bytesN v).getD i 0 ∧ wordAt v i / 256 = wordAt v (i + 1) ∧ 0 ≤ wordAt v i ∧ wordAt v i < 4294967296 := by
  have h : i = 0 ∨ i = 1 ∨ i = 2 ∨ i = 3 := by omega
  rcases h with rfl | rfl | rfl | rfl <;> simp [wordAt, bytesN] <;> omega
theorem takes_bytes (v : Int) (i n : Nat) (hi : i < n) (hn : n ≤ 4) : ((bytesN v).take n).getD i 0 = (bytesN v).getD i 0 := by
  rw [List.getD_eq_getElem?_getD, List.getD_eq_getElem?_getD, List.getElem?_take_of_lt hi]
set_option maxHeartbeats 2000000 in
theorem Store_ref {B : Nat} {W : World} {q K : Nat} {m : Mm} (hI : RefIs B W q K m) (hok : m.ok) (hB : B ≤ W.heap.size) (hK : K + 4 ≤ 1000000) (op x y v : Int) (s : Nat) (hx : 0 ≤ x ∧ x ≤ 4294967295) (hy : 0 ≤ y ∧ y ≤ 4294967295) (hv : 0 ≤ v ∧ v < 4294967296) (hs : (s : Int) = x + y) :
    Calls Tryd.prog 26 #[.pointer (some ⟨q, 0, none⟩), .int .i64 op, .int .u32 x, .int .u32 y, .int .u32 v] W fun e w' => e = .returned (.int .i64 (m.store op s v).2) ∧ WroteR B W q (K + 4) (m.store op s v).1 w' := by
  have hnp : m.n ≤ 65536 := Nat.le_trans hok.n hok.most
  have CB := hid (fun w => bytes_any op w)
  have HI := hid hI
  have HS := hid hs
  have HB := hid hB
  have HK := hid hK
  have HV := hid hv
  have HN0 := hid (WroteR.none (w' := W) hI (Nat.le_add_right K 4) (Below.refl _ _) hB)
  obtain ⟨x0, x1⟩ := hx
  obtain ⟨y0, y1⟩ := hy
  obtain ⟨v0, v1⟩ := hv
  clear hI hs hok hB hK
  unfold Mm.store
  cases hl : isStore op
  · rw [if_neg (by simp)]
    have hc : storedP op = false ∨ (storedP op = true ∧ op < 54) := by
      unfold isStore at hl
      cases hst : storedP op
      · exact .inl rfl
      · rw [hst] at hl; simp at hl; exact .inr ⟨rfl, by omega⟩
    clear hl
    rcases hc with hc | ⟨hc, hge⟩
    · rw [hc] at CB
      simp only [Bool.false_eq_true, if_false] at CB
      clear hc
      go_enter Tryd.func26, Tryd.ntmps26
      go_wp2_with fail
      refine (CB.out _).mono ?_
      rintro e w1 ⟨rfl, rfl⟩
      go_wp2
      go_ret
      exact ⟨rfl, HN0.out⟩
    · rw [hc] at CB
      simp only [if_true] at CB
      have hw : (wd op : Int) = 4 ∨ (wd op : Int) = 2 ∨ (wd op : Int) = 1 := by have := wd_cases op; omega
      have hw0 : ((wd op : Int) == 0) = false := by rcases hw with h | h | h <;> rw [h] <;> rfl
      generalize (wd op : Int) = n at *
      clear hc hw
      go_enter Tryd.func26, Tryd.ntmps26
      go_wp2_with fail
      refine (CB.out _).mono ?_
      rintro e w1 ⟨rfl, rfl⟩
      go_wp2
      go_ret
      exact ⟨rfl, HN0.out⟩
  · obtain ⟨hst, hlt⟩ := stores_op.1 hl
    rw [hst] at CB
    simp only [if_true] at CB
    rw [if_pos rfl]
    have hwc := wd_cases op
    clear hl hst
    generalize wd op = n at *
    have CT := HI.out.there (x + y) n ⟨by omega, by omega⟩ ⟨by omega, by omega⟩ hnp
    rw [has_int m s n (x + y) HS.out]
    have hw0 : ((n : Int) == 0) = false := by rcases hwc with rfl | rfl | rfl <;> rfl
    have hn4 : (n : Int) ≤ 4 ∧ 1 ≤ (n : Int) := by omega
    obtain ⟨hn4, hn1⟩ := hn4
    have hge : ¬ op < 54 := by omega
    by_cases hin : x + y + (n : Int) ≤ (m.n : Int) * 65536
    · rw [decide_eq_true hin] at CT ⊢
      have CT := hid CT
      rw [if_pos rfl]
      have hsb : x + y + (n : Int) ≤ 4294967296 := by omega
      have HN4 := hid (show n ≤ 4 from by omega)
      have H0 := hid (show WroteR B W q (K + 0) { m with f := putF m.f s (((bytesN v).take n).take 0) } W from by rw [List.take_zero, putF_nil]; exact WroteR.refl HI.out)
      clear hwc
      go_enter Tryd.func26, Tryd.ntmps26
      go_wp2_with fail
      refine (CB.out _).mono ?_
      rintro e w1 ⟨rfl, rfl⟩
      go_wp2_with fail
      refine CT.out.mono ?_
      rintro e w1 ⟨rfl, rfl⟩
      go_wp2
      go_loopw [4, 13] (fun v1 v2 wr => ∃ (V : Int) (i : Nat), v1 = .int .u32 V ∧ v2 = .int .i64 (i : Int) ∧ i ≤ n ∧ Hid (V = wordAt v i) ∧ Hid (WroteR B W q (K + i) { m with f := putF m.f s (((bytesN v).take n).take i) } wr)) (fun _ v2 _ => n - (intOf v2).toNat)
      case atStart => exact ⟨v, 0, rfl, rfl, Nat.zero_le _, rfl, H0⟩
      case round =>
        obtain ⟨V, i, rfl, rfl, hi, HVI, HW⟩ := hrel
        clear H0
        by_cases hlt2 : i < n
        · have hltI : (i : Int) < (n : Int) := by omega
          have hi4 : i < 4 := by have := HN4.out; omega
          obtain ⟨e1, e2, e3, e4⟩ := wordAt_step v i hi4 HV.out
          rw [← HVI.out] at e1 e2 e3 e4
          have hbl : ((bytesN v).take n).length = n := by simp [bytesN]; have := HN4.out; omega
          have hbv : ((bytesN v).take n).getD i 0 = V % 256 := by rw [takes_bytes v i n hlt2 HN4.out, e1]
          have CS := set_any HW.out.1 (Nat.le_trans HB.out HW.out.2.2.size) (by have := HK.out; have := HN4.out; omega) (s + i) (V % 256) (by have := HS.out; omega) ⟨by omega, by omega⟩
          have hsi : ((s + i : Nat) : Int) = x + y + (i : Int) := by have := HS.out; omega
          rw [hsi] at CS
          have HNX := hid (fun (w2 : World) (h : WroteR B wr q (K + i + 1) { n := m.n, most := m.most, f := putF (putF m.f s (((bytesN v).take n).take i)) (s + i) [V % 256] } w2) => (show WroteR B W q (K + (i + 1)) { m with f := putF m.f s (((bytesN v).take n).take (i + 1)) } w2 from by
            have h2 := HW.out.step h
            rw [← hbv, putF_snoc _ _ _ _ (by rw [hbl]; exact hlt2)] at h2
            exact h2))
          have HVN := hid e2
          have CS := hid CS
          have hiI : (i : Int) ≤ 4 := by omega
          have hrem : V.tmod 256 = V % 256 := Int.tmod_eq_emod_of_nonneg e3
          have hquo : V.tdiv 256 = V / 256 := Int.tdiv_eq_ediv_of_nonneg e3
          clear e1 e2 hsi HW hbl hbv HVI
          go_wp2_with fail
          refine CS.out.mono ?_
          rintro e w2 ⟨rfl, h⟩
          have HN2 := hid (HNX.out w2 h)
          clear h HNX CS
          go_wp2
          go_roundw
          case rel => exact ⟨V / 256, i + 1, by first | rfl | (rw [← hquo]), by go_num, hlt2, HVN, HN2⟩
          case measure => simp [intOf]; omega
        · obtain rfl : n = i := by omega
          have HF : Hid (WroteR B W q (K + 4) { m with f := putF m.f s ((bytesN v).take n) } wr) := by
            have h := HW.out
            rw [List.take_take, Nat.min_self] at h
            exact ⟨h.1.mono (by have := HN4.out; omega), h.2⟩
          clear HW
          go_wp2
          go_ret
          exact ⟨rfl, HF.out⟩
    · rw [decide_eq_false hin] at CT ⊢
      have CT := hid CT
      rw [if_neg (by simp)]
      clear hwc
      go_enter Tryd.func26, Tryd.ntmps26
      go_wp2_with fail
      refine (CB.out _).mono ?_
      rintro e w1 ⟨rfl, rfl⟩
      go_wp2_with fail
      refine CT.out.mono ?_
      rintro e w1 ⟨rfl, rfl⟩
      go_wp2
      go_ret
      exact ⟨rfl, HN0.out⟩
/-- What the document's New gives. -/
def NewRef (W : World) (n t : Nat) (e : Ending) (w' : World) : Prop := ∃ q, e = .returned (.tuple #[.pointer (some ⟨q, 0, none⟩), .int .i64 0]) ∧ RefIs W.heap.size w' q 0 ⟨n, t, fun _ => 0⟩ ∧ Below W.heap.size W w'
theorem NewRef_no (n x : Int) (c : Bool) (e : Int) (W : World) (he : codeLim n x c 65536 = e) (hne : e ≠ 0) :
    Calls Tryd.prog 11 #[.agg #[.int .u32 n, .int .u32 x, .bool c]] W fun en w' => en = .returned (.tuple #[.pointer none, .int .i64 e]) ∧ Below W.heap.size W w' := by
  have C := hid (fun w => refCheckLimits_any n x c 65536 w)
  rw [he] at C
  clear he
  have hb0 := thenA (Below.refl W.heap.size W) (.cells #[.int .u32 n, .int .u32 x, .bool c] 24)
  have hne2 : (e == 0) = false := by simpa using hne
  go_enter Tryd.func11, Tryd.ntmps11
  go_wp2_with fail
  refine (C.out _).mono ?_
  rintro en w1 ⟨rfl, hb1⟩
  have hb2 := thenB hb0 hb1
  clear C hb0 hb1
  go_wp2
  go_ret2
  exact ⟨rfl, hb2⟩
theorem newRef_made {W w1 : World} (hb : Below W.heap.size W w1) (n t : Nat) :
    NewRef W n t (.returned (.tuple #[.pointer (some ⟨w1.heap.size, 0, none⟩), .int .i64 0])) (w1.alloc (.cells #[.int .u32 n, .int .u32 t, .slice none 0 0] 40)) :=
  ⟨w1.heap.size, rfl, ⟨.slice none 0 0, [], ⟨(MapKept.heap_alloc w1 _).1, hb.size, OwnR.start _ _ _ _, Rising.nil, (fun c hc => by cases hc), by simp⟩, rfl, Nat.le_refl _⟩, thenA hb _⟩
set_option maxHeartbeats 1000000 in
theorem NewRef_false (n x : Nat) (W : World) (he : codeLim n x false 65536 = 0) :
    Calls Tryd.prog 11 #[.agg #[.int .u32 n, .int .u32 x, .bool false]] W (NewRef W n 65536) := by
  have C := hid (fun w => refCheckLimits_any n x false 65536 w)
  rw [he] at C
  clear he
  go_enter Tryd.func11, Tryd.ntmps11
  go_wp2_with fail
  refine (C.out _).mono ?_
  rintro en w1 ⟨rfl, hb1⟩
  have hb2 := hid (thenB (thenA (Below.refl W.heap.size W) _) hb1)
  have k0 := keep hb1 (show (W.alloc (.cells #[.int .u32 n, .int .u32 x, .bool false] 24)).cell? ⟨W.heap.size, 0, none⟩ = some (.int .u32 n) from by go_simp)
  have k1 := keep hb1 (show (W.alloc (.cells #[.int .u32 n, .int .u32 x, .bool false] 24)).cell? ⟨W.heap.size, 1, none⟩ = some (.int .u32 x) from by go_simp)
  have k2 := keep hb1 (show (W.alloc (.cells #[.int .u32 n, .int .u32 x, .bool false] 24)).cell? ⟨W.heap.size, 2, none⟩ = some (.bool false) from by go_simp)
  have hlt : W.heap.size < w1.heap.size := by have := hb1.size; simp at this; omega
  clear C hb1
  go_wp2
  go_ret2
  exact newRef_made hb2.out n 65536
set_option maxHeartbeats 1000000 in
theorem NewRef_true (n x : Nat) (W : World) (he : codeLim n x true 65536 = 0) :
    Calls Tryd.prog 11 #[.agg #[.int .u32 n, .int .u32 x, .bool true]] W (NewRef W n x) := by
  have C := hid (fun w => refCheckLimits_any n x true 65536 w)
  rw [he] at C
  clear he
  go_enter Tryd.func11, Tryd.ntmps11
  go_wp2_with fail
  refine (C.out _).mono ?_
  rintro en w1 ⟨rfl, hb1⟩
  have hb2 := hid (thenB (thenA (Below.refl W.heap.size W) _) hb1)
  have k0 := keep hb1 (show (W.alloc (.cells #[.int .u32 n, .int .u32 x, .bool true] 24)).cell? ⟨W.heap.size, 0, none⟩ = some (.int .u32 n) from by go_simp)
  have k1 := keep hb1 (show (W.alloc (.cells #[.int .u32 n, .int .u32 x, .bool true] 24)).cell? ⟨W.heap.size, 1, none⟩ = some (.int .u32 x) from by go_simp)
  have k2 := keep hb1 (show (W.alloc (.cells #[.int .u32 n, .int .u32 x, .bool true] 24)).cell? ⟨W.heap.size, 2, none⟩ = some (.bool true) from by go_simp)
  have hlt : W.heap.size < w1.heap.size := by have := hb1.size; simp at this; omega
  clear C hb1
  go_wp2
  go_ret2
  exact newRef_made hb2.out n x
end Go.Proofs.YtcgjlbpokmlkbaaDoor.Mem
