/-
  LEX: cutText by contract.
-/
import Derived.Test.YtojgibigmoaejaaDoorLexText
namespace Go.Proofs.YtojgibigmoaejaaDoor.Lex
open Go.RowKit Go.Proofs.YtojgibigmoaejaaDoor.Utf
set_option linter.unusedSimpArgs false
set_option linter.unusedVariables false

theorem WBox.under {w w' : World} {b B : Nat} (h : WBox w b) (hb : Below B w w') (hB : b < B) : WBox w' b := ⟨(hb.block b hB).trans h.row⟩
theorem iter_under {w w' : World} {k B : Nat} {s : ByteArray} {p : Nat} (h : w.heap[k]? = some (.stringIter s p)) (hb : Below B w w') (hB : k < B) : w'.heap[k]? = some (.stringIter s p) := (hb.block k hB).trans h
theorem iter_pos {w : World} {k : Nat} {s : ByteArray} {p : Nat} (h : w.heap[k]? = some (.stringIter s p)) : w.iterPos k = p := by unfold World.iterPos; rw [h]

def cutT (r : Option (List Int × Nat)) : Cut := match r with | none => .bad 252 | some (s, k) => if s.length > 4096 then .bad 255 else ⟨2, 0, s, k, 0⟩
theorem cutText_of {zs : List Int} (h0 : zs ≠ []) : cutText zs = cutT (textGo 1 zs) := by
  unfold cutText
  rw [text_skip 0 h0]
  cases textGo 0 (zs.drop 1) with
  | none => rfl
  | some r =>
    obtain ⟨s, k⟩ := r
    simp only [Option.map_some, cutT]
    split
    · rfl
    · simp; omega

theorem atL_byte {l : List Int} (hb : ∀ z ∈ l, 0 ≤ z ∧ z < 256) {n : Int} {k : Nat} (h : atL l = some (n, k)) (h0 : l ≠ []) : (l.getD 0 0 < 128 → n = l.getD 0 0 ∧ k = 1) ∧ (n < 128 → n = l.getD 0 0 ∧ k = 1) := by
  obtain ⟨hr, ht, hk, hk1, _, hkl⟩ := atL_some h
  cases l with
  | nil => simp at h0
  | cons c t =>
    refine ⟨fun hc => ?_, fun hn => ?_⟩
    · rw [atL_low t (hb c (by simp)).1 (by simpa using hc)] at h
      simp only [Option.some.injEq, Prod.mk.injEq] at h
      exact ⟨by rw [← h.1]; rfl, h.2.symm⟩
    · have e : oneL n = [n] := by simp [oneL, hn]
      rw [e] at hk ht
      simp at hk
      subst hk
      simp only [List.take_succ_cons, List.take_zero, List.cons.injEq, and_true] at ht
      exact ⟨by rw [← ht]; rfl, rfl⟩
theorem drop_getD (zs : List Int) (i : Nat) : (zs.drop i).getD 0 0 = zs.getD i 0 := by rw [← getD_drop0]; rfl
theorem acc_small {a p z : Nat} (h1 : a ≤ p) (h2 : p ≤ z) (h3 : z ≤ 65536) : a ≤ 100000 := by omega
theorem w64_2 {p z j : Nat} (h2 : p ≤ z) (h3 : z ≤ 65536) (hj : j ≤ 3) : wrap64 ((p : Int) + 1 + j) = p + 1 + j := wrap64_small (by omega) (by omega)
theorem int_ne0 {j : Nat} (h : 1 ≤ j) : ¬ ((j : Int) = 0) := by omega
theorem kl_add {zs : List Int} {k pos : Nat} (h : k ≤ (zs.drop pos).length) (hp : pos < zs.length) : pos + k ≤ zs.length := by rw [List.length_drop] at h; omega
theorem jl_add {zs : List Int} {j pos : Nat} (h : j ≤ (zs.drop (pos + 1)).length) (hp : pos < zs.length) : pos + 1 + j ≤ zs.length := by rw [List.length_drop] at h; omega
theorem acc_big {a p z : Nat} (h1 : a ≤ p) (h2 : p ≤ z) (h3 : z ≤ 65536) : a ≤ 140737488351232 := by omega
/-- What holds in each round. -/
structure TRel (zs : List Int) (s : ByteArray) (g : Option (List Int × Nat)) (w wr : World) (pos sk : Nat) (nx : Int) (v : Value) (acc : List Int) : Prop where
  it : wr.heap[w.heap.size + 1]? = some (.stringIter s pos)
  hb : Below w.heap.size w wr
  box : WBox wr w.heap.size
  own : Own (w.heap.size + 2) wr v acc
  size : w.heap.size + 2 ≤ wr.heap.size
  hpos : pos ≤ zs.length
  val : Valid (zs.drop pos)
  skip : sk = 0 ∧ nx ≤ pos ∨ 0 < sk ∧ nx = pos + sk ∧ pos + sk ≤ zs.length ∧ ∀ j, j < sk → zs.getD (pos + j) 0 < 128
  len : acc.length ≤ pos
  bts : ∀ z ∈ acc, 0 ≤ z ∧ z < 256
  told : g = Adv acc pos (textGo sk (zs.drop pos))

set_option maxHeartbeats 4000000 in
theorem cutText_any (zs : List Int) (hb : ∀ z ∈ zs, 0 ≤ z ∧ z < 256) (hl : zs.length ≤ 65536) (h0 : zs ≠ []) (hq : zs.getD 0 0 = 34) (hv : Valid zs) (w : World) :
    Calls Tryd.prog 29 #[.string (strOfNums zs)] w fun e w' => e = .returned (cutText zs).v ∧ Below w.heap.size w w' := by
  have hs : (strOfNums zs).size = zs.length := strOfNums_size _
  have HX := hid (fun pos n k (h : atL (zs.drop pos) = some (n, k)) => decode_some hb h)
  have HD := hid (fun pos (h : pos < zs.length) => drop_at h)
  have HBY := hid hb
  have E := hid (fun pos W => show Calls Tryd.prog 49 #[.string ((strOfNums zs).extract (pos + 1) zs.length)] W fun e w' => e = .returned (.tuple #[.int .u8 (escV (zs.drop (pos + 1))).1, .int .i64 (escV (zs.drop (pos + 1))).2]) ∧ Below W.heap.size W w' by
    rw [str_tail]; exact escaped_any _ (fun z hz => hb z (List.mem_of_mem_drop hz)) (by rw [List.length_drop]; omega) W)
  have hpos0 : 0 < zs.length := List.length_pos_iff.2 h0
  have HO := hid (cutText_of h0)
  generalize strOfNums zs = s at *
  generalize cutText zs = o at *
  clear hb
  obtain ⟨g, hg0⟩ : ∃ g, textGo 1 zs = g := ⟨_, rfl⟩
  rw [hg0] at HO
  have HG := hid hg0
  clear hg0
  go_enter Tryd.func29, Tryd.ntmps29
  go_wp2
  go_loopw [5, 6] (fun sv nv wr => ∃ pos sk nx acc, nv = .int .i64 nx ∧ TRel zs s g w wr pos sk nx sv acc)
    (fun _ _ wr => zs.length - wr.iterPos (w.heap.size + 1))
  case atStart =>
    refine ⟨0, 1, 1, [], rfl, ⟨?_, ?_, ?_, Own.none _ _, ?_, Nat.zero_le _, hv, .inr ⟨by omega, by omega, by omega, fun j hj => ?_⟩, by simp, by simp, ?_⟩⟩
    · have := World.iter_heap (w.alloc (.cells zeroW 31)) s 0
      simpa using this
    · exact thenA (thenA (Below.refl _ w) (.cells zeroW 31)) _
    · exact (WBox.made w).below ((Below.refl _ _).alloc (Nat.le_refl _) _)
    · simp [World.iter]
    · obtain rfl : j = 0 := by omega
      show zs.getD 0 0 < 128
      omega
    · rw [← HG.out, List.drop_zero]
      cases textGo 1 zs with
      | none => rfl
      | some r => simp [Adv]
  case round =>
    obtain ⟨pos, sk, nx, acc, rfl, HR⟩ := hrel
    obtain ⟨hit, hbw, hbox, hown, hsz, hpos, hval, hsk, hacc, hbts, htold⟩ := HR
    have HT := hid htold
    clear htold
    by_cases hp : pos < s.size
    · have hpx : pos < zs.length := by omega
      have hne : zs.drop pos ≠ [] := by rw [HD.out pos hpx]; simp
      obtain ⟨n, k, ha, hvk⟩ := hval.head hne
      obtain ⟨hrn, _, hk', hk1, hk4, hkl⟩ := atL_some ha
      have HKL := hid (kl_add hkl hpx)
      clear hkl
      rw [List.drop_drop] at hvk
      have hd := HX.out pos n k ha
      obtain ⟨hA1, hA2⟩ := atL_byte (fun z hz => HBY.out z (List.mem_of_mem_drop hz)) ha hne
      rw [drop_getD] at hA1 hA2
      have hn0 := hrn.1
      have hn1 := hrn.2.1
      have hnx : ∀ ty, (Instr.next (.pointer (some ⟨w.heap.size + 1, 0, none⟩)) true ty).run Tryd.prog wr = .ok (.tuple #[.bool true, .int .i64 pos, .int .i32 n]) (wr.iterAt (w.heap.size + 1) s (pos + k)) := fun ty => by
        rw [Lib.run_next_any_at wr (w.heap.size + 1) s pos ty hit hp, hd]
        simp only [Int.toNat_of_nonneg hn0]
      have hb1 := Lib.below_iterAt hbw (show w.heap.size ≤ w.heap.size + 1 by omega) s (pos + k)
      have hit1 := Lib.iterAt_heap wr (w.heap.size + 1) s pos (pos + k) hit
      have hp0 := iter_pos hit
      have hbox1 := hbox.iter (show w.heap.size ≠ w.heap.size + 1 by omega) s (pos + k)
      have hown1 := Own.iter hown (show w.heap.size + 1 < w.heap.size + 2 by omega) s (pos + k)
      have HSZ : Hid (w.heap.size + 2 ≤ (wr.iterAt (w.heap.size + 1) s (pos + k)).heap.size) := by show _ ≤ _; rw [Lib.iterAt_size]; exact hsz
      clear hd hown hbox
      rcases hsk with ⟨rfl, hnx0⟩ | ⟨hsk0, rfl, hskl, hlow⟩
      · have hlt : ¬ (pos : Int) < nx := by omega
        have e1 : wrap64 ((pos : Int) + 1) = pos + 1 := wrap64_small (by omega) (by omega)
        by_cases h34 : n = 34
        · subst h34
          obtain ⟨hc, rfl⟩ := hA2 (by omega)
          have HF0 : Hid (g = some (acc, pos + 1)) := by
            have h := HT.out
            rw [HD.out pos hpx, ← hc] at h
            simp only [textGo, if_true] at h
            rw [h]
            simp [Adv]
            show _ = _
            rw [Nat.add_comm]
          have HO1 := hid (HO.out.trans (by rw [HF0.out]))
          clear hc hk' HF0 HT HX HD HG E hA1 hA2 ha hne hvk hval hrn
          generalize wr.iterAt (w.heap.size + 1) s (pos + 1) = w1 at *
          have hsz1 := HSZ.out
          obtain ⟨a, c, rfl⟩ := hown1.slice
          obtain ⟨⟨k0, k1, k2, k3⟩, ⟨g0, g1, g2, g3⟩, _⟩ := hbox1.cells
          have HB := hid hb1
          by_cases hbig : acc.length > 4096
          · have HF := hid (HO1.out.trans (if_pos hbig))
            have hbi : (acc.length : Int) > 4096 := by omega
            go_wp2
            refine bodyPost_ret (v := (Cut.bad 255).v) (by simp [results, Tryd.results29, go_sem, k0, k1, k2, k3, Cut.v, Cut.bad, strOfNums]) rfl ⟨ret_cut HF.out.symm, set4 HB.out _ _ _ _⟩
          · have HF := hid (HO1.out.trans (if_neg hbig))
            have hbi : ¬ (acc.length : Int) > 4096 := by omega
            have hcv := str_of (Own.bytes hown1 hbts (by omega)) acc.length c rfl
            obtain ⟨st, hst⟩ : ∃ st, strOfNums acc = st := ⟨_, rfl⟩
            rw [hst] at hcv
            have HST := hid hst
            clear hst
            go_wp2
            refine bodyPost_ret (v := Cut.v ⟨2, 0, acc, pos + 1, 0⟩) (by simp [results, Tryd.results29, go_sem, k0, k1, k2, k3, Cut.v, HST.out]) rfl ⟨ret_cut HF.out.symm, set4 HB.out _ _ _ _⟩
        · by_cases h92 : n = 92
          · subst h92
            obtain ⟨hc, rfl⟩ := hA2 (by omega)
            have E1 := hid (fun W => E.out pos W)
            have hstep := HT.out
            rw [HD.out pos hpx, ← hc] at hstep
            simp only [textGo, if_neg (show ¬ ((92 : Int) = 34) by omega), if_true] at hstep
            clear hc hk' hrn ha hA1 hA2
            have hle1 : (pos : Int) + 1 ≤ (zs.length : Int) := by omega
            have HP := hid (fun b j (h : escL (zs.drop (pos + 1)) = some (b, j)) => escL_parts h)
            have HQ := hid (fun b j (h : escL (zs.drop (pos + 1)) = some (b, j)) => escL_byte h)
            have HV := hid (show escV (zs.drop (pos + 1)) = (escL (zs.drop (pos + 1))).getD (0, 0) from rfl)
            have HVB : Hid (∀ j, (∀ i, i < j → pos + 1 + i < zs.length ∧ zs.getD (pos + 1 + i) 0 < 128) → True) := hid fun _ _ => trivial
            cases he : escL (zs.drop (pos + 1)) with
            | none =>
              rw [he] at hstep HV
              rw [HV.out] at E1
              have HF : Hid (o = .bad 252) := by
                have h2 : g = none := hstep
                show _ = _
                rw [HO.out, h2]; rfl
              clear HT HX HD HG E hne hvk hval hstep HP HQ HV he HVB
              generalize wr.iterAt (w.heap.size + 1) s (pos + 1) = w1 at *
              have hsz1 := HSZ.out
              obtain ⟨a, c, rfl⟩ := hown1.slice
              simp only [Option.getD_none] at E1
              go_wp2_with fail
              refine (E1.out _).mono ?_
              rintro e w2 ⟨rfl, hb2⟩
              have HB := hid (hb1.trans (hb2.mono hb1.size))
              obtain ⟨⟨k0, k1, k2, k3⟩, ⟨g0, g1, g2, g3⟩, _⟩ := (hbox1.below hb2).cells
              clear hb2 E1 hbox1 hb1
              go_wp2
              refine bodyPost_ret (v := (Cut.bad 252).v) (by simp [results, Tryd.results29, go_sem, k0, k1, k2, k3, Cut.v, Cut.bad, strOfNums]) rfl ⟨ret_cut HF.out.symm, set4 HB.out _ _ _ _⟩
            | some q =>
              obtain ⟨b, j⟩ := q
              obtain ⟨j1, j3, jl, jlow⟩ := HP.out b j he
              obtain ⟨q0, q1⟩ := HQ.out b j he
              have HJL := hid (jl_add jl hpx)
              clear jl
              rw [he] at hstep HV
              rw [HV.out] at E1
              simp only [Option.getD_some] at E1
              rw [adv_cons] at hstep
              have HF := hid hstep
              have HJ : Hid (∀ i, i < j → zs.getD (pos + 1 + i) 0 < 128) := hid fun i hi => by rw [getD_drop0]; exact jlow i hi
              have HJ0 := hid (int_ne0 j1)
              have HE2 := hid (w64_2 hpos hl j3)
              have HQ01 := hid (And.intro q0 q1)
              have HJ1 := hid j1
              clear j1 j3 q0 q1
              have hvk' := hid hvk
              clear HT HX HD HG E hne hvk hval hstep HP HQ HV he HVB jlow
              generalize wr.iterAt (w.heap.size + 1) s (pos + 1) = w1 at *
              have hsz1 := HSZ.out
              obtain ⟨a, c, rfl⟩ := hown1.slice
              go_wp2_with fail
              refine (E1.out _).mono ?_
              rintro e w2 ⟨rfl, hb2⟩
              have HB := hid (hb1.trans (hb2.mono hb1.size))
              have hlt1 : w.heap.size + 1 < w1.heap.size := hsz1
              have hit2 := (hb2.block _ hlt1).trans hit1
              have hbox2 := hbox1.below hb2
              have hown2 := hown1.below hb2
              have hsz2 : w.heap.size + 2 ≤ w2.heap.size := Nat.le_trans hsz1 hb2.size
              clear E1 hbox1 hb1 hown1 hit1 hb2
              have hj0 := HJ0.out
              go_wp2_with (at_builtin; refine append_byte rfl (.tmp 50) (.tmp 52) rfl b rfl hown2 (Below.refl (w.heap.size + 2) w2) hsz2 rfl (acc_big hacc hpos hl) ?_; intro v' w3 hown3 hb3 hs3)
              go_roundw
              case rel =>
                have jl := HJL.out
                have j1 := HJ1.out
                have hnxe : wrap64 ((pos : Int) + 1 + j) = ((pos + 1 : Nat) : Int) + j := HE2.out.trans (by rw [Int.natCast_add]; rfl)
                clear e1
                exact ⟨pos + 1, j, _, acc ++ [b], rfl, ⟨iter_under hit2 hb3 (Nat.lt_succ_self _), HB.out.trans (hb3.mono (Nat.le_add_right _ _)), hbox2.under hb3 (Nat.lt_add_of_pos_right (by decide)), hown3, hs3, hpx, hvk'.out, .inr ⟨j1, hnxe, jl, HJ.out⟩, by rw [List.length_append]; exact Nat.succ_le_succ hacc, fun z hz => (List.mem_append.1 hz).elim (hbts z) (fun h => by simp at h; subst h; exact HQ01.out), HF.out⟩⟩
              case measure => rw [iter_pos (iter_under hit2 hb3 (Nat.lt_succ_self _)), hp0]; exact Nat.sub_lt_sub_left hpx (Nat.lt_succ_self _)
          · have C := hid (fun W => isControl_c n W)
            by_cases hct : n < 32 ∨ n = 127
            · rw [decide_eq_true hct] at C
              obtain ⟨hc, rfl⟩ := hA2 (by omega)
              have HF : Hid (o = .bad 252) := by
                have h := HT.out
                rw [HD.out pos hpx, ← hc] at h
                simp only [textGo, if_neg h34, if_neg h92, if_pos hct] at h
                have h2 : g = none := h
                show _ = _
                rw [HO.out, h2]; rfl
              obtain ⟨⟨k0, k1, k2, k3⟩, ⟨g0, g1, g2, g3⟩, _⟩ := hbox1.cells
              have HB := hid hb1
              clear hc hk' HT HX HD HG E hA1 hA2 ha hne hvk hval hrn hbox1 hb1 hct hn0 hn1
              generalize wr.iterAt (w.heap.size + 1) s (pos + 1) = w1 at *
              have hsz1 := HSZ.out
              go_wp2_with (go_at_call 50; refine (C.out _).mono ?_; rintro e w' ⟨rfl, rfl⟩)
              refine bodyPost_ret (v := (Cut.bad 252).v) (by simp [results, Tryd.results29, go_sem, k0, k1, k2, k3, Cut.v, Cut.bad, strOfNums]) rfl ⟨ret_cut HF.out.symm, set4 HB.out _ _ _ _⟩
            · rw [decide_eq_false hct] at C
              have hstep := HT.out
              rw [text_rune ha h34 h92 hct, adv_map, List.drop_drop] at hstep
              have HF := hid hstep
              have hob := oneL_bytes hrn
              have HOL := hid hk'.symm
              have HK1 := hid hk1
              have HK4 := hid hk4
              have A := hid (fun W v (h : Own (w.heap.size + 2) W v acc) hs => append_rune n hrn h (acc_small hacc hpos hl) hs)
              have hvk' := hid hvk
              clear hk' hk1 hk4 HT HX HD HG E hA1 hA2 ha hne hvk hval hrn hstep hct hn0 hn1
              generalize wr.iterAt (w.heap.size + 1) s (pos + k) = w1 at *
              have hsz1 := HSZ.out
              go_wp2_with (go_at_call 50; refine (C.out _).mono ?_; rintro e w' ⟨rfl, rfl⟩)
              refine (A.out _ _ hown1 hsz1).mono ?_
              rintro e w3 ⟨v', rfl, hown3, hb3, hs3⟩
              go_wp2
              go_roundw
              case rel =>
                have hol := HOL.out
                have hkl := HKL.out
                have hk1 := HK1.out
                exact ⟨pos + k, 0, nx, acc ++ oneL n, rfl, ⟨iter_under hit1 hb3 (Nat.lt_succ_self _), hb1.trans (hb3.mono (Nat.le_add_right _ _)), hbox1.under hb3 (Nat.lt_add_of_pos_right (by decide)), hown3, hs3, hkl, hvk'.out, .inl ⟨rfl, by omega⟩, by rw [List.length_append, hol]; omega, fun z hz => (List.mem_append.1 hz).elim (hbts z) (hob z), HF.out⟩⟩
              case measure => rw [iter_pos (iter_under hit1 hb3 (Nat.lt_succ_self _)), hp0]; have hk1 := HK1.out; omega
      · have hl0 := hlow 0 hsk0
        rw [Nat.add_zero] at hl0
        obtain ⟨hc, rfl⟩ := hA1 hl0
        have hlt : (pos : Int) < (pos : Int) + (sk : Int) := by omega
        obtain ⟨j, rfl⟩ : ∃ j, sk = j + 1 := ⟨sk - 1, by omega⟩
        have hstep := HT.out
        rw [text_skip j hne, adv_skip, List.drop_drop] at hstep
        have HF := hid hstep
        have HJ : Hid (∀ i, i < j → zs.getD (pos + 1 + i) 0 < 128) := hid fun i hi => by
          have := hlow (i + 1) (by omega)
          rw [show pos + 1 + i = pos + (i + 1) by omega]; exact this
        have hvk' := hid hvk
        clear hc hk' HT HX HD HG E hA1 hA2 ha hne hvk hval hrn hstep hlow
        generalize wr.iterAt (w.heap.size + 1) s (pos + 1) = w1 at *
        have hsz1 := HSZ.out
        go_wp2
        go_roundw
        case rel =>
          refine ⟨pos + 1, j, _, acc, rfl, ⟨hit1, hb1, hbox1, hown1, hsz1, by omega, hvk'.out, ?_, by omega, hbts, HF.out⟩⟩
          rcases Nat.eq_zero_or_pos j with rfl | hj
          · exact .inl ⟨rfl, by omega⟩
          · exact .inr ⟨hj, by omega, by omega, HJ.out⟩
        case measure => rw [iter_pos hit1, hp0]; omega
    · have hnx : ∀ ty, (Instr.next (.pointer (some ⟨w.heap.size + 1, 0, none⟩)) true ty).run Tryd.prog wr = _ := fun ty => Lib.run_next_end_at wr (w.heap.size + 1) s pos ty hit hp
      have HF : Hid (o = .bad 252) := by
        have h := HT.out
        rw [List.drop_eq_nil_of_le (by omega)] at h
        have h0 : textGo sk [] = none := by unfold textGo; rfl
        rw [h0] at h
        have h2 : g = none := h
        show _ = _
        rw [HO.out, h2]; rfl
      obtain ⟨⟨k0, k1, k2, k3⟩, ⟨g0, g1, g2, g3⟩, _⟩ := hbox.cells
      have HB := hid hbw
      clear HT HX HD HG E hbox hbw hval
      go_wp2
      refine bodyPost_ret (v := (Cut.bad 252).v) (by simp [results, Tryd.results29, go_sem, k0, k1, k2, k3, Cut.v, Cut.bad, strOfNums]) rfl ⟨ret_cut HF.out.symm, set4 HB.out _ _ _ _⟩
end Go.Proofs.YtojgibigmoaejaaDoor.Lex
