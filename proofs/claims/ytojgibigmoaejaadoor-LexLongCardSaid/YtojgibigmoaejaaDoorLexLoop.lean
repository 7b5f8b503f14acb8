/-
  LEX: cut: a valid text divided into its words, by contract.
-/
import Derived.Test.YtojgibigmoaejaaDoorLexTextW
import Derived.Test.YtojgibigmoaejaaDoorLexLast
import Derived.Test.YtojgibigmoaejaaDoorStkRows
import Derived.WalkMore
import Derived.Deep.Cut
namespace Go.Proofs.YtojgibigmoaejaaDoor.Lex
open Go.RowKit Go.Proofs.YtojgibigmoaejaaDoor.Utf
set_option linter.unusedSimpArgs false
set_option linter.unusedVariables false

def Wd.row (w : Wd) : List Value := [.int .i64 w.k, .int .i64 w.n, .int .i64 w.at_, .string (strOfNums w.s)]
theorem infoW : (Tryd.prog.info? 31).map (fun i => (i.zero, i.size, i.bytes)) = some (some (.agg #[.int .i64 0, .int .i64 0, .int .i64 0, .string ⟨#[]⟩]), 4, 40) := by kernel_rfl
/-- Words that a call made itself. -/
def OwnW (base : Nat) (w : World) (v : Value) (l : List Wd) : Prop := Stk.OwnR 31 4 base w v (l.map Wd.row)

/-- A word stored in its box, and its place. -/
@[reducible] def setW (w : World) (b : Nat) (k n : Int) (s : ByteArray) (p : Int) : World :=
  ((((w.setCell ⟨b, 0, none⟩ (.int .i64 k)).setCell ⟨b, 1, none⟩ (.int .i64 n)).setCell ⟨b, 2, none⟩ (.int .i64 0)).setCell ⟨b, 3, none⟩ (.string s)).setCell ⟨b, 2, none⟩ (.int .i64 p)
theorem setW_own {base b : Nat} {w : World} {v : Value} {l : List Wd} (h : OwnW base w v l) (hb : b < base) (k n : Int) (s : ByteArray) (p : Int) : OwnW base (setW w b k n s p) v l :=
  (((((Stk.OwnR.setCell h (p := ⟨b, 0, none⟩) hb _).setCell (p := ⟨b, 1, none⟩) hb _).setCell (p := ⟨b, 2, none⟩) hb _).setCell (p := ⟨b, 3, none⟩) hb _).setCell (p := ⟨b, 2, none⟩) hb _)
theorem setW_below {B b : Nat} {w w0 : World} (h : Below B w0 w) (hb : B ≤ b) (k n : Int) (s : ByteArray) (p : Int) : Below B w0 (setW w b k n s p) :=
  ((((h.setCell (p := ⟨b, 0, none⟩) hb _).setCell (p := ⟨b, 1, none⟩) hb _).setCell (p := ⟨b, 2, none⟩) hb _).setCell (p := ⟨b, 3, none⟩) hb _).setCell (p := ⟨b, 2, none⟩) hb _
theorem setW_size (w : World) (b : Nat) (k n : Int) (s : ByteArray) (p : Int) : (setW w b k n s p).heap.size = w.heap.size := by
  simp only [setW, World.size_setCell]
theorem setW_other (w : World) (b j : Nat) (h : j ≠ b) (k n : Int) (s : ByteArray) (p : Int) : (setW w b k n s p).heap[j]? = w.heap[j]? := by
  simp only [setW]
  rw [Below.heap_setCell _ _ _ _ h, Below.heap_setCell _ _ _ _ h, Below.heap_setCell _ _ _ _ h, Below.heap_setCell _ _ _ _ h, Below.heap_setCell _ _ _ _ h]
theorem setW_row {w : World} {b : Nat} {x y z u : Value} (h : w.heap[b]? = some (.cells #[x, y, z, u] 31 (0, 0))) (k n : Int) (s : ByteArray) (p : Int) :
    (setW w b k n s p).heap[b]? = some (.cells #[.int .i64 k, .int .i64 n, .int .i64 p, .string s] 31 (0, 0)) :=
  heap_setCell_same _ b 2 _ _ _ (heap_setCell_same _ b 3 _ _ _ (heap_setCell_same _ b 2 _ _ _ (heap_setCell_same _ b 1 _ _ _ (heap_setCell_same w b 0 _ _ _ h))))
theorem row4 {w : World} {b : Nat} {x y z u : Value} {T : TypeId} (hr : w.heap[b]? = some (.cells #[x, y, z, u] T (0, 0))) : (w.cell? ⟨b, 0, none⟩ = some x ∧ w.cell? ⟨b, 1, none⟩ = some y ∧ w.cell? ⟨b, 2, none⟩ = some z ∧ w.cell? ⟨b, 3, none⟩ = some u)
    ∧ (w.frozen? ⟨b, 0, none⟩ = false ∧ w.frozen? ⟨b, 1, none⟩ = false ∧ w.frozen? ⟨b, 2, none⟩ = false ∧ w.frozen? ⟨b, 3, none⟩ = false) ∧ b < w.heap.size := by
  refine ⟨⟨?_, ?_, ?_, ?_⟩, ⟨?_, ?_, ?_, ?_⟩, (Array.getElem?_eq_some_iff.1 hr).1⟩
  all_goals first | (rw [Lib.cell_of_heap hr]; rfl) | (simp [World.frozen?, hr])
theorem row2 {w : World} {b : Nat} {x y : Value} {T : TypeId} (hr : w.heap[b]? = some (.cells #[x, y] T (0, 0))) : (w.cell? ⟨b, 0, none⟩ = some x ∧ w.cell? ⟨b, 1, none⟩ = some y)
    ∧ (w.frozen? ⟨b, 0, none⟩ = false ∧ w.frozen? ⟨b, 1, none⟩ = false) ∧ b < w.heap.size := by
  refine ⟨⟨?_, ?_⟩, ⟨?_, ?_⟩, (Array.getElem?_eq_some_iff.1 hr).1⟩
  all_goals first | (rw [Lib.cell_of_heap hr]; rfl) | (simp [World.frozen?, hr])

/-- What holds in each round. -/
structure LRel (zs : List Int) (g : Told) (w wr : World) (pos : Nat) (v : Value) (acc : List Wd) : Prop where
  hb : Below w.heap.size w wr
  fb : wr.heap[w.heap.size]? = some (.cells #[.int .i64 0, .int .i64 0] 26 (0, 0))
  wb : ∃ x y z u, wr.heap[w.heap.size + 1]? = some (.cells #[x, y, z, u] 31 (0, 0))
  own : OwnW (w.heap.size + 2) wr v acc
  size : w.heap.size + 2 ≤ wr.heap.size
  hpos : pos ≤ zs.length
  val : Valid (zs.drop pos)
  len : acc.length ≤ pos
  told : g = (lexA (zs.drop pos) pos).on acc
  words : Words wr
/-- What is told, as the functions return it. -/
def ToldV (base : Nat) (w : World) (g : Told) (v : Value) : Prop := match g with
  | .bad e p => v = .tuple #[.slice none 0 0, .agg #[.int .i64 e, .int .i64 p]]
  | .ok ws => ∃ u, v = .tuple #[u, .agg #[.int .i64 0, .int .i64 0]] ∧ OwnW base w u ws
/-- Which function cuts a word off. -/
theorem one_digit {z : List Int} (h : digitB (z.getD 0 0) = true) : cutOne z = cutInt z := by unfold cutOne; rw [if_pos h]
theorem one_text {z : List Int} (h : z.getD 0 0 = 34) : cutOne z = cutText z := by unfold cutOne; rw [if_neg (by rw [h]; decide), if_pos h]
theorem one_var {z : List Int} (h : z.getD 0 0 = 39) : cutOne z = cutVar z := by unfold cutOne; rw [if_neg (by rw [h]; decide), if_neg (by rw [h]; decide), if_pos h]
theorem one_con {z : List Int} (h1 : digitB (z.getD 0 0) = false) (h2 : ¬ z.getD 0 0 = 34) (h3 : ¬ z.getD 0 0 = 39) (h : greatB (z.getD 0 0) = true) : cutOne z = cutCon z := by
  unfold cutOne; rw [if_neg (by rw [h1]; decide), if_neg h2, if_neg h3, if_pos h]
theorem one_name {z : List Int} (h1 : digitB (z.getD 0 0) = false) (h2 : ¬ z.getD 0 0 = 34) (h3 : ¬ z.getD 0 0 = 39) (h4 : greatB (z.getD 0 0) = false) (h : beginsB (z.getD 0 0) = true) : cutOne z = cutName z := by
  unfold cutOne; rw [if_neg (by rw [h1]; decide), if_neg h2, if_neg h3, if_neg (by rw [h4]; decide), if_pos h]
theorem one_sign {z : List Int} (h1 : digitB (z.getD 0 0) = false) (h2 : ¬ z.getD 0 0 = 34) (h3 : ¬ z.getD 0 0 = 39) (h4 : greatB (z.getD 0 0) = false) (h : beginsB (z.getD 0 0) = false) : cutOne z = cutSign z := by
  unfold cutOne; rw [if_neg (by rw [h1]; decide), if_neg h2, if_neg h3, if_neg (by rw [h4]; decide), if_neg (by rw [h]; decide)]
theorem blank_low {c : Int} (h : blankB c = true) : c < 128 := by unfold blankB at h; simp at h; omega
theorem add_small {p z : Nat} {k : Nat} (h : p + k ≤ z) (hz : z ≤ 65536) : wrap64 ((p : Int) + k) = ((p + k : Nat) : Int) := by rw [Int.natCast_add]; exact wrap64_small (by omega) (by omega)
theorem Told.on_bad (acc : List Wd) (e p : Int) : (Told.bad e p).on acc = .bad e p := rfl
theorem setW_le {B : Nat} {w : World} (h : B ≤ w.heap.size) {b : Nat} {k n : Int} {s : ByteArray} {p : Int} : B ≤ (setW w b k n s p).heap.size := by rw [setW_size]; exact h
theorem acc_few {a p z : Nat} (h1 : a ≤ p) (h2 : p < z) (h3 : z ≤ 65536) : a + 1 ≤ 1000000000 := by omega
theorem new_row (w : World) (x y z u : Value) : ∀ j v, ([[x, y, z, u]] : List (List Value)).flatten[j]? = some v → (w.alloc (.cells #[x, y, z, u] 31)).cell? ((⟨w.heap.size, 0, none⟩ : Addr).add j) = some v := by
  intro j v hj
  match j, hj with
  | 0, hj => simp at hj; subst hj; simp [Addr.add]
  | 1, hj => simp at hj; subst hj; simp [Addr.add]
  | 2, hj => simp at hj; subst hj; simp [Addr.add]
  | 3, hj => simp at hj; subst hj; simp [Addr.add]
theorem OwnW.slice4 {base : Nat} {w : World} {v : Value} {l : List Wd} (h : OwnW base w v l) : ∃ a c, v = .slice a l.length c := by
  obtain ⟨a, c, hv, _⟩ := Stk.OwnR.rows h
  rw [List.length_map] at hv
  exact ⟨a, c, hv⟩

set_option maxRecDepth 10000 in
set_option maxHeartbeats 4000000 in
theorem cut_any (zs : List Int) (hb : ∀ z ∈ zs, 0 ≤ z ∧ z < 256) (hl : zs.length ≤ 65536) (hv : Valid zs) (w : World) (hT : Words w) :
    Calls Tryd.prog 14 #[.string (strOfNums zs)] w fun e w' => ∃ v, e = .returned v ∧ ToldV w.heap.size w' (lexA zs 0) v ∧ Below w.heap.size w w' := by
  have hs : (strOfNums zs).size = zs.length := strOfNums_size _
  have HS := hid (fun pos (h : pos < zs.length) => str_tail zs pos)
  have HBY := hid (fun pos z (h : z ∈ zs.drop pos) => hb z (List.mem_of_mem_drop h))
  have HD := hid (fun pos (h : pos < zs.length) => drop_at h)
  obtain ⟨g, hg⟩ : ∃ g, lexA zs 0 = g := ⟨_, rfl⟩
  rw [hg]
  have HG := hid hg
  have HT := hid hT
  clear hg hb hT
  generalize strOfNums zs = s at *
  go_enter Tryd.func14, Tryd.ntmps14
  go_wp2
  go_step3
  go_wp2
  go_step3
  go_wp2
  go_loopw [4, 7, 8] (fun lv ev av wr => ∃ pos acc, ev = .int .i64 0 ∧ av = .int .i64 (pos : Nat) ∧ LRel zs g w wr pos lv acc)
    (fun _ _ av _ => zs.length - (intOf av).toNat)
  case atStart =>
    have hz1 := heap_alloc_new (w.alloc (.cells #[.int .i64 0, .int .i64 0] 26)) (.cells zeroW 31)
    rw [World.size_alloc] at hz1
    refine ⟨0, [], rfl, rfl, ⟨?_, ?_, ⟨_, _, _, _, hz1⟩, Stk.OwnR.start _ _ _ _, ?_, Nat.zero_le _, hv, Nat.zero_le _, ?_, ?_⟩⟩
    · exact thenA (thenA (Below.refl _ w) _) _
    · exact (((Below.refl _ _).alloc (Nat.le_refl _) _).block _ (by simp)).trans (heap_alloc_new w _)
    · simp
    · rw [← HG.out, List.drop_zero, Told.on_nil]; rfl
    · exact HT.out.below (thenA (thenA (Below.refl _ w) _) _)
  case round =>
    obtain ⟨pos, acc, rfl, rfl, hbw, hfb, ⟨x, y, z, u, hwb⟩, hown, hsz, hpos, hval, hlen, htold, hwords⟩ := hrel
    have HR := hid htold
    have HO := hid hown
    have HV := hid hval
    have HWD := hid hwords
    clear htold hown hval hwords
    by_cases hlt : pos < zs.length
    · have hzne : zs.drop pos ≠ [] := by rw [HD.out pos hlt]; simp
      have hdrop := HD.out pos hlt
      have HT1 := hid (HS.out pos hlt)
      have hbz : ∀ z ∈ zs.drop pos, 0 ≤ z ∧ z < 256 := HBY.out pos
      have hlz : (zs.drop pos).length ≤ 65536 := by rw [List.length_drop]; omega
      have hc0 : (zs.drop pos).getD 0 0 = zs.getD pos 0 := drop_getD zs pos
      have HI := hid (fun h => str_get hbz 0 h)
      have hts : (strOfNums (zs.drop pos)).size = (zs.drop pos).length := strOfNums_size _
      have hzl : 0 < (zs.drop pos).length := List.length_pos_iff.2 hzne
      have CN := hid (fun W => beginsNote_any _ hbz W)
      have CZ := hid (fun W => noteSize_any _ hbz hlz W)
      have X1 := hid (fun W => cutInt_any _ hbz W)
      have X2 := hid (fun h W => cutText_any _ hbz hlz hzne h HV.out W)
      have X3 := hid (fun W => cutVar_any _ hbz hzne hlz W)
      have X4 := hid (fun W => cutCon_any _ hbz hlz W)
      have X5 := hid (fun W hw => cutName_any _ hbz hlz W hw)
      have X6 := hid (fun W hw => cutSign_any _ hbz W hw)
      have hHD : zs.drop pos = (zs.drop pos).getD 0 0 :: (zs.drop pos).drop 1 := by
        cases hz : zs.drop pos with
        | nil => exact absurd hz hzne
        | cons c t => rfl
      have HLEN : Hid (pos + (zs.drop pos).length = zs.length) := by show _ = _; rw [List.length_drop]; omega
      have HDD := hid (fun k => List.drop_drop (l := zs) (i := k) (j := pos))
      clear HS HBY HD hdrop
      generalize hz : zs.drop pos = z at *
      have HZ := hid hz
      clear hz
      rw [hc0] at HI
      have CB := hid (fun W => isBlank_c (zs.getD pos 0) W)
      have CD := hid (fun W => isDigit_c (zs.getD pos 0) W)
      have CG := hid (fun W => isGreat_c (zs.getD pos 0) W)
      have CS := hid (fun W => beginsName_c (zs.getD pos 0) W)
      have E1 := hid (show wrap64 ((pos : Int) + 1) = ((pos + 1 : Nat) : Int) from add_small (show pos + 1 ≤ zs.length from hlt) hl)
      have hlti : (pos : Int) < (zs.length : Int) := by omega
      have hle : (pos : Int) ≤ (zs.length : Int) := by omega
      generalize strOfNums z = t at *
      have i0 : ((t[0]'(by rw [hts]; exact hzl)).toNat : Int) = zs.getD pos 0 := HI.out _
      have HZL := hid hzl
      have hzi : (0 : Int) < (z.length : Int) := by omega
      have ht1 := HT1.out
      clear HI HT1
      generalize zs.getD pos 0 = c at *
      cases hbl : blankB c with
      | true =>
        rw [hbl] at CB
        have HF : Hid (g = (lexA (zs.drop (pos + 1)) ((pos + 1 : Nat) : Int)).on acc) := by
          show _ = _
          rw [HR.out, hHD, lexA_blank _ _ (by rw [hc0]; exact hbl), HDD.out, Int.natCast_add]; rfl
        have HV1 := hid (show Valid (zs.drop (pos + 1)) by
          have := valid_low HV.out 1 (Nat.le_refl _) HZL.out (by show z.getD 0 0 < 128; rw [hc0]; exact blank_low hbl)
          rw [HDD.out] at this
          exact this)
        clear hHD hc0 hzne hbz HLEN HDD HZ hbl X1 X2 X3 X4 X5 X6 CN CZ CD CG CS HR HV
        go_wp2_with (first | (go_at_call 24; refine (CB.out _).mono ?_; rintro e w' ⟨rfl, rfl⟩) | (go_at_call 25; refine (CN.out _).mono ?_; rintro e w' ⟨rfl, rfl⟩) | (go_at_call 27; refine (CD.out _).mono ?_; rintro e w' ⟨rfl, rfl⟩) | (go_at_call 31; refine (CG.out _).mono ?_; rintro e w' ⟨rfl, rfl⟩) | (go_at_call 33; refine (CS.out _).mono ?_; rintro e w' ⟨rfl, rfl⟩))
        clear i0 ht1 hts hzi hlti hle CB
        go_roundw
        case rel => exact ⟨pos + 1, acc, rfl, by go_num, ⟨hbw, hfb, ⟨_, _, _, _, hwb⟩, HO.out, hsz, hlt, HV1.out, Nat.le_succ_of_le hlen, HF.out, HWD.out⟩⟩
        case measure => simp [intOf]; omega
      | false =>
        rw [hbl] at CB
        cases hnb : noteB z with
        | true =>
          rw [hnb] at CN
          cases hng : noteGo 0 0 z with
          | none =>
            have hnn : noteN z = 0 := by unfold noteN; rw [hng]; rfl
            rw [hnn] at CZ
            have HF : Hid (g = .bad 253 pos) := by
              show _ = _
              rw [HR.out, hHD, lexA_note_bad _ (by rw [hc0]; exact hbl) (by rw [← hHD]; exact hnb) (by rw [← hHD]; exact hng)]; rfl
            clear hHD hc0 hzne hbz HLEN HDD HZ hbl X1 X2 X3 X4 X5 X6 CD CG CS HR HV hnb hng hnn HO hwb HWD
            go_wp2_with (first | (go_at_call 24; refine (CB.out _).mono ?_; rintro e w' ⟨rfl, rfl⟩) | (go_at_call 25; refine (CN.out _).mono ?_; rintro e w' ⟨rfl, rfl⟩) | (go_at_call 27; refine (CD.out _).mono ?_; rintro e w' ⟨rfl, rfl⟩) | (go_at_call 31; refine (CG.out _).mono ?_; rintro e w' ⟨rfl, rfl⟩) | (go_at_call 33; refine (CS.out _).mono ?_; rintro e w' ⟨rfl, rfl⟩))
            refine (CZ.out _).mono ?_
            rintro e w2 ⟨rfl, hb2⟩
            have HB := hid (hbw.trans (hb2.mono hbw.size))
            have hfb2 := (hb2.block _ (Array.getElem?_eq_some_iff.1 hfb).1).trans hfb
            obtain ⟨⟨f0, f1⟩, ⟨g0, g1⟩, _⟩ := row2 hfb2
            clear hb2 hfb hfb2 hbw i0 ht1 hts hlti hle CB CN
            go_wp2
            try rw [Exit.noGoto_ret]
            refine bodyPost_ret (v := .tuple #[.slice none 0 0, .agg #[.int .i64 253, .int .i64 (pos : Nat)]]) (by simp [results, Tryd.results14, go_sem, f0, f1]) rfl ⟨_, rfl, by rw [HF.out]; rfl, ?_⟩
            exact (HB.out.setCell (p := ⟨w.heap.size, 0, none⟩) (by simp) _).setCell (p := ⟨w.heap.size, 1, none⟩) (by simp) _
          | some k =>
            have hnn : noteN z = k := by unfold noteN; rw [hng]; rfl
            rw [hnn] at CZ
            have hsz2 := noteGo_size _ _ _ _ hng
            have hlast := note_last _ _ _ _ hng
            have HF : Hid (g = (lexA (zs.drop (pos + k)) ((pos + k : Nat) : Int)).on acc) := by
              show _ = _
              rw [HR.out, hHD, lexA_note _ (by rw [hc0]; exact hbl) (by rw [← hHD]; exact hnb) (by rw [← hHD]; exact hng), ← hHD, HDD.out, Int.natCast_add]
            have HV1 := hid (show Valid (zs.drop (pos + k)) by
              have := valid_low HV.out k hsz2.1 hsz2.2 (by show z.getD (k - 1) 0 < 128; rw [hlast]; decide)
              rw [HDD.out] at this
              exact this)
            have hk0 : ¬ ((k : Int) = 0) := by omega
            have hpk : pos + k ≤ zs.length := by have := HLEN.out; omega
            have hk1 : 1 ≤ k := hsz2.1
            clear hHD hc0 hzne hbz HLEN HDD HZ hbl X1 X2 X3 X4 X5 X6 CD CG CS HR HV hnb hng hnn hsz2 hlast
            go_wp2_with (first | (go_at_call 24; refine (CB.out _).mono ?_; rintro e w' ⟨rfl, rfl⟩) | (go_at_call 25; refine (CN.out _).mono ?_; rintro e w' ⟨rfl, rfl⟩) | (go_at_call 27; refine (CD.out _).mono ?_; rintro e w' ⟨rfl, rfl⟩) | (go_at_call 31; refine (CG.out _).mono ?_; rintro e w' ⟨rfl, rfl⟩) | (go_at_call 33; refine (CS.out _).mono ?_; rintro e w' ⟨rfl, rfl⟩))
            refine (CZ.out _).mono ?_
            rintro e w2 ⟨rfl, hb2⟩
            have HB := hid (hbw.trans (hb2.mono hbw.size))
            have HFB := hid ((hb2.block _ (Array.getElem?_eq_some_iff.1 hfb).1).trans hfb)
            have HWB := hid ((hb2.block _ (Array.getElem?_eq_some_iff.1 hwb).1).trans hwb)
            have HO2 := hid (Stk.OwnR.below HO.out hb2)
            have HSZ := hid (Nat.le_trans hsz hb2.size)
            have HWD2 := hid (HWD.out.below hb2)
            clear hb2 hfb hwb hbw i0 ht1 hts hlti hle CB CN HO HWD hsz CZ
            go_wp2
            go_roundw
            case rel => exact ⟨pos + k, acc, rfl, by go_num, ⟨HB.out, HFB.out, ⟨_, _, _, _, HWB.out⟩, HO2.out, HSZ.out, hpk, HV1.out, by omega, HF.out, HWD2.out⟩⟩
            case measure => simp [intOf]; omega
        | false =>
          rw [hnb] at CN
          have HN := hid hnb
          have HBL := hid hbl
          clear hnb hbl CZ
          have CW : Hid (∀ W, Words W → True) := hid fun _ _ => trivial
          cases hdg : digitB c with
          | true =>
            rw [hdg] at CD
            have HC := hid (one_digit (z := z) (by rw [hc0]; exact hdg))
            have CX := X1
            have hC : cutOne z = cutOne z := rfl
            obtain ⟨o, ho⟩ : ∃ o, cutOne z = o := ⟨_, rfl⟩
            rw [← HC.out, ho] at CX
            obtain ⟨ok, on, os, osz, oe⟩ := o
            have hcv : Cut.v ⟨ok, on, os, osz, oe⟩ = .tuple #[.agg #[.int .i64 ok, .int .i64 on, .int .i64 0, .string (strOfNums os)], .int .i64 osz, .int .i64 oe] := rfl
            rw [hcv] at CX
            clear hcv hC
            by_cases he : oe = 0
            · subst he
              have hoe : (cutOne z).e = 0 := by rw [ho]
              have hsz2 := cutOne_size hzne hoe
              have hlast := cutOne_last hzne hoe
              rw [ho] at hsz2 hlast
              simp only at hsz2 hlast
              have HF : Hid (g = (lexA (zs.drop (pos + osz)) ((pos + osz : Nat) : Int)).on (acc ++ [⟨ok, on, pos, os⟩])) := by
                show _ = _
                have h := HR.out
                rw [hHD, lexA_word _ (by rw [hc0]; exact HBL.out) (by rw [← hHD]; exact HN.out) (by rw [← hHD]; exact hoe), ← hHD, ho] at h
                simp only at h
                rw [h, Told.on_cons, HDD.out, Int.natCast_add]
              have HV1 := hid (show Valid (zs.drop (pos + osz)) by
                have := valid_low HV.out osz hsz2.1 hsz2.2 hlast
                rw [HDD.out] at this
                exact this)
              have hpk : pos + osz ≤ zs.length := by have := HLEN.out; omega
              have hk1 : 1 ≤ osz := hsz2.1
              have HROW := hid (show (Wd.mk ok on pos os).row = [.int .i64 ok, .int .i64 on, .int .i64 (pos : Nat), .string (strOfNums os)] from rfl)
              generalize strOfNums os = ost at *
              clear hHD hc0 hzne hbz HLEN HDD HZ X1 X2 X3 X4 X5 X6 HR HV hsz2 hlast HN HBL HC ho hoe
              go_wp2_with (first | (go_at_call 24; refine (CB.out _).mono ?_; rintro e w' ⟨rfl, rfl⟩) | (go_at_call 25; refine (CN.out _).mono ?_; rintro e w' ⟨rfl, rfl⟩) | (go_at_call 27; refine (CD.out _).mono ?_; rintro e w' ⟨rfl, rfl⟩) | (go_at_call 31; refine (CG.out _).mono ?_; rintro e w' ⟨rfl, rfl⟩) | (go_at_call 33; refine (CS.out _).mono ?_; rintro e w' ⟨rfl, rfl⟩))
              refine (CX.out _).mono ?_
              rintro e w2 ⟨rfl, hb2⟩
              have HB := hid (hbw.trans (hb2.mono hbw.size))
              have HFB := hid ((hb2.block _ (Array.getElem?_eq_some_iff.1 hfb).1).trans hfb)
              have hwb2 := (hb2.block _ (Array.getElem?_eq_some_iff.1 hwb).1).trans hwb
              have HWB := hid hwb2
              obtain ⟨⟨k0, k1, k2, k3⟩, ⟨g0, g1, g2, g3⟩, _⟩ := row4 hwb2
              have HO2 := hid (show OwnW _ _ _ _ from Stk.OwnR.below HO.out hb2)
              have HSZ := hid (Nat.le_trans hsz hb2.size)
              have HWD2 := hid (HWD.out.below hb2)
              have HAL := hid hlen
              have HPK := hid hpk
              have HK1 := hid hk1
              clear hb2 hfb hwb hwb2 hbw i0 ht1 hts hlti hle CB CN CD CG CS HO HWD hsz CX hlen hpk hk1
              go_upto_region 28 with (fail)
              obtain ⟨W5, hW5⟩ : ∃ W5, W5 = setW w2 (w.heap.size + 1) ok on ost pos := ⟨_, rfl⟩
              have HR5 := hid (show W5.heap[w.heap.size + 1]? = some (.cells #[.int .i64 ok, .int .i64 on, .int .i64 (pos : Nat), .string ost] 31 (0, 0)) from hW5 ▸ setW_row HWB.out ok on ost pos)
              have HO5 := hid (show OwnW (w.heap.size + 2) W5 u4 acc from hW5 ▸ setW_own HO2.out (Nat.lt_succ_self _) ok on ost pos)
              have HB5 := hid (show Below w.heap.size w W5 from hW5 ▸ setW_below HB.out (Nat.le_succ _) ok on ost pos)
              have HF5 := hid (show W5.heap[w.heap.size]? = _ from hW5 ▸ (setW_other w2 _ _ (Nat.ne_of_lt (Nat.lt_succ_self _)) ok on ost pos).trans HFB.out)
              have HS5 := hid (show w.heap.size + 2 ≤ W5.heap.size from hW5 ▸ setW_le HSZ.out)
              unfold setW at hW5
              rw [← hW5]
              clear hW5 k0 k1 k2 k3 g0 g1 g2 g3 HWB HO2 HB HFB HSZ HWD2
              obtain ⟨⟨k0, k1, k2, k3⟩, _, _⟩ := row4 HR5.out
              go_wp2_with (at_builtin; refine Stk.append_rows infoW rfl (by decide) (by decide) Tryd.underlying23 rfl (.tmp 88) (.tmp 90) rfl (base := w.heap.size + 2) (w0 := W5) (xs := acc.map Wd.row) [[.int .i64 ok, .int .i64 on, .int .i64 (pos : Nat), .string ost]] rfl (Stk.OwnR.alloc HO5.out _) ((Below.refl _ _).alloc HS5.out _) (by rw [World.size_alloc]; exact Nat.le_succ_of_le HS5.out) ⟨W5.heap.size, 0, none⟩ 1 1 rfl rfl (by simp) (new_row _ _ _ _ _) (by simp [Value.oneCell']) (by rw [List.length_map]; exact acc_few HAL.out hlt hl) ?_; intro v' w3 hown3 hb3 hs3 _)
              go_roundw
              case rel =>
                have hmap : (acc ++ [Wd.mk ok on pos os]).map Wd.row = acc.map Wd.row ++ [[.int .i64 ok, .int .i64 on, .int .i64 (pos : Nat), .string ost]] := by rw [List.map_append, List.map_singleton, HROW.out]
                have hown4 : OwnW (w.heap.size + 2) w3 v' (acc ++ [Wd.mk ok on pos os]) := by unfold OwnW; rw [hmap]; exact hown3
                have hw3 := HB5.out.trans (hb3.mono (Nat.le_add_right _ _))
                have h2 : w.heap.size + 1 < w.heap.size + 2 := Nat.lt_succ_self _
                have hpk := HPK.out
                have hk1 := HK1.out
                refine ⟨pos + osz, _, rfl, by rw [add_small hpk hl], ⟨hw3, ?_, ⟨_, _, _, _, (hb3.block _ h2).trans HR5.out⟩, hown4, hs3, hpk, HV1.out, by rw [List.length_append]; exact Nat.add_le_add HAL.out hk1, HF.out, ?_⟩⟩
                · exact (hb3.block _ (Nat.lt_succ_of_lt (Nat.lt_succ_self _))).trans HF5.out
                · exact HT.out.below hw3
              case measure =>
                have hk1 := HK1.out
                rw [add_small HPK.out hl]
                simp only [intOf, Int.toNat_natCast]
                omega
            · have hoe : (cutOne z).e ≠ 0 := by rw [ho]; exact he
              have HF : Hid (g = .bad oe pos) := by
                show _ = _
                have h := HR.out
                rw [hHD, lexA_bad _ (by rw [hc0]; exact HBL.out) (by rw [← hHD]; exact HN.out) (by rw [← hHD]; exact hoe), ← hHD, ho] at h
                exact h
              generalize strOfNums os = ost at *
              clear hHD hc0 hzne hbz HLEN HDD HZ X1 X2 X3 X4 X5 X6 HR HV HN HBL HC ho hoe
              go_wp2_with (first | (go_at_call 24; refine (CB.out _).mono ?_; rintro e w' ⟨rfl, rfl⟩) | (go_at_call 25; refine (CN.out _).mono ?_; rintro e w' ⟨rfl, rfl⟩) | (go_at_call 27; refine (CD.out _).mono ?_; rintro e w' ⟨rfl, rfl⟩) | (go_at_call 31; refine (CG.out _).mono ?_; rintro e w' ⟨rfl, rfl⟩) | (go_at_call 33; refine (CS.out _).mono ?_; rintro e w' ⟨rfl, rfl⟩))
              refine (CX.out _).mono ?_
              rintro e w2 ⟨rfl, hb2⟩
              have HB := hid (hbw.trans (hb2.mono hbw.size))
              have hfb2 := (hb2.block _ (Array.getElem?_eq_some_iff.1 hfb).1).trans hfb
              have hwb2 := (hb2.block _ (Array.getElem?_eq_some_iff.1 hwb).1).trans hwb
              obtain ⟨⟨k0, k1, k2, k3⟩, ⟨q0, q1, q2, q3⟩, _⟩ := row4 hwb2
              obtain ⟨⟨f0, f1⟩, ⟨g0, g1⟩, _⟩ := row2 hfb2
              clear hb2 hfb hwb hwb2 hfb2 hbw i0 ht1 hts hlti hle CB CN CD CG CS HO HWD hsz CX hlen
              go_wp2
              try rw [Exit.noGoto_ret]
              refine bodyPost_ret (v := .tuple #[.slice none 0 0, .agg #[.int .i64 oe, .int .i64 (pos : Nat)]]) (by simp [results, Tryd.results14, go_sem, f0, f1]) rfl ⟨_, rfl, by rw [HF.out]; rfl, ?_⟩
              exact (((((HB.out.setCell (p := ⟨w.heap.size + 1, 0, none⟩) (Nat.le_succ _) _).setCell (p := ⟨w.heap.size + 1, 1, none⟩) (Nat.le_succ _) _).setCell (p := ⟨w.heap.size + 1, 2, none⟩) (Nat.le_succ _) _).setCell (p := ⟨w.heap.size + 1, 3, none⟩) (Nat.le_succ _) _).setCell (p := ⟨w.heap.size, 0, none⟩) (Nat.le_refl _) _).setCell (p := ⟨w.heap.size, 1, none⟩) (Nat.le_refl _) _
          | false =>
            rw [hdg] at CD
            by_cases h34 : c = 34
            · have hcz : z.getD 0 0 = 34 := by rw [hc0]; exact h34
              subst h34
              have HC := hid (one_text (z := z) hcz)
              have CX := hid (X2.out hcz)
              have hC : cutOne z = cutOne z := rfl
              obtain ⟨o, ho⟩ : ∃ o, cutOne z = o := ⟨_, rfl⟩
              rw [← HC.out, ho] at CX
              obtain ⟨ok, on, os, osz, oe⟩ := o
              have hcv : Cut.v ⟨ok, on, os, osz, oe⟩ = .tuple #[.agg #[.int .i64 ok, .int .i64 on, .int .i64 0, .string (strOfNums os)], .int .i64 osz, .int .i64 oe] := rfl
              rw [hcv] at CX
              clear hcv hC
              by_cases he : oe = 0
              · subst he
                have hoe : (cutOne z).e = 0 := by rw [ho]
                have hsz2 := cutOne_size hzne hoe
                have hlast := cutOne_last hzne hoe
                rw [ho] at hsz2 hlast
                simp only at hsz2 hlast
                have HF : Hid (g = (lexA (zs.drop (pos + osz)) ((pos + osz : Nat) : Int)).on (acc ++ [⟨ok, on, pos, os⟩])) := by
                  show _ = _
                  have h := HR.out
                  rw [hHD, lexA_word _ (by rw [hc0]; exact HBL.out) (by rw [← hHD]; exact HN.out) (by rw [← hHD]; exact hoe), ← hHD, ho] at h
                  simp only at h
                  rw [h, Told.on_cons, HDD.out, Int.natCast_add]
                have HV1 := hid (show Valid (zs.drop (pos + osz)) by
                  have := valid_low HV.out osz hsz2.1 hsz2.2 hlast
                  rw [HDD.out] at this
                  exact this)
                have hpk : pos + osz ≤ zs.length := by have := HLEN.out; omega
                have hk1 : 1 ≤ osz := hsz2.1
                have HROW := hid (show (Wd.mk ok on pos os).row = [.int .i64 ok, .int .i64 on, .int .i64 (pos : Nat), .string (strOfNums os)] from rfl)
                generalize strOfNums os = ost at *
                clear hcz hHD hc0 hzne hbz HLEN HDD HZ X1 X2 X3 X4 X5 X6 HR HV hsz2 hlast HN HBL HC ho hoe
                go_wp2_with (first | (go_at_call 24; refine (CB.out _).mono ?_; rintro e w' ⟨rfl, rfl⟩) | (go_at_call 25; refine (CN.out _).mono ?_; rintro e w' ⟨rfl, rfl⟩) | (go_at_call 27; refine (CD.out _).mono ?_; rintro e w' ⟨rfl, rfl⟩) | (go_at_call 31; refine (CG.out _).mono ?_; rintro e w' ⟨rfl, rfl⟩) | (go_at_call 33; refine (CS.out _).mono ?_; rintro e w' ⟨rfl, rfl⟩))
                refine (CX.out _).mono ?_
                rintro e w2 ⟨rfl, hb2⟩
                have HB := hid (hbw.trans (hb2.mono hbw.size))
                have HFB := hid ((hb2.block _ (Array.getElem?_eq_some_iff.1 hfb).1).trans hfb)
                have hwb2 := (hb2.block _ (Array.getElem?_eq_some_iff.1 hwb).1).trans hwb
                have HWB := hid hwb2
                obtain ⟨⟨k0, k1, k2, k3⟩, ⟨g0, g1, g2, g3⟩, _⟩ := row4 hwb2
                have HO2 := hid (show OwnW _ _ _ _ from Stk.OwnR.below HO.out hb2)
                have HSZ := hid (Nat.le_trans hsz hb2.size)
                have HWD2 := hid (HWD.out.below hb2)
                have HAL := hid hlen
                have HPK := hid hpk
                have HK1 := hid hk1
                clear hb2 hfb hwb hwb2 hbw i0 ht1 hts hlti hle CB CN CD CG CS HO HWD hsz CX hlen hpk hk1
                go_upto_region 28 with (fail)
                obtain ⟨W5, hW5⟩ : ∃ W5, W5 = setW w2 (w.heap.size + 1) ok on ost pos := ⟨_, rfl⟩
                have HR5 := hid (show W5.heap[w.heap.size + 1]? = some (.cells #[.int .i64 ok, .int .i64 on, .int .i64 (pos : Nat), .string ost] 31 (0, 0)) from hW5 ▸ setW_row HWB.out ok on ost pos)
                have HO5 := hid (show OwnW (w.heap.size + 2) W5 u4 acc from hW5 ▸ setW_own HO2.out (Nat.lt_succ_self _) ok on ost pos)
                have HB5 := hid (show Below w.heap.size w W5 from hW5 ▸ setW_below HB.out (Nat.le_succ _) ok on ost pos)
                have HF5 := hid (show W5.heap[w.heap.size]? = _ from hW5 ▸ (setW_other w2 _ _ (Nat.ne_of_lt (Nat.lt_succ_self _)) ok on ost pos).trans HFB.out)
                have HS5 := hid (show w.heap.size + 2 ≤ W5.heap.size from hW5 ▸ setW_le HSZ.out)
                unfold setW at hW5
                rw [← hW5]
                clear hW5 k0 k1 k2 k3 g0 g1 g2 g3 HWB HO2 HB HFB HSZ HWD2
                obtain ⟨⟨k0, k1, k2, k3⟩, _, _⟩ := row4 HR5.out
                go_wp2_with (at_builtin; refine Stk.append_rows infoW rfl (by decide) (by decide) Tryd.underlying23 rfl (.tmp 88) (.tmp 90) rfl (base := w.heap.size + 2) (w0 := W5) (xs := acc.map Wd.row) [[.int .i64 ok, .int .i64 on, .int .i64 (pos : Nat), .string ost]] rfl (Stk.OwnR.alloc HO5.out _) ((Below.refl _ _).alloc HS5.out _) (by rw [World.size_alloc]; exact Nat.le_succ_of_le HS5.out) ⟨W5.heap.size, 0, none⟩ 1 1 rfl rfl (by simp) (new_row _ _ _ _ _) (by simp [Value.oneCell']) (by rw [List.length_map]; exact acc_few HAL.out hlt hl) ?_; intro v' w3 hown3 hb3 hs3 _)
                go_roundw
                case rel =>
                  have hmap : (acc ++ [Wd.mk ok on pos os]).map Wd.row = acc.map Wd.row ++ [[.int .i64 ok, .int .i64 on, .int .i64 (pos : Nat), .string ost]] := by rw [List.map_append, List.map_singleton, HROW.out]
                  have hown4 : OwnW (w.heap.size + 2) w3 v' (acc ++ [Wd.mk ok on pos os]) := by unfold OwnW; rw [hmap]; exact hown3
                  have hw3 := HB5.out.trans (hb3.mono (Nat.le_add_right _ _))
                  have h2 : w.heap.size + 1 < w.heap.size + 2 := Nat.lt_succ_self _
                  have hpk := HPK.out
                  have hk1 := HK1.out
                  refine ⟨pos + osz, _, rfl, by rw [add_small hpk hl], ⟨hw3, ?_, ⟨_, _, _, _, (hb3.block _ h2).trans HR5.out⟩, hown4, hs3, hpk, HV1.out, by rw [List.length_append]; exact Nat.add_le_add HAL.out hk1, HF.out, ?_⟩⟩
                  · exact (hb3.block _ (Nat.lt_succ_of_lt (Nat.lt_succ_self _))).trans HF5.out
                  · exact HT.out.below hw3
                case measure =>
                  have hk1 := HK1.out
                  rw [add_small HPK.out hl]
                  simp only [intOf, Int.toNat_natCast]
                  omega
              · have hoe : (cutOne z).e ≠ 0 := by rw [ho]; exact he
                have HF : Hid (g = .bad oe pos) := by
                  show _ = _
                  have h := HR.out
                  rw [hHD, lexA_bad _ (by rw [hc0]; exact HBL.out) (by rw [← hHD]; exact HN.out) (by rw [← hHD]; exact hoe), ← hHD, ho] at h
                  exact h
                generalize strOfNums os = ost at *
                clear hcz hHD hc0 hzne hbz HLEN HDD HZ X1 X2 X3 X4 X5 X6 HR HV HN HBL HC ho hoe
                go_wp2_with (first | (go_at_call 24; refine (CB.out _).mono ?_; rintro e w' ⟨rfl, rfl⟩) | (go_at_call 25; refine (CN.out _).mono ?_; rintro e w' ⟨rfl, rfl⟩) | (go_at_call 27; refine (CD.out _).mono ?_; rintro e w' ⟨rfl, rfl⟩) | (go_at_call 31; refine (CG.out _).mono ?_; rintro e w' ⟨rfl, rfl⟩) | (go_at_call 33; refine (CS.out _).mono ?_; rintro e w' ⟨rfl, rfl⟩))
                refine (CX.out _).mono ?_
                rintro e w2 ⟨rfl, hb2⟩
                have HB := hid (hbw.trans (hb2.mono hbw.size))
                have hfb2 := (hb2.block _ (Array.getElem?_eq_some_iff.1 hfb).1).trans hfb
                have hwb2 := (hb2.block _ (Array.getElem?_eq_some_iff.1 hwb).1).trans hwb
                obtain ⟨⟨k0, k1, k2, k3⟩, ⟨q0, q1, q2, q3⟩, _⟩ := row4 hwb2
                obtain ⟨⟨f0, f1⟩, ⟨g0, g1⟩, _⟩ := row2 hfb2
                clear hb2 hfb hwb hwb2 hfb2 hbw i0 ht1 hts hlti hle CB CN CD CG CS HO HWD hsz CX hlen
                go_wp2
                try rw [Exit.noGoto_ret]
                refine bodyPost_ret (v := .tuple #[.slice none 0 0, .agg #[.int .i64 oe, .int .i64 (pos : Nat)]]) (by simp [results, Tryd.results14, go_sem, f0, f1]) rfl ⟨_, rfl, by rw [HF.out]; rfl, ?_⟩
                exact (((((HB.out.setCell (p := ⟨w.heap.size + 1, 0, none⟩) (Nat.le_succ _) _).setCell (p := ⟨w.heap.size + 1, 1, none⟩) (Nat.le_succ _) _).setCell (p := ⟨w.heap.size + 1, 2, none⟩) (Nat.le_succ _) _).setCell (p := ⟨w.heap.size + 1, 3, none⟩) (Nat.le_succ _) _).setCell (p := ⟨w.heap.size, 0, none⟩) (Nat.le_refl _) _).setCell (p := ⟨w.heap.size, 1, none⟩) (Nat.le_refl _) _
            · by_cases h39 : c = 39
              · have hcz : z.getD 0 0 = 39 := by rw [hc0]; exact h39
                subst h39
                have HC := hid (one_var (z := z) hcz)
                have CX := X3
                have hC : cutOne z = cutOne z := rfl
                obtain ⟨o, ho⟩ : ∃ o, cutOne z = o := ⟨_, rfl⟩
                rw [← HC.out, ho] at CX
                obtain ⟨ok, on, os, osz, oe⟩ := o
                have hcv : Cut.v ⟨ok, on, os, osz, oe⟩ = .tuple #[.agg #[.int .i64 ok, .int .i64 on, .int .i64 0, .string (strOfNums os)], .int .i64 osz, .int .i64 oe] := rfl
                rw [hcv] at CX
                clear hcv hC
                by_cases he : oe = 0
                · subst he
                  have hoe : (cutOne z).e = 0 := by rw [ho]
                  have hsz2 := cutOne_size hzne hoe
                  have hlast := cutOne_last hzne hoe
                  rw [ho] at hsz2 hlast
                  simp only at hsz2 hlast
                  have HF : Hid (g = (lexA (zs.drop (pos + osz)) ((pos + osz : Nat) : Int)).on (acc ++ [⟨ok, on, pos, os⟩])) := by
                    show _ = _
                    have h := HR.out
                    rw [hHD, lexA_word _ (by rw [hc0]; exact HBL.out) (by rw [← hHD]; exact HN.out) (by rw [← hHD]; exact hoe), ← hHD, ho] at h
                    simp only at h
                    rw [h, Told.on_cons, HDD.out, Int.natCast_add]
                  have HV1 := hid (show Valid (zs.drop (pos + osz)) by
                    have := valid_low HV.out osz hsz2.1 hsz2.2 hlast
                    rw [HDD.out] at this
                    exact this)
                  have hpk : pos + osz ≤ zs.length := by have := HLEN.out; omega
                  have hk1 : 1 ≤ osz := hsz2.1
                  have HROW := hid (show (Wd.mk ok on pos os).row = [.int .i64 ok, .int .i64 on, .int .i64 (pos : Nat), .string (strOfNums os)] from rfl)
                  generalize strOfNums os = ost at *
                  clear hcz hHD hc0 hzne hbz HLEN HDD HZ X1 X2 X3 X4 X5 X6 HR HV hsz2 hlast HN HBL HC ho hoe
                  go_wp2_with (first | (go_at_call 24; refine (CB.out _).mono ?_; rintro e w' ⟨rfl, rfl⟩) | (go_at_call 25; refine (CN.out _).mono ?_; rintro e w' ⟨rfl, rfl⟩) | (go_at_call 27; refine (CD.out _).mono ?_; rintro e w' ⟨rfl, rfl⟩) | (go_at_call 31; refine (CG.out _).mono ?_; rintro e w' ⟨rfl, rfl⟩) | (go_at_call 33; refine (CS.out _).mono ?_; rintro e w' ⟨rfl, rfl⟩))
                  refine (CX.out _).mono ?_
                  rintro e w2 ⟨rfl, hb2⟩
                  have HB := hid (hbw.trans (hb2.mono hbw.size))
                  have HFB := hid ((hb2.block _ (Array.getElem?_eq_some_iff.1 hfb).1).trans hfb)
                  have hwb2 := (hb2.block _ (Array.getElem?_eq_some_iff.1 hwb).1).trans hwb
                  have HWB := hid hwb2
                  obtain ⟨⟨k0, k1, k2, k3⟩, ⟨g0, g1, g2, g3⟩, _⟩ := row4 hwb2
                  have HO2 := hid (show OwnW _ _ _ _ from Stk.OwnR.below HO.out hb2)
                  have HSZ := hid (Nat.le_trans hsz hb2.size)
                  have HWD2 := hid (HWD.out.below hb2)
                  have HAL := hid hlen
                  have HPK := hid hpk
                  have HK1 := hid hk1
                  clear hb2 hfb hwb hwb2 hbw i0 ht1 hts hlti hle CB CN CD CG CS HO HWD hsz CX hlen hpk hk1
                  go_upto_region 28 with (fail)
                  obtain ⟨W5, hW5⟩ : ∃ W5, W5 = setW w2 (w.heap.size + 1) ok on ost pos := ⟨_, rfl⟩
                  have HR5 := hid (show W5.heap[w.heap.size + 1]? = some (.cells #[.int .i64 ok, .int .i64 on, .int .i64 (pos : Nat), .string ost] 31 (0, 0)) from hW5 ▸ setW_row HWB.out ok on ost pos)
                  have HO5 := hid (show OwnW (w.heap.size + 2) W5 u4 acc from hW5 ▸ setW_own HO2.out (Nat.lt_succ_self _) ok on ost pos)
                  have HB5 := hid (show Below w.heap.size w W5 from hW5 ▸ setW_below HB.out (Nat.le_succ _) ok on ost pos)
                  have HF5 := hid (show W5.heap[w.heap.size]? = _ from hW5 ▸ (setW_other w2 _ _ (Nat.ne_of_lt (Nat.lt_succ_self _)) ok on ost pos).trans HFB.out)
                  have HS5 := hid (show w.heap.size + 2 ≤ W5.heap.size from hW5 ▸ setW_le HSZ.out)
                  unfold setW at hW5
                  rw [← hW5]
                  clear hW5 k0 k1 k2 k3 g0 g1 g2 g3 HWB HO2 HB HFB HSZ HWD2
                  obtain ⟨⟨k0, k1, k2, k3⟩, _, _⟩ := row4 HR5.out
                  go_wp2_with (at_builtin; refine Stk.append_rows infoW rfl (by decide) (by decide) Tryd.underlying23 rfl (.tmp 88) (.tmp 90) rfl (base := w.heap.size + 2) (w0 := W5) (xs := acc.map Wd.row) [[.int .i64 ok, .int .i64 on, .int .i64 (pos : Nat), .string ost]] rfl (Stk.OwnR.alloc HO5.out _) ((Below.refl _ _).alloc HS5.out _) (by rw [World.size_alloc]; exact Nat.le_succ_of_le HS5.out) ⟨W5.heap.size, 0, none⟩ 1 1 rfl rfl (by simp) (new_row _ _ _ _ _) (by simp [Value.oneCell']) (by rw [List.length_map]; exact acc_few HAL.out hlt hl) ?_; intro v' w3 hown3 hb3 hs3 _)
                  go_roundw
                  case rel =>
                    have hmap : (acc ++ [Wd.mk ok on pos os]).map Wd.row = acc.map Wd.row ++ [[.int .i64 ok, .int .i64 on, .int .i64 (pos : Nat), .string ost]] := by rw [List.map_append, List.map_singleton, HROW.out]
                    have hown4 : OwnW (w.heap.size + 2) w3 v' (acc ++ [Wd.mk ok on pos os]) := by unfold OwnW; rw [hmap]; exact hown3
                    have hw3 := HB5.out.trans (hb3.mono (Nat.le_add_right _ _))
                    have h2 : w.heap.size + 1 < w.heap.size + 2 := Nat.lt_succ_self _
                    have hpk := HPK.out
                    have hk1 := HK1.out
                    refine ⟨pos + osz, _, rfl, by rw [add_small hpk hl], ⟨hw3, ?_, ⟨_, _, _, _, (hb3.block _ h2).trans HR5.out⟩, hown4, hs3, hpk, HV1.out, by rw [List.length_append]; exact Nat.add_le_add HAL.out hk1, HF.out, ?_⟩⟩
                    · exact (hb3.block _ (Nat.lt_succ_of_lt (Nat.lt_succ_self _))).trans HF5.out
                    · exact HT.out.below hw3
                  case measure =>
                    have hk1 := HK1.out
                    rw [add_small HPK.out hl]
                    simp only [intOf, Int.toNat_natCast]
                    omega
                · have hoe : (cutOne z).e ≠ 0 := by rw [ho]; exact he
                  have HF : Hid (g = .bad oe pos) := by
                    show _ = _
                    have h := HR.out
                    rw [hHD, lexA_bad _ (by rw [hc0]; exact HBL.out) (by rw [← hHD]; exact HN.out) (by rw [← hHD]; exact hoe), ← hHD, ho] at h
                    exact h
                  generalize strOfNums os = ost at *
                  clear hcz hHD hc0 hzne hbz HLEN HDD HZ X1 X2 X3 X4 X5 X6 HR HV HN HBL HC ho hoe
                  go_wp2_with (first | (go_at_call 24; refine (CB.out _).mono ?_; rintro e w' ⟨rfl, rfl⟩) | (go_at_call 25; refine (CN.out _).mono ?_; rintro e w' ⟨rfl, rfl⟩) | (go_at_call 27; refine (CD.out _).mono ?_; rintro e w' ⟨rfl, rfl⟩) | (go_at_call 31; refine (CG.out _).mono ?_; rintro e w' ⟨rfl, rfl⟩) | (go_at_call 33; refine (CS.out _).mono ?_; rintro e w' ⟨rfl, rfl⟩))
                  refine (CX.out _).mono ?_
                  rintro e w2 ⟨rfl, hb2⟩
                  have HB := hid (hbw.trans (hb2.mono hbw.size))
                  have hfb2 := (hb2.block _ (Array.getElem?_eq_some_iff.1 hfb).1).trans hfb
                  have hwb2 := (hb2.block _ (Array.getElem?_eq_some_iff.1 hwb).1).trans hwb
                  obtain ⟨⟨k0, k1, k2, k3⟩, ⟨q0, q1, q2, q3⟩, _⟩ := row4 hwb2
                  obtain ⟨⟨f0, f1⟩, ⟨g0, g1⟩, _⟩ := row2 hfb2
                  clear hb2 hfb hwb hwb2 hfb2 hbw i0 ht1 hts hlti hle CB CN CD CG CS HO HWD hsz CX hlen
                  go_wp2
                  try rw [Exit.noGoto_ret]
                  refine bodyPost_ret (v := .tuple #[.slice none 0 0, .agg #[.int .i64 oe, .int .i64 (pos : Nat)]]) (by simp [results, Tryd.results14, go_sem, f0, f1]) rfl ⟨_, rfl, by rw [HF.out]; rfl, ?_⟩
                  exact (((((HB.out.setCell (p := ⟨w.heap.size + 1, 0, none⟩) (Nat.le_succ _) _).setCell (p := ⟨w.heap.size + 1, 1, none⟩) (Nat.le_succ _) _).setCell (p := ⟨w.heap.size + 1, 2, none⟩) (Nat.le_succ _) _).setCell (p := ⟨w.heap.size + 1, 3, none⟩) (Nat.le_succ _) _).setCell (p := ⟨w.heap.size, 0, none⟩) (Nat.le_refl _) _).setCell (p := ⟨w.heap.size, 1, none⟩) (Nat.le_refl _) _
              · cases hgr : greatB c with
                | true =>
                  rw [hgr] at CG
                  have HC := hid (one_con (z := z) (by rw [hc0]; exact hdg) (by rw [hc0]; exact h34) (by rw [hc0]; exact h39) (by rw [hc0]; exact hgr))
                  have CX := X4
                  have hC : cutOne z = cutOne z := rfl
                  obtain ⟨o, ho⟩ : ∃ o, cutOne z = o := ⟨_, rfl⟩
                  rw [← HC.out, ho] at CX
                  obtain ⟨ok, on, os, osz, oe⟩ := o
                  have hcv : Cut.v ⟨ok, on, os, osz, oe⟩ = .tuple #[.agg #[.int .i64 ok, .int .i64 on, .int .i64 0, .string (strOfNums os)], .int .i64 osz, .int .i64 oe] := rfl
                  rw [hcv] at CX
                  clear hcv hC
                  by_cases he : oe = 0
                  · subst he
                    have hoe : (cutOne z).e = 0 := by rw [ho]
                    have hsz2 := cutOne_size hzne hoe
                    have hlast := cutOne_last hzne hoe
                    rw [ho] at hsz2 hlast
                    simp only at hsz2 hlast
                    have HF : Hid (g = (lexA (zs.drop (pos + osz)) ((pos + osz : Nat) : Int)).on (acc ++ [⟨ok, on, pos, os⟩])) := by
                      show _ = _
                      have h := HR.out
                      rw [hHD, lexA_word _ (by rw [hc0]; exact HBL.out) (by rw [← hHD]; exact HN.out) (by rw [← hHD]; exact hoe), ← hHD, ho] at h
                      simp only at h
                      rw [h, Told.on_cons, HDD.out, Int.natCast_add]
                    have HV1 := hid (show Valid (zs.drop (pos + osz)) by
                      have := valid_low HV.out osz hsz2.1 hsz2.2 hlast
                      rw [HDD.out] at this
                      exact this)
                    have hpk : pos + osz ≤ zs.length := by have := HLEN.out; omega
                    have hk1 : 1 ≤ osz := hsz2.1
                    have HROW := hid (show (Wd.mk ok on pos os).row = [.int .i64 ok, .int .i64 on, .int .i64 (pos : Nat), .string (strOfNums os)] from rfl)
                    generalize strOfNums os = ost at *
                    clear hHD hc0 hzne hbz HLEN HDD HZ X1 X2 X3 X4 X5 X6 HR HV hsz2 hlast HN HBL HC ho hoe
                    go_wp2_with (first | (go_at_call 24; refine (CB.out _).mono ?_; rintro e w' ⟨rfl, rfl⟩) | (go_at_call 25; refine (CN.out _).mono ?_; rintro e w' ⟨rfl, rfl⟩) | (go_at_call 27; refine (CD.out _).mono ?_; rintro e w' ⟨rfl, rfl⟩) | (go_at_call 31; refine (CG.out _).mono ?_; rintro e w' ⟨rfl, rfl⟩) | (go_at_call 33; refine (CS.out _).mono ?_; rintro e w' ⟨rfl, rfl⟩))
                    refine (CX.out _).mono ?_
                    rintro e w2 ⟨rfl, hb2⟩
                    have HB := hid (hbw.trans (hb2.mono hbw.size))
                    have HFB := hid ((hb2.block _ (Array.getElem?_eq_some_iff.1 hfb).1).trans hfb)
                    have hwb2 := (hb2.block _ (Array.getElem?_eq_some_iff.1 hwb).1).trans hwb
                    have HWB := hid hwb2
                    obtain ⟨⟨k0, k1, k2, k3⟩, ⟨g0, g1, g2, g3⟩, _⟩ := row4 hwb2
                    have HO2 := hid (show OwnW _ _ _ _ from Stk.OwnR.below HO.out hb2)
                    have HSZ := hid (Nat.le_trans hsz hb2.size)
                    have HWD2 := hid (HWD.out.below hb2)
                    have HAL := hid hlen
                    have HPK := hid hpk
                    have HK1 := hid hk1
                    clear hb2 hfb hwb hwb2 hbw i0 ht1 hts hlti hle CB CN CD CG CS HO HWD hsz CX hlen hpk hk1
                    go_upto_region 28 with (fail)
                    obtain ⟨W5, hW5⟩ : ∃ W5, W5 = setW w2 (w.heap.size + 1) ok on ost pos := ⟨_, rfl⟩
                    have HR5 := hid (show W5.heap[w.heap.size + 1]? = some (.cells #[.int .i64 ok, .int .i64 on, .int .i64 (pos : Nat), .string ost] 31 (0, 0)) from hW5 ▸ setW_row HWB.out ok on ost pos)
                    have HO5 := hid (show OwnW (w.heap.size + 2) W5 u4 acc from hW5 ▸ setW_own HO2.out (Nat.lt_succ_self _) ok on ost pos)
                    have HB5 := hid (show Below w.heap.size w W5 from hW5 ▸ setW_below HB.out (Nat.le_succ _) ok on ost pos)
                    have HF5 := hid (show W5.heap[w.heap.size]? = _ from hW5 ▸ (setW_other w2 _ _ (Nat.ne_of_lt (Nat.lt_succ_self _)) ok on ost pos).trans HFB.out)
                    have HS5 := hid (show w.heap.size + 2 ≤ W5.heap.size from hW5 ▸ setW_le HSZ.out)
                    unfold setW at hW5
                    rw [← hW5]
                    clear hW5 k0 k1 k2 k3 g0 g1 g2 g3 HWB HO2 HB HFB HSZ HWD2
                    obtain ⟨⟨k0, k1, k2, k3⟩, _, _⟩ := row4 HR5.out
                    go_wp2_with (at_builtin; refine Stk.append_rows infoW rfl (by decide) (by decide) Tryd.underlying23 rfl (.tmp 88) (.tmp 90) rfl (base := w.heap.size + 2) (w0 := W5) (xs := acc.map Wd.row) [[.int .i64 ok, .int .i64 on, .int .i64 (pos : Nat), .string ost]] rfl (Stk.OwnR.alloc HO5.out _) ((Below.refl _ _).alloc HS5.out _) (by rw [World.size_alloc]; exact Nat.le_succ_of_le HS5.out) ⟨W5.heap.size, 0, none⟩ 1 1 rfl rfl (by simp) (new_row _ _ _ _ _) (by simp [Value.oneCell']) (by rw [List.length_map]; exact acc_few HAL.out hlt hl) ?_; intro v' w3 hown3 hb3 hs3 _)
                    go_roundw
                    case rel =>
                      have hmap : (acc ++ [Wd.mk ok on pos os]).map Wd.row = acc.map Wd.row ++ [[.int .i64 ok, .int .i64 on, .int .i64 (pos : Nat), .string ost]] := by rw [List.map_append, List.map_singleton, HROW.out]
                      have hown4 : OwnW (w.heap.size + 2) w3 v' (acc ++ [Wd.mk ok on pos os]) := by unfold OwnW; rw [hmap]; exact hown3
                      have hw3 := HB5.out.trans (hb3.mono (Nat.le_add_right _ _))
                      have h2 : w.heap.size + 1 < w.heap.size + 2 := Nat.lt_succ_self _
                      have hpk := HPK.out
                      have hk1 := HK1.out
                      refine ⟨pos + osz, _, rfl, by rw [add_small hpk hl], ⟨hw3, ?_, ⟨_, _, _, _, (hb3.block _ h2).trans HR5.out⟩, hown4, hs3, hpk, HV1.out, by rw [List.length_append]; exact Nat.add_le_add HAL.out hk1, HF.out, ?_⟩⟩
                      · exact (hb3.block _ (Nat.lt_succ_of_lt (Nat.lt_succ_self _))).trans HF5.out
                      · exact HT.out.below hw3
                    case measure =>
                      have hk1 := HK1.out
                      rw [add_small HPK.out hl]
                      simp only [intOf, Int.toNat_natCast]
                      omega
                  · have hoe : (cutOne z).e ≠ 0 := by rw [ho]; exact he
                    have HF : Hid (g = .bad oe pos) := by
                      show _ = _
                      have h := HR.out
                      rw [hHD, lexA_bad _ (by rw [hc0]; exact HBL.out) (by rw [← hHD]; exact HN.out) (by rw [← hHD]; exact hoe), ← hHD, ho] at h
                      exact h
                    generalize strOfNums os = ost at *
                    clear hHD hc0 hzne hbz HLEN HDD HZ X1 X2 X3 X4 X5 X6 HR HV HN HBL HC ho hoe
                    go_wp2_with (first | (go_at_call 24; refine (CB.out _).mono ?_; rintro e w' ⟨rfl, rfl⟩) | (go_at_call 25; refine (CN.out _).mono ?_; rintro e w' ⟨rfl, rfl⟩) | (go_at_call 27; refine (CD.out _).mono ?_; rintro e w' ⟨rfl, rfl⟩) | (go_at_call 31; refine (CG.out _).mono ?_; rintro e w' ⟨rfl, rfl⟩) | (go_at_call 33; refine (CS.out _).mono ?_; rintro e w' ⟨rfl, rfl⟩))
                    refine (CX.out _).mono ?_
                    rintro e w2 ⟨rfl, hb2⟩
                    have HB := hid (hbw.trans (hb2.mono hbw.size))
                    have hfb2 := (hb2.block _ (Array.getElem?_eq_some_iff.1 hfb).1).trans hfb
                    have hwb2 := (hb2.block _ (Array.getElem?_eq_some_iff.1 hwb).1).trans hwb
                    obtain ⟨⟨k0, k1, k2, k3⟩, ⟨q0, q1, q2, q3⟩, _⟩ := row4 hwb2
                    obtain ⟨⟨f0, f1⟩, ⟨g0, g1⟩, _⟩ := row2 hfb2
                    clear hb2 hfb hwb hwb2 hfb2 hbw i0 ht1 hts hlti hle CB CN CD CG CS HO HWD hsz CX hlen
                    go_wp2
                    try rw [Exit.noGoto_ret]
                    refine bodyPost_ret (v := .tuple #[.slice none 0 0, .agg #[.int .i64 oe, .int .i64 (pos : Nat)]]) (by simp [results, Tryd.results14, go_sem, f0, f1]) rfl ⟨_, rfl, by rw [HF.out]; rfl, ?_⟩
                    exact (((((HB.out.setCell (p := ⟨w.heap.size + 1, 0, none⟩) (Nat.le_succ _) _).setCell (p := ⟨w.heap.size + 1, 1, none⟩) (Nat.le_succ _) _).setCell (p := ⟨w.heap.size + 1, 2, none⟩) (Nat.le_succ _) _).setCell (p := ⟨w.heap.size + 1, 3, none⟩) (Nat.le_succ _) _).setCell (p := ⟨w.heap.size, 0, none⟩) (Nat.le_refl _) _).setCell (p := ⟨w.heap.size, 1, none⟩) (Nat.le_refl _) _
                | false =>
                  rw [hgr] at CG
                  cases hbg : beginsB c with
                  | true =>
                    rw [hbg] at CS
                    have HC := hid (one_name (z := z) (by rw [hc0]; exact hdg) (by rw [hc0]; exact h34) (by rw [hc0]; exact h39) (by rw [hc0]; exact hgr) (by rw [hc0]; exact hbg))
                    have CX := X5
                    have hC : cutOne z = cutOne z := rfl
                    obtain ⟨o, ho⟩ : ∃ o, cutOne z = o := ⟨_, rfl⟩
                    rw [← HC.out, ho] at CX
                    obtain ⟨ok, on, os, osz, oe⟩ := o
                    have hcv : Cut.v ⟨ok, on, os, osz, oe⟩ = .tuple #[.agg #[.int .i64 ok, .int .i64 on, .int .i64 0, .string (strOfNums os)], .int .i64 osz, .int .i64 oe] := rfl
                    rw [hcv] at CX
                    clear hcv hC
                    by_cases he : oe = 0
                    · subst he
                      have hoe : (cutOne z).e = 0 := by rw [ho]
                      have hsz2 := cutOne_size hzne hoe
                      have hlast := cutOne_last hzne hoe
                      rw [ho] at hsz2 hlast
                      simp only at hsz2 hlast
                      have HF : Hid (g = (lexA (zs.drop (pos + osz)) ((pos + osz : Nat) : Int)).on (acc ++ [⟨ok, on, pos, os⟩])) := by
                        show _ = _
                        have h := HR.out
                        rw [hHD, lexA_word _ (by rw [hc0]; exact HBL.out) (by rw [← hHD]; exact HN.out) (by rw [← hHD]; exact hoe), ← hHD, ho] at h
                        simp only at h
                        rw [h, Told.on_cons, HDD.out, Int.natCast_add]
                      have HV1 := hid (show Valid (zs.drop (pos + osz)) by
                        have := valid_low HV.out osz hsz2.1 hsz2.2 hlast
                        rw [HDD.out] at this
                        exact this)
                      have hpk : pos + osz ≤ zs.length := by have := HLEN.out; omega
                      have hk1 : 1 ≤ osz := hsz2.1
                      have HROW := hid (show (Wd.mk ok on pos os).row = [.int .i64 ok, .int .i64 on, .int .i64 (pos : Nat), .string (strOfNums os)] from rfl)
                      generalize strOfNums os = ost at *
                      clear hHD hc0 hzne hbz HLEN HDD HZ X1 X2 X3 X4 X5 X6 HR HV hsz2 hlast HN HBL HC ho hoe
                      go_wp2_with (first | (go_at_call 24; refine (CB.out _).mono ?_; rintro e w' ⟨rfl, rfl⟩) | (go_at_call 25; refine (CN.out _).mono ?_; rintro e w' ⟨rfl, rfl⟩) | (go_at_call 27; refine (CD.out _).mono ?_; rintro e w' ⟨rfl, rfl⟩) | (go_at_call 31; refine (CG.out _).mono ?_; rintro e w' ⟨rfl, rfl⟩) | (go_at_call 33; refine (CS.out _).mono ?_; rintro e w' ⟨rfl, rfl⟩))
                      refine (CX.out _ HWD.out).mono ?_
                      rintro e w2 ⟨rfl, hb2⟩
                      have HB := hid (hbw.trans (hb2.mono hbw.size))
                      have HFB := hid ((hb2.block _ (Array.getElem?_eq_some_iff.1 hfb).1).trans hfb)
                      have hwb2 := (hb2.block _ (Array.getElem?_eq_some_iff.1 hwb).1).trans hwb
                      have HWB := hid hwb2
                      obtain ⟨⟨k0, k1, k2, k3⟩, ⟨g0, g1, g2, g3⟩, _⟩ := row4 hwb2
                      have HO2 := hid (show OwnW _ _ _ _ from Stk.OwnR.below HO.out hb2)
                      have HSZ := hid (Nat.le_trans hsz hb2.size)
                      have HWD2 := hid (HWD.out.below hb2)
                      have HAL := hid hlen
                      have HPK := hid hpk
                      have HK1 := hid hk1
                      clear hb2 hfb hwb hwb2 hbw i0 ht1 hts hlti hle CB CN CD CG CS HO HWD hsz CX hlen hpk hk1
                      go_upto_region 28 with (fail)
                      obtain ⟨W5, hW5⟩ : ∃ W5, W5 = setW w2 (w.heap.size + 1) ok on ost pos := ⟨_, rfl⟩
                      have HR5 := hid (show W5.heap[w.heap.size + 1]? = some (.cells #[.int .i64 ok, .int .i64 on, .int .i64 (pos : Nat), .string ost] 31 (0, 0)) from hW5 ▸ setW_row HWB.out ok on ost pos)
                      have HO5 := hid (show OwnW (w.heap.size + 2) W5 u4 acc from hW5 ▸ setW_own HO2.out (Nat.lt_succ_self _) ok on ost pos)
                      have HB5 := hid (show Below w.heap.size w W5 from hW5 ▸ setW_below HB.out (Nat.le_succ _) ok on ost pos)
                      have HF5 := hid (show W5.heap[w.heap.size]? = _ from hW5 ▸ (setW_other w2 _ _ (Nat.ne_of_lt (Nat.lt_succ_self _)) ok on ost pos).trans HFB.out)
                      have HS5 := hid (show w.heap.size + 2 ≤ W5.heap.size from hW5 ▸ setW_le HSZ.out)
                      unfold setW at hW5
                      rw [← hW5]
                      clear hW5 k0 k1 k2 k3 g0 g1 g2 g3 HWB HO2 HB HFB HSZ HWD2
                      obtain ⟨⟨k0, k1, k2, k3⟩, _, _⟩ := row4 HR5.out
                      go_wp2_with (at_builtin; refine Stk.append_rows infoW rfl (by decide) (by decide) Tryd.underlying23 rfl (.tmp 88) (.tmp 90) rfl (base := w.heap.size + 2) (w0 := W5) (xs := acc.map Wd.row) [[.int .i64 ok, .int .i64 on, .int .i64 (pos : Nat), .string ost]] rfl (Stk.OwnR.alloc HO5.out _) ((Below.refl _ _).alloc HS5.out _) (by rw [World.size_alloc]; exact Nat.le_succ_of_le HS5.out) ⟨W5.heap.size, 0, none⟩ 1 1 rfl rfl (by simp) (new_row _ _ _ _ _) (by simp [Value.oneCell']) (by rw [List.length_map]; exact acc_few HAL.out hlt hl) ?_; intro v' w3 hown3 hb3 hs3 _)
                      go_roundw
                      case rel =>
                        have hmap : (acc ++ [Wd.mk ok on pos os]).map Wd.row = acc.map Wd.row ++ [[.int .i64 ok, .int .i64 on, .int .i64 (pos : Nat), .string ost]] := by rw [List.map_append, List.map_singleton, HROW.out]
                        have hown4 : OwnW (w.heap.size + 2) w3 v' (acc ++ [Wd.mk ok on pos os]) := by unfold OwnW; rw [hmap]; exact hown3
                        have hw3 := HB5.out.trans (hb3.mono (Nat.le_add_right _ _))
                        have h2 : w.heap.size + 1 < w.heap.size + 2 := Nat.lt_succ_self _
                        have hpk := HPK.out
                        have hk1 := HK1.out
                        refine ⟨pos + osz, _, rfl, by rw [add_small hpk hl], ⟨hw3, ?_, ⟨_, _, _, _, (hb3.block _ h2).trans HR5.out⟩, hown4, hs3, hpk, HV1.out, by rw [List.length_append]; exact Nat.add_le_add HAL.out hk1, HF.out, ?_⟩⟩
                        · exact (hb3.block _ (Nat.lt_succ_of_lt (Nat.lt_succ_self _))).trans HF5.out
                        · exact HT.out.below hw3
                      case measure =>
                        have hk1 := HK1.out
                        rw [add_small HPK.out hl]
                        simp only [intOf, Int.toNat_natCast]
                        omega
                    · have hoe : (cutOne z).e ≠ 0 := by rw [ho]; exact he
                      have HF : Hid (g = .bad oe pos) := by
                        show _ = _
                        have h := HR.out
                        rw [hHD, lexA_bad _ (by rw [hc0]; exact HBL.out) (by rw [← hHD]; exact HN.out) (by rw [← hHD]; exact hoe), ← hHD, ho] at h
                        exact h
                      generalize strOfNums os = ost at *
                      clear hHD hc0 hzne hbz HLEN HDD HZ X1 X2 X3 X4 X5 X6 HR HV HN HBL HC ho hoe
                      go_wp2_with (first | (go_at_call 24; refine (CB.out _).mono ?_; rintro e w' ⟨rfl, rfl⟩) | (go_at_call 25; refine (CN.out _).mono ?_; rintro e w' ⟨rfl, rfl⟩) | (go_at_call 27; refine (CD.out _).mono ?_; rintro e w' ⟨rfl, rfl⟩) | (go_at_call 31; refine (CG.out _).mono ?_; rintro e w' ⟨rfl, rfl⟩) | (go_at_call 33; refine (CS.out _).mono ?_; rintro e w' ⟨rfl, rfl⟩))
                      refine (CX.out _ HWD.out).mono ?_
                      rintro e w2 ⟨rfl, hb2⟩
                      have HB := hid (hbw.trans (hb2.mono hbw.size))
                      have hfb2 := (hb2.block _ (Array.getElem?_eq_some_iff.1 hfb).1).trans hfb
                      have hwb2 := (hb2.block _ (Array.getElem?_eq_some_iff.1 hwb).1).trans hwb
                      obtain ⟨⟨k0, k1, k2, k3⟩, ⟨q0, q1, q2, q3⟩, _⟩ := row4 hwb2
                      obtain ⟨⟨f0, f1⟩, ⟨g0, g1⟩, _⟩ := row2 hfb2
                      clear hb2 hfb hwb hwb2 hfb2 hbw i0 ht1 hts hlti hle CB CN CD CG CS HO HWD hsz CX hlen
                      go_wp2
                      try rw [Exit.noGoto_ret]
                      refine bodyPost_ret (v := .tuple #[.slice none 0 0, .agg #[.int .i64 oe, .int .i64 (pos : Nat)]]) (by simp [results, Tryd.results14, go_sem, f0, f1]) rfl ⟨_, rfl, by rw [HF.out]; rfl, ?_⟩
                      exact (((((HB.out.setCell (p := ⟨w.heap.size + 1, 0, none⟩) (Nat.le_succ _) _).setCell (p := ⟨w.heap.size + 1, 1, none⟩) (Nat.le_succ _) _).setCell (p := ⟨w.heap.size + 1, 2, none⟩) (Nat.le_succ _) _).setCell (p := ⟨w.heap.size + 1, 3, none⟩) (Nat.le_succ _) _).setCell (p := ⟨w.heap.size, 0, none⟩) (Nat.le_refl _) _).setCell (p := ⟨w.heap.size, 1, none⟩) (Nat.le_refl _) _
                  | false =>
                    rw [hbg] at CS
                    have HC := hid (one_sign (z := z) (by rw [hc0]; exact hdg) (by rw [hc0]; exact h34) (by rw [hc0]; exact h39) (by rw [hc0]; exact hgr) (by rw [hc0]; exact hbg))
                    have CX := X6
                    have hC : cutOne z = cutOne z := rfl
                    obtain ⟨o, ho⟩ : ∃ o, cutOne z = o := ⟨_, rfl⟩
                    rw [← HC.out, ho] at CX
                    obtain ⟨ok, on, os, osz, oe⟩ := o
                    have hcv : Cut.v ⟨ok, on, os, osz, oe⟩ = .tuple #[.agg #[.int .i64 ok, .int .i64 on, .int .i64 0, .string (strOfNums os)], .int .i64 osz, .int .i64 oe] := rfl
                    rw [hcv] at CX
                    clear hcv hC
                    by_cases he : oe = 0
                    · subst he
                      have hoe : (cutOne z).e = 0 := by rw [ho]
                      have hsz2 := cutOne_size hzne hoe
                      have hlast := cutOne_last hzne hoe
                      rw [ho] at hsz2 hlast
                      simp only at hsz2 hlast
                      have HF : Hid (g = (lexA (zs.drop (pos + osz)) ((pos + osz : Nat) : Int)).on (acc ++ [⟨ok, on, pos, os⟩])) := by
                        show _ = _
                        have h := HR.out
                        rw [hHD, lexA_word _ (by rw [hc0]; exact HBL.out) (by rw [← hHD]; exact HN.out) (by rw [← hHD]; exact hoe), ← hHD, ho] at h
                        simp only at h
                        rw [h, Told.on_cons, HDD.out, Int.natCast_add]
                      have HV1 := hid (show Valid (zs.drop (pos + osz)) by
                        have := valid_low HV.out osz hsz2.1 hsz2.2 hlast
                        rw [HDD.out] at this
                        exact this)
                      have hpk : pos + osz ≤ zs.length := by have := HLEN.out; omega
                      have hk1 : 1 ≤ osz := hsz2.1
                      have HROW := hid (show (Wd.mk ok on pos os).row = [.int .i64 ok, .int .i64 on, .int .i64 (pos : Nat), .string (strOfNums os)] from rfl)
                      generalize strOfNums os = ost at *
                      clear hHD hc0 hzne hbz HLEN HDD HZ X1 X2 X3 X4 X5 X6 HR HV hsz2 hlast HN HBL HC ho hoe
                      go_wp2_with (first | (go_at_call 24; refine (CB.out _).mono ?_; rintro e w' ⟨rfl, rfl⟩) | (go_at_call 25; refine (CN.out _).mono ?_; rintro e w' ⟨rfl, rfl⟩) | (go_at_call 27; refine (CD.out _).mono ?_; rintro e w' ⟨rfl, rfl⟩) | (go_at_call 31; refine (CG.out _).mono ?_; rintro e w' ⟨rfl, rfl⟩) | (go_at_call 33; refine (CS.out _).mono ?_; rintro e w' ⟨rfl, rfl⟩))
                      refine (CX.out _ HWD.out).mono ?_
                      rintro e w2 ⟨rfl, hb2⟩
                      have HB := hid (hbw.trans (hb2.mono hbw.size))
                      have HFB := hid ((hb2.block _ (Array.getElem?_eq_some_iff.1 hfb).1).trans hfb)
                      have hwb2 := (hb2.block _ (Array.getElem?_eq_some_iff.1 hwb).1).trans hwb
                      have HWB := hid hwb2
                      obtain ⟨⟨k0, k1, k2, k3⟩, ⟨g0, g1, g2, g3⟩, _⟩ := row4 hwb2
                      have HO2 := hid (show OwnW _ _ _ _ from Stk.OwnR.below HO.out hb2)
                      have HSZ := hid (Nat.le_trans hsz hb2.size)
                      have HWD2 := hid (HWD.out.below hb2)
                      have HAL := hid hlen
                      have HPK := hid hpk
                      have HK1 := hid hk1
                      clear hb2 hfb hwb hwb2 hbw i0 ht1 hts hlti hle CB CN CD CG CS HO HWD hsz CX hlen hpk hk1
                      go_upto_region 28 with (fail)
                      obtain ⟨W5, hW5⟩ : ∃ W5, W5 = setW w2 (w.heap.size + 1) ok on ost pos := ⟨_, rfl⟩
                      have HR5 := hid (show W5.heap[w.heap.size + 1]? = some (.cells #[.int .i64 ok, .int .i64 on, .int .i64 (pos : Nat), .string ost] 31 (0, 0)) from hW5 ▸ setW_row HWB.out ok on ost pos)
                      have HO5 := hid (show OwnW (w.heap.size + 2) W5 u4 acc from hW5 ▸ setW_own HO2.out (Nat.lt_succ_self _) ok on ost pos)
                      have HB5 := hid (show Below w.heap.size w W5 from hW5 ▸ setW_below HB.out (Nat.le_succ _) ok on ost pos)
                      have HF5 := hid (show W5.heap[w.heap.size]? = _ from hW5 ▸ (setW_other w2 _ _ (Nat.ne_of_lt (Nat.lt_succ_self _)) ok on ost pos).trans HFB.out)
                      have HS5 := hid (show w.heap.size + 2 ≤ W5.heap.size from hW5 ▸ setW_le HSZ.out)
                      unfold setW at hW5
                      rw [← hW5]
                      clear hW5 k0 k1 k2 k3 g0 g1 g2 g3 HWB HO2 HB HFB HSZ HWD2
                      obtain ⟨⟨k0, k1, k2, k3⟩, _, _⟩ := row4 HR5.out
                      go_wp2_with (at_builtin; refine Stk.append_rows infoW rfl (by decide) (by decide) Tryd.underlying23 rfl (.tmp 88) (.tmp 90) rfl (base := w.heap.size + 2) (w0 := W5) (xs := acc.map Wd.row) [[.int .i64 ok, .int .i64 on, .int .i64 (pos : Nat), .string ost]] rfl (Stk.OwnR.alloc HO5.out _) ((Below.refl _ _).alloc HS5.out _) (by rw [World.size_alloc]; exact Nat.le_succ_of_le HS5.out) ⟨W5.heap.size, 0, none⟩ 1 1 rfl rfl (by simp) (new_row _ _ _ _ _) (by simp [Value.oneCell']) (by rw [List.length_map]; exact acc_few HAL.out hlt hl) ?_; intro v' w3 hown3 hb3 hs3 _)
                      go_roundw
                      case rel =>
                        have hmap : (acc ++ [Wd.mk ok on pos os]).map Wd.row = acc.map Wd.row ++ [[.int .i64 ok, .int .i64 on, .int .i64 (pos : Nat), .string ost]] := by rw [List.map_append, List.map_singleton, HROW.out]
                        have hown4 : OwnW (w.heap.size + 2) w3 v' (acc ++ [Wd.mk ok on pos os]) := by unfold OwnW; rw [hmap]; exact hown3
                        have hw3 := HB5.out.trans (hb3.mono (Nat.le_add_right _ _))
                        have h2 : w.heap.size + 1 < w.heap.size + 2 := Nat.lt_succ_self _
                        have hpk := HPK.out
                        have hk1 := HK1.out
                        refine ⟨pos + osz, _, rfl, by rw [add_small hpk hl], ⟨hw3, ?_, ⟨_, _, _, _, (hb3.block _ h2).trans HR5.out⟩, hown4, hs3, hpk, HV1.out, by rw [List.length_append]; exact Nat.add_le_add HAL.out hk1, HF.out, ?_⟩⟩
                        · exact (hb3.block _ (Nat.lt_succ_of_lt (Nat.lt_succ_self _))).trans HF5.out
                        · exact HT.out.below hw3
                      case measure =>
                        have hk1 := HK1.out
                        rw [add_small HPK.out hl]
                        simp only [intOf, Int.toNat_natCast]
                        omega
                    · have hoe : (cutOne z).e ≠ 0 := by rw [ho]; exact he
                      have HF : Hid (g = .bad oe pos) := by
                        show _ = _
                        have h := HR.out
                        rw [hHD, lexA_bad _ (by rw [hc0]; exact HBL.out) (by rw [← hHD]; exact HN.out) (by rw [← hHD]; exact hoe), ← hHD, ho] at h
                        exact h
                      generalize strOfNums os = ost at *
                      clear hHD hc0 hzne hbz HLEN HDD HZ X1 X2 X3 X4 X5 X6 HR HV HN HBL HC ho hoe
                      go_wp2_with (first | (go_at_call 24; refine (CB.out _).mono ?_; rintro e w' ⟨rfl, rfl⟩) | (go_at_call 25; refine (CN.out _).mono ?_; rintro e w' ⟨rfl, rfl⟩) | (go_at_call 27; refine (CD.out _).mono ?_; rintro e w' ⟨rfl, rfl⟩) | (go_at_call 31; refine (CG.out _).mono ?_; rintro e w' ⟨rfl, rfl⟩) | (go_at_call 33; refine (CS.out _).mono ?_; rintro e w' ⟨rfl, rfl⟩))
                      refine (CX.out _ HWD.out).mono ?_
                      rintro e w2 ⟨rfl, hb2⟩
                      have HB := hid (hbw.trans (hb2.mono hbw.size))
                      have hfb2 := (hb2.block _ (Array.getElem?_eq_some_iff.1 hfb).1).trans hfb
                      have hwb2 := (hb2.block _ (Array.getElem?_eq_some_iff.1 hwb).1).trans hwb
                      obtain ⟨⟨k0, k1, k2, k3⟩, ⟨q0, q1, q2, q3⟩, _⟩ := row4 hwb2
                      obtain ⟨⟨f0, f1⟩, ⟨g0, g1⟩, _⟩ := row2 hfb2
                      clear hb2 hfb hwb hwb2 hfb2 hbw i0 ht1 hts hlti hle CB CN CD CG CS HO HWD hsz CX hlen
                      go_wp2
                      try rw [Exit.noGoto_ret]
                      refine bodyPost_ret (v := .tuple #[.slice none 0 0, .agg #[.int .i64 oe, .int .i64 (pos : Nat)]]) (by simp [results, Tryd.results14, go_sem, f0, f1]) rfl ⟨_, rfl, by rw [HF.out]; rfl, ?_⟩
                      exact (((((HB.out.setCell (p := ⟨w.heap.size + 1, 0, none⟩) (Nat.le_succ _) _).setCell (p := ⟨w.heap.size + 1, 1, none⟩) (Nat.le_succ _) _).setCell (p := ⟨w.heap.size + 1, 2, none⟩) (Nat.le_succ _) _).setCell (p := ⟨w.heap.size + 1, 3, none⟩) (Nat.le_succ _) _).setCell (p := ⟨w.heap.size, 0, none⟩) (Nat.le_refl _) _).setCell (p := ⟨w.heap.size, 1, none⟩) (Nat.le_refl _) _
    · obtain rfl : pos = zs.length := by omega
      have HF : Hid (g = .ok acc) := by
        have h := HR.out
        rw [List.drop_length] at h
        rw [lexA_nil] at h
        show _ = _
        rw [h]; simp [Told.on]
      have HB := hid hbw
      obtain ⟨⟨f0, f1⟩, ⟨g0, g1⟩, _⟩ := row2 hfb
      obtain ⟨a, c, hvv⟩ := HO.out.slice4
      subst hvv
      clear HR HV HWD HS HBY HD hbw hwb hfb
      go_wp2
      try rw [Exit.noGoto_ret]
      refine bodyPost_ret (v := .tuple #[.slice a acc.length c, .agg #[.int .i64 0, .int .i64 0]]) (by simp [results, Tryd.results14, go_sem, f0, f1]) rfl ⟨_, rfl, ?_, ?_⟩
      · rw [HF.out]
        refine ⟨_, rfl, ?_⟩
        exact Stk.OwnR.mono (Stk.OwnR.setCell (Stk.OwnR.setCell HO.out (p := ⟨w.heap.size, 0, none⟩) (Nat.lt_add_of_pos_right (by decide)) _) (p := ⟨w.heap.size, 1, none⟩) (Nat.lt_add_of_pos_right (by decide)) _) (Nat.le_add_right _ _)
      · exact (HB.out.setCell (p := ⟨w.heap.size, 0, none⟩) (by simp) _).setCell (p := ⟨w.heap.size, 1, none⟩) (by simp) _
end Go.Proofs.YtojgibigmoaejaaDoor.Lex
