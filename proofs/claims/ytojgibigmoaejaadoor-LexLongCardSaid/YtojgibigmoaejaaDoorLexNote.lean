/-
  LEX: whether a note begins, how long it is: by contract.
-/
import Derived.Test.YtojgibigmoaejaaDoorLexInt
namespace Go.Proofs.YtojgibigmoaejaaDoor.Lex
open Go.RowKit Go.Proofs.YtojgibigmoaejaaDoor.Utf
set_option linter.unusedSimpArgs false
set_option linter.unusedVariables false

theorem map_map_add (x : Option Nat) (a b : Nat) : (x.map (· + a)).map (· + b) = x.map (· + (b + a)) := by
  cases x with
  | none => rfl
  | some n => simp; omega
theorem note_open {zs : List Int} (d : Int) (h : zs.take 2 = [40, 42]) : noteGo d 0 zs = (noteGo (d + 1) 1 (zs.drop 1)).map (· + 1) := by
  match zs, h with
  | a :: b :: t, h =>
    simp only [List.take_succ_cons, List.take_zero, List.cons.injEq, and_true] at h
    obtain ⟨rfl, rfl⟩ := h
    simp [noteGo]
theorem note_close {zs : List Int} (d : Int) (h : zs.take 2 = [42, 41]) : noteGo d 0 zs = if d - 1 = 0 then some 2 else (noteGo (d - 1) 1 (zs.drop 1)).map (· + 1) := by
  match zs, h with
  | a :: b :: t, h =>
    simp only [List.take_succ_cons, List.take_zero, List.cons.injEq, and_true] at h
    obtain ⟨rfl, rfl⟩ := h
    simp [noteGo]
theorem note_else {zs : List Int} (d : Int) (h0 : zs ≠ []) (h1 : ¬ zs.take 2 = [40, 42]) (h2 : ¬ zs.take 2 = [42, 41]) : noteGo d 0 zs = (noteGo d 0 (zs.drop 1)).map (· + 1) := by
  cases zs with
  | nil => simp at h0
  | cons a t =>
    have a1 : ¬ (a = 40 ∧ t.head? = some 42) := by
      rintro ⟨rfl, h⟩
      cases t with
      | nil => simp at h
      | cons b t => simp at h; subst h; simp at h1
    have a2 : ¬ (a = 42 ∧ t.head? = some 41) := by
      rintro ⟨rfl, h⟩
      cases t with
      | nil => simp at h
      | cons b t => simp at h; subst h; simp at h2
    simp only [noteGo, if_neg a1, if_neg a2, List.drop_succ_cons, List.drop_zero]
theorem note_skip {zs : List Int} (d : Int) (h0 : zs ≠ []) : noteGo d 1 zs = (noteGo d 0 (zs.drop 1)).map (· + 1) := by
  cases zs with
  | nil => simp at h0
  | cons a t => simp [noteGo]
theorem note_high (zs : List Int) (d : Int) (pos : Nat) : ∀ k, pos + k ≤ zs.length → (∀ j, j < k → 128 ≤ zs.getD (pos + j) 0) → noteGo d 0 (zs.drop pos) = (noteGo d 0 (zs.drop (pos + k))).map (· + k)
  | 0, _, _ => by simp
  | k + 1, hk, h => by
    rw [note_high zs d pos k (by omega) fun j hj => h j (by omega)]
    have hd := drop_at (zs := zs) (i := pos + k) (by omega)
    have hc := h k (by omega)
    rw [note_else (zs := zs.drop (pos + k)) d (by rw [hd]; simp) (by rw [hd]; intro h; simp only [List.take_succ_cons, List.cons.injEq] at h; omega) (by rw [hd]; intro h; simp only [List.take_succ_cons, List.cons.injEq] at h; omega), List.drop_drop, map_map_add]
    rw [show pos + k + 1 = pos + (k + 1) by omega]

theorem prefix_at (zs : List Int) (hb : ∀ z ∈ zs, 0 ≤ z ∧ z < 256) (pos : Nat) (ps : List Int) (hp : ∀ z ∈ ps, 0 ≤ z ∧ z < 256) (w : World) :
    Calls Tryd.prog 47 #[.string ((strOfNums zs).extract pos zs.length), .string (strOfNums ps)] w fun e w' => e = .returned (.bool (decide ((zs.drop pos).take ps.length = ps))) ∧ w' = w := by
  rw [str_tail]
  exact prefix_any _ ps (fun z hz => hb z (List.mem_of_mem_drop hz)) hp w
theorem beginsNote_any (zs : List Int) (hb : ∀ z ∈ zs, 0 ≤ z ∧ z < 256) (w : World) :
    Calls Tryd.prog 25 #[.string (strOfNums zs)] w fun e w' => e = .returned (.bool (noteB zs)) ∧ w' = w := by
  have P := hid (fun W => show Calls Tryd.prog 47 #[.string (strOfNums zs), .string (strOfNums [40, 42])] W fun e w' => e = .returned (.bool (noteB zs)) ∧ w' = W from prefix_any zs [40, 42] hb (by decide) W)
  generalize noteB zs = q at *
  generalize strOfNums zs = s at *
  clear hb
  have hc : strOfNums [40, 42] = ⟨#[40, 42]⟩ := rfl
  rw [hc] at P
  go_enter Tryd.func25, Tryd.ntmps25
  go_wp2_with (go_at_call 47; refine (P.out _).mono ?_; rintro e w' ⟨rfl, rfl⟩)
  go_ret
  exact ⟨rfl, rfl⟩

/-- How a note's size is told: 0 if it does not end. -/
def noteN (zs : List Int) : Int := ((noteGo 0 0 zs).getD 0 : Nat)
set_option maxHeartbeats 2000000 in
theorem noteSize_any (zs : List Int) (hb : ∀ z ∈ zs, 0 ≤ z ∧ z < 256) (hl : zs.length ≤ 65536) (w : World) :
    Calls Tryd.prog 26 #[.string (strOfNums zs)] w fun e w' => e = .returned (.int .i64 (noteN zs)) ∧ Below w.heap.size w w' := by
  have hs : (strOfNums zs).size = zs.length := strOfNums_size _
  have HR := hid (fun pos (h : pos < zs.length) => dec_any hb h)
  have N := hid (fun pos W => show Calls Tryd.prog 25 #[.string ((strOfNums zs).extract pos zs.length)] W fun e w' => e = .returned (.bool (noteB (zs.drop pos))) ∧ w' = W by
    rw [str_tail]; exact beginsNote_any _ (fun z hz => hb z (List.mem_of_mem_drop hz)) W)
  have hc : strOfNums [42, 41] = ⟨#[42, 41]⟩ := rfl
  have P := hid (fun pos W => show Calls Tryd.prog 47 #[.string ((strOfNums zs).extract pos zs.length), .string ⟨#[42, 41]⟩] W fun e w' => e = .returned (.bool (decide ((zs.drop pos).take 2 = [42, 41]))) ∧ w' = W from hc ▸ prefix_at zs hb pos [42, 41] (by decide) W)
  have HD := hid (fun pos (h : pos < zs.length) => drop_at h)
  have HG := hid (note_high zs)
  clear hb
  generalize strOfNums zs = s at *
  have HO : Hid (∀ r, noteGo 0 0 zs = r → noteN zs = (r.getD 0 : Nat)) := hid fun r hr => by unfold noteN; rw [hr]
  generalize noteN zs = o at *
  obtain ⟨g, hg0⟩ : ∃ g, noteGo 0 0 zs = g := ⟨_, rfl⟩
  rw [hg0] at HO
  have hg0 := hid hg0.symm
  go_enter Tryd.func26, Tryd.ntmps26
  go_wp2
  go_loopw [3, 4] (fun dv nv wr => ∃ (pos : Nat) (d : Int) (sk : Nat) (nx : Int), dv = .int .i64 d ∧ nv = .int .i64 nx ∧ wr.heap[w.heap.size]? = some (.stringIter s pos) ∧ Below w.heap.size w wr ∧ pos ≤ zs.length ∧ -(pos : Int) ≤ d ∧ d ≤ pos
      ∧ (sk = 0 ∧ nx ≤ pos ∨ sk = 1 ∧ nx = pos + 1 ∧ pos < zs.length ∧ zs.getD pos 0 < 128) ∧ Hid (g = (noteGo d sk (zs.drop pos)).map (· + pos)))
    (fun _ _ wr => zs.length - wr.iterPos w.heap.size)
  case atStart => exact ⟨0, 0, 0, 0, rfl, rfl, World.iter_heap w s 0, (Below.refl _ _).alloc (Nat.le_refl _) _, Nat.zero_le _, by omega, by omega, .inl ⟨rfl, by omega⟩, hid (by rw [hg0.out]; simp)⟩
  case round =>
    obtain ⟨pos, d, sk, nx, rfl, rfl, hk, hbw, hpos, hd0, hd1, hsk, HN⟩ := hrel
    by_cases hp : pos < s.size
    · have hpx : pos < zs.length := by omega
      obtain ⟨r, k, hd, hk1, hkl, hlow, hhigh⟩ := HR.out pos hpx
      have hnx : ∀ ty, (Instr.next (.pointer (some ⟨w.heap.size, 0, none⟩)) true ty).run Tryd.prog wr = .ok (.tuple #[.bool true, .int .i64 pos, .int .i32 r]) (wr.iterAt w.heap.size s (pos + k)) := fun ty => by
        rw [Lib.run_next_any_at wr w.heap.size s pos ty hk hp, hd]
      have hw1 := Lib.below_iterAt hbw (Nat.le_refl _) s (pos + k)
      have hk1' := Lib.iterAt_heap wr w.heap.size s pos (pos + k) hk
      have hit : (wr.iterAt w.heap.size s (pos + k)).iterPos w.heap.size = pos + k := by unfold World.iterPos; rw [hk1']
      have hit0 : wr.iterPos w.heap.size = pos := by unfold World.iterPos; rw [hk]
      have hne : zs.drop pos ≠ [] := by rw [HD.out pos hpx]; simp
      rcases hsk with ⟨rfl, hnx0⟩ | ⟨rfl, rfl, _, hlo⟩
      · have hlt : ¬ (pos : Int) < nx := by omega
        have e2 : wrap64 ((pos : Int) + 2) = pos + 2 := wrap64_small (by omega) (by omega)
        have N1 := hid (fun W => N.out pos W)
        have P1 := hid (fun W => P.out pos W)
        by_cases h1 : (zs.drop pos).take 2 = [40, 42]
        · have hq : noteB (zs.drop pos) = true := by unfold noteB; rw [h1]; rfl
          rw [hq] at N1
          have hc40 : zs.getD pos 0 = 40 := by
            have h := h1
            rw [HD.out pos hpx] at h
            simp only [List.take_succ_cons, List.cons.injEq] at h
            exact h.1
          have hlen2 : pos + 1 < zs.length := by
            have := congrArg List.length h1
            simp at this; omega
          have hc42 : zs.getD (pos + 1) 0 = 42 := by
            have h := h1
            rw [HD.out pos hpx, HD.out (pos + 1) hlen2] at h
            simp only [List.take_succ_cons, List.cons.injEq] at h
            exact h.2.1
          obtain ⟨_, rfl⟩ := hlow (by omega)
          have e1 : wrap64 (d + 1) = d + 1 := wrap64_small (by omega) (by omega)
          have HF : Hid (g = (noteGo (d + 1) 1 (zs.drop (pos + 1))).map (· + (pos + 1))) := by
            have h := HN.out
            rw [note_open d h1, List.drop_drop, map_map_add] at h
            exact h
          clear hlow hhigh hd hne N P HN HR HD HG hq h1
          generalize wr.iterAt w.heap.size s (pos + 1) = w1 at *
          go_wp2_with (first | (go_at_call 25; refine (N1.out _).mono ?_; rintro e w' ⟨rfl, rfl⟩) | (go_at_call 47; refine (P1.out _).mono ?_; rintro e w' ⟨rfl, rfl⟩))
          go_roundw
          case rel => exact ⟨pos + 1, d + 1, 1, pos + 2, rfl, rfl, hk1', hw1, hkl, by omega, by omega, .inr ⟨rfl, by omega, hlen2, by omega⟩, HF⟩
          case measure => rw [hit, hit0]; omega
        · have hq : noteB (zs.drop pos) = false := by unfold noteB; exact decide_eq_false h1
          rw [hq] at N1
          by_cases h2 : (zs.drop pos).take 2 = [42, 41]
          · rw [decide_eq_true h2] at P1
            have hc40 : zs.getD pos 0 = 42 := by
              have h := h2
              rw [HD.out pos hpx] at h
              simp only [List.take_succ_cons, List.cons.injEq] at h
              exact h.1
            have hlen2 : pos + 1 < zs.length := by
              have := congrArg List.length h2
              simp at this; omega
            have hc42 : zs.getD (pos + 1) 0 = 41 := by
              have h := h2
              rw [HD.out pos hpx, HD.out (pos + 1) hlen2] at h
              simp only [List.take_succ_cons, List.cons.injEq] at h
              exact h.2.1
            obtain ⟨_, rfl⟩ := hlow (by omega)
            have e1 : wrap64 (d - 1) = d - 1 := wrap64_small (by omega) (by omega)
            have h := HN.out
            rw [note_close d h2, List.drop_drop] at h
            by_cases hz : d - 1 = 0
            · rw [if_pos hz] at h
              have HF : Hid (o = pos + 2) := by
                have := HO.out _ h
                simp at this
                show _ = _
                omega
              clear hlow hhigh hd hne N P HN HR HD HG hq h1 h2 h HO
              generalize wr.iterAt w.heap.size s (pos + 1) = w1 at *
              go_wp2_with (first | (go_at_call 25; refine (N1.out _).mono ?_; rintro e w' ⟨rfl, rfl⟩) | (go_at_call 47; refine (P1.out _).mono ?_; rintro e w' ⟨rfl, rfl⟩))
              go_ret
              exact ⟨by rw [HF.out]; rfl, hw1⟩
            · rw [if_neg hz, map_map_add] at h
              have HF := hid h
              clear hlow hhigh hd hne N P HN HR HD HG hq h1 h2 h
              generalize wr.iterAt w.heap.size s (pos + 1) = w1 at *
              go_wp2_with (first | (go_at_call 25; refine (N1.out _).mono ?_; rintro e w' ⟨rfl, rfl⟩) | (go_at_call 47; refine (P1.out _).mono ?_; rintro e w' ⟨rfl, rfl⟩))
              go_roundw
              case rel => exact ⟨pos + 1, d - 1, 1, pos + 2, rfl, rfl, hk1', hw1, hkl, by omega, by omega, .inr ⟨rfl, by omega, hlen2, by omega⟩, HF⟩
              case measure => rw [hit, hit0]; omega
          · rw [decide_eq_false h2] at P1
            have HF : Hid (g = (noteGo d 0 (zs.drop (pos + k))).map (· + (pos + k))) := by
              have h := HN.out
              rw [note_else d hne h1 h2, List.drop_drop, map_map_add] at h
              by_cases hc : zs.getD pos 0 < 128
              · obtain ⟨_, rfl⟩ := hlow hc
                exact h
              · obtain ⟨_, _, hj⟩ := hhigh (by omega)
                rw [HG.out d (pos + 1) (k - 1) (by omega) (fun j hj' => by have := hj (j + 1) (by omega) (by omega); rw [show pos + 1 + j = pos + (j + 1) by omega]; exact this), map_map_add] at h
                rw [show pos + 1 + (k - 1) = pos + k by omega] at h
                exact h
            clear hlow hhigh hd hne N P HN HR HD HG hq h1 h2
            generalize wr.iterAt w.heap.size s (pos + k) = w1 at *
            go_wp2_with (first | (go_at_call 25; refine (N1.out _).mono ?_; rintro e w' ⟨rfl, rfl⟩) | (go_at_call 47; refine (P1.out _).mono ?_; rintro e w' ⟨rfl, rfl⟩))
            go_roundw
            case rel => exact ⟨pos + k, d, 0, nx, rfl, rfl, hk1', hw1, hkl, by omega, by omega, .inl ⟨rfl, by omega⟩, HF⟩
            case measure => rw [hit, hit0]; omega
      · obtain ⟨_, rfl⟩ := hlow hlo
        have hlt : (pos : Int) < (pos : Int) + 1 := by omega
        have HF : Hid (g = (noteGo d 0 (zs.drop (pos + 1))).map (· + (pos + 1))) := by
          have h := HN.out
          rw [note_skip d hne, List.drop_drop, map_map_add] at h
          exact h
        clear hlow hhigh hd hne N P HN HR HD HG
        generalize wr.iterAt w.heap.size s (pos + 1) = w1 at *
        go_wp2
        go_roundw
        case rel => exact ⟨pos + 1, d, 0, pos + 1, rfl, rfl, hk1', hw1, hkl, by omega, by omega, .inl ⟨rfl, by omega⟩, HF⟩
        case measure => rw [hit, hit0]; omega
    · have hnx : ∀ ty, (Instr.next (.pointer (some ⟨w.heap.size, 0, none⟩)) true ty).run Tryd.prog wr = _ := fun ty => Lib.run_next_end_at wr w.heap.size s pos ty hk hp
      have HF : Hid (o = 0) := by
        have h := HN.out
        rw [List.drop_eq_nil_of_le (by omega)] at h
        have h0 : noteGo d sk [] = none := by unfold noteGo; rfl
        rw [h0] at h
        exact HO.out _ h
      clear N P HN HR HD HG HO
      go_wp2
      go_ret
      exact ⟨by rw [HF.out]; rfl, hbw⟩
end Go.Proofs.YtojgibigmoaejaaDoor.Lex
