import Derived.Test.YtgecmcenhjcecaaGreatDoorVd01
import Derived.Test.YtgecmcenhjcecaaGreatDoorVd02
import Derived.Lib.TrimUEq
import Derived.Lib.MapLaws
import Derived.Lib.OthersKept
import Derived.PinnedBridge
import Derived.Lib.LaidU8
import Derived.Lay
import Derived.Laws.AppendOwn
import Derived.Laws.AppendOwnNone
import Derived.Laws.OwnMore
import Derived.Deep.AppendLies
import Derived.Laws.Tables
import Derived.Deep.WholeRow
import Derived.BigQuiet
import Derived.Deep.QuietTactic
import Derived.Lib.SliceRun
import Derived.Deep.Cut
import Derived.Deep.RegionHeld
import Derived.Deep.RegionHeldLaw
namespace Go.Proofs.YtgecmcenhjcecaaGreatDoor.Instr
end Go.Proofs.YtgecmcenhjcecaaGreatDoor.Instr
namespace Go.Proofs.YtgecmcenhjcecaaGreatDoor.Mod
end Go.Proofs.YtgecmcenhjcecaaGreatDoor.Mod
namespace Go.Proofs.YtgecmcenhjcecaaGreatDoor.Stk
end Go.Proofs.YtgecmcenhjcecaaGreatDoor.Stk
namespace Go.Proofs.YtgecmcenhjcecaaGreatDoor.Utf
open Go.Lib (decodeN decodeN_shape decode_N)

theorem decodeN_some {l : List Int} (hb : ∀ z ∈ l, 0 ≤ z ∧ z < 256) {n : Int} {k : Nat} (h : atL l = some (n, k)) :
    decodeN l.length (l.getD 0 0).toNat (l.getD 1 0).toNat (l.getD 2 0).toNat (l.getD 3 0).toNat = (n.toNat, k) := by
  obtain ⟨⟨r0, r1, r2⟩, ht, hk, _, _, hkl⟩ := atL_some h
  have hl : l = oneL n ++ l.drop k := by rw [← ht, List.take_append_drop]
  generalize l.drop k = r at hl
  subst hl
  subst hk
  clear ht hkl h
  obtain ⟨m, rfl⟩ := Int.eq_ofNat_of_zero_le r0
  unfold oneL
  by_cases a : (m : Int) < 128
  · rw [if_pos a]
    have c0 : m < 128 := by omega
    simp [decodeN, c0]
  by_cases b : (m : Int) < 2048
  · rw [if_neg a, if_pos b]
    have e0 : (192 + (m : Int) / 64).toNat = 192 + m / 64 := by omega
    have e1 : (128 + (m : Int) % 64).toNat = 128 + m % 64 := by omega
    simp only [List.cons_append, List.nil_append, List.length_cons, List.getD_cons_zero, List.getD_cons_succ, e0, e1, Int.toNat_natCast]
    unfold decodeN
    rw [if_neg (by omega), if_pos (by omega), if_pos (by omega)]
    simp only [Prod.mk.injEq, List.length_nil]
    exact ⟨by omega, trivial⟩
  by_cases d : (m : Int) < 65536
  · rw [if_neg a, if_neg b, if_pos d]
    have e0 : (224 + (m : Int) / 4096).toNat = 224 + m / 4096 := by omega
    have e1 : (128 + (m : Int) / 64 % 64).toNat = 128 + m / 64 % 64 := by omega
    have e2 : (128 + (m : Int) % 64).toNat = 128 + m % 64 := by omega
    simp only [List.cons_append, List.nil_append, List.length_cons, List.getD_cons_zero, List.getD_cons_succ, e0, e1, e2, Int.toNat_natCast]
    unfold decodeN
    rw [if_neg (by omega), if_neg (by omega), if_pos (by omega), if_pos (by omega)]
    simp only [Prod.mk.injEq, List.length_nil]
    exact ⟨by omega, trivial⟩
  · rw [if_neg a, if_neg b, if_neg d]
    have e0 : (240 + (m : Int) / 262144).toNat = 240 + m / 262144 := by omega
    have e1 : (128 + (m : Int) / 4096 % 64).toNat = 128 + m / 4096 % 64 := by omega
    have e2 : (128 + (m : Int) / 64 % 64).toNat = 128 + m / 64 % 64 := by omega
    have e3 : (128 + (m : Int) % 64).toNat = 128 + m % 64 := by omega
    simp only [List.cons_append, List.nil_append, List.length_cons, List.getD_cons_zero, List.getD_cons_succ, e0, e1, e2, e3, Int.toNat_natCast]
    unfold decodeN
    rw [if_neg (by omega), if_neg (by omega), if_neg (by omega), if_pos (by omega), if_pos (by omega)]
    simp only [Prod.mk.injEq, List.length_nil]
    exact ⟨by omega, trivial⟩

theorem decodeN_none {l : List Int} (hb : ∀ z ∈ l, 0 ≤ z ∧ z < 256) (h0 : l ≠ []) (h : atL l = none) :
    decodeN l.length (l.getD 0 0).toNat (l.getD 1 0).toNat (l.getD 2 0).toNat (l.getD 3 0).toNat = (65533, 1) := by
  have no : ∀ (n : Int) (r : List Int), Rune n → l = oneL n ++ r → False := fun n r hr hl => by
    rw [hl, atL_one hr] at h; cases h
  have hne : 0 < l.length := List.length_pos_iff.2 h0
  have g : ∀ j, j < l.length → 0 ≤ l.getD j 0 ∧ l.getD j 0 < 256 := fun j hj => by
    have : l.getD j 0 = l[j] := by simp [hj]
    rw [this]; exact hb _ (List.getElem_mem hj)
  have d : ∀ j, j < l.length → l.drop j = l.getD j 0 :: l.drop (j + 1) := fun j hj => by
    rw [List.drop_eq_getElem_cons hj]; simp [hj]
  obtain ⟨g0, g0'⟩ := g 0 hne
  have d0 := d 0 hne
  rw [List.drop_zero] at d0
  rcases decodeN_shape l.length (l.getD 0 0).toNat (l.getD 1 0).toNat (l.getD 2 0).toNat (l.getD 3 0).toNat with ⟨c, e⟩ | ⟨c1, c2, c3, cv, e⟩ | ⟨c1, c2, c3, c4, cv, cs, e⟩ | ⟨c1, c2, c3, c4, c5, cv, cw, e⟩ | e
  · refine (no (l.getD 0 0) (l.drop 1) ⟨by omega, by omega, by omega⟩ (d0.trans ?_)).elim
    generalize l.getD 0 0 = x at *
    unfold oneL
    rw [if_pos (by omega)]
    rfl
  · obtain ⟨g1, g1'⟩ := g 1 c2
    have hl := d0.trans (congrArg (l.getD 0 0 :: ·) (d 1 c2))
    refine (no ((l.getD 0 0) % 32 * 64 + (l.getD 1 0) % 64) (l.drop 2) ⟨by omega, by omega, by omega⟩ (hl.trans ?_)).elim
    generalize l.getD 0 0 = x at *
    generalize l.getD 1 0 = y at *
    unfold oneL
    rw [if_neg (by omega), if_pos (by omega)]
    simp only [List.cons_append, List.nil_append, List.cons.injEq]
    exact ⟨by omega, by omega, trivial⟩
  · obtain ⟨g1, g1'⟩ := g 1 (by omega)
    obtain ⟨g2, g2'⟩ := g 2 c2
    have hl := d0.trans (congrArg (l.getD 0 0 :: ·) ((d 1 (by omega)).trans (congrArg (l.getD 1 0 :: ·) (d 2 c2))))
    refine (no ((l.getD 0 0) % 16 * 4096 + (l.getD 1 0) % 64 * 64 + (l.getD 2 0) % 64) (l.drop 3) ⟨by omega, by omega, by omega⟩ (hl.trans ?_)).elim
    generalize l.getD 0 0 = x at *
    generalize l.getD 1 0 = y at *
    generalize l.getD 2 0 = z at *
    unfold oneL
    rw [if_neg (by omega), if_neg (by omega), if_pos (by omega)]
    simp only [List.cons_append, List.nil_append, List.cons.injEq]
    exact ⟨by omega, by omega, by omega, trivial⟩
  · obtain ⟨g1, g1'⟩ := g 1 (by omega)
    obtain ⟨g2, g2'⟩ := g 2 (by omega)
    obtain ⟨g3, g3'⟩ := g 3 c2
    have hl := d0.trans (congrArg (l.getD 0 0 :: ·) ((d 1 (by omega)).trans (congrArg (l.getD 1 0 :: ·) ((d 2 (by omega)).trans (congrArg (l.getD 2 0 :: ·) (d 3 c2))))))
    refine (no ((l.getD 0 0) % 8 * 262144 + (l.getD 1 0) % 64 * 4096 + (l.getD 2 0) % 64 * 64 + (l.getD 3 0) % 64) (l.drop 4) ⟨by omega, by omega, by omega⟩ (hl.trans ?_)).elim
    generalize l.getD 0 0 = x at *
    generalize l.getD 1 0 = y at *
    generalize l.getD 2 0 = z at *
    generalize l.getD 3 0 = u at *
    unfold oneL
    rw [if_neg (by omega), if_neg (by omega), if_neg (by omega)]
    simp only [List.cons_append, List.nil_append, List.cons.injEq]
    exact ⟨by omega, by omega, by omega, by omega, trivial⟩
  · exact e

theorem str_byte {zs : List Int} (hb : ∀ z ∈ zs, 0 ≤ z ∧ z < 256) (j : Nat) : ((strOfNums zs).data.toList.getD j 0).toNat = (zs.getD j 0).toNat := by
  rw [strOfNums_data]
  by_cases h : j < zs.length
  · have := hb _ (List.getElem_mem h)
    simp [h]
    omega
  · simp [List.getD_eq_getElem?_getD, List.getElem?_eq_none (Nat.le_of_not_lt h)]

theorem getD_drop0 (zs : List Int) (i j : Nat) : zs.getD (i + j) 0 = (zs.drop i).getD j 0 := by
  simp [List.getD_eq_getElem?_getD, List.getElem?_drop]

theorem decode_eq {zs : List Int} (hb : ∀ z ∈ zs, 0 ≤ z ∧ z < 256) (i : Nat) :
    Utf8.decode (strOfNums zs) i = decodeN (zs.drop i).length ((zs.drop i).getD 0 0).toNat ((zs.drop i).getD 1 0).toNat ((zs.drop i).getD 2 0).toNat ((zs.drop i).getD 3 0).toNat := by
  rw [decode_N, str_byte hb, str_byte hb, str_byte hb, str_byte hb, strOfNums_data, List.length_map, List.length_drop]
  rw [← getD_drop0, ← getD_drop0, ← getD_drop0, ← getD_drop0]
  rfl

theorem mem_drop_bytes {zs : List Int} (hb : ∀ z ∈ zs, 0 ≤ z ∧ z < 256) (i : Nat) : ∀ z ∈ zs.drop i, 0 ≤ z ∧ z < 256 := fun z hz => hb z (List.mem_of_mem_drop hz)

/-- At a place where a rune begins the model decodes it. -/
theorem decode_some {zs : List Int} (hb : ∀ z ∈ zs, 0 ≤ z ∧ z < 256) {i : Nat} {n : Int} {k : Nat} (h : atL (zs.drop i) = some (n, k)) : Utf8.decode (strOfNums zs) i = (n.toNat, k) := by
  rw [decode_eq hb]; exact decodeN_some (mem_drop_bytes hb i) h
/-- Where none begins it tells the sign of an error, of one byte. -/
theorem decode_none {zs : List Int} (hb : ∀ z ∈ zs, 0 ≤ z ∧ z < 256) {i : Nat} (hi : i < zs.length) (h : atL (zs.drop i) = none) : Utf8.decode (strOfNums zs) i = (65533, 1) := by
  rw [decode_eq hb]
  refine decodeN_none (mem_drop_bytes hb i) (fun h0 => ?_) h
  have := congrArg List.length h0
  simp at this; omega
/-- That number, where it is a rune, has three bytes. -/
theorem error_three {l : List Int} {k : Nat} (h : atL l = some (65533, k)) : k = 3 := by
  obtain ⟨_, _, hk, _⟩ := atL_some h
  rw [hk]; decide
end Go.Proofs.YtgecmcenhjcecaaGreatDoor.Utf

namespace Go.Proofs.YtgecmcenhjcecaaGreatDoor.Utf
open Go.RowKit

/-- The two tables of unicode/utf8 lie as the row lists them. -/
def Tabs (w : World) : Prop := Lib.Utf8Tabs 2 3 w
theorem Tabs.below {w w' : World} (h : Tabs w) (hb : Below w.heap.size w w') : Tabs w' := Utf8Tabs_below h hb
theorem str_tail (zs : List Int) (i : Nat) : (strOfNums zs).extract i zs.length = strOfNums (zs.drop i) := by
  apply ByteArray.ext
  apply Array.toList_inj.1
  rw [ByteArray.data_extract, Array.toList_extract, strOfNums_data, strOfNums_data]
  simp
  rw [List.take_of_length_le (by simp)]

set_option maxHeartbeats 800000 in
theorem bad_any (zs : List Int) (hb : ∀ z ∈ zs, 0 ≤ z ∧ z < 256) (w : World) (hT : Tabs w) :
    Calls Tryz.prog 93 #[.string (strOfNums zs)] w fun e w' => e = .returned (.int .i64 (badL zs)) ∧ Below w.heap.size w w' := by
  have D1 : ∀ pos n k, atL (zs.drop pos) = some (n, k) → Utf8.decode (strOfNums zs) pos = (n.toNat, k) := fun pos n k h => decode_some hb h
  have D2 : ∀ pos, pos < zs.length → atL (zs.drop pos) = none → Utf8.decode (strOfNums zs) pos = (65533, 1) := fun pos h h' => decode_none hb h h'
  have D3 : ∀ pos, pos < zs.length → Lib.decodeGo ((strOfNums zs).extract pos zs.length) = Utf8.decode (strOfNums zs) pos := fun pos h => by
    rw [str_tail]
    unfold Lib.decodeGo
    rw [strOfNums_size, List.length_drop, if_neg (by omega), decode_eq (mem_drop_bytes hb pos), decode_eq hb]
    rfl
  have hs : (strOfNums zs).size = zs.length := strOfNums_size zs
  generalize strOfNums zs = s at *
  have H1 := hid D1
  have H2 := hid D2
  have H3 := hid D3
  clear D1 D2 D3 hb
  go_enter Tryz.func93, Tryz.ntmps93
  go_wp2
  go_loopw [3] (fun _ wr => ∃ pos : Nat, wr.heap[w.heap.size]? = some (.stringIter s pos) ∧ Below w.heap.size w wr ∧ pos ≤ zs.length ∧ (scan zs).2 = pos + (scan (zs.drop pos)).2)
    (fun _ wr => zs.length - wr.iterPos w.heap.size)
  case atStart => exact ⟨0, World.iter_heap w s 0, (Below.refl _ _).alloc (Nat.le_refl _) _, Nat.zero_le _, by simp⟩
  case round =>
    obtain ⟨pos, hk, hbw, hpos, hsc⟩ := hrel
    have HS := hid hsc
    clear hsc
    have hT' : Tabs wr := hT.below hbw
    by_cases hp : pos < s.size
    · cases ha : atL (zs.drop pos) with
      | none =>
        have hd := H2.out pos (by omega) ha
        have hnx : ∀ ty, (Instr.next (.pointer (some ⟨w.heap.size, 0, none⟩)) true ty).run Tryz.prog wr = .ok (.tuple #[.bool true, .int .i64 pos, .int .i32 65533]) (wr.iterAt w.heap.size s (pos + 1)) := fun ty => by
          rw [Lib.run_next_any_at wr w.heap.size s pos ty hk hp, hd]; rfl
        have hw1 := Lib.below_iterAt hbw (Nat.le_refl _) s (pos + 1)
        have hT1 : Tabs (wr.iterAt w.heap.size s (pos + 1)) := hT.below hw1
        have HF : Hid (badL zs = pos) := by
          have h := HS.out
          rw [scan_none ha] at h
          show _ = _
          rw [badL_some (by omega)]
          simp at h; omega
        have HD := hid ((H3.out pos (by omega)).trans hd)
        clear hd ha hT hT'
        generalize wr.iterAt w.heap.size s (pos + 1) = w1 at *
        go_wp2_with fail
        refine (Tryz.utf8_DecodeRuneInString _ _ hT1).mono ?_
        rw [HD.out]
        rintro e w2 ⟨rfl, hb2⟩
        go_wp2
        go_ret
        exact ⟨ret_int HF.out.symm, hw1.trans (hb2.mono (by have := hw1.size; omega))⟩
      | some q =>
        obtain ⟨n, k⟩ := q
        obtain ⟨hn, _, _, hk1, _, hkl⟩ := atL_some ha
        have hd := H1.out pos n k ha
        have hnx : ∀ ty, (Instr.next (.pointer (some ⟨w.heap.size, 0, none⟩)) true ty).run Tryz.prog wr = .ok (.tuple #[.bool true, .int .i64 pos, .int .i32 n]) (wr.iterAt w.heap.size s (pos + k)) := fun ty => by
          rw [Lib.run_next_any_at wr w.heap.size s pos ty hk hp, hd]
          have := hn.1
          simp only [Int.toNat_of_nonneg this]
        have hw1 := Lib.below_iterAt hbw (Nat.le_refl _) s (pos + k)
        have hT1 : Tabs (wr.iterAt w.heap.size s (pos + k)) := hT.below hw1
        have hk1' := Lib.iterAt_heap wr w.heap.size s pos (pos + k) hk
        have hit : (wr.iterAt w.heap.size s (pos + k)).iterPos w.heap.size = pos + k := by unfold World.iterPos; rw [hk1']
        have hit0 : wr.iterPos w.heap.size = pos := by unfold World.iterPos; rw [hk]
        have HF : Hid ((scan zs).2 = (pos + k) + (scan (zs.drop (pos + k))).2) := by
          have h := HS.out
          rw [scan_some ha, List.drop_drop] at h
          show _ = _
          simp only at h
          omega
        have hlk : pos + k ≤ zs.length := by simp at hkl; omega
        by_cases he : n = 65533
        · subst he
          obtain rfl := error_three ha
          have HD := hid ((H3.out pos (by omega)).trans hd)
          clear hd ha hT hT' hn
          generalize wr.iterAt w.heap.size s (pos + 3) = w1 at *
          go_wp2_with fail
          refine (Tryz.utf8_DecodeRuneInString _ _ hT1).mono ?_
          rw [HD.out]
          rintro e w2 ⟨rfl, hb2⟩
          have hlt : w.heap.size < w1.heap.size := (Array.getElem?_eq_some_iff.1 hk1').1
          have hk2 := (hb2.block _ hlt).trans hk1'
          have hit2 : w2.iterPos w.heap.size = pos + 3 := by unfold World.iterPos; rw [hk2]
          go_wp2
          go_roundw
          case rel => exact ⟨pos + 3, hk2, hw1.trans (hb2.mono (by omega)), hlk, HF.out⟩
          case measure => rw [hit2, hit0]; omega
        · clear hd ha hT hT'
          generalize wr.iterAt w.heap.size s (pos + k) = w1 at *
          go_wp2
          go_roundw
          case rel => exact ⟨pos + k, hk1', hw1, hlk, HF.out⟩
          case measure => rw [hit, hit0]; omega
    · have hnx : ∀ ty, (Instr.next (.pointer (some ⟨w.heap.size, 0, none⟩)) true ty).run Tryz.prog wr = _ := fun ty => Lib.run_next_end_at wr w.heap.size s pos ty hk hp
      have HF : Hid (badL zs = -1) := badL_none (by
        have h := HS.out
        rw [List.drop_eq_nil_of_le (by omega), scan_nil] at h
        simp at h; omega)
      go_wp2
      go_ret
      exact ⟨ret_int HF.out.symm, hbw⟩
end Go.Proofs.YtgecmcenhjcecaaGreatDoor.Utf

namespace Go.Proofs.YtgecmcenhjcecaaGreatDoor
open Go.RowKit Go.Lib

theorem u8Extra : U8Extra Tryz.prog Tryz.lays260_ren := ⟨by kernel_rfl, by kernel_rfl, by kernel_rfl, by kernel_rfl, by kernel_rfl, by kernel_rfl, by kernel_rfl⟩
theorem accept_eq : (Rows.laid_unicode_utf8_acceptRanges : DataW Unit) = acceptData := by kernel_rfl
end Go.Proofs.YtgecmcenhjcecaaGreatDoor

namespace Go.Proofs.YtgecmcenhjcecaaGreatDoor
open Go.RowKit Go.Lib

def laid4 : List (String × DataW Unit) := [("unicode/utf8.acceptRanges", Rows.laid_unicode_utf8_acceptRanges), ("gimlet/num.arities", Rows.laid_gimlet_num_arities), ("gimlet/instr.names", Rows.laid_gimlet_instr_names), ("unicode/utf8.first", Rows.laid_unicode_utf8_first)]
theorem arities_eq : (Rows.laid_gimlet_num_arities : DataW Unit) = tabData .u8 Num.arTab := by kernel_rfl
theorem arit_of {W : World} {l : List (String × DataW Unit)} (hm : ("gimlet/num.arities", Rows.laid_gimlet_num_arities) ∈ l) (hL : laidMet Tryz.prog l W) : Num.Arit W := by
  obtain ⟨g, t, cs, fuel, p, hg, hty, hvar, hd⟩ := Lib.laidMet.reads hL hm
  obtain rfl := Option.some.inj ((show Tryz.prog.globalNamed "gimlet/num.arities" = some 1 by kernel_rfl).symm.trans hg)
  obtain rfl := Option.some.inj ((show (Tryz.prog.globals[1]?).map (·.type) = some 183 by kernel_rfl).symm.trans hty)
  rw [arities_eq] at hd
  have hcs := cells_of_tab Tryz.underlying183 Tryz.underlying5 (by kernel_rfl) (by kernel_rfl) hd
  have hlen : Num.arTab.length = 121 := by decide +kernel
  intro j hj
  rw [World.var?_cell hg hvar j, ← Array.getElem?_toList, hcs]
  simp [List.getD, hlen, hj]
theorem tabs_4 {W : World} (hL : laidMet Tryz.prog laid4 W) : Instr.Nams W ∧ Utf.Tabs W ∧ Num.Arit W := by
  refine ⟨nams_of (.tail _ (.tail _ (.head _))) hL, utf8Tabs_of_reads (ρ := Tryz.lays260_ren) Tryz.lays260 u8Extra (Pinned.utf8First_eq ▸ Lib.laidMet.reads hL (.tail _ (.tail _ (.tail _ (.head _))))) ?_, arit_of (.tail _ (.head _)) hL⟩
  have h := Lib.laidMet.reads hL (.head _)
  rw [accept_eq] at h
  exact h
end Go.Proofs.YtgecmcenhjcecaaGreatDoor

namespace Go.Proofs.YtgecmcenhjcecaaGreatDoor.Stk
open Go.RowKit
set_option linter.unusedVariables false

/-- From address a on lie these rows, each of sz cells; below block n₀. -/
def Rows (n₀ : Nat) (w : World) (a : Option Addr) (sz : Nat) (rs : List (List Value)) : Prop :=
  rs = [] ∨ ∃ b off, a = some ⟨b, off, none⟩ ∧ b < n₀ ∧ ∀ i, i < rs.length → ∀ j, j < sz → ∀ v, (rs.getD i [])[j]? = some v → w.cell? ⟨b, off + i * sz + j, none⟩ = some v
theorem Rows.below {n₀ sz : Nat} {w w' : World} {a : Option Addr} {rs : List (List Value)} (hb : Below n₀ w w') (h : Rows n₀ w a sz rs) : Rows n₀ w' a sz rs := by
  rcases h with h | ⟨b, off, ha, hl, hc⟩
  · exact .inl h
  · exact .inr ⟨b, off, ha, hl, fun i hi j hj v hv => (hb.cell (p := ⟨b, off + i * sz + j, none⟩) hl).trans (hc i hi j hj v hv)⟩
theorem Rows.more {n₀ n₁ sz : Nat} {w : World} {a : Option Addr} {rs : List (List Value)} (hn : n₀ ≤ n₁) (h : Rows n₀ w a sz rs) : Rows n₁ w a sz rs := by
  rcases h with h | ⟨b, off, ha, hl, hc⟩
  · exact .inl h
  · exact .inr ⟨b, off, ha, by omega, hc⟩
theorem flat_length {α : Type} {sz : Nat} : ∀ (rs : List (List α)) (_ : ∀ r ∈ rs, r.length = sz), rs.flatten.length = rs.length * sz
  | [], _ => by simp
  | r :: rs, h => by
    rw [List.flatten_cons, List.length_append, h r (by simp), flat_length rs (fun x hx => h x (by simp [hx])), List.length_cons, Nat.succ_mul]
    omega
theorem flat_get {α : Type} {sz : Nat} : ∀ (rs : List (List α)) (_ : ∀ r ∈ rs, r.length = sz) (i j : Nat) (_ : i < rs.length) (_ : j < sz), rs.flatten[i * sz + j]? = (rs.getD i [])[j]?
  | [], _, i, _, hi, _ => by simp at hi
  | r :: rs, h, 0, j, _, hj => by
    rw [List.flatten_cons, Nat.zero_mul, Nat.zero_add, List.getElem?_append_left (by rw [h r (by simp)]; exact hj)]
    rfl
  | r :: rs, h, i + 1, j, hi, hj => by
    have hr := h r (by simp)
    have e : (i + 1) * sz = i * sz + sz := Nat.succ_mul i sz
    rw [List.flatten_cons, List.getElem?_append_right (by rw [hr, e]; omega), hr]
    have e2 : (i + 1) * sz + j - sz = i * sz + j := by rw [e]; omega
    rw [e2, flat_get rs (fun x hx => h x (by simp [hx])) i j (by simpa using hi) hj]
    rfl
/-- Rows that a call made itself, each of sz cells. -/
structure OwnR (e : TypeId) (sz base : Nat) (w : World) (v : Value) (rs : List (List Value)) : Prop where
  row : w.ownsRow base e sz v rs.length rs.flatten
  len : ∀ r ∈ rs, r.length = sz
theorem OwnR.start (e : TypeId) (sz base : Nat) (w : World) : OwnR e sz base w (.slice none 0 0) [] := ⟨World.ownsRow_nil _ _ _ _, by simp⟩
theorem OwnR.made (e : TypeId) (sz : Nat) (w : World) : OwnR e sz w.heap.size (w.alloc (.cells #[] e)) (.slice (some ⟨w.heap.size, 0, none⟩) 0 0) [] := ⟨World.ownsRow_made w #[] 0 (Nat.le_refl _) (by unfold maxLen; omega) (by simp), by simp⟩
theorem OwnR.below {e : TypeId} {sz base : Nat} {w w' : World} {v : Value} {rs : List (List Value)} (h : OwnR e sz base w v rs) (hb : Below w.heap.size w w') : OwnR e sz base w' v rs := by
  refine ⟨⟨h.row.1, ?_⟩, h.len⟩
  rcases h.row.2 with h0 | ⟨g, cap, cur, hv, hg, hh, rest⟩
  · exact .inl h0
  · exact .inr ⟨g, cap, cur, hv, hg, (hb.block g (Array.getElem?_eq_some_iff.1 hh).1).trans hh, rest⟩
theorem OwnR.mono {e : TypeId} {sz base base' : Nat} {w : World} {v : Value} {rs : List (List Value)} (h : OwnR e sz base w v rs) (hb : base' ≤ base) : OwnR e sz base' w v rs := by
  refine ⟨⟨h.row.1, ?_⟩, h.len⟩
  rcases h.row.2 with h0 | ⟨g, cap, cur, hv, hg, rest⟩
  · exact .inl h0
  · exact .inr ⟨g, cap, cur, hv, Nat.le_trans hb hg, rest⟩
/-- As a slice in memory. -/
theorem OwnR.rows {e : TypeId} {sz base : Nat} {w : World} {v : Value} {rs : List (List Value)} (h : OwnR e sz base w v rs) : ∃ a c, v = .slice a rs.length c ∧ Rows w.heap.size w a sz rs ∧ ∀ g, v.ownBlock = some g → base ≤ g := by
  have hl := World.ownsRow.lt h.row
  rcases h.row.2 with ⟨rfl, h0⟩ | ⟨g, cap, cur, rfl, hg, hh, h2, h3, h4, h5⟩
  · exact ⟨none, 0, by rw [h0], .inl (List.eq_nil_of_length_eq_zero h0), fun g hg => (hl g hg).1⟩
  · refine ⟨_, cap, rfl, .inr ⟨g, 0, rfl, (hl g rfl).2, fun i hi j hj u hu => ?_⟩, fun g hg => (hl g hg).1⟩
    have hf := flat_get rs h.len i j hi hj
    rw [hu] at hf
    have := World.ownsRow.cells h.row (g := g) rfl (i * sz + j) u hf
    have hplain : (⟨g, 0, none⟩ : Addr).add (i * sz + j) = ⟨g, 0 + i * sz + j, none⟩ := by unfold Addr.add; split <;> simp_all <;> omega
    rw [hplain] at this
    exact this

theorem run_append_none (w : World) (base : Nat) (t ty e : TypeId) (i : TypeInfo) (size c : Nat) (ht : Tryz.prog.underlying t = some (.slice e)) (hi : Tryz.prog.info? e = some i)
    (v : Value) (n : Nat) (xs : List Value) (hown : w.ownsRow base e size v n xs) :
    (Builtin.append_ #[t, t] ty #[v, .slice none 0 c]).run Tryz.prog w = .ok v w := by
  rcases hown.2 with ⟨rfl, rfl⟩ | ⟨g, cap, cur, rfl, _, _, hnc, _⟩
  · simp [Builtin.append_, run_underlying ht, sizeOf, typeInfo, hi, Builtin.lenOf, Builtin.firstCells]
  · simp [Builtin.append_, run_underlying ht, sizeOf, typeInfo, hi, Builtin.lenOf, Builtin.firstCells, hnc, storeCells]
section
variable {ops : Array Oper} {rest : List Oper} {o : Oper} {act : Act} {Q : Exit → Act → World → Prop}
theorem append_none (hgd : o.guard = none) (s x : Operand) (t : TypeId) (ho : o.op = .call { callee := .builtin .append, args := #[s, x], argTypes := #[t, t] })
    {w : World} (base : Nat) (e : TypeId) (i : TypeInfo) (size c : Nat) (ht : Tryz.prog.underlying t = some (.slice e)) (hi : Tryz.prog.info? e = some i)
    (v : Value) (n : Nat) (xs : List Value) (hs : act.eval s = v) (hown : w.ownsRow base e size v n xs) (hx : act.eval x = .slice none 0 c)
    (h : wpList Tryz.prog ops Q rest (act.put o.dst v) w) : wpList Tryz.prog ops Q (o :: rest) act w := by
  refine wpList_plain hgd fun K hK => ?_
  have hrun := run_append_none w base t o.type e i size c ht hi v n xs hown
  unfold Oper.wp
  simp [execOp, ho, resolve, invoke, builtin, hs, hx, hrun, Result.andThen]
  exact hK _ _ h
end
section
variable {ops : Array Oper} {rest : List Oper} {o : Oper} {act : Act} {Q : Exit → Act → World → Prop}
/-- Rows that lie somewhere are appended. -/
theorem append_rows {e ts : TypeId} {sz nb : Nat} {z : Value} (inf : (Tryz.prog.info? e).map (fun i => (i.zero, i.size, i.bytes)) = some (some z, sz, nb)) (hz : z.cells.size = sz) (h0 : 0 < sz) (hnb : nb ≤ 1000) (ut : Tryz.prog.underlying ts = some (.slice e))
    (hgd : o.guard = none) (s x : Operand) (ho : o.op = .call { callee := .builtin .append, args := #[s, x], argTypes := #[ts, ts] })
    {base : Nat} {w0 wr : World} {v : Value} {xs : List (List Value)} (ys : List (List Value)) (hs : act.eval s = v) (hown : OwnR e sz base wr v xs) (hb : Below base w0 wr) (hbase : base ≤ wr.heap.size)
    (ad : Addr) (m c : Nat) (hm : ys.length = m) (hx : act.eval x = .slice (some ad) m c) (hy : ∀ r ∈ ys, r.length = sz) (hnews : ∀ j u, ys.flatten[j]? = some u → wr.cell? (ad.add j) = some u) (h1 : ∀ r ∈ ys, ∀ u ∈ r, u.oneCell' = true)
    (hl : xs.length + m ≤ 1000000000)
    (h : ∀ v' w', OwnR e sz base w' v' (xs ++ ys) → Below base w0 w' → base ≤ w'.heap.size → wr.grownBy w' v.ownBlock → wpList Tryz.prog ops Q rest (act.put o.dst v') w') :
    wpList Tryz.prog ops Q (o :: rest) act wr := by
  obtain ⟨i0, hi, hz0, hz1, hz2⟩ := info_parts inf
  subst hm
  refine wpList_append_own _ hgd s x ts ho base e i0 z sz nb ut hi hz0 hz1 hz2 hz h0 v xs.length _ hs hown.row ad ys.length c ys.flatten hx (flat_length ys hy)
    hnews (fun u hu => ?_) (by unfold maxLen; omega) ?_ hbase (fun v' w' hown' hgrow _ => ?_)
  · obtain ⟨r, hr, hur⟩ := List.mem_flatten.1 hu
    exact h1 r hr u hur
  · calc (xs.length + ys.length) * nb ≤ 1000000000 * 1000 := Nat.mul_le_mul hl hnb
      _ ≤ _ := by omega
  · refine h v' w' ⟨?_, ?_⟩ (hb.grown hgrow hbase (fun k hk => (World.ownsRow.lt hown.row k hk).1)) (by have := hgrow.size; omega) hgrow
    · rw [List.length_append, List.flatten_append]; exact hown'
    · intro r hr
      rcases List.mem_append.1 hr with hr | hr
      · exact hown.len r hr
      · exact hy r hr
end
section
variable {ops : Array Oper} {rest : List Oper} {o : Oper} {act : Act} {Q : Exit → Act → World → Prop}
/-- A whole list that lies somewhere is appended. -/
theorem append_list {e ts : TypeId} {sz nb : Nat} {z : Value} (inf : (Tryz.prog.info? e).map (fun i => (i.zero, i.size, i.bytes)) = some (some z, sz, nb)) (hz : z.cells.size = sz) (h0 : 0 < sz) (hnb : nb ≤ 1000) (ut : Tryz.prog.underlying ts = some (.slice e))
    (hgd : o.guard = none) (s x : Operand) (ho : o.op = .call { callee := .builtin .append, args := #[s, x], argTypes := #[ts, ts] })
    {base : Nat} {wr : World} {v : Value} (hs : act.eval s = v) (hown : OwnR e sz base wr v []) (hbase : base ≤ wr.heap.size)
    (a2 : Option Addr) (n c : Nat) (hx : act.eval x = .slice a2 n c) (ys : List (List Value)) (hn : ys.length = n) (hy : Rows wr.heap.size wr a2 sz ys) (hlen : ∀ r ∈ ys, r.length = sz) (h1 : ∀ r ∈ ys, ∀ u ∈ r, u.oneCell' = true)
    (hl : ys.length ≤ 1000000000)
    (h : ∀ v' w', OwnR e sz base w' v' ys → Below base wr w' → base ≤ w'.heap.size → wpList Tryz.prog ops Q rest (act.put o.dst v') w') :
    wpList Tryz.prog ops Q (o :: rest) act wr := by
  obtain ⟨i0, hi, hz0, hz1, hz2⟩ := info_parts inf
  subst hn
  have hb0 := Below.refl base wr
  rcases hy with h2 | ⟨b, off, rfl, hlt, hc⟩
  · subst h2
    cases a2 with
    | none => exact append_none hgd s x ts ho base e i0 sz c ut hi v _ _ hs hown.row hx (h v wr hown hb0 hbase)
    | some ad =>
      refine append_rows inf hz h0 hnb ut hgd s x ho (xs := []) [] hs hown hb0 hbase ad 0 c rfl hx (by simp) (by simp) (by simp) (by simp) (fun v' w' h3 h4 h5 _ => h v' w' h3 h4 h5)
  · refine append_rows inf hz h0 hnb ut hgd s x ho (xs := []) ys hs hown hb0 hbase ⟨b, off, none⟩ ys.length c rfl hx hlen (fun j u hj => ?_) h1 (by simpa using hl) (fun v' w' h3 h4 h5 _ => h v' w' h3 h4 h5)
    have hfl := flat_length ys hlen
    have hjl : j < ys.length * sz := by
      rcases Nat.lt_or_ge j (ys.length * sz) with h | h
      · exact h
      · rw [List.getElem?_eq_none (by omega)] at hj; cases hj
    have hq : j / sz < ys.length := (Nat.div_lt_iff_lt_mul h0).2 hjl
    have hr : j % sz < sz := Nat.mod_lt _ h0
    have hjj : j / sz * sz + j % sz = j := by rw [Nat.mul_comm]; exact Nat.div_add_mod j sz
    have hg := flat_get ys hlen (j / sz) (j % sz) hq hr
    rw [hjj, hj] at hg
    have := hc (j / sz) hq (j % sz) hr u hg.symm
    rw [Nat.add_assoc, hjj] at this
    have hplain : (⟨b, off, none⟩ : Addr).add j = ⟨b, off + j, none⟩ := by unfold Addr.add; split <;> simp_all
    rw [hplain]
    exact this
end
section
variable {ops : Array Oper} {rest : List Oper} {o : Oper} {act : Act} {Q : Exit → Act → World → Prop}
end
theorem OwnR.madeG {W : World} (e : TypeId) (sz g : Nat) (hg : g = W.heap.size) : OwnR e sz g (W.alloc (.cells #[] e)) (.slice (some ⟨g, 0, none⟩) 0 0) [] := by
  subst hg; exact OwnR.made e sz W
theorem OwnR.alloc {e : TypeId} {sz base : Nat} {w : World} {v : Value} {rs : List (List Value)} (h : OwnR e sz base w v rs) (o : Obj) : OwnR e sz base (w.alloc o) v rs := h.below ((Below.refl _ _).alloc (Nat.le_refl _) o)
/-- A store below it turns no row. -/
theorem OwnR.setCell {e : TypeId} {sz base : Nat} {w : World} {v : Value} {rs : List (List Value)} (h : OwnR e sz base w v rs) {p : Addr} (hp : p.block < base) (u : Value) : OwnR e sz base (w.setCell p u) v rs := by
  refine ⟨⟨h.row.1, ?_⟩, h.len⟩
  rcases h.row.2 with h0 | ⟨g, cap, cur, hv, hg, hh, rest⟩
  · exact .inl h0
  · exact .inr ⟨g, cap, cur, hv, hg, (Below.heap_setCell w p u g (by omega)).trans hh, rest⟩
end Go.Proofs.YtgecmcenhjcecaaGreatDoor.Stk

namespace Go.Proofs.YtgecmcenhjcecaaGreatDoor.Stk
open Go.RowKit
set_option linter.unusedVariables false

/-- A frame. -/
structure Fr where
  (op ba re : Int)
  de : Bool
def Fr.v (f : Fr) : List Value := [.int .i64 f.op, .int .i64 f.ba, .int .i64 f.re, .bool f.de]
def Fr.none : Fr := ⟨0, 0, 0, false⟩
def opens (op : Int) : Bool := decide (op = 2) || decide (op = 3) || decide (op = 4) || decide (op = 5)
def wrongRe (r : Int) : Bool := decide (r < 0) || decide (1 < r)
/-- Is a frame behind one of base b wrong? -/
def badF (h b : Int) (f : Fr) : Bool := !opens f.op || decide (f.ba < b) || decide (h < f.ba) || wrongRe f.re
def badL (h : Int) : Int → List Fr → Bool
  | _, [] => false
  | b, f :: l => badF h b f || badL h f.ba l
def badFirst (f : Fr) : Bool := decide (f.op ≠ 0) || decide (f.ba ≠ 0) || wrongRe f.re
def badAll (h : Int) : List Fr → Bool
  | [] => true
  | f :: l => decide (1000 < l.length + 1) || (badFirst f || badL h 0 l)
def valid (h : Int) (l : List Fr) : Bool := decide (0 ≤ h) && decide (h ≤ 1073741824) && !badAll h l
def chk (h : Int) (l : List Fr) : Int := if valid h l then 0 else 2
def lastF (l : List Fr) : Fr := l.getD (l.length - 1) Fr.none
/-- A stand, and an error. -/
structure R where
  h : Int
  l : List Fr
  e : Int
def bad (e : Int) : R := ⟨0, [], e⟩
def newR (r : Int) : R := if wrongRe r then bad 2 else ⟨0, [⟨0, 0, r, false⟩], 0⟩
def pushR (h : Int) (l : List Fr) (n : Int) : R := if valid h l = false then bad 2 else if n < 0 then bad 2 else if 1073741824 - h < n then bad 8 else ⟨h + n, l, 0⟩
/-- What stands when n words have been taken in a frame. -/
def without (h n : Int) (f : Fr) : Int × Int := if h - f.ba < n ∧ f.de = false then (0, 200) else (if f.ba ≤ h - n then h - n else f.ba, 0)
def popR (h : Int) (l : List Fr) (n : Int) : R := if valid h l = false then bad 2 else if n < 0 then bad 2 else if (without h n (lastF l)).2 = 0 then ⟨(without h n (lastF l)).1, l, 0⟩ else bad (without h n (lastF l)).2
def deadR (h : Int) (l : List Fr) : R := if valid h l = false then bad 2 else ⟨(lastF l).ba, l.set (l.length - 1) { lastF l with de := true }, 0⟩
def enterR (h : Int) (l : List Fr) (op r : Int) : R := if valid h l = false then bad 2 else if opens op = false ∨ wrongRe r = true then bad 2 else if l.length = 1000 then bad 8 else ⟨h, l ++ [⟨op, h, r, false⟩], 0⟩
def leaveR (h : Int) (l : List Fr) : R :=
  if valid h l = false then bad 2 else if (without h (lastF l).re (lastF l)).2 ≠ 0 then bad (without h (lastF l).re (lastF l)).2 else if (lastF l).ba < (without h (lastF l).re (lastF l)).1 then bad 201
  else ⟨(without h (lastF l).re (lastF l)).1 + (lastF l).re, l.take (l.length - 1), 0⟩
def labelR (h : Int) (l : List Fr) (n : Int) : Int × Int :=
  if valid h l = false then (0, 2) else if n < 0 ∨ (l.length : Int) ≤ n then (0, 6) else if (l.getD (l.length - 1 - n.toNat) Fr.none).op = 3 then (0, 0) else ((l.getD (l.length - 1 - n.toNat) Fr.none).re, 0)

theorem valid_yes {h : Int} {l : List Fr} (hv : valid h l = true) : 0 ≤ h ∧ h ≤ 1073741824 ∧ l ≠ [] ∧ l.length ≤ 1000 := by
  unfold valid at hv
  simp only [Bool.and_eq_true, decide_eq_true_eq, Bool.not_eq_true'] at hv
  obtain ⟨⟨h1, h2⟩, h3⟩ := hv
  cases l with
  | nil => simp [badAll] at h3
  | cons f l =>
    simp only [badAll, Bool.or_eq_false_iff, decide_eq_false_iff_not] at h3
    exact ⟨h1, h2, by simp, by simp; omega⟩
theorem badF_no {h b : Int} {f : Fr} (hv : badF h b f = false) : opens f.op = true ∧ b ≤ f.ba ∧ f.ba ≤ h ∧ 0 ≤ f.re ∧ f.re ≤ 1 := by
  unfold badF wrongRe at hv
  simp only [Bool.or_eq_false_iff, decide_eq_false_iff_not, Bool.not_eq_false', Int.not_lt] at hv
  obtain ⟨⟨⟨h1, h2⟩, h3⟩, h4, h5⟩ := hv
  exact ⟨h1, h2, h3, h4, h5⟩
/-- What each frame of a list that may be is. -/
def fine (h : Int) (f : Fr) : Prop := 0 ≤ f.ba ∧ f.ba ≤ h ∧ 0 ≤ f.re ∧ f.re ≤ 1
theorem badL_no {h : Int} : ∀ {b : Int} {l : List Fr}, 0 ≤ b → badL h b l = false → ∀ f ∈ l, fine h f
  | _, [], _, _, f, hf => by simp at hf
  | b, g :: l, hb, hv, f, hf => by
    simp only [badL, Bool.or_eq_false_iff] at hv
    obtain ⟨h1, h2, h3, h4, h5⟩ := badF_no hv.1
    rcases List.mem_cons.1 hf with rfl | hf
    · exact ⟨by omega, h3, h4, h5⟩
    · exact badL_no (by omega) hv.2 f hf
theorem valid_fine {h : Int} {l : List Fr} (hv : valid h l = true) : ∀ f ∈ l, fine h f := by
  have ⟨h1, _⟩ := valid_yes hv
  unfold valid at hv
  simp only [Bool.and_eq_true, decide_eq_true_eq, Bool.not_eq_true'] at hv
  obtain ⟨_, h3⟩ := hv
  cases l with
  | nil => simp
  | cons g l =>
    simp only [badAll, Bool.or_eq_false_iff, badFirst, wrongRe, decide_eq_false_iff_not, Int.not_lt, ne_eq, Decidable.not_not] at h3
    obtain ⟨_, ⟨⟨h4, h5⟩, h6, h7⟩, h8⟩ := h3
    intro f hf
    rcases List.mem_cons.1 hf with rfl | hf
    · exact ⟨by omega, by omega, h6, h7⟩
    · exact badL_no (by omega) h8 f hf
theorem lastF_mem {l : List Fr} (h : l ≠ []) : lastF l ∈ l := by
  have hl : 0 < l.length := List.length_pos_iff.2 h
  unfold lastF
  rw [List.getD_eq_getElem?_getD, List.getElem?_eq_getElem (by omega)]
  exact List.getElem_mem _
theorem lastF_fine {h : Int} {l : List Fr} (hv : valid h l = true) : fine h (lastF l) := valid_fine hv _ (lastF_mem (valid_yes hv).2.2.1)
/-- From the k-th one on. -/
theorem badL_at {h b : Int} {l : List Fr} {k : Nat} (hk : k < l.length) : badL h b (l.drop k) = (badF h b l[k] || badL h l[k].ba (l.drop (k + 1))) := by
  rw [List.drop_eq_getElem_cons hk]; rfl
end Go.Proofs.YtgecmcenhjcecaaGreatDoor.Stk

namespace Go.Proofs.YtgecmcenhjcecaaGreatDoor.Instr
open Go.RowKit

def takesTab : List Int := [0, 0, 0, 0, 0, 0, 0, 0, 0, 0, 0, 0, 0, 0, 0, 0, 0, 0, 0, 0, 0, 0, 0, 0, 0, 0, 1, 3, 0, 0, 0, 0, 0, 1, 1, 0, 1, 0, 0, 0, 1, 0, 0, 0, 1, 1, 1, 1, 0, 0, 0, 0, 0, 0, 2, 0, 0, 0, 2, 2, 0, 0, 0, 0, 1, 0]
def leavesTab : List Int := [0, 0, 0, 0, 0, 0, 0, 0, 0, 0, 0, 0, 0, 0, 0, 0, 0, 0, 0, 0, 0, 0, 0, 0, 0, 0, 0, 1, 0, 0, 0, 0, 1, 0, 1, 1, 0, 0, 0, 0, 1, 0, 0, 0, 1, 1, 1, 1, 0, 0, 0, 0, 0, 0, 0, 0, 0, 0, 0, 0, 0, 0, 0, 1, 1, 1]
def knownTab : List Bool := [false, true, false, false, false, false, false, false, false, false, false, false, false, false, false, false, false, false, false, false, false, false, false, false, false, false, true, true, false, false, false, false, true, true, true, true, true, false, false, false, true, false, false, false, true, true, true, true, false, false, false, false, false, false, true, false, false, false, true, true, false, false, false, true, true, true]
def shapeCells : List Value := (List.range 66).flatMap fun j => [.int .u8 (takesTab.getD j 0), .int .u8 (leavesTab.getD j 0), .bool (knownTab.getD j false)]
def shapeParts : List (Nat × Value) := [(1, .agg #[.int .u8 0, .int .u8 0, .bool true]), (26, .agg #[.int .u8 1, .int .u8 0, .bool true]), (27, .agg #[.int .u8 3, .int .u8 1, .bool true]), (32, .agg #[.int .u8 0, .int .u8 1, .bool true]), (33, .agg #[.int .u8 1, .int .u8 0, .bool true]), (34, .agg #[.int .u8 1, .int .u8 1, .bool true]), (35, .agg #[.int .u8 0, .int .u8 1, .bool true]), (36, .agg #[.int .u8 1, .int .u8 0, .bool true]), (40, .agg #[.int .u8 1, .int .u8 1, .bool true]), (44, .agg #[.int .u8 1, .int .u8 1, .bool true]), (45, .agg #[.int .u8 1, .int .u8 1, .bool true]), (46, .agg #[.int .u8 1, .int .u8 1, .bool true]), (47, .agg #[.int .u8 1, .int .u8 1, .bool true]), (54, .agg #[.int .u8 2, .int .u8 0, .bool true]), (58, .agg #[.int .u8 2, .int .u8 0, .bool true]), (59, .agg #[.int .u8 2, .int .u8 0, .bool true]), (63, .agg #[.int .u8 0, .int .u8 1, .bool true]), (64, .agg #[.int .u8 1, .int .u8 1, .bool true]), (65, .agg #[.int .u8 0, .int .u8 1, .bool true])]
theorem shape_built : Tryz.prog.built 184 shapeParts = some shapeCells.toArray := by kernel_rfl
theorem shapeCells_all : ((List.range 66).map fun j => (shapeCells[j * 3]?, shapeCells[j * 3 + 1]?, shapeCells[j * 3 + 2]?)) = (List.range 66).map fun j => (some (.int .u8 (takesTab.getD j 0)), some (.int .u8 (leavesTab.getD j 0)), some (.bool (knownTab.getD j false))) := by kernel_rfl
theorem shapeCells_at (j : Nat) (h : j < 66) : shapeCells[j * 3]? = some (.int .u8 (takesTab.getD j 0)) ∧ shapeCells[j * 3 + 1]? = some (.int .u8 (leavesTab.getD j 0)) ∧ shapeCells[j * 3 + 2]? = some (.bool (knownTab.getD j false)) := by
  have h1 := (List.map_inj_left.1 shapeCells_all) j (List.mem_range.2 h)
  simp only [Prod.mk.injEq] at h1
  exact h1
/-- What an operation that is not of num takes and leaves, and whether it has a shape. -/
def takesO (op : Int) : Int := if 0 ≤ op ∧ op < 66 then takesTab.getD op.toNat 0 else 0
def leavesO (op : Int) : Int := if 0 ≤ op ∧ op < 66 then leavesTab.getD op.toNat 0 else 0
def knownO (op : Int) : Bool := if 0 ≤ op ∧ op < 66 then knownTab.getD op.toNat false else false

section
variable {ops : Array Oper} {rest : List Oper} {o : Oper} {act : Act} {w : World} {Q : Exit → Act → World → Prop}
theorem build_shapes (hgd : o.guard = none) (parts : Array (Nat × Operand)) (ho : o.op = .build 184 parts) (he : (parts.map fun (i, x) => (i, act.eval x)).toList = shapeParts)
    (h : ∀ C : Array Value, C = shapeCells.toArray → wpList Tryz.prog ops Q rest (act.put o.dst (.agg C)) w) : wpList Tryz.prog ops Q (o :: rest) act w := by
  refine wpList_build hgd 184 parts ho ?_ ?_
  · rw [he, shape_built]; rfl
  · rw [he, shape_built]; exact h _ rfl
end
theorem zero56 : Tryz.zeroCells184.size = 198 := by kernel_rfl
theorem info56 : (Tryz.prog.info? 184).map (·.size) = some 198 := by kernel_rfl
theorem all56 : shapeCells.toArray.all (·.oneCell') = true := by kernel_rfl

set_option maxRecDepth 100000 in
set_option maxHeartbeats 2000000 in
theorem shapeOf_in (op : Int) (w : World) (h0 : 0 ≤ op) (h1 : op < 66) (x y : Int) (z : Bool) (hx : takesTab.getD op.toNat 0 = x) (hy : leavesTab.getD op.toNat 0 = y) (hz : knownTab.getD op.toNat false = z) :
    Calls Tryz.prog 122 #[.int .i64 op] w fun e w' => e = .returned (.agg #[.int .u8 x, .int .u8 y, .bool z]) ∧ Below w.heap.size w w' := by
  have hc := shapeCells_at op.toNat (by omega)
  simp only [hx, hy, hz] at hc
  have HC := hid hc
  clear hc hx hy hz
  go_enter Tryz.func122, Tryz.ntmps122
  go_wp2_with (refine build_shapes rfl _ rfl (by simp [shapeParts, go_sem]) ?_; intro C hC; replace hC := hid hC; refine Hid.out ?_)
  refine hid ?_
  have hs : C.size = 198 := by rw [hC.out]; kernel_rfl
  have ha : C.all (·.oneCell') = true := by rw [hC.out]; exact all56
  have hc0 : C[op.toNat * 3]? = some (.int .u8 x) := by rw [hC.out]; simpa using HC.out.1
  have hc1 : C[op.toNat * 3 + 1]? = some (.int .u8 y) := by rw [hC.out]; simpa using HC.out.2.1
  have hc2 : C[op.toNat * 3 + 2]? = some (.bool z) := by rw [hC.out]; simpa using HC.out.2.2
  clear HC hC
  have hst := run_storeAt_new (P := Tryz.prog) (w.alloc (.cells #[.int .u8 0, .int .u8 0, .bool false] 174)) 184 Tryz.zeroCells184 C (by rw [info56, hs]) (by rw [zero56, hs]) ha
  have hst2 := run_storeCells_new (P := Tryz.prog) (w.alloc (.cells #[.int .u8 0, .int .u8 0, .bool false] 174)) 184 Tryz.zeroCells184 C (by rw [info56, hs]) (by rw [zero56, hs]) ha
  rw [World.size_alloc] at hst hst2
  clear ha
  go_wp2
  refine bodyPost_ret (v := .agg #[.int .u8 x, .int .u8 y, .bool z]) (by simp [results, Tryz.f122, go_sem]) rfl ?_
  exact ⟨rfl, thenA (thenA (Below.refl _ _) _) _⟩
set_option maxRecDepth 100000 in
set_option maxHeartbeats 4000000 in
theorem shapeOf_out (op : Int) (w : World) (h : op < 0 ∨ 66 ≤ op) :
    Calls Tryz.prog 122 #[.int .i64 op] w fun e w' => e = .returned (.agg #[.int .u8 0, .int .u8 0, .bool false]) ∧ Below w.heap.size w w' := by
  rcases h with h | h
  all_goals
    go_enter Tryz.func122, Tryz.ntmps122
    go_wp2_with (refine build_shapes rfl _ rfl (by simp [shapeParts, go_sem]) ?_; intro C hC; replace hC := hid hC; refine Hid.out ?_)
    refine hid ?_
    have hs : C.size = 198 := by rw [hC.out]; kernel_rfl
    have ha : C.all (·.oneCell') = true := by rw [hC.out]; exact all56
    clear hC
    have hst := run_storeAt_new (P := Tryz.prog) (w.alloc (.cells #[.int .u8 0, .int .u8 0, .bool false] 174)) 184 Tryz.zeroCells184 C (by rw [info56, hs]) (by rw [zero56, hs]) ha
    have hst2 := run_storeCells_new (P := Tryz.prog) (w.alloc (.cells #[.int .u8 0, .int .u8 0, .bool false] 174)) 184 Tryz.zeroCells184 C (by rw [info56, hs]) (by rw [zero56, hs]) ha
    rw [World.size_alloc] at hst hst2
    clear ha
    go_wp2
    refine bodyPost_ret (v := .agg #[.int .u8 0, .int .u8 0, .bool false]) (by simp [results, Tryz.f122, go_sem]) rfl ?_
    exact ⟨rfl, thenA (thenA (Below.refl _ _) _) _⟩
theorem shapeOf_any (op : Int) (w : World) :
    Calls Tryz.prog 122 #[.int .i64 op] w fun e w' => e = .returned (.agg #[.int .u8 (takesO op), .int .u8 (leavesO op), .bool (knownO op)]) ∧ Below w.heap.size w w' := by
  unfold takesO leavesO knownO
  by_cases h : 0 ≤ op ∧ op < 66
  · rw [if_pos h, if_pos h, if_pos h]
    exact shapeOf_in op w h.1 h.2 _ _ _ rfl rfl rfl
  · rw [if_neg h, if_neg h, if_neg h]
    exact shapeOf_out op w (by omega)
def takesP (op : Int) : Int := if 0 < Num.arity op then Num.arity op else takesO op
def leavesP (op : Int) : Int := if 0 < Num.arity op then 1 else leavesO op
def knownP (op : Int) : Bool := if 0 < Num.arity op then true else knownO op
theorem takesO_range (op : Int) : 0 ≤ takesO op ∧ takesO op ≤ 3 := by
  unfold takesO
  split
  · have : ∀ j : Fin 66, 0 ≤ takesTab.getD j.val 0 ∧ takesTab.getD j.val 0 ≤ 3 := by decide +kernel
    exact this ⟨op.toNat, by omega⟩
  · omega
theorem leavesO_range (op : Int) : 0 ≤ leavesO op ∧ leavesO op ≤ 1 := by
  unfold leavesO
  split
  · have : ∀ j : Fin 66, 0 ≤ leavesTab.getD j.val 0 ∧ leavesTab.getD j.val 0 ≤ 1 := by decide +kernel
    exact this ⟨op.toNat, by omega⟩
  · omega
set_option maxHeartbeats 1000000 in
theorem Shape_any (op : Int) (w : World) (hT : Num.Arit w) :
    Calls Tryz.prog 107 #[.int .i64 op] w fun e w' => e = .returned (.tuple #[.int .i64 (takesP op), .int .i64 (leavesP op), .bool (knownP op)]) ∧ Below w.heap.size w w' := by
  have CN := Num.Arity_any op w hT
  have CS := shapeOf_any op w
  have hr := takesO_range op
  have hr2 := leavesO_range op
  unfold takesP leavesP knownP
  obtain ⟨n, hn⟩ : ∃ n, Num.arity op = n := ⟨_, rfl⟩
  obtain ⟨x, hx⟩ : ∃ x, takesO op = x := ⟨_, rfl⟩
  obtain ⟨y, hy⟩ : ∃ y, leavesO op = y := ⟨_, rfl⟩
  obtain ⟨z, hz⟩ : ∃ z, knownO op = z := ⟨_, rfl⟩
  rw [hn] at CN
  rw [hx, hy, hz] at CS
  rw [hx] at hr
  rw [hy] at hr2
  rw [hn, hx, hy, hz]
  obtain ⟨r0, r1⟩ := hr
  obtain ⟨r2, r3⟩ := hr2
  clear hn hx hy hz hT
  have C := hid CN
  have D := hid CS
  clear CN CS
  by_cases h : 0 < n
  · rw [if_pos h, if_pos h, if_pos h]
    clear D
    go_enter Tryz.func107, Tryz.ntmps107
    go_wp2_with fail
    refine C.out.mono ?_
    clear C
    rintro e w1 ⟨rfl, rfl⟩
    go_wp2
    go_ret3
    exact ⟨rfl, Below.refl _ _⟩
  · rw [if_neg h, if_neg h, if_neg h]
    have h' : n ≤ 0 := by omega
    clear h
    go_enter Tryz.func107, Tryz.ntmps107
    go_wp2_with fail
    refine C.out.mono ?_
    clear C
    rintro e w1 ⟨rfl, rfl⟩
    go_wp2_with fail
    refine D.out.mono ?_
    clear D
    rintro e w1 ⟨rfl, hb⟩
    go_wp2_with fail
    go_quiet (fail)
    go_wp2
    go_ret3
    exact ⟨rfl, drewN (thenA hb _)⟩
end Go.Proofs.YtgecmcenhjcecaaGreatDoor.Instr

namespace Go.Proofs.YtgecmcenhjcecaaGreatDoor.Val
open Go.RowKit Go.Proofs.YtgecmcenhjcecaaGreatDoor.Instr Go.Proofs.YtgecmcenhjcecaaGreatDoor.Mod
open Go.Proofs.YtgecmcenhjcecaaGreatDoor.Stk (Fr R pushR popR deadR enterR leaveR labelR newR)

/-- A checker's own: the stand, how many instructions have been begun, which one is checked, the first error. -/
structure St where
  h : Int
  l : List Fr
  cnt : Int
  at_ : Int
  er : Int
def St.put (s : St) (r : R) : St := ⟨r.h, r.l, s.cnt, s.at_, r.e⟩
def failS (e : Int) (s : St) : St := if s.er = 0 then ⟨s.h, s.l, s.cnt, s.at_, e⟩ else s
def pushS (n : Int) (s : St) : St := if s.er = 0 then s.put (pushR s.h s.l n) else s
def popS (n : Int) (s : St) : St := if s.er = 0 then s.put (popR s.h s.l n) else s
def deadS (s : St) : St := if s.er = 0 then s.put (deadR s.h s.l) else s
def enterS (op re : Int) (s : St) : St := if s.er = 0 then s.put (enterR s.h s.l op re) else s
def leaveS (own : Int) (s : St) : St := if s.er = 0 then St.put ⟨s.h, s.l, s.cnt, own, s.er⟩ (leaveR s.h s.l) else s
def labelS (n : Int) (s : St) : Int × St := if s.er = 0 then ((labelR s.h s.l n).1, failS (labelR s.h s.l n).2 s) else (0, s)
def tagsS (k : Int) : List Int → Bool → St → Bool × St
  | [], b, s => (b, s)
  | t :: r, b, s => tagsS k r (decide ((labelS t s).1 = k) && b) (labelS t s).2
def tableS (tags : List Int) (last : Int) (s : St) : St :=
  if (tagsS (labelS last s).1 tags true (labelS last s).2).1 then (tagsS (labelS last s).1 tags true (labelS last s).2).2 else failS 214 (tagsS (labelS last s).1 tags true (labelS last s).2).2
def brS (a : Int) (s : St) : St := deadS (popS (labelS a s).1 (labelS a s).2)
def brIfS (a : Int) (s : St) : St := pushS (labelS a s).1 (popS (labelS a s).1 (popS 1 (labelS a s).2))
/-- What an instruction calls. -/
def calleeP (m : Md) (x : Ix) : (Int × Int) × Bool :=
  if x.op = 16 then m.typeOf x.a.toNat else if m.tb.length = 0 ∨ (m.ty.length : Int) ≤ x.a then ((0, 0), false) else (m.ty.getD x.a.toNat (0, 0), true)
def lacksP (m : Md) (lo : Int) (x : Ix) : Int :=
  if x.op = 16 ∨ x.op = 17 then (if (calleeP m x).2 then 0 else 6)
  else if x.op = 32 ∨ x.op = 33 ∨ x.op = 34 then (if x.a < lo then 0 else 6)
  else if x.op = 35 ∨ x.op = 36 then (if x.a < (m.gl.length : Int) then (if x.op = 36 ∧ (m.gl.map (·.mu)).getD x.a.toNat false = false then 212 else 0) else 6)
  else if storedP x.op then (if m.me.length = 0 then 6 else if alignP x.op < x.a then 211 else 0)
  else if x.op = 63 ∨ x.op = 64 then (if m.me.length = 0 then 6 else 0) else 0
def callS (t : Int × Int) (s : St) : St := pushS t.2 (popS t.1 s)
def St.back (s b : St) : St := ⟨b.h, b.l, s.cnt, s.at_, s.er⟩
def eitherS (re : Int) (L E : St → St) (s : St) : St := E (enterS 5 re ((L (enterS 4 re (popS 1 s))).back (popS 1 s)))
/-- One instruction, behind what it lacks. -/
def opS (m : Md) (re : Int) (x : Ix) (L E : St → St) (s : St) : St :=
  if x.op = 0 then deadS s
  else if x.op = 2 ∨ x.op = 3 then L (enterS x.op x.res s)
  else if x.op = 4 then eitherS x.res L E s
  else if x.op = 14 then brS x.a (popS 1 (tableS x.tags x.a s))
  else if x.op = 12 then brS x.a s
  else if x.op = 13 then brIfS x.a s
  else if x.op = 15 then deadS (popS re s)
  else if x.op = 17 then callS (calleeP m x).1 (popS 1 s)
  else if x.op = 16 then callS (calleeP m x).1 s
  else pushS (leavesP x.op) (popS (takesP x.op) s)
def insS (m : Md) (lo re : Int) (x : Ix) (L E : St → St) (s : St) : St := opS m re x L E (failS (lacksP m lo x) s)
def St.next (s : St) : St := ⟨s.h, s.l, s.cnt + 1, s.cnt + 1, s.er⟩
/-- A list, but for its end. -/
def runS (m : Md) (lo re : Int) : Il → St → St
  | .nil, s => s
  | .cons x l e r, s => if s.er = 0 then runS m lo re r (insS m lo re x (fun s => leaveS s.at_ (runS m lo re l s)) (fun s => leaveS s.at_ (runS m lo re e s)) s.next) else s
def listS (m : Md) (lo re : Int) (t : Il) (s : St) : St := leaveS s.at_ (runS m lo re t s)
theorem runS_cons (m : Md) (lo re : Int) (x : Ix) (l e r : Il) (s : St) : runS m lo re (.cons x l e r) s = if s.er = 0 then runS m lo re r (insS m lo re x (listS m lo re l) (listS m lo re e) s.next) else s := rfl
theorem runS_er (m : Md) (lo re : Int) (t : Il) (s : St) (h : s.er ≠ 0) : runS m lo re t s = s := by
  cases t with
  | nil => rfl
  | cons x l e r => rw [runS_cons, if_neg h]
def startS (re : Int) : St := ⟨(newR re).h, (newR re).l, 0, 0, (newR re).e⟩
/-- The first error of a function, and where. -/
def Md.bodyP (m : Md) (n : Nat) : Int × Int :=
  if (m.typeOf (m.im.length + n)).2 = false then (6, 0)
  else
    let f := m.fu.getD n ⟨0, 0, ⟨none, 0, .nil⟩⟩
    let t := (m.typeOf (m.im.length + n)).1
    let s := listS m (t.1 + f.lo) t.2 f.l.t (startS t.2)
    (s.er, s.at_)
def Md.body (m : Md) (n : Int) : Int × Int := if m.check ≠ 0 then (m.check, 0) else if n < 0 ∨ (m.fu.length : Int) ≤ n then (6, 0) else bodyP m n.toNat
/-- How many have been begun, behind each step: as many as there are. -/
theorem failS_cnt (e : Int) (s : St) : (failS e s).cnt = s.cnt := by unfold failS; split <;> rfl
theorem pushS_cnt (e : Int) (s : St) : (pushS e s).cnt = s.cnt := by unfold pushS; split <;> rfl
theorem popS_cnt (e : Int) (s : St) : (popS e s).cnt = s.cnt := by unfold popS; split <;> rfl
theorem deadS_cnt (s : St) : (deadS s).cnt = s.cnt := by unfold deadS; split <;> rfl
theorem enterS_cnt (o e : Int) (s : St) : (enterS o e s).cnt = s.cnt := by unfold enterS; split <;> rfl
theorem leaveS_cnt (e : Int) (s : St) : (leaveS e s).cnt = s.cnt := by unfold leaveS; split <;> rfl
theorem labelS_cnt (n : Int) (s : St) : (labelS n s).2.cnt = s.cnt := by unfold labelS; split <;> simp [failS_cnt]
theorem tagsS_cnt (k : Int) : ∀ (l : List Int) (b : Bool) (s : St), (tagsS k l b s).2.cnt = s.cnt
  | [], _, _ => rfl
  | t :: r, b, s => by rw [tagsS, tagsS_cnt k r, labelS_cnt]
theorem tableS_cnt (tags : List Int) (last : Int) (s : St) : (tableS tags last s).cnt = s.cnt := by unfold tableS; split <;> simp [failS_cnt, tagsS_cnt, labelS_cnt]
theorem brS_cnt (a : Int) (s : St) : (brS a s).cnt = s.cnt := by simp [brS, deadS_cnt, popS_cnt, labelS_cnt]
theorem brIfS_cnt (a : Int) (s : St) : (brIfS a s).cnt = s.cnt := by simp [brIfS, pushS_cnt, popS_cnt, labelS_cnt]
theorem callS_cnt (t : Int × Int) (s : St) : (callS t s).cnt = s.cnt := by simp [callS, pushS_cnt, popS_cnt]
theorem opS_cnt {m : Md} {re : Int} {x : Ix} {L E : St → St} {a b : Int} (ha : 0 ≤ a) (hb : 0 ≤ b) (hL : ∀ s, s.cnt ≤ (L s).cnt ∧ (L s).cnt ≤ s.cnt + a) (hE : ∀ s, s.cnt ≤ (E s).cnt ∧ (E s).cnt ≤ s.cnt + b) (s : St) : s.cnt ≤ (opS m re x L E s).cnt ∧ (opS m re x L E s).cnt ≤ s.cnt + a + b := by
  have h0 : ∀ s' : St, s'.cnt = s.cnt → s.cnt ≤ s'.cnt ∧ s'.cnt ≤ s.cnt + a + b := fun s' h => by omega
  unfold opS
  split; · exact h0 _ (deadS_cnt _)
  split
  · have := hL (enterS x.op x.res s); rw [enterS_cnt] at this; omega
  split
  · unfold eitherS
    have h1 := hE (enterS 5 x.res ((L (enterS 4 x.res (popS 1 s))).back (popS 1 s)))
    have h2 := hL (enterS 4 x.res (popS 1 s))
    rw [enterS_cnt] at h1 h2
    rw [popS_cnt] at h2
    have h3 : ((L (enterS 4 x.res (popS 1 s))).back (popS 1 s)).cnt = (L (enterS 4 x.res (popS 1 s))).cnt := rfl
    omega
  split; · exact h0 _ (by rw [brS_cnt, popS_cnt, tableS_cnt])
  split; · exact h0 _ (brS_cnt _ _)
  split; · exact h0 _ (brIfS_cnt _ _)
  split; · exact h0 _ (by rw [deadS_cnt, popS_cnt])
  split; · exact h0 _ (by rw [callS_cnt, popS_cnt])
  split; · exact h0 _ (callS_cnt _ _)
  exact h0 _ (by rw [pushS_cnt, popS_cnt])
theorem runS_cnt (m : Md) (lo re : Int) : ∀ (t : Il) (s : St), s.cnt ≤ (runS m lo re t s).cnt ∧ (runS m lo re t s).cnt ≤ s.cnt + t.count
  | .nil, s => by simp [runS, Il.count]
  | .cons x l e r, s => by
    rw [runS_cons]
    split
    · have hL : ∀ s, s.cnt ≤ (listS m lo re l s).cnt ∧ (listS m lo re l s).cnt ≤ s.cnt + l.count := fun s => by unfold listS; rw [leaveS_cnt]; exact runS_cnt m lo re l s
      have hE : ∀ s, s.cnt ≤ (listS m lo re e s).cnt ∧ (listS m lo re e s).cnt ≤ s.cnt + e.count := fun s => by unfold listS; rw [leaveS_cnt]; exact runS_cnt m lo re e s
      have h1 := runS_cnt m lo re r (insS m lo re x (listS m lo re l) (listS m lo re e) s.next)
      have h2 := opS_cnt (m := m) (re := re) (x := x) (by omega) (by omega) hL hE (failS (lacksP m lo x) s.next)
      rw [failS_cnt] at h2
      have h3 : s.next.cnt = s.cnt + 1 := rfl
      unfold insS at h1 ⊢
      simp only [Il.count]
      omega
    · simp only [Il.count]; omega
theorem listS_cnt (m : Md) (lo re : Int) (t : Il) (s : St) : s.cnt ≤ (listS m lo re t s).cnt ∧ (listS m lo re t s).cnt ≤ s.cnt + t.count := by
  unfold listS; rw [leaveS_cnt]; exact runS_cnt m lo re t s
end Go.Proofs.YtgecmcenhjcecaaGreatDoor.Val

namespace Go.Proofs.YtgecmcenhjcecaaGreatDoor.Stk
open Go.RowKit
set_option linter.unusedVariables false

def wrongH (h : Int) : Bool := decide (h < 0) || decide (1073741824 < h)
theorem wrongHeight_any (h : Int) (w : World) : Calls Tryz.prog 130 #[.int .i64 h] w fun e w' => e = .returned (.bool (wrongH h)) ∧ w = w' := by
  have H : Hid (wrongH h = (decide (h < 0) || decide (1073741824 < h))) := rfl
  by_cases g : h < 0
  · have HE : Hid (wrongH h = true) := by show _ = _; rw [H.out]; simp [g]
    go_enter Tryz.func130, Tryz.ntmps130
    go_wp2
    go_ret
    exact ⟨ret_bool HE.out.symm, rfl⟩
  · have h' : decide (h < 0) = false := by simpa using g
    have HE : Hid (wrongH h = decide (1073741824 < h)) := by show _ = _; rw [H.out, h', Bool.false_or]
    clear H
    go_enter Tryz.func130, Tryz.ntmps130
    go_wp2
    go_ret
    exact ⟨ret_bool HE.out.symm, rfl⟩
theorem wrongResults_any (h : Int) (w : World) : Calls Tryz.prog 82 #[.int .i64 h] w fun e w' => e = .returned (.bool (wrongRe h)) ∧ w = w' := by
  have H : Hid (wrongRe h = (decide (h < 0) || decide (1 < h))) := rfl
  by_cases g : h < 0
  · have HE : Hid (wrongRe h = true) := by show _ = _; rw [H.out]; simp [g]
    go_enter Tryz.func82, Tryz.ntmps82
    go_wp2
    go_ret
    exact ⟨ret_bool HE.out.symm, rfl⟩
  · have h' : decide (h < 0) = false := by simpa using g
    have HE : Hid (wrongRe h = decide (1 < h)) := by show _ = _; rw [H.out, h', Bool.false_or]
    clear H
    go_enter Tryz.func82, Tryz.ntmps82
    go_wp2
    go_ret
    exact ⟨ret_bool HE.out.symm, rfl⟩
theorem opensList_any (op : Int) (w : World) : Calls Tryz.prog 127 #[.int .i64 op] w fun e w' => e = .returned (.bool (opens op)) ∧ w = w' := by
  have H : Hid (opens op = (decide (op = 2) || decide (op = 3) || decide (op = 4) || decide (op = 5))) := rfl
  by_cases g2 : op = 2
  · have HE : Hid (opens op = true) := by show _ = _; rw [H.out]; simp [g2]
    subst g2
    clear H
    go_enter Tryz.func127, Tryz.ntmps127
    go_wp2
    go_ret
    exact ⟨ret_bool HE.out.symm, rfl⟩
  by_cases g3 : op = 3
  · have HE : Hid (opens op = true) := by show _ = _; rw [H.out]; simp [g3]
    subst g3
    clear H
    go_enter Tryz.func127, Tryz.ntmps127
    go_wp2
    go_ret
    exact ⟨ret_bool HE.out.symm, rfl⟩
  by_cases g4 : op = 4
  · have HE : Hid (opens op = true) := by show _ = _; rw [H.out]; simp [g4]
    subst g4
    clear H
    go_enter Tryz.func127, Tryz.ntmps127
    go_wp2
    go_ret
    exact ⟨ret_bool HE.out.symm, rfl⟩
  by_cases g5 : op = 5
  · have HE : Hid (opens op = true) := by show _ = _; rw [H.out]; simp [g5]
    subst g5
    clear H
    go_enter Tryz.func127, Tryz.ntmps127
    go_wp2
    go_ret
    exact ⟨ret_bool HE.out.symm, rfl⟩
  have HE : Hid (opens op = false) := by show _ = _; rw [H.out]; simp [g2, g3, g4, g5]
  have q2 : (op == 2) = false := by simp [g2]
  have q3 : (op == 3) = false := by simp [g3]
  have q4 : (op == 4) = false := by simp [g4]
  have q5 : (op == 5) = false := by simp [g5]
  clear H
  go_enter Tryz.func127, Tryz.ntmps127
  go_wp2
  go_ret
  exact ⟨ret_bool HE.out.symm, rfl⟩
theorem s64_in {x : Int} (h0 : -9223372036854775808 ≤ x) (h1 : x ≤ 9223372036854775807) : IntKind.i64.wrap x = x := by rw [IntKind.wrap_i64]; omega
/-- What is left when n words are taken in a frame. -/
theorem without_any (h n : Int) (f : Fr) (w : World) (h0 : 0 ≤ h) (h1 : h ≤ 1073741824) (b0 : 0 ≤ f.ba) (b1 : f.ba ≤ h) (n0 : 0 ≤ n) (n1 : n ≤ 9223372036854775807) :
    Calls Tryz.prog 124 #[.int .i64 h, .int .i64 n, .agg #[.int .i64 f.op, .int .i64 f.ba, .int .i64 f.re, .bool f.de]] w fun e w' => e = .returned (.tuple #[.int .i64 (without h n f).1, .int .i64 (without h n f).2]) ∧ Below w.heap.size w w' := by
  have HW : Hid (without h n f = if h - f.ba < n ∧ f.de = false then (0, 200) else (if f.ba ≤ h - n then h - n else f.ba, 0)) := rfl
  generalize hR : without h n f = R at HW ⊢
  obtain ⟨op, ba, re, de⟩ := f
  dsimp only at *
  clear hR
  have k1 : IntKind.i64.wrap (h - ba) = h - ba := s64_in (by omega) (by omega)
  have k2 : IntKind.i64.wrap (h - n) = h - n := s64_in (by omega) (by omega)
  by_cases g1 : h - ba < n
  · cases de with
    | false =>
      have HR : Hid (R = (0, 200)) := by show _ = _; rw [HW.out]; simp [g1]
      clear HW
      go_enter Tryz.func124, Tryz.ntmps124
      go_wp2
      go_ret2
      exact ⟨by rw [HR.out]; rfl, (Below.refl _ _).alloc (Nat.le_refl _) _⟩
    | true =>
      have HR : Hid (R = (ba, 0)) := by show _ = _; rw [HW.out]; simp; omega
      clear HW
      go_enter Tryz.func124, Tryz.ntmps124
      go_wp2
      go_ret2
      exact ⟨by rw [HR.out]; simp <;> omega, (Below.refl _ _).alloc (Nat.le_refl _) _⟩
  · have HR : Hid (R = (h - n, 0)) := by show _ = _; rw [HW.out, if_neg (fun h => g1 h.1), if_pos (by omega)]
    clear HW
    go_enter Tryz.func124, Tryz.ntmps124
    go_wp2
    go_ret2
    exact ⟨by rw [HR.out]; simp <;> omega, (Below.refl _ _).alloc (Nat.le_refl _) _⟩
end Go.Proofs.YtgecmcenhjcecaaGreatDoor.Stk

namespace Go.Proofs.YtgecmcenhjcecaaGreatDoor.Stk
open Go.RowKit
set_option linter.unusedVariables false

theorem drewn {B : Nat} {a w : World} (h : Below B a w) (n : Nat) : Below B a (w.drewN n) := ⟨h.os, h.tape, h.output, h.size, h.block⟩
/-- A stand in memory, below block n₀. -/
structure StAt (n₀ : Nat) (w : World) (a : Option Addr) (n c : Nat) (l : List Fr) : Prop where
  rows : Rows n₀ w a 4 (l.map Fr.v)
  len : l.length = n
  cap : n ≤ c
  fit : n ≤ 140737488351232
theorem StAt.below {n₀ : Nat} {w w' : World} {a : Option Addr} {n c : Nat} {l : List Fr} (hb : Below n₀ w w') (h : StAt n₀ w a n c l) : StAt n₀ w' a n c l := ⟨h.rows.below hb, h.len, h.cap, h.fit⟩
theorem StAt.more {n₀ n₁ : Nat} {w : World} {a : Option Addr} {n c : Nat} {l : List Fr} (hn : n₀ ≤ n₁) (h : StAt n₀ w a n c l) : StAt n₁ w a n c l := ⟨h.rows.more hn, h.len, h.cap, h.fit⟩
theorem StAt.on {w w' : World} {a : Option Addr} {n c : Nat} {l : List Fr} (h : StAt w.heap.size w a n c l) (hb : Below w.heap.size w w') : StAt w'.heap.size w' a n c l := (h.below hb).more hb.size
/-- Where the k-th frame lies. -/
theorem StAt.get {n₀ : Nat} {w : World} {a : Option Addr} {n c : Nat} {l : List Fr} (h : StAt n₀ w a n c l) (h0 : 0 < n) : ∃ b off, a = some ⟨b, off, none⟩ ∧ b < n₀ ∧ ∀ k (hk : k < l.length),
    w.cell? ⟨b, off + k * 4, none⟩ = some (.int .i64 l[k].op) ∧ w.cell? ⟨b, off + k * 4 + 1, none⟩ = some (.int .i64 l[k].ba) ∧ w.cell? ⟨b, off + k * 4 + 2, none⟩ = some (.int .i64 l[k].re) ∧ w.cell? ⟨b, off + k * 4 + 3, none⟩ = some (.bool l[k].de) := by
  have hl := h.len
  rcases h.rows with h1 | ⟨b, off, ha, hb, hc⟩
  · rw [List.map_eq_nil_iff] at h1; subst h1; simp at hl; omega
  · refine ⟨b, off, ha, hb, fun k hk => ?_⟩
    have key : ∀ j, j < 4 → ∀ v, (l[k].v)[j]? = some v → w.cell? ⟨b, off + k * 4 + j, none⟩ = some v := fun j hj v hv => hc k (by simpa using hk) j hj v (by
      rw [List.getD_eq_getElem?_getD, List.getElem?_map, List.getElem?_eq_getElem hk]; exact hv)
    exact ⟨key 0 (by omega) _ rfl, key 1 (by omega) _ rfl, key 2 (by omega) _ rfl, key 3 (by omega) _ rfl⟩

set_option maxRecDepth 100000 in
set_option maxHeartbeats 2000000 in
theorem wrongFrames_any (h : Int) (a : Option Addr) (n c : Nat) (l : List Fr) (w : World) (hs : StAt w.heap.size w a n c l) :
    Calls Tryz.prog 131 #[.agg #[.int .i64 h, .slice a n c]] w fun e w' => e = .returned (.bool (badAll h l)) ∧ Below w.heap.size w w' := by
  have HL := hid hs.len
  have HB1 := hid ((Below.refl w.heap.size w).alloc (Nat.le_refl _) (.cells #[.int .i64 h, .slice a n c] 96))
  have x0 : (w.alloc (.cells #[.int .i64 h, .slice a n c] 96)).cell? ⟨w.heap.size, 0, none⟩ = some (.int .i64 h) := by go_simp
  have x1 : (w.alloc (.cells #[.int .i64 h, .slice a n c] 96)).cell? ⟨w.heap.size, 1, none⟩ = some (.slice a n c) := by go_simp
  by_cases h0 : n = 0
  · subst h0
    have HE : Hid (badAll h l = true) := by show _ = _; rw [List.eq_nil_of_length_eq_zero HL.out]; rfl
    clear hs
    go_enter Tryz.func131, Tryz.ntmps131
    go_wp2
    go_ret
    exact ⟨ret_bool HE.out.symm, HB1.out⟩
  by_cases h1 : 1000 < n
  · have HE : Hid (badAll h l = true) := by
      show _ = _
      cases l with
      | nil => rfl
      | cons f l => have hl := HL.out; simp only [List.length_cons] at hl; simp only [badAll, Bool.or_eq_true, decide_eq_true_eq]; left; omega
    have h1i : (1000 : Int) < (n : Int) := by omega
    have h0i : ((n : Int) == 0) = false := by simp; omega
    clear hs
    go_enter Tryz.func131, Tryz.ntmps131
    go_wp2
    go_ret
    exact ⟨ret_bool HE.out.symm, HB1.out⟩
  have HN1 := hid h1
  obtain ⟨b, off, rfl, hb, hc⟩ := hs.get (Nat.pos_of_ne_zero h0)
  have HC := hid hc
  cases l with
  | nil => exact absurd HL.out (by simp; omega)
  | cons f l' =>
  obtain ⟨op, ba, re, de⟩ := f
  obtain ⟨c0, c1, c2, c3⟩ := HC.out 0 (by simp)
  simp only [List.getElem_cons_zero, Nat.zero_mul, Nat.add_zero] at c0 c1 c2 c3
  have h1i : ¬ (1000 : Int) < (n : Int) := by omega
  have h0i : ((n : Int) == 0) = false := by simp; omega
  have h0j : (0 : Int) < (n : Int) := by omega
  have HW1 := hid hs.cap
  have HE0 : Hid (badAll h (⟨op, ba, re, de⟩ :: l') = (badFirst ⟨op, ba, re, de⟩ || badL h 0 l')) := by
    show _ = _
    have hl := HL.out
    simp only [List.length_cons] at hl
    simp only [badAll]
    rw [show decide (1000 < l'.length + 1) = false by simp; omega, Bool.false_or]
  have CR := hid (fun W => wrongResults_any re W)
  obtain ⟨W1, hW1⟩ : ∃ W1, W1 = ((w.alloc (.cells #[.int .i64 h, .slice (some ⟨b, off, none⟩) n c] 96)).alloc (.cells #[.int .i64 op, .int .i64 ba, .int .i64 re, .bool de] 131)) := ⟨_, rfl⟩
  have HBW := hid (show Below w.heap.size w W1 by rw [hW1]; exact HB1.out.alloc (by simp) _)
  have y0 : W1.cell? ⟨w.heap.size, 0, none⟩ = some (.int .i64 h) := by rw [hW1]; go_simp
  have y1 : W1.cell? ⟨w.heap.size, 1, none⟩ = some (.slice (some ⟨b, off, none⟩) n c) := by rw [hW1]; go_simp
  have HSZ := hid (show w.heap.size + 2 = W1.heap.size by rw [hW1]; simp)
  have HW := hid hW1
  clear hc hs h1 hW1
  by_cases g0 : op = 0
  rotate_left
  · have HE : Hid (badAll h (⟨op, ba, re, de⟩ :: l') = true) := by show _ = _; rw [HE0.out]; simp [badFirst, g0]
    have q0 : (op != 0) = true := by simp [g0]
    clear HE0 HC
    go_enter Tryz.func131, Tryz.ntmps131
    go_wp2_with fail
    go_ret
    exact ⟨ret_bool HE.out.symm, by rw [← HW.out]; exact HBW.out⟩
  subst g0
  by_cases g1 : ba = 0
  rotate_left
  · have HE : Hid (badAll h (⟨0, ba, re, de⟩ :: l') = true) := by show _ = _; rw [HE0.out]; simp [badFirst, g1]
    have q0 : (ba != 0) = true := by simp [g1]
    clear HE0 HC
    go_enter Tryz.func131, Tryz.ntmps131
    go_wp2_with fail
    go_ret
    exact ⟨ret_bool HE.out.symm, by rw [← HW.out]; exact HBW.out⟩
  subst g1
  obtain ⟨q, hq⟩ : ∃ q, wrongRe re = q := ⟨_, rfl⟩
  rw [hq] at CR
  have HE1 : Hid (badAll h (⟨0, 0, re, de⟩ :: l') = (q || badL h 0 l')) := by show _ = _; rw [HE0.out]; simp [badFirst, hq]
  obtain ⟨R, hR⟩ : ∃ R, badAll h (⟨0, 0, re, de⟩ :: l') = R := ⟨_, rfl⟩
  rw [hR] at HE1 ⊢
  clear hq HE0 hR
  cases q with
  | true =>
    have HE : Hid (R = true) := HE1.out
    clear HE1 HC
    go_enter Tryz.func131, Tryz.ntmps131
    go_wp2_with fail
    refine (CR.out _).mono ?_
    rintro e w1 ⟨rfl, rfl⟩
    rw [← HW.out]
    go_wp2
    go_ret
    exact ⟨ret_bool HE.out.symm, HBW.out⟩
  | false =>
    go_enter Tryz.func131, Tryz.ntmps131
    go_wp2_with fail
    refine (CR.out _).mono ?_
    rintro e w1 ⟨rfl, rfl⟩
    rw [← HW.out]
    clear CR HW
    by_cases hcc : c = 1
    · subst hcc
      obtain rfl : n = 1 := by have := HW1.out; omega
      have hl0 : l' = [] := List.eq_nil_of_length_eq_zero (by have := HL.out; simpa using this)
      subst hl0
      have HE : Hid (R = false) := HE1.out
      clear HE1 HC
      go_wp2
      go_loopw [4, 5, 37] (fun _ _ vi wr => vi = .int .i64 0 ∧ wr = W1) (fun _ _ _ _ => 0)
      case atStart => exact ⟨rfl, rfl⟩
      case round =>
        obtain ⟨rfl, rfl⟩ := hrel
        go_wp2
        go_ret
        exact ⟨ret_bool HE.out.symm, HBW.out⟩
    · obtain ⟨m, rfl⟩ : ∃ m, n = m + 1 := ⟨n - 1, by omega⟩
      have hc1 : 1 ≤ m + 1 := by omega
      have hc2 : m + 1 ≤ c := HW1.out
      have hc3 : ¬ ((c : Int) = 1) := by omega
      have HLM : Hid (l'.length = m) := hid (by have := HL.out; simpa using this)
      have HE2 : Hid (R = badL h 0 l') := HE1.out
      clear HE1 HL
      have HCC := hid (fun (W : World) (hW : Below W1.heap.size W1 W) k (hk : k < l'.length + 1) => (by
        obtain ⟨g0, g1, g2, g3⟩ := HC.out k (by simpa using hk)
        have hbw := HBW.out.trans (hW.mono HBW.out.size)
        exact ⟨(hbw.cell (p := ⟨b, off + k * 4, none⟩) hb).trans g0, (hbw.cell (p := ⟨b, off + k * 4 + 1, none⟩) hb).trans g1, (hbw.cell (p := ⟨b, off + k * 4 + 2, none⟩) hb).trans g2, (hbw.cell (p := ⟨b, off + k * 4 + 3, none⟩) hb).trans g3⟩ :
        W.cell? ⟨b, off + k * 4, none⟩ = some (.int .i64 ((⟨0, 0, re, de⟩ :: l' : List Fr)[k]'(by simpa using hk)).op) ∧ W.cell? ⟨b, off + k * 4 + 1, none⟩ = some (.int .i64 ((⟨0, 0, re, de⟩ :: l' : List Fr)[k]'(by simpa using hk)).ba) ∧ W.cell? ⟨b, off + k * 4 + 2, none⟩ = some (.int .i64 ((⟨0, 0, re, de⟩ :: l' : List Fr)[k]'(by simpa using hk)).re) ∧ W.cell? ⟨b, off + k * 4 + 3, none⟩ = some (.bool ((⟨0, 0, re, de⟩ :: l' : List Fr)[k]'(by simpa using hk)).de)))
      clear HC c0 c1 c2 c3
      go_wp2
      go_loopw [4, 5, 37] (fun _ _ vi wr => ∃ k : Nat, vi = .int .i64 k ∧ k ≤ m ∧ Hid (Below W1.heap.size W1 wr) ∧ Hid (R = badL h ((⟨0, 0, re, de⟩ :: l' : List Fr).getD k Fr.none).ba (l'.drop k))) (fun _ _ vi _ => m - (intOf vi).toNat)
      case atStart => exact ⟨0, rfl, Nat.zero_le _, Below.refl _ _, HE2.out⟩
      case round =>
        obtain ⟨k, rfl, hk, HB, HI⟩ := hrel
        by_cases hlt : k < m
        · have hkl : k < l'.length := by rw [HLM.out]; exact hlt
          obtain ⟨g0, g1, g2, g3⟩ := HCC.out wr HB.out (k + 1) (by omega)
          obtain ⟨-, e1, -, -⟩ := HCC.out wr HB.out k (by omega)
          have hy : (⟨0, 0, re, de⟩ :: l' : List Fr)[k + 1]'(by simpa using hkl) = l'[k] := rfl
          have HS : Hid (R = (badF h ((⟨0, 0, re, de⟩ :: l' : List Fr).getD k Fr.none).ba l'[k] || badL h l'[k].ba (l'.drop (k + 1)))) := hid (by rw [HI.out, badL_at hkl])
          have hgd : ((⟨0, 0, re, de⟩ :: l' : List Fr).getD k Fr.none) = (⟨0, 0, re, de⟩ :: l' : List Fr)[k]'(by simp; omega) := by rw [List.getD_eq_getElem?_getD, List.getElem?_eq_getElem (by simp; omega)]; rfl
          have hgd1 : ((⟨0, 0, re, de⟩ :: l' : List Fr).getD (k + 1) Fr.none) = l'[k] := by rw [List.getD_eq_getElem?_getD, List.getElem?_eq_getElem (by simpa using hkl)]; rfl
          have HG1 := hid hgd1
          rw [hgd] at HS
          rw [hy] at g0 g1 g2 g3
          obtain ⟨b0, hb0⟩ : ∃ b0, ((⟨0, 0, re, de⟩ :: l' : List Fr)[k]'(by simp; omega)).ba = b0 := ⟨_, rfl⟩
          rw [hb0] at e1 HS
          obtain ⟨y, hye⟩ : ∃ y, l'[k] = y := ⟨_, rfl⟩
          rw [hye] at g0 g1 g2 g3 HS HG1
          obtain ⟨yo, yb, yr, yd⟩ := y
          dsimp only at g0 g1 g2 g3 HS HG1
          have ad : off + (k + 1) * 4 = off + 4 + k * 4 := by omega
          rw [ad] at g0 g1 g2 g3
          have hki : (k : Int) < (m : Int) := by omega
          clear hye hb0 hgd hgd1 hy ad HI
          have hks : k < m + 1 := by omega
          have hkj : (k : Int) < (m : Int) + 1 := by omega
          have t0 : wr.cell? ⟨w.heap.size, 0, none⟩ = some (.int .i64 h) := (HB.out.cell (p := ⟨w.heap.size, 0, none⟩) (by have := HSZ.out; show w.heap.size < _; omega)).trans y0
          have t1 : wr.cell? ⟨w.heap.size, 1, none⟩ = some (.slice (some ⟨b, off, none⟩) (m + 1) c) := (HB.out.cell (p := ⟨w.heap.size, 1, none⟩) (by have := HSZ.out; show w.heap.size < _; omega)).trans y1
          obtain ⟨W2, hW2⟩ : ∃ W2, W2 = wr.alloc (.cells #[.int .i64 yo, .int .i64 yb, .int .i64 yr, .bool yd] 131) := ⟨_, rfl⟩
          have HW2 := hid hW2
          have hA := (Below.refl wr.heap.size wr).alloc (Nat.le_refl _) (.cells #[.int .i64 yo, .int .i64 yb, .int .i64 yr, .bool yd] 131)
          rw [← hW2] at hA
          have HB2 := hid (HB.out.trans (hA.mono HB.out.size))
          have z0 : W2.cell? ⟨wr.heap.size, 0, none⟩ = some (.int .i64 yo) := by rw [hW2]; go_simp
          have z1 : W2.cell? ⟨wr.heap.size, 1, none⟩ = some (.int .i64 yb) := by rw [hW2]; go_simp
          have z2 : W2.cell? ⟨wr.heap.size, 2, none⟩ = some (.int .i64 yr) := by rw [hW2]; go_simp
          have t0' := keep hA t0
          have t1' := keep hA t1
          have e1' := keep hA e1
          clear hA hW2 y0 y1
          obtain ⟨q, hq⟩ : ∃ q, opens yo = q := ⟨_, rfl⟩
          have CO := hid (fun W => opensList_any yo W)
          rw [hq] at CO
          cases q with
          | false =>
            have HF : Hid (R = true) := hid (by rw [HS.out]; simp [badF, hq])
            clear hq HS HE2 HG1 HCC HLM
            go_wp2
            rw [← HW2.out]
            go_quiet ((go_at_call 127; exact Calls.quiet_of_same ((CO.out _).mono fun e w' h => ⟨h.1, h.2.symm⟩)))
            go_wp2
            go_ret
            exact ⟨ret_bool HF.out.symm, HBW.out.trans ((drewn HB2.out _).mono HBW.out.size)⟩
          | true =>
            have CR2 := hid (fun W => wrongResults_any yr W)
            by_cases d1 : yb < b0
            · have HF : Hid (R = true) := hid (by rw [HS.out]; simp [badF, hq, d1])
              clear hq HS HE2 HG1 HCC HLM
              go_wp2
              rw [← HW2.out]
              go_quiet (first | (go_at_call 127; exact Calls.quiet_of_same ((CO.out _).mono fun e w' h => ⟨h.1, h.2.symm⟩)) | (go_at_call 82; exact Calls.quiet_of_same ((CR2.out _).mono fun e w' h => ⟨h.1, h.2.symm⟩)))
              go_wp2
              go_ret
              exact ⟨ret_bool HF.out.symm, HBW.out.trans ((drewn HB2.out _).mono HBW.out.size)⟩
            have d1' : decide (yb < b0) = false := by simpa using d1
            by_cases d2 : h < yb
            · have HF : Hid (R = true) := hid (by rw [HS.out]; simp [badF, hq, d1, d2])
              clear hq HS HE2 HG1 HCC HLM d1
              go_wp2
              rw [← HW2.out]
              go_quiet (first | (go_at_call 127; exact Calls.quiet_of_same ((CO.out _).mono fun e w' h => ⟨h.1, h.2.symm⟩)) | (go_at_call 82; exact Calls.quiet_of_same ((CR2.out _).mono fun e w' h => ⟨h.1, h.2.symm⟩)))
              go_wp2
              go_ret
              exact ⟨ret_bool HF.out.symm, HBW.out.trans ((drewn HB2.out _).mono HBW.out.size)⟩
            have d2' : decide (h < yb) = false := by simpa using d2
            obtain ⟨q2, hq2⟩ : ∃ q, wrongRe yr = q := ⟨_, rfl⟩
            rw [hq2] at CR2
            have HX : Hid (R = (q2 || badL h yb (l'.drop (k + 1)))) := hid (by rw [HS.out]; simp [badF, hq, d1, d2, hq2])
            clear hq HS hq2 d1 d2
            cases q2 with
            | true =>
              have HF : Hid (R = true) := HX.out
              clear HX HE2 HG1 HCC HLM
              go_wp2
              rw [← HW2.out]
              go_quiet (first | (go_at_call 127; exact Calls.quiet_of_same ((CO.out _).mono fun e w' h => ⟨h.1, h.2.symm⟩)) | (go_at_call 82; exact Calls.quiet_of_same ((CR2.out _).mono fun e w' h => ⟨h.1, h.2.symm⟩)))
              go_wp2
              go_ret
              exact ⟨ret_bool HF.out.symm, HBW.out.trans ((drewn HB2.out _).mono HBW.out.size)⟩
            | false =>
              have HF : Hid (R = badL h yb (l'.drop (k + 1))) := HX.out
              clear HX HE2
              go_wp2
              rw [← HW2.out]
              go_quiet (first | (go_at_call 127; exact Calls.quiet_of_same ((CO.out _).mono fun e w' h => ⟨h.1, h.2.symm⟩)) | (go_at_call 82; exact Calls.quiet_of_same ((CR2.out _).mono fun e w' h => ⟨h.1, h.2.symm⟩)))
              go_wp2
              go_roundw
              case rel => exact ⟨k + 1, by go_num, by omega, drewn HB2.out _, by rw [HG1.out]; exact HF.out⟩
              case measure => simp [intOf]; omega
        · obtain rfl : k = m := by omega
          have HF : Hid (R = false) := hid (by rw [HI.out, List.drop_eq_nil_of_le (by rw [HLM.out]; exact Nat.le_refl _)]; rfl)
          clear HI HE2
          go_wp2
          go_ret
          exact ⟨ret_bool HF.out.symm, HBW.out.trans (HB.out.mono HBW.out.size)⟩
end Go.Proofs.YtgecmcenhjcecaaGreatDoor.Stk

namespace Go.Proofs.YtgecmcenhjcecaaGreatDoor.Stk
open Go.RowKit
set_option linter.unusedVariables false

theorem chk_low {h : Int} {l : List Fr} (g : h < 0) : chk h l = 2 := by unfold chk valid; rw [show decide (0 ≤ h) = false by simp; omega]; simp
theorem chk_high {h : Int} {l : List Fr} (g : 1073741824 < h) : chk h l = 2 := by unfold chk valid; rw [show decide (h ≤ 1073741824) = false by simp; omega]; simp
theorem chk_in {h : Int} {l : List Fr} (g0 : ¬ h < 0) (g1 : ¬ 1073741824 < h) : chk h l = if badAll h l then 2 else 0 := by
  unfold chk valid
  rw [show decide (0 ≤ h) = true by simp; omega, show decide (h ≤ 1073741824) = true by simp; omega]
  cases badAll h l <;> rfl
set_option maxHeartbeats 2000000 in
theorem check_any (h : Int) (a : Option Addr) (n c : Nat) (l : List Fr) (w : World) (hs : StAt w.heap.size w a n c l) :
    Calls Tryz.prog 128 #[.agg #[.int .i64 h, .slice a n c]] w fun e w' => e = .returned (.int .i64 (chk h l)) ∧ Below w.heap.size w w' := by
  have HB1 := hid ((Below.refl w.heap.size w).alloc (Nat.le_refl _) (.cells #[.int .i64 h, .slice a n c] 96))
  have CW := hid (wrongFrames_any h a n c l (w.alloc (.cells #[.int .i64 h, .slice a n c] 96)) (hs.on HB1.out))
  have CH := hid (fun W => wrongHeight_any h W)
  obtain ⟨q, hq⟩ : ∃ q, wrongH h = q := ⟨_, rfl⟩
  rw [hq] at CH
  have x0 : (w.alloc (.cells #[.int .i64 h, .slice a n c] 96)).cell? ⟨w.heap.size, 0, none⟩ = some (.int .i64 h) := by go_simp
  have x1 : (w.alloc (.cells #[.int .i64 h, .slice a n c] 96)).cell? ⟨w.heap.size, 1, none⟩ = some (.slice a n c) := by go_simp
  have HQ := hid hq
  have HI := hid (fun g0 g1 => chk_in (h := h) (l := l) g0 g1)
  have HT := hid (fun g => chk_low (h := h) (l := l) g)
  have HT2 := hid (fun g => chk_high (h := h) (l := l) g)
  obtain ⟨B, hB⟩ : ∃ B, badAll h l = B := ⟨_, rfl⟩
  obtain ⟨R, hR⟩ : ∃ R, chk h l = R := ⟨_, rfl⟩
  rw [hB] at CW HI
  rw [hR] at HI HT HT2 ⊢
  clear hq hs hB hR
  cases q with
  | true =>
    have HR : Hid (R = 2) := hid (by
      have h := HQ.out
      simp only [wrongH, Bool.or_eq_true, decide_eq_true_eq] at h
      exact h.elim HT.out HT2.out)
    clear HQ HI HT HT2 CW
    go_enter Tryz.func128, Tryz.ntmps128
    go_wp2_with fail
    refine (CH.out _).mono ?_
    rintro e w1 ⟨rfl, rfl⟩
    go_wp2
    go_ret
    exact ⟨ret_int HR.out.symm, HB1.out⟩
  | false =>
    have HR : Hid (R = if B then 2 else 0) := hid (by
      have h := HQ.out
      simp only [wrongH, Bool.or_eq_false_iff, decide_eq_false_iff_not] at h
      exact HI.out h.1 h.2)
    clear HQ HI HT HT2
    cases B with
    | true =>
      have HF : Hid (R = 2) := HR.out
      clear HR
      go_enter Tryz.func128, Tryz.ntmps128
      go_wp2_with fail
      refine (CH.out _).mono ?_
      rintro e w1 ⟨rfl, rfl⟩
      go_wp2_with fail
      refine CW.out.mono ?_
      rintro e w1 ⟨rfl, hb⟩
      have HB := hid (HB1.out.trans (hb.mono HB1.out.size))
      clear hb
      go_wp2
      go_ret
      exact ⟨ret_int HF.out.symm, HB.out⟩
    | false =>
      have HF : Hid (R = 0) := HR.out
      clear HR
      go_enter Tryz.func128, Tryz.ntmps128
      go_wp2_with fail
      refine (CH.out _).mono ?_
      rintro e w1 ⟨rfl, rfl⟩
      go_wp2_with fail
      refine CW.out.mono ?_
      rintro e w1 ⟨rfl, hb⟩
      have HB := hid (HB1.out.trans (hb.mono HB1.out.size))
      clear hb
      go_wp2
      go_ret
      exact ⟨ret_int HF.out.symm, HB.out⟩

end Go.Proofs.YtgecmcenhjcecaaGreatDoor.Stk

namespace Go.Proofs.YtgecmcenhjcecaaGreatDoor.Stk
open Go.RowKit
set_option linter.unusedVariables false

theorem infoFr : (Tryz.prog.info? 131).map (fun i => (i.zero, i.size, i.bytes)) = some (some (.agg #[.int .i64 0, .int .i64 0, .int .i64 0, .bool false]), 4, 32) := by kernel_rfl
/-- A box that holds a stand. -/
def Bx (W : World) (g : Nat) (x y : Value) : Prop := W.heap[g]? = some (.cells #[x, y] 96 (0, 0))
theorem Bx.lt {W : World} {g : Nat} {x y : Value} (h : Bx W g x y) : g < W.heap.size := (Array.getElem?_eq_some_iff.1 h).1
theorem Bx.made (W : World) (x y : Value) : Bx (W.alloc (.cells #[x, y] 96)) W.heap.size x y := heap_alloc_new W _
theorem Bx.belowB {B : Nat} {W W' : World} {g : Nat} {x y : Value} (h : Bx W g x y) (hb : Below B W W') (hg : g < B) : Bx W' g x y := (hb.block g hg).trans h
theorem Bx.below {W W' : World} {g : Nat} {x y : Value} (h : Bx W g x y) (hb : Below W.heap.size W W') : Bx W' g x y := h.belowB hb h.lt
theorem Bx.c0 {W : World} {g : Nat} {x y : Value} (h : Bx W g x y) : W.cell? ⟨g, 0, none⟩ = some x := cell_of_row W g 0 _ _ _ h
theorem Bx.c1 {W : World} {g : Nat} {x y : Value} (h : Bx W g x y) : W.cell? ⟨g, 1, none⟩ = some y := cell_of_row W g 1 _ _ _ h
theorem Bx.f {W : World} {g : Nat} {x y : Value} (h : Bx W g x y) (j : Nat) : W.frozen? ⟨g, j, none⟩ = false := frozen_of_row W g j _ _ h
theorem Bx.set0 {W : World} {g : Nat} {x y : Value} (h : Bx W g x y) (u : Value) : Bx (W.setCell ⟨g, 0, none⟩ u) g u y := heap_setCell_same W g 0 _ _ u h
theorem Bx.set1 {W : World} {g : Nat} {x y : Value} (h : Bx W g x y) (u : Value) : Bx (W.setCell ⟨g, 1, none⟩ u) g x u := heap_setCell_same W g 1 _ _ u h
theorem Bx.far {W : World} {g : Nat} {x y : Value} (h : Bx W g x y) {p : Addr} (hp : g ≠ p.block) (u : Value) : Bx (W.setCell p u) g x y := (Below.heap_setCell W p u g hp).trans h

theorem four (f : Fr) : f.v.length = 4 := rfl
theorem fours (l : List Fr) : ∀ r ∈ l.map Fr.v, r.length = 4 := by
  intro r hr
  obtain ⟨f, _, rfl⟩ := List.mem_map.1 hr
  rfl
theorem ones (l : List Fr) : ∀ r ∈ l.map Fr.v, ∀ u ∈ r, u.oneCell' = true := by
  intro r hr u hu
  obtain ⟨f, _, rfl⟩ := List.mem_map.1 hr
  simp only [Fr.v, List.mem_cons, List.not_mem_nil, or_false] at hu
  rcases hu with rfl | rfl | rfl | rfl <;> rfl
/-- Frames that a call made itself. -/
def OwnF (base : Nat) (w : World) (v : Value) (l : List Fr) : Prop := OwnR 131 4 base w v (l.map Fr.v)
theorem OwnF.slice {base : Nat} {w : World} {v : Value} {l : List Fr} (h : OwnF base w v l) (hl : l.length ≤ 1000000) : ∃ a c, v = .slice a l.length c ∧ StAt w.heap.size w a l.length c l := by
  obtain ⟨a, c, hv, hr, _⟩ := OwnR.rows h
  rw [List.length_map] at hv
  refine ⟨a, c, hv, ⟨hr, rfl, ?_, by omega⟩⟩
  · rcases h.row.2 with ⟨h1, h0⟩ | ⟨g, cap, cur, h1, _, _, hc, _⟩
    · rw [List.length_map] at h0; omega
    · rw [hv] at h1
      simp only [Value.slice.injEq] at h1
      rw [List.length_map] at hc
      omega
/-- Two stores, and what they leave. -/
theorem box2 {W : World} {g : Nat} {x y : Value} (h : Bx W g x y) (u v : Value) : Bx ((W.setCell ⟨g, 0, none⟩ u).setCell ⟨g, 1, none⟩ v) g u v := (h.set0 u).set1 v
theorem OwnF.set {base : Nat} {w : World} {v : Value} {l : List Fr} (h : OwnF base w v l) {p : Addr} (hp : p.block < base) (u : Value) : OwnF base (w.setCell p u) v l := OwnR.setCell h hp u
theorem OwnF.mono {base base' : Nat} {w : World} {v : Value} {l : List Fr} (h : OwnF base w v l) (hb : base' ≤ base) : OwnF base' w v l := OwnR.mono h hb
theorem OwnF.below {base : Nat} {w w' : World} {v : Value} {l : List Fr} (h : OwnF base w v l) (hb : Below w.heap.size w w') : OwnF base w' v l := OwnR.below h hb
theorem ownF_nil (base : Nat) (w : World) : OwnF base w (.slice none 0 0) [] := OwnR.start _ _ _ _
set_option maxHeartbeats 1000000 in
theorem clone_any (w : World) (a : Option Addr) (n c : Nat) (l : List Fr) (hn : l.length = n) (hr : Rows w.heap.size w a 4 (l.map Fr.v)) (hl : n ≤ 1000000) :
    Calls Tryz.prog 129 #[.slice a n c] w fun e w' => ∃ v, e = .returned v ∧ OwnF w.heap.size w' v l ∧ Below w.heap.size w w' := by
  unfold OwnF
  have HL := hid (fours l)
  have H1 := hid (ones l)
  have HN0 : Hid (l = [] ∨ (l.map Fr.v).length = n) := hid (.inr (by simpa using hn))
  have HE := hid (fun (h : l.map Fr.v = []) => h)
  obtain ⟨ys, hys⟩ : ∃ ys, l.map Fr.v = ys := ⟨_, rfl⟩
  have HN := hid (show ys.length = n by rw [← hys]; simpa using hn)
  rw [hys] at hr HL H1 ⊢
  have HR := hid hr
  have HM := hid (show ys.length ≤ 1000000000 by rw [HN.out]; omega)
  clear hn hr hl HN0 HE hys
  cases a with
  | none =>
    have HY : Hid (ys = []) := hid (HR.out.elim id (fun ⟨b, off, h, _⟩ => by cases h))
    have qn := Lib.run_eql_slice_nil (P := Tryz.prog) w 94 131 Option.none n c 0 0 Tryz.underlying94
    rw [Option.isNone_none] at qn
    go_enter Tryz.func129, Tryz.ntmps129
    go_wp2
    go_ret
    exact ⟨_, rfl, by rw [HY.out]; exact OwnR.start _ _ _ _, Below.refl _ _⟩
  | some ad =>
    have qn := Lib.run_eql_slice_nil (P := Tryz.prog) w 94 131 (some ad) n c 0 0 Tryz.underlying94
    rw [Option.isNone_some] at qn
    go_enter Tryz.func129, Tryz.ntmps129
    go_wp2_with (at_builtin; refine append_list infoFr rfl (by omega) (by omega) Tryz.underlying94 rfl (.tmp 5) (.tmp 6) rfl rfl (OwnR.madeG 131 4 _ rfl) (by simp) _ _ _ rfl ys HN.out ((HR.out.below ((Below.refl _ _).alloc (Nat.le_refl _) _)).more (by simp)) HL.out H1.out HM.out ?_; intro v1 u1 ho hb hsz)
    go_ret
    exact ⟨_, rfl, ho, (((Below.refl w.heap.size w).alloc (Nat.le_refl _) _).trans hb)⟩
end Go.Proofs.YtgecmcenhjcecaaGreatDoor.Stk

namespace Go.Proofs.YtgecmcenhjcecaaGreatDoor.Mod
open Go.RowKit Go.Shelf Go.Proofs.YtgecmcenhjcecaaGreatDoor.Instr

/-- What is asked of a name: by function g, in whatever world. -/
def Asks (w : World) (g : Nat) (p : ByteArray → Bool) : Prop :=
  (∀ args w, (callFunc g args).run Tryz.prog w = .ok (.enter g args) w) ∧
    ∀ (W : World) (s : ByteArray), s.size ≤ 140737488351232 → Below w.heap.size w W → Calls Tryz.prog g #[.string s] W fun e w' => e = .returned (.bool (p s)) ∧ Below W.heap.size W w'
theorem Asks.on {w w' : World} {g : Nat} {p : ByteArray → Bool} (h : Asks w g p) (hb : Below w.heap.size w w') : Asks w' g p := ⟨h.1, fun W s hs hW => h.2 W s hs (hb.trans (hW.mono hb.size))⟩

set_option maxHeartbeats 400000 in
theorem anyName1_any (x : Imp) (b g : Nat) (p : ByteArray → Bool) (w : World) (hc : w.cell? ⟨b, 0, none⟩ = some (.func (.func g) #[] #[])) (hp : Asks w g p) (h1 : x.mo.size ≤ 140737488351232) (h2 : x.na.size ≤ 140737488351232) :
    Calls Tryz.prog 69 #[.agg #[.string x.mo, .string x.na, .int .i64 x.ty], .pointer (some ⟨b, 0, none⟩)] w fun e w' => e = .returned (.bool (p x.mo || p x.na)) ∧ Below w.heap.size w w' := by
  have eg := hp.1
  have C1 := hid (hp.2 (w.alloc (.cells #[.string x.mo, .string x.na, .int .i64 x.ty] 59)) x.mo h1 ((Below.refl _ _).alloc (Nat.le_refl _) _))
  have C2 := hid (fun W (hb : Below w.heap.size w W) => hp.2 W x.na h2 hb)
  have HC := hid (show ∀ w1, Below w.heap.size w w1 → w1.cell? ⟨b, 0, none⟩ = some (.func (.func g) #[] #[]) from fun w1 hb => Go.Proofs.YtgecmcenhjcecaaGreatDoor.keep hb hc)
  have hbl := World.block_lt_of_cell? w _ hc
  obtain ⟨q, hq⟩ : ∃ q, p x.mo = q := ⟨_, rfl⟩
  rw [hq] at C1 ⊢
  clear hq hp h1 h2
  cases q with
  | true =>
    go_enter Tryz.func69, Tryz.ntmps69
    go_wp2_with (go_at_fn g; refine C1.out.mono ?_; rintro e w1 ⟨rfl, hb1⟩)
    go_ret
    exact ⟨rfl, thenB ((Below.refl _ _).alloc (Nat.le_refl _) _) hb1⟩
  | false =>
    rw [Bool.false_or]
    obtain ⟨r, hr⟩ : ∃ r, p x.na = r := ⟨_, rfl⟩
    rw [hr] at C2 ⊢
    clear hr
    go_enter Tryz.func69, Tryz.ntmps69
    go_wp2_with fail
    refine (Calls.mono (R' := fun e w1 => (e = .returned (.bool false) ∧ Below w.heap.size w w1) ∧ w1.cell? ⟨b, 0, none⟩ = some (.func (.func g) #[] #[]) ∧ w1.cell? ⟨w.heap.size, 1, none⟩ = some (.string x.na)) C1.out ?_).mono ?_
    · rintro e w1 ⟨rfl, hb1⟩
      have hB := thenB ((Below.refl _ _).alloc (Nat.le_refl _) _) hb1
      exact ⟨⟨rfl, hB⟩, HC.out _ hB, Go.Proofs.YtgecmcenhjcecaaGreatDoor.keep hb1 (by go_simp)⟩
    rintro e w1 ⟨⟨rfl, hb1⟩, hc1, hc2⟩
    have C3 := hid (C2.out w1 hb1)
    clear hc C2
    go_wp2_with (go_at_fn g; refine C3.out.mono ?_; rintro e w2 ⟨rfl, hb2⟩)
    go_ret
    exact ⟨rfl, thenB hb1 hb2⟩
set_option maxHeartbeats 400000 in
theorem anyName2_any (x : Ex) (b g : Nat) (p : ByteArray → Bool) (w : World) (hc : w.cell? ⟨b, 0, none⟩ = some (.func (.func g) #[] #[])) (hp : Asks w g p) (h1 : x.na.size ≤ 140737488351232) :
    Calls Tryz.prog 70 #[.agg #[.string x.na, .int .i64 x.k, .int .u32 x.i], .pointer (some ⟨b, 0, none⟩)] w fun e w' => e = .returned (.bool (p x.na)) ∧ Below w.heap.size w w' := by
  have eg := hp.1
  have C1 := hid (hp.2 (w.alloc (.cells #[.string x.na, .int .i64 x.k, .int .u32 x.i] 87)) x.na h1 ((Below.refl _ _).alloc (Nat.le_refl _) _))
  have hbl := World.block_lt_of_cell? w _ hc
  clear hp h1
  go_enter Tryz.func70, Tryz.ntmps70
  go_wp2_with (go_at_fn g; refine C1.out.mono ?_; rintro e w1 ⟨rfl, hb1⟩)
  go_ret
  exact ⟨rfl, thenB ((Below.refl _ _).alloc (Nat.le_refl _) _) hb1⟩

theorem enters1 : ∀ args w, (callFunc 69 args).run Tryz.prog w = .ok (.enter 69 args) w := enters_of Tryz.func69 (by kernel_rfl) rfl
theorem enters2 : ∀ args w, (callFunc 70 args).run Tryz.prog w = .ok (.enter 70 args) w := enters_of Tryz.func70 (by kernel_rfl) rfl
set_option maxHeartbeats 1000000 in
theorem anyName_any (m : Md) (g : Nat) (p : ByteArray → Bool) (w : World) (hm : ModAt w.heap.size w m) (hf : m.fits) (hp : Asks w g p) :
    Calls Tryz.prog 24 #[.agg m.v, .func (.func g) #[] #[]] w fun e w' => e = .returned (.bool (m.anyName p)) ∧ Below w.heap.size w w' := by
  have B1 := hid (((Below.refl w.heap.size w).alloc (Nat.le_refl _) (.cells m.v 37)).alloc (by simp) (.cells #[.func (.func g) #[] #[]] 77))
  have hbx : BoxAt ((w.alloc (.cells m.v 37)).alloc (.cells #[.func (.func g) #[] #[]] 77)) w.heap.size m.v := (BoxAt.made w m.v _).keep ((Below.refl _ _).alloc (Nat.le_refl _) _)
  have hcb : ((w.alloc (.cells m.v 37)).alloc (.cells #[.func (.func g) #[] #[]] 77)).cell? ⟨w.heap.size + 1, 0, none⟩ = some (.func (.func g) #[] #[]) := by go_simp
  have C1 := hid (any_im m.im m.im'.a m.im.length m.im'.c ((w.alloc (.cells m.v 37)).alloc (.cells #[.func (.func g) #[] #[]] 77)) rfl (hm.on B1.out).im hf.im
    69 #[.pointer (some ⟨w.heap.size + 1, 0, none⟩)] enters1 (fun x => p x.mo || p x.na) (fun W x hx hW => anyName1_any x _ g p W (Go.Proofs.YtgecmcenhjcecaaGreatDoor.keep hW hcb) ((hp.on B1.out).on hW) (hf.iS x hx).1 (hf.iS x hx).2))
  have C2 := hid (fun (W : World) (hW : Below ((w.alloc (.cells m.v 37)).alloc (.cells #[.func (.func g) #[] #[]] 77)).heap.size ((w.alloc (.cells m.v 37)).alloc (.cells #[.func (.func g) #[] #[]] 77)) W) =>
    any_ex m.ex m.ex'.a m.ex.length m.ex'.c W rfl ((hm.on B1.out).on hW).ex hf.ex
      70 #[.pointer (some ⟨w.heap.size + 1, 0, none⟩)] enters2 (fun x => p x.na) (fun W' x hx hW' => anyName2_any x _ g p W' (Go.Proofs.YtgecmcenhjcecaaGreatDoor.keep hW' (Go.Proofs.YtgecmcenhjcecaaGreatDoor.keep hW hcb)) (((hp.on B1.out).on hW).on hW') (hf.eS x hx)))
  have HX := hid (fun (W : World) (hW : Below ((w.alloc (.cells m.v 37)).alloc (.cells #[.func (.func g) #[] #[]] 77)).heap.size ((w.alloc (.cells m.v 37)).alloc (.cells #[.func (.func g) #[] #[]] 77)) W) => (hbx.keep hW) 6 _ rfl)
  have HE : Hid (m.anyName p = ((m.im.any fun i => p i.mo || p i.na) || (m.ex.any fun e => p e.na))) := rfl
  obtain ⟨q, hq⟩ : ∃ q, (m.im.any fun x => p x.mo || p x.na) = q := ⟨_, rfl⟩
  rw [hq] at C1 HE
  unfold Md.v at C1 C2 B1 HX ⊢
  clear hq hcb hbx hm hf hp
  cases q with
  | true =>
    have HE' : Hid (m.anyName p = true) := by show _ = _; rw [HE.out, Bool.true_or]
    clear HE
    go_enter Tryz.func24, Tryz.ntmps24
    go_wp2_with fail
    refine C1.out.mono ?_
    rintro e w1 ⟨rfl, hb1⟩
    clear C1 C2 HX
    go_wp2
    go_ret
    exact ⟨ret_bool HE'.out.symm, B1.out.trans (hb1.mono B1.out.size)⟩
  | false =>
    obtain ⟨r, hr⟩ : ∃ r, (m.ex.any fun x => p x.na) = r := ⟨_, rfl⟩
    have HE' : Hid (m.anyName p = r) := by show _ = _; rw [HE.out, Bool.false_or]; exact hr
    rw [hr] at C2
    clear HE hr
    go_enter Tryz.func24, Tryz.ntmps24
    go_wp2_with fail
    refine C1.out.mono ?_
    rintro e w1 ⟨rfl, hb1⟩
    have hx := HX.out w1 hb1
    have C3 := hid (C2.out w1 hb1)
    clear C1 C2 HX
    go_wp2_with fail
    refine C3.out.mono ?_
    rintro e w2 ⟨rfl, hb2⟩
    clear C3 hx
    go_wp2
    go_ret
    exact ⟨ret_bool HE'.out.symm, B1.out.trans ((thenB hb1 hb2).mono B1.out.size)⟩
end Go.Proofs.YtgecmcenhjcecaaGreatDoor.Mod
