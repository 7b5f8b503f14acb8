import Derived.Test.YtepbjkkakfpjgaaGreatDoorEl17
import Derived.Test.YtepbjkkakfpjgaaGreatDoorEl04
import Derived.Test.YtepbjkkakfpjgaaGreatDoorEl07
import Derived.Test.YtepbjkkakfpjgaaGreatDoorEl16
import Derived.Test.YtepbjkkakfpjgaaGreatDoorEl09
import Derived.Test.YtepbjkkakfpjgaaGreatDoorEl15
import Derived.Deep.RegionLaw
import Derived.Deep.RegionHeldLaw
import Derived.Lib.SlBytesConst
namespace Go.Proofs.YtepbjkkakfpjgaaGreatDoor.Mod
open Go.RowKit Go.Proofs.YtepbjkkakfpjgaaGreatDoor.Instr

def strR (s : ByteArray) : List Value := [.string s]
def twoR (l : List Imp) : List ByteArray := l.flatMap fun i => [i.mo, i.na]
/-- All names. -/
def Md.names (m : Md) : List ByteArray := twoR m.im ++ m.ex.map (·.na)
theorem twoR_take {l : List Imp} {k : Nat} (hk : k < l.length) : (twoR (l.take (k + 1))).map strR = (twoR (l.take k)).map strR ++ [[.string l[k].mo], [.string l[k].na]] := by
  unfold twoR; rw [List.take_succ_eq_append_getElem hk, List.flatMap_append, List.map_append]; rfl
theorem exN_take {l : List Ex} {k : Nat} (hk : k < l.length) (xs : List (List Value)) : xs ++ ((l.take (k + 1)).map (·.na)).map strR = (xs ++ ((l.take k).map (·.na)).map strR) ++ [[.string l[k].na]] := by
  rw [List.take_succ_eq_append_getElem hk, List.map_append, List.map_append, ← List.append_assoc]; rfl
theorem twoR_len (l : List Imp) : (twoR l).length = 2 * l.length := by
  unfold twoR
  induction l with
  | nil => rfl
  | cons a l ih => rw [List.flatMap_cons, List.length_append, ih, List.length_cons]; simp; omega
theorem infoStr : (Tryz.prog.info? 9).map (fun i => (i.zero, i.size, i.bytes)) = some (some (.string ⟨#[]⟩), 1, 16) := by kernel_rfl
set_option maxHeartbeats 2000000 in
set_option maxRecDepth 100000 in
theorem refNames_any (m : Md) (w : World) (hm : ModAt w.heap.size w m) (hf : m.few) :
    Calls Tryz.prog 132 #[.agg m.v] w fun e w' => ∃ a c, e = .returned (.slice a m.names.length c) ∧ Rows w'.heap.size w' a 1 (m.names.map strR) ∧ Below w.heap.size w w' := by
  have hb0 := (Below.refl w.heap.size w).alloc (Nat.le_refl _) (.cells m.v 32)
  have HB := hid hb0
  have HM := hid (hm.on hb0)
  have HX := hid (BoxAt.made w m.v 32)
  have HF := hid hf
  unfold Md.v at HB HX HM ⊢
  clear hm hf hb0
  go_enter Tryz.func132, Tryz.ntmps132
  go_wp2
  generalize w.alloc (.cells #[.slice m.ty'.a m.ty.length m.ty'.c, .slice m.im'.a m.im.length m.im'.c, .slice m.fu'.a m.fu.length m.fu'.c, .slice m.tb'.a m.tb.length m.tb'.c, .slice m.me'.a m.me.length m.me'.c, .slice m.gl'.a m.gl.length m.gl'.c, .slice m.ex'.a m.ex.length m.ex'.c, .bool m.st, .int .u32 m.sn, .slice m.el'.a m.el.length m.el'.c, .slice m.da'.a m.da.length m.da'.c] 32) = W0 at HB HM HX ⊢
  obtain ⟨li, hli⟩ : ∃ n, m.im.length = n := ⟨_, rfl⟩
  obtain ⟨lx, hlx⟩ : ∃ n, m.ex.length = n := ⟨_, rfl⟩
  have Lli := hid hli
  have Llx := hid hlx
  have bli : li ≤ 1000000 := by have := HF.out.lens; omega
  have blx : lx ≤ 1000000 := by have := HF.out.lens; omega
  have Xim := hid (show W0.cell? ⟨w.heap.size, 1, none⟩ = some (.slice m.im'.a li m.im'.c) by rw [← hli]; exact HX.out 1 _ rfl)
  have Xex := hid (show W0.cell? ⟨w.heap.size, 6, none⟩ = some (.slice m.ex'.a lx m.ex'.c) by rw [← hlx]; exact HX.out 6 _ rfl)
  have Rim := hid HM.out.im
  have Rex := hid HM.out.ex
  clear hli hlx HX HM HF
  go_loopw [3, 4] (fun vo vi wr => ∃ k : Nat, vi = .int .i64 k ∧ k ≤ li ∧ Hid (OwnR 9 1 W0.heap.size wr vo ((twoR (m.im.take k)).map strR)) ∧ Hid (Below W0.heap.size W0 wr)) (fun _ vi _ => li - (intOf vi).toNat)
  case atStart => exact ⟨0, rfl, Nat.zero_le _, OwnR.start _ _ _ _, Below.refl _ _⟩
  case round =>
    obtain ⟨k, rfl, hk, HO, HW⟩ := hrel
    have hbx := Go.Proofs.YtepbjkkakfpjgaaGreatDoor.keep HW.out Xim.out
    by_cases hlt : k < li
    · have hkl : k < m.im.length := by rw [Lli.out]; exact hlt
      obtain ⟨b, off, ha, hb, hc⟩ := Rows.get Rim.out hkl
      rw [ha] at hbx
      have HS := hid (twoR_take hkl)
      have HLN := hid (show ((twoR (m.im.take k)).map strR).length ≤ 4000000 by rw [List.length_map, twoR_len, List.length_take]; omega)
      obtain ⟨x, hxe⟩ : ∃ x, m.im[k] = x := ⟨_, rfl⟩
      rw [hxe] at hc HS
      have cc : ∀ j, j < 3 → ∀ v, x.v[j]? = some v → wr.cell? ⟨b, off + k * 3 + j, none⟩ = some v := fun j hj v hv => (HW.out.cell (p := ⟨b, off + k * 3 + j, none⟩) hb).trans (hc j hj v hv)
      have c0 : wr.cell? ⟨b, off + k * 3, none⟩ = some (.string x.mo) := cc 0 (by omega) _ rfl
      have c1 : wr.cell? ⟨b, off + k * 3 + 1, none⟩ = some (.string x.na) := cc 1 (by omega) _ rfl
      have hki : (k : Int) < (li : Int) := by omega
      obtain ⟨xs, hxs⟩ : ∃ xs, (twoR (m.im.take k)).map strR = xs := ⟨_, rfl⟩
      obtain ⟨ys, hys⟩ : ∃ ys, (twoR (m.im.take (k + 1))).map strR = ys := ⟨_, rfl⟩
      rw [hxs] at HO HLN HS
      rw [hys] at HS
      have HYS := hid hys
      obtain ⟨s0, hs0⟩ : ∃ s, x.mo = s := ⟨_, rfl⟩
      obtain ⟨s1, hs1⟩ : ∃ s, x.na = s := ⟨_, rfl⟩
      rw [hs0] at c0 HS
      rw [hs1] at c1 HS
      clear hc cc hb ha hkl hxe hxs hys hs0 hs1 hk
      go_wp2
      have HD := hid ((Below.refl wr.heap.size wr).drew)
      have HO2 := hid (HO.out.below HD.out)
      have HW2 := hid (HW.out.trans (HD.out.mono HW.out.size))
      go_region_law
        (first
          | (refine step_rows infoStr rfl (by omega) (by omega) Tryz.underlying149 rfl (.tmp 13) (.tmp 26) rfl [[.string s0], [.string s1]] rfl (HO2.out.below ((Below.refl _ _).alloc (Nat.le_refl _) _)) (thenA HW2.out _) (by have := HW.out.size; simp; omega)
               ⟨wr.drew.heap.size, 0, none⟩ 2 2 rfl rfl (by simp) (World.news_of_block (heap_alloc_new wr.drew _)) (by simp [Value.oneCell']) (by have := HLN.out; omega) ?_
             intro v' w' hown hbl hsz hgr))
      all_goals
        have hown1 := hid hown
        have hbl1 := hid hbl
        clear hown hbl hgr hsz HO2 HW2 HD hbx c0 c1 HO HW
        go_wp2
        go_roundw
        case rel => exact ⟨k + 1, by go_num, by omega, hid (by rw [HYS.out, HS.out]; exact hown1.out), hbl1⟩
        case measure => simp [intOf]; omega
    · obtain rfl : k = li := by omega
      have HO1 := hid (show OwnR 9 1 W0.heap.size wr u3 ((twoR m.im).map strR) by have := HO.out; rwa [List.take_of_length_le (by rw [Lli.out]; exact Nat.le_refl _)] at this)
      have HW1 := HW
      obtain ⟨xs0, hxs0⟩ : ∃ xs, (twoR m.im).map strR = xs := ⟨_, rfl⟩
      have hxl0 : xs0.length ≤ 4000000 := by rw [← hxs0, List.length_map, twoR_len, Lli.out]; omega
      have HX0 := hid hxs0
      rw [hxs0] at HO1
      clear HO HW hk hxs0
      go_wp2
      go_loopw [3, 5] (fun vo vi wr => ∃ j : Nat, vi = .int .i64 j ∧ j ≤ lx ∧ Hid (OwnR 9 1 W0.heap.size wr vo (xs0 ++ ((m.ex.take j).map (·.na)).map strR)) ∧ Hid (Below W0.heap.size W0 wr)) (fun _ vi _ => lx - (intOf vi).toNat)
      case atStart => exact ⟨0, rfl, Nat.zero_le _, hid (by simpa using HO1.out), HW1⟩
      case round =>
        clear HO1 HW1
        obtain ⟨j, rfl, hj, HO, HW⟩ := hrel
        have hbx := Go.Proofs.YtepbjkkakfpjgaaGreatDoor.keep HW.out Xex.out
        by_cases hlt : j < lx
        · have hkl : j < m.ex.length := by rw [Llx.out]; exact hlt
          obtain ⟨b, off, ha, hb, hc⟩ := Rows.get Rex.out hkl
          rw [ha] at hbx
          have HS := hid (exN_take hkl xs0)
          have HLN := hid (show (xs0 ++ ((m.ex.take j).map (·.na)).map strR).length ≤ 6000000 by rw [List.length_append, List.length_map, List.length_map, List.length_take]; omega)
          obtain ⟨x, hxe⟩ : ∃ x, m.ex[j] = x := ⟨_, rfl⟩
          rw [hxe] at hc HS
          have c0 : ∀ W, Below wr.heap.size wr W → W.cell? ⟨b, off + j * 3, none⟩ = some (.string x.na) := fun W hW => Go.Proofs.YtepbjkkakfpjgaaGreatDoor.keep hW ((HW.out.cell (p := ⟨b, off + j * 3 + 0, none⟩) hb).trans (hc 0 (by omega) (.string x.na) rfl))
          have c0 := c0 wr (Below.refl _ _)
          have hki : (j : Int) < (lx : Int) := by omega
          obtain ⟨xs, hxs⟩ : ∃ xs, xs0 ++ ((m.ex.take j).map (·.na)).map strR = xs := ⟨_, rfl⟩
          obtain ⟨ys, hys⟩ : ∃ ys, xs0 ++ ((m.ex.take (j + 1)).map (·.na)).map strR = ys := ⟨_, rfl⟩
          rw [hxs] at HO HLN HS
          rw [hys] at HS
          have HYS := hid hys
          obtain ⟨s0, hs0⟩ : ∃ s, x.na = s := ⟨_, rfl⟩
          rw [hs0] at c0 HS
          clear hc hb ha hkl hxe hxs hys hs0 hj
          go_wp2_with first
            | (refine append_rows infoStr rfl (by omega) (by omega) Tryz.underlying149 rfl (.tmp 35) (.tmp 42) rfl [[.string s0]] rfl (HO.out.below ((Below.refl _ _).alloc (Nat.le_refl _) _)) (thenA HW.out _) (by have := HW.out.size; simp; omega)
                 ⟨wr.heap.size, 0, none⟩ 1 1 rfl rfl (by simp) (World.news_of_block (heap_alloc_new wr _)) (by simp [Value.oneCell']) (by have := HLN.out; omega) ?_
               intro v' w' hown hbl hsz hgr)
          have hown1 := hid hown
          have hbl1 := hid hbl
          clear hown hbl hgr hsz hbx c0 HO HW
          go_wp2
          go_roundw
          case rel => exact ⟨j + 1, by go_num, by omega, hid (by rw [HYS.out, HS.out]; exact hown1.out), hbl1⟩
          case measure => simp [intOf]; omega
        · obtain rfl : j = lx := by omega
          have HO1 := hid (show OwnR 9 1 W0.heap.size wr u3 (m.names.map strR) by have := HO.out; rw [List.take_of_length_le (by rw [Llx.out]; exact Nat.le_refl _), ← HX0.out] at this; unfold Md.names; rw [List.map_append]; exact this)
          have hHO := HO1.out.rows
          rw [List.length_map] at hHO
          obtain ⟨a, c, rfl, hr, _⟩ := hHO
          have HR := hid hr
          clear HO HO1 hr
          go_wp2
          go_ret
          exact ⟨a, c, rfl, HR.out, HB.out.trans (HW.out.mono HB.out.size)⟩
end Go.Proofs.YtepbjkkakfpjgaaGreatDoor.Mod

namespace Go.Proofs.YtepbjkkakfpjgaaGreatDoor.Mod
open Go.RowKit Go.Proofs.YtepbjkkakfpjgaaGreatDoor.Instr

/-- A name, or the data, are too long. -/
def Md.long (m : Md) : Bool := m.names.any longS || m.heavy
theorem long_yes {m : Md} {k : Nat} (hk : k < m.da.length) (h : 1048576 < sumB (m.da.take k) + m.da[k].bs.length) : m.long = true := by
  unfold Md.long Md.heavy
  have := sumB_step hk
  have h2 := sumB_take m.da (k + 1)
  simp only [Bool.or_eq_true, decide_eq_true_eq]
  omega
theorem names_few {m : Md} (h : m.few) : m.names.length ≤ 3000000 := by
  unfold Md.names
  have := h.lens
  rw [List.length_append, twoR_len, List.length_map]; omega
theorem names_size {m : Md} (h : m.fits) : ∀ s ∈ m.names, s.size ≤ 140737488351232 := by
  intro s hs
  unfold Md.names twoR at hs
  rcases List.mem_append.1 hs with hs | hs
  · obtain ⟨i, hi, hs⟩ := List.mem_flatMap.1 hs
    have := h.iS i hi
    simp only [List.mem_cons, List.not_mem_nil, or_false] at hs
    rcases hs with rfl | rfl
    · exact this.1
    · exact this.2
  · obtain ⟨e, he, rfl⟩ := List.mem_map.1 hs
    exact h.eS e he
theorem str_at {w : World} {a : Option Addr} {l : List ByteArray} {n : Nat} (h : Rows n w a 1 (l.map strR)) {k : Nat} (hk : k < l.length) : ∃ b off, a = some ⟨b, off, none⟩ ∧ b < n ∧ w.cell? ⟨b, off + k, none⟩ = some (.string l[k]) := by
  obtain ⟨b, off, ha, hb, hc⟩ := Rows.get h hk
  refine ⟨b, off, ha, hb, ?_⟩
  have := hc 0 (by omega) _ rfl
  rwa [Nat.mul_one, Nat.add_zero] at this
set_option maxHeartbeats 4000000 in
set_option maxRecDepth 100000 in
theorem refLong_any (m : Md) (w : World) (hm : ModAt w.heap.size w m) (hf : m.few) :
    Calls Tryz.prog 78 #[.agg m.v] w fun x w' => x = .returned (.bool m.long) ∧ Below w.heap.size w w' := by
  have hb0 := (Below.refl w.heap.size w).alloc (Nat.le_refl _) (.cells m.v 32)
  have HB := hid hb0
  have HM := hid (hm.on hb0)
  have HX := hid (BoxAt.made w m.v 32)
  have HF := hid hf
  have C := hid (refNames_any m _ (hm.on hb0) hf)
  have HLF := hid (names_few hf)
  have HLS := hid (names_size hf.fit)
  have HLD := hid (show ∀ d ∈ m.da, d.bs.length ≤ 140737488351232 from hf.fit.bs)
  have HL : Hid (m.long = (m.names.any longS || decide (1048576 < sumB m.da))) := rfl
  have hld : m.da.length ≤ 1000000 := hf.lens.2.2.2.2.2.2.2.2
  have X0 := (BoxAt.made w m.v 32)
  unfold Md.v at HB HX HM X0 C ⊢
  clear hm hf hb0
  have x0 := X0 0 _ rfl
  have x1 := X0 1 _ rfl
  have x2 := X0 2 _ rfl
  have x3 := X0 3 _ rfl
  have x4 := X0 4 _ rfl
  have x5 := X0 5 _ rfl
  have x6 := X0 6 _ rfl
  have x7 := X0 7 _ rfl
  have x8 := X0 8 _ rfl
  have x9 := X0 9 _ rfl
  have x10 := X0 10 _ rfl
  clear X0
  go_enter Tryz.func78, Tryz.ntmps78
  go_wp2_with fail
  refine C.out.mono ?_
  rintro e w1 ⟨a, c, rfl, hr, hb1⟩
  have HX1 := hid (HX.out.keep hb1)
  have HB1 := hid (HB.out.trans (hb1.mono HB.out.size))
  have HM1 := hid (HM.out.on hb1)
  have RN := hid hr
  clear C hr hb1 HX HB HM x0 x1 x2 x3 x4 x5 x6 x7 x8 x9 x10
  obtain ⟨ln, hln⟩ : ∃ n, m.names.length = n := ⟨_, rfl⟩
  obtain ⟨ld, hldd⟩ : ∃ n, m.da.length = n := ⟨_, rfl⟩
  have Lln := hid hln
  have Lld := hid hldd
  have bln : ln ≤ 3000000 := by have := HLF.out; omega
  rw [hldd] at hld
  have k10 : w1.cell? ⟨w.heap.size, 10, none⟩ = some (.slice m.da'.a ld m.da'.c) := by rw [← hldd]; exact HX1.out 10 _ rfl
  have RD := hid HM1.out.da
  rw [hln]
  clear HX1 HM1 HLF hln hldd HF
  go_wp2
  go_loopw [4] (fun vi wr => ∃ k : Nat, vi = .int .i64 k ∧ k ≤ ln ∧ wr = w1 ∧ Hid (∀ j (hj : j < m.names.length), j < k → longS m.names[j] = false)) (fun vi _ => ln - (intOf vi).toNat)
  case atStart => exact ⟨0, rfl, Nat.zero_le _, rfl, none_upto _ _⟩
  case round =>
    obtain ⟨k, rfl, hk, rfl, HQ⟩ := hrel
    by_cases hlt : k < ln
    · have hkl : k < m.names.length := by rw [Lln.out]; exact hlt
      obtain ⟨b, off, rfl, hb, hc⟩ := str_at RN.out hkl
      have HT := hid (fun (h : longS m.names[k] = true) => show m.long = true by rw [HL.out, any_some hkl h]; rfl)
      have HO := hid (fun (h : longS m.names[k] = false) => any_take hkl HQ.out h)
      have hsz := HLS.out m.names[k] (List.getElem_mem hkl)
      have HWT : Hid (longS m.names[k] = decide (1000 < m.names[k].size)) := rfl
      obtain ⟨s, hs⟩ : ∃ s, m.names[k] = s := ⟨_, rfl⟩
      rw [hs] at hc hsz HWT HT
      have HO1 : Hid (longS s = false → ∀ j (hj : j < m.names.length), j < k + 1 → longS m.names[j] = false) := by rw [← hs]; exact HO
      have hki : (k : Int) < (ln : Int) := by omega
      clear hs hb hkl HO HQ
      by_cases g : 1000 < s.size
      · have HE := hid (HT.out (by rw [HWT.out]; simp [g]))
        have gi : (1000 : Int) < (s.size : Int) := by omega
        clear HT HO1 HWT
        go_wp2
        go_ret
        exact ⟨ret_bool HE.out.symm, HB1.out⟩
      · have HE := hid (HO1.out (by rw [HWT.out]; simp [g]))
        have gi : ¬ (1000 : Int) < (s.size : Int) := by omega
        clear HT HO1 HWT
        go_wp2
        go_roundw
        case rel => exact ⟨k + 1, by go_num, by omega, trivial, HE⟩
        case measure => simp [intOf]; omega
    · obtain rfl : k = ln := by omega
      have HN := hid (any_none (p := longS) (l := m.names) (fun j hj => HQ.out j hj (by rw [← Lln.out]; exact hj)))
      clear HQ
      go_wp2
      go_loopw [5, 6] (fun vn vi w9 => ∃ i N : Nat, vn = .int .i64 N ∧ vi = .int .i64 i ∧ i ≤ ld ∧ N ≤ 1048576 ∧ w9 = wr ∧ Hid (N = sumB (m.da.take i))) (fun _ vi _ => ld - (intOf vi).toNat)
      case atStart => exact ⟨0, 0, rfl, rfl, Nat.zero_le _, Nat.zero_le _, rfl, rfl⟩
      case round =>
        obtain ⟨i, N, rfl, rfl, hi, hN, rfl, HQ⟩ := hrel
        by_cases hltd : i < ld
        · have hkl : i < m.da.length := by rw [Lld.out]; exact hltd
          obtain ⟨b, off, ha, hb, hc⟩ := Rows.get RD.out hkl
          rw [ha] at k10
          have HT := hid (fun h => long_yes (m := m) hkl h)
          have HS := hid (sumB_step hkl)
          have hsz := HLD.out m.da[i] (List.getElem_mem hkl)
          obtain ⟨x, hx⟩ : ∃ x, m.da[i] = x := ⟨_, rfl⟩
          rw [hx] at hc HT HS hsz
          have c1 := hc 1 (by omega) (.slice x.ba x.bs.length x.bc) rfl
          obtain ⟨q, hq⟩ : ∃ q, x.bs.length = q := ⟨_, rfl⟩
          rw [hq] at c1 HT HS hsz
          have hki : (i : Int) < (ld : Int) := by omega
          clear hc hx hq hb ha hkl hlt
          by_cases g : 1048576 < N + q
          · have HE := hid (HT.out (by rw [← HQ.out]; exact g))
            have gi : (1048576 : Int) - (N : Int) < (q : Int) := by omega
            clear HT HS HQ
            go_wp2
            go_ret
            exact ⟨ret_bool HE.out.symm, HB1.out⟩
          · have HE := hid (show N + q = sumB (m.da.take (i + 1)) by rw [HS.out, ← HQ.out])
            have gi : ¬ (1048576 : Int) - (N : Int) < (q : Int) := by omega
            clear HT HS HQ
            go_wp2
            go_roundw
            case rel => exact ⟨i + 1, N + q, by go_num, by go_num, by omega, by omega, trivial, HE⟩
            case measure => simp [intOf]; omega
        · obtain rfl : i = ld := by omega
          have HE := hid (show m.long = false by
            rw [HL.out, HN.out]
            have := HQ.out
            rw [List.take_of_length_le (by rw [Lld.out]; exact Nat.le_refl _)] at this
            have : ¬ 1048576 < sumB m.da := by omega
            simp [this])
          clear HQ
          go_wp2
          go_ret
          exact ⟨ret_bool HE.out.symm, HB1.out⟩
end Go.Proofs.YtepbjkkakfpjgaaGreatDoor.Mod

namespace Go.Proofs.YtepbjkkakfpjgaaGreatDoor.Mod
open Go.RowKit Go.Proofs.YtepbjkkakfpjgaaGreatDoor.Instr

/-- All else is as it may be. -/
def Md.rest (m : Md) : Bool := !(m.names.any noText) && (!(m.tb.any (beyond 1048576)) && (!(m.me.any (beyond 65536)) && (!(m.ex.any wrongE) && ((m.st || decide (m.sn = 0)) && !m.has 2))))
theorem rest_na {m : Md} {k : Nat} (hk : k < m.names.length) (h : noText m.names[k] = true) : m.rest = false := by unfold Md.rest; rw [any_some hk h]; rfl
theorem rest_tb {m : Md} {k : Nat} (hk : k < m.tb.length) (h : beyond 1048576 m.tb[k] = true) : m.rest = false := by unfold Md.rest; rw [any_some hk h]; simp
theorem rest_me {m : Md} {k : Nat} (hk : k < m.me.length) (h : beyond 65536 m.me[k] = true) : m.rest = false := by unfold Md.rest; rw [any_some hk h]; simp
theorem rest_ex {m : Md} {k : Nat} (hk : k < m.ex.length) (h : wrongE m.ex[k] = true) : m.rest = false := by unfold Md.rest; rw [any_some hk h]; simp
theorem rest_end {m : Md} (h1 : m.names.any noText = false) (h2 : m.tb.any (beyond 1048576) = false) (h3 : m.me.any (beyond 65536) = false) (h4 : m.ex.any wrongE = false) : m.rest = ((m.st || decide (m.sn = 0)) && !m.has 2) := by unfold Md.rest; rw [h1, h2, h3, h4]; rfl
set_option maxHeartbeats 4000000 in
set_option maxRecDepth 100000 in
theorem refRest_any (m : Md) (w : World) (hm : ModAt w.heap.size w m) (hf : m.few) (hna : ∀ s ∈ m.names, s.size ≤ 1000000) :
    Calls Tryz.prog 80 #[.agg m.v] w fun x w' => x = .returned (.bool m.rest) ∧ Below w.heap.size w w' := by
  have hb0 := (Below.refl w.heap.size w).alloc (Nat.le_refl _) (.cells m.v 32)
  have HB := hid hb0
  have HM := hid (hm.on hb0)
  have HX := hid (BoxAt.made w m.v 32)
  have C := hid (refNames_any m _ (hm.on hb0) hf)
  have D := hid (fun (W : World) (h : ModAt W.heap.size W m) => refInstrs_any m 2 W h hf)
  have HLF := hid (names_few hf)
  have HLS := hid hna
  have HEND := hid (fun h1 h2 h3 h4 => rest_end (m := m) h1 h2 h3 h4)
  have TNA := hid (fun k hk h => rest_na (m := m) (k := k) hk h)
  have TTB := hid (fun k hk h => rest_tb (m := m) (k := k) hk h)
  have TME := hid (fun k hk h => rest_me (m := m) (k := k) hk h)
  have TEX := hid (fun k hk h => rest_ex (m := m) (k := k) hk h)
  have btb := hf.fit.tb
  have bme := hf.fit.me
  have bex := hf.fit.ex
  have X0 := (BoxAt.made w m.v 32)
  unfold Md.v at HB HX HM X0 C D ⊢
  clear hm hf hb0 hna
  have x0 := X0 0 _ rfl
  have x1 := X0 1 _ rfl
  have x2 := X0 2 _ rfl
  have x3 := X0 3 _ rfl
  have x4 := X0 4 _ rfl
  have x5 := X0 5 _ rfl
  have x6 := X0 6 _ rfl
  have x7 := X0 7 _ rfl
  have x8 := X0 8 _ rfl
  have x9 := X0 9 _ rfl
  have x10 := X0 10 _ rfl
  clear X0
  go_enter Tryz.func80, Tryz.ntmps80
  go_wp2_with fail
  refine C.out.mono ?_
  rintro e w1 ⟨a, c, rfl, hr, hb1⟩
  have HX1 := hid (HX.out.keep hb1)
  have HB1 := hid (HB.out.trans (hb1.mono HB.out.size))
  have HM1 := hid (HM.out.on hb1)
  have RN := hid hr
  clear C hr hb1 HX HB HM x0 x1 x2 x3 x4 x5 x6 x7 x8 x9 x10
  obtain ⟨ln, hln⟩ : ∃ n, m.names.length = n := ⟨_, rfl⟩
  have Lln := hid hln
  have bln : ln ≤ 3000000 := by have := HLF.out; omega
  rw [hln]
  clear HLF hln
  obtain ⟨lb, hlb⟩ : ∃ n, m.tb.length = n := ⟨_, rfl⟩
  have Llb := hid hlb
  rw [hlb] at btb D HX1
  have Rtb := hid HM1.out.tb
  have Xtb := hid (HX1.out 3 _ rfl)
  clear hlb
  obtain ⟨lm, hlm⟩ : ∃ n, m.me.length = n := ⟨_, rfl⟩
  have Llm := hid hlm
  rw [hlm] at bme D HX1
  have Rme := hid HM1.out.me
  have Xme := hid (HX1.out 4 _ rfl)
  clear hlm
  obtain ⟨lx, hlx⟩ : ∃ n, m.ex.length = n := ⟨_, rfl⟩
  have Llx := hid hlx
  rw [hlx] at bex D HX1
  have Rex := hid HM1.out.ex
  have Xex := hid (HX1.out 6 _ rfl)
  clear hlx
  go_wp2
  go_loopw [4] (fun vi wr => ∃ k : Nat, vi = .int .i64 k ∧ k ≤ ln ∧ Hid (∀ j (hj : j < m.names.length), j < k → noText m.names[j] = false) ∧ Hid (Below w1.heap.size w1 wr)) (fun vi _ => ln - (intOf vi).toNat)
  case atStart => exact ⟨0, rfl, Nat.zero_le _, none_upto _ _, Below.refl _ _⟩
  case round =>
    obtain ⟨k, rfl, hk, HQ, HW⟩ := hrel
    by_cases hlt : k < ln
    · have hkl : k < m.names.length := by rw [Lln.out]; exact hlt
      obtain ⟨b, off, rfl, hb, hc⟩ := str_at RN.out hkl
      have hsz := HLS.out m.names[k] (List.getElem_mem hkl)
      obtain ⟨x, hxe⟩ : ∃ x, m.names[k] = x := ⟨_, rfl⟩
      have HXE := hid hxe
      rw [hxe] at hc hsz
      have hki : (k : Int) < (ln : Int) := by omega
      have HT := hid (fun (h : noText x = true) => TNA.out k hkl (show noText m.names[k] = true by rw [HXE.out]; exact h))
      have HO := hid (fun (h : noText x = false) => any_take (p := noText) hkl HQ.out (show noText m.names[k] = false by rw [HXE.out]; exact h))
      have c0 := Go.Proofs.YtepbjkkakfpjgaaGreatDoor.keep HW.out hc
      obtain ⟨b2, c2, w2, e2, hz, hb2⟩ := bytes_of (numsOf x) (numsOf_bytes x) (by rw [numsOf_length]; omega) wr
      rw [str_numsOf] at e2
      have C := hid (Utf.refBad_any _ _ c2 (numsOf x) w2 rfl hz (by rw [numsOf_length]; omega))
      have HWT : Hid (noText x = decide (0 ≤ Utf.badL (numsOf x))) := rfl
      obtain ⟨q, hq⟩ : ∃ q, Utf.badL (numsOf x) = q := ⟨_, rfl⟩
      rw [hq] at C HWT
      obtain ⟨l2, hl2⟩ : ∃ n, (numsOf x).length = n := ⟨_, rfl⟩
      rw [hl2] at C e2
      have HW2 := hid (HW.out.trans (hb2.mono HW.out.size))
      clear hc hq hl2 hkl hxe HXE hz hb2 hb hsz HQ
      by_cases g : 0 ≤ q
      · have HE := hid (HT.out (by rw [HWT.out]; simp [g]))
        clear HT HO HWT
        go_wp2_with fail
        refine C.out.mono ?_
        rintro e1 w3 ⟨rfl, hb3⟩
        have HW1 := hid (HW2.out.trans (hb3.mono HW2.out.size))
        clear C e2 hb3
        go_wp2
        go_ret
        exact ⟨ret_bool HE.out.symm, HB1.out.trans (HW1.out.mono HB1.out.size)⟩
      · have HE := hid (HO.out (by rw [HWT.out]; simp [g]))
        clear HT HO HWT
        go_wp2_with fail
        refine C.out.mono ?_
        rintro e1 w3 ⟨rfl, hb3⟩
        have HW1 := hid (HW2.out.trans (hb3.mono HW2.out.size))
        clear C e2 hb3
        go_wp2
        go_roundw
        case rel => exact ⟨k + 1, by go_num, by omega, HE, HW1⟩
        case measure => simp [intOf]; omega
    · obtain rfl : k = ln := by omega
      have HBL := HW
      have HAna := hid (any_none (p := noText) (l := m.names) (fun j hj => HQ.out j hj (by rw [← Lln.out]; exact hj)))
      clear HQ HW hlt hk
      go_wp2
      go_loopw [5] (fun vi wr => ∃ k : Nat, vi = .int .i64 k ∧ k ≤ lb ∧ Hid (∀ j (hj : j < m.tb.length), j < k → beyond 1048576 m.tb[j] = false) ∧ Hid (Below w1.heap.size w1 wr)) (fun vi _ => lb - (intOf vi).toNat)
      case atStart => exact ⟨0, rfl, Nat.zero_le _, none_upto _ _, HBL⟩
      case round =>
        clear HBL
        obtain ⟨k, rfl, hk, HQ, HW⟩ := hrel
        have hbx := Go.Proofs.YtepbjkkakfpjgaaGreatDoor.keep HW.out Xtb.out
        by_cases hlt : k < lb
        · have hkl : k < m.tb.length := by rw [Llb.out]; exact hlt
          obtain ⟨b, off, ha, hb, hc⟩ := Rows.get Rtb.out hkl
          rw [ha] at hbx
          obtain ⟨x, hxe⟩ : ∃ x, m.tb[k] = x := ⟨_, rfl⟩
          have HXE := hid hxe
          rw [hxe] at hc
          have hki : (k : Int) < (lb : Int) := by omega
          have HT := hid (fun (h : beyond 1048576 x = true) => TTB.out k hkl (show beyond 1048576 m.tb[k] = true by rw [HXE.out]; exact h))
          have HO := hid (fun (h : beyond 1048576 x = false) => any_take (p := beyond 1048576) hkl HQ.out (show beyond 1048576 m.tb[k] = false by rw [HXE.out]; exact h))
          have cc : ∀ j, j < 3 → ∀ v, (x.v)[j]? = some v → wr.cell? ⟨b, off + k * 3 + j, none⟩ = some v := fun j hj v hv => (HW.out.cell (p := ⟨b, off + k * 3 + j, none⟩) hb).trans (hc j hj v hv)
          have c0 : wr.cell? ⟨b, off + k * 3, none⟩ = some (.int .u32 x.n) := cc 0 (by omega) _ rfl
          have c1 : wr.cell? ⟨b, off + k * 3 + 1, none⟩ = some (.int .u32 x.x) := cc 1 (by omega) _ rfl
          have c2 : wr.cell? ⟨b, off + k * 3 + 2, none⟩ = some (.bool x.c) := cc 2 (by omega) _ rfl
          have C := hid (Kind.refCheckLimits_any x.n x.x x.c 1048576 wr)
          have HWT : Hid (beyond 1048576 x = !Kind.okLim x.n x.x x.c 1048576) := rfl
          have HCT : Hid (Kind.codeLim x.n x.x x.c 1048576 = if Kind.okLim x.n x.x x.c 1048576 = true then 0 else 2) := rfl
          obtain ⟨q, hq⟩ : ∃ q, Kind.okLim x.n x.x x.c 1048576 = q := ⟨_, rfl⟩
          rw [hq] at HWT HCT
          clear hc cc hb ha hq hkl hxe HXE
          cases q with
          | true =>
            have HE := hid (HO.out (by rw [HWT.out]; rfl))
            have hct : Kind.codeLim x.n x.x x.c 1048576 = 0 := by rw [HCT.out]; rfl
            rw [hct] at C
            clear HT HO HWT HCT hct HQ
            go_wp2_with fail
            refine C.out.mono ?_
            rintro e1 w3 ⟨rfl, hb1⟩
            have HW1 := hid (HW.out.trans (hb1.mono HW.out.size))
            clear C hb1
            go_wp2
            go_roundw
            case rel => exact ⟨k + 1, by go_num, by omega, HE, HW1⟩
            case measure => simp [intOf]; omega
          | false =>
            have HE := hid (HT.out (by rw [HWT.out]; rfl))
            have hct : Kind.codeLim x.n x.x x.c 1048576 = 2 := by rw [HCT.out]; rfl
            rw [hct] at C
            clear HT HO HWT HCT hct HQ
            go_wp2_with fail
            refine C.out.mono ?_
            rintro e1 w3 ⟨rfl, hb1⟩
            have HW1 := hid (HW.out.trans (hb1.mono HW.out.size))
            clear C hb1
            go_wp2
            go_ret
            exact ⟨ret_bool HE.out.symm, HB1.out.trans (HW1.out.mono HB1.out.size)⟩
        · obtain rfl : k = lb := by omega
          have HBL := HW
          have HAtb := hid (any_none (p := beyond 1048576) (l := m.tb) (fun j hj => HQ.out j hj (by rw [← Llb.out]; exact hj)))
          clear HQ HW hlt hk
          go_wp2
          clear hbx
          go_loopw [6] (fun vi wr => ∃ k : Nat, vi = .int .i64 k ∧ k ≤ lm ∧ Hid (∀ j (hj : j < m.me.length), j < k → beyond 65536 m.me[j] = false) ∧ Hid (Below w1.heap.size w1 wr)) (fun vi _ => lm - (intOf vi).toNat)
          case atStart => exact ⟨0, rfl, Nat.zero_le _, none_upto _ _, HBL⟩
          case round =>
            clear HBL
            obtain ⟨k, rfl, hk, HQ, HW⟩ := hrel
            have hbx := Go.Proofs.YtepbjkkakfpjgaaGreatDoor.keep HW.out Xme.out
            by_cases hlt : k < lm
            · have hkl : k < m.me.length := by rw [Llm.out]; exact hlt
              obtain ⟨b, off, ha, hb, hc⟩ := Rows.get Rme.out hkl
              rw [ha] at hbx
              obtain ⟨x, hxe⟩ : ∃ x, m.me[k] = x := ⟨_, rfl⟩
              have HXE := hid hxe
              rw [hxe] at hc
              have hki : (k : Int) < (lm : Int) := by omega
              have HT := hid (fun (h : beyond 65536 x = true) => TME.out k hkl (show beyond 65536 m.me[k] = true by rw [HXE.out]; exact h))
              have HO := hid (fun (h : beyond 65536 x = false) => any_take (p := beyond 65536) hkl HQ.out (show beyond 65536 m.me[k] = false by rw [HXE.out]; exact h))
              have cc : ∀ j, j < 3 → ∀ v, (x.v)[j]? = some v → wr.cell? ⟨b, off + k * 3 + j, none⟩ = some v := fun j hj v hv => (HW.out.cell (p := ⟨b, off + k * 3 + j, none⟩) hb).trans (hc j hj v hv)
              have c0 : wr.cell? ⟨b, off + k * 3, none⟩ = some (.int .u32 x.n) := cc 0 (by omega) _ rfl
              have c1 : wr.cell? ⟨b, off + k * 3 + 1, none⟩ = some (.int .u32 x.x) := cc 1 (by omega) _ rfl
              have c2 : wr.cell? ⟨b, off + k * 3 + 2, none⟩ = some (.bool x.c) := cc 2 (by omega) _ rfl
              have C := hid (Kind.refCheckLimits_any x.n x.x x.c 65536 wr)
              have HWT : Hid (beyond 65536 x = !Kind.okLim x.n x.x x.c 65536) := rfl
              have HCT : Hid (Kind.codeLim x.n x.x x.c 65536 = if Kind.okLim x.n x.x x.c 65536 = true then 0 else 2) := rfl
              obtain ⟨q, hq⟩ : ∃ q, Kind.okLim x.n x.x x.c 65536 = q := ⟨_, rfl⟩
              rw [hq] at HWT HCT
              clear hc cc hb ha hq hkl hxe HXE
              cases q with
              | true =>
                have HE := hid (HO.out (by rw [HWT.out]; rfl))
                have hct : Kind.codeLim x.n x.x x.c 65536 = 0 := by rw [HCT.out]; rfl
                rw [hct] at C
                clear HT HO HWT HCT hct HQ
                go_wp2_with fail
                refine C.out.mono ?_
                rintro e1 w3 ⟨rfl, hb1⟩
                have HW1 := hid (HW.out.trans (hb1.mono HW.out.size))
                clear C hb1
                go_wp2
                go_roundw
                case rel => exact ⟨k + 1, by go_num, by omega, HE, HW1⟩
                case measure => simp [intOf]; omega
              | false =>
                have HE := hid (HT.out (by rw [HWT.out]; rfl))
                have hct : Kind.codeLim x.n x.x x.c 65536 = 2 := by rw [HCT.out]; rfl
                rw [hct] at C
                clear HT HO HWT HCT hct HQ
                go_wp2_with fail
                refine C.out.mono ?_
                rintro e1 w3 ⟨rfl, hb1⟩
                have HW1 := hid (HW.out.trans (hb1.mono HW.out.size))
                clear C hb1
                go_wp2
                go_ret
                exact ⟨ret_bool HE.out.symm, HB1.out.trans (HW1.out.mono HB1.out.size)⟩
            · obtain rfl : k = lm := by omega
              have HBL := HW
              have HAme := hid (any_none (p := beyond 65536) (l := m.me) (fun j hj => HQ.out j hj (by rw [← Llm.out]; exact hj)))
              clear HQ HW hlt hk
              go_wp2
              clear hbx
              go_loopw [7] (fun vi wr => ∃ k : Nat, vi = .int .i64 k ∧ k ≤ lx ∧ Hid (∀ j (hj : j < m.ex.length), j < k → wrongE m.ex[j] = false) ∧ Hid (Below w1.heap.size w1 wr)) (fun vi _ => lx - (intOf vi).toNat)
              case atStart => exact ⟨0, rfl, Nat.zero_le _, none_upto _ _, HBL⟩
              case round =>
                clear HBL
                obtain ⟨k, rfl, hk, HQ, HW⟩ := hrel
                have hbx := Go.Proofs.YtepbjkkakfpjgaaGreatDoor.keep HW.out Xex.out
                by_cases hlt : k < lx
                · have hkl : k < m.ex.length := by rw [Llx.out]; exact hlt
                  obtain ⟨b, off, ha, hb, hc⟩ := Rows.get Rex.out hkl
                  rw [ha] at hbx
                  obtain ⟨x, hxe⟩ : ∃ x, m.ex[k] = x := ⟨_, rfl⟩
                  have HXE := hid hxe
                  rw [hxe] at hc
                  have hki : (k : Int) < (lx : Int) := by omega
                  have HT := hid (fun (h : wrongE x = true) => TEX.out k hkl (show wrongE m.ex[k] = true by rw [HXE.out]; exact h))
                  have HO := hid (fun (h : wrongE x = false) => any_take (p := wrongE) hkl HQ.out (show wrongE m.ex[k] = false by rw [HXE.out]; exact h))
                  have cc : ∀ j, j < 3 → ∀ v, (x.v)[j]? = some v → wr.cell? ⟨b, off + k * 3 + j, none⟩ = some v := fun j hj v hv => (HW.out.cell (p := ⟨b, off + k * 3 + j, none⟩) hb).trans (hc j hj v hv)
                  have c1 : wr.cell? ⟨b, off + k * 3 + 1, none⟩ = some (.int .i64 x.k) := cc 1 (by omega) _ rfl
                  have HWT : Hid (wrongE x = (decide (x.k < 0) || decide (3 < x.k))) := rfl
                  obtain ⟨t, ht⟩ : ∃ t, x.k = t := ⟨_, rfl⟩
                  rw [ht] at HWT c1
                  clear hc cc hb ha ht hkl hxe HXE
                  by_cases g1 : t < 0
                  · have HE := hid (HT.out (by rw [HWT.out]; simp [g1]))
                    clear HT HO HWT HQ
                    go_wp2
                    go_ret
                    exact ⟨ret_bool HE.out.symm, HB1.out.trans (HW.out.mono HB1.out.size)⟩
                  · by_cases g2 : 3 < t
                    · have HE := hid (HT.out (by rw [HWT.out]; simp [g2]))
                      clear HT HO HWT HQ
                      go_wp2
                      go_ret
                      exact ⟨ret_bool HE.out.symm, HB1.out.trans (HW.out.mono HB1.out.size)⟩
                    · have HE := hid (HO.out (by rw [HWT.out]; simp [g1, g2]))
                      clear HT HO HWT HQ
                      go_wp2
                      go_roundw
                      case rel => exact ⟨k + 1, by go_num, by omega, HE, HW⟩
                      case measure => simp [intOf]; omega
                · obtain rfl : k = lx := by omega
                  have HBL := HW
                  have HAex := hid (any_none (p := wrongE) (l := m.ex) (fun j hj => HQ.out j hj (by rw [← Llx.out]; exact hj)))
                  clear HQ HW hlt hk
                  have HE := hid (HEND.out HAna.out HAtb.out HAme.out HAex.out)
                  have HX2 := hid (fun j v h => Go.Proofs.YtepbjkkakfpjgaaGreatDoor.keep HBL.out (HX1.out j v h))
                  have y0 := HX2.out 0 _ rfl
                  have y1 := HX2.out 1 _ rfl
                  have y2 := HX2.out 2 _ rfl
                  have y3 := HX2.out 3 _ rfl
                  have y4 := HX2.out 4 _ rfl
                  have y5 := HX2.out 5 _ rfl
                  have y6 := HX2.out 6 _ rfl
                  have y7 := HX2.out 7 _ rfl
                  have y8 := HX2.out 8 _ rfl
                  have y9 := HX2.out 9 _ rfl
                  have y10 := HX2.out 10 _ rfl
                  have C := hid (D.out wr (HM1.out.on HBL.out))
                  clear HX2 HX1 HM1 D TNA TTB TME TEX HEND hbx
                  obtain ⟨st, hst⟩ : ∃ b, m.st = b := ⟨_, rfl⟩
                  obtain ⟨sn, hsn⟩ : ∃ b, m.sn = b := ⟨_, rfl⟩
                  rw [hst, hsn] at HE C
                  rw [hst] at y7
                  rw [hsn] at y8
                  clear hst hsn
                  cases st with
                  | true =>
                    go_wp2_with fail
                    refine C.out.mono ?_
                    rintro e1 w3 ⟨rfl, hb3⟩
                    have HW1 := hid (HBL.out.trans (hb3.mono HBL.out.size))
                    clear C hb3
                    go_wp2
                    go_ret
                    exact ⟨ret_bool (by rw [HE.out]; simp), HB1.out.trans (HW1.out.mono HB1.out.size)⟩
                  | false =>
                    by_cases g : sn = 0
                    · subst g
                      go_wp2_with fail
                      refine C.out.mono ?_
                      rintro e1 w3 ⟨rfl, hb3⟩
                      have HW1 := hid (HBL.out.trans (hb3.mono HBL.out.size))
                      clear C hb3
                      go_wp2
                      go_ret
                      exact ⟨ret_bool (by rw [HE.out]; simp), HB1.out.trans (HW1.out.mono HB1.out.size)⟩
                    · have HE2 := hid (show m.rest = false by rw [HE.out]; simp [g])
                      clear C HE
                      go_wp2
                      go_ret
                      exact ⟨ret_bool HE2.out.symm, HB1.out.trans (HBL.out.mono HB1.out.size)⟩
end Go.Proofs.YtepbjkkakfpjgaaGreatDoor.Mod

namespace Go.Proofs.YtepbjkkakfpjgaaGreatDoor.Mod
open Go.RowKit Go.Proofs.YtepbjkkakfpjgaaGreatDoor.Instr

theorem belowF {w w' : World} (h : Below w.heap.size w w') (v : Array Value) (t : TypeId) : Below w.heap.size w (w'.alloc (.cells v t)) := thenA h _
set_option maxHeartbeats 4000000 in
set_option maxRecDepth 100000 in
theorem refNumbers_any (m : Md) (w : World) (hm : ModAt w.heap.size w m) (hf : m.fits) :
    Calls Tryz.prog 79 #[.agg m.v] w fun x w' => x = .returned (.bool m.numbers) ∧ Below w.heap.size w w' := by
  have hb0 := (Below.refl w.heap.size w).alloc (Nat.le_refl _) (.cells m.v 32)
  have HB := hid hb0
  have HM := hid (hm.on hb0)
  have HX := hid (BoxAt.made w m.v 32)
  have HF := hid hf
  unfold Md.v at HB HX HM ⊢
  clear hm hf hb0
  go_enter Tryz.func79, Tryz.ntmps79
  go_wp2
  generalize w.alloc (.cells #[.slice m.ty'.a m.ty.length m.ty'.c, .slice m.im'.a m.im.length m.im'.c, .slice m.fu'.a m.fu.length m.fu'.c, .slice m.tb'.a m.tb.length m.tb'.c, .slice m.me'.a m.me.length m.me'.c, .slice m.gl'.a m.gl.length m.gl'.c, .slice m.ex'.a m.ex.length m.ex'.c, .bool m.st, .int .u32 m.sn, .slice m.el'.a m.el.length m.el'.c, .slice m.da'.a m.da.length m.da'.c] 32) = W0 at HB HM HX ⊢
  obtain ⟨lt, hlt⟩ : ∃ n, m.ty.length = n := ⟨_, rfl⟩
  have Llt := hid hlt
  have blt : lt ≤ 140737488351232 := by have := HF.out.ty; omega
  have Xty := hid (show W0.cell? ⟨w.heap.size, 0, none⟩ = some (.slice m.ty'.a lt m.ty'.c) by rw [← hlt]; exact HX.out 0 _ rfl)
  have Rty := hid HM.out.ty
  clear hlt
  obtain ⟨li, hli⟩ : ∃ n, m.im.length = n := ⟨_, rfl⟩
  have Lli := hid hli
  have bli : li ≤ 140737488351232 := by have := HF.out.im; omega
  have Xim := hid (show W0.cell? ⟨w.heap.size, 1, none⟩ = some (.slice m.im'.a li m.im'.c) by rw [← hli]; exact HX.out 1 _ rfl)
  have Rim := hid HM.out.im
  clear hli
  obtain ⟨lf, hlf⟩ : ∃ n, m.fu.length = n := ⟨_, rfl⟩
  have Llf := hid hlf
  have blf : lf ≤ 140737488351232 := by have := HF.out.fu; omega
  have Xfu := hid (show W0.cell? ⟨w.heap.size, 2, none⟩ = some (.slice m.fu'.a lf m.fu'.c) by rw [← hlf]; exact HX.out 2 _ rfl)
  have Rfu := hid HM.out.fu
  clear hlf
  clear HX
  go_loopw [3] (fun vi wr => ∃ k : Nat, vi = .int .i64 k ∧ k ≤ lt ∧ Hid (∀ j (hj : j < m.ty.length), j < k → wrongT m.ty[j] = false) ∧ Hid (Below W0.heap.size W0 wr)) (fun vi _ => lt - (intOf vi).toNat)
  case atStart => exact ⟨0, rfl, Nat.zero_le _, none_upto _ _, Below.refl _ _⟩
  case round =>
    obtain ⟨k, rfl, hk, HQ, HW⟩ := hrel
    have hbx := Go.Proofs.YtepbjkkakfpjgaaGreatDoor.keep HW.out Xty.out
    by_cases hlt : k < lt
    · have hkl : k < m.ty.length := by rw [Llt.out]; exact hlt
      obtain ⟨b, off, ha, hb, hc⟩ := Rows.get Rty.out hkl
      rw [ha] at hbx
      obtain ⟨x, hxe⟩ : ∃ x, m.ty[k] = x := ⟨_, rfl⟩
      have HXE := hid hxe
      rw [hxe] at hc
      have cc : ∀ j, j < 2 → ∀ v, (tyV x)[j]? = some v → wr.cell? ⟨b, off + k * 2 + j, none⟩ = some v := fun j hj v hv => (HW.out.cell (p := ⟨b, off + k * 2 + j, none⟩) hb).trans (hc j hj v hv)
      have hki : (k : Int) < (lt : Int) := by omega
      have HT := hid (fun (h : wrongT x = true) => show m.numbers = false by unfold Md.numbers; rw [any_some hkl (show wrongT m.ty[k] = true by rw [HXE.out]; exact h)]; simp)
      have HO := hid (fun (h : wrongT x = false) => any_take hkl HQ.out (show wrongT m.ty[k] = false by rw [HXE.out]; exact h))
      have c0 : wr.cell? ⟨b, off + k * 2, none⟩ = some (.int .i64 x.1) := cc 0 (by omega) _ rfl
      have c1 : wr.cell? ⟨b, off + k * 2 + 1, none⟩ = some (.int .i64 x.2) := cc 1 (by omega) _ rfl
      have C := hid (Kind.refCheck_any x.1 x.2 wr)
      have HWT : Hid (wrongT x = !Kind.okType x.1 x.2) := rfl
      have HCT : Hid (Kind.codeType x.1 x.2 = if Kind.okType x.1 x.2 = true then 0 else 2) := rfl
      obtain ⟨q, hq⟩ : ∃ q, Kind.okType x.1 x.2 = q := ⟨_, rfl⟩
      rw [hq] at HWT HCT
      clear hc cc hb ha hq hkl hxe HXE
      cases q with
      | true =>
        have HE := hid (HO.out (by rw [HWT.out]; rfl))
        have hct : Kind.codeType x.1 x.2 = 0 := by rw [HCT.out]; rfl
        rw [hct] at C
        clear HT HO HWT HCT hct HQ
        go_wp2_with fail
        refine C.out.mono ?_
        rintro e1 w1 ⟨rfl, hb1⟩
        have HW1 := hid (HW.out.trans (hb1.mono HW.out.size))
        clear C hb1
        go_wp2
        go_roundw
        case rel => exact ⟨k + 1, by go_num, by omega, HE, HW1⟩
        case measure => simp [intOf]; omega
      | false =>
        have HE := hid (HT.out (by rw [HWT.out]; rfl))
        have hct : Kind.codeType x.1 x.2 = 2 := by rw [HCT.out]; rfl
        rw [hct] at C
        clear HT HO HWT HCT hct HQ
        go_wp2_with fail
        refine C.out.mono ?_
        rintro e1 w1 ⟨rfl, hb1⟩
        have HW1 := hid (HW.out.trans (hb1.mono HW.out.size))
        clear C hb1
        go_wp2
        go_ret
        exact ⟨ret_bool HE.out.symm, HB.out.trans (HW1.out.mono HB.out.size)⟩
    · obtain rfl : k = lt := by omega
      have HBL := HW
      have HAty := hid (any_none (p := wrongT) (l := m.ty) (fun j hj => HQ.out j hj (by rw [← Llt.out]; exact hj)))
      clear HQ HW hlt hk
      go_wp2
      clear hbx
      go_loopw [4] (fun vi wr => ∃ k : Nat, vi = .int .i64 k ∧ k ≤ li ∧ Hid (∀ j (hj : j < m.im.length), j < k → wrongI m.im[j] = false) ∧ Hid (Below W0.heap.size W0 wr)) (fun vi _ => li - (intOf vi).toNat)
      case atStart => exact ⟨0, rfl, Nat.zero_le _, none_upto _ _, HBL⟩
      case round =>
        clear HBL
        obtain ⟨k, rfl, hk, HQ, HW⟩ := hrel
        have hbx := Go.Proofs.YtepbjkkakfpjgaaGreatDoor.keep HW.out Xim.out
        by_cases hlt : k < li
        · have hkl : k < m.im.length := by rw [Lli.out]; exact hlt
          obtain ⟨b, off, ha, hb, hc⟩ := Rows.get Rim.out hkl
          rw [ha] at hbx
          obtain ⟨x, hxe⟩ : ∃ x, m.im[k] = x := ⟨_, rfl⟩
          have HXE := hid hxe
          rw [hxe] at hc
          have cc : ∀ j, j < 3 → ∀ v, (x.v)[j]? = some v → wr.cell? ⟨b, off + k * 3 + j, none⟩ = some v := fun j hj v hv => (HW.out.cell (p := ⟨b, off + k * 3 + j, none⟩) hb).trans (hc j hj v hv)
          have hki : (k : Int) < (li : Int) := by omega
          have HT := hid (fun (h : wrongI x = true) => show m.numbers = false by unfold Md.numbers; rw [any_some hkl (show wrongI m.im[k] = true by rw [HXE.out]; exact h)]; simp)
          have HO := hid (fun (h : wrongI x = false) => any_take hkl HQ.out (show wrongI m.im[k] = false by rw [HXE.out]; exact h))
          have c2 : wr.cell? ⟨b, off + k * 3 + 2, none⟩ = some (.int .i64 x.ty) := cc 2 (by omega) _ rfl
          have HWT : Hid (wrongI x = (decide (x.ty < 0) || decide (2147483647 < x.ty))) := rfl
          obtain ⟨t, ht⟩ : ∃ t, x.ty = t := ⟨_, rfl⟩
          rw [ht] at HWT c2
          clear hc cc hb ha ht hkl hxe HXE
          by_cases g1 : t < 0
          · have HE := hid (HT.out (by rw [HWT.out]; simp [g1]))
            clear HT HO HWT HQ
            go_wp2
            go_ret
            exact ⟨ret_bool HE.out.symm, HB.out.trans (HW.out.mono HB.out.size)⟩
          · by_cases g2 : 2147483647 < t
            · have HE := hid (HT.out (by rw [HWT.out]; simp [g2]))
              clear HT HO HWT HQ
              go_wp2
              go_ret
              exact ⟨ret_bool HE.out.symm, HB.out.trans (HW.out.mono HB.out.size)⟩
            · have HE := hid (HO.out (by rw [HWT.out]; simp [g1, g2]))
              clear HT HO HWT HQ
              go_wp2
              go_roundw
              case rel => exact ⟨k + 1, by go_num, by omega, HE, HW⟩
              case measure => simp [intOf]; omega
        · obtain rfl : k = li := by omega
          have HBL := HW
          have HAim := hid (any_none (p := wrongI) (l := m.im) (fun j hj => HQ.out j hj (by rw [← Lli.out]; exact hj)))
          clear HQ HW hlt hk
          go_wp2
          clear hbx
          go_loopw [5] (fun vi wr => ∃ k : Nat, vi = .int .i64 k ∧ k ≤ lf ∧ Hid (∀ j (hj : j < m.fu.length), j < k → wrongF m.fu[j] = false) ∧ Hid (Below W0.heap.size W0 wr)) (fun vi _ => lf - (intOf vi).toNat)
          case atStart => exact ⟨0, rfl, Nat.zero_le _, none_upto _ _, HBL⟩
          case round =>
            clear HBL
            obtain ⟨k, rfl, hk, HQ, HW⟩ := hrel
            have hbx := Go.Proofs.YtepbjkkakfpjgaaGreatDoor.keep HW.out Xfu.out
            by_cases hlt : k < lf
            · have hkl : k < m.fu.length := by rw [Llf.out]; exact hlt
              obtain ⟨b, off, ha, hb, hc⟩ := Rows.get Rfu.out hkl
              rw [ha] at hbx
              obtain ⟨x, hxe⟩ : ∃ x, m.fu[k] = x := ⟨_, rfl⟩
              have HXE := hid hxe
              rw [hxe] at hc
              have cc : ∀ j, j < 3 → ∀ v, (x.v)[j]? = some v → wr.cell? ⟨b, off + k * 3 + j, none⟩ = some v := fun j hj v hv => (HW.out.cell (p := ⟨b, off + k * 3 + j, none⟩) hb).trans (hc j hj v hv)
              have hki : (k : Int) < (lf : Int) := by omega
              have HT := hid (fun (h : wrongF x = true) => show m.numbers = false by unfold Md.numbers; rw [any_some hkl (show wrongF m.fu[k] = true by rw [HXE.out]; exact h)]; simp)
              have HO := hid (fun (h : wrongF x = false) => any_take hkl HQ.out (show wrongF m.fu[k] = false by rw [HXE.out]; exact h))
              have c0 : wr.cell? ⟨b, off + k * 3, none⟩ = some (.int .i64 x.ty) := cc 0 (by omega) _ rfl
              have c1 : wr.cell? ⟨b, off + k * 3 + 1, none⟩ = some (.int .i64 x.lo) := cc 1 (by omega) _ rfl
              have c2 : wr.cell? ⟨b, off + k * 3 + 2, none⟩ = some (.slice x.l.a x.l.t.len x.l.c) := cc 2 (by omega) _ rfl
              have HWT : Hid (wrongF x = ((decide (x.ty < 0) || decide (2147483647 < x.ty)) || (decide (x.lo < 0) || decide (50000 < x.lo)))) := rfl
              obtain ⟨t, ht⟩ : ∃ t, x.ty = t := ⟨_, rfl⟩
              obtain ⟨u, hu⟩ : ∃ u, x.lo = u := ⟨_, rfl⟩
              rw [ht, hu] at HWT
              rw [ht] at c0
              rw [hu] at c1
              clear hc cc hb ha ht hu hkl hxe HXE
              skip
              by_cases g0 : t < 0
              · have HE := hid (HT.out (by rw [HWT.out]; simp [g0]))
                clear HT HO HWT HQ
                go_wp2
                try go_wp2
                go_ret
                exact ⟨ret_bool HE.out.symm, HB.out.trans ((belowF HW.out _ _).mono HB.out.size)⟩
              · skip
                by_cases g1 : 2147483647 < t
                · have HE := hid (HT.out (by rw [HWT.out]; simp [g1]))
                  clear HT HO HWT HQ
                  go_wp2
                  try go_wp2
                  go_ret
                  exact ⟨ret_bool HE.out.symm, HB.out.trans ((belowF HW.out _ _).mono HB.out.size)⟩
                · skip
                  by_cases g2 : u < 0
                  · have HE := hid (HT.out (by rw [HWT.out]; simp [g2]))
                    clear HT HO HWT HQ
                    go_wp2
                    try go_wp2
                    go_ret
                    exact ⟨ret_bool HE.out.symm, HB.out.trans ((belowF HW.out _ _).mono HB.out.size)⟩
                  · skip
                    by_cases g3 : 50000 < u
                    · have HE := hid (HT.out (by rw [HWT.out]; simp [g3]))
                      clear HT HO HWT HQ
                      go_wp2
                      try go_wp2
                      go_ret
                      exact ⟨ret_bool HE.out.symm, HB.out.trans ((belowF HW.out _ _).mono HB.out.size)⟩
                    · have HE := hid (HO.out (by rw [HWT.out]; simp [g0, g1, g2, g3]))
                      clear HT HO HWT HQ
                      go_wp2
                      try go_wp2
                      go_roundw
                      case rel => exact ⟨k + 1, by go_num, by omega, HE, belowF HW.out _ _⟩
                      case measure => simp [intOf]; omega
            · obtain rfl : k = lf := by omega
              have HBL := HW
              have HAfu := hid (any_none (p := wrongF) (l := m.fu) (fun j hj => HQ.out j hj (by rw [← Llf.out]; exact hj)))
              clear HQ HW hlt hk
              have HE := hid (show m.numbers = true by unfold Md.numbers; rw [HAty.out, HAim.out, HAfu.out]; rfl)
              go_wp2
              go_ret
              exact ⟨ret_bool HE.out.symm, HB.out.trans (HBL.out.mono HB.out.size)⟩
end Go.Proofs.YtepbjkkakfpjgaaGreatDoor.Mod

namespace Go.Proofs.YtepbjkkakfpjgaaGreatDoor.Mod
open Go.RowKit Go.Proofs.YtepbjkkakfpjgaaGreatDoor.Instr

theorem has_codes (m : Md) (e : Int) : m.has e = m.codes.any (fun l => checkP l.t == e) := by
  unfold Md.has Md.codes
  simp [List.any_append, List.any_map, Function.comp_def]
theorem has_many (m : Md) : m.has 141 = decide (codeP m.codes = 141) := by
  rw [has_codes]
  by_cases h : codeP m.codes = 141
  · obtain ⟨y, hy, h1⟩ := codeP_of_many _ h
    rw [List.any_eq_true.2 ⟨y, hy, by simp [h1]⟩]; simp [h]
  · have : (m.codes.any fun l => checkP l.t == 141) = false := by
      rw [List.any_eq_false]
      intro y hy hh
      exact h (codeP_many _ y hy (by simpa using hh))
    rw [this]; simp [h]
theorem has_two (m : Md) (h : codeP m.codes ≠ 141) : m.has 2 = decide (codeP m.codes = 2) := by
  rw [has_codes]
  by_cases h0 : codeP m.codes = 0
  · have hz := (codeP_zero _).1 h0
    have : (m.codes.any fun l => checkP l.t == 2) = false := by
      rw [List.any_eq_false]
      intro y hy hh
      rw [hz y hy] at hh
      simp at hh
    rw [this]; simp [h0]
  · have h2 : codeP m.codes = 2 := by have := codeP_cases m.codes; omega
    have : (m.codes.any fun l => checkP l.t == 2) = true := by
      cases hh : (m.codes.any fun l => checkP l.t == 2)
      · exfalso
        refine h0 ((codeP_zero _).2 fun y hy => ?_)
        rw [List.any_eq_false] at hh
        have n2 := hh y hy
        have n1 : checkP y.t ≠ 141 := fun e => h (codeP_many _ y hy e)
        have := checkP_cases y.t
        have n3 : checkP y.t ≠ 2 := by simpa using n2
        omega
      · rfl
    rw [this]; simp [h2]
theorem names_any (m : Md) (p : ByteArray → Bool) : m.names.any p = m.anyName p := by
  unfold Md.names Md.anyName twoR
  rw [List.any_append, List.any_flatMap, List.any_map]
  simp [Function.comp_def]
def docCheck (m : Md) : Int := if m.many = true then 141 else if m.long = true then 3 else if m.numbers = true then (if m.rest = true then 0 else 2) else 2
theorem check_doc (m : Md) : docCheck m = m.check := by
  unfold docCheck Md.check Md.many Md.long
  rw [has_many, names_any]
  by_cases h1 : m.crowded = true
  · simp [h1]
  by_cases h2 : codeP m.codes = 141
  · simp [h2]
  have h1' : m.crowded = false := by simpa using h1
  rw [h1', decide_eq_false h2]
  simp only [Bool.or_self, Bool.false_eq_true, if_false, h2]
  by_cases h3 : m.anyName longS = true
  · simp [h3]
  have h3' : m.anyName longS = false := by simpa using h3
  by_cases h4 : m.heavy = true
  · simp [h4]
  have h4' : m.heavy = false := by simpa using h4
  rw [h3', h4']
  simp only [Bool.or_self, Bool.false_eq_true, if_false]
  unfold Md.numbers Md.rest Md.wrong
  rw [has_two m h2, names_any]
  by_cases h5 : codeP m.codes = 2
  · simp [h5]
  rw [decide_eq_false h5, if_neg h5]
  by_cases h6 : m.sn = 0
  · rw [decide_eq_true h6]
    cases m.anyName noText <;> cases m.ty.any wrongT <;> cases m.im.any wrongI <;> cases m.fu.any wrongF <;> cases m.ex.any wrongE <;> cases m.tb.any (beyond 1048576) <;> cases m.me.any (beyond 65536) <;> cases m.st <;> simp [h6]
  · rw [decide_eq_false h6]
    cases m.anyName noText <;> cases m.ty.any wrongT <;> cases m.im.any wrongI <;> cases m.fu.any wrongF <;> cases m.ex.any wrongE <;> cases m.tb.any (beyond 1048576) <;> cases m.me.any (beyond 65536) <;> cases m.st <;> simp [h6]
set_option maxHeartbeats 4000000 in
set_option maxRecDepth 100000 in
theorem refChk_any (m : Md) (w : World) (hm : ModAt w.heap.size w m) (hf : m.few) (hna : ∀ s ∈ m.names, s.size ≤ 1000000) :
    Calls Tryz.prog 24 #[.agg m.v] w fun x w' => x = .returned (.int .i64 m.check) ∧ Below w.heap.size w w' := by
  have hb0 := (Below.refl w.heap.size w).alloc (Nat.le_refl _) (.cells m.v 32)
  have HB := hid hb0
  have HM := hid (hm.on hb0)
  have HX := hid (BoxAt.made w m.v 32)
  have HD := hid (check_doc m)
  have HDD : Hid (docCheck m = if m.many = true then 141 else if m.long = true then 3 else if m.numbers = true then (if m.rest = true then 0 else 2) else 2) := rfl
  have K1 := hid (fun (W : World) (h : ModAt W.heap.size W m) => refMany_any m W h hf)
  have K2 := hid (fun (W : World) (h : ModAt W.heap.size W m) => refLong_any m W h hf)
  have K3 := hid (fun (W : World) (h : ModAt W.heap.size W m) => refNumbers_any m W h hf.fit)
  have K4 := hid (fun (W : World) (h : ModAt W.heap.size W m) => refRest_any m W h hf hna)
  have X0 := (BoxAt.made w m.v 32)
  have C := hid (K1.out _ HM.out)
  obtain ⟨q1, h1⟩ : ∃ q, m.many = q := ⟨_, rfl⟩
  obtain ⟨q2, h2⟩ : ∃ q, m.long = q := ⟨_, rfl⟩
  obtain ⟨q3, h3⟩ : ∃ q, m.numbers = q := ⟨_, rfl⟩
  obtain ⟨q4, h4⟩ : ∃ q, m.rest = q := ⟨_, rfl⟩
  obtain ⟨z, hz⟩ : ∃ z, m.check = z := ⟨_, rfl⟩
  rw [hz]
  rw [h1, h2, h3, h4] at HDD
  rw [hz] at HD
  rw [h1] at C
  rw [h2] at K2
  rw [h3] at K3
  rw [h4] at K4
  unfold Md.v at HB HX HM X0 C K2 K3 K4 ⊢
  clear hm hf hb0 hna K1 h1 h2 h3 h4 hz
  have x0 := X0 0 _ rfl
  have x1 := X0 1 _ rfl
  have x2 := X0 2 _ rfl
  have x3 := X0 3 _ rfl
  have x4 := X0 4 _ rfl
  have x5 := X0 5 _ rfl
  have x6 := X0 6 _ rfl
  have x7 := X0 7 _ rfl
  have x8 := X0 8 _ rfl
  have x9 := X0 9 _ rfl
  have x10 := X0 10 _ rfl
  clear X0
  go_enter Tryz.func24, Tryz.ntmps24
  cases q1 with
  | true =>
    go_wp2_with fail
    refine C.out.mono ?_
    rintro e1 w1 ⟨rfl, hb1⟩
    have HB1 := hid (HB.out.trans (hb1.mono HB.out.size))
    have HM1 := hid (HM.out.on hb1)
    have HX1 := hid (HX.out.keep hb1)
    clear C hb1 x0 x1 x2 x3 x4 x5 x6 x7 x8 x9 x10
    have HE := hid (show z = 141 by rw [← HD.out, HDD.out]; rfl)
    go_wp2
    go_ret
    exact ⟨ret_int HE.out.symm, HB1.out⟩
  | false =>
    go_wp2_with fail
    refine C.out.mono ?_
    rintro e1 w1 ⟨rfl, hb1⟩
    have HB1 := hid (HB.out.trans (hb1.mono HB.out.size))
    have HM1 := hid (HM.out.on hb1)
    have HX1 := hid (HX.out.keep hb1)
    clear C hb1 x0 x1 x2 x3 x4 x5 x6 x7 x8 x9 x10
    have C := hid (K2.out _ HM1.out)
    have x0 := HX1.out 0 _ rfl
    have x1 := HX1.out 1 _ rfl
    have x2 := HX1.out 2 _ rfl
    have x3 := HX1.out 3 _ rfl
    have x4 := HX1.out 4 _ rfl
    have x5 := HX1.out 5 _ rfl
    have x6 := HX1.out 6 _ rfl
    have x7 := HX1.out 7 _ rfl
    have x8 := HX1.out 8 _ rfl
    have x9 := HX1.out 9 _ rfl
    have x10 := HX1.out 10 _ rfl
    cases q2 with
    | true =>
      go_wp2_with fail
      refine C.out.mono ?_
      rintro e2 w2 ⟨rfl, hb2⟩
      have HB2 := hid (HB1.out.trans (hb2.mono HB1.out.size))
      have HM2 := hid (HM1.out.on hb2)
      have HX2 := hid (HX1.out.keep hb2)
      clear C hb2 x0 x1 x2 x3 x4 x5 x6 x7 x8 x9 x10
      have HE := hid (show z = 3 by rw [← HD.out, HDD.out]; rfl)
      go_wp2
      go_ret
      exact ⟨ret_int HE.out.symm, HB2.out⟩
    | false =>
      go_wp2_with fail
      refine C.out.mono ?_
      rintro e2 w2 ⟨rfl, hb2⟩
      have HB2 := hid (HB1.out.trans (hb2.mono HB1.out.size))
      have HM2 := hid (HM1.out.on hb2)
      have HX2 := hid (HX1.out.keep hb2)
      clear C hb2 x0 x1 x2 x3 x4 x5 x6 x7 x8 x9 x10
      have C := hid (K3.out _ HM2.out)
      have x0 := HX2.out 0 _ rfl
      have x1 := HX2.out 1 _ rfl
      have x2 := HX2.out 2 _ rfl
      have x3 := HX2.out 3 _ rfl
      have x4 := HX2.out 4 _ rfl
      have x5 := HX2.out 5 _ rfl
      have x6 := HX2.out 6 _ rfl
      have x7 := HX2.out 7 _ rfl
      have x8 := HX2.out 8 _ rfl
      have x9 := HX2.out 9 _ rfl
      have x10 := HX2.out 10 _ rfl
      cases q3 with
      | false =>
        go_wp2_with fail
        refine C.out.mono ?_
        rintro e3 w3 ⟨rfl, hb3⟩
        have HB3 := hid (HB2.out.trans (hb3.mono HB2.out.size))
        have HM3 := hid (HM2.out.on hb3)
        have HX3 := hid (HX2.out.keep hb3)
        clear C hb3 x0 x1 x2 x3 x4 x5 x6 x7 x8 x9 x10
        have HE := hid (show z = 2 by rw [← HD.out, HDD.out]; rfl)
        go_wp2
        go_ret
        exact ⟨ret_int HE.out.symm, HB3.out⟩
      | true =>
        go_wp2_with fail
        refine C.out.mono ?_
        rintro e3 w3 ⟨rfl, hb3⟩
        have HB3 := hid (HB2.out.trans (hb3.mono HB2.out.size))
        have HM3 := hid (HM2.out.on hb3)
        have HX3 := hid (HX2.out.keep hb3)
        clear C hb3 x0 x1 x2 x3 x4 x5 x6 x7 x8 x9 x10
        have C := hid (K4.out _ HM3.out)
        have x0 := HX3.out 0 _ rfl
        have x1 := HX3.out 1 _ rfl
        have x2 := HX3.out 2 _ rfl
        have x3 := HX3.out 3 _ rfl
        have x4 := HX3.out 4 _ rfl
        have x5 := HX3.out 5 _ rfl
        have x6 := HX3.out 6 _ rfl
        have x7 := HX3.out 7 _ rfl
        have x8 := HX3.out 8 _ rfl
        have x9 := HX3.out 9 _ rfl
        have x10 := HX3.out 10 _ rfl
        cases q4 with
        | false =>
          go_wp2_with fail
          refine C.out.mono ?_
          rintro e4 w4 ⟨rfl, hb4⟩
          have HB4 := hid (HB3.out.trans (hb4.mono HB3.out.size))
          have HM4 := hid (HM3.out.on hb4)
          have HX4 := hid (HX3.out.keep hb4)
          clear C hb4 x0 x1 x2 x3 x4 x5 x6 x7 x8 x9 x10
          have HE := hid (show z = 2 by rw [← HD.out, HDD.out]; rfl)
          go_wp2
          go_ret
          exact ⟨ret_int HE.out.symm, HB4.out⟩
        | true =>
          go_wp2_with fail
          refine C.out.mono ?_
          rintro e4 w4 ⟨rfl, hb4⟩
          have HB4 := hid (HB3.out.trans (hb4.mono HB3.out.size))
          have HM4 := hid (HM3.out.on hb4)
          have HX4 := hid (HX3.out.keep hb4)
          clear C hb4 x0 x1 x2 x3 x4 x5 x6 x7 x8 x9 x10
          have HE := hid (show z = 0 by rw [← HD.out, HDD.out]; rfl)
          go_wp2
          go_ret
          exact ⟨ret_int HE.out.symm, HB4.out⟩
end Go.Proofs.YtepbjkkakfpjgaaGreatDoor.Mod

namespace Go.Proofs.YtepbjkkakfpjgaaGreatDoor.Enc
open Go.RowKit Go.Proofs.YtepbjkkakfpjgaaGreatDoor.Leb Go.Proofs.YtepbjkkakfpjgaaGreatDoor.Instr Go.Proofs.YtepbjkkakfpjgaaGreatDoor.Mod
open Go.Proofs.YtepbjkkakfpjgaaGreatDoor.Body (encL codeL PutP)
set_option linter.unusedVariables false
set_option linter.unusedSimpArgs false

theorem eq0 (n : Nat) : ((n : Int) == 0) = decide (n = 0) := by
  by_cases h : n = 0
  · subst h; rfl
  · have h1 : ¬ ((n : Int) = 0) := by omega
    simp [h, h1]
theorem eq0' (n : Nat) : decide ((n : Int) = 0) = decide (n = 0) := by
  by_cases h : n = 0
  · subst h; rfl
  · have h1 : ¬ ((n : Int) = 0) := by omega
    simp [h, h1]
/-- Is a section (by its number less one) left out? -/
def leftB (m : Md) : Nat → Bool
  | 0 => decide (m.ty.length = 0)
  | 1 => decide (m.im.length = 0)
  | 2 => decide (m.fu.length = 0)
  | 3 => decide (m.tb.length = 0)
  | 4 => decide (m.me.length = 0)
  | 5 => decide (m.gl.length = 0)
  | 6 => decide (m.ex.length = 0)
  | 7 => !m.st
  | 8 => decide (m.el.length = 0)
  | 9 => decide (m.fu.length = 0)
  | _ => decide (m.da.length = 0)
theorem lst_nil {α : Type} (f : α → List Int) (l : List α) : decide (l.length = 0) = decide (lstB f l = []) := by
  unfold lstB
  by_cases h : l.length = 0
  · rw [if_pos h]; simp [h]
  · rw [if_neg h]
    have : encU l.length ++ l.flatMap f ≠ [] := by
      intro e
      have := congrArg List.length e
      rw [List.length_append, encU_length] at this
      have := (sizeU_pos (l.length : Int)).1
      simp at *
      omega
    simp [h, this]
theorem left_sec (m : Md) {k : Nat} (hk : k < 11) : leftB m k = decide (secB m k = []) := by
  match k, hk with
  | 0, _ => exact lst_nil _ _
  | 1, _ => exact lst_nil _ _
  | 2, _ => exact lst_nil _ _
  | 3, _ => exact lst_nil _ _
  | 4, _ => exact lst_nil _ _
  | 5, _ => exact lst_nil _ _
  | 6, _ => exact lst_nil _ _
  | 7, _ =>
    show (!m.st) = decide ((if m.st then encU m.sn else []) = [])
    have h := (sizeU_pos m.sn).1
    cases m.st
    · simp
    · simp only [if_true, Bool.not_true]
      have : encU m.sn ≠ [] := by
        intro e
        have := congrArg List.length e
        rw [encU_length] at this
        simp at this
        omega
      simp [this]
  | 8, _ => exact lst_nil _ _
  | 9, _ => exact lst_nil _ _
  | 10, _ => exact lst_nil _ _
theorem lst_some {α : Type} {f : α → List Int} {l : List α} (h : lstB f l ≠ []) : lstB f l = encU l.length ++ l.flatMap f := by
  unfold lstB at h ⊢
  split at h
  · exact absurd rfl h
  · rename_i hl; rw [if_neg hl]
/-- Which function tells a section. -/
def fn8 (k : Nat) : Nat := if k < 3 then 41 else if k < 5 then 42 else if k < 8 then 43 else 44
theorem sec8_any (k : Nat) (hk : k < 11) (m : Md) (w : World) (FI : Fine w m) (hf : FitAll m 0) (hne : secB m k ≠ []) : Calls Tryz.prog (fn8 k) #[.agg m.v, .int .i64 ((k : Int) + 1)] w (Gives w (secB m k)) := by
  match k, hk with
  | 0, _ => have h := ref_sec1 m w FI hf.ty; rw [← lst_some (f := tyB) hne] at h; exact h
  | 1, _ => have h := ref_sec2 m w FI hf.im; rw [← lst_some (f := impB) hne] at h; exact h
  | 2, _ => have h := ref_sec3 m w FI hf.fn; rw [← lst_some (f := fnB) hne] at h; exact h
  | 3, _ => have h := ref_sec4 m w FI hf.tb; rw [← lst_some (f := tbB) hne] at h; exact h
  | 4, _ => have h := ref_sec5 m w FI hf.me; rw [← lst_some (f := meB) hne] at h; exact h
  | 5, _ => have h := ref_sec6 m w FI hf.gl; rw [← lst_some (f := glB) hne] at h; exact h
  | 6, _ => have h := ref_sec7 m w FI hf.ex; rw [← lst_some (f := exB) hne] at h; exact h
  | 7, _ =>
    have h := ref_sec8 m w FI
    have e : secB m 7 = encU m.sn := by
      simp only [secB] at hne ⊢
      split at hne
      · rename_i hs; rw [if_pos hs]
      · exact absurd rfl hne
    rw [e]
    exact h
  | 8, _ => have h := ref_sec9 m w FI hf.el; rw [← lst_some (f := elB) hne] at h; exact h
  | 9, _ => have h := ref_sec10 m w FI hf.co; rw [← lst_some (f := coB) hne] at h; exact h
  | 10, _ => have h := ref_sec11 m w FI hf.da; rw [← lst_some (f := daB) hne] at h; exact h
set_option maxRecDepth 100000 in
set_option maxHeartbeats 4000000 in
theorem left_any (m : Md) (k : Nat) (hk : k < 11) (w : World) : Calls Tryz.prog 39 #[.agg m.v, .int .i64 ((k : Int) + 1)] w fun e w' => e = .returned (.bool (leftB m k)) ∧ Below w.heap.size w w' := by
  have HB := hid ((Below.refl w.heap.size w).alloc (Nat.le_refl _) (.cells m.v 32))
  have X0 := BoxAt.made w m.v 32
  unfold Md.v at HB X0 ⊢
  have x0 := X0 0 _ rfl
  have x1 := X0 1 _ rfl
  have x2 := X0 2 _ rfl
  have x3 := X0 3 _ rfl
  have x4 := X0 4 _ rfl
  have x5 := X0 5 _ rfl
  have x6 := X0 6 _ rfl
  have x7 := X0 7 _ rfl
  have x9 := X0 9 _ rfl
  have x10 := X0 10 _ rfl
  clear X0
  rcases (by omega : k = 0 ∨ k = 1 ∨ k = 2 ∨ k = 3 ∨ k = 4 ∨ k = 5 ∨ k = 6 ∨ k = 7 ∨ k = 8 ∨ k = 9 ∨ k = 10) with rfl | rfl | rfl | rfl | rfl | rfl | rfl | rfl | rfl | rfl | rfl
  all_goals
    clear hk
    go_enter Tryz.func39, Tryz.ntmps39
    go_wp2
    go_ret
    exact ⟨ret_bool (by first | exact eq0 _ | exact eq0' _ | (simp [leftB]; done)), thenA HB.out _⟩
end Go.Proofs.YtepbjkkakfpjgaaGreatDoor.Enc

namespace Go.Proofs.YtepbjkkakfpjgaaGreatDoor.Enc
open Go.RowKit Go.Proofs.YtepbjkkakfpjgaaGreatDoor.Leb Go.Proofs.YtepbjkkakfpjgaaGreatDoor.Instr Go.Proofs.YtepbjkkakfpjgaaGreatDoor.Mod
open Go.Proofs.YtepbjkkakfpjgaaGreatDoor.Body (encL codeL PutP)
set_option linter.unusedVariables false
set_option linter.unusedSimpArgs false

set_option maxRecDepth 100000 in
set_option maxHeartbeats 4000000 in
theorem refSection_any (m : Md) (id : Int) (w : World) (h : Ready w m) (hna : ∀ s ∈ m.names, s.size ≤ 1000000) (hi : -9223372036854775808 ≤ id ∧ id ≤ 9223372036854775807) (ht : m.check = 0 → FitAll m 0) :
    Calls Tryz.prog 16 #[.agg m.v, .int .i64 id] w (PutP w (secR m id).1 (secR m id).2) := by
  have hb0 := (Below.refl w.heap.size w).alloc (Nat.le_refl _) (.cells m.v 32)
  have CK := hid (refChk_any m _ (h.at_.on hb0) h.few hna)
  have HB := hid hb0
  have X0 := BoxAt.made w m.v 32
  have HX := hid X0
  by_cases hc : m.check = 0
  rotate_left
  · have HE : Hid (secR m id = ([], m.check)) := by show _ = _; unfold secR; rw [if_pos hc]
    rw [HE.out]
    obtain ⟨ck, hck⟩ : ∃ z, m.check = z := ⟨_, rfl⟩
    rw [hck] at CK hc ⊢
    have q1 : (ck == 0) = false := by simpa using hc
    have q2 : (ck != 0) = true := by simpa using hc
    clear h ht HE hb0 hck hna hi hc
    unfold Md.v at CK HB HX X0 ⊢
    have x0 := X0 0 _ rfl
    have x1 := X0 1 _ rfl
    have x2 := X0 2 _ rfl
    have x3 := X0 3 _ rfl
    have x4 := X0 4 _ rfl
    have x5 := X0 5 _ rfl
    have x6 := X0 6 _ rfl
    have x7 := X0 7 _ rfl
    have x8 := X0 8 _ rfl
    have x9 := X0 9 _ rfl
    have x10 := X0 10 _ rfl
    clear X0
    go_enter Tryz.func16, Tryz.ntmps16
    go_wp2_with fail
    refine CK.out.mono ?_
    rintro e1 w1 ⟨rfl, hb⟩
    have HB1 := hid (HB.out.trans (hb.mono HB.out.size))
    have HX1 := hid (HX.out.keep hb)
    clear CK hb
    clear x0 x1 x2 x3 x4 x5 x6 x7 x8 x9 x10
    have x0 := HX1.out 0 _ rfl
    have x1 := HX1.out 1 _ rfl
    have x2 := HX1.out 2 _ rfl
    have x3 := HX1.out 3 _ rfl
    have x4 := HX1.out 4 _ rfl
    have x5 := HX1.out 5 _ rfl
    have x6 := HX1.out 6 _ rfl
    have x7 := HX1.out 7 _ rfl
    have x8 := HX1.out 8 _ rfl
    have x9 := HX1.out 9 _ rfl
    have x10 := HX1.out 10 _ rfl
    go_wp2
    exact bodyPost_ret (v := .tuple #[.slice none 0 0, .int .i64 ck]) (by simp [results, Tryz.results16, go_sem]) rfl (putP_none HB1.out)
  rw [hc] at CK
  have FA := hid (ht hc)
  have S8 := hid (fun (k : Nat) (hk : k < 11) (W : World) (hb : Below w.heap.size w W) (hne : secB m k ≠ []) => sec8_any k hk m W ((h.on hb).fine hc) FA.out hne)
  have LF := hid (fun (k : Nat) (hk : k < 11) (W : World) => left_any m k hk W)
  by_cases h1 : id < 1
  · have HE : Hid (secR m id = ([], 5)) := by show _ = _; unfold secR; rw [if_neg (by simpa using hc), if_pos (.inl h1)]
    rw [HE.out]
    clear h ht hc HE FA S8 LF hb0 hna hi
    unfold Md.v at CK HB HX X0 ⊢
    have x0 := X0 0 _ rfl
    have x1 := X0 1 _ rfl
    have x2 := X0 2 _ rfl
    have x3 := X0 3 _ rfl
    have x4 := X0 4 _ rfl
    have x5 := X0 5 _ rfl
    have x6 := X0 6 _ rfl
    have x7 := X0 7 _ rfl
    have x8 := X0 8 _ rfl
    have x9 := X0 9 _ rfl
    have x10 := X0 10 _ rfl
    clear X0
    go_enter Tryz.func16, Tryz.ntmps16
    go_wp2_with fail
    refine CK.out.mono ?_
    rintro e1 w1 ⟨rfl, hb⟩
    have HB1 := hid (HB.out.trans (hb.mono HB.out.size))
    have HX1 := hid (HX.out.keep hb)
    clear CK hb
    clear x0 x1 x2 x3 x4 x5 x6 x7 x8 x9 x10
    have x0 := HX1.out 0 _ rfl
    have x1 := HX1.out 1 _ rfl
    have x2 := HX1.out 2 _ rfl
    have x3 := HX1.out 3 _ rfl
    have x4 := HX1.out 4 _ rfl
    have x5 := HX1.out 5 _ rfl
    have x6 := HX1.out 6 _ rfl
    have x7 := HX1.out 7 _ rfl
    have x8 := HX1.out 8 _ rfl
    have x9 := HX1.out 9 _ rfl
    have x10 := HX1.out 10 _ rfl
    go_wp2
    exact bodyPost_ret (v := .tuple #[.slice none 0 0, .int .i64 5]) (by simp [results, Tryz.results16, go_sem]) rfl (putP_none HB1.out)
  by_cases h2 : 11 < id
  · have HE : Hid (secR m id = ([], 5)) := by show _ = _; unfold secR; rw [if_neg (by simpa using hc), if_pos (.inr h2)]
    rw [HE.out]
    clear h ht hc HE FA S8 LF hb0 hna hi
    unfold Md.v at CK HB HX X0 ⊢
    have x0 := X0 0 _ rfl
    have x1 := X0 1 _ rfl
    have x2 := X0 2 _ rfl
    have x3 := X0 3 _ rfl
    have x4 := X0 4 _ rfl
    have x5 := X0 5 _ rfl
    have x6 := X0 6 _ rfl
    have x7 := X0 7 _ rfl
    have x8 := X0 8 _ rfl
    have x9 := X0 9 _ rfl
    have x10 := X0 10 _ rfl
    clear X0
    go_enter Tryz.func16, Tryz.ntmps16
    go_wp2_with fail
    refine CK.out.mono ?_
    rintro e1 w1 ⟨rfl, hb⟩
    have HB1 := hid (HB.out.trans (hb.mono HB.out.size))
    have HX1 := hid (HX.out.keep hb)
    clear CK hb
    clear x0 x1 x2 x3 x4 x5 x6 x7 x8 x9 x10
    have x0 := HX1.out 0 _ rfl
    have x1 := HX1.out 1 _ rfl
    have x2 := HX1.out 2 _ rfl
    have x3 := HX1.out 3 _ rfl
    have x4 := HX1.out 4 _ rfl
    have x5 := HX1.out 5 _ rfl
    have x6 := HX1.out 6 _ rfl
    have x7 := HX1.out 7 _ rfl
    have x8 := HX1.out 8 _ rfl
    have x9 := HX1.out 9 _ rfl
    have x10 := HX1.out 10 _ rfl
    go_wp2
    exact bodyPost_ret (v := .tuple #[.slice none 0 0, .int .i64 5]) (by simp [results, Tryz.results16, go_sem]) rfl (putP_none HB1.out)
  obtain ⟨k, hk, rfl⟩ : ∃ k : Nat, k < 11 ∧ id = (k : Int) + 1 := ⟨(id - 1).toNat, by omega, by omega⟩
  have HE : Hid (secR m ((k : Int) + 1) = (secB m k, 0)) := by show _ = _; unfold secR; rw [if_neg (by simpa using hc), if_neg (by omega)]; simp
  rw [HE.out]
  by_cases hne : secB m k = []
  · have L := hid (LF.out k hk)
    rw [left_sec m hk, hne] at L
    rw [hne]
    clear h ht hc HE FA S8 LF hb0 hna hi hne
    unfold Md.v at CK HB HX X0 L ⊢
    have x0 := X0 0 _ rfl
    have x1 := X0 1 _ rfl
    have x2 := X0 2 _ rfl
    have x3 := X0 3 _ rfl
    have x4 := X0 4 _ rfl
    have x5 := X0 5 _ rfl
    have x6 := X0 6 _ rfl
    have x7 := X0 7 _ rfl
    have x8 := X0 8 _ rfl
    have x9 := X0 9 _ rfl
    have x10 := X0 10 _ rfl
    clear X0
    go_enter Tryz.func16, Tryz.ntmps16
    go_wp2_with fail
    refine CK.out.mono ?_
    rintro e1 w1 ⟨rfl, hb⟩
    have HB1 := hid (HB.out.trans (hb.mono HB.out.size))
    have HX1 := hid (HX.out.keep hb)
    clear CK hb
    clear x0 x1 x2 x3 x4 x5 x6 x7 x8 x9 x10
    have x0 := HX1.out 0 _ rfl
    have x1 := HX1.out 1 _ rfl
    have x2 := HX1.out 2 _ rfl
    have x3 := HX1.out 3 _ rfl
    have x4 := HX1.out 4 _ rfl
    have x5 := HX1.out 5 _ rfl
    have x6 := HX1.out 6 _ rfl
    have x7 := HX1.out 7 _ rfl
    have x8 := HX1.out 8 _ rfl
    have x9 := HX1.out 9 _ rfl
    have x10 := HX1.out 10 _ rfl
    go_wp2_with fail
    refine (L.out _).mono ?_
    rintro e2 w2 ⟨rfl, hb⟩
    have HB2 := hid (HB1.out.trans (hb.mono HB1.out.size))
    clear L hb
    clear x0 x1 x2 x3 x4 x5 x6 x7 x8 x9 x10
    go_wp2
    exact bodyPost_ret (v := .tuple #[.slice none 0 0, .int .i64 0]) (by simp [results, Tryz.results16, go_sem]) rfl (putP_none HB2.out)
  have L := hid (LF.out k hk)
  rw [left_sec m hk, decide_eq_false hne] at L
  have S := hid (fun W hb => S8.out k hk W hb hne)
  by_cases g0 : k < 3
  · skip
    have e8 : fn8 k = 41 := by unfold fn8;  rw [if_pos g0]
    rw [e8] at S
    have f0 : (k : Int) + 1 ≤ 3 := by omega
    obtain ⟨zs, hzs⟩ : ∃ z, secB m k = z := ⟨_, rfl⟩
    rw [hzs] at S ⊢
    clear h ht hc HE FA S8 LF hb0 hna hi hne hk hzs e8 g0
    unfold Md.v at CK HB HX X0 L S ⊢
    have x0 := X0 0 _ rfl
    have x1 := X0 1 _ rfl
    have x2 := X0 2 _ rfl
    have x3 := X0 3 _ rfl
    have x4 := X0 4 _ rfl
    have x5 := X0 5 _ rfl
    have x6 := X0 6 _ rfl
    have x7 := X0 7 _ rfl
    have x8 := X0 8 _ rfl
    have x9 := X0 9 _ rfl
    have x10 := X0 10 _ rfl
    clear X0
    go_enter Tryz.func16, Tryz.ntmps16
    go_wp2_with fail
    refine CK.out.mono ?_
    rintro e1 w1 ⟨rfl, hb⟩
    have HB1 := hid (HB.out.trans (hb.mono HB.out.size))
    have HX1 := hid (HX.out.keep hb)
    clear CK hb
    clear x0 x1 x2 x3 x4 x5 x6 x7 x8 x9 x10
    have x0 := HX1.out 0 _ rfl
    have x1 := HX1.out 1 _ rfl
    have x2 := HX1.out 2 _ rfl
    have x3 := HX1.out 3 _ rfl
    have x4 := HX1.out 4 _ rfl
    have x5 := HX1.out 5 _ rfl
    have x6 := HX1.out 6 _ rfl
    have x7 := HX1.out 7 _ rfl
    have x8 := HX1.out 8 _ rfl
    have x9 := HX1.out 9 _ rfl
    have x10 := HX1.out 10 _ rfl
    go_wp2_with fail
    refine (L.out _).mono ?_
    rintro e2 w2 ⟨rfl, hb⟩
    have HB2 := hid (HB1.out.trans (hb.mono HB1.out.size))
    have HX2 := hid (HX1.out.keep hb)
    clear L hb HX1
    clear x0 x1 x2 x3 x4 x5 x6 x7 x8 x9 x10
    have x0 := HX2.out 0 _ rfl
    have x1 := HX2.out 1 _ rfl
    have x2 := HX2.out 2 _ rfl
    have x3 := HX2.out 3 _ rfl
    have x4 := HX2.out 4 _ rfl
    have x5 := HX2.out 5 _ rfl
    have x6 := HX2.out 6 _ rfl
    have x7 := HX2.out 7 _ rfl
    have x8 := HX2.out 8 _ rfl
    have x9 := HX2.out 9 _ rfl
    have x10 := HX2.out 10 _ rfl
    go_wp2_with fail
    refine (S.out _ HB2.out).mono ?_
    rintro e3 w3 ⟨v, rfl, ho, hb⟩
    have HB3 := hid (HB2.out.trans (hb.mono HB2.out.size))
    have HO := hid (ho.mono HB2.out.size)
    clear S hb ho HX2
    clear x0 x1 x2 x3 x4 x5 x6 x7 x8 x9 x10
    go_wp2
    exact bodyPost_ret (v := .tuple #[v, .int .i64 0]) (by simp [results, Tryz.results16, go_sem]) rfl (⟨v, rfl, HO.out, HB3.out⟩)
  by_cases g1 : k < 5
  · skip
    have e8 : fn8 k = 42 := by unfold fn8; rw [if_neg g0]; rw [if_pos g1]
    rw [e8] at S
    have f0 : ¬ (k : Int) + 1 ≤ 3 := by omega
    have f1 : (k : Int) + 1 ≤ 5 := by omega
    obtain ⟨zs, hzs⟩ : ∃ z, secB m k = z := ⟨_, rfl⟩
    rw [hzs] at S ⊢
    clear h ht hc HE FA S8 LF hb0 hna hi hne hk hzs e8 g0 g1
    unfold Md.v at CK HB HX X0 L S ⊢
    have x0 := X0 0 _ rfl
    have x1 := X0 1 _ rfl
    have x2 := X0 2 _ rfl
    have x3 := X0 3 _ rfl
    have x4 := X0 4 _ rfl
    have x5 := X0 5 _ rfl
    have x6 := X0 6 _ rfl
    have x7 := X0 7 _ rfl
    have x8 := X0 8 _ rfl
    have x9 := X0 9 _ rfl
    have x10 := X0 10 _ rfl
    clear X0
    go_enter Tryz.func16, Tryz.ntmps16
    go_wp2_with fail
    refine CK.out.mono ?_
    rintro e1 w1 ⟨rfl, hb⟩
    have HB1 := hid (HB.out.trans (hb.mono HB.out.size))
    have HX1 := hid (HX.out.keep hb)
    clear CK hb
    clear x0 x1 x2 x3 x4 x5 x6 x7 x8 x9 x10
    have x0 := HX1.out 0 _ rfl
    have x1 := HX1.out 1 _ rfl
    have x2 := HX1.out 2 _ rfl
    have x3 := HX1.out 3 _ rfl
    have x4 := HX1.out 4 _ rfl
    have x5 := HX1.out 5 _ rfl
    have x6 := HX1.out 6 _ rfl
    have x7 := HX1.out 7 _ rfl
    have x8 := HX1.out 8 _ rfl
    have x9 := HX1.out 9 _ rfl
    have x10 := HX1.out 10 _ rfl
    go_wp2_with fail
    refine (L.out _).mono ?_
    rintro e2 w2 ⟨rfl, hb⟩
    have HB2 := hid (HB1.out.trans (hb.mono HB1.out.size))
    have HX2 := hid (HX1.out.keep hb)
    clear L hb HX1
    clear x0 x1 x2 x3 x4 x5 x6 x7 x8 x9 x10
    have x0 := HX2.out 0 _ rfl
    have x1 := HX2.out 1 _ rfl
    have x2 := HX2.out 2 _ rfl
    have x3 := HX2.out 3 _ rfl
    have x4 := HX2.out 4 _ rfl
    have x5 := HX2.out 5 _ rfl
    have x6 := HX2.out 6 _ rfl
    have x7 := HX2.out 7 _ rfl
    have x8 := HX2.out 8 _ rfl
    have x9 := HX2.out 9 _ rfl
    have x10 := HX2.out 10 _ rfl
    go_wp2_with fail
    refine (S.out _ HB2.out).mono ?_
    rintro e3 w3 ⟨v, rfl, ho, hb⟩
    have HB3 := hid (HB2.out.trans (hb.mono HB2.out.size))
    have HO := hid (ho.mono HB2.out.size)
    clear S hb ho HX2
    clear x0 x1 x2 x3 x4 x5 x6 x7 x8 x9 x10
    go_wp2
    exact bodyPost_ret (v := .tuple #[v, .int .i64 0]) (by simp [results, Tryz.results16, go_sem]) rfl (⟨v, rfl, HO.out, HB3.out⟩)
  by_cases g2 : k < 8
  · skip
    have e8 : fn8 k = 43 := by unfold fn8; rw [if_neg g0]; rw [if_neg g1]; rw [if_pos g2]
    rw [e8] at S
    have f0 : ¬ (k : Int) + 1 ≤ 3 := by omega
    have f1 : ¬ (k : Int) + 1 ≤ 5 := by omega
    have f2 : (k : Int) + 1 ≤ 8 := by omega
    obtain ⟨zs, hzs⟩ : ∃ z, secB m k = z := ⟨_, rfl⟩
    rw [hzs] at S ⊢
    clear h ht hc HE FA S8 LF hb0 hna hi hne hk hzs e8 g0 g1 g2
    unfold Md.v at CK HB HX X0 L S ⊢
    have x0 := X0 0 _ rfl
    have x1 := X0 1 _ rfl
    have x2 := X0 2 _ rfl
    have x3 := X0 3 _ rfl
    have x4 := X0 4 _ rfl
    have x5 := X0 5 _ rfl
    have x6 := X0 6 _ rfl
    have x7 := X0 7 _ rfl
    have x8 := X0 8 _ rfl
    have x9 := X0 9 _ rfl
    have x10 := X0 10 _ rfl
    clear X0
    go_enter Tryz.func16, Tryz.ntmps16
    go_wp2_with fail
    refine CK.out.mono ?_
    rintro e1 w1 ⟨rfl, hb⟩
    have HB1 := hid (HB.out.trans (hb.mono HB.out.size))
    have HX1 := hid (HX.out.keep hb)
    clear CK hb
    clear x0 x1 x2 x3 x4 x5 x6 x7 x8 x9 x10
    have x0 := HX1.out 0 _ rfl
    have x1 := HX1.out 1 _ rfl
    have x2 := HX1.out 2 _ rfl
    have x3 := HX1.out 3 _ rfl
    have x4 := HX1.out 4 _ rfl
    have x5 := HX1.out 5 _ rfl
    have x6 := HX1.out 6 _ rfl
    have x7 := HX1.out 7 _ rfl
    have x8 := HX1.out 8 _ rfl
    have x9 := HX1.out 9 _ rfl
    have x10 := HX1.out 10 _ rfl
    go_wp2_with fail
    refine (L.out _).mono ?_
    rintro e2 w2 ⟨rfl, hb⟩
    have HB2 := hid (HB1.out.trans (hb.mono HB1.out.size))
    have HX2 := hid (HX1.out.keep hb)
    clear L hb HX1
    clear x0 x1 x2 x3 x4 x5 x6 x7 x8 x9 x10
    have x0 := HX2.out 0 _ rfl
    have x1 := HX2.out 1 _ rfl
    have x2 := HX2.out 2 _ rfl
    have x3 := HX2.out 3 _ rfl
    have x4 := HX2.out 4 _ rfl
    have x5 := HX2.out 5 _ rfl
    have x6 := HX2.out 6 _ rfl
    have x7 := HX2.out 7 _ rfl
    have x8 := HX2.out 8 _ rfl
    have x9 := HX2.out 9 _ rfl
    have x10 := HX2.out 10 _ rfl
    go_wp2_with fail
    refine (S.out _ HB2.out).mono ?_
    rintro e3 w3 ⟨v, rfl, ho, hb⟩
    have HB3 := hid (HB2.out.trans (hb.mono HB2.out.size))
    have HO := hid (ho.mono HB2.out.size)
    clear S hb ho HX2
    clear x0 x1 x2 x3 x4 x5 x6 x7 x8 x9 x10
    go_wp2
    exact bodyPost_ret (v := .tuple #[v, .int .i64 0]) (by simp [results, Tryz.results16, go_sem]) rfl (⟨v, rfl, HO.out, HB3.out⟩)
  have e8 : fn8 k = 44 := by unfold fn8; rw [if_neg g0]; rw [if_neg g1]; rw [if_neg g2];
  rw [e8] at S
  have f0 : ¬ (k : Int) + 1 ≤ 3 := by omega
  have f1 : ¬ (k : Int) + 1 ≤ 5 := by omega
  have f2 : ¬ (k : Int) + 1 ≤ 8 := by omega
  obtain ⟨zs, hzs⟩ : ∃ z, secB m k = z := ⟨_, rfl⟩
  rw [hzs] at S ⊢
  clear h ht hc HE FA S8 LF hb0 hna hi hne hk hzs e8 g0 g1 g2
  unfold Md.v at CK HB HX X0 L S ⊢
  have x0 := X0 0 _ rfl
  have x1 := X0 1 _ rfl
  have x2 := X0 2 _ rfl
  have x3 := X0 3 _ rfl
  have x4 := X0 4 _ rfl
  have x5 := X0 5 _ rfl
  have x6 := X0 6 _ rfl
  have x7 := X0 7 _ rfl
  have x8 := X0 8 _ rfl
  have x9 := X0 9 _ rfl
  have x10 := X0 10 _ rfl
  clear X0
  go_enter Tryz.func16, Tryz.ntmps16
  go_wp2_with fail
  refine CK.out.mono ?_
  rintro e1 w1 ⟨rfl, hb⟩
  have HB1 := hid (HB.out.trans (hb.mono HB.out.size))
  have HX1 := hid (HX.out.keep hb)
  clear CK hb
  clear x0 x1 x2 x3 x4 x5 x6 x7 x8 x9 x10
  have x0 := HX1.out 0 _ rfl
  have x1 := HX1.out 1 _ rfl
  have x2 := HX1.out 2 _ rfl
  have x3 := HX1.out 3 _ rfl
  have x4 := HX1.out 4 _ rfl
  have x5 := HX1.out 5 _ rfl
  have x6 := HX1.out 6 _ rfl
  have x7 := HX1.out 7 _ rfl
  have x8 := HX1.out 8 _ rfl
  have x9 := HX1.out 9 _ rfl
  have x10 := HX1.out 10 _ rfl
  go_wp2_with fail
  refine (L.out _).mono ?_
  rintro e2 w2 ⟨rfl, hb⟩
  have HB2 := hid (HB1.out.trans (hb.mono HB1.out.size))
  have HX2 := hid (HX1.out.keep hb)
  clear L hb HX1
  clear x0 x1 x2 x3 x4 x5 x6 x7 x8 x9 x10
  have x0 := HX2.out 0 _ rfl
  have x1 := HX2.out 1 _ rfl
  have x2 := HX2.out 2 _ rfl
  have x3 := HX2.out 3 _ rfl
  have x4 := HX2.out 4 _ rfl
  have x5 := HX2.out 5 _ rfl
  have x6 := HX2.out 6 _ rfl
  have x7 := HX2.out 7 _ rfl
  have x8 := HX2.out 8 _ rfl
  have x9 := HX2.out 9 _ rfl
  have x10 := HX2.out 10 _ rfl
  go_wp2_with fail
  refine (S.out _ HB2.out).mono ?_
  rintro e3 w3 ⟨v, rfl, ho, hb⟩
  have HB3 := hid (HB2.out.trans (hb.mono HB2.out.size))
  have HO := hid (ho.mono HB2.out.size)
  clear S hb ho HX2
  clear x0 x1 x2 x3 x4 x5 x6 x7 x8 x9 x10
  go_wp2
  exact bodyPost_ret (v := .tuple #[v, .int .i64 0]) (by simp [results, Tryz.results16, go_sem]) rfl (⟨v, rfl, HO.out, HB3.out⟩)
end Go.Proofs.YtepbjkkakfpjgaaGreatDoor.Enc

namespace Go.Proofs.YtepbjkkakfpjgaaGreatDoor.Enc
open Go.RowKit Go.Shelf Go.Proofs.YtepbjkkakfpjgaaGreatDoor.Leb Go.Proofs.YtepbjkkakfpjgaaGreatDoor.Instr Go.Proofs.YtepbjkkakfpjgaaGreatDoor.Mod
open Go.Proofs.YtepbjkkakfpjgaaGreatDoor.Body (encL codeL PutP Grew)

/-- The bytes that cell g tells: a row of its own, or a full one. -/
structure Out (g B : Nat) (v : Value) (xs : List Int) (w : World) : Prop where
  c : w.cell? ⟨g, 0, none⟩ = some v
  f : w.frozen? ⟨g, 0, none⟩ = false
  sep : v.ownBlock ≠ some g
  low : g ≤ B + 1
  lowB : B ≤ w.heap.size
  lt : ∀ q, v.ownBlock = some q → B ≤ q ∧ q < w.heap.size
  byt : ∃ a n c, v = .slice a n c ∧ xs.length = n ∧ Bytes w a xs ∧ (a = none → c = 0)
  kind : Own B w v xs ∨ ∃ q, v = .slice (some ⟨q, 0, none⟩) xs.length xs.length
theorem Out.of {g B : Nat} {v0 v : Value} {xs : List Int} {w0 w : World} (h : Buf g B v0 w0 v xs w) (hz : ∀ z ∈ xs, 0 ≤ z ∧ z < 256) (hl : xs.length ≤ 2000000000) : Out g B v xs w := by
  refine ⟨h.c, h.f, h.sep, h.low, Nat.le_trans h.lowB h.touch.size, World.ownsRow.lt h.own, ?_, .inl h.own⟩
  have ho := h.own
  obtain ⟨a, c, rfl⟩ := ho.sliceN rfl
  exact ⟨a, _, c, rfl, rfl, ho.bytes hz (by omega), ho.nil.out⟩
theorem Out.past {g B g2 B2 : Nat} {v u u' : Value} {zs ys : List Int} {w w' : World} (h : Out g B v zs w) (k : Buf g2 B2 u w u' ys w') (a1 : g ≠ g2) (a2 : u.ownBlock ≠ some g) (a3 : v.ownBlock ≠ some g2) (a4 : ∀ q, v.ownBlock = some q → u.ownBlock ≠ some q) : Out g B v zs w' := by
  have hg : ¬ (g = g2 ∨ u.ownBlock = some g) := by rintro (e | e); exact a1 e; exact a2 e
  have hgl : g < w.heap.size := World.block_lt_of_cell? w _ h.c
  refine ⟨k.touch.cell hg h.c, (World.frozen?_of_block (w := w) (k.touch.block g hgl hg)).trans h.f, h.sep, h.low, Nat.le_trans h.lowB k.touch.size, fun q hq => ⟨(h.lt q hq).1, Nat.lt_of_lt_of_le (h.lt q hq).2 k.touch.size⟩, ?_, ?_⟩
  · obtain ⟨a, n, c, rfl, hn, hb, h0⟩ := h.byt
    refine ⟨a, n, c, rfl, hn, Bytes.touchE hb k.touch (fun b off ha _ => ?_), h0⟩
    subst ha
    rintro (e | e)
    · exact a3 (by rw [← e]; rfl)
    · exact a4 b rfl e
  · rcases h.kind with h1 | h1
    · exact .inl (touch_row h1 k.touch (fun q hq => by rintro (e | e); exact a3 (by rw [hq, e]); exact a4 q hq e))
    · exact .inr h1
/-- An append to a full row makes a new one. -/
theorem run_full {B : Nat} {wr : World} {q : Nat} {xs : List Int} (z : Int) (hx : Bytes wr (some ⟨q, 0, none⟩) xs) (hB : B ≤ wr.heap.size) (b : Nat) (hc : wr.cell? ⟨b, 0, none⟩ = some (.int .u8 z)) (hl : xs.length ≤ 2000000000) (ty : TypeId) :
    ∃ v' w', (Builtin.append_ #[76, 76] ty #[.slice (some ⟨q, 0, none⟩) xs.length xs.length, .slice (some ⟨b, 0, none⟩) 1 1]).run Tryz.prog wr = .ok v' w' ∧ Own B w' v' (xs ++ [z]) ∧ Below wr.heap.size wr w' ∧ v'.ownBlock = some wr.heap.size ∧ Full v' w' := by
  obtain ⟨i0, hi, hz0, hz1, hz2⟩ := info_parts infoByte
  have hadd : ∀ (b j : Nat), (⟨b, 0, none⟩ : Addr).add j = ⟨b, j, none⟩ := plain_add
  have holds : ∀ (j : Nat) (v : Value), (xs.map (Value.int .u8))[j]? = some v → wr.cell? ((⟨q, 0, none⟩ : Addr).add j) = some v := by
    intro j v hj
    have hjl : j < xs.length := by
      rcases Nat.lt_or_ge j xs.length with h | h
      · exact h
      · rw [List.getElem?_eq_none (by simpa using h)] at hj; cases hj
    obtain ⟨b', off', he, hcc⟩ := hx.at (by omega)
    simp only [Option.some.injEq, Addr.mk.injEq] at he
    obtain ⟨rfl, rfl, _⟩ := he
    rw [hadd, ← Nat.zero_add j, hcc j hjl]
    rw [← hj, getD_lt hjl]; simp [hjl]
  have hnews : ∀ (j : Nat) (v : Value), ([Value.int .u8 z])[j]? = some v → wr.cell? ((⟨b, 0, none⟩ : Addr).add j) = some v := by
    intro j v hj
    match j, hj with
    | 0, hj => simp at hj; subst hj; rw [hadd]; exact hc
  have hr := run_append_grow (P := Tryz.prog) wr 76 ty 5 i0 (.int .u8 0) Tryz.underlying76 hi hz0 ⟨q, 0, none⟩ xs.length xs.length (xs.map (Value.int .u8)) (by rw [hz1]; simp) holds ⟨b, 0, none⟩ 1 1 [.int .u8 z] (by rw [hz1]; rfl) hnews (by omega) (by omega) (growslice_fits (by omega) (by rw [hz2]; omega))
  refine ⟨_, _, hr, ?_, ((Below.refl _ _).drew.alloc (Nat.le_refl _) _), rfl, Full.new (w := wr.drew) rfl fun u hu => ?_⟩
  rotate_left
  · simp only [Array.toList_append] at hu
    rcases List.mem_append.1 hu with h | h
    · rcases List.mem_append.1 h with h | h
      · exact ints_full xs u (by simpa using h)
      · exact ⟨z, by simpa using h⟩
    · exact zeros_full _ u h
  have hge := grownCap_ge wr (xs.length + 1) xs.length 5
  have hcm : grownCap wr (xs.length + 1) xs.length 5 ≤ maxLen := grownCap_le_maxLen wr (xs.length + 1) xs.length 5 (by unfold maxLen; omega)
  unfold Own
  refine ⟨by simp, .inr ⟨wr.heap.size, _, _, by rw [List.length_append]; rfl, hB, heap_alloc_new wr.drew _, by rw [List.length_append]; exact hge, hcm, ?_, ?_⟩⟩
  · simp only [Array.size_append, List.size_toArray, size_zeroCells, List.length_map, List.length_cons, List.length_nil]
    have : (Value.int .u8 0).cells.size = 1 := rfl
    rw [this]
    omega
  · rw [List.map_append]
    simp only [Array.toList_append]
    rw [List.take_append_of_le_length (by simp)]
    simp [List.take_of_length_le]
section
variable {ops : Array Oper} {rest : List Oper} {o : Oper} {act : Act} {Q : Exit → Act → World → Prop}
theorem run_wp {t1 t2 : TypeId} (hgd : o.guard = none) (s x : Operand) (ho : o.op = .call { callee := .builtin .append, args := #[s, x], argTypes := #[t1, t2] })
    {wr w' : World} {v u v' : Value} (hs : act.eval s = v) (hx : act.eval x = u) (hr : (Builtin.append_ #[t1, t2] o.type #[v, u]).run Tryz.prog wr = .ok v' w')
    (h : wpList Tryz.prog ops Q rest (act.put o.dst v') w') : wpList Tryz.prog ops Q (o :: rest) act wr := by
  refine wpList_plain hgd fun K hK => ?_
  unfold Oper.wp
  simp [execOp, ho, resolve, invoke, builtin, hs, hx, hr, Result.andThen]
  exact hK _ _ h
end
set_option maxRecDepth 100000 in
set_option maxHeartbeats 1000000 in
theorem byte_out (g B : Nat) (v : Value) (xs : List Int) (z : Int) (w : World) (h : Out g B v xs w) (hz : 0 ≤ z ∧ z < 256) (hl : xs.length ≤ 1000000000) :
    Calls Tryz.prog 34 #[.pointer (some ⟨g, 0, none⟩), .int .u8 z] w (Puts g B v w (xs ++ [z])) := by
  rcases h.kind with hk | ⟨q, rfl⟩
  · exact byte_any g B v xs z w (Buf.start h.c h.f hk h.sep h.low h.lowB) hz (by omega)
  · have hbt : Bytes w (some ⟨q, 0, none⟩) xs := by
      obtain ⟨a, n, c, he, hn, hb, _⟩ := h.byt
      simp only [Value.slice.injEq] at he
      obtain ⟨rfl, _, _⟩ := he
      exact hb
    have hb1 := (Below.refl w.heap.size w).alloc (Nat.le_refl _) (.cells #[.int .u8 z] 5)
    obtain ⟨v', w', hr, ho, hb2, hv, hfu⟩ := run_full (B := B) (wr := w.alloc (.cells #[.int .u8 z] 5)) z (hbt.below hb1) (by have := h.lowB; simp; omega) w.heap.size (by simp [go_sem]) (by omega) 76
    have hb3 := thenB hb1 hb2
    have c0 := h.c
    have f0 := h.f
    have hgl : g < w.heap.size := World.block_lt_of_cell? w _ h.c
    obtain ⟨N, hN⟩ : ∃ N, (xs ++ [z]).length = N := ⟨_, rfl⟩
    have ho2 := ho
    obtain ⟨a1, q1, rfl⟩ := ho2.sliceN hN
    have hsep : (Value.slice a1 N q1).ownBlock ≠ some g := by rw [hv]; simp; omega
    have c1 := Go.Proofs.YtepbjkkakfpjgaaGreatDoor.keep hb3 c0
    have f1 : w'.frozen? ⟨g, 0, none⟩ = false := (hb3.frozen (p := ⟨g, 0, none⟩) hgl).trans f0
    have HZ : Hid (Buf g B (.slice (some ⟨q, 0, none⟩) xs.length xs.length) w (.slice a1 N q1) (xs ++ [z]) (w'.setCell ⟨g, 0, none⟩ (.slice a1 N q1))) := by
      refine hid ⟨World.cell?_setCell_same' _ _ _ (by rw [c1]; rfl), by rw [World.frozen?_setCell]; exact f1, touch_row ho ((Touch.refl (fun j => j = g) w').setCell (.inl rfl) _) (fun q hq e => hsep (by rw [hq, e])), ((Touch.of_below hb3).mono (fun j hj => hj)).setCell (.inl (.inl rfl)) _, fun j hj => ?_, fun q hq => ?_, hsep, h.low, h.lowB, hgl, fun _ => hfu.touch ((Touch.refl (fun j => j = g) w').setCell (.inl rfl) _) (fun q hq e => hsep (by rw [hq, e]))⟩
      · refine Eq.trans ?_ (hb3.cell (p := ⟨g, j, none⟩) hgl)
        exact World.cell?_setCell_other _ _ _ _ (by intro e; simp only [Addr.mk.injEq, true_and, and_true] at e; exact hj e.symm)
      · rw [hv] at hq; simp at hq; exact .inr (by omega)
    have HR := hid hr
    clear h hbt hb1 ho hb2 hb3 ho2 hv hsep hN hz hr hfu
    go_enter Tryz.func34, Tryz.ntmps34
    go_wp2_with (first
      | (at_builtin; refine run_wp rfl (.tmp 7) (.tmp 9) rfl rfl rfl HR.out ?_))
    go_end0
    exact ⟨rfl, _, HZ.out⟩
end Go.Proofs.YtepbjkkakfpjgaaGreatDoor.Enc
