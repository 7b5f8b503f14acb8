import Derived.Test.YtdljneclfgneoaaGreatDoorVb20
import Derived.Test.YtdljneclfgneoaaGreatDoorVb07
import Derived.Test.YtdljneclfgneoaaGreatDoorVb02
import Derived.Test.YtdljneclfgneoaaGreatDoorVb10
import Derived.Test.YtdljneclfgneoaaGreatDoorVb11
import Derived.Test.YtdljneclfgneoaaGreatDoorVb21
import Derived.Test.YtdljneclfgneoaaGreatDoorVb08
import Derived.Test.YtdljneclfgneoaaGreatDoorVb22
import Derived.Deep.RegionLaw
namespace Go.Proofs.YtdljneclfgneoaaGreatDoor.Instr
end Go.Proofs.YtdljneclfgneoaaGreatDoor.Instr
namespace Go.Proofs.YtdljneclfgneoaaGreatDoor.Mod
open Go.RowKit Go.Proofs.YtdljneclfgneoaaGreatDoor.Instr

def strR (s : ByteArray) : List Value := [.string s]
def twoR (l : List Imp) : List ByteArray := l.flatMap fun i => [i.mo, i.na]
/-- All names. -/
def Md.names (m : Md) : List ByteArray := twoR m.im ++ m.ex.map (·.na)
theorem twoR_take {l : List Imp} {k : Nat} (hk : k < l.length) : (twoR (l.take (k + 1))).map strR = (twoR (l.take k)).map strR ++ [[.string l[k].mo], [.string l[k].na]] := by
  unfold twoR; rw [List.take_succ_eq_append_getElem hk, List.flatMap_append, List.map_append]; rfl
theorem exN_take {l : List Ex} {k : Nat} (hk : k < l.length) (xs : List (List Value)) : xs ++ ((l.take (k + 1)).map (·.na)).map strR = (xs ++ ((l.take k).map (·.na)).map strR) ++ [[.string l[k].na]] := by
  rw [List.take_succ_eq_append_getElem hk, List.map_append, List.map_append, ← List.append_assoc]; rfl
theorem twoR_len (l : List Imp) : (twoR l).length = 2 * l.length := by
  unfold twoR
  induction l with
  | nil => rfl
  | cons a l ih => rw [List.flatMap_cons, List.length_append, ih, List.length_cons]; simp; omega
theorem infoStr : (Tryz.prog.info? 9).map (fun i => (i.zero, i.size, i.bytes)) = some (some (.string ⟨#[]⟩), 1, 16) := by kernel_rfl
set_option maxHeartbeats 2000000 in
set_option maxRecDepth 100000 in
theorem refNames_any (m : Md) (w : World) (hm : ModAt w.heap.size w m) (hf : m.few) :
    Calls Tryz.prog 245 #[.agg m.v] w fun e w' => ∃ a c, e = .returned (.slice a m.names.length c) ∧ Rows w'.heap.size w' a 1 (m.names.map strR) ∧ Below w.heap.size w w' := by
  have hb0 := (Below.refl w.heap.size w).alloc (Nat.le_refl _) (.cells m.v 40)
  have HB := hid hb0
  have HM := hid (hm.on hb0)
  have HX := hid (BoxAt.made w m.v 40)
  have HF := hid hf
  unfold Md.v at HB HX HM ⊢
  clear hm hf hb0
  go_enter Tryz.func245, Tryz.ntmps245
  go_wp2
  generalize w.alloc (.cells #[.slice m.ty'.a m.ty.length m.ty'.c, .slice m.im'.a m.im.length m.im'.c, .slice m.fu'.a m.fu.length m.fu'.c, .slice m.tb'.a m.tb.length m.tb'.c, .slice m.me'.a m.me.length m.me'.c, .slice m.gl'.a m.gl.length m.gl'.c, .slice m.ex'.a m.ex.length m.ex'.c, .bool m.st, .int .u32 m.sn, .slice m.el'.a m.el.length m.el'.c, .slice m.da'.a m.da.length m.da'.c] 40) = W0 at HB HM HX ⊢
  obtain ⟨li, hli⟩ : ∃ n, m.im.length = n := ⟨_, rfl⟩
  obtain ⟨lx, hlx⟩ : ∃ n, m.ex.length = n := ⟨_, rfl⟩
  have Lli := hid hli
  have Llx := hid hlx
  have bli : li ≤ 1000000 := by have := HF.out.lens; omega
  have blx : lx ≤ 1000000 := by have := HF.out.lens; omega
  have Xim := hid (show W0.cell? ⟨w.heap.size, 1, none⟩ = some (.slice m.im'.a li m.im'.c) by rw [← hli]; exact HX.out 1 _ rfl)
  have Xex := hid (show W0.cell? ⟨w.heap.size, 6, none⟩ = some (.slice m.ex'.a lx m.ex'.c) by rw [← hlx]; exact HX.out 6 _ rfl)
  have Rim := hid HM.out.im
  have Rex := hid HM.out.ex
  clear hli hlx HX HM HF
  go_loopw [3, 4] (fun vo vi wr => ∃ k : Nat, vi = .int .i64 k ∧ k ≤ li ∧ Hid (OwnR 9 1 W0.heap.size wr vo ((twoR (m.im.take k)).map strR)) ∧ Hid (Below W0.heap.size W0 wr)) (fun _ vi _ => li - (intOf vi).toNat)
  case atStart => exact ⟨0, rfl, Nat.zero_le _, OwnR.start _ _ _ _, Below.refl _ _⟩
  case round =>
    obtain ⟨k, rfl, hk, HO, HW⟩ := hrel
    have hbx := Go.Proofs.YtdljneclfgneoaaGreatDoor.keep HW.out Xim.out
    by_cases hlt : k < li
    · have hkl : k < m.im.length := by rw [Lli.out]; exact hlt
      obtain ⟨b, off, ha, hb, hc⟩ := Rows.get Rim.out hkl
      rw [ha] at hbx
      have HS := hid (twoR_take hkl)
      have HLN := hid (show ((twoR (m.im.take k)).map strR).length ≤ 4000000 by rw [List.length_map, twoR_len, List.length_take]; omega)
      obtain ⟨x, hxe⟩ : ∃ x, m.im[k] = x := ⟨_, rfl⟩
      rw [hxe] at hc HS
      have cc : ∀ j, j < 3 → ∀ v, x.v[j]? = some v → wr.cell? ⟨b, off + k * 3 + j, none⟩ = some v := fun j hj v hv => (HW.out.cell (p := ⟨b, off + k * 3 + j, none⟩) hb).trans (hc j hj v hv)
      have c0 : wr.cell? ⟨b, off + k * 3, none⟩ = some (.string x.mo) := cc 0 (by omega) _ rfl
      have c1 : wr.cell? ⟨b, off + k * 3 + 1, none⟩ = some (.string x.na) := cc 1 (by omega) _ rfl
      have hki : (k : Int) < (li : Int) := by omega
      obtain ⟨xs, hxs⟩ : ∃ xs, (twoR (m.im.take k)).map strR = xs := ⟨_, rfl⟩
      obtain ⟨ys, hys⟩ : ∃ ys, (twoR (m.im.take (k + 1))).map strR = ys := ⟨_, rfl⟩
      rw [hxs] at HO HLN HS
      rw [hys] at HS
      have HYS := hid hys
      obtain ⟨s0, hs0⟩ : ∃ s, x.mo = s := ⟨_, rfl⟩
      obtain ⟨s1, hs1⟩ : ∃ s, x.na = s := ⟨_, rfl⟩
      rw [hs0] at c0 HS
      rw [hs1] at c1 HS
      clear hc cc hb ha hkl hxe hxs hys hs0 hs1 hk
      go_wp2
      have HD := hid ((Below.refl wr.heap.size wr).drew)
      have HO2 := hid (HO.out.below HD.out)
      have HW2 := hid (HW.out.trans (HD.out.mono HW.out.size))
      go_region_law
        (first
          | (refine step_rows infoStr rfl (by omega) (by omega) Tryz.underlying309 rfl (.tmp 13) (.tmp 26) rfl [[.string s0], [.string s1]] rfl (HO2.out.below ((Below.refl _ _).alloc (Nat.le_refl _) _)) (thenA HW2.out _) (by have := HW.out.size; simp; omega)
               ⟨wr.drew.heap.size, 0, none⟩ 2 2 rfl rfl (by simp) (World.news_of_block (heap_alloc_new wr.drew _)) (by simp [Value.oneCell']) (by have := HLN.out; omega) ?_
             intro v' w' hown hbl hsz hgr))
      all_goals
        have hown1 := hid hown
        have hbl1 := hid hbl
        clear hown hbl hgr hsz HO2 HW2 HD hbx c0 c1 HO HW
        go_wp2
        go_roundw
        case rel => exact ⟨k + 1, by go_num, by omega, hid (by rw [HYS.out, HS.out]; exact hown1.out), hbl1⟩
        case measure => simp [intOf]; omega
    · obtain rfl : k = li := by omega
      have HO1 := hid (show OwnR 9 1 W0.heap.size wr u3 ((twoR m.im).map strR) by have := HO.out; rwa [List.take_of_length_le (by rw [Lli.out]; exact Nat.le_refl _)] at this)
      have HW1 := HW
      obtain ⟨xs0, hxs0⟩ : ∃ xs, (twoR m.im).map strR = xs := ⟨_, rfl⟩
      have hxl0 : xs0.length ≤ 4000000 := by rw [← hxs0, List.length_map, twoR_len, Lli.out]; omega
      have HX0 := hid hxs0
      rw [hxs0] at HO1
      clear HO HW hk hxs0
      go_wp2
      go_loopw [3, 5] (fun vo vi wr => ∃ j : Nat, vi = .int .i64 j ∧ j ≤ lx ∧ Hid (OwnR 9 1 W0.heap.size wr vo (xs0 ++ ((m.ex.take j).map (·.na)).map strR)) ∧ Hid (Below W0.heap.size W0 wr)) (fun _ vi _ => lx - (intOf vi).toNat)
      case atStart => exact ⟨0, rfl, Nat.zero_le _, hid (by simpa using HO1.out), HW1⟩
      case round =>
        clear HO1 HW1
        obtain ⟨j, rfl, hj, HO, HW⟩ := hrel
        have hbx := Go.Proofs.YtdljneclfgneoaaGreatDoor.keep HW.out Xex.out
        by_cases hlt : j < lx
        · have hkl : j < m.ex.length := by rw [Llx.out]; exact hlt
          obtain ⟨b, off, ha, hb, hc⟩ := Rows.get Rex.out hkl
          rw [ha] at hbx
          have HS := hid (exN_take hkl xs0)
          have HLN := hid (show (xs0 ++ ((m.ex.take j).map (·.na)).map strR).length ≤ 6000000 by rw [List.length_append, List.length_map, List.length_map, List.length_take]; omega)
          obtain ⟨x, hxe⟩ : ∃ x, m.ex[j] = x := ⟨_, rfl⟩
          rw [hxe] at hc HS
          have c0 : ∀ W, Below wr.heap.size wr W → W.cell? ⟨b, off + j * 3, none⟩ = some (.string x.na) := fun W hW => Go.Proofs.YtdljneclfgneoaaGreatDoor.keep hW ((HW.out.cell (p := ⟨b, off + j * 3 + 0, none⟩) hb).trans (hc 0 (by omega) (.string x.na) rfl))
          have c0 := c0 wr (Below.refl _ _)
          have hki : (j : Int) < (lx : Int) := by omega
          obtain ⟨xs, hxs⟩ : ∃ xs, xs0 ++ ((m.ex.take j).map (·.na)).map strR = xs := ⟨_, rfl⟩
          obtain ⟨ys, hys⟩ : ∃ ys, xs0 ++ ((m.ex.take (j + 1)).map (·.na)).map strR = ys := ⟨_, rfl⟩
          rw [hxs] at HO HLN HS
          rw [hys] at HS
          have HYS := hid hys
          obtain ⟨s0, hs0⟩ : ∃ s, x.na = s := ⟨_, rfl⟩
          rw [hs0] at c0 HS
          clear hc hb ha hkl hxe hxs hys hs0 hj
          go_wp2_with first
            | (refine append_rows infoStr rfl (by omega) (by omega) Tryz.underlying309 rfl (.tmp 35) (.tmp 42) rfl [[.string s0]] rfl (HO.out.below ((Below.refl _ _).alloc (Nat.le_refl _) _)) (thenA HW.out _) (by have := HW.out.size; simp; omega)
                 ⟨wr.heap.size, 0, none⟩ 1 1 rfl rfl (by simp) (World.news_of_block (heap_alloc_new wr _)) (by simp [Value.oneCell']) (by have := HLN.out; omega) ?_
               intro v' w' hown hbl hsz hgr)
          have hown1 := hid hown
          have hbl1 := hid hbl
          clear hown hbl hgr hsz hbx c0 HO HW
          go_wp2
          go_roundw
          case rel => exact ⟨j + 1, by go_num, by omega, hid (by rw [HYS.out, HS.out]; exact hown1.out), hbl1⟩
          case measure => simp [intOf]; omega
        · obtain rfl : j = lx := by omega
          have HO1 := hid (show OwnR 9 1 W0.heap.size wr u3 (m.names.map strR) by have := HO.out; rw [List.take_of_length_le (by rw [Llx.out]; exact Nat.le_refl _), ← HX0.out] at this; unfold Md.names; rw [List.map_append]; exact this)
          have hHO := HO1.out.rows
          rw [List.length_map] at hHO
          obtain ⟨a, c, rfl, hr, _⟩ := hHO
          have HR := hid hr
          clear HO HO1 hr
          go_wp2
          go_ret
          exact ⟨a, c, rfl, HR.out, HB.out.trans (HW.out.mono HB.out.size)⟩
end Go.Proofs.YtdljneclfgneoaaGreatDoor.Mod

namespace Go.Proofs.YtdljneclfgneoaaGreatDoor.Mod
open Go.RowKit Go.Proofs.YtdljneclfgneoaaGreatDoor.Instr

/-- A name, or the data, are too long. -/
def Md.long (m : Md) : Bool := m.names.any longS || m.heavy
theorem long_yes {m : Md} {k : Nat} (hk : k < m.da.length) (h : 1048576 < sumB (m.da.take k) + m.da[k].bs.length) : m.long = true := by
  unfold Md.long Md.heavy
  have := sumB_step hk
  have h2 := sumB_take m.da (k + 1)
  simp only [Bool.or_eq_true, decide_eq_true_eq]
  omega
theorem names_few {m : Md} (h : m.few) : m.names.length ≤ 3000000 := by
  unfold Md.names
  have := h.lens
  rw [List.length_append, twoR_len, List.length_map]; omega
theorem names_size {m : Md} (h : m.fits) : ∀ s ∈ m.names, s.size ≤ 140737488351232 := by
  intro s hs
  unfold Md.names twoR at hs
  rcases List.mem_append.1 hs with hs | hs
  · obtain ⟨i, hi, hs⟩ := List.mem_flatMap.1 hs
    have := h.iS i hi
    simp only [List.mem_cons, List.not_mem_nil, or_false] at hs
    rcases hs with rfl | rfl
    · exact this.1
    · exact this.2
  · obtain ⟨e, he, rfl⟩ := List.mem_map.1 hs
    exact h.eS e he
theorem str_at {w : World} {a : Option Addr} {l : List ByteArray} {n : Nat} (h : Rows n w a 1 (l.map strR)) {k : Nat} (hk : k < l.length) : ∃ b off, a = some ⟨b, off, none⟩ ∧ b < n ∧ w.cell? ⟨b, off + k, none⟩ = some (.string l[k]) := by
  obtain ⟨b, off, ha, hb, hc⟩ := Rows.get h hk
  refine ⟨b, off, ha, hb, ?_⟩
  have := hc 0 (by omega) _ rfl
  rwa [Nat.mul_one, Nat.add_zero] at this
set_option maxHeartbeats 4000000 in
set_option maxRecDepth 100000 in
theorem refLong_any (m : Md) (w : World) (hm : ModAt w.heap.size w m) (hf : m.few) :
    Calls Tryz.prog 179 #[.agg m.v] w fun x w' => x = .returned (.bool m.long) ∧ Below w.heap.size w w' := by
  have hb0 := (Below.refl w.heap.size w).alloc (Nat.le_refl _) (.cells m.v 40)
  have HB := hid hb0
  have HM := hid (hm.on hb0)
  have HX := hid (BoxAt.made w m.v 40)
  have HF := hid hf
  have C := hid (refNames_any m _ (hm.on hb0) hf)
  have HLF := hid (names_few hf)
  have HLS := hid (names_size hf.fit)
  have HLD := hid (show ∀ d ∈ m.da, d.bs.length ≤ 140737488351232 from hf.fit.bs)
  have HL : Hid (m.long = (m.names.any longS || decide (1048576 < sumB m.da))) := rfl
  have hld : m.da.length ≤ 1000000 := hf.lens.2.2.2.2.2.2.2.2
  have X0 := (BoxAt.made w m.v 40)
  unfold Md.v at HB HX HM X0 C ⊢
  clear hm hf hb0
  have x0 := X0 0 _ rfl
  have x1 := X0 1 _ rfl
  have x2 := X0 2 _ rfl
  have x3 := X0 3 _ rfl
  have x4 := X0 4 _ rfl
  have x5 := X0 5 _ rfl
  have x6 := X0 6 _ rfl
  have x7 := X0 7 _ rfl
  have x8 := X0 8 _ rfl
  have x9 := X0 9 _ rfl
  have x10 := X0 10 _ rfl
  clear X0
  go_enter Tryz.func179, Tryz.ntmps179
  go_wp2_with fail
  refine C.out.mono ?_
  rintro e w1 ⟨a, c, rfl, hr, hb1⟩
  have HX1 := hid (HX.out.keep hb1)
  have HB1 := hid (HB.out.trans (hb1.mono HB.out.size))
  have HM1 := hid (HM.out.on hb1)
  have RN := hid hr
  clear C hr hb1 HX HB HM x0 x1 x2 x3 x4 x5 x6 x7 x8 x9 x10
  obtain ⟨ln, hln⟩ : ∃ n, m.names.length = n := ⟨_, rfl⟩
  obtain ⟨ld, hldd⟩ : ∃ n, m.da.length = n := ⟨_, rfl⟩
  have Lln := hid hln
  have Lld := hid hldd
  have bln : ln ≤ 3000000 := by have := HLF.out; omega
  rw [hldd] at hld
  have k10 : w1.cell? ⟨w.heap.size, 10, none⟩ = some (.slice m.da'.a ld m.da'.c) := by rw [← hldd]; exact HX1.out 10 _ rfl
  have RD := hid HM1.out.da
  rw [hln]
  clear HX1 HM1 HLF hln hldd HF
  go_wp2
  go_loopw [4] (fun vi wr => ∃ k : Nat, vi = .int .i64 k ∧ k ≤ ln ∧ wr = w1 ∧ Hid (∀ j (hj : j < m.names.length), j < k → longS m.names[j] = false)) (fun vi _ => ln - (intOf vi).toNat)
  case atStart => exact ⟨0, rfl, Nat.zero_le _, rfl, none_upto _ _⟩
  case round =>
    obtain ⟨k, rfl, hk, rfl, HQ⟩ := hrel
    by_cases hlt : k < ln
    · have hkl : k < m.names.length := by rw [Lln.out]; exact hlt
      obtain ⟨b, off, rfl, hb, hc⟩ := str_at RN.out hkl
      have HT := hid (fun (h : longS m.names[k] = true) => show m.long = true by rw [HL.out, any_some hkl h]; rfl)
      have HO := hid (fun (h : longS m.names[k] = false) => any_take hkl HQ.out h)
      have hsz := HLS.out m.names[k] (List.getElem_mem hkl)
      have HWT : Hid (longS m.names[k] = decide (1000 < m.names[k].size)) := rfl
      obtain ⟨s, hs⟩ : ∃ s, m.names[k] = s := ⟨_, rfl⟩
      rw [hs] at hc hsz HWT HT
      have HO1 : Hid (longS s = false → ∀ j (hj : j < m.names.length), j < k + 1 → longS m.names[j] = false) := by rw [← hs]; exact HO
      have hki : (k : Int) < (ln : Int) := by omega
      clear hs hb hkl HO HQ
      by_cases g : 1000 < s.size
      · have HE := hid (HT.out (by rw [HWT.out]; simp [g]))
        have gi : (1000 : Int) < (s.size : Int) := by omega
        clear HT HO1 HWT
        go_wp2
        go_ret
        exact ⟨ret_bool HE.out.symm, HB1.out⟩
      · have HE := hid (HO1.out (by rw [HWT.out]; simp [g]))
        have gi : ¬ (1000 : Int) < (s.size : Int) := by omega
        clear HT HO1 HWT
        go_wp2
        go_roundw
        case rel => exact ⟨k + 1, by go_num, by omega, trivial, HE⟩
        case measure => simp [intOf]; omega
    · obtain rfl : k = ln := by omega
      have HN := hid (any_none (p := longS) (l := m.names) (fun j hj => HQ.out j hj (by rw [← Lln.out]; exact hj)))
      clear HQ
      go_wp2
      go_loopw [5, 6] (fun vn vi w9 => ∃ i N : Nat, vn = .int .i64 N ∧ vi = .int .i64 i ∧ i ≤ ld ∧ N ≤ 1048576 ∧ w9 = wr ∧ Hid (N = sumB (m.da.take i))) (fun _ vi _ => ld - (intOf vi).toNat)
      case atStart => exact ⟨0, 0, rfl, rfl, Nat.zero_le _, Nat.zero_le _, rfl, rfl⟩
      case round =>
        obtain ⟨i, N, rfl, rfl, hi, hN, rfl, HQ⟩ := hrel
        by_cases hltd : i < ld
        · have hkl : i < m.da.length := by rw [Lld.out]; exact hltd
          obtain ⟨b, off, ha, hb, hc⟩ := Rows.get RD.out hkl
          rw [ha] at k10
          have HT := hid (fun h => long_yes (m := m) hkl h)
          have HS := hid (sumB_step hkl)
          have hsz := HLD.out m.da[i] (List.getElem_mem hkl)
          obtain ⟨x, hx⟩ : ∃ x, m.da[i] = x := ⟨_, rfl⟩
          rw [hx] at hc HT HS hsz
          have c1 := hc 1 (by omega) (.slice x.ba x.bs.length x.bc) rfl
          obtain ⟨q, hq⟩ : ∃ q, x.bs.length = q := ⟨_, rfl⟩
          rw [hq] at c1 HT HS hsz
          have hki : (i : Int) < (ld : Int) := by omega
          clear hc hx hq hb ha hkl hlt
          by_cases g : 1048576 < N + q
          · have HE := hid (HT.out (by rw [← HQ.out]; exact g))
            have gi : (1048576 : Int) - (N : Int) < (q : Int) := by omega
            clear HT HS HQ
            go_wp2
            go_ret
            exact ⟨ret_bool HE.out.symm, HB1.out⟩
          · have HE := hid (show N + q = sumB (m.da.take (i + 1)) by rw [HS.out, ← HQ.out])
            have gi : ¬ (1048576 : Int) - (N : Int) < (q : Int) := by omega
            clear HT HS HQ
            go_wp2
            go_roundw
            case rel => exact ⟨i + 1, N + q, by go_num, by go_num, by omega, by omega, trivial, HE⟩
            case measure => simp [intOf]; omega
        · obtain rfl : i = ld := by omega
          have HE := hid (show m.long = false by
            rw [HL.out, HN.out]
            have := HQ.out
            rw [List.take_of_length_le (by rw [Lld.out]; exact Nat.le_refl _)] at this
            have : ¬ 1048576 < sumB m.da := by omega
            simp [this])
          clear HQ
          go_wp2
          go_ret
          exact ⟨ret_bool HE.out.symm, HB1.out⟩
end Go.Proofs.YtdljneclfgneoaaGreatDoor.Mod

namespace Go.Proofs.YtdljneclfgneoaaGreatDoor.Utf
open Go.RowKit

theorem Rune_any (n : Int) (w : World) : Calls Tryz.prog 347 #[.int .i64 n] w fun e w' => e = .returned (.bool (decide (Rune n))) ∧ w' = w := by
  by_cases h : Rune n
  · have hd : decide (Rune n) = true := decide_eq_true h
    rw [hd]
    obtain ⟨h0, h1, h2⟩ := h
    by_cases h3 : n < 55296
    · go_enter Tryz.func347, Tryz.ntmps347
      go_wp2
      go_ret
      exact ⟨rfl, rfl⟩
    · have h4 : 57343 < n := by omega
      go_enter Tryz.func347, Tryz.ntmps347
      go_wp2
      go_ret
      exact ⟨rfl, rfl⟩
  · have hd : decide (Rune n) = false := decide_eq_false h
    rw [hd]
    unfold Rune at h
    by_cases h0 : n < 0
    · clear h hd
      go_enter Tryz.func347, Tryz.ntmps347
      go_wp2
      go_ret
      exact ⟨rfl, rfl⟩
    by_cases h1 : 1114111 < n
    · clear h hd
      go_enter Tryz.func347, Tryz.ntmps347
      go_wp2
      go_ret
      exact ⟨rfl, rfl⟩
    · have h2 : ¬ n < 55296 := by omega
      have h3 : ¬ 57343 < n := by omega
      clear h hd
      go_enter Tryz.func347, Tryz.ntmps347
      go_wp2
      go_ret
      exact ⟨rfl, rfl⟩

/-- A list written out, in new memory. -/
theorem own_made (w : World) (zs : List Int) (hl : zs.length ≤ 140737488355328) : Own w.heap.size (w.alloc (.cells (zs.map (Value.int .u8)).toArray 5)) (.slice (some ⟨w.heap.size, 0, none⟩) zs.length zs.length) zs := by
  refine ⟨by simp, .inr ⟨w.heap.size, zs.length, (zs.map (Value.int .u8)).toArray, rfl, Nat.le_refl _, ?_, Nat.le_refl _, by unfold maxLen; omega, by simp, ?_⟩⟩
  · simp [World.alloc, -World.alloc_eq]
  · rw [List.take_of_length_le (by simp)]
theorem gives_made (w : World) (zs : List Int) (n : Nat) (hn : zs.length = n) (hl : n ≤ 1000) (cs : Array Value) (hc : cs = (zs.map (Value.int .u8)).toArray) : Gives w zs (.returned (.slice (some ⟨w.heap.size, 0, none⟩) n n)) (w.alloc (.cells cs 5)) := by
  subst hn; subst hc
  exact ⟨_, rfl, own_made w zs (by omega), (Below.refl _ _).alloc (Nat.le_refl _) _⟩

theorem one_any (n : Int) (w : World) (h : Rune n) : Calls Tryz.prog 348 #[.int .i64 n] w (Gives w (oneL n)) := by
  obtain ⟨h0, h1, _⟩ := h
  have e1 : Int.tdiv n 64 = n / 64 := Int.tdiv_eq_ediv_of_nonneg h0
  have e2 : Int.tdiv n 4096 = n / 4096 := Int.tdiv_eq_ediv_of_nonneg h0
  have e3 : Int.tdiv n 262144 = n / 262144 := Int.tdiv_eq_ediv_of_nonneg h0
  have e4 : Int.tmod n 64 = n % 64 := Int.tmod_eq_emod_of_nonneg h0
  have e5 : Int.tmod (n / 64) 64 = n / 64 % 64 := Int.tmod_eq_emod_of_nonneg (by omega)
  have e6 : Int.tmod (n / 4096) 64 = n / 4096 % 64 := Int.tmod_eq_emod_of_nonneg (by omega)
  by_cases a : n < 128
  · have e : oneL n = [n] := by simp [oneL, a]
    rw [e]
    clear e
    go_enter Tryz.func348, Tryz.ntmps348
    go_wp2
    go_ret
    exact gives_made w [n] 1 rfl (by omega) _ rfl
  by_cases b : n < 2048
  · have e : oneL n = [192 + n / 64, 128 + n % 64] := by simp [oneL, a, b]
    rw [e]
    clear e
    go_enter Tryz.func348, Tryz.ntmps348
    go_wp2
    go_ret
    exact gives_made w [192 + n / 64, 128 + n % 64] 2 rfl (by omega) _ rfl
  by_cases d : n < 65536
  · have e : oneL n = [224 + n / 4096, 128 + n / 64 % 64, 128 + n % 64] := by simp [oneL, a, b, d]
    rw [e]
    clear e
    go_enter Tryz.func348, Tryz.ntmps348
    go_wp2
    go_ret
    exact gives_made w [224 + n / 4096, 128 + n / 64 % 64, 128 + n % 64] 3 rfl (by omega) _ rfl
  · have e : oneL n = [240 + n / 262144, 128 + n / 4096 % 64, 128 + n / 64 % 64, 128 + n % 64] := by simp [oneL, a, b, d]
    rw [e]
    clear e
    go_enter Tryz.func348, Tryz.ntmps348
    go_wp2
    go_ret
    exact gives_made w [240 + n / 262144, 128 + n / 4096 % 64, 128 + n / 64 % 64, 128 + n % 64] 4 rfl (by omega) _ rfl

/-- The part of a byte that goes on. -/
def tailR : List Int → Int × Bool
  | [] => (0, false)
  | c :: _ => if 128 ≤ c ∧ c < 192 then (c - 128, true) else (0, false)

set_option maxHeartbeats 800000 in
theorem tail_any (a : Option Addr) (len cap : Nat) (zs : List Int) (p : Int) (w : World) (hlen : zs.length = len) (hz : Bytes w a zs) (hp : 0 ≤ p) :
    Calls Tryz.prog 346 #[.slice a len cap, .int .i64 p] w fun e w' => e = .returned (.tuple #[.int .i64 (tailR (zs.drop p.toNat)).1, .bool (tailR (zs.drop p.toNat)).2]) ∧ Below w.heap.size w w' := by
  by_cases hl : (len : Int) ≤ p
  · have : zs.drop p.toNat = [] := List.drop_eq_nil_of_le (by omega)
    rw [this]
    clear hlen this hz
    go_enter Tryz.func346, Tryz.ntmps346
    go_wp2
    exact bodyPost_ret (v := .tuple #[.int .i64 0, .bool false]) (by simp [results, Tryz.results346, go_sem]) rfl ⟨rfl, Below.refl _ _⟩
  obtain ⟨i, rfl⟩ := Int.eq_ofNat_of_zero_le hp
  have hi : i < zs.length := by omega
  obtain ⟨b, off, rfl, hcell⟩ := hz.at (by omega)
  have hc := hcell i hi
  obtain ⟨c0, c1⟩ := hz.get hi
  rw [Int.toNat_natCast, drop_at hi]
  generalize zs.getD i 0 = c at *
  have hil : i < len := by omega
  clear hcell hlen hi hz hp
  by_cases h1 : 128 ≤ c
  · by_cases h2 : c < 192
    · have e : tailR (c :: zs.drop (i + 1)) = (c - 128, true) := if_pos ⟨h1, h2⟩
      rw [e]
      clear e
      go_enter Tryz.func346, Tryz.ntmps346
      go_wp2
      exact bodyPost_ret (v := .tuple #[.int .i64 (c - 128), .bool true]) (by simp [results, Tryz.results346, go_sem]) rfl ⟨rfl, Below.refl _ _⟩
    · have e : tailR (c :: zs.drop (i + 1)) = (0, false) := if_neg (by omega)
      rw [e]
      clear e
      go_enter Tryz.func346, Tryz.ntmps346
      go_wp2
      exact bodyPost_ret (v := .tuple #[.int .i64 0, .bool false]) (by simp [results, Tryz.results346, go_sem]) rfl ⟨rfl, Below.refl _ _⟩
  · have e : tailR (c :: zs.drop (i + 1)) = (0, false) := if_neg (by omega)
    rw [e]
    clear e
    go_enter Tryz.func346, Tryz.ntmps346
    go_wp2
    exact bodyPost_ret (v := .tuple #[.int .i64 0, .bool false]) (by simp [results, Tryz.results346, go_sem]) rfl ⟨rfl, Below.refl _ _⟩

/-- The part of a first byte, how many go on, and whether it is one. -/
def firstR (c : Int) : Int × Int × Bool := match firstL c with
  | some (n, k) => (n, k, true)
  | none => (0, 0, false)
theorem first_any (c : Int) (w : World) (c0 : 0 ≤ c) (c1 : c < 256) :
    Calls Tryz.prog 345 #[.int .u8 c] w fun e w' => e = .returned (.tuple #[.int .i64 (firstR c).1, .int .i64 (firstR c).2.1, .bool (firstR c).2.2]) ∧ w' = w := by
  by_cases h1 : c < 128
  · have e : firstR c = (c, 0, true) := by unfold firstR firstL; rw [if_pos h1]; rfl
    rw [e]; clear e
    go_enter Tryz.func345, Tryz.ntmps345
    go_wp2
    exact bodyPost_ret (v := .tuple #[.int .i64 (c), .int .i64 0, .bool true]) (by simp [results, Tryz.results345, go_sem]) rfl ⟨rfl, rfl⟩
  by_cases h2 : c < 192
  · have e : firstR c = (0, 0, false) := by unfold firstR firstL; rw [if_neg h1, if_neg (by omega), if_neg (by omega), if_neg (by omega)]
    rw [e]; clear e
    go_enter Tryz.func345, Tryz.ntmps345
    go_wp2
    exact bodyPost_ret (v := .tuple #[.int .i64 (0), .int .i64 0, .bool false]) (by simp [results, Tryz.results345, go_sem]) rfl ⟨rfl, rfl⟩
  by_cases h3 : c < 224
  · have e : firstR c = (c - 192, 1, true) := by unfold firstR firstL; rw [if_neg h1, if_pos (by omega)]; rfl
    rw [e]; clear e
    go_enter Tryz.func345, Tryz.ntmps345
    go_wp2
    exact bodyPost_ret (v := .tuple #[.int .i64 (c - 192), .int .i64 1, .bool true]) (by simp [results, Tryz.results345, go_sem]) rfl ⟨rfl, rfl⟩
  by_cases h4 : c < 240
  · have e : firstR c = (c - 224, 2, true) := by unfold firstR firstL; rw [if_neg h1, if_neg (by omega), if_pos (by omega)]; rfl
    rw [e]; clear e
    go_enter Tryz.func345, Tryz.ntmps345
    go_wp2
    exact bodyPost_ret (v := .tuple #[.int .i64 (c - 224), .int .i64 2, .bool true]) (by simp [results, Tryz.results345, go_sem]) rfl ⟨rfl, rfl⟩
  by_cases h5 : c < 248
  · have e : firstR c = (c - 240, 3, true) := by unfold firstR firstL; rw [if_neg h1, if_neg (by omega), if_neg (by omega), if_pos (by omega)]; rfl
    rw [e]; clear e
    go_enter Tryz.func345, Tryz.ntmps345
    go_wp2
    exact bodyPost_ret (v := .tuple #[.int .i64 (c - 240), .int .i64 3, .bool true]) (by simp [results, Tryz.results345, go_sem]) rfl ⟨rfl, rfl⟩
  · have e : firstR c = (0, 0, false) := by unfold firstR firstL; rw [if_neg h1, if_neg (by omega), if_neg (by omega), if_neg (by omega)]
    rw [e]; clear e
    go_enter Tryz.func345, Tryz.ntmps345
    go_wp2
    exact bodyPost_ret (v := .tuple #[.int .i64 (0), .int .i64 0, .bool false]) (by simp [results, Tryz.results345, go_sem]) rfl ⟨rfl, rfl⟩
end Go.Proofs.YtdljneclfgneoaaGreatDoor.Utf

namespace Go.Proofs.YtdljneclfgneoaaGreatDoor.Utf
open Go.RowKit

/-- What 'at' hands back. -/
def atR : List Int → Int × Int × Bool
  | [] => (0, 0, false)
  | c :: t => match firstL c with
    | none => (0, 0, false)
    | some (n0, more) => match tailsL more n0 t with
      | none => (0, 0, false)
      | some n => (n, (more + 1 : Nat), decide (Rune n ∧ (oneL n).length = more + 1))
theorem atR_some {l : List Int} {n : Int} {k : Nat} (h : atL l = some (n, k)) : atR l = (n, (k : Int), true) := by
  cases l with
  | nil => cases h
  | cons c t =>
    simp only [atL] at h
    simp only [atR]
    cases hf : firstL c with
    | none => rw [hf] at h; cases h
    | some q =>
      obtain ⟨n0, more⟩ := q
      rw [hf] at h
      simp only at h ⊢
      cases ht : tailsL more n0 t with
      | none => rw [ht] at h; cases h
      | some m =>
        rw [ht] at h
        simp only at h ⊢
        split at h
        · rename_i hr
          cases h
          rw [decide_eq_true hr]
        · cases h
theorem atR_none {l : List Int} (h : atL l = none) : (atR l).2.2 = false := by
  cases l with
  | nil => rfl
  | cons c t =>
    simp only [atL] at h
    simp only [atR]
    cases hf : firstL c with
    | none => rfl
    | some q =>
      obtain ⟨n0, more⟩ := q
      rw [hf] at h
      simp only at h ⊢
      cases ht : tailsL more n0 t with
      | none => rfl
      | some m =>
        rw [ht] at h
        simp only at h ⊢
        split at h
        · cases h
        · rename_i hr
          exact decide_eq_false hr
theorem firstL_some {c n : Int} {k : Nat} (h0 : 0 ≤ c) (h : firstL c = some (n, k)) : 0 ≤ n ∧ n < 128 ∧ k ≤ 3 ∧ firstR c = (n, (k : Int), true) := by
  have hr : firstR c = (n, (k : Int), true) := by unfold firstR; rw [h]
  refine ⟨?_, ?_, ?_, hr⟩
  all_goals
    unfold firstL at h
    repeat' split at h
    all_goals first | (cases h; omega) | (cases h)
theorem firstL_none {c : Int} (h : firstL c = none) : firstR c = (0, 0, false) := by unfold firstR; rw [h]
/-- One more byte that goes on. -/
theorem tailsL_step {m : Nat} {n : Int} {l : List Int} (h : (tailR l).2 = true) : tailsL (m + 1) n l = tailsL m (64 * n + (tailR l).1) (l.drop 1) ∧ 0 ≤ (tailR l).1 ∧ (tailR l).1 < 64 := by
  cases l with
  | nil => cases h
  | cons c t =>
    unfold tailR at h ⊢
    by_cases hc : 128 ≤ c ∧ c < 192
    · simp only [if_pos hc, tailsL, List.drop_one, List.tail_cons]
      exact ⟨trivial, by omega, by omega⟩
    · simp [if_neg hc] at h
theorem tailsL_stop {m : Nat} {n : Int} {l : List Int} (h : (tailR l).2 = false) : tailsL (m + 1) n l = none := by
  cases l with
  | nil => rfl
  | cons c t =>
    unfold tailR at h
    by_cases hc : 128 ≤ c ∧ c < 192
    · simp [if_pos hc] at h
    · simp only [tailsL, if_neg hc]

set_option maxHeartbeats 1600000 in
theorem at_any (a : Option Addr) (len cap : Nat) (zs : List Int) (i : Nat) (w : World) (hlen : zs.length = len) (hz : Bytes w a zs) (hi : i < len) :
    Calls Tryz.prog 327 #[.slice a len cap, .int .i64 i] w fun e w' => e = .returned (.tuple #[.int .i64 (atR (zs.drop i)).1, .int .i64 (atR (zs.drop i)).2.1, .bool (atR (zs.drop i)).2.2]) ∧ Below w.heap.size w w' := by
  have hil : i < zs.length := by omega
  have hz0 := hz
  obtain ⟨b, off, rfl, hcell⟩ := hz.at (by omega)
  have hc := hcell i hil
  obtain ⟨c0, c1⟩ := hz.get hil
  have hmax := hz.size
  rw [hlen] at hmax
  have HD := hid (drop_at hil)
  generalize zs.getD i 0 = c at *
  have HL := hid hlen
  clear hcell hlen hil hz
  cases hf : firstL c with
  | none =>
    have HR : Hid (atR (zs.drop i) = (0, 0, false)) := by
      show _ = _
      rw [HD.out]; simp only [atR, hf]
    have hfr := hid (firstL_none hf)
    clear hf
    go_enter Tryz.func327, Tryz.ntmps327
    go_wp2_with fail
    refine (first_any c _ c0 c1).mono ?_
    rw [hfr.out]
    rintro e w1 ⟨rfl, rfl⟩
    go_wp2
    exact bodyPost_ret (v := .tuple #[.int .i64 0, .int .i64 0, .bool false]) (by simp [results, Tryz.results327, go_sem]) rfl ⟨by rw [HR.out], Below.refl _ _⟩
  | some q =>
    obtain ⟨n0, more⟩ := q
    obtain ⟨hn0, hn1, hm3, hfr⟩ := firstL_some c0 hf
    have HF := hid hfr
    have HA : Hid (atR (zs.drop i) = match tailsL more n0 (zs.drop (i + 1)) with
      | none => (0, 0, false)
      | some n => (n, (more + 1 : Nat), decide (Rune n ∧ (oneL n).length = more + 1))) := by
      show _ = _
      rw [HD.out]; simp only [atR, hf]
    clear hf hfr
    go_enter Tryz.func327, Tryz.ntmps327
    go_wp2_with fail
    refine (first_any c _ c0 c1).mono ?_
    rw [HF.out]
    rintro e w1 ⟨rfl, rfl⟩
    clear HF
    go_wp2
    go_loopw [7, 10] (fun vn vi wr => ∃ (j : Nat) (acc : Int), vi = .int .i64 (j + 1 : Nat) ∧ vn = .int .i64 acc ∧ j ≤ more ∧ 0 ≤ acc ∧ acc < 128 * 64 ^ j ∧ tailsL more n0 (zs.drop (i + 1)) = tailsL (more - j) acc (zs.drop (i + 1 + j)) ∧ Below w1.heap.size w1 wr)
      (fun _ vi _ => more + 1 - (intOf vi).toNat)
    case atStart => exact ⟨0, n0, rfl, rfl, Nat.zero_le _, hn0, by simpa using hn1, rfl, Below.refl _ _⟩
    case round =>
      obtain ⟨j, acc, rfl, rfl, hj, ha0, ha1, hT, hb⟩ := hrel
      have HT := hid hT
      clear hT
      have ha2 : acc < 33554432 := by
        have h4 : j = 0 ∨ j = 1 ∨ j = 2 ∨ j = 3 := by omega
        rcases h4 with rfl | rfl | rfl | rfl <;> simp at ha1 <;> omega
      have HP := hid ha1
      clear ha1
      by_cases hjm : j < more
      · go_wp2_with fail
        refine (tail_any _ len cap zs _ _ HL.out (hz0.below hb) (by omega)).mono ?_
        have hX : ((i : Int) + ((j : Int) + 1)).toNat = i + 1 + j := by omega
        rw [hX]
        rintro e w2 ⟨rfl, hb2⟩
        have hb' := thenB hb hb2
        obtain ⟨k, hk⟩ : ∃ k, more - j = k + 1 := ⟨more - j - 1, by omega⟩
        cases ht : (tailR (zs.drop (i + 1 + j))).2 with
        | false =>
          have HN : Hid (tailsL more n0 (zs.drop (i + 1)) = none) := by
            show _ = _
            rw [HT.out, hk]; exact tailsL_stop ht
          clear HT hb2 hX hk
          generalize (tailR (zs.drop (i + 1 + j))).1 = t1 at *
          generalize (tailR (zs.drop (i + 1 + j))).2 = t2 at *
          subst ht
          go_wp2
          exact bodyPost_ret (v := .tuple #[.int .i64 0, .int .i64 0, .bool false]) (by simp [results, Tryz.results327, go_sem]) rfl ⟨by rw [HA.out, HN.out], hb'⟩
        | true =>
          obtain ⟨hs1, hs2, hs3⟩ := tailsL_step (m := k) (n := acc) ht
          have HN : Hid (tailsL more n0 (zs.drop (i + 1)) = tailsL (more - (j + 1)) (64 * acc + (tailR (zs.drop (i + 1 + j))).1) (zs.drop (i + 1 + (j + 1)))) := by
            show _ = _
            rw [HT.out, hk, hs1, List.drop_drop]
            exact congr (congr (congrArg tailsL (by omega)) rfl) rfl
          clear HT hb2 hX hk hs1
          generalize (tailR (zs.drop (i + 1 + j))).1 = t1 at *
          generalize (tailR (zs.drop (i + 1 + j))).2 = t2 at *
          subst ht
          have hpw : 64 * acc + t1 < 128 * 64 ^ (j + 1) := by
            have := HP.out
            rw [Int.pow_succ]
            omega
          have HPW := hid hpw
          clear hpw
          go_wp2
          go_roundw
          case rel => exact ⟨j + 1, 64 * acc + t1, by go_num, rfl, by omega, by omega, HPW.out, HN.out, hb'⟩
          case measure => simp [intOf]; omega
      · obtain rfl : j = more := by omega
        have HN : Hid (tailsL j n0 (zs.drop (i + 1)) = some acc) := by
          show _ = _
          rw [HT.out, Nat.sub_self]; rfl
        clear HT
        go_wp2_with fail
        refine (Rune_any acc _).mono ?_
        by_cases hr : Rune acc
        · rw [decide_eq_true hr]
          rintro e w2 ⟨rfl, rfl⟩
          have HR := hid hr
          go_wp2_with fail
          refine (one_any acc _ HR.out).mono ?_
          rintro e w3 ⟨v, rfl, ho, hb3⟩
          obtain ⟨a4, c4, rfl⟩ := ho.slice
          have hb' := thenB hb hb3
          have hol := oneL_length acc
          clear ho hb3 hr
          by_cases hm : (oneL acc).length = j + 1
          · have HO : Hid (atR (zs.drop i) = (acc, (j : Int) + 1, true)) := by
              show _ = _
              rw [HA.out, HN.out]
              simp only [Prod.mk.injEq, true_and, decide_eq_true_eq]
              exact ⟨by omega, HR.out, hm⟩
            generalize (oneL acc).length = m at *
            subst hm
            go_wp2
            exact bodyPost_ret (v := .tuple #[.int .i64 acc, .int .i64 ((j : Int) + 1), .bool true]) (by simp [results, Tryz.results327, go_sem]) rfl ⟨by rw [HO.out], hb'⟩
          · have HO : Hid (atR (zs.drop i) = (acc, (j : Int) + 1, false)) := by
              show _ = _
              rw [HA.out, HN.out]
              simp only [Prod.mk.injEq, true_and, decide_eq_false_iff_not]
              exact ⟨by omega, fun h => hm h.2⟩
            have hm' : ¬ ((oneL acc).length : Int) = (j : Int) + 1 := by omega
            generalize (oneL acc).length = m at *
            go_wp2
            exact bodyPost_ret (v := .tuple #[.int .i64 acc, .int .i64 ((j : Int) + 1), .bool false]) (by simp [results, Tryz.results327, go_sem, hm']) rfl ⟨by rw [HO.out], hb'⟩
        · rw [decide_eq_false hr]
          rintro e w2 ⟨rfl, rfl⟩
          have HO : Hid (atR (zs.drop i) = (acc, (j : Int) + 1, false)) := by
            show _ = _
            rw [HA.out, HN.out]
            simp only [Prod.mk.injEq, true_and, decide_eq_false_iff_not]
            exact ⟨by omega, fun h => hr h.1⟩
          clear hr
          go_wp2
          exact bodyPost_ret (v := .tuple #[.int .i64 acc, .int .i64 ((j : Int) + 1), .bool false]) (by simp [results, Tryz.results327, go_sem]) rfl ⟨by rw [HO.out], hb⟩
end Go.Proofs.YtdljneclfgneoaaGreatDoor.Utf

namespace Go.Proofs.YtdljneclfgneoaaGreatDoor.Utf
open Go.RowKit

set_option maxHeartbeats 3200000 in
theorem refRunes_any (a : Option Addr) (len cap : Nat) (zs : List Int) (w : World) (hlen : zs.length = len) (hz : Bytes w a zs) (hbig : zs.length ≤ 8796093022208) :
    Calls Tryz.prog 289 #[.slice a len cap] w (GotRunes w zs) := by
  have HL := hid hlen
  have hz1 := hz.alloc (.cells #[.int .i64 0, .int .i64 0] 350)
  have c0 : (w.alloc (.cells #[.int .i64 0, .int .i64 0] 350)).cell? ⟨w.heap.size, 0, none⟩ = some (.int .i64 0) := by go_simp
  have c1 : (w.alloc (.cells #[.int .i64 0, .int .i64 0] 350)).cell? ⟨w.heap.size, 1, none⟩ = some (.int .i64 0) := by go_simp
  have f0 : (w.alloc (.cells #[.int .i64 0, .int .i64 0] 350)).frozen? ⟨w.heap.size, 0, none⟩ = false := by go_simp
  have f1 : (w.alloc (.cells #[.int .i64 0, .int .i64 0] 350)).frozen? ⟨w.heap.size, 1, none⟩ = false := by go_simp
  have hA : Below w.heap.size w (w.alloc (.cells #[.int .i64 0, .int .i64 0] 350)) := (Below.refl _ _).alloc (Nat.le_refl _) _
  have hlt : w.heap.size < (w.alloc (.cells #[.int .i64 0, .int .i64 0] 350)).heap.size := by simp
  rw [hlen] at hbig
  clear hlen hz
  go_enter Tryz.func289, Tryz.ntmps289
  go_wp2
  generalize w.alloc (.cells #[.int .i64 0, .int .i64 0] 350) = wa at *
  go_loopw [4, 5] (fun v vi wr => ∃ (pos : Nat) (acc : List Int), vi = .int .i64 pos ∧ OwnK 3 .i64 wa.heap.size wr v acc ∧ Below wa.heap.size wa wr ∧ wa.heap.size ≤ wr.heap.size ∧ pos ≤ len ∧ acc.length ≤ pos ∧
      scan zs = (acc ++ (scan (zs.drop pos)).1, pos + (scan (zs.drop pos)).2)) (fun _ vi _ => len - (intOf vi).toNat)
  case atStart => exact ⟨0, [], rfl, own_nothing _ _ _ _, Below.refl _ _, Nat.le_refl _, Nat.zero_le _, by simp, by simp⟩
  case round =>
    obtain ⟨pos, acc, rfl, hown, hbw, hsw, hpos, hacc, hsc⟩ := hrel
    have HS := hid hsc
    clear hsc
    obtain ⟨av, cv, rfl⟩ := hown.sliceN rfl
    have hAw := hA.trans (hbw.mono (by omega))
    by_cases hp : pos < len
    · cases ha : atL (zs.drop pos) with
      | none =>
        have HF : Hid (faultL zs = (4, (pos : Int))) := by
          have h := congrArg Prod.snd HS.out
          rw [scan_none ha] at h
          simp only [Nat.add_zero] at h
          show _ = _
          unfold faultL
          rw [h, if_neg (by have := HL.out; omega)]
        have HR : Hid (runesL zs = []) := by
          have h := congrArg Prod.snd HS.out
          rw [scan_none ha] at h
          simp only [Nat.add_zero] at h
          show _ = _
          unfold runesL
          rw [h, if_neg (by have := HL.out; omega)]
        have hr := hid (atR_none ha)
        clear ha HS
        go_wp2_with fail
        refine (at_any a len cap zs pos _ HL.out (hz1.below hbw) hp).mono ?_
        generalize atR (zs.drop pos) = r at *
        obtain ⟨r1, r2, r3⟩ := r
        obtain rfl : r3 = false := hr.out
        rintro e w2 ⟨rfl, hb2⟩
        have c0 := keep hb2 ((hbw.cell (p := ⟨w.heap.size, 0, none⟩) hlt).trans c0)
        have c1 := keep hb2 ((hbw.cell (p := ⟨w.heap.size, 1, none⟩) hlt).trans c1)
        have f0 := (hb2.frozen (p := ⟨w.heap.size, 0, none⟩) (by show w.heap.size < _; omega)).trans ((hbw.frozen (p := ⟨w.heap.size, 0, none⟩) hlt).trans f0)
        have f1 := (hb2.frozen (p := ⟨w.heap.size, 1, none⟩) (by show w.heap.size < _; omega)).trans ((hbw.frozen (p := ⟨w.heap.size, 1, none⟩) hlt).trans f1)
        have hA2 := thenB hAw hb2
        clear hA hAw hbw hb2 hown hz1
        go_wp2
        refine bodyPost_ret (v := .tuple #[.slice none 0 0, .agg #[.int .i64 4, .int .i64 pos]]) (by simp [results, Tryz.results289, go_sem, c0, c1]) rfl ⟨_, by rw [HF.out], ?_, ?_⟩
        · rw [HR.out]; exact own_nothing _ _ _ _
        · exact (hA2.setCell (Nat.le_refl _) _).setCell (Nat.le_refl _) _
      | some q =>
        obtain ⟨n, k⟩ := q
        obtain ⟨hn, _, _, hk1, hk4, hkl⟩ := atL_some ha
        have HF : Hid (scan zs = ((acc ++ [n]) ++ (scan (zs.drop (pos + k))).1, (pos + k) + (scan (zs.drop (pos + k))).2)) := by
          have h := HS.out
          rw [scan_some ha, List.drop_drop] at h
          show _ = _
          rw [h]
          simp [Nat.add_assoc]
        have hlk : pos + k ≤ len := by simp at hkl; have := HL.out; omega
        have HLL : Hid ((acc ++ [n]).length ≤ pos + k) := by show _ ≤ _; simp; omega
        have hr := hid (atR_some ha)
        obtain ⟨h0, h1, _⟩ := hn
        clear ha HS hkl
        go_wp2_with fail
        refine (at_any a len cap zs pos _ HL.out (hz1.below hbw) hp).mono ?_
        rw [hr.out]
        rintro e w2 ⟨rfl, hb2⟩
        have hown2 := hown.below hb2
        have hbw2 := hbw.trans (hb2.mono hsw)
        have hsw2 : wa.heap.size ≤ w2.heap.size := by have := hb2.size; omega
        clear hr hAw hbw hb2 hown
        go_wp2_with (first | (at_builtin; refine append_num infoInt Tryz.underlying79 rfl (.tmp 24) (.tmp 26) rfl n rfl hown2 hbw2 hsw2 rfl (by omega) (by omega) ?_; intro v' w5 hown5 hb5 hs5 _))
        go_roundw
        case rel => exact ⟨pos + k, acc ++ [n], by go_num, hown5, hb5, hs5, hlk, HLL.out, HF.out⟩
        case measure => simp [intOf]; omega
    · have HF : Hid (faultL zs = (0, 0)) := by
        have h := congrArg Prod.snd HS.out
        rw [List.drop_eq_nil_of_le (by have := HL.out; omega), scan_nil] at h
        simp only [Nat.add_zero] at h
        show _ = _
        unfold faultL
        rw [h, if_pos (by have := HL.out; omega)]
      have HR : Hid (runesL zs = acc) := by
        have h := HS.out
        rw [List.drop_eq_nil_of_le (by have := HL.out; omega), scan_nil] at h
        simp only [Nat.add_zero, List.append_nil] at h
        show _ = _
        unfold runesL
        rw [h, if_pos (by have := HL.out; omega)]
      have c0 := (hbw.cell (p := ⟨w.heap.size, 0, none⟩) hlt).trans c0
      have c1 := (hbw.cell (p := ⟨w.heap.size, 1, none⟩) hlt).trans c1
      have f0 := (hbw.frozen (p := ⟨w.heap.size, 0, none⟩) hlt).trans f0
      have f1 := (hbw.frozen (p := ⟨w.heap.size, 1, none⟩) hlt).trans f1
      clear hA hbw hz1 HS
      go_wp2
      refine bodyPost_ret (v := .tuple #[.slice av acc.length cv, .agg #[.int .i64 0, .int .i64 0]]) (by simp [results, Tryz.results289, go_sem, c0, c1]) rfl ⟨_, by rw [HF.out], ?_, ?_⟩
      · rw [HR.out]
        exact ((hown.setCell (p := ⟨w.heap.size, 0, none⟩) hlt _).setCell (p := ⟨w.heap.size, 1, none⟩) hlt _).mono (by omega)
      · exact (hAw.setCell (Nat.le_refl _) _).setCell (Nat.le_refl _) _
end Go.Proofs.YtdljneclfgneoaaGreatDoor.Utf

namespace Go.Proofs.YtdljneclfgneoaaGreatDoor.Utf
open Go.RowKit

theorem badL_fault (zs : List Int) : badL zs = if (faultL zs).1 ≠ 0 then (faultL zs).2 else -1 := by
  unfold badL faultL
  by_cases h : (scan zs).2 = zs.length
  · simp [h]
  · simp [h]

set_option maxHeartbeats 800000 in
theorem refBad_any (a : Option Addr) (len cap : Nat) (zs : List Int) (w : World) (hlen : zs.length = len) (hz : Bytes w a zs) (hbig : zs.length ≤ 8796093022208) :
    Calls Tryz.prog 247 #[.slice a len cap] w fun e w' => e = .returned (.int .i64 (badL zs)) ∧ Below w.heap.size w w' := by
  have HB := hid (badL_fault zs)
  have HL := hid hlen
  clear hlen
  go_enter Tryz.func247, Tryz.ntmps247
  go_wp2_with fail
  refine (refRunes_any a len cap zs _ HL.out hz hbig).mono ?_
  rintro e w1 ⟨v, rfl, _, hb⟩
  generalize faultL zs = r at *
  obtain ⟨r1, r2⟩ := r
  clear hz hbig
  by_cases h : r1 = 0
  · subst h
    go_wp2
    go_ret
    exact ⟨ret_int (by rw [HB.out]; simp), thenA hb _⟩
  · go_wp2
    go_ret
    exact ⟨ret_int (by rw [HB.out]; simp [h]), thenA hb _⟩

end Go.Proofs.YtdljneclfgneoaaGreatDoor.Utf

namespace Go.Proofs.YtdljneclfgneoaaGreatDoor.Mod
open Go.RowKit Go.Proofs.YtdljneclfgneoaaGreatDoor.Instr

/-- All else is as it may be. -/
def Md.rest (m : Md) : Bool := !(m.names.any noText) && (!(m.tb.any (beyond 1048576)) && (!(m.me.any (beyond 65536)) && (!(m.ex.any wrongE) && ((m.st || decide (m.sn = 0)) && !m.has 2))))
theorem rest_na {m : Md} {k : Nat} (hk : k < m.names.length) (h : noText m.names[k] = true) : m.rest = false := by unfold Md.rest; rw [any_some hk h]; rfl
theorem rest_tb {m : Md} {k : Nat} (hk : k < m.tb.length) (h : beyond 1048576 m.tb[k] = true) : m.rest = false := by unfold Md.rest; rw [any_some hk h]; simp
theorem rest_me {m : Md} {k : Nat} (hk : k < m.me.length) (h : beyond 65536 m.me[k] = true) : m.rest = false := by unfold Md.rest; rw [any_some hk h]; simp
theorem rest_ex {m : Md} {k : Nat} (hk : k < m.ex.length) (h : wrongE m.ex[k] = true) : m.rest = false := by unfold Md.rest; rw [any_some hk h]; simp
theorem rest_end {m : Md} (h1 : m.names.any noText = false) (h2 : m.tb.any (beyond 1048576) = false) (h3 : m.me.any (beyond 65536) = false) (h4 : m.ex.any wrongE = false) : m.rest = ((m.st || decide (m.sn = 0)) && !m.has 2) := by unfold Md.rest; rw [h1, h2, h3, h4]; rfl
set_option maxHeartbeats 4000000 in
set_option maxRecDepth 100000 in
theorem refRest_any (m : Md) (w : World) (hm : ModAt w.heap.size w m) (hf : m.few) (hna : ∀ s ∈ m.names, s.size ≤ 1000000) :
    Calls Tryz.prog 181 #[.agg m.v] w fun x w' => x = .returned (.bool m.rest) ∧ Below w.heap.size w w' := by
  have hb0 := (Below.refl w.heap.size w).alloc (Nat.le_refl _) (.cells m.v 40)
  have HB := hid hb0
  have HM := hid (hm.on hb0)
  have HX := hid (BoxAt.made w m.v 40)
  have C := hid (refNames_any m _ (hm.on hb0) hf)
  have D := hid (fun (W : World) (h : ModAt W.heap.size W m) => refInstrs_any m 2 W h hf)
  have HLF := hid (names_few hf)
  have HLS := hid hna
  have HEND := hid (fun h1 h2 h3 h4 => rest_end (m := m) h1 h2 h3 h4)
  have TNA := hid (fun k hk h => rest_na (m := m) (k := k) hk h)
  have TTB := hid (fun k hk h => rest_tb (m := m) (k := k) hk h)
  have TME := hid (fun k hk h => rest_me (m := m) (k := k) hk h)
  have TEX := hid (fun k hk h => rest_ex (m := m) (k := k) hk h)
  have btb := hf.fit.tb
  have bme := hf.fit.me
  have bex := hf.fit.ex
  have X0 := (BoxAt.made w m.v 40)
  unfold Md.v at HB HX HM X0 C D ⊢
  clear hm hf hb0 hna
  have x0 := X0 0 _ rfl
  have x1 := X0 1 _ rfl
  have x2 := X0 2 _ rfl
  have x3 := X0 3 _ rfl
  have x4 := X0 4 _ rfl
  have x5 := X0 5 _ rfl
  have x6 := X0 6 _ rfl
  have x7 := X0 7 _ rfl
  have x8 := X0 8 _ rfl
  have x9 := X0 9 _ rfl
  have x10 := X0 10 _ rfl
  clear X0
  go_enter Tryz.func181, Tryz.ntmps181
  go_wp2_with fail
  refine C.out.mono ?_
  rintro e w1 ⟨a, c, rfl, hr, hb1⟩
  have HX1 := hid (HX.out.keep hb1)
  have HB1 := hid (HB.out.trans (hb1.mono HB.out.size))
  have HM1 := hid (HM.out.on hb1)
  have RN := hid hr
  clear C hr hb1 HX HB HM x0 x1 x2 x3 x4 x5 x6 x7 x8 x9 x10
  obtain ⟨ln, hln⟩ : ∃ n, m.names.length = n := ⟨_, rfl⟩
  have Lln := hid hln
  have bln : ln ≤ 3000000 := by have := HLF.out; omega
  rw [hln]
  clear HLF hln
  obtain ⟨lb, hlb⟩ : ∃ n, m.tb.length = n := ⟨_, rfl⟩
  have Llb := hid hlb
  rw [hlb] at btb D HX1
  have Rtb := hid HM1.out.tb
  have Xtb := hid (HX1.out 3 _ rfl)
  clear hlb
  obtain ⟨lm, hlm⟩ : ∃ n, m.me.length = n := ⟨_, rfl⟩
  have Llm := hid hlm
  rw [hlm] at bme D HX1
  have Rme := hid HM1.out.me
  have Xme := hid (HX1.out 4 _ rfl)
  clear hlm
  obtain ⟨lx, hlx⟩ : ∃ n, m.ex.length = n := ⟨_, rfl⟩
  have Llx := hid hlx
  rw [hlx] at bex D HX1
  have Rex := hid HM1.out.ex
  have Xex := hid (HX1.out 6 _ rfl)
  clear hlx
  go_wp2
  go_loopw [4] (fun vi wr => ∃ k : Nat, vi = .int .i64 k ∧ k ≤ ln ∧ Hid (∀ j (hj : j < m.names.length), j < k → noText m.names[j] = false) ∧ Hid (Below w1.heap.size w1 wr)) (fun vi _ => ln - (intOf vi).toNat)
  case atStart => exact ⟨0, rfl, Nat.zero_le _, none_upto _ _, Below.refl _ _⟩
  case round =>
    obtain ⟨k, rfl, hk, HQ, HW⟩ := hrel
    by_cases hlt : k < ln
    · have hkl : k < m.names.length := by rw [Lln.out]; exact hlt
      obtain ⟨b, off, rfl, hb, hc⟩ := str_at RN.out hkl
      have hsz := HLS.out m.names[k] (List.getElem_mem hkl)
      obtain ⟨x, hxe⟩ : ∃ x, m.names[k] = x := ⟨_, rfl⟩
      have HXE := hid hxe
      rw [hxe] at hc hsz
      have hki : (k : Int) < (ln : Int) := by omega
      have HT := hid (fun (h : noText x = true) => TNA.out k hkl (show noText m.names[k] = true by rw [HXE.out]; exact h))
      have HO := hid (fun (h : noText x = false) => any_take (p := noText) hkl HQ.out (show noText m.names[k] = false by rw [HXE.out]; exact h))
      have c0 := Go.Proofs.YtdljneclfgneoaaGreatDoor.keep HW.out hc
      obtain ⟨b2, c2, w2, e2, hz, hb2⟩ := bytes_of (numsOf x) (numsOf_bytes x) (by rw [numsOf_length]; omega) wr
      rw [str_numsOf] at e2
      have C := hid (Utf.refBad_any _ _ c2 (numsOf x) w2 rfl hz (by rw [numsOf_length]; omega))
      have HWT : Hid (noText x = decide (0 ≤ Utf.badL (numsOf x))) := rfl
      obtain ⟨q, hq⟩ : ∃ q, Utf.badL (numsOf x) = q := ⟨_, rfl⟩
      rw [hq] at C HWT
      obtain ⟨l2, hl2⟩ : ∃ n, (numsOf x).length = n := ⟨_, rfl⟩
      rw [hl2] at C e2
      have HW2 := hid (HW.out.trans (hb2.mono HW.out.size))
      clear hc hq hl2 hkl hxe HXE hz hb2 hb hsz HQ
      by_cases g : 0 ≤ q
      · have HE := hid (HT.out (by rw [HWT.out]; simp [g]))
        clear HT HO HWT
        go_wp2_with fail
        refine C.out.mono ?_
        rintro e1 w3 ⟨rfl, hb3⟩
        have HW1 := hid (HW2.out.trans (hb3.mono HW2.out.size))
        clear C e2 hb3
        go_wp2
        go_ret
        exact ⟨ret_bool HE.out.symm, HB1.out.trans (HW1.out.mono HB1.out.size)⟩
      · have HE := hid (HO.out (by rw [HWT.out]; simp [g]))
        clear HT HO HWT
        go_wp2_with fail
        refine C.out.mono ?_
        rintro e1 w3 ⟨rfl, hb3⟩
        have HW1 := hid (HW2.out.trans (hb3.mono HW2.out.size))
        clear C e2 hb3
        go_wp2
        go_roundw
        case rel => exact ⟨k + 1, by go_num, by omega, HE, HW1⟩
        case measure => simp [intOf]; omega
    · obtain rfl : k = ln := by omega
      have HBL := HW
      have HAna := hid (any_none (p := noText) (l := m.names) (fun j hj => HQ.out j hj (by rw [← Lln.out]; exact hj)))
      clear HQ HW hlt hk
      go_wp2
      go_loopw [5] (fun vi wr => ∃ k : Nat, vi = .int .i64 k ∧ k ≤ lb ∧ Hid (∀ j (hj : j < m.tb.length), j < k → beyond 1048576 m.tb[j] = false) ∧ Hid (Below w1.heap.size w1 wr)) (fun vi _ => lb - (intOf vi).toNat)
      case atStart => exact ⟨0, rfl, Nat.zero_le _, none_upto _ _, HBL⟩
      case round =>
        clear HBL
        obtain ⟨k, rfl, hk, HQ, HW⟩ := hrel
        have hbx := Go.Proofs.YtdljneclfgneoaaGreatDoor.keep HW.out Xtb.out
        by_cases hlt : k < lb
        · have hkl : k < m.tb.length := by rw [Llb.out]; exact hlt
          obtain ⟨b, off, ha, hb, hc⟩ := Rows.get Rtb.out hkl
          rw [ha] at hbx
          obtain ⟨x, hxe⟩ : ∃ x, m.tb[k] = x := ⟨_, rfl⟩
          have HXE := hid hxe
          rw [hxe] at hc
          have hki : (k : Int) < (lb : Int) := by omega
          have HT := hid (fun (h : beyond 1048576 x = true) => TTB.out k hkl (show beyond 1048576 m.tb[k] = true by rw [HXE.out]; exact h))
          have HO := hid (fun (h : beyond 1048576 x = false) => any_take (p := beyond 1048576) hkl HQ.out (show beyond 1048576 m.tb[k] = false by rw [HXE.out]; exact h))
          have cc : ∀ j, j < 3 → ∀ v, (x.v)[j]? = some v → wr.cell? ⟨b, off + k * 3 + j, none⟩ = some v := fun j hj v hv => (HW.out.cell (p := ⟨b, off + k * 3 + j, none⟩) hb).trans (hc j hj v hv)
          have c0 : wr.cell? ⟨b, off + k * 3, none⟩ = some (.int .u32 x.n) := cc 0 (by omega) _ rfl
          have c1 : wr.cell? ⟨b, off + k * 3 + 1, none⟩ = some (.int .u32 x.x) := cc 1 (by omega) _ rfl
          have c2 : wr.cell? ⟨b, off + k * 3 + 2, none⟩ = some (.bool x.c) := cc 2 (by omega) _ rfl
          have C := hid (Kind.refCheckLimits_any x.n x.x x.c 1048576 wr)
          have HWT : Hid (beyond 1048576 x = !Kind.okLim x.n x.x x.c 1048576) := rfl
          have HCT : Hid (Kind.codeLim x.n x.x x.c 1048576 = if Kind.okLim x.n x.x x.c 1048576 = true then 0 else 2) := rfl
          obtain ⟨q, hq⟩ : ∃ q, Kind.okLim x.n x.x x.c 1048576 = q := ⟨_, rfl⟩
          rw [hq] at HWT HCT
          clear hc cc hb ha hq hkl hxe HXE
          cases q with
          | true =>
            have HE := hid (HO.out (by rw [HWT.out]; rfl))
            have hct : Kind.codeLim x.n x.x x.c 1048576 = 0 := by rw [HCT.out]; rfl
            rw [hct] at C
            clear HT HO HWT HCT hct HQ
            go_wp2_with fail
            refine C.out.mono ?_
            rintro e1 w3 ⟨rfl, hb1⟩
            have HW1 := hid (HW.out.trans (hb1.mono HW.out.size))
            clear C hb1
            go_wp2
            go_roundw
            case rel => exact ⟨k + 1, by go_num, by omega, HE, HW1⟩
            case measure => simp [intOf]; omega
          | false =>
            have HE := hid (HT.out (by rw [HWT.out]; rfl))
            have hct : Kind.codeLim x.n x.x x.c 1048576 = 2 := by rw [HCT.out]; rfl
            rw [hct] at C
            clear HT HO HWT HCT hct HQ
            go_wp2_with fail
            refine C.out.mono ?_
            rintro e1 w3 ⟨rfl, hb1⟩
            have HW1 := hid (HW.out.trans (hb1.mono HW.out.size))
            clear C hb1
            go_wp2
            go_ret
            exact ⟨ret_bool HE.out.symm, HB1.out.trans (HW1.out.mono HB1.out.size)⟩
        · obtain rfl : k = lb := by omega
          have HBL := HW
          have HAtb := hid (any_none (p := beyond 1048576) (l := m.tb) (fun j hj => HQ.out j hj (by rw [← Llb.out]; exact hj)))
          clear HQ HW hlt hk
          go_wp2
          clear hbx
          go_loopw [6] (fun vi wr => ∃ k : Nat, vi = .int .i64 k ∧ k ≤ lm ∧ Hid (∀ j (hj : j < m.me.length), j < k → beyond 65536 m.me[j] = false) ∧ Hid (Below w1.heap.size w1 wr)) (fun vi _ => lm - (intOf vi).toNat)
          case atStart => exact ⟨0, rfl, Nat.zero_le _, none_upto _ _, HBL⟩
          case round =>
            clear HBL
            obtain ⟨k, rfl, hk, HQ, HW⟩ := hrel
            have hbx := Go.Proofs.YtdljneclfgneoaaGreatDoor.keep HW.out Xme.out
            by_cases hlt : k < lm
            · have hkl : k < m.me.length := by rw [Llm.out]; exact hlt
              obtain ⟨b, off, ha, hb, hc⟩ := Rows.get Rme.out hkl
              rw [ha] at hbx
              obtain ⟨x, hxe⟩ : ∃ x, m.me[k] = x := ⟨_, rfl⟩
              have HXE := hid hxe
              rw [hxe] at hc
              have hki : (k : Int) < (lm : Int) := by omega
              have HT := hid (fun (h : beyond 65536 x = true) => TME.out k hkl (show beyond 65536 m.me[k] = true by rw [HXE.out]; exact h))
              have HO := hid (fun (h : beyond 65536 x = false) => any_take (p := beyond 65536) hkl HQ.out (show beyond 65536 m.me[k] = false by rw [HXE.out]; exact h))
              have cc : ∀ j, j < 3 → ∀ v, (x.v)[j]? = some v → wr.cell? ⟨b, off + k * 3 + j, none⟩ = some v := fun j hj v hv => (HW.out.cell (p := ⟨b, off + k * 3 + j, none⟩) hb).trans (hc j hj v hv)
              have c0 : wr.cell? ⟨b, off + k * 3, none⟩ = some (.int .u32 x.n) := cc 0 (by omega) _ rfl
              have c1 : wr.cell? ⟨b, off + k * 3 + 1, none⟩ = some (.int .u32 x.x) := cc 1 (by omega) _ rfl
              have c2 : wr.cell? ⟨b, off + k * 3 + 2, none⟩ = some (.bool x.c) := cc 2 (by omega) _ rfl
              have C := hid (Kind.refCheckLimits_any x.n x.x x.c 65536 wr)
              have HWT : Hid (beyond 65536 x = !Kind.okLim x.n x.x x.c 65536) := rfl
              have HCT : Hid (Kind.codeLim x.n x.x x.c 65536 = if Kind.okLim x.n x.x x.c 65536 = true then 0 else 2) := rfl
              obtain ⟨q, hq⟩ : ∃ q, Kind.okLim x.n x.x x.c 65536 = q := ⟨_, rfl⟩
              rw [hq] at HWT HCT
              clear hc cc hb ha hq hkl hxe HXE
              cases q with
              | true =>
                have HE := hid (HO.out (by rw [HWT.out]; rfl))
                have hct : Kind.codeLim x.n x.x x.c 65536 = 0 := by rw [HCT.out]; rfl
                rw [hct] at C
                clear HT HO HWT HCT hct HQ
                go_wp2_with fail
                refine C.out.mono ?_
                rintro e1 w3 ⟨rfl, hb1⟩
                have HW1 := hid (HW.out.trans (hb1.mono HW.out.size))
                clear C hb1
                go_wp2
                go_roundw
                case rel => exact ⟨k + 1, by go_num, by omega, HE, HW1⟩
                case measure => simp [intOf]; omega
              | false =>
                have HE := hid (HT.out (by rw [HWT.out]; rfl))
                have hct : Kind.codeLim x.n x.x x.c 65536 = 2 := by rw [HCT.out]; rfl
                rw [hct] at C
                clear HT HO HWT HCT hct HQ
                go_wp2_with fail
                refine C.out.mono ?_
                rintro e1 w3 ⟨rfl, hb1⟩
                have HW1 := hid (HW.out.trans (hb1.mono HW.out.size))
                clear C hb1
                go_wp2
                go_ret
                exact ⟨ret_bool HE.out.symm, HB1.out.trans (HW1.out.mono HB1.out.size)⟩
            · obtain rfl : k = lm := by omega
              have HBL := HW
              have HAme := hid (any_none (p := beyond 65536) (l := m.me) (fun j hj => HQ.out j hj (by rw [← Llm.out]; exact hj)))
              clear HQ HW hlt hk
              go_wp2
              clear hbx
              go_loopw [7] (fun vi wr => ∃ k : Nat, vi = .int .i64 k ∧ k ≤ lx ∧ Hid (∀ j (hj : j < m.ex.length), j < k → wrongE m.ex[j] = false) ∧ Hid (Below w1.heap.size w1 wr)) (fun vi _ => lx - (intOf vi).toNat)
              case atStart => exact ⟨0, rfl, Nat.zero_le _, none_upto _ _, HBL⟩
              case round =>
                clear HBL
                obtain ⟨k, rfl, hk, HQ, HW⟩ := hrel
                have hbx := Go.Proofs.YtdljneclfgneoaaGreatDoor.keep HW.out Xex.out
                by_cases hlt : k < lx
                · have hkl : k < m.ex.length := by rw [Llx.out]; exact hlt
                  obtain ⟨b, off, ha, hb, hc⟩ := Rows.get Rex.out hkl
                  rw [ha] at hbx
                  obtain ⟨x, hxe⟩ : ∃ x, m.ex[k] = x := ⟨_, rfl⟩
                  have HXE := hid hxe
                  rw [hxe] at hc
                  have hki : (k : Int) < (lx : Int) := by omega
                  have HT := hid (fun (h : wrongE x = true) => TEX.out k hkl (show wrongE m.ex[k] = true by rw [HXE.out]; exact h))
                  have HO := hid (fun (h : wrongE x = false) => any_take (p := wrongE) hkl HQ.out (show wrongE m.ex[k] = false by rw [HXE.out]; exact h))
                  have cc : ∀ j, j < 3 → ∀ v, (x.v)[j]? = some v → wr.cell? ⟨b, off + k * 3 + j, none⟩ = some v := fun j hj v hv => (HW.out.cell (p := ⟨b, off + k * 3 + j, none⟩) hb).trans (hc j hj v hv)
                  have c1 : wr.cell? ⟨b, off + k * 3 + 1, none⟩ = some (.int .i64 x.k) := cc 1 (by omega) _ rfl
                  have HWT : Hid (wrongE x = (decide (x.k < 0) || decide (3 < x.k))) := rfl
                  obtain ⟨t, ht⟩ : ∃ t, x.k = t := ⟨_, rfl⟩
                  rw [ht] at HWT c1
                  clear hc cc hb ha ht hkl hxe HXE
                  by_cases g1 : t < 0
                  · have HE := hid (HT.out (by rw [HWT.out]; simp [g1]))
                    clear HT HO HWT HQ
                    go_wp2
                    go_ret
                    exact ⟨ret_bool HE.out.symm, HB1.out.trans (HW.out.mono HB1.out.size)⟩
                  · by_cases g2 : 3 < t
                    · have HE := hid (HT.out (by rw [HWT.out]; simp [g2]))
                      clear HT HO HWT HQ
                      go_wp2
                      go_ret
                      exact ⟨ret_bool HE.out.symm, HB1.out.trans (HW.out.mono HB1.out.size)⟩
                    · have HE := hid (HO.out (by rw [HWT.out]; simp [g1, g2]))
                      clear HT HO HWT HQ
                      go_wp2
                      go_roundw
                      case rel => exact ⟨k + 1, by go_num, by omega, HE, HW⟩
                      case measure => simp [intOf]; omega
                · obtain rfl : k = lx := by omega
                  have HBL := HW
                  have HAex := hid (any_none (p := wrongE) (l := m.ex) (fun j hj => HQ.out j hj (by rw [← Llx.out]; exact hj)))
                  clear HQ HW hlt hk
                  have HE := hid (HEND.out HAna.out HAtb.out HAme.out HAex.out)
                  have HX2 := hid (fun j v h => Go.Proofs.YtdljneclfgneoaaGreatDoor.keep HBL.out (HX1.out j v h))
                  have y0 := HX2.out 0 _ rfl
                  have y1 := HX2.out 1 _ rfl
                  have y2 := HX2.out 2 _ rfl
                  have y3 := HX2.out 3 _ rfl
                  have y4 := HX2.out 4 _ rfl
                  have y5 := HX2.out 5 _ rfl
                  have y6 := HX2.out 6 _ rfl
                  have y7 := HX2.out 7 _ rfl
                  have y8 := HX2.out 8 _ rfl
                  have y9 := HX2.out 9 _ rfl
                  have y10 := HX2.out 10 _ rfl
                  have C := hid (D.out wr (HM1.out.on HBL.out))
                  clear HX2 HX1 HM1 D TNA TTB TME TEX HEND hbx
                  obtain ⟨st, hst⟩ : ∃ b, m.st = b := ⟨_, rfl⟩
                  obtain ⟨sn, hsn⟩ : ∃ b, m.sn = b := ⟨_, rfl⟩
                  rw [hst, hsn] at HE C
                  rw [hst] at y7
                  rw [hsn] at y8
                  clear hst hsn
                  cases st with
                  | true =>
                    go_wp2_with fail
                    refine C.out.mono ?_
                    rintro e1 w3 ⟨rfl, hb3⟩
                    have HW1 := hid (HBL.out.trans (hb3.mono HBL.out.size))
                    clear C hb3
                    go_wp2
                    go_ret
                    exact ⟨ret_bool (by rw [HE.out]; simp), HB1.out.trans (HW1.out.mono HB1.out.size)⟩
                  | false =>
                    by_cases g : sn = 0
                    · subst g
                      go_wp2_with fail
                      refine C.out.mono ?_
                      rintro e1 w3 ⟨rfl, hb3⟩
                      have HW1 := hid (HBL.out.trans (hb3.mono HBL.out.size))
                      clear C hb3
                      go_wp2
                      go_ret
                      exact ⟨ret_bool (by rw [HE.out]; simp), HB1.out.trans (HW1.out.mono HB1.out.size)⟩
                    · have HE2 := hid (show m.rest = false by rw [HE.out]; simp [g])
                      clear C HE
                      go_wp2
                      go_ret
                      exact ⟨ret_bool HE2.out.symm, HB1.out.trans (HBL.out.mono HB1.out.size)⟩
end Go.Proofs.YtdljneclfgneoaaGreatDoor.Mod

namespace Go.Proofs.YtdljneclfgneoaaGreatDoor.Mod
open Go.RowKit Go.Proofs.YtdljneclfgneoaaGreatDoor.Instr

theorem belowF {w w' : World} (h : Below w.heap.size w w') (v : Array Value) (t : TypeId) : Below w.heap.size w (w'.alloc (.cells v t)) := thenA h _
set_option maxHeartbeats 4000000 in
set_option maxRecDepth 100000 in
theorem refNumbers_any (m : Md) (w : World) (hm : ModAt w.heap.size w m) (hf : m.fits) :
    Calls Tryz.prog 180 #[.agg m.v] w fun x w' => x = .returned (.bool m.numbers) ∧ Below w.heap.size w w' := by
  have hb0 := (Below.refl w.heap.size w).alloc (Nat.le_refl _) (.cells m.v 40)
  have HB := hid hb0
  have HM := hid (hm.on hb0)
  have HX := hid (BoxAt.made w m.v 40)
  have HF := hid hf
  unfold Md.v at HB HX HM ⊢
  clear hm hf hb0
  go_enter Tryz.func180, Tryz.ntmps180
  go_wp2
  generalize w.alloc (.cells #[.slice m.ty'.a m.ty.length m.ty'.c, .slice m.im'.a m.im.length m.im'.c, .slice m.fu'.a m.fu.length m.fu'.c, .slice m.tb'.a m.tb.length m.tb'.c, .slice m.me'.a m.me.length m.me'.c, .slice m.gl'.a m.gl.length m.gl'.c, .slice m.ex'.a m.ex.length m.ex'.c, .bool m.st, .int .u32 m.sn, .slice m.el'.a m.el.length m.el'.c, .slice m.da'.a m.da.length m.da'.c] 40) = W0 at HB HM HX ⊢
  obtain ⟨lt, hlt⟩ : ∃ n, m.ty.length = n := ⟨_, rfl⟩
  have Llt := hid hlt
  have blt : lt ≤ 140737488351232 := by have := HF.out.ty; omega
  have Xty := hid (show W0.cell? ⟨w.heap.size, 0, none⟩ = some (.slice m.ty'.a lt m.ty'.c) by rw [← hlt]; exact HX.out 0 _ rfl)
  have Rty := hid HM.out.ty
  clear hlt
  obtain ⟨li, hli⟩ : ∃ n, m.im.length = n := ⟨_, rfl⟩
  have Lli := hid hli
  have bli : li ≤ 140737488351232 := by have := HF.out.im; omega
  have Xim := hid (show W0.cell? ⟨w.heap.size, 1, none⟩ = some (.slice m.im'.a li m.im'.c) by rw [← hli]; exact HX.out 1 _ rfl)
  have Rim := hid HM.out.im
  clear hli
  obtain ⟨lf, hlf⟩ : ∃ n, m.fu.length = n := ⟨_, rfl⟩
  have Llf := hid hlf
  have blf : lf ≤ 140737488351232 := by have := HF.out.fu; omega
  have Xfu := hid (show W0.cell? ⟨w.heap.size, 2, none⟩ = some (.slice m.fu'.a lf m.fu'.c) by rw [← hlf]; exact HX.out 2 _ rfl)
  have Rfu := hid HM.out.fu
  clear hlf
  clear HX
  go_loopw [3] (fun vi wr => ∃ k : Nat, vi = .int .i64 k ∧ k ≤ lt ∧ Hid (∀ j (hj : j < m.ty.length), j < k → wrongT m.ty[j] = false) ∧ Hid (Below W0.heap.size W0 wr)) (fun vi _ => lt - (intOf vi).toNat)
  case atStart => exact ⟨0, rfl, Nat.zero_le _, none_upto _ _, Below.refl _ _⟩
  case round =>
    obtain ⟨k, rfl, hk, HQ, HW⟩ := hrel
    have hbx := Go.Proofs.YtdljneclfgneoaaGreatDoor.keep HW.out Xty.out
    by_cases hlt : k < lt
    · have hkl : k < m.ty.length := by rw [Llt.out]; exact hlt
      obtain ⟨b, off, ha, hb, hc⟩ := Rows.get Rty.out hkl
      rw [ha] at hbx
      obtain ⟨x, hxe⟩ : ∃ x, m.ty[k] = x := ⟨_, rfl⟩
      have HXE := hid hxe
      rw [hxe] at hc
      have cc : ∀ j, j < 2 → ∀ v, (tyV x)[j]? = some v → wr.cell? ⟨b, off + k * 2 + j, none⟩ = some v := fun j hj v hv => (HW.out.cell (p := ⟨b, off + k * 2 + j, none⟩) hb).trans (hc j hj v hv)
      have hki : (k : Int) < (lt : Int) := by omega
      have HT := hid (fun (h : wrongT x = true) => show m.numbers = false by unfold Md.numbers; rw [any_some hkl (show wrongT m.ty[k] = true by rw [HXE.out]; exact h)]; simp)
      have HO := hid (fun (h : wrongT x = false) => any_take hkl HQ.out (show wrongT m.ty[k] = false by rw [HXE.out]; exact h))
      have c0 : wr.cell? ⟨b, off + k * 2, none⟩ = some (.int .i64 x.1) := cc 0 (by omega) _ rfl
      have c1 : wr.cell? ⟨b, off + k * 2 + 1, none⟩ = some (.int .i64 x.2) := cc 1 (by omega) _ rfl
      have C := hid (Kind.refCheck_any x.1 x.2 wr)
      have HWT : Hid (wrongT x = !Kind.okType x.1 x.2) := rfl
      have HCT : Hid (Kind.codeType x.1 x.2 = if Kind.okType x.1 x.2 = true then 0 else 2) := rfl
      obtain ⟨q, hq⟩ : ∃ q, Kind.okType x.1 x.2 = q := ⟨_, rfl⟩
      rw [hq] at HWT HCT
      clear hc cc hb ha hq hkl hxe HXE
      cases q with
      | true =>
        have HE := hid (HO.out (by rw [HWT.out]; rfl))
        have hct : Kind.codeType x.1 x.2 = 0 := by rw [HCT.out]; rfl
        rw [hct] at C
        clear HT HO HWT HCT hct HQ
        go_wp2_with fail
        refine C.out.mono ?_
        rintro e1 w1 ⟨rfl, hb1⟩
        have HW1 := hid (HW.out.trans (hb1.mono HW.out.size))
        clear C hb1
        go_wp2
        go_roundw
        case rel => exact ⟨k + 1, by go_num, by omega, HE, HW1⟩
        case measure => simp [intOf]; omega
      | false =>
        have HE := hid (HT.out (by rw [HWT.out]; rfl))
        have hct : Kind.codeType x.1 x.2 = 2 := by rw [HCT.out]; rfl
        rw [hct] at C
        clear HT HO HWT HCT hct HQ
        go_wp2_with fail
        refine C.out.mono ?_
        rintro e1 w1 ⟨rfl, hb1⟩
        have HW1 := hid (HW.out.trans (hb1.mono HW.out.size))
        clear C hb1
        go_wp2
        go_ret
        exact ⟨ret_bool HE.out.symm, HB.out.trans (HW1.out.mono HB.out.size)⟩
    · obtain rfl : k = lt := by omega
      have HBL := HW
      have HAty := hid (any_none (p := wrongT) (l := m.ty) (fun j hj => HQ.out j hj (by rw [← Llt.out]; exact hj)))
      clear HQ HW hlt hk
      go_wp2
      clear hbx
      go_loopw [4] (fun vi wr => ∃ k : Nat, vi = .int .i64 k ∧ k ≤ li ∧ Hid (∀ j (hj : j < m.im.length), j < k → wrongI m.im[j] = false) ∧ Hid (Below W0.heap.size W0 wr)) (fun vi _ => li - (intOf vi).toNat)
      case atStart => exact ⟨0, rfl, Nat.zero_le _, none_upto _ _, HBL⟩
      case round =>
        clear HBL
        obtain ⟨k, rfl, hk, HQ, HW⟩ := hrel
        have hbx := Go.Proofs.YtdljneclfgneoaaGreatDoor.keep HW.out Xim.out
        by_cases hlt : k < li
        · have hkl : k < m.im.length := by rw [Lli.out]; exact hlt
          obtain ⟨b, off, ha, hb, hc⟩ := Rows.get Rim.out hkl
          rw [ha] at hbx
          obtain ⟨x, hxe⟩ : ∃ x, m.im[k] = x := ⟨_, rfl⟩
          have HXE := hid hxe
          rw [hxe] at hc
          have cc : ∀ j, j < 3 → ∀ v, (x.v)[j]? = some v → wr.cell? ⟨b, off + k * 3 + j, none⟩ = some v := fun j hj v hv => (HW.out.cell (p := ⟨b, off + k * 3 + j, none⟩) hb).trans (hc j hj v hv)
          have hki : (k : Int) < (li : Int) := by omega
          have HT := hid (fun (h : wrongI x = true) => show m.numbers = false by unfold Md.numbers; rw [any_some hkl (show wrongI m.im[k] = true by rw [HXE.out]; exact h)]; simp)
          have HO := hid (fun (h : wrongI x = false) => any_take hkl HQ.out (show wrongI m.im[k] = false by rw [HXE.out]; exact h))
          have c2 : wr.cell? ⟨b, off + k * 3 + 2, none⟩ = some (.int .i64 x.ty) := cc 2 (by omega) _ rfl
          have HWT : Hid (wrongI x = (decide (x.ty < 0) || decide (2147483647 < x.ty))) := rfl
          obtain ⟨t, ht⟩ : ∃ t, x.ty = t := ⟨_, rfl⟩
          rw [ht] at HWT c2
          clear hc cc hb ha ht hkl hxe HXE
          by_cases g1 : t < 0
          · have HE := hid (HT.out (by rw [HWT.out]; simp [g1]))
            clear HT HO HWT HQ
            go_wp2
            go_ret
            exact ⟨ret_bool HE.out.symm, HB.out.trans (HW.out.mono HB.out.size)⟩
          · by_cases g2 : 2147483647 < t
            · have HE := hid (HT.out (by rw [HWT.out]; simp [g2]))
              clear HT HO HWT HQ
              go_wp2
              go_ret
              exact ⟨ret_bool HE.out.symm, HB.out.trans (HW.out.mono HB.out.size)⟩
            · have HE := hid (HO.out (by rw [HWT.out]; simp [g1, g2]))
              clear HT HO HWT HQ
              go_wp2
              go_roundw
              case rel => exact ⟨k + 1, by go_num, by omega, HE, HW⟩
              case measure => simp [intOf]; omega
        · obtain rfl : k = li := by omega
          have HBL := HW
          have HAim := hid (any_none (p := wrongI) (l := m.im) (fun j hj => HQ.out j hj (by rw [← Lli.out]; exact hj)))
          clear HQ HW hlt hk
          go_wp2
          clear hbx
          go_loopw [5] (fun vi wr => ∃ k : Nat, vi = .int .i64 k ∧ k ≤ lf ∧ Hid (∀ j (hj : j < m.fu.length), j < k → wrongF m.fu[j] = false) ∧ Hid (Below W0.heap.size W0 wr)) (fun vi _ => lf - (intOf vi).toNat)
          case atStart => exact ⟨0, rfl, Nat.zero_le _, none_upto _ _, HBL⟩
          case round =>
            clear HBL
            obtain ⟨k, rfl, hk, HQ, HW⟩ := hrel
            have hbx := Go.Proofs.YtdljneclfgneoaaGreatDoor.keep HW.out Xfu.out
            by_cases hlt : k < lf
            · have hkl : k < m.fu.length := by rw [Llf.out]; exact hlt
              obtain ⟨b, off, ha, hb, hc⟩ := Rows.get Rfu.out hkl
              rw [ha] at hbx
              obtain ⟨x, hxe⟩ : ∃ x, m.fu[k] = x := ⟨_, rfl⟩
              have HXE := hid hxe
              rw [hxe] at hc
              have cc : ∀ j, j < 3 → ∀ v, (x.v)[j]? = some v → wr.cell? ⟨b, off + k * 3 + j, none⟩ = some v := fun j hj v hv => (HW.out.cell (p := ⟨b, off + k * 3 + j, none⟩) hb).trans (hc j hj v hv)
              have hki : (k : Int) < (lf : Int) := by omega
              have HT := hid (fun (h : wrongF x = true) => show m.numbers = false by unfold Md.numbers; rw [any_some hkl (show wrongF m.fu[k] = true by rw [HXE.out]; exact h)]; simp)
              have HO := hid (fun (h : wrongF x = false) => any_take hkl HQ.out (show wrongF m.fu[k] = false by rw [HXE.out]; exact h))
              have c0 : wr.cell? ⟨b, off + k * 3, none⟩ = some (.int .i64 x.ty) := cc 0 (by omega) _ rfl
              have c1 : wr.cell? ⟨b, off + k * 3 + 1, none⟩ = some (.int .i64 x.lo) := cc 1 (by omega) _ rfl
              have c2 : wr.cell? ⟨b, off + k * 3 + 2, none⟩ = some (.slice x.l.a x.l.t.len x.l.c) := cc 2 (by omega) _ rfl
              have HWT : Hid (wrongF x = ((decide (x.ty < 0) || decide (2147483647 < x.ty)) || (decide (x.lo < 0) || decide (50000 < x.lo)))) := rfl
              obtain ⟨t, ht⟩ : ∃ t, x.ty = t := ⟨_, rfl⟩
              obtain ⟨u, hu⟩ : ∃ u, x.lo = u := ⟨_, rfl⟩
              rw [ht, hu] at HWT
              rw [ht] at c0
              rw [hu] at c1
              clear hc cc hb ha ht hu hkl hxe HXE
              skip
              by_cases g0 : t < 0
              · have HE := hid (HT.out (by rw [HWT.out]; simp [g0]))
                clear HT HO HWT HQ
                go_wp2
                try go_wp2
                go_ret
                exact ⟨ret_bool HE.out.symm, HB.out.trans ((belowF HW.out _ _).mono HB.out.size)⟩
              · skip
                by_cases g1 : 2147483647 < t
                · have HE := hid (HT.out (by rw [HWT.out]; simp [g1]))
                  clear HT HO HWT HQ
                  go_wp2
                  try go_wp2
                  go_ret
                  exact ⟨ret_bool HE.out.symm, HB.out.trans ((belowF HW.out _ _).mono HB.out.size)⟩
                · skip
                  by_cases g2 : u < 0
                  · have HE := hid (HT.out (by rw [HWT.out]; simp [g2]))
                    clear HT HO HWT HQ
                    go_wp2
                    try go_wp2
                    go_ret
                    exact ⟨ret_bool HE.out.symm, HB.out.trans ((belowF HW.out _ _).mono HB.out.size)⟩
                  · skip
                    by_cases g3 : 50000 < u
                    · have HE := hid (HT.out (by rw [HWT.out]; simp [g3]))
                      clear HT HO HWT HQ
                      go_wp2
                      try go_wp2
                      go_ret
                      exact ⟨ret_bool HE.out.symm, HB.out.trans ((belowF HW.out _ _).mono HB.out.size)⟩
                    · have HE := hid (HO.out (by rw [HWT.out]; simp [g0, g1, g2, g3]))
                      clear HT HO HWT HQ
                      go_wp2
                      try go_wp2
                      go_roundw
                      case rel => exact ⟨k + 1, by go_num, by omega, HE, belowF HW.out _ _⟩
                      case measure => simp [intOf]; omega
            · obtain rfl : k = lf := by omega
              have HBL := HW
              have HAfu := hid (any_none (p := wrongF) (l := m.fu) (fun j hj => HQ.out j hj (by rw [← Llf.out]; exact hj)))
              clear HQ HW hlt hk
              have HE := hid (show m.numbers = true by unfold Md.numbers; rw [HAty.out, HAim.out, HAfu.out]; rfl)
              go_wp2
              go_ret
              exact ⟨ret_bool HE.out.symm, HB.out.trans (HBL.out.mono HB.out.size)⟩
end Go.Proofs.YtdljneclfgneoaaGreatDoor.Mod

namespace Go.Proofs.YtdljneclfgneoaaGreatDoor.Mod
open Go.RowKit Go.Proofs.YtdljneclfgneoaaGreatDoor.Instr

theorem has_codes (m : Md) (e : Int) : m.has e = m.codes.any (fun l => checkP l.t == e) := by
  unfold Md.has Md.codes
  simp [List.any_append, List.any_map, Function.comp_def]
theorem has_many (m : Md) : m.has 141 = decide (codeP m.codes = 141) := by
  rw [has_codes]
  by_cases h : codeP m.codes = 141
  · obtain ⟨y, hy, h1⟩ := codeP_of_many _ h
    rw [List.any_eq_true.2 ⟨y, hy, by simp [h1]⟩]; simp [h]
  · have : (m.codes.any fun l => checkP l.t == 141) = false := by
      rw [List.any_eq_false]
      intro y hy hh
      exact h (codeP_many _ y hy (by simpa using hh))
    rw [this]; simp [h]
theorem has_two (m : Md) (h : codeP m.codes ≠ 141) : m.has 2 = decide (codeP m.codes = 2) := by
  rw [has_codes]
  by_cases h0 : codeP m.codes = 0
  · have hz := (codeP_zero _).1 h0
    have : (m.codes.any fun l => checkP l.t == 2) = false := by
      rw [List.any_eq_false]
      intro y hy hh
      rw [hz y hy] at hh
      simp at hh
    rw [this]; simp [h0]
  · have h2 : codeP m.codes = 2 := by have := codeP_cases m.codes; omega
    have : (m.codes.any fun l => checkP l.t == 2) = true := by
      cases hh : (m.codes.any fun l => checkP l.t == 2)
      · exfalso
        refine h0 ((codeP_zero _).2 fun y hy => ?_)
        rw [List.any_eq_false] at hh
        have n2 := hh y hy
        have n1 : checkP y.t ≠ 141 := fun e => h (codeP_many _ y hy e)
        have := checkP_cases y.t
        have n3 : checkP y.t ≠ 2 := by simpa using n2
        omega
      · rfl
    rw [this]; simp [h2]
theorem names_any (m : Md) (p : ByteArray → Bool) : m.names.any p = m.anyName p := by
  unfold Md.names Md.anyName twoR
  rw [List.any_append, List.any_flatMap, List.any_map]
  simp [Function.comp_def]
def docCheck (m : Md) : Int := if m.many = true then 141 else if m.long = true then 3 else if m.numbers = true then (if m.rest = true then 0 else 2) else 2
theorem check_doc (m : Md) : docCheck m = m.check := by
  unfold docCheck Md.check Md.many Md.long
  rw [has_many, names_any]
  by_cases h1 : m.crowded = true
  · simp [h1]
  by_cases h2 : codeP m.codes = 141
  · simp [h2]
  have h1' : m.crowded = false := by simpa using h1
  rw [h1', decide_eq_false h2]
  simp only [Bool.or_self, Bool.false_eq_true, if_false, h2]
  by_cases h3 : m.anyName longS = true
  · simp [h3]
  have h3' : m.anyName longS = false := by simpa using h3
  by_cases h4 : m.heavy = true
  · simp [h4]
  have h4' : m.heavy = false := by simpa using h4
  rw [h3', h4']
  simp only [Bool.or_self, Bool.false_eq_true, if_false]
  unfold Md.numbers Md.rest Md.wrong
  rw [has_two m h2, names_any]
  by_cases h5 : codeP m.codes = 2
  · simp [h5]
  rw [decide_eq_false h5, if_neg h5]
  by_cases h6 : m.sn = 0
  · rw [decide_eq_true h6]
    cases m.anyName noText <;> cases m.ty.any wrongT <;> cases m.im.any wrongI <;> cases m.fu.any wrongF <;> cases m.ex.any wrongE <;> cases m.tb.any (beyond 1048576) <;> cases m.me.any (beyond 65536) <;> cases m.st <;> simp [h6]
  · rw [decide_eq_false h6]
    cases m.anyName noText <;> cases m.ty.any wrongT <;> cases m.im.any wrongI <;> cases m.fu.any wrongF <;> cases m.ex.any wrongE <;> cases m.tb.any (beyond 1048576) <;> cases m.me.any (beyond 65536) <;> cases m.st <;> simp [h6]
set_option maxHeartbeats 4000000 in
set_option maxRecDepth 100000 in
theorem refChk_any (m : Md) (w : World) (hm : ModAt w.heap.size w m) (hf : m.few) (hna : ∀ s ∈ m.names, s.size ≤ 1000000) :
    Calls Tryz.prog 94 #[.agg m.v] w fun x w' => x = .returned (.int .i64 m.check) ∧ Below w.heap.size w w' := by
  have hb0 := (Below.refl w.heap.size w).alloc (Nat.le_refl _) (.cells m.v 40)
  have HB := hid hb0
  have HM := hid (hm.on hb0)
  have HX := hid (BoxAt.made w m.v 40)
  have HD := hid (check_doc m)
  have HDD : Hid (docCheck m = if m.many = true then 141 else if m.long = true then 3 else if m.numbers = true then (if m.rest = true then 0 else 2) else 2) := rfl
  have K1 := hid (fun (W : World) (h : ModAt W.heap.size W m) => refMany_any m W h hf)
  have K2 := hid (fun (W : World) (h : ModAt W.heap.size W m) => refLong_any m W h hf)
  have K3 := hid (fun (W : World) (h : ModAt W.heap.size W m) => refNumbers_any m W h hf.fit)
  have K4 := hid (fun (W : World) (h : ModAt W.heap.size W m) => refRest_any m W h hf hna)
  have X0 := (BoxAt.made w m.v 40)
  have C := hid (K1.out _ HM.out)
  obtain ⟨q1, h1⟩ : ∃ q, m.many = q := ⟨_, rfl⟩
  obtain ⟨q2, h2⟩ : ∃ q, m.long = q := ⟨_, rfl⟩
  obtain ⟨q3, h3⟩ : ∃ q, m.numbers = q := ⟨_, rfl⟩
  obtain ⟨q4, h4⟩ : ∃ q, m.rest = q := ⟨_, rfl⟩
  obtain ⟨z, hz⟩ : ∃ z, m.check = z := ⟨_, rfl⟩
  rw [hz]
  rw [h1, h2, h3, h4] at HDD
  rw [hz] at HD
  rw [h1] at C
  rw [h2] at K2
  rw [h3] at K3
  rw [h4] at K4
  unfold Md.v at HB HX HM X0 C K2 K3 K4 ⊢
  clear hm hf hb0 hna K1 h1 h2 h3 h4 hz
  have x0 := X0 0 _ rfl
  have x1 := X0 1 _ rfl
  have x2 := X0 2 _ rfl
  have x3 := X0 3 _ rfl
  have x4 := X0 4 _ rfl
  have x5 := X0 5 _ rfl
  have x6 := X0 6 _ rfl
  have x7 := X0 7 _ rfl
  have x8 := X0 8 _ rfl
  have x9 := X0 9 _ rfl
  have x10 := X0 10 _ rfl
  clear X0
  go_enter Tryz.func94, Tryz.ntmps94
  cases q1 with
  | true =>
    go_wp2_with fail
    refine C.out.mono ?_
    rintro e1 w1 ⟨rfl, hb1⟩
    have HB1 := hid (HB.out.trans (hb1.mono HB.out.size))
    have HM1 := hid (HM.out.on hb1)
    have HX1 := hid (HX.out.keep hb1)
    clear C hb1 x0 x1 x2 x3 x4 x5 x6 x7 x8 x9 x10
    have HE := hid (show z = 141 by rw [← HD.out, HDD.out]; rfl)
    go_wp2
    go_ret
    exact ⟨ret_int HE.out.symm, HB1.out⟩
  | false =>
    go_wp2_with fail
    refine C.out.mono ?_
    rintro e1 w1 ⟨rfl, hb1⟩
    have HB1 := hid (HB.out.trans (hb1.mono HB.out.size))
    have HM1 := hid (HM.out.on hb1)
    have HX1 := hid (HX.out.keep hb1)
    clear C hb1 x0 x1 x2 x3 x4 x5 x6 x7 x8 x9 x10
    have C := hid (K2.out _ HM1.out)
    have x0 := HX1.out 0 _ rfl
    have x1 := HX1.out 1 _ rfl
    have x2 := HX1.out 2 _ rfl
    have x3 := HX1.out 3 _ rfl
    have x4 := HX1.out 4 _ rfl
    have x5 := HX1.out 5 _ rfl
    have x6 := HX1.out 6 _ rfl
    have x7 := HX1.out 7 _ rfl
    have x8 := HX1.out 8 _ rfl
    have x9 := HX1.out 9 _ rfl
    have x10 := HX1.out 10 _ rfl
    cases q2 with
    | true =>
      go_wp2_with fail
      refine C.out.mono ?_
      rintro e2 w2 ⟨rfl, hb2⟩
      have HB2 := hid (HB1.out.trans (hb2.mono HB1.out.size))
      have HM2 := hid (HM1.out.on hb2)
      have HX2 := hid (HX1.out.keep hb2)
      clear C hb2 x0 x1 x2 x3 x4 x5 x6 x7 x8 x9 x10
      have HE := hid (show z = 3 by rw [← HD.out, HDD.out]; rfl)
      go_wp2
      go_ret
      exact ⟨ret_int HE.out.symm, HB2.out⟩
    | false =>
      go_wp2_with fail
      refine C.out.mono ?_
      rintro e2 w2 ⟨rfl, hb2⟩
      have HB2 := hid (HB1.out.trans (hb2.mono HB1.out.size))
      have HM2 := hid (HM1.out.on hb2)
      have HX2 := hid (HX1.out.keep hb2)
      clear C hb2 x0 x1 x2 x3 x4 x5 x6 x7 x8 x9 x10
      have C := hid (K3.out _ HM2.out)
      have x0 := HX2.out 0 _ rfl
      have x1 := HX2.out 1 _ rfl
      have x2 := HX2.out 2 _ rfl
      have x3 := HX2.out 3 _ rfl
      have x4 := HX2.out 4 _ rfl
      have x5 := HX2.out 5 _ rfl
      have x6 := HX2.out 6 _ rfl
      have x7 := HX2.out 7 _ rfl
      have x8 := HX2.out 8 _ rfl
      have x9 := HX2.out 9 _ rfl
      have x10 := HX2.out 10 _ rfl
      cases q3 with
      | false =>
        go_wp2_with fail
        refine C.out.mono ?_
        rintro e3 w3 ⟨rfl, hb3⟩
        have HB3 := hid (HB2.out.trans (hb3.mono HB2.out.size))
        have HM3 := hid (HM2.out.on hb3)
        have HX3 := hid (HX2.out.keep hb3)
        clear C hb3 x0 x1 x2 x3 x4 x5 x6 x7 x8 x9 x10
        have HE := hid (show z = 2 by rw [← HD.out, HDD.out]; rfl)
        go_wp2
        go_ret
        exact ⟨ret_int HE.out.symm, HB3.out⟩
      | true =>
        go_wp2_with fail
        refine C.out.mono ?_
        rintro e3 w3 ⟨rfl, hb3⟩
        have HB3 := hid (HB2.out.trans (hb3.mono HB2.out.size))
        have HM3 := hid (HM2.out.on hb3)
        have HX3 := hid (HX2.out.keep hb3)
        clear C hb3 x0 x1 x2 x3 x4 x5 x6 x7 x8 x9 x10
        have C := hid (K4.out _ HM3.out)
        have x0 := HX3.out 0 _ rfl
        have x1 := HX3.out 1 _ rfl
        have x2 := HX3.out 2 _ rfl
        have x3 := HX3.out 3 _ rfl
        have x4 := HX3.out 4 _ rfl
        have x5 := HX3.out 5 _ rfl
        have x6 := HX3.out 6 _ rfl
        have x7 := HX3.out 7 _ rfl
        have x8 := HX3.out 8 _ rfl
        have x9 := HX3.out 9 _ rfl
        have x10 := HX3.out 10 _ rfl
        cases q4 with
        | false =>
          go_wp2_with fail
          refine C.out.mono ?_
          rintro e4 w4 ⟨rfl, hb4⟩
          have HB4 := hid (HB3.out.trans (hb4.mono HB3.out.size))
          have HM4 := hid (HM3.out.on hb4)
          have HX4 := hid (HX3.out.keep hb4)
          clear C hb4 x0 x1 x2 x3 x4 x5 x6 x7 x8 x9 x10
          have HE := hid (show z = 2 by rw [← HD.out, HDD.out]; rfl)
          go_wp2
          go_ret
          exact ⟨ret_int HE.out.symm, HB4.out⟩
        | true =>
          go_wp2_with fail
          refine C.out.mono ?_
          rintro e4 w4 ⟨rfl, hb4⟩
          have HB4 := hid (HB3.out.trans (hb4.mono HB3.out.size))
          have HM4 := hid (HM3.out.on hb4)
          have HX4 := hid (HX3.out.keep hb4)
          clear C hb4 x0 x1 x2 x3 x4 x5 x6 x7 x8 x9 x10
          have HE := hid (show z = 0 by rw [← HD.out, HDD.out]; rfl)
          go_wp2
          go_ret
          exact ⟨ret_int HE.out.symm, HB4.out⟩
end Go.Proofs.YtdljneclfgneoaaGreatDoor.Mod
