import Derived.Test.YtckdnhafookcgaaGreatDoorPa15
import Derived.Test.YtckdnhafookcgaaGreatDoorPa10
import Derived.Test.YtckdnhafookcgaaGreatDoorPa12
import Derived.Deep.Cut
namespace Go.Proofs.YtckdnhafookcgaaGreatDoor.Instr
end Go.Proofs.YtckdnhafookcgaaGreatDoor.Instr
namespace Go.Proofs.YtckdnhafookcgaaGreatDoor.Mod
open Go.RowKit Go.Proofs.YtckdnhafookcgaaGreatDoor.Instr
set_option linter.unusedVariables false

theorem Fn.inp.on {w W : World} {x : Fn} (h : x.inp w) (hb : Below w.heap.size w W) : x.inp W := ⟨(h.1.below hb).more hb.size, h.2.1, h.2.2⟩
theorem Fn.ones (l : List Fn) : ∀ r ∈ l.map Fn.v, ∀ u ∈ r, u.oneCell' = true := by
  intro r hr u hu
  obtain ⟨f, _, rfl⟩ := List.mem_map.1 hr
  simp only [Fn.v, Lst.val, List.mem_cons, List.not_mem_nil, or_false] at hu
  rcases hu with rfl | rfl | rfl <;> rfl
theorem Fn.lens (l : List Fn) : ∀ r ∈ l.map Fn.v, r.length = 3 := by
  intro r hr
  obtain ⟨f, _, rfl⟩ := List.mem_map.1 hr
  rfl
set_option maxRecDepth 100000 in
set_option maxHeartbeats 4000000 in
theorem mapFn (l : List Fn) (a : Option Addr) (n c : Nat) (w : World) (hn : l.length = n) (hr : Rows w.heap.size w a 3 (l.map Fn.v)) (hi : ∀ x ∈ l, x.inp w) (hl : n ≤ 1000000) :
    Calls Tryz.prog 88 #[.slice a n c, .func (.func 89) #[] #[]] w fun e w' => ∃ v, e = .returned v ∧ MapP kFn l w.heap.size w' v ∧ Below w.heap.size w w' := by
  have CC := hid (clone_fu w a n c (l.map Fn.v) (by simpa using hn) hr (Fn.lens l) (Fn.ones l) (by rw [List.length_map, hn]; omega))
  have HLN := hid hn
  have HI := hid hi
  clear hn hi hr
  go_enter Tryz.func88, Tryz.ntmps88
  go_wp2_with fail
  refine CC.out.mono ?_
  rintro r w1 ⟨v, rfl, ho, hb1⟩
  have HB1 := hid hb1
  rcases ho.row.2 with ⟨rfl, h0⟩ | ⟨g, cap, cur, rfl, hbg, hg, -⟩
  · have h00 : l = [] := by rw [List.length_map] at h0; exact List.eq_nil_of_length_eq_zero h0
    subst h00
    obtain rfl : n = 0 := by rw [← HLN.out]; rfl
    clear ho hb1 h0 CC
    go_wp2
    go_loopw [6, 12] (fun _ vi wr => vi = .int .i64 0 ∧ wr = w1) (fun _ _ _ => 0)
    case atStart => exact ⟨rfl, rfl⟩
    case round =>
      obtain ⟨rfl, rfl⟩ := hrel
      go_wp2
      go_ret
      exact ⟨_, rfl, ⟨none, 0, [], rfl, rfl, rfl, .inl rfl, .inl rfl, by simp⟩, HB1.out⟩
  · have hll : (l.map Fn.v).length = n := by rw [List.length_map]; exact HLN.out
    rw [hll] at ho ⊢
    have HV := hid (InvG.start (K := kFn) ho HLN.out w1.heap.size)
    have HG := hid (show g < w1.heap.size from (Array.getElem?_eq_some_iff.1 hg).1)
    have HBG := hid hbg
    clear ho hb1 CC hg hbg hll cur
    go_wp2
    go_loopw [6, 12] (fun _ vi wr => ∃ k : Nat, vi = .int .i64 k ∧ k ≤ n ∧ Hid (Below w.heap.size w wr) ∧ Hid (w1.heap.size ≤ wr.heap.size) ∧ Hid (InvG kFn l w1.heap.size g k wr)) (fun _ vi _ => n - (intOf vi).toNat)
    case atStart => exact ⟨0, rfl, Nat.zero_le _, HB1, Nat.le_refl _, HV⟩
    case round =>
      obtain ⟨k, rfl, hk, HB, HZ, HV⟩ := hrel
      by_cases hlt : k < n
      · have hkl : k < l.length := by rw [HLN.out]; exact hlt
        have hy := HI.out _ (List.getElem_mem hkl)
        have hleft := HV.out.left k hkl (Nat.le_refl _)
        have HST := hid (fun (W w2 : World) (x' : Fn) (h1 : Below wr.heap.size wr W) (h2 : Below W.heap.size W w2) (hc : x'.own W.heap.size w2.heap.size w2) (hbr : x'.bare = l[k].bare) => HV.out.step (K := kFn) HG.out HZ.out h1 h1.size h2 hkl hc hbr)
        have HCI := hid (fun (W : World) (h1 : Below w.heap.size w W) => cpyFn l[k] W (hy.on h1))
        obtain ⟨y, hye⟩ : ∃ y, l[k] = y := ⟨_, rfl⟩
        rw [hye] at hleft HST HCI
        obtain ⟨ty, lo, ⟨la, lc, lt⟩⟩ := y
        dsimp only at hleft HST HCI
        obtain ⟨ln, hln⟩ : ∃ ln, lt.len = ln := ⟨_, rfl⟩
        rw [hln] at HCI
        have c0 : wr.cell? ⟨g, k * 3, none⟩ = some (.int .i64 ty) := by have h := hleft 0 _ rfl; exact h
        have c1 : wr.cell? ⟨g, k * 3 + 1, none⟩ = some (.int .i64 lo) := by have h := hleft 1 _ rfl; exact h
        have c2 : wr.cell? ⟨g, k * 3 + 2, none⟩ = some (.slice la ln lc) := by have h := hleft 2 _ rfl; dsimp only [Lst.val] at h; rw [hln] at h; exact h
        have hki : (k : Int) < (n : Int) := by omega
        have HSO := hid HV.out.soft
        clear hye hleft hy HV hln
        go_wp2_with fail
        refine (HCI.out _ (HB.out.alloc (HB.out.size) _)).mono ?_
        rintro r w2 ⟨⟨x', rfl, hc, hbr⟩, hb2⟩
        have hA := (Below.refl wr.heap.size wr).alloc (Nat.le_refl _) (.cells #[.int .i64 ty, .int .i64 lo, .slice la ln lc] 101)
        have HN := hid (HST.out _ w2 x' hA hb2 hc hbr)
        have hA2 : Below wr.heap.size wr w2 := hA.trans (hb2.mono hA.size)
        have hgr : g < wr.heap.size := Nat.lt_of_lt_of_le HG.out HZ.out
        have HBF := hid (below_sets (g := g) (x'.v) (k * 3) (HB.out.trans (hA2.mono HB.out.size)) HBG.out)
        have HZF := hid (show w1.heap.size ≤ (w2.setCells g (k * 3) x'.v).heap.size by rw [sets_size]; exact Nat.le_trans HZ.out hA2.size)
        have hso2 : ∃ cs e, w2.heap[g]? = some (.cells cs e (0, 0)) := by
          obtain ⟨cs, e, h⟩ := HSO.out
          exact ⟨cs, e, (hA2.block g hgr).trans h⟩
        obtain ⟨cs, te, hcs⟩ := hso2
        have z := fun j => frozen_of_row w2 g j cs te hcs
        have z0 := z (k * 3)
        have c0 := Go.Proofs.YtckdnhafookcgaaGreatDoor.keep hA2 c0
        have z1 := z (k * 3 + 1)
        have c1 := Go.Proofs.YtckdnhafookcgaaGreatDoor.keep hA2 c1
        have z2 := z (k * 3 + 2)
        have c2 := Go.Proofs.YtckdnhafookcgaaGreatDoor.keep hA2 c2
        clear hc hb2 hA hA2 HST HCI HSO z hcs HB HZ hbr
        obtain ⟨ty1, lo1, ⟨la1, lc1, lt1⟩⟩ := x'
        dsimp only [Fn.v, Lst.val, kFn, World.setCells] at HN HBF HZF ⊢
        go_wp2
        go_roundw
        case rel => exact ⟨k + 1, by go_num, by omega, HBF, HZF, HN⟩
        case measure => simp [intOf]; omega
      · obtain rfl : k = n := by omega
        have HE := hid (InvG.end (K := kFn) (c := cap) (by rw [HLN.out]; exact HV.out) HB1.out.size HBG.out (by have := HG.out; have := HZ.out; omega))
        have HX : Hid (MapP kFn l w.heap.size wr (.slice (some ⟨g, 0, none⟩) k cap)) := hid (by have h := HE.out; rw [HLN.out] at h; exact h)
        clear HV hlt hk HE
        go_wp2
        go_ret
        exact ⟨_, rfl, HX.out, HB.out⟩
theorem Gl.inp.on {w W : World} {x : Gl} (h : x.inp w) (hb : Below w.heap.size w W) : x.inp W := ⟨(h.1.below hb).more hb.size, h.2.1, h.2.2⟩
theorem Gl.ones (l : List Gl) : ∀ r ∈ l.map Gl.v, ∀ u ∈ r, u.oneCell' = true := by
  intro r hr u hu
  obtain ⟨f, _, rfl⟩ := List.mem_map.1 hr
  simp only [Gl.v, Lst.val, List.mem_cons, List.not_mem_nil, or_false] at hu
  rcases hu with rfl | rfl <;> rfl
theorem Gl.lens (l : List Gl) : ∀ r ∈ l.map Gl.v, r.length = 2 := by
  intro r hr
  obtain ⟨f, _, rfl⟩ := List.mem_map.1 hr
  rfl
set_option maxRecDepth 100000 in
set_option maxHeartbeats 4000000 in
theorem mapGl (l : List Gl) (a : Option Addr) (n c : Nat) (w : World) (hn : l.length = n) (hr : Rows w.heap.size w a 2 (l.map Gl.v)) (hi : ∀ x ∈ l, x.inp w) (hl : n ≤ 1000000) :
    Calls Tryz.prog 91 #[.slice a n c, .func (.func 92) #[] #[]] w fun e w' => ∃ v, e = .returned v ∧ MapP kGl l w.heap.size w' v ∧ Below w.heap.size w w' := by
  have CC := hid (clone_gl w a n c (l.map Gl.v) (by simpa using hn) hr (Gl.lens l) (Gl.ones l) (by rw [List.length_map, hn]; omega))
  have HLN := hid hn
  have HI := hid hi
  clear hn hi hr
  go_enter Tryz.func91, Tryz.ntmps91
  go_wp2_with fail
  refine CC.out.mono ?_
  rintro r w1 ⟨v, rfl, ho, hb1⟩
  have HB1 := hid hb1
  rcases ho.row.2 with ⟨rfl, h0⟩ | ⟨g, cap, cur, rfl, hbg, hg, -⟩
  · have h00 : l = [] := by rw [List.length_map] at h0; exact List.eq_nil_of_length_eq_zero h0
    subst h00
    obtain rfl : n = 0 := by rw [← HLN.out]; rfl
    clear ho hb1 h0 CC
    go_wp2
    go_loopw [6, 12] (fun _ vi wr => vi = .int .i64 0 ∧ wr = w1) (fun _ _ _ => 0)
    case atStart => exact ⟨rfl, rfl⟩
    case round =>
      obtain ⟨rfl, rfl⟩ := hrel
      go_wp2
      go_ret
      exact ⟨_, rfl, ⟨none, 0, [], rfl, rfl, rfl, .inl rfl, .inl rfl, by simp⟩, HB1.out⟩
  · have hll : (l.map Gl.v).length = n := by rw [List.length_map]; exact HLN.out
    rw [hll] at ho ⊢
    have HV := hid (InvG.start (K := kGl) ho HLN.out w1.heap.size)
    have HG := hid (show g < w1.heap.size from (Array.getElem?_eq_some_iff.1 hg).1)
    have HBG := hid hbg
    clear ho hb1 CC hg hbg hll cur
    go_wp2
    go_loopw [6, 12] (fun _ vi wr => ∃ k : Nat, vi = .int .i64 k ∧ k ≤ n ∧ Hid (Below w.heap.size w wr) ∧ Hid (w1.heap.size ≤ wr.heap.size) ∧ Hid (InvG kGl l w1.heap.size g k wr)) (fun _ vi _ => n - (intOf vi).toNat)
    case atStart => exact ⟨0, rfl, Nat.zero_le _, HB1, Nat.le_refl _, HV⟩
    case round =>
      obtain ⟨k, rfl, hk, HB, HZ, HV⟩ := hrel
      by_cases hlt : k < n
      · have hkl : k < l.length := by rw [HLN.out]; exact hlt
        have hy := HI.out _ (List.getElem_mem hkl)
        have hleft := HV.out.left k hkl (Nat.le_refl _)
        have HST := hid (fun (W w2 : World) (x' : Gl) (h1 : Below wr.heap.size wr W) (h2 : Below W.heap.size W w2) (hc : x'.own W.heap.size w2.heap.size w2) (hbr : x'.bare = l[k].bare) => HV.out.step (K := kGl) HG.out HZ.out h1 h1.size h2 hkl hc hbr)
        have HCI := hid (fun (W : World) (h1 : Below w.heap.size w W) => cpyGl l[k] W (hy.on h1))
        obtain ⟨y, hye⟩ : ∃ y, l[k] = y := ⟨_, rfl⟩
        rw [hye] at hleft HST HCI
        obtain ⟨mu, ⟨la, lc, lt⟩⟩ := y
        dsimp only at hleft HST HCI
        obtain ⟨ln, hln⟩ : ∃ ln, lt.len = ln := ⟨_, rfl⟩
        rw [hln] at HCI
        have c0 : wr.cell? ⟨g, k * 2, none⟩ = some (.bool mu) := by have h := hleft 0 _ rfl; exact h
        have c1 : wr.cell? ⟨g, k * 2 + 1, none⟩ = some (.slice la ln lc) := by have h := hleft 1 _ rfl; dsimp only [Lst.val] at h; rw [hln] at h; exact h
        have hki : (k : Int) < (n : Int) := by omega
        have HSO := hid HV.out.soft
        clear hye hleft hy HV hln
        go_wp2_with fail
        refine (HCI.out _ (HB.out.alloc (HB.out.size) _)).mono ?_
        rintro r w2 ⟨⟨x', rfl, hc, hbr⟩, hb2⟩
        have hA := (Below.refl wr.heap.size wr).alloc (Nat.le_refl _) (.cells #[.bool mu, .slice la ln lc] 94)
        have HN := hid (HST.out _ w2 x' hA hb2 hc hbr)
        have hA2 : Below wr.heap.size wr w2 := hA.trans (hb2.mono hA.size)
        have hgr : g < wr.heap.size := Nat.lt_of_lt_of_le HG.out HZ.out
        have HBF := hid (below_sets (g := g) (x'.v) (k * 2) (HB.out.trans (hA2.mono HB.out.size)) HBG.out)
        have HZF := hid (show w1.heap.size ≤ (w2.setCells g (k * 2) x'.v).heap.size by rw [sets_size]; exact Nat.le_trans HZ.out hA2.size)
        have hso2 : ∃ cs e, w2.heap[g]? = some (.cells cs e (0, 0)) := by
          obtain ⟨cs, e, h⟩ := HSO.out
          exact ⟨cs, e, (hA2.block g hgr).trans h⟩
        obtain ⟨cs, te, hcs⟩ := hso2
        have z := fun j => frozen_of_row w2 g j cs te hcs
        have z0 := z (k * 2)
        have c0 := Go.Proofs.YtckdnhafookcgaaGreatDoor.keep hA2 c0
        have z1 := z (k * 2 + 1)
        have c1 := Go.Proofs.YtckdnhafookcgaaGreatDoor.keep hA2 c1
        clear hc hb2 hA hA2 HST HCI HSO z hcs HB HZ hbr
        obtain ⟨mu1, ⟨la1, lc1, lt1⟩⟩ := x'
        dsimp only [Gl.v, Lst.val, kGl, World.setCells] at HN HBF HZF ⊢
        go_wp2
        go_roundw
        case rel => exact ⟨k + 1, by go_num, by omega, HBF, HZF, HN⟩
        case measure => simp [intOf]; omega
      · obtain rfl : k = n := by omega
        have HE := hid (InvG.end (K := kGl) (c := cap) (by rw [HLN.out]; exact HV.out) HB1.out.size HBG.out (by have := HG.out; have := HZ.out; omega))
        have HX : Hid (MapP kGl l w.heap.size wr (.slice (some ⟨g, 0, none⟩) k cap)) := hid (by have h := HE.out; rw [HLN.out] at h; exact h)
        clear HV hlt hk HE
        go_wp2
        go_ret
        exact ⟨_, rfl, HX.out, HB.out⟩
theorem El.inp.on {w W : World} {x : El} (h : x.inp w) (hb : Below w.heap.size w W) : x.inp W := ⟨(h.1.below hb).more hb.size, h.2.1, h.2.2.1, (h.2.2.2.1.below hb).more hb.size, h.2.2.2.2⟩
theorem El.ones (l : List El) : ∀ r ∈ l.map El.v, ∀ u ∈ r, u.oneCell' = true := by
  intro r hr u hu
  obtain ⟨f, _, rfl⟩ := List.mem_map.1 hr
  simp only [El.v, Lst.val, List.mem_cons, List.not_mem_nil, or_false] at hu
  rcases hu with rfl | rfl <;> rfl
theorem El.lens (l : List El) : ∀ r ∈ l.map El.v, r.length = 2 := by
  intro r hr
  obtain ⟨f, _, rfl⟩ := List.mem_map.1 hr
  rfl
set_option maxRecDepth 100000 in
set_option maxHeartbeats 4000000 in
theorem mapEl (l : List El) (a : Option Addr) (n c : Nat) (w : World) (hn : l.length = n) (hr : Rows w.heap.size w a 2 (l.map El.v)) (hi : ∀ x ∈ l, x.inp w) (hl : n ≤ 1000000) :
    Calls Tryz.prog 94 #[.slice a n c, .func (.func 95) #[] #[]] w fun e w' => ∃ v, e = .returned v ∧ MapP kEl l w.heap.size w' v ∧ Below w.heap.size w w' := by
  have CC := hid (clone_el w a n c (l.map El.v) (by simpa using hn) hr (El.lens l) (El.ones l) (by rw [List.length_map, hn]; omega))
  have HLN := hid hn
  have HI := hid hi
  clear hn hi hr
  go_enter Tryz.func94, Tryz.ntmps94
  go_wp2_with fail
  refine CC.out.mono ?_
  rintro r w1 ⟨v, rfl, ho, hb1⟩
  have HB1 := hid hb1
  rcases ho.row.2 with ⟨rfl, h0⟩ | ⟨g, cap, cur, rfl, hbg, hg, -⟩
  · have h00 : l = [] := by rw [List.length_map] at h0; exact List.eq_nil_of_length_eq_zero h0
    subst h00
    obtain rfl : n = 0 := by rw [← HLN.out]; rfl
    clear ho hb1 h0 CC
    go_wp2
    go_loopw [6, 12] (fun _ vi wr => vi = .int .i64 0 ∧ wr = w1) (fun _ _ _ => 0)
    case atStart => exact ⟨rfl, rfl⟩
    case round =>
      obtain ⟨rfl, rfl⟩ := hrel
      go_wp2
      go_ret
      exact ⟨_, rfl, ⟨none, 0, [], rfl, rfl, rfl, .inl rfl, .inl rfl, by simp⟩, HB1.out⟩
  · have hll : (l.map El.v).length = n := by rw [List.length_map]; exact HLN.out
    rw [hll] at ho ⊢
    have HV := hid (InvG.start (K := kEl) ho HLN.out w1.heap.size)
    have HG := hid (show g < w1.heap.size from (Array.getElem?_eq_some_iff.1 hg).1)
    have HBG := hid hbg
    clear ho hb1 CC hg hbg hll cur
    go_wp2
    go_loopw [6, 12] (fun _ vi wr => ∃ k : Nat, vi = .int .i64 k ∧ k ≤ n ∧ Hid (Below w.heap.size w wr) ∧ Hid (w1.heap.size ≤ wr.heap.size) ∧ Hid (InvG kEl l w1.heap.size g k wr)) (fun _ vi _ => n - (intOf vi).toNat)
    case atStart => exact ⟨0, rfl, Nat.zero_le _, HB1, Nat.le_refl _, HV⟩
    case round =>
      obtain ⟨k, rfl, hk, HB, HZ, HV⟩ := hrel
      by_cases hlt : k < n
      · have hkl : k < l.length := by rw [HLN.out]; exact hlt
        have hy := HI.out _ (List.getElem_mem hkl)
        have hleft := HV.out.left k hkl (Nat.le_refl _)
        have HST := hid (fun (W w2 : World) (x' : El) (h1 : Below wr.heap.size wr W) (h2 : Below W.heap.size W w2) (hc : x'.own W.heap.size w2.heap.size w2) (hbr : x'.bare = l[k].bare) => HV.out.step (K := kEl) HG.out HZ.out h1 h1.size h2 hkl hc hbr)
        have HCI := hid (fun (W : World) (h1 : Below w.heap.size w W) => cpyEl l[k] W (hy.on h1))
        obtain ⟨y, hye⟩ : ∃ y, l[k] = y := ⟨_, rfl⟩
        rw [hye] at hleft HST HCI
        obtain ⟨⟨la, lc, lt⟩, fa, fc, fs⟩ := y
        dsimp only at hleft HST HCI
        obtain ⟨ln, hln⟩ : ∃ ln, lt.len = ln := ⟨_, rfl⟩
        rw [hln] at HCI
        have c0 : wr.cell? ⟨g, k * 2, none⟩ = some (.slice la ln lc) := by have h := hleft 0 _ rfl; dsimp only [Lst.val] at h; rw [hln] at h; exact h
        have c1 : wr.cell? ⟨g, k * 2 + 1, none⟩ = some (.slice fa fs.length fc) := by have h := hleft 1 _ rfl; exact h
        have hki : (k : Int) < (n : Int) := by omega
        have HSO := hid HV.out.soft
        clear hye hleft hy HV hln
        go_wp2_with fail
        refine (HCI.out _ (HB.out.alloc (HB.out.size) _)).mono ?_
        rintro r w2 ⟨⟨x', rfl, hc, hbr⟩, hb2⟩
        have hA := (Below.refl wr.heap.size wr).alloc (Nat.le_refl _) (.cells #[.slice la ln lc, .slice fa fs.length fc] 109)
        have HN := hid (HST.out _ w2 x' hA hb2 hc hbr)
        have hA2 : Below wr.heap.size wr w2 := hA.trans (hb2.mono hA.size)
        have hgr : g < wr.heap.size := Nat.lt_of_lt_of_le HG.out HZ.out
        have HBF := hid (below_sets (g := g) (x'.v) (k * 2) (HB.out.trans (hA2.mono HB.out.size)) HBG.out)
        have HZF := hid (show w1.heap.size ≤ (w2.setCells g (k * 2) x'.v).heap.size by rw [sets_size]; exact Nat.le_trans HZ.out hA2.size)
        have hso2 : ∃ cs e, w2.heap[g]? = some (.cells cs e (0, 0)) := by
          obtain ⟨cs, e, h⟩ := HSO.out
          exact ⟨cs, e, (hA2.block g hgr).trans h⟩
        obtain ⟨cs, te, hcs⟩ := hso2
        have z := fun j => frozen_of_row w2 g j cs te hcs
        have z0 := z (k * 2)
        have c0 := Go.Proofs.YtckdnhafookcgaaGreatDoor.keep hA2 c0
        have z1 := z (k * 2 + 1)
        have c1 := Go.Proofs.YtckdnhafookcgaaGreatDoor.keep hA2 c1
        clear hc hb2 hA hA2 HST HCI HSO z hcs HB HZ hbr
        obtain ⟨⟨la1, lc1, lt1⟩, fa1, fc1, fs1⟩ := x'
        dsimp only [El.v, Lst.val, kEl, World.setCells] at HN HBF HZF ⊢
        go_wp2
        go_roundw
        case rel => exact ⟨k + 1, by go_num, by omega, HBF, HZF, HN⟩
        case measure => simp [intOf]; omega
      · obtain rfl : k = n := by omega
        have HE := hid (InvG.end (K := kEl) (c := cap) (by rw [HLN.out]; exact HV.out) HB1.out.size HBG.out (by have := HG.out; have := HZ.out; omega))
        have HX : Hid (MapP kEl l w.heap.size wr (.slice (some ⟨g, 0, none⟩) k cap)) := hid (by have h := HE.out; rw [HLN.out] at h; exact h)
        clear HV hlt hk HE
        go_wp2
        go_ret
        exact ⟨_, rfl, HX.out, HB.out⟩
theorem Da.inp.on {w W : World} {x : Da} (h : x.inp w) (hb : Below w.heap.size w W) : x.inp W := ⟨(h.1.below hb).more hb.size, h.2.1, h.2.2.1, (h.2.2.2.1.below hb).more hb.size, h.2.2.2.2⟩
theorem Da.ones (l : List Da) : ∀ r ∈ l.map Da.v, ∀ u ∈ r, u.oneCell' = true := by
  intro r hr u hu
  obtain ⟨f, _, rfl⟩ := List.mem_map.1 hr
  simp only [Da.v, Lst.val, List.mem_cons, List.not_mem_nil, or_false] at hu
  rcases hu with rfl | rfl <;> rfl
theorem Da.lens (l : List Da) : ∀ r ∈ l.map Da.v, r.length = 2 := by
  intro r hr
  obtain ⟨f, _, rfl⟩ := List.mem_map.1 hr
  rfl
set_option maxRecDepth 100000 in
set_option maxHeartbeats 4000000 in
theorem mapDa (l : List Da) (a : Option Addr) (n c : Nat) (w : World) (hn : l.length = n) (hr : Rows w.heap.size w a 2 (l.map Da.v)) (hi : ∀ x ∈ l, x.inp w) (hl : n ≤ 1000000) :
    Calls Tryz.prog 96 #[.slice a n c, .func (.func 97) #[] #[]] w fun e w' => ∃ v, e = .returned v ∧ MapP kDa l w.heap.size w' v ∧ Below w.heap.size w w' := by
  have CC := hid (clone_da w a n c (l.map Da.v) (by simpa using hn) hr (Da.lens l) (Da.ones l) (by rw [List.length_map, hn]; omega))
  have HLN := hid hn
  have HI := hid hi
  clear hn hi hr
  go_enter Tryz.func96, Tryz.ntmps96
  go_wp2_with fail
  refine CC.out.mono ?_
  rintro r w1 ⟨v, rfl, ho, hb1⟩
  have HB1 := hid hb1
  rcases ho.row.2 with ⟨rfl, h0⟩ | ⟨g, cap, cur, rfl, hbg, hg, -⟩
  · have h00 : l = [] := by rw [List.length_map] at h0; exact List.eq_nil_of_length_eq_zero h0
    subst h00
    obtain rfl : n = 0 := by rw [← HLN.out]; rfl
    clear ho hb1 h0 CC
    go_wp2
    go_loopw [6, 12] (fun _ vi wr => vi = .int .i64 0 ∧ wr = w1) (fun _ _ _ => 0)
    case atStart => exact ⟨rfl, rfl⟩
    case round =>
      obtain ⟨rfl, rfl⟩ := hrel
      go_wp2
      go_ret
      exact ⟨_, rfl, ⟨none, 0, [], rfl, rfl, rfl, .inl rfl, .inl rfl, by simp⟩, HB1.out⟩
  · have hll : (l.map Da.v).length = n := by rw [List.length_map]; exact HLN.out
    rw [hll] at ho ⊢
    have HV := hid (InvG.start (K := kDa) ho HLN.out w1.heap.size)
    have HG := hid (show g < w1.heap.size from (Array.getElem?_eq_some_iff.1 hg).1)
    have HBG := hid hbg
    clear ho hb1 CC hg hbg hll cur
    go_wp2
    go_loopw [6, 12] (fun _ vi wr => ∃ k : Nat, vi = .int .i64 k ∧ k ≤ n ∧ Hid (Below w.heap.size w wr) ∧ Hid (w1.heap.size ≤ wr.heap.size) ∧ Hid (InvG kDa l w1.heap.size g k wr)) (fun _ vi _ => n - (intOf vi).toNat)
    case atStart => exact ⟨0, rfl, Nat.zero_le _, HB1, Nat.le_refl _, HV⟩
    case round =>
      obtain ⟨k, rfl, hk, HB, HZ, HV⟩ := hrel
      by_cases hlt : k < n
      · have hkl : k < l.length := by rw [HLN.out]; exact hlt
        have hy := HI.out _ (List.getElem_mem hkl)
        have hleft := HV.out.left k hkl (Nat.le_refl _)
        have HST := hid (fun (W w2 : World) (x' : Da) (h1 : Below wr.heap.size wr W) (h2 : Below W.heap.size W w2) (hc : x'.own W.heap.size w2.heap.size w2) (hbr : x'.bare = l[k].bare) => HV.out.step (K := kDa) HG.out HZ.out h1 h1.size h2 hkl hc hbr)
        have HCI := hid (fun (W : World) (h1 : Below w.heap.size w W) => cpyDa l[k] W (hy.on h1))
        obtain ⟨y, hye⟩ : ∃ y, l[k] = y := ⟨_, rfl⟩
        rw [hye] at hleft HST HCI
        obtain ⟨⟨la, lc, lt⟩, ba, bc, bs⟩ := y
        dsimp only at hleft HST HCI
        obtain ⟨ln, hln⟩ : ∃ ln, lt.len = ln := ⟨_, rfl⟩
        rw [hln] at HCI
        have c0 : wr.cell? ⟨g, k * 2, none⟩ = some (.slice la ln lc) := by have h := hleft 0 _ rfl; dsimp only [Lst.val] at h; rw [hln] at h; exact h
        have c1 : wr.cell? ⟨g, k * 2 + 1, none⟩ = some (.slice ba bs.length bc) := by have h := hleft 1 _ rfl; exact h
        have hki : (k : Int) < (n : Int) := by omega
        have HSO := hid HV.out.soft
        clear hye hleft hy HV hln
        go_wp2_with fail
        refine (HCI.out _ (HB.out.alloc (HB.out.size) _)).mono ?_
        rintro r w2 ⟨⟨x', rfl, hc, hbr⟩, hb2⟩
        have hA := (Below.refl wr.heap.size wr).alloc (Nat.le_refl _) (.cells #[.slice la ln lc, .slice ba bs.length bc] 88)
        have HN := hid (HST.out _ w2 x' hA hb2 hc hbr)
        have hA2 : Below wr.heap.size wr w2 := hA.trans (hb2.mono hA.size)
        have hgr : g < wr.heap.size := Nat.lt_of_lt_of_le HG.out HZ.out
        have HBF := hid (below_sets (g := g) (x'.v) (k * 2) (HB.out.trans (hA2.mono HB.out.size)) HBG.out)
        have HZF := hid (show w1.heap.size ≤ (w2.setCells g (k * 2) x'.v).heap.size by rw [sets_size]; exact Nat.le_trans HZ.out hA2.size)
        have hso2 : ∃ cs e, w2.heap[g]? = some (.cells cs e (0, 0)) := by
          obtain ⟨cs, e, h⟩ := HSO.out
          exact ⟨cs, e, (hA2.block g hgr).trans h⟩
        obtain ⟨cs, te, hcs⟩ := hso2
        have z := fun j => frozen_of_row w2 g j cs te hcs
        have z0 := z (k * 2)
        have c0 := Go.Proofs.YtckdnhafookcgaaGreatDoor.keep hA2 c0
        have z1 := z (k * 2 + 1)
        have c1 := Go.Proofs.YtckdnhafookcgaaGreatDoor.keep hA2 c1
        clear hc hb2 hA hA2 HST HCI HSO z hcs HB HZ hbr
        obtain ⟨⟨la1, lc1, lt1⟩, ba1, bc1, bs1⟩ := x'
        dsimp only [Da.v, Lst.val, kDa, World.setCells] at HN HBF HZF ⊢
        go_wp2
        go_roundw
        case rel => exact ⟨k + 1, by go_num, by omega, HBF, HZF, HN⟩
        case measure => simp [intOf]; omega
      · obtain rfl : k = n := by omega
        have HE := hid (InvG.end (K := kDa) (c := cap) (by rw [HLN.out]; exact HV.out) HB1.out.size HBG.out (by have := HG.out; have := HZ.out; omega))
        have HX : Hid (MapP kDa l w.heap.size wr (.slice (some ⟨g, 0, none⟩) k cap)) := hid (by have h := HE.out; rw [HLN.out] at h; exact h)
        clear HV hlt hk HE
        go_wp2
        go_ret
        exact ⟨_, rfl, HX.out, HB.out⟩
end Go.Proofs.YtckdnhafookcgaaGreatDoor.Mod

namespace Go.Proofs.YtckdnhafookcgaaGreatDoor.Mod
open Go.RowKit Go.Proofs.YtckdnhafookcgaaGreatDoor.Instr
set_option linter.unusedVariables false

section
variable {α : Type}
/-- A list in blocks of its own, the same as another one but for where its parts lie. -/
structure MapQ (K : Kin α) (l : List α) (lo : Nat) (w : World) (a : Option Addr) (l' : List α) : Prop where
  len : l'.length = l.length
  br : l'.map K.br = l.map K.br
  blk : l' = [] ∨ ∃ b off, a = some ⟨b, off, none⟩ ∧ Blk lo w.heap.size w b
  rows : Rows w.heap.size w a K.sz (l'.map K.V)
  own : ∀ x ∈ l', K.own lo w.heap.size w x
theorem MapP.q {K : Kin α} {l : List α} {lo : Nat} {w : World} {v : Value} (h : MapP K l lo w v) : ∃ a c l', v = .slice a l.length c ∧ MapQ K l lo w a l' := by
  obtain ⟨a, c, l', h1, h2, h3, h4, h5, h6⟩ := h
  exact ⟨a, c, l', h1, h2, h3, h4, h5, h6⟩
theorem MapQ.on {K : Kin α} {l l' : List α} {lo : Nat} {w w' : World} {a : Option Addr} (h : MapQ K l lo w a l') (s : Same2 lo w.heap.size w w') (hz : w.heap.size ≤ w'.heap.size) : MapQ K l lo w' a l' := by
  refine ⟨h.len, h.br, ?_, ?_, fun x hx => K.mono (Nat.le_refl _) hz (K.frame s (h.own x hx))⟩
  · rcases h.blk with h1 | ⟨b, off, h1, h2⟩
    · exact .inl h1
    · exact .inr ⟨b, off, h1, (h2.frame s).mono (Nat.le_refl _) hz⟩
  · rcases h.blk with h1 | ⟨b, off, h1, h2⟩
    · exact .inl (by rw [h1]; rfl)
    · rcases h.rows with h3 | ⟨b', off', h3, h4, h5⟩
      · exact .inl h3
      · rw [h1] at h3
        simp only [Option.some.injEq, Addr.mk.injEq, and_true] at h3
        obtain ⟨rfl, rfl⟩ := h3
        exact .inr ⟨b, off, h1, by omega, fun i hi j hj v hv => (s.cell h2.1 h2.2.1).trans (h5 i hi j hj v hv)⟩
theorem MapQ.low {K : Kin α} {l l' : List α} {lo lo' : Nat} {w : World} {a : Option Addr} (h : MapQ K l lo w a l') (hl : lo' ≤ lo) : MapQ K l lo' w a l' := by
  refine ⟨h.len, h.br, ?_, h.rows, fun x hx => K.mono hl (Nat.le_refl _) (h.own x hx)⟩
  rcases h.blk with h1 | ⟨b, off, h1, h2⟩
  · exact .inl h1
  · exact .inr ⟨b, off, h1, h2.mono hl (Nat.le_refl _)⟩
theorem own_mapQ {K : Kin α} {l : List α} {e : TypeId} {base : Nat} {w : World} {v : Value} (h : OwnR e K.sz base w v (l.map K.V)) (ho : ∀ lo hi w x, K.own lo hi w x) : ∃ a c, v = .slice a l.length c ∧ MapQ K l base w a l := by
  obtain ⟨a, c, hv, hr, hb⟩ := OwnR.rows h
  rw [List.length_map] at hv
  refine ⟨a, c, hv, rfl, rfl, ?_, hr, fun x _ => ho _ _ _ x⟩
  rcases h.row.2 with ⟨h1, h0⟩ | ⟨g, cap, cur, h1, hg, hh, _⟩
  · rw [List.length_map] at h0
    exact .inl (List.eq_nil_of_length_eq_zero h0)
  · rw [hv] at h1
    simp only [Value.slice.injEq] at h1
    exact .inr ⟨g, 0, h1.1, hg, (Array.getElem?_eq_some_iff.1 hh).1, cur, e, hh⟩
theorem MapQ.rowO {K : Kin α} {l l' : List α} {lo : Nat} {w : World} {a : Option Addr} (h : MapQ K l lo w a l') {ks : List Kd} (hk : ks.length = K.sz) (hc : ∀ x ∈ l', K.own lo w.heap.size w x → ∀ (j : Nat) (k : Kd), ks[j]? = some k → ∃ v, (K.V x)[j]? = some v ∧ CellO lo w.heap.size w k v) : RowO lo w.heap.size w ks a l'.length := by
  rcases h.blk with h1 | ⟨b, off, h1, h2⟩
  · exact .inl (by rw [h1]; rfl)
  · refine .inr ⟨b, off, h1, h2, fun i hi j k hjk => ?_⟩
    rcases h.rows with h3 | ⟨b', off', h3, h4, h5⟩
    · rw [List.map_eq_nil_iff] at h3; rw [h3] at hi; simp at hi
    · rw [h1] at h3
      simp only [Option.some.injEq, Addr.mk.injEq, and_true] at h3
      obtain ⟨rfl, rfl⟩ := h3
      have hx := List.getElem_mem hi
      obtain ⟨v, hv, hcv⟩ := hc _ hx (h.own _ hx) j k hjk
      have hj : j < K.sz := by rw [← hk]; exact (List.getElem?_eq_some_iff.1 hjk).1
      refine ⟨v, ?_, hcv⟩
      rw [hk]
      exact h5 i (by simpa using hi) j hj v (by rw [List.getD_eq_getElem?_getD, List.getElem?_map, List.getElem?_eq_getElem hi]; exact hv)
end
def kTy : Kin (Int × Int) := ⟨tyV, 2, id, fun _ _ _ _ => True, fun _ => rfl, by omega, fun _ h => h, fun _ _ h => h⟩
theorem kTy_ones (l : List (Int × Int)) : ∀ r ∈ l.map tyV, ∀ u ∈ r, u.oneCell' = true := by
  intro r hr u hu
  obtain ⟨f, _, rfl⟩ := List.mem_map.1 hr
  simp only [tyV, List.mem_cons, List.not_mem_nil, or_false] at hu
  rcases hu with rfl | rfl <;> rfl
theorem kTy_lens (l : List (Int × Int)) : ∀ r ∈ l.map tyV, r.length = 2 := by
  intro r hr
  obtain ⟨f, _, rfl⟩ := List.mem_map.1 hr
  rfl
def kIm : Kin Imp := ⟨Imp.v, 3, id, fun _ _ _ _ => True, fun _ => rfl, by omega, fun _ h => h, fun _ _ h => h⟩
theorem kIm_ones (l : List Imp) : ∀ r ∈ l.map Imp.v, ∀ u ∈ r, u.oneCell' = true := by
  intro r hr u hu
  obtain ⟨f, _, rfl⟩ := List.mem_map.1 hr
  simp only [Imp.v, List.mem_cons, List.not_mem_nil, or_false] at hu
  rcases hu with rfl | rfl | rfl <;> rfl
theorem kIm_lens (l : List Imp) : ∀ r ∈ l.map Imp.v, r.length = 3 := by
  intro r hr
  obtain ⟨f, _, rfl⟩ := List.mem_map.1 hr
  rfl
def kLi : Kin Li := ⟨Li.v, 3, id, fun _ _ _ _ => True, fun _ => rfl, by omega, fun _ h => h, fun _ _ h => h⟩
theorem kLi_ones (l : List Li) : ∀ r ∈ l.map Li.v, ∀ u ∈ r, u.oneCell' = true := by
  intro r hr u hu
  obtain ⟨f, _, rfl⟩ := List.mem_map.1 hr
  simp only [Li.v, List.mem_cons, List.not_mem_nil, or_false] at hu
  rcases hu with rfl | rfl | rfl <;> rfl
theorem kLi_lens (l : List Li) : ∀ r ∈ l.map Li.v, r.length = 3 := by
  intro r hr
  obtain ⟨f, _, rfl⟩ := List.mem_map.1 hr
  rfl
def kEx : Kin Ex := ⟨Ex.v, 3, id, fun _ _ _ _ => True, fun _ => rfl, by omega, fun _ h => h, fun _ _ h => h⟩
theorem kEx_ones (l : List Ex) : ∀ r ∈ l.map Ex.v, ∀ u ∈ r, u.oneCell' = true := by
  intro r hr u hu
  obtain ⟨f, _, rfl⟩ := List.mem_map.1 hr
  simp only [Ex.v, List.mem_cons, List.not_mem_nil, or_false] at hu
  rcases hu with rfl | rfl | rfl <;> rfl
theorem kEx_lens (l : List Ex) : ∀ r ∈ l.map Ex.v, r.length = 3 := by
  intro r hr
  obtain ⟨f, _, rfl⟩ := List.mem_map.1 hr
  rfl
/-- What a module that is copied has. -/
structure Md.inp (w : World) (m : Md) : Prop where
  at_ : ModAt w.heap.size w m
  nty : m.ty.length ≤ 1000000
  nim : m.im.length ≤ 1000000
  nfu : m.fu.length ≤ 1000000
  ntb : m.tb.length ≤ 1000000
  nme : m.me.length ≤ 1000000
  ngl : m.gl.length ≤ 1000000
  nex : m.ex.length ≤ 1000000
  nel : m.el.length ≤ 1000000
  nda : m.da.length ≤ 1000000
  fu : ∀ x ∈ m.fu, x.inp w
  gl : ∀ x ∈ m.gl, x.inp w
  el : ∀ x ∈ m.el, x.inp w
  da : ∀ x ∈ m.da, x.inp w
/-- A copy's lists. -/
structure Cps (lo : Nat) (w : World) (m : Md) (aty aim afu atb ame agl aex ael ada : Option Addr) (lty : List (Int × Int)) (lim : List Imp) (lfu : List Fn) (ltb lme : List Li) (lgl : List Gl) (lex : List Ex) (lel : List El) (lda : List Da) : Prop where
  ty : MapQ kTy m.ty lo w aty lty
  im : MapQ kIm m.im lo w aim lim
  fu : MapQ kFn m.fu lo w afu lfu
  tb : MapQ kLi m.tb lo w atb ltb
  me : MapQ kLi m.me lo w ame lme
  gl : MapQ kGl m.gl lo w agl lgl
  ex : MapQ kEx m.ex lo w aex lex
  el : MapQ kEl m.el lo w ael lel
  da : MapQ kDa m.da lo w ada lda
set_option maxRecDepth 100000 in
set_option maxHeartbeats 8000000 in
theorem Copy_any (m : Md) (w : World) (hi : m.inp w) :
    Calls Tryz.prog 44 #[.agg m.v] w fun e w' => ∃ aty cty aim cim afu cfu atb ctb ame cme agl cgl aex cex ael cel ada cda lty lim lfu ltb lme lgl lex lel lda, e = .returned (.agg #[.slice aty m.ty.length cty, .slice aim m.im.length cim, .slice afu m.fu.length cfu, .slice atb m.tb.length ctb, .slice ame m.me.length cme, .slice agl m.gl.length cgl, .slice aex m.ex.length cex, .bool m.st, .int .u32 m.sn, .slice ael m.el.length cel, .slice ada m.da.length cda]) ∧ Cps w.heap.size w' m aty aim afu atb ame agl aex ael ada lty lim lfu ltb lme lgl lex lel lda ∧ Below w.heap.size w w' := by
  obtain ⟨nty, hnty⟩ : ∃ n, m.ty.length = n := ⟨_, rfl⟩
  obtain ⟨nim, hnim⟩ : ∃ n, m.im.length = n := ⟨_, rfl⟩
  obtain ⟨nfu, hnfu⟩ : ∃ n, m.fu.length = n := ⟨_, rfl⟩
  obtain ⟨ntb, hntb⟩ : ∃ n, m.tb.length = n := ⟨_, rfl⟩
  obtain ⟨nme, hnme⟩ : ∃ n, m.me.length = n := ⟨_, rfl⟩
  obtain ⟨ngl, hngl⟩ : ∃ n, m.gl.length = n := ⟨_, rfl⟩
  obtain ⟨nex, hnex⟩ : ∃ n, m.ex.length = n := ⟨_, rfl⟩
  obtain ⟨nel, hnel⟩ : ∃ n, m.el.length = n := ⟨_, rfl⟩
  obtain ⟨nda, hnda⟩ : ∃ n, m.da.length = n := ⟨_, rfl⟩
  have Cty := hid (fun (W : World) (hb : Below w.heap.size w W) => clone_ty W m.ty'.a nty m.ty'.c (m.ty.map tyV) (by rw [List.length_map]; exact hnty) ((hi.at_.ty.below hb).more hb.size) (kTy_lens _) (kTy_ones _) (by rw [List.length_map]; have := hi.nty; omega))
  have Cim := hid (fun (W : World) (hb : Below w.heap.size w W) => clone_im W m.im'.a nim m.im'.c (m.im.map Imp.v) (by rw [List.length_map]; exact hnim) ((hi.at_.im.below hb).more hb.size) (kIm_lens _) (kIm_ones _) (by rw [List.length_map]; have := hi.nim; omega))
  have Cfu := hid (fun (W : World) (hb : Below w.heap.size w W) => mapFn m.fu m.fu'.a nfu m.fu'.c W hnfu ((hi.at_.fu.below hb).more hb.size) (fun x hx => (hi.fu x hx).on hb) (by rw [← hnfu]; exact hi.nfu))
  have Ctb := hid (fun (W : World) (hb : Below w.heap.size w W) => clone_li W m.tb'.a ntb m.tb'.c (m.tb.map Li.v) (by rw [List.length_map]; exact hntb) ((hi.at_.tb.below hb).more hb.size) (kLi_lens _) (kLi_ones _) (by rw [List.length_map]; have := hi.ntb; omega))
  have Cme := hid (fun (W : World) (hb : Below w.heap.size w W) => clone_li W m.me'.a nme m.me'.c (m.me.map Li.v) (by rw [List.length_map]; exact hnme) ((hi.at_.me.below hb).more hb.size) (kLi_lens _) (kLi_ones _) (by rw [List.length_map]; have := hi.nme; omega))
  have Cgl := hid (fun (W : World) (hb : Below w.heap.size w W) => mapGl m.gl m.gl'.a ngl m.gl'.c W hngl ((hi.at_.gl.below hb).more hb.size) (fun x hx => (hi.gl x hx).on hb) (by rw [← hngl]; exact hi.ngl))
  have Cex := hid (fun (W : World) (hb : Below w.heap.size w W) => clone_ex W m.ex'.a nex m.ex'.c (m.ex.map Ex.v) (by rw [List.length_map]; exact hnex) ((hi.at_.ex.below hb).more hb.size) (kEx_lens _) (kEx_ones _) (by rw [List.length_map]; have := hi.nex; omega))
  have Cel := hid (fun (W : World) (hb : Below w.heap.size w W) => mapEl m.el m.el'.a nel m.el'.c W hnel ((hi.at_.el.below hb).more hb.size) (fun x hx => (hi.el x hx).on hb) (by rw [← hnel]; exact hi.nel))
  have Cda := hid (fun (W : World) (hb : Below w.heap.size w W) => mapDa m.da m.da'.a nda m.da'.c W hnda ((hi.at_.da.below hb).more hb.size) (fun x hx => (hi.da x hx).on hb) (by rw [← hnda]; exact hi.nda))
  show Calls _ _ #[.agg m.v] w _
  unfold Md.v
  rw [hnty, hnim, hnfu, hntb, hnme, hngl, hnex, hnel, hnda]
  obtain ⟨W0, hW0, hb, hr, hs, hz⟩ := two_boxesG w #[.slice m.ty'.a nty m.ty'.c, .slice m.im'.a nim m.im'.c, .slice m.fu'.a nfu m.fu'.c, .slice m.tb'.a ntb m.tb'.c, .slice m.me'.a nme m.me'.c, .slice m.gl'.a ngl m.gl'.c, .slice m.ex'.a nex m.ex'.c, .bool m.st, .int .u32 m.sn, .slice m.el'.a nel m.el'.c, .slice m.da'.a nda m.da'.c] #[.slice none 0 0, .slice none 0 0, .slice none 0 0, .slice none 0 0, .slice none 0 0, .slice none 0 0, .slice none 0 0, .bool false, .int .u32 0, .slice none 0 0, .slice none 0 0] 32
  have HB0 := hid hb
  have HR0 := hid hr
  have HS0 := hid hs
  have HZ0 := hid (Nat.le_of_eq hz.symm)
  have HW := hid hW0
  have HNty := hid hnty
  have HNim := hid hnim
  have HNfu := hid hnfu
  have HNtb := hid hntb
  have HNme := hid hnme
  have HNgl := hid hngl
  have HNex := hid hnex
  have HNel := hid hnel
  have HNda := hid hnda
  clear hi hb hr hs hz hW0 hnty hnim hnfu hntb hnme hngl hnex hnel hnda
  go_enter Tryz.func44, Tryz.ntmps44
  go_upto_region 1 with fail
  rw [← HW.out]
  have cj := cs_cell HR0.out (i := 0) rfl
  go_wp2_with fail
  refine (Cty.out _ HB0.out).mono ?_
  rintro r x1 ⟨v, rfl, ho, hb⟩
  obtain ⟨aty, cty, rfl, hq⟩ := own_mapQ (K := kTy) ho (fun _ _ _ _ => trivial)
  obtain ⟨lty, hlty⟩ : ∃ l', l' = m.ty := ⟨_, rfl⟩
  have HQ := hid (show MapQ kTy m.ty W0.heap.size x1 aty lty by rw [hlty]; exact hq)
  clear ho hq hlty
  rw [HNty.out]
  have ra := (hb.block w.heap.size (by have := HZ0.out; omega)).trans HR0.out
  have sa := (hb.block (w.heap.size + 1) (by have := HZ0.out; omega)).trans HS0.out
  have za : w.heap.size + 2 ≤ x1.heap.size := by have := hb.size; have := HZ0.out; omega
  have cz := cs_cell ra (i := 0) rfl
  have fz := frozen_of_row x1 w.heap.size 0 _ _ ra
  have RA := hid ra
  have SA := hid sa
  have ZA := hid za
  have BA := hid (HB0.out.trans (hb.mono HB0.out.size))
  have HBB := hid hb
  clear ra sa za hb cj Cty
  go_upto_region 2 with fail
  obtain ⟨W1, hW1⟩ : ∃ u, u = x1.setCell ⟨w.heap.size, 0, none⟩ (.slice aty nty cty) := ⟨_, rfl⟩
  rw [← hW1]
  have eW1 : W1.heap.size = x1.heap.size := by rw [hW1]; simp [World.setCell]
  have HR1 : Hid (W1.heap[w.heap.size]? = some (.cells #[.slice aty nty cty, .slice m.im'.a nim m.im'.c, .slice m.fu'.a nfu m.fu'.c, .slice m.tb'.a ntb m.tb'.c, .slice m.me'.a nme m.me'.c, .slice m.gl'.a ngl m.gl'.c, .slice m.ex'.a nex m.ex'.c, .bool m.st, .int .u32 m.sn, .slice m.el'.a nel m.el'.c, .slice m.da'.a nda m.da'.c] 32 (0, 0))) := hid (by rw [hW1]; exact heap_setCell_same x1 w.heap.size 0 _ _ _ RA.out)
  have HS1 : Hid (W1.heap[w.heap.size + 1]? = some (.cells #[.slice none 0 0, .slice none 0 0, .slice none 0 0, .slice none 0 0, .slice none 0 0, .slice none 0 0, .slice none 0 0, .bool false, .int .u32 0, .slice none 0 0, .slice none 0 0] 32 (0, 0))) := hid (by rw [hW1]; exact (Below.heap_setCell x1 ⟨w.heap.size, 0, none⟩ _ (w.heap.size + 1) (by simp)).trans SA.out)
  have HZ1 : Hid (w.heap.size + 2 ≤ W1.heap.size) := hid (by rw [eW1]; exact ZA.out)
  have HB1 : Hid (Below w.heap.size w W1) := hid (by rw [hW1]; exact BA.out.setCell (by simp) _)
  have SM : Hid (∀ hi, Same2 (w.heap.size + 2) hi x1 W1) := hid (fun hi => by rw [hW1]; exact Same2.set (.inl (by omega)))
  have Mty := hid ((HQ.out.low (lo' := w.heap.size + 2) HZ0.out).on (SM.out _) (Nat.le_of_eq eW1.symm))
  clear cz fz RA SA ZA BA HBB SM HQ hW1 eW1 HR0 HS0 HZ0 HB0
  have cj := cs_cell HR1.out (i := 1) rfl
  go_wp2_with fail
  refine (Cim.out _ HB1.out).mono ?_
  rintro r x2 ⟨v, rfl, ho, hb⟩
  obtain ⟨aim, cim, rfl, hq⟩ := own_mapQ (K := kIm) ho (fun _ _ _ _ => trivial)
  obtain ⟨lim, hlim⟩ : ∃ l', l' = m.im := ⟨_, rfl⟩
  have HQ := hid (show MapQ kIm m.im W1.heap.size x2 aim lim by rw [hlim]; exact hq)
  clear ho hq hlim
  rw [HNim.out]
  have ra := (hb.block w.heap.size (by have := HZ1.out; omega)).trans HR1.out
  have sa := (hb.block (w.heap.size + 1) (by have := HZ1.out; omega)).trans HS1.out
  have za : w.heap.size + 2 ≤ x2.heap.size := by have := hb.size; have := HZ1.out; omega
  have cz := cs_cell ra (i := 1) rfl
  have fz := frozen_of_row x2 w.heap.size 1 _ _ ra
  have RA := hid ra
  have SA := hid sa
  have ZA := hid za
  have BA := hid (HB1.out.trans (hb.mono HB1.out.size))
  have HBB := hid hb
  clear ra sa za hb cj Cim
  go_upto_region 3 with fail
  obtain ⟨W2, hW2⟩ : ∃ u, u = x2.setCell ⟨w.heap.size, 1, none⟩ (.slice aim nim cim) := ⟨_, rfl⟩
  rw [← hW2]
  have eW2 : W2.heap.size = x2.heap.size := by rw [hW2]; simp [World.setCell]
  have HR2 : Hid (W2.heap[w.heap.size]? = some (.cells #[.slice aty nty cty, .slice aim nim cim, .slice m.fu'.a nfu m.fu'.c, .slice m.tb'.a ntb m.tb'.c, .slice m.me'.a nme m.me'.c, .slice m.gl'.a ngl m.gl'.c, .slice m.ex'.a nex m.ex'.c, .bool m.st, .int .u32 m.sn, .slice m.el'.a nel m.el'.c, .slice m.da'.a nda m.da'.c] 32 (0, 0))) := hid (by rw [hW2]; exact heap_setCell_same x2 w.heap.size 1 _ _ _ RA.out)
  have HS2 : Hid (W2.heap[w.heap.size + 1]? = some (.cells #[.slice none 0 0, .slice none 0 0, .slice none 0 0, .slice none 0 0, .slice none 0 0, .slice none 0 0, .slice none 0 0, .bool false, .int .u32 0, .slice none 0 0, .slice none 0 0] 32 (0, 0))) := hid (by rw [hW2]; exact (Below.heap_setCell x2 ⟨w.heap.size, 1, none⟩ _ (w.heap.size + 1) (by simp)).trans SA.out)
  have HZ2 : Hid (w.heap.size + 2 ≤ W2.heap.size) := hid (by rw [eW2]; exact ZA.out)
  have HB2 : Hid (Below w.heap.size w W2) := hid (by rw [hW2]; exact BA.out.setCell (by simp) _)
  have SM : Hid (∀ hi, Same2 (w.heap.size + 2) hi x2 W2) := hid (fun hi => by rw [hW2]; exact Same2.set (.inl (by omega)))
  replace Mty := hid ((Mty.out.on (Same2.of_below HBB.out (Nat.le_refl _)) HBB.out.size).on (SM.out _) (Nat.le_of_eq eW2.symm))
  have Mim := hid ((HQ.out.low (lo' := w.heap.size + 2) HZ1.out).on (SM.out _) (Nat.le_of_eq eW2.symm))
  clear cz fz RA SA ZA BA HBB SM HQ hW2 eW2 HR1 HS1 HZ1 HB1
  have cj := cs_cell HR2.out (i := 2) rfl
  go_wp2_with fail
  refine (Cfu.out _ HB2.out).mono ?_
  rintro r x3 ⟨v, rfl, hq, hb⟩
  obtain ⟨afu, cfu, lfu, rfl, hq2⟩ := hq.q
  have HQ := hid hq2
  clear hq2 hq
  rw [HNfu.out]
  have ra := (hb.block w.heap.size (by have := HZ2.out; omega)).trans HR2.out
  have sa := (hb.block (w.heap.size + 1) (by have := HZ2.out; omega)).trans HS2.out
  have za : w.heap.size + 2 ≤ x3.heap.size := by have := hb.size; have := HZ2.out; omega
  have cz := cs_cell ra (i := 2) rfl
  have fz := frozen_of_row x3 w.heap.size 2 _ _ ra
  have RA := hid ra
  have SA := hid sa
  have ZA := hid za
  have BA := hid (HB2.out.trans (hb.mono HB2.out.size))
  have HBB := hid hb
  clear ra sa za hb cj Cfu
  go_upto_region 4 with fail
  obtain ⟨W3, hW3⟩ : ∃ u, u = x3.setCell ⟨w.heap.size, 2, none⟩ (.slice afu nfu cfu) := ⟨_, rfl⟩
  rw [← hW3]
  have eW3 : W3.heap.size = x3.heap.size := by rw [hW3]; simp [World.setCell]
  have HR3 : Hid (W3.heap[w.heap.size]? = some (.cells #[.slice aty nty cty, .slice aim nim cim, .slice afu nfu cfu, .slice m.tb'.a ntb m.tb'.c, .slice m.me'.a nme m.me'.c, .slice m.gl'.a ngl m.gl'.c, .slice m.ex'.a nex m.ex'.c, .bool m.st, .int .u32 m.sn, .slice m.el'.a nel m.el'.c, .slice m.da'.a nda m.da'.c] 32 (0, 0))) := hid (by rw [hW3]; exact heap_setCell_same x3 w.heap.size 2 _ _ _ RA.out)
  have HS3 : Hid (W3.heap[w.heap.size + 1]? = some (.cells #[.slice none 0 0, .slice none 0 0, .slice none 0 0, .slice none 0 0, .slice none 0 0, .slice none 0 0, .slice none 0 0, .bool false, .int .u32 0, .slice none 0 0, .slice none 0 0] 32 (0, 0))) := hid (by rw [hW3]; exact (Below.heap_setCell x3 ⟨w.heap.size, 2, none⟩ _ (w.heap.size + 1) (by simp)).trans SA.out)
  have HZ3 : Hid (w.heap.size + 2 ≤ W3.heap.size) := hid (by rw [eW3]; exact ZA.out)
  have HB3 : Hid (Below w.heap.size w W3) := hid (by rw [hW3]; exact BA.out.setCell (by simp) _)
  have SM : Hid (∀ hi, Same2 (w.heap.size + 2) hi x3 W3) := hid (fun hi => by rw [hW3]; exact Same2.set (.inl (by omega)))
  replace Mty := hid ((Mty.out.on (Same2.of_below HBB.out (Nat.le_refl _)) HBB.out.size).on (SM.out _) (Nat.le_of_eq eW3.symm))
  replace Mim := hid ((Mim.out.on (Same2.of_below HBB.out (Nat.le_refl _)) HBB.out.size).on (SM.out _) (Nat.le_of_eq eW3.symm))
  have Mfu := hid ((HQ.out.low (lo' := w.heap.size + 2) HZ2.out).on (SM.out _) (Nat.le_of_eq eW3.symm))
  clear cz fz RA SA ZA BA HBB SM HQ hW3 eW3 HR2 HS2 HZ2 HB2
  have cj := cs_cell HR3.out (i := 3) rfl
  go_wp2_with fail
  refine (Ctb.out _ HB3.out).mono ?_
  rintro r x4 ⟨v, rfl, ho, hb⟩
  obtain ⟨atb, ctb, rfl, hq⟩ := own_mapQ (K := kLi) ho (fun _ _ _ _ => trivial)
  obtain ⟨ltb, hltb⟩ : ∃ l', l' = m.tb := ⟨_, rfl⟩
  have HQ := hid (show MapQ kLi m.tb W3.heap.size x4 atb ltb by rw [hltb]; exact hq)
  clear ho hq hltb
  rw [HNtb.out]
  have ra := (hb.block w.heap.size (by have := HZ3.out; omega)).trans HR3.out
  have sa := (hb.block (w.heap.size + 1) (by have := HZ3.out; omega)).trans HS3.out
  have za : w.heap.size + 2 ≤ x4.heap.size := by have := hb.size; have := HZ3.out; omega
  have cz := cs_cell ra (i := 3) rfl
  have fz := frozen_of_row x4 w.heap.size 3 _ _ ra
  have RA := hid ra
  have SA := hid sa
  have ZA := hid za
  have BA := hid (HB3.out.trans (hb.mono HB3.out.size))
  have HBB := hid hb
  clear ra sa za hb cj Ctb
  go_upto_region 5 with fail
  obtain ⟨W4, hW4⟩ : ∃ u, u = x4.setCell ⟨w.heap.size, 3, none⟩ (.slice atb ntb ctb) := ⟨_, rfl⟩
  rw [← hW4]
  have eW4 : W4.heap.size = x4.heap.size := by rw [hW4]; simp [World.setCell]
  have HR4 : Hid (W4.heap[w.heap.size]? = some (.cells #[.slice aty nty cty, .slice aim nim cim, .slice afu nfu cfu, .slice atb ntb ctb, .slice m.me'.a nme m.me'.c, .slice m.gl'.a ngl m.gl'.c, .slice m.ex'.a nex m.ex'.c, .bool m.st, .int .u32 m.sn, .slice m.el'.a nel m.el'.c, .slice m.da'.a nda m.da'.c] 32 (0, 0))) := hid (by rw [hW4]; exact heap_setCell_same x4 w.heap.size 3 _ _ _ RA.out)
  have HS4 : Hid (W4.heap[w.heap.size + 1]? = some (.cells #[.slice none 0 0, .slice none 0 0, .slice none 0 0, .slice none 0 0, .slice none 0 0, .slice none 0 0, .slice none 0 0, .bool false, .int .u32 0, .slice none 0 0, .slice none 0 0] 32 (0, 0))) := hid (by rw [hW4]; exact (Below.heap_setCell x4 ⟨w.heap.size, 3, none⟩ _ (w.heap.size + 1) (by simp)).trans SA.out)
  have HZ4 : Hid (w.heap.size + 2 ≤ W4.heap.size) := hid (by rw [eW4]; exact ZA.out)
  have HB4 : Hid (Below w.heap.size w W4) := hid (by rw [hW4]; exact BA.out.setCell (by simp) _)
  have SM : Hid (∀ hi, Same2 (w.heap.size + 2) hi x4 W4) := hid (fun hi => by rw [hW4]; exact Same2.set (.inl (by omega)))
  replace Mty := hid ((Mty.out.on (Same2.of_below HBB.out (Nat.le_refl _)) HBB.out.size).on (SM.out _) (Nat.le_of_eq eW4.symm))
  replace Mim := hid ((Mim.out.on (Same2.of_below HBB.out (Nat.le_refl _)) HBB.out.size).on (SM.out _) (Nat.le_of_eq eW4.symm))
  replace Mfu := hid ((Mfu.out.on (Same2.of_below HBB.out (Nat.le_refl _)) HBB.out.size).on (SM.out _) (Nat.le_of_eq eW4.symm))
  have Mtb := hid ((HQ.out.low (lo' := w.heap.size + 2) HZ3.out).on (SM.out _) (Nat.le_of_eq eW4.symm))
  clear cz fz RA SA ZA BA HBB SM HQ hW4 eW4 HR3 HS3 HZ3 HB3
  have cj := cs_cell HR4.out (i := 4) rfl
  go_wp2_with fail
  refine (Cme.out _ HB4.out).mono ?_
  rintro r x5 ⟨v, rfl, ho, hb⟩
  obtain ⟨ame, cme, rfl, hq⟩ := own_mapQ (K := kLi) ho (fun _ _ _ _ => trivial)
  obtain ⟨lme, hlme⟩ : ∃ l', l' = m.me := ⟨_, rfl⟩
  have HQ := hid (show MapQ kLi m.me W4.heap.size x5 ame lme by rw [hlme]; exact hq)
  clear ho hq hlme
  rw [HNme.out]
  have ra := (hb.block w.heap.size (by have := HZ4.out; omega)).trans HR4.out
  have sa := (hb.block (w.heap.size + 1) (by have := HZ4.out; omega)).trans HS4.out
  have za : w.heap.size + 2 ≤ x5.heap.size := by have := hb.size; have := HZ4.out; omega
  have cz := cs_cell ra (i := 4) rfl
  have fz := frozen_of_row x5 w.heap.size 4 _ _ ra
  have RA := hid ra
  have SA := hid sa
  have ZA := hid za
  have BA := hid (HB4.out.trans (hb.mono HB4.out.size))
  have HBB := hid hb
  clear ra sa za hb cj Cme
  go_upto_region 6 with fail
  obtain ⟨W5, hW5⟩ : ∃ u, u = x5.setCell ⟨w.heap.size, 4, none⟩ (.slice ame nme cme) := ⟨_, rfl⟩
  rw [← hW5]
  have eW5 : W5.heap.size = x5.heap.size := by rw [hW5]; simp [World.setCell]
  have HR5 : Hid (W5.heap[w.heap.size]? = some (.cells #[.slice aty nty cty, .slice aim nim cim, .slice afu nfu cfu, .slice atb ntb ctb, .slice ame nme cme, .slice m.gl'.a ngl m.gl'.c, .slice m.ex'.a nex m.ex'.c, .bool m.st, .int .u32 m.sn, .slice m.el'.a nel m.el'.c, .slice m.da'.a nda m.da'.c] 32 (0, 0))) := hid (by rw [hW5]; exact heap_setCell_same x5 w.heap.size 4 _ _ _ RA.out)
  have HS5 : Hid (W5.heap[w.heap.size + 1]? = some (.cells #[.slice none 0 0, .slice none 0 0, .slice none 0 0, .slice none 0 0, .slice none 0 0, .slice none 0 0, .slice none 0 0, .bool false, .int .u32 0, .slice none 0 0, .slice none 0 0] 32 (0, 0))) := hid (by rw [hW5]; exact (Below.heap_setCell x5 ⟨w.heap.size, 4, none⟩ _ (w.heap.size + 1) (by simp)).trans SA.out)
  have HZ5 : Hid (w.heap.size + 2 ≤ W5.heap.size) := hid (by rw [eW5]; exact ZA.out)
  have HB5 : Hid (Below w.heap.size w W5) := hid (by rw [hW5]; exact BA.out.setCell (by simp) _)
  have SM : Hid (∀ hi, Same2 (w.heap.size + 2) hi x5 W5) := hid (fun hi => by rw [hW5]; exact Same2.set (.inl (by omega)))
  replace Mty := hid ((Mty.out.on (Same2.of_below HBB.out (Nat.le_refl _)) HBB.out.size).on (SM.out _) (Nat.le_of_eq eW5.symm))
  replace Mim := hid ((Mim.out.on (Same2.of_below HBB.out (Nat.le_refl _)) HBB.out.size).on (SM.out _) (Nat.le_of_eq eW5.symm))
  replace Mfu := hid ((Mfu.out.on (Same2.of_below HBB.out (Nat.le_refl _)) HBB.out.size).on (SM.out _) (Nat.le_of_eq eW5.symm))
  replace Mtb := hid ((Mtb.out.on (Same2.of_below HBB.out (Nat.le_refl _)) HBB.out.size).on (SM.out _) (Nat.le_of_eq eW5.symm))
  have Mme := hid ((HQ.out.low (lo' := w.heap.size + 2) HZ4.out).on (SM.out _) (Nat.le_of_eq eW5.symm))
  clear cz fz RA SA ZA BA HBB SM HQ hW5 eW5 HR4 HS4 HZ4 HB4
  have cj := cs_cell HR5.out (i := 5) rfl
  go_wp2_with fail
  refine (Cgl.out _ HB5.out).mono ?_
  rintro r x6 ⟨v, rfl, hq, hb⟩
  obtain ⟨agl, cgl, lgl, rfl, hq2⟩ := hq.q
  have HQ := hid hq2
  clear hq2 hq
  rw [HNgl.out]
  have ra := (hb.block w.heap.size (by have := HZ5.out; omega)).trans HR5.out
  have sa := (hb.block (w.heap.size + 1) (by have := HZ5.out; omega)).trans HS5.out
  have za : w.heap.size + 2 ≤ x6.heap.size := by have := hb.size; have := HZ5.out; omega
  have cz := cs_cell ra (i := 5) rfl
  have fz := frozen_of_row x6 w.heap.size 5 _ _ ra
  have RA := hid ra
  have SA := hid sa
  have ZA := hid za
  have BA := hid (HB5.out.trans (hb.mono HB5.out.size))
  have HBB := hid hb
  clear ra sa za hb cj Cgl
  go_upto_region 7 with fail
  obtain ⟨W6, hW6⟩ : ∃ u, u = x6.setCell ⟨w.heap.size, 5, none⟩ (.slice agl ngl cgl) := ⟨_, rfl⟩
  rw [← hW6]
  have eW6 : W6.heap.size = x6.heap.size := by rw [hW6]; simp [World.setCell]
  have HR6 : Hid (W6.heap[w.heap.size]? = some (.cells #[.slice aty nty cty, .slice aim nim cim, .slice afu nfu cfu, .slice atb ntb ctb, .slice ame nme cme, .slice agl ngl cgl, .slice m.ex'.a nex m.ex'.c, .bool m.st, .int .u32 m.sn, .slice m.el'.a nel m.el'.c, .slice m.da'.a nda m.da'.c] 32 (0, 0))) := hid (by rw [hW6]; exact heap_setCell_same x6 w.heap.size 5 _ _ _ RA.out)
  have HS6 : Hid (W6.heap[w.heap.size + 1]? = some (.cells #[.slice none 0 0, .slice none 0 0, .slice none 0 0, .slice none 0 0, .slice none 0 0, .slice none 0 0, .slice none 0 0, .bool false, .int .u32 0, .slice none 0 0, .slice none 0 0] 32 (0, 0))) := hid (by rw [hW6]; exact (Below.heap_setCell x6 ⟨w.heap.size, 5, none⟩ _ (w.heap.size + 1) (by simp)).trans SA.out)
  have HZ6 : Hid (w.heap.size + 2 ≤ W6.heap.size) := hid (by rw [eW6]; exact ZA.out)
  have HB6 : Hid (Below w.heap.size w W6) := hid (by rw [hW6]; exact BA.out.setCell (by simp) _)
  have SM : Hid (∀ hi, Same2 (w.heap.size + 2) hi x6 W6) := hid (fun hi => by rw [hW6]; exact Same2.set (.inl (by omega)))
  replace Mty := hid ((Mty.out.on (Same2.of_below HBB.out (Nat.le_refl _)) HBB.out.size).on (SM.out _) (Nat.le_of_eq eW6.symm))
  replace Mim := hid ((Mim.out.on (Same2.of_below HBB.out (Nat.le_refl _)) HBB.out.size).on (SM.out _) (Nat.le_of_eq eW6.symm))
  replace Mfu := hid ((Mfu.out.on (Same2.of_below HBB.out (Nat.le_refl _)) HBB.out.size).on (SM.out _) (Nat.le_of_eq eW6.symm))
  replace Mtb := hid ((Mtb.out.on (Same2.of_below HBB.out (Nat.le_refl _)) HBB.out.size).on (SM.out _) (Nat.le_of_eq eW6.symm))
  replace Mme := hid ((Mme.out.on (Same2.of_below HBB.out (Nat.le_refl _)) HBB.out.size).on (SM.out _) (Nat.le_of_eq eW6.symm))
  have Mgl := hid ((HQ.out.low (lo' := w.heap.size + 2) HZ5.out).on (SM.out _) (Nat.le_of_eq eW6.symm))
  clear cz fz RA SA ZA BA HBB SM HQ hW6 eW6 HR5 HS5 HZ5 HB5
  have cj := cs_cell HR6.out (i := 6) rfl
  go_wp2_with fail
  refine (Cex.out _ HB6.out).mono ?_
  rintro r x7 ⟨v, rfl, ho, hb⟩
  obtain ⟨aex, cex, rfl, hq⟩ := own_mapQ (K := kEx) ho (fun _ _ _ _ => trivial)
  obtain ⟨lex, hlex⟩ : ∃ l', l' = m.ex := ⟨_, rfl⟩
  have HQ := hid (show MapQ kEx m.ex W6.heap.size x7 aex lex by rw [hlex]; exact hq)
  clear ho hq hlex
  rw [HNex.out]
  have ra := (hb.block w.heap.size (by have := HZ6.out; omega)).trans HR6.out
  have sa := (hb.block (w.heap.size + 1) (by have := HZ6.out; omega)).trans HS6.out
  have za : w.heap.size + 2 ≤ x7.heap.size := by have := hb.size; have := HZ6.out; omega
  have cz := cs_cell ra (i := 6) rfl
  have fz := frozen_of_row x7 w.heap.size 6 _ _ ra
  have RA := hid ra
  have SA := hid sa
  have ZA := hid za
  have BA := hid (HB6.out.trans (hb.mono HB6.out.size))
  have HBB := hid hb
  clear ra sa za hb cj Cex
  go_upto_region 8 with fail
  obtain ⟨W7, hW7⟩ : ∃ u, u = x7.setCell ⟨w.heap.size, 6, none⟩ (.slice aex nex cex) := ⟨_, rfl⟩
  rw [← hW7]
  have eW7 : W7.heap.size = x7.heap.size := by rw [hW7]; simp [World.setCell]
  have HR7 : Hid (W7.heap[w.heap.size]? = some (.cells #[.slice aty nty cty, .slice aim nim cim, .slice afu nfu cfu, .slice atb ntb ctb, .slice ame nme cme, .slice agl ngl cgl, .slice aex nex cex, .bool m.st, .int .u32 m.sn, .slice m.el'.a nel m.el'.c, .slice m.da'.a nda m.da'.c] 32 (0, 0))) := hid (by rw [hW7]; exact heap_setCell_same x7 w.heap.size 6 _ _ _ RA.out)
  have HS7 : Hid (W7.heap[w.heap.size + 1]? = some (.cells #[.slice none 0 0, .slice none 0 0, .slice none 0 0, .slice none 0 0, .slice none 0 0, .slice none 0 0, .slice none 0 0, .bool false, .int .u32 0, .slice none 0 0, .slice none 0 0] 32 (0, 0))) := hid (by rw [hW7]; exact (Below.heap_setCell x7 ⟨w.heap.size, 6, none⟩ _ (w.heap.size + 1) (by simp)).trans SA.out)
  have HZ7 : Hid (w.heap.size + 2 ≤ W7.heap.size) := hid (by rw [eW7]; exact ZA.out)
  have HB7 : Hid (Below w.heap.size w W7) := hid (by rw [hW7]; exact BA.out.setCell (by simp) _)
  have SM : Hid (∀ hi, Same2 (w.heap.size + 2) hi x7 W7) := hid (fun hi => by rw [hW7]; exact Same2.set (.inl (by omega)))
  replace Mty := hid ((Mty.out.on (Same2.of_below HBB.out (Nat.le_refl _)) HBB.out.size).on (SM.out _) (Nat.le_of_eq eW7.symm))
  replace Mim := hid ((Mim.out.on (Same2.of_below HBB.out (Nat.le_refl _)) HBB.out.size).on (SM.out _) (Nat.le_of_eq eW7.symm))
  replace Mfu := hid ((Mfu.out.on (Same2.of_below HBB.out (Nat.le_refl _)) HBB.out.size).on (SM.out _) (Nat.le_of_eq eW7.symm))
  replace Mtb := hid ((Mtb.out.on (Same2.of_below HBB.out (Nat.le_refl _)) HBB.out.size).on (SM.out _) (Nat.le_of_eq eW7.symm))
  replace Mme := hid ((Mme.out.on (Same2.of_below HBB.out (Nat.le_refl _)) HBB.out.size).on (SM.out _) (Nat.le_of_eq eW7.symm))
  replace Mgl := hid ((Mgl.out.on (Same2.of_below HBB.out (Nat.le_refl _)) HBB.out.size).on (SM.out _) (Nat.le_of_eq eW7.symm))
  have Mex := hid ((HQ.out.low (lo' := w.heap.size + 2) HZ6.out).on (SM.out _) (Nat.le_of_eq eW7.symm))
  clear cz fz RA SA ZA BA HBB SM HQ hW7 eW7 HR6 HS6 HZ6 HB6
  have cj := cs_cell HR7.out (i := 9) rfl
  go_wp2_with fail
  refine (Cel.out _ HB7.out).mono ?_
  rintro r x8 ⟨v, rfl, hq, hb⟩
  obtain ⟨ael, cel, lel, rfl, hq2⟩ := hq.q
  have HQ := hid hq2
  clear hq2 hq
  rw [HNel.out]
  have ra := (hb.block w.heap.size (by have := HZ7.out; omega)).trans HR7.out
  have sa := (hb.block (w.heap.size + 1) (by have := HZ7.out; omega)).trans HS7.out
  have za : w.heap.size + 2 ≤ x8.heap.size := by have := hb.size; have := HZ7.out; omega
  have cz := cs_cell ra (i := 9) rfl
  have fz := frozen_of_row x8 w.heap.size 9 _ _ ra
  have RA := hid ra
  have SA := hid sa
  have ZA := hid za
  have BA := hid (HB7.out.trans (hb.mono HB7.out.size))
  have HBB := hid hb
  clear ra sa za hb cj Cel
  go_upto_region 9 with fail
  obtain ⟨W8, hW8⟩ : ∃ u, u = x8.setCell ⟨w.heap.size, 9, none⟩ (.slice ael nel cel) := ⟨_, rfl⟩
  rw [← hW8]
  have eW8 : W8.heap.size = x8.heap.size := by rw [hW8]; simp [World.setCell]
  have HR8 : Hid (W8.heap[w.heap.size]? = some (.cells #[.slice aty nty cty, .slice aim nim cim, .slice afu nfu cfu, .slice atb ntb ctb, .slice ame nme cme, .slice agl ngl cgl, .slice aex nex cex, .bool m.st, .int .u32 m.sn, .slice ael nel cel, .slice m.da'.a nda m.da'.c] 32 (0, 0))) := hid (by rw [hW8]; exact heap_setCell_same x8 w.heap.size 9 _ _ _ RA.out)
  have HS8 : Hid (W8.heap[w.heap.size + 1]? = some (.cells #[.slice none 0 0, .slice none 0 0, .slice none 0 0, .slice none 0 0, .slice none 0 0, .slice none 0 0, .slice none 0 0, .bool false, .int .u32 0, .slice none 0 0, .slice none 0 0] 32 (0, 0))) := hid (by rw [hW8]; exact (Below.heap_setCell x8 ⟨w.heap.size, 9, none⟩ _ (w.heap.size + 1) (by simp)).trans SA.out)
  have HZ8 : Hid (w.heap.size + 2 ≤ W8.heap.size) := hid (by rw [eW8]; exact ZA.out)
  have HB8 : Hid (Below w.heap.size w W8) := hid (by rw [hW8]; exact BA.out.setCell (by simp) _)
  have SM : Hid (∀ hi, Same2 (w.heap.size + 2) hi x8 W8) := hid (fun hi => by rw [hW8]; exact Same2.set (.inl (by omega)))
  replace Mty := hid ((Mty.out.on (Same2.of_below HBB.out (Nat.le_refl _)) HBB.out.size).on (SM.out _) (Nat.le_of_eq eW8.symm))
  replace Mim := hid ((Mim.out.on (Same2.of_below HBB.out (Nat.le_refl _)) HBB.out.size).on (SM.out _) (Nat.le_of_eq eW8.symm))
  replace Mfu := hid ((Mfu.out.on (Same2.of_below HBB.out (Nat.le_refl _)) HBB.out.size).on (SM.out _) (Nat.le_of_eq eW8.symm))
  replace Mtb := hid ((Mtb.out.on (Same2.of_below HBB.out (Nat.le_refl _)) HBB.out.size).on (SM.out _) (Nat.le_of_eq eW8.symm))
  replace Mme := hid ((Mme.out.on (Same2.of_below HBB.out (Nat.le_refl _)) HBB.out.size).on (SM.out _) (Nat.le_of_eq eW8.symm))
  replace Mgl := hid ((Mgl.out.on (Same2.of_below HBB.out (Nat.le_refl _)) HBB.out.size).on (SM.out _) (Nat.le_of_eq eW8.symm))
  replace Mex := hid ((Mex.out.on (Same2.of_below HBB.out (Nat.le_refl _)) HBB.out.size).on (SM.out _) (Nat.le_of_eq eW8.symm))
  have Mel := hid ((HQ.out.low (lo' := w.heap.size + 2) HZ7.out).on (SM.out _) (Nat.le_of_eq eW8.symm))
  clear cz fz RA SA ZA BA HBB SM HQ hW8 eW8 HR7 HS7 HZ7 HB7
  have cj := cs_cell HR8.out (i := 10) rfl
  go_wp2_with fail
  refine (Cda.out _ HB8.out).mono ?_
  rintro r x9 ⟨v, rfl, hq, hb⟩
  obtain ⟨ada, cda, lda, rfl, hq2⟩ := hq.q
  have HQ := hid hq2
  clear hq2 hq
  rw [HNda.out]
  have ra := (hb.block w.heap.size (by have := HZ8.out; omega)).trans HR8.out
  have sa := (hb.block (w.heap.size + 1) (by have := HZ8.out; omega)).trans HS8.out
  have za : w.heap.size + 2 ≤ x9.heap.size := by have := hb.size; have := HZ8.out; omega
  have cz := cs_cell ra (i := 10) rfl
  have fz := frozen_of_row x9 w.heap.size 10 _ _ ra
  have RA := hid ra
  have SA := hid sa
  have ZA := hid za
  have BA := hid (HB8.out.trans (hb.mono HB8.out.size))
  have HBB := hid hb
  clear ra sa za hb cj Cda
  go_upto_region 10 with fail
  obtain ⟨W9, hW9⟩ : ∃ u, u = x9.setCell ⟨w.heap.size, 10, none⟩ (.slice ada nda cda) := ⟨_, rfl⟩
  rw [← hW9]
  have eW9 : W9.heap.size = x9.heap.size := by rw [hW9]; simp [World.setCell]
  have HR9 : Hid (W9.heap[w.heap.size]? = some (.cells #[.slice aty nty cty, .slice aim nim cim, .slice afu nfu cfu, .slice atb ntb ctb, .slice ame nme cme, .slice agl ngl cgl, .slice aex nex cex, .bool m.st, .int .u32 m.sn, .slice ael nel cel, .slice ada nda cda] 32 (0, 0))) := hid (by rw [hW9]; exact heap_setCell_same x9 w.heap.size 10 _ _ _ RA.out)
  have HS9 : Hid (W9.heap[w.heap.size + 1]? = some (.cells #[.slice none 0 0, .slice none 0 0, .slice none 0 0, .slice none 0 0, .slice none 0 0, .slice none 0 0, .slice none 0 0, .bool false, .int .u32 0, .slice none 0 0, .slice none 0 0] 32 (0, 0))) := hid (by rw [hW9]; exact (Below.heap_setCell x9 ⟨w.heap.size, 10, none⟩ _ (w.heap.size + 1) (by simp)).trans SA.out)
  have HZ9 : Hid (w.heap.size + 2 ≤ W9.heap.size) := hid (by rw [eW9]; exact ZA.out)
  have HB9 : Hid (Below w.heap.size w W9) := hid (by rw [hW9]; exact BA.out.setCell (by simp) _)
  have SM : Hid (∀ hi, Same2 (w.heap.size + 2) hi x9 W9) := hid (fun hi => by rw [hW9]; exact Same2.set (.inl (by omega)))
  replace Mty := hid ((Mty.out.on (Same2.of_below HBB.out (Nat.le_refl _)) HBB.out.size).on (SM.out _) (Nat.le_of_eq eW9.symm))
  replace Mim := hid ((Mim.out.on (Same2.of_below HBB.out (Nat.le_refl _)) HBB.out.size).on (SM.out _) (Nat.le_of_eq eW9.symm))
  replace Mfu := hid ((Mfu.out.on (Same2.of_below HBB.out (Nat.le_refl _)) HBB.out.size).on (SM.out _) (Nat.le_of_eq eW9.symm))
  replace Mtb := hid ((Mtb.out.on (Same2.of_below HBB.out (Nat.le_refl _)) HBB.out.size).on (SM.out _) (Nat.le_of_eq eW9.symm))
  replace Mme := hid ((Mme.out.on (Same2.of_below HBB.out (Nat.le_refl _)) HBB.out.size).on (SM.out _) (Nat.le_of_eq eW9.symm))
  replace Mgl := hid ((Mgl.out.on (Same2.of_below HBB.out (Nat.le_refl _)) HBB.out.size).on (SM.out _) (Nat.le_of_eq eW9.symm))
  replace Mex := hid ((Mex.out.on (Same2.of_below HBB.out (Nat.le_refl _)) HBB.out.size).on (SM.out _) (Nat.le_of_eq eW9.symm))
  replace Mel := hid ((Mel.out.on (Same2.of_below HBB.out (Nat.le_refl _)) HBB.out.size).on (SM.out _) (Nat.le_of_eq eW9.symm))
  have Mda := hid ((HQ.out.low (lo' := w.heap.size + 2) HZ8.out).on (SM.out _) (Nat.le_of_eq eW9.symm))
  clear cz fz RA SA ZA BA HBB SM HQ hW9 eW9 HR8 HS8 HZ8 HB8
  have x0 := cs_cell HR9.out (i := 0) rfl
  have y0 := cs_cell HS9.out (i := 0) rfl
  have v0 := frozen_of_row W9 (w.heap.size + 1) 0 _ _ HS9.out
  have x1 := cs_cell HR9.out (i := 1) rfl
  have y1 := cs_cell HS9.out (i := 1) rfl
  have v1 := frozen_of_row W9 (w.heap.size + 1) 1 _ _ HS9.out
  have x2 := cs_cell HR9.out (i := 2) rfl
  have y2 := cs_cell HS9.out (i := 2) rfl
  have v2 := frozen_of_row W9 (w.heap.size + 1) 2 _ _ HS9.out
  have x3 := cs_cell HR9.out (i := 3) rfl
  have y3 := cs_cell HS9.out (i := 3) rfl
  have v3 := frozen_of_row W9 (w.heap.size + 1) 3 _ _ HS9.out
  have x4 := cs_cell HR9.out (i := 4) rfl
  have y4 := cs_cell HS9.out (i := 4) rfl
  have v4 := frozen_of_row W9 (w.heap.size + 1) 4 _ _ HS9.out
  have x5 := cs_cell HR9.out (i := 5) rfl
  have y5 := cs_cell HS9.out (i := 5) rfl
  have v5 := frozen_of_row W9 (w.heap.size + 1) 5 _ _ HS9.out
  have x6 := cs_cell HR9.out (i := 6) rfl
  have y6 := cs_cell HS9.out (i := 6) rfl
  have v6 := frozen_of_row W9 (w.heap.size + 1) 6 _ _ HS9.out
  have x7 := cs_cell HR9.out (i := 7) rfl
  have y7 := cs_cell HS9.out (i := 7) rfl
  have v7 := frozen_of_row W9 (w.heap.size + 1) 7 _ _ HS9.out
  have x8 := cs_cell HR9.out (i := 8) rfl
  have y8 := cs_cell HS9.out (i := 8) rfl
  have v8 := frozen_of_row W9 (w.heap.size + 1) 8 _ _ HS9.out
  have x9 := cs_cell HR9.out (i := 9) rfl
  have y9 := cs_cell HS9.out (i := 9) rfl
  have v9 := frozen_of_row W9 (w.heap.size + 1) 9 _ _ HS9.out
  have x10 := cs_cell HR9.out (i := 10) rfl
  have y10 := cs_cell HS9.out (i := 10) rfl
  have v10 := frozen_of_row W9 (w.heap.size + 1) 10 _ _ HS9.out
  go_wp2
  clear x0 y0 v0 x1 y1 v1 x2 y2 v2 x3 y3 v3 x4 y4 v4 x5 y5 v5 x6 y6 v6 x7 y7 v7 x8 y8 v8 x9 y9 v9 x10 y10 v10
  have HEV0 := hid (rfl : W9.heap.size = W9.heap.size)
  have HFV0 : Hid (Same2 (w.heap.size + 2) W9.heap.size W9 W9) := hid (fun _ _ _ => rfl)
  have HRV0 := HS9
  have HBV0 := HB9
  obtain ⟨V1, hV1⟩ : ∃ u, u = W9.setCell ⟨w.heap.size + 1, 0, none⟩ (.slice aty nty cty) := ⟨_, rfl⟩
  rw [← hV1]
  have HRV1 : Hid (V1.heap[w.heap.size + 1]? = some (.cells #[.slice aty nty cty, .slice none 0 0, .slice none 0 0, .slice none 0 0, .slice none 0 0, .slice none 0 0, .slice none 0 0, .bool false, .int .u32 0, .slice none 0 0, .slice none 0 0] 32 (0, 0))) := hid (by rw [hV1]; exact heap_setCell_same W9 (w.heap.size + 1) 0 _ _ _ HRV0.out)
  have HEV1 : Hid (V1.heap.size = W9.heap.size) := hid (by rw [hV1, ← HEV0.out]; simp [World.setCell])
  have HFV1 : Hid (Same2 (w.heap.size + 2) W9.heap.size W9 V1) := hid (by rw [hV1]; exact HFV0.out.trans (Same2.set (.inl (by omega))))
  have HBV1 : Hid (Below w.heap.size w V1) := hid (by rw [hV1]; exact HBV0.out.setCell (by simp) _)
  clear hV1 HRV0 HEV0 HFV0 HBV0
  obtain ⟨V2, hV2⟩ : ∃ u, u = V1.setCell ⟨w.heap.size + 1, 1, none⟩ (.slice aim nim cim) := ⟨_, rfl⟩
  rw [← hV2]
  have HRV2 : Hid (V2.heap[w.heap.size + 1]? = some (.cells #[.slice aty nty cty, .slice aim nim cim, .slice none 0 0, .slice none 0 0, .slice none 0 0, .slice none 0 0, .slice none 0 0, .bool false, .int .u32 0, .slice none 0 0, .slice none 0 0] 32 (0, 0))) := hid (by rw [hV2]; exact heap_setCell_same V1 (w.heap.size + 1) 1 _ _ _ HRV1.out)
  have HEV2 : Hid (V2.heap.size = W9.heap.size) := hid (by rw [hV2, ← HEV1.out]; simp [World.setCell])
  have HFV2 : Hid (Same2 (w.heap.size + 2) W9.heap.size W9 V2) := hid (by rw [hV2]; exact HFV1.out.trans (Same2.set (.inl (by omega))))
  have HBV2 : Hid (Below w.heap.size w V2) := hid (by rw [hV2]; exact HBV1.out.setCell (by simp) _)
  clear hV2 HRV1 HEV1 HFV1 HBV1
  obtain ⟨V3, hV3⟩ : ∃ u, u = V2.setCell ⟨w.heap.size + 1, 2, none⟩ (.slice afu nfu cfu) := ⟨_, rfl⟩
  rw [← hV3]
  have HRV3 : Hid (V3.heap[w.heap.size + 1]? = some (.cells #[.slice aty nty cty, .slice aim nim cim, .slice afu nfu cfu, .slice none 0 0, .slice none 0 0, .slice none 0 0, .slice none 0 0, .bool false, .int .u32 0, .slice none 0 0, .slice none 0 0] 32 (0, 0))) := hid (by rw [hV3]; exact heap_setCell_same V2 (w.heap.size + 1) 2 _ _ _ HRV2.out)
  have HEV3 : Hid (V3.heap.size = W9.heap.size) := hid (by rw [hV3, ← HEV2.out]; simp [World.setCell])
  have HFV3 : Hid (Same2 (w.heap.size + 2) W9.heap.size W9 V3) := hid (by rw [hV3]; exact HFV2.out.trans (Same2.set (.inl (by omega))))
  have HBV3 : Hid (Below w.heap.size w V3) := hid (by rw [hV3]; exact HBV2.out.setCell (by simp) _)
  clear hV3 HRV2 HEV2 HFV2 HBV2
  obtain ⟨V4, hV4⟩ : ∃ u, u = V3.setCell ⟨w.heap.size + 1, 3, none⟩ (.slice atb ntb ctb) := ⟨_, rfl⟩
  rw [← hV4]
  have HRV4 : Hid (V4.heap[w.heap.size + 1]? = some (.cells #[.slice aty nty cty, .slice aim nim cim, .slice afu nfu cfu, .slice atb ntb ctb, .slice none 0 0, .slice none 0 0, .slice none 0 0, .bool false, .int .u32 0, .slice none 0 0, .slice none 0 0] 32 (0, 0))) := hid (by rw [hV4]; exact heap_setCell_same V3 (w.heap.size + 1) 3 _ _ _ HRV3.out)
  have HEV4 : Hid (V4.heap.size = W9.heap.size) := hid (by rw [hV4, ← HEV3.out]; simp [World.setCell])
  have HFV4 : Hid (Same2 (w.heap.size + 2) W9.heap.size W9 V4) := hid (by rw [hV4]; exact HFV3.out.trans (Same2.set (.inl (by omega))))
  have HBV4 : Hid (Below w.heap.size w V4) := hid (by rw [hV4]; exact HBV3.out.setCell (by simp) _)
  clear hV4 HRV3 HEV3 HFV3 HBV3
  obtain ⟨V5, hV5⟩ : ∃ u, u = V4.setCell ⟨w.heap.size + 1, 4, none⟩ (.slice ame nme cme) := ⟨_, rfl⟩
  rw [← hV5]
  have HRV5 : Hid (V5.heap[w.heap.size + 1]? = some (.cells #[.slice aty nty cty, .slice aim nim cim, .slice afu nfu cfu, .slice atb ntb ctb, .slice ame nme cme, .slice none 0 0, .slice none 0 0, .bool false, .int .u32 0, .slice none 0 0, .slice none 0 0] 32 (0, 0))) := hid (by rw [hV5]; exact heap_setCell_same V4 (w.heap.size + 1) 4 _ _ _ HRV4.out)
  have HEV5 : Hid (V5.heap.size = W9.heap.size) := hid (by rw [hV5, ← HEV4.out]; simp [World.setCell])
  have HFV5 : Hid (Same2 (w.heap.size + 2) W9.heap.size W9 V5) := hid (by rw [hV5]; exact HFV4.out.trans (Same2.set (.inl (by omega))))
  have HBV5 : Hid (Below w.heap.size w V5) := hid (by rw [hV5]; exact HBV4.out.setCell (by simp) _)
  clear hV5 HRV4 HEV4 HFV4 HBV4
  obtain ⟨V6, hV6⟩ : ∃ u, u = V5.setCell ⟨w.heap.size + 1, 5, none⟩ (.slice agl ngl cgl) := ⟨_, rfl⟩
  rw [← hV6]
  have HRV6 : Hid (V6.heap[w.heap.size + 1]? = some (.cells #[.slice aty nty cty, .slice aim nim cim, .slice afu nfu cfu, .slice atb ntb ctb, .slice ame nme cme, .slice agl ngl cgl, .slice none 0 0, .bool false, .int .u32 0, .slice none 0 0, .slice none 0 0] 32 (0, 0))) := hid (by rw [hV6]; exact heap_setCell_same V5 (w.heap.size + 1) 5 _ _ _ HRV5.out)
  have HEV6 : Hid (V6.heap.size = W9.heap.size) := hid (by rw [hV6, ← HEV5.out]; simp [World.setCell])
  have HFV6 : Hid (Same2 (w.heap.size + 2) W9.heap.size W9 V6) := hid (by rw [hV6]; exact HFV5.out.trans (Same2.set (.inl (by omega))))
  have HBV6 : Hid (Below w.heap.size w V6) := hid (by rw [hV6]; exact HBV5.out.setCell (by simp) _)
  clear hV6 HRV5 HEV5 HFV5 HBV5
  obtain ⟨V7, hV7⟩ : ∃ u, u = V6.setCell ⟨w.heap.size + 1, 6, none⟩ (.slice aex nex cex) := ⟨_, rfl⟩
  rw [← hV7]
  have HRV7 : Hid (V7.heap[w.heap.size + 1]? = some (.cells #[.slice aty nty cty, .slice aim nim cim, .slice afu nfu cfu, .slice atb ntb ctb, .slice ame nme cme, .slice agl ngl cgl, .slice aex nex cex, .bool false, .int .u32 0, .slice none 0 0, .slice none 0 0] 32 (0, 0))) := hid (by rw [hV7]; exact heap_setCell_same V6 (w.heap.size + 1) 6 _ _ _ HRV6.out)
  have HEV7 : Hid (V7.heap.size = W9.heap.size) := hid (by rw [hV7, ← HEV6.out]; simp [World.setCell])
  have HFV7 : Hid (Same2 (w.heap.size + 2) W9.heap.size W9 V7) := hid (by rw [hV7]; exact HFV6.out.trans (Same2.set (.inl (by omega))))
  have HBV7 : Hid (Below w.heap.size w V7) := hid (by rw [hV7]; exact HBV6.out.setCell (by simp) _)
  clear hV7 HRV6 HEV6 HFV6 HBV6
  obtain ⟨V8, hV8⟩ : ∃ u, u = V7.setCell ⟨w.heap.size + 1, 7, none⟩ (.bool m.st) := ⟨_, rfl⟩
  rw [← hV8]
  have HRV8 : Hid (V8.heap[w.heap.size + 1]? = some (.cells #[.slice aty nty cty, .slice aim nim cim, .slice afu nfu cfu, .slice atb ntb ctb, .slice ame nme cme, .slice agl ngl cgl, .slice aex nex cex, .bool m.st, .int .u32 0, .slice none 0 0, .slice none 0 0] 32 (0, 0))) := hid (by rw [hV8]; exact heap_setCell_same V7 (w.heap.size + 1) 7 _ _ _ HRV7.out)
  have HEV8 : Hid (V8.heap.size = W9.heap.size) := hid (by rw [hV8, ← HEV7.out]; simp [World.setCell])
  have HFV8 : Hid (Same2 (w.heap.size + 2) W9.heap.size W9 V8) := hid (by rw [hV8]; exact HFV7.out.trans (Same2.set (.inl (by omega))))
  have HBV8 : Hid (Below w.heap.size w V8) := hid (by rw [hV8]; exact HBV7.out.setCell (by simp) _)
  clear hV8 HRV7 HEV7 HFV7 HBV7
  obtain ⟨V9, hV9⟩ : ∃ u, u = V8.setCell ⟨w.heap.size + 1, 8, none⟩ (.int .u32 m.sn) := ⟨_, rfl⟩
  rw [← hV9]
  have HRV9 : Hid (V9.heap[w.heap.size + 1]? = some (.cells #[.slice aty nty cty, .slice aim nim cim, .slice afu nfu cfu, .slice atb ntb ctb, .slice ame nme cme, .slice agl ngl cgl, .slice aex nex cex, .bool m.st, .int .u32 m.sn, .slice none 0 0, .slice none 0 0] 32 (0, 0))) := hid (by rw [hV9]; exact heap_setCell_same V8 (w.heap.size + 1) 8 _ _ _ HRV8.out)
  have HEV9 : Hid (V9.heap.size = W9.heap.size) := hid (by rw [hV9, ← HEV8.out]; simp [World.setCell])
  have HFV9 : Hid (Same2 (w.heap.size + 2) W9.heap.size W9 V9) := hid (by rw [hV9]; exact HFV8.out.trans (Same2.set (.inl (by omega))))
  have HBV9 : Hid (Below w.heap.size w V9) := hid (by rw [hV9]; exact HBV8.out.setCell (by simp) _)
  clear hV9 HRV8 HEV8 HFV8 HBV8
  obtain ⟨V10, hV10⟩ : ∃ u, u = V9.setCell ⟨w.heap.size + 1, 9, none⟩ (.slice ael nel cel) := ⟨_, rfl⟩
  rw [← hV10]
  have HRV10 : Hid (V10.heap[w.heap.size + 1]? = some (.cells #[.slice aty nty cty, .slice aim nim cim, .slice afu nfu cfu, .slice atb ntb ctb, .slice ame nme cme, .slice agl ngl cgl, .slice aex nex cex, .bool m.st, .int .u32 m.sn, .slice ael nel cel, .slice none 0 0] 32 (0, 0))) := hid (by rw [hV10]; exact heap_setCell_same V9 (w.heap.size + 1) 9 _ _ _ HRV9.out)
  have HEV10 : Hid (V10.heap.size = W9.heap.size) := hid (by rw [hV10, ← HEV9.out]; simp [World.setCell])
  have HFV10 : Hid (Same2 (w.heap.size + 2) W9.heap.size W9 V10) := hid (by rw [hV10]; exact HFV9.out.trans (Same2.set (.inl (by omega))))
  have HBV10 : Hid (Below w.heap.size w V10) := hid (by rw [hV10]; exact HBV9.out.setCell (by simp) _)
  clear hV10 HRV9 HEV9 HFV9 HBV9
  obtain ⟨V11, hV11⟩ : ∃ u, u = V10.setCell ⟨w.heap.size + 1, 10, none⟩ (.slice ada nda cda) := ⟨_, rfl⟩
  rw [← hV11]
  have HRV11 : Hid (V11.heap[w.heap.size + 1]? = some (.cells #[.slice aty nty cty, .slice aim nim cim, .slice afu nfu cfu, .slice atb ntb ctb, .slice ame nme cme, .slice agl ngl cgl, .slice aex nex cex, .bool m.st, .int .u32 m.sn, .slice ael nel cel, .slice ada nda cda] 32 (0, 0))) := hid (by rw [hV11]; exact heap_setCell_same V10 (w.heap.size + 1) 10 _ _ _ HRV10.out)
  have HEV11 : Hid (V11.heap.size = W9.heap.size) := hid (by rw [hV11, ← HEV10.out]; simp [World.setCell])
  have HFV11 : Hid (Same2 (w.heap.size + 2) W9.heap.size W9 V11) := hid (by rw [hV11]; exact HFV10.out.trans (Same2.set (.inl (by omega))))
  have HBV11 : Hid (Below w.heap.size w V11) := hid (by rw [hV11]; exact HBV10.out.setCell (by simp) _)
  clear hV11 HRV10 HEV10 HFV10 HBV10
  refine bodyPost_ret (v := .agg #[.slice aty nty cty, .slice aim nim cim, .slice afu nfu cfu, .slice atb ntb ctb, .slice ame nme cme, .slice agl ngl cgl, .slice aex nex cex, .bool m.st, .int .u32 m.sn, .slice ael nel cel, .slice ada nda cda]) (results_cell_row Tryz.results44 _ V11 (w.heap.size + 1) _ _ _ _ rfl HRV11.out Tryz.underlying32 rfl (by kernel_rfl)) rfl ?_
  refine ⟨aty, cty, aim, cim, afu, cfu, atb, ctb, ame, cme, agl, cgl, aex, cex, ael, cel, ada, cda, lty, lim, lfu, ltb, lme, lgl, lex, lel, lda, rfl, ⟨(Mty.out.on HFV11.out (Nat.le_of_eq HEV11.out.symm)).low (by omega), (Mim.out.on HFV11.out (Nat.le_of_eq HEV11.out.symm)).low (by omega), (Mfu.out.on HFV11.out (Nat.le_of_eq HEV11.out.symm)).low (by omega), (Mtb.out.on HFV11.out (Nat.le_of_eq HEV11.out.symm)).low (by omega), (Mme.out.on HFV11.out (Nat.le_of_eq HEV11.out.symm)).low (by omega), (Mgl.out.on HFV11.out (Nat.le_of_eq HEV11.out.symm)).low (by omega), (Mex.out.on HFV11.out (Nat.le_of_eq HEV11.out.symm)).low (by omega), (Mel.out.on HFV11.out (Nat.le_of_eq HEV11.out.symm)).low (by omega), (Mda.out.on HFV11.out (Nat.le_of_eq HEV11.out.symm)).low (by omega)⟩, HBV11.out⟩
end Go.Proofs.YtckdnhafookcgaaGreatDoor.Mod

namespace Go.Proofs.YtckdnhafookcgaaGreatDoor.Mod
open Go.RowKit Go.Proofs.YtckdnhafookcgaaGreatDoor.Instr
set_option linter.unusedVariables false

theorem map_memS {α β : Type} {f : α → β} {l r : List α} (h : l.map f = r.map f) {x : α} (hx : x ∈ l) : ∃ y ∈ r, f y = f x := by
  have : f x ∈ r.map f := by rw [← h]; exact List.mem_map_of_mem hx
  obtain ⟨y, hy, e⟩ := List.mem_map.1 this
  exact ⟨y, hy, e⟩
theorem map_lenS {α β : Type} {f : α → β} {l r : List α} (h : l.map f = r.map f) : l.length = r.length := by
  have := congrArg List.length h
  simpa using this
theorem codes_coreS {a b : Md} (h : b.bare = a.bare) {l : Lst} (hl : l ∈ b.codes) : ∃ r ∈ a.codes, r.t.bare = l.t.bare := by
  have e : b.codes.map Lst.bare = a.codes.map Lst.bare := by rw [← bare_codes, ← bare_codes, h]
  obtain ⟨r, hr, he⟩ := map_memS e hl
  unfold Lst.bare at he
  simp only [Lst.mk.injEq, true_and] at he
  exact ⟨r, hr, he⟩
theorem fits_coreS {a b : Md} (h : b.bare = a.bare) (f : a.fits) : b.fits := by
  have S := same_iff.1 h
  refine ⟨by rw [S.ty]; exact f.ty, by rw [S.im]; exact f.im, by rw [map_lenS S.fu]; exact f.fu, by rw [S.tb]; exact f.tb, by rw [S.me]; exact f.me, by rw [map_lenS S.gl]; exact f.gl, by rw [S.ex]; exact f.ex, by rw [map_lenS S.el]; exact f.el, by rw [map_lenS S.da]; exact f.da, fun l hl => ?_, fun e he => ?_, fun d hd => ?_, by rw [S.im]; exact f.iS, by rw [S.ex]; exact f.eS⟩
  · obtain ⟨r, hr, e⟩ := codes_coreS h hl
    rw [← bare_len, ← e, bare_len]; exact f.ls r hr
  · obtain ⟨x, hx, e⟩ := map_memS S.el he
    unfold El.bare at e
    simp only [El.mk.injEq, true_and] at e
    rw [← e.2]; exact f.fs x hx
  · obtain ⟨x, hx, e⟩ := map_memS S.da hd
    unfold Da.bare at e
    simp only [Da.mk.injEq, true_and] at e
    rw [← e.2]; exact f.bs x hx
theorem mem_br {α : Type} {f : α → α} {l l' : List α} (h : l'.map f = l.map f) {x : α} (hx : x ∈ l') : ∃ y ∈ l, f x = f y := by
  have : f x ∈ l.map f := by rw [← h]; exact List.mem_map.2 ⟨x, hx, rfl⟩
  obtain ⟨y, hy, e⟩ := List.mem_map.1 this
  exact ⟨y, hy, e.symm⟩
theorem id_br {α : Type} {l l' : List α} (h : l'.map id = l.map id) : l' = l := by simpa using h
end Go.Proofs.YtckdnhafookcgaaGreatDoor.Mod

namespace Go.Proofs.YtckdnhafookcgaaGreatDoor.Mod.S
open Go.RowKit Go.Proofs.YtckdnhafookcgaaGreatDoor.Instr
set_option linter.unusedVariables false

/-- What an item holds besides its own cells. -/
structure Part where
  l : Lst
  ta : Option Addr
  ts : List Int
  ba : Option Addr
  bc : Nat
  bs : List Int
def blkA : Option Addr → List Nat
  | none => []
  | some p => [p.block]
def Part.foot (p : Part) : List Nat := (blkOf p.l.t.len p.l.a ++ p.l.t.foot) ++ (blkOf p.ts.length p.ta ++ blkA p.ba)
def Part.lies (p : Part) (w : World) : Prop := ListAt w.heap.size w p.l.a p.l.t.len p.l.t ∧ TagsAt w.heap.size w p.ta p.ts ∧ (∀ q ∈ blkOf p.l.t.len p.l.a ++ p.l.t.foot, Soft w q) ∧ (∀ q ∈ blkOf p.ts.length p.ta, Soft w q) ∧ BytesO 0 w.heap.size w p.ba p.bs p.bc
theorem bytes_touch {S : Nat → Prop} {w w' : World} {a : Option Addr} {zs : List Int} {c : Nat} (h : BytesO 0 w.heap.size w a zs c) (ht : Touch S w w') (hk : ∀ q ∈ blkA a, ¬ S q) : BytesO 0 w'.heap.size w' a zs c := by
  obtain ⟨⟨h1, h2, h3⟩, h4⟩ := h
  refine ⟨⟨h1, h2, ?_⟩, ?_⟩
  · rcases h3 with h | ⟨b, off, rfl, ⟨_, hlt, cs, e, hh⟩, hc⟩
    · exact .inl h
    · refine .inr ⟨b, off, rfl, ⟨Nat.zero_le _, Nat.lt_of_lt_of_le hlt ht.size, cs, e, (ht.block b hlt (hk b (by simp [blkA]))).trans hh⟩, fun i hi => ?_⟩
      obtain ⟨z, hz⟩ := hc i hi
      exact ⟨z, ht.cell (p := ⟨b, off + i, none⟩) (hk b (by simp [blkA])) hz⟩
  · rcases h4 with h | ⟨b, off, rfl, hl, hc⟩
    · exact .inl h
    · exact .inr ⟨b, off, rfl, Nat.lt_of_lt_of_le hl ht.size, fun i hi => ht.cell (p := ⟨b, off + i, none⟩) (hk b (by simp [blkA])) (hc i hi)⟩
theorem bytes_blk {lo hi : Nat} {w : World} {a : Option Addr} {zs : List Int} {c : Nat} (h : BytesO lo hi w a zs c) : ∀ q ∈ blkA a, lo ≤ q ∧ q < hi := by
  intro q hq
  rcases h.1.2.2 with ⟨h, _⟩ | ⟨b, off, h, hb, _⟩
  · rw [h] at hq; simp [blkA] at hq
  · rw [h] at hq
    simp only [blkA, List.mem_singleton] at hq
    subst hq
    exact ⟨hb.1, hb.2.1⟩
theorem Part.touch {S : Nat → Prop} {p : Part} {w w' : World} (h : p.lies w) (ht : Touch S w w') (hk : ∀ q ∈ p.foot, ¬ S q) : p.lies w' := by
  obtain ⟨h1, h2, h3, h4, h5⟩ := h
  have k1 : ∀ q ∈ blkOf p.l.t.len p.l.a ++ p.l.t.foot, ¬ S q := fun q hq => hk q (List.mem_append_left _ hq)
  have k2 : ∀ q ∈ blkOf p.ts.length p.ta, ¬ S q := fun q hq => hk q (List.mem_append_right _ (List.mem_append_left _ hq))
  have k3 : ∀ q ∈ blkA p.ba, ¬ S q := fun q hq => hk q (List.mem_append_right _ (List.mem_append_right _ hq))
  exact ⟨(h1.touch ht k1).more ht.size, (h2.touch ht k2).more ht.size, fun q hq => (h3 q hq).touch ht (k1 q hq), fun q hq => (h4 q hq).touch ht (k2 q hq), bytes_touch h5 ht k3⟩

section
variable {α : Type}
/-- Items that have been copied so far, in memory of their own. -/
structure Got (e : TypeId) (sz base : Nat) (f : α → List Value) (p : α → Part) (W : World) (v : Value) (us : List α) : Prop where
  row : OwnR e sz base W v (us.map f)
  kids : ∀ x ∈ us, (p x).lies W
  low : ∀ x ∈ us, ∀ q ∈ (p x).foot, base ≤ q
  lt : ∀ x ∈ us, ∀ q ∈ (p x).foot, q < W.heap.size
  apart : ∀ x ∈ us, ∀ q ∈ (p x).foot, v.ownBlock ≠ some q
theorem Got.touch {e : TypeId} {sz base : Nat} {f : α → List Value} {p : α → Part} {S : Nat → Prop} {W W' : World} {v : Value} {us : List α} (h : Got e sz base f p W v us) (ht : Touch S W W') (hs : ∀ q, base ≤ q → q < W.heap.size → ¬ S q) : Got e sz base f p W' v us :=
  ⟨h.row.touch ht (fun g hg => hs g (World.ownsRow.lt h.row.row g hg).1 (World.ownsRow.lt h.row.row g hg).2), fun x hx => Part.touch (h.kids x hx) ht (fun q hq => hs q (h.low x hx q hq) (h.lt x hx q hq)), h.low, fun x hx q hq => Nat.lt_of_lt_of_le (h.lt x hx q hq) ht.size, h.apart⟩
/-- Behind what turns one block, that lies below them. -/
theorem Got.save {e : TypeId} {sz base k : Nat} {f : α → List Value} {p : α → Part} {W W' : World} {v : Value} {us : List α} (h : Got e sz base f p W v us) (hs : Save k W W') (hk : k < base) : Got e sz base f p W' v us :=
  h.touch (.of_save hs) (fun q hq _ e => by omega)
theorem Got.below {e : TypeId} {sz base : Nat} {f : α → List Value} {p : α → Part} {W W' : World} {v : Value} {us : List α} (h : Got e sz base f p W v us) (hb : Below W.heap.size W W') : Got e sz base f p W' v us :=
  h.touch (S := fun _ => False) (.of_below hb) (fun _ _ _ h => h)
/-- One more. -/
theorem Got.snoc {e : TypeId} {sz base : Nat} {f : α → List Value} {p : α → Part} {W W3 : World} {v v' : Value} {us : List α} {x : α} {n0 : Nat} (h : Got e sz base f p W v us) (hx : (p x).lies W) (hlo : ∀ q ∈ (p x).foot, n0 ≤ q) (hlt : ∀ q ∈ (p x).foot, q < W.heap.size) (hb : base ≤ n0) (hv : ∀ g, v.ownBlock = some g → g < n0)
    (hown : OwnR e sz base W3 v' (us.map f ++ [f x])) (hg : W.grownBy W3 v.ownBlock) (hat : ∀ g, v'.ownBlock = some g → v.ownBlock = some g ∨ W.heap.size ≤ g) : Got e sz base f p W3 v' (us ++ [x]) := by
  have ht : Touch (fun j => v.ownBlock = some j) W W3 := Touch.of_grown hg
  have hne : ∀ q ∈ (p x).foot, v.ownBlock ≠ some q := fun q hq e => by
    have h1 := hlo q hq
    have h2 := hv q e
    omega
  refine ⟨by rw [List.map_append]; exact hown, ?_, ?_, ?_, ?_⟩
  · intro y hy
    rcases List.mem_append.1 hy with hy | hy
    · exact Part.touch (h.kids y hy) ht (h.apart y hy)
    · rw [List.mem_singleton] at hy; subst hy
      exact Part.touch hx ht hne
  · intro y hy q hq
    rcases List.mem_append.1 hy with hy | hy
    · exact h.low y hy q hq
    · rw [List.mem_singleton] at hy; subst hy
      exact Nat.le_trans hb (hlo q hq)
  · intro y hy q hq
    rcases List.mem_append.1 hy with hy | hy
    · exact Nat.lt_of_lt_of_le (h.lt y hy q hq) ht.size
    · rw [List.mem_singleton] at hy; subst hy
      exact Nat.lt_of_lt_of_le (hlt q hq) ht.size
  · intro y hy q hq e
    rcases List.mem_append.1 hy with hy | hy
    · rcases hat q e with e2 | e2
      · exact h.apart y hy q hq e2
      · have := h.lt y hy q hq; omega
    · rw [List.mem_singleton] at hy; subst hy
      rcases hat q e with e2 | e2
      · exact hne q hq e2
      · have := hlt q hq; omega
end
theorem foot_lt {p : Part} {w : World} (h : p.lies w) : ∀ q ∈ p.foot, q < w.heap.size := by
  obtain ⟨h1, h2, _, _, h5⟩ := h
  intro q hq
  rcases List.mem_append.1 hq with hq | hq
  · exact list_lt h1 q hq
  · rcases List.mem_append.1 hq with hq | hq
    · exact tags_lt h2 q hq
    · exact (bytes_blk h5 q hq).2
end Go.Proofs.YtckdnhafookcgaaGreatDoor.Mod.S

namespace Go.Proofs.YtckdnhafookcgaaGreatDoor.Mod.S
open Go.RowKit Go.Proofs.YtckdnhafookcgaaGreatDoor.Instr
set_option linter.unusedVariables false

section
variable {α : Type}
/-- What an append of one item gives. -/
theorem Got.more {e : TypeId} {sz nb base n0 : Nat} {f : α → List Value} {p : α → Part} {W w' : World} {v : Value} {us : List α} (x0 : α) (hG : Got e sz base f p W v us) (hlen : (f x0).length = sz) (hlie : (p x0).lies W) (hlo : ∀ q ∈ (p x0).foot, n0 ≤ q) (hb : base ≤ n0) (hv : ∀ g, v.ownBlock = some g → g < n0) {g cap : Nat}
    (hown : w'.ownsRow base e sz (.slice (some ⟨g, 0, none⟩) (us.length + 1) cap) (us.length + 1) ((us.map f).flatten ++ f x0)) (hgrow : (W.alloc (.cells (f x0).toArray e)).grownBy w' v.ownBlock) (hat : v.ownBlock = some g ∨ g = W.heap.size + 1) :
    Got e sz base f p w' (.slice (some ⟨g, 0, none⟩) (us.length + 1) cap) (us ++ [x0]) := by
  have hb1 := (Below.refl W.heap.size W).alloc (Nat.le_refl _) (.cells (f x0).toArray e)
  have hG1 := hG.below hb1
  have hs1 : (W.alloc (.cells (f x0).toArray e)).heap.size = W.heap.size + 1 := by simp
  refine Got.snoc (n0 := n0) hG1 (Part.touch (S := fun _ => False) hlie (.of_below hb1) (fun _ _ h => h)) hlo (fun q hq => by have := foot_lt hlie q hq; omega) hb hv ⟨?_, ?_⟩ hgrow (fun q hq => ?_)
  · rw [List.flatten_append, List.length_append, List.length_map]
    simpa using hown
  · intro r hr
    rcases List.mem_append.1 hr with hr | hr
    · exact hG.row.len r hr
    · rw [List.mem_singleton] at hr; subst hr; exact hlen
  · simp only [Value.ownBlock, Option.some.injEq] at hq
    subst hq
    rcases hat with h | h
    · exact .inl h
    · right; omega
end
section
variable {ops : Array Oper} {rest : List Oper} {o : Oper} {act : Act} {Q : Exit → Act → World → Prop} {α : Type}
end
theorem Got.rows {α : Type} {e : TypeId} {sz base : Nat} {f : α → List Value} {p : α → Part} {W : World} {v : Value} {us : List α} (h : Got e sz base f p W v us) : ∃ a c, v = .slice a us.length c ∧ Rows W.heap.size W a sz (us.map f) := by
  obtain ⟨a, c, hv, hr, _⟩ := h.row.rows
  rw [List.length_map] at hv
  exact ⟨a, c, hv, hr⟩
end Go.Proofs.YtckdnhafookcgaaGreatDoor.Mod.S
