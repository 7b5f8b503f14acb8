import Derived.Test.YtepbjkkakfpjgaaGreatDoorEt25
import Derived.Test.YtepbjkkakfpjgaaGreatDoorEt23
import Derived.Deep.QuietTactic
import Derived.BigQuiet
import Derived.KernelRfl
namespace Go.Proofs.YtepbjkkakfpjgaaGreatDoor.Mod
open Go.RowKit Go.Proofs.YtepbjkkakfpjgaaGreatDoor.Instr
theorem map_mem {α β : Type} {f : α → β} {l r : List α} (h : l.map f = r.map f) {x : α} (hx : x ∈ l) : ∃ y ∈ r, f y = f x := by
 have : f x ∈ r.map f := by rw [← h]; exact List.mem_map_of_mem hx
 obtain ⟨y, hy, e⟩ := List.mem_map.1 this
 exact ⟨y, hy, e⟩
theorem map_len {α β : Type} {f : α → β} {l r : List α} (h : l.map f = r.map f) : l.length = r.length := by
 have := congrArg List.length h
 simpa using this
theorem codes_core {a b : Md} (h : b.bare = a.bare) {l : Lst} (hl : l ∈ b.codes) : ∃ r ∈ a.codes, r.t.bare = l.t.bare := by
 have e : b.codes.map Lst.bare = a.codes.map Lst.bare := by rw [← bare_codes, ← bare_codes, h]
 obtain ⟨r, hr, he⟩ := map_mem e hl
 unfold Lst.bare at he
 simp only [Lst.mk.injEq, true_and] at he
 exact ⟨r, hr, he⟩
theorem fits_core {a b : Md} (h : b.bare = a.bare) (f : a.fits) : b.fits := by
 have S := same_iff.1 h
 refine ⟨by rw [S.ty]; exact f.ty, by rw [S.im]; exact f.im, by rw [map_len S.fu]; exact f.fu, by rw [S.tb]; exact f.tb, by rw [S.me]; exact f.me, by rw [map_len S.gl]; exact f.gl, by rw [S.ex]; exact f.ex, by rw [map_len S.el]; exact f.el, by rw [map_len S.da]; exact f.da, fun l hl => ?_, fun e he => ?_, fun d hd => ?_, by rw [S.im]; exact f.iS, by rw [S.ex]; exact f.eS⟩
 ·obtain ⟨r, hr, e⟩ := codes_core h hl
  rw [← bare_len, ← e, bare_len]; exact f.ls r hr
 ·obtain ⟨x, hx, e⟩ := map_mem S.el he
  unfold El.bare at e
  simp only [El.mk.injEq, true_and] at e
  rw [← e.2]; exact f.fs x hx
 ·obtain ⟨x, hx, e⟩ := map_mem S.da hd
  unfold Da.bare at e
  simp only [Da.mk.injEq, true_and] at e
  rw [← e.2]; exact f.bs x hx
theorem ranged_core {a b : Md} (h : b.bare = a.bare) (f : a.ranged) : b.ranged := by
 have S := same_iff.1 h
 refine ⟨by rw [S.tb, S.me]; exact f.n0, by rw [S.ex]; exact f.ei, fun e he => ?_, fun d hd => ?_, by rw [S.sn]; exact f.sn⟩
 ·obtain ⟨x, hx, e⟩ := map_mem S.el he
  unfold El.bare at e
  simp only [El.mk.injEq, true_and] at e
  rw [← e.2]; exact f.ef x hx
 ·obtain ⟨x, hx, e⟩ := map_mem S.da hd
  unfold Da.bare at e
  simp only [Da.mk.injEq, true_and] at e
  rw [← e.2]; exact f.db x hx
theorem names_small {m : Md} (hs : m.small 5000) : ∀ s ∈ m.names, s.size ≤ 1000000 := by
 intro s h
 unfold Md.names at h
 rcases List.mem_append.1 h with h | h
 ·unfold twoR at h
  obtain ⟨i, hi, h⟩ := List.mem_flatMap.1 h
  have := hs.iS i hi
  simp only [List.mem_cons, List.not_mem_nil, or_false] at h
  rcases h with rfl | rfl <;> omega
 ·obtain ⟨e, he, rfl⟩ := List.mem_map.1 h
  have := hs.eS e he
  omega
end Go.Proofs.YtepbjkkakfpjgaaGreatDoor.Mod
namespace Go.Proofs.YtepbjkkakfpjgaaGreatDoor.Enc
open Go.RowKit Leb Go.Proofs.YtepbjkkakfpjgaaGreatDoor.Instr Go.Proofs.YtepbjkkakfpjgaaGreatDoor.Mod
open Go.Proofs.YtepbjkkakfpjgaaGreatDoor.Body (PutP)
set_option linter.unusedVariables false
theorem bare_weight8 : ∀ t : Il, t.bare.weight = t.weight
 | .nil => rfl
 | .cons x l e r => by simp only [Il.bare, Il.weight, bare_weight8 l, bare_weight8 e, bare_weight8 r]; rfl
theorem small_core {a b : Md} (h : b.bare = a.bare) (s : a.small 5000) : b.small 5000 := by
 have S := same_iff.1 h
 refine ⟨by rw [S.ty, S.im, map_len S.fu, S.tb, S.me, map_len S.gl, S.ex, map_len S.el, map_len S.da]; exact s.lens, fun l hl => ?_, fun e he => ?_, fun d hd => ?_, by rw [S.im]; exact s.iS, by rw [S.ex]; exact s.eS⟩
 ·obtain ⟨r, hr, e⟩ := codes_core h hl
  rw [← bare_weight8, ← e, bare_weight8]; exact s.ls r hr
 ·obtain ⟨x, hx, e⟩ := map_mem S.el he
  unfold El.bare at e
  simp only [El.mk.injEq, true_and] at e
  rw [← e.2]; exact s.fs x hx
 ·obtain ⟨x, hx, e⟩ := map_mem S.da hd
  unfold Da.bare at e
  simp only [Da.mk.injEq, true_and] at e
  rw [← e.2]; exact s.bs x hx
theorem same_yes (a1 a2 : Option Addr) (l1 c1 l2 c2 : Nat) (xs : List Int) (w : World) (hl1 : xs.length = l1) (hl2 : xs.length = l2) (hx : Bytes w a1 xs) (hy : Bytes w a2 xs) :
  Calls Tryz.prog 11 #[.slice a1 l1 c1, .slice a2 l2 c2] w fun e w' => e = .returned (.bool true) ∧ w = w' :=
 (SameBytes_any a1 a2 l1 c1 l2 c2 xs xs w hl1 hl2 hx hy).mono fun e w' ⟨he, hw⟩ => ⟨by rw [he]; simp, hw⟩
theorem modR_core {a b : Md} (h : b.bare = a.bare) : modR b = modR a := by unfold modR; rw [check_core h, modB_core h]
theorem secR_core {a b : Md} (h : b.bare = a.bare) (id : Int) : secR b id = secR a id := by unfold secR; rw [check_core h, secB_core h]
theorem secR_bytes {w : World} {m : Md} (h : Ready w m) (id : Int) : ∀ z ∈ (secR m id).1, 0 ≤ z ∧ z < 256 := by
 unfold secR
 split
 ·simp
 ·rename_i hc
  split
  ·simp
  ·exact secB_bytes (h.fine (by simpa using hc)) _
theorem secR_few {w : World} {m : Md} (hs : m.small 5000) (id : Int) : (secR m id).1.length ≤ 140737488351232 := by
 unfold secR
 split
 ·simp
 ·rename_i hc
  split
  ·simp
  ·rename_i hi
   have := secB_few (k := (id - 1).toNat) (fit_of 0 (by simpa using hc) hs (enc_few hs)) (by omega)
   show (secB m (id - 1).toNat).length ≤ _
   omega
set_option maxRecDepth 100000 in
set_option maxHeartbeats 8000000 in
theorem encodeTells_walk (w : World) (a : Md) (ha : ModAt w.heap.size w a) (fa : a.fits) (ra : a.ranged) (id : Int) (hi : -9223372036854775808 ≤ id ∧ id ≤ 9223372036854775807) (hT : Nams w ∧ Utf.Tabs w) :
  Calls Tryz.prog 4 #[.agg a.v, .int .i64 id] w fun e w' => e = .returned (.bool true) ∧ Below w.heap.size w w' := by
 have hb1 := (Below.refl w.heap.size w).alloc (Nat.le_refl _) (.cells a.v 32)
 have HB := hid hb1
 have HA0 := hid (ha.on hb1)
 have HXA := hid (BoxAt.made w a.v 32)
 have FA := hid fa
 have RA := hid ra
 have HT := hid (hT.1.below hb1)
 have HU := hid (hT.2.below hb1)
 have HI := hid hi
 have C := hid (Big_any a _ HA0.out fa)
 unfold Md.v at HB HA0 HXA HT HU C ⊢
 clear ha fa ra hT hb1 hi
 go_enter Tryz.func4, Tryz.ntmps4
 have X0 := HXA.out
 obtain ⟨x0, x1, x2, x3, x4, x5, x6, x7, x8, x9, x10⟩ := Mod.cells11 X0
 clear X0
 go_wp2_with fail
 refine C.out.mono ?_
 rintro e1 w1 ⟨g1, rfl, hs1, hb⟩
 have HB1 := hid (thenB HB.out hb)
 have HA1 := hid (HA0.out.on hb)
 have HXA1 := hid (HXA.out.keep hb)
 have HT1 := hid (HT.out.below hb)
 have HU1 := hid (HU.out.below hb)
 clear HB HA0 HXA HT HU hb C x0 x1 x2 x3 x4 x5 x6 x7 x8 x9 x10
 obtain ⟨x0, x1, x2, x3, x4, x5, x6, x7, x8, x9, x10⟩ := Mod.cells11 HXA1.out
 cases g1 with
 | true =>
  clear hs1
  go_wp2
  go_ret
  exact ⟨rfl, HB1.out⟩
 | false =>
  have SA := hid (hs1 rfl).1
  clear hs1
  have C := hid (copyWasm_any a w1 HA1.out SA.out)
  unfold Md.v at C
  go_wp2_with fail
  refine C.out.mono ?_
  rintro e2 w2 ⟨b, rfl, hm2, he2, hb⟩
  have BE := hid he2
  have FB := hid (fits_core he2 FA.out)
  have RB := hid (ranged_core he2 RA.out)
  have SB := hid (small_core he2 SA.out)
  have HC2 := hid (hm2.on ((Below.refl w2.heap.size w2).alloc (Nat.le_refl _) (.cells b.v 32)))
  have HXC2 := hid (BoxAt.made w2 b.v 32)
  have hb2 := hb.trans (((Below.refl w2.heap.size w2).alloc (Nat.le_refl _) (.cells b.v 32)).mono hb.size)
  clear he2 hm2 hb C
  unfold Md.v at HC2 HXC2 hb2 ⊢
  have HB2 := hid (thenB HB1.out hb2)
  have HA2 := hid (HA1.out.on hb2)
  have HXA2 := hid (HXA1.out.keep hb2)
  have HT2 := hid (HT1.out.below hb2)
  have HU2 := hid (HU1.out.below hb2)
  clear HB1 HA1 HXA1 HT1 HU1 hb2 x0 x1 x2 x3 x4 x5 x6 x7 x8 x9 x10
  obtain ⟨x0, x1, x2, x3, x4, x5, x6, x7, x8, x9, x10⟩ := Mod.cells11 HXA2.out
  obtain ⟨y0, y1, y2, y3, y4, y5, y6, y7, y8, y9, y10⟩ := Mod.cells11 HXC2.out
  obtain ⟨⟨zs, er⟩, hR⟩ : ∃ R, modR a = R := ⟨_, rfl⟩
  obtain ⟨⟨us, es⟩, hS⟩ : ∃ R, secR a id = R := ⟨_, rfl⟩
  have HR := hid hR
  have HS := hid hS
  have HRB := hid ((modR_core BE.out).trans hR)
  have HSB := hid ((secR_core BE.out id).trans hS)
  have HUB := hid (show ∀ z ∈ us, 0 ≤ z ∧ z < 256 from by have := secR_bytes (ready_of HT2.out HU2.out HA2.out FA.out RA.out SA.out) id; rw [hS] at this; exact this)
  have HUF := hid (show us.length ≤ 140737488351232 from by have := secR_few (w := w) SA.out id; rw [hS] at this; exact this)
  clear hR hS
  have C := hid (Module_any b _ (ready_of HT2.out HU2.out HC2.out FB.out RB.out SB.out) (fun h => fit_of _ h SB.out (enc_few SB.out)))
  rw [HRB.out] at C
  dsimp only at C
  unfold Md.v at C
  go_wp2_with fail
  refine C.out.mono ?_
  rintro e3 w3 ⟨p3, n3, c3, rfl, hn3, hy3, hz3, hb⟩
  have HN3 := hid hn3
  have HY3 := hid hy3
  clear hn3 hy3 hz3
  have HB3 := hid (thenB HB2.out hb)
  have HA3 := hid (HA2.out.on hb)
  have HXA3 := hid (HXA2.out.keep hb)
  have HT3 := hid (HT2.out.below hb)
  have HU3 := hid (HU2.out.below hb)
  have HC3 := hid (HC2.out.on hb)
  have HXC3 := hid (HXC2.out.keep hb)
  clear HB2 HA2 HXA2 HT2 HU2 HC2 HXC2 hb C x0 x1 x2 x3 x4 x5 x6 x7 x8 x9 x10 y0 y1 y2 y3 y4 y5 y6 y7 y8 y9 y10
  obtain ⟨x0, x1, x2, x3, x4, x5, x6, x7, x8, x9, x10⟩ := Mod.cells11 HXA3.out
  obtain ⟨y0, y1, y2, y3, y4, y5, y6, y7, y8, y9, y10⟩ := Mod.cells11 HXC3.out
  have C := hid (refModule_any a w3 (ready_of HT3.out HU3.out HA3.out FA.out RA.out SA.out) (names_small SA.out) (fun h => fit_of _ h SA.out (enc_few SA.out)))
  rw [HR.out] at C
  dsimp only at C
  unfold Md.v at C
  go_wp2_with fail
  refine C.out.mono ?_
  rintro e4 w4 ⟨p4, n4, c4, rfl, hn4, hy4, hz4, hb⟩
  have HN4 := hid hn4
  have HY4 := hid hy4
  have HY34 := hid (HY3.out.below hb)
  clear hn4 hy4 hz4 HY3
  have HB4 := hid (thenB HB3.out hb)
  have HA4 := hid (HA3.out.on hb)
  have HXA4 := hid (HXA3.out.keep hb)
  have HT4 := hid (HT3.out.below hb)
  have HU4 := hid (HU3.out.below hb)
  have HC4 := hid (HC3.out.on hb)
  have HXC4 := hid (HXC3.out.keep hb)
  clear HB3 HA3 HXA3 HT3 HU3 HC3 HXC3 hb C x0 x1 x2 x3 x4 x5 x6 x7 x8 x9 x10 y0 y1 y2 y3 y4 y5 y6 y7 y8 y9 y10
  obtain ⟨x0, x1, x2, x3, x4, x5, x6, x7, x8, x9, x10⟩ := Mod.cells11 HXA4.out
  obtain ⟨y0, y1, y2, y3, y4, y5, y6, y7, y8, y9, y10⟩ := Mod.cells11 HXC4.out
  have C := hid (Section_full b id w4 (ready_of HT4.out HU4.out HC4.out FB.out RB.out SB.out) HI.out (fun h => fit_of _ h SB.out (enc_few SB.out)))
  rw [HSB.out] at C
  dsimp only at C
  unfold Md.v at C
  go_wp2_with fail
  refine C.out.mono ?_
  rintro e5 w5 ⟨v5, rfl, ho5, hb5, hf5⟩
  obtain ⟨q, hq⟩ : ∃ n, us.length = n := ⟨_, rfl⟩
  have HQ := hid hq
  have HO5 := hid ho5
  have HF5 := hid hf5
  obtain ⟨p5, c5, rfl⟩ := ho5.sliceN hq
  have HYA := hid (HY34.out.below hb5)
  have HYB := hid (HY4.out.below hb5)
  have HL45 := hid hb5
  have HA5 := hid (HA4.out.on hb5)
  have HXA5 := hid (HXA4.out.keep hb5)
  have HT5 := hid (HT4.out.below hb5)
  have HU5 := hid (HU4.out.below hb5)
  clear C ho5 hf5 hq hb5 HY34 HY4 x0 y0 x1 y1 x2 y2 x3 y3 x4 y4 x5 y5 x6 y6 x7 y7 x8 y8 x9 y9 x10 y10
  obtain ⟨x0, x1, x2, x3, x4, x5, x6, x7, x8, x9, x10⟩ := Mod.cells11 HXA5.out
  have C := hid (refSection_any a id w5 (ready_of HT5.out HU5.out HA5.out FA.out RA.out SA.out) (names_small SA.out) HI.out (fun h => fit_of _ h SA.out (enc_few SA.out)))
  rw [HS.out] at C
  dsimp only at C
  unfold Md.v at C
  go_wp2_with fail
  refine C.out.mono ?_
  rintro e6 w6 ⟨v6, rfl, ho6, hb6⟩
  obtain ⟨p6, c6, rfl⟩ := ho6.sliceN HQ.out
  have HO56 := hid (HO5.out.below hb6)
  have HF56 := hid (HF5.out.below hb6)
  have HY5 := hid (HO56.out.bytes HUB.out HUF.out)
  have HY6 := hid (ho6.bytes HUB.out HUF.out)
  have HYA6 := hid (HYA.out.below hb6)
  have HYB6 := hid (HYB.out.below hb6)
  have HL46 := hid (thenB HL45.out hb6)
  clear C ho6 hb6 HO5 HF5 HYA HYB HL45 HA5 HXA5 HT5 HU5 x0 x1 x2 x3 x4 x5 x6 x7 x8 x9 x10
  have S1 := hid (same_yes p3 p4 n3 c3 n4 c4 zs w6 HN3.out HN4.out HYA6.out HYB6.out)
  have S2 := hid (same_yes p5 p6 q c5 q c6 us w6 HQ.out HQ.out HY5.out HY6.out)
  have OV := hid (over_any w4.heap.size _ us w6 HO56.out HF56.out)
  have HLT := hid (fun j hj => (World.ownsRow.lt HO56.out j hj).1)
  clear HYA6 HYB6 HY5 HY6 HF56
  go_wp2_with fail
  refine S1.out.mono ?_
  rintro e7 w7 ⟨rfl, rfl⟩
  go_wp2_with fail
  refine S2.out.mono ?_
  rintro e8 w8 ⟨rfl, rfl⟩
  clear S1 S2
  go_wp2_with fail
  refine OV.out.mono ?_
  rintro e9 w9 ⟨rfl, ht⟩
  have BL := hid (HL46.out.trans (ht.below HL46.out.size HLT.out))
  have HXA9 := hid (HXA4.out.keep BL.out)
  have HXC9 := hid (HXC4.out.keep BL.out)
  have HB9 := hid (thenB HB4.out BL.out)
  have C := hid (SameWasm_any b a w9 (HC4.out.on BL.out) (HA4.out.on BL.out) FB.out FA.out RB.out.db RA.out.db)
  rw [is_yes (same_iff.1 BE.out)] at C
  unfold Md.v at C
  have HT9 := hid (HT4.out.below BL.out)
  have HU9 := hid (HU4.out.below BL.out)
  clear OV ht HLT HO56 HL46 HB4 HA4 HC4 HXA4 HXC4 HT4 HU4
  obtain ⟨x0, x1, x2, x3, x4, x5, x6, x7, x8, x9, x10⟩ := Mod.cells11 HXA9.out
  obtain ⟨y0, y1, y2, y3, y4, y5, y6, y7, y8, y9, y10⟩ := Mod.cells11 HXC9.out
  go_wp2_with fail
  refine C.out.mono ?_
  rintro e10 w10 ⟨rfl, hb⟩
  have HB10 := hid (thenB HB9.out hb)
  have A := hid (awake8 w10 (HT9.out.below hb) (HU9.out.below hb))
  clear C hb HB9 HXA9 HXC9 HT9 HU9 BL x0 y0 x1 y1 x2 y2 x3 y3 x4 y4 x5 y5 x6 y6 x7 y7 x8 y8 x9 y9 x10 y10
  go_wp2_with fail
  refine A.out.mono ?_
  rintro e11 w11 ⟨rfl, hb⟩
  have HB11 := hid (thenB HB10.out hb)
  clear A hb HB10
  go_wp2
  go_ret
  exact ⟨rfl, HB11.out⟩
end Go.Proofs.YtepbjkkakfpjgaaGreatDoor.Enc
namespace Go.Proofs.YtepbjkkakfpjgaaGreatDoor
open Go.RowKit
set_option linter.unusedVariables false
theorem encodeTells_walk (w : World) (a : Mod.Md) (ha : Mod.ModAt w.heap.size w a) (fa : a.fits) (ca : a.caps) (ra : a.ranged) (id : Int) (hi : -9223372036854775808 ≤ id ∧ id ≤ 9223372036854775807) (hT : Instr.Nams w ∧ Utf.Tabs w) :
  Calls Tryz.prog 4 #[.agg a.v, .int .i64 id] w fun e w' => e = .returned (.bool true) ∧ Below w.heap.size w w' := Enc.encodeTells_walk w a ha fa ra id hi hT
end Go.Proofs.YtepbjkkakfpjgaaGreatDoor
