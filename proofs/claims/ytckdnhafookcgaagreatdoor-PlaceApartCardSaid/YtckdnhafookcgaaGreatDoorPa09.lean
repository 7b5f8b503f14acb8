import Derived.Test.YtckdnhafookcgaaGreatDoorPa08
import Derived.Test.YtckdnhafookcgaaGreatDoorPa06
import Derived.Test.YtckdnhafookcgaaGreatDoorPa04
import Derived.Laws.EntriesVeiled
namespace Go.Proofs.YtckdnhafookcgaaGreatDoor.Instr
end Go.Proofs.YtckdnhafookcgaaGreatDoor.Instr
namespace Go.Proofs.YtckdnhafookcgaaGreatDoor.Mod
end Go.Proofs.YtckdnhafookcgaaGreatDoor.Mod
namespace Go.Proofs.YtckdnhafookcgaaGreatDoor.Stk
end Go.Proofs.YtckdnhafookcgaaGreatDoor.Stk
namespace Go.Proofs.YtckdnhafookcgaaGreatDoor.Val
open Go.RowKit Go.Proofs.YtckdnhafookcgaaGreatDoor.Instr Go.Proofs.YtckdnhafookcgaaGreatDoor.Mod
open Go.Proofs.YtckdnhafookcgaaGreatDoor.Stk (Fr R pushR popR deadR enterR leaveR labelR newR StAt MadeP OwnF valid lastF)
set_option linter.unusedVariables false

theorem FrAt.save {g : Nat} {W W' : World} {a : Option Addr} {n c : Nat} {l : List Fr} (h : FrAt g W a n c l) (hs : Save g W W') : FrAt g W' a n c l := by
  refine ⟨⟨?_, h.st.len, h.st.cap, h.st.fit⟩, h.ne⟩
  rcases h.st.rows with h1 | ⟨b, off, ha, hb, hc⟩
  · exact .inl h1
  · exact .inr ⟨b, off, ha, Nat.lt_of_lt_of_le hb hs.size, fun i hi q hq v hv => hs.cell (p := ⟨b, off + i * 4 + q, none⟩) (h.ne b off ha) (hc i hi q hq v hv)⟩
theorem Ck.back {g n₀ : Nat} {m : Md} {lo re : Int} {s b : St} {w : World} {a : Option Addr} {n c : Nat} (h : Ck g n₀ m lo re s w) (hf : FrAt g w a n c b.l) :
    Ck g n₀ m lo re (s.back b) ((w.setCell ⟨g, 13, none⟩ (.int .i64 b.h)).setCell ⟨g, 14, none⟩ (.slice a n c)) := by
  obtain ⟨a', n', c', hk, _⟩ := h.blk
  exact ⟨⟨a, n, c, (hk.set13 b.h).set14 (.slice a n c), (hf.set _ _).set _ _⟩, md_set (md_set h.mo h.le _ _) h.le _ _, h.le⟩
/-- A list by contract, whatever the checker's state. -/
def ListC (g n₀ : Nat) (m : Md) (lo re : Int) (t : Il) (a : Option Addr) (n c : Nat) : Prop :=
  ∀ (s : St) (w : World), Ck g n₀ m lo re s w → ListAt n₀ w a n t → 0 ≤ s.cnt → s.cnt + t.count ≤ 1000000000000 → Calls Tryz.prog 154 #[.pointer (some ⟨g, 0, none⟩), .slice a n c] w (Done g n₀ m lo re w (listS m lo re t s))
/-- Types that may be. -/
def Tys (m : Md) : Prop := ∀ t ∈ m.ty, 0 ≤ t.1 ∧ t.1 ≤ 255 ∧ 0 ≤ t.2 ∧ t.2 ≤ 1
theorem Tys.getD {m : Md} (h : Tys m) (k : Nat) : 0 ≤ (m.ty.getD k (0, 0)).1 ∧ (m.ty.getD k (0, 0)).1 ≤ 255 ∧ 0 ≤ (m.ty.getD k (0, 0)).2 ∧ (m.ty.getD k (0, 0)).2 ≤ 1 := by
  by_cases hk : k < m.ty.length
  · have : m.ty.getD k (0, 0) = m.ty[k] := by simp [hk]
    rw [this]
    exact h _ (List.getElem_mem hk)
  · have : m.ty.getD k (0, 0) = (0, 0) := by simp [hk]
    rw [this]
    simp
theorem Tys.typeOf {m : Md} (h : Tys m) (n : Nat) : 0 ≤ (m.typeOf n).1.1 ∧ (m.typeOf n).1.1 ≤ 255 ∧ 0 ≤ (m.typeOf n).1.2 ∧ (m.typeOf n).1.2 ≤ 1 := by
  unfold Md.typeOf
  split
  · simp
  · exact h.getD _
theorem Tys.callee {m : Md} (h : Tys m) (x : Ix) : 0 ≤ (calleeP m x).1.1 ∧ (calleeP m x).1.1 ≤ 255 ∧ 0 ≤ (calleeP m x).1.2 ∧ (calleeP m x).1.2 ≤ 1 := by
  unfold calleeP
  split
  · exact h.typeOf _
  split
  · simp
  · exact h.getD _
theorem labelS_le (n : Int) (s : St) : (labelS n s).1 ≤ 1 := by
  unfold labelS
  split
  · unfold labelR
    split; · simp
    split; · simp
    split; · simp
    rename_i hv hn _
    have hv' : valid s.h s.l = true := by simpa using hv
    have hk : s.l.length - 1 - n.toNat < s.l.length := by have := (Stk.valid_yes hv').2.2.1; have := List.length_pos_iff.2 this; omega
    have : s.l.getD (s.l.length - 1 - n.toNat) Fr.none = s.l[s.l.length - 1 - n.toNat] := by simp [hk]
    simp only [this]
    exact (Stk.valid_fine hv' _ (List.getElem_mem hk)).2.2.2
  · simp
theorem takesP_le (op : Int) : takesP op ≤ 3 := by
  unfold takesP; split
  · have := Num.arity_range op; omega
  · exact (takesO_range op).2
set_option maxRecDepth 100000 in
set_option maxHeartbeats 4000000 in
theorem either_m (g n₀ : Nat) (m : Md) (lo re : Int) (s : St) (x : Ix) (tl te : Il) (w : World) (h : Ck g n₀ m lo re s w) (hx : x.ok) (hLa : ListAt n₀ w x.la x.ln tl) (hEa : ListAt n₀ w x.ea x.en te) (HL : ListC g n₀ m lo re tl x.la x.ln x.lc) (HE : ListC g n₀ m lo re te x.ea x.en x.ec) (hcnt : 0 ≤ s.cnt) (hcn : s.cnt + tl.count + te.count ≤ 1000000000000) :
    Calls Tryz.prog 220 #[.pointer (some ⟨g, 0, none⟩), .agg x.vals] w (Done g n₀ m lo re w (eitherS x.res (listS m lo re tl) (listS m lo re te) s)) := by
  have HA := hid hx
  obtain ⟨W0, hW0⟩ : ∃ W0, W0 = w.alloc (.cells x.vals 105) := ⟨_, rfl⟩
  have hb0 : Below w.heap.size w W0 := by rw [hW0]; exact thenA (Below.refl _ _) _
  have HX : Hid (At x w.heap.size W0) := by rw [hW0]; exact At.made x w
  have HNE : Hid (w.heap.size ≠ g) := hid (Nat.ne_of_gt h.lt)
  have HC := hid (h.on hb0)
  have HC0 := hid h
  have HS := hid (Save.of_below (k := g) hb0)
  clear h hx hb0
  unfold Ix.vals at hW0 ⊢
  have HAL := hid hLa
  have HAE := hid hEa
  replace HL := hid HL
  replace HE := hid HE
  have HCN := hid (And.intro hcnt hcn)
  clear hLa hEa hcnt hcn
  go_enter Tryz.func220, Tryz.ntmps220
  go_upto_region 1 with fail
  rw [← hW0]
  clear hW0
  have CC := hid (pop_m g n₀ m lo re s 1 W0 HC.out (by omega))
  obtain ⟨s1, hs1⟩ : ∃ u, u = popS 1 s := ⟨_, rfl⟩
  rw [← hs1] at CC
  have HZ1 := hid hs1
  clear hs1
  go_wp2_with fail
  refine CC.out.mono ?_
  rintro e1 w1 ⟨rfl, hc1, hv1⟩
  replace HC := hid hc1
  replace HX := hid (HX.out.save hv1 HNE.out)
  replace HS := hid (HS.out.trans hv1)
  clear CC hc1 hv1 
  obtain ⟨a1, n1, c1, hk1, hf1⟩ := HC.out.blk
  have b13 := hk1.c13
  have b14 := hk1.c14
  have HF := hid hf1
  clear hk1 hf1
  go_upto_region 3 with fail
  have hA : Below w1.heap.size w1 (w1.alloc (.cells #[.int .i64 s1.h, .slice a1 n1 c1] 214)) := (Below.refl _ _).alloc (Nat.le_refl _) _
  have HT := hid (Stk.Bx.made w1 (.int .i64 s1.h) (.slice a1 n1 c1))
  obtain ⟨w1', hw1'⟩ : ∃ u, u = w1.alloc (.cells #[.int .i64 s1.h, .slice a1 n1 c1] 214) := ⟨_, rfl⟩
  rw [← hw1'] at hA HT ⊢
  have HGB := hid (show w1.heap.size ≠ g from Nat.ne_of_gt HC.out.lt)
  obtain ⟨gb, hgb⟩ : ∃ gb, gb = w1.heap.size := ⟨_, rfl⟩
  rw [← hgb] at HT HGB ⊢
  replace HC := hid (HC.out.on hA)
  replace HX := hid (HX.out.below hA)
  replace HS := hid (HS.out.trans (Save.of_below hA))
  replace HF := hid (HF.out.on hA)
  have HT0 := hid HT.out.c0
  have HT1 := hid HT.out.c1
  clear hA hw1' hgb HT b13 b14
  have d1 := HX.out.c1
  have CC := hid (enter_m g n₀ m lo re s1 4 x.res w1' HC.out)
  obtain ⟨s2, hs2⟩ : ∃ u, u = enterS 4 x.res s1 := ⟨_, rfl⟩
  rw [← hs2] at CC
  have HZ2 := hid hs2
  clear hs2
  go_wp2_with fail
  refine CC.out.mono ?_
  rintro e2 w2 ⟨rfl, hc2, hv2⟩
  replace HC := hid hc2
  replace HX := hid (HX.out.save hv2 HNE.out)
  replace HS := hid (HS.out.trans hv2)
  replace HT0 := hid (hv2.cell (p := ⟨gb, 0, none⟩) HGB.out HT0.out)
  replace HT1 := hid (hv2.cell (p := ⟨gb, 1, none⟩) HGB.out HT1.out)
  replace HF := hid (HF.out.save hv2)
  clear CC hc2 hv2 d1
  have d6 := HX.out.c6
  have CC := hid (HL.out s2 w2 HC.out (HAL.out.below (HC0.out.below HS.out)) (by rw [HZ2.out, enterS_cnt, HZ1.out, popS_cnt]; exact HCN.out.1) (by rw [HZ2.out, enterS_cnt, HZ1.out, popS_cnt]; have := HCN.out.2; omega))
  obtain ⟨s3, hs3⟩ : ∃ u, u = listS m lo re tl s2 := ⟨_, rfl⟩
  rw [← hs3] at CC
  have HZ3 := hid hs3
  clear hs3
  go_wp2_with fail
  refine CC.out.mono ?_
  rintro e3 w3 ⟨rfl, hc3, hv3⟩
  replace HC := hid hc3
  replace HX := hid (HX.out.save hv3 HNE.out)
  replace HS := hid (HS.out.trans hv3)
  replace HT0 := hid (hv3.cell (p := ⟨gb, 0, none⟩) HGB.out HT0.out)
  replace HT1 := hid (hv3.cell (p := ⟨gb, 1, none⟩) HGB.out HT1.out)
  replace HF := hid (HF.out.save hv3)
  clear CC hc3 hv3 d6
  have q13 := HC.out.blk
  obtain ⟨a3, n3, c3, hk3, -⟩ := q13
  have b13 := hk3.c13
  have b14 := hk3.c14
  have f13 := hk3.f 13
  have f14 := hk3.f 14
  have t0 := HT0.out
  have t1 := HT1.out
  clear hk3
  go_upto_region 6 with fail
  have HCb := hid (HC.out.back (b := s1) HF.out)
  have hv3 : Save g w3 ((w3.setCell ⟨g, 13, none⟩ (.int .i64 s1.h)).setCell ⟨g, 14, none⟩ (.slice a1 n1 c1)) := ((Save.refl g w3).setCell (.inl rfl) _).setCell (.inl rfl) _
  obtain ⟨w3', hw3'⟩ : ∃ u, u = (w3.setCell ⟨g, 13, none⟩ (.int .i64 s1.h)).setCell ⟨g, 14, none⟩ (.slice a1 n1 c1) := ⟨_, rfl⟩
  rw [← hw3'] at hv3 HCb ⊢
  replace HC := HCb
  replace HX := hid (HX.out.save hv3 HNE.out)
  replace HS := hid (HS.out.trans hv3)
  clear hv3 hw3' b13 b14 f13 f14 t0 t1 HCb HT0 HT1 HF
  have hcc3 := listS_cnt m lo re tl s2
  rw [← HZ3.out] at hcc3
  have hc2 : s2.cnt = s.cnt := by rw [HZ2.out, enterS_cnt, HZ1.out, popS_cnt]
  have HC3 := hid (show s.cnt ≤ s3.cnt ∧ s3.cnt ≤ s.cnt + tl.count by omega)
  clear hcc3 hc2
  have d1 := HX.out.c1
  have CC := hid (enter_m g n₀ m lo re (s3.back s1) 5 x.res w3' HC.out)
  obtain ⟨s4, hs4⟩ : ∃ u, u = enterS 5 x.res (s3.back s1) := ⟨_, rfl⟩
  rw [← hs4] at CC
  have HZ4 := hid hs4
  clear hs4
  go_wp2_with fail
  refine CC.out.mono ?_
  rintro e4 w4 ⟨rfl, hc4, hv4⟩
  replace HC := hid hc4
  replace HX := hid (HX.out.save hv4 HNE.out)
  replace HS := hid (HS.out.trans hv4)
  clear CC hc4 hv4 d1
  have d7 := HX.out.c7
  have CC := hid (HE.out s4 w4 HC.out (HAE.out.below (HC0.out.below HS.out)) (by rw [HZ4.out, enterS_cnt]; have := HCN.out.1; have := HC3.out.1; show 0 ≤ s3.cnt; omega) (by rw [HZ4.out, enterS_cnt]; have := HCN.out.2; have := HC3.out.2; show s3.cnt + _ ≤ _; omega))
  obtain ⟨s5, hs5⟩ : ∃ u, u = listS m lo re te s4 := ⟨_, rfl⟩
  rw [← hs5] at CC
  have HZ5 := hid hs5
  clear hs5
  go_wp2_with fail
  refine CC.out.mono ?_
  rintro e5 w5 ⟨rfl, hc5, hv5⟩
  replace HC := hid hc5
  replace HX := hid (HX.out.save hv5 HNE.out)
  replace HS := hid (HS.out.trans hv5)
  clear CC hc5 hv5 d7
  go_wp2
  go_end0
  refine ⟨rfl, ?_, HS.out⟩
  have : eitherS x.res (listS m lo re tl) (listS m lo re te) s = s5 := by unfold eitherS; rw [← HZ1.out, ← HZ2.out, ← HZ3.out, ← HZ4.out, ← HZ5.out]
  rw [this]; exact HC.out
set_option maxRecDepth 100000 in
set_option maxHeartbeats 4000000 in
theorem ins_dead (g n₀ : Nat) (m : Md) (lo re : Int) (s : St) (x : Ix) (tl te : Il) (w : World) (h : Ck g n₀ m lo re s w) (hx : x.ok) (hfit : m.fits) (hlo : 0 ≤ lo ∧ lo ≤ 140737488351232) (hty : Tys m) (hre : re ≤ 9223372036854775807) (hLa : ListAt n₀ w x.la x.ln tl) (hEa : ListAt n₀ w x.ea x.en te) (HL : ListC g n₀ m lo re tl x.la x.ln x.lc) (HE : ListC g n₀ m lo re te x.ea x.en x.ec) (hcnt : 0 ≤ s.cnt) (hcn : s.cnt + tl.count + te.count ≤ 1000000000000) (hop : x.op = 0) :
    Calls Tryz.prog 196 #[.pointer (some ⟨g, 0, none⟩), .agg x.vals] w (Done g n₀ m lo re w (insS m lo re x (listS m lo re tl) (listS m lo re te) s)) := by
  have CL := hid (fun w' (hb : Below w.heap.size w w') => lacks_any g n₀ m lo re s x w' (h.on hb) hx hfit hlo)
  have HTY := hid hty
  have HOP := hid hop
  have HFIT := hid hfit
  clear hfit hlo hty hop
  have HA := hid hx
  obtain ⟨W0, hW0⟩ : ∃ W0, W0 = w.alloc (.cells x.vals 105) := ⟨_, rfl⟩
  have hb0 : Below w.heap.size w W0 := by rw [hW0]; exact thenA (Below.refl _ _) _
  have HX : Hid (At x w.heap.size W0) := by rw [hW0]; exact At.made x w
  have HNE : Hid (w.heap.size ≠ g) := hid (Nat.ne_of_gt h.lt)
  have HC := hid (h.on hb0)
  have HC0 := hid h
  have HS := hid (Save.of_below (k := g) hb0)
  clear h hx hb0
  unfold Ix.vals at hW0 ⊢
  have HAL := hid hLa
  have HAE := hid hEa
  replace HL := hid HL
  replace HE := hid HE
  have HCN := hid (And.intro hcnt hcn)
  clear hLa hEa hcnt hcn
  go_enter Tryz.func196, Tryz.ntmps196
  go_upto_region 1 with fail
  rw [← hW0]
  have hb0 : Below w.heap.size w W0 := by rw [hW0]; exact thenA (Below.refl _ _) _
  have CC := hid (CL.out W0 hb0)
  unfold LacksP at CC
  obtain ⟨lk, hlk⟩ : ∃ lk, lacksP m lo x = lk := ⟨_, rfl⟩
  rw [hlk] at CC
  have HLK := hid hlk
  clear CL hb0 hW0 hlk
  have d0 := HX.out.c0
  have d1 := HX.out.c1
  have d2 := HX.out.c2
  have d3 := HX.out.c3
  have d4 := HX.out.c4
  have d5 := HX.out.c5
  have d6 := HX.out.c6
  have d7 := HX.out.c7
  unfold Ix.vals at CC
  go_wp2_with fail
  refine CC.out.mono ?_
  rintro e0 w0 ⟨rfl, hb0⟩
  replace HC := hid (HC.out.on hb0)
  replace HX := hid (HX.out.below hb0)
  replace HS := hid (HS.out.trans (Save.of_below hb0))
  clear CC hb0 d0 d1 d2 d3 d4 d5 d6 d7
  have CC := hid (fail_m g n₀ m lo re s lk w0 HC.out)
  obtain ⟨s1, hs1⟩ : ∃ u, u = failS lk s := ⟨_, rfl⟩
  rw [← hs1] at CC
  have HZ1 := hid hs1
  clear hs1
  go_wp2_with fail
  refine CC.out.mono ?_
  rintro e1 w1 ⟨rfl, hc1, hv1⟩
  replace HC := hid hc1
  replace HX := hid (HX.out.save hv1 HNE.out)
  replace HS := hid (HS.out.trans hv1)
  clear CC hc1 hv1 
  have d0 := HX.out.c0
  rw [HOP.out] at d0
  have CC := hid (dead_m g n₀ m lo re s1 w1 HC.out)
  obtain ⟨s2, hs2⟩ : ∃ u, u = deadS s1 := ⟨_, rfl⟩
  rw [← hs2] at CC
  have HZ2 := hid hs2
  clear hs2
  go_wp2_with fail
  refine CC.out.mono ?_
  rintro e2 w2 ⟨rfl, hc2, hv2⟩
  replace HC := hid hc2
  replace HX := hid (HX.out.save hv2 HNE.out)
  replace HS := hid (HS.out.trans hv2)
  clear CC hc2 hv2 
  clear d0
  go_wp2
  go_end0
  refine ⟨rfl, ?_, HS.out⟩
  have : insS m lo re x (listS m lo re tl) (listS m lo re te) s = s2 := by
    unfold insS
    rw [HLK.out, ← HZ1.out]
    unfold opS
    rw [if_pos HOP.out, ← HZ2.out]
  rw [this]; exact HC.out
set_option maxRecDepth 100000 in
set_option maxHeartbeats 4000000 in
theorem ins_block (g n₀ : Nat) (m : Md) (lo re : Int) (s : St) (x : Ix) (tl te : Il) (w : World) (h : Ck g n₀ m lo re s w) (hx : x.ok) (hfit : m.fits) (hlo : 0 ≤ lo ∧ lo ≤ 140737488351232) (hty : Tys m) (hre : re ≤ 9223372036854775807) (hLa : ListAt n₀ w x.la x.ln tl) (hEa : ListAt n₀ w x.ea x.en te) (HL : ListC g n₀ m lo re tl x.la x.ln x.lc) (HE : ListC g n₀ m lo re te x.ea x.en x.ec) (hcnt : 0 ≤ s.cnt) (hcn : s.cnt + tl.count + te.count ≤ 1000000000000) (hop : x.op = 2) :
    Calls Tryz.prog 196 #[.pointer (some ⟨g, 0, none⟩), .agg x.vals] w (Done g n₀ m lo re w (insS m lo re x (listS m lo re tl) (listS m lo re te) s)) := by
  have CL := hid (fun w' (hb : Below w.heap.size w w') => lacks_any g n₀ m lo re s x w' (h.on hb) hx hfit hlo)
  have HTY := hid hty
  have HOP := hid hop
  have HFIT := hid hfit
  clear hfit hlo hty hop
  have HA := hid hx
  obtain ⟨W0, hW0⟩ : ∃ W0, W0 = w.alloc (.cells x.vals 105) := ⟨_, rfl⟩
  have hb0 : Below w.heap.size w W0 := by rw [hW0]; exact thenA (Below.refl _ _) _
  have HX : Hid (At x w.heap.size W0) := by rw [hW0]; exact At.made x w
  have HNE : Hid (w.heap.size ≠ g) := hid (Nat.ne_of_gt h.lt)
  have HC := hid (h.on hb0)
  have HC0 := hid h
  have HS := hid (Save.of_below (k := g) hb0)
  clear h hx hb0
  unfold Ix.vals at hW0 ⊢
  have HAL := hid hLa
  have HAE := hid hEa
  replace HL := hid HL
  replace HE := hid HE
  have HCN := hid (And.intro hcnt hcn)
  clear hLa hEa hcnt hcn
  go_enter Tryz.func196, Tryz.ntmps196
  go_upto_region 1 with fail
  rw [← hW0]
  have hb0 : Below w.heap.size w W0 := by rw [hW0]; exact thenA (Below.refl _ _) _
  have CC := hid (CL.out W0 hb0)
  unfold LacksP at CC
  obtain ⟨lk, hlk⟩ : ∃ lk, lacksP m lo x = lk := ⟨_, rfl⟩
  rw [hlk] at CC
  have HLK := hid hlk
  clear CL hb0 hW0 hlk
  have d0 := HX.out.c0
  have d1 := HX.out.c1
  have d2 := HX.out.c2
  have d3 := HX.out.c3
  have d4 := HX.out.c4
  have d5 := HX.out.c5
  have d6 := HX.out.c6
  have d7 := HX.out.c7
  unfold Ix.vals at CC
  go_wp2_with fail
  refine CC.out.mono ?_
  rintro e0 w0 ⟨rfl, hb0⟩
  replace HC := hid (HC.out.on hb0)
  replace HX := hid (HX.out.below hb0)
  replace HS := hid (HS.out.trans (Save.of_below hb0))
  clear CC hb0 d0 d1 d2 d3 d4 d5 d6 d7
  have CC := hid (fail_m g n₀ m lo re s lk w0 HC.out)
  obtain ⟨s1, hs1⟩ : ∃ u, u = failS lk s := ⟨_, rfl⟩
  rw [← hs1] at CC
  have HZ1 := hid hs1
  clear hs1
  go_wp2_with fail
  refine CC.out.mono ?_
  rintro e1 w1 ⟨rfl, hc1, hv1⟩
  replace HC := hid hc1
  replace HX := hid (HX.out.save hv1 HNE.out)
  replace HS := hid (HS.out.trans hv1)
  clear CC hc1 hv1 
  have d0 := HX.out.c0
  rw [HOP.out] at d0
  have d1 := HX.out.c1
  have CC := hid (enter_m g n₀ m lo re s1 2 x.res w1 HC.out)
  obtain ⟨s2, hs2⟩ : ∃ u, u = enterS 2 x.res s1 := ⟨_, rfl⟩
  rw [← hs2] at CC
  have HZ2 := hid hs2
  clear hs2
  go_wp2_with fail
  refine CC.out.mono ?_
  rintro e2 w2 ⟨rfl, hc2, hv2⟩
  replace HC := hid hc2
  replace HX := hid (HX.out.save hv2 HNE.out)
  replace HS := hid (HS.out.trans hv2)
  clear CC hc2 hv2 d1
  have d6 := HX.out.c6
  have CC := hid (HL.out s2 w2 HC.out (HAL.out.below (HC0.out.below HS.out)) (by rw [HZ2.out, enterS_cnt, HZ1.out, failS_cnt]; exact HCN.out.1) (by rw [HZ2.out, enterS_cnt, HZ1.out, failS_cnt]; have := HCN.out.2; omega))
  obtain ⟨s3, hs3⟩ : ∃ u, u = listS m lo re tl s2 := ⟨_, rfl⟩
  rw [← hs3] at CC
  have HZ3 := hid hs3
  clear hs3
  go_wp2_with fail
  refine CC.out.mono ?_
  rintro e3 w3 ⟨rfl, hc3, hv3⟩
  replace HC := hid hc3
  replace HX := hid (HX.out.save hv3 HNE.out)
  replace HS := hid (HS.out.trans hv3)
  clear CC hc3 hv3 d6
  clear d0
  go_wp2
  go_end0
  refine ⟨rfl, ?_, HS.out⟩
  have : insS m lo re x (listS m lo re tl) (listS m lo re te) s = s3 := by
    unfold insS
    rw [HLK.out, ← HZ1.out]
    unfold opS
    rw [if_neg (by rw [HOP.out]; decide), if_pos (by rw [HOP.out]; decide), HOP.out, ← HZ2.out, ← HZ3.out]
  rw [this]; exact HC.out
set_option maxRecDepth 100000 in
set_option maxHeartbeats 4000000 in
theorem ins_loop (g n₀ : Nat) (m : Md) (lo re : Int) (s : St) (x : Ix) (tl te : Il) (w : World) (h : Ck g n₀ m lo re s w) (hx : x.ok) (hfit : m.fits) (hlo : 0 ≤ lo ∧ lo ≤ 140737488351232) (hty : Tys m) (hre : re ≤ 9223372036854775807) (hLa : ListAt n₀ w x.la x.ln tl) (hEa : ListAt n₀ w x.ea x.en te) (HL : ListC g n₀ m lo re tl x.la x.ln x.lc) (HE : ListC g n₀ m lo re te x.ea x.en x.ec) (hcnt : 0 ≤ s.cnt) (hcn : s.cnt + tl.count + te.count ≤ 1000000000000) (hop : x.op = 3) :
    Calls Tryz.prog 196 #[.pointer (some ⟨g, 0, none⟩), .agg x.vals] w (Done g n₀ m lo re w (insS m lo re x (listS m lo re tl) (listS m lo re te) s)) := by
  have CL := hid (fun w' (hb : Below w.heap.size w w') => lacks_any g n₀ m lo re s x w' (h.on hb) hx hfit hlo)
  have HTY := hid hty
  have HOP := hid hop
  have HFIT := hid hfit
  clear hfit hlo hty hop
  have HA := hid hx
  obtain ⟨W0, hW0⟩ : ∃ W0, W0 = w.alloc (.cells x.vals 105) := ⟨_, rfl⟩
  have hb0 : Below w.heap.size w W0 := by rw [hW0]; exact thenA (Below.refl _ _) _
  have HX : Hid (At x w.heap.size W0) := by rw [hW0]; exact At.made x w
  have HNE : Hid (w.heap.size ≠ g) := hid (Nat.ne_of_gt h.lt)
  have HC := hid (h.on hb0)
  have HC0 := hid h
  have HS := hid (Save.of_below (k := g) hb0)
  clear h hx hb0
  unfold Ix.vals at hW0 ⊢
  have HAL := hid hLa
  have HAE := hid hEa
  replace HL := hid HL
  replace HE := hid HE
  have HCN := hid (And.intro hcnt hcn)
  clear hLa hEa hcnt hcn
  go_enter Tryz.func196, Tryz.ntmps196
  go_upto_region 1 with fail
  rw [← hW0]
  have hb0 : Below w.heap.size w W0 := by rw [hW0]; exact thenA (Below.refl _ _) _
  have CC := hid (CL.out W0 hb0)
  unfold LacksP at CC
  obtain ⟨lk, hlk⟩ : ∃ lk, lacksP m lo x = lk := ⟨_, rfl⟩
  rw [hlk] at CC
  have HLK := hid hlk
  clear CL hb0 hW0 hlk
  have d0 := HX.out.c0
  have d1 := HX.out.c1
  have d2 := HX.out.c2
  have d3 := HX.out.c3
  have d4 := HX.out.c4
  have d5 := HX.out.c5
  have d6 := HX.out.c6
  have d7 := HX.out.c7
  unfold Ix.vals at CC
  go_wp2_with fail
  refine CC.out.mono ?_
  rintro e0 w0 ⟨rfl, hb0⟩
  replace HC := hid (HC.out.on hb0)
  replace HX := hid (HX.out.below hb0)
  replace HS := hid (HS.out.trans (Save.of_below hb0))
  clear CC hb0 d0 d1 d2 d3 d4 d5 d6 d7
  have CC := hid (fail_m g n₀ m lo re s lk w0 HC.out)
  obtain ⟨s1, hs1⟩ : ∃ u, u = failS lk s := ⟨_, rfl⟩
  rw [← hs1] at CC
  have HZ1 := hid hs1
  clear hs1
  go_wp2_with fail
  refine CC.out.mono ?_
  rintro e1 w1 ⟨rfl, hc1, hv1⟩
  replace HC := hid hc1
  replace HX := hid (HX.out.save hv1 HNE.out)
  replace HS := hid (HS.out.trans hv1)
  clear CC hc1 hv1 
  have d0 := HX.out.c0
  rw [HOP.out] at d0
  have d1 := HX.out.c1
  have CC := hid (enter_m g n₀ m lo re s1 3 x.res w1 HC.out)
  obtain ⟨s2, hs2⟩ : ∃ u, u = enterS 3 x.res s1 := ⟨_, rfl⟩
  rw [← hs2] at CC
  have HZ2 := hid hs2
  clear hs2
  go_wp2_with fail
  refine CC.out.mono ?_
  rintro e2 w2 ⟨rfl, hc2, hv2⟩
  replace HC := hid hc2
  replace HX := hid (HX.out.save hv2 HNE.out)
  replace HS := hid (HS.out.trans hv2)
  clear CC hc2 hv2 d1
  have d6 := HX.out.c6
  have CC := hid (HL.out s2 w2 HC.out (HAL.out.below (HC0.out.below HS.out)) (by rw [HZ2.out, enterS_cnt, HZ1.out, failS_cnt]; exact HCN.out.1) (by rw [HZ2.out, enterS_cnt, HZ1.out, failS_cnt]; have := HCN.out.2; omega))
  obtain ⟨s3, hs3⟩ : ∃ u, u = listS m lo re tl s2 := ⟨_, rfl⟩
  rw [← hs3] at CC
  have HZ3 := hid hs3
  clear hs3
  go_wp2_with fail
  refine CC.out.mono ?_
  rintro e3 w3 ⟨rfl, hc3, hv3⟩
  replace HC := hid hc3
  replace HX := hid (HX.out.save hv3 HNE.out)
  replace HS := hid (HS.out.trans hv3)
  clear CC hc3 hv3 d6
  clear d0
  go_wp2
  go_end0
  refine ⟨rfl, ?_, HS.out⟩
  have : insS m lo re x (listS m lo re tl) (listS m lo re te) s = s3 := by
    unfold insS
    rw [HLK.out, ← HZ1.out]
    unfold opS
    rw [if_neg (by rw [HOP.out]; decide), if_pos (by rw [HOP.out]; decide), HOP.out, ← HZ2.out, ← HZ3.out]
  rw [this]; exact HC.out
set_option maxRecDepth 100000 in
set_option maxHeartbeats 4000000 in
theorem ins_if (g n₀ : Nat) (m : Md) (lo re : Int) (s : St) (x : Ix) (tl te : Il) (w : World) (h : Ck g n₀ m lo re s w) (hx : x.ok) (hfit : m.fits) (hlo : 0 ≤ lo ∧ lo ≤ 140737488351232) (hty : Tys m) (hre : re ≤ 9223372036854775807) (hLa : ListAt n₀ w x.la x.ln tl) (hEa : ListAt n₀ w x.ea x.en te) (HL : ListC g n₀ m lo re tl x.la x.ln x.lc) (HE : ListC g n₀ m lo re te x.ea x.en x.ec) (hcnt : 0 ≤ s.cnt) (hcn : s.cnt + tl.count + te.count ≤ 1000000000000) (hop : x.op = 4) :
    Calls Tryz.prog 196 #[.pointer (some ⟨g, 0, none⟩), .agg x.vals] w (Done g n₀ m lo re w (insS m lo re x (listS m lo re tl) (listS m lo re te) s)) := by
  have CL := hid (fun w' (hb : Below w.heap.size w w') => lacks_any g n₀ m lo re s x w' (h.on hb) hx hfit hlo)
  have HTY := hid hty
  have HOP := hid hop
  have HFIT := hid hfit
  clear hfit hlo hty hop
  have HA := hid hx
  obtain ⟨W0, hW0⟩ : ∃ W0, W0 = w.alloc (.cells x.vals 105) := ⟨_, rfl⟩
  have hb0 : Below w.heap.size w W0 := by rw [hW0]; exact thenA (Below.refl _ _) _
  have HX : Hid (At x w.heap.size W0) := by rw [hW0]; exact At.made x w
  have HNE : Hid (w.heap.size ≠ g) := hid (Nat.ne_of_gt h.lt)
  have HC := hid (h.on hb0)
  have HC0 := hid h
  have HS := hid (Save.of_below (k := g) hb0)
  clear h hx hb0
  unfold Ix.vals at hW0 ⊢
  have HAL := hid hLa
  have HAE := hid hEa
  replace HL := hid HL
  replace HE := hid HE
  have HCN := hid (And.intro hcnt hcn)
  clear hLa hEa hcnt hcn
  go_enter Tryz.func196, Tryz.ntmps196
  go_upto_region 1 with fail
  rw [← hW0]
  have hb0 : Below w.heap.size w W0 := by rw [hW0]; exact thenA (Below.refl _ _) _
  have CC := hid (CL.out W0 hb0)
  unfold LacksP at CC
  obtain ⟨lk, hlk⟩ : ∃ lk, lacksP m lo x = lk := ⟨_, rfl⟩
  rw [hlk] at CC
  have HLK := hid hlk
  clear CL hb0 hW0 hlk
  have d0 := HX.out.c0
  have d1 := HX.out.c1
  have d2 := HX.out.c2
  have d3 := HX.out.c3
  have d4 := HX.out.c4
  have d5 := HX.out.c5
  have d6 := HX.out.c6
  have d7 := HX.out.c7
  unfold Ix.vals at CC
  go_wp2_with fail
  refine CC.out.mono ?_
  rintro e0 w0 ⟨rfl, hb0⟩
  replace HC := hid (HC.out.on hb0)
  replace HX := hid (HX.out.below hb0)
  replace HS := hid (HS.out.trans (Save.of_below hb0))
  clear CC hb0 d0 d1 d2 d3 d4 d5 d6 d7
  have CC := hid (fail_m g n₀ m lo re s lk w0 HC.out)
  obtain ⟨s1, hs1⟩ : ∃ u, u = failS lk s := ⟨_, rfl⟩
  rw [← hs1] at CC
  have HZ1 := hid hs1
  clear hs1
  go_wp2_with fail
  refine CC.out.mono ?_
  rintro e1 w1 ⟨rfl, hc1, hv1⟩
  replace HC := hid hc1
  replace HX := hid (HX.out.save hv1 HNE.out)
  replace HS := hid (HS.out.trans hv1)
  clear CC hc1 hv1 
  have d0 := HX.out.c0
  have d1 := HX.out.c1
  have d2 := HX.out.c2
  have d3 := HX.out.c3
  have d4 := HX.out.c4
  have d5 := HX.out.c5
  have d6 := HX.out.c6
  have d7 := HX.out.c7
  rw [HOP.out] at d0
  have CE := hid (either_m g n₀ m lo re s1 x tl te w1 HC.out HA.out (HAL.out.below (HC0.out.below HS.out)) (HAE.out.below (HC0.out.below HS.out)) HL.out HE.out (by rw [HZ1.out, failS_cnt]; exact HCN.out.1) (by rw [HZ1.out, failS_cnt]; exact HCN.out.2))
  unfold Ix.vals at CE
  rw [HOP.out] at CE
  have CC := hid (CE.out)
  obtain ⟨s2, hs2⟩ : ∃ u, u = eitherS x.res (listS m lo re tl) (listS m lo re te) s1 := ⟨_, rfl⟩
  rw [← hs2] at CC
  have HZ2 := hid hs2
  clear hs2
  go_wp2_with fail
  refine CC.out.mono ?_
  rintro e2 w2 ⟨rfl, hc2, hv2⟩
  replace HC := hid hc2
  replace HX := hid (HX.out.save hv2 HNE.out)
  replace HS := hid (HS.out.trans hv2)
  clear CC hc2 hv2 
  clear CE d0 d1 d2 d3 d4 d5 d6 d7
  go_wp2
  go_end0
  refine ⟨rfl, ?_, HS.out⟩
  have : insS m lo re x (listS m lo re tl) (listS m lo re te) s = s2 := by
    unfold insS
    rw [HLK.out, ← HZ1.out]
    unfold opS
    rw [if_neg (by rw [HOP.out]; decide), if_neg (by rw [HOP.out]; decide), if_pos HOP.out, ← HZ2.out]
  rw [this]; exact HC.out
set_option maxRecDepth 100000 in
set_option maxHeartbeats 4000000 in
theorem ins_table (g n₀ : Nat) (m : Md) (lo re : Int) (s : St) (x : Ix) (tl te : Il) (w : World) (h : Ck g n₀ m lo re s w) (hx : x.ok) (hfit : m.fits) (hlo : 0 ≤ lo ∧ lo ≤ 140737488351232) (hty : Tys m) (hre : re ≤ 9223372036854775807) (hLa : ListAt n₀ w x.la x.ln tl) (hEa : ListAt n₀ w x.ea x.en te) (HL : ListC g n₀ m lo re tl x.la x.ln x.lc) (HE : ListC g n₀ m lo re te x.ea x.en x.ec) (hcnt : 0 ≤ s.cnt) (hcn : s.cnt + tl.count + te.count ≤ 1000000000000) (hta : TagsAt n₀ w x.ta x.tags) (hop : x.op = 14) :
    Calls Tryz.prog 196 #[.pointer (some ⟨g, 0, none⟩), .agg x.vals] w (Done g n₀ m lo re w (insS m lo re x (listS m lo re tl) (listS m lo re te) s)) := by
  have CL := hid (fun w' (hb : Below w.heap.size w w') => lacks_any g n₀ m lo re s x w' (h.on hb) hx hfit hlo)
  have HTY := hid hty
  have HOP := hid hop
  have HFIT := hid hfit
  clear hfit hlo hty hop
  have HA := hid hx
  obtain ⟨W0, hW0⟩ : ∃ W0, W0 = w.alloc (.cells x.vals 105) := ⟨_, rfl⟩
  have hb0 : Below w.heap.size w W0 := by rw [hW0]; exact thenA (Below.refl _ _) _
  have HX : Hid (At x w.heap.size W0) := by rw [hW0]; exact At.made x w
  have HNE : Hid (w.heap.size ≠ g) := hid (Nat.ne_of_gt h.lt)
  have HC := hid (h.on hb0)
  have HC0 := hid h
  have HS := hid (Save.of_below (k := g) hb0)
  clear h hx hb0
  unfold Ix.vals at hW0 ⊢
  have HAL := hid hLa
  have HAE := hid hEa
  replace HL := hid HL
  replace HE := hid HE
  have HCN := hid (And.intro hcnt hcn)
  clear hLa hEa hcnt hcn
  have HTA0 := hid hta
  clear hta
  go_enter Tryz.func196, Tryz.ntmps196
  go_upto_region 1 with fail
  rw [← hW0]
  have hb0 : Below w.heap.size w W0 := by rw [hW0]; exact thenA (Below.refl _ _) _
  have CC := hid (CL.out W0 hb0)
  unfold LacksP at CC
  obtain ⟨lk, hlk⟩ : ∃ lk, lacksP m lo x = lk := ⟨_, rfl⟩
  rw [hlk] at CC
  have HLK := hid hlk
  clear CL hb0 hW0 hlk
  have d0 := HX.out.c0
  have d1 := HX.out.c1
  have d2 := HX.out.c2
  have d3 := HX.out.c3
  have d4 := HX.out.c4
  have d5 := HX.out.c5
  have d6 := HX.out.c6
  have d7 := HX.out.c7
  unfold Ix.vals at CC
  go_wp2_with fail
  refine CC.out.mono ?_
  rintro e0 w0 ⟨rfl, hb0⟩
  replace HC := hid (HC.out.on hb0)
  replace HX := hid (HX.out.below hb0)
  replace HS := hid (HS.out.trans (Save.of_below hb0))
  clear CC hb0 d0 d1 d2 d3 d4 d5 d6 d7
  have CC := hid (fail_m g n₀ m lo re s lk w0 HC.out)
  obtain ⟨s1, hs1⟩ : ∃ u, u = failS lk s := ⟨_, rfl⟩
  rw [← hs1] at CC
  have HZ1 := hid hs1
  clear hs1
  go_wp2_with fail
  refine CC.out.mono ?_
  rintro e1 w1 ⟨rfl, hc1, hv1⟩
  replace HC := hid hc1
  replace HX := hid (HX.out.save hv1 HNE.out)
  replace HS := hid (HS.out.trans hv1)
  clear CC hc1 hv1 
  have d0 := HX.out.c0
  rw [HOP.out] at d0
  have HTA := hid (HTA0.out.below (HC0.out.below HS.out))
  have d2 := HX.out.c2
  have d5 := HX.out.c5
  have CC := hid (labels_m g n₀ m lo re s1 x.ta x.tc x.tags x.a w1 HC.out HTA.out HA.out.tags HA.out.a HA.out.tn)
  obtain ⟨s2, hs2⟩ : ∃ u, u = tableS x.tags x.a s1 := ⟨_, rfl⟩
  rw [← hs2] at CC
  have HZ2 := hid hs2
  clear hs2
  go_wp2_with fail
  refine CC.out.mono ?_
  rintro e2 w2 ⟨rfl, hc2, hv2⟩
  replace HC := hid hc2
  replace HX := hid (HX.out.save hv2 HNE.out)
  replace HS := hid (HS.out.trans hv2)
  clear CC hc2 hv2 d2 d5
  have CC := hid (pop_m g n₀ m lo re s2 1 w2 HC.out (by omega))
  obtain ⟨s3, hs3⟩ : ∃ u, u = popS 1 s2 := ⟨_, rfl⟩
  rw [← hs3] at CC
  have HZ3 := hid hs3
  clear hs3
  go_wp2_with fail
  refine CC.out.mono ?_
  rintro e3 w3 ⟨rfl, hc3, hv3⟩
  replace HC := hid hc3
  replace HX := hid (HX.out.save hv3 HNE.out)
  replace HS := hid (HS.out.trans hv3)
  clear CC hc3 hv3 
  have d2 := HX.out.c2
  have CC := hid (label_m g n₀ m lo re s3 x.a w3 HC.out HA.out.a)
  obtain ⟨p4, hp4⟩ : ∃ u, u = labelS x.a s3 := ⟨_, rfl⟩
  rw [← hp4] at CC
  have HZ4 := hid hp4
  have HQ4 := hid (show p4.1 ≤ 1 by rw [hp4]; exact labelS_le _ _)
  clear hp4
  obtain ⟨q4, s4⟩ := p4
  go_wp2_with fail
  refine CC.out.mono ?_
  rintro e4 w4 ⟨rfl, hc4, hv4⟩
  replace HC := hid hc4
  replace HX := hid (HX.out.save hv4 HNE.out)
  replace HS := hid (HS.out.trans hv4)
  clear CC hc4 hv4 d2
  have CC := hid (pop_m g n₀ m lo re s4 q4 w4 HC.out (by have : q4 ≤ 1 := HQ4.out; omega))
  obtain ⟨s5, hs5⟩ : ∃ u, u = popS q4 s4 := ⟨_, rfl⟩
  rw [← hs5] at CC
  have HZ5 := hid hs5
  clear hs5
  go_wp2_with fail
  refine CC.out.mono ?_
  rintro e5 w5 ⟨rfl, hc5, hv5⟩
  replace HC := hid hc5
  replace HX := hid (HX.out.save hv5 HNE.out)
  replace HS := hid (HS.out.trans hv5)
  clear CC hc5 hv5 
  have CC := hid (dead_m g n₀ m lo re s5 w5 HC.out)
  obtain ⟨s6, hs6⟩ : ∃ u, u = deadS s5 := ⟨_, rfl⟩
  rw [← hs6] at CC
  have HZ6 := hid hs6
  clear hs6
  go_wp2_with fail
  refine CC.out.mono ?_
  rintro e6 w6 ⟨rfl, hc6, hv6⟩
  replace HC := hid hc6
  replace HX := hid (HX.out.save hv6 HNE.out)
  replace HS := hid (HS.out.trans hv6)
  clear CC hc6 hv6 
  clear d0
  go_wp2
  go_end0
  refine ⟨rfl, ?_, HS.out⟩
  have : insS m lo re x (listS m lo re tl) (listS m lo re te) s = s6 := by
    unfold insS
    rw [HLK.out, ← HZ1.out]
    unfold opS
    rw [if_neg (by rw [HOP.out]; decide), if_neg (by rw [HOP.out]; decide), if_neg (by rw [HOP.out]; decide), if_pos HOP.out, ← HZ2.out, ← HZ3.out]
    unfold brS
    rw [← HZ4.out]
    simp only
    rw [← HZ5.out, ← HZ6.out]
  rw [this]; exact HC.out
set_option maxRecDepth 100000 in
set_option maxHeartbeats 4000000 in
theorem ins_br (g n₀ : Nat) (m : Md) (lo re : Int) (s : St) (x : Ix) (tl te : Il) (w : World) (h : Ck g n₀ m lo re s w) (hx : x.ok) (hfit : m.fits) (hlo : 0 ≤ lo ∧ lo ≤ 140737488351232) (hty : Tys m) (hre : re ≤ 9223372036854775807) (hLa : ListAt n₀ w x.la x.ln tl) (hEa : ListAt n₀ w x.ea x.en te) (HL : ListC g n₀ m lo re tl x.la x.ln x.lc) (HE : ListC g n₀ m lo re te x.ea x.en x.ec) (hcnt : 0 ≤ s.cnt) (hcn : s.cnt + tl.count + te.count ≤ 1000000000000) (hop : x.op = 12) :
    Calls Tryz.prog 196 #[.pointer (some ⟨g, 0, none⟩), .agg x.vals] w (Done g n₀ m lo re w (insS m lo re x (listS m lo re tl) (listS m lo re te) s)) := by
  have CL := hid (fun w' (hb : Below w.heap.size w w') => lacks_any g n₀ m lo re s x w' (h.on hb) hx hfit hlo)
  have HTY := hid hty
  have HOP := hid hop
  have HFIT := hid hfit
  clear hfit hlo hty hop
  have HA := hid hx
  obtain ⟨W0, hW0⟩ : ∃ W0, W0 = w.alloc (.cells x.vals 105) := ⟨_, rfl⟩
  have hb0 : Below w.heap.size w W0 := by rw [hW0]; exact thenA (Below.refl _ _) _
  have HX : Hid (At x w.heap.size W0) := by rw [hW0]; exact At.made x w
  have HNE : Hid (w.heap.size ≠ g) := hid (Nat.ne_of_gt h.lt)
  have HC := hid (h.on hb0)
  have HC0 := hid h
  have HS := hid (Save.of_below (k := g) hb0)
  clear h hx hb0
  unfold Ix.vals at hW0 ⊢
  have HAL := hid hLa
  have HAE := hid hEa
  replace HL := hid HL
  replace HE := hid HE
  have HCN := hid (And.intro hcnt hcn)
  clear hLa hEa hcnt hcn
  go_enter Tryz.func196, Tryz.ntmps196
  go_upto_region 1 with fail
  rw [← hW0]
  have hb0 : Below w.heap.size w W0 := by rw [hW0]; exact thenA (Below.refl _ _) _
  have CC := hid (CL.out W0 hb0)
  unfold LacksP at CC
  obtain ⟨lk, hlk⟩ : ∃ lk, lacksP m lo x = lk := ⟨_, rfl⟩
  rw [hlk] at CC
  have HLK := hid hlk
  clear CL hb0 hW0 hlk
  have d0 := HX.out.c0
  have d1 := HX.out.c1
  have d2 := HX.out.c2
  have d3 := HX.out.c3
  have d4 := HX.out.c4
  have d5 := HX.out.c5
  have d6 := HX.out.c6
  have d7 := HX.out.c7
  unfold Ix.vals at CC
  go_wp2_with fail
  refine CC.out.mono ?_
  rintro e0 w0 ⟨rfl, hb0⟩
  replace HC := hid (HC.out.on hb0)
  replace HX := hid (HX.out.below hb0)
  replace HS := hid (HS.out.trans (Save.of_below hb0))
  clear CC hb0 d0 d1 d2 d3 d4 d5 d6 d7
  have CC := hid (fail_m g n₀ m lo re s lk w0 HC.out)
  obtain ⟨s1, hs1⟩ : ∃ u, u = failS lk s := ⟨_, rfl⟩
  rw [← hs1] at CC
  have HZ1 := hid hs1
  clear hs1
  go_wp2_with fail
  refine CC.out.mono ?_
  rintro e1 w1 ⟨rfl, hc1, hv1⟩
  replace HC := hid hc1
  replace HX := hid (HX.out.save hv1 HNE.out)
  replace HS := hid (HS.out.trans hv1)
  clear CC hc1 hv1 
  have d0 := HX.out.c0
  rw [HOP.out] at d0
  have d2 := HX.out.c2
  have CC := hid (label_m g n₀ m lo re s1 x.a w1 HC.out HA.out.a)
  obtain ⟨p2, hp2⟩ : ∃ u, u = labelS x.a s1 := ⟨_, rfl⟩
  rw [← hp2] at CC
  have HZ2 := hid hp2
  have HQ2 := hid (show p2.1 ≤ 1 by rw [hp2]; exact labelS_le _ _)
  clear hp2
  obtain ⟨q2, s2⟩ := p2
  go_wp2_with fail
  refine CC.out.mono ?_
  rintro e2 w2 ⟨rfl, hc2, hv2⟩
  replace HC := hid hc2
  replace HX := hid (HX.out.save hv2 HNE.out)
  replace HS := hid (HS.out.trans hv2)
  clear CC hc2 hv2 d2
  have CC := hid (pop_m g n₀ m lo re s2 q2 w2 HC.out (by have : q2 ≤ 1 := HQ2.out; omega))
  obtain ⟨s3, hs3⟩ : ∃ u, u = popS q2 s2 := ⟨_, rfl⟩
  rw [← hs3] at CC
  have HZ3 := hid hs3
  clear hs3
  go_wp2_with fail
  refine CC.out.mono ?_
  rintro e3 w3 ⟨rfl, hc3, hv3⟩
  replace HC := hid hc3
  replace HX := hid (HX.out.save hv3 HNE.out)
  replace HS := hid (HS.out.trans hv3)
  clear CC hc3 hv3 
  have CC := hid (dead_m g n₀ m lo re s3 w3 HC.out)
  obtain ⟨s4, hs4⟩ : ∃ u, u = deadS s3 := ⟨_, rfl⟩
  rw [← hs4] at CC
  have HZ4 := hid hs4
  clear hs4
  go_wp2_with fail
  refine CC.out.mono ?_
  rintro e4 w4 ⟨rfl, hc4, hv4⟩
  replace HC := hid hc4
  replace HX := hid (HX.out.save hv4 HNE.out)
  replace HS := hid (HS.out.trans hv4)
  clear CC hc4 hv4 
  clear d0
  go_wp2
  go_end0
  refine ⟨rfl, ?_, HS.out⟩
  have : insS m lo re x (listS m lo re tl) (listS m lo re te) s = s4 := by
    unfold insS
    rw [HLK.out, ← HZ1.out]
    unfold opS
    rw [if_neg (by rw [HOP.out]; decide), if_neg (by rw [HOP.out]; decide), if_neg (by rw [HOP.out]; decide), if_neg (by rw [HOP.out]; decide), if_pos HOP.out]
    unfold brS
    rw [← HZ2.out]
    simp only
    rw [← HZ3.out, ← HZ4.out]
  rw [this]; exact HC.out
set_option maxRecDepth 100000 in
set_option maxHeartbeats 4000000 in
theorem ins_brif (g n₀ : Nat) (m : Md) (lo re : Int) (s : St) (x : Ix) (tl te : Il) (w : World) (h : Ck g n₀ m lo re s w) (hx : x.ok) (hfit : m.fits) (hlo : 0 ≤ lo ∧ lo ≤ 140737488351232) (hty : Tys m) (hre : re ≤ 9223372036854775807) (hLa : ListAt n₀ w x.la x.ln tl) (hEa : ListAt n₀ w x.ea x.en te) (HL : ListC g n₀ m lo re tl x.la x.ln x.lc) (HE : ListC g n₀ m lo re te x.ea x.en x.ec) (hcnt : 0 ≤ s.cnt) (hcn : s.cnt + tl.count + te.count ≤ 1000000000000) (hop : x.op = 13) :
    Calls Tryz.prog 196 #[.pointer (some ⟨g, 0, none⟩), .agg x.vals] w (Done g n₀ m lo re w (insS m lo re x (listS m lo re tl) (listS m lo re te) s)) := by
  have CL := hid (fun w' (hb : Below w.heap.size w w') => lacks_any g n₀ m lo re s x w' (h.on hb) hx hfit hlo)
  have HTY := hid hty
  have HOP := hid hop
  have HFIT := hid hfit
  clear hfit hlo hty hop
  have HA := hid hx
  obtain ⟨W0, hW0⟩ : ∃ W0, W0 = w.alloc (.cells x.vals 105) := ⟨_, rfl⟩
  have hb0 : Below w.heap.size w W0 := by rw [hW0]; exact thenA (Below.refl _ _) _
  have HX : Hid (At x w.heap.size W0) := by rw [hW0]; exact At.made x w
  have HNE : Hid (w.heap.size ≠ g) := hid (Nat.ne_of_gt h.lt)
  have HC := hid (h.on hb0)
  have HC0 := hid h
  have HS := hid (Save.of_below (k := g) hb0)
  clear h hx hb0
  unfold Ix.vals at hW0 ⊢
  have HAL := hid hLa
  have HAE := hid hEa
  replace HL := hid HL
  replace HE := hid HE
  have HCN := hid (And.intro hcnt hcn)
  clear hLa hEa hcnt hcn
  go_enter Tryz.func196, Tryz.ntmps196
  go_upto_region 1 with fail
  rw [← hW0]
  have hb0 : Below w.heap.size w W0 := by rw [hW0]; exact thenA (Below.refl _ _) _
  have CC := hid (CL.out W0 hb0)
  unfold LacksP at CC
  obtain ⟨lk, hlk⟩ : ∃ lk, lacksP m lo x = lk := ⟨_, rfl⟩
  rw [hlk] at CC
  have HLK := hid hlk
  clear CL hb0 hW0 hlk
  have d0 := HX.out.c0
  have d1 := HX.out.c1
  have d2 := HX.out.c2
  have d3 := HX.out.c3
  have d4 := HX.out.c4
  have d5 := HX.out.c5
  have d6 := HX.out.c6
  have d7 := HX.out.c7
  unfold Ix.vals at CC
  go_wp2_with fail
  refine CC.out.mono ?_
  rintro e0 w0 ⟨rfl, hb0⟩
  replace HC := hid (HC.out.on hb0)
  replace HX := hid (HX.out.below hb0)
  replace HS := hid (HS.out.trans (Save.of_below hb0))
  clear CC hb0 d0 d1 d2 d3 d4 d5 d6 d7
  have CC := hid (fail_m g n₀ m lo re s lk w0 HC.out)
  obtain ⟨s1, hs1⟩ : ∃ u, u = failS lk s := ⟨_, rfl⟩
  rw [← hs1] at CC
  have HZ1 := hid hs1
  clear hs1
  go_wp2_with fail
  refine CC.out.mono ?_
  rintro e1 w1 ⟨rfl, hc1, hv1⟩
  replace HC := hid hc1
  replace HX := hid (HX.out.save hv1 HNE.out)
  replace HS := hid (HS.out.trans hv1)
  clear CC hc1 hv1 
  have d0 := HX.out.c0
  rw [HOP.out] at d0
  have d2 := HX.out.c2
  have CC := hid (label_m g n₀ m lo re s1 x.a w1 HC.out HA.out.a)
  obtain ⟨p2, hp2⟩ : ∃ u, u = labelS x.a s1 := ⟨_, rfl⟩
  rw [← hp2] at CC
  have HZ2 := hid hp2
  have HQ2 := hid (show p2.1 ≤ 1 by rw [hp2]; exact labelS_le _ _)
  clear hp2
  obtain ⟨q2, s2⟩ := p2
  go_wp2_with fail
  refine CC.out.mono ?_
  rintro e2 w2 ⟨rfl, hc2, hv2⟩
  replace HC := hid hc2
  replace HX := hid (HX.out.save hv2 HNE.out)
  replace HS := hid (HS.out.trans hv2)
  clear CC hc2 hv2 d2
  have CC := hid (pop_m g n₀ m lo re s2 1 w2 HC.out (by omega))
  obtain ⟨s3, hs3⟩ : ∃ u, u = popS 1 s2 := ⟨_, rfl⟩
  rw [← hs3] at CC
  have HZ3 := hid hs3
  clear hs3
  go_wp2_with fail
  refine CC.out.mono ?_
  rintro e3 w3 ⟨rfl, hc3, hv3⟩
  replace HC := hid hc3
  replace HX := hid (HX.out.save hv3 HNE.out)
  replace HS := hid (HS.out.trans hv3)
  clear CC hc3 hv3 
  have CC := hid (pop_m g n₀ m lo re s3 q2 w3 HC.out (by have : q2 ≤ 1 := HQ2.out; omega))
  obtain ⟨s4, hs4⟩ : ∃ u, u = popS q2 s3 := ⟨_, rfl⟩
  rw [← hs4] at CC
  have HZ4 := hid hs4
  clear hs4
  go_wp2_with fail
  refine CC.out.mono ?_
  rintro e4 w4 ⟨rfl, hc4, hv4⟩
  replace HC := hid hc4
  replace HX := hid (HX.out.save hv4 HNE.out)
  replace HS := hid (HS.out.trans hv4)
  clear CC hc4 hv4 
  have CC := hid (push_m g n₀ m lo re s4 q2 w4 HC.out)
  obtain ⟨s5, hs5⟩ : ∃ u, u = pushS q2 s4 := ⟨_, rfl⟩
  rw [← hs5] at CC
  have HZ5 := hid hs5
  clear hs5
  go_wp2_with fail
  refine CC.out.mono ?_
  rintro e5 w5 ⟨rfl, hc5, hv5⟩
  replace HC := hid hc5
  replace HX := hid (HX.out.save hv5 HNE.out)
  replace HS := hid (HS.out.trans hv5)
  clear CC hc5 hv5 
  clear d0
  go_wp2
  go_end0
  refine ⟨rfl, ?_, HS.out⟩
  have : insS m lo re x (listS m lo re tl) (listS m lo re te) s = s5 := by
    unfold insS
    rw [HLK.out, ← HZ1.out]
    unfold opS
    rw [if_neg (by rw [HOP.out]; decide), if_neg (by rw [HOP.out]; decide), if_neg (by rw [HOP.out]; decide), if_neg (by rw [HOP.out]; decide), if_neg (by rw [HOP.out]; decide), if_pos HOP.out]
    unfold brIfS
    rw [← HZ2.out]
    simp only
    rw [← HZ3.out, ← HZ4.out, ← HZ5.out]
  rw [this]; exact HC.out
set_option maxRecDepth 100000 in
set_option maxHeartbeats 4000000 in
theorem ins_ret (g n₀ : Nat) (m : Md) (lo re : Int) (s : St) (x : Ix) (tl te : Il) (w : World) (h : Ck g n₀ m lo re s w) (hx : x.ok) (hfit : m.fits) (hlo : 0 ≤ lo ∧ lo ≤ 140737488351232) (hty : Tys m) (hre : re ≤ 9223372036854775807) (hLa : ListAt n₀ w x.la x.ln tl) (hEa : ListAt n₀ w x.ea x.en te) (HL : ListC g n₀ m lo re tl x.la x.ln x.lc) (HE : ListC g n₀ m lo re te x.ea x.en x.ec) (hcnt : 0 ≤ s.cnt) (hcn : s.cnt + tl.count + te.count ≤ 1000000000000) (hop : x.op = 15) :
    Calls Tryz.prog 196 #[.pointer (some ⟨g, 0, none⟩), .agg x.vals] w (Done g n₀ m lo re w (insS m lo re x (listS m lo re tl) (listS m lo re te) s)) := by
  have CL := hid (fun w' (hb : Below w.heap.size w w') => lacks_any g n₀ m lo re s x w' (h.on hb) hx hfit hlo)
  have HTY := hid hty
  have HOP := hid hop
  have HFIT := hid hfit
  clear hfit hlo hty hop
  have HA := hid hx
  obtain ⟨W0, hW0⟩ : ∃ W0, W0 = w.alloc (.cells x.vals 105) := ⟨_, rfl⟩
  have hb0 : Below w.heap.size w W0 := by rw [hW0]; exact thenA (Below.refl _ _) _
  have HX : Hid (At x w.heap.size W0) := by rw [hW0]; exact At.made x w
  have HNE : Hid (w.heap.size ≠ g) := hid (Nat.ne_of_gt h.lt)
  have HC := hid (h.on hb0)
  have HC0 := hid h
  have HS := hid (Save.of_below (k := g) hb0)
  clear h hx hb0
  unfold Ix.vals at hW0 ⊢
  have HAL := hid hLa
  have HAE := hid hEa
  replace HL := hid HL
  replace HE := hid HE
  have HCN := hid (And.intro hcnt hcn)
  clear hLa hEa hcnt hcn
  go_enter Tryz.func196, Tryz.ntmps196
  go_upto_region 1 with fail
  rw [← hW0]
  have hb0 : Below w.heap.size w W0 := by rw [hW0]; exact thenA (Below.refl _ _) _
  have CC := hid (CL.out W0 hb0)
  unfold LacksP at CC
  obtain ⟨lk, hlk⟩ : ∃ lk, lacksP m lo x = lk := ⟨_, rfl⟩
  rw [hlk] at CC
  have HLK := hid hlk
  clear CL hb0 hW0 hlk
  have d0 := HX.out.c0
  have d1 := HX.out.c1
  have d2 := HX.out.c2
  have d3 := HX.out.c3
  have d4 := HX.out.c4
  have d5 := HX.out.c5
  have d6 := HX.out.c6
  have d7 := HX.out.c7
  unfold Ix.vals at CC
  go_wp2_with fail
  refine CC.out.mono ?_
  rintro e0 w0 ⟨rfl, hb0⟩
  replace HC := hid (HC.out.on hb0)
  replace HX := hid (HX.out.below hb0)
  replace HS := hid (HS.out.trans (Save.of_below hb0))
  clear CC hb0 d0 d1 d2 d3 d4 d5 d6 d7
  have CC := hid (fail_m g n₀ m lo re s lk w0 HC.out)
  obtain ⟨s1, hs1⟩ : ∃ u, u = failS lk s := ⟨_, rfl⟩
  rw [← hs1] at CC
  have HZ1 := hid hs1
  clear hs1
  go_wp2_with fail
  refine CC.out.mono ?_
  rintro e1 w1 ⟨rfl, hc1, hv1⟩
  replace HC := hid hc1
  replace HX := hid (HX.out.save hv1 HNE.out)
  replace HS := hid (HS.out.trans hv1)
  clear CC hc1 hv1 
  have d0 := HX.out.c0
  rw [HOP.out] at d0
  obtain ⟨a1, n1, c1, hk1, -⟩ := HC.out.blk
  have b12 := hk1.c12
  clear hk1
  have CC := hid (pop_m g n₀ m lo re s1 re w1 HC.out hre)
  obtain ⟨s2, hs2⟩ : ∃ u, u = popS re s1 := ⟨_, rfl⟩
  rw [← hs2] at CC
  have HZ2 := hid hs2
  clear hs2
  go_wp2_with fail
  refine CC.out.mono ?_
  rintro e2 w2 ⟨rfl, hc2, hv2⟩
  replace HC := hid hc2
  replace HX := hid (HX.out.save hv2 HNE.out)
  replace HS := hid (HS.out.trans hv2)
  clear CC hc2 hv2 
  clear b12
  have CC := hid (dead_m g n₀ m lo re s2 w2 HC.out)
  obtain ⟨s3, hs3⟩ : ∃ u, u = deadS s2 := ⟨_, rfl⟩
  rw [← hs3] at CC
  have HZ3 := hid hs3
  clear hs3
  go_wp2_with fail
  refine CC.out.mono ?_
  rintro e3 w3 ⟨rfl, hc3, hv3⟩
  replace HC := hid hc3
  replace HX := hid (HX.out.save hv3 HNE.out)
  replace HS := hid (HS.out.trans hv3)
  clear CC hc3 hv3 
  clear d0
  go_wp2
  go_end0
  refine ⟨rfl, ?_, HS.out⟩
  have : insS m lo re x (listS m lo re tl) (listS m lo re te) s = s3 := by
    unfold insS
    rw [HLK.out, ← HZ1.out]
    unfold opS
    rw [if_neg (by rw [HOP.out]; decide), if_neg (by rw [HOP.out]; decide), if_neg (by rw [HOP.out]; decide), if_neg (by rw [HOP.out]; decide), if_neg (by rw [HOP.out]; decide), if_neg (by rw [HOP.out]; decide), if_pos HOP.out, ← HZ2.out, ← HZ3.out]
  rw [this]; exact HC.out
set_option maxRecDepth 100000 in
set_option maxHeartbeats 4000000 in
theorem ins_call (g n₀ : Nat) (m : Md) (lo re : Int) (s : St) (x : Ix) (tl te : Il) (w : World) (h : Ck g n₀ m lo re s w) (hx : x.ok) (hfit : m.fits) (hlo : 0 ≤ lo ∧ lo ≤ 140737488351232) (hty : Tys m) (hre : re ≤ 9223372036854775807) (hLa : ListAt n₀ w x.la x.ln tl) (hEa : ListAt n₀ w x.ea x.en te) (HL : ListC g n₀ m lo re tl x.la x.ln x.lc) (HE : ListC g n₀ m lo re te x.ea x.en x.ec) (hcnt : 0 ≤ s.cnt) (hcn : s.cnt + tl.count + te.count ≤ 1000000000000) (hop : x.op = 16) :
    Calls Tryz.prog 196 #[.pointer (some ⟨g, 0, none⟩), .agg x.vals] w (Done g n₀ m lo re w (insS m lo re x (listS m lo re tl) (listS m lo re te) s)) := by
  have CL := hid (fun w' (hb : Below w.heap.size w w') => lacks_any g n₀ m lo re s x w' (h.on hb) hx hfit hlo)
  have HTY := hid hty
  have HOP := hid hop
  have HFIT := hid hfit
  clear hfit hlo hty hop
  have HA := hid hx
  obtain ⟨W0, hW0⟩ : ∃ W0, W0 = w.alloc (.cells x.vals 105) := ⟨_, rfl⟩
  have hb0 : Below w.heap.size w W0 := by rw [hW0]; exact thenA (Below.refl _ _) _
  have HX : Hid (At x w.heap.size W0) := by rw [hW0]; exact At.made x w
  have HNE : Hid (w.heap.size ≠ g) := hid (Nat.ne_of_gt h.lt)
  have HC := hid (h.on hb0)
  have HC0 := hid h
  have HS := hid (Save.of_below (k := g) hb0)
  clear h hx hb0
  unfold Ix.vals at hW0 ⊢
  have HAL := hid hLa
  have HAE := hid hEa
  replace HL := hid HL
  replace HE := hid HE
  have HCN := hid (And.intro hcnt hcn)
  clear hLa hEa hcnt hcn
  go_enter Tryz.func196, Tryz.ntmps196
  go_upto_region 1 with fail
  rw [← hW0]
  have hb0 : Below w.heap.size w W0 := by rw [hW0]; exact thenA (Below.refl _ _) _
  have CC := hid (CL.out W0 hb0)
  unfold LacksP at CC
  obtain ⟨lk, hlk⟩ : ∃ lk, lacksP m lo x = lk := ⟨_, rfl⟩
  rw [hlk] at CC
  have HLK := hid hlk
  clear CL hb0 hW0 hlk
  have d0 := HX.out.c0
  have d1 := HX.out.c1
  have d2 := HX.out.c2
  have d3 := HX.out.c3
  have d4 := HX.out.c4
  have d5 := HX.out.c5
  have d6 := HX.out.c6
  have d7 := HX.out.c7
  unfold Ix.vals at CC
  go_wp2_with fail
  refine CC.out.mono ?_
  rintro e0 w0 ⟨rfl, hb0⟩
  replace HC := hid (HC.out.on hb0)
  replace HX := hid (HX.out.below hb0)
  replace HS := hid (HS.out.trans (Save.of_below hb0))
  clear CC hb0 d0 d1 d2 d3 d4 d5 d6 d7
  have CC := hid (fail_m g n₀ m lo re s lk w0 HC.out)
  obtain ⟨s1, hs1⟩ : ∃ u, u = failS lk s := ⟨_, rfl⟩
  rw [← hs1] at CC
  have HZ1 := hid hs1
  clear hs1
  go_wp2_with fail
  refine CC.out.mono ?_
  rintro e1 w1 ⟨rfl, hc1, hv1⟩
  replace HC := hid hc1
  replace HX := hid (HX.out.save hv1 HNE.out)
  replace HS := hid (HS.out.trans hv1)
  clear CC hc1 hv1 
  have d0 := HX.out.c0
  rw [HOP.out] at d0
  have CE := hid (callee_any g n₀ m lo re s1 x w1 HC.out HA.out HFIT.out (by rw [HOP.out]; decide))
  unfold CalleeP Ix.vals at CE
  rw [HOP.out] at CE
  have HTC := hid (HTY.out.callee x)
  obtain ⟨t, ht⟩ : ∃ t, calleeP m x = t := ⟨_, rfl⟩
  rw [ht] at CE HTC
  have HT := hid ht
  clear ht
  obtain ⟨⟨t1, t2⟩, tb⟩ := t
  have d1 := HX.out.c1
  have d2 := HX.out.c2
  have d3 := HX.out.c3
  have d4 := HX.out.c4
  have d5 := HX.out.c5
  have d6 := HX.out.c6
  have d7 := HX.out.c7
  go_wp2_with fail
  refine CE.out.mono ?_
  rintro e9 w9 ⟨rfl, hb9⟩
  replace HC := hid (HC.out.on hb9)
  replace HX := hid (HX.out.below hb9)
  replace HS := hid (HS.out.trans (Save.of_below hb9))
  clear CE hb9 d1 d2 d3 d4 d5 d6 d7
  go_upto_region 29 with fail
  have hA : Below w9.heap.size w9 (w9.alloc (.cells #[.int .i64 t1, .int .i64 t2] 92)) := (Below.refl _ _).alloc (Nat.le_refl _) _
  have HT2 := hid (Bx2.made w9 t1 t2)
  obtain ⟨v9, hv9⟩ : ∃ u, u = w9.alloc (.cells #[.int .i64 t1, .int .i64 t2] 92) := ⟨_, rfl⟩
  rw [← hv9] at hA HT2 ⊢
  have HGB := hid (show w9.heap.size ≠ g from Nat.ne_of_gt HC.out.lt)
  obtain ⟨gb, hgb⟩ : ∃ gb, gb = w9.heap.size := ⟨_, rfl⟩
  rw [← hgb] at HT2 HGB ⊢
  replace HC := hid (HC.out.on hA)
  replace HX := hid (HX.out.below hA)
  replace HS := hid (HS.out.trans (Save.of_below hA))
  have HU0 := hid HT2.out.c0
  have HU1 := hid HT2.out.c1
  clear hA hv9 hgb HT2
  have u0 := HU0.out
  have CC := hid (pop_m g n₀ m lo re s1 t1 v9 HC.out (by have : t1 ≤ 255 := HTC.out.2.1; omega))
  obtain ⟨s2, hs2⟩ : ∃ u, u = popS t1 s1 := ⟨_, rfl⟩
  rw [← hs2] at CC
  have HZ2 := hid hs2
  clear hs2
  go_wp2_with fail
  refine CC.out.mono ?_
  rintro e2 w2 ⟨rfl, hc2, hv2⟩
  replace HC := hid hc2
  replace HX := hid (HX.out.save hv2 HNE.out)
  replace HS := hid (HS.out.trans hv2)
  replace HU0 := hid (hv2.cell (p := ⟨gb, 0, none⟩) HGB.out HU0.out)
  replace HU1 := hid (hv2.cell (p := ⟨gb, 1, none⟩) HGB.out HU1.out)
  clear CC hc2 hv2 
  clear u0
  have u1 := HU1.out
  have CC := hid (push_m g n₀ m lo re s2 t2 w2 HC.out)
  obtain ⟨s3, hs3⟩ : ∃ u, u = pushS t2 s2 := ⟨_, rfl⟩
  rw [← hs3] at CC
  have HZ3 := hid hs3
  clear hs3
  go_wp2_with fail
  refine CC.out.mono ?_
  rintro e3 w3 ⟨rfl, hc3, hv3⟩
  replace HC := hid hc3
  replace HX := hid (HX.out.save hv3 HNE.out)
  replace HS := hid (HS.out.trans hv3)
  replace HU0 := hid (hv3.cell (p := ⟨gb, 0, none⟩) HGB.out HU0.out)
  replace HU1 := hid (hv3.cell (p := ⟨gb, 1, none⟩) HGB.out HU1.out)
  clear CC hc3 hv3 
  clear u1
  clear d0
  go_wp2
  go_end0
  refine ⟨rfl, ?_, HS.out⟩
  have : insS m lo re x (listS m lo re tl) (listS m lo re te) s = s3 := by
    unfold insS
    rw [HLK.out, ← HZ1.out]
    unfold opS
    rw [if_neg (by rw [HOP.out]; decide), if_neg (by rw [HOP.out]; decide), if_neg (by rw [HOP.out]; decide), if_neg (by rw [HOP.out]; decide), if_neg (by rw [HOP.out]; decide), if_neg (by rw [HOP.out]; decide), if_neg (by rw [HOP.out]; decide), if_neg (by rw [HOP.out]; decide), if_pos HOP.out, HT.out]
    unfold callS
    simp only
    rw [← HZ2.out, ← HZ3.out]
  rw [this]; exact HC.out
set_option maxRecDepth 100000 in
set_option maxHeartbeats 4000000 in
theorem ins_ind (g n₀ : Nat) (m : Md) (lo re : Int) (s : St) (x : Ix) (tl te : Il) (w : World) (h : Ck g n₀ m lo re s w) (hx : x.ok) (hfit : m.fits) (hlo : 0 ≤ lo ∧ lo ≤ 140737488351232) (hty : Tys m) (hre : re ≤ 9223372036854775807) (hLa : ListAt n₀ w x.la x.ln tl) (hEa : ListAt n₀ w x.ea x.en te) (HL : ListC g n₀ m lo re tl x.la x.ln x.lc) (HE : ListC g n₀ m lo re te x.ea x.en x.ec) (hcnt : 0 ≤ s.cnt) (hcn : s.cnt + tl.count + te.count ≤ 1000000000000) (hop : x.op = 17) :
    Calls Tryz.prog 196 #[.pointer (some ⟨g, 0, none⟩), .agg x.vals] w (Done g n₀ m lo re w (insS m lo re x (listS m lo re tl) (listS m lo re te) s)) := by
  have CL := hid (fun w' (hb : Below w.heap.size w w') => lacks_any g n₀ m lo re s x w' (h.on hb) hx hfit hlo)
  have HTY := hid hty
  have HOP := hid hop
  have HFIT := hid hfit
  clear hfit hlo hty hop
  have HA := hid hx
  obtain ⟨W0, hW0⟩ : ∃ W0, W0 = w.alloc (.cells x.vals 105) := ⟨_, rfl⟩
  have hb0 : Below w.heap.size w W0 := by rw [hW0]; exact thenA (Below.refl _ _) _
  have HX : Hid (At x w.heap.size W0) := by rw [hW0]; exact At.made x w
  have HNE : Hid (w.heap.size ≠ g) := hid (Nat.ne_of_gt h.lt)
  have HC := hid (h.on hb0)
  have HC0 := hid h
  have HS := hid (Save.of_below (k := g) hb0)
  clear h hx hb0
  unfold Ix.vals at hW0 ⊢
  have HAL := hid hLa
  have HAE := hid hEa
  replace HL := hid HL
  replace HE := hid HE
  have HCN := hid (And.intro hcnt hcn)
  clear hLa hEa hcnt hcn
  go_enter Tryz.func196, Tryz.ntmps196
  go_upto_region 1 with fail
  rw [← hW0]
  have hb0 : Below w.heap.size w W0 := by rw [hW0]; exact thenA (Below.refl _ _) _
  have CC := hid (CL.out W0 hb0)
  unfold LacksP at CC
  obtain ⟨lk, hlk⟩ : ∃ lk, lacksP m lo x = lk := ⟨_, rfl⟩
  rw [hlk] at CC
  have HLK := hid hlk
  clear CL hb0 hW0 hlk
  have d0 := HX.out.c0
  have d1 := HX.out.c1
  have d2 := HX.out.c2
  have d3 := HX.out.c3
  have d4 := HX.out.c4
  have d5 := HX.out.c5
  have d6 := HX.out.c6
  have d7 := HX.out.c7
  unfold Ix.vals at CC
  go_wp2_with fail
  refine CC.out.mono ?_
  rintro e0 w0 ⟨rfl, hb0⟩
  replace HC := hid (HC.out.on hb0)
  replace HX := hid (HX.out.below hb0)
  replace HS := hid (HS.out.trans (Save.of_below hb0))
  clear CC hb0 d0 d1 d2 d3 d4 d5 d6 d7
  have CC := hid (fail_m g n₀ m lo re s lk w0 HC.out)
  obtain ⟨s1, hs1⟩ : ∃ u, u = failS lk s := ⟨_, rfl⟩
  rw [← hs1] at CC
  have HZ1 := hid hs1
  clear hs1
  go_wp2_with fail
  refine CC.out.mono ?_
  rintro e1 w1 ⟨rfl, hc1, hv1⟩
  replace HC := hid hc1
  replace HX := hid (HX.out.save hv1 HNE.out)
  replace HS := hid (HS.out.trans hv1)
  clear CC hc1 hv1 
  have d0 := HX.out.c0
  rw [HOP.out] at d0
  have CC := hid (pop_m g n₀ m lo re s1 1 w1 HC.out (by omega))
  obtain ⟨s2, hs2⟩ : ∃ u, u = popS 1 s1 := ⟨_, rfl⟩
  rw [← hs2] at CC
  have HZ2 := hid hs2
  clear hs2
  go_wp2_with fail
  refine CC.out.mono ?_
  rintro e2 w2 ⟨rfl, hc2, hv2⟩
  replace HC := hid hc2
  replace HX := hid (HX.out.save hv2 HNE.out)
  replace HS := hid (HS.out.trans hv2)
  clear CC hc2 hv2 
  clear d0
  have d0 := HX.out.c0
  rw [HOP.out] at d0
  have CE := hid (callee_any g n₀ m lo re s2 x w2 HC.out HA.out HFIT.out (by rw [HOP.out]; decide))
  unfold CalleeP Ix.vals at CE
  rw [HOP.out] at CE
  have HTC := hid (HTY.out.callee x)
  obtain ⟨t, ht⟩ : ∃ t, calleeP m x = t := ⟨_, rfl⟩
  rw [ht] at CE HTC
  have HT := hid ht
  clear ht
  obtain ⟨⟨t1, t2⟩, tb⟩ := t
  have d1 := HX.out.c1
  have d2 := HX.out.c2
  have d3 := HX.out.c3
  have d4 := HX.out.c4
  have d5 := HX.out.c5
  have d6 := HX.out.c6
  have d7 := HX.out.c7
  go_wp2_with fail
  refine CE.out.mono ?_
  rintro e9 w9 ⟨rfl, hb9⟩
  replace HC := hid (HC.out.on hb9)
  replace HX := hid (HX.out.below hb9)
  replace HS := hid (HS.out.trans (Save.of_below hb9))
  clear CE hb9 d1 d2 d3 d4 d5 d6 d7
  go_upto_region 29 with fail
  have hA : Below w9.heap.size w9 (w9.alloc (.cells #[.int .i64 t1, .int .i64 t2] 92)) := (Below.refl _ _).alloc (Nat.le_refl _) _
  have HT2 := hid (Bx2.made w9 t1 t2)
  obtain ⟨v9, hv9⟩ : ∃ u, u = w9.alloc (.cells #[.int .i64 t1, .int .i64 t2] 92) := ⟨_, rfl⟩
  rw [← hv9] at hA HT2 ⊢
  have HGB := hid (show w9.heap.size ≠ g from Nat.ne_of_gt HC.out.lt)
  obtain ⟨gb, hgb⟩ : ∃ gb, gb = w9.heap.size := ⟨_, rfl⟩
  rw [← hgb] at HT2 HGB ⊢
  replace HC := hid (HC.out.on hA)
  replace HX := hid (HX.out.below hA)
  replace HS := hid (HS.out.trans (Save.of_below hA))
  have HU0 := hid HT2.out.c0
  have HU1 := hid HT2.out.c1
  clear hA hv9 hgb HT2
  have u0 := HU0.out
  have CC := hid (pop_m g n₀ m lo re s2 t1 v9 HC.out (by have : t1 ≤ 255 := HTC.out.2.1; omega))
  obtain ⟨s3, hs3⟩ : ∃ u, u = popS t1 s2 := ⟨_, rfl⟩
  rw [← hs3] at CC
  have HZ3 := hid hs3
  clear hs3
  go_wp2_with fail
  refine CC.out.mono ?_
  rintro e3 w3 ⟨rfl, hc3, hv3⟩
  replace HC := hid hc3
  replace HX := hid (HX.out.save hv3 HNE.out)
  replace HS := hid (HS.out.trans hv3)
  replace HU0 := hid (hv3.cell (p := ⟨gb, 0, none⟩) HGB.out HU0.out)
  replace HU1 := hid (hv3.cell (p := ⟨gb, 1, none⟩) HGB.out HU1.out)
  clear CC hc3 hv3 
  clear u0
  have u1 := HU1.out
  have CC := hid (push_m g n₀ m lo re s3 t2 w3 HC.out)
  obtain ⟨s4, hs4⟩ : ∃ u, u = pushS t2 s3 := ⟨_, rfl⟩
  rw [← hs4] at CC
  have HZ4 := hid hs4
  clear hs4
  go_wp2_with fail
  refine CC.out.mono ?_
  rintro e4 w4 ⟨rfl, hc4, hv4⟩
  replace HC := hid hc4
  replace HX := hid (HX.out.save hv4 HNE.out)
  replace HS := hid (HS.out.trans hv4)
  replace HU0 := hid (hv4.cell (p := ⟨gb, 0, none⟩) HGB.out HU0.out)
  replace HU1 := hid (hv4.cell (p := ⟨gb, 1, none⟩) HGB.out HU1.out)
  clear CC hc4 hv4 
  clear u1
  clear d0
  go_wp2
  go_end0
  refine ⟨rfl, ?_, HS.out⟩
  have : insS m lo re x (listS m lo re tl) (listS m lo re te) s = s4 := by
    unfold insS
    rw [HLK.out, ← HZ1.out]
    unfold opS
    rw [if_neg (by rw [HOP.out]; decide), if_neg (by rw [HOP.out]; decide), if_neg (by rw [HOP.out]; decide), if_neg (by rw [HOP.out]; decide), if_neg (by rw [HOP.out]; decide), if_neg (by rw [HOP.out]; decide), if_neg (by rw [HOP.out]; decide), if_pos HOP.out, HT.out]
    unfold callS
    simp only
    rw [← HZ2.out, ← HZ3.out, ← HZ4.out]
  rw [this]; exact HC.out
set_option maxRecDepth 100000 in
set_option maxHeartbeats 4000000 in
theorem ins_else (g n₀ : Nat) (m : Md) (lo re : Int) (s : St) (x : Ix) (tl te : Il) (w : World) (h : Ck g n₀ m lo re s w) (hx : x.ok) (hfit : m.fits) (hlo : 0 ≤ lo ∧ lo ≤ 140737488351232) (hty : Tys m) (hre : re ≤ 9223372036854775807) (hLa : ListAt n₀ w x.la x.ln tl) (hEa : ListAt n₀ w x.ea x.en te) (HL : ListC g n₀ m lo re tl x.la x.ln x.lc) (HE : ListC g n₀ m lo re te x.ea x.en x.ec) (hcnt : 0 ≤ s.cnt) (hcn : s.cnt + tl.count + te.count ≤ 1000000000000) (hop : x.op ≠ 0 ∧ x.op ≠ 2 ∧ x.op ≠ 3 ∧ x.op ≠ 4 ∧ x.op ≠ 14 ∧ x.op ≠ 12 ∧ x.op ≠ 13 ∧ x.op ≠ 15 ∧ x.op ≠ 17 ∧ x.op ≠ 16) :
    Calls Tryz.prog 196 #[.pointer (some ⟨g, 0, none⟩), .agg x.vals] w (Done g n₀ m lo re w (insS m lo re x (listS m lo re tl) (listS m lo re te) s)) := by
  have CL := hid (fun w' (hb : Below w.heap.size w w') => lacks_any g n₀ m lo re s x w' (h.on hb) hx hfit hlo)
  have HTY := hid hty
  have HOP := hid hop
  have HFIT := hid hfit
  clear hfit hlo hty hop
  have HA := hid hx
  obtain ⟨W0, hW0⟩ : ∃ W0, W0 = w.alloc (.cells x.vals 105) := ⟨_, rfl⟩
  have hb0 : Below w.heap.size w W0 := by rw [hW0]; exact thenA (Below.refl _ _) _
  have HX : Hid (At x w.heap.size W0) := by rw [hW0]; exact At.made x w
  have HNE : Hid (w.heap.size ≠ g) := hid (Nat.ne_of_gt h.lt)
  have HC := hid (h.on hb0)
  have HC0 := hid h
  have HS := hid (Save.of_below (k := g) hb0)
  clear h hx hb0
  unfold Ix.vals at hW0 ⊢
  have HAL := hid hLa
  have HAE := hid hEa
  replace HL := hid HL
  replace HE := hid HE
  have HCN := hid (And.intro hcnt hcn)
  clear hLa hEa hcnt hcn
  go_enter Tryz.func196, Tryz.ntmps196
  go_upto_region 1 with fail
  rw [← hW0]
  have hb0 : Below w.heap.size w W0 := by rw [hW0]; exact thenA (Below.refl _ _) _
  have CC := hid (CL.out W0 hb0)
  unfold LacksP at CC
  obtain ⟨lk, hlk⟩ : ∃ lk, lacksP m lo x = lk := ⟨_, rfl⟩
  rw [hlk] at CC
  have HLK := hid hlk
  clear CL hb0 hW0 hlk
  have d0 := HX.out.c0
  have d1 := HX.out.c1
  have d2 := HX.out.c2
  have d3 := HX.out.c3
  have d4 := HX.out.c4
  have d5 := HX.out.c5
  have d6 := HX.out.c6
  have d7 := HX.out.c7
  unfold Ix.vals at CC
  go_wp2_with fail
  refine CC.out.mono ?_
  rintro e0 w0 ⟨rfl, hb0⟩
  replace HC := hid (HC.out.on hb0)
  replace HX := hid (HX.out.below hb0)
  replace HS := hid (HS.out.trans (Save.of_below hb0))
  clear CC hb0 d0 d1 d2 d3 d4 d5 d6 d7
  have CC := hid (fail_m g n₀ m lo re s lk w0 HC.out)
  obtain ⟨s1, hs1⟩ : ∃ u, u = failS lk s := ⟨_, rfl⟩
  rw [← hs1] at CC
  have HZ1 := hid hs1
  clear hs1
  go_wp2_with fail
  refine CC.out.mono ?_
  rintro e1 w1 ⟨rfl, hc1, hv1⟩
  replace HC := hid hc1
  replace HX := hid (HX.out.save hv1 HNE.out)
  replace HS := hid (HS.out.trans hv1)
  clear CC hc1 hv1 
  obtain ⟨n0, n2, n3, n4, n14, n12, n13, n15, n17, n16⟩ := HOP.out
  have b0 : (x.op == 0) = false := by simpa using n0
  have b2 : (x.op == 2) = false := by simpa using n2
  have b3 : (x.op == 3) = false := by simpa using n3
  have b4 : (x.op == 4) = false := by simpa using n4
  have b14 : (x.op == 14) = false := by simpa using n14
  have b12 : (x.op == 12) = false := by simpa using n12
  have b13 : (x.op == 13) = false := by simpa using n13
  have b15 : (x.op == 15) = false := by simpa using n15
  have b17 : (x.op == 17) = false := by simpa using n17
  have b16 : (x.op == 16) = false := by simpa using n16
  have d0 := HX.out.c0
  have CE := hid (Shape_any x.op w1 HC.out.mo.ar)
  have HTK := hid (takesP_le x.op)
  obtain ⟨tk, htk⟩ : ∃ t, takesP x.op = t := ⟨_, rfl⟩
  obtain ⟨lv, hlv⟩ : ∃ t, leavesP x.op = t := ⟨_, rfl⟩
  rw [htk] at CE HTK
  rw [hlv] at CE
  have HTK1 := hid htk
  have HLV1 := hid hlv
  clear htk hlv
  go_wp2_with fail
  refine CE.out.mono ?_
  rintro e9 w9 ⟨rfl, hb9⟩
  replace HC := hid (HC.out.on hb9)
  replace HX := hid (HX.out.below hb9)
  replace HS := hid (HS.out.trans (Save.of_below hb9))
  clear CE hb9 d0
  have CC := hid (pop_m g n₀ m lo re s1 tk w9 HC.out (by have := HTK.out; omega))
  obtain ⟨s2, hs2⟩ : ∃ u, u = popS tk s1 := ⟨_, rfl⟩
  rw [← hs2] at CC
  have HZ2 := hid hs2
  clear hs2
  go_wp2_with fail
  refine CC.out.mono ?_
  rintro e2 w2 ⟨rfl, hc2, hv2⟩
  replace HC := hid hc2
  replace HX := hid (HX.out.save hv2 HNE.out)
  replace HS := hid (HS.out.trans hv2)
  clear CC hc2 hv2 
  have CC := hid (push_m g n₀ m lo re s2 lv w2 HC.out)
  obtain ⟨s3, hs3⟩ : ∃ u, u = pushS lv s2 := ⟨_, rfl⟩
  rw [← hs3] at CC
  have HZ3 := hid hs3
  clear hs3
  go_wp2_with fail
  refine CC.out.mono ?_
  rintro e3 w3 ⟨rfl, hc3, hv3⟩
  replace HC := hid hc3
  replace HX := hid (HX.out.save hv3 HNE.out)
  replace HS := hid (HS.out.trans hv3)
  clear CC hc3 hv3 
  go_wp2
  go_end0
  refine ⟨rfl, ?_, HS.out⟩
  have : insS m lo re x (listS m lo re tl) (listS m lo re te) s = s3 := by
    unfold insS
    rw [HLK.out, ← HZ1.out]
    unfold opS
    rw [if_neg n0, if_neg (by omega), if_neg n4, if_neg n14, if_neg n12, if_neg n13, if_neg n15, if_neg n17, if_neg n16, HTK1.out, HLV1.out, ← HZ2.out, ← HZ3.out]
  rw [this]; exact HC.out
theorem ins_m (g n₀ : Nat) (m : Md) (lo re : Int) (s : St) (x : Ix) (tl te : Il) (w : World) (h : Ck g n₀ m lo re s w) (hx : x.ok) (hfit : m.fits) (hlo : 0 ≤ lo ∧ lo ≤ 140737488351232) (hty : Tys m) (hre : re ≤ 9223372036854775807) (hLa : ListAt n₀ w x.la x.ln tl) (hEa : ListAt n₀ w x.ea x.en te) (HL : ListC g n₀ m lo re tl x.la x.ln x.lc) (HE : ListC g n₀ m lo re te x.ea x.en x.ec) (hcnt : 0 ≤ s.cnt) (hcn : s.cnt + tl.count + te.count ≤ 1000000000000) (hta : TagsAt n₀ w x.ta x.tags) :
    Calls Tryz.prog 196 #[.pointer (some ⟨g, 0, none⟩), .agg x.vals] w (Done g n₀ m lo re w (insS m lo re x (listS m lo re tl) (listS m lo re te) s)) := by
  by_cases g0 : x.op = 0
  · exact ins_dead g n₀ m lo re s x tl te w h hx hfit hlo hty hre hLa hEa HL HE hcnt hcn g0
  by_cases g2 : x.op = 2
  · exact ins_block g n₀ m lo re s x tl te w h hx hfit hlo hty hre hLa hEa HL HE hcnt hcn g2
  by_cases g3 : x.op = 3
  · exact ins_loop g n₀ m lo re s x tl te w h hx hfit hlo hty hre hLa hEa HL HE hcnt hcn g3
  by_cases g4 : x.op = 4
  · exact ins_if g n₀ m lo re s x tl te w h hx hfit hlo hty hre hLa hEa HL HE hcnt hcn g4
  by_cases g14 : x.op = 14
  · exact ins_table g n₀ m lo re s x tl te w h hx hfit hlo hty hre hLa hEa HL HE hcnt hcn hta g14
  by_cases g12 : x.op = 12
  · exact ins_br g n₀ m lo re s x tl te w h hx hfit hlo hty hre hLa hEa HL HE hcnt hcn g12
  by_cases g13 : x.op = 13
  · exact ins_brif g n₀ m lo re s x tl te w h hx hfit hlo hty hre hLa hEa HL HE hcnt hcn g13
  by_cases g15 : x.op = 15
  · exact ins_ret g n₀ m lo re s x tl te w h hx hfit hlo hty hre hLa hEa HL HE hcnt hcn g15
  by_cases g17 : x.op = 17
  · exact ins_ind g n₀ m lo re s x tl te w h hx hfit hlo hty hre hLa hEa HL HE hcnt hcn g17
  by_cases g16 : x.op = 16
  · exact ins_call g n₀ m lo re s x tl te w h hx hfit hlo hty hre hLa hEa HL HE hcnt hcn g16
  exact ins_else g n₀ m lo re s x tl te w h hx hfit hlo hty hre hLa hEa HL HE hcnt hcn ⟨g0, g2, g3, g4, g14, g12, g13, g15, g17, g16⟩
end Go.Proofs.YtckdnhafookcgaaGreatDoor.Val

namespace Go.Proofs.YtckdnhafookcgaaGreatDoor.Val
open Go.RowKit Go.Proofs.YtckdnhafookcgaaGreatDoor.Instr Go.Proofs.YtckdnhafookcgaaGreatDoor.Mod
open Go.Proofs.YtckdnhafookcgaaGreatDoor.Stk (Fr R pushR popR deadR enterR leaveR labelR newR StAt MadeP OwnF valid lastF)
set_option linter.unusedVariables false

theorem listS_nil (m : Md) (lo re : Int) (s : St) : listS m lo re .nil s = leaveS s.at_ s := rfl
set_option maxRecDepth 100000 in
set_option maxHeartbeats 4000000 in
theorem list_nil (g n₀ : Nat) (m : Md) (lo re : Int) (a : Option Addr) (n c : Nat) : ListC g n₀ m lo re .nil a n c := by
  intro s w h hL hc0 hc1
  have h0 : n = 0 := hL.1.symm
  subst h0
  obtain ⟨a1, n1, c1, hk1, -⟩ := h.blk
  have d16 := hk1.c16
  have HC := hid h
  have C := hid (leave_m g n₀ m lo re s s.at_ w h)
  rw [listS_nil]
  clear hL hc0 hc1 h hk1
  go_enter Tryz.func154, Tryz.ntmps154
  go_wp2
  go_loopw [13] (fun si wr => si = .int .i64 0 ∧ wr = w) (fun _ _ => 0)
  case atStart => exact ⟨rfl, rfl⟩
  case round =>
    obtain ⟨rfl, rfl⟩ := hrel
    go_wp2_with fail
    refine C.out.mono ?_
    rintro e1 w1 ⟨rfl, hc1, hs1⟩
    have HC1 := hid hc1
    have HS1 := hid hs1
    clear C hc1 hs1 d16
    go_wp2
    go_end0
    exact ⟨rfl, HC1.out, HS1.out⟩
theorem at_new (W : World) (x : Ix) (ty : TypeId) : At x W.heap.size (W.alloc (.cells x.vals ty)) := by
  constructor <;> simp [Ix.vals, go_sem]
set_option maxRecDepth 100000 in
set_option maxHeartbeats 4000000 in
theorem list_m (g n₀ : Nat) (m : Md) (lo re : Int) (hfit : m.fits) (hlo : 0 ≤ lo ∧ lo ≤ 140737488351232) (hty : Tys m) (hre : re ≤ 9223372036854775807) :
    ∀ (N : Nat) (t : Il), t.count ≤ N → ∀ (a : Option Addr) (n c : Nat), n ≤ 140737488351232 → ListC g n₀ m lo re t a n c := by
  intro N
  induction N with
  | zero =>
    intro t ht a n c hn
    cases t with
    | nil => exact list_nil g n₀ m lo re a n c
    | cons x l e r => simp only [Il.count] at ht; omega
  | succ N ih =>
    intro t ht a len c hlen s w h hL hc0 hc1
    obtain ⟨hL1, hL2⟩ := hL
    rcases hL2 with rfl | ⟨b, off, rfl, hi⟩
    · exact list_nil g n₀ m lo re a len c s w h ⟨hL1, .inl rfl⟩ hc0 hc1
    · obtain ⟨a1, n1, c1, hk1, -⟩ := h.blk
      have d16 := hk1.c16
      have HM := hid ht
      have HL1 := hid hL1
      have HI := hid hi
      have HC := hid h
      have HN := hid (And.intro hc0 hc1)
      have IH := hid ih
      have HFIT := hid hfit
      have HLO := hid hlo
      have HTY := hid hty
      have HRE := hid hre
      clear ht hL1 hi h hc0 hc1 hk1 ih hfit hlo hty hre
      go_enter Tryz.func154, Tryz.ntmps154
      go_wp2
      go_loopw [13] (fun si wr => ∃ (k : Nat) (rest : Il) (s' : St), si = .int .i64 k ∧ k ≤ len ∧ Hid (k + rest.len = len ∧ rest.count ≤ t.count ∧ runS m lo re t s = runS m lo re rest s' ∧ 0 ≤ s'.cnt ∧ s'.cnt + rest.count ≤ s.cnt + t.count) ∧ Hid (Items n₀ w b (off + k * 8) rest) ∧ Hid (Ck g n₀ m lo re s' wr) ∧ Hid (Save g w wr))
        (fun si _ => len - (intOf si).toNat)
      case atStart => exact ⟨0, t, s, rfl, Nat.zero_le _, ⟨by have := HL1.out; omega, Nat.le_refl _, rfl, HN.out.1, Int.le_refl _⟩, by simpa using HI, HC, hid (Save.refl _ _)⟩
      case round =>
        obtain ⟨k, rest, s', rfl, hk, HR, HIR, HK, HS⟩ := hrel
        cases rest with
        | nil =>
          obtain ⟨r1, r2, r3, r4, r5⟩ := HR.out
          have hkl : k = len := by simpa [Il.len] using r1
          subst hkl
          have HE := hid (show listS m lo re t s = leaveS s.at_ s' by unfold listS; rw [r3]; rfl)
          have C := hid (leave_m g n₀ m lo re s' s.at_ wr HK.out)
          clear r1 r2 r3 r4 r5 HR
          go_wp2_with fail
          refine C.out.mono ?_
          rintro e1 w1 ⟨rfl, hc1, hs1⟩
          have HC1 := hid hc1
          have HS1 := hid (HS.out.trans hs1)
          clear C hc1 hs1
          go_wp2
          go_end0
          exact ⟨rfl, by rw [HE.out]; exact HC1.out, HS1.out⟩
        | cons x tl te r =>
          have hbw := HC.out.below HS.out
          have hir := Items.below hbw HIR.out
          obtain ⟨hbn, hx, ⟨c0, c1, c2, c3, c4, c5, c6, c7⟩, htag, hLl, hLe, hir'⟩ := hir
          have hir0 := HIR.out
          obtain ⟨_, _, _, _, _, _, hirn⟩ := hir0
          have HIRN := hid hirn
          have HXO := hid hx
          have HLl := hid hLl
          have HLe := hid hLe
          have HTG := hid htag
          have hlt : k < len := by have := HR.out.1; simp only [Il.len] at this; omega
          have hki : (k : Int) < (len : Int) := by omega
          obtain ⟨a2, n2, c2', hk2, -⟩ := HK.out.blk
          have HBK := hid hk2
          have b17 := hk2.c17
          obtain ⟨er, her⟩ : ∃ e, s'.er = e := ⟨_, rfl⟩
          rw [her] at b17
          have HER := hid her
          clear hbw hir' hirn hx hLl hLe htag her hk2 hbn
          by_cases h0 : er = 0
          · subst h0
            have HX0 := hid (at_new wr x 105)
            unfold Ix.vals at HX0
            go_upto_region 4 with fail
            have hA : Below wr.heap.size wr (wr.alloc (.cells #[.int .i64 x.op, .int .i64 x.res, .int .u32 x.a, .int .u32 x.b, .int .i32 x.n, .slice x.ta x.tags.length x.tc, .slice x.la x.ln x.lc, .slice x.ea x.en x.ec] 105)) := (Below.refl _ _).alloc (Nat.le_refl _) _
            obtain ⟨w1, hw1⟩ : ∃ u, u = wr.alloc (.cells #[.int .i64 x.op, .int .i64 x.res, .int .u32 x.a, .int .u32 x.b, .int .i32 x.n, .slice x.ta x.tags.length x.tc, .slice x.la x.ln x.lc, .slice x.ea x.en x.ec] 105) := ⟨_, rfl⟩
            rw [← hw1] at HX0 hA ⊢
            have hk3 := HBK.out.below hA
            clear b17 c0 c1 c2 c3 c4 c5 c6 c7
            have b17 := hk3.c17
            rw [HER.out] at b17
            have b15 := hk3.c15
            have b16 := hk3.c16
            have f15 := hk3.f 15
            have f16 := hk3.f 16
            have hq : IntKind.i64.wrap (s'.cnt + 1) = s'.cnt + 1 := by
              have h1 := HR.out.2.2.2
              have h2 := HN.out
              simp only [Il.count] at h1
              rw [IntKind.wrap_i64]; omega
            have HCa := hid (HK.out.on hA)
            have HXa := HX0
            have hnx : Ck g n₀ m lo re s'.next ((w1.setCell ⟨g, 15, none⟩ (.int .i64 (s'.cnt + 1))).setCell ⟨g, 16, none⟩ (.int .i64 (s'.cnt + 1))) := by
              obtain ⟨a3, n3, c3', hk4, hf4⟩ := HCa.out.blk
              exact ⟨⟨a3, n3, c3', (hk4.set15 _).set16 _, (hf4.set _ _).set _ _⟩, md_set (md_set HCa.out.mo HCa.out.le _ _) HCa.out.le _ _, HCa.out.le⟩
            have hvx : Save g w1 ((w1.setCell ⟨g, 15, none⟩ (.int .i64 (s'.cnt + 1))).setCell ⟨g, 16, none⟩ (.int .i64 (s'.cnt + 1))) := ((Save.refl g w1).setCell (.inl rfl) _).setCell (.inl rfl) _
            have HNE := hid (show wr.heap.size ≠ g from Nat.ne_of_gt HK.out.lt)
            obtain ⟨gx, hgx⟩ : ∃ gx, gx = wr.heap.size := ⟨_, rfl⟩
            rw [← hgx] at HXa HNE ⊢
            have HNX := hid hnx
            have HVX := hid hvx
            have HSA := hid (Save.of_below (k := g) hA)
            have z15 : (w1.setCell ⟨g, 15, none⟩ (.int .i64 (s'.cnt + 1))).cell? ⟨g, 15, none⟩ = some (.int .i64 (s'.cnt + 1)) := (hk3.set15 _).c15
            have zf16 : (w1.setCell ⟨g, 15, none⟩ (.int .i64 (s'.cnt + 1))).frozen? ⟨g, 16, none⟩ = false := (hk3.set15 _).f 16
            clear hA hw1 hk3 hnx hvx hgx HX0
            go_upto_region 6 with fail
            go_upto_region 7 with fail
            obtain ⟨w2, hw2⟩ : ∃ u, u = (w1.setCell ⟨g, 15, none⟩ (.int .i64 (s'.cnt + 1))).setCell ⟨g, 16, none⟩ (.int .i64 (s'.cnt + 1)) := ⟨_, rfl⟩
            rw [← hw2] at HNX HVX ⊢
            have HSW := hid ((HS.out.trans HSA.out).trans HVX.out)
            have HX2 := hid (At.save (x := x) (g := gx) HXa.out HVX.out HNE.out)
            have hcnt : x.ok ∧ tl.count ≤ N ∧ te.count ≤ N ∧ 0 ≤ s'.cnt + 1 ∧ s'.cnt + 1 + tl.count + te.count ≤ 1000000000000 := by
              have h1 := HR.out.2.2.2
              have h2 := HN.out
              have h3 := HM.out
              have h4 := HR.out.2.1
              simp only [Il.count] at h1 h4
              exact ⟨HXO.out, by omega, by omega, by omega, by omega⟩
            obtain ⟨q0, q1, q2, q3, q4⟩ := hcnt
            have hb2 : Below n₀ wr w2 := HK.out.below (HSA.out.trans HVX.out)
            have CI := hid (ins_m g n₀ m lo re s'.next x tl te w2 HNX.out q0 HFIT.out HLO.out HTY.out HRE.out (ListAt.below hb2 ⟨HLl.out.1, HLl.out.2⟩) (ListAt.below hb2 ⟨HLe.out.1, HLe.out.2⟩) (IH.out tl q1 x.la x.ln x.lc q0.ln) (IH.out te q2 x.ea x.en x.ec q0.en) q3 q4 (TagsAt.below hb2 HTG.out))
            obtain ⟨s2, hs2⟩ : ∃ u, u = insS m lo re x (listS m lo re tl) (listS m lo re te) s'.next := ⟨_, rfl⟩
            rw [← hs2] at CI
            have HS2 := hid hs2
            have d0 := HX2.out.c0
            have d1 := HX2.out.c1
            have d2 := HX2.out.c2
            have d3 := HX2.out.c3
            have d4 := HX2.out.c4
            have d5 := HX2.out.c5
            have d6 := HX2.out.c6
            have d7 := HX2.out.c7
            unfold Ix.vals at CI
            clear b15 b16 b17 f15 f16 z15 zf16 hq hw2 hs2 hb2 q0 q1 q2 q3 q4
            go_wp2_with fail
            refine CI.out.mono ?_
            rintro e3 w3 ⟨rfl, hc3, hs3⟩
            have HC3 := hid hc3
            have HS3 := hid (HSW.out.trans hs3)
            clear CI hc3 hs3 d0 d1 d2 d3 d4 d5 d6 d7
            go_wp2
            go_roundw
            case rel =>
              refine ⟨k + 1, r, s2, by go_num, by omega, ?_, by rw [show off + (k + 1) * 8 = off + k * 8 + 8 by omega]; exact HIRN, HC3, HS3⟩
              obtain ⟨r1, r2, r3, r4, r5⟩ := HR.out
              simp only [Il.len] at r1
              simp only [Il.count] at r2 r5
              have hoc := opS_cnt (m := m) (re := re) (x := x) (a := tl.count) (b := te.count) (L := listS m lo re tl) (E := listS m lo re te) (by omega) (by omega) (listS_cnt m lo re tl) (listS_cnt m lo re te) (failS (lacksP m lo x) s'.next)
              rw [failS_cnt] at hoc
              have hnc : s'.next.cnt = s'.cnt + 1 := rfl
              have h2c : s2.cnt = (opS m re x (listS m lo re tl) (listS m lo re te) (failS (lacksP m lo x) s'.next)).cnt := by rw [HS2.out]; rfl
              refine ⟨by omega, by omega, ?_, by omega, by omega⟩
              rw [r3, runS_cons, if_pos HER.out, ← HS2.out]
            case measure => simp [intOf]; omega
          · have HE := hid (show listS m lo re t s = s' by
              unfold listS
              rw [HR.out.2.2.1, runS_er _ _ _ _ _ (by rw [HER.out]; exact h0)]
              unfold leaveS; rw [if_neg (by rw [HER.out]; exact h0)])
            go_upto_region 4 with fail
            have hA : Below wr.heap.size wr (wr.alloc (.cells #[.int .i64 x.op, .int .i64 x.res, .int .u32 x.a, .int .u32 x.b, .int .i32 x.n, .slice x.ta x.tags.length x.tc, .slice x.la x.ln x.lc, .slice x.ea x.en x.ec] 105)) := (Below.refl _ _).alloc (Nat.le_refl _) _
            obtain ⟨w1, hw1⟩ : ∃ u, u = wr.alloc (.cells #[.int .i64 x.op, .int .i64 x.res, .int .u32 x.a, .int .u32 x.b, .int .i32 x.n, .slice x.ta x.tags.length x.tc, .slice x.la x.ln x.lc, .slice x.ea x.en x.ec] 105) := ⟨_, rfl⟩
            rw [← hw1] at hA ⊢
            clear b17 c0 c1 c2 c3 c4 c5 c6 c7
            have b17 := (HBK.out.below hA).c17
            rw [HER.out] at b17
            have HCa := hid (HK.out.on hA)
            have HSA := hid (HS.out.trans (Save.of_below (k := g) hA))
            clear hA hw1
            go_wp2
            refine bodyPost_ret (results_none rfl _ _ _) rfl ⟨rfl, ?_, HSA.out⟩
            rw [HE.out]; exact HCa.out
end Go.Proofs.YtckdnhafookcgaaGreatDoor.Val

namespace Go.Proofs.YtckdnhafookcgaaGreatDoor.Mod
open Go.RowKit Go.Shelf Go.Proofs.YtckdnhafookcgaaGreatDoor.Instr

/-- What the checks return, in order. -/
def Md.outs (m : Md) : List Int := [errI m.crowded 141, errI (codeP m.codes == 141) 141, errI (m.anyName longS) 3, errI m.heavy 3, codeP m.codes, errI (m.anyName noText) 2, errI (m.ty.any wrongT) 2, errI (m.im.any wrongI) 2, errI (m.fu.any wrongF) 2, errI (m.ex.any wrongE) 2,
  errI (m.tb.any (beyond 1048576)) 2, errI (m.me.any (beyond 65536)) 2, errI (!m.st && decide (m.sn ≠ 0)) 2]
/-- The first of them that is an error. -/
def firstE : List Int → Int
  | [] => 0
  | e :: r => if e = 0 then firstE r else e
theorem firstE_hit : ∀ (l : List Int) (k : Nat) (hk : k < l.length), (∀ j (hj : j < l.length), j < k → l[j] = 0) → l[k] ≠ 0 → firstE l = l[k]
  | [], k, hk, _, _ => by simp at hk
  | e :: r, 0, hk, _, h => by simp only [List.getElem_cons_zero] at h ⊢; rw [firstE, if_neg h]
  | e :: r, k + 1, hk, hb, h => by
    have h0 : e = 0 := hb 0 (by simp) (by omega)
    rw [firstE, if_pos h0]
    simp only [List.getElem_cons_succ] at h ⊢
    exact firstE_hit r k (by simpa using hk) (fun j hj hjk => by have := hb (j + 1) (by simp; omega) (by omega); simpa using this) h
theorem firstE_miss : ∀ (l : List Int), (∀ j (hj : j < l.length), l[j] = 0) → firstE l = 0
  | [], _ => rfl
  | e :: r, hb => by
    have h0 : e = 0 := hb 0 (by simp)
    rw [firstE, if_pos h0]
    exact firstE_miss r (fun j hj => by have := hb (j + 1) (by simp; omega); simpa using this)
theorem errI_two (b : Bool) (e r : Int) (he : e ≠ 0) : (if errI b e = 0 then r else errI b e) = if b then e else r := by
  cases b <;> simp [errI, he]
theorem check_outs (m : Md) : m.check = firstE m.outs := by
  unfold Md.outs Md.check
  simp only [firstE, errI_two _ _ _ (show (141 : Int) ≠ 0 by decide), errI_two _ _ _ (show (3 : Int) ≠ 0 by decide), errI_two _ _ _ (show (2 : Int) ≠ 0 by decide)]
  have hc := codeP_cases m.codes
  by_cases h1 : m.crowded = true
  · simp [h1]
  rw [if_neg h1, if_neg h1]
  by_cases h2 : codeP m.codes = 141
  · simp [h2]
  have h2' : ¬ (codeP m.codes == 141) = true := by simpa using h2
  rw [if_neg h2, if_neg h2']
  split
  · rfl
  split
  · rfl
  by_cases h3 : codeP m.codes = 0
  · rw [if_pos h3, if_neg (by omega)]
    unfold Md.wrong
    cases m.anyName noText <;> cases m.ty.any wrongT <;> cases m.im.any wrongI <;> cases m.fu.any wrongF <;> cases m.ex.any wrongE <;> cases m.tb.any (beyond 1048576) <;> cases m.me.any (beyond 65536) <;> cases (!m.st && decide (m.sn ≠ 0)) <;> rfl
  · have h4 : codeP m.codes = 2 := by omega
    rw [if_neg h3, h4]; rfl

/-- The function of the k-th check. -/
def chkF (k : Nat) : Nat := [107, 110, 112, 115, 117, 118, 120, 123, 126, 129, 132, 134, 135].getD k 0
/-- What it has captured. -/
def chkB (g k : Nat) : Array Value := [#[.pointer (some ⟨g, 0, none⟩)], #[.pointer (some ⟨g, 0, none⟩), .pointer (some ⟨g + 1, 0, none⟩)], #[.pointer (some ⟨g, 0, none⟩)], #[.pointer (some ⟨g, 0, none⟩)], #[.pointer (some ⟨g + 1, 0, none⟩)], #[.pointer (some ⟨g, 0, none⟩)], #[.pointer (some ⟨g, 0, none⟩)],
  #[.pointer (some ⟨g, 0, none⟩)], #[.pointer (some ⟨g, 0, none⟩)], #[.pointer (some ⟨g, 0, none⟩)], #[.pointer (some ⟨g, 0, none⟩)], #[.pointer (some ⟨g, 0, none⟩)], #[.pointer (some ⟨g, 0, none⟩)]].getD k #[]
theorem chk_enters (k : Nat) (hk : k < 13) : ∀ args w, (callFunc (chkF k) args).run Tryz.prog w = .ok (.enter (chkF k) args) w := by
  match k, hk with
  | 0, _ => exact enters_of Tryz.func107 (by kernel_rfl) rfl
  | 1, _ => exact enters_of Tryz.func110 (by kernel_rfl) rfl
  | 2, _ => exact enters_of Tryz.func112 (by kernel_rfl) rfl
  | 3, _ => exact enters_of Tryz.func115 (by kernel_rfl) rfl
  | 4, _ => exact enters_of Tryz.func117 (by kernel_rfl) rfl
  | 5, _ => exact enters_of Tryz.func118 (by kernel_rfl) rfl
  | 6, _ => exact enters_of Tryz.func120 (by kernel_rfl) rfl
  | 7, _ => exact enters_of Tryz.func123 (by kernel_rfl) rfl
  | 8, _ => exact enters_of Tryz.func126 (by kernel_rfl) rfl
  | 9, _ => exact enters_of Tryz.func129 (by kernel_rfl) rfl
  | 10, _ => exact enters_of Tryz.func132 (by kernel_rfl) rfl
  | 11, _ => exact enters_of Tryz.func134 (by kernel_rfl) rfl
  | 12, _ => exact enters_of Tryz.func135 (by kernel_rfl) rfl

/-- What holds between two checks. -/
structure Chks (w : World) (m : Md) (k : Nat) (W : World) : Prop where
  below : Below w.heap.size w W
  box : BoxAt W w.heap.size m.v
  code : W.cell? ⟨w.heap.size + 1, 0, none⟩ = some (.int .i64 (if k < 2 then 0 else codeP m.codes))
  fr : W.frozen? ⟨w.heap.size + 1, 0, none⟩ = false
  arr : ∀ j, j < 13 → W.cell? ⟨w.heap.size + 2, j, none⟩ = some (.func (.func (chkF j)) #[] (chkB w.heap.size j))
theorem Chks.go {w : World} {m : Md} {k k' : Nat} {W W' : World} (h : Chks w m k W) (hb : Below W.heap.size W W') (hk : k < 2 ↔ k' < 2) : Chks w m k' W' :=
  ⟨h.below.trans (hb.mono h.below.size), h.box.keep hb, by rw [show (if k' < 2 then (0 : Int) else codeP m.codes) = if k < 2 then 0 else codeP m.codes by by_cases h2 : k < 2 <;> simp [h2, ← hk]]; exact Go.Proofs.YtckdnhafookcgaaGreatDoor.keep hb h.code, (hb.frozen (p := ⟨w.heap.size + 1, 0, none⟩) (World.block_lt_of_cell? W _ h.code)).trans h.fr, fun j hj => Go.Proofs.YtckdnhafookcgaaGreatDoor.keep hb (h.arr j hj)⟩
theorem Chks.set {w : World} {m : Md} {W W' : World} (h : Chks w m 1 W) (hb : Below W.heap.size W W') : Chks w m 2 (W'.setCell ⟨w.heap.size + 1, 0, none⟩ (.int .i64 (codeP m.codes))) := by
  have h' := h.go (k' := 1) hb Iff.rfl
  refine ⟨h'.below.setCell (p := ⟨w.heap.size + 1, 0, none⟩) (by simp) _, fun j x hj => ?_, ?_, ?_, fun j hj => ?_⟩
  · exact (World.cell?_of_block (w := W') (Below.heap_setCell _ _ _ _ (by simp))).trans (h'.box j x hj)
  · rw [if_neg (by omega)]; exact World.cell?_setCell_same' _ _ _ (by rw [h'.code]; rfl)
  · rw [World.frozen?_setCell]; exact h'.fr
  · exact (World.cell?_of_block (w := W') (Below.heap_setCell _ _ _ _ (by simp))).trans (h'.arr j hj)
/-- One check. -/
theorem chk_step (m : Md) (w : World) (hT : Nams w) (hU : Utf.Tabs w) (hm : ModAt w.heap.size w m) (hf : m.few) (k : Nat) (hk : k < 13) (W : World) (h : Chks w m k W) :
    Calls Tryz.prog (chkF k) (chkB w.heap.size k) W fun e w' => e = .returned (.int .i64 (m.outs.getD k 0)) ∧ Chks w m (k + 1) w' := by
  have hm' := hm.on h.below
  have hT' := hT.below h.below
  have hU' := hU.below h.below
  match k, hk, h with
  | 0, _, h => exact (chk1 m _ W h.box hm' hf).mono fun e w' ⟨he, hb⟩ => ⟨he, h.go hb (by simp)⟩
  | 1, _, h => exact (chk2 m _ _ W h.box hm' hf hT' h.code h.fr).mono fun e w' ⟨he, w1, hb, hw⟩ => ⟨he, by subst hw; exact h.set hb⟩
  | 2, _, h => exact (chk3 m _ W h.box hm' hf).mono fun e w' ⟨he, hb⟩ => ⟨he, h.go hb (by simp)⟩
  | 3, _, h => exact (chk4 m _ W h.box hm' hf).mono fun e w' ⟨he, hb⟩ => ⟨he, h.go hb (by simp)⟩
  | 4, _, h => exact (chk5 _ _ W (by have := h.code; rw [if_neg (by omega)] at this; exact this)).mono fun e w' ⟨he, hb⟩ => ⟨he, h.go hb (by simp)⟩
  | 5, _, h => exact (chk6 m _ W h.box hm' hf hU').mono fun e w' ⟨he, hb⟩ => ⟨he, h.go hb (by simp)⟩
  | 6, _, h => exact (chk7 m _ W h.box hm' hf).mono fun e w' ⟨he, hb⟩ => ⟨he, h.go hb (by simp)⟩
  | 7, _, h => exact (chk8 m _ W h.box hm' hf).mono fun e w' ⟨he, hb⟩ => ⟨he, h.go hb (by simp)⟩
  | 8, _, h => exact (chk9 m _ W h.box hm' hf).mono fun e w' ⟨he, hb⟩ => ⟨he, h.go hb (by simp)⟩
  | 9, _, h => exact (chk10 m _ W h.box hm' hf).mono fun e w' ⟨he, hb⟩ => ⟨he, h.go hb (by simp)⟩
  | 10, _, h => exact (chk11 m _ W h.box hm' hf).mono fun e w' ⟨he, hb⟩ => ⟨he, h.go hb (by simp)⟩
  | 11, _, h => exact (chk12 m _ W h.box hm' hf).mono fun e w' ⟨he, hb⟩ => ⟨he, h.go hb (by simp)⟩
  | 12, _, h => exact (chk13 m _ W h.box).mono fun e w' ⟨he, hb⟩ => ⟨he, h.go hb (by simp)⟩

set_option maxRecDepth 100000 in
set_option maxHeartbeats 2000000 in
theorem ModCheck_any (m : Md) (w : World) (hT : Nams w) (hU : Utf.Tabs w) (hm : ModAt w.heap.size w m) (hf : m.few) :
    Calls Tryz.prog 71 #[.agg m.v] w fun e w' => e = .returned (.int .i64 m.check) ∧ Below w.heap.size w w' := by
  have HS := hid (chk_step m w hT hU hm hf)
  have HE := hid (check_outs m)
  have HL := hid (show m.outs.length = 13 from rfl)
  have h0 : Chks w m 0 (((w.alloc (.cells m.v 32)).alloc (.cells #[.int .i64 0] 38)).alloc (.cells #[.func (.func 107) #[] #[.pointer (some ⟨w.heap.size, 0, none⟩)], .func (.func 110) #[] #[.pointer (some ⟨w.heap.size, 0, none⟩), .pointer (some ⟨w.heap.size + 1, 0, none⟩)], .func (.func 112) #[] #[.pointer (some ⟨w.heap.size, 0, none⟩)], .func (.func 115) #[] #[.pointer (some ⟨w.heap.size, 0, none⟩)], .func (.func 117) #[] #[.pointer (some ⟨w.heap.size + 1, 0, none⟩)], .func (.func 118) #[] #[.pointer (some ⟨w.heap.size, 0, none⟩)], .func (.func 120) #[] #[.pointer (some ⟨w.heap.size, 0, none⟩)], .func (.func 123) #[] #[.pointer (some ⟨w.heap.size, 0, none⟩)], .func (.func 126) #[] #[.pointer (some ⟨w.heap.size, 0, none⟩)], .func (.func 129) #[] #[.pointer (some ⟨w.heap.size, 0, none⟩)], .func (.func 132) #[] #[.pointer (some ⟨w.heap.size, 0, none⟩)], .func (.func 134) #[] #[.pointer (some ⟨w.heap.size, 0, none⟩)], .func (.func 135) #[] #[.pointer (some ⟨w.heap.size, 0, none⟩)]] 189)) := by
    refine ⟨thenA (thenA (thenA (Below.refl _ _) _) _) _, ?_, by simp [go_sem], by simp [go_sem], fun j hj => ?_⟩
    · exact (BoxAt.made w m.v _).keep (((Below.refl _ _).alloc (Nat.le_refl _) _).alloc (by simp) _)
    · match j, hj with
      | 0, _ | 1, _ | 2, _ | 3, _ | 4, _ | 5, _ | 6, _ | 7, _ | 8, _ | 9, _ | 10, _ | 11, _ | 12, _ => simp [go_sem, chkF, chkB]
  clear hT hU hm hf
  unfold Md.v at h0 ⊢
  go_enter Tryz.func71, Tryz.ntmps71
  go_wp2
  generalize (((w.alloc (.cells #[.slice m.ty'.a m.ty.length m.ty'.c, .slice m.im'.a m.im.length m.im'.c, .slice m.fu'.a m.fu.length m.fu'.c, .slice m.tb'.a m.tb.length m.tb'.c, .slice m.me'.a m.me.length m.me'.c, .slice m.gl'.a m.gl.length m.gl'.c, .slice m.ex'.a m.ex.length m.ex'.c, .bool m.st, .int .u32 m.sn, .slice m.el'.a m.el.length m.el'.c, .slice m.da'.a m.da.length m.da'.c] 32)).alloc (.cells #[.int .i64 0] 38)).alloc (.cells #[.func (.func 107) #[] #[.pointer (some ⟨w.heap.size, 0, none⟩)], .func (.func 110) #[] #[.pointer (some ⟨w.heap.size, 0, none⟩), .pointer (some ⟨w.heap.size + 1, 0, none⟩)], .func (.func 112) #[] #[.pointer (some ⟨w.heap.size, 0, none⟩)], .func (.func 115) #[] #[.pointer (some ⟨w.heap.size, 0, none⟩)], .func (.func 117) #[] #[.pointer (some ⟨w.heap.size + 1, 0, none⟩)], .func (.func 118) #[] #[.pointer (some ⟨w.heap.size, 0, none⟩)], .func (.func 120) #[] #[.pointer (some ⟨w.heap.size, 0, none⟩)], .func (.func 123) #[] #[.pointer (some ⟨w.heap.size, 0, none⟩)], .func (.func 126) #[] #[.pointer (some ⟨w.heap.size, 0, none⟩)], .func (.func 129) #[] #[.pointer (some ⟨w.heap.size, 0, none⟩)], .func (.func 132) #[] #[.pointer (some ⟨w.heap.size, 0, none⟩)], .func (.func 134) #[] #[.pointer (some ⟨w.heap.size, 0, none⟩)], .func (.func 135) #[] #[.pointer (some ⟨w.heap.size, 0, none⟩)]] 189)) = W0 at h0 ⊢
  have H0 := hid h0
  clear h0
  go_loopw [22] (fun vi wr => ∃ k : Nat, vi = .int .i64 k ∧ k ≤ 13 ∧ Hid (Chks w m k wr) ∧ Hid (∀ j (hj : j < m.outs.length), j < k → m.outs[j] = 0)) (fun vi _ => 13 - (intOf vi).toNat)
  case atStart => exact ⟨0, rfl, Nat.zero_le _, H0, fun j _ h => absurd h (Nat.not_lt_zero _)⟩
  case round =>
    obtain ⟨k, rfl, hk, HC, HA⟩ := hrel
    clear H0
    by_cases hlt : k < 13
    · have hkl : k < m.outs.length := by rw [HL.out]; exact hlt
      have eg := chk_enters k hlt
      have C := hid (HS.out k hlt wr HC.out)
      have hc : wr.cell? ⟨w.heap.size + 1 + 1, k, none⟩ = some (.func (.func (chkF k)) #[] (chkB w.heap.size k)) := HC.out.arr k hlt
      have HG := hid (show m.outs.getD k 0 = m.outs[k] by simp [hkl])
      obtain ⟨G, hG⟩ : ∃ G, chkF k = G := ⟨_, rfl⟩
      obtain ⟨L, hL⟩ : ∃ L, chkB w.heap.size k = L := ⟨_, rfl⟩
      obtain ⟨q, hq⟩ : ∃ q, m.outs.getD k 0 = q := ⟨_, rfl⟩
      rw [hG] at eg C hc
      rw [hL] at C hc
      rw [hq] at C HG
      clear hG hL hq
      have hki : (k : Int) < 13 := by omega
      by_cases h0 : q = 0
      · subst h0
        go_wp2_with (go_at_fn G; refine C.out.mono ?_; rintro e w1 ⟨rfl, hC1⟩)
        go_roundw
        case rel =>
          refine ⟨k + 1, by go_num, by omega, hC1, hid fun j hj hjk => ?_⟩
          by_cases e : j = k
          · subst e; exact HG.out.symm
          · exact HA.out j hj (by omega)
        case measure => simp [intOf]; omega
      · have HF := hid (show m.check = q by
          rw [HE.out, firstE_hit _ k hkl HA.out (by rw [← HG.out]; exact h0), ← HG.out])
        have hq1 : (q == 0) = false := by simpa using h0
        have hq2 : (q != 0) = true := by simpa using h0
        go_wp2_with (go_at_fn G; refine C.out.mono ?_; rintro e w1 ⟨rfl, hC1⟩)
        go_ret
        exact ⟨ret_int HF.out.symm, hC1.below⟩
    · obtain rfl : k = 13 := by omega
      have HF := hid (show m.check = 0 by
        rw [HE.out]; exact firstE_miss _ (fun j hj => HA.out j hj (by rw [HL.out] at hj; exact hj)))
      go_wp2
      go_ret
      exact ⟨ret_int HF.out.symm, HC.out.below⟩
end Go.Proofs.YtckdnhafookcgaaGreatDoor.Mod
