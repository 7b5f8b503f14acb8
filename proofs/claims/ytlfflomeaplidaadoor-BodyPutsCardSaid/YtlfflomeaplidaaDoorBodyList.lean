import Derived.Test.YtlfflomeaplidaaDoorBodyPush
import Derived.Test.YtlfflomeaplidaaDoorBodyPlain
/-
  BODY: the loop over the open lists: what it keeps; a plain step for each way.
-/
namespace Go.Proofs.YtlfflomeaplidaaDoor.Body
open Go.RowKit Go.Proofs.YtlfflomeaplidaaDoor.Instr
open Go.Proofs.YtlfflomeaplidaaDoor.Kind (Rd numR refuseR startR numR_good numR_bounds refuseR_good getL_next)

section
variable {zs : List Int} {m : Nat} {f : Fr} {fs : List Fr} {cnt : Int} {s s1 : Rd} {y : Int}
theorem mach_succ : mach zs (m + 1) f fs cnt s =
    if (opR zs f.div (fs.length + 1) cnt s).2.2.1 ≠ 0 then (.nil, (opR zs f.div (fs.length + 1) cnt s).2)
    else if (opR zs f.div (fs.length + 1) cnt s).1 = 5 then mach zs m ⟨f.x, f.t, .nil, true⟩ fs cnt (opR zs f.div (fs.length + 1) cnt s).2
    else if (opR zs f.div (fs.length + 1) cnt s).1 = 11 then
      match fs with
      | [] => (f.t, (opR zs f.div (fs.length + 1) cnt s).2)
      | g :: gs => mach zs m ⟨g.x, g.fl, g.t.app f.one, g.oth⟩ gs cnt (opR zs f.div (fs.length + 1) cnt s).2
    else if kindP (opR zs f.div (fs.length + 1) cnt s).1 = 1 then mach zs m ⟨(restR zs (opR zs f.div (fs.length + 1) cnt s).1 (opR zs f.div (fs.length + 1) cnt s).2).x, .nil, .nil, false⟩ (f :: fs) (cnt + 1) (restR zs (opR zs f.div (fs.length + 1) cnt s).1 (opR zs f.div (fs.length + 1) cnt s).2).s
    else mach zs m ⟨f.x, f.fl, f.t.app (.cons (restR zs (opR zs f.div (fs.length + 1) cnt s).1 (opR zs f.div (fs.length + 1) cnt s).2).x .nil .nil .nil), f.oth⟩ fs (cnt + 1) (restR zs (opR zs f.div (fs.length + 1) cnt s).1 (opR zs f.div (fs.length + 1) cnt s).2).s := by
  cases fs <;> rfl
theorem mach_fault (h : opR zs f.div (fs.length + 1) cnt s = (y, s1)) (hb : s1.2.1 ≠ 0) : mach zs (m + 1) f fs cnt s = (.nil, s1) := by
  rw [mach_succ]; simp only [h, ne_eq, hb, not_false_eq_true, if_true]
theorem mach_five (h : opR zs f.div (fs.length + 1) cnt s = (5, s1)) (hb : s1.2.1 = 0) : mach zs (m + 1) f fs cnt s = mach zs m ⟨f.x, f.t, .nil, true⟩ fs cnt s1 := by
  rw [mach_succ]; simp only [h, ne_eq, hb, not_true_eq_false, if_false, if_true]
theorem mach_last (h : opR zs f.div 1 cnt s = (11, s1)) (hb : s1.2.1 = 0) : mach zs (m + 1) f [] cnt s = (f.t, s1) := by
  rw [mach_succ]
  simp only [List.length_nil, Nat.zero_add, h, ne_eq, hb, not_true_eq_false, if_false]
  rw [if_neg (by decide), if_pos trivial]
theorem mach_shut {g : Fr} {gs : List Fr} (h : opR zs f.div (gs.length + 1 + 1) cnt s = (11, s1)) (hb : s1.2.1 = 0) : mach zs (m + 1) f (g :: gs) cnt s = mach zs m ⟨g.x, g.fl, g.t.app f.one, g.oth⟩ gs cnt s1 := by
  rw [mach_succ]
  simp only [List.length_cons, h, ne_eq, hb, not_true_eq_false, if_false]
  rw [if_neg (by decide), if_pos trivial]
theorem mach_open (h : opR zs f.div (fs.length + 1) cnt s = (y, s1)) (hb : s1.2.1 = 0) (h5 : y ≠ 5) (h11 : y ≠ 11) (hk : kindP y = 1) : mach zs (m + 1) f fs cnt s = mach zs m ⟨(restR zs y s1).x, .nil, .nil, false⟩ (f :: fs) (cnt + 1) (restR zs y s1).s := by
  rw [mach_succ]; simp only [h, ne_eq, hb, not_true_eq_false, if_false, h5, h11, hk, if_true]
theorem mach_more (h : opR zs f.div (fs.length + 1) cnt s = (y, s1)) (hb : s1.2.1 = 0) (h5 : y ≠ 5) (h11 : y ≠ 11) (hk : kindP y ≠ 1) : mach zs (m + 1) f fs cnt s = mach zs m ⟨f.x, f.fl, f.t.app (.cons (restR zs y s1).x .nil .nil .nil), f.oth⟩ fs (cnt + 1) (restR zs y s1).s := by
  rw [mach_succ]; simp only [h, ne_eq, hb, not_true_eq_false, if_false, h5, h11, hk]
end

/-- What the loop keeps. -/
structure LInv (w W : World) (k : Nat) (v : Value) (zs : List Int) (gs cap : Nat) (os : List Og) (o : Og) (cnt : Int) (s : Rd) (R : Il × Rd) : Prop where
  st : StackOk w.heap.size W gs cap (os ++ [o])
  rd : RdIs W k v s
  sv : Save k w W
  good : Kind.Good zs s
  c0 : 0 ≤ cnt
  c1 : cnt ≤ 262144
  few : (((os.map fun q => q.t.len).sum + o.t.len + os.length : Nat) : Int) ≤ cnt
  deep : os.length ≤ 900
  run : ∃ m, rem zs s < m ∧ mach zs m o.fr (os.reverse.map Og.fr) cnt s = R
theorem LInv.deepen {w W : World} {k : Nat} {v : Value} {zs : List Int} {gs cap : Nat} {os : List Og} {o : Og} {cnt : Int} {s : Rd} {R : Il × Rd} (h : LInv w W k v zs gs cap os o cnt s R) : ∃ m, rem zs s ≤ m ∧ mach zs (m + 1) o.fr (os.reverse.map Og.fr) cnt s = R := by
  obtain ⟨m, h1, h2⟩ := h.run
  exact ⟨m - 1, by omega, by rw [show m - 1 + 1 = m by omega]; exact h2⟩
theorem fr_div (o : Og) : o.fr.div = (decide (o.x.op = 4) && !o.oth) := rfl
/-- How far the reader may still go, as its cells tell. -/
def remW (len k : Nat) (w : World) : Nat := if intOf ((w.cell? ⟨k, 2, none⟩).getD undef) = 0 then (len - intOf ((w.cell? ⟨k, 1, none⟩).getD undef)).toNat + 1 else 0
theorem remW_of {w : World} {k : Nat} {v : Value} {s : Rd} {zs : List Int} {len : Nat} (h : RdIs w k v s) (hl : zs.length = len) : remW len k w = rem zs s := by
  unfold remW rem
  rw [h.c2, h.c1]
  by_cases h0 : s.2.1 = 0
  · rw [if_pos h0, if_pos (show intOf ((some (Value.int .i64 s.2.1)).getD undef) = 0 from h0), ← hl]; rfl
  · rw [if_neg h0, if_neg (show ¬ intOf ((some (Value.int .i64 s.2.1)).getD undef) = 0 from h0)]
/-- What reading a list gives. -/
def GotList (k : Nat) (v : Value) (w : World) (R : Il × Rd) (e : Ending) (w' : World) : Prop :=
  ∃ a n c, e = .returned (.slice a n c) ∧ RdIs w' k v R.2 ∧ Save k w w' ∧ (R.2.2.1 = 0 → ∃ t : Il, t.bare = R.1 ∧ ListAt w'.heap.size w' a n t ∧ (blkOf n a ++ t.foot).Nodup ∧ (∀ q ∈ blkOf n a ++ t.foot, w.heap.size ≤ q) ∧ ∀ q ∈ blkOf n a ++ t.foot, Soft w' q)
theorem got_first {w W : World} {k : Nat} {v : Value} {zs : List Int} {gs cap : Nat} {o : Og} {cnt : Int} {s : Rd} {R : Il × Rd} (h : LInv w W k v zs gs cap [] o cnt s R) : ∃ a c, o.v = .slice a o.t.len c ∧ W.cell? ⟨gs, 8, none⟩ = some (.slice a o.t.len c) ∧ ListAt W.heap.size W a o.t.len o.t ∧ (blkOf o.t.len a ++ o.t.foot).Nodup ∧ (∀ q ∈ blkOf o.t.len a ++ o.t.foot, w.heap.size ≤ q) ∧ ∀ q ∈ blkOf o.t.len a ++ o.t.foot, Soft W q := by
  have hst := h.st
  simp only [List.nil_append] at hst
  have ho := hst.each o (by simp)
  obtain ⟨a, c, hv, hl, hb⟩ := list_of_row ho.row ho.half.kids
  have hc := StackOk.cell (os := []) (o := o) (by simpa using hst) (j := 8) (by omega)
  have hap := hst.apart
  rw [List.flatMap_cons, List.flatMap_nil, List.append_nil] at hap
  have hap2 := (List.nodup_cons.1 hap).2
  have hsub : (blkOf o.t.len a).Sublist (rowBlk o.v) := by
    rw [hb]
    split
    · exact List.nil_sublist _
    · exact List.Sublist.refl _
  have hs2 : (blkOf o.t.len a ++ o.t.foot).Sublist o.foot := by
    unfold Og.foot Og.inner
    exact List.Sublist.append hsub (List.sublist_append_left _ _)
  refine ⟨a, c, hv, ?_, hl, List.Nodup.sublist hs2 hap2, fun q hq => ho.low q (hs2.subset hq), fun q hq => ho.soft q (hs2.subset hq)⟩
  simpa [Og.cells, Ix.vals, hv] using hc
theorem got_any {w W : World} {k : Nat} {v : Value} {zs : List Int} {gs cap : Nat} {os : List Og} {o : Og} {cnt : Int} {s : Rd} {R : Il × Rd} (h : LInv w W k v zs gs cap os o cnt s R) : ∃ a n c, W.cell? ⟨gs, 8, none⟩ = some (.slice a n c) := by
  have hst := h.st
  have hr := hst.row
  have hc := hr.cellAt 8 (by simp; omega)
  cases os with
  | nil =>
    obtain ⟨a, c, _, h2, _⟩ := got_first h
    exact ⟨a, _, c, h2⟩
  | cons p ps =>
    have hp := hst.each p (by simp)
    obtain ⟨a, c, hv, _⟩ := list_of_row hp.row hp.half.kids
    refine ⟨a, p.t.len, c, ?_⟩
    rw [hc, List.cons_append, List.flatMap_cons, List.getElem?_append_left (by rw [cells_ten]; omega)]
    simp [Og.cells, Ix.vals, hv]
theorem Itemed.below {base gs p : Nat} {y : Ix} {ga : Option Addr} {gc : Nat} {gt : Il} {w w' : World} (h : Itemed base gs p y ga gc gt w w') (hb : base ≤ w.heap.size) (hlow : ∀ q, Value.ownBlock (.slice ga gt.len gc) = some q → base ≤ q) (hgs : base ≤ gs) : Below base w w' := by
  obtain ⟨w1, g', cap', ht, _, hat, rfl⟩ := h
  have h1 : Below base w w1 := ht.below hb (fun j hj => hlow j hj)
  have hg' : base ≤ g' := by
    rcases hat with h | h
    · exact hlow g' h
    · omega
  exact (h1.trans ((store8_touch w1 g' (gt.len * 8) y).below (Nat.le_trans hb ht.size) (fun j hj => by have hj' : j = g' := hj; omega))).setCell hgs _
/-- An instruction more without lists. -/
theorem linv_item {w W2 W5 W7 : World} {k : Nat} {v : Value} {zs : List Int} {gs cap : Nat} {os : List Og} {o : Og} {cnt : Int} {s2 : Rd} {R : Il × Rd} {ga : Option Addr} {gc tc : Nat} {ta : Option Addr} {y r a b n : Int} {tags : List Int} {m : Nat}
    (hst2 : StackOk w.heap.size W2 gs cap (os ++ [o])) (sv5 : Save k W2 W5) (hsv2 : Save k w W2) (hkw : k < w.heap.size) (hr5 : RdIs W5 k v s2) (hg : Kind.Good zs s2) (hc0 : 0 ≤ cnt) (hc1 : cnt < 262144) (few : (((os.map fun q => q.t.len).sum + o.t.len + os.length : Nat) : Int) ≤ cnt) (deep : os.length ≤ 900)
    (hv : o.v = .slice ga o.t.len gc) (hto : OwnK 42 .u32 W2.heap.size W5 (.slice ta tags.length tc) tags) (hok : (plainX y r a b n tags).ok) (hm : rem zs s2 < m) (hrun : mach zs m ⟨o.fr.x, o.fr.fl, o.fr.t.app (.cons (plainX y r a b n tags) .nil .nil .nil), o.fr.oth⟩ (os.reverse.map Og.fr) (cnt + 1) s2 = R)
    (hI : Itemed w.heap.size gs (os.length * 10 + 8) ⟨y, r, a, b, n, tags, ta, tc, none, 0, 0, none, 0, 0⟩ ga gc o.t W5 W7) : RdIs W7 k v s2 ∧ ∃ o', LInv w W7 k v zs gs cap os o' (cnt + 1) s2 R := by
  have hst5 := hst2.save sv5 hkw
  have ho2 := hst2.each o (by simp)
  have hsz : w.heap.size ≤ W5.heap.size := Nat.le_trans hsv2.size sv5.size
  have hB := hI.below hsz (fun q hq => (hst5.each o (by simp)).low q (List.mem_append_left _ (own_blk (by rw [hv]; exact hq)))) hst5.low.1
  have hr7 := hr5.belowB hB hkw
  obtain ⟨t1, t2, t3⟩ := tags_of hto
  have hft : (Il.cons ⟨y, r, a, b, n, tags, ta, tc, none, 0, 0, none, 0, 0⟩ .nil .nil .nil).foot = blkOf tags.length ta := by simp [Il.foot, blkOf]
  have hlt2 : ∀ q ∈ gs :: (os.flatMap Og.foot ++ o.foot), q < W2.heap.size := by
    intro q hq
    rcases List.mem_cons.1 hq with rfl | hq
    · exact hst2.low.2
    · rcases List.mem_append.1 hq with hq | hq
      · obtain ⟨p, hp, hr⟩ := List.mem_flatMap.1 hq
        exact (hst2.each p (by simp [hp])).lt q hr
      · exact ho2.lt q hq
  obtain ⟨v', hst7⟩ := hst5.item hv hI ⟨⟨hok.op, hok.res, hok.a, hok.b, hok.n, hok.tags, hok.tn, by simp, by simp⟩, t1, ⟨rfl, .inl rfl⟩, ⟨rfl, .inl rfl⟩, trivial⟩ (by rw [hft]; exact t3)
    (fun q hq => by rw [hft] at hq; have h1 := t2 q hq; exact ⟨Nat.le_trans hsv2.size h1, fun hm => by have := hlt2 q hm; omega⟩) (by omega) (fun q hq => by rw [hft] at hq; exact tags_soft hto q hq)
  refine ⟨hr7, _, hst7, hr7, save_under (hsv2.trans sv5) hB, hg, by omega, by omega, ?_, deep, m, hm, ?_⟩
  · simp only [app_len, Il.len]; omega
  · rw [← hrun]
    simp only [Og.fr, bare_app]
    rfl
end Go.Proofs.YtlfflomeaplidaaDoor.Body

/-
  BODY: the reader's list, by contract.
-/
namespace Go.Proofs.YtlfflomeaplidaaDoor.Body
open Go.RowKit Go.Proofs.YtlfflomeaplidaaDoor.Instr
open Go.Proofs.YtlfflomeaplidaaDoor.Kind (Rd numR refuseR startR numR_good numR_bounds refuseR_good getL_next)

set_option maxRecDepth 100000 in
set_option maxHeartbeats 20000000 in
theorem list_any (k : Nat) (av : Option Addr) (len cap0 : Nat) (zs : List Int) (s0 : Rd) (w : World) (h : RdIs w k (.slice av len cap0) s0) (hg : Kind.Good zs s0) (hlen : zs.length = len) (hz : Bytes w av zs) (ha : ∀ b off, av = some ⟨b, off, none⟩ → zs ≠ [] → b ≠ k) (hN : ∀ w', Save k w w' → Nams w') :
    Calls Tryd.prog 74 #[.pointer (some ⟨k, 0, none⟩)] w (GotList k (.slice av len cap0) w (mach zs (zs.length + 3) top0 [] 0 s0)) := by
  have hkw : k < w.heap.size := World.block_lt_of_cell? w _ h.c0
  have hrem := rem_le hg
  obtain ⟨R, hR⟩ : ∃ R, mach zs (zs.length + 3) top0 [] 0 s0 = R := ⟨_, rfl⟩
  rw [hR]
  have hI0 : LInv w (w.alloc (.cells #[.int .i64 0, .int .i64 0, .int .u32 0, .int .u32 0, .int .i32 0, .slice none 0 0, .slice none 0 0, .slice none 0 0, .slice none 0 0, .bool false] 148)) k (.slice av len cap0) zs w.heap.size 1 [] (newOg zeroX) 0 s0 R :=
    ⟨StackOk.first w (Nat.le_refl _), h.below ((Below.refl _ _).alloc (Nat.le_refl _) _), (Save.refl k w).alloc _, hg, Int.le_refl _, by omega, by simp [newOg, Il.len], by simp, zs.length + 3, by omega, hR⟩
  have HI0 := hid hI0
  have HN := hid hN
  have HZ := hid (fun w' (hs : Save k w w') => hz.save hs ha)
  have HZB := hid hz.byte
  have HA := hid ha
  have HL := hid hlen
  clear hI0 hR hrem h hg hN hz ha hlen
  go_enter Tryd.func74, Tryd.ntmps74
  go_wp2
  go_step3
  go_wp2
  go_step3
  go_wp2
  go_loopw [3, 4] (fun s3 s4 wr => ∃ (os : List Og) (o : Og) (gs cap n : Nat) (cnt : Int) (s : Rd), s3 = .slice (some ⟨gs, 0, none⟩) (n + 1) cap ∧ s4 = .int .i64 cnt ∧ os.length = n ∧ Hid (LInv w wr k (.slice av len cap0) zs gs cap os o cnt s R)) (fun _ _ wr => remW len k wr)
  case atStart => exact ⟨[], newOg zeroX, w.heap.size, 1, 0, 0, s0, rfl, rfl, rfl, HI0⟩
  case round =>
    obtain ⟨os, o, gs, cap, n, cnt, s, rfl, rfl, hn, HI⟩ := hrel
    have hI := HI.out
    have hgo := hI.good
    have hc0 := hI.c0
    have hc1 := hI.c1
    have hdp := hI.deep
    obtain ⟨m, hm1, hm2⟩ := hI.deepen
    have hcell : ∀ {j : Nat}, j < 10 → wr.cell? ⟨gs, n * 10 + j, none⟩ = o.cells[j]? := fun {j} hj => by have := hI.st.cell hj; rw [hn] at this; exact this
    have d0 : wr.cell? ⟨gs, n * 10, none⟩ = some (.int .i64 o.x.op) := hcell (j := 0) (by omega)
    have d9 : wr.cell? ⟨gs, n * 10 + 9, none⟩ = some (.bool o.oth) := hcell (j := 9) (by omega)
    have hgsl := hI.st.low
    have hgsk : gs ≠ k := by omega
    have OP := operation_any k av len cap0 zs s (decide (o.x.op = 4) && !o.oth) (n + 1) cnt wr hI.rd hgo HL.out (HZ.out wr hI.sv) (fun w' hs => HN.out w' (hI.sv.trans hs)) (by omega) ⟨hc0, by omega⟩
    rw [show (((n + 1 : Nat) : Int)) = (n : Int) + 1 by omega] at OP
    have DV := divisible_any gs (n * 10) o.x.op o.oth wr d0 d9
    have hless := opR_less (oth := decide (o.x.op = 4) && !o.oth) (deep := n + 1) (cnt := cnt) hgo
    have hgood1 := opR_good (oth := decide (o.x.op = 4) && !o.oth) (deep := n + 1) (cnt := cnt) hgo
    have hname := opR_name (zs := zs) (oth := decide (o.x.op = 4) && !o.oth) (deep := n + 1) (cnt := cnt) (s := s)
    have hfive := opR_five (zs := zs) (oth := decide (o.x.op = 4) && !o.oth) (deep := n + 1) (cnt := cnt) (s := s)
    obtain ⟨y, s1, hy⟩ : ∃ y s1, opR zs (decide (o.x.op = 4) && !o.oth) (n + 1) cnt s = (y, s1) := ⟨_, _, rfl⟩
    rw [hy] at OP hless hgood1 hname hfive
    dsimp only at OP hless hgood1 hname hfive
    have hfl : (os.reverse.map Og.fr).length = n := by simp [hn]
    have HY : Hid (opR zs o.fr.div ((os.reverse.map Og.fr).length + 1) cnt s = (y, s1)) := by rw [hfl, fr_div]; exact hid hy
    have HO := hid OP
    have HD := hid DV
    have HM := hid hm2
    have HC := hid (fun (j : Nat) (hj : j < 10) => hcell hj)
    have HLS := hid hless
    have HFV := hid hfive
    have HNM := hid hname
    have HRW := hid (remW_of hI.rd HL.out)
    clear OP DV hm2 hcell hless hfive hname hy hfl d0 d9 hI
    by_cases hb : s1.2.1 = 0
    · have hm3 : rem zs s1 < m := by have := HLS.out hb; omega
      have FN := hid (fun w' (hr : RdIs w' k (.slice av len cap0) s1) => faulty_no k _ s1 w' hr hb)
      by_cases h5 : y = 5
      · -- the second list of an If
        subst h5
        have hfv := HFV.out hb rfl
        have hoth := hid (show o.oth = false by simp at hfv; exact hfv.2)
        have HS : Hid (mach zs m ⟨o.fr.x, o.fr.t, .nil, true⟩ (os.reverse.map Og.fr) cnt s1 = R) := by show _ = _; rw [← HM.out]; exact (mach_five HY.out hb).symm
        have HB := hid hb
        clear hfv HM HFV HNM hb
        go_wp2_with fail
        refine HD.out.mono ?_
        clear HD
        rintro e1 w1 ⟨rfl, rfl⟩
        go_wp2_with fail
        refine HO.out.mono ?_
        clear HO
        rintro e2 w2 ⟨rfl, hr2, sv2⟩
        go_wp2_with fail
        refine (FN.out w2 hr2).mono ?_
        clear FN
        rintro e3 w3 ⟨rfl, rfl⟩
        have hst2 := HI.out.st.save sv2 hkw
        have hsv2 := HI.out.sv.trans sv2
        have hcell2 : ∀ {j : Nat}, j < 10 → w2.cell? ⟨gs, n * 10 + j, none⟩ = o.cells[j]? := fun {j} hj => by have := hst2.cell hj; rw [hn] at this; exact this
        obtain ⟨a, c, hv, _, _⟩ := list_of_row (hst2.each o (by simp)).row (hst2.each o (by simp)).half.kids
        have e6 : w2.cell? ⟨gs, n * 10 + 6, none⟩ = some (.slice o.x.la o.x.ln o.x.lc) := hcell2 (j := 6) (by omega)
        have e8 : w2.cell? ⟨gs, n * 10 + 8, none⟩ = some (.slice a o.t.len c) := by rw [hcell2 (j := 8) (by omega)]; simp [Og.cells, Ix.vals, hv]
        have e9 : w2.cell? ⟨gs, n * 10 + 9, none⟩ = some (.bool o.oth) := hcell2 (j := 9) (by omega)
        have DVD := hid (divide_any gs (n * 10) a o.x.la o.t.len c o.x.ln o.x.lc o.oth w2 e6 e8 e9 (World.ownsRow.frozenAt hst2.row _) (World.ownsRow.frozenAt hst2.row _) (World.ownsRow.frozenAt hst2.row _))
        obtain ⟨o', hst3, hfr⟩ := hst2.divide hoth.out
        rw [hn, hv] at hst3
        have hB : Below w.heap.size w2 (divided w2 gs (n * 10) (.slice a o.t.len c)) := by
          have stepB : ∀ (b : World) (q : Addr) (v : Value), w.heap.size ≤ q.block → Below w.heap.size w2 b → Below w.heap.size w2 (b.setCell q v) := fun b q v hq hb => hb.setCell hq v
          unfold divided
          exact stepB _ _ _ hgsl.1 (stepB _ _ _ hgsl.1 (stepB _ _ _ hgsl.1 (Below.refl _ _)))
        have HB3 := hid hB
        have HST := hid hst3
        have HFR := hid hfr
        clear hcell2 e6 e8 e9 hst3 hfr hB hv
        go_wp2_with fail
        refine DVD.out.mono ?_
        clear DVD
        rintro e4 w4 ⟨rfl, hw4⟩
        rw [← hw4] at HB3 HST
        clear hw4
        have hr4 := hr2.belowB HB3.out hkw
        go_wp2
        go_roundw
        case rel =>
          have hlen0 : o'.t.len = 0 := by
            have := congrArg (fun f => Il.len f.t) HFR.out
            simp only [Og.fr, bare_len, Il.len] at this
            exact this
          refine ⟨os, o', gs, cap, n, cnt, s1, rfl, rfl, hn, ⟨HST.out, hr4, save_under hsv2 HB3.out, hgood1, hc0, hc1, by have := HI.out.few; omega, hdp, m, hm3, by rw [HFR.out]; exact HS.out⟩⟩
        case measure => rw [remW_of hr4 HL.out, HRW.out]; exact HLS.out HB.out
      by_cases h11 : y = 11
      · subst h11
        by_cases hn0 : n = 0
        · -- the outermost list ends
          subst hn0
          have hos : os = [] := List.eq_nil_of_length_eq_zero hn
          subst hos
          have HR : Hid (R = (o.fr.t, s1)) := by show _ = _; rw [← HM.out]; exact mach_last HY.out hb
          obtain ⟨fa, fc, _, hfc, hfl, hfn, hfb⟩ := got_first HI.out
          have HF := hid hfc
          have HFL := hid hfl
          have HFN := hid hfn
          have HFB := hid hfb
          clear hfc hfl hfn hfb HM HFV HNM HC hb h5
          go_wp2_with fail
          refine HD.out.mono ?_
          clear HD
          rintro e1 w1 ⟨rfl, rfl⟩
          go_wp2_with fail
          refine HO.out.mono ?_
          clear HO
          rintro e2 w2 ⟨rfl, hr2, sv2⟩
          go_wp2_with fail
          refine (FN.out w2 hr2).mono ?_
          clear FN
          rintro e3 w3 ⟨rfl, rfl⟩
          have hst2 := HI.out.st.save sv2 hkw
          have hsv2 := HI.out.sv.trans sv2
          have f8 : w2.cell? ⟨gs, 8, none⟩ = some (.slice fa o.t.len fc) := sv2.cell (p := ⟨gs, 8, none⟩) hgsk HF.out
          go_wp2
          rw [Exit.noGoto_ret]
          go_ret
          refine ⟨fa, o.t.len, fc, rfl, by rw [HR.out]; exact hr2, hsv2, fun _ => ⟨o.t, by rw [HR.out]; rfl, ListAt.more sv2.size (HFL.out.touch (.of_save sv2) (fun q hq => ?_)), HFN.out, HFB.out.1, fun q hq => (HFB.out.2 q hq).touch (.of_save sv2) (fun e => by have := HFB.out.1 q hq; omega)⟩⟩
          have := HFB.out.1 q hq
          omega
        · -- a list ends; its owner goes into the list around
          obtain ⟨os', g, rfl⟩ : ∃ os' g, os = os' ++ [g] := by
            rcases List.eq_nil_or_concat os with h | ⟨l, a, h⟩
            · rw [h] at hn; exact absurd hn.symm hn0
            · exact ⟨l, a, by rw [h]; simp⟩
          obtain ⟨n', rfl⟩ : ∃ n', n = n' + 1 := ⟨n - 1, by omega⟩
          have hn' : os'.length = n' := by simp at hn; exact hn
          have HS : Hid (mach zs m ⟨g.fr.x, g.fr.fl, g.fr.t.app o.fr.one, g.fr.oth⟩ (os'.reverse.map Og.fr) cnt s1 = R) := by
            show _ = _
            rw [← HM.out]
            have hy := HY.out
            simp only [List.reverse_append, List.reverse_cons, List.reverse_nil, List.nil_append, List.singleton_append, List.map_cons, List.length_cons] at hy ⊢
            exact (mach_shut hy hb).symm
          have HB := hid hb
          have HFEW := hid HI.out.few
          clear HM HFV HNM HC hb h5
          go_wp2_with fail
          refine HD.out.mono ?_
          clear HD
          rintro e1 w1 ⟨rfl, rfl⟩
          go_wp2_with fail
          refine HO.out.mono ?_
          clear HO
          rintro e2 w2 ⟨rfl, hr2, sv2⟩
          go_wp2_with fail
          refine (FN.out w2 hr2).mono ?_
          clear FN
          rintro e3 w3 ⟨rfl, rfl⟩
          have hst2 := HI.out.st.save sv2 hkw
          have hsv2 := HI.out.sv.trans sv2
          have hcl := closeTop_any (base := w.heap.size) hst2 (by omega) (by have := HFEW.out; simp [List.sum_append] at this; omega) (Nat.le_trans HI.out.sv.size sv2.size)
          rw [hn'] at hcl
          have CT := hid hcl
          clear hcl
          go_wp2_with fail
          refine CT.out.mono ?_
          clear CT
          rintro e4 w4 ⟨rfl, hB, g', hst4, hfr, hgl⟩
          have HFR := hid hfr
          have HGL := hid hgl
          clear hfr hgl
          have hr4 := hr2.belowB hB hkw
          go_wp2
          go_roundw
          case rel =>
            refine ⟨os', g', gs, cap, n', cnt, s1, rfl, rfl, hn', ⟨hst4, hr4, save_under hsv2 hB, hgood1, hc0, hc1, by have := HFEW.out; have := HGL.out; simp [List.sum_append] at *; omega, by omega, m, hm3, by rw [HFR.out]; exact HS.out⟩⟩
          case measure => rw [remW_of hr4 HL.out, HRW.out]; exact HLS.out HB.out
      obtain ⟨hnm, hd9, hc9⟩ := HNM.out hb h11 h5
      have hyr := name_range hnm
      have hg2 : Kind.Good zs (restR zs y s1).s := restR_good hgood1
      have hle2 : rem zs (restR zs y s1).s ≤ rem zs s1 := (restR_on (op := y) hgood1).rem zs
      have hpl := restR_plain (zs := zs) (op := y) (s := s1)
      have hxop := restR_op (zs := zs) (op := y) (s := s1)
      have hok := restR_ok (zs := zs) (op := y) (s := s1) HZB.out (by omega)
      by_cases hk : kindP y = 1
      · -- a list is opened
        have hp : partsP y = 65 := by have := parts_kind y; omega
        obtain ⟨k1, k2, k3, k4, _⟩ := restR_kind1 (zs := zs) (s := s1) hk
        have FW := hid (fun w' => follows_any y w')
        rw [hp] at FW
        have b64 : bits .and .u8 65 64 = 64 := by decide
        have IV := hid (fun w' (hr : RdIs w' k (.slice av len cap0) s1) (hs : Save k w w') => instruction_v k av len cap0 zs s1 y w' hr hgood1 HL.out (HZ.out w' hs) HA.out)
        have HS : Hid (mach zs m ⟨(restR zs y s1).x, .nil, .nil, false⟩ (o.fr :: os.reverse.map Og.fr) (cnt + 1) (restR zs y s1).s = R) := by show _ = _; rw [← HM.out]; exact (mach_open HY.out hb h5 h11 hk).symm
        rw [hxop, k1, k2, k3, k4] at hpl IV
        obtain ⟨r, hr⟩ : ∃ r, (restR zs y s1).x.res = r := ⟨_, rfl⟩
        rw [hr] at hpl IV
        rw [hpl] at HS hok
        obtain ⟨s2, hs2⟩ : ∃ s2, (restR zs y s1).s = s2 := ⟨_, rfl⟩
        rw [hs2] at hg2 hle2 HS IV
        have HB := hid hb
        have HOK := hid hok.1
        have HH5 := hid h5
        have HH11 := hid h11
        have i0 : Hid True := hid trivial
        clear hpl hxop hok k1 k2 k3 k4 hr hs2 hb hnm hk hp HM HFV HNM HC i0
        have h5' : ¬ y = 5 := HH5.out
        have h11' : ¬ y = 11 := HH11.out
        go_wp2_with fail
        refine HD.out.mono ?_
        clear HD
        rintro e1 w1 ⟨rfl, rfl⟩
        go_wp2_with fail
        refine HO.out.mono ?_
        clear HO
        rintro e2 w2 ⟨rfl, hr2, sv2⟩
        go_wp2_with fail
        refine (FN.out w2 hr2).mono ?_
        clear FN
        rintro e3 w3 ⟨rfl, rfl⟩
        have hst2 := HI.out.st.save sv2 hkw
        have hsv2 := HI.out.sv.trans sv2
        go_wp2_with fail
        refine (FW.out w2).mono ?_
        clear FW
        rintro e4 w4 ⟨rfl, rfl⟩
        go_wp2_with fail
        refine (IV.out w2 hr2 hsv2).mono ?_
        clear IV
        rintro e5 w5 ⟨ta, tc, rfl, hto, hr5, sv5⟩
        have hst5 := hst2.save sv5 hkw
        have hsz5 := Nat.le_trans HI.out.sv.size (Nat.le_trans sv2.size sv5.size)
        have hst6 := hst5.save ((Save.refl k w5).alloc (.cells #[.int .i64 y, .int .i64 r, .int .u32 0, .int .u32 0, .int .i32 0, .slice ta 0 tc, .slice none 0 0, .slice none 0 0, .slice none 0 0, .bool false] 148)) hkw
        have ROW := hid hst6.row
        have hln : (os ++ [o]).length = n + 1 := by simp [hn]
        rw [hln] at ROW
        obtain ⟨i0, hi, hz0, hz1, hz2⟩ := info_parts infoO
        have NEWS : Hid (∀ j u, (newOg ⟨y, r, 0, 0, 0, [], ta, tc, none, 0, 0, none, 0, 0⟩).cells[j]? = some u → (w5.alloc (.cells #[.int .i64 y, .int .i64 r, .int .u32 0, .int .u32 0, .int .i32 0, .slice ta 0 tc, .slice none 0 0, .slice none 0 0, .slice none 0 0, .bool false] 148)).cell? ((⟨w5.heap.size, 0, none⟩ : Addr).add j) = some u) := by
          refine hid fun j u hj => ?_
          have hr := World.ownsRow_lit (base := 0) (e := 148) (size := 10) w5 #[.int .i64 y, .int .i64 r, .int .u32 0, .int .u32 0, .int .i32 0, .slice ta 0 tc, .slice none 0 0, .slice none 0 0, .slice none 0 0, .bool false] 1 (Nat.zero_le _) (by decide) rfl
          exact hr.cells rfl j u hj
        have ONE : Hid (∀ u ∈ (newOg ⟨y, r, 0, 0, 0, [], ta, tc, none, 0, 0, none, 0, 0⟩).cells, u.oneCell' = true) := by
          refine hid fun u hu => ?_
          simp [newOg, Og.cells, Ix.vals] at hu
          rcases hu with rfl | rfl | rfl | rfl | rfl | rfl | rfl <;> rfl
        have BASE : Hid (w.heap.size ≤ (w5.alloc (.cells #[.int .i64 y, .int .i64 r, .int .u32 0, .int .u32 0, .int .i32 0, .slice ta 0 tc, .slice none 0 0, .slice none 0 0, .slice none 0 0, .bool false] 148)).heap.size) := by refine hid ?_; simp; omega
        have MX := hid (show n + 1 + 1 ≤ maxLen by unfold maxLen; omega)
        have MY := hid (show (n + 1 + 1) * 136 ≤ 140737488355328 by omega)
        have HN1 := hid hn
        have HS6 := hid hst6
        clear hst5 hst6 hst2 hto hln hn
        go_wp2_with (first
          | (at_builtin; refine wpList_append_lies _ rfl (.tmp 62) (.tmp 67) 149 rfl w.heap.size 148 i0 zeroO 10 136 Tryd.underlying149 hi hz0 hz1 hz2 rfl (by decide) _ (n + 1) _ rfl ROW.out ⟨w5.heap.size, 0, none⟩ 1 1 _ rfl rfl NEWS.out ONE.out (by decide) MX.out MY.out BASE.out _ rfl ?_; intro g' cap' w6 hown hgrow hat hlt; refine Hid.out ?_))
        refine hid ?_
        have hB : Below w.heap.size w5 w6 := ((Below.refl _ w5).alloc hsz5 _).grown hgrow BASE.out (fun q hq => by have h := (World.ownsRow.lt ROW.out q hq).1; exact h)
        have hr6 := hr5.belowB hB hkw
        have hn := HN1.out
        go_wp2
        go_roundw
        case rel =>
          have hln : (os ++ [o]).length = n + 1 := by simp [hn]
          refine ⟨os ++ [o], newOg ⟨y, r, 0, 0, 0, [], ta, tc, none, 0, 0, none, 0, 0⟩, g', cap', n + 1, cnt + 1, s2, by rfl, rfl, hln, ⟨HS6.out.push (by rw [hln]; exact hown) (by rw [hln]; exact hgrow) ?_ (fun _ => newOg_half rfl ⟨rfl, rfl, rfl⟩ ?_ ⟨rfl, rfl, rfl⟩ ⟨rfl, rfl, rfl⟩) rfl, hr6, save_under (hsv2.trans sv5) hB, hg2, by omega, by omega, ?_, by rw [hln]; omega, m, by omega, ?_⟩⟩
          · rw [hln]
            rcases hat with h | h
            · exact .inl h
            · exact .inr (Nat.le_of_eq h.symm)
          · have := HOK.out
            exact ⟨this.op, this.res, this.a, this.b, this.n, this.tags, this.tn, this.ln, this.en⟩
          · have := HI.out.few; simp [List.sum_append, newOg, Il.len]; omega
          · have := HS.out
            simp only [List.reverse_append, List.reverse_cons, List.reverse_nil, List.nil_append, List.singleton_append, List.map_cons]
            exact this
        case measure => rw [remW_of hr6 HL.out, HRW.out]; have := HLS.out HB.out; omega
      · -- an instruction without lists
        have hp64 : bits .and .u8 (partsP y) 64 = 0 := by
          rcases parts_kind y with ⟨a, b⟩ | ⟨a, b⟩ | ⟨a, b⟩ | ⟨a, b⟩ | ⟨a, b⟩ | ⟨a, b⟩ | ⟨a, b⟩ | ⟨a, b⟩ <;> first | exact absurd a hk | (rw [b]; decide)
        have FW := hid (fun w' => follows_any y w')
        obtain ⟨p, hp⟩ : ∃ p, partsP y = p := ⟨_, rfl⟩
        rw [hp] at FW hp64
        have IV := hid (fun w' (hr : RdIs w' k (.slice av len cap0) s1) (hs : Save k w w') => instruction_v k av len cap0 zs s1 y w' hr hgood1 HL.out (HZ.out w' hs) HA.out)
        have HS : Hid (mach zs m ⟨o.fr.x, o.fr.fl, o.fr.t.app (.cons (restR zs y s1).x .nil .nil .nil), o.fr.oth⟩ (os.reverse.map Og.fr) (cnt + 1) (restR zs y s1).s = R) := by show _ = _; rw [← HM.out]; exact (mach_more HY.out hb h5 h11 hk).symm
        rw [hxop] at hpl IV
        obtain ⟨r, hr⟩ : ∃ r, (restR zs y s1).x.res = r := ⟨_, rfl⟩
        obtain ⟨xa, hxa⟩ : ∃ r, (restR zs y s1).x.a = r := ⟨_, rfl⟩
        obtain ⟨xb, hxb⟩ : ∃ r, (restR zs y s1).x.b = r := ⟨_, rfl⟩
        obtain ⟨xn, hxn⟩ : ∃ r, (restR zs y s1).x.n = r := ⟨_, rfl⟩
        obtain ⟨xt, hxt⟩ : ∃ r, (restR zs y s1).x.tags = r := ⟨_, rfl⟩
        rw [hr, hxa, hxb, hxn, hxt] at hpl IV
        rw [hpl] at HS hok
        obtain ⟨s2, hs2⟩ : ∃ s2, (restR zs y s1).s = s2 := ⟨_, rfl⟩
        rw [hs2] at hg2 hle2 HS IV
        have HB := hid hb
        have HOK := hid hok.1
        have HH5 := hid h5
        have HH11 := hid h11
        clear hpl hxop hok hr hxa hxb hxn hxt hs2 hb hnm hk hp HM HFV HNM HC
        have h5' : ¬ y = 5 := HH5.out
        have h11' : ¬ y = 11 := HH11.out
        go_wp2_with fail
        refine HD.out.mono ?_
        clear HD
        rintro e1 w1 ⟨rfl, rfl⟩
        go_wp2_with fail
        refine HO.out.mono ?_
        clear HO
        rintro e2 w2 ⟨rfl, hr2, sv2⟩
        go_wp2_with fail
        refine (FN.out w2 hr2).mono ?_
        clear FN
        rintro e3 w3 ⟨rfl, rfl⟩
        have hst2 := HI.out.st.save sv2 hkw
        have hsv2 := HI.out.sv.trans sv2
        go_wp2_with fail
        refine (FW.out w2).mono ?_
        clear FW
        rintro e4 w4 ⟨rfl, rfl⟩
        have ho2 := hst2.each o (by simp)
        obtain ⟨ga, gc, hgv, _, _⟩ := list_of_row ho2.row ho2.half.kids
        have c8 : w2.cell? ⟨gs, n * 10 + 8, none⟩ = some (.slice ga o.t.len gc) := by
          have := hst2.cell (j := 8) (by omega)
          rw [hn] at this
          rw [this]; simp [Og.cells, Ix.vals, hgv]
        have c8z := keepA c8 (.cells #[.int .i64 0, .int .i64 0, .int .u32 0, .int .u32 0, .int .i32 0, .slice none 0 0, .slice none 0 0, .slice none 0 0] 61)
        have f8 : w2.frozen? ⟨gs, n * 10 + 8, none⟩ = false := World.ownsRow.frozenAt hst2.row _
        have hrow := ho2.row
        rw [hgv] at hrow
        have R1 : RdIs w2.drew k (.slice av len cap0) s1 := hr2.below (Below.refl _ _).drew
        have V1 : Save k w w2.drew := hsv2.drew
        have R1z : RdIs (w2.alloc (.cells #[.int .i64 0, .int .i64 0, .int .u32 0, .int .u32 0, .int .i32 0, .slice none 0 0, .slice none 0 0, .slice none 0 0] 61)).drew k (.slice av len cap0) s1 := hr2.below ((Below.refl _ _).alloc (Nat.le_refl _) _).drew
        have V1z : Save k w (w2.alloc (.cells #[.int .i64 0, .int .i64 0, .int .u32 0, .int .u32 0, .int .i32 0, .slice none 0 0, .slice none 0 0, .slice none 0 0] 61)).drew := (hsv2.alloc _).drew
        have SA : Save k w2 w2.drew := (Save.refl k w2).drew
        have SB : Save k w2 (w2.alloc (.cells #[.int .i64 0, .int .i64 0, .int .u32 0, .int .u32 0, .int .i32 0, .slice none 0 0, .slice none 0 0, .slice none 0 0] 61)).drew := ((Save.refl k w2).alloc _).drew
        have HR1 := hid R1
        have HV1 := hid V1
        have HR1z := hid R1z
        have HV1z := hid V1z
        have HSA := hid SA
        have HSB := hid SB
        have HZC := hid (zero_cells w2)
        have HROW := hid hrow
        have HGV := hid hgv
        have hfew := HI.out.few
        have hgn : o.t.len < 4000000 := by omega
        have HFEW := hid hfew
        have HST := hid hst2
        have HB2 := hid (Nat.le_trans HI.out.sv.size sv2.size)
        have hlt1 : (o.t.len : Int) < (o.t.len : Int) + 1 := by omega
        have HGSL := hid hgsl
        have hgw2 : Hid (gs < w2.heap.size) := hid hst2.low.2
        have HNE : Hid (∀ q, Value.ownBlock (.slice ga o.t.len gc) = some q → q ≠ gs ∧ q < w2.heap.size ∧ w.heap.size ≤ q) := by
          refine hid fun q hq => ?_
          have hq' : q ∈ o.foot := List.mem_append_left _ (own_blk (by rw [hgv]; exact hq))
          refine ⟨?_, ho2.lt q hq', ho2.low q hq'⟩
          rintro rfl
          have := (List.nodup_cons.1 hst2.apart).1
          exact this (List.mem_flatMap.2 ⟨o, by simp, hq'⟩)
        clear R1 V1 R1z V1z SA SB hrow hgv hfew hst2 ho2 hgsl
        go_wp2
        go_region_law
          (first
            | (refine step_append_zero rfl (.tmp 24) (.tmp 29) rfl (base := w.heap.size) (t := o.t) (g := w5.heap.size) rfl rfl (zero_cells w5) (touch_row HRW5.out ((Touch.refl (fun _ => False) w5).alloc _) (fun _ _ h => h)) hgn (by have := HB2.out; have := HSV.out.size; simp; omega) ?_
               intro g' cap' w6 hown hgrow hat hlt
               have ht6 := hid ((Touch.refl (fun j => Value.ownBlock (.slice ga o.t.len gc) = some j) w5).alloc _ |>.trans (Touch.of_grown hgrow))
               have hat6 : Hid (Value.ownBlock (.slice ga o.t.len gc) = some g' ∨ w5.heap.size ≤ g') := hid (by rcases hat with h | h; exact .inl h; exact .inr (by simp at h; omega))
               have hown6 := hid hown
               obtain ⟨⟨k0, k1, k2, k3, k4, k5, k6, k7⟩, q0, q1, q2, q3, q4, q5, q6, q7⟩ := zero_at hown
               have f86 : w6.frozen? ⟨gs, n * 10 + 8, none⟩ = false := (World.frozen?_of_block (w := w5) (ht6.out.block gs (by have := hgw2.out; have := HSV.out.size; omega) (fun h => (HNE.out _ h).1 rfl))).trans f85
               have c86 : w6.cell? ⟨gs, n * 10 + 8, none⟩ = some (.slice ga o.t.len gc) := ht6.out.cell (fun h => (HNE.out _ h).1 rfl) c85
               have hgg : g' ≠ gs := by rcases hat6.out with h | h; exact (HNE.out _ h).1; (have := hgw2.out; have := HSV.out.size; omega)
               clear hat hown hgrow)
            | (refine step_append_zero rfl (.tmp 24) (.tmp 29) rfl (base := w.heap.size) (t := o.t) (g := w2.heap.size) rfl rfl hz5.out HRW5.out hgn (by have := HB2.out; have := HSV.out.size; omega) ?_
               intro g' cap' w6 hown hgrow hat hlt
               have ht6 := hid (Touch.of_grown hgrow)
               have hat6 : Hid (Value.ownBlock (.slice ga o.t.len gc) = some g' ∨ w5.heap.size ≤ g') := hid (by rcases hat with h | h; exact .inl h; exact .inr (by omega))
               have hown6 := hid hown
               obtain ⟨⟨k0, k1, k2, k3, k4, k5, k6, k7⟩, q0, q1, q2, q3, q4, q5, q6, q7⟩ := zero_at hown
               have f86 : w6.frozen? ⟨gs, n * 10 + 8, none⟩ = false := (World.frozen?_of_block (w := w5) (ht6.out.block gs (by have := hgw2.out; have := HSV.out.size; omega) (fun h => (HNE.out _ h).1 rfl))).trans f85
               have c86 : w6.cell? ⟨gs, n * 10 + 8, none⟩ = some (.slice ga o.t.len gc) := ht6.out.cell (fun h => (HNE.out _ h).1 rfl) c85
               have hgg : g' ≠ gs := by rcases hat6.out with h | h; exact (HNE.out _ h).1; (have := hgw2.out; have := HSV.out.size; omega)
               clear hat hown hgrow)
            | (go_simp; go_at_call 113
               first
                 | with_reducible refine (IV.out w2.drew HR1.out HV1.out).mono ?_
                 | with_reducible refine (IV.out (w2.alloc (.cells #[.int .i64 0, .int .i64 0, .int .u32 0, .int .u32 0, .int .i32 0, .slice none 0 0, .slice none 0 0, .slice none 0 0] 61)).drew HR1z.out HV1z.out).mono ?_
               rintro e5 w5 ⟨ta, tc, rfl, hto, hr5, sv5⟩
               have SV5 : Save k w2 w5 := by first | exact HSA.out.trans sv5 | exact HSB.out.trans sv5
               have HTO := hid (hto.mono (base' := w2.heap.size) (by simp))
               have HR5 := hid hr5
               have HSV := hid SV5
               have c85 : w5.cell? ⟨gs, n * 10 + 8, none⟩ = some (.slice ga o.t.len gc) := SV5.cell (p := ⟨gs, n * 10 + 8, none⟩) hgsk c8
               have c85z := keepA c85 (.cells #[.int .i64 0, .int .i64 0, .int .u32 0, .int .u32 0, .int .i32 0, .slice none 0 0, .slice none 0 0, .slice none 0 0] 61)
               have f85 : w5.frozen? ⟨gs, n * 10 + 8, none⟩ = false := SV5.frozen (p := ⟨gs, n * 10 + 8, none⟩) hgw2.out hgsk f8
               have HRW5 := hid (touch_row HROW.out (Touch.of_save SV5) (fun q hq => by have := HNE.out q hq; omega))
               try have hz5 : Hid (∀ j u, zeroX.vals.toList[j]? = some u → w5.cell? ⟨w2.heap.size, j, none⟩ = some u) := hid (fun j u hj => sv5.cell (p := ⟨w2.heap.size, j, none⟩) (by have := HB2.out; show w2.heap.size ≠ k; omega) (HZC.out j u hj))
               clear hto hr5 sv5 SV5))
        all_goals go_wp2
        all_goals go_roundw
        all_goals
          have hIA : Itemed w.heap.size gs (os.length * 10 + 8) ⟨y, r, xa, xb, xn, xt, ta, tc, none, 0, 0, none, 0, 0⟩ ga gc o.t w5 ((store8 w6 g' (o.t.len * 8) ⟨y, r, xa, xb, xn, xt, ta, tc, none, 0, 0, none, 0, 0⟩).setCell ⟨gs, n * 10 + 8, none⟩ (.slice (some ⟨g', 0, none⟩) (o.t.len + 1) cap')) := ⟨w6, g', cap', ht6.out, hown6.out, hat6.out, by rw [hn]⟩
          obtain ⟨hr7, o', hL⟩ := linv_item HST.out HSV.out hsv2 hkw HR5.out hg2 hc0 hc9 HFEW.out hdp HGV.out HTO.out HOK.out (show rem zs s2 < m by omega) HS.out hIA
        all_goals first
          | (refine ⟨os, o', gs, cap, n, cnt + 1, s2, rfl, rfl, hn, hid ?_⟩
             first
               | (rw [store8_A w6 g' (o.t.len * 8) gs (n * 10 + 8) ⟨y, r, xa, xb, xn, xt, ta, tc, none, 0, 0, none, 0, 0⟩ (.slice (some ⟨g', 0, none⟩) (o.t.len + 1) cap')]; exact hL)
               | (rw [store8_B w6 g' (o.t.len * 8) gs (n * 10 + 8) ⟨y, r, xa, xb, xn, xt, ta, tc, none, 0, 0, none, 0, 0⟩ (.slice (some ⟨g', 0, none⟩) (o.t.len + 1) cap') hgg]; exact hL))
          | (have h9 := HLS.out HB.out
             first
               | (rw [store8_A w6 g' (o.t.len * 8) gs (n * 10 + 8) ⟨y, r, xa, xb, xn, xt, ta, tc, none, 0, 0, none, 0, 0⟩ (.slice (some ⟨g', 0, none⟩) (o.t.len + 1) cap'), remW_of hr7 HL.out, HRW.out]; omega)
               | (rw [store8_B w6 g' (o.t.len * 8) gs (n * 10 + 8) ⟨y, r, xa, xb, xn, xt, ta, tc, none, 0, 0, none, 0, 0⟩ (.slice (some ⟨g', 0, none⟩) (o.t.len + 1) cap') hgg, remW_of hr7 HL.out, HRW.out]; omega))
    · -- a fault: the loop ends
      have FY := hid (fun w' (hr : RdIs w' k (.slice av len cap0) s1) => faulty_yes k _ s1 w' hr hb)
      have HR : Hid (R = (.nil, s1)) := by show _ = _; rw [← HM.out]; exact mach_fault HY.out hb
      obtain ⟨fa, fn, fc, hfc⟩ := got_any HI.out
      have HF := hid hfc
      have HB := hid hb
      clear hfc hb HM HLS HFV HNM HC
      go_wp2_with fail
      refine HD.out.mono ?_
      clear HD
      rintro e1 w1 ⟨rfl, rfl⟩
      go_wp2_with fail
      refine HO.out.mono ?_
      clear HO
      rintro e2 w2 ⟨rfl, hr2, sv2⟩
      go_wp2_with fail
      refine (FY.out w2 hr2).mono ?_
      clear FY
      rintro e3 w3 ⟨rfl, rfl⟩
      have f8 : w2.cell? ⟨gs, 8, none⟩ = some (.slice fa fn fc) := sv2.cell (p := ⟨gs, 8, none⟩) hgsk HF.out
      go_wp2
      rw [Exit.noGoto_ret]
      go_ret
      exact ⟨fa, fn, fc, rfl, by rw [HR.out]; exact hr2, HI.out.sv.trans sv2, fun h => absurd (by rw [HR.out] at h; exact h) HB.out⟩
end Go.Proofs.YtlfflomeaplidaaDoor.Body
