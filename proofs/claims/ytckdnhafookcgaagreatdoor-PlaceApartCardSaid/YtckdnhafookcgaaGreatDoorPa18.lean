import Derived.Test.YtckdnhafookcgaaGreatDoorPa17
import Derived.Test.YtckdnhafookcgaaGreatDoorPa04
import Derived.Test.YtckdnhafookcgaaGreatDoorPa14
import Derived.Test.YtckdnhafookcgaaGreatDoorPa15
import Derived.Test.YtckdnhafookcgaaGreatDoorPa11
import Derived.LaidEqlPtr
namespace Go.Proofs.YtckdnhafookcgaaGreatDoor.Instr
end Go.Proofs.YtckdnhafookcgaaGreatDoor.Instr
namespace Go.Proofs.YtckdnhafookcgaaGreatDoor.Mod
end Go.Proofs.YtckdnhafookcgaaGreatDoor.Mod
namespace Go.Proofs.YtckdnhafookcgaaGreatDoor.Val
end Go.Proofs.YtckdnhafookcgaaGreatDoor.Val
namespace Go.Proofs.YtckdnhafookcgaaGreatDoor.Mem
end Go.Proofs.YtckdnhafookcgaaGreatDoor.Mem
namespace Go.Proofs.YtckdnhafookcgaaGreatDoor.Kind
end Go.Proofs.YtckdnhafookcgaaGreatDoor.Kind
namespace Go.Proofs.YtckdnhafookcgaaGreatDoor.Pl
open Go.RowKit Go.Shelf Go.Proofs.YtckdnhafookcgaaGreatDoor.Instr Go.Proofs.YtckdnhafookcgaaGreatDoor.Mod Go.Proofs.YtckdnhafookcgaaGreatDoor.Val
open Go.Proofs.YtckdnhafookcgaaGreatDoor.Mem (MemIs MemAt Wrote Keep isOwn Mm)
open Go.Proofs.YtckdnhafookcgaaGreatDoor.Kind (okLim codeLim)
set_option linter.unusedVariables false

/-! What is told speaks of what the module holds alone. -/
theorem layed_bare : ∀ (l r : List El) (tb : List (Option Int)), l.map El.bare = r.map El.bare → elemsP l tb = elemsP r tb
  | [], r, tb, h => by cases r with
    | nil => rfl
    | cons x r => simp at h
  | e :: l, r, tb, h => by
    cases r with
    | nil => simp at h
    | cons x r =>
      simp only [List.map_cons, List.cons.injEq] at h
      obtain ⟨h1, h2⟩ := h
      have hc : constP e.l.t = constP x.l.t := by
        have : e.l.t.bare = x.l.t.bare := congrArg (fun q => q.l.t) h1
        rw [← constP_bare, this, constP_bare]
      have hf : e.fs = x.fs := congrArg (fun q => q.fs) h1
      unfold elemsP
      rw [hc, hf, layed_bare l r _ h2]
theorem datas_bare : ∀ (l r : List Da) (mm : Mm), l.map Da.bare = r.map Da.bare → datasP l mm = datasP r mm
  | [], r, tb, h => by cases r with
    | nil => rfl
    | cons x r => simp at h
  | e :: l, r, tb, h => by
    cases r with
    | nil => simp at h
    | cons x r =>
      simp only [List.map_cons, List.cons.injEq] at h
      obtain ⟨h1, h2⟩ := h
      have hc : constP e.l.t = constP x.l.t := by
        have : e.l.t.bare = x.l.t.bare := congrArg (fun q => q.l.t) h1
        rw [← constP_bare, this, constP_bare]
      have hf : e.bs = x.bs := congrArg (fun q => q.bs) h1
      unfold datasP
      rw [hc, hf, datas_bare l r _ h2]
theorem globs_bare {a b : Md} (h : b.bare = a.bare) : globs b = globs a := by
  have S := (same_iff.1 h).gl
  unfold globs
  have e : ∀ l : List Gl, l.map (fun g => (constP g.l.t).1) = (l.map Gl.bare).map (fun g => (constP g.l.t).1) := fun l => by
    rw [List.map_map]
    refine List.map_congr_left fun g _ => ?_
    show (constP g.l.t).1 = (constP g.l.t.bare).1
    rw [constP_bare]
  exact (e b.gl).trans ((congrArg _ S).trans (e a.gl).symm)
theorem tabP_bare {a b : Md} (h : b.bare = a.bare) : tabP b = tabP a := by
  have S := same_iff.1 h
  unfold tabP
  rw [S.tb, show tab0 b = tab0 a by unfold tab0; rw [S.tb]]
  split
  · rfl
  · exact layed_bare _ _ _ S.el
theorem memP_bare {a b : Md} (h : b.bare = a.bare) : memP b = memP a := by
  have S := same_iff.1 h
  rw [memP_eq, memP_eq, S.me]
  cases a.me with
  | nil => rfl
  | cons l r => simp only [memL, datas_bare _ _ _ S.da]
theorem few_bare {a b : Md} (h : b.bare = a.bare) (f : a.few) : b.few := by
  have S := same_iff.1 h
  have hl := f.lens
  have l3 := map_lenS S.fu
  have l6 := map_lenS S.gl
  have l8 := map_lenS S.el
  have l9 := map_lenS S.da
  refine ⟨fits_coreS h f.fit, fun l hl => ?_, by rw [S.ty, S.im, S.tb, S.me, S.ex]; omega⟩
  obtain ⟨r, hr, e⟩ := codes_coreS h hl
  have := f.cs r hr
  rw [← cbare_count, e, cbare_count] at this
  exact this
/-- What a valid module has. -/
structure Sound (m : Md) : Prop where
  tb : ∀ t ∈ m.tb, 0 ≤ t.n ∧ t.n < 4294967296
  me : ∀ t ∈ m.me, LimOk t
  hv : sumB m.da ≤ 1048576
theorem wrong_zero {m : Md} (h : (wrongP m).e = 0) : m.check = 0 := by
  unfold wrongP at h
  by_cases hc : m.check = 0
  · exact hc
  · rw [if_neg hc] at h
    exact absurd h hc
theorem sound_of {m : Md} (h : m.check = 0) (hr : ∀ l ∈ m.tb ++ m.me, 0 ≤ l.n) : Sound m := by
  unfold Md.check at h
  split at h; · omega
  split at h; · omega
  split at h; · omega
  split at h; · omega
  split at h; · omega
  split at h
  · omega
  rename_i h1 h2 h3 h4 h5 h6
  have hw : m.wrong = false := by simpa using h6
  unfold Md.wrong at hw
  simp only [Bool.or_eq_false_iff] at hw
  refine ⟨fun t ht => ?_, fun t ht => ?_, ?_⟩
  · have hb : beyond 1048576 t = false := by
      have := hw.1.1.2
      rw [List.any_eq_false] at this
      simpa using this t ht
    have h0 := hr t (List.mem_append_left _ ht)
    unfold beyond okLim at hb
    simp at hb
    omega
  · have hb : beyond 65536 t = false := by
      have := hw.1.2
      rw [List.any_eq_false] at this
      simpa using this t ht
    have h0 := hr t (List.mem_append_right _ ht)
    unfold beyond at hb
    have hok : okLim t.n t.x t.c 65536 = true := by simpa using hb
    refine ⟨?_, ?_, hok⟩
    · unfold okLim at hok
      simp at hok
      omega
    · unfold okLim at hok
      cases hc : t.c <;> rw [hc] at hok <;> simp at hok <;> omega
  · have : m.heavy = false := by simpa using h4
    unfold Md.heavy at this
    simpa using this
theorem sumB_map : ∀ l : List Da, sumB (l.map Da.bare) = sumB l
  | [] => rfl
  | d :: r => by simp only [List.map_cons, sumB, sumB_map r]; rfl
theorem sumB_bare {a b : Md} (h : b.bare = a.bare) : sumB b.da = sumB a.da := by rw [← sumB_map, (same_iff.1 h).da, sumB_map]
theorem CellO.mono {lo hi lo' : Nat} {w : World} (g : lo' ≤ lo) {k : Kd} {v : Value} (h : CellO lo hi w k v) : CellO lo' hi w k v := by
  cases k with
  | i64 => exact h
  | u32 => exact h
  | bool => exact h
  | str => exact h
  | lst => obtain ⟨a, n, c, t, h1, h2, h3⟩ := h; exact ⟨a, n, c, t, h1, h2.mono g (Nat.le_refl _), h3⟩
  | tags => obtain ⟨a, n, c, zs, h1, h2, h3, h4, h5⟩ := h; exact ⟨a, n, c, zs, h1, h2, h3.mono g (Nat.le_refl _), h4, h5⟩
  | room => obtain ⟨a, n, c, h1, h2⟩ := h; exact ⟨a, n, c, h1, h2.mono g (Nat.le_refl _)⟩
theorem RowO.mono {lo hi lo' n : Nat} {w : World} (g : lo' ≤ lo) {ks : List Kd} {a : Option Addr} (h : RowO lo hi w ks a n) : RowO lo' hi w ks a n := by
  rcases h with h | ⟨b, off, h1, h2, h3⟩
  · exact .inl h
  · exact .inr ⟨b, off, h1, h2.mono g (Nat.le_refl _), fun i hi j k hk => by obtain ⟨v, h4, h5⟩ := h3 i hi j k hk; exact ⟨v, h4, CellO.mono g h5⟩⟩
theorem ModO.mono {lo hi lo' : Nat} {w : World} {m : Md} (g : lo' ≤ lo) (h : ModO lo hi w m) : ModO lo' hi w m :=
  ⟨RowO.mono g h.ty, RowO.mono g h.im, RowO.mono g h.fu, RowO.mono g h.gl, RowO.mono g h.ex, RowO.mono g h.el, RowO.mono g h.da⟩
theorem TabIs.below {lo hi : Nat} {w w' : World} {v : Value} {tb : List (Option Int)} (h : TabIs lo hi w v tb) (hh : hi ≤ w.heap.size) (hb : Below w.heap.size w w') : TabIs lo hi w' v tb := by
  rcases h with h1 | ⟨T, h1, h2, h3⟩
  · exact .inl h1
  · exact .inr ⟨T, h1, h2, h3.below (hb.mono hh) (hb.block _ h3.lt)⟩
theorem fieldErr (a b c d : Int) (w : World) : (Instr.field 80 (.agg #[.int .i64 a, .int .i64 b, .int .i64 c, .int .i64 d]) 0).run Tryz.prog w = .ok (.int .i64 a) w := by
  have u4 := run_underlying (P := Tryz.prog) Tryz.underlying38
  unfold Instr.field
  simp [run_underlying Tryz.underlying80, part, isAgg, asAgg, u4]
theorem held_out11 {w w1 : World} {p0 p1 p2 p3 p4 p5 p6 p7 p8 p9 p10 : Addr} {v0 v1 v2 v3 v4 v5 v6 v7 v8 v9 v10 : Value} (h : Below w.heap.size w w1 ∧ w1.cell? p0 = some v0 ∧ w1.cell? p1 = some v1 ∧ w1.cell? p2 = some v2 ∧ w1.cell? p3 = some v3 ∧ w1.cell? p4 = some v4 ∧ w1.cell? p5 = some v5 ∧ w1.cell? p6 = some v6 ∧ w1.cell? p7 = some v7 ∧ w1.cell? p8 = some v8 ∧ w1.cell? p9 = some v9 ∧ w1.cell? p10 = some v10) : Below w.heap.size w w1 := h.1
theorem held_keep11 {w w1 w2 : World} {p0 p1 p2 p3 p4 p5 p6 p7 p8 p9 p10 : Addr} {v0 v1 v2 v3 v4 v5 v6 v7 v8 v9 v10 : Value} (h : Below w.heap.size w w1 ∧ w1.cell? p0 = some v0 ∧ w1.cell? p1 = some v1 ∧ w1.cell? p2 = some v2 ∧ w1.cell? p3 = some v3 ∧ w1.cell? p4 = some v4 ∧ w1.cell? p5 = some v5 ∧ w1.cell? p6 = some v6 ∧ w1.cell? p7 = some v7 ∧ w1.cell? p8 = some v8 ∧ w1.cell? p9 = some v9 ∧ w1.cell? p10 = some v10) (hb : Below w1.heap.size w1 w2) :
    Below w.heap.size w w2 ∧ w2.cell? p0 = some v0 ∧ w2.cell? p1 = some v1 ∧ w2.cell? p2 = some v2 ∧ w2.cell? p3 = some v3 ∧ w2.cell? p4 = some v4 ∧ w2.cell? p5 = some v5 ∧ w2.cell? p6 = some v6 ∧ w2.cell? p7 = some v7 ∧ w2.cell? p8 = some v8 ∧ w2.cell? p9 = some v9 ∧ w2.cell? p10 = some v10 :=
  ⟨thenB h.1 hb, Go.Proofs.YtckdnhafookcgaaGreatDoor.keep hb h.2.1, Go.Proofs.YtckdnhafookcgaaGreatDoor.keep hb h.2.2.1, Go.Proofs.YtckdnhafookcgaaGreatDoor.keep hb h.2.2.2.1, Go.Proofs.YtckdnhafookcgaaGreatDoor.keep hb h.2.2.2.2.1, Go.Proofs.YtckdnhafookcgaaGreatDoor.keep hb h.2.2.2.2.2.1, Go.Proofs.YtckdnhafookcgaaGreatDoor.keep hb h.2.2.2.2.2.2.1, Go.Proofs.YtckdnhafookcgaaGreatDoor.keep hb h.2.2.2.2.2.2.2.1, Go.Proofs.YtckdnhafookcgaaGreatDoor.keep hb h.2.2.2.2.2.2.2.2.1, Go.Proofs.YtckdnhafookcgaaGreatDoor.keep hb h.2.2.2.2.2.2.2.2.2.1, Go.Proofs.YtckdnhafookcgaaGreatDoor.keep hb h.2.2.2.2.2.2.2.2.2.2.1, Go.Proofs.YtckdnhafookcgaaGreatDoor.keep hb h.2.2.2.2.2.2.2.2.2.2.2⟩
theorem TabIs.slice {lo hi : Nat} {w : World} {v : Value} {tb : List (Option Int)} (h : TabIs lo hi w v tb) : ∃ a n c, v = .slice a n c := by
  rcases h with ⟨h, _⟩ | ⟨T, h, _⟩
  · exact ⟨_, _, _, h⟩
  · exact ⟨_, _, _, h⟩
theorem MemVal.ptr {hi K : Nat} {w : World} {v : Value} : ∀ {o : Option Mm}, MemVal hi K w v o → ∃ q, v = .pointer q
  | none, h => ⟨_, h⟩
  | some x, ⟨p, h1, h2⟩ => ⟨_, h1⟩
theorem pl_end {lo hi H gb K n ng : Nat} {w : World} {d : Md} {tv mv : Value} {x : Pc} (hn : x.hs.length = n) (hng : x.gs.length = ng) (lh : lo ≤ hi) (hp : hi ≤ w.heap.size) (hH : lo ≤ H) (Hh : H < hi) (hg : hi ≤ gb) (at_ : ModAt hi w d) (own : ModO lo hi w d) (fit : d.fits)
    (hs : Words .i64 3 w H x.hs) (gs : Words .u32 28 w gb x.gs) (tb : TabIs lo hi w tv x.tb) (me : MemVal hi K w mv x.me) (ls : x.hs.length ≤ 1000000 ∧ x.gs.length ≤ 1000000 ∧ x.tb.length ≤ 4294967295) (gl : x.gs.length = d.gl.length) :
    PlAt lo hi (w.alloc (.cells #[.pointer (some ⟨w.heap.size, 0, none⟩), .slice d.ty'.a d.ty.length d.ty'.c, .slice d.im'.a d.im.length d.im'.c, .slice d.fu'.a d.fu.length d.fu'.c, .slice d.tb'.a d.tb.length d.tb'.c, .slice d.me'.a d.me.length d.me'.c, .slice d.gl'.a d.gl.length d.gl'.c, .slice d.ex'.a d.ex.length d.ex'.c, .bool d.st, .int .u32 d.sn, .slice d.el'.a d.el.length d.el'.c, .slice d.da'.a d.da.length d.da'.c, .slice (some ⟨H, 0, none⟩) n n, .slice (some ⟨gb, 0, none⟩) ng ng, tv, mv] 63)) w.heap.size H gb K d tv mv x ∧ Below w.heap.size w (w.alloc (.cells #[.pointer (some ⟨w.heap.size, 0, none⟩), .slice d.ty'.a d.ty.length d.ty'.c, .slice d.im'.a d.im.length d.im'.c, .slice d.fu'.a d.fu.length d.fu'.c, .slice d.tb'.a d.tb.length d.tb'.c, .slice d.me'.a d.me.length d.me'.c, .slice d.gl'.a d.gl.length d.gl'.c, .slice d.ex'.a d.ex.length d.ex'.c, .bool d.st, .int .u32 d.sn, .slice d.el'.a d.el.length d.el'.c, .slice d.da'.a d.da.length d.da'.c, .slice (some ⟨H, 0, none⟩) n n, .slice (some ⟨gb, 0, none⟩) ng ng, tv, mv] 63)) := by
  have hb : Below w.heap.size w (w.alloc (.cells #[.pointer (some ⟨w.heap.size, 0, none⟩), .slice d.ty'.a d.ty.length d.ty'.c, .slice d.im'.a d.im.length d.im'.c, .slice d.fu'.a d.fu.length d.fu'.c, .slice d.tb'.a d.tb.length d.tb'.c, .slice d.me'.a d.me.length d.me'.c, .slice d.gl'.a d.gl.length d.gl'.c, .slice d.ex'.a d.ex.length d.ex'.c, .bool d.st, .int .u32 d.sn, .slice d.el'.a d.el.length d.el'.c, .slice d.da'.a d.da.length d.da'.c, .slice (some ⟨H, 0, none⟩) n n, .slice (some ⟨gb, 0, none⟩) ng ng, tv, mv] 63)) := thenA (Below.refl _ _) _
  have h0 := (MapKept.heap_alloc w (.cells #[.pointer (some ⟨w.heap.size, 0, none⟩), .slice d.ty'.a d.ty.length d.ty'.c, .slice d.im'.a d.im.length d.im'.c, .slice d.fu'.a d.fu.length d.fu'.c, .slice d.tb'.a d.tb.length d.tb'.c, .slice d.me'.a d.me.length d.me'.c, .slice d.gl'.a d.gl.length d.gl'.c, .slice d.ex'.a d.ex.length d.ex'.c, .bool d.st, .int .u32 d.sn, .slice d.el'.a d.el.length d.el'.c, .slice d.da'.a d.da.length d.da'.c, .slice (some ⟨H, 0, none⟩) n n, .slice (some ⟨gb, 0, none⟩) ng ng, tv, mv] 63)).1
  have hhi : Below hi w (w.alloc (.cells #[.pointer (some ⟨w.heap.size, 0, none⟩), .slice d.ty'.a d.ty.length d.ty'.c, .slice d.im'.a d.im.length d.im'.c, .slice d.fu'.a d.fu.length d.fu'.c, .slice d.tb'.a d.tb.length d.tb'.c, .slice d.me'.a d.me.length d.me'.c, .slice d.gl'.a d.gl.length d.gl'.c, .slice d.ex'.a d.ex.length d.ex'.c, .bool d.st, .int .u32 d.sn, .slice d.el'.a d.el.length d.el'.c, .slice d.da'.a d.da.length d.da'.c, .slice (some ⟨H, 0, none⟩) n n, .slice (some ⟨gb, 0, none⟩) ng ng, tv, mv] 63)) := hb.mono hp
  subst hn hng
  exact ⟨⟨h0, lh, hp, hH, Hh, hg, at_.below hhi, own.frameC (SameC.of_below hhi (Nat.le_refl _)), fit, hs.block (hb.block _ hs.lt), gs.block (hb.block _ gs.lt), tb.below hp hb, me.below hb, ls, gl⟩, hb⟩
theorem tabP_length {m : Md} {t : List (Option Int)} (h : tabP m = some t) (hr : ∀ l ∈ m.tb, 0 ≤ l.n ∧ l.n < 4294967296) : t.length ≤ 4294967295 := by
  unfold tabP at h
  split at h
  · cases h; simp
  · rename_i h0
    rw [elemsP_length _ _ _ h]
    have h0n : 0 < m.tb.length := by omega
    rw [show tab0 m = List.replicate (m.tb[0]).n.toNat none from tab0_at m.tb h0n]
    have := hr _ (List.getElem_mem h0n)
    simp; omega
theorem globs_len (m : Md) : (globs m).length = m.gl.length := by simp [globs]
/-- What New asks of a module. -/
structure NewIn (w : World) (m : Md) : Prop where
  at_ : ModAt w.heap.size w m
  few : m.few
  rng : m.ranged
  sm : m.small 5000
def NewQ (m : Md) (w : World) (e : Ending) (w' : World) : Prop :=
  ((∃ er, er ≠ 0 ∧ newP m = (er, ⟨[], [], [], none⟩) ∧ e = .returned (.tuple #[.pointer none, .int .i64 er])) ∨
   ∃ x hi p H gb d tv mv, newP m = (0, x) ∧ e = .returned (.tuple #[.pointer (some ⟨p, 0, none⟩), .int .i64 0]) ∧ d.bare = m.bare ∧ PlAt w.heap.size hi w' p H gb 1048576 d tv mv x) ∧ Below w.heap.size w w'
theorem newP_wrong {m : Md} (h : (wrongP m).e ≠ 0) : newP m = (2, ⟨[], [], [], none⟩) := by unfold newP; rw [if_pos h]
theorem newP_host {m : Md} (h : (wrongP m).e = 0) (h2 : hostsOk m = false) : newP m = (230, ⟨[], [], [], none⟩) := by unfold newP; rw [if_neg (by omega), if_pos h2]
theorem newP_tab {m : Md} (h : (wrongP m).e = 0) (h2 : hostsOk m = true) (h3 : tabP m = none) : newP m = (220, ⟨[], [], [], none⟩) := by unfold newP; rw [if_neg (by omega), if_neg (by rw [h2]; decide), h3]
theorem newP_mem {m : Md} (h : (wrongP m).e = 0) (h2 : hostsOk m = true) {t : List (Option Int)} (h3 : tabP m = some t) (h4 : memP m = none) : newP m = (220, ⟨[], [], [], none⟩) := by unfold newP; rw [if_neg (by omega), if_neg (by rw [h2]; decide), h3, h4]
theorem newP_ok {m : Md} (h : (wrongP m).e = 0) (h2 : hostsOk m = true) {t : List (Option Int)} (h3 : tabP m = some t) {o : Option Mm} (h4 : memP m = some o) : newP m = (0, ⟨hostsL m, globs m, t, o⟩) := by unfold newP; rw [if_neg (by omega), if_neg (by rw [h2]; decide), h3, h4]
set_option maxRecDepth 100000 in
set_option maxHeartbeats 8000000 in
theorem New_any (m : Md) (w : World) (hi : NewIn w m) (hT : Tb w) : Calls Tryz.prog 14 #[.agg m.v] w (NewQ m w) := by
  have hb0 := (Below.refl w.heap.size w).alloc (Nat.le_refl _) (.cells m.v 32)
  have HI := hid hi
  have HT := hid hT
  have HB := hid hb0
  have HX := hid (BoxAt.made w m.v 32)
  have C1 := hid (fun W (hm : ModAt W.heap.size W m) (hT : Tb W) => Check_m m W hm hi.few ⟨hi.rng.ei, hi.rng.ef, hi.rng.sn⟩ hT.nt hT.ut hT.ar)
  have C2 := hid (fun W (hm : ModAt W.heap.size W m) => hostsOf_any m W hm hi.few)
  have C3 := hid (fun W (hm : ModAt W.heap.size W m) => (show Calls Tryz.prog 44 #[.agg m.v] W fun e w' => ∃ d : Md, e = .returned (.agg #[.slice d.ty'.a d.ty.length d.ty'.c, .slice d.im'.a d.im.length d.im'.c, .slice d.fu'.a d.fu.length d.fu'.c, .slice d.tb'.a d.tb.length d.tb'.c, .slice d.me'.a d.me.length d.me'.c, .slice d.gl'.a d.gl.length d.gl'.c, .slice d.ex'.a d.ex.length d.ex'.c, .bool d.st, .int .u32 d.sn, .slice d.el'.a d.el.length d.el'.c, .slice d.da'.a d.da.length d.da'.c]) ∧ OwnM W.heap.size w' m d ∧ Below W.heap.size W w' from Copy_own m W (inp_core rfl hi.sm hi.few.fit hm)))
  unfold CheckP at C1
  unfold HostsQ at C2
  unfold NewQ
  obtain ⟨n, hn⟩ : ∃ n, m.im.length = n := ⟨_, rfl⟩
  have HN := hid hn
  unfold Md.v at HX HB C1 C2 C3 ⊢
  rw [hn] at HX HB C1 C2 C3 ⊢
  clear hi hT hb0 hn
  obtain ⟨W0, hW0⟩ : ∃ W0, W0 = w.alloc (.cells #[.slice m.ty'.a m.ty.length m.ty'.c, .slice m.im'.a n m.im'.c, .slice m.fu'.a m.fu.length m.fu'.c, .slice m.tb'.a m.tb.length m.tb'.c, .slice m.me'.a m.me.length m.me'.c, .slice m.gl'.a m.gl.length m.gl'.c, .slice m.ex'.a m.ex.length m.ex'.c, .bool m.st, .int .u32 m.sn, .slice m.el'.a m.el.length m.el'.c, .slice m.da'.a m.da.length m.da'.c] 32) := ⟨_, rfl⟩
  rw [← hW0] at HX HB
  have HW0 := hid hW0
  clear hW0
  go_enter Tryz.func14, Tryz.ntmps14
  go_upto_region 1 with fail
  rw [← HW0.out]
  clear HW0
  obtain ⟨n0, n1, n2, n3, n4, n5, n6, n7, n8, n9, n10⟩ := BoxAt.mod HX.out
  have CC1 := hid (C1.out W0 ((HI.out.at_.below HB.out).more HB.out.size) (HT.out.on HB.out))
  obtain ⟨⟨we, wsec, wi, wa⟩, hwr⟩ : ∃ q, wrongP m = q := ⟨_, rfl⟩
  rw [hwr] at CC1
  have HWR := hid (show (wrongP m).e = we by rw [hwr])
  simp only [Wr.v] at CC1
  clear C1 hwr
  have qf := fieldErr
  go_wp2_with fail
  refine CC1.out.mono ?_
  rintro e w1 ⟨rfl, hb1⟩
  have HX1 := hid (HX.out.keep hb1)
  have HB1 := hid (thenB HB.out hb1)
  clear CC1 hb1 n0 n1 n2 n3 n4 n5 n6 n7 n8 n9 n10 HX HB
  by_cases hwe : we = 0
  · subst hwe
    obtain ⟨n0, n1, n2, n3, n4, n5, n6, n7, n8, n9, n10⟩ := BoxAt.mod HX1.out
    have CC2 := hid (C2.out w1 ((HI.out.at_.below HB1.out).more HB1.out.size))
    clear C2
    go_wp2_with fail
    refine CC2.out.mono ?_
    rintro e w2 ⟨hq, hb2⟩
    have HX2 := hid (HX1.out.keep hb2)
    have HB2 := hid (thenB HB1.out hb2)
    have HS12 := hid hb2.size
    clear CC2 hb2 n0 n1 n2 n3 n4 n5 n6 n7 n8 n9 n10 HX1
    rcases hq with ⟨hok, H, rfl, hH, hhs⟩ | ⟨hno, rfl⟩
    · have HOK := hid hok
      have HH := hid (show w.heap.size ≤ H from by have := HB1.out.size; omega)
      have HHS := hid hhs
      have HHL := hid (show (hostsL m).length = n by rw [hostsL_len, HN.out])
      clear hok hH hhs
      obtain ⟨n0, n1, n2, n3, n4, n5, n6, n7, n8, n9, n10⟩ := BoxAt.mod HX2.out
      have CC3 := hid (C3.out w2 ((HI.out.at_.below HB2.out).more HB2.out.size))
      clear C3
      go_wp2_with fail
      refine CC3.out.mono ?_
      rintro e w3 ⟨d, rfl, hd, hb3⟩
      have hbr := hd.bare
      have hfx := hd.facts HI.out.few.fit HI.out.rng.ef
      have SND := hid (sound_of (wrong_zero HWR.out) HI.out.rng.n0)
      have HDM := hid hfx.1
      have HDO := hid (ModO.mono (by have := HB2.out.size; omega) hfx.2.1 : ModO w.heap.size w3.heap.size w3 d)
      have HDF := hid hfx.2.2
      have HFW := hid (few_bare hbr HI.out.few)
      have HTG := hid (fun e (he : e ∈ d.el) => TagsO.mono (by have := HB2.out.size; omega) (Nat.le_refl _) (hd.cps.el.own e he).2)
      have HDC := hid (fun x (hx : x ∈ d.da) => (⟨(hd.cps.da.own x hx).2.1.1, (hd.cps.da.own x hx).2.1.2.1⟩ : x.bs.length ≤ x.bc ∧ x.bc ≤ 9223372036854775807))
      have HDB := hid (db_core hbr HI.out.rng.db)
      have HBR := hid hbr
      have HB3 := hid (thenB HB2.out hb3)
      have HS3 := hid hb3.size
      have HHS3 := hid (HHS.out.block (hb3.block H HHS.out.lt))
      have HHL3 := hid (show H < w3.heap.size from Nat.lt_of_lt_of_le HHS.out.lt hb3.size)
      obtain ⟨hi, hhi⟩ : ∃ hi, w3.heap.size = hi := ⟨_, rfl⟩
      have HHI := hid hhi
      have HX3 := hid (BoxAt.made w3 d.v 32)
      have HB4 := hid (belowAlloc w3 (.cells d.v 32))
      have CT := hid (fun W (hm : ModAt W.heap.size W d) hT hh ho => tableOf_any w.heap.size hi d W hm HFW.out hT hh ho (by rw [(same_iff.1 hbr).tb]; exact SND.out.tb))
      have CM := hid (fun W (hm : ModAt W.heap.size W d) hT hh => memoryOf_any hi d W hm HFW.out hT hh (by rw [(same_iff.1 hbr).me]; exact SND.out.me) HDB.out HDC.out (by rw [sumB_bare hbr]; exact SND.out.hv))
      have CG := hid (fun W (hm : ModAt W.heap.size W d) hT => globalsOf_any d W hm HFW.out hT)
      unfold TabQ at CT
      unfold MemoQ at CM
      unfold WordsQ at CG
      rw [tabP_bare hbr] at CT
      rw [memP_bare hbr] at CM
      rw [globs_bare hbr] at CG
      unfold Md.v at CT CM CG HX3 HB4
      rw [hhi] at HX3
      clear hbr hfx hd hb3 n0 n1 n2 n3 n4 n5 n6 n7 n8 n9 n10 CC3 HX2 HHS
      obtain ⟨W4, hW4⟩ : ∃ W4, W4 = w3.alloc (.cells #[.slice d.ty'.a d.ty.length d.ty'.c, .slice d.im'.a d.im.length d.im'.c, .slice d.fu'.a d.fu.length d.fu'.c, .slice d.tb'.a d.tb.length d.tb'.c, .slice d.me'.a d.me.length d.me'.c, .slice d.gl'.a d.gl.length d.gl'.c, .slice d.ex'.a d.ex.length d.ex'.c, .bool d.st, .int .u32 d.sn, .slice d.el'.a d.el.length d.el'.c, .slice d.da'.a d.da.length d.da'.c] 32) := ⟨_, rfl⟩
      rw [← hW4] at HX3 HB4
      have HW4 := hid hW4
      clear hW4 hhi
      go_upto_region 7 with fail
      rw [← HW4.out, HHI.out]
      clear HW4
      have HH4 := hid (show hi < W4.heap.size from World.block_lt_of_cell? W4 _ (HX3.out 0 _ rfl))
      obtain ⟨n0, n1, n2, n3, n4, n5, n6, n7, n8, n9, n10⟩ := BoxAt.mod HX3.out
      have hd4 : ModAt W4.heap.size W4 d := (HDM.out.below HB4.out).more HB4.out.size
      have CCT := hid (CT.out W4 hd4 (HT.out.on (thenB HB3.out HB4.out)).nt (Nat.le_of_lt HH4.out) (fun e he => TagsO.belowHi (by have := HTG.out e he; rw [HHI.out] at this; exact this) (by have := HB4.out; rw [HHI.out] at this; exact this)))
      clear hd4 CT
      go_wp2_with fail
      refine CCT.out.mono ?_
      rintro e w5 ⟨hq, hb5⟩
      have HX5 := hid (HX3.out.keep hb5)
      have HB5 := hid (thenB (thenB HB3.out HB4.out) hb5)
      have HB45 := hid (thenB HB4.out hb5)
      have HS5 := hid hb5.size
      clear CCT hb5 n0 n1 n2 n3 n4 n5 n6 n7 n8 n9 n10 HX3
      rcases hq with ⟨htn, rfl⟩ | ⟨tb, tv, htb, rfl, htis⟩
      · have HQ := hid (newP_tab HWR.out HOK.out htn)
        clear htn
        go_wp2
        go_ret2
        exact ⟨.inl ⟨220, by decide, HQ.out, rfl⟩, HB5.out⟩
      have HTB := hid htb
      have HTI := hid htis
      clear htb htis
      obtain ⟨n0, n1, n2, n3, n4, n5, n6, n7, n8, n9, n10⟩ := BoxAt.mod HX5.out
      have HD5 := hid ((HDM.out.below HB45.out).more HB45.out.size : ModAt w5.heap.size w5 d)
      have CCM := hid (CM.out w5 HD5.out (HT.out.on HB5.out).nt (by have := HH4.out; have := HS5.out; omega))
      clear CM
      go_wp2_with fail
      refine CCM.out.mono ?_
      rintro e w6 ⟨hq, hb6⟩
      have HX6 := hid (HX5.out.keep hb6)
      have HB6 := hid (thenB HB5.out hb6)
      have HB46 := hid (thenB HB45.out hb6)
      have HS6 := hid hb6.size
      have HTI6 := hid (HTI.out.below (by have := HH4.out; have := HS5.out; omega) hb6)
      clear CCM hb6 n0 n1 n2 n3 n4 n5 n6 n7 n8 n9 n10 HX5 HTI HD5
      rcases hq with ⟨hmn, rfl⟩ | ⟨o, mv, hmo, rfl, hmv⟩
      · have HQ := hid (newP_mem HWR.out HOK.out HTB.out hmn)
        clear hmn
        go_wp2
        go_ret2
        exact ⟨.inl ⟨220, by decide, HQ.out, rfl⟩, HB6.out⟩
      obtain ⟨ta, tn, tc, rfl⟩ := HTI6.out.slice
      obtain ⟨mp, rfl⟩ := hmv.ptr
      have HMO := hid hmo
      have HMV := hid hmv
      clear hmo hmv
      obtain ⟨n0, n1, n2, n3, n4, n5, n6, n7, n8, n9, n10⟩ := BoxAt.mod HX6.out
      have HD6 := hid ((HDM.out.below HB46.out).more HB46.out.size : ModAt w6.heap.size w6 d)
      have CCG := hid (fun (W : World) (h : Below w6.heap.size w6 W) => CG.out W (HD6.out.on h) ((HT.out.on HB6.out).on h).nt)
      clear CG
      have hS0 : Below w6.heap.size w6 w6.drew ∧ w6.drew.cell? ⟨hi, 0, none⟩ = some (.slice d.ty'.a d.ty.length d.ty'.c) ∧ w6.drew.cell? ⟨hi, 1, none⟩ = some (.slice d.im'.a d.im.length d.im'.c) ∧ w6.drew.cell? ⟨hi, 2, none⟩ = some (.slice d.fu'.a d.fu.length d.fu'.c) ∧ w6.drew.cell? ⟨hi, 3, none⟩ = some (.slice d.tb'.a d.tb.length d.tb'.c) ∧ w6.drew.cell? ⟨hi, 4, none⟩ = some (.slice d.me'.a d.me.length d.me'.c) ∧ w6.drew.cell? ⟨hi, 5, none⟩ = some (.slice d.gl'.a d.gl.length d.gl'.c) ∧ w6.drew.cell? ⟨hi, 6, none⟩ = some (.slice d.ex'.a d.ex.length d.ex'.c) ∧ w6.drew.cell? ⟨hi, 7, none⟩ = some (.bool d.st) ∧ w6.drew.cell? ⟨hi, 8, none⟩ = some (.int .u32 d.sn) ∧ w6.drew.cell? ⟨hi, 9, none⟩ = some (.slice d.el'.a d.el.length d.el'.c) ∧ w6.drew.cell? ⟨hi, 10, none⟩ = some (.slice d.da'.a d.da.length d.da'.c) := ⟨(Below.refl _ _).drew, n0, n1, n2, n3, n4, n5, n6, n7, n8, n9, n10⟩
      clear HX6
      go_upto_region 13 with fail
      (go_region_held3 (fun w' => Below w6.heap.size w6 w' ∧ w'.cell? ⟨hi, 0, none⟩ = some (.slice d.ty'.a d.ty.length d.ty'.c) ∧ w'.cell? ⟨hi, 1, none⟩ = some (.slice d.im'.a d.im.length d.im'.c) ∧ w'.cell? ⟨hi, 2, none⟩ = some (.slice d.fu'.a d.fu.length d.fu'.c) ∧ w'.cell? ⟨hi, 3, none⟩ = some (.slice d.tb'.a d.tb.length d.tb'.c) ∧ w'.cell? ⟨hi, 4, none⟩ = some (.slice d.me'.a d.me.length d.me'.c) ∧ w'.cell? ⟨hi, 5, none⟩ = some (.slice d.gl'.a d.gl.length d.gl'.c) ∧ w'.cell? ⟨hi, 6, none⟩ = some (.slice d.ex'.a d.ex.length d.ex'.c) ∧ w'.cell? ⟨hi, 7, none⟩ = some (.bool d.st) ∧ w'.cell? ⟨hi, 8, none⟩ = some (.int .u32 d.sn) ∧ w'.cell? ⟨hi, 9, none⟩ = some (.slice d.el'.a d.el.length d.el'.c) ∧ w'.cell? ⟨hi, 10, none⟩ = some (.slice d.da'.a d.da.length d.da'.c))
          (first | assumption | exact held_keep11 (by assumption) (by assumption) | exact held_keep11 (by assumption) (belowAlloc _ _))
          (first | (go_at_call 47; (with_reducible refine (CCG.out _ (held_out11 (by assumption))).mono ?_); rintro e7 w7 ⟨gb, rfl, hgb, hgw, hb7⟩)))
      have HB7 := hid (show Below w6.heap.size w6 w7 from ⟨hb7.os, hb7.tape, hb7.output, hb7.size, hb7.block⟩)
      have hB37 : Below hi w3 w7 := by have := thenB HB46.out HB7.out; rw [HHI.out] at this; exact this
      have hPE := pl_end (lo := w.heap.size) (hi := hi) (H := H) (gb := gb) (K := 1048576) (n := n) (ng := (globs m).length) (w := w7) (d := d) (tv := .slice ta tn tc) (mv := .pointer mp) (x := ⟨hostsL m, globs m, tb, o⟩) HHL.out rfl (by have h1 := HB3.out.size; have h2 := HHI.out; omega) (by have h1 := hB37.size; have h2 := HHI.out; omega) HH.out (by have h1 := HHL3.out; have h2 := HHI.out; omega) (by have h1 := HH4.out; have h2 := HS5.out; have h3 := HS6.out; have h4 : w6.heap.size ≤ gb := hgb; omega) (by have := HDM.out; rw [HHI.out] at this; exact this.below hB37) (by have := HDO.out; rw [HHI.out] at this; exact this.frameC (SameC.of_below hB37 (Nat.le_refl _))) HDF.out (HHS3.out.block (hB37.block H (by have h1 := HHL3.out; have h2 := HHI.out; omega))) hgw (HTI6.out.below (by have h1 := HH4.out; have h2 := HS5.out; have h3 := HS6.out; omega) HB7.out) (HMV.out.below HB7.out) ⟨by show (hostsL m).length ≤ _; rw [HHL.out, ← HN.out]; exact HI.out.few.lens.2.1, by show (globs m).length ≤ _; rw [globs_len]; exact HI.out.few.lens.2.2.2.2.2.1, tabP_length HTB.out SND.out.tb⟩ (by show (globs m).length = _; rw [globs_len]; exact (map_lenS (same_iff.1 HBR.out).gl).symm)
      have HPE := hid hPE
      have HBW := hid (thenB (thenB HB6.out HB7.out) hPE.2)
      have HQ := hid (newP_ok HWR.out HOK.out HTB.out HMO.out)
      clear hPE hB37 hgb hgw hb7
      go_wp2
      go_ret2
      exact ⟨.inr ⟨_, hi, w7.heap.size, H, gb, d, _, _, HQ.out, rfl, HBR.out, HPE.out.1⟩, HBW.out⟩
    · have HQ := hid (newP_host HWR.out hno)
      clear hno
      go_wp2
      go_ret2
      exact ⟨.inl ⟨230, by decide, HQ.out, rfl⟩, HB2.out⟩
  · have hwb : (we == 0) = false := by simpa using hwe
    have HQ := hid (newP_wrong (m := m) (by rw [HWR.out]; exact hwe))
    clear hwe
    go_wp2
    go_ret2
    exact ⟨.inl ⟨2, by decide, HQ.out, rfl⟩, HB1.out⟩
end Go.Proofs.YtckdnhafookcgaaGreatDoor.Pl

namespace Go.Proofs.YtckdnhafookcgaaGreatDoor.Pl
open Go.RowKit Go.Shelf Go.Proofs.YtckdnhafookcgaaGreatDoor.Instr Go.Proofs.YtckdnhafookcgaaGreatDoor.Mod Go.Proofs.YtckdnhafookcgaaGreatDoor.Val
open Go.Proofs.YtckdnhafookcgaaGreatDoor.Mem (MemIs MemAt Wrote Keep isOwn Mm)
set_option linter.unusedVariables false

theorem eqp_same (a : Addr) (w : World) : (binOp .eql 37 (.pointer (some a)) (.pointer (some a))).run Tryz.prog w = .ok (.bool true) w := by
  obtain ⟨j, hj⟩ := info_of_underlying Tryz.underlying63
  exact run_eql_ptr_same w a Tryz.underlying37 hj
theorem made_yes (p : Nat) (w : World) (c : w.cell? ⟨p, 0, none⟩ = some (.pointer (some ⟨p, 0, none⟩))) :
    Calls Tryz.prog 58 #[.pointer (some ⟨p, 0, none⟩)] w fun e w' => e = .returned (.bool true) ∧ w = w' := by
  have q1 := eqp_same
  go_enter Tryz.func58, Tryz.ntmps58
  go_wp2
  go_ret
  exact ⟨rfl, rfl⟩
theorem has_ptr (a : Option Addr) (n c k : Nat) (w : World) (hn : n ≤ 4294967295) (hk : k ≤ 4294967295) :
    Calls Tryz.prog 64 #[.slice a n c, .int .u32 k] w fun e w' => e = .returned (.bool (decide (k < n))) ∧ w = w' := by
  have h1 : IntKind.u64.wrap (k : Int) = (k : Int) := by rw [IntKind.wrap_u64]; omega
  have h2 : IntKind.u64.wrap (n : Int) = (n : Int) := by rw [IntKind.wrap_u64]; omega
  go_enter Tryz.func64, Tryz.ntmps64
  go_wp2
  go_ret
  exact ⟨by simp, rfl⟩
theorem has_u32 (a : Option Addr) (n c k : Nat) (w : World) (hn : n ≤ 4294967295) (hk : k ≤ 4294967295) :
    Calls Tryz.prog 65 #[.slice a n c, .int .u32 k] w fun e w' => e = .returned (.bool (decide (k < n))) ∧ w = w' := by
  have h1 : IntKind.u64.wrap (k : Int) = (k : Int) := by rw [IntKind.wrap_u64]; omega
  have h2 : IntKind.u64.wrap (n : Int) = (n : Int) := by rw [IntKind.wrap_u64]; omega
  go_enter Tryz.func65, Tryz.ntmps65
  go_wp2
  go_ret
  exact ⟨by simp, rfl⟩
/-! What nobody made. -/
/-! What New returned. -/
section
variable {lo hi p H gb K : Nat} {w : World} {d : Md} {tv mv : Value} {x : Pc}
theorem PlAt.c (h : PlAt lo hi w p H gb K d tv mv x) : w.cell? ⟨p, 0, none⟩ = some (.pointer (some ⟨p, 0, none⟩)) ∧ w.cell? ⟨p, 12, none⟩ = some (.slice (some ⟨H, 0, none⟩) x.hs.length x.hs.length) ∧ w.cell? ⟨p, 13, none⟩ = some (.slice (some ⟨gb, 0, none⟩) x.gs.length x.gs.length) ∧ w.cell? ⟨p, 14, none⟩ = some tv ∧ w.cell? ⟨p, 15, none⟩ = some mv ∧ w.cell? ⟨p, 6, none⟩ = some (.slice d.gl'.a d.gl.length d.gl'.c) := by
  have hb := h.box
  refine ⟨?_, ?_, ?_, ?_, ?_, ?_⟩ <;> simp [World.cell?, hb]
def entryP (x : Pc) (k : Nat) : Int × Bool × Int := if k < x.tb.length then (match x.tb.getD k none with | some z => (z, true, 0) | none => (0, false, 0)) else (0, false, 220)
theorem Entry_yes (h : PlAt lo hi w p H gb K d tv mv x) (k : Nat) (hk : k ≤ 4294967295) : Calls Tryz.prog 23 #[.pointer (some ⟨p, 0, none⟩), .int .u32 k] w fun e w' => e = .returned (.tuple #[.int .u32 (entryP x k).1, .bool (entryP x k).2.1, .int .i64 (entryP x k).2.2]) ∧ w = w' := by
  obtain ⟨c0, c12, c13, c14, c15, c6⟩ := h.c
  have C := hid (made_yes p w c0)
  have hl := h.ls.2.2
  unfold entryP
  rcases h.tb with ⟨rfl, h2⟩ | ⟨T, rfl, hT, htab⟩
  · have C2 := hid (has_ptr none 0 0 k w (by omega) hk)
    rw [h2]
    simp only [List.length_nil, Nat.not_lt_zero, if_false]
    rw [decide_eq_false (Nat.not_lt_zero k)] at C2
    clear h h2 hl
    go_enter Tryz.func23, Tryz.ntmps23
    go_wp2_with fail
    refine C.out.mono ?_
    rintro e w1 ⟨rfl, rfl⟩
    go_wp2_with fail
    refine C2.out.mono ?_
    rintro e w1 ⟨rfl, rfl⟩
    go_wp2
    go_ret3
    exact ⟨rfl, rfl⟩
  · have C2 := hid (has_ptr (some ⟨T, 0, none⟩) x.tb.length x.tb.length k w hl hk)
    by_cases hkn : k < x.tb.length
    · obtain ⟨v, hv, hp⟩ := htab.cell hkn
      rw [decide_eq_true hkn] at C2
      rw [if_pos hkn]
      generalize x.tb.getD k none = o at *
      generalize x.tb.length = n at *
      have hki : (k : Int) < (n : Int) := by omega
      cases o with
      | none =>
        simp only [PtrO] at hp
        subst hp
        clear h htab hkn
        go_enter Tryz.func23, Tryz.ntmps23
        go_wp2_with fail
        refine C.out.mono ?_
        rintro e w1 ⟨rfl, rfl⟩
        go_wp2_with fail
        refine C2.out.mono ?_
        rintro e w1 ⟨rfl, rfl⟩
        go_wp2
        go_ret3
        exact ⟨rfl, rfl⟩
      | some z =>
        simp only [PtrO] at hp
        obtain ⟨b, i, rfl, -, hz⟩ := hp
        clear h htab hkn
        go_enter Tryz.func23, Tryz.ntmps23
        go_wp2_with fail
        refine C.out.mono ?_
        rintro e w1 ⟨rfl, rfl⟩
        go_wp2_with fail
        refine C2.out.mono ?_
        rintro e w1 ⟨rfl, rfl⟩
        go_wp2
        go_ret3
        exact ⟨rfl, rfl⟩
    · rw [decide_eq_false hkn] at C2
      rw [if_neg hkn]
      clear h htab
      generalize x.tb.length = n at *
      clear hkn
      go_enter Tryz.func23, Tryz.ntmps23
      go_wp2_with fail
      refine C.out.mono ?_
      rintro e w1 ⟨rfl, rfl⟩
      go_wp2_with fail
      refine C2.out.mono ?_
      rintro e w1 ⟨rfl, rfl⟩
      go_wp2
      go_ret3
      exact ⟨rfl, rfl⟩
end
end Go.Proofs.YtckdnhafookcgaaGreatDoor.Pl

namespace Go.Proofs.YtckdnhafookcgaaGreatDoor.Pl
open Go.RowKit Go.Shelf Go.Proofs.YtckdnhafookcgaaGreatDoor.Instr Go.Proofs.YtckdnhafookcgaaGreatDoor.Mod Go.Proofs.YtckdnhafookcgaaGreatDoor.Val
open Go.Proofs.YtckdnhafookcgaaGreatDoor.Mem (MemIs MemAt Wrote Keep isOwn Mm)
set_option linter.unusedVariables false

def setE (x : Pc) (mu : List Bool) (k : Nat) : Int := if k < x.gs.length then (if mu.getD k false then 0 else 212) else 6
def setX (x : Pc) (mu : List Bool) (k : Nat) (v : Int) : Pc := if setE x mu k = 0 then { x with gs := x.gs.set k v } else x
def SetQ (lo hi : Nat) (w : World) (p H gb K : Nat) (d : Md) (tv mv : Value) (x : Pc) (k : Nat) (v : Int) (e : Ending) (w' : World) : Prop :=
  e = .returned (.int .i64 (setE x (d.gl.map (·.mu)) k)) ∧ PlAt lo hi w' p H gb K d tv mv (setX x (d.gl.map (·.mu)) k v) ∧ Save gb w w' ∧ w'.heap.size = w.heap.size
theorem SetGlobal_yes {lo hi p H gb K : Nat} {w : World} {d : Md} {tv mv : Value} {x : Pc} (h : PlAt lo hi w p H gb K d tv mv x) (k : Nat) (hk : k ≤ 4294967295) (v : Int) (hv : 0 ≤ v ∧ v < 4294967296) :
    Calls Tryz.prog 26 #[.pointer (some ⟨p, 0, none⟩), .int .u32 k, .int .u32 v] w (SetQ lo hi w p H gb K d tv mv x k v) := by
  obtain ⟨c0, c12, c13, c14, c15, c6⟩ := h.c
  have C := hid (made_yes p w c0)
  have hl := h.ls.2.1
  have C2 := hid (has_u32 (some ⟨gb, 0, none⟩) x.gs.length x.gs.length k w (by omega) hk)
  have HP := hid h
  unfold SetQ
  by_cases hkn : k < x.gs.length
  · have hkd : k < d.gl.length := by rw [← h.gl]; exact hkn
    obtain ⟨b, off, ha, hb, hc⟩ := Rows.get h.at_.gl hkd
    rw [ha] at c6
    have hmu : (d.gl.map (·.mu)).getD k false = (d.gl[k]).mu := by simp [hkd]
    have hE : setE x (d.gl.map (·.mu)) k = if (d.gl[k]).mu then 0 else 212 := by unfold setE; rw [if_pos hkn, hmu]
    have hX : setX x (d.gl.map (·.mu)) k v = if (d.gl[k]).mu then { x with gs := x.gs.set k v } else x := by
      unfold setX; rw [hE]
      cases (d.gl[k]).mu <;> rfl
    rw [hE, hX]
    have cm : w.cell? ⟨b, off + k * 2, none⟩ = some (.bool (d.gl[k]).mu) := hc 0 (by omega) _ rfl
    have hgd : (k : Int) < (d.gl.length : Int) := by omega
    generalize hmm : (d.gl[k]).mu = mu at *
    clear hc hmu hE hX hmm hkd ha hb
    generalize d.gl.length = nd at *
    rw [decide_eq_true hkn] at C2
    have hv0 := h.gs.cell hkn
    have hf0 : w.frozen? ⟨gb, k, none⟩ = false := frozen_heap h.gs k
    have HS := hid (h.setG hkn v)
    generalize hz : x.gs.getD k 0 = z at hv0
    generalize hn : x.gs.length = n at *
    have hki : (k : Int) < (n : Int) := by omega
    clear h hkn hz
    cases mu with
    | true =>
      go_enter Tryz.func26, Tryz.ntmps26
      go_wp2_with fail
      refine C.out.mono ?_
      rintro e w1 ⟨rfl, rfl⟩
      go_wp2_with fail
      refine C2.out.mono ?_
      rintro e w1 ⟨rfl, rfl⟩
      go_wp2
      go_ret
      exact ⟨rfl, HS.out, Save.setCell (p := ⟨gb, k, none⟩) (Save.refl gb _) (.inl rfl) _, by simp [World.setCell]⟩
    | false =>
      go_enter Tryz.func26, Tryz.ntmps26
      go_wp2_with fail
      refine C.out.mono ?_
      rintro e w1 ⟨rfl, rfl⟩
      go_wp2_with fail
      refine C2.out.mono ?_
      rintro e w1 ⟨rfl, rfl⟩
      go_wp2
      go_ret
      exact ⟨rfl, HP.out, Save.refl _ _, rfl⟩
  · have hE : setE x (d.gl.map (·.mu)) k = 6 := by unfold setE; rw [if_neg hkn]
    have hX : setX x (d.gl.map (·.mu)) k v = x := by unfold setX; rw [hE, if_neg (by decide)]
    rw [hE, hX]
    rw [decide_eq_false hkn] at C2
    clear h hE hX
    generalize hn : x.gs.length = n at *
    clear hkn
    go_enter Tryz.func26, Tryz.ntmps26
    go_wp2_with fail
    refine C.out.mono ?_
    rintro e w1 ⟨rfl, rfl⟩
    go_wp2_with fail
    refine C2.out.mono ?_
    rintro e w1 ⟨rfl, rfl⟩
    go_wp2
    go_ret
    exact ⟨rfl, HP.out, Save.refl _ _, rfl⟩
end Go.Proofs.YtckdnhafookcgaaGreatDoor.Pl

namespace Go.Proofs.YtckdnhafookcgaaGreatDoor.Pl
open Go.RowKit Go.Shelf Go.Proofs.YtckdnhafookcgaaGreatDoor.Instr Go.Proofs.YtckdnhafookcgaaGreatDoor.Mod Go.Proofs.YtckdnhafookcgaaGreatDoor.Val
open Go.Proofs.YtckdnhafookcgaaGreatDoor.Mem (MemIs MemAt Wrote Keep isOwn Mm)
set_option linter.unusedVariables false

def numI (n : Int) : Ix := ⟨65, 0, 0, 0, n, [], none, 0, none, 0, 0, none, 0, 0⟩
def numL (g : Nat) (n : Int) : Lst := ⟨some ⟨g, 0, none⟩, 1, mkIl [(numI n, .nil, .nil)]⟩
theorem at_any (n : Int) (w : World) : Calls Tryz.prog 32 #[.int .i32 n] w fun e w' => e = .returned (.slice (some ⟨w.heap.size, 0, none⟩) 1 1) ∧ w' = w.alloc (.cells (numI n).vals 105) := by
  go_enter Tryz.func32, Tryz.ntmps32
  go_wp2
  go_ret
  exact ⟨rfl, rfl⟩
def tabM (g : Nat) (n : Int) : Md where
  ty := [(0, 0)]
  im := []
  fu := [⟨0, 0, ⟨none, 0, .nil⟩⟩]
  tb := [⟨3, 0, false⟩]
  me := []
  gl := []
  ex := []
  st := false
  sn := 0
  el := [⟨numL (g + 1 + 1 + 1 + 1) n, some ⟨g + 1 + 1 + 1 + 1 + 1, 0, none⟩, 2, [0, 0]⟩]
  da := []
  ty' := ⟨some ⟨g + 1, 0, none⟩, 1⟩
  im' := ⟨none, 0⟩
  fu' := ⟨some ⟨g + 1 + 1, 0, none⟩, 1⟩
  tb' := ⟨some ⟨g + 1 + 1 + 1, 0, none⟩, 1⟩
  me' := ⟨none, 0⟩
  gl' := ⟨none, 0⟩
  ex' := ⟨none, 0⟩
  el' := ⟨some ⟨g + 1 + 1 + 1 + 1 + 1 + 1, 0, none⟩, 1⟩
  da' := ⟨none, 0⟩
theorem numI_ok (n : Int) (hn : -2147483648 ≤ n ∧ n < 2147483648) : (numI n).ok := by constructor <;> simp [numI] <;> omega
theorem numL_at {W : World} {g : Nat} {n : Int} (hn : -2147483648 ≤ n ∧ n < 2147483648) (h : BoxAt W g (numI n).vals) : ListAt W.heap.size W (numL g n).a (numL g n).t.len (numL g n).t :=
  list_box (l := [(numI n, .nil, .nil)]) (World.block_lt_of_cell? W ⟨g, 0, none⟩ (h 0 _ rfl)) h (fun x hx => by
    obtain rfl := List.mem_singleton.1 hx
    exact ⟨numI_ok n hn, .inl rfl, ⟨rfl, .inl rfl⟩, ⟨rfl, .inl rfl⟩⟩)
theorem box_lt {W : World} {b : Nat} {v : Array Value} {x : Value} (h : BoxAt W b v) (h0 : v[0]? = some x) : b < W.heap.size := World.block_lt_of_cell? W ⟨b, 0, none⟩ (h 0 x h0)
theorem tabM_in {W : World} {g : Nat} {n : Int} (hn : -2147483648 ≤ n ∧ n < 2147483648) (b1 : BoxAt W (g + 1) #[.int .i64 0, .int .i64 0]) (b2 : BoxAt W (g + 1 + 1) #[.int .i64 0, .int .i64 0, .slice none 0 0]) (b3 : BoxAt W (g + 1 + 1 + 1) #[.int .u32 3, .int .u32 0, .bool false]) (b4 : BoxAt W (g + 1 + 1 + 1 + 1) (numI n).vals)
    (b5 : BoxAt W (g + 1 + 1 + 1 + 1 + 1) #[.int .u32 0, .int .u32 0]) (b6 : BoxAt W (g + 1 + 1 + 1 + 1 + 1 + 1) #[.slice (some ⟨g + 1 + 1 + 1 + 1, 0, none⟩) 1 1, .slice (some ⟨g + 1 + 1 + 1 + 1 + 1, 0, none⟩) 2 2]) : NewIn W (tabM g n) := by
  have hcs : ∀ l ∈ (tabM g n).codes, l = ⟨none, 0, .nil⟩ ∨ l = numL (g + 1 + 1 + 1 + 1) n := by
    intro l hl
    simp [tabM, Md.codes] at hl
    exact hl
  refine ⟨⟨rows_box (box_lt b1 rfl) (by simp [tabM, tyV]) b1, .inl rfl, rows_box (box_lt b2 rfl) (by simp [tabM, Mod.Fn.v]) b2, rows_box (box_lt b3 rfl) (by simp [tabM, Li.v]) b3, .inl rfl, .inl rfl, .inl rfl, rows_box (box_lt b6 rfl) (by simp [tabM, El.v]) b6, .inl rfl, fun l hl => ?_, fun e he => ?_, by simp [tabM]⟩, ⟨⟨by simp [tabM], by simp [tabM], by simp [tabM], by simp [tabM], by simp [tabM], by simp [tabM], by simp [tabM], by simp [tabM], by simp [tabM], fun l hl => ?_, by simp [tabM], by simp [tabM], by simp [tabM], by simp [tabM]⟩, fun l hl => ?_, by simp [tabM]⟩, ⟨by simp [tabM], by simp [tabM], by simp [tabM], by simp [tabM], by simp [tabM]⟩, ⟨by simp [tabM], fun l hl => ?_, by simp [tabM], by simp [tabM], by simp [tabM], by simp [tabM]⟩⟩
  · rcases hcs l hl with rfl | rfl
    · exact ⟨rfl, .inl rfl⟩
    · exact numL_at hn b4
  · simp only [tabM, List.mem_singleton] at he
    subst he
    refine .inr ⟨_, 0, rfl, box_lt b5 rfl, fun i hi => ?_⟩
    match i, hi with
    | 0, _ => simpa using b5 0 _ rfl
    | 1, _ => simpa using b5 1 _ rfl
  · rcases hcs l hl with rfl | rfl <;> simp [numL, mkIl, Il.len]
  · rcases hcs l hl with rfl | rfl <;> simp [numL, mkIl, Il.count]
  · rcases hcs l hl with rfl | rfl <;> simp [numL, mkIl, Il.weight, numI]
theorem tab1 (g : Nat) : newP (tabM g 1) = (0, ⟨[], [], [none, some 0, some 0], none⟩) := by kernel_rfl
theorem tab2 (g : Nat) : newP (tabM g 2) = (220, ⟨[], [], [], none⟩) := by kernel_rfl
theorem chain7 (w : World) (A0 A1 A2 A3 A4 A5 A6 : Array Value) (t0 t1 t2 t3 t4 t5 t6 : TypeId) : ∃ W, (((((((w.alloc (.cells A0 t0)).alloc (.cells A1 t1)).alloc (.cells A2 t2)).alloc (.cells A3 t3)).alloc (.cells A4 t4)).alloc (.cells A5 t5)).alloc (.cells A6 t6)) = W ∧ (BoxAt W (w.heap.size) A0 ∧ BoxAt W (w.heap.size + 1) A1 ∧ BoxAt W (w.heap.size + 1 + 1) A2 ∧ BoxAt W (w.heap.size + 1 + 1 + 1) A3 ∧ BoxAt W (w.heap.size + 1 + 1 + 1 + 1) A4 ∧ BoxAt W (w.heap.size + 1 + 1 + 1 + 1 + 1) A5 ∧ BoxAt W (w.heap.size + 1 + 1 + 1 + 1 + 1 + 1) A6) ∧ Below w.heap.size w W := by
  refine ⟨_, rfl, ⟨?_, ?_, ?_, ?_, ?_, ?_, ?_⟩, (thenA (thenA (thenA (thenA (thenA (thenA (thenA (Below.refl _ _) _) _) _) _) _) _) _)⟩ <;> (intro j x h; simp [go_sem, h])
set_option maxRecDepth 100000 in
theorem tabled_m (n : Int) (hn : -2147483648 ≤ n ∧ n < 2147483648) (w : World) : Calls Tryz.prog 55 #[.int .i32 n] w fun e w' => e = .returned (.agg (tabM w.heap.size n).v) ∧ NewIn w' (tabM w.heap.size n) ∧ Below w.heap.size w w' := by
  have HN := hid hn
  clear hn
  go_enter Tryz.func55, Tryz.ntmps55
  go_wp2_with fail
  refine (at_any n _).mono ?_
  rintro e w1 ⟨rfl, rfl⟩
  go_wp2
  obtain ⟨W, hW, ⟨b0, b1, b2, b3, b4, b5, b6⟩, hB⟩ := chain7 w #[.slice (some ⟨w.heap.size + 1, 0, none⟩) 1 1, .slice none 0 0, .slice (some ⟨w.heap.size + 1 + 1, 0, none⟩) 1 1, .slice (some ⟨w.heap.size + 1 + 1 + 1, 0, none⟩) 1 1, .slice none 0 0, .slice none 0 0, .slice none 0 0, .bool false, .int .u32 0, .slice (some ⟨w.heap.size + 1 + 1 + 1 + 1 + 1 + 1, 0, none⟩) 1 1, .slice none 0 0] #[.int .i64 0, .int .i64 0] #[.int .i64 0, .int .i64 0, .slice none 0 0] #[.int .u32 3, .int .u32 0, .bool false] (numI n).vals #[.int .u32 0, .int .u32 0] #[.slice (some ⟨w.heap.size + 1 + 1 + 1 + 1, 0, none⟩) 1 1, .slice (some ⟨w.heap.size + 1 + 1 + 1 + 1 + 1, 0, none⟩) 2 2] 32 92 101 83 105 28 109
  rw [hW]
  have HIN := hid (tabM_in HN.out b1 b2 b3 b4 b5 b6)
  have HB := hid hB
  obtain ⟨n0, n1, n2, n3, n4, n5, n6, n7, n8, n9, n10⟩ := BoxAt.mod b0
  clear hB b0 b1 b2 b3 b4 b5 b6 hW
  refine bodyPost_ret (v := .agg (tabM w.heap.size n).v) (by simp [results, Tryz.results55, go_sem, tabM, Md.v, n0, n1, n2, n3, n4, n5, n6, n7, n8, n9, n10]) rfl ⟨rfl, HIN.out, HB.out⟩
end Go.Proofs.YtckdnhafookcgaaGreatDoor.Pl

namespace Go.Proofs.YtckdnhafookcgaaGreatDoor.Pl
open Go.RowKit Go.Shelf Go.Proofs.YtckdnhafookcgaaGreatDoor.Instr Go.Proofs.YtckdnhafookcgaaGreatDoor.Mod Go.Proofs.YtckdnhafookcgaaGreatDoor.Val
open Go.Proofs.YtckdnhafookcgaaGreatDoor.Mem (MemIs MemAt Wrote Keep isOwn Mm)
set_option linter.unusedVariables false

/-- A place is made: its memory apart. -/
def NewYes (x : Pc) (w : World) (e : Ending) (w' : World) : Prop :=
  (∃ hi p H gb d tv mv, e = .returned (.tuple #[.pointer (some ⟨p, 0, none⟩), .int .i64 0]) ∧ PlAt w.heap.size hi w' p H gb 1048576 d tv mv x) ∧ Below w.heap.size w w'
theorem New_yes {m : Md} {x : Pc} {w : World} (hi : NewIn w m) (hT : Tb w) (h : newP m = (0, x)) : Calls Tryz.prog 14 #[.agg m.v] w (NewYes x w) := by
  refine (New_any m w hi hT).mono ?_
  rintro e w' ⟨hq | ⟨x', hi', p, H, gb, d, tv, mv, h1, h2, h3, h4⟩, hb⟩
  · obtain ⟨er, h1, h2, h3⟩ := hq
    rw [h] at h2
    simp only [Prod.mk.injEq] at h2
    exact absurd h2.1.symm h1
  · rw [h] at h1
    simp only [Prod.mk.injEq, true_and] at h1
    subst h1
    exact ⟨⟨hi', p, H, gb, d, tv, mv, h2, h4⟩, hb⟩
theorem New_no {m : Md} {er : Int} {w : World} (hi : NewIn w m) (hT : Tb w) (h : (newP m).1 = er) (hne : er ≠ 0) : Calls Tryz.prog 14 #[.agg m.v] w fun e w' => e = .returned (.tuple #[.pointer none, .int .i64 er]) ∧ Below w.heap.size w w' := by
  refine (New_any m w hi hT).mono ?_
  rintro e w' ⟨hq | ⟨x', hi', p, H, gb, d, tv, mv, h1, h2, h3, h4⟩, hb⟩
  · obtain ⟨er', h1, h2, h3⟩ := hq
    rw [h2] at h
    simp only at h
    subst h
    exact ⟨h3, hb⟩
  · rw [h1] at h
    exact absurd h.symm hne
set_option maxRecDepth 100000 in
set_option maxHeartbeats 2000000 in
theorem awake_p (w : World) (hT : Tb w) : Calls Tryz.prog 17 #[] w fun e w' => e = .returned (.bool true) ∧ Below w.heap.size w w' := by
  have HT := hid hT
  clear hT
  go_enter Tryz.func17, Tryz.ntmps17
  go_wp2_with fail
  refine (tabled_m 1 (by omega) w).mono ?_
  rintro e w1 ⟨rfl, hin, hb1⟩
  have HB1 := hid hb1
  have C1 := hid (New_yes hin (HT.out.on hb1) (tab1 _))
  clear hin hb1
  go_wp2_with fail
  refine C1.out.mono ?_
  rintro e w2 ⟨⟨hi, p, H, gb, d, tv, mv, rfl, hpl⟩, hb2⟩
  have HB2 := hid (thenB HB1.out hb2)
  have HPL := hid hpl
  clear C1 hb2 HB1 hpl
  go_wp2_with fail
  refine (tabled_m 2 (by omega) w2).mono ?_
  rintro e w3 ⟨rfl, hin, hb3⟩
  have HB3 := hid (thenB HB2.out hb3)
  have HPL3 := hid (HPL.out.below hb3)
  have C1 := hid (New_no hin (HT.out.on HB3.out) (er := 220) (by rw [tab2]) (by decide))
  clear hin hb3 HB2 HPL
  go_wp2_with fail
  refine C1.out.mono ?_
  rintro e w4 ⟨rfl, hb4⟩
  have HB4 := hid (thenB HB3.out hb4)
  have HPL4 := hid (HPL3.out.below hb4)
  have E0 := hid (Entry_yes HPL4.out 0 (by omega))
  have E1 := hid (Entry_yes HPL4.out 1 (by omega))
  have E3 := hid (Entry_yes HPL4.out 3 (by omega))
  rw [show entryP ⟨[], [], [none, some 0, some 0], none⟩ 0 = (0, false, 0) from rfl] at E0
  rw [show entryP ⟨[], [], [none, some 0, some 0], none⟩ 1 = (0, true, 0) from rfl] at E1
  rw [show entryP ⟨[], [], [none, some 0, some 0], none⟩ 3 = (0, false, 220) from rfl] at E3
  clear C1 hb4 HB3 HPL3
  go_wp2_with fail
  refine E0.out.mono ?_
  rintro e w5 ⟨rfl, rfl⟩
  go_wp2_with fail
  refine E1.out.mono ?_
  rintro e w5 ⟨rfl, rfl⟩
  go_wp2_with fail
  refine E3.out.mono ?_
  rintro e w5 ⟨rfl, rfl⟩
  go_wp2
  go_ret
  exact ⟨rfl, HB4.out⟩
end Go.Proofs.YtckdnhafookcgaaGreatDoor.Pl

namespace Go.Proofs.YtckdnhafookcgaaGreatDoor.Pl
open Go.RowKit Go.Shelf Go.Proofs.YtckdnhafookcgaaGreatDoor.Instr Go.Proofs.YtckdnhafookcgaaGreatDoor.Mod Go.Proofs.YtckdnhafookcgaaGreatDoor.Val
set_option linter.unusedVariables false

def SomeBool (w : World) (e : Ending) (w' : World) : Prop := ∃ b, e = .returned (.bool b) ∧ Below w.heap.size w w'
set_option maxRecDepth 100000 in
set_option maxHeartbeats 4000000 in
theorem many_any (m : Md) (w : World) (hm : ModAt w.heap.size w m) (hf : m.fits) (hr : ∀ l ∈ m.me, 0 ≤ l.n) : Calls Tryz.prog 41 #[.agg m.v, .bool false] w (SomeBool w) := by
  have hb0 := (Below.refl w.heap.size w).alloc (Nat.le_refl _) (.cells m.v 32)
  have HR := hid hm.me
  have HB := hid hb0
  have HX := hid (BoxAt.made w m.v 32)
  have hl := hf.me
  obtain ⟨n, hn⟩ : ∃ n, m.me.length = n := ⟨_, rfl⟩
  have HN := hid hn
  unfold SomeBool
  unfold Md.v at HX HB ⊢
  rw [hn] at hl HX HB ⊢
  clear hm hf hb0 hn hr
  generalize m.me'.a = a at HR HB HX ⊢
  obtain ⟨W0, hW0⟩ : ∃ W0, W0 = w.alloc (.cells #[.slice m.ty'.a m.ty.length m.ty'.c, .slice m.im'.a m.im.length m.im'.c, .slice m.fu'.a m.fu.length m.fu'.c, .slice m.tb'.a m.tb.length m.tb'.c, .slice a n m.me'.c, .slice m.gl'.a m.gl.length m.gl'.c, .slice m.ex'.a m.ex.length m.ex'.c, .bool m.st, .int .u32 m.sn, .slice m.el'.a m.el.length m.el'.c, .slice m.da'.a m.da.length m.da'.c] 32) := ⟨_, rfl⟩
  rw [← hW0] at HX HB
  have HW0 := hid hW0
  clear hW0
  go_enter Tryz.func41, Tryz.ntmps41
  go_upto_region 1 with fail
  rw [← HW0.out]
  clear HW0
  go_wp2
  go_loopw [5] (fun vi wr => ∃ k : Nat, vi = .int .i64 k ∧ k ≤ n ∧ Hid (Below W0.heap.size W0 wr)) (fun vi _ => n - (intOf vi).toNat)
  case atStart => exact ⟨0, rfl, Nat.zero_le _, Below.refl _ _⟩
  case round =>
    obtain ⟨k, rfl, hk, HW⟩ := hrel
    have x4 := Go.Proofs.YtckdnhafookcgaaGreatDoor.keep HW.out (HX.out 4 _ rfl)
    by_cases hlt : k < n
    · have hkl : k < m.me.length := by rw [HN.out]; exact hlt
      obtain ⟨b, off, rfl, hb, hc⟩ := Rows.get HR.out hkl
      obtain ⟨x, hxe⟩ : ∃ x, m.me[k] = x := ⟨_, rfl⟩
      rw [hxe] at hc
      have hbw : Below w.heap.size w wr := HB.out.trans (HW.out.mono HB.out.size)
      have cc : ∀ j, j < 3 → ∀ v, x.v[j]? = some v → wr.cell? ⟨b, off + k * 3 + j, none⟩ = some v := fun j hj v hv => (hbw.cell (p := ⟨b, off + k * 3 + j, none⟩) hb).trans (hc j hj v hv)
      have c0 : wr.cell? ⟨b, off + k * 3, none⟩ = some (.int .u32 x.n) := cc 0 (by omega) _ rfl
      have c1 : wr.cell? ⟨b, off + k * 3 + 1, none⟩ = some (.int .u32 x.x) := cc 1 (by omega) _ rfl
      have c2 : wr.cell? ⟨b, off + k * 3 + 2, none⟩ = some (.bool x.c) := cc 2 (by omega) _ rfl
      have hki : (k : Int) < (n : Int) := by omega
      have hk0 : (0 : Int) ≤ (k : Int) := by omega
      have HW2 := hid (HW.out.alloc HW.out.size (.cells #[.int .u32 x.n, .int .u32 x.x, .bool x.c] 83))
      have HF := hid (HB.out.trans (HW2.out.mono HB.out.size))
      clear hxe hc cc hb hbw
      by_cases hgt : 64 < x.n
      · go_wp2
        go_ret
        exact ⟨true, rfl, HF.out⟩
      · go_wp2
        go_roundw
        case rel => exact ⟨k + 1, by go_num, by omega, HW2⟩
        case measure => simp [intOf]; omega
    · obtain rfl : k = n := by omega
      have HF := hid (HB.out.trans (HW.out.mono HB.out.size))
      go_wp2
      go_ret
      exact ⟨false, rfl, HF.out⟩
set_option maxRecDepth 100000 in
set_option maxHeartbeats 4000000 in
theorem wide_any (m : Md) (w : World) (hm : ModAt w.heap.size w m) (hf : m.fits) (hr : ∀ l ∈ m.me, 0 ≤ l.n) : Calls Tryz.prog 12 #[.agg m.v] w (SomeBool w) := by
  have hb0 := (Below.refl w.heap.size w).alloc (Nat.le_refl _) (.cells m.v 32)
  have HR := hid hm.tb
  have HB := hid hb0
  have HX := hid (BoxAt.made w m.v 32)
  have hl := hf.tb
  have CM := hid (fun W (hb : Below w.heap.size w W) => many_any m W ((hm.below hb).more hb.size) hf hr)
  obtain ⟨n, hn⟩ : ∃ n, m.tb.length = n := ⟨_, rfl⟩
  have HN := hid hn
  unfold SomeBool at CM ⊢
  unfold Md.v at HX HB CM ⊢
  rw [hn] at hl HX HB CM ⊢
  clear hm hf hb0 hn hr
  generalize m.tb'.a = a at HR HB HX CM ⊢
  obtain ⟨W0, hW0⟩ : ∃ W0, W0 = w.alloc (.cells #[.slice m.ty'.a m.ty.length m.ty'.c, .slice m.im'.a m.im.length m.im'.c, .slice m.fu'.a m.fu.length m.fu'.c, .slice a n m.tb'.c, .slice m.me'.a m.me.length m.me'.c, .slice m.gl'.a m.gl.length m.gl'.c, .slice m.ex'.a m.ex.length m.ex'.c, .bool m.st, .int .u32 m.sn, .slice m.el'.a m.el.length m.el'.c, .slice m.da'.a m.da.length m.da'.c] 32) := ⟨_, rfl⟩
  rw [← hW0] at HX HB
  have HW0 := hid hW0
  clear hW0
  go_enter Tryz.func12, Tryz.ntmps12
  go_upto_region 1 with fail
  rw [← HW0.out]
  clear HW0
  go_wp2
  go_loopw [3] (fun vi wr => ∃ k : Nat, vi = .int .i64 k ∧ k ≤ n ∧ wr = W0) (fun vi _ => n - (intOf vi).toNat)
  case atStart => exact ⟨0, rfl, Nat.zero_le _, by first | rfl | trivial⟩
  case round =>
    obtain ⟨k, rfl, hk, rfl⟩ := hrel
    obtain ⟨n0, n1, n2, n3, n4, n5, n6, n7, n8, n9, n10⟩ := BoxAt.mod HX.out
    have hk0 : (0 : Int) ≤ (k : Int) := by omega
    by_cases hlt : k < n ∧ k < 2
    · have hkl : k < m.tb.length := by rw [HN.out]; exact hlt.1
      obtain ⟨b, off, rfl, hb, hc⟩ := Rows.get HR.out hkl
      obtain ⟨x, hxe⟩ : ∃ x, m.tb[k] = x := ⟨_, rfl⟩
      rw [hxe] at hc
      have c0 : wr.cell? ⟨b, off + k * 3, none⟩ = some (.int .u32 x.n) := (HB.out.cell (p := ⟨b, off + k * 3 + 0, none⟩) hb).trans (hc 0 (by omega) _ rfl)
      have hki : (k : Int) < (n : Int) := by omega
      have hk2 : (k : Int) < 2 := by omega
      clear hxe hc hb
      by_cases hgt : 2000 < x.n
      · go_wp2
        go_ret
        exact ⟨true, rfl, HB.out⟩
      · go_wp2
        go_roundw
        case rel => exact ⟨k + 1, by go_num, by omega, trivial⟩
        case measure => simp [intOf]; omega
    · have CC := hid (CM.out wr HB.out)
      by_cases hkn : k < n
      · have hki : (k : Int) < (n : Int) := by omega
        have hk2 : ¬ ((k : Int) < 2) := by omega
        clear hlt hkn
        go_wp2_with fail
        refine CC.out.mono ?_
        rintro e w1 ⟨b, rfl, hb⟩
        have HF := hid (thenB HB.out hb)
        clear CC hb n0 n1 n2 n3 n4 n5 n6 n7 n8 n9 n10
        go_wp2
        go_ret
        exact ⟨b, rfl, HF.out⟩
      · have hki : ¬ ((k : Int) < (n : Int)) := by omega
        clear hlt hkn
        go_wp2_with fail
        refine CC.out.mono ?_
        rintro e w1 ⟨b, rfl, hb⟩
        have HF := hid (thenB HB.out hb)
        clear CC hb n0 n1 n2 n3 n4 n5 n6 n7 n8 n9 n10
        go_wp2
        go_ret
        exact ⟨b, rfl, HF.out⟩
end Go.Proofs.YtckdnhafookcgaaGreatDoor.Pl

namespace Go.Proofs.YtckdnhafookcgaaGreatDoor.Mem
open Go.RowKit
open Go.Maps (Keyed int_keyed IsMap)
set_option linter.unusedVariables false

/-- A part of the heap stays. -/
def Stay (C E : Nat) (W W' : World) : Prop := ∀ j, C ≤ j → j < E → W'.heap[j]? = W.heap[j]?
/-- The map and its pages lie outside it. -/
def Out (C E : Nat) (D : DataW Unit) (mb : Nat) : Prop := (mb < C ∨ E ≤ mb) ∧ ∀ k g : Nat, D.atKey (.int .u64 k) .nil = .lit (.int .i64 g) → g < C ∨ E ≤ g
def PutToH (B C E : Nat) (W : World) (p mb K : Nat) (m : Mm) (zs : List Int) (s j : Nat) (wr : World) : Prop :=
  ∃ D K', K' ≤ K + j ∧ MemAt B wr p mb K' D { m with f := putF m.f s (zs.take j) } ∧ Keep W wr ∧ Below B W wr ∧ Out C E D mb ∧ Stay C E W wr
def WroteH (B C E : Nat) (W w' : World) : Prop := Keep W w' ∧ Below B W w' ∧ Stay C E W w'
theorem WroteH.of_put {B C E : Nat} {W W2 : World} {p mb K s n : Nat} {m : Mm} {zs : List Int} (h : PutToH B C E W p mb K m zs s n W2) : WroteH B C E W W2 := by
  obtain ⟨D, K', h1, h2, h3, h4, h5, h6⟩ := h
  exact ⟨h3, h4, h6⟩
theorem WroteH.none (B C E : Nat) (W : World) : WroteH B C E W W := ⟨Keep.refl W, Below.refl B W, fun _ _ _ => rfl⟩
/-- A memory all of whose blocks stay is as it was. -/
theorem MemAt.stay {B : Nat} {W W' : World} {p mb K : Nat} {D : DataW Unit} {m : Mm} (h : MemAt B W p mb K D m) (hs : ∀ j, B ≤ j → j < W.heap.size → W'.heap[j]? = W.heap[j]?) : MemAt B W' p mb K D m := by
  refine ⟨(hs p h.bp (Array.getElem?_eq_some_iff.1 h.box).1).trans h.box, h.bp, h.bm, ?_, h.isMap, h.ok, fun k => ?_, h.apart⟩
  · have hl := World.ownsMap.lt h.map
    obtain ⟨es, ck, hh, r⟩ := h.map
    exact ⟨es, ck, (hs mb h.bm hl).trans hh, r⟩
  · rcases h.at_ k with h1 | ⟨g, hg, h1, L, h2, h3⟩
    · exact .inl h1
    · exact .inr ⟨g, hg, h1, L, (hs g hg (Array.getElem?_eq_some_iff.1 h2).1).trans h2, h3⟩
theorem MemIs.stay {B : Nat} {W W' : World} {p K : Nat} {m : Mm} (h : MemIs B W p K m) (hs : ∀ j, B ≤ j → j < W.heap.size → W'.heap[j]? = W.heap[j]?) : MemIs B W' p K m := by
  obtain ⟨mb, D, K', hK, h⟩ := h
  exact ⟨mb, D, K', hK, h.stay hs⟩
/-- A memory made before the part. -/
theorem MemAt.out {B C E : Nat} {W : World} {p mb K : Nat} {D : DataW Unit} {m : Mm} (h : MemAt B W p mb K D m) (hC : W.heap.size ≤ C) : Out C E D mb := by
  refine ⟨.inl ?_, fun k g hg => .inl ?_⟩
  · have := World.ownsMap.lt h.map; omega
  · rcases h.at_ k with ⟨h1, _⟩ | ⟨g', hB, h1, L, h2, _⟩
    · rw [hg] at h1; cases h1
    · rw [hg] at h1
      have : g = g' := by simp at h1; omega
      have := (Array.getElem?_eq_some_iff.1 h2).1
      omega
theorem PutToH.step {B C E : Nat} {W : World} {p mb K : Nat} {m : Mm} {zs : List Int} {s j t k q pg K' : Nat} {wx w2 : World} {D : DataW Unit} {L : List Int} (hK : K' ≤ K + j + t) (hM : MemAt B wx p mb K' D { m with f := putF m.f s (zs.take j) }) (hk : Keep W wx) (hb : Below B W wx)
    (hD : D.atKey (.int .u64 k) .nil = .lit (.int .i64 pg)) (hpg : B ≤ pg) (hL : wx.heap[pg]? = some (.cells (L.map (Value.int .u8)).toArray 187 (0, 0))) (hLl : L.length = 65536) (hLf : ∀ i, i < 65536 → L.getD i 0 = putF m.f s (zs.take j) (k * 65536 + i))
    (hkq : s + j = k * 65536 + q) (hj : j + t ≤ zs.length) (hq : q + t ≤ 65536) (hz : ∀ z ∈ zs, 0 ≤ z ∧ z < 256) (hB : B ≤ W.heap.size)
    (hh : w2.heap[pg]? = some (.cells ((over L ((zs.drop j).take t) q).map (Value.int .u8)).toArray 187 (0, 0))) (hs : Save pg wx w2) (hO : Out C E D mb) (hst : Stay C E W wx) (hE : E ≤ wx.heap.size) : PutToH B C E W p mb K m zs s (j + t) w2 := by
  have hxl : ((zs.drop j).take t).length = t := by simp; omega
  have hjl : (zs.take j).length = j := by simp; omega
  have hff : putF (putF m.f s (zs.take j)) (k * 65536 + q) ((zs.drop j).take t) = putF m.f s (zs.take (j + t)) := by
    rw [← hkq]
    have := putF_append m.f s (zs.take j) ((zs.drop j).take t)
    rw [hjl] at this
    rw [this, List.take_add]
  have hlay := PageAt.lay hLl hLf (xs := (zs.drop j).take t) (q := q) (by rw [hxl]; exact hq)
  refine ⟨D, K', by omega, ?_, hk.trans (Keep.of_save hs hL (own_page _ _)), ?_, hO, fun i h1 h2 => (hs.block i (by omega) (fun e => by have := hO.2 k pg hD; omega)).trans (hst i h1 h2)⟩
  · have := hM.written (f' := putF m.f s (zs.take (j + t))) hD hs ⟨_, hh, hlay.1, fun i hi => by rw [hlay.2 i hi, hff]⟩ (fun a ha => by
      show _ = putF m.f s (zs.take j) a
      rw [← hff]
      refine putF_other _ _ _ _ ?_
      rw [hxl]
      exact off_page ha hq) (fun a => by
      rw [← hff]
      refine putF_byte (fun a => hM.ok.byte a) (fun z hzm => hz z (List.mem_of_mem_drop (List.mem_of_mem_take hzm))) _ _)
    exact this
  · exact hb.trans (hs.below (Nat.le_trans hB hb.size) hpg)
set_option maxRecDepth 100000 in
set_option maxHeartbeats 1600000 in
theorem put_hole {B C E : Nat} {W : World} {p mb K : Nat} {D : DataW Unit} {m : Mm} (hM : MemAt B W p mb K D m) (hO : Out C E D mb) (hE : E ≤ W.heap.size) (hB : B ≤ W.heap.size) (b off : Nat) (a : Option Addr) (n c s : Nat) (zs : List Int) (hzl : zs.length = n) (hz : ∀ z ∈ zs, 0 ≤ z ∧ z < 256) (hc : n ≤ c) (hcm : c ≤ 9223372036854775807)
    (ha : 0 < n → a = some ⟨b, off, none⟩ ∧ (∀ i, i < n → W.cell? ⟨b, off + i, none⟩ = some (.int .u8 (zs.getD i 0))) ∧ ∃ o, W.heap[b]? = some o ∧ (isOwn o = false ∨ b < B)) (hs : s + n ≤ m.n * 65536) (hK : K + n ≤ 1000000000) :
    Calls Tryz.prog 70 #[.pointer (some ⟨p, 0, none⟩), .int .u64 s, .slice a n c] W fun e W' => e = .returned (.tuple #[]) ∧ PutToH B C E W p mb K m zs s n W' := by
  have hnp : m.n ≤ 65536 := Nat.le_trans hM.ok.n hM.ok.most
  have H0 : PutToH B C E W p mb K m zs s 0 W := ⟨D, K, Nat.le_refl _, by rw [List.take_zero, putF_nil]; exact hM, Keep.refl W, Below.refl B W, hO, fun _ _ _ => rfl⟩
  have HOM := hid hO.1
  have HE := hid hE
  have H0 := hid H0
  have HS := hid hs
  have HZ := hid hz
  have HZL := hid hzl
  have HP := hid hnp
  have HA := hid ha
  have HK := hid hK
  have HB := hid hB
  clear hM hs hz hzl hnp ha hK hB hO hE
  obtain ⟨S0, hS0⟩ : ∃ S0 : Int, (s : Int) = S0 := ⟨_, rfl⟩
  rw [hS0]
  have HS0 := hid hS0
  clear hS0
  go_enter Tryz.func70, Tryz.ntmps70
  go_wp2
  go_loopw [1, 2] (fun v1 v2 wr => ∃ (S : Int) (j r cc : Nat) (aa : Option Addr), v1 = .int .u64 S ∧ v2 = .slice aa r cc ∧ Hid (S = (s : Int) + j) ∧ Hid (r + j = n) ∧ r ≤ cc ∧ cc ≤ 9223372036854775807 ∧ Hid (0 < r → aa = some ⟨b, off + j, none⟩) ∧ Hid (PutToH B C E W p mb K m zs s j wr)) (fun _ v2 _ => match v2 with | .slice _ r _ => r | _ => 0)
  case atStart => exact ⟨S0, 0, n, c, a, rfl, rfl, by show _ = _; rw [← HS0.out]; simp, rfl, hc, hcm, fun h => (HA.out h).1, H0⟩
  case round =>
    obtain ⟨S, j, r, cc, aa, rfl, rfl, HSj, HR, hrc, hcc, HAA, HG⟩ := hrel
    clear hc hcm HS0 H0
    by_cases hr : 0 < r
    · have hai := HAA.out hr
      subst hai
      clear HAA
      have hsj := HSj.out
      have hrj := HR.out
      have hs := HS.out
      have hp := HP.out
      obtain ⟨_, hcell, ob, hob, hown⟩ := HA.out (by omega)
      obtain ⟨k, q, hkq, hq⟩ : ∃ k q : Nat, s + j = k * 65536 + q ∧ q < 65536 := ⟨(s + j) / 65536, (s + j) % 65536, by omega, by omega⟩
      have hdiv : S / 65536 = (k : Int) := by omega
      have hmod : S % 65536 = (q : Int) := by omega
      have hS0 : 0 ≤ S := by omega
      have hmn2 : m.n * 65536 ≤ 65536 * 65536 := Nat.mul_le_mul_right _ hp
      have hS1 : S ≤ 4294967296 := by omega
      obtain ⟨t, ht⟩ : ∃ t : Nat, min r (65536 - q) = t := ⟨_, rfl⟩
      have htr : t ≤ r := by omega
      have htq : t ≤ 65536 - q := by omega
      have ht0 : 0 < t := by omega
      have hmn : Hid (t = Nat.min r (65536 - q)) := hid (by show t = min _ _; omega)
      obtain ⟨D1, K1, hK1, hM1, hkeep, hbel, hout, hhole⟩ := HG.out
      have c3 := hM1.cells.2.2.2
      have hk64 : k < 18446744073709551616 := by omega
      have HL := hM1.look k hk64
      have HSRC := hid (fun (wx : World) (h : Keep W wx) (hb : Below B W wx) => src_cells (j := j) (t := t) hcell hob hown h hb (by omega) HZL.out)
      have HSTEP := hid (fun (wx w2 : World) (Kx : Nat) (Dx : DataW Unit) (pg : Nat) (L : List Int) (h1 : Kx ≤ K + j + t) (h2 : MemAt B wx p mb Kx Dx { m with f := putF m.f s (zs.take j) }) (h3 : Keep W wx) (h4 : Below B W wx)
        (h5 : Dx.atKey (.int .u64 k) .nil = .lit (.int .i64 pg)) (h6 : B ≤ pg) (h7 : wx.heap[pg]? = some (.cells (L.map (Value.int .u8)).toArray 187 (0, 0))) (h8 : L.length = 65536) (h9 : ∀ i, i < 65536 → L.getD i 0 = putF m.f s (zs.take j) (k * 65536 + i))
        (h12 : Out C E Dx mb) (h13 : Stay C E W wx) (h10 : w2.heap[pg]? = some (.cells ((over L ((zs.drop j).take t) q).map (Value.int .u8)).toArray 187 (0, 0))) (h11 : Save pg wx w2) =>
        PutToH.step h1 h2 h3 h4 h5 h6 h7 h8 h9 hkq (by rw [HZL.out]; omega) (by omega) HZ.out HB.out h10 h11 h12 h13 (Nat.le_trans HE.out h4.size))
      have hrel : Hid (S + (t : Int) = (s : Int) + ((j + t : Nat) : Int)) := hid (by push_cast; omega)
      have hrel2 : Hid (r - t + (j + t) = n) := hid (by omega)
      have hlen : ((zs.drop j).take t).length = t := by have := HZL.out; simp; omega
      have HKK := hid (show K1 + 1 ≤ K + j + t ∧ K1 < maxLen from ⟨by omega, by have := HK.out; unfold maxLen; omega⟩)
      have HMK := hid hM1
      have HOUT := hid hout
      have HHOLE := hid hhole
      have HKEEP := hid hkeep
      have HBEL := hid hbel
      clear hsj hrj hs hp hkq ht hcell hob hown hmn2 hM1 hkeep hbel HG hK1 hout hhole
      have hS2 : S + (t : Int) ≤ 4295032832 := by omega
      have hq1 : (q : Int) < 65536 := by omega
      have hq2 : (t : Int) ≤ 65536 - (q : Int) := by omega
      have htri : (t : Int) ≤ (r : Int) := by omega
      have htci : (t : Int) ≤ (cc : Int) := by omega
      rcases HL with ⟨hrun, hD0, hnull⟩ | ⟨pg, hpB, hrun, hD1, hpage⟩
      · obtain ⟨Z, hz0, hzs, hz1, hZ⟩ := zeroPage
        obtain ⟨pg, hpg⟩ : ∃ pg, wr.heap.size = pg := ⟨_, rfl⟩
        obtain ⟨wa, hwa⟩ : ∃ wa, wr.alloc (.cells Z 187) = wa := ⟨_, rfl⟩
        have hba : Below wr.heap.size wr wa := by rw [← hwa]; exact thenA (Below.refl _ _) _
        have hwn : wa.heap[pg]? = some (.cells Z 187 (0, 0)) := by rw [← hwa, ← hpg]; exact (MapKept.heap_alloc wr _).1
        have HMA := hid (HMK.out.below hba)
        have c3a := HMA.out.cells.2.2.2
        have hBpg : B ≤ pg := by have := HBEL.out.size; have := HB.out; omega
        have HFR := hid (fun (wm : World) (hown : wm.ownsMap Tryz.prog 136 ptrElem mb (K1 + 1) (D1.put (.int .u64 k) (.lit (.int .i64 pg)))) (hgr : wa.grownBy wm (some mb)) => (show MemAt B wm p mb (K1 + 1) (D1.put (.int .u64 k) (.lit (.int .i64 pg))) { m with f := putF m.f s (zs.take j) } ∧ Keep W wm ∧ Below B W wm ∧ (D1.put (.int .u64 k) (.lit (.int .i64 pg))).atKey (.int .u64 k) .nil = .lit (.int .i64 pg) ∧ wm.heap[pg]? = some (.cells Z 187 (0, 0)) ∧ Out C E (D1.put (.int .u64 k) (.lit (.int .i64 pg))) mb ∧ Stay C E W wm from by
          have hs := save_of_grown hgr
          obtain ⟨es, ck, hmb⟩ := HMA.out.mblock
          have hne : pg ≠ mb := fun e => by rw [← e, hwn] at hmb; cases hmb
          have hkey : WideAt.IsKeyLit (.int .u64 k) := Maps.keyOf_int_mk (P := Tryz.prog) Tryz.underlying136 (wf64 hk64) |> fun h => (keyed.key h)
          refine ⟨HMA.out.fresh hD0 hBpg (fun k' g' h' => ?_) ⟨List.replicate 65536 0, ?_, List.length_replicate, fun i _ => zeros_getD i⟩ hown hs hkey, ?_, ?_, ?_, ?_, ?_, ?_⟩
          · have := HMK.out.page_lt k' g' h'; omega
          · rw [hwn, hZ]
          · exact HKEEP.out.trans ((Keep.of_below hba).trans (Keep.of_save hs hmb rfl))
          · exact (HBEL.out.trans (hba.mono (by have := HBEL.out.size; have := HB.out; omega))).trans (hs.below (by have := hba.size; have := HBEL.out.size; have := HB.out; omega) HMA.out.bm)
          · exact Maps.atKey_put_same HMA.out.isMap hkey _ _
          · exact (hs.block pg (Array.getElem?_eq_some_iff.1 hwn).1 hne).trans hwn
          · refine ⟨HOM.out, fun k' g' h' => ?_⟩
            by_cases e : k' = k
            · rw [e, Maps.atKey_put_same HMA.out.isMap hkey] at h'
              have e2 : pg = g' := by simp at h'; omega
              right
              have := HBEL.out.size; have := HE.out; omega
            · rw [Maps.atKey_put_other (fun e' => e (by cases e'; rfl))] at h'
              exact HOUT.out.2 k' g' h'
          · intro j h1 h2
            have hj : j < wr.heap.size := by have := HBEL.out.size; have := HE.out; omega
            have hjm : j ≠ mb := by have := HOM.out; omega
            exact (hs.block j (by have := hba.size; omega) hjm).trans ((hba.block j hj).trans (HHOLE.out j h1 h2))))
        have hmapa := HMA.out.map
        have hK1m := HKK.out.2
        have hkeyk : keyOf Tryz.prog 136 (.int .u64 (k : Int)) = some (.int .u64 (k : Int)) := Maps.keyOf_int_mk Tryz.underlying136 (wf64 hk64)
        clear hwn hba
        have hsl := slice_page pg q hq
        subst hwa
        subst hpg
        have HSTEP2 := hid (fun (wm : World) (h1 : MemAt B wm p mb (K1 + 1) (D1.put (.int .u64 k) (.lit (.int .i64 wr.heap.size))) { m with f := putF m.f s (zs.take j) }) (h2 : Keep W wm) (h3 : Below B W wm) (h4 : (D1.put (.int .u64 k) (.lit (.int .i64 wr.heap.size))).atKey (.int .u64 k) .nil = .lit (.int .i64 wr.heap.size)) (h5 : wm.heap[wr.heap.size]? = some (.cells ((List.replicate 65536 (0 : Int)).map (Value.int .u8)).toArray 187 (0, 0))) (h6 : Out C E (D1.put (.int .u64 k) (.lit (.int .i64 wr.heap.size))) mb) (h7 : Stay C E W wm) (w2 : World) =>
          HSTEP.out wm w2 (K1 + 1) (D1.put (.int .u64 k) (.lit (.int .i64 wr.heap.size))) wr.heap.size (List.replicate 65536 0) HKK.out.1 h1 h2 h3 h4 hBpg h5 List.length_replicate (fun i hi => (zeros_getD i).trans (hnull i hi).symm) h6 h7)
        have hfit : q + t ≤ (List.replicate 65536 (0 : Int)).length := by rw [List.length_replicate]; omega
        have HZ2 := hid hZ
        clear hnull hZ HSTEP hD0
        by_cases htc : t = cc
        · subst htc
          obtain rfl : r = t := by omega
          go_wp2_with (first
            | (at_mapUpdate
               refine wpList_mapUpdate_own _ rfl _ _ _ 144 rfl 136 185 keyed Tryz.underlying144 ptrElem mb K1 D1 rfl hmapa hK1m (.int .u64 (k : Int)) (.pointer (some ⟨wr.heap.size, 0, none⟩)) (.int .u64 (k : Int)) (by go_simp) rfl hkeyk (.lit (.int .i64 wr.heap.size)) [] rfl ?_
               intro w1 hown1 hgrow1
               obtain ⟨hn1, hn2, hn3, hn4, hn5, hn6, hn7⟩ := HFR.out w1 hown1 hgrow1
               rw [HZ2.out] at hn5
               have hsrc := HSRC.out w1 hn2 hn3
               have HST := hid (HSTEP2.out w1 hn1 hn2 hn3 hn4 hn5 hn6 hn7)
               clear hown1 hgrow1 hn1 hn2 hn3 hn4 hn6 hn7 HFR HSTEP2 hmapa)
            | (refine copy_list (by rfl) (.tmp 32) (.tmp 33) (by rfl) (g := wr.heap.size) (off := q) (dl := 65536 - q) (dc := 65536 - q) (sl := r) (sc := r) (q := b) (o2 := off + j) (M := r) (by go_simp) (by go_simp) hn5 hlen hmn.out hfit hsrc ?_; intro w2 hh2 hs2 hz2))
          have HN := hid (HST.out w2 hh2.out hs2)
          clear HST hh2 hs2 hz2 hfit hsrc hlen hn5
          go_wp2
          go_roundw
          case rel => exact ⟨_, j + r, 0, 0, _, rfl, rfl, hrel, by simpa using hrel2, by omega, by omega, fun h => by omega, HN⟩
          case measure => simp; omega
        · go_wp2_with (first
            | (at_mapUpdate
               refine wpList_mapUpdate_own _ rfl _ _ _ 144 rfl 136 185 keyed Tryz.underlying144 ptrElem mb K1 D1 rfl hmapa hK1m (.int .u64 (k : Int)) (.pointer (some ⟨wr.heap.size, 0, none⟩)) (.int .u64 (k : Int)) (by go_simp) rfl hkeyk (.lit (.int .i64 wr.heap.size)) [] rfl ?_
               intro w1 hown1 hgrow1
               obtain ⟨hn1, hn2, hn3, hn4, hn5, hn6, hn7⟩ := HFR.out w1 hown1 hgrow1
               rw [HZ2.out] at hn5
               have hsrc := HSRC.out w1 hn2 hn3
               have HST := hid (HSTEP2.out w1 hn1 hn2 hn3 hn4 hn5 hn6 hn7)
               clear hown1 hgrow1 hn1 hn2 hn3 hn4 hn6 hn7 HFR HSTEP2 hmapa)
            | (refine copy_list (by rfl) (.tmp 32) (.tmp 33) (by rfl) (g := wr.heap.size) (off := q) (dl := 65536 - q) (dc := 65536 - q) (sl := r) (sc := cc) (q := b) (o2 := off + j) (M := t) (by go_simp) (by go_simp) hn5 hlen hmn.out hfit hsrc ?_; intro w2 hh2 hs2 hz2))
          have HN := hid (HST.out w2 hh2.out hs2)
          clear HST hh2 hs2 hz2 hfit hsrc hlen hn5
          go_wp2
          go_roundw
          case rel => exact ⟨_, j + t, r - t, _, _, rfl, rfl, hrel, hrel2, by omega, by omega, fun _ => by rw [Nat.add_assoc], HN⟩
          case measure => simp; omega
      · obtain ⟨L, hL, hLl, hLf⟩ := hpage
        have hsl := slice_page pg q hq
        have hsrc := HSRC.out wr HKEEP.out HBEL.out
        have hfit : q + t ≤ L.length := by omega
        have HST := hid (fun w2 => HSTEP.out wr w2 K1 D1 pg L (by have := HKK.out.1; omega) HMK.out HKEEP.out HBEL.out hD1 hpB hL hLl hLf HOUT.out HHOLE.out)
        have HD1 := hid hD1
        clear hLl hLf HSTEP HSRC hD1
        by_cases htc : t = cc
        · subst htc
          obtain rfl : r = t := by omega
          go_wp2_with (refine copy_list (by rfl) (.tmp 32) (.tmp 33) (by rfl) (g := pg) (off := q) (dl := 65536 - q) (dc := 65536 - q) (sl := r) (sc := r) (q := b) (o2 := off + j) (M := r) (by go_simp) (by go_simp) hL hlen hmn.out hfit hsrc ?_; intro w2 hh2 hs2 hz2)
          have HN := hid (HST.out w2 hh2.out hs2)
          clear HST hh2 hs2 hz2 hfit hsrc hlen hL
          go_wp2
          go_roundw
          case rel => exact ⟨_, j + r, 0, 0, _, rfl, rfl, hrel, by simpa using hrel2, by omega, by omega, fun h => by omega, HN⟩
          case measure => simp; omega
        · go_wp2_with (refine copy_list (by rfl) (.tmp 32) (.tmp 33) (by rfl) (g := pg) (off := q) (dl := 65536 - q) (dc := 65536 - q) (sl := r) (sc := cc) (q := b) (o2 := off + j) (M := t) (by go_simp) (by go_simp) hL hlen hmn.out hfit hsrc ?_; intro w2 hh2 hs2 hz2)
          have HN := hid (HST.out w2 hh2.out hs2)
          clear HST hh2 hs2 hz2 hfit hsrc hlen hL
          go_wp2
          go_roundw
          case rel => exact ⟨_, j + t, r - t, _, _, rfl, rfl, hrel, hrel2, by omega, by omega, fun _ => by rw [Nat.add_assoc], HN⟩
          case measure => simp; omega
    · obtain rfl : r = 0 := by omega
      have HG2 : Hid (PutToH B C E W p mb K m zs s n wr) := by
        have h1 := HR.out
        have h2 : j = n := by omega
        rw [← h2]; exact HG.out
      go_wp2
      go_end0
      exact ⟨rfl, HG2.out⟩
theorem Write_hole {B C E : Nat} {W : World} {p mb K : Nat} {D : DataW Unit} {m : Mm} (hA : MemAt B W p mb K D m) (hO : Out C E D mb) (hE : E ≤ W.heap.size) (hB : B ≤ W.heap.size) (b off : Nat) (a : Option Addr) (n c s : Nat) (zs : List Int) (hzl : zs.length = n) (hz : ∀ z ∈ zs, 0 ≤ z ∧ z < 256) (hc : n ≤ c) (hcm : c ≤ 9223372036854775807) (hs : s ≤ 4294967295)
    (ha : 0 < n → a = some ⟨b, off, none⟩ ∧ (∀ i, i < n → W.cell? ⟨b, off + i, none⟩ = some (.int .u8 (zs.getD i 0))) ∧ ∃ o, W.heap[b]? = some o ∧ (isOwn o = false ∨ b < B)) (hK : K + n ≤ 1000000000) :
    Calls Tryz.prog 28 #[.pointer (some ⟨p, 0, none⟩), .int .u32 s, .slice a n c] W fun e w' => e = .returned (.int .i64 (m.write s zs).2) ∧ WroteH B C E W w' := by
  have hM : MemIs B W p K m := ⟨mb, D, K, Nat.le_refl _, hA⟩
  have hnp : m.n ≤ 65536 := Nat.le_trans hM.ok.n hM.ok.most
  have C1 := hid (made_yes p W hM.cells.1)
  have C2 := has_any p m.n s n W hM.cells.2.1 ⟨by omega, by omega⟩ ⟨by omega, by omega⟩ ⟨by omega, by omega⟩
  have he : m.has s zs.length = decide ((s : Int) + (n : Int) ≤ (m.n : Int) * 65536) := by
    unfold Mm.has
    rw [hzl, decide_eq_decide]; constructor <;> intro h <;> omega
  unfold Mm.write
  rw [he]
  by_cases hin : (s : Int) + (n : Int) ≤ (m.n : Int) * 65536
  · have CP := hid (show Calls Tryz.prog 70 #[.pointer (some ⟨p, 0, none⟩), .int .u64 s, .slice a n c] W fun e W' => e = .returned (.tuple #[]) ∧ WroteH B C E W W' from by
      exact (put_hole hA hO hE hB b off a n c s zs hzl hz hc (by omega) ha (by omega) (by omega)).mono fun e W' ⟨he, h⟩ => ⟨he, WroteH.of_put h⟩)
    rw [decide_eq_true hin] at C2 ⊢
    have C2 := hid C2
    clear hM hA hO hE hnp he hin ha hz hzl hK
    obtain ⟨S, hS⟩ : ∃ S : Int, (s : Int) = S := ⟨_, rfl⟩
    have hS0 : 0 ≤ S ∧ S ≤ 4294967295 := by omega
    obtain ⟨hS0, hS1⟩ := hS0
    rw [hS] at C2 CP ⊢
    clear hS
    go_enter Tryz.func28, Tryz.ntmps28
    go_wp2_with fail
    refine C1.out.mono ?_
    rintro e w1 ⟨rfl, rfl⟩
    go_wp2_with fail
    refine C2.out.mono ?_
    rintro e w1 ⟨rfl, rfl⟩
    go_wp2_with fail
    refine CP.out.mono ?_
    rintro e w1 ⟨rfl, hW⟩
    go_wp2
    go_ret
    exact ⟨rfl, hW⟩
  · rw [decide_eq_false hin] at C2 ⊢
    have C2 := hid C2
    have HN := hid (WroteH.none B C E W)
    clear hM hA hO hE hnp he hin ha hz hzl hK
    obtain ⟨S, hS⟩ : ∃ S : Int, (s : Int) = S := ⟨_, rfl⟩
    have hS0 : 0 ≤ S ∧ S ≤ 4294967295 := by omega
    obtain ⟨hS0, hS1⟩ := hS0
    rw [hS] at C2 ⊢
    clear hS
    go_enter Tryz.func28, Tryz.ntmps28
    go_wp2_with fail
    refine C1.out.mono ?_
    rintro e w1 ⟨rfl, rfl⟩
    go_wp2_with fail
    refine C2.out.mono ?_
    rintro e w1 ⟨rfl, rfl⟩
    go_wp2
    go_ret
    exact ⟨rfl, HN.out⟩
end Go.Proofs.YtckdnhafookcgaaGreatDoor.Mem

namespace Go.Proofs.YtckdnhafookcgaaGreatDoor.Pl
open Go.RowKit Go.Shelf Go.Proofs.YtckdnhafookcgaaGreatDoor.Instr Go.Proofs.YtckdnhafookcgaaGreatDoor.Mod Go.Proofs.YtckdnhafookcgaaGreatDoor.Val
open Go.Proofs.YtckdnhafookcgaaGreatDoor.Mem (MemIs MemAt Wrote Keep isOwn Mm Read_any Write_hole Stay Out WroteH)
set_option linter.unusedVariables false

/-- A place, as far as its lasting words and its memory are asked for. -/
structure QAt (w : World) (q gb : Nat) (gs : List Int) (mv : Value) : Prop where
  box : ∃ cs : Array Value, w.heap[q]? = some (.cells cs 63 (0, 0)) ∧ cs[0]? = some (.pointer (some ⟨q, 0, none⟩)) ∧ cs[13]? = some (.slice (some ⟨gb, 0, none⟩) gs.length gs.length) ∧ cs[15]? = some mv
  wd : Words .u32 28 w gb gs
  ls : gs.length ≤ 1000000
  ptr : ∃ a, mv = .pointer a
theorem QAt.c {w : World} {q gb : Nat} {gs : List Int} {mv : Value} (h : QAt w q gb gs mv) : w.cell? ⟨q, 0, none⟩ = some (.pointer (some ⟨q, 0, none⟩)) ∧ w.cell? ⟨q, 13, none⟩ = some (.slice (some ⟨gb, 0, none⟩) gs.length gs.length) ∧ w.cell? ⟨q, 15, none⟩ = some mv := by
  obtain ⟨cs, hb, h0, h13, h15⟩ := h.box
  exact ⟨(cell_of_row w q 0 cs _ _ hb).trans h0, (cell_of_row w q 13 cs _ _ hb).trans h13, (cell_of_row w q 15 cs _ _ hb).trans h15⟩
theorem QAt.on {w W : World} {q gb : Nat} {gs : List Int} {mv : Value} (h : QAt w q gb gs mv) (h1 : ∀ (o : Obj), w.heap[q]? = some o → isOwn o = false → W.heap[q]? = some o) (h2 : ∀ (o : Obj), w.heap[gb]? = some o → isOwn o = false → W.heap[gb]? = some o) : QAt W q gb gs mv := by
  obtain ⟨cs, hb, r⟩ := h.box
  exact ⟨⟨cs, h1 _ hb rfl, r⟩, h2 _ h.wd rfl, h.ls, h.ptr⟩
theorem QAt.lt {w : World} {q gb : Nat} {gs : List Int} {mv : Value} (h : QAt w q gb gs mv) : q < w.heap.size := by
  obtain ⟨cs, hb, r⟩ := h.box
  exact (Array.getElem?_eq_some_iff.1 hb).1
theorem QAt.below {w W : World} {q gb : Nat} {gs : List Int} {mv : Value} (h : QAt w q gb gs mv) (hb : Below w.heap.size w W) : QAt W q gb gs mv :=
  h.on (fun o ho _ => (hb.block q h.lt).trans ho) (fun o ho _ => (hb.block gb h.wd.lt).trans ho)
theorem QAt.save {w W : World} {q gb k : Nat} {gs : List Int} {mv : Value} (h : QAt w q gb gs mv) (hs : Save k w W) (h1 : q ≠ k) (h2 : gb ≠ k) : QAt W q gb gs mv :=
  h.on (fun o ho _ => (hs.block q h.lt h1).trans ho) (fun o ho _ => (hs.block gb h.wd.lt h2).trans ho)
theorem QAt.keep {w W : World} {q gb : Nat} {gs : List Int} {mv : Value} (h : QAt w q gb gs mv) (hk : Keep w W) : QAt W q gb gs mv :=
  h.on (fun o ho hn => hk.block q o ho hn) (fun o ho hn => hk.block gb o ho hn)
theorem PlAt.q {lo hi p H gb K : Nat} {w : World} {d : Md} {tv mv : Value} {x : Pc} (h : PlAt lo hi w p H gb K d tv mv x) : QAt w p gb x.gs mv :=
  ⟨⟨_, h.box, rfl, rfl, rfl⟩, h.gs, h.ls.2.1, h.me.ptr⟩
theorem Memory_q {w : World} {q gb : Nat} {gs : List Int} {mv : Value} (h : QAt w q gb gs mv) : Calls Tryz.prog 20 #[.pointer (some ⟨q, 0, none⟩)] w fun e w' => e = .returned mv ∧ w = w' := by
  obtain ⟨c0, c13, c15⟩ := h.c
  have C := made_yes q w c0
  obtain ⟨a, rfl⟩ := h.ptr
  clear h
  go_enter Tryz.func20, Tryz.ntmps20
  go_wp2_with fail
  refine C.mono ?_
  rintro e w1 ⟨rfl, rfl⟩
  go_wp2
  go_ret
  exact ⟨rfl, rfl⟩
def globalG (gs : List Int) (k : Nat) : Int × Int := if k < gs.length then (gs.getD k 0, 0) else (0, 6)
theorem Global_q {w : World} {q gb : Nat} {gs : List Int} {mv : Value} (h : QAt w q gb gs mv) (k : Nat) (hk : k ≤ 4294967295) : Calls Tryz.prog 24 #[.pointer (some ⟨q, 0, none⟩), .int .u32 k] w fun e w' => e = .returned (.tuple #[.int .u32 (globalG gs k).1, .int .i64 (globalG gs k).2]) ∧ w = w' := by
  obtain ⟨c0, c13, c15⟩ := h.c
  have C := hid (made_yes q w c0)
  have hl := h.ls
  have C2 := hid (has_u32 (some ⟨gb, 0, none⟩) gs.length gs.length k w (by omega) hk)
  unfold globalG
  by_cases hkn : k < gs.length
  · have hv := h.wd.cell hkn
    rw [decide_eq_true hkn] at C2
    rw [if_pos hkn]
    generalize gs.getD k 0 = z at *
    clear h
    generalize gs.length = n at *
    have hki : (k : Int) < (n : Int) := by omega
    clear hkn
    go_enter Tryz.func24, Tryz.ntmps24
    go_wp2_with fail
    refine C.out.mono ?_
    rintro e w1 ⟨rfl, rfl⟩
    go_wp2_with fail
    refine C2.out.mono ?_
    rintro e w1 ⟨rfl, rfl⟩
    go_wp2
    go_ret2
    exact ⟨rfl, rfl⟩
  · rw [decide_eq_false hkn] at C2
    rw [if_neg hkn]
    clear h
    generalize gs.length = n at *
    clear hkn
    go_enter Tryz.func24, Tryz.ntmps24
    go_wp2_with fail
    refine C.out.mono ?_
    rintro e w1 ⟨rfl, rfl⟩
    go_wp2_with fail
    refine C2.out.mono ?_
    rintro e w1 ⟨rfl, rfl⟩
    go_wp2
    go_ret2
    exact ⟨rfl, rfl⟩
end Go.Proofs.YtckdnhafookcgaaGreatDoor.Pl
