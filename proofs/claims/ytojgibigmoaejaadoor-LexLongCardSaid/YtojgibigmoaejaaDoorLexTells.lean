/-
  THE STATEMENT LexTells: the walk.
-/
import Derived.Test.YtojgibigmoaejaaDoorLexRdK
import Derived.Test.YtojgibigmoaejaaDoorLexKit
namespace Go.Proofs.YtojgibigmoaejaaDoor.Lex
open Go.RowKit Go.Proofs.YtojgibigmoaejaaDoor.Utf
set_option linter.unusedSimpArgs false
set_option linter.unusedVariables false

theorem lexGo_few : ∀ (f : Nat) (l : List Int) (a : Int) (ws : List Wd), lexGo f l a = .ok ws → ws.length ≤ f
  | 0, l, a, ws, h => by simp only [lexGo, Told.ok.injEq] at h; subst h; simp
  | f + 1, [], a, ws, h => by simp only [lexGo, Told.ok.injEq] at h; subst h; simp
  | f + 1, c :: t, a, ws, h => by
    simp only [lexGo] at h
    split at h
    · have := lexGo_few f _ _ _ h; omega
    · split at h
      · split at h
        · cases h
        · have := lexGo_few f _ _ _ h; omega
      · split at h
        · cases h
        · revert h
          generalize hq : lexGo f _ _ = q
          intro h
          cases q with
          | bad e p => cases h
          | ok vs =>
            simp only [Told.cons, Told.ok.injEq] at h
            subst h
            have := lexGo_few f _ _ _ hq
            simp; omega
/-- What is told: the words, the error, its place. -/
def Told.ws : Told → List Wd
  | .ok l => l
  | .bad _ _ => []
def Told.e : Told → Int
  | .ok _ => 0
  | .bad e _ => e
def Told.p : Told → Int
  | .ok _ => 0
  | .bad _ p => p
theorem told_few (zs : List Int) : (lexP zs).ws.length ≤ 65536 := by
  unfold lexP
  split
  · simp [Told.ws]
  · rename_i hl
    split
    · simp [Told.ws]
    · generalize hq : lexA zs 0 = q
      cases q with
      | bad e p => simp [Told.ws]
      | ok l =>
        have := lexGo_few _ _ _ _ hq
        show l.length ≤ _
        omega
theorem told_form {base : Nat} {w : World} {g : Told} {v : Value} (h : ToldV base w g v) : ∃ a c, v = .tuple #[.slice a g.ws.length c, .agg #[.int .i64 g.e, .int .i64 g.p]] ∧ OwnW base w (.slice a g.ws.length c) g.ws := by
  cases g with
  | bad e p => exact ⟨none, 0, h, ⟨⟨rfl, .inl ⟨rfl, rfl⟩⟩, by simp [Told.ws]⟩⟩
  | ok l =>
    obtain ⟨u, rfl, ho⟩ := h
    obtain ⟨a, c, rfl⟩ := OwnW.slice4 ho
    exact ⟨a, c, rfl, ho⟩
/-- Words that may be written over: where they lie. -/
def Blank (lo hi : Nat) (w : World) (a : Option Addr) (n : Nat) : Prop := n = 0 ∨ ∃ g cur, a = some ⟨g, 0, none⟩ ∧ w.heap[g]? = some (.cells cur 31 (0, 0)) ∧ n * 4 ≤ cur.size ∧ lo ≤ g ∧ g < hi
theorem blank_of {base : Nat} {w : World} {a : Option Addr} {n c : Nat} {l : List Wd} (h : OwnW base w (.slice a n c) l) : Blank base w.heap.size w a n := by
  rcases h.row.2 with ⟨hv, h0⟩ | ⟨g, cap, cur, hv, hg, hh, h1, h2, h3, h4⟩
  · simp only [Value.slice.injEq] at hv
    exact .inl hv.2.1
  · simp only [Value.slice.injEq] at hv
    obtain ⟨rfl, rfl, rfl⟩ := hv
    exact .inr ⟨g, cur, rfl, hh, by rw [h3]; exact Nat.mul_le_mul_right 4 h1, hg, (Array.getElem?_eq_some_iff.1 hh).1⟩
theorem Blank.below {lo hi n : Nat} {w w' : World} {a : Option Addr} (h : Blank lo hi w a n) (hb : Below hi w w') : Blank lo hi w' a n := by
  rcases h with h | ⟨g, cur, ha, hh, hs, h1, h2⟩
  · exact .inl h
  · exact .inr ⟨g, cur, ha, (hb.block g h2).trans hh, hs, h1, h2⟩
theorem blank_cell {lo hi n k : Nat} {w : World} {a : Option Addr} (h : Blank lo hi w a n) (hk : k < n) : ∃ g, a = some ⟨g, 0, none⟩ ∧ lo ≤ g ∧ g < hi ∧
    (∀ j, j < 4 → (∃ v, w.cell? ⟨g, k * 4 + j, none⟩ = some v) ∧ w.frozen? ⟨g, k * 4 + j, none⟩ = false) ∧ (∀ j v, Blank lo hi (w.setCell ⟨g, j, none⟩ v) a n) := by
  rcases h with h | ⟨g, cur, ha, hh, hs, h1, h2⟩
  · omega
  · refine ⟨g, ha, h1, h2, fun j hj => ⟨?_, by simp [World.frozen?, hh]⟩, fun j v => .inr ⟨g, _, ha, heap_setCell_same w g j _ _ v hh, by simpa using hs, h1, h2⟩⟩
    rw [Lib.cell_of_heap hh]
    have : k * 4 + j < cur.size := by omega
    exact ⟨cur[k * 4 + j], by simp [this]⟩
theorem Blank.set {lo hi n g j : Nat} {w : World} (h : Blank lo hi w (some ⟨g, 0, none⟩) n) (v : Value) : Blank lo hi (w.setCell ⟨g, j, none⟩ v) (some ⟨g, 0, none⟩) n := by
  rcases h with h | ⟨g', cur, ha, hh, hs, h1, h2⟩
  · exact .inl h
  · simp only [Option.some.injEq, Addr.mk.injEq] at ha
    obtain ⟨rfl, _, _⟩ := ha
    exact .inr ⟨g, _, rfl, heap_setCell_same w g j _ _ v hh, by simpa using hs, h1, h2⟩
/-- The words that were read first, blanked one after another; what was read beside them stays. -/
structure Over (w0 w : World) (lo hi base : Nat) (a1 : Option Addr) (n : Nat) (v2 : Value) (l : List Wd) : Prop where
  low : Below lo w0 w
  own : OwnW base w v2 l
  blank : Blank lo hi w a1 n
theorem Over.set {w0 w : World} {lo hi base n g : Nat} {v2 : Value} {l : List Wd} (h : Over w0 w lo hi base (some ⟨g, 0, none⟩) n v2 l) (h1 : lo ≤ g) (h2 : g < base) (j : Nat) (v : Value) : Over w0 (w.setCell ⟨g, j, none⟩ v) lo hi base (some ⟨g, 0, none⟩) n v2 l :=
  ⟨h.low.setCell h1 v, Stk.OwnR.setCell h.own h2 v, h.blank.set v⟩
set_option maxHeartbeats 8000000 in
set_option maxRecDepth 10000 in
theorem tells_walk (w : World) (s : ByteArray) (h8 : Tabs8 w) (hT : Words w) :
    Calls Tryd.prog 3 #[.string s] w fun e w' => e = .returned (.bool true) ∧ Below w.heap.size w w' := by
  obtain ⟨zs, hz⟩ : ∃ zs, numsOf s = zs := ⟨_, rfl⟩
  have hb : ∀ z ∈ zs, 0 ≤ z ∧ z < 256 := hz ▸ numsOf_bytes s
  have hsz : strOfNums zs = s := hz ▸ str_numsOf s
  have hlen : s.size = zs.length := by rw [← hsz, strOfNums_size]
  clear hz
  have A := hid (fun W h1 h2 => awake_any W h1 h2)
  have H8 := hid h8
  have HT := hid hT
  by_cases hl : zs.length > 3000
  · have hli : (zs.length : Int) > 3000 := by omega
    clear hb hsz h8 hT
    go_enter Tryd.func3, Tryd.ntmps3
    go_wp2_with fail
    refine (A.out _ H8.out HT.out).mono ?_
    rintro e w1 ⟨rfl, hb1⟩
    go_wp2
    go_ret
    exact ⟨rfl, hb1⟩
  have hli : ¬ (zs.length : Int) > 3000 := by omega
  have LX := hid (fun W h1 h2 => Lex_any zs hb W h1 h2)
  have RX := hid (fun W => LexR_any zs hb W)
  rw [hsz] at LX RX
  have HFW := hid (told_few zs)
  generalize lexP zs = g at *
  have q1 := eqFault
  have q2 := guardFault
  clear hb hsz h8 hT
  obtain ⟨n, hn⟩ : ∃ n, g.ws.length = n := ⟨_, rfl⟩
  obtain ⟨x, hx⟩ : ∃ x, g.e = x := ⟨_, rfl⟩
  obtain ⟨y, hy⟩ : ∃ y, g.p = y := ⟨_, rfl⟩
  have HN := hid hn
  have HX := hid hx
  have HY := hid hy
  have hnb : n ≤ 65536 := hn ▸ HFW.out
  clear hn hx hy HFW
  go_enter Tryd.func3, Tryd.ntmps3
  go_wp2_with fail
  refine (LX.out _ H8.out HT.out).mono ?_
  rintro e w1 ⟨v1, rfl, hv1, hb1⟩
  obtain ⟨a1, c1, rfl, ho1⟩ := told_form hv1
  rw [HN.out] at ho1 ⊢
  rw [HX.out, HY.out]
  have O1 := hid ho1
  have B1 := hid hb1
  clear hv1 ho1 hb1
  obtain ⟨k1, hk1⟩ : ∃ k1, k1 = w1.heap.size := ⟨_, rfl⟩
  obtain ⟨W1, hW1⟩ : ∃ W1, W1 = w1.alloc (.cells #[.int .i64 x, .int .i64 y] 26) := ⟨_, rfl⟩
  have P1 : Hid (W1.heap[k1]? = some (.cells #[.int .i64 x, .int .i64 y] 26 (0, 0))) := by rw [hW1, hk1]; exact hid (heap_alloc_new w1 _)
  have BW1 : Hid (Below w1.heap.size w1 W1) := by rw [hW1]; exact hid (thenA (Below.refl _ _) _)
  have B2 := hid (B1.out.trans (BW1.out.mono B1.out.size))
  have O2 := hid (Stk.OwnR.below O1.out BW1.out)
  obtain ⟨m1, hm1⟩ : ∃ m1, m1 = w1.heap.size := ⟨_, rfl⟩
  have BL1 : Hid (Blank w.heap.size m1 W1 a1 n) := by rw [hm1]; exact hid ((blank_of O1.out).below BW1.out)
  have hm1W : m1 ≤ W1.heap.size := by rw [hm1]; exact BW1.out.size
  have hk1w : k1 < W1.heap.size := (Array.getElem?_eq_some_iff.1 P1.out).1
  clear O1 B1 BW1 hm1
  go_upto_region 4 with fail
  rw [← hk1, ← hW1]
  clear hk1 hW1
  go_wp2_with fail
  refine (RX.out _).mono ?_
  rintro e w2 ⟨v2, rfl, hv2, hb2⟩
  obtain ⟨a2, c2, rfl, ho2⟩ := told_form hv2
  rw [HN.out] at ho2 ⊢
  rw [HX.out, HY.out]
  have O3 := hid (Stk.OwnR.below O2.out hb2)
  have BL3 := hid (BL1.out.below (hb2.mono hm1W))
  have Q3 := hid ho2
  have P3 := hid ((hb2.block _ hk1w).trans P1.out)
  have B3 := hid (B2.out.trans (hb2.mono B2.out.size))
  have hW12 := hb2.size
  clear hv2 ho2 hb2 O2 P1 B2 RX
  obtain ⟨k2, hk2⟩ : ∃ k2, k2 = w2.heap.size := ⟨_, rfl⟩
  obtain ⟨W2, hW2⟩ : ∃ W2, W2 = w2.alloc (.cells #[.int .i64 x, .int .i64 y] 26) := ⟨_, rfl⟩
  have P4 : Hid (W2.heap[k2]? = some (.cells #[.int .i64 x, .int .i64 y] 26 (0, 0))) := by rw [hW2, hk2]; exact hid (heap_alloc_new w2 _)
  have BW2 : Hid (Below w2.heap.size w2 W2) := by rw [hW2]; exact hid (thenA (Below.refl _ _) _)
  have hk1w2 : k1 < w2.heap.size := by omega
  have P4' := hid ((BW2.out.block _ hk1w2).trans P3.out)
  have O4 := hid (Stk.OwnR.below O3.out BW2.out)
  have Q4 := hid (Stk.OwnR.below Q3.out BW2.out)
  have B4 := hid (B3.out.trans (BW2.out.mono B3.out.size))
  have BL4 := hid (BL3.out.below (BW2.out.mono (by omega)))
  have hsz2 := BW2.out.size
  clear O3 Q3 P3 B3 BW2
  go_upto_region 5 with fail
  rw [← hk2, ← hW2]
  clear hk2 hW2
  obtain ⟨A4, -⟩ := OwnW.at O4.out
  obtain ⟨C4, -⟩ := OwnW.at Q4.out
  have S1 := hid (sameTok_yes a1 a2 n c1 c2 g.ws W2 HN.out (by omega) A4 C4)
  have S2 := hid (fun a c W h1 h2 => sameTok_yes a a2 n c c2 g.ws W HN.out (by omega) h1 h2)
  clear A4 C4 O4
  go_wp2_with fail
  refine S1.out.mono ?_
  rintro o w3 ⟨rfl, hb3⟩
  have P5 := hid ((hb3.block _ (Nat.lt_of_lt_of_le hk1w2 hsz2)).trans P4'.out)
  have P6 := hid ((hb3.block _ (Array.getElem?_eq_some_iff.1 P4.out).1).trans P4.out)
  have V3 : Hid (Over w w3 w.heap.size m1 W1.heap.size a1 n (.slice a2 n c2) g.ws) := hid ⟨B4.out.trans (hb3.mono B4.out.size), Stk.OwnR.below Q4.out hb3, BL4.out.below (hb3.mono (by omega))⟩
  obtain ⟨⟨f0, f1⟩, ⟨g0, g1⟩, _⟩ := row2 P5.out
  obtain ⟨⟨d0, d1⟩, ⟨e0, e1⟩, _⟩ := row2 P6.out
  clear hb3 P4 P4' B4 Q4 BL4 S1 P5 P6 hk1w2 hsz2 hk1w hW12
  go_wp2
  clear f0 f1 g0 g1 d0 d1 e0 e1
  go_loopw [7] (fun iv wr => ∃ i : Nat, iv = .int .i64 i ∧ i ≤ n ∧ Hid (Over w wr w.heap.size m1 W1.heap.size a1 n (.slice a2 n c2) g.ws)) (fun iv _ => n - (intOf iv).toNat)
  case atStart => exact ⟨0, rfl, Nat.zero_le _, V3⟩
  case round =>
    obtain ⟨i, rfl, hi, HV⟩ := hrel
    clear V3
    by_cases hlt : i < n
    · have hii : (i : Int) < (n : Int) := by omega
      obtain ⟨g1, ha1, hlo, hhi, hcs, -⟩ := blank_cell HV.out.blank hlt
      subst ha1
      obtain ⟨⟨u0, k0⟩, z0⟩ := hcs 0 (by omega)
      obtain ⟨⟨u1, k1'⟩, z1⟩ := hcs 1 (by omega)
      obtain ⟨⟨u2, k2'⟩, z2⟩ := hcs 2 (by omega)
      obtain ⟨⟨u3, k3⟩, z3⟩ := hcs 3 (by omega)
      rw [Nat.add_zero] at k0 z0
      have hgb : g1 < W1.heap.size := by omega
      have HV4 := hid ((((HV.out.set hlo hgb (i * 4) (.int .i64 0)).set hlo hgb (i * 4 + 1) (.int .i64 0)).set hlo hgb (i * 4 + 2) (.int .i64 0)).set hlo hgb (i * 4 + 3) (.string ⟨#[]⟩))
      clear hcs HV LX S2 A q1 q2
      go_wp2
      go_roundw
      case rel => exact ⟨i + 1, by go_num, by omega, HV4⟩
      case measure => simp [intOf]; omega
    · obtain rfl : i = n := by omega
      go_wp2_with fail
      refine (LX.out _ (H8.out.below HV.out.low) (HT.out.below HV.out.low)).mono ?_
      rintro e w5 ⟨v5, rfl, hv5, hb5⟩
      obtain ⟨a5, c5, rfl, ho5⟩ := told_form hv5
      rw [HN.out] at ho5 ⊢
      rw [HX.out, HY.out]
      obtain ⟨W5, hW5⟩ : ∃ W5, W5 = w5.alloc (.cells #[.int .i64 x, .int .i64 y] 26) := ⟨_, rfl⟩
      have BW5 : Hid (Below w5.heap.size w5 W5) := by rw [hW5]; exact hid (thenA (Below.refl _ _) _)
      have B6 := hid ((HV.out.low.trans (hb5.mono HV.out.low.size)).trans (BW5.out.mono (by have := HV.out.low.size; have := hb5.size; omega)))
      obtain ⟨A6, -⟩ := OwnW.at (Stk.OwnR.below ho5 BW5.out)
      obtain ⟨C6, -⟩ := OwnW.at (Stk.OwnR.below (Stk.OwnR.below HV.out.own hb5) BW5.out)
      have S3 := hid (S2.out a5 c5 W5 A6 C6)
      clear hv5 ho5 hb5 A6 C6 BW5 HV S2 LX
      go_upto_region 12 with fail
      rw [← hW5]
      clear hW5
      go_wp2_with fail
      refine S3.out.mono ?_
      rintro o w6 ⟨rfl, hb6⟩
      have B7 := hid (B6.out.trans (hb6.mono B6.out.size))
      clear hb6 S3 B6
      go_wp2_with fail
      refine (A.out _ (H8.out.below B7.out) (HT.out.below B7.out)).mono ?_
      rintro e w8 ⟨rfl, hb8⟩
      have B8 := hid (B7.out.trans (hb8.mono B7.out.size))
      clear hb8 A
      go_wp2
      go_ret
      exact ⟨rfl, B8.out⟩
end Go.Proofs.YtojgibigmoaejaaDoor.Lex
namespace Go.Proofs.YtojgibigmoaejaaDoor
theorem lexTells_walk (w : World) (s : ByteArray) (hT : Lex.Tabs8 w ∧ Lex.Words w) :
    Calls Tryd.prog 3 #[.string s] w fun e w' => e = .returned (.bool true) ∧ RowKit.Below w.heap.size w w' := Lex.tells_walk w s hT.1 hT.2
end Go.Proofs.YtojgibigmoaejaaDoor
