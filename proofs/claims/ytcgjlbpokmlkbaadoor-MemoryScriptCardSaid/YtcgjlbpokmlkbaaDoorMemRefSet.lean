/-
  MEMORY: the document's set by contract.
-/
import Derived.Test.YtcgjlbpokmlkbaaDoorMemRefDo
namespace Go.Proofs.YtcgjlbpokmlkbaaDoor.Mem
open Go.RowKit Go.Proofs.YtcgjlbpokmlkbaaDoor.Instr Go.Proofs.YtcgjlbpokmlkbaaDoor.Num
open Go.Proofs.YtcgjlbpokmlkbaaDoor.Stk (OwnR)
set_option linter.unusedVariables false

/-- The document's memory, with the bytes of m. -/
def RefIs (B : Nat) (W : World) (q K : Nat) (m : Mm) : Prop := ∃ v L, RefAt B W q v L m.n m.most ∧ valL L = m.f ∧ L.length ≤ K
def WroteR (B : Nat) (W : World) (q K : Nat) (m : Mm) (w' : World) : Prop := RefIs B w' q K m ∧ KeepR W w' ∧ Below B W w'
theorem RefIs.keep {B : Nat} {W W' : World} {q K : Nat} {m : Mm} (h : RefIs B W q K m) (hk : Keep W W') : RefIs B W' q K m := by
  obtain ⟨v, L, h1, h2, h3⟩ := h
  exact ⟨v, L, h1.keep hk, h2, h3⟩
theorem RefIs.below {B : Nat} {W W' : World} {q K : Nat} {m : Mm} (h : RefIs B W q K m) (hb : Below W.heap.size W W') : RefIs B W' q K m := h.keep (Keep.of_below hb)
theorem RefIs.mono {B : Nat} {W : World} {q K K2 : Nat} {m : Mm} (h : RefIs B W q K m) (hk : K ≤ K2) : RefIs B W q K2 m := by
  obtain ⟨v, L, h1, h2, h3⟩ := h
  exact ⟨v, L, h1, h2, Nat.le_trans h3 hk⟩
theorem keepR_grown {B : Nat} {w w' : World} {v : Value} {rs : List (List Value)} (h : OwnR 85 2 B w v rs) (hg : w.grownBy w' v.ownBlock) : KeepR w w' := by
  refine ⟨hg.os, hg.tape, hg.output, hg.size, fun j o hj ho => ?_⟩
  refine (hg.block j (Array.getElem?_eq_some_iff.1 hj).1 (fun e => ?_)).trans hj
  rcases h.row.2 with ⟨rfl, _⟩ | ⟨g, cap, cur, rfl, _, hh, _⟩
  · cases e
  · simp only [Value.ownBlock, Option.some.injEq] at e
    subst e
    rw [hh] at hj
    cases hj
    simp [isRef] at ho
theorem keepR_none {w w' : World} (hg : w.grownBy w' none) : KeepR w w' := ⟨hg.os, hg.tape, hg.output, hg.size, fun j o hj _ => (hg.block j (Array.getElem?_eq_some_iff.1 hj).1 (by simp)).trans hj⟩
/-- The box stands while the row grows. -/
theorem box_grown {B : Nat} {w w' : World} {v : Value} {rs : List (List Value)} {q : Nat} {C : Array Value} (h : OwnR 85 2 B w v rs) (hg : w.grownBy w' v.ownBlock) (hq : w.heap[q]? = some (.cells C 40 (0, 0))) : w'.heap[q]? = some (.cells C 40 (0, 0)) := by
  refine (hg.block q (Array.getElem?_eq_some_iff.1 hq).1 (fun e => ?_)).trans hq
  rcases h.row.2 with ⟨rfl, _⟩ | ⟨g, cap, cur, rfl, _, hh, _⟩
  · cases e
  · simp only [Value.ownBlock, Option.some.injEq] at e
    subst e
    rw [hh] at hq
    simp at hq
theorem ownR_slice {e : TypeId} {sz B : Nat} {w : World} {v : Value} {rs : List (List Value)} (h : OwnR e sz B w v rs) : ∃ a n c, v = .slice a n c := by
  obtain ⟨a, c, h, _⟩ := h.rows
  exact ⟨a, _, c, h⟩
theorem ownR_some {e : TypeId} {sz B : Nat} {w : World} {v : Value} {rs : List (List Value)} (h : OwnR e sz B w v rs) (h0 : 0 < rs.length) : ∃ g c, v = .slice (some ⟨g, 0, none⟩) rs.length c ∧ ∀ j u, rs.flatten[j]? = some u → w.cell? ⟨g, j, none⟩ = some u := by
  rcases h.row.2 with ⟨_, h1⟩ | ⟨g, cap, cur, rfl, hg, hh, h2, h3, h4, h5⟩
  · omega
  · refine ⟨g, cap, rfl, fun j u hj => ?_⟩
    have hl : j < rs.flatten.length := by
      rcases Nat.lt_or_ge j rs.flatten.length with h | h
      · exact h
      · rw [List.getElem?_eq_none h] at hj; cases hj
    rw [← h5] at hj
    rw [List.getElem?_take_of_lt (by rw [h.row.1] at hl; exact hl)] at hj
    simp only [World.cell?, hh]
    simpa using hj
theorem grown_below {w w' : World} (h : w.grownBy w' none) : Below w.heap.size w w' := ⟨h.os, h.tape, h.output, h.size, fun j hj => h.block j hj (by simp)⟩
theorem lit_cells (w : World) (A b : Int) (j : Nat) (u : Value) (hj : ([.int .i64 A, .int .u8 b] : List Value)[j]? = some u) : (w.alloc (.cells #[.int .i64 A, .int .u8 b] 85)).cell? ((⟨w.heap.size, 0, none⟩ : Addr).add j) = some u := by
  have hplain : (⟨w.heap.size, 0, none⟩ : Addr).add j = ⟨w.heap.size, j, none⟩ := by unfold Addr.add; split <;> simp_all
  rw [hplain]
  have : j = 0 ∨ j = 1 := by
    rcases Nat.lt_or_ge j 2 with h | h
    · omega
    · rw [List.getElem?_eq_none (by simpa using h)] at hj; cases hj
  rcases this with rfl | rfl
  · simp at hj; subst hj; go_simp
  · simp at hj; subst hj; go_simp
theorem add_plain (g j : Nat) : (⟨g, 0, none⟩ : Addr).add j = ⟨g, j, none⟩ := by unfold Addr.add; split <;> simp_all
theorem own_of_row {e : TypeId} {base base' n : Nat} {w : World} {v : Value} {xs : List Value} (h : w.ownsRow base e 2 v n xs) (hb : base' ≤ base) (rs : List (List Value)) (hn : rs.length = n) (hx : rs.flatten = xs) (hl : ∀ r ∈ rs, r.length = 2) : OwnR e 2 base' w v rs := by
  subst hn; subst hx
  refine ⟨⟨h.1, ?_⟩, hl⟩
  rcases h.2 with h0 | ⟨g, cap, cur, hv, hg, rest⟩
  · exact .inl h0
  · exact .inr ⟨g, cap, cur, hv, Nat.le_trans hb hg, rest⟩
/-- A row is laid in the box. -/
theorem RefAt.laid {B : Nat} {w : World} {q : Nat} {v v' : Value} {L' : List (Nat × Int)} {n most : Nat} (hb : w.heap[q]? = some (.cells #[.int .u32 n, .int .u32 most, v] 40 (0, 0))) (hq : B ≤ q) (hown : OwnR 85 2 B w v' (L'.map cellV)) (hr : Rising L')
    (hok : ∀ c ∈ L', c.1 < 4294967296 ∧ 0 ≤ c.2 ∧ c.2 < 256) (hl : L'.length ≤ 1000000) : RefAt B (w.setCell ⟨q, 2, none⟩ v') q v' L' n most ∧ Save q w (w.setCell ⟨q, 2, none⟩ v') := by
  have hs : Save q w (w.setCell ⟨q, 2, none⟩ v') := Save.setCell (Save.refl q w) (p := ⟨q, 2, none⟩) (.inl rfl) _
  refine ⟨⟨heap_setCell_same w q 2 _ _ v' hb, hq, OwnR.kept hown (fun g C hg => (hs.block g (Array.getElem?_eq_some_iff.1 hg).1 (fun e => by rw [e, hb] at hg; simp at hg)).trans hg), hr, hok, hl⟩, hs⟩
theorem setL_ok {L : List (Nat × Int)} {a i : Nat} {b : Int} (hi : isAt L a i = false) (hok : ∀ c ∈ L, c.1 < 4294967296 ∧ 0 ≤ c.2 ∧ c.2 < 256) (ha : a < 4294967296) (hb : 0 ≤ b ∧ b < 256) : setL L a i b = L.take i ++ (a, b) :: L.drop i ∧ ∀ c ∈ setL L a i b, c.1 < 4294967296 ∧ 0 ≤ c.2 ∧ c.2 < 256 := by
  have e : setL L a i b = L.take i ++ (a, b) :: L.drop i := by unfold setL; rw [if_neg (by rw [hi]; simp)]
  refine ⟨e, fun c hc => ?_⟩
  rw [e] at hc
  rcases List.mem_append.1 hc with h | h
  · exact hok c (List.mem_of_mem_take h)
  · rcases List.mem_cons.1 h with rfl | h
    · exact ⟨ha, hb⟩
    · exact hok c (List.mem_of_mem_drop h)

set_option maxRecDepth 100000 in
set_option maxHeartbeats 2000000 in
theorem set_any {B : Nat} {W : World} {q K : Nat} {m : Mm} (hI : RefIs B W q K m) (hB : B ≤ W.heap.size) (hK : K + 1 ≤ 1000000) (a : Nat) (b : Int) (ha : a < 4294967296) (hb : 0 ≤ b ∧ b < 256) :
    Calls Tryd.prog 46 #[.pointer (some ⟨q, 0, none⟩), .int .i64 a, .int .u8 b] W fun e w' => e = .returned (.tuple #[]) ∧ WroteR B W q (K + 1) { m with f := putF m.f a [b] } w' := by
  obtain ⟨v, L, h, hval, hlen⟩ := hI
  have C := hid (find_any h a (by omega))
  have HB := hid hB
  have HBB := hid hb
  have HA := hid ha
  have HL := hid hlen
  have HK := hid hK
  have H := hid h
  have HVAL := hid hval
  obtain ⟨A, hA⟩ : ∃ A : Int, (a : Int) = A := ⟨_, rfl⟩
  rw [hA] at C ⊢
  have HAA := hid hA
  clear hA hB hb ha hlen hK h hval
  go_enter Tryd.func46, Tryd.ntmps46
  go_wp2_with fail
  refine C.out.mono ?_
  rintro e w1 ⟨⟨i, hsp, rfl⟩, hbe⟩
  have H1 := hid (H.out.below hbe)
  have HBE := hid hbe
  have HSP := hid hsp
  have HEND := hid (fun (w' : World) (v' : Value) (h1 : RefAt B w' q v' (setL L a i b) m.n m.most) (h2 : KeepR w1 w') (h3 : Below B w1 w') => (show WroteR B W q (K + 1) { m with f := putF m.f a [b] } w' from
    ⟨⟨v', setL L a i b, h1, by rw [setL_val hsp H.out.rising, HVAL.out], Nat.le_trans (setL_length hsp) (by have := HL.out; omega)⟩, (KeepR.of_below hbe).trans h2, (hbe.mono HB.out).trans h3⟩))
  obtain ⟨g, c, ad, rfl, hlc, had, hcell⟩ := H1.out.slice
  have c2 := H1.out.cells.2.2
  obtain ⟨N, hN⟩ : ∃ N, L.length = N := ⟨_, rfl⟩
  have HN := hid hN
  have hlcI : (N : Int) ≤ (c : Int) := by omega
  have hiN : i ≤ N := by have := hsp.le; omega
  have hNb : N ≤ 1000000 := by have := HL.out; have := HK.out; omega
  cases hi : isAt L a i
  · by_cases hin : i = N
    · subst hin
      have HSO := hid (setL_ok (b := b) hi H.out.ok HA.out HBB.out)
      rw [hN] at c2
      have own1 := H1.out.row
      have hb1 : B ≤ w1.heap.size := Nat.le_trans HB.out hbe.size
      have hwl : Below w1.heap.size w1 (w1.alloc (.cells #[.int .i64 A, .int .u8 b] 85)) := thenA (Below.refl _ _) _
      have ownl := own1.below hwl
      have hnews : ∀ (j : Nat) (u : Value), ([cellV (a, b)] : List (List Value)).flatten[j]? = some u → (w1.alloc (.cells #[.int .i64 A, .int .u8 b] 85)).cell? ((⟨w1.heap.size, 0, none⟩ : Addr).add j) = some u := by
        intro j u hj
        have hplain : (⟨w1.heap.size, 0, none⟩ : Addr).add j = ⟨w1.heap.size, j, none⟩ := by unfold Addr.add; split <;> simp_all
        rw [hplain]
        have hA := HAA.out
        simp only [cellV, List.flatten_cons, List.flatten_nil, List.append_nil, hA] at hj
        have : j = 0 ∨ j = 1 := by
          rcases Nat.lt_or_ge j 2 with h | h
          · omega
          · rw [List.getElem?_eq_none (by simpa using h)] at hj; cases hj
        rcases this with rfl | rfl
        · simp at hj; subst hj; go_simp
        · simp at hj; subst hj; go_simp
      have hb0 : Below B w1 (w1.alloc (.cells #[.int .i64 A, .int .u8 b] 85)) := hwl.mono hb1
      have hbl : B ≤ (w1.alloc (.cells #[.int .i64 A, .int .u8 b] 85)).heap.size := by simp; omega
      have boxl := hwl.block q (Array.getElem?_eq_some_iff.1 H1.out.box).1 |>.trans H1.out.box
      have HFIN := hid (fun (v' : Value) (w' : World) (hown : OwnR 85 2 B w' v' (L.map cellV ++ [cellV (a, b)])) (hbw : Below B w1 w') (hgr : (w1.alloc (.cells #[.int .i64 A, .int .u8 b] 85)).grownBy w' (Value.slice ad i c).ownBlock) =>
        (show w'.heap[q]? = some (.cells #[.int .u32 m.n, .int .u32 m.most, .slice ad L.length c] 40 (0, 0)) ∧ WroteR B W q (K + 1) { m with f := putF m.f a [b] } (w'.setCell ⟨q, 2, none⟩ v') from by
          have hgr2 : (w1.alloc (.cells #[.int .i64 A, .int .u8 b] 85)).grownBy w' (Value.slice ad L.length c).ownBlock := by rw [hN]; exact hgr
          have hbx := box_grown ownl hgr2 boxl
          have hset : setL L a i b = L ++ [(a, b)] := by rw [HSO.out.1, ← hN, List.take_length, List.drop_length]
          have hla := RefAt.laid (L' := setL L a i b) hbx H1.out.bq (by rw [hset, List.map_append]; exact hown) (setL_rising hsp H.out.rising) HSO.out.2 (by rw [hset]; simp; have := HL.out; have := HK.out; omega)
          exact ⟨hbx, HEND.out _ v' hla.1 (((KeepR.of_below hwl).trans (keepR_grown ownl hgr2)).trans (KeepR.of_save hla.2 hbx (by simp [isRef]))) (hbw.trans (hla.2.below (Nat.le_trans hb1 (Nat.le_trans hwl.size hgr.size)) H1.out.bq))⟩))
      have hut := Tryd.underlying38
      rw [hN] at ownl HFIN
      have hlm : (L.map cellV).length + 1 ≤ 1000000000 := by simp; omega
      have HNI := hid hN
      clear hcell had H1 C HEND H own1 hwl hi hsp hbe boxl hN
      go_wp2_with (refine Stk.append_rows infoCell rfl (by decide) (by decide) hut rfl (.tmp 35) (.tmp 39) rfl (xs := L.map cellV) [cellV (a, b)] (by go_simp) ownl hb0 hbl ⟨w1.heap.size, 0, none⟩ 1 1 rfl (by go_simp) (by simp [cellV]) hnews (cellV_one [(a, b)]) hlm ?_; intro v' w' hown' hbw' hsz' hgrow'; obtain ⟨a9, n9, c9, rfl⟩ := ownR_slice hown'; have hF := HFIN.out _ w' hown' hbw' hgrow'; have c2' : w'.cell? ⟨q, 2, none⟩ = some (.slice ad i c) := (by simp [World.cell?, hF.1]); have f2' : w'.frozen? ⟨q, 2, none⟩ = false := frozen_of_row w' q 2 _ _ hF.1; have HFF := hid hF.2; clear hF HFIN hown' hbw' hsz' hgrow' hnews ownl)
      go_wp2
      refine bodyPost_ret (results_none rfl _ _ _) rfl ?_
      exact ⟨rfl, HFF.out⟩
    · have hiI : (i : Int) < (N : Int) := by omega
      have hNpos : 0 < L.length := by omega
      have hadd := had hNpos
      subst hadd
      have HSO := hid (setL_ok (b := b) hi H.out.ok HA.out HBB.out)
      rw [hN] at c2
      have hb1 : B ≤ w1.heap.size := Nat.le_trans HB.out hbe.size
      obtain ⟨i0, hi0, hz0, hz1, hz2⟩ := info_parts infoCell
      have hut := Tryd.underlying38
      have hwe : Below w1.heap.size w1 (w1.alloc (.cells #[] 85)) := thenA (Below.refl _ _) _
      have ownE := OwnR.made 85 2 w1
      have hsE : w1.heap.size ≤ (w1.alloc (.cells #[] 85)).heap.size := by simp
      have hgl : g < w1.heap.size := World.block_lt_of_cell? w1 _ (hcell 0 hNpos).1
      have hyl : ((L.drop i).map cellV).length = N - i := by simp [hN]
      have hrE : Stk.Rows (w1.alloc (.cells #[] 85)).heap.size (w1.alloc (.cells #[] 85)) (some ⟨g, i * 2, none⟩) 2 ((L.drop i).map cellV) := by
        refine .inr ⟨g, i * 2, rfl, by simp; omega, fun k hk j hj u hu => ?_⟩
        rw [hyl] at hk
        have hc := hcell (i + k) (by omega)
        have hd : ((L.drop i).map cellV).getD k [] = cellV (L.getD (i + k) (0, 0)) := by
          rw [List.getD_eq_getElem?_getD, List.getElem?_map, List.getElem?_drop, List.getElem?_eq_getElem (by omega), getD_lt2 (by omega)]
          rfl
        rw [hd] at hu
        have hj2 : j = 0 ∨ j = 1 := by omega
        rcases hj2 with rfl | rfl
        · simp only [cellV, List.getElem?_cons_zero, Option.some.injEq] at hu
          rw [← hu, show i * 2 + k * 2 + 0 = (i + k) * 2 by omega]
          exact keep hwe hc.1
        · simp only [cellV, List.getElem?_cons_succ, List.getElem?_cons_zero, Option.some.injEq] at hu
          rw [← hu, show i * 2 + k * 2 + 1 = (i + k) * 2 + 1 by omega]
          exact keep hwe hc.2
      have hyb : ((L.drop i).map cellV).length ≤ 1000000000 := by rw [hyl]; omega
      have HTK := hid (fun (w : World) (hb : Below w1.heap.size w1 w) => (show ∀ j u, ((L.take i).map cellV).flatten[j]? = some u → w.cell? ⟨g, j, none⟩ = some u from fun j u hj => by
        have hl : j < ((L.take i).map cellV).flatten.length := by
          rcases Nat.lt_or_ge j ((L.take i).map cellV).flatten.length with h | h
          · exact h
          · rw [List.getElem?_eq_none h] at hj; cases hj
        have hl2 : ((L.take i).map cellV).flatten.length = i * 2 := by rw [Stk.flat_length _ (cellV_len _)]; simp; omega
        have hq : j / 2 < (L.take i).length := by simp; omega
        have hg := Stk.flat_get ((L.take i).map cellV) (cellV_len _) (j / 2) (j % 2) (by simpa using hq) (by omega)
        rw [show j / 2 * 2 + j % 2 = j by omega, hj] at hg
        have hd : ((L.take i).map cellV).getD (j / 2) [] = cellV (L.getD (j / 2) (0, 0)) := by
          rw [List.getD_eq_getElem?_getD, List.getElem?_map, List.getElem?_take_of_lt (by omega), List.getElem?_eq_getElem (by omega), getD_lt2 (by omega)]
          rfl
        rw [hd] at hg
        have hc := hcell (j / 2) (by omega)
        have hj2 : j % 2 = 0 ∨ j % 2 = 1 := by omega
        rcases hj2 with h2 | h2
        · rw [h2] at hg
          simp only [cellV, List.getElem?_cons_zero, Option.some.injEq] at hg
          rw [hg, show j = j / 2 * 2 by omega]
          have := keep hb hc.1
          rw [show j / 2 * 2 / 2 = j / 2 by omega]
          exact this
        · rw [h2] at hg
          simp only [cellV, List.getElem?_cons_succ, List.getElem?_cons_zero, Option.some.injEq] at hg
          rw [hg]
          have := keep hb hc.2
          rw [show j / 2 * 2 + 1 = j by omega] at this
          exact this))
      have HTL := hid (show ((L.take i).map cellV).flatten.length = i * 2 from by rw [Stk.flat_length _ (cellV_len _)]; simp; omega)
      have HFIN := hid (fun (v' : Value) (w' : World) (hown : OwnR 85 2 w1.heap.size w' v' ((L.take i).map cellV ++ [cellV (a, b)] ++ (L.drop i).map cellV)) (hbw : Below w1.heap.size w1 w') =>
        (show w'.heap[q]? = some (.cells #[.int .u32 m.n, .int .u32 m.most, .slice (some ⟨g, 0, none⟩) L.length c] 40 (0, 0)) ∧ WroteR B W q (K + 1) { m with f := putF m.f a [b] } (w'.setCell ⟨q, 2, none⟩ v') from by
          have hbx := (hbw.block q (Array.getElem?_eq_some_iff.1 H1.out.box).1).trans H1.out.box
          have hla := RefAt.laid (L' := setL L a i b) hbx H1.out.bq (OwnR.mono (by rw [HSO.out.1, List.map_append, List.map_cons]; simpa using hown) hb1) (setL_rising hsp H.out.rising) HSO.out.2 (by have h1 := setL_length (b := b) hsp; have := HL.out; have := HK.out; omega)
          exact ⟨hbx, HEND.out _ v' hla.1 ((KeepR.of_below hbw).trans (KeepR.of_save hla.2 hbx (by simp [isRef]))) ((hbw.mono hb1).trans (hla.2.below (Nat.le_trans hb1 hbw.size) H1.out.bq))⟩))
      have HQB := hid (fun (w : World) (hb : Below w1.heap.size w1 w) => (show w.cell? ⟨q, 2, none⟩ = some (.slice (some ⟨g, 0, none⟩) N c) from keep hb c2))
      have HWE := hid hwe
      have hnci : ¬ c = i := by omega
      have hicI : (i : Int) ≤ (c : Int) := by omega
      have hic2 : i ≤ c := by omega
      have c2E := HQB.out _ hwe
      have hinI : ¬ (i : Int) = (N : Int) := by omega
      rw [hN] at HFIN
      clear hcell had H1 C HEND H hi hsp hbe hN hNpos hwe hgl
      have HG5 := hid (fun (v2 : Value) (w2 : World) (hown2 : OwnR 85 2 w1.heap.size w2 v2 ((L.drop i).map cellV)) (hb2 : Below w1.heap.size (w1.alloc (.cells #[] 85)) w2) => (show ∃ g2 cc, v2 = .slice (some ⟨g2, 0, none⟩) (N - i) cc ∧ (∀ j u, ((L.drop i).map cellV).flatten[j]? = some u → w2.cell? ⟨g2, j, none⟩ = some u) ∧ Below w1.heap.size w1 w2 from by
        obtain ⟨g2, cc, h1, h2⟩ := ownR_some hown2 (by rw [hyl]; omega)
        rw [hyl] at h1
        exact ⟨g2, cc, h1, h2, HWE.out.trans hb2⟩))
      have HG6 := hid (fun (v3 : Value) (w2 w3 : World) (hbw : Below w1.heap.size w1 w2) (h3 : w3.ownsRow (w2.alloc (.cells #[.int .i64 A, .int .u8 b] 85)).heap.size 85 2 v3 (i + 1) (((L.take i).map cellV).flatten ++ [.int .i64 A, .int .u8 b])) (hg3 : (w2.alloc (.cells #[.int .i64 A, .int .u8 b] 85)).grownBy w3 none) =>
        (show OwnR 85 2 w1.heap.size w3 v3 ((L.take i).map cellV ++ [cellV (a, b)]) ∧ Below w1.heap.size w1 w3 from by
          have hbl := thenA hbw (.cells #[.int .i64 A, .int .u8 b] 85)
          refine ⟨own_of_row h3 hbl.size _ (by have := HN.out; simp; omega) ?_ ?_, hbl.trans ((grown_below hg3).mono hbl.size)⟩
          · have := HAA.out
            simp [cellV, this]
          · intro r hr
            rcases List.mem_append.1 hr with h | h
            · exact cellV_len _ r h
            · simp at h; subst h; rfl))
      have hold := fun (w : World) (hb : Below w1.heap.size w1 w) (b0 : Addr) (e : some (⟨g, 0, none⟩ : Addr) = some b0) (j : Nat) (u : Value) (hj : ((L.take i).map cellV).flatten[j]? = some u) => (show w.cell? (b0.add j) = some u from by
        simp only [Option.some.injEq] at e
        rw [← e, add_plain]
        exact HTK.out w hb j u hj)
      have HOLD := hid hold
      have hone : ∀ u ∈ ([.int .i64 A, .int .u8 b] : List Value), u.oneCell' = true := by
        intro u hu
        simp only [List.mem_cons, List.not_mem_nil, or_false] at hu
        rcases hu with rfl | rfl <;> rfl
      have hm1 : i + 1 ≤ maxLen := by unfold maxLen; omega
      have hm2 : (i + 1) * 16 ≤ 140737488355328 := by omega
      have hm3 : ((L.take i).map cellV ++ [cellV (a, b)]).length + (N - i) ≤ 1000000000 := by simp; omega
      have HM3 := hid hm3
      clear hold hm3
      go_wp2_with (first
        | (refine Stk.append_list infoCell rfl (by decide) (by decide) hut rfl (.tmp 43) (.tmp 49) rfl (by go_simp) ownE hsE (some ⟨g, i * 2, none⟩) (N - i) (c - i) (by go_simp) ((L.drop i).map cellV) hyl hrE (cellV_len _) (cellV_one _) hyb ?_
           intro v2 w2 hown2 hb2 hsz2
           obtain ⟨g2, cc, rfl, hc2, hbw2⟩ := HG5.out v2 w2 hown2 hb2
           have c2w := HQB.out w2 hbw2
           have hwl := hid (thenA hbw2 (.cells #[.int .i64 A, .int .u8 b] 85))
           have HC2 := hid hc2
           have HBW2 := hid hbw2
           clear hown2 hb2 hsz2 HG5 ownE hrE hc2 hbw2)
        | (refine wpList_append_grows _ rfl (.tmp 58) (.tmp 62) _ rfl 85 i0 (.agg #[.int .i64 0, .int .u8 0]) 2 16 hut hi0 hz0 hz1 hz2 rfl (by decide) (some ⟨g, 0, none⟩) i i ((L.take i).map cellV).flatten (by go_simp) (fun h => by cases h) HTL.out (HOLD.out _ hwl.out) ⟨w2.heap.size, 0, none⟩ 1 1 [.int .i64 A, .int .u8 b] (by go_simp) rfl (lit_cells w2 A b) hone (by omega) hm1 hm2 ?_
           intro v3 w3 hown3 hgr3
           obtain ⟨own3, hb3⟩ := HG6.out v3 w2 w3 HBW2.out hown3 hgr3
           have hsz3 := hb3.size
           have hnews3 := fun (j : Nat) (u : Value) (hj : ((L.drop i).map cellV).flatten[j]? = some u) => (show w3.cell? ((⟨g2, 0, none⟩ : Addr).add j) = some u from by
             rw [add_plain]
             exact keep (thenB (thenA (Below.refl w2.heap.size w2) _) (grown_below hgr3)) (HC2.out j u hj))
           clear hown3 hgr3 HG6)
        | (refine Stk.append_rows infoCell rfl (by decide) (by decide) hut rfl (.tmp 63) (.tmp 64) rfl (xs := (L.take i).map cellV ++ [cellV (a, b)]) ((L.drop i).map cellV) rfl own3 hb3 hsz3 ⟨g2, 0, none⟩ (N - i) cc hyl (by go_simp) (cellV_len _) hnews3 (cellV_one _) HM3.out ?_
           intro v4 w4 hown4 hb4 hsz4 hgr4
           obtain ⟨a9, n9, c9, rfl⟩ := ownR_slice hown4
           have hF := HFIN.out _ w4 hown4 hb4
           have c2' : w4.cell? ⟨q, 2, none⟩ = some (.slice (some ⟨g, 0, none⟩) N c) := (by simp [World.cell?, hF.1])
           have f2' : w4.frozen? ⟨q, 2, none⟩ = false := frozen_of_row w4 q 2 _ _ hF.1
           have HFF := hid hF.2
           clear hF HFIN hown4 hb4 hsz4 hgr4 own3 hb3 hsz3 hnews3))
      go_wp2
      go_end0
      exact ⟨rfl, HFF.out⟩
  · have hi2 : i < L.length := by simp [isAt] at hi; exact hi.1
    have hadd := had (by omega)
    subst hadd
    have hst := H1.out.store hsp hi HBB.out
    have k1 := (hcell i hi2).2
    have f1 : w1.frozen? ⟨g, i * 2 + 1, none⟩ = false := by
      obtain ⟨_, _, cur, hcur, _⟩ := hst
      exact frozen_of_row w1 g _ _ _ hcur
    have HE2 := hid (show WroteR B W q (K + 1) { m with f := putF m.f a [b] } (w1.setCell ⟨g, i * 2 + 1, none⟩ (.int .u8 b)) from by
      obtain ⟨h1, h2, cur, hcur, hg⟩ := hst
      exact HEND.out _ _ h1 (KeepR.of_save h2 hcur (by simp [isRef])) (h2.below (Nat.le_trans HB.out hbe.size) hg))
    obtain ⟨u, hu⟩ : ∃ u, (L.getD i (0, 0)).2 = u := ⟨_, rfl⟩
    rw [hu] at k1
    rw [hN] at c2 hi2 hlc
    have hiI : (i : Int) < (N : Int) := by omega
    clear hst hcell had HEND H1 H C hi hsp hbe hu
    go_wp2
    refine bodyPost_ret (results_none rfl _ _ _) rfl ?_
    exact ⟨rfl, HE2.out⟩
end Go.Proofs.YtcgjlbpokmlkbaaDoor.Mem
