import Derived.Test.YtepbjkkakfpjgaaGreatDoorBun01
import Derived.Laws.AppendOwnNone
import Derived.Lib.AppendZeros
import Derived.BigQuiet
import Derived.Deep.QuietTactic
import Derived.Lib.SlBuf
import Derived.Lib.MakeNoZero
import Derived.Deep.RegionLaw
import Derived.Laws.Externs
import Derived.IntWalk
import Derived.Defers
import Derived.FnLit
import Derived.Deep.RegionHeld3
import Derived.Laws.BytesArg
import Derived.Deep.RegionHeldLaw
/-
  Appends to a list of bytes that the call itself made: one byte; whatever bytes another slice holds.
-/
namespace Go.Proofs.YtepbjkkakfpjgaaGreatDoor
open Go.RowKit

section
variable {ops : Array Oper} {rest : List Oper} {o : Oper} {act : Act} {Q : Exit → Act → World → Prop}

theorem append_byte (hgd : o.guard = none) (s x : Operand) (ho : o.op = .call { callee := .builtin .append, args := #[s, x], argTypes := #[35, 35] })
    {base : Nat} {w0 wr : World} {v : Value} {xs : List Int} (z : Int) (hs : act.eval s = v) (hown : Own base wr v xs) (hb : Below base w0 wr) (hbase : base ≤ wr.heap.size)
    (hx : act.eval x = .slice (some ⟨wr.heap.size, 0, none⟩) 1 1) (hl : xs.length ≤ 140737488351232)
    (h : ∀ v' w', Own base w' v' (xs ++ [z]) → Below base w0 w' → base ≤ w'.heap.size → wpList Tryz.prog ops Q rest (act.put o.dst v') w') :
    wpList Tryz.prog ops Q (o :: rest) act (wr.alloc (.cells #[.int .u8 z] 5)) := by
  obtain ⟨i0, hi, hz0, hz1, hz2⟩ := info_parts infoByte
  refine wpList_append_own _ hgd s x 35 ho base 5 i0 (.int .u8 0) 1 1 Tryz.underlying35 hi hz0 hz1 hz2 rfl (by decide) v xs.length _ hs (World.ownsRow.alloc hown _) ⟨wr.heap.size, 0, none⟩ 1 1 [.int .u8 z] hx rfl
    ?_ ?_ ?_ ?_ ?_ (fun v' w' hown' hgrow _ => ?_)
  · intro j u hj
    match j, hj with
    | 0, hj => simp at hj; subst hj; simp [Addr.add]
  · intro u hu; simp at hu; subst hu; rfl
  · unfold maxLen; omega
  · omega
  · simp; omega
  · have hb' := below_append hown hb _ hbase hgrow
    refine h v' w' (Own.of_snoc rfl hown') hb' ?_
    have := hgrow.size; simp at this; omega

theorem append_bytes (hgd : o.guard = none) (s x : Operand) (ho : o.op = .call { callee := .builtin .append, args := #[s, x], argTypes := #[35, 35] })
    {base : Nat} {w0 wr : World} {v : Value} {xs ys : List Int} (hs : act.eval s = v) (hown : Own base wr v xs) (hb : Below base w0 wr) (hbase : base ≤ wr.heap.size)
    (a2 : Option Addr) (n c : Nat) (hx : act.eval x = .slice a2 n c) (hnil : a2 = none → c = 0) (hn : ys.length = n) (hy : Bytes wr a2 ys) (hl : xs.length + ys.length ≤ 140737488355328)
    (h : ∀ v' w', Own base w' v' (xs ++ ys) → Below base w0 w' → base ≤ w'.heap.size → wpList Tryz.prog ops Q rest (act.put o.dst v') w') :
    wpList Tryz.prog ops Q (o :: rest) act wr := by
  obtain ⟨i0, hi, hz0, hz1, hz2⟩ := info_parts infoByte
  subst hn
  have fin : ∀ v' w', w'.ownsRow base 5 1 v' (xs.length + ys.length) (xs.map (Value.int .u8) ++ ys.map (Value.int .u8)) → wr.grownBy w' v.ownBlock → wpList Tryz.prog ops Q rest (act.put o.dst v') w' := by
    intro v' w' hown' hgrow
    refine h v' w' ?_ (hb.grown hgrow (by omega) (fun k hk => (World.ownsRow.lt hown k hk).1)) (by have := hgrow.size; omega)
    unfold Own; rw [List.length_append, List.map_append]; exact hown'
  rcases hy.at_ with h0 | ⟨b, off, rfl, hc⟩
  · subst h0
    cases a2 with
    | none =>
      rw [hnil rfl] at hx
      exact wpList_append_own_none hgd s x 35 ho base 5 i0 1 Tryz.underlying35 hi v xs.length _ hs hown hx (h v wr (by simpa using hown) hb hbase)
    | some ad =>
      refine wpList_append_own _ hgd s x 35 ho base 5 i0 (.int .u8 0) 1 1 Tryz.underlying35 hi hz0 hz1 hz2 rfl (by decide) v xs.length _ hs hown ad 0 c [] hx rfl
        (by simp) (by simp) ?_ ?_ hbase (fun v' w' hown' hgrow _ => fin v' w' (by simpa using hown') hgrow)
      · unfold maxLen; simp at hl; omega
      · simp at hl; omega
  · refine wpList_append_own _ hgd s x 35 ho base 5 i0 (.int .u8 0) 1 1 Tryz.underlying35 hi hz0 hz1 hz2 rfl (by decide) v xs.length _ hs hown ⟨b, off, none⟩ ys.length c (ys.map (Value.int .u8)) hx (by simp)
      ?_ ?_ ?_ ?_ hbase (fun v' w' hown' hgrow _ => fin v' w' hown' hgrow)
    · intro j u hj
      have hjl : j < ys.length := by
        rcases Nat.lt_or_ge j ys.length with h | h
        · exact h
        · rw [List.getElem?_eq_none (by simpa using h)] at hj; cases hj
      have hplain : (⟨b, off, none⟩ : Addr).add j = ⟨b, off + j, none⟩ := by unfold Addr.add; split <;> simp_all
      rw [hplain, hc j hjl]
      rw [← hj, getD_lt hjl]; simp [hjl]
    · intro u hu
      obtain ⟨n, _, rfl⟩ := List.mem_map.1 hu
      rfl
    · unfold maxLen; omega
    · omega
end
end Go.Proofs.YtepbjkkakfpjgaaGreatDoor

/-
  slices.Grow of the nil slice, slices.Concat of slices of bytes: by contracts.
-/
namespace Go.Proofs.YtepbjkkakfpjgaaGreatDoor.Kind
open Go.RowKit

theorem own_new (w : World) (n : Nat) (xs : Array Value) (hs : xs.size = n) (hm : n ≤ maxLen) :
    Own w.heap.size (w.drew.alloc (.cells xs 5)) (.slice (some ⟨w.heap.size, 0, none⟩) 0 n) [] := by
  refine ⟨rfl, .inr ⟨w.heap.size, n, xs, rfl, Nat.le_refl _, ?_, Nat.zero_le _, hm, by omega, by simp⟩⟩
  show (w.heap.push _)[w.heap.size]? = _
  simp

set_option maxHeartbeats 800000 in
theorem grow_any (n : Nat) (h0 : 0 < n) (hn : n ≤ 1000000) (w : World) :
    Calls Tryz.prog 227 #[.slice none 0 0, .int .i64 n] w (Gives w []) := by
  obtain ⟨i0, hi, hz0, hz1, hz2⟩ := info_parts infoByte
  have hr := fun ty => Lib.run_append_nil_zeros w 35 3 ty 5 i0 (.int .u8 0) .i64 .i64 Tryz.underlying35 Tryz.underlying3 hi hz0 n h0 (by omega) (by omega) (by rw [hz2]; omega)
  have hG : n ≤ grownCap w n 0 5 := grownCap_ge w _ _ _
  have hG2 := grownCap_le_maxLen w n 0 5 (by unfold maxLen; omega)
  have hown := fun xs hs => own_new w (grownCap w n 0 5) xs hs hG2
  have hsz : (Builtin.zeroCells (Value.int IntKind.u8 0).cells n ++ Builtin.zeroCells (Value.int IntKind.u8 0).cells (grownCap w n 0 5 - n)).size = grownCap w n 0 5 := by
    simp [Builtin.zeroCells, Value.cells]; omega
  have hown := hown _ hsz
  generalize grownCap w n 0 5 = G at *
  generalize Builtin.zeroCells (Value.int IntKind.u8 0).cells n ++ Builtin.zeroCells (Value.int IntKind.u8 0).cells (G - n) = xs at *
  have hb : Below w.heap.size w (w.drew.alloc (.cells xs 5)) := (Below.refl _ _).drew.alloc (Nat.le_refl _) _
  have HB := hid hb
  have HO := hid hown
  have hn0 : ¬ ((n : Int) < 0) := by omega
  have hn1 : (0 : Int) < (n : Int) := by omega
  have hi1 : (0 : Int) ≤ (G : Int) := by omega
  have hm : (G : Int) ≤ 9223372036854775807 := by unfold maxLen at hG2; omega
  clear hb hown hsz hi hz0 hz1 hz2 hG2
  generalize w.drew.alloc (.cells xs 5) = w9 at *
  go_enter Tryz.func227, Tryz.ntmps227
  go_wp2_with (at_builtin; refine Lib.wpList_append_run _ rfl _ _ _ _ rfl _ _ rfl rfl _ _ (hr _) ?_)
  go_ret
  exact ⟨_, rfl, HO, HB⟩

/-- The cells from ⟨g, 0⟩ on hold slices of these bytes. -/
def Parts (w : World) (g : Nat) (ls : List (List Int)) : Prop := ∀ j, j < ls.length → ∃ a c, w.cell? ⟨g, j, none⟩ = some (.slice a (ls.getD j []).length c) ∧ Bytes w a (ls.getD j []) ∧ (a = none → c = 0)
theorem Parts.below {w w' : World} {g : Nat} {ls : List (List Int)} (h : Parts w g ls) (hb : Below w.heap.size w w') : Parts w' g ls := fun j hj => by
  obtain ⟨a, c, h1, h2, h3⟩ := h j hj
  exact ⟨a, c, keep hb h1, h2.below hb, h3⟩
theorem flat_succ {ls : List (List Int)} {i : Nat} (hi : i < ls.length) : (ls.take (i + 1)).flatten = (ls.take i).flatten ++ ls.getD i [] := by
  rw [List.take_succ_eq_append_getElem hi, List.flatten_append, List.getD_eq_getElem?_getD, List.getElem?_eq_getElem hi]; simp
theorem flat_le (ls : List (List Int)) (i : Nat) : (ls.take i).flatten.length ≤ ls.flatten.length := by
  conv => rhs; rw [← List.take_append_drop i ls, List.flatten_append, List.length_append]
  omega

set_option maxHeartbeats 1600000 in
theorem concat_any (g n cap : Nat) (ls : List (List Int)) (w : World) (hn : ls.length = n) (hp : Parts w g ls) (h0 : 0 < ls.flatten.length) (hmax : ls.flatten.length ≤ 100000) (hn9 : n ≤ 9) :
    Calls Tryz.prog 211 #[.slice (some ⟨g, 0, none⟩) n cap] w (Gives w ls.flatten) := by
  have HN := hid hn
  have HP := hid hp
  have hle := flat_le ls
  have hs := fun i hi => flat_succ (ls := ls) (i := i) hi
  have HLE := hid hle
  have HS := hid hs
  have HA : Hid ((ls.take n).flatten = ls.flatten) := hid (by rw [← hn, List.take_length])
  clear hn hp hle hs
  go_enter Tryz.func211, Tryz.ntmps211
  go_wp2
  go_loop [3, 11] (fun ss si => ∃ i : Nat, i ≤ n ∧ si = .int .i64 i ∧ ss = .int .i64 ((ls.take i).flatten.length : Nat)) (fun _ si => n - (intOf si).toNat)
  case atStart => exact ⟨0, by omega, rfl, rfl⟩
  case round =>
    obtain ⟨i, hi, rfl, rfl⟩ := hrel
    by_cases hlt : i < n
    · obtain ⟨a, c, hc, _, _⟩ := HP.out i (by have := HN.out; omega)
      have h1 := HLE.out (i + 1)
      have h2 := HS.out i (by have := HN.out; omega)
      have h3 := congrArg List.length h2
      rw [List.length_append] at h3
      have H3 := hid h3
      clear h2 h3
      generalize (ls.getD i []).length = p at *
      generalize hq : (ls.take i).flatten.length = q at *
      clear hq
      have hle2 : q + p ≤ 100000 := by have := H3.out; omega
      go_wp2
      go_round
      case rel => exact ⟨i + 1, by omega, by go_num, by rw [H3.out]; go_num⟩
      case measure => simp [intOf]; omega
    · obtain rfl : i = n := by omega
      rw [HA.out]
      obtain ⟨t, ht⟩ : ∃ t, ls.flatten.length = t := ⟨_, rfl⟩
      have HT := hid ht
      rw [ht] at h0 hmax
      rw [ht]
      clear ht
      go_wp2_with fail
      refine (grow_any t h0 (by omega) _).mono ?_
      rintro e w1 ⟨v, rfl, ho, hb⟩
      obtain ⟨a1, c1, rfl⟩ := ho.sliceN (n := 0) rfl
      go_wp2
      go_loopw [6, 27] (fun sv si wr => ∃ j : Nat, j ≤ i ∧ si = .int .i64 j ∧ Own w.heap.size wr sv (ls.take j).flatten ∧ Below w.heap.size w wr) (fun _ si _ => i - (intOf si).toNat)
      case atStart => exact ⟨0, by omega, rfl, ho, hb⟩
      case round =>
        obtain ⟨j, hj, rfl, hown, hbw⟩ := hrel
        obtain ⟨m, hm⟩ : ∃ m, (ls.take j).flatten.length = m := ⟨_, rfl⟩
        obtain ⟨av, cv, rfl⟩ := hown.sliceN hm
        have HM := hid hm
        clear hm
        by_cases hlj : j < i
        · obtain ⟨a, c, hc, hy, hnil⟩ := (Parts.below HP.out hbw) j (by have := HN.out; omega)
          have h1 := HLE.out (j + 1)
          have h2 := HS.out j (by have := HN.out; omega)
          have h3 := congrArg List.length h2
          rw [List.length_append] at h3
          have H2 := hid h2
          have hmm := HM.out
          have htt := HT.out
          have hle2 : (ls.take j).flatten.length + (ls.getD j []).length ≤ 100000 := by omega
          have HNIL := hid hnil
          clear h2 h3 h1 hmm htt hnil
          generalize ls.getD j [] = ys at *
          obtain ⟨m2, hm2⟩ : ∃ m2, ys.length = m2 := ⟨_, rfl⟩
          rw [hm2] at hc hle2
          have HM2 := hid hm2
          have HL2 := hid hle2
          clear hm2 hle2
          go_wp2_with (first | (at_builtin; refine append_bytes rfl (.tmp 31) (.tmp 32) rfl rfl hown hbw hbw.size _ _ _ rfl HNIL.out HM2.out hy (by have := HM2.out; have := HL2.out; omega) ?_; intro v' w5 hown5 hb5 hs5))
          go_roundw
          case rel => exact ⟨j + 1, by omega, by go_num, by rw [H2.out]; exact hown5, hb5⟩
          case measure => simp [intOf]; omega
        · obtain rfl : j = i := by omega
          go_wp2
          go_ret
          exact ⟨_, rfl, by rw [← HA.out]; exact hown, hbw⟩
end Go.Proofs.YtepbjkkakfpjgaaGreatDoor.Kind

/-
  Kind: the reader's small methods by contracts: faulty, refuse, oneOf; slices.Contains of bytes.
-/
namespace Go.Proofs.YtepbjkkakfpjgaaGreatDoor.Kind
open Go.RowKit

/-- The reader in block k: over the bytes of v, in the state s. -/
structure RdIs (w : World) (k : Nat) (v : Value) (s : Rd) : Prop where
  c0 : w.cell? ⟨k, 0, none⟩ = some v
  c1 : w.cell? ⟨k, 1, none⟩ = some (.int .i64 s.1)
  c2 : w.cell? ⟨k, 2, none⟩ = some (.int .i64 s.2.1)
  c3 : w.cell? ⟨k, 3, none⟩ = some (.int .i64 s.2.2)
  f0 : w.frozen? ⟨k, 0, none⟩ = false
  f1 : w.frozen? ⟨k, 1, none⟩ = false
  f2 : w.frozen? ⟨k, 2, none⟩ = false
  f3 : w.frozen? ⟨k, 3, none⟩ = false
theorem RdIs.below {w w' : World} {k : Nat} {v : Value} {s : Rd} (h : RdIs w k v s) (hb : Below w.heap.size w w') : RdIs w' k v s := by
  have hk := World.block_lt_of_cell? w _ h.c0
  exact ⟨keep hb h.c0, keep hb h.c1, keep hb h.c2, keep hb h.c3, (hb.frozen (p := ⟨k, 0, none⟩) hk).trans h.f0, (hb.frozen (p := ⟨k, 1, none⟩) hk).trans h.f1, (hb.frozen (p := ⟨k, 2, none⟩) hk).trans h.f2, (hb.frozen (p := ⟨k, 3, none⟩) hk).trans h.f3⟩
theorem RdIs.save {w w' : World} {k j : Nat} {v : Value} {s : Rd} (h : RdIs w k v s) (hb : Save j w w') (hj : k ≠ j) : RdIs w' k v s := by
  have hk := World.block_lt_of_cell? w _ h.c0
  exact ⟨hb.cell hj h.c0, hb.cell hj h.c1, hb.cell hj h.c2, hb.cell hj h.c3, hb.frozen hk hj h.f0, hb.frozen hk hj h.f1, hb.frozen hk hj h.f2, hb.frozen hk hj h.f3⟩

/-- What a method does: this it hands back, in this state it leaves the reader; nothing else turns. -/
def Does (k : Nat) (v : Value) (w : World) (r : Value) (s : Rd) (e : Ending) (w' : World) : Prop := e = .returned r ∧ RdIs w' k v s ∧ Save k w w'

/-- Where a byte stands in a list: some number that is not below 0 just if it does. -/
def Finds (ls : List Int) (x : Int) (w : World) (e : Ending) (w' : World) : Prop := ∃ j : Int, e = .returned (.int .i64 j) ∧ decide (0 ≤ j) = ls.contains x ∧ w = w'
theorem contains_drop {ls : List Int} {x : Int} {i : Nat} (hi : i < ls.length) (h : (ls.drop i).contains x = ls.contains x) (hx : x ≠ ls.getD i 0) : (ls.drop (i + 1)).contains x = ls.contains x := by
  rw [← h, drop_at hi, List.contains_cons]
  have : (x == ls.getD i 0) = false := by simpa using hx
  rw [this, Bool.false_or]
theorem contains_here {ls : List Int} {x : Int} {i : Nat} (hi : i < ls.length) (h : (ls.drop i).contains x = ls.contains x) (hx : x = ls.getD i 0) : ls.contains x = true := by
  rw [← h, drop_at hi, List.contains_cons, hx]
  simp
end Go.Proofs.YtepbjkkakfpjgaaGreatDoor.Kind

/-
  Kind: the reader's oneOf, by contract.
-/
namespace Go.Proofs.YtepbjkkakfpjgaaGreatDoor.Kind
open Go.RowKit

theorem drewB (w : World) (n : Nat) : Below w.heap.size w (w.drewN n) := ⟨rfl, rfl, rfl, Nat.le_refl _, fun _ _ => rfl⟩
theorem Does.of_save {k : Nat} {v r : Value} {w w0 w' : World} {s : Rd} {e : Ending} (h0 : Save k w w0) (h : Does k v w0 r s e w') : Does k v w r s e w' := ⟨h.1, h.2.1, h0.trans h.2.2⟩

end Go.Proofs.YtepbjkkakfpjgaaGreatDoor.Kind

/-
  Kind: the reader's number and words, by contract.
-/
namespace Go.Proofs.YtepbjkkakfpjgaaGreatDoor.Kind
open Go.RowKit Go.Proofs.YtepbjkkakfpjgaaGreatDoor.Leb

theorem keepN {w w' : World} {x y : Value} {k : Nat} (c0 : w.cell? ⟨k, 0, none⟩ = some x) (c1 : w.cell? ⟨k, 1, none⟩ = some y) (hb : Below w.heap.size w w') :
    Below w.heap.size w w' ∧ w'.cell? ⟨k, 0, none⟩ = some x ∧ w'.cell? ⟨k, 1, none⟩ = some y := ⟨hb, keep hb c0, keep hb c1⟩

theorem number_end {w W : World} {k : Nat} {v : Value} {p x q : Int} (h : RdIs w k v (p, 0, 0)) (hb : Below w.heap.size w W) : Does k v w (.int .u32 x) (q, 0, 0) (.returned (.int .u32 x)) (W.setCell ⟨k, 1, none⟩ (.int .i64 q)) := by
  have h1 := h.below hb
  refine ⟨rfl, ?_, (Save.of_below hb).setCell (p := ⟨k, 1, none⟩) (.inl rfl) _⟩
  refine ⟨?_, ?_, ?_, ?_, ?_, ?_, ?_, ?_⟩ <;> simp [go_sem, h1.c0, h1.c1, h1.c2, h1.c3, h1.f0, h1.f1, h1.f2, h1.f3]

theorem Does.alloc {k : Nat} {v r : Value} {w w' : World} {s : Rd} {e : Ending} (h : Does k v w r s e w') (o : Obj) : Does k v w r s e (w'.alloc o) :=
  ⟨h.1, h.2.1.below ((Below.refl _ _).alloc (Nat.le_refl _) o), h.2.2.alloc o⟩

end Go.Proofs.YtepbjkkakfpjgaaGreatDoor.Kind

/-
  bytes.Repeat of one byte 127, so many times (255 at most): by contract: a new slice of so many bytes 127.
-/
namespace Go.Proofs.YtepbjkkakfpjgaaGreatDoor.Kind
open Go.RowKit

theorem step_copy_run {P : Program} {ops : Array Oper} {o : Oper} {a : Act} {w : World} {K : Act → World → Prop} {Q : Exit → Act → World → Prop} {E : Prop}
    (hg : o.guard = none) (d s : Operand) (t t' : TypeId) (hop : o.op = .call { callee := .builtin .copy, args := #[d, s], argTypes := #[t, t'] })
    (v u : Value) (hd : a.eval d = v) (hs : a.eval s = u) {v' : Value} {w' : World} (hr : (Builtin.copy_ #[t, t'] o.type #[v, u]).run P w = .ok v' w') (hK : K (a.put o.dst v') w') :
    if Region.wanted o (yielded ops a.tmps) = true then Oper.wp P o a w K Q else E := by
  have hw : Region.wanted o (yielded ops a.tmps) = true := by simp [Region.wanted, hg]
  rw [if_pos hw]
  exact Lib.wp_copy_run w d s t t' hop v u hd hs hr hK

/-- 'copy(nb[k:], nb[:k])' of a buffer that holds k times x. -/
theorem copy_self {P : Program} (w0 wr : World) (h N k c : Nat) (x : UInt8) (t ty e : TypeId) (hu : P.underlying t = some (.slice e)) (hs : (P.info? e).map (·.size) = some 1)
    (hb : Lib.Buf w0 wr h N (List.replicate k x)) (hk : k < N) :
    ∃ wr', (Builtin.copy_ #[t, t] ty #[.slice (some ⟨h, k, none⟩) (N - k) (N - k), .slice (some ⟨h, 0, none⟩) k c]).run P wr = .ok (.int .i64 ((min k (N - k) : Nat) : Int)) wr' ∧ Lib.Buf w0 wr' h N (List.replicate (k + min k (N - k)) x) := by
  obtain ⟨m, hm⟩ : ∃ m, min k (N - k) = m := ⟨_, rfl⟩
  rw [hm]
  have hr := run_copy_cells (P := P) wr t t ty e h k (N - k) (N - k) ⟨h, 0, none⟩ k c (List.replicate m (Value.int .u8 (x.toNat : Int))) hu hs (by rw [List.length_replicate]; exact hm.symm)
    (fun j u hj => by
      rw [List.getElem?_replicate] at hj
      split at hj
      · simp only [Option.some.injEq] at hj
        subst hj
        have hj' : (List.replicate k x)[j]? = some x := by rw [List.getElem?_replicate, if_pos (by omega)]
        have := hb.holds j x hj'
        have hplain : (⟨h, 0, none⟩ : Addr).add j = ⟨h, 0 + j, none⟩ := by unfold Addr.add; split <;> simp_all
        rw [hplain, Nat.zero_add]; exact this
      · cases hj)
    (fun j hj => by rw [List.length_replicate] at hj; exact hb.there _ (by omega)) (fun j hj => by rw [List.length_replicate] at hj; exact hb.free _ (by omega))
    (fun u hu' => by obtain ⟨_, rfl⟩ := List.mem_replicate.1 hu'; rfl)
  rw [List.length_replicate] at hr
  refine ⟨_, hr, ?_⟩
  have hin := World.cell?_setCells_in h (List.replicate m (Value.int .u8 (x.toNat : Int))) k wr (fun j hj => by rw [List.length_replicate] at hj; exact hb.there _ (by omega))
  have hout := World.cell?_setCells_out h (List.replicate m (Value.int .u8 (x.toNat : Int))) k wr
  refine ⟨Lib.below_setCells h (Nat.le_refl _) _ _ hb.below, ?_, ?_, ?_, by rw [List.length_replicate]; omega⟩
  · intro j hj
    by_cases h1 : k ≤ j ∧ j < k + m
    · obtain ⟨d, rfl⟩ : ∃ d, j = k + d := ⟨j - k, by omega⟩
      rw [hin d (by rw [List.length_replicate]; omega)]
      rfl
    · rw [hout ⟨h, j, none⟩ (fun _ _ => by rw [List.length_replicate]; show j < _ ∨ _ ≤ j; omega)]
      exact hb.there j hj
  · intro j hj
    rw [World.frozen?_setCells]
    exact hb.free j hj
  · intro j y hy
    rw [List.getElem?_replicate] at hy
    split at hy
    · rename_i hjm
      simp only [Option.some.injEq] at hy
      subst hy
      by_cases h1 : j < k
      · rw [hout ⟨h, j, none⟩ (fun _ _ => Or.inl h1)]
        exact hb.holds j x (by rw [List.getElem?_replicate, if_pos h1])
      · obtain ⟨d, rfl⟩ : ∃ d, j = k + d := ⟨j - k, by omega⟩
        rw [hin d (by rw [List.length_replicate]; omega)]
        simp
    · cases hy

theorem mulOne (c : Nat) (hc : c ≤ 255) (w : World) : Calls Tryz.prog 235 #[.int .u64 1, .int .u64 c] w fun e w' => e = .returned (.tuple #[.int .u64 0, .int .u64 c]) ∧ w = w' := by
  refine (Tryz.bits_Mul 1 c (by omega) (by omega) w).mono ?_
  rintro e w' ⟨rfl, rfl⟩
  refine ⟨?_, rfl⟩
  rw [Nat.one_mul, Nat.div_eq_of_lt (by omega), Nat.mod_eq_of_lt (by omega)]; rfl

/-- A new slice of so many bytes 127. -/
def Runs (c : Nat) (w : World) (e : Ending) (w' : World) : Prop := ∃ a q, e = .returned (.slice a c q) ∧ Bytes w' a (List.replicate c 127) ∧ (a = none → q = 0) ∧ Below w.heap.size w w'

theorem runs_of {c : Nat} {w w' : World} (h : Lib.Buf w w' w.heap.size c (List.replicate c 127)) (hc : c ≤ 255) : Runs c w (.returned (.slice (some ⟨w.heap.size, 0, none⟩) c c)) w' := by
  refine ⟨_, _, rfl, ⟨fun z hz => ?_, by simp; omega, .inr ⟨_, 0, rfl, fun i hi => ?_⟩⟩, by simp, h.below⟩
  · rw [List.eq_of_mem_replicate hz]; omega
  · have hi' : i < c := by simpa using hi
    have := h.holds i 127 (by rw [List.getElem?_replicate, if_pos hi'])
    rw [Nat.zero_add, this]
    have e : (List.replicate c (127 : Int)).getD i 0 = 127 := by rw [getD_lt (by simpa using hi')]; simp
    rw [e]; rfl

theorem repeat_0 (b off cap : Nat) (w : World) : Calls Tryz.prog 228 #[.slice (some ⟨b, off, none⟩) 1 cap, .int .i64 0] w (Runs 0 w) := by
  go_enter Tryz.func228, Tryz.ntmps228
  go_wp2
  go_ret
  exact ⟨_, _, rfl, ⟨by simp, by simp, .inl rfl⟩, by simp, by first | exact Below.refl _ _ | exact (Below.refl _ _).alloc (Nat.le_refl _) _⟩

set_option maxHeartbeats 1600000 in
set_option maxRecDepth 100000 in
theorem repeat_any (c : Nat) (hc : c ≤ 255) (b off cap : Nat) (w : World) (hcell : w.cell? ⟨b, off, none⟩ = some (.int .u8 127)) :
    Calls Tryz.prog 228 #[.slice (some ⟨b, off, none⟩) 1 cap, .int .i64 c] w (Runs c w) := by
  by_cases h0 : c = 0
  · subst h0; exact repeat_0 b off cap w
  have hs5 : (Tryz.prog.info? 5).map (·.size) = some 1 := by kernel_rfl
  obtain ⟨cs, hrunM, hle, _⟩ := Lib.run_makeNoZero (P := Tryz.prog) w #[3] 35 5 Tryz.underlying35 c (by omega)
  have hcall : (callFunc 236 #[.int .i64 (c : Int)]).run Tryz.prog w = .ok (.value (.slice (some ⟨w.heap.size, 0, none⟩) c cs.size)) ((w.alloc (.cells cs 5)).drewN 2) := by
    rw [run_callFunc_extern Tryz.func236 (by kernel_rfl) (by kernel_rfl) (by kernel_rfl) (e := Extern.BytealgMakeNoZero.makeNoZero #[3] #[35]) (by kernel_rfl), hrunM]
    rfl
  clear hrunM
  have B0 := Lib.Buf.start w cs 5 c 2 hle
  have hv : Lib.HoldsBytes w (.slice (some ⟨b, off, none⟩) 1 cap) [127] := ⟨some ⟨b, off, none⟩, cap, rfl, by simp, fun a ha i x hx => by
    simp only [Option.some.injEq] at ha
    subst ha
    match i, hx with
    | 0, hx => simp at hx; subst hx; simpa [Addr.add] using hcell⟩
  obtain ⟨w1, hr1, B1⟩ := Lib.copy_part (P := Tryz.prog) w _ w.heap.size c [] [127] (.slice (some ⟨b, off, none⟩) 1 cap) 35 3 5 Tryz.underlying35 hs5 (Nat.le_refl _) B0 hv (by simp; omega)
  rw [List.length_nil, Lib.tailV_zero] at hr1
  rw [List.nil_append] at B1
  rw [show ((([127] : List UInt8).length : Nat) : Int) = 1 from rfl] at hr1
  have d1 : decide ((c : Int) < 0) = false := decide_eq_false (by omega)
  have d2 : decide (9223372036854775807 < (c : Int)) = false := decide_eq_false (by omega)
  have d3 : decide (8192 < (c : Int)) = false := decide_eq_false (by omega)
  have hm := fun w => mulOne c hc w
  have hn1 : ¬ (c : Int) = 0 := by omega
  have i1 : (c : Int) ≤ (cs.size : Int) := by omega
  have HB1 := hid B1
  clear B1 B0 hv hcell
  go_enter Tryz.func228, Tryz.ntmps228
  go_wp2_with (first
    | (go_at_call 235; refine (hm _).mono ?_; rintro e w' ⟨rfl, rfl⟩)
    | (at_builtin; refine Lib.wpList_copy_run _ rfl _ _ 35 35 rfl _ _ rfl rfl hr1 ?_))
  have hsz : w.heap.size ≤ w1.heap.size := HB1.out.below.size
  go_loopw [10] (fun sb wr => ∃ k : Nat, 1 ≤ k ∧ k ≤ c ∧ sb = .int .i64 k ∧ Hid (Lib.Buf w wr w.heap.size c (List.replicate k 127))) (fun sb _ => c - (intOf sb).toNat)
  case atStart => exact ⟨1, by omega, by omega, rfl, HB1⟩
  case round =>
    obtain ⟨k, hk1, hkc, rfl, HB⟩ := hrel
    by_cases hlt : k < c
    · obtain ⟨wr', hr2, B2⟩ := copy_self (P := Tryz.prog) w wr.drew w.heap.size c k c 127 35 3 5 Tryz.underlying35 hs5 ⟨HB.out.below.drew, HB.out.there, HB.out.free, HB.out.holds, HB.out.fits⟩ hlt
      obtain ⟨m, hm1, hm2⟩ : ∃ m, min k (c - k) = m ∧ 1 ≤ m ∧ k + m ≤ c := ⟨_, rfl, by omega, by omega⟩
      rw [hm1] at hr2 B2
      have HB2 := hid B2
      clear hm1
      clear B2 hcall hr1 HB1 hm
      have hn2 : ¬ c = k := by omega
      have hw : IntKind.i64.wrap ((k : Int) + (m : Int)) = ((k + m : Nat) : Int) := by rw [IntWalk.i64_in _ (by omega)]; rfl
      have hmn : min (k : Int) (c : Int) = (k : Int) := by omega
      go_wp2
      go_region_law (refine step_copy_run (by rfl) (.tmp 70) (.tmp 73) 35 35 (by rfl) (.slice (some ⟨w.heap.size, k, none⟩) (c - k) (c - k)) (.slice (some ⟨w.heap.size, 0, none⟩) k c) (by go_simp) (by go_simp) hr2 ?_)
      simp [Act.put]
      go_roundw
      case rel => exact ⟨_, _, _, _, _, _, _, _, _, _, _, _, _, _, _, _, _, ⟨k + m, by omega, by omega, (show Value.int .i64 ((k : Int) + (m : Int)) = .int .i64 ((k + m : Nat) : Int) from rfl), HB2⟩, rfl⟩
      case measure => simp [intOf]; omega
    · obtain rfl : k = c := by omega
      go_wp2
      go_ret
      exact runs_of HB.out hc
end Go.Proofs.YtepbjkkakfpjgaaGreatDoor.Kind

/-
  Kind: putWords, Put, PutLimits, by contracts.
-/
namespace Go.Proofs.YtepbjkkakfpjgaaGreatDoor.Kind
open Go.RowKit Go.Proofs.YtepbjkkakfpjgaaGreatDoor.Leb

theorem wordsL_bytes (n : Int) : ∀ z ∈ wordsL n, 0 ≤ z ∧ z < 256 := by
  intro z hz
  unfold wordsL at hz
  rcases List.mem_append.1 hz with h | h
  · exact encU_bytes n z h
  · rw [List.eq_of_mem_replicate h]; omega
theorem wordsL_len (n : Nat) : (wordsL n).length = sizeU n + n := by
  unfold wordsL; rw [List.length_append, encU_length, List.length_replicate, Int.toNat_natCast]
theorem words_append (n : Nat) : encU (n : Int) ++ List.replicate n 127 = wordsL n := by unfold wordsL; rw [Int.toNat_natCast]

set_option maxHeartbeats 800000 in
theorem putWords_any (n : Nat) (hn : n ≤ 255) (w : World) : Calls Tryz.prog 212 #[.int .i64 n] w (Gives w (wordsL n)) := by
  have hs := sizeU_pos n
  go_enter Tryz.func212, Tryz.ntmps212
  go_wp2_with fail
  refine (putU_any n _ (by omega) (by omega)).mono ?_
  rintro e w1 ⟨v, rfl, ho, hb⟩
  obtain ⟨a1, c1, rfl⟩ := ho.sliceN (encU_length n)
  go_wp2_with fail
  refine (repeat_any n hn w1.heap.size 0 1 _ (by go_simp)).mono ?_
  rintro e w2 ⟨a2, c2, rfl, hy2, hnil2, hb2⟩
  have hb3 : Below w1.heap.size w1 w2 := (Below.refl _ _).alloc (Nat.le_refl _) _ |>.trans (hb2.mono (by simp))
  have ho := ho.below hb3
  have hA := thenB hb hb3
  have HNIL := hid hnil2
  clear hb hb2 hb3 hnil2
  go_wp2_with (first | (at_builtin; refine append_bytes rfl (.tmp 5) (.tmp 8) rfl rfl ho hA hA.size _ _ _ rfl HNIL.out (by simp) hy2 (by rw [encU_length]; simp; omega) ?_; intro v' w5 hown5 hb5 hs5))
  go_ret
  rw [words_append] at hown5
  exact ⟨_, rfl, hown5, hb5⟩

/-- Two results: a list of bytes of its own, and OK; or nothing, and an error. -/
def PutOk (w : World) (zs : List Int) (e : Ending) (w' : World) : Prop := ∃ v, e = .returned (.tuple #[v, .int .i64 0]) ∧ Own w.heap.size w' v zs ∧ Below w.heap.size w w'
def PutNo (w : World) (e : Ending) (w' : World) : Prop := e = .returned (.tuple #[.slice none 0 0, .int .i64 2]) ∧ Below w.heap.size w w'

theorem parts3 {w : World} {g : Nat} (hg : g = w.heap.size) {a0 a1 a2 : Option Addr} {n0 n1 n2 c0 c1 c2 : Nat} {t : TypeId} {l0 l1 l2 : List Int} (h0 : Bytes w a0 l0) (h1 : Bytes w a1 l1) (h2 : Bytes w a2 l2) (k0 : l0.length = n0) (k1 : l1.length = n1) (k2 : l2.length = n2)
    (m0 : a0 = none → c0 = 0) (m1 : a1 = none → c1 = 0) (m2 : a2 = none → c2 = 0) : Parts (w.alloc (.cells #[.slice a0 n0 c0, .slice a1 n1 c1, .slice a2 n2 c2] t)) g [l0, l1, l2] := by
  subst hg
  intro j hj
  match j, hj with
  | 0, _ => exact ⟨a0, c0, by subst k0; go_simp, h0.alloc _, m0⟩
  | 1, _ => exact ⟨a1, c1, by subst k1; go_simp, h1.alloc _, m1⟩
  | 2, _ => exact ⟨a2, c2, by subst k2; go_simp, h2.alloc _, m2⟩
theorem parts2 {w : World} {g : Nat} (hg : g = w.heap.size) {a0 a1 : Option Addr} {n0 n1 c0 c1 : Nat} {t : TypeId} {l0 l1 : List Int} (h0 : Bytes w a0 l0) (h1 : Bytes w a1 l1) (k0 : l0.length = n0) (k1 : l1.length = n1)
    (m0 : a0 = none → c0 = 0) (m1 : a1 = none → c1 = 0) : Parts (w.alloc (.cells #[.slice a0 n0 c0, .slice a1 n1 c1] t)) g [l0, l1] := by
  subst hg
  intro j hj
  match j, hj with
  | 0, _ => exact ⟨a0, c0, by subst k0; go_simp, h0.alloc _, m0⟩
  | 1, _ => exact ⟨a1, c1, by subst k1; go_simp, h1.alloc _, m1⟩
theorem byte_at {w : World} {k : Nat} {z : Int} (hz : 0 ≤ z ∧ z < 256) (h : w.cell? ⟨k, 0, none⟩ = some (.int .u8 z)) : Bytes w (some ⟨k, 0, none⟩) [z] :=
  ⟨by simpa using hz, by simp, .inr ⟨k, 0, rfl, fun i hi => by
    match i, hi with
    | 0, _ => exact h⟩⟩

theorem typeL_flat (p r : Int) : [[96], wordsL p, wordsL r].flatten = typeL p r := by simp [typeL]
theorem typeL_len (p r : Nat) : (typeL p r).length = 1 + (sizeU p + p) + (sizeU r + r) := by
  unfold typeL; rw [List.length_cons, List.length_append, wordsL_len, wordsL_len]; omega

set_option maxHeartbeats 1600000 in
theorem put_ok (p r : Nat) (hp : p ≤ 255) (hr : r ≤ 1) (w : World) : Calls Tryz.prog 194 #[.agg #[.int .i64 p, .int .i64 r]] w (PutOk w (typeL p r)) := by
  have hC := fun w => check_any p r w
  have hc0 : codeType p r = 0 := by
    have : okType p r = true := by unfold okType; simp; omega
    unfold codeType; rw [if_pos this]
  simp only [hc0] at hC
  have HFL := hid (typeL_flat p r)
  have HLE := hid (typeL_len p r)
  have hs := sizeU_pos p
  have hs2 := sizeU_pos r
  clear hc0
  go_enter Tryz.func194, Tryz.ntmps194
  go_wp2_with fail
  refine (hC _).mono ?_
  rintro e w1 ⟨rfl, hb1⟩
  obtain ⟨d0, d1, _, _, _⟩ := two hb1
  have hA : Below w.heap.size w w1 := ((Below.refl _ _).alloc (Nat.le_refl _) _).trans (hb1.mono (by simp))
  clear hC hb1
  go_wp2
  have hS : Below w.heap.size w w1.drew ∧ w1.drew.cell? ⟨w.heap.size, 0, none⟩ = some (.int .i64 p) ∧ w1.drew.cell? ⟨w.heap.size, 1, none⟩ = some (.int .i64 r) := ⟨hA.drew, d0, d1⟩
  go_region_held3 (fun w' => Below w.heap.size w w' ∧ w'.cell? ⟨w.heap.size, 0, none⟩ = some (.int .i64 p) ∧ w'.cell? ⟨w.heap.size, 1, none⟩ = some (.int .i64 r))
    (first | assumption | exact box_keep (by assumption) ((Below.refl _ _).alloc (Nat.le_refl _) _) | exact box_keep (by assumption) (by assumption))
    (first
      | (go_at_call 212; ((with_reducible refine (putWords_any p hp _).mono ?_); rintro e w13 ⟨v13, rfl, ho13, hb13⟩; obtain ⟨a13, c13, rfl⟩ := ho13.sliceN (wordsL_len p); have hy13 := ho13.bytes (wordsL_bytes p) (by rw [wordsL_len]; omega); have hn13 := ho13.nil; clear ho13))
      | (go_at_call 212; ((with_reducible refine (putWords_any r (by omega) _).mono ?_); rintro e w16 ⟨v16, rfl, ho16, hb16⟩; obtain ⟨a16, c16, rfl⟩ := ho16.sliceN (wordsL_len r); have hy16 := ho16.bytes (wordsL_bytes r) (by rw [wordsL_len]; omega); have hn16 := ho16.nil; clear ho16))
      | (go_at_call 211
         refine (concat_any _ 3 3 [[96], wordsL p, wordsL r] _ rfl ?_ (by rw [HFL.out, HLE.out]; omega) (by rw [HFL.out, HLE.out]; omega) (by omega)).mono ?_
         · first
            | (refine parts3 ?_ (byte_at (z := 96) (by decide) ?_) ((hy13.below hb16).alloc _) (hy16.alloc _) rfl (wordsL_len p) (wordsL_len r) (by simp) hn13.out hn16.out <;> go_simp <;> done)
            | (refine parts3 ?_ (byte_at (z := 96) (by decide) (keep hb16 ?_)) (hy13.below (thenB ((Below.refl _ _).alloc (Nat.le_refl _) _) hb16)) hy16 rfl (wordsL_len p) (wordsL_len r) (by simp) hn13.out hn16.out <;> go_simp <;> done)
            | (refine parts3 ?_ (byte_at (z := 96) (by decide) (keep (thenB hb13 hb16) ?_)) (hy13.below hb16) hy16 rfl (wordsL_len p) (wordsL_len r) (by simp) hn13.out hn16.out <;> go_simp <;> done)
         rintro e w18 ⟨v18, rfl, ho18, hb18⟩
         rw [HFL.out] at ho18
         have ho18 := ho18.mono (base' := w.heap.size) (by have s1 := hA.size; have s2 := hb13.size; have s3 := hb16.size; (try simp at s2); (try simp at s3); (try simp); omega)
         obtain ⟨a18, c18, rfl⟩ := ho18.sliceN HLE.out))
  all_goals go_wp2
  all_goals go_ret2
  all_goals exact ⟨_, rfl, ho18, box_out (x := .int .i64 p) (y := .int .i64 r) (k := w.heap.size) (by assumption)⟩
set_option maxHeartbeats 800000 in
theorem put_no (p r : Int) (h : okType p r = false) (w : World) : Calls Tryz.prog 194 #[.agg #[.int .i64 p, .int .i64 r]] w (PutNo w) := by
  have hC := fun w => check_any p r w
  have hc0 : codeType p r = 2 := by unfold codeType; rw [h]; rfl
  simp only [hc0] at hC
  clear hc0 h
  go_enter Tryz.func194, Tryz.ntmps194
  go_wp2_with fail
  refine (hC _).mono ?_
  rintro e w1 ⟨rfl, hb1⟩
  have hA : Below w.heap.size w w1 := ((Below.refl _ _).alloc (Nat.le_refl _) _).trans (hb1.mono (by simp))
  clear hC hb1
  go_wp2
  go_ret2
  exact ⟨rfl, hA⟩

theorem limL_flat (n x : Int) : [[1], encU n, encU x].flatten = limL n x true := by simp [limL]
theorem limL_flat2 (n : Int) : [[0], encU n].flatten = limL n 0 false := by simp [limL]
theorem limL_len (n x : Int) : (limL n x true).length = 1 + sizeU n + sizeU x := by
  unfold limL; simp [encU_length]; omega
theorem limL_len2 (n : Int) : (limL n 0 false).length = 1 + sizeU n := by
  unfold limL; simp [encU_length]; omega
theorem three {w w' : World} {x y z : Value} {t : TypeId} (hb : Below (w.alloc (.cells #[x, y, z] t)).heap.size (w.alloc (.cells #[x, y, z] t)) w') :
    w'.cell? ⟨w.heap.size, 0, none⟩ = some x ∧ w'.cell? ⟨w.heap.size, 1, none⟩ = some y ∧ w'.cell? ⟨w.heap.size, 2, none⟩ = some z := by
  obtain ⟨hc, _⟩ := old hb
  refine ⟨(hc _ _ (by simp)).trans ?_, (hc _ _ (by simp)).trans ?_, (hc _ _ (by simp)).trans ?_⟩ <;> go_simp

set_option maxHeartbeats 800000 in
theorem putLimits_no (n x : Int) (c : Bool) (most : Int) (h : okLim n x c most = false) (w : World) : Calls Tryz.prog 196 #[.agg #[.int .u32 n, .int .u32 x, .bool c], .int .u32 most] w (PutNo w) := by
  have hC := fun w => checkLimits_any n x c most w
  have hc0 : codeLim n x c most = 2 := by unfold codeLim; rw [h]; rfl
  simp only [hc0] at hC
  clear hc0 h
  go_enter Tryz.func196, Tryz.ntmps196
  go_wp2_with fail
  refine (hC _).mono ?_
  rintro e w1 ⟨rfl, hb1⟩
  have hA : Below w.heap.size w w1 := ((Below.refl _ _).alloc (Nat.le_refl _) _).trans (hb1.mono (by simp))
  clear hC hb1
  go_wp2
  go_ret2
  exact ⟨rfl, hA⟩

set_option maxHeartbeats 1600000 in
theorem putLimits_plain (n x most : Int) (h : okLim n x false most = true) (h0 : 0 ≤ n ∧ n ≤ 4294967295) (w : World) : Calls Tryz.prog 196 #[.agg #[.int .u32 n, .int .u32 x, .bool false], .int .u32 most] w (PutOk w (limL n x false)) := by
  have hC := fun w => checkLimits_any n x false most w
  have hc0 : codeLim n x false most = 0 := by unfold codeLim; rw [if_pos h]
  obtain rfl : x = 0 := by unfold okLim at h; simp at h; exact h.2
  simp only [hc0] at hC
  have HFL := hid (limL_flat2 n)
  have HLE := hid (limL_len2 n)
  have hs := sizeU_pos n
  clear hc0 h
  go_enter Tryz.func196, Tryz.ntmps196
  go_wp2_with fail
  refine (hC _).mono ?_
  rintro e w1 ⟨rfl, hb1⟩
  obtain ⟨d0, d1, d2⟩ := three hb1
  have hA : Below w.heap.size w w1 := ((Below.refl _ _).alloc (Nat.le_refl _) _).trans (hb1.mono (by simp))
  have d0' := keepA d0 (.cells #[.int .u8 0] 5)
  clear hC hb1
  go_wp2_with fail
  refine (putU_any n _ (by omega) (by omega)).mono ?_
  rintro e w3 ⟨v, rfl, ho, hb3⟩
  obtain ⟨a3, c3, rfl⟩ := ho.sliceN (encU_length n)
  have hy := ho.bytes (encU_bytes n) (by rw [encU_length]; omega)
  have hn3 := ho.nil
  have hz : w1.heap.size + 1 ≤ w3.heap.size := by have := hb3.size; simpa using this
  have d96 : w3.cell? ⟨w1.heap.size, 0, none⟩ = some (.int .u8 0) := keep hb3 (by go_simp)
  have hA3 : Below w.heap.size w w3 := (thenA hA (.cells #[.int .u8 0] 5)).trans (hb3.mono (by have := hA.size; simp; omega))
  clear ho hb3
  go_wp2_with fail
  refine (concat_any _ 2 2 [[0], encU n] _ rfl (parts2 rfl (byte_at (z := 0) (by decide) d96) hy rfl (encU_length n) (by simp) hn3.out) (by rw [HFL.out, HLE.out]; omega) (by rw [HFL.out, HLE.out]; omega) (by omega)).mono ?_
  rintro e w5 ⟨v, rfl, ho, hb5⟩
  rw [HFL.out] at ho
  have ho := ho.mono (base' := w.heap.size) (by have := hA3.size; simp; omega)
  have hb6 : Below w3.heap.size w3 w5 := ((Below.refl _ _).alloc (Nat.le_refl _) _).trans (hb5.mono (by simp))
  have hA5 := thenB hA3 hb6
  clear hb6
  obtain ⟨a5, c5, rfl⟩ := ho.sliceN HLE.out
  clear hb5
  go_wp2
  go_ret2
  exact ⟨_, rfl, ho, hA5⟩

set_option maxHeartbeats 1600000 in
theorem putLimits_capped (n x most : Int) (h : okLim n x true most = true) (h0 : 0 ≤ n ∧ n ≤ 4294967295) (h1 : 0 ≤ x ∧ x ≤ 4294967295) (w : World) : Calls Tryz.prog 196 #[.agg #[.int .u32 n, .int .u32 x, .bool true], .int .u32 most] w (PutOk w (limL n x true)) := by
  have hC := fun w => checkLimits_any n x true most w
  have hc0 : codeLim n x true most = 0 := by unfold codeLim; rw [if_pos h]
  simp only [hc0] at hC
  have HFL := hid (limL_flat n x)
  have HLE := hid (limL_len n x)
  have hs := sizeU_pos n
  have hs2 := sizeU_pos x
  clear hc0 h
  go_enter Tryz.func196, Tryz.ntmps196
  go_wp2_with fail
  refine (hC _).mono ?_
  rintro e w1 ⟨rfl, hb1⟩
  obtain ⟨d0, d1, d2⟩ := three hb1
  have hA : Below w.heap.size w w1 := ((Below.refl _ _).alloc (Nat.le_refl _) _).trans (hb1.mono (by simp))
  clear hC hb1
  go_wp2
  have hS : Below w.heap.size w w1.drew ∧ w1.drew.cell? ⟨w.heap.size, 0, none⟩ = some (.int .u32 n) ∧ w1.drew.cell? ⟨w.heap.size, 1, none⟩ = some (.int .u32 x) := ⟨hA.drew, d0, d1⟩
  go_region_held3 (fun w' => Below w.heap.size w w' ∧ w'.cell? ⟨w.heap.size, 0, none⟩ = some (.int .u32 n) ∧ w'.cell? ⟨w.heap.size, 1, none⟩ = some (.int .u32 x))
    (first | assumption | exact box_keep (by assumption) ((Below.refl _ _).alloc (Nat.le_refl _) _) | exact box_keep (by assumption) (by assumption))
    (first
      | (go_at_call 175; (first
          | (clear hb16; fail)
          | ((with_reducible refine (putU_any n _ (by omega) (by omega)).mono ?_); rintro e w13 ⟨v13, rfl, ho13, hb13⟩; obtain ⟨a13, c13, rfl⟩ := ho13.sliceN (encU_length n); have hy13 := ho13.bytes (encU_bytes n) (by rw [encU_length]; omega); have hn13 := ho13.nil; clear ho13)
          | ((with_reducible refine (putU_any x _ (by omega) (by omega)).mono ?_); rintro e w16 ⟨v16, rfl, ho16, hb16⟩; obtain ⟨a16, c16, rfl⟩ := ho16.sliceN (encU_length x); have hy16 := ho16.bytes (encU_bytes x) (by rw [encU_length]; omega); have hn16 := ho16.nil; clear ho16)))
      | (go_at_call 211
         refine (concat_any _ 3 3 [[1], encU n, encU x] _ rfl ?_ (by rw [HFL.out, HLE.out]; omega) (by rw [HFL.out, HLE.out]; omega) (by omega)).mono ?_
         · first
            | (refine parts3 ?_ (byte_at (z := 1) (by decide) ?_) ((hy13.below hb16).alloc _) (hy16.alloc _) rfl (encU_length n) (encU_length x) (by simp) hn13.out hn16.out <;> go_simp <;> done)
            | (refine parts3 ?_ (byte_at (z := 1) (by decide) (keep hb16 ?_)) (hy13.below (thenB ((Below.refl _ _).alloc (Nat.le_refl _) _) hb16)) hy16 rfl (encU_length n) (encU_length x) (by simp) hn13.out hn16.out <;> go_simp <;> done)
            | (refine parts3 ?_ (byte_at (z := 1) (by decide) (keep (thenB hb13 hb16) ?_)) (hy13.below hb16) hy16 rfl (encU_length n) (encU_length x) (by simp) hn13.out hn16.out <;> go_simp <;> done)
         rintro e w18 ⟨v18, rfl, ho18, hb18⟩
         rw [HFL.out] at ho18
         have ho18 := ho18.mono (base' := w.heap.size) (by have s1 := hA.size; have s2 := hb13.size; have s3 := hb16.size; (try simp at s2); (try simp at s3); (try simp); omega)
         obtain ⟨a18, c18, rfl⟩ := ho18.sliceN HLE.out))
  all_goals go_wp2
  all_goals go_ret2
  all_goals exact ⟨_, rfl, ho18, box_out (x := .int .u32 n) (y := .int .u32 x) (k := w.heap.size) (by assumption)⟩
end Go.Proofs.YtepbjkkakfpjgaaGreatDoor.Kind

/-
  Kind: the reader's number and words, by contract, in one piece.
-/
namespace Go.Proofs.YtepbjkkakfpjgaaGreatDoor.Kind
open Go.RowKit Go.Proofs.YtepbjkkakfpjgaaGreatDoor.Leb

theorem is127_in (x : Int) : is127 x = [127].contains x := by simp [is127]
theorem is96_in (x : Int) : is96 x = [96].contains x := by simp [is96]
theorem is01_in (x : Int) : is01 x = [0, 1].contains x := by simp [is01, Bool.decide_or]

end Go.Proofs.YtepbjkkakfpjgaaGreatDoor.Kind

/-
  Kind: newReader, and the two deferred closures, by contract.
-/
namespace Go.Proofs.YtepbjkkakfpjgaaGreatDoor.Kind
open Go.RowKit

/-- A new reader in the next block. -/
def NewR (w : World) (v : Value) (s : Rd) (e : Ending) (w' : World) : Prop := e = .returned (.pointer (some ⟨w.heap.size, 0, none⟩)) ∧ RdIs w' w.heap.size v s ∧ Below w.heap.size w w'

theorem rd_new (w : World) (v : Value) (p : Int) (t : TypeId) : RdIs (w.alloc (.cells #[v, .int .i64 p, .int .i64 0, .int .i64 0] t)) w.heap.size v (p, 0, 0) := by
  refine ⟨?_, ?_, ?_, ?_, ?_, ?_, ?_, ?_⟩ <;> go_simp

end Go.Proofs.YtepbjkkakfpjgaaGreatDoor.Kind

/-
  Kind: Get, by contract.
-/
namespace Go.Proofs.YtepbjkkakfpjgaaGreatDoor.Kind
set_option linter.unusedSimpArgs false
set_option linter.unusedVariables false
open Go.RowKit Go.Proofs.YtepbjkkakfpjgaaGreatDoor.Leb

/-- The frame's own variables: the answer (two cells from ⟨T, 0⟩ on), the place behind (⟨N, 0⟩), the fault (⟨F, 0⟩, ⟨F, 1⟩). -/
structure FrT (w : World) (T N F : Nat) (x y : Value) : Prop where
  t0 : w.cell? ⟨T, 0, none⟩ = some x
  t1 : w.cell? ⟨T, 1, none⟩ = some y
  n0 : w.cell? ⟨N, 0, none⟩ = some (.int .i64 0)
  f0 : w.cell? ⟨F, 0, none⟩ = some (.int .i64 0)
  f1 : w.cell? ⟨F, 1, none⟩ = some (.int .i64 0)
  i0 : w.frozen? ⟨T, 0, none⟩ = false
  i1 : w.frozen? ⟨T, 1, none⟩ = false
  j0 : w.frozen? ⟨N, 0, none⟩ = false
  g0 : w.frozen? ⟨F, 0, none⟩ = false
  g1 : w.frozen? ⟨F, 1, none⟩ = false
theorem FrT.save {w w' : World} {T N F k : Nat} {x y : Value} (h : FrT w T N F x y) (s : Save k w w') (hT : T ≠ k) (hN : N ≠ k) (hF : F ≠ k) : FrT w' T N F x y := by
  have lT := World.block_lt_of_cell? w _ h.t0
  have lN := World.block_lt_of_cell? w _ h.n0
  have lF := World.block_lt_of_cell? w _ h.f0
  exact ⟨s.cell hT h.t0, s.cell hT h.t1, s.cell hN h.n0, s.cell hF h.f0, s.cell hF h.f1, s.frozen lT hT h.i0, s.frozen lT hT h.i1, s.frozen lN hN h.j0, s.frozen lF hF h.g0, s.frozen lF hF h.g1⟩
theorem FrT.below {w w' : World} {T N F : Nat} {x y : Value} (h : FrT w T N F x y) (hb : Below w.heap.size w w') : FrT w' T N F x y :=
  h.save (k := w.heap.size) (.of_below hb) (Nat.ne_of_lt (World.block_lt_of_cell? w _ h.t0)) (Nat.ne_of_lt (World.block_lt_of_cell? w _ h.n0)) (Nat.ne_of_lt (World.block_lt_of_cell? w _ h.f0))
theorem RdIs.set {w : World} {k : Nat} {v : Value} {s : Rd} (h : RdIs w k v s) (a : Addr) (u : Value) (ha : k ≠ a.block) : RdIs (w.setCell a u) k v s :=
  h.save ((Save.refl a.block w).setCell (.inl rfl) u) ha
theorem FrT.set0 {w : World} {T N F : Nat} {x y u : Value} (h : FrT w T N F x y) (hN : N ≠ T) (hF : F ≠ T) : FrT (w.setCell ⟨T, 0, none⟩ u) T N F u y := by
  refine ⟨?_, ?_, ?_, ?_, ?_, ?_, ?_, ?_, ?_, ?_⟩ <;> simp [go_sem, h.t0, h.t1, h.n0, h.f0, h.f1, h.i0, h.i1, h.j0, h.g0, h.g1, hN, hF, Ne.symm hN, Ne.symm hF]
theorem FrT.set1 {w : World} {T N F : Nat} {x y u : Value} (h : FrT w T N F x y) (hN : N ≠ T) (hF : F ≠ T) : FrT (w.setCell ⟨T, 1, none⟩ u) T N F x u := by
  refine ⟨?_, ?_, ?_, ?_, ?_, ?_, ?_, ?_, ?_, ?_⟩ <;> simp [go_sem, h.t0, h.t1, h.n0, h.f0, h.f1, h.i0, h.i1, h.j0, h.g0, h.g1, hN, hF, Ne.symm hN, Ne.symm hF]
theorem frT_start (w : World) (x y : Value) (t t' t'' : TypeId) : FrT (((w.alloc (.cells #[x, y] t)).alloc (.cells #[.int .i64 0] t')).alloc (.cells #[.int .i64 0, .int .i64 0] t'')) w.heap.size (w.heap.size + 1) (w.heap.size + 1 + 1) x y := by
  refine ⟨?_, ?_, ?_, ?_, ?_, ?_, ?_, ?_, ?_, ?_⟩ <;> go_simp

/-- What the loads of the last statement read. -/
abbrev Reads (T R k F : Nat) (x y : Value) (pe : Int) (w' : World) : Prop := w'.cell? ⟨T, 0, none⟩ = some x ∧ w'.cell? ⟨T, 1, none⟩ = some y ∧ w'.cell? ⟨R, 0, none⟩ = some (.pointer (some ⟨k, 0, none⟩)) ∧ w'.cell? ⟨k, 1, none⟩ = some (.int .i64 pe) ∧ w'.cell? ⟨F, 0, none⟩ = some (.int .i64 0) ∧ w'.cell? ⟨F, 1, none⟩ = some (.int .i64 0)
theorem reads_T {W : World} {T R k F : Nat} {x y : Value} {pe : Int} (h : Reads T R k F x y pe W.drew) (nR : ¬ R = T) (nk : ¬ k = T) (nF : ¬ F = T) : Reads T R k F x y pe ((W.setCell ⟨T, 0, none⟩ x).setCell ⟨T, 1, none⟩ y).drew := by
  obtain ⟨h1, h2, h3, h4, h5, h6⟩ := h
  simp at h1 h2 h3 h4 h5 h6
  refine ⟨?_, ?_, ?_, ?_, ?_, ?_⟩ <;> simp [go_sem, h1, h2, h3, h4, h5, h6, nR, nk, nF, Ne.symm nR, Ne.symm nk, Ne.symm nF]
theorem reads_N {W : World} {T R k F N : Nat} {x y u : Value} {pe : Int} (h : Reads T R k F x y pe W.drew) (nT : ¬ T = N) (nR : ¬ R = N) (nk : ¬ k = N) (nF : ¬ F = N) : Reads T R k F x y pe (W.setCell ⟨N, 0, none⟩ u).drew := by
  obtain ⟨h1, h2, h3, h4, h5, h6⟩ := h
  simp at h1 h2 h3 h4 h5 h6
  refine ⟨?_, ?_, ?_, ?_, ?_, ?_⟩ <;> simp [go_sem, h1, h2, h3, h4, h5, h6, nT, nR, nk, nF, Ne.symm nT, Ne.symm nR, Ne.symm nk, Ne.symm nF]
theorem reads_F {W : World} {T R k F : Nat} {x y : Value} {pe : Int} (h : Reads T R k F x y pe W.drew) (nT : ¬ T = F) (nR : ¬ R = F) (nk : ¬ k = F) : Reads T R k F x y pe ((W.setCell ⟨F, 0, none⟩ (.int .i64 0)).setCell ⟨F, 1, none⟩ (.int .i64 0)).drew := by
  obtain ⟨h1, h2, h3, h4, h5, h6⟩ := h
  simp at h1 h2 h3 h4 h5 h6
  refine ⟨?_, ?_, ?_, ?_, ?_, ?_⟩ <;> simp [go_sem, h1, h2, h3, h4, h5, h6, nT, nR, nk, Ne.symm nT, Ne.symm nR, Ne.symm nk]

/-- The cells at the door, ahead of the deferred closure. -/
structure FrD (W : World) (T N F R k : Nat) (x y : Value) (pe er fa : Int) : Prop where
  t0 : W.cell? ⟨T, 0, none⟩ = some x
  t1 : W.cell? ⟨T, 1, none⟩ = some y
  n0 : W.cell? ⟨N, 0, none⟩ = some (.int .i64 pe)
  f0 : W.cell? ⟨F, 0, none⟩ = some (.int .i64 0)
  f1 : W.cell? ⟨F, 1, none⟩ = some (.int .i64 0)
  i0 : W.frozen? ⟨T, 0, none⟩ = false
  i1 : W.frozen? ⟨T, 1, none⟩ = false
  j0 : W.frozen? ⟨N, 0, none⟩ = false
  g0 : W.frozen? ⟨F, 0, none⟩ = false
  g1 : W.frozen? ⟨F, 1, none⟩ = false
  r0 : W.cell? ⟨R, 0, none⟩ = some (.pointer (some ⟨k, 0, none⟩))
  c2 : W.cell? ⟨k, 2, none⟩ = some (.int .i64 er)
  c3 : W.cell? ⟨k, 3, none⟩ = some (.int .i64 fa)
theorem frD_of {w : World} {T N F R k : Nat} {x y v : Value} {pe er fa : Int} (h : FrT w T N F x y) (hr : RdIs w k v (pe, er, fa)) (r0 : w.cell? ⟨R, 0, none⟩ = some (.pointer (some ⟨k, 0, none⟩)))
    (nTN : ¬ T = N) (nTF : ¬ T = F) (nNF : ¬ N = F) (nRT : ¬ R = T) (nRN : ¬ R = N) (nRF : ¬ R = F) (nkT : ¬ k = T) (nkN : ¬ k = N) (nkF : ¬ k = F) :
    FrD (((((w.setCell ⟨T, 0, none⟩ x).setCell ⟨T, 1, none⟩ y).setCell ⟨N, 0, none⟩ (.int .i64 pe)).setCell ⟨F, 0, none⟩ (.int .i64 0)).setCell ⟨F, 1, none⟩ (.int .i64 0)).drew T N F R k x y pe er fa := by
  have c2 := hr.c2
  have c3 := hr.c3
  simp only at c2 c3
  refine ⟨?_, ?_, ?_, ?_, ?_, ?_, ?_, ?_, ?_, ?_, ?_, ?_, ?_⟩ <;>
    simp [go_sem, h.t0, h.t1, h.n0, h.f0, h.f1, h.i0, h.i1, h.j0, h.g0, h.g1, r0, c2, c3, nTN, nTF, nNF, nRT, nRN, nRF, nkT, nkN, nkF, Ne.symm nTN, Ne.symm nTF, Ne.symm nNF, Ne.symm nRT, Ne.symm nRN, Ne.symm nRF, Ne.symm nkT, Ne.symm nkN, Ne.symm nkF]

def GotT (w : World) (r : Int × Int × Int × Int × Int) (e : Ending) (w' : World) : Prop :=
  e = .returned (.tuple #[.agg #[.int .i64 r.1, .int .i64 r.2.1], .int .i64 r.2.2.1, .agg #[.int .i64 r.2.2.2.1, .int .i64 r.2.2.2.2]]) ∧ Below w.heap.size w w'

end Go.Proofs.YtepbjkkakfpjgaaGreatDoor.Kind

/-
  Kind: what GetLimits' own variables hold; its deferred closure by contract.
-/
namespace Go.Proofs.YtepbjkkakfpjgaaGreatDoor.Kind
set_option linter.unusedSimpArgs false
set_option linter.unusedVariables false
open Go.RowKit Go.Proofs.YtepbjkkakfpjgaaGreatDoor.Leb

/-- The frame's own variables: the answer (three cells from ⟨T, 0⟩ on), the place behind (⟨N, 0⟩), the fault (⟨F, 0⟩, ⟨F, 1⟩). -/
structure FrL (w : World) (T N F : Nat) (x y z : Value) : Prop where
  t0 : w.cell? ⟨T, 0, none⟩ = some x
  t1 : w.cell? ⟨T, 1, none⟩ = some y
  t2 : w.cell? ⟨T, 2, none⟩ = some z
  n0 : w.cell? ⟨N, 0, none⟩ = some (.int .i64 0)
  f0 : w.cell? ⟨F, 0, none⟩ = some (.int .i64 0)
  f1 : w.cell? ⟨F, 1, none⟩ = some (.int .i64 0)
  i0 : w.frozen? ⟨T, 0, none⟩ = false
  i1 : w.frozen? ⟨T, 1, none⟩ = false
  i2 : w.frozen? ⟨T, 2, none⟩ = false
  j0 : w.frozen? ⟨N, 0, none⟩ = false
  g0 : w.frozen? ⟨F, 0, none⟩ = false
  g1 : w.frozen? ⟨F, 1, none⟩ = false
theorem FrL.save {w w' : World} {T N F k : Nat} {x y z : Value} (h : FrL w T N F x y z) (s : Save k w w') (hT : T ≠ k) (hN : N ≠ k) (hF : F ≠ k) : FrL w' T N F x y z := by
  have lT := World.block_lt_of_cell? w _ h.t0
  have lN := World.block_lt_of_cell? w _ h.n0
  have lF := World.block_lt_of_cell? w _ h.f0
  exact ⟨s.cell hT h.t0, s.cell hT h.t1, s.cell hT h.t2, s.cell hN h.n0, s.cell hF h.f0, s.cell hF h.f1, s.frozen lT hT h.i0, s.frozen lT hT h.i1, s.frozen lT hT h.i2, s.frozen lN hN h.j0, s.frozen lF hF h.g0, s.frozen lF hF h.g1⟩
theorem FrL.below {w w' : World} {T N F : Nat} {x y z : Value} (h : FrL w T N F x y z) (hb : Below w.heap.size w w') : FrL w' T N F x y z :=
  h.save (k := w.heap.size) (.of_below hb) (Nat.ne_of_lt (World.block_lt_of_cell? w _ h.t0)) (Nat.ne_of_lt (World.block_lt_of_cell? w _ h.n0)) (Nat.ne_of_lt (World.block_lt_of_cell? w _ h.f0))
theorem FrL.set0 {w : World} {T N F : Nat} {x y z u : Value} (h : FrL w T N F x y z) (hN : N ≠ T) (hF : F ≠ T) : FrL (w.setCell ⟨T, 0, none⟩ u) T N F u y z := by
  refine ⟨?_, ?_, ?_, ?_, ?_, ?_, ?_, ?_, ?_, ?_, ?_, ?_⟩ <;> simp [go_sem, h.t0, h.t1, h.t2, h.n0, h.f0, h.f1, h.i0, h.i1, h.i2, h.j0, h.g0, h.g1, hN, hF, Ne.symm hN, Ne.symm hF]
theorem FrL.set1 {w : World} {T N F : Nat} {x y z u : Value} (h : FrL w T N F x y z) (hN : N ≠ T) (hF : F ≠ T) : FrL (w.setCell ⟨T, 1, none⟩ u) T N F x u z := by
  refine ⟨?_, ?_, ?_, ?_, ?_, ?_, ?_, ?_, ?_, ?_, ?_, ?_⟩ <;> simp [go_sem, h.t0, h.t1, h.t2, h.n0, h.f0, h.f1, h.i0, h.i1, h.i2, h.j0, h.g0, h.g1, hN, hF, Ne.symm hN, Ne.symm hF]
theorem FrL.set2 {w : World} {T N F : Nat} {x y z u : Value} (h : FrL w T N F x y z) (hN : N ≠ T) (hF : F ≠ T) : FrL (w.setCell ⟨T, 2, none⟩ u) T N F x y u := by
  refine ⟨?_, ?_, ?_, ?_, ?_, ?_, ?_, ?_, ?_, ?_, ?_, ?_⟩ <;> simp [go_sem, h.t0, h.t1, h.t2, h.n0, h.f0, h.f1, h.i0, h.i1, h.i2, h.j0, h.g0, h.g1, hN, hF, Ne.symm hN, Ne.symm hF]
theorem frL_start (w : World) (t t' t'' : TypeId) : FrL (((w.alloc (.cells #[.int .u32 0, .int .u32 0, .bool false] t)).alloc (.cells #[.int .i64 0] t')).alloc (.cells #[.int .i64 0, .int .i64 0] t'')) w.heap.size (w.heap.size + 1) (w.heap.size + 1 + 1) (.int .u32 0) (.int .u32 0) (.bool false) := by
  refine ⟨?_, ?_, ?_, ?_, ?_, ?_, ?_, ?_, ?_, ?_, ?_, ?_⟩ <;> go_simp

/-- What the loads of the last statement read. -/
abbrev ReadsL (T R k F : Nat) (x y z : Value) (pe : Int) (w' : World) : Prop := w'.cell? ⟨T, 0, none⟩ = some x ∧ w'.cell? ⟨T, 1, none⟩ = some y ∧ w'.cell? ⟨T, 2, none⟩ = some z ∧ w'.cell? ⟨R, 0, none⟩ = some (.pointer (some ⟨k, 0, none⟩)) ∧ w'.cell? ⟨k, 1, none⟩ = some (.int .i64 pe) ∧ w'.cell? ⟨F, 0, none⟩ = some (.int .i64 0) ∧ w'.cell? ⟨F, 1, none⟩ = some (.int .i64 0)
theorem readsL_T {W : World} {T R k F : Nat} {x y z : Value} {pe : Int} (h : ReadsL T R k F x y z pe W.drew) (nR : ¬ R = T) (nk : ¬ k = T) (nF : ¬ F = T) : ReadsL T R k F x y z pe (((W.setCell ⟨T, 0, none⟩ x).setCell ⟨T, 1, none⟩ y).setCell ⟨T, 2, none⟩ z).drew := by
  obtain ⟨h1, h2, h7, h3, h4, h5, h6⟩ := h
  simp at h1 h2 h3 h4 h5 h6 h7
  refine ⟨?_, ?_, ?_, ?_, ?_, ?_, ?_⟩ <;> simp [go_sem, h1, h2, h3, h4, h5, h6, h7, nR, nk, nF, Ne.symm nR, Ne.symm nk, Ne.symm nF]
theorem readsL_N {W : World} {T R k F N : Nat} {x y z u : Value} {pe : Int} (h : ReadsL T R k F x y z pe W.drew) (nT : ¬ T = N) (nR : ¬ R = N) (nk : ¬ k = N) (nF : ¬ F = N) : ReadsL T R k F x y z pe (W.setCell ⟨N, 0, none⟩ u).drew := by
  obtain ⟨h1, h2, h7, h3, h4, h5, h6⟩ := h
  simp at h1 h2 h3 h4 h5 h6 h7
  refine ⟨?_, ?_, ?_, ?_, ?_, ?_, ?_⟩ <;> simp [go_sem, h1, h2, h3, h4, h5, h6, h7, nT, nR, nk, nF, Ne.symm nT, Ne.symm nR, Ne.symm nk, Ne.symm nF]
theorem readsL_F {W : World} {T R k F : Nat} {x y z : Value} {pe : Int} (h : ReadsL T R k F x y z pe W.drew) (nT : ¬ T = F) (nR : ¬ R = F) (nk : ¬ k = F) : ReadsL T R k F x y z pe ((W.setCell ⟨F, 0, none⟩ (.int .i64 0)).setCell ⟨F, 1, none⟩ (.int .i64 0)).drew := by
  obtain ⟨h1, h2, h7, h3, h4, h5, h6⟩ := h
  simp at h1 h2 h3 h4 h5 h6 h7
  refine ⟨?_, ?_, ?_, ?_, ?_, ?_, ?_⟩ <;> simp [go_sem, h1, h2, h3, h4, h5, h6, h7, nT, nR, nk, Ne.symm nT, Ne.symm nR, Ne.symm nk]

/-- The cells at the door, ahead of the deferred closure. -/
structure FrLD (W : World) (T N F R k : Nat) (x y z : Value) (pe er fa : Int) : Prop where
  t0 : W.cell? ⟨T, 0, none⟩ = some x
  t1 : W.cell? ⟨T, 1, none⟩ = some y
  t2 : W.cell? ⟨T, 2, none⟩ = some z
  n0 : W.cell? ⟨N, 0, none⟩ = some (.int .i64 pe)
  f0 : W.cell? ⟨F, 0, none⟩ = some (.int .i64 0)
  f1 : W.cell? ⟨F, 1, none⟩ = some (.int .i64 0)
  i0 : W.frozen? ⟨T, 0, none⟩ = false
  i1 : W.frozen? ⟨T, 1, none⟩ = false
  i2 : W.frozen? ⟨T, 2, none⟩ = false
  j0 : W.frozen? ⟨N, 0, none⟩ = false
  g0 : W.frozen? ⟨F, 0, none⟩ = false
  g1 : W.frozen? ⟨F, 1, none⟩ = false
  r0 : W.cell? ⟨R, 0, none⟩ = some (.pointer (some ⟨k, 0, none⟩))
  c2 : W.cell? ⟨k, 2, none⟩ = some (.int .i64 er)
  c3 : W.cell? ⟨k, 3, none⟩ = some (.int .i64 fa)
theorem frLD_of {w : World} {T N F R k : Nat} {x y z v : Value} {pe er fa : Int} (h : FrL w T N F x y z) (hr : RdIs w k v (pe, er, fa)) (r0 : w.cell? ⟨R, 0, none⟩ = some (.pointer (some ⟨k, 0, none⟩)))
    (nTN : ¬ T = N) (nTF : ¬ T = F) (nNF : ¬ N = F) (nRT : ¬ R = T) (nRN : ¬ R = N) (nRF : ¬ R = F) (nkT : ¬ k = T) (nkN : ¬ k = N) (nkF : ¬ k = F) :
    FrLD ((((((w.setCell ⟨T, 0, none⟩ x).setCell ⟨T, 1, none⟩ y).setCell ⟨T, 2, none⟩ z).setCell ⟨N, 0, none⟩ (.int .i64 pe)).setCell ⟨F, 0, none⟩ (.int .i64 0)).setCell ⟨F, 1, none⟩ (.int .i64 0)).drew T N F R k x y z pe er fa := by
  have c2 := hr.c2
  have c3 := hr.c3
  simp only at c2 c3
  refine ⟨?_, ?_, ?_, ?_, ?_, ?_, ?_, ?_, ?_, ?_, ?_, ?_, ?_, ?_, ?_⟩ <;>
    simp [go_sem, h.t0, h.t1, h.t2, h.n0, h.f0, h.f1, h.i0, h.i1, h.i2, h.j0, h.g0, h.g1, r0, c2, c3, nTN, nTF, nNF, nRT, nRN, nRF, nkT, nkN, nkF, Ne.symm nTN, Ne.symm nTF, Ne.symm nNF, Ne.symm nRT, Ne.symm nRN, Ne.symm nRF, Ne.symm nkT, Ne.symm nkN, Ne.symm nkF]

/-- What GetLimits tells, of what it has read and of the reader's last state. -/
def finL (n x : Int) (c : Bool) (s : Rd) : Int × Int × Bool × Int × Int × Int := if s.2.1 = 0 then (n, x, c, s.1, 0, s.2.2) else (0, 0, false, 0, s.2.1, s.2.2)
theorem finL_ok (n x : Int) (c : Bool) (pe fa : Int) : finL n x c (pe, 0, fa) = (n, x, c, pe, 0, fa) := rfl
theorem finL_no {n x : Int} {c : Bool} {pe er fa : Int} (h : ¬ er = 0) : finL n x c (pe, er, fa) = (0, 0, false, 0, er, fa) := if_neg h
def GotL (w : World) (r : Int × Int × Bool × Int × Int × Int) (e : Ending) (w' : World) : Prop :=
  e = .returned (.tuple #[.agg #[.int .u32 r.1, .int .u32 r.2.1, .bool r.2.2.1], .int .i64 r.2.2.2.1, .agg #[.int .i64 r.2.2.2.2.1, .int .i64 r.2.2.2.2.2]]) ∧ Below w.heap.size w w'
end Go.Proofs.YtepbjkkakfpjgaaGreatDoor.Kind

/-
  Kind: GetLimits, by contract, in one piece.
-/
namespace Go.Proofs.YtepbjkkakfpjgaaGreatDoor.Kind
open Go.RowKit Go.Proofs.YtepbjkkakfpjgaaGreatDoor.Leb

theorem getLim_fin (zs : List Int) (p most : Int) (c6 n x : Int) (q6 q7 q8 : Rd) (e6 : oneR zs is01 (startR zs p) = (c6, q6)) (e7 : numR zs q6 = (n, q7)) (e8 : numR zs q7 = (x, q8)) :
    getLim zs p most = finL n (if c6 = 1 then x else 0) (decide (c6 = 1)) (
      (fun s4 => if c6 = 1 ∧ (most < (if c6 = 1 then x else 0) ∨ (if c6 = 1 then x else 0) < n) then refuseR s4 141 q7.1 else s4) (if most < n then refuseR (if c6 = 1 then q8 else q7) 141 q6.1 else (if c6 = 1 then q8 else q7))) := by
  unfold getLim finL
  simp only [e6, e7, e8]
  by_cases hc : c6 = 1 <;> simp [hc]

end Go.Proofs.YtepbjkkakfpjgaaGreatDoor.Kind

/-
  The statements' kit: SameBytes tells whether two slices hold the same bytes.
-/
namespace Go.Proofs.YtepbjkkakfpjgaaGreatDoor
open Go.RowKit

theorem strOf_inj {xs ys : List Int} (hx : ∀ z ∈ xs, 0 ≤ z ∧ z < 256) (hy : ∀ z ∈ ys, 0 ≤ z ∧ z < 256) (h : xs.map (fun n => UInt8.ofNat n.toNat) = ys.map (fun n => UInt8.ofNat n.toNat)) : xs = ys := by
  induction xs generalizing ys with
  | nil => cases ys <;> simp_all
  | cons x xs ih =>
    cases ys with
    | nil => simp at h
    | cons y ys =>
      simp only [List.map_cons, List.cons.injEq] at h
      have h1 := hx x (by simp)
      have h2 := hy y (by simp)
      have h3 := congrArg UInt8.toNat h.1
      simp only [UInt8.toNat_ofNat'] at h3
      have : x = y := by omega
      rw [this, ih (fun z hz => hx z (by simp [hz])) (fun z hz => hy z (by simp [hz])) h.2]

theorem SameBytes_any (a1 a2 : Option Addr) (l1 c1 l2 c2 : Nat) (xs ys : List Int) (w : World) (hl1 : xs.length = l1) (hl2 : ys.length = l2) (hx : Bytes w a1 xs) (hy : Bytes w a2 ys) :
    Calls Tryz.prog 11 #[.slice a1 l1 c1, .slice a2 l2 c2] w fun e w' => e = .returned (.bool (decide (xs = ys))) ∧ w = w' := by
  have e1 := str_of hx l1 c1 hl1
  have e2 := str_of hy l2 c2 hl2
  have HE : Hid (((strOfNums xs).toList == (strOfNums ys).toList) = decide (xs = ys)) := by
    show (_ == _) = decide _
    by_cases h : xs = ys
    · subst h; simp
    · have : ¬ (strOfNums xs).toList = (strOfNums ys).toList := fun hh => h (strOf_inj hx.byte hy.byte (by rw [ByteArray.toList_eq, ByteArray.toList_eq, strOfNums_data, strOfNums_data] at hh; exact hh))
      simp [h, this]
  clear hl1 hl2
  go_enter Tryz.func11, Tryz.ntmps11
  go_wp2
  go_ret
  exact ⟨ret_bool HE.out, rfl⟩
theorem SameBytes_yes (a1 a2 : Option Addr) (l1 c1 l2 c2 : Nat) (xs : List Int) (w : World) (hl1 : xs.length = l1) (hl2 : xs.length = l2) (hx : Bytes w a1 xs) (hy : Bytes w a2 xs) :
    Calls Tryz.prog 11 #[.slice a1 l1 c1, .slice a2 l2 c2] w fun e w' => e = .returned (.bool true) ∧ w = w' :=
  (SameBytes_any a1 a2 l1 c1 l2 c2 xs xs w hl1 hl2 hx hy).mono fun e w' ⟨he, hw⟩ => ⟨by rw [he]; simp, hw⟩
end Go.Proofs.YtepbjkkakfpjgaaGreatDoor

/-
  LEB, signed: PutS by contract.
-/
namespace Go.Proofs.YtepbjkkakfpjgaaGreatDoor.Leb
open Go.RowKit

set_option maxHeartbeats 400000 in
theorem putS_any (n : Int) (w : World) (h0 : -2147483648 ≤ n) (h1 : n < 2147483648) : Calls Tryz.prog 240 #[.int .i32 n] w (Gives w (encS n)) := by
  have hs := sizeS_pos n
  have HW := hid (putL_wrap (sizeS n) (by omega) n)
  have hu : U64 (IntKind.u64.wrap n) := by rw [IntKind.wrap_u64]; exact ⟨by omega, by omega⟩
  go_enter Tryz.func240, Tryz.ntmps240
  go_wp2_with (go_at_call 245; refine (sizeS_any _ _ (by omega) (by omega)).mono ?_; rintro e w' ⟨rfl, rfl⟩)
  refine (put_any (IntKind.u64.wrap n) (sizeS n) w hu (by omega) (by omega)).mono ?_
  rintro e w' ⟨v, rfl, ho, hb⟩
  rw [IntKind.wrap_u64, HW.out] at ho
  go_wp2
  go_ret
  exact ⟨v, rfl, ho, hb⟩
end Go.Proofs.YtepbjkkakfpjgaaGreatDoor.Leb

/-
  LEB: the document's own answers PutU and PutS, by contracts: the bytes that the plain functions tell, in new memory.
-/
namespace Go.Proofs.YtepbjkkakfpjgaaGreatDoor.Leb
open Go.RowKit

set_option maxHeartbeats 1600000 in
theorem refU_any (n : Int) (w : World) (h0 : 0 ≤ n) (h1 : n < 4294967296) :
    Calls Tryz.prog 113 #[.int .u32 n] w (Gives w (encU n)) := by
  go_enter Tryz.func113, Tryz.ntmps113
  go_wp2
  go_loopw [0, 3] (fun su out wr => ∃ (m : Int) (xs : List Int), 0 ≤ m ∧ m < 4294967296 ∧ su = .int .u32 m ∧ Own w.heap.size wr out xs ∧ xs ++ encU m = encU n ∧ xs.length ≤ 5 ∧ Below w.heap.size w wr ∧ w.heap.size ≤ wr.heap.size)
    (fun su _ _ => (intOf su).toNat)
  case atStart => exact ⟨n, [], h0, h1, rfl, World.ownsRow_nil _ _ _ _, rfl, by decide, Below.refl _ _, Nat.le_refl _⟩
  case round =>
    obtain ⟨m, xs, hm0, hm1, rfl, hown, hp, hx5, hb, hsz⟩ := hrel
    obtain ⟨a, c, rfl⟩ := hown.slice
    have HP := hid hp
    clear hp
    by_cases hl : 128 ≤ m
    · have HF : Hid ((xs ++ [m % 128 + 128]) ++ encU (m / 128) = encU n) := by
        have := HP.out; rw [encU_step hl hm1] at this; rw [← this]; simp; exact trivial
      have H5 : Hid ((xs ++ [m % 128 + 128]).length ≤ 5) := by
        have h := congrArg List.length HF.out
        have := sizeU_pos n
        simp [encU_length] at h
        show _ ≤ _
        simp; omega
      clear HP
      go_wp2_with (first | (at_builtin; refine append_byte rfl (.tmp 6) (.tmp 11) rfl (m % 128 + 128) rfl hown hb hsz rfl (by omega) ?_; intro v' w1 hown' hb' hsz'))
      go_roundw
      case rel => exact ⟨m / 128, xs ++ [m % 128 + 128], by omega, by omega, rfl, hown', HF.out, H5.out, hb', hsz'⟩
      case measure => simp [intOf]; omega
    · have HF : Hid (xs ++ [m] = encU n) := by
        have := HP.out; rw [encU_last hm0 (by omega)] at this; exact this
      clear HP
      go_wp2_with (first | (at_builtin; refine append_byte rfl (.tmp 15) (.tmp 18) rfl m rfl hown hb hsz rfl (by omega) ?_; intro v' w1 hown' hb' hsz'))
      go_ret
      rw [HF.out] at hown'
      exact ⟨v', rfl, hown', hb'⟩

end Go.Proofs.YtepbjkkakfpjgaaGreatDoor.Leb

/-
  Kind: the document's own answers Check, CheckLimits, Put, PutLimits, by contract.
-/
namespace Go.Proofs.YtepbjkkakfpjgaaGreatDoor.Kind
open Go.RowKit Go.Proofs.YtepbjkkakfpjgaaGreatDoor.Leb

theorem refCheck_any (p r : Int) (w : World) : Calls Tryz.prog 133 #[.agg #[.int .i64 p, .int .i64 r]] w
    fun e w' => e = .returned (.int .i64 (codeType p r)) ∧ Below w.heap.size w w' := by
  by_cases h1 : p < 0
  · have HC : Hid (codeType p r = 2) := by show _ = _; unfold codeType okType; rw [if_neg]; simp; omega
    have d1 : decide (p < 0) = true := decide_eq_true h1
    go_enter Tryz.func133, Tryz.ntmps133
    go_wp2
    go_ret
    exact ⟨ret_int HC.out.symm, (Below.refl _ _).alloc (Nat.le_refl _) _⟩
  · by_cases h2 : 255 < p
    · have HC : Hid (codeType p r = 2) := by show _ = _; unfold codeType okType; rw [if_neg]; simp; omega
      go_enter Tryz.func133, Tryz.ntmps133
      go_wp2
      go_ret
      exact ⟨ret_int HC.out.symm, (Below.refl _ _).alloc (Nat.le_refl _) _⟩
    · by_cases h3 : r < 0
      · have HC : Hid (codeType p r = 2) := by show _ = _; unfold codeType okType; rw [if_neg]; simp; omega
        go_enter Tryz.func133, Tryz.ntmps133
        go_wp2
        go_ret
        exact ⟨ret_int HC.out.symm, (Below.refl _ _).alloc (Nat.le_refl _) _⟩
      · by_cases h4 : 1 < r
        · have HC : Hid (codeType p r = 2) := by show _ = _; unfold codeType okType; rw [if_neg]; simp; omega
          go_enter Tryz.func133, Tryz.ntmps133
          go_wp2
          go_ret
          exact ⟨ret_int HC.out.symm, (Below.refl _ _).alloc (Nat.le_refl _) _⟩
        · have HC : Hid (codeType p r = 0) := by show _ = _; unfold codeType okType; rw [if_pos]; simp; omega
          go_enter Tryz.func133, Tryz.ntmps133
          go_wp2
          go_ret
          exact ⟨ret_int HC.out.symm, (Below.refl _ _).alloc (Nat.le_refl _) _⟩

set_option maxHeartbeats 800000 in
theorem refCheckLimits_any (n x : Int) (c : Bool) (most : Int) (w : World) : Calls Tryz.prog 135 #[.agg #[.int .u32 n, .int .u32 x, .bool c], .int .u32 most] w
    fun e w' => e = .returned (.int .i64 (codeLim n x c most)) ∧ Below w.heap.size w w' := by
  by_cases h1 : most < n
  · have HC : Hid (codeLim n x c most = 2) := by show _ = _; unfold codeLim okLim; rw [if_neg]; simp; omega
    go_enter Tryz.func135, Tryz.ntmps135
    go_wp2
    go_ret
    exact ⟨ret_int HC.out.symm, (Below.refl _ _).alloc (Nat.le_refl _) _⟩
  · cases c
    · by_cases h2 : x = 0
      · subst h2
        have HC : Hid (codeLim n 0 false most = 0) := by show _ = _; unfold codeLim okLim; rw [if_pos]; simp; omega
        go_enter Tryz.func135, Tryz.ntmps135
        go_wp2
        go_ret
        exact ⟨ret_int HC.out.symm, (Below.refl _ _).alloc (Nat.le_refl _) _⟩
      · have HC : Hid (codeLim n x false most = 2) := by show _ = _; unfold codeLim okLim; rw [if_neg]; simp; omega
        have h3 : (x != 0) = true := by simp [h2]
        go_enter Tryz.func135, Tryz.ntmps135
        go_wp2
        go_ret
        exact ⟨ret_int HC.out.symm, (Below.refl _ _).alloc (Nat.le_refl _) _⟩
    · by_cases h2 : x < n
      · have HC : Hid (codeLim n x true most = 2) := by show _ = _; unfold codeLim okLim; rw [if_neg]; simp; omega
        go_enter Tryz.func135, Tryz.ntmps135
        go_wp2
        go_ret
        exact ⟨ret_int HC.out.symm, (Below.refl _ _).alloc (Nat.le_refl _) _⟩
      · by_cases h3 : most < x
        · have HC : Hid (codeLim n x true most = 2) := by show _ = _; unfold codeLim okLim; rw [if_neg]; simp; omega
          go_enter Tryz.func135, Tryz.ntmps135
          go_wp2
          go_ret
          exact ⟨ret_int HC.out.symm, (Below.refl _ _).alloc (Nat.le_refl _) _⟩
        · have HC : Hid (codeLim n x true most = 0) := by show _ = _; unfold codeLim okLim; rw [if_pos]; simp; omega
          go_enter Tryz.func135, Tryz.ntmps135
          go_wp2
          go_ret
          exact ⟨ret_int HC.out.symm, (Below.refl _ _).alloc (Nat.le_refl _) _⟩

theorem rep_snoc (n : Int) (i : Nat) : encU n ++ List.replicate i 127 ++ [127] = encU n ++ List.replicate (i + 1) 127 := by
  rw [List.append_assoc, ← List.replicate_succ']
set_option maxHeartbeats 800000 in
theorem refWords_any (n : Nat) (hn : n ≤ 255) (w : World) : Calls Tryz.prog 176 #[.int .i64 n] w (Gives w (wordsL n)) := by
  have hs := sizeU_pos n
  go_enter Tryz.func176, Tryz.ntmps176
  go_wp2_with fail
  refine (refU_any n _ (by omega) (by omega)).mono ?_
  rintro e w1 ⟨v, rfl, ho, hb⟩
  go_wp2
  go_loopw [3, 4] (fun sv si wr => ∃ i : Nat, i ≤ n ∧ si = .int .i64 i ∧ Own w.heap.size wr sv (encU n ++ List.replicate i 127) ∧ Below w.heap.size w wr) (fun _ si _ => n - (intOf si).toNat)
  case atStart => exact ⟨0, by omega, rfl, by simpa using ho, hb⟩
  case round =>
    obtain ⟨i, hi, rfl, hown, hbw⟩ := hrel
    obtain ⟨m, hm⟩ : ∃ m, (encU (n : Int) ++ List.replicate i 127).length = m := ⟨_, rfl⟩
    obtain ⟨av, cv, rfl⟩ := hown.sliceN hm
    have hm2 : m ≤ 300 := by rw [← hm, List.length_append, encU_length, List.length_replicate]; omega
    have HM := hid hm
    clear hm ho hb
    by_cases hlt : i < n
    · go_wp2_with (first | (at_builtin; refine append_byte rfl (.tmp 13) (.tmp 14) rfl 127 rfl hown hbw hbw.size rfl (by rw [HM.out]; omega) ?_; intro v' w5 hown5 hb5 hs5))
      go_roundw
      case rel => exact ⟨i + 1, by omega, by go_num, by rw [← rep_snoc]; exact hown5, hb5⟩
      case measure => simp [intOf]; omega
    · obtain rfl : i = n := by omega
      go_wp2
      go_ret
      rw [words_append] at hown
      exact ⟨_, rfl, hown, hbw⟩

theorem own_lit (w : World) (z : Int) : Own w.heap.size (w.alloc (.cells #[.int .u8 z] 5)) (.slice (some ⟨w.heap.size, 0, none⟩) 1 1) [z] := by
  refine ⟨rfl, .inr ⟨w.heap.size, 1, #[.int .u8 z], rfl, Nat.le_refl _, ?_, Nat.le_refl _, by unfold maxLen; omega, rfl, rfl⟩⟩
  show (w.heap.push _)[w.heap.size]? = _
  simp

theorem typeL_cat (p r : Int) : [96] ++ wordsL p ++ wordsL r = typeL p r := by simp [typeL]
theorem typeL_cat1 (p : Nat) : ([96] ++ wordsL p).length = 1 + (sizeU p + p) := by simp [wordsL_len]; omega
set_option maxHeartbeats 1600000 in
theorem refPut_ok (p r : Nat) (hp : p ≤ 255) (hr : r ≤ 1) (w : World) : Calls Tryz.prog 114 #[.agg #[.int .i64 p, .int .i64 r]] w (PutOk w (typeL p r)) := by
  have hC := fun w => refCheck_any p r w
  have hc0 : codeType p r = 0 := by
    have : okType p r = true := by unfold okType; simp; omega
    unfold codeType; rw [if_pos this]
  simp only [hc0] at hC
  have HLE := hid (typeL_len p r)
  have HCAT := hid (typeL_cat p r)
  have HC1 := hid (typeL_cat1 p)
  have hs := sizeU_pos p
  have hs2 := sizeU_pos r
  clear hc0
  go_enter Tryz.func114, Tryz.ntmps114
  go_wp2_with fail
  refine (hC _).mono ?_
  rintro e w1 ⟨rfl, hb1⟩
  obtain ⟨d0, d1, _, _, _⟩ := two hb1
  have hW0 : Below w.heap.size w (w.alloc (.cells #[.int .i64 p, .int .i64 r] 50)) := (Below.refl _ _).alloc (Nat.le_refl _) _
  have hs0 : w.heap.size + 1 = (w.alloc (.cells #[.int .i64 p, .int .i64 r] 50)).heap.size := by simp
  have HS0 := hid hs0
  have d0' := keepA d0 (.cells #[.int .u8 96] 5)
  clear hC hs0
  generalize w.alloc (.cells #[.int .i64 p, .int .i64 r] 50) = W0 at *
  go_wp2_with fail
  refine (refWords_any p hp _).mono ?_
  rintro e w3 ⟨v3, rfl, ho3, hb3⟩
  obtain ⟨a3, c3, rfl⟩ := ho3.sliceN (wordsL_len p)
  have hy3 := ho3.bytes (wordsL_bytes p) (by rw [wordsL_len]; omega)
  have hn3 := ho3.nil
  have hb4 : Below w1.heap.size w1 w3 := ((Below.refl _ _).alloc (Nat.le_refl _) _).trans (hb3.mono (by simp))
  have hoL := ((own_lit w1 96).below hb3).mono hb1.size
  have hB3 := thenB hb1 hb4
  have e1 := keep hb4 d1
  have HLk : W0.heap.size > w.heap.size := by have := HS0.out; omega
  clear ho3 hb3 hb4 d0 d1 d0' hb1
  go_wp2_with (first | (at_builtin; refine append_bytes rfl (.tmp 11) (.tmp 14) rfl rfl hoL hB3 hB3.size _ _ _ rfl hn3.out (wordsL_len p) hy3 (by rw [wordsL_len]; simp; omega) ?_; intro v5 w5 ho5 hB5 hs5; have e5 := (hB5.cell (p := ⟨w.heap.size, 1, none⟩) HLk).trans ((hB3.cell (p := ⟨w.heap.size, 1, none⟩) HLk).symm.trans e1); obtain ⟨a5, c5, rfl⟩ := ho5.sliceN HC1.out))
  refine (refWords_any r (by omega) _).mono ?_
  rintro e w7 ⟨v7, rfl, ho7, hb7⟩
  obtain ⟨a7, c7, rfl⟩ := ho7.sliceN (wordsL_len r)
  have hy7 := ho7.bytes (wordsL_bytes r) (by rw [wordsL_len]; omega)
  have hn7 := ho7.nil
  have ho6 := ho5.below hb7
  have hB7 := thenB hB5 hb7
  clear ho7 hb7 ho5 hB5
  go_wp2_with (first | (at_builtin; refine append_bytes rfl (.tmp 16) (.tmp 19) rfl rfl ho6 hB7 hB7.size _ _ _ rfl hn7.out (wordsL_len r) hy7 (by rw [HC1.out, wordsL_len]; omega) ?_; intro v9 w9 ho9 hB9 hs9; rw [HCAT.out] at ho9; obtain ⟨a9, c9, rfl⟩ := ho9.sliceN HLE.out))
  go_ret2
  exact ⟨_, rfl, ho9.mono (by have := HS0.out; omega), hW0.trans (hB9.mono (by have := HS0.out; omega))⟩

set_option maxHeartbeats 800000 in
theorem refPut_no (p r : Int) (h : okType p r = false) (w : World) : Calls Tryz.prog 114 #[.agg #[.int .i64 p, .int .i64 r]] w (PutNo w) := by
  have hC := fun w => refCheck_any p r w
  have hc0 : codeType p r = 2 := by unfold codeType; rw [h]; rfl
  simp only [hc0] at hC
  clear hc0 h
  go_enter Tryz.func114, Tryz.ntmps114
  go_wp2_with fail
  refine (hC _).mono ?_
  rintro e w1 ⟨rfl, hb1⟩
  have hA : Below w.heap.size w w1 := ((Below.refl _ _).alloc (Nat.le_refl _) _).trans (hb1.mono (by simp))
  clear hC hb1
  go_wp2
  go_ret2
  exact ⟨rfl, hA⟩

set_option maxHeartbeats 800000 in
theorem refPutLimits_no (n x : Int) (c : Bool) (most : Int) (h : okLim n x c most = false) (w : World) : Calls Tryz.prog 116 #[.agg #[.int .u32 n, .int .u32 x, .bool c], .int .u32 most] w (PutNo w) := by
  have hC := fun w => refCheckLimits_any n x c most w
  have hc0 : codeLim n x c most = 2 := by unfold codeLim; rw [h]; rfl
  simp only [hc0] at hC
  clear hc0 h
  go_enter Tryz.func116, Tryz.ntmps116
  go_wp2_with fail
  refine (hC _).mono ?_
  rintro e w1 ⟨rfl, hb1⟩
  have hA : Below w.heap.size w w1 := ((Below.refl _ _).alloc (Nat.le_refl _) _).trans (hb1.mono (by simp))
  clear hC hb1
  go_wp2
  go_ret2
  exact ⟨rfl, hA⟩

theorem limL_cat2 (n : Int) : [0] ++ encU n = limL n 0 false := by simp [limL]
theorem limL_cat (n x : Int) : [1] ++ encU n ++ encU x = limL n x true := by simp [limL]
set_option maxHeartbeats 1600000 in
theorem refPutLimits_plain (n x most : Int) (h : okLim n x false most = true) (h0 : 0 ≤ n ∧ n ≤ 4294967295) (w : World) : Calls Tryz.prog 116 #[.agg #[.int .u32 n, .int .u32 x, .bool false], .int .u32 most] w (PutOk w (limL n x false)) := by
  have hC := fun w => refCheckLimits_any n x false most w
  have hc0 : codeLim n x false most = 0 := by unfold codeLim; rw [if_pos h]
  obtain rfl : x = 0 := by unfold okLim at h; simp at h; exact h.2
  simp only [hc0] at hC
  have HCAT := hid (limL_cat2 n)
  have HLE := hid (limL_len2 n)
  have hs := sizeU_pos n
  clear hc0 h
  go_enter Tryz.func116, Tryz.ntmps116
  go_wp2_with fail
  refine (hC _).mono ?_
  rintro e w1 ⟨rfl, hb1⟩
  obtain ⟨d0, d1, d2⟩ := three hb1
  have hA : Below w.heap.size w w1 := ((Below.refl _ _).alloc (Nat.le_refl _) _).trans (hb1.mono (by simp))
  have d0' := keepA d0 (.cells #[.int .u8 0] 5)
  clear hC hb1
  go_wp2_with fail
  refine (refU_any n _ (by omega) (by omega)).mono ?_
  rintro e w3 ⟨v, rfl, ho, hb3⟩
  obtain ⟨a3, c3, rfl⟩ := ho.sliceN (encU_length n)
  have hy := ho.bytes (encU_bytes n) (by rw [encU_length]; omega)
  have hn3 := ho.nil
  have hb4 : Below w1.heap.size w1 w3 := ((Below.refl _ _).alloc (Nat.le_refl _) _).trans (hb3.mono (by simp))
  have hoL := ((own_lit w1 0).below hb3).mono hA.size
  have hA3 := thenB hA hb4
  clear ho hb3 hb4
  go_wp2_with (first | (at_builtin; refine append_bytes rfl (.tmp 16) (.tmp 19) rfl rfl hoL hA3 hA3.size _ _ _ rfl hn3.out (encU_length n) hy (by rw [encU_length]; simp; omega) ?_; intro v5 w5 ho5 hA5 hs5; rw [HCAT.out] at ho5; obtain ⟨a5, c5, rfl⟩ := ho5.sliceN HLE.out))
  go_ret2
  exact ⟨_, rfl, ho5, hA5⟩
end Go.Proofs.YtepbjkkakfpjgaaGreatDoor.Kind

/-
  Kind: the document's own PutLimits of capped limits, by contract: one region that draws its order, with two calls and two appends.
-/
namespace Go.Proofs.YtepbjkkakfpjgaaGreatDoor.Kind
open Go.RowKit Go.Proofs.YtepbjkkakfpjgaaGreatDoor.Leb

theorem step_append_bytes {ops : Array Oper} {o : Oper} {a : Act} {w : World} {K : Act → World → Prop} {Q : Exit → Act → World → Prop} {E : Prop}
    (hg : o.guard = none) (s x : Operand) (hop : o.op = .call { callee := .builtin .append, args := #[s, x], argTypes := #[35, 35] })
    {base : Nat} (v : Value) {xs ys : List Int} (hs : a.eval s = v) (hown : Own base w v xs) (hbase : base ≤ w.heap.size)
    (b n c : Nat) (hx : a.eval x = .slice (some ⟨b, 0, none⟩) n c) (hn : ys.length = n) (hy : Bytes w (some ⟨b, 0, none⟩) ys) (hl : xs.length + ys.length ≤ 140737488351232)
    (h : ∀ v' w', Own base w' v' (xs ++ ys) → w.grownBy w' v.ownBlock → K (a.put o.dst v') w') :
    if Region.wanted o (yielded ops a.tmps) = true then Oper.wp Tryz.prog o a w K Q else E := by
  have hw : Region.wanted o (yielded ops a.tmps) = true := by simp [Region.wanted, hg]
  rw [if_pos hw]
  obtain ⟨i0, hi, hz0, hz1, hz2⟩ := info_parts infoByte
  subst hn
  refine wp_append_own w s x 35 hop base 5 i0 (.int .u8 0) 1 1 Tryz.underlying35 hi hz0 hz1 hz2 rfl (by decide) v xs.length _ hs hown ⟨b, 0, none⟩ ys.length c (ys.map (Value.int .u8)) hx (by simp)
    ?_ ?_ ?_ ?_ hbase (fun v' w' hown' hgrow _ => h v' w' (by unfold Own; rw [List.length_append, List.map_append]; exact hown') hgrow)
  · intro j u hj
    have hjl : j < ys.length := by
      rcases Nat.lt_or_ge j ys.length with h | h
      · exact h
      · rw [List.getElem?_eq_none (by simpa using h)] at hj; cases hj
    rcases hy.at_ with h0 | ⟨b', off, he, hc⟩
    · rw [h0] at hjl; simp at hjl
    · simp only [Option.some.injEq, Addr.mk.injEq] at he
      obtain ⟨rfl, rfl, _⟩ := he
      have hplain : (⟨b, 0, none⟩ : Addr).add j = ⟨b, 0 + j, none⟩ := by unfold Addr.add; split <;> simp_all
      rw [hplain, hc j hjl, ← hj, getD_lt hjl]; simp [hjl]
  · intro u hu
    obtain ⟨n, _, rfl⟩ := List.mem_map.1 hu
    rfl
  · unfold maxLen; omega
  · omega
theorem Own.at {base : Nat} {w : World} {a : Option Addr} {n c : Nat} {zs : List Int} (h : Own base w (.slice a n c) zs) (hn : 0 < zs.length) : ∃ g, a = some ⟨g, 0, none⟩ ∧ base ≤ g ∧ g < w.heap.size := by
  rcases h.2 with ⟨_, h0⟩ | ⟨g, cap, cur, hv, hb, hh, _⟩
  · omega
  · simp only [Value.slice.injEq] at hv
    exact ⟨g, hv.1, hb, (Array.getElem?_eq_some_iff.1 hh).1⟩
theorem Bytes.grown {w w' : World} {g row : Nat} {zs : List Int} (h : Bytes w (some ⟨g, 0, none⟩) zs) (hg : w.grownBy w' (some row)) (hlt : g < w.heap.size) (hne : g ≠ row) : Bytes w' (some ⟨g, 0, none⟩) zs := by
  refine ⟨h.byte, h.size, ?_⟩
  rcases h.at_ with h0 | ⟨b, off, he, hc⟩
  · exact .inl h0
  · simp only [Option.some.injEq, Addr.mk.injEq] at he
    obtain ⟨rfl, rfl, _⟩ := he
    exact .inr ⟨g, 0, rfl, fun i hi => (World.cell?_of_block (w := w) (hg.block g hlt (fun e => hne (by simpa using e)))).trans (hc i hi)⟩
theorem own_lit_d (w : World) (z : Int) : Own w.heap.size (w.alloc (.cells #[.int .u8 z] 5)).drew (.slice (some ⟨w.heap.size, 0, none⟩) 1 1) [z] := own_lit w z
theorem cat1_len (n : Int) : ([1] ++ encU n).length = 1 + sizeU n := by simp [encU_length]; omega

set_option maxHeartbeats 3200000 in
theorem refPutLimits_capped (n x most : Int) (h : okLim n x true most = true) (h0 : 0 ≤ n ∧ n ≤ 4294967295) (h1 : 0 ≤ x ∧ x ≤ 4294967295) (w : World) : Calls Tryz.prog 116 #[.agg #[.int .u32 n, .int .u32 x, .bool true], .int .u32 most] w (PutOk w (limL n x true)) := by
  have hC := fun w => refCheckLimits_any n x true most w
  have hc0 : codeLim n x true most = 0 := by unfold codeLim; rw [if_pos h]
  simp only [hc0] at hC
  have HCAT := hid (limL_cat n x)
  have HLE := hid (limL_len n x)
  have HC1 := hid (cat1_len n)
  have hs := sizeU_pos n
  have hs2 := sizeU_pos x
  clear hc0 h
  go_enter Tryz.func116, Tryz.ntmps116
  go_wp2_with fail
  refine (hC _).mono ?_
  rintro e w1 ⟨rfl, hb1⟩
  have hW0 : Below w.heap.size w (w.alloc (.cells #[.int .u32 n, .int .u32 x, .bool true] 60)) := (Below.refl _ _).alloc (Nat.le_refl _) _
  have hs0 : w.heap.size + 1 = (w.alloc (.cells #[.int .u32 n, .int .u32 x, .bool true] 60)).heap.size := by simp
  have HS0 := hid hs0
  obtain ⟨d0, d1, d2⟩ := three hb1
  have c0 : (w.alloc (.cells #[.int .u32 n, .int .u32 x, .bool true] 60)).cell? ⟨w.heap.size, 0, none⟩ = some (.int .u32 n) := by go_simp
  have c1 : (w.alloc (.cells #[.int .u32 n, .int .u32 x, .bool true] 60)).cell? ⟨w.heap.size, 1, none⟩ = some (.int .u32 x) := by go_simp
  clear hC hs0
  generalize w.alloc (.cells #[.int .u32 n, .int .u32 x, .bool true] 60) = W0 at *
  go_wp2
  have hS := keepN (w := W0) (w' := w1.drew) c0 c1 hb1.drew
  go_region_held_law (fun w' => Below W0.heap.size W0 w' ∧ w'.cell? ⟨w.heap.size, 0, none⟩ = some (.int .u32 n) ∧ w'.cell? ⟨w.heap.size, 1, none⟩ = some (.int .u32 x))
    (first
      | (with_reducible assumption)
      | (with_reducible exact keepN c0 c1 hB29)
      | (with_reducible exact keepN c0 c1 hB25)
      | (with_reducible exact keepN c0 c1 hA16)
      | (with_reducible exact keepN c0 c1 hA13)
      | (with_reducible exact keepN c0 c1 (thenA hA16 _))
      | (with_reducible exact keepN c0 c1 (thenA hA13 _))
      | exact keepN c0 c1 (hb1.alloc hb1.size _).drew)
    (first
      | (have hoL := ((own_lit_d w1 1).below hb13).mono (base' := W0.heap.size) (hb1.size); have hyc := hy13; have hAc := hA13
         refine step_append_bytes rfl (.tmp 21) (.tmp 24) rfl (base := W0.heap.size) (.slice (some ⟨w1.heap.size, 0, none⟩) 1 1) (by go_simp) hoL hAc.size g13 (sizeU n) c13 (by go_simp) (encU_length n) hyc (by rw [encU_length]; simp; omega) ?_
         intro v25 w25 ho25 hg25
         have hB25 := hAc.grown hg25 hAc.size (fun k h => by simp only [Value.ownBlock, Option.some.injEq] at h; subst h; exact hb1.size)
         clear hoL hyc hAc hg25
         obtain ⟨a25, c25, rfl⟩ := ho25.sliceN HC1.out)
      | (have hoL := (((own_lit_d w1 1).below hb13).below hb16).mono (base' := W0.heap.size) (hb1.size); have hyc := hy13.below hb16; have hAc := hA16
         refine step_append_bytes rfl (.tmp 21) (.tmp 24) rfl (base := W0.heap.size) (.slice (some ⟨w1.heap.size, 0, none⟩) 1 1) (by go_simp) hoL hAc.size g13 (sizeU n) c13 (by go_simp) (encU_length n) hyc (by rw [encU_length]; simp; omega) ?_
         intro v25 w25 ho25 hg25
         have hB25 := hAc.grown hg25 hAc.size (fun k h => by simp only [Value.ownBlock, Option.some.injEq] at h; subst h; exact hb1.size)
         have hy16 := Bytes.grown hy16 hg25 hi16 (by have h1 := hb13.size; have h2 := lo16; (try simp at h1); (try simp at h2); omega)
         clear hoL hyc hAc hg25
         obtain ⟨a25, c25, rfl⟩ := ho25.sliceN HC1.out)
      | (have hoL := (own_lit w13 1).mono (base' := W0.heap.size) (hA13.size); have hyc := hy13.alloc (.cells #[.int .u8 1] 5); have hAc := thenA hA13 (.cells #[.int .u8 1] 5)
         refine step_append_bytes rfl (.tmp 21) (.tmp 24) rfl (base := W0.heap.size) (.slice (some ⟨w13.heap.size, 0, none⟩) 1 1) (by go_simp) hoL hAc.size g13 (sizeU n) c13 (by go_simp) (encU_length n) hyc (by rw [encU_length]; simp; omega) ?_
         intro v25 w25 ho25 hg25
         have hB25 := hAc.grown hg25 hAc.size (fun k h => by simp only [Value.ownBlock, Option.some.injEq] at h; subst h; exact hA13.size)
         clear hoL hyc hAc hg25
         obtain ⟨a25, c25, rfl⟩ := ho25.sliceN HC1.out)
      | (have hoL := ((own_lit w13 1).below hb16).mono (base' := W0.heap.size) (hA13.size); have hyc := (hy13.alloc (.cells #[.int .u8 1] 5)).below hb16; have hAc := hA16
         refine step_append_bytes rfl (.tmp 21) (.tmp 24) rfl (base := W0.heap.size) (.slice (some ⟨w13.heap.size, 0, none⟩) 1 1) (by go_simp) hoL hAc.size g13 (sizeU n) c13 (by go_simp) (encU_length n) hyc (by rw [encU_length]; simp; omega) ?_
         intro v25 w25 ho25 hg25
         have hB25 := hAc.grown hg25 hAc.size (fun k h => by simp only [Value.ownBlock, Option.some.injEq] at h; subst h; exact hA13.size)
         have hy16 := Bytes.grown hy16 hg25 hi16 (by have h2 := lo16; (try simp at h2); omega)
         clear hoL hyc hAc hg25
         obtain ⟨a25, c25, rfl⟩ := ho25.sliceN HC1.out)
      | (have hoL := (own_lit w16 1).mono (base' := W0.heap.size) (hA16.size); have hyc := (hy13.below hb16).alloc (.cells #[.int .u8 1] 5); have hAc := thenA hA16 (.cells #[.int .u8 1] 5)
         refine step_append_bytes rfl (.tmp 21) (.tmp 24) rfl (base := W0.heap.size) (.slice (some ⟨w16.heap.size, 0, none⟩) 1 1) (by go_simp) hoL hAc.size g13 (sizeU n) c13 (by go_simp) (encU_length n) hyc (by rw [encU_length]; simp; omega) ?_
         intro v25 w25 ho25 hg25
         have hB25 := hAc.grown hg25 hAc.size (fun k h => by simp only [Value.ownBlock, Option.some.injEq] at h; subst h; exact hA16.size)
         have hy16 := Bytes.grown (hy16.alloc (.cells #[.int .u8 1] 5)) hg25 (by simp; omega) (by omega)
         clear hoL hyc hAc hg25
         obtain ⟨a25, c25, rfl⟩ := ho25.sliceN HC1.out)
      | (have hoM := ho25.below hb16; have hAc := hA16
         refine step_append_bytes rfl (.tmp 25) (.tmp 28) rfl (base := W0.heap.size) (.slice a25 (1 + sizeU n) c25) (by go_simp) hoM hAc.size g16 (sizeU x) c16 (by go_simp) (encU_length x) hy16 (by rw [HC1.out, encU_length]; omega) ?_
         intro v29 w29 ho29 hg29
         have hB29 := hAc.grown hg29 hAc.size (fun k h => (World.ownsRow.lt hoM k h).1)
         clear hoM hAc hg29
         rw [HCAT.out] at ho29
         obtain ⟨a29, c29, rfl⟩ := ho29.sliceN HLE.out)
      | (have hoM := ho25; have hAc := hB25
         refine step_append_bytes rfl (.tmp 25) (.tmp 28) rfl (base := W0.heap.size) (.slice a25 (1 + sizeU n) c25) (by go_simp) hoM hAc.size g16 (sizeU x) c16 (by go_simp) (encU_length x) hy16 (by rw [HC1.out, encU_length]; omega) ?_
         intro v29 w29 ho29 hg29
         have hB29 := hAc.grown hg29 hAc.size (fun k h => (World.ownsRow.lt hoM k h).1)
         clear hoM hAc hg29
         rw [HCAT.out] at ho29
         obtain ⟨a29, c29, rfl⟩ := ho29.sliceN HLE.out)
      | (go_at_call 113; ((with_reducible refine (refU_any n _ (by omega) (by omega)).mono ?_); rintro e w13 ⟨v13, rfl, ho13, hb13⟩; obtain ⟨a13, c13, rfl⟩ := ho13.sliceN (encU_length n); obtain ⟨g13, rfl, lo13, hi13⟩ := Own.at ho13 (by rw [encU_length]; omega); have hy13 := ho13.bytes (encU_bytes n) (by rw [encU_length]; omega); have hA13 := thenB (w := W0) (box_out (x := .int .u32 n) (y := .int .u32 x) (k := w.heap.size) (by assumption)) hb13; clear ho13))
      | (go_at_call 113; ((with_reducible refine (refU_any x _ (by omega) (by omega)).mono ?_); rintro e w16 ⟨v16, rfl, ho16, hb16⟩; obtain ⟨a16, c16, rfl⟩ := ho16.sliceN (encU_length x); obtain ⟨g16, rfl, lo16, hi16⟩ := Own.at ho16 (by rw [encU_length]; omega); have hy16 := ho16.bytes (encU_bytes x) (by rw [encU_length]; omega); have hA16 := thenB (w := W0) (box_out (x := .int .u32 n) (y := .int .u32 x) (k := w.heap.size) (by assumption)) hb16; clear ho16)))
  all_goals go_wp2
  all_goals go_ret2
  all_goals exact ⟨.slice a29 (1 + sizeU n + sizeU x) c29, by simp, ho29.mono (by have := HS0.out; omega), hW0.trans (hB29.mono (by have := HS0.out; omega))⟩
end Go.Proofs.YtepbjkkakfpjgaaGreatDoor.Kind
