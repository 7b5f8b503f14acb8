/-
  The statements' kit: lists that are lent: LentBytes, LentInts.
-/
import Derived.Test.YtcgjlbpokmlkbaaDoorInts
import Derived.Laws.CopyOwn
import Derived.Laws.OwnMore
namespace Go.Proofs.YtcgjlbpokmlkbaaDoor
open Go.RowKit

/-- A row of one's own, all of it: what the block holds. -/
theorem OwnK.heap {e : TypeId} {k : IntKind} {base n g : Nat} {w : World} {L : List Int} (h : OwnK e k base w (.slice (some ⟨g, 0, none⟩) n n) L) (hn : L.length = n) : base ≤ g ∧ w.heap[g]? = some (.cells (L.map (Value.int k)).toArray e (0, 0)) := by
  subst hn
  rcases h.2 with ⟨h', _⟩ | ⟨g', cap, cur, hv, hb, hh, hnc, _, hcs, ht⟩
  · cases h'
  · simp only [Value.slice.injEq, Option.some.injEq, Addr.mk.injEq, and_true, true_and] at hv
    obtain ⟨rfl, rfl⟩ := hv
    refine ⟨hb, ?_⟩
    rw [List.take_of_length_le (by simp; omega)] at ht
    rw [hh, ← ht]
theorem OwnK.of_heap {e : TypeId} {k : IntKind} {base n g : Nat} {w : World} {L : List Int} (hb : base ≤ g) (hh : w.heap[g]? = some (.cells (L.map (Value.int k)).toArray e (0, 0))) (hn : L.length = n) (hl : n ≤ 140737488355328) :
    OwnK e k base w (.slice (some ⟨g, 0, none⟩) n n) L := by
  subst hn
  exact ⟨by simp, .inr ⟨g, L.length, (L.map (Value.int k)).toArray, rfl, hb, hh, Nat.le_refl _, by unfold maxLen; omega, by simp, by rw [List.take_of_length_le (by simp)]⟩⟩

/-- make([]T, n). -/
theorem make_zeros {e ts : TypeId} {k : IntKind} {nb : Nat} (inf : (Tryd.prog.info? e).map (fun i => (i.zero, i.size, i.bytes)) = some (some (.int k 0), 1, nb)) (ut : Tryd.prog.underlying ts = some (.slice e)) (w : World) (n : Nat)
    (hl : nb * n ≤ 281474976710656) (hc : n ≤ 140737488355328) :
    ∃ w', (∀ x : Int, x = n → (Instr.makeSlice ts (.int .i64 x) (.int .i64 x)).run Tryd.prog w = .ok (.slice (some ⟨w.heap.size, 0, none⟩) n n) w') ∧ w'.heap[w.heap.size]? = some (.cells ((List.replicate n (0 : Int)).map (Value.int k)).toArray e (0, 0)) ∧ Below w.heap.size w w' := by
  obtain ⟨i0, hi, hz0, hz1, hz2⟩ := info_parts inf
  obtain ⟨w', h1, h2, h3⟩ := run_make_full w w.heap.size ts e i0 (.int k 0) 1 ut hi hz0 hz1 .i64 .i64 n (by rw [hz2]; exact hl) (by unfold maxLen; omega) (Nat.le_refl _)
  refine ⟨w', fun x hx => by rw [hx]; exact h1, ?_, (Below.refl _ _).grown h3 (Nat.le_refl _) (fun k h => by cases h)⟩
  have hcells : (Value.int k 0).cells = #[Value.int k 0] := rfl
  rw [hcells, toList_madeCells_one] at h2
  have h4 : OwnK e k w.heap.size w' (.slice (some ⟨w.heap.size, 0, none⟩) n n) (List.replicate n 0) := by
    unfold OwnK
    simpa using h2
  exact (h4.heap (by simp)).2

/-- Each cell of a block. -/
theorem nums_of_heap {e : TypeId} {k : IntKind} {g : Nat} {w : World} {L : List Int} (hh : w.heap[g]? = some (.cells (L.map (Value.int k)).toArray e (0, 0))) : ∀ i, i < L.length → w.cell? ⟨g, 0 + i, none⟩ = some (.int k (L.getD i 0)) := by
  intro i hi
  simp [World.cell?, hh, hi]
theorem set_heap {e : TypeId} {k : IntKind} {g : Nat} {w : World} {L : List Int} (hh : w.heap[g]? = some (.cells (L.map (Value.int k)).toArray e (0, 0))) (j : Nat) (z : Int) :
    (w.setCell ⟨g, j, none⟩ (.int k z)).heap[g]? = some (.cells ((L.set j z).map (Value.int k)).toArray e (0, 0)) := by
  rw [heap_setCell_same w g j _ e _ hh]
  simp [List.map_set]
theorem frozen_heap {e : TypeId} {k : IntKind} {g : Nat} {w : World} {L : List Int} (hh : w.heap[g]? = some (.cells (L.map (Value.int k)).toArray e (0, 0))) (j : Nat) : w.frozen? ⟨g, j, none⟩ = false := frozen_of_row w g j _ e hh

section
variable {ops : Array Oper} {rest : List Oper} {o : Oper} {act : Act} {Q : Exit → Act → World → Prop}
/-- copy(full, l): a list into the beginning of a longer row of one's own. -/
theorem copy_in {e ts : TypeId} {k : IntKind} {nb : Nat} (inf : (Tryd.prog.info? e).map (fun i => (i.zero, i.size, i.bytes)) = some (some (.int k 0), 1, nb)) (ut : Tryd.prog.underlying ts = some (.slice e))
    (hgd : o.guard = none) (d s : Operand) (ho : o.op = .call { callee := .builtin .copy, args := #[d, s], argTypes := #[ts, ts] })
    {B g n N c : Nat} {w0 w : World} {a : Option Addr} {zs R : List Int} (hd : act.eval d = .slice (some ⟨g, 0, none⟩) N N) (hs : act.eval s = .slice a n c) (hh : w.heap[g]? = some (.cells (R.map (Value.int k)).toArray e (0, 0)))
    (hR : R.length = N) (hz : Nums k w a zs) (hn : zs.length = n) (hnN : n ≤ N) (hb : Below B w0 w) (hB : B ≤ g)
    (h : ∀ w', w'.heap[g]? = some (.cells ((zs ++ R.drop n).map (Value.int k)).toArray e (0, 0)) → Below B w0 w' → wpList Tryd.prog ops Q rest (act.put o.dst (.int .i64 n)) w') :
    wpList Tryd.prog ops Q (o :: rest) act w := by
  obtain ⟨i0, hi, hz0, hz1, hz2⟩ := info_parts inf
  refine wpList_copy_splice hgd d s ts ts ho e ut (by rw [hi]; simp [hz1]) _ _ N N n c hd hs g 0 (R.map (Value.int k)) e hh (zs.map (Value.int k)) (by rw [List.length_map, hn]; exact (Nat.min_eq_left hnN).symm) ?_ (by simp; omega) ?_ B w0 hb hB ?_
  · intro hpos
    refine ⟨rfl, ?_⟩
    rcases hz.at_ with h0 | ⟨b, off, rfl, hc⟩
    · subst h0; simp at hpos
    · refine ⟨⟨b, off, none⟩, rfl, fun j v hj => ?_⟩
      have hjl : j < zs.length := by
        rcases Nat.lt_or_ge j zs.length with h | h
        · exact h
        · simp [List.getElem?_eq_none (show (zs.map (Value.int k)).length ≤ j by simpa using h)] at hj
      have hplain : (⟨b, off, none⟩ : Addr).add j = ⟨b, off + j, none⟩ := by unfold Addr.add; split <;> simp_all
      rw [hplain, hc j hjl]
      simp [List.getElem?_eq_getElem hjl] at hj
      subst hj
      simp [List.getD, List.getElem?_eq_getElem hjl]
  · intro v hv
    obtain ⟨z, _, rfl⟩ := List.mem_map.1 hv
    rfl
  · intro w' hw hb'
    have hl : (zs.map (Value.int k)).length = n := by simpa using hn
    have e1 : goInt (zs.map (Value.int k)).length = .int .i64 n := by rw [hl]; rfl
    rw [e1]
    refine h w' ?_ hb'
    have := hw.out
    rw [this]
    unfold splice
    rw [hl]
    simp
end
theorem infoI : (Tryd.prog.info? 3).map (fun i => (i.zero, i.size, i.bytes)) = some (some (.int .i64 0), 1, 8) := by kernel_rfl

/-- The marks behind a list that is lent. -/
def marksBytes (n : Int) : List Int := [160 + n % 90, 160 + (n + 1) % 90, 160 + (n + 2) % 90]
def partBytes (n : Int) : Nat → List Int
  | 0 => [0, 0, 0]
  | 1 => [160 + n % 90, 0, 0]
  | 2 => [160 + n % 90, 160 + (n + 1) % 90, 0]
  | _ => marksBytes n
theorem partBytes_length (n : Int) (j : Nat) : (partBytes n j).length = 3 := by
  match j with
  | 0 | 1 | 2 => rfl
  | _ + 3 => rfl
theorem partBytes_set (zs : List Int) (n j : Nat) (hn : zs.length = n) (hj : j < 3) : (zs ++ partBytes n j).set (n + j) (160 + ((n : Int) + j) % 90) = zs ++ partBytes n (j + 1) := by
  subst hn
  match j, hj with
  | 0, _ => simp [partBytes]
  | 1, _ => simp [partBytes]
  | 2, _ => simp [partBytes, marksBytes]

set_option maxHeartbeats 1600000 in
theorem LentBytes_any (a : Option Addr) (len cap : Nat) (zs : List Int) (w : World) (hlen : zs.length = len) (hz : Nums .u8 w a zs) (hl : len ≤ 8796093022208) :
    Calls Tryd.prog 30 #[.slice a len cap] w fun e w' => e = .returned (.slice (some ⟨w.heap.size, 0, none⟩) len (len + 3)) ∧ w'.heap[w.heap.size]? = some (.cells ((zs ++ marksBytes len).map (Value.int .u8)).toArray 5 (0, 0)) ∧ Below w.heap.size w w' := by
  obtain ⟨w1, hmk, hh1, hb1⟩ := make_zeros infoByte Tryd.underlying35 w (len + 3) (by omega) (by omega)
  have hmk := hmk ((len : Int) + 3) (by omega)
  have HL := hid hlen
  clear hlen
  go_enter Tryd.func30, Tryd.ntmps30
  have hz1 := hz.below hb1
  go_wp2_with (first | (refine copy_in infoByte Tryd.underlying35 rfl (.tmp 9) (.tmp 10) rfl rfl rfl hh1 (by simp) hz1 HL.out (by omega) hb1 (Nat.le_refl _) ?_; intro w2 hh2 hb2))
  have hh3 : Hid (w2.heap[w.heap.size]? = some (.cells ((zs ++ partBytes len 0).map (Value.int .u8)).toArray 5 (0, 0))) := by
    show _ = _
    rw [hh2]
    rw [show zs ++ (List.replicate (len + 3) (0 : Int)).drop len = zs ++ partBytes len 0 from by simp [List.drop_replicate, partBytes]]
  clear hz hz1 hh1 hb1 hh2 hmk
  go_loopw [4] (fun vi wr => ∃ j : Nat, vi = .int .i64 (len + j : Nat) ∧ j ≤ 3 ∧ wr.heap[w.heap.size]? = some (.cells ((zs ++ partBytes len j).map (Value.int .u8)).toArray 5 (0, 0)) ∧ Below w.heap.size w wr)
    (fun vi _ => len + 3 - (intOf vi).toNat)
  case atStart => exact ⟨0, rfl, by omega, hh3.out, hb2⟩
  case round =>
    obtain ⟨j, rfl, hj, hh, hbw⟩ := hrel
    by_cases hj3 : j < 3
    · have hjl : len + j < (zs ++ partBytes len j).length := by rw [List.length_append, partBytes_length, HL.out]; omega
      have hc := nums_of_heap hh (len + j) hjl
      rw [Nat.zero_add] at hc
      have hf := frozen_heap hh (len + j)
      have hset := set_heap hh (len + j) (160 + ((len : Int) + j) % 90)
      rw [partBytes_set zs len j HL.out hj3] at hset
      have hset := hid hset
      generalize (zs ++ partBytes len j).getD (len + j) 0 = z at *
      clear hh hjl
      have hrem : Int.tmod ((len : Int) + j) 90 = ((len : Int) + j) % 90 := Int.tmod_eq_emod_of_nonneg (by omega)
      go_wp2
      go_roundw
      case rel => exact ⟨j + 1, by go_num, by omega, hset.out, hbw.setCell (Nat.le_refl _) _⟩
      case measure => simp [intOf]; omega
    · obtain rfl : j = 3 := by omega
      have HH := hid hh
      clear hh
      go_wp2
      go_ret
      exact ⟨rfl, HH.out, hbw⟩

/-- The marks behind a list that is lent. -/
def marksInts (n : Int) : List Int := [-77 - n, -77 - (n + 1), -77 - (n + 2)]
def partInts (n : Int) : Nat → List Int
  | 0 => [0, 0, 0]
  | 1 => [-77 - n, 0, 0]
  | 2 => [-77 - n, -77 - (n + 1), 0]
  | _ => marksInts n
theorem partInts_length (n : Int) (j : Nat) : (partInts n j).length = 3 := by
  match j with
  | 0 | 1 | 2 => rfl
  | _ + 3 => rfl
theorem partInts_set (zs : List Int) (n j : Nat) (hn : zs.length = n) (hj : j < 3) : (zs ++ partInts n j).set (n + j) (-77 - ((n : Int) + j)) = zs ++ partInts n (j + 1) := by
  subst hn
  match j, hj with
  | 0, _ => simp [partInts]
  | 1, _ => simp [partInts]
  | 2, _ => simp [partInts, marksInts]

end Go.Proofs.YtcgjlbpokmlkbaaDoor
