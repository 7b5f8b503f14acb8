/-
  MEMORY: Read, Grow, New by contracts.
-/
import Derived.Test.YtcgjlbpokmlkbaaDoorMemDo3
import Derived.Test.YtcgjlbpokmlkbaaDoorKitLent
import Derived.Test.YtcgjlbpokmlkbaaDoorKindCheck
namespace Go.Proofs.YtcgjlbpokmlkbaaDoor.Mem
open Go.RowKit Go.Proofs.YtcgjlbpokmlkbaaDoor.Instr Go.Proofs.YtcgjlbpokmlkbaaDoor.Num Go.Proofs.YtcgjlbpokmlkbaaDoor.Kind
open Go.Maps (Keyed int_keyed IsMap)
set_option linter.unusedVariables false

/-- make([]byte, n), n a word. -/
theorem make_word (w : World) (n : Nat) (hl : n ≤ 140737488355328) :
    ∃ w', (∀ x : Int, x = n → (Instr.makeSlice 35 (.int .u32 x) (.int .u32 x)).run Tryd.prog w = .ok (.slice (some ⟨w.heap.size, 0, none⟩) n n) w') ∧ w'.heap[w.heap.size]? = some (.cells ((List.replicate n (0 : Int)).map (Value.int .u8)).toArray 5 (0, 0)) ∧ Below w.heap.size w w' := by
  obtain ⟨i0, hi, hz0, hz1, hz2⟩ := info_parts infoByte
  obtain ⟨w', h1, h2, h3⟩ := run_make_full w w.heap.size 35 5 i0 (.int .u8 0) 1 Tryd.underlying35 hi hz0 hz1 .u32 .u32 n (by rw [hz2]; omega) (by unfold maxLen; omega) (Nat.le_refl _)
  refine ⟨w', fun x hx => by rw [hx]; exact h1, ?_, (Below.refl _ _).grown h3 (Nat.le_refl _) (fun k h => by cases h)⟩
  have hcells : (Value.int .u8 0).cells = #[Value.int .u8 0] := rfl
  rw [hcells, toList_madeCells_one] at h2
  have h4 : OwnK 5 .u8 w.heap.size w' (.slice (some ⟨w.heap.size, 0, none⟩) n n) (List.replicate n 0) := by
    unfold OwnK
    simpa using h2
  exact (h4.heap (by simp)).2
theorem over_all (R xs : List Int) (h : R.length = xs.length) : over R xs 0 = xs := by
  simp [over, List.drop_of_length_le (Nat.le_of_eq h)]
def Mm.read (m : Mm) (s n : Nat) : List Int × Int := if m.has s n then (if n ≤ 1048576 then (rowF m.f s n, 0) else ([], 2)) else ([], 220)
/-- A list of bytes that a call made: all of its block. -/
def GotB (w : World) (zs : List Int) (e : Int) (en : Ending) (w' : World) : Prop :=
  (∃ g, en = .returned (.tuple #[.slice (some ⟨g, 0, none⟩) zs.length zs.length, .int .i64 e]) ∧ w.heap.size ≤ g ∧ w'.heap[g]? = some (.cells (zs.map (Value.int .u8)).toArray 5 (0, 0))) ∨ (en = .returned (.tuple #[.slice none 0 0, .int .i64 e]) ∧ zs = [])
set_option maxRecDepth 100000 in
set_option maxHeartbeats 1000000 in
theorem Read_any {B : Nat} {W : World} {p K : Nat} {m : Mm} (hM : MemIs B W p K m) (s n : Nat) (hs : s ≤ 4294967295) (hn : n ≤ 4294967295) :
    Calls Tryd.prog 17 #[.pointer (some ⟨p, 0, none⟩), .int .u32 s, .int .u32 n] W fun e w' => GotB W (m.read s n).1 (m.read s n).2 e w' ∧ Below W.heap.size W w' := by
  have hnp : m.n ≤ 65536 := Nat.le_trans hM.ok.n hM.ok.most
  have C1 := hid (made_yes p W hM.cells.1)
  have C2 := has_any p m.n s n W hM.cells.2.1 ⟨by omega, by omega⟩ ⟨by omega, by omega⟩ ⟨by omega, by omega⟩
  have he : m.has s n = decide ((s : Int) + (n : Int) ≤ (m.n : Int) * 65536) := by
    unfold Mm.has
    rw [decide_eq_decide]; constructor <;> intro h <;> omega
  unfold Mm.read
  rw [he]
  obtain ⟨S, hS⟩ : ∃ S : Int, (s : Int) = S := ⟨_, rfl⟩
  obtain ⟨N, hN⟩ : ∃ N : Int, (n : Int) = N := ⟨_, rfl⟩
  have hS0 : 0 ≤ S ∧ S ≤ 4294967295 := by omega
  obtain ⟨hS0, hS1⟩ := hS0
  have hN0 : 0 ≤ N ∧ N ≤ 4294967295 := by omega
  obtain ⟨hN0, hN1⟩ := hN0
  by_cases hin : (s : Int) + (n : Int) ≤ (m.n : Int) * 65536
  · rw [decide_eq_true hin] at C2 ⊢
    by_cases hbig : n ≤ 1048576
    · obtain ⟨w1, hmk, hh1, hb1⟩ := make_word W n (by omega)
      have hmk := hmk N (by omega)
      have CG := hid (show Calls Tryd.prog 35 #[.pointer (some ⟨p, 0, none⟩), .int .u64 s, .slice (some ⟨W.heap.size, 0, none⟩) n n] w1 fun e W' => e = .returned (.tuple #[]) ∧ GotTo w1 m W.heap.size 5 (List.replicate n 0) 0 s n W' from by
        obtain ⟨mb, D, K', hK', hm⟩ := hM.below hb1
        exact get_any hm W.heap.size 5 (List.replicate n 0) (some ⟨W.heap.size, 0, none⟩) 0 n n s hh1 rfl (by simp) (Nat.le_refl _) (by omega) (fun _ => rfl) (by omega) (fun i hi => by
          rw [List.getD_eq_getElem?_getD, List.getElem?_replicate]
          split <;> rfl))
      have HL := rowF_length m.f n s
      have HE := hid (show ∀ w3, GotTo w1 m W.heap.size 5 (List.replicate n 0) 0 s n w3 → GotB W (rowF m.f s n) 0 (.returned (.tuple #[.slice (some ⟨W.heap.size, 0, none⟩) n n, .int .i64 0])) w3 ∧ Below W.heap.size W w3 from fun w3 hG => by
        have h1 := hG.heap
        rw [over_all _ _ (by rw [HL, List.length_replicate])] at h1
        exact ⟨.inl ⟨W.heap.size, by rw [HL], Nat.le_refl _, h1⟩, hb1.trans (hG.save.below hb1.size (Nat.le_refl _))⟩)
      rw [if_pos rfl, if_pos hbig]
      have hb2 : N ≤ 1048576 := by omega
      rw [hS, hN] at C2
      rw [hS] at CG
      have C2 := hid C2
      have HEN := hid hN
      rw [hS, hN]
      clear hM hnp he hin hh1 hb1 HL hbig hS hN hs hn
      go_enter Tryd.func17, Tryd.ntmps17
      go_wp2_with fail
      refine C1.out.mono ?_
      rintro e wx ⟨rfl, rfl⟩
      go_wp2_with fail
      refine C2.out.mono ?_
      rintro e wx ⟨rfl, rfl⟩
      go_wp2_with fail
      refine CG.out.mono ?_
      rintro e w3 ⟨rfl, hG⟩
      have hE := hid (HE.out w3 hG)
      clear HE hG CG
      go_wp2
      go_ret2
      exact hE.out
    · rw [if_pos rfl, if_neg hbig]
      have hb2 : 1048576 < N := by omega
      rw [hS, hN] at C2 ⊢
      have C2 := hid C2
      clear hM hnp he hin hbig hS hN hs hn
      go_enter Tryd.func17, Tryd.ntmps17
      go_wp2_with fail
      refine C1.out.mono ?_
      rintro e wx ⟨rfl, rfl⟩
      go_wp2_with fail
      refine C2.out.mono ?_
      rintro e wx ⟨rfl, rfl⟩
      go_wp2
      go_ret2
      exact ⟨.inr ⟨rfl, rfl⟩, Below.refl _ _⟩
  · rw [decide_eq_false hin] at C2 ⊢
    rw [if_neg (by simp)]
    rw [hS, hN] at C2 ⊢
    have C2 := hid C2
    clear hM hnp he hin hS hN hs hn
    go_enter Tryd.func17, Tryd.ntmps17
    go_wp2_with fail
    refine C1.out.mono ?_
    rintro e wx ⟨rfl, rfl⟩
    go_wp2_with fail
    refine C2.out.mono ?_
    rintro e wx ⟨rfl, rfl⟩
    go_wp2
    go_ret2
    exact ⟨.inr ⟨rfl, rfl⟩, Below.refl _ _⟩
set_option maxRecDepth 100000 in
set_option maxHeartbeats 1000000 in
theorem Grow_any {B : Nat} {W : World} {p K : Nat} {m : Mm} (hM : MemIs B W p K m) (hB : B ≤ W.heap.size) (k : Nat) (hk : k ≤ 4294967295) :
    Calls Tryd.prog 16 #[.pointer (some ⟨p, 0, none⟩), .int .u32 k] W fun e w' => e = .returned (.tuple #[.int .u32 (m.grow k).2, .int .i64 0]) ∧ Wrote B W p K (m.grow k).1 w' := by
  obtain ⟨mb, D, K', hK', hm⟩ := hM
  have hok := hm.ok
  have h1 := hok.n
  have h2 := hok.most
  have C1 := hid (made_yes p W hm.cells.1)
  have c1 := hm.cells.2.1
  have c2 := hm.cells.2.2.1
  have f1 : W.frozen? ⟨p, 1, none⟩ = false := frozen_of_row W p 1 _ _ hm.box
  have HN0 := hid (Wrote.none (W2 := W.drew) ⟨mb, D, K', hK', hm⟩ (Nat.le_refl K) (Below.refl W.heap.size W).drew hB)
  have HY := hid (fun (h : m.n + k ≤ m.most) => (show Wrote B W p K { m with n := m.n + k } (W.drew.setCell ⟨p, 1, none⟩ (.int .u32 ((m.n + k : Nat) : Int))) from by
    have hd : MemAt B W.drew p mb K' D m := hm.below (Below.refl W.heap.size W).drew
    have hs : Save p W.drew (W.drew.setCell ⟨p, 1, none⟩ (.int .u32 ((m.n + k : Nat) : Int))) := Save.setCell (Save.refl p W.drew) (p := ⟨p, 1, none⟩) (.inl rfl) _
    have hb := heap_setCell_same W.drew p 1 _ _ (.int .u32 ((m.n + k : Nat) : Int)) hd.box
    exact ⟨⟨mb, D, K', hK', hd.boxed hs hb h⟩, (Keep.of_below (Below.refl W.heap.size W).drew).trans (Keep.of_save hs hd.box rfl), ((Below.refl W.heap.size W).drew.mono hB).trans (hs.below hB hd.bp)⟩))
  unfold Mm.grow
  obtain ⟨n, hn⟩ : ∃ n : Int, (m.n : Int) = n := ⟨_, rfl⟩
  obtain ⟨t, ht⟩ : ∃ t : Int, (m.most : Int) = t := ⟨_, rfl⟩
  obtain ⟨x, hx⟩ : ∃ x : Int, (k : Int) = x := ⟨_, rfl⟩
  have hb : 0 ≤ n ∧ n ≤ t ∧ t ≤ 65536 ∧ 0 ≤ x ∧ x ≤ 4294967295 := by omega
  obtain ⟨g1, g2, g3, g4, g5⟩ := hb
  have hnx : ((m.n + k : Nat) : Int) = n + x := by omega
  by_cases hle : m.n + k ≤ m.most
  · have HY2 := HY.out hle
    rw [hnx] at HY2
    have HY2 := hid HY2
    rw [if_pos hle]
    have hle2 : x ≤ t - n := by omega
    rw [hn] at c1 ⊢
    rw [ht] at c2
    rw [hx]
    clear hm hok h1 h2 HN0 HY hnx hle hn ht hx hk hB
    go_enter Tryd.func16, Tryd.ntmps16
    go_wp2_with fail
    refine C1.out.mono ?_
    rintro e wx ⟨rfl, rfl⟩
    go_wp2
    go_region
    go_wp2
    go_ret2
    exact ⟨rfl, HY2.out⟩
  · rw [if_neg hle]
    have hle2 : ¬ x ≤ t - n := by omega
    rw [hn] at c1
    rw [ht] at c2
    rw [hx]
    clear hm hok h1 h2 HY hnx hle hn ht hx hk hB f1
    go_enter Tryd.func16, Tryd.ntmps16
    go_wp2_with fail
    refine C1.out.mono ?_
    rintro e wx ⟨rfl, rfl⟩
    go_wp2
    go_region
    go_wp2
    go_ret2
    exact ⟨rfl, HN0.out⟩
end Go.Proofs.YtcgjlbpokmlkbaaDoor.Mem
