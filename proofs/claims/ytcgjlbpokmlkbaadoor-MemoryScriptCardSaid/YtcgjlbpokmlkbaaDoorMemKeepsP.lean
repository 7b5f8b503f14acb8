/-
  MEMORY: the walk of MemoryKeeps.
-/
import Derived.Test.YtcgjlbpokmlkbaaDoorMemoryBounds
import Derived.Deep.QuietTactic
namespace Go.Proofs.YtcgjlbpokmlkbaaDoor.Mem
open Go.RowKit Go.Proofs.YtcgjlbpokmlkbaaDoor.Instr Go.Proofs.YtcgjlbpokmlkbaaDoor.Num
set_option linter.unusedVariables false
theorem rowF_take (f : Nat → Int) (s n k : Nat) (h : k ≤ n) : (rowF f s n).take k = rowF f s k := by
  obtain ⟨j, rfl⟩ : ∃ j, n = k + j := ⟨n - k, by omega⟩
  rw [rowF_add, List.take_append_of_le_length (by rw [rowF_length]; exact Nat.le_refl _), List.take_of_length_le (by rw [rowF_length]; exact Nat.le_refl _)]
theorem rowF_drop (f : Nat → Int) (s n k : Nat) (h : k ≤ n) : (rowF f s n).drop k = rowF f (s + k) (n - k) := by
  obtain ⟨j, rfl⟩ : ∃ j, n = k + j := ⟨n - k, by omega⟩
  rw [rowF_add, List.drop_append, rowF_length, Nat.sub_self, List.drop_zero, List.drop_of_length_le (by rw [rowF_length]; exact Nat.le_refl _), List.nil_append, Nat.add_sub_cancel_left]
/-- Behind a write and a store within it: the bytes ahead, and behind. -/
theorem keeps_row (f : Nat → Int) (zs xs : List Int) (b n : Nat) (hn : zs.length = n) (hx : 4 + xs.length ≤ n) :
    (rowF (putF (putF f b zs) (b + 4) xs) b n).take 4 = zs.take 4 ∧ (rowF (putF (putF f b zs) (b + 4) xs) b n).drop (4 + xs.length) = zs.drop (4 + xs.length) := by
  have hz : rowF (putF f b zs) b n = zs := by rw [← hn]; exact putF_row f b zs
  constructor
  · rw [rowF_take _ _ _ _ (by omega), rowF_congr (g := putF f b zs) 4 b (fun i hi => putF_other _ _ _ _ (by omega)), ← rowF_take _ _ n _ (by omega), hz]
  · rw [rowF_drop _ _ _ _ hx, rowF_congr (g := putF f b zs) _ _ (fun i hi => putF_other _ _ _ _ (by omega)), ← rowF_drop _ _ n _ hx, hz]
theorem keeps_load (f : Nat → Int) (s : Nat) (v : Int) (hv : 0 ≤ v ∧ v ≤ 4294967295) : leW (putF f s ((bytesN v).take 4)) s 4 = v ∧ leW (putF f s ((bytesN v).take 2)) s 2 = v % 65536 ∧ leW (putF f s ((bytesN v).take 1)) s 1 = v % 256 := by
  refine ⟨?_, ?_, ?_⟩
  · have e : rowF (putF f s ((bytesN v).take 4)) s 4 = (bytesN v).take 4 := putF_row f s ((bytesN v).take 4)
    rw [leW_row, e]
    simp [bytesN]; omega
  · have e : rowF (putF f s ((bytesN v).take 2)) s 2 = (bytesN v).take 2 := putF_row f s ((bytesN v).take 2)
    rw [leW_row, e]
    simp [bytesN]; omega
  · have e : rowF (putF f s ((bytesN v).take 1)) s 1 = (bytesN v).take 1 := putF_row f s ((bytesN v).take 1)
    rw [leW_row, e]
    simp [bytesN]
theorem and_masks (v : Int) (hv : 0 ≤ v ∧ v ≤ 4294967295) : bits .and .u32 v 4294967295 = v ∧ bits .and .u32 v 65535 = v % 65536 ∧ bits .and .u32 v 255 = v % 256 := by
  obtain ⟨a, rfl⟩ := Int.eq_ofNat_of_zero_le hv.1
  refine ⟨?_, ?_, ?_⟩
  · rw [u32_and _ _ hv.1 (by omega) (by decide) (by decide)]
    have := Nat.and_two_pow_sub_one_eq_mod a 32
    rw [show (2 : Nat) ^ 32 - 1 = 4294967295 by decide] at this
    simp only [Int.toNat_natCast]
    rw [show (4294967295 : Int).toNat = 4294967295 from rfl, this]
    omega
  · rw [u32_and _ _ hv.1 (by omega) (by decide) (by decide)]
    have := Nat.and_two_pow_sub_one_eq_mod a 16
    rw [show (2 : Nat) ^ 16 - 1 = 65535 by decide] at this
    simp only [Int.toNat_natCast]
    rw [show (65535 : Int).toNat = 65535 from rfl, this]
    omega
  · rw [u32_and _ _ hv.1 (by omega) (by decide) (by decide)]
    have := Nat.and_two_pow_sub_one_eq_mod a 8
    rw [show (2 : Nat) ^ 8 - 1 = 255 by decide] at this
    simp only [Int.toNat_natCast]
    rw [show (255 : Int).toNat = 255 from rfl, this]
    omega
/-- What MemoryKeeps' loop keeps. -/
structure KeepsAt (W : World) (p bs k g1 g2 g3 : Nat) (zs : List Int) (wr : World) : Prop where
  mem : ∃ m, m.n = 1 ∧ m.most = 2 ∧ MemIs W.heap.size wr p (104 * k) m ∧ (0 < k → rowF m.f bs 4 = zs.take 4)
  below : Below W.heap.size W wr
  sets : wr.heap[g1]? = some (.cells #[.int .i64 54, .int .i64 59, .int .i64 58] 3 (0, 0))
  ops : wr.heap[g2]? = some (.cells #[.int .i64 40, .int .i64 47, .int .i64 45] 3 (0, 0))
  masks : wr.heap[g3]? = some (.cells #[.int .u32 4294967295, .int .u32 65535, .int .u32 255] 22 (0, 0))
theorem KeepsAt.keep {W : World} {p bs k g1 g2 g3 : Nat} {zs : List Int} {wr w : World} (h : KeepsAt W p bs k g1 g2 g3 zs wr) (hk : Keep wr w) :
    w.heap[g1]? = some (.cells #[.int .i64 54, .int .i64 59, .int .i64 58] 3 (0, 0)) ∧ w.heap[g2]? = some (.cells #[.int .i64 40, .int .i64 47, .int .i64 45] 3 (0, 0)) ∧ w.heap[g3]? = some (.cells #[.int .u32 4294967295, .int .u32 65535, .int .u32 255] 22 (0, 0)) :=
  ⟨hk.cells h.sets rfl, hk.cells h.ops rfl, hk.cells h.masks rfl⟩
theorem drewnK {B n : Nat} {a w : World} (h : Below B a w) : Below B a (w.drewN n) := ⟨h.os, h.tape, h.output, h.size, h.block⟩
theorem bytes_cells {w : World} {b off : Nat} {zs : List Int} (h : Bytes w (some ⟨b, off, none⟩) zs) : ∀ i, i < zs.length → w.cell? ⟨b, off + i, none⟩ = some (.int .u8 (zs.getD i 0)) := by
  rcases h.at_ with h0 | ⟨b', off', e, hc⟩
  · subst h0; exact fun i hi => absurd hi (Nat.not_lt_zero _)
  · simp only [Option.some.injEq, Addr.mk.injEq, and_true] at e
    obtain ⟨rfl, rfl⟩ := e
    exact hc
theorem heap_some {w : World} {b : Nat} (h : b < w.heap.size) : ∃ o, w.heap[b]? = some o := ⟨_, Array.getElem?_eq_getElem h⟩
/-- A part of a slice of bytes. -/
theorem bytes_part {w : World} {b off : Nat} {zs : List Int} (h : Bytes w (some ⟨b, off, none⟩) zs) (k n : Nat) : Bytes w (some ⟨b, off + k, none⟩) ((zs.drop k).take n) := by
  refine ⟨fun z hz => h.byte z (List.mem_of_mem_drop (List.mem_of_mem_take hz)), by have := h.size; simp; omega, ?_⟩
  rcases h.at_ with h0 | ⟨b', off', e, hc⟩
  · subst h0; exact .inl (by simp)
  · simp only [Option.some.injEq, Addr.mk.injEq, and_true] at e
    obtain ⟨rfl, rfl⟩ := e
    refine .inr ⟨b, off + k, rfl, fun i hi => ?_⟩
    simp only [List.length_take, List.length_drop] at hi
    have := hc (k + i) (by omega)
    rw [show off + k + i = off + (k + i) by omega, this]
    rw [List.getD_eq_getElem?_getD, List.getD_eq_getElem?_getD, List.getElem?_take_of_lt (by omega), List.getElem?_drop]
theorem same_quiet {f : FuncId} {args : Array Value} {w : World} {v : Value} (h : Calls Tryd.prog f args w fun e w' => e = .returned v ∧ w = w') : Calls Tryd.prog f args w fun e w' => e = .returned v ∧ w' = w := h.mono fun e w' h => ⟨h.1, h.2.symm⟩
end Go.Proofs.YtcgjlbpokmlkbaaDoor.Mem
