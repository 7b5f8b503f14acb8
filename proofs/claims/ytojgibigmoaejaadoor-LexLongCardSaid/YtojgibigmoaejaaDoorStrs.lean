/-
  Strings and bytes where the statements' kit for bytes is not at hand: bytes made into a string; a string's bytes as numbers; a string's bytes appended.
-/
import Derived.Test.YtojgibigmoaejaaDoorBase2
import Derived.Laws.BytesArg
import Derived.Lib.ConvBytes
import Derived.Lib.AppendStr
namespace Go.Proofs.YtojgibigmoaejaaDoor
open Go.RowKit

/-- Bytes made into a string. -/
theorem str_of {w : World} {a : Option Addr} {zs : List Int} (hz : Bytes w a zs) (len cap : Nat) (hlen : zs.length = len) :
    (convert 43 9 (.slice a len cap)).run Tryd.prog w = .ok (.string (strOfNums zs)) w := by
  rcases hz.at_ with h | ⟨b, off, rfl, hc⟩
  · subst h
    subst hlen
    rw [run_convert_bytes_string w 43 9 5 _ _ cap Tryd.underlying43 Tryd.underlying5 Tryd.underlying9]
    cases a <;> simp [Conv.bytesToString, loadCells]
    all_goals rfl
  · exact run_convert_bytes_arg w 43 5 Tryd.underlying43 Tryd.underlying5 b off len cap zs hlen (fun i hi => hc i (by omega)) 9 Tryd.underlying9

/-- A string's bytes. -/
def numsOf (s : ByteArray) : List Int := s.data.toList.map fun b => (b.toNat : Int)
theorem numsOf_length (s : ByteArray) : (numsOf s).length = s.size := by rw [numsOf, List.length_map, Array.length_toList]; rfl
theorem numsOf_bytes (s : ByteArray) : ∀ z ∈ numsOf s, 0 ≤ z ∧ z < 256 := by
  intro z hz
  obtain ⟨b, _, rfl⟩ := List.mem_map.1 hz
  have := b.toNat_lt
  omega
theorem str_numsOf (s : ByteArray) : strOfNums (numsOf s) = s := by
  apply ByteArray.ext
  apply Array.toList_inj.1
  rw [strOfNums_data, numsOf, List.map_map]
  refine (List.map_congr_left (g := id) fun b _ => ?_).trans (List.map_id _)
  simp
theorem numsOf_str {zs : List Int} (hz : ∀ z ∈ zs, 0 ≤ z ∧ z < 256) : numsOf (strOfNums zs) = zs := by
  rw [numsOf, strOfNums_data, List.map_map]
  refine (List.map_congr_left (g := id) fun z hm => ?_).trans (List.map_id _)
  have := hz z hm
  simp
  omega
theorem strOfNums_inj {xs ys : List Int} (hx : ∀ z ∈ xs, 0 ≤ z ∧ z < 256) (hy : ∀ z ∈ ys, 0 ≤ z ∧ z < 256) : strOfNums xs = strOfNums ys ↔ xs = ys :=
  ⟨fun h => by rw [← numsOf_str hx, ← numsOf_str hy, h], fun h => by rw [h]⟩

/-- A string made into bytes: a row that holds them, in new memory. -/
theorem bytes_of (zs : List Int) (hz : ∀ z ∈ zs, 0 ≤ z ∧ z < 256) (hl : zs.length ≤ 140737488351232) (w : World) :
    ∃ b c w', (convert 9 43 (.string (strOfNums zs))).run Tryd.prog w = .ok (.slice (some ⟨b, 0, none⟩) zs.length c) w' ∧ Bytes w' (some ⟨b, 0, none⟩) zs ∧ Below w.heap.size w w' := by
  refine ⟨w.heap.size, grownCap w (strOfNums zs).size 0 5, Lib.bytesWorld w 5 (strOfNums zs), ?_, ⟨hz, hl, .inr ⟨w.heap.size, 0, rfl, fun i hi => ?_⟩⟩, ?_⟩
  · rw [Lib.run_convert_string_bytes w 9 43 5 (strOfNums zs) Tryd.underlying9 Tryd.underlying43 Tryd.underlying5, strOfNums_size]
  · rw [Nat.zero_add, Lib.bytesWorld_cell w 5 (strOfNums zs) i (by rw [strOfNums_size]; exact hi)]
    rw [strOfNums_data, getD_lt hi]
    have := hz _ (List.getElem_mem hi)
    simp [hi]
    omega
  · exact ⟨rfl, rfl, rfl, by rw [Lib.bytesWorld_size]; omega, fun k hk => Lib.bytesWorld_at_old w _ _ k hk⟩

section
variable {ops : Array Oper} {rest : List Oper} {o : Oper} {act : Act} {Q : Exit → Act → World → Prop}
theorem strCells_nums {zs : List Int} (hz : ∀ z ∈ zs, 0 ≤ z ∧ z < 256) : Lib.strCells (strOfNums zs) = zs.map (Value.int .u8) := by
  conv => rhs; rw [← numsOf_str hz]
  simp [Lib.strCells, numsOf]
/-- A string's bytes appended to bytes of one's own. -/
theorem append_str (hgd : o.guard = none) (s x : Operand) (ho : o.op = .call { callee := .builtin .append, args := #[s, x], argTypes := #[43, 9] })
    {base : Nat} {w0 wr : World} {v : Value} {xs ys : List Int} (hs : act.eval s = v) (hown : Own base wr v xs) (hb : Below base w0 wr) (hbase : base ≤ wr.heap.size)
    (hx : act.eval x = .string (strOfNums ys)) (hy : ∀ z ∈ ys, 0 ≤ z ∧ z < 256) (hl : xs.length + ys.length ≤ 140737488355328)
    (h : ∀ v' w', Own base w' v' (xs ++ ys) → Below base w0 w' → base ≤ w'.heap.size → wpList Tryd.prog ops Q rest (act.put o.dst v') w') :
    wpList Tryd.prog ops Q (o :: rest) act wr := by
  obtain ⟨i0, hi, hz0, hz1, hz2⟩ := info_parts infoByte
  refine Lib.wpList_append_own_string _ hgd s x 43 9 ho base 5 i0 Tryd.underlying43 Tryd.underlying9 hi hz0 hz1 hz2 v xs.length _ hs hown (strOfNums ys) hx
    (by rw [strOfNums_size]; unfold maxLen; omega) (by rw [strOfNums_size]; exact hl) hbase (fun v' w' hown' hgrow _ => ?_)
  refine h v' w' ?_ (hb.grown hgrow hbase (fun k hk => (World.ownsRow.lt hown k hk).1)) (by have := hgrow.size; omega)
  unfold Own
  rw [strOfNums_size, strCells_nums hy] at hown'
  rw [List.length_append, List.map_append]
  exact hown'
end
end Go.Proofs.YtojgibigmoaejaaDoor
