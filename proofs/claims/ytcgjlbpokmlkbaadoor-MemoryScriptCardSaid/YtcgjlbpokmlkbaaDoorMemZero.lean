/-
  MEMORY: a new page: 65536 noughts, never written out.
-/
import Derived.Test.YtcgjlbpokmlkbaaDoorMemGet
namespace Go.Proofs.YtcgjlbpokmlkbaaDoor.Mem
open Go.RowKit
set_option linter.unusedVariables false

def d0 : List Value := [.int .u8 0, .int .u8 0, .int .u8 0, .int .u8 0, .int .u8 0, .int .u8 0, .int .u8 0, .int .u8 0, .int .u8 0, .int .u8 0, .int .u8 0, .int .u8 0, .int .u8 0, .int .u8 0, .int .u8 0, .int .u8 0, .int .u8 0, .int .u8 0, .int .u8 0, .int .u8 0, .int .u8 0, .int .u8 0, .int .u8 0, .int .u8 0, .int .u8 0, .int .u8 0, .int .u8 0, .int .u8 0, .int .u8 0, .int .u8 0, .int .u8 0, .int .u8 0, .int .u8 0, .int .u8 0, .int .u8 0, .int .u8 0, .int .u8 0, .int .u8 0, .int .u8 0, .int .u8 0, .int .u8 0, .int .u8 0, .int .u8 0, .int .u8 0, .int .u8 0, .int .u8 0, .int .u8 0, .int .u8 0, .int .u8 0, .int .u8 0, .int .u8 0, .int .u8 0, .int .u8 0, .int .u8 0, .int .u8 0, .int .u8 0, .int .u8 0, .int .u8 0, .int .u8 0, .int .u8 0, .int .u8 0, .int .u8 0, .int .u8 0, .int .u8 0]
def d1 : List Value := List.append d0 d0
def d2 : List Value := List.append d1 d1
def d3 : List Value := List.append d2 d2
def d4 : List Value := List.append d3 d3
def d5 : List Value := List.append d4 d4
def d6 : List Value := List.append d5 d5
def d7 : List Value := List.append d6 d6
def d8 : List Value := List.append d7 d7
def d9 : List Value := List.append d8 d8
def d10 : List Value := List.append d9 d9
theorem e0 : d0 = List.replicate 64 (Value.int .u8 0) := rfl
theorem dbl {n : Nat} {L : List Value} (h : L = List.replicate n (Value.int .u8 0)) : List.append L L = List.replicate (n + n) (Value.int .u8 0) := by
  show L ++ L = _
  rw [h, List.replicate_append_replicate]
theorem e1 : d1 = List.replicate 128 (Value.int .u8 0) := dbl e0
theorem e2 : d2 = List.replicate 256 (Value.int .u8 0) := dbl e1
theorem e3 : d3 = List.replicate 512 (Value.int .u8 0) := dbl e2
theorem e4 : d4 = List.replicate 1024 (Value.int .u8 0) := dbl e3
theorem e5 : d5 = List.replicate 2048 (Value.int .u8 0) := dbl e4
theorem e6 : d6 = List.replicate 4096 (Value.int .u8 0) := dbl e5
theorem e7 : d7 = List.replicate 8192 (Value.int .u8 0) := dbl e6
theorem e8 : d8 = List.replicate 16384 (Value.int .u8 0) := dbl e7
theorem e9 : d9 = List.replicate 32768 (Value.int .u8 0) := dbl e8
theorem e10 : d10 = List.replicate 65536 (Value.int .u8 0) := dbl e9
theorem zero93 : Tryd.t93.zero = some (.agg d10.toArray) := by kernel_rfl
/-- The zero value of a page. -/
theorem zeroPage : ∃ Z : Array Value, (∀ w : World, (zeroValue 93).run Tryd.prog w = .ok (.agg Z) w) ∧ Z.size = 65536 ∧ ¬ Z = #[] ∧ Z = ((List.replicate 65536 (0 : Int)).map (Value.int .u8)).toArray := by
  have hd : d10.toArray = ((List.replicate 65536 (0 : Int)).map (Value.int .u8)).toArray := by rw [e10, List.map_replicate]
  refine ⟨d10.toArray, fun w => ?_, ?_, ?_, hd⟩
  · have h := zero93
    generalize d10.toArray = Z at h
    unfold zeroValue
    simp [Tryd.typeInfo93, h]
  · rw [e10, List.size_toArray, List.length_replicate]
  · intro h
    have := congrArg Array.size h
    rw [e10, List.size_toArray, List.length_replicate] at this
    simp at this
theorem zeros_getD (i : Nat) : (List.replicate 65536 (0 : Int)).getD i 0 = 0 := by
  rw [List.getD_eq_getElem?_getD, List.getElem?_replicate]
  split <;> rfl
end Go.Proofs.YtcgjlbpokmlkbaaDoor.Mem
