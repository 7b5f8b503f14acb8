/-
  MODULE: the statements' small module, in new memory.
-/
import Derived.Test.YtlfflomeaplidaaDoorModHeap
namespace Go.Proofs.YtlfflomeaplidaaDoor.Mod
open Go.RowKit Go.Proofs.YtlfflomeaplidaaDoor.Instr

def smallI : Ix := ⟨65, 0, 0, 0, 1, [], none, 0, none, 0, 0, none, 0, 0⟩
def sHost : ByteArray := ⟨#[104, 111, 115, 116]⟩
def sF : ByteArray := ⟨#[102]⟩
def sRun : ByteArray := ⟨#[114, 117, 110]⟩
def smallL (g : Nat) : Lst := ⟨some ⟨g + 1 + 1 + 1, 0, none⟩, 1, .cons smallI .nil .nil .nil⟩
def smallM (g : Nat) : Md where
  ty := [(0, 1), (2, 0)]
  im := [⟨sHost, sF, 1⟩]
  fu := [⟨0, 0, smallL g⟩]
  tb := []
  me := []
  gl := []
  ex := [⟨sRun, 0, 1⟩]
  st := false
  sn := 0
  el := []
  da := []
  ty' := ⟨some ⟨g + 1, 0, none⟩, 2⟩
  im' := ⟨some ⟨g + 1 + 1, 0, none⟩, 1⟩
  fu' := ⟨some ⟨g + 1 + 1 + 1 + 1, 0, none⟩, 1⟩
  tb' := ⟨none, 0⟩
  me' := ⟨none, 0⟩
  gl' := ⟨none, 0⟩
  ex' := ⟨some ⟨g + 1 + 1 + 1 + 1 + 1, 0, none⟩, 1⟩
  el' := ⟨none, 0⟩
  da' := ⟨none, 0⟩
theorem small_few (g : Nat) : (smallM g).few := by
  have hc : ∀ l ∈ (smallM g).codes, l = smallL g := by simp [smallM, Md.codes]
  refine ⟨⟨by simp [smallM], by simp [smallM], by simp [smallM], by simp [smallM], by simp [smallM], by simp [smallM], by simp [smallM], by simp [smallM], by simp [smallM], fun l hl => by rw [hc l hl]; simp [smallL, Il.len], by simp [smallM], by simp [smallM], fun i hi => ?_, fun e he => ?_⟩, fun l hl => by rw [hc l hl]; simp [smallL, Il.count], by simp [smallM]⟩
  · simp only [smallM, List.mem_singleton] at hi; subst hi; decide
  · simp only [smallM, List.mem_singleton] at he; subst he; decide
theorem small_at {g : Nat} {W : World} (h1 : ∀ (j : Nat) (v : Value), (#[.int .i64 0, .int .i64 1, .int .i64 2, .int .i64 0] : Array Value)[j]? = some v → W.cell? ⟨g + 1, j, none⟩ = some v)
    (h2 : ∀ (j : Nat) (v : Value), (#[.string sHost, .string sF, .int .i64 1] : Array Value)[j]? = some v → W.cell? ⟨g + 1 + 1, j, none⟩ = some v)
    (h3 : ∀ (j : Nat) (v : Value), (#[.int .i64 65, .int .i64 0, .int .u32 0, .int .u32 0, .int .i32 1, .slice none 0 0, .slice none 0 0, .slice none 0 0] : Array Value)[j]? = some v → W.cell? ⟨g + 1 + 1 + 1, j, none⟩ = some v)
    (h4 : ∀ (j : Nat) (v : Value), (#[.int .i64 0, .int .i64 0, .slice (some ⟨g + 1 + 1 + 1, 0, none⟩) 1 1] : Array Value)[j]? = some v → W.cell? ⟨g + 1 + 1 + 1 + 1, j, none⟩ = some v)
    (h5 : ∀ (j : Nat) (v : Value), (#[.string sRun, .int .i64 0, .int .u32 1] : Array Value)[j]? = some v → W.cell? ⟨g + 1 + 1 + 1 + 1 + 1, j, none⟩ = some v) (hs : g + 6 ≤ W.heap.size) : ModAt W.heap.size W (smallM g) := by
  have one : ∀ (b sz : Nat) (l : List Value), b < W.heap.size → (∀ (j : Nat) (v : Value), l[j]? = some v → W.cell? ⟨b, j, none⟩ = some v) → Rows W.heap.size W (some ⟨b, 0, none⟩) sz [l] := fun b sz l hb h =>
    .inr ⟨b, 0, rfl, hb, fun i hi j hj v hv => by
      obtain rfl : i = 0 := by simpa using hi
      have := h j v (by simpa using hv)
      simpa using this⟩
  have hc : ∀ l ∈ (smallM g).codes, l = smallL g := by simp [smallM, Md.codes]
  refine ⟨.inr ⟨g + 1, 0, rfl, by omega, fun i hi j hj v hv => ?_⟩, one _ 3 _ (by omega) (fun j v hv => h2 j v (by simpa [Imp.v] using hv)), one _ 3 _ (by omega) (fun j v hv => h4 j v (by simpa [Fn.v, Lst.val, smallL, Il.len] using hv)), .inl rfl, .inl rfl, .inl rfl, one _ 3 _ (by omega) (fun j v hv => h5 j v (by simpa [Ex.v] using hv)), .inl rfl, .inl rfl,
    fun l hl => ?_, by simp [smallM], by simp [smallM]⟩
  · simp only [smallM, List.map_cons, List.map_nil, List.length_cons, List.length_nil] at hi hv
    have hi' : i = 0 ∨ i = 1 := by omega
    have hj' : j = 0 ∨ j = 1 := by omega
    rcases hi' with rfl | rfl <;> rcases hj' with rfl | rfl <;> simp [tyV] at hv <;> subst hv
    · exact h1 0 _ rfl
    · exact h1 1 _ rfl
    · exact h1 2 _ rfl
    · exact h1 3 _ rfl
  · rw [hc l hl]
    refine ⟨rfl, .inr ⟨g + 1 + 1 + 1, 0, rfl, by omega, ?_, ⟨h3 0 _ rfl, h3 1 _ rfl, h3 2 _ rfl, h3 3 _ rfl, h3 4 _ rfl, h3 5 _ rfl, h3 6 _ rfl, h3 7 _ rfl⟩, .inl rfl, ⟨rfl, .inl rfl⟩, ⟨rfl, .inl rfl⟩, trivial⟩⟩
    constructor <;> simp [smallI]
theorem chain6 (w : World) (A B C D E F : Array Value) (a b c d e f : TypeId) :
    (BoxAt ((((((w.alloc (.cells A a)).alloc (.cells B b)).alloc (.cells C c)).alloc (.cells D d)).alloc (.cells E e)).alloc (.cells F f)) w.heap.size A ∧ BoxAt ((((((w.alloc (.cells A a)).alloc (.cells B b)).alloc (.cells C c)).alloc (.cells D d)).alloc (.cells E e)).alloc (.cells F f)) (w.heap.size + 1) B ∧
      BoxAt ((((((w.alloc (.cells A a)).alloc (.cells B b)).alloc (.cells C c)).alloc (.cells D d)).alloc (.cells E e)).alloc (.cells F f)) (w.heap.size + 1 + 1) C ∧ BoxAt ((((((w.alloc (.cells A a)).alloc (.cells B b)).alloc (.cells C c)).alloc (.cells D d)).alloc (.cells E e)).alloc (.cells F f)) (w.heap.size + 1 + 1 + 1) D ∧
      BoxAt ((((((w.alloc (.cells A a)).alloc (.cells B b)).alloc (.cells C c)).alloc (.cells D d)).alloc (.cells E e)).alloc (.cells F f)) (w.heap.size + 1 + 1 + 1 + 1) E ∧ BoxAt ((((((w.alloc (.cells A a)).alloc (.cells B b)).alloc (.cells C c)).alloc (.cells D d)).alloc (.cells E e)).alloc (.cells F f)) (w.heap.size + 1 + 1 + 1 + 1 + 1) F) ∧
    ((((((w.alloc (.cells A a)).alloc (.cells B b)).alloc (.cells C c)).alloc (.cells D d)).alloc (.cells E e)).alloc (.cells F f)).heap.size = w.heap.size + 6 ∧
    Below w.heap.size w ((((((w.alloc (.cells A a)).alloc (.cells B b)).alloc (.cells C c)).alloc (.cells D d)).alloc (.cells E e)).alloc (.cells F f)) := by
  refine ⟨⟨?_, ?_, ?_, ?_, ?_, ?_⟩, by simp, thenA (thenA (thenA (thenA (thenA (thenA (Below.refl _ _) _) _) _) _) _) _⟩ <;> (intro j x h; simp [go_sem, h])
set_option maxHeartbeats 1000000 in
theorem small_any (w : World) : Calls Tryd.prog 30 #[] w fun e w' => e = .returned (.agg (smallM w.heap.size).v) ∧ ModAt w'.heap.size w' (smallM w.heap.size) ∧ Below w.heap.size w w' := by
  go_enter Tryd.func30, Tryd.ntmps30
  go_wp2
  obtain ⟨⟨b0, b1, b2, b3, b4, b5⟩, hs, hB⟩ := chain6 w #[.slice (some ⟨w.heap.size + 1, 0, none⟩) 2 2, .slice (some ⟨w.heap.size + 1 + 1, 0, none⟩) 1 1, .slice (some ⟨w.heap.size + 1 + 1 + 1 + 1, 0, none⟩) 1 1, .slice none 0 0, .slice none 0 0, .slice none 0 0, .slice (some ⟨w.heap.size + 1 + 1 + 1 + 1 + 1, 0, none⟩) 1 1, .bool false, .int .u32 0, .slice none 0 0, .slice none 0 0]
    #[.int .i64 0, .int .i64 1, .int .i64 2, .int .i64 0] #[.string ⟨#[104, 111, 115, 116]⟩, .string ⟨#[102]⟩, .int .i64 1] #[.int .i64 65, .int .i64 0, .int .u32 0, .int .u32 0, .int .i32 1, .slice none 0 0, .slice none 0 0, .slice none 0 0]
    #[.int .i64 0, .int .i64 0, .slice (some ⟨w.heap.size + 1 + 1 + 1, 0, none⟩) 1 1] #[.string ⟨#[114, 117, 110]⟩, .int .i64 0, .int .u32 1] 46 52 83 61 56 58
  have A := small_at b1 b2 b3 b4 b5 (by omega)
  refine bodyPost_ret (v := .agg (smallM w.heap.size).v) (by simp [results, Tryd.results30, go_sem, smallM, Md.v, smallL]) rfl ⟨rfl, A, hB⟩
end Go.Proofs.YtlfflomeaplidaaDoor.Mod
