/-
  MEMORY: a memory as plain data: how many pages there are and may be, and the byte at each place; what loads and stores do with it.
-/
import Derived.Test.YtcgjlbpokmlkbaaDoorMemShape
import Derived.Test.YtcgjlbpokmlkbaaDoorNumWideC
namespace Go.Proofs.YtcgjlbpokmlkbaaDoor.Mem
open Go.RowKit Go.Proofs.YtcgjlbpokmlkbaaDoor.Instr Go.Proofs.YtcgjlbpokmlkbaaDoor.Num
set_option linter.unusedVariables false

structure Mm where
  n : Nat
  most : Nat
  f : Nat → Int
/-- How many bytes an operation is for. -/
def wd (op : Int) : Nat := if op = 40 ∨ op = 54 then 4 else if op = 46 ∨ op = 47 ∨ op = 59 then 2 else 1
def isLoad (op : Int) : Bool := storedP op && decide (op < 54)
def isStore (op : Int) : Bool := storedP op && decide (54 ≤ op)
/-- The word made from n bytes, the lowest first. -/
def leW (f : Nat → Int) : Nat → Nat → Int
  | _, 0 => 0
  | s, n + 1 => f s + 256 * leW f (s + 1) n
def loadV (op : Int) (f : Nat → Int) (s : Nat) : Int := if op = 44 ∨ op = 46 then wideV (leW f s (wd op)) (8 * (wd op : Int)) else leW f s (wd op)
/-- The bytes from s on are zs. -/
def putF (f : Nat → Int) (s : Nat) (zs : List Int) : Nat → Int := fun a => if s ≤ a ∧ a < s + zs.length then zs.getD (a - s) 0 else f a
def bytesN (v : Int) : List Int := [v % 256, v / 256 % 256, v / 65536 % 256, v / 16777216 % 256]
def Mm.has (m : Mm) (s k : Nat) : Bool := decide (s + k ≤ m.n * 65536)
def Mm.load (m : Mm) (op : Int) (s : Nat) : Int × Int := if isLoad op then (if m.has s (wd op) then (loadV op m.f s, 0) else (0, 220)) else (0, 2)
def Mm.store (m : Mm) (op : Int) (s : Nat) (v : Int) : Mm × Int := if isStore op then (if m.has s (wd op) then ({ m with f := putF m.f s ((bytesN v).take (wd op)) }, 0) else (m, 220)) else (m, 2)
def Mm.grow (m : Mm) (k : Nat) : Mm × Int := if m.n + k ≤ m.most then ({ m with n := m.n + k }, m.n) else (m, 4294967295)
def rowF (f : Nat → Int) (s : Nat) : Nat → List Int
  | 0 => []
  | n + 1 => f s :: rowF f (s + 1) n
def Mm.write (m : Mm) (s : Nat) (zs : List Int) : Mm × Int := if m.has s zs.length then ({ m with f := putF m.f s zs }, 0) else (m, 220)
/-- As a memory should be. -/
structure Mm.ok (m : Mm) : Prop where
  n : m.n ≤ m.most
  most : m.most ≤ 65536
  byte : ∀ a, 0 ≤ m.f a ∧ m.f a < 256

theorem rowF_length (f : Nat → Int) : ∀ (n s : Nat), (rowF f s n).length = n
  | 0, _ => rfl
  | n + 1, s => by simp [rowF, rowF_length f n]
theorem rowF_getD (f : Nat → Int) : ∀ (n s i : Nat), i < n → (rowF f s n).getD i 0 = f (s + i)
  | 0, _, i, h => absurd h (Nat.not_lt_zero _)
  | n + 1, s, 0, _ => rfl
  | n + 1, s, i + 1, h => by
    have := rowF_getD f n (s + 1) i (by omega)
    simp only [rowF, List.getD_cons_succ]
    rw [this]; congr 1; omega
theorem rowF_add (f : Nat → Int) : ∀ (a b s : Nat), rowF f s (a + b) = rowF f s a ++ rowF f (s + a) b
  | 0, b, s => by simp [rowF]
  | a + 1, b, s => by
    have : a + 1 + b = (a + b) + 1 := by omega
    rw [this]
    simp only [rowF, List.cons_append]
    rw [rowF_add f a b (s + 1)]
    have : s + 1 + a = s + (a + 1) := by omega
    rw [this]
theorem rowF_congr {f g : Nat → Int} : ∀ (n s : Nat), (∀ i, i < n → f (s + i) = g (s + i)) → rowF f s n = rowF g s n
  | 0, _, _ => rfl
  | n + 1, s, h => by
    have h0 : f s = g s := h 0 (by omega)
    have hr := rowF_congr (f := f) (g := g) n (s + 1) (fun i hi => by have h1 := h (i + 1) (by omega); rw [show s + 1 + i = s + (i + 1) from by omega]; exact h1)
    simp only [rowF, h0, hr]
theorem leW_congr {f g : Nat → Int} : ∀ (n s : Nat), (∀ i, i < n → f (s + i) = g (s + i)) → leW f s n = leW g s n
  | 0, _, _ => rfl
  | n + 1, s, h => by
    have h0 : f s = g s := h 0 (by omega)
    have hr := leW_congr (f := f) (g := g) n (s + 1) (fun i hi => by have h1 := h (i + 1) (by omega); rw [show s + 1 + i = s + (i + 1) from by omega]; exact h1)
    simp only [leW, h0, hr]
theorem leW_row (f : Nat → Int) : ∀ (n s : Nat), leW f s n = (rowF f s n).foldr (fun x a => x + 256 * a) 0
  | 0, _ => rfl
  | n + 1, s => by simp only [leW, rowF, List.foldr_cons, leW_row f n (s + 1)]
theorem leW_range {f : Nat → Int} (hf : ∀ a, 0 ≤ f a ∧ f a < 256) : ∀ (n s : Nat), 0 ≤ leW f s n ∧ leW f s n < 256 ^ n
  | 0, _ => by simp [leW]
  | n + 1, s => by
    have h1 := hf s
    have h2 := leW_range hf n (s + 1)
    simp only [leW]
    constructor
    · omega
    · rw [Int.pow_succ]; omega
theorem putF_nil (f : Nat → Int) (s : Nat) : putF f s [] = f := by
  funext a; unfold putF; rw [if_neg (by simp)]
theorem putF_append (f : Nat → Int) (s : Nat) (xs ys : List Int) : putF (putF f s xs) (s + xs.length) ys = putF f s (xs ++ ys) := by
  funext a
  unfold putF
  rw [List.length_append]
  by_cases h1 : s + xs.length ≤ a ∧ a < s + xs.length + ys.length
  · rw [if_pos h1, if_pos (by omega), List.getD_eq_getElem?_getD, List.getD_eq_getElem?_getD, List.getElem?_append_right (by omega), show a - (s + xs.length) = a - s - xs.length by omega]
  · rw [if_neg h1]
    by_cases h2 : s ≤ a ∧ a < s + xs.length
    · rw [if_pos h2, if_pos (by omega), List.getD_eq_getElem?_getD, List.getD_eq_getElem?_getD, List.getElem?_append_left (by omega)]
    · rw [if_neg h2, if_neg (by omega)]
theorem putF_byte {f : Nat → Int} (hf : ∀ a, 0 ≤ f a ∧ f a < 256) {zs : List Int} (hz : ∀ z ∈ zs, 0 ≤ z ∧ z < 256) (s a : Nat) : 0 ≤ putF f s zs a ∧ putF f s zs a < 256 := by
  unfold putF
  split
  · rename_i h
    rw [getD_lt (by omega)]; exact hz _ (List.getElem_mem _)
  · exact hf a
theorem putF_at (f : Nat → Int) (s : Nat) (zs : List Int) (i : Nat) (hi : i < zs.length) : putF f s zs (s + i) = zs.getD i 0 := by
  unfold putF; rw [if_pos (by omega)]; congr 1; omega
theorem putF_row (f : Nat → Int) (s : Nat) (zs : List Int) : rowF (putF f s zs) s zs.length = zs := by
  apply List.ext_getElem (by rw [rowF_length])
  intro i h1 h2
  have := rowF_getD (putF f s zs) zs.length s i h2
  rw [getD_lt h1, putF_at _ _ _ _ h2, getD_lt h2] at this
  exact this
theorem putF_other (f : Nat → Int) (s : Nat) (zs : List Int) (a : Nat) (h : a < s ∨ s + zs.length ≤ a) : putF f s zs a = f a := by
  unfold putF; rw [if_neg (by omega)]
theorem bytesN_byte (v : Int) : ∀ z ∈ bytesN v, 0 ≤ z ∧ z < 256 := by
  intro z hz; simp only [bytesN, List.mem_cons, List.not_mem_nil, or_false] at hz; rcases hz with rfl | rfl | rfl | rfl <;> omega
theorem wd_cases (op : Int) : wd op = 4 ∨ wd op = 2 ∨ wd op = 1 := by
  unfold wd
  split
  · exact .inl rfl
  · split
    · exact .inr (.inl rfl)
    · exact .inr (.inr rfl)
theorem alignP_wd (op : Int) : (alignP op = 2 ∧ wd op = 4) ∨ (alignP op = 1 ∧ wd op = 2) ∨ (alignP op = 0 ∧ wd op = 1) := by
  unfold alignP wd
  split
  · exact .inl ⟨rfl, rfl⟩
  · split
    · exact .inr (.inl ⟨rfl, rfl⟩)
    · exact .inr (.inr ⟨rfl, rfl⟩)
theorem stored_cases {op : Int} (h : storedP op = true) : op = 40 ∨ op = 54 ∨ op = 46 ∨ op = 47 ∨ op = 59 ∨ op = 44 ∨ op = 45 ∨ op = 58 := by simpa [storedP] using h
theorem takes_load (op : Int) : (storedP op && decide (takesP op = 1)) = isLoad op := by
  cases hs : storedP op
  · simp [isLoad, hs]
  · rcases stored_cases hs with rfl | rfl | rfl | rfl | rfl | rfl | rfl | rfl <;> kernel_rfl
theorem takes_store (op : Int) : (storedP op && decide (takesP op = 2)) = isStore op := by
  cases hs : storedP op
  · simp [isStore, hs]
  · rcases stored_cases hs with rfl | rfl | rfl | rfl | rfl | rfl | rfl | rfl <;> kernel_rfl
end Go.Proofs.YtcgjlbpokmlkbaaDoor.Mem
