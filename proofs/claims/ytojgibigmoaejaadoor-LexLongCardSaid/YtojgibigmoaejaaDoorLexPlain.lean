/-
  LEX: plain functions: the words of a text of bytes, and the text of words.
-/
import Derived.Test.YtojgibigmoaejaaDoorUtfPlain
namespace Go.Proofs.YtojgibigmoaejaaDoor.Lex
open Go.Proofs.YtojgibigmoaejaaDoor.Utf
set_option linter.unusedSimpArgs false
set_option linter.unusedVariables false

def smallB (c : Int) : Bool := decide (97 ≤ c) && decide (c ≤ 122)
def greatB (c : Int) : Bool := decide (65 ≤ c) && decide (c ≤ 90)
def digitB (c : Int) : Bool := decide (48 ≤ c) && decide (c ≤ 57)
def beginsB (c : Int) : Bool := smallB c || decide (c = 95)
def letterB (c : Int) : Bool := smallB c || greatB c || digitB c || decide (c = 95) || decide (c = 39)
def blankB (c : Int) : Bool := decide (c = 9) || decide (c = 10) || decide (c = 13) || decide (c = 32)

def keysL : List (List Int) := [[97, 110, 100], [98, 101, 103, 105, 110], [101, 108, 115, 101], [101, 110, 100], [101, 120, 99, 101, 112, 116, 105, 111, 110], [102, 97, 108, 115, 101], [102, 117, 110], [105, 102], [105, 110], [108, 101, 116], [109, 97, 116, 99, 104], [109, 111, 100], [111, 102], [114, 97, 105, 115, 101], [114, 101, 99], [116, 104, 101, 110], [116, 114, 117, 101], [116, 114, 121], [116, 121, 112, 101], [119, 105, 116, 104]]
def signsL : List (List Int) := [[59, 59], [58, 61], [45, 62], [60, 61], [59], [40], [41], [44], [61], [60], [43], [45], [42], [47], [124], [33], [95]]

/-- A word: its kind, number, place, text. -/
structure Wd where
  k : Int
  n : Int
  at_ : Int
  s : List Int
deriving DecidableEq
/-- What is cut off: a word's kind, number, text; how many bytes it has; the error. -/
structure Cut where
  k : Int
  n : Int
  s : List Int
  size : Nat
  e : Int
deriving DecidableEq
def Cut.bad (e : Int) : Cut := ⟨0, 0, [], 0, e⟩

/-- A number's digits read on. -/
def numGo : Int → List Int → Option Int
  | n, [] => some n
  | n, c :: t => if 10 * n + (c - 48) > 2147483647 then none else numGo (10 * n + (c - 48)) t
def wordN (n : Int) : Int := if n > 1073741823 then n - 2147483648 else n
def cutInt (zs : List Int) : Cut :=
  match numGo 0 (zs.takeWhile digitB) with
  | none => .bad 254
  | some n => ⟨1, wordN n, [], (zs.takeWhile digitB).length, 0⟩

/-- What stands behind a \: the byte, and how many bytes it takes. -/
def escL : List Int → Option (Int × Nat)
  | [] => none
  | c :: t => if c = 110 then some (10, 1) else if c = 116 then some (9, 1) else if c = 34 ∨ c = 92 then some (c, 1)
    else match t with
      | d :: f :: _ => if digitB c && digitB d && digitB f && decide (100 * (c - 48) + 10 * (d - 48) + (f - 48) ≤ 255) then some (100 * (c - 48) + 10 * (d - 48) + (f - 48), 3) else none
      | _ => none
/-- A text read on behind its first quote: what it says, and how many bytes it takes with its last quote. -/
def textGo : Nat → List Int → Option (List Int × Nat)
  | _, [] => none
  | k + 1, _ :: t => (textGo k t).map fun r => (r.1, r.2 + 1)
  | 0, c :: t => if c = 34 then some ([], 1)
    else if c = 92 then match escL t with
      | none => none
      | some (b, k) => (textGo k t).map fun r => (b :: r.1, r.2 + 1)
    else if c < 32 ∨ c = 127 then none
    else (textGo 0 t).map fun r => (c :: r.1, r.2 + 1)
def cutText (zs : List Int) : Cut :=
  match textGo 0 (zs.drop 1) with
  | none => .bad 252
  | some (s, k) => if s.length > 4096 then .bad 255 else ⟨2, 0, s, 1 + k, 0⟩

def cutVar (zs : List Int) : Cut :=
  if ((zs.drop 1).takeWhile letterB).length = 0 ∨ smallB ((zs.drop 1).takeWhile letterB |>.getD 0 0) = false then .bad 251
  else if ((zs.drop 1).takeWhile letterB).length > 64 then .bad 255
  else ⟨5, 0, (zs.drop 1).takeWhile letterB, 1 + ((zs.drop 1).takeWhile letterB).length, 0⟩
def cutCon (zs : List Int) : Cut :=
  if (zs.takeWhile letterB).length > 64 then .bad 255 else ⟨4, 0, zs.takeWhile letterB, (zs.takeWhile letterB).length, 0⟩
def cutSign (zs : List Int) : Cut :=
  match signsL.find? fun p => decide (zs.take p.length = p) with
  | none => .bad 251
  | some p => ⟨7, 0, p, p.length, 0⟩
def cutName (zs : List Int) : Cut :=
  if zs.takeWhile letterB = [95] then cutSign zs
  else if keysL.contains (zs.takeWhile letterB) then ⟨6, 0, zs.takeWhile letterB, (zs.takeWhile letterB).length, 0⟩
  else if (zs.takeWhile letterB).length > 64 then .bad 255
  else ⟨3, 0, zs.takeWhile letterB, (zs.takeWhile letterB).length, 0⟩
def cutOne (zs : List Int) : Cut :=
  if digitB (zs.getD 0 0) then cutInt zs
  else if zs.getD 0 0 = 34 then cutText zs
  else if zs.getD 0 0 = 39 then cutVar zs
  else if greatB (zs.getD 0 0) then cutCon zs
  else if beginsB (zs.getD 0 0) then cutName zs
  else cutSign zs

/-- A note read on: how many bytes it takes; d notes are open. -/
def noteGo : Int → Nat → List Int → Option Nat
  | _, _, [] => none
  | d, _ + 1, _ :: t => (noteGo d 0 t).map (· + 1)
  | d, 0, c :: t => if c = 40 ∧ t.head? = some 42 then (noteGo (d + 1) 1 t).map (· + 1)
    else if c = 42 ∧ t.head? = some 41 then (if d - 1 = 0 then some 2 else (noteGo (d - 1) 1 t).map (· + 1))
    else (noteGo d 0 t).map (· + 1)
def noteB (zs : List Int) : Bool := decide (zs.take 2 = [40, 42])

/-- What is told: words, or an error and its place. -/
inductive Told where
  | ok (ws : List Wd)
  | bad (e p : Int)
deriving DecidableEq
def Told.cons (w : Wd) : Told → Told
  | .ok ws => .ok (w :: ws)
  | .bad e p => .bad e p
/-- Words ahead of these. -/
def Told.on (l : List Wd) : Told → Told
  | .ok ws => .ok (l ++ ws)
  | .bad e p => .bad e p
theorem Told.on_cons (l : List Wd) (w : Wd) (t : Told) : (t.cons w).on l = t.on (l ++ [w]) := by cases t <;> simp [Told.cons, Told.on]
theorem Told.on_nil (t : Told) : t.on [] = t := by cases t <;> rfl

def lexGo : Nat → List Int → Int → Told
  | 0, _, _ => .ok []
  | _ + 1, [], _ => .ok []
  | f + 1, c :: t, at_ => if blankB c then lexGo f t (at_ + 1)
    else if noteB (c :: t) then match noteGo 0 0 (c :: t) with
      | none => .bad 253 at_
      | some k => lexGo f ((c :: t).drop k) (at_ + k)
    else if (cutOne (c :: t)).e ≠ 0 then .bad (cutOne (c :: t)).e at_
    else (lexGo f ((c :: t).drop (cutOne (c :: t)).size) (at_ + (cutOne (c :: t)).size)).cons ⟨(cutOne (c :: t)).k, (cutOne (c :: t)).n, at_, (cutOne (c :: t)).s⟩
/-- The words of a text from a place on. -/
def lexA (zs : List Int) (at_ : Int) : Told := lexGo zs.length zs at_
def lexP (zs : List Int) : Told :=
  if zs.length > 65536 then .bad 3 0 else if (scan zs).2 < zs.length then .bad 250 (scan zs).2 else lexA zs 0

theorem takeWhile_le (p : Int → Bool) (zs : List Int) : (zs.takeWhile p).length ≤ zs.length := (List.takeWhile_sublist p).length_le
theorem takeWhile_take (p : Int → Bool) : ∀ zs : List Int, zs.takeWhile p = zs.take (zs.takeWhile p).length
  | [] => rfl
  | c :: t => by
    rw [List.takeWhile_cons]
    split
    · rw [List.length_cons, List.take_succ_cons, ← takeWhile_take p t]
    · rfl
theorem takeWhile_all (p : Int → Bool) (zs : List Int) : ∀ z ∈ zs.takeWhile p, p z = true := by
  induction zs with
  | nil => simp
  | cons c t ih =>
    intro z hz
    rw [List.takeWhile_cons] at hz
    split at hz
    · rcases List.mem_cons.1 hz with rfl | hz
      · assumption
      · exact ih z hz
    · simp at hz
theorem textGo_size : ∀ (k : Nat) (l : List Int) (s : List Int) (n : Nat), textGo k l = some (s, n) → 1 ≤ n ∧ n ≤ l.length ∧ s.length < n
  | _, [], _, _, h => by simp [textGo] at h
  | k + 1, c :: t, s, n, h => by
    simp only [textGo, Option.map_eq_some_iff] at h
    obtain ⟨⟨s', n'⟩, h, he⟩ := h
    simp only [Prod.mk.injEq] at he
    have := textGo_size k t _ _ h
    obtain ⟨rfl, rfl⟩ := he
    simp; omega
  | 0, c :: t, s, n, h => by
    simp only [textGo] at h
    split at h
    · simp only [Option.some.injEq, Prod.mk.injEq] at h
      obtain ⟨rfl, rfl⟩ := h
      simp
    · split at h
      · split at h
        · cases h
        · rw [Option.map_eq_some_iff] at h
          obtain ⟨⟨s', n'⟩, h, he⟩ := h
          simp only [Prod.mk.injEq] at he
          have := textGo_size _ t _ _ h
          obtain ⟨rfl, rfl⟩ := he
          simp; omega
      · split at h
        · cases h
        · rw [Option.map_eq_some_iff] at h
          obtain ⟨⟨s', n'⟩, h, he⟩ := h
          simp only [Prod.mk.injEq] at he
          have := textGo_size _ t _ _ h
          obtain ⟨rfl, rfl⟩ := he
          simp; omega
theorem noteGo_size : ∀ (d : Int) (k : Nat) (l : List Int) (n : Nat), noteGo d k l = some n → 1 ≤ n ∧ n ≤ l.length
  | _, _, [], _, h => by simp [noteGo] at h
  | d, k + 1, c :: t, n, h => by
    simp only [noteGo, Option.map_eq_some_iff] at h
    obtain ⟨n', h, rfl⟩ := h
    have := noteGo_size d 0 t _ h
    simp; omega
  | d, 0, c :: t, n, h => by
    simp only [noteGo] at h
    split at h
    · rw [Option.map_eq_some_iff] at h
      obtain ⟨n', h, rfl⟩ := h
      have := noteGo_size _ _ t _ h
      simp; omega
    · split at h
      · rename_i hc
        split at h
        · simp only [Option.some.injEq] at h
          subst h
          cases t with
          | nil => simp at hc
          | cons => simp
        · rw [Option.map_eq_some_iff] at h
          obtain ⟨n', h, rfl⟩ := h
          have := noteGo_size _ _ t _ h
          simp; omega
      · rw [Option.map_eq_some_iff] at h
        obtain ⟨n', h, rfl⟩ := h
        have := noteGo_size _ _ t _ h
        simp; omega
theorem sign_size {zs p : List Int} (h : signsL.find? (fun p => decide (zs.take p.length = p)) = some p) : 1 ≤ p.length ∧ p.length ≤ 2 ∧ zs.take p.length = p ∧ p ∈ signsL := by
  have hm := List.mem_of_find?_eq_some h
  have hp := List.find?_some h
  simp only [decide_eq_true_eq] at hp
  have hl : ∀ q ∈ signsL, 1 ≤ q.length ∧ q.length ≤ 2 := by decide
  exact ⟨(hl p hm).1, (hl p hm).2, hp, hm⟩
theorem cutSign_size {zs : List Int} (h : (cutSign zs).e = 0) : 1 ≤ (cutSign zs).size ∧ (cutSign zs).size ≤ zs.length := by
  unfold cutSign at h ⊢
  cases hf : signsL.find? (fun p => decide (zs.take p.length = p)) with
  | none => rw [hf] at h; simp [Cut.bad] at h
  | some p =>
    obtain ⟨h1, _, h3, _⟩ := sign_size hf
    have := congrArg List.length h3
    rw [List.length_take] at this
    simp only; omega
theorem head_takeWhile {p : Int → Bool} {zs : List Int} (h0 : zs ≠ []) (h : p (zs.getD 0 0) = true) : 1 ≤ (zs.takeWhile p).length := by
  cases zs with
  | nil => simp at h0
  | cons c t =>
    simp only [List.getD_cons_zero] at h
    rw [List.takeWhile_cons, if_pos h]
    simp
theorem letter_great {c : Int} (h : greatB c = true) : letterB c = true := by unfold letterB; simp [h]
theorem letter_begins {c : Int} (h : beginsB c = true) : letterB c = true := by
  unfold beginsB at h; unfold letterB
  rw [Bool.or_eq_true] at h
  rcases h with h | h <;> simp [h]
/-- What is cut off has at least one byte, and is there. -/
theorem cutOne_size {zs : List Int} (h0 : zs ≠ []) (h : (cutOne zs).e = 0) : 1 ≤ (cutOne zs).size ∧ (cutOne zs).size ≤ zs.length := by
  have hpos : 0 < zs.length := List.length_pos_iff.2 h0
  unfold cutOne at h ⊢
  split
  · rename_i hd
    rw [if_pos hd] at h
    have h1 := head_takeWhile h0 hd
    have h2 := takeWhile_le digitB zs
    unfold cutInt at h ⊢
    split
    · rename_i hn; rw [hn] at h; simp [Cut.bad] at h
    · exact ⟨h1, h2⟩
  · rename_i hd
    rw [if_neg hd] at h
    split
    · rename_i hq
      rw [if_pos hq] at h
      unfold cutText at h ⊢
      split
      · rename_i hn; rw [hn] at h; simp [Cut.bad] at h
      · rename_i s k hn
        rw [hn] at h
        have := textGo_size _ _ _ _ hn
        simp only [List.length_drop] at this
        split
        · rename_i hl; simp [Cut.bad, hl] at h
        · simp only; omega
    · rename_i hq
      rw [if_neg hq] at h
      split
      · rename_i hv
        rw [if_pos hv] at h
        have h2 := takeWhile_le letterB (zs.drop 1)
        rw [List.length_drop] at h2
        unfold cutVar at h ⊢
        split
        · rename_i hn; rw [if_pos hn] at h; simp [Cut.bad] at h
        · rename_i hn
          rw [if_neg hn] at h
          split
          · rename_i hl; rw [if_pos hl] at h; simp [Cut.bad] at h
          · simp only; omega
      · rename_i hv
        rw [if_neg hv] at h
        have h2 := takeWhile_le letterB zs
        split
        · rename_i hg
          rw [if_pos hg] at h
          have h1 := head_takeWhile h0 (letter_great hg)
          unfold cutCon at h ⊢
          split
          · rename_i hl; rw [if_pos hl] at h; simp [Cut.bad] at h
          · exact ⟨h1, h2⟩
        · rename_i hg
          rw [if_neg hg] at h
          split
          · rename_i hb
            rw [if_pos hb] at h
            have h1 := head_takeWhile h0 (letter_begins hb)
            unfold cutName at h ⊢
            split
            · rename_i hl; rw [if_pos hl] at h; exact cutSign_size h
            · rename_i hl
              rw [if_neg hl] at h
              split
              · exact ⟨h1, h2⟩
              · rename_i hk
                rw [if_neg hk] at h
                split
                · rename_i hl; rw [if_pos hl] at h; simp [Cut.bad] at h
                · exact ⟨h1, h2⟩
          · rename_i hb
            rw [if_neg hb] at h
            exact cutSign_size h

theorem lexGo_fuel : ∀ (f g : Nat) (l : List Int) (a : Int), l.length ≤ f → l.length ≤ g → lexGo f l a = lexGo g l a
  | 0, 0, _, _, _, _ => rfl
  | 0, g + 1, l, a, hf, _ => by
    have : l = [] := List.eq_nil_of_length_eq_zero (by omega)
    subst this; rfl
  | f + 1, 0, l, a, _, hg => by
    have : l = [] := List.eq_nil_of_length_eq_zero (by omega)
    subst this; rfl
  | f + 1, g + 1, [], a, _, _ => rfl
  | f + 1, g + 1, c :: t, a, hf, hg => by
    simp only [List.length_cons] at hf hg
    simp only [lexGo]
    split
    · exact lexGo_fuel f g t _ (by omega) (by omega)
    · split
      · cases hn : noteGo 0 0 (c :: t) with
        | none => rfl
        | some k =>
          have := noteGo_size _ _ _ _ hn
          simp only
          exact lexGo_fuel f g _ _ (by simp; omega) (by simp; omega)
      · split
        · rfl
        · rename_i he
          have := cutOne_size (zs := c :: t) (by simp) (by simpa using he)
          rw [lexGo_fuel f g _ _ (by simp only [List.length_drop, List.length_cons]; omega) (by simp only [List.length_drop, List.length_cons]; omega)]
theorem lexA_nil (a : Int) : lexA [] a = .ok [] := rfl
theorem lexA_blank {c : Int} (t : List Int) (a : Int) (h : blankB c = true) : lexA (c :: t) a = lexA t (a + 1) := by
  show lexGo (t.length + 1) _ _ = _
  simp only [lexGo, if_pos h]; rfl
theorem lexA_note_bad {c : Int} {t : List Int} (a : Int) (h : blankB c = false) (hn : noteB (c :: t) = true) (hb : noteGo 0 0 (c :: t) = none) : lexA (c :: t) a = .bad 253 a := by
  show lexGo (t.length + 1) _ _ = _
  simp [lexGo, h, hn, hb]
theorem lexA_note {c : Int} {t : List Int} (a : Int) {k : Nat} (h : blankB c = false) (hn : noteB (c :: t) = true) (hb : noteGo 0 0 (c :: t) = some k) : lexA (c :: t) a = lexA ((c :: t).drop k) (a + k) := by
  show lexGo (t.length + 1) _ _ = _
  have := noteGo_size _ _ _ _ hb
  simp only [lexGo, h, hn, hb, if_true, Bool.false_eq_true, if_false]
  exact lexGo_fuel _ _ _ _ (by simp; omega) (Nat.le_refl _)
theorem lexA_bad {c : Int} {t : List Int} (a : Int) (h : blankB c = false) (hn : noteB (c :: t) = false) (he : (cutOne (c :: t)).e ≠ 0) : lexA (c :: t) a = .bad (cutOne (c :: t)).e a := by
  show lexGo (t.length + 1) _ _ = _
  simp only [lexGo, h, hn, Bool.false_eq_true, if_false, if_pos he]
theorem lexA_word {c : Int} {t : List Int} (a : Int) (h : blankB c = false) (hn : noteB (c :: t) = false) (he : (cutOne (c :: t)).e = 0) :
    lexA (c :: t) a = (lexA ((c :: t).drop (cutOne (c :: t)).size) (a + (cutOne (c :: t)).size)).cons ⟨(cutOne (c :: t)).k, (cutOne (c :: t)).n, a, (cutOne (c :: t)).s⟩ := by
  show lexGo (t.length + 1) _ _ = _
  have := cutOne_size (zs := c :: t) (by simp) he
  simp only [lexGo, h, hn, Bool.false_eq_true, if_false, if_neg (show ¬ (cutOne (c :: t)).e ≠ 0 by simp [he])]
  rw [lexA, lexGo_fuel _ _ _ _ (by simp only [List.length_drop, List.length_cons] at *; omega) (Nat.le_refl _)]

/-- Is such a word one that a text may have? -/
def nameB (b : Int → Bool) (s : List Int) : Bool := decide (s.length ≠ 0) && decide (s.length ≤ 64) && b (s.getD 0 0) && decide (s.takeWhile letterB = s)
def mayB (w : Wd) : Bool :=
  if w.k = 1 then decide (w.s.length = 0) && decide (-1073741824 ≤ w.n) && decide (w.n ≤ 1073741823)
  else if w.n ≠ 0 then false
  else if w.k = 2 then decide (w.s.length ≤ 4096)
  else if w.k = 3 then decide (w.s ≠ [95]) && !keysL.contains w.s && nameB beginsB w.s
  else if w.k = 4 then nameB greatB w.s
  else if w.k = 5 then nameB smallB w.s
  else if w.k = 6 then keysL.contains w.s
  else if w.k = 7 then signsL.contains w.s
  else false
/-- A byte of a text as it is written. -/
def quoteB (c : Int) : List Int :=
  if c < 32 ∨ c ≥ 127 then [92, 48 + c / 100, 48 + c / 10 % 10, 48 + c % 10] else if c = 34 ∨ c = 92 then [92, c] else [c]
def quoted (s : List Int) : List Int := 34 :: (s.map quoteB).flatten ++ [34]
/-- A number's digits. -/
def decGo : Nat → Nat → List Int
  | 0, _ => []
  | f + 1, n => if n < 10 then [48 + (n : Int)] else decGo f (n / 10) ++ [48 + ((n % 10 : Nat) : Int)]
def decL (n : Int) : List Int := decGo 20 n.toNat
def written (w : Wd) : List Int :=
  if w.k = 1 then decL (if w.n < 0 then w.n + 2147483648 else w.n) else if w.k = 2 then quoted w.s else if w.k = 5 then 39 :: w.s else w.s
/-- Words with blanks between. -/
def joined : List Wd → List Int
  | [] => []
  | [w] => written w
  | w :: v :: t => written w ++ 32 :: joined (v :: t)
def writeP (l : List Wd) : Option (List Int) := if l.all mayB then some (joined l) else none
end Go.Proofs.YtojgibigmoaejaaDoor.Lex
