import Derived.Test.YtepbjkkakfpjgaaGreatDoorBun01
import Derived.BigQuiet
import Derived.Deep.QuietTactic
import Derived.Deep.RegionHeld3
/-
  BODY: instructions as bytes, as plain functions: what is put; what is got, list by list. It imports nothing of any translation.
-/
namespace Go.Proofs.YtepbjkkakfpjgaaGreatDoor.Instr

/-- Whatever lists and labels lie elsewhere, it is this instruction. -/
def Ix.bare (x : Ix) : Ix := ⟨x.op, x.res, x.a, x.b, x.n, x.tags, none, 0, none, x.ln, 0, none, x.en, 0⟩
def Il.bare : Il → Il
  | .nil => .nil
  | .cons x l e r => .cons x.bare l.bare e.bare r.bare
def Il.app : Il → Il → Il
  | .nil, t => t
  | .cons x l e r, t => .cons x l e (r.app t)
/-- The lists of each have as many as it says. -/
def Il.fit : Il → Prop
  | .nil => True
  | .cons x l e r => l.len = x.ln ∧ e.len = x.en ∧ l.fit ∧ e.fit ∧ r.fit
/-- The numbers of each are words. -/
def Il.nums : Il → Prop
  | .nil => True
  | .cons x l e r => (0 ≤ x.a ∧ x.a < 4294967296) ∧ (0 ≤ x.b ∧ x.b < 4294967296) ∧ (-2147483648 ≤ x.n ∧ x.n < 2147483648) ∧ (∀ z ∈ x.tags, 0 ≤ z ∧ z < 4294967296) ∧ l.nums ∧ e.nums ∧ r.nums
theorem app_nil : ∀ t : Il, t.app .nil = t
  | .nil => rfl
  | .cons x l e r => by rw [Il.app, app_nil r]
theorem app_assoc : ∀ t u v : Il, (t.app u).app v = t.app (u.app v)
  | .nil, _, _ => rfl
  | .cons x l e r, u, v => by simp only [Il.app, app_assoc r]
theorem app_len : ∀ t u : Il, (t.app u).len = t.len + u.len
  | .nil, u => by simp [Il.app, Il.len]
  | .cons x l e r, u => by simp only [Il.app, Il.len, app_len r]; omega
theorem bare_app : ∀ t u : Il, (t.app u).bare = t.bare.app u.bare
  | .nil, _ => rfl
  | .cons x l e r, u => by simp only [Il.app, Il.bare, bare_app r]
theorem bare_len : ∀ t : Il, t.bare.len = t.len
  | .nil => rfl
  | .cons x l e r => by simp only [Il.bare, Il.len, bare_len r]
theorem bare_count : ∀ t : Il, t.bare.count = t.count
  | .nil => rfl
  | .cons x l e r => by simp only [Il.bare, Il.count, bare_count l, bare_count e, bare_count r]
theorem bare_deep : ∀ t : Il, t.bare.deep = t.deep
  | .nil => rfl
  | .cons x l e r => by simp only [Il.bare, Il.deep, bare_deep l, bare_deep e, bare_deep r]
theorem bare_tags : ∀ t : Il, t.bare.tags = t.tags
  | .nil => rfl
  | .cons x l e r => by simp only [Il.bare, Il.tags, bare_tags l, bare_tags e, bare_tags r]; rfl
theorem bare_all : ∀ t : Il, t.bare.all = t.all
  | .nil => rfl
  | .cons x l e r => by simp only [Il.bare, Il.all, bare_all l, bare_all e, bare_all r]; rfl
theorem bare_check (t : Il) : checkP t.bare = checkP t := by unfold checkP; rw [bare_all, bare_count, bare_deep, bare_tags]
theorem bare_bare : ∀ t : Il, t.bare.bare = t.bare
  | .nil => rfl
  | .cons x l e r => by simp only [Il.bare, bare_bare l, bare_bare e, bare_bare r]; rfl
end Go.Proofs.YtepbjkkakfpjgaaGreatDoor.Instr
namespace Go.Proofs.YtepbjkkakfpjgaaGreatDoor.Body
open Go.Proofs.YtepbjkkakfpjgaaGreatDoor.Leb Go.Proofs.YtepbjkkakfpjgaaGreatDoor.Kind Go.Proofs.YtepbjkkakfpjgaaGreatDoor.Instr

/-- What follows an operation: 1: a byte and lists; 2: A; 3: A and a byte 0; 4: labels and A; 5: A and B; 6: a byte 0; 7: N; 0: nothing. -/
def kindP (op : Int) : Nat :=
  if op = 2 ∨ op = 3 ∨ op = 4 then 1
  else if op = 12 ∨ op = 13 ∨ op = 16 ∨ op = 32 ∨ op = 33 ∨ op = 34 ∨ op = 35 ∨ op = 36 then 2
  else if op = 17 then 3
  else if op = 14 then 4
  else if op = 40 ∨ op = 44 ∨ op = 45 ∨ op = 46 ∨ op = 47 ∨ op = 54 ∨ op = 58 ∨ op = 59 then 5
  else if op = 63 ∨ op = 64 then 6
  else if op = 65 then 7 else 0
def encTags (l : List Int) : List Int := encU l.length ++ l.flatMap encU
/-- The bytes of what follows, but for the lists. -/
def encRest (x : Ix) : List Int :=
  match kindP x.op with
  | 1 => [if x.res = 0 then 64 else 127]
  | 2 => encU x.a
  | 3 => encU x.a ++ [0]
  | 4 => encTags x.tags ++ encU x.a
  | 5 => encU x.a ++ encU x.b
  | 6 => [0]
  | 7 => encS x.n
  | _ => []
/-- The bytes of instructions, without their end. -/
def encL : Il → List Int
  | .nil => []
  | .cons x l e r => x.op :: (encRest x ++ ((if kindP x.op = 1 then encL l ++ ((if x.en = 0 then [] else 5 :: encL e) ++ [11]) else []) ++ encL r))
def encP (t : Il) : List Int := encL t ++ [11]
def locL (n : Int) : List Int := if n = 0 then [0] else 1 :: (encU n ++ [127])
def codeL (n : Int) (t : Il) : List Int := locL n ++ encP t

/-- A byte. -/
def byteR (zs : List Int) (s : Rd) : Int × Rd :=
  if s.2.1 = 0 then (if s.1 = zs.length then (0, s.1, 4, s.1) else (zs.getD s.1.toNat 0, s.1 + 1, 0, 0)) else (0, s)
/-- A byte that must be one of those that are allowed. -/
def tagR (zs : List Int) (ok : Int → Bool) (s : Rd) : Int × Rd := ((byteR zs s).1, if ok (byteR zs s).1 then (byteR zs s).2 else refuseR (byteR zs s).2 140 s.1)
def sgnR (zs : List Int) (s : Rd) : Int × Rd :=
  if s.2.1 = 0 then
    if (getL true zs s.1).2.2.1 = 0 then ((getL true zs s.1).1, (getL true zs s.1).2.1, 0, 0) else (0, s.1, (getL true zs s.1).2.2.1, (getL true zs s.1).2.2.2)
  else (0, s)
def isRes (c : Int) : Bool := decide (c = 64) || decide (c = 127)
def isNone (c : Int) : Bool := decide (c = 0)
/-- So many labels, up to the first fault. -/
def tagsR (zs : List Int) : Nat → Rd → List Int × Rd
  | 0, s => ([], s)
  | k + 1, s => if s.2.1 = 0 then ((numR zs s).1 :: (tagsR zs k (numR zs s).2).1, (tagsR zs k (numR zs s).2).2) else ([], s)
def labelsR (zs : List Int) (s : Rd) : List Int × Rd :=
  tagsR zs (numR zs s).1.toNat (if 16384 < (numR zs s).1 then refuseR (numR zs s).2 141 s.1 else (numR zs s).2)
/-- An instruction without its lists, and the state behind it. -/
structure Fx where
  x : Ix
  s : Rd
def plainX (op res a b n : Int) (tags : List Int) : Ix := ⟨op, res, a, b, n, tags, none, 0, none, 0, 0, none, 0, 0⟩
def restR (zs : List Int) (op : Int) (s : Rd) : Fx :=
  match kindP op with
  | 1 => ⟨plainX op (if (tagR zs isRes s).1 = 127 then 1 else 0) 0 0 0 [], (tagR zs isRes s).2⟩
  | 2 => ⟨plainX op 0 (numR zs s).1 0 0 [], (numR zs s).2⟩
  | 3 => ⟨plainX op 0 (numR zs s).1 0 0 [], (tagR zs isNone (numR zs s).2).2⟩
  | 4 => ⟨plainX op 0 (numR zs (labelsR zs s).2).1 0 0 (labelsR zs s).1, (numR zs (labelsR zs s).2).2⟩
  | 5 => ⟨plainX op 0 (numR zs s).1 (numR zs (numR zs s).2).1 0 [], (numR zs (numR zs s).2).2⟩
  | 6 => ⟨plainX op 0 0 0 0 [], (tagR zs isNone s).2⟩
  | 7 => ⟨plainX op 0 0 0 (sgnR zs s).1 [], (sgnR zs s).2⟩
  | _ => ⟨plainX op 0 0 0 0 [], s⟩
/-- The byte that begins an instruction or ends a list. -/
def opR (zs : List Int) (oth : Bool) (deep : Nat) (cnt : Int) (s : Rd) : Int × Rd :=
  ((byteR zs s).1, if (byteR zs s).1 = 11 ∨ ((byteR zs s).1 = 5 ∧ oth = true) then (byteR zs s).2
    else if nameL (byteR zs s).1 = [] then refuseR (byteR zs s).2 160 s.1
    else if 900 < deep ∨ 262144 ≤ cnt then refuseR (byteR zs s).2 141 s.1 else (byteR zs s).2)

/-- What reading a list gives: instructions, what ended them, how many there have been, the state. -/
structure Lr where
  t : Il
  q : Int
  n : Int
  s : Rd
/-- One with its lists, read by 'rec'. -/
structure Or where
  x : Ix
  l : Il
  e : Il
  n : Int
  s : Rd
def Ix.hold (x : Ix) (l e : Il) : Ix := ⟨x.op, x.res, x.a, x.b, x.n, x.tags, none, 0, none, l.len, 0, none, e.len, 0⟩
def oneG (zs : List Int) (rec : Nat → Bool → Int → Rd → Lr) (op : Int) (deep : Nat) (cnt : Int) (s : Rd) : Or :=
  if kindP op = 1 ∧ (restR zs op s).s.2.1 = 0 then
    if (rec (deep + 1) (decide (op = 4)) cnt (restR zs op s).s).s.2.1 = 0 ∧ (rec (deep + 1) (decide (op = 4)) cnt (restR zs op s).s).q = 5 then
      let l := rec (deep + 1) (decide (op = 4)) cnt (restR zs op s).s
      let e := rec (deep + 1) false l.n l.s
      ⟨Ix.hold (restR zs op s).x l.t e.t, l.t, e.t, e.n, e.s⟩
    else
      let l := rec (deep + 1) (decide (op = 4)) cnt (restR zs op s).s
      ⟨Ix.hold (restR zs op s).x l.t .nil, l.t, .nil, l.n, l.s⟩
  else ⟨(restR zs op s).x, .nil, .nil, cnt, (restR zs op s).s⟩
def stepG (zs : List Int) (rec : Nat → Bool → Int → Rd → Lr) (deep : Nat) (oth : Bool) (cnt : Int) (s : Rd) : Lr :=
  if (opR zs oth deep cnt s).2.2.1 ≠ 0 then ⟨.nil, 11, cnt, (opR zs oth deep cnt s).2⟩
  else if (opR zs oth deep cnt s).1 = 11 ∨ (opR zs oth deep cnt s).1 = 5 then ⟨.nil, (opR zs oth deep cnt s).1, cnt, (opR zs oth deep cnt s).2⟩
  else
    let o := oneG zs rec (opR zs oth deep cnt s).1 deep (cnt + 1) (opR zs oth deep cnt s).2
    let r := rec deep oth o.n o.s
    ⟨.cons o.x o.l o.e r.t, r.q, r.n, r.s⟩
def listG (zs : List Int) : Nat → Nat → Bool → Int → Rd → Lr
  | 0 => fun _ _ cnt s => ⟨.nil, 11, cnt, s⟩
  | m + 1 => stepG zs (listG zs m)
/-- How far the reader may still go. -/
def rem (zs : List Int) (s : Rd) : Nat := if s.2.1 = 0 then (zs.length - s.1).toNat + 1 else 0

theorem byteR_bad {zs : List Int} {s : Rd} (h : s.2.1 ≠ 0) : byteR zs s = (0, s) := by unfold byteR; rw [if_neg h]
theorem refuseR_bad {s : Rd} {e f : Int} (h : s.2.1 ≠ 0) : refuseR s e f = s := by unfold refuseR; rw [if_neg h]
theorem refuse_is_bad {s : Rd} {e f : Int} (he : e ≠ 0) : (refuseR s e f).2.1 ≠ 0 := by
  unfold refuseR; split
  · exact he
  · assumption
theorem byteR_good {zs : List Int} {s : Rd} (h : Kind.Good zs s) : Kind.Good zs (byteR zs s).2 := by
  unfold byteR
  by_cases h0 : s.2.1 = 0
  · obtain ⟨h1, h2, h3⟩ := h h0
    rw [if_pos h0]
    split
    · intro h; simp at h
    · intro _; simp; omega
  · rw [if_neg h0]; exact h
theorem byteR_rem {zs : List Int} {s : Rd} (h : Kind.Good zs s) (h0 : (byteR zs s).2.2.1 = 0) : s.2.1 = 0 ∧ (byteR zs s).2.1 = s.1 + 1 ∧ s.1 < zs.length := by
  unfold byteR at h0 ⊢
  by_cases h1 : s.2.1 = 0
  · obtain ⟨g1, g2, g3⟩ := h h1
    rw [if_pos h1] at h0 ⊢
    split at h0
    · simp at h0
    · rename_i hn
      rw [if_neg hn]
      exact ⟨h1, rfl, by omega⟩
  · rw [if_neg h1] at h0; exact absurd h0 h1
theorem tagR_good {zs : List Int} {ok : Int → Bool} {s : Rd} (h : Kind.Good zs s) : Kind.Good zs (tagR zs ok s).2 := by
  unfold tagR
  dsimp only
  split
  · exact byteR_good h
  · exact refuseR_good (by decide) (byteR_good h)
theorem sgnR_good {zs : List Int} {s : Rd} (h : Kind.Good zs s) : Kind.Good zs (sgnR zs s).2 := by
  unfold sgnR
  by_cases h0 : s.2.1 = 0
  · rw [if_pos h0]
    split
    · rename_i he
      have := getL_next (x := (getL true zs s.1).1) (q := (getL true zs s.1).2.1) (e := (getL true zs s.1).2.2.1) (f := (getL true zs s.1).2.2.2) rfl he
      exact fun _ => ⟨show 0 ≤ (getL true zs s.1).2.1 by omega, show (getL true zs s.1).2.1 ≤ _ by omega, rfl⟩
    · rename_i he
      intro h; exact absurd h he
  · rw [if_neg h0]; exact h
theorem tagsR_good {zs : List Int} : ∀ (k : Nat) {s : Rd}, Kind.Good zs s → Kind.Good zs (tagsR zs k s).2
  | 0, _, h => h
  | k + 1, s, h => by
    unfold tagsR
    split
    · exact tagsR_good k (numR_good h)
    · exact h
theorem labelsR_good {zs : List Int} {s : Rd} (h : Kind.Good zs s) : Kind.Good zs (labelsR zs s).2 := by
  unfold labelsR
  split
  · exact tagsR_good _ (refuseR_good (by decide) (numR_good h))
  · exact tagsR_good _ (numR_good h)
theorem restR_good {zs : List Int} {op : Int} {s : Rd} (h : Kind.Good zs s) : Kind.Good zs (restR zs op s).s := by
  unfold restR
  split
  · exact tagR_good h
  · exact numR_good h
  · exact tagR_good (numR_good h)
  · exact numR_good (labelsR_good h)
  · exact numR_good (numR_good h)
  · exact tagR_good h
  · exact sgnR_good h
  · exact h
theorem opR_good {zs : List Int} {oth : Bool} {deep : Nat} {cnt : Int} {s : Rd} (h : Kind.Good zs s) : Kind.Good zs (opR zs oth deep cnt s).2 := by
  unfold opR
  dsimp only
  (repeat' split)
  · exact byteR_good h
  · exact refuseR_good (by decide) (byteR_good h)
  · exact refuseR_good (by decide) (byteR_good h)
  · exact byteR_good h

/-- What a reader does never goes back. -/
def On (s s' : Rd) : Prop := s'.2.1 = 0 → s.2.1 = 0 ∧ s.1 ≤ s'.1
theorem On.refl (s : Rd) : On s s := fun h => ⟨h, Int.le_refl _⟩
theorem On.trans {a b c : Rd} (h : On a b) (g : On b c) : On a c := fun hc => ⟨(h (g hc).1).1, Int.le_trans (h (g hc).1).2 (g hc).2⟩
theorem On.rem (zs : List Int) {a b : Rd} (h : On a b) : rem zs b ≤ rem zs a := by
  unfold Body.rem
  by_cases hb : b.2.1 = 0
  · obtain ⟨h1, h2⟩ := h hb
    rw [if_pos hb, if_pos h1]; omega
  · rw [if_neg hb]; omega
theorem refuse_on {s s' : Rd} {e f : Int} (he : e ≠ 0) : On s (refuseR s' e f) := fun h => absurd h (refuse_is_bad he)
theorem byteR_on {zs : List Int} {s : Rd} (h : Kind.Good zs s) : On s (byteR zs s).2 := fun h0 => by have := byteR_rem h h0; omega
theorem tagR_on {zs : List Int} {ok : Int → Bool} {s : Rd} (h : Kind.Good zs s) : On s (tagR zs ok s).2 := by
  unfold tagR
  dsimp only
  split
  · exact byteR_on h
  · exact refuse_on (by decide)
theorem numR_on {zs : List Int} {s : Rd} : On s (numR zs s).2 := by
  unfold numR
  by_cases h0 : s.2.1 = 0
  · rw [if_pos h0]
    split
    · rename_i he
      have := getL_next (x := (getL false zs s.1).1) (q := (getL false zs s.1).2.1) (e := (getL false zs s.1).2.2.1) (f := (getL false zs s.1).2.2.2) rfl he
      exact fun _ => ⟨h0, show s.1 ≤ (getL false zs s.1).2.1 by omega⟩
    · rename_i he
      intro h; exact absurd h he
  · rw [if_neg h0]; exact On.refl _
theorem sgnR_on {zs : List Int} {s : Rd} : On s (sgnR zs s).2 := by
  unfold sgnR
  by_cases h0 : s.2.1 = 0
  · rw [if_pos h0]
    split
    · rename_i he
      have := getL_next (x := (getL true zs s.1).1) (q := (getL true zs s.1).2.1) (e := (getL true zs s.1).2.2.1) (f := (getL true zs s.1).2.2.2) rfl he
      exact fun _ => ⟨h0, show s.1 ≤ (getL true zs s.1).2.1 by omega⟩
    · rename_i he
      intro h; exact absurd h he
  · rw [if_neg h0]; exact On.refl _
theorem tagsR_on {zs : List Int} : ∀ (k : Nat) (s : Rd), On s (tagsR zs k s).2
  | 0, s => On.refl _
  | k + 1, s => by
    unfold tagsR
    split
    · exact numR_on.trans (tagsR_on k _)
    · exact On.refl _
theorem labelsR_on {zs : List Int} {s : Rd} : On s (labelsR zs s).2 := by
  unfold labelsR
  split
  · exact (refuse_on (by decide)).trans (tagsR_on _ _)
  · exact numR_on.trans (tagsR_on _ _)
theorem restR_on {zs : List Int} {op : Int} {s : Rd} (h : Kind.Good zs s) : On s (restR zs op s).s := by
  unfold restR
  split
  · exact tagR_on h
  · exact numR_on
  · exact numR_on.trans (tagR_on (numR_good h))
  · exact labelsR_on.trans numR_on
  · exact numR_on.trans numR_on
  · exact tagR_on h
  · exact sgnR_on
  · exact On.refl _
/-- An operation that is there takes a byte. -/
theorem opR_rem {zs : List Int} {oth : Bool} {deep : Nat} {cnt : Int} {s : Rd} (h : Kind.Good zs s) (h0 : (opR zs oth deep cnt s).2.2.1 = 0) :
    s.2.1 = 0 ∧ (opR zs oth deep cnt s).2 = (byteR zs s).2 ∧ (byteR zs s).2.2.1 = 0 ∧ (opR zs oth deep cnt s).2.1 = s.1 + 1 ∧ s.1 < zs.length := by
  have key : (opR zs oth deep cnt s).2 = (byteR zs s).2 ∧ (byteR zs s).2.2.1 = 0 := by
    unfold opR at h0 ⊢
    dsimp only at h0 ⊢
    (repeat' split at h0)
    · rename_i hc; rw [if_pos hc]; exact ⟨rfl, h0⟩
    · exact absurd h0 (refuse_is_bad (by decide))
    · exact absurd h0 (refuse_is_bad (by decide))
    · rename_i h1 h2 h3; rw [if_neg h1, if_neg h2, if_neg h3]; exact ⟨rfl, h0⟩
  have := byteR_rem h key.2
  exact ⟨this.1, key.1, key.2, by rw [key.1]; exact this.2.1, this.2.2⟩
theorem opR_on {zs : List Int} {oth : Bool} {deep : Nat} {cnt : Int} {s : Rd} (h : Kind.Good zs s) : On s (opR zs oth deep cnt s).2 := fun h0 => by have := opR_rem h h0; omega
theorem opR_less {zs : List Int} {oth : Bool} {deep : Nat} {cnt : Int} {s : Rd} (h : Kind.Good zs s) (h0 : (opR zs oth deep cnt s).2.2.1 = 0) : rem zs (opR zs oth deep cnt s).2 < rem zs s := by
  have := opR_rem h h0
  unfold rem
  rw [if_pos h0, if_pos this.1]
  omega

/-- What reads goes on, and stays where one may stand. -/
def Fine (zs : List Int) (rec : Nat → Bool → Int → Rd → Lr) : Prop := ∀ d o c s, Kind.Good zs s → Kind.Good zs (rec d o c s).s ∧ On s (rec d o c s).s
theorem oneG_fine {zs : List Int} {rec : Nat → Bool → Int → Rd → Lr} (hr : Fine zs rec) (op : Int) (deep : Nat) (cnt : Int) (s : Rd) (h : Kind.Good zs s) : Kind.Good zs (oneG zs rec op deep cnt s).s ∧ On s (oneG zs rec op deep cnt s).s := by
  have h1 := restR_good (op := op) h
  have h2 := restR_on (op := op) h
  unfold oneG
  split
  · have a := hr (deep + 1) (decide (op = 4)) cnt _ h1
    split
    · have b := hr (deep + 1) false (rec (deep + 1) (decide (op = 4)) cnt (restR zs op s).s).n _ a.1
      exact ⟨b.1, (h2.trans a.2).trans b.2⟩
    · exact ⟨a.1, h2.trans a.2⟩
  · exact ⟨h1, h2⟩
theorem stepG_fine {zs : List Int} {rec : Nat → Bool → Int → Rd → Lr} (hr : Fine zs rec) : Fine zs (stepG zs rec) := by
  intro d o c s h
  have h1 := opR_good (oth := o) (deep := d) (cnt := c) h
  have h2 := opR_on (oth := o) (deep := d) (cnt := c) h
  unfold stepG
  split
  · exact ⟨h1, h2⟩
  · split
    · exact ⟨h1, h2⟩
    · have a := oneG_fine hr (opR zs o d c s).1 d (c + 1) _ h1
      have b := hr d o (oneG zs rec (opR zs o d c s).1 d (c + 1) (opR zs o d c s).2).n _ a.1
      exact ⟨b.1, (h2.trans a.2).trans b.2⟩
theorem listG_fine (zs : List Int) : ∀ m, Fine zs (listG zs m)
  | 0 => fun _ _ _ _ h => ⟨h, On.refl _⟩
  | m + 1 => stepG_fine (listG_fine zs m)

/-- As long as there is enough to go on with, it does not matter how much. -/
theorem oneG_same {zs : List Int} {rec rec' : Nat → Bool → Int → Rd → Lr} (hf : Fine zs rec) (op : Int) (deep : Nat) (cnt : Int) (s : Rd) (h : Kind.Good zs s) (k : Nat) (hk : rem zs s ≤ k)
    (hs : ∀ d o c s, Kind.Good zs s → rem zs s ≤ k → rec d o c s = rec' d o c s) : oneG zs rec op deep cnt s = oneG zs rec' op deep cnt s := by
  have h1 := restR_good (op := op) h
  have h2 := (restR_on (op := op) h).rem zs
  have e1 := hs (deep + 1) (decide (op = 4)) cnt _ h1 (by omega)
  have a := hf (deep + 1) (decide (op = 4)) cnt _ h1
  have e2 := hs (deep + 1) false (rec (deep + 1) (decide (op = 4)) cnt (restR zs op s).s).n _ a.1 (by have := a.2.rem zs; omega)
  unfold oneG
  dsimp only
  rw [← e1, e2]
theorem stepG_same {zs : List Int} {rec rec' : Nat → Bool → Int → Rd → Lr} (hf : Fine zs rec) (k : Nat) (hs : ∀ d o c s, Kind.Good zs s → rem zs s ≤ k → rec d o c s = rec' d o c s)
    (deep : Nat) (oth : Bool) (cnt : Int) (s : Rd) (h : Kind.Good zs s) (hk : rem zs s ≤ k + 1) : stepG zs rec deep oth cnt s = stepG zs rec' deep oth cnt s := by
  unfold stepG
  dsimp only
  split
  · rfl
  · rename_i h0
    have h0' : (opR zs oth deep cnt s).2.2.1 = 0 := by simpa using h0
    have hl := opR_less h h0'
    have h1 := opR_good (oth := oth) (deep := deep) (cnt := cnt) h
    split
    · rfl
    · rw [← oneG_same hf (opR zs oth deep cnt s).1 deep (cnt + 1) _ h1 k (by omega) hs]
      have a := oneG_fine hf (opR zs oth deep cnt s).1 deep (cnt + 1) _ h1
      rw [hs _ _ _ _ a.1 (by have := a.2.rem zs; omega)]
theorem listG_same (zs : List Int) : ∀ (k m m' : Nat), k < m → k < m' → ∀ d o c s, Kind.Good zs s → rem zs s ≤ k → listG zs m d o c s = listG zs m' d o c s
  | 0, m + 1, m' + 1, _, _, d, o, c, s, h, hk => by
    unfold listG
    unfold stepG
    have : (opR zs o d c s).2.2.1 ≠ 0 := fun h0 => by have := opR_less h h0; omega
    rw [if_pos this, if_pos this]
  | k + 1, m + 1, m' + 1, h1, h2, d, o, c, s, h, hk => by
    unfold listG
    exact stepG_same (listG_fine zs m) k (fun d o c s h hk => listG_same zs k m m' (by omega) (by omega) d o c s h hk) d o c s h hk
/-- A list from here on. -/
def listF (zs : List Int) (deep : Nat) (oth : Bool) (cnt : Int) (s : Rd) : Lr := listG zs (zs.length + 3) deep oth cnt s
theorem rem_le {zs : List Int} {s : Rd} (h : Kind.Good zs s) : rem zs s ≤ zs.length + 1 := by
  unfold rem; split
  · rename_i h0; have := h h0; omega
  · omega
theorem listF_fine (zs : List Int) : Fine zs (listF zs) := listG_fine zs _
theorem listF_eq (zs : List Int) (d : Nat) (o : Bool) (c : Int) (s : Rd) (h : Kind.Good zs s) : listF zs d o c s = stepG zs (listF zs) d o c s := by
  unfold listF
  have hr := rem_le h
  rw [listG]
  exact stepG_same (listG_fine zs _) (zs.length + 1) (fun d o c s h hk => listG_same zs (zs.length + 1) (zs.length + 2) (zs.length + 3) (by omega) (by omega) d o c s h hk) d o c s h (by omega)
theorem listG_eq (zs : List Int) (m d : Nat) (o : Bool) (c : Int) (s : Rd) (h : Kind.Good zs s) (hm : rem zs s < m) : listG zs m d o c s = listF zs d o c s := by
  unfold listF
  have hr := rem_le h
  exact listG_same zs (rem zs s) _ _ hm (by omega) d o c s h (Nat.le_refl _)
end Go.Proofs.YtepbjkkakfpjgaaGreatDoor.Body

/-
  BODY: reading by a stack of open lists, as a plain function; it gives what reading list by list gives.
-/
namespace Go.Proofs.YtepbjkkakfpjgaaGreatDoor.Body
open Go.Proofs.YtepbjkkakfpjgaaGreatDoor.Leb Go.Proofs.YtepbjkkakfpjgaaGreatDoor.Kind Go.Proofs.YtepbjkkakfpjgaaGreatDoor.Instr

/-- A list whose end has not been read: its owner, the owner's first list if this is its second, what has been read of it. -/
structure Fr where
  x : Ix
  fl : Il
  t : Il
  oth : Bool
def Fr.div (f : Fr) : Bool := decide (f.x.op = 4) && !f.oth
/-- The owner, all of which has been read. -/
def Fr.one (f : Fr) : Il := if f.oth then .cons (Ix.hold f.x f.fl f.t) f.fl f.t .nil else .cons (Ix.hold f.x f.t .nil) f.t .nil .nil
def mach (zs : List Int) : Nat → Fr → List Fr → Int → Rd → Il × Rd
  | 0, _, _, _, s => (.nil, s)
  | k + 1, f, fs, cnt, s =>
    let o := opR zs f.div (fs.length + 1) cnt s
    if o.2.2.1 ≠ 0 then (.nil, o.2)
    else if o.1 = 5 then mach zs k ⟨f.x, f.t, .nil, true⟩ fs cnt o.2
    else if o.1 = 11 then
      match fs with
      | [] => (f.t, o.2)
      | g :: gs => mach zs k ⟨g.x, g.fl, g.t.app f.one, g.oth⟩ gs cnt o.2
    else if kindP o.1 = 1 then mach zs k ⟨(restR zs o.1 o.2).x, .nil, .nil, false⟩ (f :: fs) (cnt + 1) (restR zs o.1 o.2).s
    else mach zs k ⟨f.x, f.fl, f.t.app (.cons (restR zs o.1 o.2).x .nil .nil .nil), f.oth⟩ fs (cnt + 1) (restR zs o.1 o.2).s

theorem opR_bad {zs : List Int} {oth : Bool} {deep : Nat} {cnt : Int} {s : Rd} (h : s.2.1 ≠ 0) : (opR zs oth deep cnt s).2 = s := by
  unfold opR
  rw [byteR_bad h]
  dsimp only
  (repeat' split) <;> first | rfl | exact refuseR_bad h
theorem listF_bad {zs : List Int} {d : Nat} {o : Bool} {c : Int} {s : Rd} (h : s.2.1 ≠ 0) : listF zs d o c s = ⟨.nil, 11, c, s⟩ := by
  unfold listF
  rw [show zs.length + 3 = (zs.length + 2) + 1 by omega, listG]
  unfold stepG
  rw [opR_bad h, if_pos h]
theorem mach_bad {zs : List Int} {k : Nat} {f : Fr} {fs : List Fr} {cnt : Int} {s : Rd} (h : s.2.1 ≠ 0) : mach zs k f fs cnt s = (.nil, s) := by
  cases k with
  | zero => rfl
  | succ k =>
    unfold mach
    dsimp only
    rw [opR_bad h, if_pos h]
theorem opR_five {zs : List Int} {oth : Bool} {deep : Nat} {cnt : Int} {s : Rd} (h0 : (opR zs oth deep cnt s).2.2.1 = 0) (h : (opR zs oth deep cnt s).1 = 5) : oth = true := by
  unfold opR at h0 h
  dsimp only at h0 h
  rw [h] at h0
  by_cases hc : (5 : Int) = 11 ∨ ((5 : Int) = 5 ∧ oth = true)
  · rcases hc with hc | hc
    · exact absurd hc (by decide)
    · exact hc.2
  · rw [if_neg hc, if_pos (by decide)] at h0
    exact absurd h0 (refuse_is_bad (by decide))
theorem restR_op {zs : List Int} {op : Int} {s : Rd} : (restR zs op s).x.op = op := by
  unfold restR
  split <;> rfl

/-- What becomes of a list that is read: there is a fault; or it ends, and the list around it, or its owner's second one, goes on. -/
def Ends (zs : List Int) (f : Fr) (fs : List Fr) (b : Nat) (m : Il × Rd) (r : Lr) : Prop :=
  (r.s.2.1 ≠ 0 ∧ m = (.nil, r.s)) ∨
  (r.s.2.1 = 0 ∧ rem zs r.s < b ∧
    ((r.q = 5 ∧ f.div = true ∧ ∃ k, rem zs r.s < k ∧ m = mach zs k ⟨f.x, f.t.app r.t, .nil, true⟩ fs r.n r.s) ∨
     (r.q = 11 ∧ ((fs = [] ∧ m = (f.t.app r.t, r.s)) ∨ ∃ g gs k, fs = g :: gs ∧ rem zs r.s < k ∧ m = mach zs k ⟨g.x, g.fl, g.t.app (Fr.one ⟨f.x, f.fl, f.t.app r.t, f.oth⟩), g.oth⟩ gs r.n r.s))))
theorem Ends.item {zs : List Int} {f : Fr} {fs : List Fr} {b b' : Nat} {m : Il × Rd} {r : Lr} {x : Ix} {l e : Il} (hb : b' ≤ b)
    (h : Ends zs ⟨f.x, f.fl, f.t.app (.cons x l e .nil), f.oth⟩ fs b' m r) : Ends zs f fs b m ⟨.cons x l e r.t, r.q, r.n, r.s⟩ := by
  have ea : (f.t.app (.cons x l e .nil)).app r.t = f.t.app (.cons x l e r.t) := by rw [app_assoc]; rfl
  rcases h with ⟨h1, h2⟩ | ⟨h1, h2, h3⟩
  · exact .inl ⟨h1, h2⟩
  · refine .inr ⟨h1, Nat.lt_of_lt_of_le h2 hb, ?_⟩
    dsimp only at h3
    rw [ea] at h3
    rcases h3 with ⟨h3, h4, h5⟩ | ⟨h3, h4⟩
    · exact .inl ⟨h3, h4, h5⟩
    · exact .inr ⟨h3, h4⟩

theorem mach_list (zs : List Int) : ∀ (n k : Nat) (f : Fr) (fs : List Fr) (cnt : Int) (s : Rd), Kind.Good zs s → rem zs s ≤ n → rem zs s < k →
    Ends zs f fs (rem zs s + 1) (mach zs k f fs cnt s) (listF zs (fs.length + 1) f.div cnt s) ∧ ((listF zs (fs.length + 1) f.div cnt s).s.2.1 = 0 → rem zs (listF zs (fs.length + 1) f.div cnt s).s < rem zs s) := by
  intro n
  induction n with
  | zero =>
    intro k f fs cnt s hg hn hk
    have hb : s.2.1 ≠ 0 := by intro h; unfold rem at hn; rw [if_pos h] at hn; omega
    rw [mach_bad hb, listF_bad hb]
    exact ⟨.inl ⟨hb, rfl⟩, fun h => absurd h hb⟩
  | succ n ih =>
    intro k f fs cnt s hg hn hk
    obtain ⟨k, rfl⟩ : ∃ k', k = k' + 1 := ⟨k - 1, by omega⟩
    rw [listF_eq zs _ _ _ _ hg]
    unfold mach stepG
    dsimp only
    obtain ⟨op, s1, ho⟩ : ∃ op s1, opR zs f.div (fs.length + 1) cnt s = (op, s1) := ⟨_, _, rfl⟩
    have hg1 : Kind.Good zs s1 := by have := opR_good (oth := f.div) (deep := fs.length + 1) (cnt := cnt) hg; rw [ho] at this; exact this
    by_cases h0 : s1.2.1 = 0
    · have hless : rem zs s1 < rem zs s := by
        have := opR_less (oth := f.div) (deep := fs.length + 1) (cnt := cnt) hg (by rw [ho]; exact h0)
        rw [ho] at this; exact this
      have hfive : op = 5 → f.div = true := fun h => by
        have := opR_five (zs := zs) (oth := f.div) (deep := fs.length + 1) (cnt := cnt) (s := s) (by rw [ho]; exact h0) (by rw [ho]; exact h)
        exact this
      simp only [ho, ne_eq, h0, not_true_eq_false, if_false]
      by_cases h5 : op = 5
      · simp only [h5, or_true, if_true]
        exact ⟨.inr ⟨h0, Nat.lt_succ_of_lt hless, .inl ⟨rfl, hfive h5, k, (by omega : rem zs s1 < k), by simp only [app_nil]⟩⟩, fun _ => hless⟩
      by_cases h11 : op = 11
      · simp only [h11, true_or, if_true]
        refine ⟨.inr ⟨h0, Nat.lt_succ_of_lt hless, .inr ⟨rfl, ?_⟩⟩, fun _ => hless⟩
        dsimp only
        rw [app_nil, if_neg (by decide)]
        cases fs with
        | nil => exact .inl ⟨rfl, rfl⟩
        | cons g gs => exact .inr ⟨g, gs, k, rfl, (by omega : rem zs s1 < k), rfl⟩
      simp only [h5, h11, or_self, if_false]
      have hg2 : Kind.Good zs (restR zs op s1).s := restR_good hg1
      have hle2 : rem zs (restR zs op s1).s ≤ rem zs s1 := (restR_on (op := op) hg1).rem zs
      -- going on in the same list
      have goon : ∀ (x : Ix) (l e : Il) (n' : Int) (s' : Rd) (k' : Nat), Kind.Good zs s' → rem zs s' ≤ rem zs s1 → rem zs s' < k' →
          Ends zs f fs (rem zs s + 1) (mach zs k' ⟨f.x, f.fl, f.t.app (.cons x l e .nil), f.oth⟩ fs n' s') ⟨.cons x l e (listF zs (fs.length + 1) f.div n' s').t, (listF zs (fs.length + 1) f.div n' s').q, (listF zs (fs.length + 1) f.div n' s').n, (listF zs (fs.length + 1) f.div n' s').s⟩ ∧
          ((listF zs (fs.length + 1) f.div n' s').s.2.1 = 0 → rem zs (listF zs (fs.length + 1) f.div n' s').s < rem zs s) := by
        intro x l e n' s' k' hg' hr' hk'
        have := ih k' ⟨f.x, f.fl, f.t.app (.cons x l e .nil), f.oth⟩ fs n' s' hg' (by omega) hk'
        exact ⟨Ends.item (by omega) this.1, fun h => by have := this.2 h; change rem zs (listF zs (fs.length + 1) f.div n' s').s < _ at this; omega⟩
      have goon_bad : ∀ (x : Ix) (l e : Il) (n' : Int) (s' : Rd), s'.2.1 ≠ 0 → 
          Ends zs f fs (rem zs s + 1) (.nil, s') ⟨.cons x l e (listF zs (fs.length + 1) f.div n' s').t, (listF zs (fs.length + 1) f.div n' s').q, (listF zs (fs.length + 1) f.div n' s').n, (listF zs (fs.length + 1) f.div n' s').s⟩ ∧
          ((listF zs (fs.length + 1) f.div n' s').s.2.1 = 0 → rem zs (listF zs (fs.length + 1) f.div n' s').s < rem zs s) := by
        intro x l e n' s' hb
        rw [listF_bad hb]
        exact ⟨.inl ⟨hb, rfl⟩, fun h => absurd h hb⟩
      by_cases hk1 : kindP op = 1
      · simp only [hk1, if_true]
        unfold oneG
        by_cases hr0 : (restR zs op s1).s.2.1 = 0
        · rw [if_pos ⟨hk1, hr0⟩]
          have hdiv : Fr.div ⟨(restR zs op s1).x, .nil, .nil, false⟩ = decide (op = 4) := by simp [Fr.div, restR_op]
          have I1 := ih k ⟨(restR zs op s1).x, .nil, .nil, false⟩ (f :: fs) (cnt + 1) (restR zs op s1).s hg2 (by omega) (by omega)
          have F1 := listF_fine zs (fs.length + 1 + 1) (decide (op = 4)) (cnt + 1) _ hg2
          rw [hdiv] at I1
          simp only [List.length_cons] at I1
          obtain ⟨r1, hr1⟩ : ∃ r1, listF zs (fs.length + 1 + 1) (decide (op = 4)) (cnt + 1) (restR zs op s1).s = r1 := ⟨_, rfl⟩
          rw [hr1] at I1 F1 ⊢
          obtain ⟨I1, J1⟩ := I1
          rcases I1 with ⟨b1, e1⟩ | ⟨b1, c1, d1⟩
          · rw [e1, if_neg (fun h => b1 h.1)]
            exact goon_bad _ _ _ _ _ b1
          · have J1' := J1 b1
            rcases d1 with ⟨q1, _, k1, hk1', e1⟩ | ⟨q1, d1⟩
            · rw [if_pos ⟨b1, q1⟩, e1]
              dsimp only
              have hdiv2 : Fr.div ⟨(restR zs op s1).x, Il.app .nil r1.t, .nil, true⟩ = false := by simp [Fr.div]
              have I2 := ih k1 ⟨(restR zs op s1).x, Il.app .nil r1.t, .nil, true⟩ (f :: fs) r1.n r1.s F1.1 (by omega) hk1'
              have F2 := listF_fine zs (fs.length + 1 + 1) false r1.n _ F1.1
              rw [hdiv2] at I2
              simp only [List.length_cons] at I2
              obtain ⟨r2, hr2⟩ : ∃ r2, listF zs (fs.length + 1 + 1) false r1.n r1.s = r2 := ⟨_, rfl⟩
              rw [hr2] at I2 F2 ⊢
              obtain ⟨I2, J2⟩ := I2
              rcases I2 with ⟨b2, e2⟩ | ⟨b2, c2, d2⟩
              · rw [e2]; exact goon_bad _ _ _ _ _ b2
              · have J2' := J2 b2
                rcases d2 with ⟨_, hd, _⟩ | ⟨q2, d2⟩
                · rw [hdiv2] at hd; cases hd
                · rcases d2 with ⟨hnil, _⟩ | ⟨g, gs, k2, hfs, hk2, e2⟩
                  · cases hnil
                  · obtain ⟨rfl, rfl⟩ := List.cons.inj hfs
                    rw [e2]
                    have := goon (Ix.hold (restR zs op s1).x r1.t r2.t) r1.t r2.t r2.n r2.s k2 F2.1 (by omega) hk2
                    simpa [Fr.one, Il.app] using this
            · rw [if_neg (fun h => by rw [q1] at h; exact absurd h.2 (by decide))]
              rcases d1 with ⟨hnil, _⟩ | ⟨g, gs, k2, hfs, hk2, e2⟩
              · cases hnil
              · obtain ⟨rfl, rfl⟩ := List.cons.inj hfs
                rw [e2]
                have := goon (Ix.hold (restR zs op s1).x r1.t .nil) r1.t .nil r1.n r1.s k2 F1.1 (by omega) hk2
                simpa [Fr.one, Il.app] using this
        · rw [if_neg (fun h => hr0 h.2), mach_bad hr0]
          exact goon_bad _ _ _ _ _ hr0
      · simp only [hk1, if_false]
        unfold oneG
        rw [if_neg (fun h => hk1 h.1)]
        exact goon _ _ _ _ _ k hg2 hle2 (by omega)
    · simp only [ho, ne_eq, h0, not_false_eq_true, if_true]
      exact ⟨.inl ⟨h0, rfl⟩, fun h => h.elim⟩

/-- The list of a function, or of none, from its place on. -/
def top0 : Fr := ⟨plainX 0 0 0 0 0 [], .nil, .nil, false⟩
theorem mach_top (zs : List Int) (s : Rd) (hg : Kind.Good zs s) : mach zs (zs.length + 3) top0 [] 0 s = (if (listF zs 1 false 0 s).s.2.1 = 0 then (listF zs 1 false 0 s).t else .nil, (listF zs 1 false 0 s).s) := by
  have h := (mach_list zs _ (zs.length + 3) top0 [] 0 s hg (Nat.le_refl _) (by have := rem_le hg; omega)).1
  have hd : top0.div = false := by decide
  rw [hd] at h
  simp only [List.length_nil, Nat.zero_add] at h
  rcases h with ⟨h1, h2⟩ | ⟨h1, _, h3⟩
  · rw [h2, if_neg h1]
  · rw [if_pos h1]
    rcases h3 with ⟨_, h, _⟩ | ⟨_, ⟨_, h⟩ | ⟨g, gs, _, h, _⟩⟩
    · rw [hd] at h; cases h
    · rw [h]; rfl
    · cases h
end Go.Proofs.YtepbjkkakfpjgaaGreatDoor.Body

/-
  BODY: what is put is got: an instruction's fields by its operation; its bytes read; a list's bytes read, whatever follows.
-/
namespace Go.Proofs.YtepbjkkakfpjgaaGreatDoor.Body
open Go.RowKit Go.Proofs.YtepbjkkakfpjgaaGreatDoor.Leb Go.Proofs.YtepbjkkakfpjgaaGreatDoor.Instr
open Go.Proofs.YtepbjkkakfpjgaaGreatDoor.Kind (Rd numR refuseR startR numR_good numR_bounds refuseR_good getL_next)

theorem over6 : ∀ b1 b2 b3 b4 b5 b6 b7 : Bool, bits .andNot .u8 (bit b1 1 + bit b2 2 + bit b3 4 + bit b4 8 + bit b5 16 + bit b6 32 + bit b7 64) 6 = 0 ↔ (b1 || b4 || b5 || b6 || b7) = false := by decide
theorem over33 : ∀ b1 b2 b3 b4 b5 b6 b7 : Bool, bits .andNot .u8 (bit b1 1 + bit b2 2 + bit b3 4 + bit b4 8 + bit b5 16 + bit b6 32 + bit b7 64) 33 = 0 ↔ (b2 || b3 || b4 || b5 || b7) = false := by decide
theorem over97 : ∀ b1 b2 b3 b4 b5 b6 b7 : Bool, bits .andNot .u8 (bit b1 1 + bit b2 2 + bit b3 4 + bit b4 8 + bit b5 16 + bit b6 32 + bit b7 64) 97 = 0 ↔ (b2 || b3 || b4 || b5) = false := by decide
theorem over2 : ∀ b1 b2 b3 b4 b5 b6 b7 : Bool, bits .andNot .u8 (bit b1 1 + bit b2 2 + bit b3 4 + bit b4 8 + bit b5 16 + bit b6 32 + bit b7 64) 2 = 0 ↔ (b1 || b3 || b4 || b5 || b6 || b7) = false := by decide
theorem over18 : ∀ b1 b2 b3 b4 b5 b6 b7 : Bool, bits .andNot .u8 (bit b1 1 + bit b2 2 + bit b3 4 + bit b4 8 + bit b5 16 + bit b6 32 + bit b7 64) 18 = 0 ↔ (b1 || b3 || b4 || b6 || b7) = false := by decide
theorem over8 : ∀ b1 b2 b3 b4 b5 b6 b7 : Bool, bits .andNot .u8 (bit b1 1 + bit b2 2 + bit b3 4 + bit b4 8 + bit b5 16 + bit b6 32 + bit b7 64) 8 = 0 ↔ (b1 || b2 || b3 || b5 || b6 || b7) = false := by decide
theorem over0 : ∀ b1 b2 b3 b4 b5 b6 b7 : Bool, bits .andNot .u8 (bit b1 1 + bit b2 2 + bit b3 4 + bit b4 8 + bit b5 16 + bit b6 32 + bit b7 64) 0 = 0 ↔ (b1 || b2 || b3 || b4 || b5 || b6 || b7) = false := by decide

theorem used_kind (op : Int) : (usedP op = 6 ∧ kindP op = 5) ∨ (usedP op = 33 ∧ kindP op = 1 ∧ op ≠ 4) ∨ (usedP op = 97 ∧ kindP op = 1 ∧ op = 4) ∨ (usedP op = 2 ∧ (kindP op = 2 ∨ kindP op = 3)) ∨
    (usedP op = 18 ∧ kindP op = 4) ∨ (usedP op = 8 ∧ kindP op = 7) ∨ (usedP op = 0 ∧ (kindP op = 0 ∨ kindP op = 6)) := by
  unfold usedP kindP
  (repeat' split) <;> simp <;> omega
theorem lawful_iff (x : Ix) : lawfulP x = true ↔ nameL x.op ≠ [] ∧ (x.res = 0 ∨ x.res = 1) ∧ (x.res = 0 ∨ kindP x.op = 1) ∧ (x.a = 0 ∨ kindP x.op = 2 ∨ kindP x.op = 3 ∨ kindP x.op = 4 ∨ kindP x.op = 5) ∧ (x.b = 0 ∨ kindP x.op = 5) ∧
    (x.n = 0 ∨ kindP x.op = 7) ∧ (x.tags.length = 0 ∨ kindP x.op = 4) ∧ (x.ln = 0 ∨ kindP x.op = 1) ∧ (x.en = 0 ∨ (kindP x.op = 1 ∧ x.op = 4)) := by
  unfold lawfulP overP filledP
  simp only [Bool.and_eq_true, Bool.or_eq_true, decide_eq_true_eq, and_assoc]
  refine and_congr_right fun _ => ?_
  rw [and_comm]
  refine and_congr_right fun _ => ?_
  rcases used_kind x.op with ⟨hu, hk⟩ | ⟨hu, hk, h4⟩ | ⟨hu, hk, h4⟩ | ⟨hu, hk⟩ | ⟨hu, hk⟩ | ⟨hu, hk⟩ | ⟨hu, hk⟩ <;> rw [hu]
  · rw [over6]; simp [hk, and_assoc]
  · rw [over33]; simp [hk, h4, and_assoc]
  · rw [over97]; simp [show kindP 4 = 1 by decide, h4, and_assoc]
  · rw [over2]; rcases hk with hk | hk <;> simp [hk, and_assoc]
  · rw [over18]; simp [hk, and_assoc]
  · rw [over8]; simp [hk, and_assoc]
  · rw [over0]; rcases hk with hk | hk <;> simp [hk, and_assoc]

theorem name_range {op : Int} (h : nameL op ≠ []) : 0 ≤ op ∧ op < 121 ∧ op ≠ 5 ∧ op ≠ 11 := by
  unfold nameL at h
  by_cases h1 : 0 ≤ op ∧ op < 121
  · refine ⟨h1.1, h1.2, ?_, ?_⟩ <;> (rintro rfl; exact h (by decide))
  · rw [if_neg h1] at h; exact absurd rfl h

-- what lies at a place
theorem at_cons {zs r : List Int} {p : Nat} {c : Int} (h : zs.drop p = c :: r) : p < zs.length ∧ zs.getD p 0 = c ∧ zs.drop (p + 1) = r := by
  have hl : p < zs.length := by
    rcases Nat.lt_or_ge p zs.length with h' | h'
    · exact h'
    · rw [List.drop_eq_nil_of_le h'] at h; cases h
  rw [List.drop_eq_getElem_cons hl] at h
  obtain ⟨h1, h2⟩ := List.cons.inj h
  exact ⟨hl, by simp [hl, h1], h2⟩
theorem at_app {zs a b : List Int} {p : Nat} (h : zs.drop p = a ++ b) : zs.drop (p + a.length) = b := by
  rw [← List.drop_drop, h, List.drop_left]
theorem at_le {zs a b : List Int} {p : Nat} (h : zs.drop p = a ++ b) (ha : a ≠ []) : p + a.length ≤ zs.length := by
  have := congrArg List.length h
  simp at this
  have := List.length_pos_iff.2 ha
  omega
theorem split_at {zs a b : List Int} {p : Nat} (h : zs.drop p = a ++ b) (hp : p ≤ zs.length) : zs = zs.take p ++ a ++ b ∧ (zs.take p).length = p := by
  refine ⟨?_, by simp; omega⟩
  conv => lhs; rw [← List.take_append_drop p zs, h]
  rw [List.append_assoc]
theorem byteR_at {zs r : List Int} {p : Nat} {c : Int} (h : zs.drop p = c :: r) : byteR zs ((p : Int), 0, 0) = (c, ((p + 1 : Nat) : Int), 0, 0) := by
  obtain ⟨h1, h2, _⟩ := at_cons h
  unfold byteR
  rw [if_pos rfl, if_neg (by simp only; omega)]
  simp only [Int.toNat_natCast, h2]
  rfl
theorem byteR_end {zs : List Int} {p : Nat} (h : p = zs.length) : byteR zs ((p : Int), 0, 0) = (0, (p : Int), 4, (p : Int)) := by
  unfold byteR
  rw [if_pos rfl, if_pos (by simp only [h])]
theorem numR_at {zs r : List Int} {p : Nat} {n : Int} (h0 : 0 ≤ n) (h1 : n < 4294967296) (h : zs.drop p = encU n ++ r) : numR zs ((p : Int), 0, 0) = (n, ((p + (encU n).length : Nat) : Int), 0, 0) := by
  have hne : encU n ≠ [] := by rw [← List.length_pos_iff, encU_length]; have := sizeU_pos n; omega
  have hp := at_le h hne
  obtain ⟨e1, e2⟩ := split_at h (by omega)
  have hg : getL false zs p = (n, (p : Int) + (sizeU n : Int), 0, 0) := by
    have := getL_encU h0 h1 (zs.take p) r
    rw [← e1, e2] at this
    exact this
  unfold numR
  rw [if_pos rfl, if_pos (by rw [hg]), hg, encU_length]
  simp
theorem sgnR_at {zs r : List Int} {p : Nat} {n : Int} (h0 : -2147483648 ≤ n) (h1 : n < 2147483648) (h : zs.drop p = encS n ++ r) : sgnR zs ((p : Int), 0, 0) = (n, ((p + (encS n).length : Nat) : Int), 0, 0) := by
  have hne : encS n ≠ [] := by rw [← List.length_pos_iff, encS_length]; have := sizeS_pos n; omega
  have hp := at_le h hne
  obtain ⟨e1, e2⟩ := split_at h (by omega)
  have hg : getL true zs p = (n, (p : Int) + (sizeS n : Int), 0, 0) := by
    have := getL_encS h0 h1 (zs.take p) r
    rw [← e1, e2] at this
    exact this
  unfold sgnR
  rw [if_pos rfl, if_pos (by rw [hg]), hg, encS_length]
  simp
theorem tagR_at {zs r : List Int} {p : Nat} {c : Int} {ok : Int → Bool} (hc : ok c = true) (h : zs.drop p = c :: r) : tagR zs ok ((p : Int), 0, 0) = (c, ((p + 1 : Nat) : Int), 0, 0) := by
  unfold tagR
  rw [byteR_at h]
  simp only [hc, if_true]
theorem tagsR_at {zs : List Int} : ∀ (l r : List Int) (p : Nat), (∀ z ∈ l, 0 ≤ z ∧ z < 4294967296) → zs.drop p = l.flatMap encU ++ r → tagsR zs l.length ((p : Int), 0, 0) = (l, ((p + (l.flatMap encU).length : Nat) : Int), 0, 0)
  | [], _, p, _, _ => by simp [tagsR]
  | n :: l, r, p, hn, h => by
    obtain ⟨n0, n1⟩ := hn n (by simp)
    rw [List.flatMap_cons, List.append_assoc] at h
    have e1 := numR_at n0 n1 h
    have e2 := tagsR_at l r (p + (encU n).length) (fun z hz => hn z (by simp [hz])) (at_app h)
    simp only [List.length_cons, tagsR, if_true]
    rw [e1]
    dsimp only
    rw [e2]
    simp [Nat.add_assoc]
theorem labelsR_at {zs r : List Int} {p : Nat} {l : List Int} (hl : l.length ≤ 16384) (hn : ∀ z ∈ l, 0 ≤ z ∧ z < 4294967296) (h : zs.drop p = encTags l ++ r) : labelsR zs ((p : Int), 0, 0) = (l, ((p + (encTags l).length : Nat) : Int), 0, 0) := by
  unfold encTags at h ⊢
  rw [List.append_assoc] at h
  have e1 := numR_at (by omega) (by omega) h
  unfold labelsR
  rw [e1]
  dsimp only
  rw [if_neg (by omega), Int.toNat_natCast, tagsR_at l r _ hn (at_app h)]
  simp [Nat.add_assoc]

/-- An instruction may be, by itself. -/
structure May (x : Ix) : Prop where
  law : lawfulP x = true
  a : 0 ≤ x.a ∧ x.a < 4294967296
  b : 0 ≤ x.b ∧ x.b < 4294967296
  n : -2147483648 ≤ x.n ∧ x.n < 2147483648
  tags : ∀ z ∈ x.tags, 0 ≤ z ∧ z < 4294967296
  few : x.tags.length ≤ 16384
theorem encRest0 {x : Ix} (h : kindP x.op = 0) : encRest x = [] := by simp [encRest, h]
theorem encRest1 {x : Ix} (h : kindP x.op = 1) : encRest x = [if x.res = 0 then 64 else 127] := by simp [encRest, h]
theorem encRest2 {x : Ix} (h : kindP x.op = 2) : encRest x = encU x.a := by simp [encRest, h]
theorem encRest3 {x : Ix} (h : kindP x.op = 3) : encRest x = encU x.a ++ [0] := by simp [encRest, h]
theorem encRest4 {x : Ix} (h : kindP x.op = 4) : encRest x = encTags x.tags ++ encU x.a := by simp [encRest, h]
theorem encRest5 {x : Ix} (h : kindP x.op = 5) : encRest x = encU x.a ++ encU x.b := by simp [encRest, h]
theorem encRest6 {x : Ix} (h : kindP x.op = 6) : encRest x = [0] := by simp [encRest, h]
theorem encRest7 {x : Ix} (h : kindP x.op = 7) : encRest x = encS x.n := by simp [encRest, h]
section
variable {zs : List Int} {op : Int} {s : Rd}
theorem restR0 (h : kindP op = 0) : restR zs op s = ⟨plainX op 0 0 0 0 [], s⟩ := by simp [restR, h]
theorem restR1 (h : kindP op = 1) : restR zs op s = ⟨plainX op (if (tagR zs isRes s).1 = 127 then 1 else 0) 0 0 0 [], (tagR zs isRes s).2⟩ := by simp [restR, h]
theorem restR2 (h : kindP op = 2) : restR zs op s = ⟨plainX op 0 (numR zs s).1 0 0 [], (numR zs s).2⟩ := by simp [restR, h]
theorem restR3 (h : kindP op = 3) : restR zs op s = ⟨plainX op 0 (numR zs s).1 0 0 [], (tagR zs isNone (numR zs s).2).2⟩ := by simp [restR, h]
theorem restR4 (h : kindP op = 4) : restR zs op s = ⟨plainX op 0 (numR zs (labelsR zs s).2).1 0 0 (labelsR zs s).1, (numR zs (labelsR zs s).2).2⟩ := by simp [restR, h]
theorem restR5 (h : kindP op = 5) : restR zs op s = ⟨plainX op 0 (numR zs s).1 (numR zs (numR zs s).2).1 0 [], (numR zs (numR zs s).2).2⟩ := by simp [restR, h]
theorem restR6 (h : kindP op = 6) : restR zs op s = ⟨plainX op 0 0 0 0 [], (tagR zs isNone s).2⟩ := by simp [restR, h]
theorem restR7 (h : kindP op = 7) : restR zs op s = ⟨plainX op 0 0 0 (sgnR zs s).1 [], (sgnR zs s).2⟩ := by simp [restR, h]
end
theorem kind_cases (op : Int) : kindP op = 0 ∨ kindP op = 1 ∨ kindP op = 2 ∨ kindP op = 3 ∨ kindP op = 4 ∨ kindP op = 5 ∨ kindP op = 6 ∨ kindP op = 7 := by
  unfold kindP; (repeat' split) <;> simp
theorem restR_at {zs r : List Int} {p : Nat} {x : Ix} (hx : May x) (h : zs.drop p = encRest x ++ r) :
    restR zs x.op ((p : Int), 0, 0) = ⟨plainX x.op x.res x.a x.b x.n x.tags, ((p + (encRest x).length : Nat) : Int), 0, 0⟩ := by
  obtain ⟨hn, hr, h1, h2, h3, h4, h5, h6, h7⟩ := (lawful_iff x).1 hx.law
  have ht : kindP x.op ≠ 4 → x.tags = [] := fun h => List.eq_nil_of_length_eq_zero (by omega)
  rcases kind_cases x.op with hk | hk | hk | hk | hk | hk | hk | hk
  · have e1 : x.res = 0 := by omega
    have e2 : x.a = 0 := by omega
    have e3 : x.b = 0 := by omega
    have e4 : x.n = 0 := by omega
    rw [restR0 hk, encRest0 hk]
    simp [e1, e2, e3, e4, ht (by omega)]
  · have e2 : x.a = 0 := by omega
    have e3 : x.b = 0 := by omega
    have e4 : x.n = 0 := by omega
    rw [encRest1 hk] at h ⊢
    rw [restR1 hk]
    by_cases h0 : x.res = 0
    · rw [if_pos h0, List.singleton_append] at h
      rw [tagR_at (ok := isRes) (by decide) h]
      simp [h0, e2, e3, e4, ht (by omega)]
    · have e1 : x.res = 1 := by omega
      rw [if_neg h0, List.singleton_append] at h
      rw [tagR_at (ok := isRes) (by decide) h]
      simp [e1, e2, e3, e4, ht (by omega)]
  · have e1 : x.res = 0 := by omega
    have e3 : x.b = 0 := by omega
    have e4 : x.n = 0 := by omega
    rw [encRest2 hk] at h ⊢
    rw [restR2 hk, numR_at hx.a.1 hx.a.2 h]
    simp [e1, e3, e4, ht (by omega)]
  · have e1 : x.res = 0 := by omega
    have e3 : x.b = 0 := by omega
    have e4 : x.n = 0 := by omega
    rw [encRest3 hk] at h ⊢
    rw [List.append_assoc] at h
    rw [restR3 hk, numR_at hx.a.1 hx.a.2 h]
    dsimp only
    rw [tagR_at (ok := isNone) (by decide) (at_app h)]
    simp [e1, e3, e4, ht (by omega), Nat.add_assoc]
  · have e1 : x.res = 0 := by omega
    have e3 : x.b = 0 := by omega
    have e4 : x.n = 0 := by omega
    rw [encRest4 hk] at h ⊢
    rw [List.append_assoc] at h
    rw [restR4 hk, labelsR_at hx.few hx.tags h]
    dsimp only
    rw [numR_at hx.a.1 hx.a.2 (at_app h)]
    simp [e1, e3, e4, Nat.add_assoc]
  · have e1 : x.res = 0 := by omega
    have e4 : x.n = 0 := by omega
    rw [encRest5 hk] at h ⊢
    rw [List.append_assoc] at h
    rw [restR5 hk, numR_at hx.a.1 hx.a.2 h]
    dsimp only
    rw [numR_at hx.b.1 hx.b.2 (at_app h)]
    simp [e1, e4, ht (by omega), Nat.add_assoc]
  · have e1 : x.res = 0 := by omega
    have e2 : x.a = 0 := by omega
    have e3 : x.b = 0 := by omega
    have e4 : x.n = 0 := by omega
    rw [encRest6 hk] at h ⊢
    rw [restR6 hk, tagR_at (ok := isNone) (by decide) h]
    simp [e1, e2, e3, e4, ht (by omega)]
  · have e1 : x.res = 0 := by omega
    have e2 : x.a = 0 := by omega
    have e3 : x.b = 0 := by omega
    rw [encRest7 hk] at h ⊢
    rw [restR7 hk, sgnR_at hx.n.1 hx.n.2 h]
    simp [e1, e2, e3, ht (by omega)]

/-- All of them may be. -/
def MayT : Il → Prop
  | .nil => True
  | .cons x l e r => May x ∧ l.len = x.ln ∧ e.len = x.en ∧ MayT l ∧ MayT e ∧ MayT r
theorem mayT_of : ∀ t : Il, t.all = true → t.tags = false → t.fit → t.nums → MayT t
  | .nil, _, _, _, _ => trivial
  | .cons x l e r, ha, ht, hf, hn => by
    simp only [Il.all, Bool.and_eq_true] at ha
    simp only [Il.tags, Bool.or_eq_false_iff, decide_eq_false_iff_not] at ht
    obtain ⟨f1, f2, f3, f4, f5⟩ := hf
    obtain ⟨n1, n2, n3, n4, n5, n6, n7⟩ := hn
    exact ⟨⟨ha.1.1.1, n1, n2, n3, n4, by omega⟩, f1, f2, mayT_of l ha.1.1.2 ht.1.1.2 f3 n5, mayT_of e ha.1.2 ht.1.2 f4 n6, mayT_of r ha.2 ht.2 f5 n7⟩
theorem len_zero : ∀ {t : Il}, t.len = 0 → t = .nil
  | .nil, _ => rfl
  | .cons _ _ _ _, h => by simp [Il.len] at h

theorem opR_at {zs r : List Int} {p : Nat} {op : Int} {oth : Bool} {deep : Nat} {cnt : Int} (hn : nameL op ≠ []) (hd : deep ≤ 900) (hc : cnt < 262144) (h : zs.drop p = op :: r) :
    opR zs oth deep cnt ((p : Int), 0, 0) = (op, ((p + 1 : Nat) : Int), 0, 0) := by
  obtain ⟨_, _, h5, h11⟩ := name_range hn
  unfold opR
  rw [byteR_at h]
  dsimp only
  rw [if_neg (fun h => by rcases h with h | h; exact h11 h; exact h5 h.1), if_neg hn, if_neg (by omega)]
theorem opR_end {zs r : List Int} {p : Nat} {oth : Bool} {deep : Nat} {cnt : Int} (h : zs.drop p = 11 :: r) : opR zs oth deep cnt ((p : Int), 0, 0) = (11, ((p + 1 : Nat) : Int), 0, 0) := by
  unfold opR
  rw [byteR_at h]
  dsimp only
  rw [if_pos (.inl rfl)]
theorem opR_else {zs r : List Int} {p : Nat} {deep : Nat} {cnt : Int} (h : zs.drop p = 5 :: r) : opR zs true deep cnt ((p : Int), 0, 0) = (5, ((p + 1 : Nat) : Int), 0, 0) := by
  unfold opR
  rw [byteR_at h]
  dsimp only
  rw [if_pos (.inr ⟨rfl, rfl⟩)]
theorem good_at {zs : List Int} {p : Nat} (h : p ≤ zs.length) : Kind.Good zs ((p : Int), 0, 0) := fun _ => ⟨by simp, by simp only; omega, rfl⟩
theorem listF_end {zs r : List Int} {p : Nat} {oth : Bool} {deep : Nat} {cnt : Int} (h : zs.drop p = 11 :: r) : listF zs deep oth cnt ((p : Int), 0, 0) = ⟨.nil, 11, cnt, ((p + 1 : Nat) : Int), 0, 0⟩ := by
  have hl := (at_cons h).1
  rw [listF_eq zs _ _ _ _ (good_at (by omega))]
  unfold stepG
  rw [opR_end h]
  simp
theorem listF_else {zs r : List Int} {p : Nat} {deep : Nat} {cnt : Int} (h : zs.drop p = 5 :: r) : listF zs deep true cnt ((p : Int), 0, 0) = ⟨.nil, 5, cnt, ((p + 1 : Nat) : Int), 0, 0⟩ := by
  have hl := (at_cons h).1
  rw [listF_eq zs _ _ _ _ (good_at (by omega))]
  unfold stepG
  rw [opR_else h]
  simp
def Lr.pre (t : Il) (r : Lr) : Lr := ⟨t.app r.t, r.q, r.n, r.s⟩
theorem hold_bare (x : Ix) (l e : Il) (hl : l.len = x.ln) (he : e.len = x.en) : Ix.hold (plainX x.op x.res x.a x.b x.n x.tags) l.bare e.bare = x.bare := by
  simp [Ix.hold, plainX, Ix.bare, bare_len, hl, he]

theorem there (zs : List Int) : ∀ (t : Il) (deep : Nat) (oth : Bool) (cnt : Int) (p : Nat) (r : List Int), MayT t → deep + t.deep ≤ 901 → cnt + t.count ≤ 262144 → p ≤ zs.length → zs.drop p = encL t ++ r →
    listF zs deep oth cnt ((p : Int), 0, 0) = Lr.pre t.bare (listF zs deep oth (cnt + t.count) (((p + (encL t).length : Nat) : Int), 0, 0))
  | .nil, deep, oth, cnt, p, r, _, _, _, _, _ => by simp [Lr.pre, Il.bare, Il.app, Il.count, encL]
  | .cons x l e r, deep, oth, cnt, p, post, hm, hd, hc, hp, h => by
    obtain ⟨hx, hfl, hfe, ml, me, mr⟩ := hm
    obtain ⟨hn, hr, h1, h2, h3, h4, h5, h6, h7⟩ := (lawful_iff x).1 hx.law
    obtain ⟨_, _, n5, n11⟩ := name_range hn
    simp only [Il.deep] at hd
    simp only [Il.count] at hc
    have hd1 : deep + 1 + l.deep ≤ 901 := by omega
    have hd2 : deep + 1 + e.deep ≤ 901 := by omega
    have hd3 : deep + r.deep ≤ 901 := by omega
    rw [encL, List.cons_append] at h
    have hlt := (at_cons h).1
    have hq := (at_cons h).2.2
    rw [List.append_assoc, List.append_assoc] at hq
    rw [listF_eq zs _ _ _ _ (good_at hp)]
    unfold stepG
    rw [opR_at hn (by omega) (by omega) h]
    dsimp only
    rw [if_neg (by simp), if_neg (by omega)]
    have hrest := restR_at hx hq
    have hq2 := at_app hq
    have hq2' : p + 1 + (encRest x).length ≤ zs.length := by
      by_cases hne : encRest x = []
      · rw [hne]; simp; omega
      · exact at_le hq hne
    unfold oneG
    rw [hrest]
    dsimp only
    by_cases hk : kindP x.op = 1
    · rw [if_pos hk] at hq2
      rw [if_pos ⟨hk, rfl⟩]
      rw [List.append_assoc] at hq2
      have el := there zs l (deep + 1) (decide (x.op = 4)) (cnt + 1) _ _ ml hd1 (by omega) hq2' hq2
      have hq3 := at_app hq2
      rw [el]
      by_cases he : x.en = 0
      · rw [if_pos he, List.nil_append, List.singleton_append] at hq3
        have hlast := (at_cons hq3).2.2
        have hlt3 := (at_cons hq3).1
        rw [listF_end hq3]
        simp only [Lr.pre, app_nil]
        rw [if_neg (by simp)]
        dsimp only
        have henil : e = .nil := len_zero (by omega)
        subst henil
        have hb := hold_bare x l .nil hfl hfe
        change Ix.hold _ l.bare .nil = x.bare at hb
        rw [hb]
        have er := there zs r deep oth (cnt + 1 + l.count) _ post mr hd3 (by omega) hlt3 hlast
        rw [er]
        rw [show cnt + 1 + (l.count : Int) + (r.count : Int) = cnt + ((Il.cons x l .nil r).count : Nat) by simp only [Il.count]; omega,
          show p + 1 + (encRest x).length + (encL l).length + 1 + (encL r).length = p + (encL (.cons x l .nil r)).length by simp [encL, hk, he]; omega]
        simp [Lr.pre, Il.bare, Il.app]
      · have hop4 : x.op = 4 := by omega
        rw [if_neg he, List.append_assoc, List.cons_append] at hq3
        rw [show decide (x.op = 4) = true by simp [hop4]]
        rw [listF_else hq3]
        have hq4 := (at_cons hq3).2.2
        have hlt3 := (at_cons hq3).1
        simp only [Lr.pre, app_nil]
        rw [if_pos (by simp)]
        dsimp only
        have ee := there zs e (deep + 1) false (cnt + 1 + l.count) _ _ me hd2 (by omega) hlt3 hq4
        have hq5 := at_app hq4
        rw [List.singleton_append] at hq5
        rw [ee, listF_end hq5]
        simp only [Lr.pre, app_nil]
        rw [hold_bare x l e hfl hfe]
        have hlast := (at_cons hq5).2.2
        have hlt5 := (at_cons hq5).1
        have er := there zs r deep oth (cnt + 1 + l.count + e.count) _ post mr hd3 (by omega) hlt5 hlast
        rw [er]
        rw [show cnt + 1 + (l.count : Int) + (e.count : Int) + (r.count : Int) = cnt + ((Il.cons x l e r).count : Nat) by simp only [Il.count]; omega,
          show p + 1 + (encRest x).length + (encL l).length + 1 + (encL e).length + 1 + (encL r).length = p + (encL (.cons x l e r)).length by simp [encL, hk, he]; omega]
        simp [Lr.pre, Il.bare, Il.app]
    · rw [if_neg hk, List.nil_append] at hq2
      rw [if_neg (fun h => hk h.1)]
      dsimp only
      have hlnil : l = .nil := len_zero (by omega)
      have henil : e = .nil := len_zero (by omega)
      subst hlnil henil
      have er := there zs r deep oth (cnt + 1) _ post mr hd3 (by omega) hq2' hq2
      rw [er]
      have hxb : plainX x.op x.res x.a x.b x.n x.tags = x.bare := by
        have := hold_bare x .nil .nil hfl hfe
        exact this
      rw [show cnt + 1 + (r.count : Int) = cnt + ((Il.cons x .nil .nil r).count : Nat) by simp only [Il.count]; omega,
        show p + 1 + (encRest x).length + (encL r).length = p + (encL (.cons x .nil .nil r)).length by simp [encL, hk]; omega]
      simp [Lr.pre, Il.bare, Il.app, hxb]
end Go.Proofs.YtepbjkkakfpjgaaGreatDoor.Body

/-
  BODY: bytes that end too early: the fault is told where they end.
-/
namespace Go.Proofs.YtepbjkkakfpjgaaGreatDoor.Body
open Go.Proofs.YtepbjkkakfpjgaaGreatDoor.Leb Go.Proofs.YtepbjkkakfpjgaaGreatDoor.Instr
open Go.Proofs.YtepbjkkakfpjgaaGreatDoor.Kind (Rd numR refuseR startR numR_good numR_bounds refuseR_good getL_next)

/-- The fault: no bytes, at their end. -/
def Short (zs : List Int) (s : Rd) : Prop := s.2.1 = 4 ∧ s.2.2 = zs.length
theorem Short.bad {zs : List Int} {s : Rd} (h : Short zs s) : s.2.1 ≠ 0 := by rw [h.1]; decide

/-- What lies ahead of a whole: the beginning of its first part, or that part and the beginning of the rest. -/
theorem cut_app {a m x y : List Int} (h : a ++ m = x ++ y) (_hm : m ≠ []) : (∃ m', m' ≠ [] ∧ a ++ m' = x) ∨ ∃ a', a = x ++ a' ∧ a' ++ m = y := by
  rcases List.append_eq_append_iff.1 h with ⟨c, h1, h2⟩ | ⟨c, h1, h2⟩
  · by_cases hc : c = []
    · subst hc
      exact .inr ⟨[], by rw [h1]; simp, by simpa using h2⟩
    · exact .inl ⟨c, hc, h1.symm⟩
  · exact .inr ⟨c, h1, h2.symm⟩
theorem cut_cons {a m y : List Int} {c : Int} (h : a ++ m = c :: y) : a = [] ∨ ∃ a', a = c :: a' ∧ a' ++ m = y := by
  cases a with
  | nil => exact .inl rfl
  | cons d a' =>
    obtain ⟨rfl, h2⟩ := List.cons.inj h
    exact .inr ⟨a', rfl, h2⟩
theorem goL_cut (s : Bool) : ∀ (j k : Nat) (u m p : Int) (a b : List Int), k + j ≤ 4 → b ≠ [] → a ++ b = putL (j + 1) m → goL s k u a p = (0, 0, 4, p + a.length)
  | j, k, u, m, p, [], b, _, _, _ => by simp [goL]
  | 0, k, u, m, p, c :: a, b, _, hb, h => by
    have h1 := congrArg List.length h
    have h2 := List.length_pos_iff.2 hb
    simp only [putL, List.length_append, List.length_cons, List.length_nil] at h1
    omega
  | j + 1, k, u, m, p, c :: a, b, hk, hb, h => by
    rw [putL, List.cons_append] at h
    obtain ⟨rfl, h2⟩ := List.cons.inj h
    rw [goL_more (by omega) (by omega), goL_cut s j (k + 1) _ (m / 128) (p + 1) a b (by omega) hb h2]
    simp; omega
theorem at_end {zs : List Int} {p : Nat} (h : zs.drop p = []) (hp : p ≤ zs.length) : p = zs.length := by
  have := congrArg List.length h
  simp at this
  omega
theorem drop_len {zs a : List Int} {p : Nat} (h : zs.drop p = a) (hp : p ≤ zs.length) : (p : Int) + a.length = zs.length := by
  subst h; simp; omega
theorem getL_cut {s : Bool} {zs m : List Int} {p : Nat} {n : Int} {j : Nat} (hj : j ≤ 4) (hp : p ≤ zs.length) (hm : m ≠ []) (h : zs.drop p ++ m = putL (j + 1) n) : getL s zs (p : Int) = (0, 0, 4, (zs.length : Int)) := by
  unfold getL
  rw [if_neg (by omega), Int.toNat_natCast, goL_cut s j 0 0 n p _ m (by omega) hm h]
  simp; omega
theorem numR_cut {zs m : List Int} {p : Nat} {n : Int} (hp : p ≤ zs.length) (hm : m ≠ []) (h : zs.drop p ++ m = encU n) : Short zs (numR zs ((p : Int), 0, 0)).2 := by
  obtain ⟨j, hj⟩ : ∃ j, sizeU n = j + 1 := ⟨sizeU n - 1, by have := sizeU_pos n; omega⟩
  have hg : getL false zs (p : Int) = (0, 0, 4, (zs.length : Int)) := getL_cut (j := j) (n := n) (by have := sizeU_pos n; omega) hp hm (by rw [h, encU, hj])
  unfold numR Short
  rw [if_pos rfl, if_neg (by rw [hg]; simp), hg]
  exact ⟨rfl, rfl⟩
theorem sgnR_cut {zs m : List Int} {p : Nat} {n : Int} (hp : p ≤ zs.length) (hm : m ≠ []) (h : zs.drop p ++ m = encS n) : Short zs (sgnR zs ((p : Int), 0, 0)).2 := by
  obtain ⟨j, hj⟩ : ∃ j, sizeS n = j + 1 := ⟨sizeS n - 1, by have := sizeS_pos n; omega⟩
  have hg : getL true zs (p : Int) = (0, 0, 4, (zs.length : Int)) := getL_cut (j := j) (n := n) (by have := sizeS_pos n; omega) hp hm (by rw [h, encS, hj])
  unfold sgnR Short
  rw [if_pos rfl, if_neg (by rw [hg]; simp), hg]
  exact ⟨rfl, rfl⟩
theorem byteR_cut {zs : List Int} {p : Nat} (hp : p ≤ zs.length) (h : zs.drop p = []) : Short zs (byteR zs ((p : Int), 0, 0)).2 := by
  have := at_end h hp
  rw [byteR_end this]
  exact ⟨rfl, by simp only; omega⟩
theorem tagR_cut {zs : List Int} {p : Nat} {ok : Int → Bool} (hp : p ≤ zs.length) (h : zs.drop p = []) : Short zs (tagR zs ok ((p : Int), 0, 0)).2 := by
  have hb := byteR_cut hp h
  unfold tagR
  dsimp only
  split
  · exact hb
  · rw [refuseR_bad hb.bad]; exact hb
theorem numR_keeps {zs : List Int} {s : Rd} (h : Short zs s) : Short zs (numR zs s).2 := by unfold numR; rw [if_neg h.bad]; exact h
theorem tagR_keeps {zs : List Int} {ok : Int → Bool} {s : Rd} (h : Short zs s) : Short zs (tagR zs ok s).2 := by
  unfold tagR
  rw [byteR_bad h.bad]
  dsimp only
  split
  · exact h
  · rw [refuseR_bad h.bad]; exact h
theorem tagsR_keeps {zs : List Int} {s : Rd} (k : Nat) (h : Short zs s) : Short zs (tagsR zs k s).2 := by
  cases k with
  | zero => exact h
  | succ k => unfold tagsR; rw [if_neg h.bad]; exact h
theorem single_cut {a m : List Int} {c : Int} (h : a ++ m = [c]) (hm : m ≠ []) : a = [] := by
  rcases cut_cons h with h | ⟨a', rfl, h2⟩
  · exact h
  · simp at h2; exact absurd h2.2 hm
theorem tagsR_cut {zs : List Int} : ∀ (l m : List Int) (p : Nat), p ≤ zs.length → m ≠ [] → (∀ z ∈ l, 0 ≤ z ∧ z < 4294967296) → zs.drop p ++ m = l.flatMap encU → Short zs (tagsR zs l.length ((p : Int), 0, 0)).2
  | [], m, p, _, hm, _, h => by simp at h; exact absurd h.2 hm
  | n :: l, m, p, hp, hm, hn, h => by
    rw [List.flatMap_cons] at h
    simp only [List.length_cons, tagsR, if_true]
    rcases cut_app h hm with ⟨m', hm', h1⟩ | ⟨a', h1, h2⟩
    · exact tagsR_keeps _ (numR_cut hp hm' h1)
    · obtain ⟨n0, n1⟩ := hn n (by simp)
      have hne : encU n ≠ [] := by rw [← List.length_pos_iff, encU_length]; have := sizeU_pos n; omega
      rw [numR_at n0 n1 h1]
      dsimp only
      have hq := at_app h1
      exact tagsR_cut l m _ (at_le h1 hne) hm (fun z hz => hn z (by simp [hz])) (by rw [hq]; exact h2)
theorem labelsR_cut {zs m l : List Int} {p : Nat} (hp : p ≤ zs.length) (hm : m ≠ []) (hl : l.length ≤ 16384) (hn : ∀ z ∈ l, 0 ≤ z ∧ z < 4294967296) (h : zs.drop p ++ m = encTags l) : Short zs (labelsR zs ((p : Int), 0, 0)).2 := by
  unfold encTags at h
  unfold labelsR
  rcases cut_app h hm with ⟨m', hm', h1⟩ | ⟨a', h1, h2⟩
  · have hs := numR_cut hp hm' h1
    have hv : (numR zs ((p : Int), 0, 0)).1 = 0 := by
      have := hs.bad
      unfold numR at this ⊢
      split
      · split
        · rename_i h8 h9; rw [if_pos h8, if_pos h9] at this; exact absurd rfl this
        · rfl
      · rfl
    rw [hv, if_neg (by decide)]
    exact tagsR_keeps _ hs
  · have hne : encU (l.length : Int) ≠ [] := by rw [← List.length_pos_iff, encU_length]; have := sizeU_pos (l.length : Int); omega
    rw [numR_at (by omega) (by omega) h1]
    dsimp only
    rw [if_neg (by omega), Int.toNat_natCast]
    have hq := at_app h1
    exact tagsR_cut l m _ (at_le h1 hne) hm hn (by rw [hq]; exact h2)
theorem encU_ne (n : Int) : encU n ≠ [] := by rw [← List.length_pos_iff, encU_length]; have := sizeU_pos n; omega
theorem encTags_ne (l : List Int) : encTags l ≠ [] := by unfold encTags; simp [encU_ne]
theorem restR_cut {zs m : List Int} {p : Nat} {x : Ix} (hx : May x) (hp : p ≤ zs.length) (hm : m ≠ []) (h : zs.drop p ++ m = encRest x) : Short zs (restR zs x.op ((p : Int), 0, 0)).s := by
  rcases kind_cases x.op with hk | hk | hk | hk | hk | hk | hk | hk
  · rw [encRest0 hk] at h; simp at h; exact absurd h.2 hm
  · rw [encRest1 hk] at h
    rw [restR1 hk]
    exact tagR_cut hp (single_cut h hm)
  · rw [encRest2 hk] at h
    rw [restR2 hk]
    exact numR_cut hp hm h
  · rw [encRest3 hk] at h
    rw [restR3 hk]
    rcases cut_app h hm with ⟨m', hm', h1⟩ | ⟨a', h1, h2⟩
    · exact tagR_keeps (numR_cut hp hm' h1)
    · rw [numR_at hx.a.1 hx.a.2 h1]
      dsimp only
      have hq := at_app h1
      exact tagR_cut (at_le h1 (encU_ne _)) (by rw [hq]; exact single_cut h2 hm)
  · rw [encRest4 hk] at h
    rw [restR4 hk]
    rcases cut_app h hm with ⟨m', hm', h1⟩ | ⟨a', h1, h2⟩
    · exact numR_keeps (labelsR_cut hp hm' hx.few hx.tags h1)
    · rw [labelsR_at hx.few hx.tags h1]
      dsimp only
      have hq := at_app h1
      exact numR_cut (at_le h1 (encTags_ne _)) hm (by rw [hq]; exact h2)
  · rw [encRest5 hk] at h
    rw [restR5 hk]
    rcases cut_app h hm with ⟨m', hm', h1⟩ | ⟨a', h1, h2⟩
    · exact numR_keeps (numR_cut hp hm' h1)
    · rw [numR_at hx.a.1 hx.a.2 h1]
      dsimp only
      have hq := at_app h1
      exact numR_cut (at_le h1 (encU_ne _)) hm (by rw [hq]; exact h2)
  · rw [encRest6 hk] at h
    rw [restR6 hk]
    exact tagR_cut hp (single_cut h hm)
  · rw [encRest7 hk] at h
    rw [restR7 hk]
    exact sgnR_cut hp hm h

theorem opR_cut {zs : List Int} {p : Nat} {oth : Bool} {deep : Nat} {cnt : Int} (hp : p ≤ zs.length) (h : zs.drop p = []) : Short zs (opR zs oth deep cnt ((p : Int), 0, 0)).2 := by
  have hb := byteR_cut hp h
  unfold opR
  dsimp only
  (repeat' split) <;> first | exact hb | (rw [refuseR_bad hb.bad]; exact hb)
theorem listF_none {zs : List Int} {p : Nat} {oth : Bool} {deep : Nat} {cnt : Int} (hp : p ≤ zs.length) (h : zs.drop p = []) : Short zs (listF zs deep oth cnt ((p : Int), 0, 0)).s := by
  have hs := opR_cut (oth := oth) (deep := deep) (cnt := cnt) hp h
  rw [listF_eq zs _ _ _ _ (good_at hp)]
  unfold stepG
  rw [if_pos hs.bad]
  exact hs
theorem listF_keeps {zs : List Int} {d : Nat} {o : Bool} {c : Int} {s : Rd} (h : Short zs s) : Short zs (listF zs d o c s).s := by rw [listF_bad h.bad]; exact h

/-- What is cut off of a list and its end. -/
theorem list_cut (zs : List Int) : ∀ (t : Il) (deep : Nat) (oth : Bool) (cnt : Int) (p : Nat) (m : List Int), MayT t → deep + t.deep ≤ 901 → cnt + t.count ≤ 262144 → p ≤ zs.length → m ≠ [] → zs.drop p ++ m = encL t ++ [11] →
    Short zs (listF zs deep oth cnt ((p : Int), 0, 0)).s
  | .nil, deep, oth, cnt, p, m, _, _, _, hp, hm, h => by
    rw [encL, List.nil_append] at h
    exact listF_none hp (single_cut h hm)
  | .cons x l e r, deep, oth, cnt, p, m, hmt, hd, hc, hp, hm, h => by
    obtain ⟨hx, hfl, hfe, ml, me, mr⟩ := hmt
    obtain ⟨hn, hr, h1, h2, h3, h4, h5, h6, h7⟩ := (lawful_iff x).1 hx.law
    obtain ⟨_, _, n5, n11⟩ := name_range hn
    simp only [Il.deep] at hd
    simp only [Il.count] at hc
    have hd1 : deep + 1 + l.deep ≤ 901 := by omega
    have hd2 : deep + 1 + e.deep ≤ 901 := by omega
    have hd3 : deep + r.deep ≤ 901 := by omega
    rw [encL, List.cons_append] at h
    rcases cut_cons h with h0 | ⟨a1, ha1, hq⟩
    · exact listF_none hp h0
    have hlt := (at_cons ha1).1
    have hp1 := (at_cons ha1).2.2
    rw [listF_eq zs _ _ _ _ (good_at hp)]
    unfold stepG
    rw [opR_at hn (by omega) (by omega) ha1]
    dsimp only
    rw [if_neg (by simp), if_neg (by omega)]
    dsimp only
    rw [List.append_assoc, List.append_assoc] at hq
    rcases cut_app hq hm with ⟨m', hm', hq1⟩ | ⟨a2, ha2, hq2⟩
    · have hs := restR_cut (zs := zs) hx (p := p + 1) hlt hm' (by rw [hp1]; exact hq1)
      unfold oneG
      rw [if_neg (fun h => hs.bad h.2)]
      exact listF_keeps hs
    · rw [ha2] at hp1
      have hrest := restR_at hx hp1
      have hp2 := at_app hp1
      have hq2' : p + 1 + (encRest x).length ≤ zs.length := by
        by_cases hne : encRest x = []
        · rw [hne]; simp; omega
        · exact at_le hp1 hne
      unfold oneG
      rw [hrest]
      dsimp only
      by_cases hk : kindP x.op = 1
      · rw [if_pos ⟨hk, rfl⟩]
        rw [if_pos hk, List.append_assoc] at hq2
        rcases cut_app hq2 hm with ⟨m', hm', hq3⟩ | ⟨a3, ha3, hq3⟩
        · have hs := list_cut zs l (deep + 1) (decide (x.op = 4)) (cnt + 1) _ (m' ++ [11]) ml hd1 (by omega) hq2' (by simp) (by rw [hp2, ← List.append_assoc, hq3])
          rw [if_neg (fun h => hs.bad h.1)]
          exact listF_keeps hs
        · rw [ha3] at hp2
          have el := there zs l (deep + 1) (decide (x.op = 4)) (cnt + 1) _ _ ml hd1 (by omega) hq2' hp2
          have hp3 := at_app hp2
          have hle3 : p + 1 + (encRest x).length + (encL l).length ≤ zs.length := by
            by_cases hne : encL l = []
            · rw [hne]; simpa using hq2'
            · exact at_le hp2 hne
          rw [el]
          by_cases he : x.en = 0
          · rw [if_pos he, List.nil_append, List.singleton_append] at hq3
            rcases cut_cons hq3 with h0 | ⟨a4, ha4, hq4⟩
            · have hs := listF_none (oth := decide (x.op = 4)) (deep := deep + 1) (cnt := cnt + 1 + l.count) hle3 (by rw [hp3, h0])
              rw [if_neg (fun h => hs.bad h.1)]
              exact listF_keeps hs
            · rw [ha4] at hp3
              rw [listF_end hp3]
              have hp4 := (at_cons hp3).2.2
              have hlt4 := (at_cons hp3).1
              simp only [Lr.pre]
              rw [if_neg (by simp)]
              dsimp only
              exact list_cut zs r deep oth (cnt + 1 + l.count) _ m mr hd3 (by omega) hlt4 hm (by rw [hp4]; exact hq4)
          · have hop4 : x.op = 4 := by omega
            rw [show decide (x.op = 4) = true by simp [hop4]]
            rw [if_neg he, List.append_assoc, List.cons_append] at hq3
            rcases cut_cons hq3 with h0 | ⟨a4, ha4, hq4⟩
            · have hs := listF_none (oth := true) (deep := deep + 1) (cnt := cnt + 1 + l.count) hle3 (by rw [hp3, h0])
              rw [if_neg (fun h => hs.bad h.1)]
              exact listF_keeps hs
            · rw [ha4] at hp3
              rw [listF_else hp3]
              have hp4 := (at_cons hp3).2.2
              have hlt4 := (at_cons hp3).1
              simp only [Lr.pre]
              rw [if_pos (by simp)]
              dsimp only
              rw [List.singleton_append] at hq4
              rcases cut_app hq4 hm with ⟨m', hm', hq5⟩ | ⟨a5, ha5, hq5⟩
              · have hs := list_cut zs e (deep + 1) false (cnt + 1 + l.count) _ (m' ++ [11]) me hd2 (by omega) hlt4 (by simp) (by rw [hp4, ← List.append_assoc, hq5])
                exact listF_keeps hs
              · rw [ha5] at hp4
                have ee := there zs e (deep + 1) false (cnt + 1 + l.count) _ _ me hd2 (by omega) hlt4 hp4
                have hp5 := at_app hp4
                have hle5 : p + 1 + (encRest x).length + (encL l).length + 1 + (encL e).length ≤ zs.length := by
                  by_cases hne : encL e = []
                  · rw [hne]; exact hlt4
                  · exact at_le hp4 hne
                rw [ee]
                rcases cut_cons hq5 with h0 | ⟨a6, ha6, hq6⟩
                · have hs := listF_none (oth := false) (deep := deep + 1) (cnt := cnt + 1 + l.count + e.count) hle5 (by rw [hp5, h0])
                  exact listF_keeps hs
                · rw [ha6] at hp5
                  rw [listF_end hp5]
                  have hp6 := (at_cons hp5).2.2
                  have hlt6 := (at_cons hp5).1
                  simp only [Lr.pre]
                  exact list_cut zs r deep oth (cnt + 1 + l.count + e.count) _ m mr hd3 (by omega) hlt6 hm (by rw [hp6]; exact hq6)
      · rw [if_neg hk, List.nil_append] at hq2
        rw [if_neg (fun h => hk h.1)]
        dsimp only
        exact list_cut zs r deep oth (cnt + 1) _ m mr hd3 (by omega) hq2' hm (by rw [hp2]; exact hq2)
end Go.Proofs.YtepbjkkakfpjgaaGreatDoor.Body

/-
  BODY: what is got may be, and is put in no more bytes.
-/
namespace Go.Proofs.YtepbjkkakfpjgaaGreatDoor.Body
open Go.Proofs.YtepbjkkakfpjgaaGreatDoor.Leb Go.Proofs.YtepbjkkakfpjgaaGreatDoor.Instr
open Go.Proofs.YtepbjkkakfpjgaaGreatDoor.Kind (Rd numR refuseR startR numR_good numR_bounds refuseR_good getL_next)

section
variable {zs : List Int} (hz : ∀ c ∈ zs, 0 ≤ c ∧ c < 256)
include hz
theorem numR_fit {s : Rd} (h : (numR zs s).2.2.1 = 0) : s.2.1 = 0 ∧ ((encU (numR zs s).1).length : Int) ≤ (numR zs s).2.1 - s.1 ∧ 0 ≤ (numR zs s).1 ∧ (numR zs s).1 < 4294967296 := by
  have hb := numR_bounds (s := s) hz
  refine ⟨(numR_on h).1, ?_, hb⟩
  have h0 := (numR_on h).1
  unfold numR at h ⊢
  rw [if_pos h0] at h ⊢
  split at h
  · rename_i he
    rw [if_pos he]
    have := getL_shortU hz (x := (getL false zs s.1).1) (q := (getL false zs s.1).2.1) (e := (getL false zs s.1).2.2.1) (f := (getL false zs s.1).2.2.2) rfl he
    rw [encU_length]
    simp only
    omega
  · rename_i he; exact absurd h he
theorem sgnR_fit {s : Rd} (h : (sgnR zs s).2.2.1 = 0) : s.2.1 = 0 ∧ ((encS (sgnR zs s).1).length : Int) ≤ (sgnR zs s).2.1 - s.1 ∧ -2147483648 ≤ (sgnR zs s).1 ∧ (sgnR zs s).1 < 2147483648 := by
  refine ⟨(sgnR_on h).1, ?_⟩
  have h0 := (sgnR_on h).1
  unfold sgnR at h ⊢
  rw [if_pos h0] at h ⊢
  split at h
  · rename_i he
    rw [if_pos he]
    have := getL_shortS hz (x := (getL true zs s.1).1) (q := (getL true zs s.1).2.1) (e := (getL true zs s.1).2.2.1) (f := (getL true zs s.1).2.2.2) rfl he
    rw [encS_length]
    simp only
    omega
  · rename_i he; exact absurd h he
theorem tagsR_fit : ∀ (k : Nat) (s : Rd), (tagsR zs k s).2.2.1 = 0 → s.2.1 = 0 ∧ (((tagsR zs k s).1.flatMap encU).length : Int) ≤ (tagsR zs k s).2.1 - s.1 ∧ (tagsR zs k s).1.length = k ∧ ∀ z ∈ (tagsR zs k s).1, 0 ≤ z ∧ z < 4294967296
  | 0, s, h => ⟨h, by simp [tagsR], rfl, by simp [tagsR]⟩
  | k + 1, s, h => by
    have h0 := (tagsR_on (k + 1) s h).1
    unfold tagsR at h ⊢
    rw [if_pos h0] at h ⊢
    obtain ⟨a1, a2, a3, a4⟩ := tagsR_fit k _ h
    obtain ⟨b1, b2, b3⟩ := numR_fit hz a1
    refine ⟨h0, ?_, by simp [a3], ?_⟩
    · simp only [List.flatMap_cons, List.length_append]
      omega
    · intro z hm
      rcases List.mem_cons.1 hm with rfl | hm
      · exact b3
      · exact a4 z hm
theorem labelsR_fit {s : Rd} (h : (labelsR zs s).2.2.1 = 0) : s.2.1 = 0 ∧ ((encTags (labelsR zs s).1).length : Int) ≤ (labelsR zs s).2.1 - s.1 ∧ (labelsR zs s).1.length ≤ 16384 ∧ ∀ z ∈ (labelsR zs s).1, 0 ≤ z ∧ z < 4294967296 := by
  have h0 := (labelsR_on h).1
  unfold labelsR at h ⊢
  by_cases hm : 16384 < (numR zs s).1
  · rw [if_pos hm] at h
    exact absurd (tagsR_fit hz _ _ h).1 (refuse_is_bad (by decide))
  · rw [if_neg hm] at h ⊢
    obtain ⟨a1, a2, a3, a4⟩ := tagsR_fit hz _ _ h
    obtain ⟨b1, b2, b3, b4⟩ := numR_fit hz a1
    refine ⟨h0, ?_, by omega, a4⟩
    unfold encTags
    rw [a3, show (((numR zs s).1.toNat : Nat) : Int) = (numR zs s).1 by omega, List.length_append]
    omega
omit hz in
theorem tagR_fit {ok : Int → Bool} {s : Rd} (hg : Kind.Good zs s) (h : (tagR zs ok s).2.2.1 = 0) : s.2.1 = 0 ∧ (tagR zs ok s).2.1 = s.1 + 1 := by
  unfold tagR at h ⊢
  dsimp only at h ⊢
  split at h
  · rename_i hk
    rw [if_pos hk]
    have := byteR_rem hg h
    exact ⟨this.1, this.2.1⟩
  · exact absurd h (refuse_is_bad (by decide))
omit hz in
theorem lawful_plain {op res a b n : Int} {tags : List Int} (hn : nameL op ≠ []) (hr : res = 0 ∨ res = 1) (h1 : res = 0 ∨ kindP op = 1) (h2 : a = 0 ∨ kindP op = 2 ∨ kindP op = 3 ∨ kindP op = 4 ∨ kindP op = 5) (h3 : b = 0 ∨ kindP op = 5) (h4 : n = 0 ∨ kindP op = 7)
    (h5 : tags.length = 0 ∨ kindP op = 4) : lawfulP (plainX op res a b n tags) = true := (lawful_iff _).2 ⟨hn, hr, h1, h2, h3, h4, h5, .inl rfl, .inl rfl⟩
theorem restR_fit {op : Int} {s : Rd} (hn : nameL op ≠ []) (hg : Kind.Good zs s) (h : (restR zs op s).s.2.1 = 0) :
    May (restR zs op s).x ∧ ((encRest (restR zs op s).x).length : Int) ≤ (restR zs op s).s.1 - s.1 ∧ (restR zs op s).x.ln = 0 ∧ (restR zs op s).x.en = 0 ∧ (restR zs op s).x.bare = (restR zs op s).x := by
  rcases kind_cases op with hk | hk | hk | hk | hk | hk | hk | hk
  · rw [restR0 hk] at h ⊢
    refine ⟨⟨lawful_plain hn (.inl rfl) (.inl rfl) (.inl rfl) (.inl rfl) (.inl rfl) (.inl rfl), ?_, ?_, ?_, ?_, ?_⟩, ?_, rfl, rfl, rfl⟩
    all_goals first | (rw [encRest0 (by exact hk)]; simp) | simp [plainX]
  · rw [restR1 hk] at h ⊢
    obtain ⟨a1, a2⟩ := tagR_fit hg h
    refine ⟨⟨lawful_plain hn (by split <;> simp) (.inr hk) (.inl rfl) (.inl rfl) (.inl rfl) (.inl rfl), ?_, ?_, ?_, ?_, ?_⟩, ?_, rfl, rfl, rfl⟩
    all_goals first | (rw [encRest1 (by exact hk)]; simp; omega) | simp [plainX]
  · rw [restR2 hk] at h ⊢
    obtain ⟨a1, a2, a3⟩ := numR_fit hz h
    refine ⟨⟨lawful_plain hn (.inl rfl) (.inl rfl) (.inr (.inl hk)) (.inl rfl) (.inl rfl) (.inl rfl), a3, ?_, ?_, ?_, ?_⟩, ?_, rfl, rfl, rfl⟩
    all_goals first | (rw [encRest2 (by exact hk)]; exact a2) | simp [plainX]
  · rw [restR3 hk] at h ⊢
    obtain ⟨b1, b2⟩ := tagR_fit (numR_good hg) h
    obtain ⟨a1, a2, a3⟩ := numR_fit hz b1
    refine ⟨⟨lawful_plain hn (.inl rfl) (.inl rfl) (.inr (.inr (.inl hk))) (.inl rfl) (.inl rfl) (.inl rfl), a3, ?_, ?_, ?_, ?_⟩, ?_, rfl, rfl, rfl⟩
    all_goals first | (rw [encRest3 (by exact hk)]; rw [b2, List.length_append]; simp only [plainX, List.length_singleton]; omega) | simp [plainX]
  · rw [restR4 hk] at h ⊢
    obtain ⟨b1, b2, b3⟩ := numR_fit hz h
    obtain ⟨a1, a2, a3, a4⟩ := labelsR_fit hz b1
    refine ⟨⟨lawful_plain hn (.inl rfl) (.inl rfl) (.inr (.inr (.inr (.inl hk)))) (.inl rfl) (.inl rfl) (.inr hk), b3, ?_, ?_, a4, a3⟩, ?_, rfl, rfl, rfl⟩
    all_goals first | (rw [encRest4 (by exact hk)]; rw [List.length_append]; simp only [plainX]; omega) | simp [plainX]
  · rw [restR5 hk] at h ⊢
    obtain ⟨b1, b2, b3⟩ := numR_fit hz h
    obtain ⟨a1, a2, a3⟩ := numR_fit hz b1
    refine ⟨⟨lawful_plain hn (.inl rfl) (.inl rfl) (.inr (.inr (.inr (.inr hk)))) (.inr hk) (.inl rfl) (.inl rfl), a3, b3, ?_, ?_, ?_⟩, ?_, rfl, rfl, rfl⟩
    all_goals first | (rw [encRest5 (by exact hk)]; rw [List.length_append]; simp only [plainX]; omega) | simp [plainX]
  · rw [restR6 hk] at h ⊢
    obtain ⟨a1, a2⟩ := tagR_fit hg h
    refine ⟨⟨lawful_plain hn (.inl rfl) (.inl rfl) (.inl rfl) (.inl rfl) (.inl rfl) (.inl rfl), ?_, ?_, ?_, ?_, ?_⟩, ?_, rfl, rfl, rfl⟩
    all_goals first | (rw [encRest6 (by exact hk)]; simp; omega) | simp [plainX]
  · rw [restR7 hk] at h ⊢
    obtain ⟨a1, a2, a3⟩ := sgnR_fit hz h
    refine ⟨⟨lawful_plain hn (.inl rfl) (.inl rfl) (.inl rfl) (.inl rfl) (.inr hk) (.inl rfl), ?_, ?_, a3, ?_, ?_⟩, ?_, rfl, rfl, rfl⟩
    all_goals first | (rw [encRest7 (by exact hk)]; exact a2) | simp [plainX]
omit hz in
/-- An operation that is no end has a name, and there is room for it. -/
theorem opR_name {oth : Bool} {deep : Nat} {cnt : Int} {s : Rd} (h0 : (opR zs oth deep cnt s).2.2.1 = 0) (h1 : (opR zs oth deep cnt s).1 ≠ 11) (h2 : (opR zs oth deep cnt s).1 ≠ 5) :
    nameL (opR zs oth deep cnt s).1 ≠ [] ∧ deep ≤ 900 ∧ cnt < 262144 := by
  unfold opR at h0 h1 h2 ⊢
  dsimp only at h0 h1 h2 ⊢
  rw [if_neg (fun h => by rcases h with h | h; exact h1 h; exact h2 h.1)] at h0
  split at h0
  · exact absurd h0 (refuse_is_bad (by decide))
  · rename_i hn
    split at h0
    · exact absurd h0 (refuse_is_bad (by decide))
    · rename_i hd
      exact ⟨hn, by omega, by omega⟩
/-- What is got. -/
structure Fit (deep : Nat) (oth : Bool) (cnt : Int) (s : Rd) (r : Lr) : Prop where
  may : MayT r.t
  bare : r.t.bare = r.t
  n : r.n = cnt + r.t.count
  few : r.t = .nil ∨ (r.n ≤ 262144 ∧ deep + r.t.deep ≤ 901)
  less : ((encL r.t).length : Int) + 1 ≤ r.s.1 - s.1
  q : r.q = 11 ∨ (r.q = 5 ∧ oth = true)
omit hz in
theorem may_hold {x : Ix} {l e : Il} (hx : May x) (hk : kindP x.op = 1) (he : e.len = 0 ∨ x.op = 4) : May (Ix.hold x l e) := by
  obtain ⟨hn, hr, k1, k2, k3, k4, k5, k6, k7⟩ := (lawful_iff x).1 hx.law
  exact ⟨(lawful_iff _).2 ⟨hn, hr, k1, k2, k3, k4, k5, .inr hk, by rcases he with he | he; exact .inl he; exact .inr ⟨hk, he⟩⟩, hx.a, hx.b, hx.n, hx.tags, hx.few⟩
theorem list_fit : ∀ (n : Nat) (deep : Nat) (oth : Bool) (cnt : Int) (s : Rd), Kind.Good zs s → rem zs s ≤ n → (listF zs deep oth cnt s).s.2.1 = 0 → Fit deep oth cnt s (listF zs deep oth cnt s) := by
  intro n
  induction n with
  | zero =>
    intro deep oth cnt s hg hn h
    have hb : s.2.1 ≠ 0 := by intro h; unfold rem at hn; rw [if_pos h] at hn; omega
    rw [listF_bad hb] at h
    exact absurd h hb
  | succ n ih =>
    intro deep oth cnt s hg hn h
    rw [listF_eq zs _ _ _ _ hg] at h ⊢
    unfold stepG at h ⊢
    obtain ⟨op, s1, ho⟩ : ∃ op s1, opR zs oth deep cnt s = (op, s1) := ⟨_, _, rfl⟩
    have hg1 : Kind.Good zs s1 := by have := opR_good (oth := oth) (deep := deep) (cnt := cnt) hg; rw [ho] at this; exact this
    have hname := opR_name (zs := zs) (oth := oth) (deep := deep) (cnt := cnt) (s := s)
    have hfive := opR_five (zs := zs) (oth := oth) (deep := deep) (cnt := cnt) (s := s)
    have hrem := opR_rem (oth := oth) (deep := deep) (cnt := cnt) hg
    have hless := opR_less (oth := oth) (deep := deep) (cnt := cnt) hg
    rw [ho] at h hname hfive hrem hless ⊢
    dsimp only at h hname hfive hrem hless ⊢
    by_cases h0 : s1.2.1 = 0
    · rw [if_neg (by simp [h0])] at h ⊢
      obtain ⟨m1, _, _, m4, m5⟩ := hrem h0
      have hless := hless h0
      by_cases hq : op = 11 ∨ op = 5
      · rw [if_pos hq]
        refine ⟨trivial, rfl, by simp [Il.count], .inl rfl, by simp only [encL, List.length_nil]; omega, ?_⟩
        rcases hq with hq | hq
        · exact .inl hq
        · exact .inr ⟨hq, hfive h0 hq⟩
      · rw [if_neg hq] at h ⊢
        obtain ⟨hnm, hd9, hc9⟩ := hname h0 (fun h => hq (.inl h)) (fun h => hq (.inr h))
        have hg2 : Kind.Good zs (restR zs op s1).s := restR_good hg1
        have hle2 : rem zs (restR zs op s1).s ≤ rem zs s1 := (restR_on (op := op) hg1).rem zs
        -- the list goes on behind this one
        have goon : ∀ (o : Or), Kind.Good zs o.s → rem zs o.s ≤ rem zs s1 → (listF zs deep oth o.n o.s).s.2.1 = 0 → (May o.x ∧ o.l.len = o.x.ln ∧ o.e.len = o.x.en ∧ MayT o.l ∧ MayT o.e ∧ o.x.bare = o.x ∧ o.l.bare = o.l ∧ o.e.bare = o.e) →
            o.n = cnt + 1 + o.l.count + o.e.count → o.n ≤ 262144 → deep + 1 + o.l.deep ≤ 901 → deep + 1 + o.e.deep ≤ 901 →
            ((encL (.cons o.x o.l o.e .nil)).length : Int) ≤ o.s.1 - s.1 →
            Fit deep oth cnt s ⟨.cons o.x o.l o.e (listF zs deep oth o.n o.s).t, (listF zs deep oth o.n o.s).q, (listF zs deep oth o.n o.s).n, (listF zs deep oth o.n o.s).s⟩ := by
          intro o hgo hro hok hmay hcn hmost hdl hde hlen
          obtain ⟨f1, f2, f3, f4, f5, f6⟩ := ih deep oth o.n o.s hgo (by omega) hok
          obtain ⟨g1, g2, g3, g4, g5, g6, g7, g8⟩ := hmay
          refine ⟨⟨g1, g2, g3, g4, g5, f1⟩, by simp only [Il.bare, g6, g7, g8, f2], by simp only [Il.count]; omega, .inr ⟨?_, ?_⟩, ?_, f6⟩
          · rcases f4 with f4 | f4
            · simp only [f4, Il.count] at f3; simp only; omega
            · exact f4.1
          · rcases f4 with f4 | f4
            · simp only [Il.deep, f4]; omega
            · simp only [Il.deep]; omega
          · simp only [encL, List.length_cons, List.length_append, List.length_nil] at hlen ⊢
            omega
        by_cases hr0 : (restR zs op s1).s.2.1 = 0
        · obtain ⟨r1, r2, r3, r4, r5⟩ := restR_fit hz hnm hg1 hr0
          by_cases hk : kindP op = 1
          · unfold oneG at h ⊢
            rw [if_pos ⟨hk, hr0⟩] at h ⊢
            have hop : (restR zs op s1).x.op = op := restR_op
            have F1 := listF_fine zs (deep + 1) (decide (op = 4)) (cnt + 1) _ hg2
            have I1 := ih (deep + 1) (decide (op = 4)) (cnt + 1) _ hg2 (by omega)
            obtain ⟨l, hl⟩ : ∃ l, listF zs (deep + 1) (decide (op = 4)) (cnt + 1) (restR zs op s1).s = l := ⟨_, rfl⟩
            rw [hl] at h F1 I1 ⊢
            have hF1 := F1.2.rem zs
            by_cases hq5 : l.s.2.1 = 0 ∧ l.q = 5
            · rw [if_pos hq5] at h ⊢
              dsimp only at h ⊢
              obtain ⟨i1, i2, i3, i4, i5, i6⟩ := I1 hq5.1
              have hop4 : op = 4 := by
                rcases i6 with i6 | i6
                · have := hq5.2; omega
                · simpa using i6.2
              have F2 := listF_fine zs (deep + 1) false l.n _ F1.1
              have I2 := ih (deep + 1) false l.n _ F1.1 (by omega)
              obtain ⟨e, he⟩ : ∃ e, listF zs (deep + 1) false l.n l.s = e := ⟨_, rfl⟩
              rw [he] at h F2 I2 ⊢
              have hF2 := F2.2.rem zs
              have hes : e.s.2.1 = 0 := by
                have := (listF_fine zs deep oth e.n _ F2.1).2 h
                exact this.1
              obtain ⟨j1, j2, j3, j4, j5, j6⟩ := I2 hes
              refine goon ⟨Ix.hold (restR zs op s1).x l.t e.t, l.t, e.t, e.n, e.s⟩ F2.1 (by simp only; omega) h ⟨may_hold r1 (by rw [hop]; exact hk) (.inr (by rw [hop]; exact hop4)), rfl, rfl, i1, j1, rfl, i2, j2⟩ (by simp only; omega) ?_ ?_ ?_ ?_
              · simp only
                rcases j4 with j4 | j4
                · rw [j4] at j3; simp only [Il.count] at j3
                  rcases i4 with i4 | i4
                  · rw [i4] at i3; simp only [Il.count] at i3; omega
                  · omega
                · exact j4.1
              · simp only
                rcases i4 with i4 | i4
                · rw [i4]; simp only [Il.deep]; omega
                · exact i4.2
              · simp only
                rcases j4 with j4 | j4
                · rw [j4]; simp only [Il.deep]; omega
                · exact j4.2
              · have hrest : encRest (Ix.hold (restR zs op s1).x l.t e.t) = encRest (restR zs op s1).x := rfl
                simp only [encL, List.length_cons, List.length_append, List.length_nil, hrest]
                rw [if_pos (show kindP (Ix.hold (restR zs op s1).x l.t e.t).op = 1 by rw [← hk]; exact congrArg kindP hop)]
                by_cases hen : (Ix.hold (restR zs op s1).x l.t e.t).en = 0
                · rw [if_pos hen]; simp only [List.length_append, List.length_nil, List.length_singleton]; omega
                · rw [if_neg hen]; simp only [List.length_append, List.length_cons, List.length_nil]; omega
            · rw [if_neg hq5] at h ⊢
              dsimp only at h ⊢
              have hls : l.s.2.1 = 0 := by
                have := (listF_fine zs deep oth l.n _ F1.1).2 h
                exact this.1
              obtain ⟨i1, i2, i3, i4, i5, i6⟩ := I1 hls
              refine goon ⟨Ix.hold (restR zs op s1).x l.t .nil, l.t, .nil, l.n, l.s⟩ F1.1 (by simp only; omega) h ⟨may_hold r1 (by rw [hop]; exact hk) (.inl rfl), rfl, rfl, i1, trivial, rfl, i2, rfl⟩ (by simp only [Il.count]; omega) ?_ ?_ ?_ ?_
              · simp only
                rcases i4 with i4 | i4
                · rw [i4] at i3; simp only [Il.count] at i3; omega
                · exact i4.1
              · simp only
                rcases i4 with i4 | i4
                · rw [i4]; simp only [Il.deep]; omega
                · exact i4.2
              · simp only [Il.deep]; omega
              · have hrest : encRest (Ix.hold (restR zs op s1).x l.t .nil) = encRest (restR zs op s1).x := rfl
                simp only [encL, List.length_cons, List.length_append, List.length_nil, hrest]
                rw [if_pos (show kindP (Ix.hold (restR zs op s1).x l.t .nil).op = 1 by rw [← hk]; exact congrArg kindP hop), if_pos (show (Ix.hold (restR zs op s1).x l.t .nil).en = 0 from rfl)]
                simp only [List.length_append, List.length_nil, List.length_singleton]; omega
          · unfold oneG at h ⊢
            rw [if_neg (fun h => hk h.1)] at h ⊢
            refine goon ⟨(restR zs op s1).x, .nil, .nil, cnt + 1, (restR zs op s1).s⟩ hg2 hle2 h ⟨r1, r3.symm, r4.symm, trivial, trivial, r5, rfl, rfl⟩ (by simp only [Il.count]; omega) (by simp only; omega) (by simp only [Il.deep]; omega) (by simp only [Il.deep]; omega) ?_
            simp only [encL, List.length_cons, List.length_append, List.length_nil]
            rw [if_neg (by rw [restR_op]; exact hk)]
            simp only [List.length_nil]; omega
        · exfalso
          unfold oneG at h
          rw [if_neg (fun h => hr0 h.2)] at h
          dsimp only at h
          rw [listF_bad hr0] at h
          exact hr0 h
    · rw [if_pos h0] at h
      exact absurd h h0
end
theorem list_back {zs : List Int} (hz : ∀ c ∈ zs, 0 ≤ c ∧ c < 256) {deep : Nat} {oth : Bool} {cnt : Int} {s : Rd} (hg : Kind.Good zs s) (h : (listF zs deep oth cnt s).s.2.1 = 0) : Fit deep oth cnt s (listF zs deep oth cnt s) := list_fit hz _ deep oth cnt s hg (Nat.le_refl _) h
end Go.Proofs.YtepbjkkakfpjgaaGreatDoor.Body

/-
  BODY: the reader's small methods by contracts: faulty, refuse; slices.Contains of bytes.
-/
namespace Go.Proofs.YtepbjkkakfpjgaaGreatDoor.Body
open Go.RowKit
open Go.Proofs.YtepbjkkakfpjgaaGreatDoor.Kind (Rd numR refuseR startR numR_good numR_bounds refuseR_good getL_next)

/-- The reader in block k: over the bytes of v, in the state s. -/
structure RdIs (w : World) (k : Nat) (v : Value) (s : Rd) : Prop where
  c0 : w.cell? ⟨k, 0, none⟩ = some v
  c1 : w.cell? ⟨k, 1, none⟩ = some (.int .i64 s.1)
  c2 : w.cell? ⟨k, 2, none⟩ = some (.int .i64 s.2.1)
  c3 : w.cell? ⟨k, 3, none⟩ = some (.int .i64 s.2.2)
  f0 : w.frozen? ⟨k, 0, none⟩ = false
  f1 : w.frozen? ⟨k, 1, none⟩ = false
  f2 : w.frozen? ⟨k, 2, none⟩ = false
  f3 : w.frozen? ⟨k, 3, none⟩ = false
theorem RdIs.below {w w' : World} {k : Nat} {v : Value} {s : Rd} (h : RdIs w k v s) (hb : Below w.heap.size w w') : RdIs w' k v s := by
  have hk := World.block_lt_of_cell? w _ h.c0
  exact ⟨keep hb h.c0, keep hb h.c1, keep hb h.c2, keep hb h.c3, (hb.frozen (p := ⟨k, 0, none⟩) hk).trans h.f0, (hb.frozen (p := ⟨k, 1, none⟩) hk).trans h.f1, (hb.frozen (p := ⟨k, 2, none⟩) hk).trans h.f2, (hb.frozen (p := ⟨k, 3, none⟩) hk).trans h.f3⟩
theorem RdIs.save {w w' : World} {k j : Nat} {v : Value} {s : Rd} (h : RdIs w k v s) (hb : Save j w w') (hj : k ≠ j) : RdIs w' k v s := by
  have hk := World.block_lt_of_cell? w _ h.c0
  exact ⟨hb.cell hj h.c0, hb.cell hj h.c1, hb.cell hj h.c2, hb.cell hj h.c3, hb.frozen hk hj h.f0, hb.frozen hk hj h.f1, hb.frozen hk hj h.f2, hb.frozen hk hj h.f3⟩

/-- What a method does: this it hands back, in this state it leaves the reader; nothing else turns. -/
def Does (k : Nat) (v : Value) (w : World) (r : Value) (s : Rd) (e : Ending) (w' : World) : Prop := e = .returned r ∧ RdIs w' k v s ∧ Save k w w'

/-- Where a byte stands in a list: some number that is not below 0 just if it does. -/
def Finds (ls : List Int) (x : Int) (w : World) (e : Ending) (w' : World) : Prop := ∃ j : Int, e = .returned (.int .i64 j) ∧ decide (0 ≤ j) = ls.contains x ∧ w = w'
theorem contains_drop {ls : List Int} {x : Int} {i : Nat} (hi : i < ls.length) (h : (ls.drop i).contains x = ls.contains x) (hx : x ≠ ls.getD i 0) : (ls.drop (i + 1)).contains x = ls.contains x := by
  rw [← h, drop_at hi, List.contains_cons]
  have : (x == ls.getD i 0) = false := by simpa using hx
  rw [this, Bool.false_or]
theorem contains_here {ls : List Int} {x : Int} {i : Nat} (hi : i < ls.length) (h : (ls.drop i).contains x = ls.contains x) (hx : x = ls.getD i 0) : ls.contains x = true := by
  rw [← h, drop_at hi, List.contains_cons, hx]
  simp
end Go.Proofs.YtepbjkkakfpjgaaGreatDoor.Body

/-
  BODY: the reader's one, oneOf, newReader, by contract.
-/
namespace Go.Proofs.YtepbjkkakfpjgaaGreatDoor.Body
open Go.RowKit
open Go.Proofs.YtepbjkkakfpjgaaGreatDoor.Kind (Rd numR refuseR startR numR_good numR_bounds refuseR_good getL_next)

theorem drewB (w : World) (n : Nat) : Below w.heap.size w (w.drewN n) := ⟨rfl, rfl, rfl, Nat.le_refl _, fun _ _ => rfl⟩
theorem Does.of_save {k : Nat} {v r : Value} {w w0 w' : World} {s : Rd} {e : Ending} (h0 : Save k w w0) (h : Does k v w0 r s e w') : Does k v w r s e w' := ⟨h.1, h.2.1, h0.trans h.2.2⟩

/-- A new reader in the next block. -/
def NewR (w : World) (v : Value) (s : Rd) (e : Ending) (w' : World) : Prop := e = .returned (.pointer (some ⟨w.heap.size, 0, none⟩)) ∧ RdIs w' w.heap.size v s ∧ Below w.heap.size w w'

theorem rd_new (w : World) (v : Value) (p : Int) (t : TypeId) : RdIs (w.alloc (.cells #[v, .int .i64 p, .int .i64 0, .int .i64 0] t)) w.heap.size v (p, 0, 0) := by
  refine ⟨?_, ?_, ?_, ?_, ?_, ?_, ?_, ?_⟩ <;> go_simp

end Go.Proofs.YtepbjkkakfpjgaaGreatDoor.Body

/-
  BODY: the reader's unsigned and signed, by contract. (tools/gen_bodynum.py)
-/
namespace Go.Proofs.YtepbjkkakfpjgaaGreatDoor.Body
open Go.RowKit Go.Proofs.YtepbjkkakfpjgaaGreatDoor.Leb
open Go.Proofs.YtepbjkkakfpjgaaGreatDoor.Kind (Rd numR refuseR startR numR_good numR_bounds refuseR_good getL_next)

theorem keepN {w w' : World} {x y : Value} {k : Nat} (c0 : w.cell? ⟨k, 0, none⟩ = some x) (c1 : w.cell? ⟨k, 1, none⟩ = some y) (hb : Below w.heap.size w w') :
    Below w.heap.size w w' ∧ w'.cell? ⟨k, 0, none⟩ = some x ∧ w'.cell? ⟨k, 1, none⟩ = some y := ⟨hb, keep hb c0, keep hb c1⟩
theorem box_out {w w1 : World} {x y : Value} {k : Nat} (h : Below w.heap.size w w1 ∧ w1.cell? ⟨k, 0, none⟩ = some x ∧ w1.cell? ⟨k, 1, none⟩ = some y) : Below w.heap.size w w1 := h.1
theorem number_end {w W : World} {k : Nat} {v r : Value} {p q : Int} (h : RdIs w k v (p, 0, 0)) (hb : Below w.heap.size w W) : Does k v w r (q, 0, 0) (.returned r) (W.setCell ⟨k, 1, none⟩ (.int .i64 q)) := by
  have h1 := h.below hb
  refine ⟨rfl, ?_, (Save.of_below hb).setCell (p := ⟨k, 1, none⟩) (.inl rfl) _⟩
  refine ⟨?_, ?_, ?_, ?_, ?_, ?_, ?_, ?_⟩ <;> simp [go_sem, h1.c0, h1.c1, h1.c2, h1.c3, h1.f0, h1.f1, h1.f2, h1.f3]
theorem Does.alloc {k : Nat} {v r : Value} {w w' : World} {s : Rd} {e : Ending} (h : Does k v w r s e w') (o : Obj) : Does k v w r s e (w'.alloc o) :=
  ⟨h.1, h.2.1.below ((Below.refl _ _).alloc (Nat.le_refl _) o), h.2.2.alloc o⟩

end Go.Proofs.YtepbjkkakfpjgaaGreatDoor.Body
