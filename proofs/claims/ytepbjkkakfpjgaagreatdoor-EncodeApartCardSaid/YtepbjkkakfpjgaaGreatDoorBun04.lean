import Derived.Test.YtepbjkkakfpjgaaGreatDoorBun01
import Derived.Test.YtepbjkkakfpjgaaGreatDoorBun03
import Derived.BigQuiet
import Derived.Deep.RegionHeld3
import Derived.RangeFuncNested
import Derived.RangeFuncBound
import Derived.RangeFuncCalls
import Derived.RangeFuncLeaves
import Derived.Laws.OwnMore
import Derived.WalkSmall
import Derived.Deep.AppendLies
import Derived.RegionTactic
import Derived.Deep.RegionHeldLaw
import Derived.Deep.RegionLaw
/-
  INSTR: Name, Align, used, shapeOf and Shape by contracts.
-/
namespace Go.Proofs.YtepbjkkakfpjgaaGreatDoor.Instr
open Go.RowKit

theorem drewN {B n : Nat} {a w : World} (h : Below B a w) : Below B a (w.drewN n) := ⟨h.os, h.tape, h.output, h.size, h.block⟩
/-- The table of names lies as it was laid. -/
def Nams (w : World) : Prop := ∀ j, j < 121 → w.cell? ⟨0, j, none⟩ = some (.string (strOfNums (nameTab.getD j [])))
theorem Nams.below {w w' : World} (h : Nams w) (hb : Below w.heap.size w w') : Nams w' := fun j hj => keep hb (h j hj)

theorem Name_any (op : Int) (w : World) (hT : Nams w) : Calls Tryz.prog 203 #[.int .i64 op] w fun e w' => e = .returned (.string (strOfNums (nameL op))) ∧ w = w' := by
  by_cases h : 0 ≤ op ∧ op < 121
  · have hc := hT op.toNat (by omega)
    have hn : nameTab.getD op.toNat [] = nameL op := by unfold nameL; rw [if_pos h]
    rw [hn] at hc
    obtain ⟨v, hv⟩ : ∃ v, strOfNums (nameL op) = v := ⟨_, rfl⟩
    rw [hv] at hc ⊢
    obtain ⟨h0, h1⟩ := h
    clear hv hT hn
    go_enter Tryz.func203, Tryz.ntmps203
    go_wp2
    go_ret
    exact ⟨rfl, rfl⟩
  · have hn : nameL op = [] := by unfold nameL; rw [if_neg h]
    rw [hn]
    clear hn hT
    have h' : op < 0 ∨ 121 ≤ op := by omega
    clear h
    rcases h' with h' | h'
    all_goals
      go_enter Tryz.func203, Tryz.ntmps203
      go_wp2
      go_ret
      exact ⟨rfl, rfl⟩

/-- Aligned by what, at most; and whether an operation loads or stores. -/
def alignP (op : Int) : Int := if op = 40 ∨ op = 54 then 2 else if op = 46 ∨ op = 47 ∨ op = 59 then 1 else 0
def storedP (op : Int) : Bool := decide (op = 40 ∨ op = 54 ∨ op = 46 ∨ op = 47 ∨ op = 59 ∨ op = 44 ∨ op = 45 ∨ op = 58)
theorem Align_any (op : Int) (w : World) : Calls Tryz.prog 221 #[.int .i64 op] w fun e w' => e = .returned (.tuple #[.int .u32 (alignP op), .bool (storedP op)]) ∧ w = w' := by
  obtain ⟨u, hu⟩ : ∃ u, alignP op = u := ⟨_, rfl⟩
  obtain ⟨v, hv⟩ : ∃ v, storedP op = v := ⟨_, rfl⟩
  rw [hu, hv]
  have HU := hid hu
  have HV := hid hv
  clear hu hv
  go_enter Tryz.func221, Tryz.ntmps221
  go_wp2
  all_goals go_ret2
  all_goals
    refine ⟨?_, rfl⟩
    have hu := HU.out
    have hv := HV.out
    clear HU HV
    simp only [beq_iff_eq, beq_eq_false_iff_ne, ne_eq] at *
    subst hu hv
    refine congrArg Ending.returned (congrArg Value.tuple ?_)
    simp [alignP, storedP, *]
theorem used_any (op : Int) (w : World) : Calls Tryz.prog 205 #[.int .i64 op] w fun e w' => e = .returned (.int .u8 (usedP op)) ∧ w = w' := by
  have CA := Align_any op w
  obtain ⟨u, hu⟩ : ∃ u, alignP op = u := ⟨_, rfl⟩
  rw [hu] at CA
  clear hu
  obtain ⟨v, hv⟩ : ∃ v, usedP op = v := ⟨_, rfl⟩
  rw [hv]
  have HV := hid hv
  clear hv
  cases hs : storedP op
  all_goals
    rw [hs] at CA
    have HS := hid hs
    have C := hid CA
    clear hs CA
    go_enter Tryz.func205, Tryz.ntmps205
    go_wp2_with fail
    refine C.out.mono ?_
    clear C
    rintro e w1 ⟨rfl, rfl⟩
    go_wp2
  all_goals go_ret
  all_goals
    refine ⟨?_, rfl⟩
    have hv := HV.out
    have hs := HS.out
    clear HV HS
    simp only [beq_iff_eq, beq_eq_false_iff_ne, ne_eq] at *
    subst hv
    refine ret_int ?_
    simp only [storedP, decide_eq_true_eq, decide_eq_false_iff_not] at hs
    unfold usedP
    (repeat' split) <;> first | rfl | (exfalso; omega)
end Go.Proofs.YtepbjkkakfpjgaaGreatDoor.Instr

/-
  INSTR: filled and lawful by contracts.
-/
namespace Go.Proofs.YtepbjkkakfpjgaaGreatDoor.Instr
open Go.RowKit

def Ix.vals (x : Ix) : Array Value := #[.int .i64 x.op, .int .i64 x.res, .int .u32 x.a, .int .u32 x.b, .int .i32 x.n, .slice x.ta x.tags.length x.tc, .slice x.la x.ln x.lc, .slice x.ea x.en x.ec]
/-- What a field of an instruction may hold. -/
structure Ix.ok (x : Ix) : Prop where
  op : -9223372036854775808 ≤ x.op ∧ x.op ≤ 9223372036854775807
  res : -9223372036854775808 ≤ x.res ∧ x.res ≤ 9223372036854775807
  a : 0 ≤ x.a ∧ x.a < 4294967296
  b : 0 ≤ x.b ∧ x.b < 4294967296
  n : -2147483648 ≤ x.n ∧ x.n < 2147483648
  tags : ∀ z ∈ x.tags, 0 ≤ z ∧ z < 4294967296
  tn : x.tags.length ≤ 140737488351232
  ln : x.ln ≤ 140737488351232
  en : x.en ≤ 140737488351232

/-- An instruction in a block of its own. -/
structure At (x : Ix) (g : Nat) (w : World) : Prop where
  c0 : w.cell? ⟨g, 0, none⟩ = some (.int .i64 x.op)
  c1 : w.cell? ⟨g, 1, none⟩ = some (.int .i64 x.res)
  c2 : w.cell? ⟨g, 2, none⟩ = some (.int .u32 x.a)
  c3 : w.cell? ⟨g, 3, none⟩ = some (.int .u32 x.b)
  c4 : w.cell? ⟨g, 4, none⟩ = some (.int .i32 x.n)
  c5 : w.cell? ⟨g, 5, none⟩ = some (.slice x.ta x.tags.length x.tc)
  c6 : w.cell? ⟨g, 6, none⟩ = some (.slice x.la x.ln x.lc)
  c7 : w.cell? ⟨g, 7, none⟩ = some (.slice x.ea x.en x.ec)
theorem At.save {x : Ix} {g k : Nat} {w w' : World} (h : At x g w) (hs : Save k w w') (hk : g ≠ k) : At x g w' :=
  ⟨hs.cell hk h.c0, hs.cell hk h.c1, hs.cell hk h.c2, hs.cell hk h.c3, hs.cell hk h.c4, hs.cell hk h.c5, hs.cell hk h.c6, hs.cell hk h.c7⟩
theorem At.below {x : Ix} {g : Nat} {w w' : World} (h : At x g w) (hb : Below w.heap.size w w') : At x g w' :=
  ⟨keep hb h.c0, keep hb h.c1, keep hb h.c2, keep hb h.c3, keep hb h.c4, keep hb h.c5, keep hb h.c6, keep hb h.c7⟩
theorem At.made (x : Ix) (w : World) : At x w.heap.size (w.alloc (.cells x.vals 126)) := by
  constructor <;> simp [Ix.vals, go_sem]

/-- What has been found so far. -/
structure Fil (w0 : World) (x : Ix) (u : Int) (w : World) : Prop where
  below : Below w0.heap.size w0 w
  at_ : At x w0.heap.size w
  out : w.cell? ⟨w0.heap.size + 1, 0, none⟩ = some (.int .u8 u)
  frozen : w.frozen? ⟨w0.heap.size + 1, 0, none⟩ = false
theorem add_any (w0 : World) (x : Ix) (b : Bool) (k : Int) (u : Int) (w : World) (h : Fil w0 x u w) :
    Calls Tryz.prog 220 #[.bool b, .int .u8 k, .pointer (some ⟨w0.heap.size + 1, 0, none⟩)] w fun e w' => (∃ v, e = .returned v) ∧ ∃ u', Hid ((if b then bits .or .u8 u k else u) = u') ∧ Fil w0 x u' w' := by
  obtain ⟨hb, ha, hc, hf⟩ := h
  obtain ⟨g, hg⟩ : ∃ g, w0.heap.size + 1 = g := ⟨_, rfl⟩
  have HG := hid hg
  rw [hg] at hc hf ⊢
  clear hg
  cases b
  · go_enter Tryz.func220, Tryz.ntmps220
    go_wp2
    go_end0
    exact ⟨⟨_, rfl⟩, u, rfl, hb, ha, by rw [HG.out]; exact hc, by rw [HG.out]; exact hf⟩
  · go_enter Tryz.func220, Tryz.ntmps220
    go_wp2
    go_end0
    have hg := HG.out
    have hs : Save g w (w.setCell ⟨g, 0, none⟩ (.int .u8 (bits .or .u8 u k))) := (Save.refl g w).setCell (.inl rfl) _
    refine ⟨⟨_, rfl⟩, bits .or .u8 u k, rfl, hb.trans (hs.below hb.size (by omega)), ha.save hs (by omega), ?_, ?_⟩
    · rw [hg]; simp [go_sem, hc]
    · rw [hg]; simp [go_sem, hf]
theorem add_fills (b1 b2 b3 b4 b5 b6 b7 : Bool) : ∀ u1 u2 u3 u4 u5 u6 : Int, (if b1 then bits .or .u8 0 1 else 0) = u1 → (if b2 then bits .or .u8 u1 2 else u1) = u2 → (if b3 then bits .or .u8 u2 4 else u2) = u3 → (if b4 then bits .or .u8 u3 8 else u3) = u4 →
    (if b5 then bits .or .u8 u4 16 else u4) = u5 → (if b6 then bits .or .u8 u5 32 else u5) = u6 → (if b7 then bits .or .u8 u6 64 else u6) = bit b1 1 + bit b2 2 + bit b3 4 + bit b4 8 + bit b5 16 + bit b6 32 + bit b7 64 := by
  intro u1 u2 u3 u4 u5 u6 h1 h2 h3 h4 h5 h6
  subst h1 h2 h3 h4 h5 h6
  cases b1 <;> cases b2 <;> cases b3 <;> cases b4 <;> cases b5 <;> cases b6 <;> cases b7 <;> rfl
set_option maxHeartbeats 1000000 in
theorem filled_any (x : Ix) (w : World) : Calls Tryz.prog 204 #[.agg x.vals] w fun e w' => e = .returned (.int .u8 (filledP x)) ∧ Below w.heap.size w w' := by
  have hmf : ∀ (fn : Fn) (first cap : Array Value) (w : World), (Instr.makeFunc fn first cap).run Tryz.prog w = .ok (.func fn first cap) w := fun fn first cap w => by simp [Instr.makeFunc, go_sem]
  obtain ⟨u, hu⟩ : ∃ u, filledP x = u := ⟨_, rfl⟩
  rw [hu]
  have HU := hid hu
  clear hu
  unfold Ix.vals
  go_enter Tryz.func204, Tryz.ntmps204
  go_wp2_with fail
  have hF0 : Fil w x 0 ((w.alloc (.cells x.vals 126)).alloc (.cells #[.int .u8 0] 209)) := by
    refine ⟨thenA (thenA (Below.refl _ _) _) _, (At.made x w).below ((Below.refl _ _).alloc (Nat.le_refl _) _), ?_, ?_⟩ <;> simp [go_sem]
  refine (add_any w x _ 1 _ _ hF0).mono ?_
  clear hF0
  rintro e w1 ⟨⟨v1, rfl⟩, u1, hu1, hF1⟩
  obtain ⟨ab1, at1, ao1, af1⟩ := hF1
  have hF1 : Fil w x u1 w1 := ⟨ab1, at1, ao1, af1⟩
  obtain ⟨c0, c1, c2, c3, c4, c5, c6, c7⟩ := at1
  go_wp2_with fail
  clear c0 c1 c2 c3 c4 c5 c6 c7 ao1 af1
  refine (add_any w x _ 2 _ _ hF1).mono ?_
  clear hF1
  rintro e w2 ⟨⟨v2, rfl⟩, u2, hu2, hF2⟩
  obtain ⟨ab2, at2, ao2, af2⟩ := hF2
  have hF2 : Fil w x u2 w2 := ⟨ab2, at2, ao2, af2⟩
  obtain ⟨c0, c1, c2, c3, c4, c5, c6, c7⟩ := at2
  go_wp2_with fail
  clear c0 c1 c2 c3 c4 c5 c6 c7 ao2 af2
  refine (add_any w x _ 4 _ _ hF2).mono ?_
  clear hF2
  rintro e w3 ⟨⟨v3, rfl⟩, u3, hu3, hF3⟩
  obtain ⟨ab3, at3, ao3, af3⟩ := hF3
  have hF3 : Fil w x u3 w3 := ⟨ab3, at3, ao3, af3⟩
  obtain ⟨c0, c1, c2, c3, c4, c5, c6, c7⟩ := at3
  go_wp2_with fail
  clear c0 c1 c2 c3 c4 c5 c6 c7 ao3 af3
  refine (add_any w x _ 8 _ _ hF3).mono ?_
  clear hF3
  rintro e w4 ⟨⟨v4, rfl⟩, u4, hu4, hF4⟩
  obtain ⟨ab4, at4, ao4, af4⟩ := hF4
  have hF4 : Fil w x u4 w4 := ⟨ab4, at4, ao4, af4⟩
  obtain ⟨c0, c1, c2, c3, c4, c5, c6, c7⟩ := at4
  go_wp2_with fail
  clear c0 c1 c2 c3 c4 c5 c6 c7 ao4 af4
  refine (add_any w x _ 16 _ _ hF4).mono ?_
  clear hF4
  rintro e w5 ⟨⟨v5, rfl⟩, u5, hu5, hF5⟩
  obtain ⟨ab5, at5, ao5, af5⟩ := hF5
  have hF5 : Fil w x u5 w5 := ⟨ab5, at5, ao5, af5⟩
  obtain ⟨c0, c1, c2, c3, c4, c5, c6, c7⟩ := at5
  go_wp2_with fail
  clear c0 c1 c2 c3 c4 c5 c6 c7 ao5 af5
  refine (add_any w x _ 32 _ _ hF5).mono ?_
  clear hF5
  rintro e w6 ⟨⟨v6, rfl⟩, u6, hu6, hF6⟩
  obtain ⟨ab6, at6, ao6, af6⟩ := hF6
  have hF6 : Fil w x u6 w6 := ⟨ab6, at6, ao6, af6⟩
  obtain ⟨c0, c1, c2, c3, c4, c5, c6, c7⟩ := at6
  go_wp2_with fail
  clear c0 c1 c2 c3 c4 c5 c6 c7 ao6 af6
  refine (add_any w x _ 64 _ _ hF6).mono ?_
  clear hF6
  rintro e w7 ⟨⟨v7, rfl⟩, u7, hu7, hF7⟩
  obtain ⟨ab7, at7, ao7, af7⟩ := hF7
  have hF7 : Fil w x u7 w7 := ⟨ab7, at7, ao7, af7⟩
  obtain ⟨c0, c1, c2, c3, c4, c5, c6, c7⟩ := at7
  go_wp2_with fail
  go_ret
  refine ⟨ret_int ?_, ab7⟩
  have := add_fills (x.res != 0) (x.a != 0) (x.b != 0) (x.n != 0) (decide (0 < x.tags.length)) (decide (0 < x.ln)) (decide (0 < x.en)) _ _ _ _ _ _ hu1.out hu2.out hu3.out hu4.out hu5.out hu6.out
  rw [← hu7.out, this, ← HU.out, filledP]
end Go.Proofs.YtepbjkkakfpjgaaGreatDoor.Instr

/-
  INSTR: lists of instructions in memory; what a round of a range over them leaves as it was.
-/
namespace Go.Proofs.YtepbjkkakfpjgaaGreatDoor.Instr
open Go.RowKit

/-- Labels in memory below block n₀. -/
def TagsAt (n₀ : Nat) (w : World) (a : Option Addr) (zs : List Int) : Prop :=
  zs = [] ∨ ∃ b off, a = some ⟨b, off, none⟩ ∧ b < n₀ ∧ ∀ i, i < zs.length → w.cell? ⟨b, off + i, none⟩ = some (.int .u32 (zs.getD i 0))
/-- From a place in block b on lie these instructions; all below block n₀. -/
def Items (n₀ : Nat) (w : World) : Nat → Nat → Il → Prop
  | _, _, .nil => True
  | b, off, .cons x l e r =>
    b < n₀ ∧ x.ok ∧
    (w.cell? ⟨b, off, none⟩ = some (.int .i64 x.op) ∧ w.cell? ⟨b, off + 1, none⟩ = some (.int .i64 x.res) ∧ w.cell? ⟨b, off + 2, none⟩ = some (.int .u32 x.a) ∧ w.cell? ⟨b, off + 3, none⟩ = some (.int .u32 x.b) ∧
      w.cell? ⟨b, off + 4, none⟩ = some (.int .i32 x.n) ∧ w.cell? ⟨b, off + 5, none⟩ = some (.slice x.ta x.tags.length x.tc) ∧ w.cell? ⟨b, off + 6, none⟩ = some (.slice x.la x.ln x.lc) ∧ w.cell? ⟨b, off + 7, none⟩ = some (.slice x.ea x.en x.ec)) ∧
    TagsAt n₀ w x.ta x.tags ∧
    (l.len = x.ln ∧ (l = .nil ∨ ∃ b' o', x.la = some ⟨b', o', none⟩ ∧ Items n₀ w b' o' l)) ∧
    (e.len = x.en ∧ (e = .nil ∨ ∃ b' o', x.ea = some ⟨b', o', none⟩ ∧ Items n₀ w b' o' e)) ∧
    Items n₀ w b (off + 8) r
/-- A slice of this many at this address is these instructions. -/
def ListAt (n₀ : Nat) (w : World) (a : Option Addr) (n : Nat) (t : Il) : Prop := t.len = n ∧ (t = .nil ∨ ∃ b off, a = some ⟨b, off, none⟩ ∧ Items n₀ w b off t)

theorem TagsAt.below {n₀ : Nat} {w w' : World} {a : Option Addr} {zs : List Int} (hb : Below n₀ w w') (h : TagsAt n₀ w a zs) : TagsAt n₀ w' a zs := by
  rcases h with h | ⟨b, off, ha, hl, hc⟩
  · exact .inl h
  · exact .inr ⟨b, off, ha, hl, fun i hi => (hb.cell (p := ⟨b, off + i, none⟩) hl).trans (hc i hi)⟩
theorem Items.below {n₀ : Nat} {w w' : World} (hb : Below n₀ w w') : ∀ {t : Il} {b off : Nat}, Items n₀ w b off t → Items n₀ w' b off t
  | .nil, _, _, _ => trivial
  | .cons x l e r, b, off, ⟨hl, hx, ⟨c0, c1, c2, c3, c4, c5, c6, c7⟩, ht, ⟨l1, l2⟩, ⟨e1, e2⟩, hr⟩ => by
    have k : ∀ j v, w.cell? ⟨b, off + j, none⟩ = some v → w'.cell? ⟨b, off + j, none⟩ = some v := fun j v h => (hb.cell (p := ⟨b, off + j, none⟩) hl).trans h
    refine ⟨hl, hx, ⟨k 0 _ c0, k 1 _ c1, k 2 _ c2, k 3 _ c3, k 4 _ c4, k 5 _ c5, k 6 _ c6, k 7 _ c7⟩, ht.below hb, ⟨l1, ?_⟩, ⟨e1, ?_⟩, Items.below hb hr⟩
    · rcases l2 with h | ⟨b', o', ha, hi⟩
      · exact .inl h
      · exact .inr ⟨b', o', ha, Items.below hb hi⟩
    · rcases e2 with h | ⟨b', o', ha, hi⟩
      · exact .inl h
      · exact .inr ⟨b', o', ha, Items.below hb hi⟩
theorem ListAt.below {n₀ : Nat} {w w' : World} {a : Option Addr} {n : Nat} {t : Il} (hb : Below n₀ w w') (h : ListAt n₀ w a n t) : ListAt n₀ w' a n t := by
  refine ⟨h.1, ?_⟩
  rcases h.2 with h | ⟨b', o', ha, hi⟩
  · exact .inl h
  · exact .inr ⟨b', o', ha, hi.below hb⟩
theorem TagsAt.more {n₀ n₁ : Nat} {w : World} {a : Option Addr} {zs : List Int} (hn : n₀ ≤ n₁) (h : TagsAt n₀ w a zs) : TagsAt n₁ w a zs := by
  rcases h with h | ⟨b, off, ha, hl, hc⟩
  · exact .inl h
  · exact .inr ⟨b, off, ha, by omega, hc⟩
theorem Items.more {n₀ n₁ : Nat} {w : World} (hn : n₀ ≤ n₁) : ∀ {t : Il} {b off : Nat}, Items n₀ w b off t → Items n₁ w b off t
  | .nil, _, _, _ => trivial
  | .cons x l e r, b, off, ⟨hl, hx, hc, ht, ⟨l1, l2⟩, ⟨e1, e2⟩, hr⟩ => by
    refine ⟨by omega, hx, hc, ht.more hn, ⟨l1, ?_⟩, ⟨e1, ?_⟩, Items.more hn hr⟩
    · rcases l2 with h | ⟨b', o', ha, hi⟩
      · exact .inl h
      · exact .inr ⟨b', o', ha, Items.more hn hi⟩
    · rcases e2 with h | ⟨b', o', ha, hi⟩
      · exact .inl h
      · exact .inr ⟨b', o', ha, Items.more hn hi⟩
theorem ListAt.more {n₀ n₁ : Nat} {w : World} {a : Option Addr} {n : Nat} {t : Il} (hn : n₀ ≤ n₁) (h : ListAt n₀ w a n t) : ListAt n₁ w a n t := by
  refine ⟨h.1, ?_⟩
  rcases h.2 with h | ⟨b', o', ha, hi⟩
  · exact .inl h
  · exact .inr ⟨b', o', ha, hi.more hn⟩
/-- Behind a call that leaves all that was there. -/
theorem ListAt.on {w w' : World} {a : Option Addr} {n : Nat} {t : Il} (h : ListAt w.heap.size w a n t) (hb : Below w.heap.size w w') : ListAt w'.heap.size w' a n t := (h.below hb).more hb.size

/-- What a round leaves: all cells but those of the blocks from n₀ to n₁; and all below n₀. -/
structure Kept (n₀ n₁ : Nat) (w w' : World) : Prop where
  below : Below n₀ w w'
  cells : ∀ j o, w.heap[j]? = some o → o.isCells = true → n₁ ≤ j → w'.heap[j]? = some o
theorem Kept.refl (n₀ n₁ : Nat) (w : World) : Kept n₀ n₁ w w := ⟨Below.refl _ _, fun _ _ h _ _ => h⟩
theorem Kept.trans {n₀ n₁ : Nat} {a b c : World} (h : Kept n₀ n₁ a b) (g : Kept n₀ n₁ b c) : Kept n₀ n₁ a c := ⟨h.below.trans g.below, fun j o hj ho hn => g.cells j o (h.cells j o hj ho hn) ho hn⟩
theorem Kept.alloc {n₀ n₁ : Nat} {a b : World} (h : Kept n₀ n₁ a b) (o : Obj) (hn : n₀ ≤ b.heap.size) : Kept n₀ n₁ a (b.alloc o) :=
  ⟨h.below.alloc hn o, fun j p hj hp hn => ((Below.refl b.heap.size b).alloc (Nat.le_refl _) o).block j (Array.getElem?_eq_some_iff.1 (h.cells j p hj hp hn)).1 |>.trans (h.cells j p hj hp hn)⟩
theorem Kept.of_below {n₀ n₁ : Nat} {a b : World} (h : Below a.heap.size a b) (hn : n₀ ≤ a.heap.size) : Kept n₀ n₁ a b :=
  ⟨h.mono hn, fun j _ hj _ _ => (h.block j (Array.getElem?_eq_some_iff.1 hj).1).trans hj⟩
theorem Kept.setCell {n₀ n₁ : Nat} {a b : World} (h : Kept n₀ n₁ a b) {p : Addr} (h0 : n₀ ≤ p.block) (h1 : p.block < n₁) (v : Value) : Kept n₀ n₁ a (b.setCell p v) :=
  ⟨h.below.setCell h0 v, fun j o hj ho hn => (Below.heap_setCell b p v j (by omega)).trans (h.cells j o hj ho hn)⟩
theorem Kept.cell {n₀ n₁ : Nat} {a b : World} (h : Kept n₀ n₁ a b) {p : Addr} {v : Value} (hp : n₁ ≤ p.block) (hc : a.cell? p = some v) : b.cell? p = some v := by
  obtain ⟨o, ho, hi⟩ := cells_of_cell hc
  exact (World.cell?_of_block (w := a) ((h.cells _ o ho hi hp).trans ho.symm)).trans hc
theorem At.kept {n₀ n₁ g : Nat} {x : Ix} {a b : World} (h : At x g a) (hk : Kept n₀ n₁ a b) (hg : n₁ ≤ g) : At x g b :=
  ⟨hk.cell hg h.c0, hk.cell hg h.c1, hk.cell hg h.c2, hk.cell hg h.c3, hk.cell hg h.c4, hk.cell hg h.c5, hk.cell hg h.c6, hk.cell hg h.c7⟩
theorem kept_t {n₀ n₁ : Nat} {A B C : World} (h : Kept n₀ n₁ A B) (g : Kept n₀ n₁ B C) : Kept n₀ n₁ A C := h.trans g
theorem kept_b {n₀ n₁ : Nat} {w : World} (hn : n₀ ≤ w.heap.size) : ∀ (W : World) (l : Nat) (o o' : Obj), w.heap.size ≤ l → W.heap[l]? = some o → o.isCells = false → o.isWalk = false → Kept n₀ n₁ W (W.putObj l o') := fun W l o o' hl ho hi hw =>
  ⟨belowK_b hn W l o o' hl ho hi hw, fun j p hj hp _ => by
    have hne : j ≠ l := by rintro rfl; rw [ho] at hj; cases hj; rw [hi] at hp; cases hp
    exact (World.putObj_heap_other hne).trans hj⟩
end Go.Proofs.YtepbjkkakfpjgaaGreatDoor.Instr

/-
  BODY: follows, and the reader's operation, by contract.
-/
namespace Go.Proofs.YtepbjkkakfpjgaaGreatDoor.Body
open Go.RowKit Go.Proofs.YtepbjkkakfpjgaaGreatDoor.Instr
open Go.Proofs.YtepbjkkakfpjgaaGreatDoor.Kind (Rd numR refuseR startR numR_good numR_bounds refuseR_good getL_next)

/-- What follows, as the program's set of parts. -/
def partsP (op : Int) : Int :=
  if op = 2 ∨ op = 3 ∨ op = 4 then 65
  else if op = 12 ∨ op = 13 ∨ op = 16 ∨ op = 32 ∨ op = 33 ∨ op = 34 ∨ op = 35 ∨ op = 36 then 4
  else if op = 17 then 36 else if op = 14 then 6
  else if op = 40 ∨ op = 44 ∨ op = 45 ∨ op = 46 ∨ op = 47 ∨ op = 54 ∨ op = 58 ∨ op = 59 then 12
  else if op = 63 ∨ op = 64 then 32 else if op = 65 then 16 else 0
theorem parts_kind (op : Int) : (kindP op = 0 ∧ partsP op = 0) ∨ (kindP op = 1 ∧ partsP op = 65) ∨ (kindP op = 2 ∧ partsP op = 4) ∨ (kindP op = 3 ∧ partsP op = 36) ∨ (kindP op = 4 ∧ partsP op = 6) ∨ (kindP op = 5 ∧ partsP op = 12) ∨ (kindP op = 6 ∧ partsP op = 32) ∨ (kindP op = 7 ∧ partsP op = 16) := by
  unfold kindP partsP
  (repeat' split) <;> simp
theorem follows_any (op : Int) (w : World) : Calls Tryz.prog 237 #[.int .i64 op] w fun e w' => e = .returned (.int .u8 (partsP op)) ∧ w = w' := by
  obtain ⟨u, hu⟩ : ∃ u, partsP op = u := ⟨_, rfl⟩
  rw [hu]
  have HU := hid hu
  clear hu
  go_enter Tryz.func237, Tryz.ntmps237
  go_wp2
  all_goals go_ret
  all_goals
    refine ⟨ret_int ?_, rfl⟩
    have hu := HU.out
    clear HU
    simp only [beq_iff_eq, beq_eq_false_iff_ne, ne_eq] at *
    subst hu
    simp [partsP, *]

theorem isSome_name {op : Int} : ((strOfNums (nameL op)).toList.isEmpty = true) ↔ nameL op = [] := by
  rw [ByteArray.toList_eq, strOfNums_data]
  simp

end Go.Proofs.YtepbjkkakfpjgaaGreatDoor.Body

/-
  BODY: the reader's labels, by contract: new memory that holds them.
-/
namespace Go.Proofs.YtepbjkkakfpjgaaGreatDoor.Body
open Go.RowKit Go.Proofs.YtepbjkkakfpjgaaGreatDoor.Instr
open Go.Proofs.YtepbjkkakfpjgaaGreatDoor.Kind (Rd numR refuseR startR numR_good numR_bounds refuseR_good getL_next)

theorem infoU32 : (Tryz.prog.info? 28).map (fun i => (i.zero, i.size, i.bytes)) = some (some (.int .u32 0), 1, 4) := by kernel_rfl
/-- One label more is read behind so many. -/
theorem tagsR_snoc {zs : List Int} : ∀ (k : Nat) (s : Rd), (tagsR zs (k + 1) s).1 = (tagsR zs k s).1 ++ (if (tagsR zs k s).2.2.1 = 0 then [(numR zs (tagsR zs k s).2).1] else []) ∧
    (tagsR zs (k + 1) s).2 = (if (tagsR zs k s).2.2.1 = 0 then (numR zs (tagsR zs k s).2).2 else (tagsR zs k s).2)
  | 0, s => by
    unfold tagsR
    split <;> simp [tagsR]
  | k + 1, s => by
    by_cases h : s.2.1 = 0
    · have e : ∀ j, tagsR zs (j + 1) s = ((numR zs s).1 :: (tagsR zs j (numR zs s).2).1, (tagsR zs j (numR zs s).2).2) := fun j => by rw [tagsR, if_pos h]
      obtain ⟨a, b⟩ := tagsR_snoc k (numR zs s).2
      rw [e (k + 1), e k]
      dsimp only
      rw [a, b]
      exact ⟨by simp, rfl⟩
    · have e : ∀ j, tagsR zs (j + 1) s = ([], s) := fun j => by rw [tagsR, if_neg h]
      rw [e (k + 1), e k]
      simp [h]
theorem tagsR_stop {zs : List Int} {s : Rd} : ∀ (j k : Nat), k ≤ j → (tagsR zs k s).2.2.1 ≠ 0 → tagsR zs j s = tagsR zs k s := by
  intro j k hk h
  induction j with
  | zero =>
    obtain rfl : k = 0 := by omega
    rfl
  | succ j ih =>
    by_cases h1 : k = j + 1
    · rw [h1]
    · have e := ih (by omega)
      obtain ⟨a, b⟩ := tagsR_snoc (zs := zs) j s
      rw [e] at a b
      rw [if_neg h] at a b
      rw [List.append_nil] at a
      exact Prod.ext a b
theorem tagsR_len {zs : List Int} : ∀ (k : Nat) (s : Rd), (tagsR zs k s).1.length ≤ k
  | 0, s => Nat.le_refl _
  | k + 1, s => by
    unfold tagsR
    split
    · simp [tagsR_len k]
    · simp
theorem tagsR_words {zs : List Int} (hz : ∀ c ∈ zs, 0 ≤ c ∧ c < 256) : ∀ (k : Nat) (s : Rd), ∀ z ∈ (tagsR zs k s).1, 0 ≤ z ∧ z < 4294967296
  | 0, s, z, h => by simp [tagsR] at h
  | k + 1, s, z, h => by
    unfold tagsR at h
    split at h
    · rcases List.mem_cons.1 h with rfl | h
      · exact numR_bounds hz
      · exact tagsR_words hz k _ z h
    · simp at h
theorem labelsR_few {zs : List Int} {s : Rd} (hz : ∀ c ∈ zs, 0 ≤ c ∧ c < 256) : (labelsR zs s).1.length ≤ 16384 ∧ ∀ z ∈ (labelsR zs s).1, 0 ≤ z ∧ z < 4294967296 := by
  have hb := numR_bounds (s := s) hz
  refine ⟨?_, tagsR_words hz _ _⟩
  unfold labelsR
  split
  · have hbad : (refuseR (numR zs s).2 141 s.1).2.1 ≠ 0 := by
      unfold refuseR; split
      · simp
      · assumption
    have := tagsR_stop (zs := zs) (s := refuseR (numR zs s).2 141 s.1) (numR zs s).1.toNat 0 (Nat.zero_le _) hbad
    rw [this]
    simp [tagsR]
  · have := tagsR_len (zs := zs) (numR zs s).1.toNat (numR zs s).2
    omega

/-- A method that hands back labels of its own. -/
def DoesTags (k : Nat) (v : Value) (w : World) (zs : List Int) (s : Rd) (e : Ending) (w' : World) : Prop := ∃ r, e = .returned r ∧ OwnK 28 .u32 w.heap.size w' r zs ∧ RdIs w' k v s ∧ Save k w w'

theorem ownK_save {e : TypeId} {kd : IntKind} {base k : Nat} {w w' : World} {v : Value} {zs : List Int} (h : OwnK e kd base w v zs) (hs : Save k w w') (hk : k < base) : OwnK e kd base w' v zs := by
  refine ⟨h.1, ?_⟩
  rcases h.2 with h0 | ⟨g, cap, cur, hv, hg, hh, rest⟩
  · exact .inl h0
  · exact .inr ⟨g, cap, cur, hv, hg, (hs.block g (Array.getElem?_eq_some_iff.1 hh).1 (by omega)).trans hh, rest⟩

theorem RdIs.belowB {B : Nat} {w w' : World} {k : Nat} {v : Value} {s : Rd} (h : RdIs w k v s) (hb : Below B w w') (hk : k < B) : RdIs w' k v s :=
  ⟨(hb.cell hk).trans h.c0, (hb.cell hk).trans h.c1, (hb.cell hk).trans h.c2, (hb.cell hk).trans h.c3, (hb.frozen hk).trans h.f0, (hb.frozen hk).trans h.f1, (hb.frozen hk).trans h.f2, (hb.frozen hk).trans h.f3⟩
theorem save_under {k : Nat} {a b c : World} (h : Save k a b) (g : Below a.heap.size b c) : Save k a c :=
  ⟨g.os.trans h.os, g.tape.trans h.tape, g.output.trans h.output, Nat.le_trans h.size g.size, fun j hj hk => (g.block j hj).trans (h.block j hj hk)⟩

end Go.Proofs.YtepbjkkakfpjgaaGreatDoor.Body

/-
  BODY: the reader's instruction, by contract, kind by kind.
-/
namespace Go.Proofs.YtepbjkkakfpjgaaGreatDoor.Body
open Go.RowKit Go.Proofs.YtepbjkkakfpjgaaGreatDoor.Instr
open Go.Proofs.YtepbjkkakfpjgaaGreatDoor.Kind (Rd numR refuseR startR numR_good numR_bounds refuseR_good getL_next)

theorem band (a b : Int) (c : Int) (h : bits .and .u8 a b = c) : bits .and .u8 a b = c := h
def inTags (x : Ix) (ta : Option Addr) (tc : Nat) : Ix := ⟨x.op, x.res, x.a, x.b, x.n, x.tags, ta, tc, x.la, x.ln, x.lc, x.ea, x.en, x.ec⟩
/-- An instruction without its lists, its labels in memory of their own. -/
def DoesIx (k : Nat) (v : Value) (w : World) (x : Ix) (s : Rd) (e : Ending) (w' : World) : Prop :=
  ∃ ta tc, e = .returned (.agg (inTags x ta tc).vals) ∧ OwnK 28 .u32 w.heap.size w' (.slice ta x.tags.length tc) x.tags ∧ RdIs w' k v s ∧ Save k w w'

/-- An instruction in a block of its own, that can be written. -/
structure Bx (g : Nat) (x : Ix) (w : World) : Prop where
  at_ : At x g w
  f0 : w.frozen? ⟨g, 0, none⟩ = false
  f1 : w.frozen? ⟨g, 1, none⟩ = false
  f2 : w.frozen? ⟨g, 2, none⟩ = false
  f3 : w.frozen? ⟨g, 3, none⟩ = false
  f4 : w.frozen? ⟨g, 4, none⟩ = false
  f5 : w.frozen? ⟨g, 5, none⟩ = false
  f6 : w.frozen? ⟨g, 6, none⟩ = false
  f7 : w.frozen? ⟨g, 7, none⟩ = false
theorem Bx.save {g k : Nat} {x : Ix} {w w' : World} (h : Bx g x w) (hs : Save k w w') (hk : g ≠ k) : Bx g x w' := by
  have hl : g < w.heap.size := World.block_lt_of_cell? w _ h.at_.c0
  exact ⟨h.at_.save hs hk, hs.frozen hl hk h.f0, hs.frozen hl hk h.f1, hs.frozen hl hk h.f2, hs.frozen hl hk h.f3, hs.frozen hl hk h.f4, hs.frozen hl hk h.f5, hs.frozen hl hk h.f6, hs.frozen hl hk h.f7⟩
theorem bx_made (x : Ix) (w : World) : Bx w.heap.size x (w.alloc (.cells x.vals 126)) := by
  refine ⟨At.made x w, ?_, ?_, ?_, ?_, ?_, ?_, ?_, ?_⟩ <;> go_simp
theorem Bx.alloc {g : Nat} {x : Ix} {w : World} (h : Bx g x w) (o : Obj) : Bx g x (w.alloc o) := by
  have hb : Below w.heap.size w (w.alloc o) := (Below.refl _ _).alloc (Nat.le_refl _) o
  have hl : g < w.heap.size := World.block_lt_of_cell? w _ h.at_.c0
  exact ⟨h.at_.below hb, (hb.frozen (p := ⟨g, 0, none⟩) hl).trans h.f0, (hb.frozen (p := ⟨g, 1, none⟩) hl).trans h.f1, (hb.frozen (p := ⟨g, 2, none⟩) hl).trans h.f2, (hb.frozen (p := ⟨g, 3, none⟩) hl).trans h.f3, (hb.frozen (p := ⟨g, 4, none⟩) hl).trans h.f4, (hb.frozen (p := ⟨g, 5, none⟩) hl).trans h.f5, (hb.frozen (p := ⟨g, 6, none⟩) hl).trans h.f6, (hb.frozen (p := ⟨g, 7, none⟩) hl).trans h.f7⟩
def zeroX : Ix := plainX 0 0 0 0 0 []
/-- The world in which the reading begins: the result's block, and that of the instruction. -/
theorem ins_start (op : Int) (w : World) : Bx w.heap.size zeroX ((w.alloc (.cells zeroX.vals 126)).alloc (.cells (plainX op 0 0 0 0 []).vals 126)) ∧
    Bx (w.heap.size + 1) (plainX op 0 0 0 0 []) ((w.alloc (.cells zeroX.vals 126)).alloc (.cells (plainX op 0 0 0 0 []).vals 126)) := by
  refine ⟨(bx_made _ _).alloc _, ?_⟩
  have := bx_made (plainX op 0 0 0 0 []) (w.alloc (.cells zeroX.vals 126))
  simpa using this
theorem Bx.other {g : Nat} {x : Ix} {w : World} (h : Bx g x w) {p : Addr} (hp : p.block ≠ g) (v : Value) : Bx g x (w.setCell p v) := by
  have hl : g < w.heap.size := World.block_lt_of_cell? w _ h.at_.c0
  have hs : Save p.block w (w.setCell p v) := (Save.refl _ _).setCell (.inl rfl) _
  exact h.save hs (fun e => hp e.symm)
theorem Bx.setRes {g : Nat} {x : Ix} {w : World} (h : Bx g x w) (n : Int) : Bx g ⟨x.op, n, x.a, x.b, x.n, x.tags, x.ta, x.tc, x.la, x.ln, x.lc, x.ea, x.en, x.ec⟩ (w.setCell ⟨g, 1, none⟩ (.int .i64 n)) := by
  obtain ⟨⟨c0, c1, c2, c3, c4, c5, c6, c7⟩, f0, f1, f2, f3, f4, f5, f6, f7⟩ := h
  refine ⟨⟨?_, ?_, ?_, ?_, ?_, ?_, ?_, ?_⟩, ?_, ?_, ?_, ?_, ?_, ?_, ?_, ?_⟩ <;> simp [go_sem, *]
theorem Bx.setA {g : Nat} {x : Ix} {w : World} (h : Bx g x w) (n : Int) : Bx g ⟨x.op, x.res, n, x.b, x.n, x.tags, x.ta, x.tc, x.la, x.ln, x.lc, x.ea, x.en, x.ec⟩ (w.setCell ⟨g, 2, none⟩ (.int .u32 n)) := by
  obtain ⟨⟨c0, c1, c2, c3, c4, c5, c6, c7⟩, f0, f1, f2, f3, f4, f5, f6, f7⟩ := h
  refine ⟨⟨?_, ?_, ?_, ?_, ?_, ?_, ?_, ?_⟩, ?_, ?_, ?_, ?_, ?_, ?_, ?_, ?_⟩ <;> simp [go_sem, *]
theorem Bx.setT {g : Nat} {x : Ix} {w : World} (h : Bx g x w) (l : List Int) (ta : Option Addr) (tc : Nat) : Bx g ⟨x.op, x.res, x.a, x.b, x.n, l, ta, tc, x.la, x.ln, x.lc, x.ea, x.en, x.ec⟩ (w.setCell ⟨g, 5, none⟩ (.slice ta l.length tc)) := by
  obtain ⟨⟨c0, c1, c2, c3, c4, c5, c6, c7⟩, f0, f1, f2, f3, f4, f5, f6, f7⟩ := h
  refine ⟨⟨?_, ?_, ?_, ?_, ?_, ?_, ?_, ?_⟩, ?_, ?_, ?_, ?_, ?_, ?_, ?_, ?_⟩ <;> simp [go_sem, *]
theorem bytes_one (w : World) (c : Int) (h : 0 ≤ c ∧ c < 256) : Bytes (w.alloc (.cells #[.int .u8 c] 5)) (some ⟨w.heap.size, 0, none⟩) [c] := ⟨by simpa using h, by simp, .inr ⟨_, 0, rfl, fun i hi => by
  match i, hi with
  | 0, _ => go_simp⟩⟩
theorem bytes_two (w : World) (c d : Int) (h : 0 ≤ c ∧ c < 256) (h' : 0 ≤ d ∧ d < 256) : Bytes (w.alloc (.cells #[.int .u8 c, .int .u8 d] 5)) (some ⟨w.heap.size, 0, none⟩) [c, d] := ⟨by simp; omega, by simp, .inr ⟨_, 0, rfl, fun i hi => by
  match i, hi with
  | 0, _ => go_simp
  | 1, _ => go_simp⟩⟩
theorem isRes_in (x : Int) : isRes x = [64, 127].contains x := by simp [isRes, Bool.decide_or]
theorem isNone_in (x : Int) : isNone x = [0].contains x := by simp [isNone]

end Go.Proofs.YtepbjkkakfpjgaaGreatDoor.Body

/-
  (The first part of BodyStack.)
  BODY: lists of instructions in memory of one's own: which blocks they lie in; what stays where only other blocks turn.
-/
namespace Go.Proofs.YtepbjkkakfpjgaaGreatDoor
open Go.RowKit

/-- Of what was there only blocks of S have turned. -/
structure Touch (S : Nat → Prop) (w w' : World) : Prop where
  os : w'.os = w.os
  tape : w'.tape = w.tape
  output : w'.output = w.output
  size : w.heap.size ≤ w'.heap.size
  block : ∀ j, j < w.heap.size → ¬ S j → w'.heap[j]? = w.heap[j]?
theorem Touch.refl (S : Nat → Prop) (w : World) : Touch S w w := ⟨rfl, rfl, rfl, Nat.le_refl _, fun _ _ _ => rfl⟩
theorem Touch.trans {S : Nat → Prop} {a b c : World} (h : Touch S a b) (g : Touch S b c) : Touch S a c :=
  ⟨g.os.trans h.os, g.tape.trans h.tape, g.output.trans h.output, Nat.le_trans h.size g.size, fun j hj hk => (g.block j (Nat.lt_of_lt_of_le hj h.size) hk).trans (h.block j hj hk)⟩
theorem Touch.mono {S T : Nat → Prop} {a b : World} (h : Touch S a b) (hs : ∀ j, S j → T j) : Touch T a b := ⟨h.os, h.tape, h.output, h.size, fun j hj hk => h.block j hj (fun hs' => hk (hs j hs'))⟩
theorem Touch.of_save {k : Nat} {w w' : World} (h : Save k w w') : Touch (fun j => j = k) w w' := ⟨h.os, h.tape, h.output, h.size, fun j hj hk => h.block j hj hk⟩
theorem Touch.of_below {S : Nat → Prop} {w w' : World} (h : Below w.heap.size w w') : Touch S w w' := ⟨h.os, h.tape, h.output, h.size, fun j hj _ => h.block j hj⟩
theorem Touch.of_grown {w w' : World} {row : Option Nat} (h : w.grownBy w' row) : Touch (fun j => row = some j) w w' := ⟨h.os, h.tape, h.output, h.size, fun j hj hk => h.block j hj (fun e => hk e.symm)⟩
theorem Touch.alloc {S : Nat → Prop} {a b : World} (h : Touch S a b) (o : Obj) : Touch S a (b.alloc o) := h.trans (.of_below ((Below.refl _ _).alloc (Nat.le_refl _) o))
theorem Touch.setCell {S : Nat → Prop} {a b : World} (h : Touch S a b) {p : Addr} (hp : S p.block ∨ a.heap.size ≤ p.block) (v : Value) : Touch S a (b.setCell p v) :=
  ⟨h.os, h.tape, h.output, by have := h.size; simpa [World.setCell] using this, fun j hj hk => (Below.heap_setCell _ _ _ _ (by rcases hp with hp | hp; rintro rfl; exact hk hp; omega)).trans (h.block j hj hk)⟩
theorem Touch.below {S : Nat → Prop} {B : Nat} {a b : World} (h : Touch S a b) (hB : B ≤ a.heap.size) (hs : ∀ j, S j → B ≤ j) : Below B a b :=
  ⟨h.os, h.tape, h.output, h.size, fun j hj => h.block j (by omega) (fun hj' => by have := hs j hj'; omega)⟩
theorem Touch.cell {S : Nat → Prop} {w w' : World} (h : Touch S w w') {p : Addr} {v : Value} (hk : ¬ S p.block) (hc : w.cell? p = some v) : w'.cell? p = some v :=
  (World.cell?_of_block (w := w) (h.block p.block (World.block_lt_of_cell? w _ hc) hk)).trans hc
theorem touch_row {S : Nat → Prop} {w w' : World} {base size n : Nat} {e : TypeId} {v : Value} {xs : List Value} (h : w.ownsRow base e size v n xs) (ht : Touch S w w') (hk : ∀ g, v.ownBlock = some g → ¬ S g) : w'.ownsRow base e size v n xs := by
  refine ⟨h.1, ?_⟩
  rcases h.2 with h0 | ⟨g, cap, cur, rfl, hg, hh, rest⟩
  · exact .inl h0
  · exact .inr ⟨g, cap, cur, rfl, hg, (ht.block g (Array.getElem?_eq_some_iff.1 hh).1 (hk g rfl)).trans hh, rest⟩
theorem plain_add (b i : Nat) : (⟨b, 0, none⟩ : Addr).add i = ⟨b, i, none⟩ := by unfold Addr.add; split <;> simp_all

/-- A block that can be written. -/
def Soft (w : World) (q : Nat) : Prop := ∃ cs e, w.heap[q]? = some (.cells cs e (0, 0))
theorem Soft.touch {S : Nat → Prop} {w w' : World} {q : Nat} (h : Soft w q) (ht : Touch S w w') (hk : ¬ S q) : Soft w' q := by
  obtain ⟨cs, e, h⟩ := h
  exact ⟨cs, e, (ht.block q (Array.getElem?_eq_some_iff.1 h).1 hk).trans h⟩
theorem Soft.frozen {w : World} {q : Nat} (h : Soft w q) (i : Nat) : w.frozen? ⟨q, i, none⟩ = false := by
  obtain ⟨cs, e, h⟩ := h
  simp [World.frozen?, h]
theorem Soft.lt {w : World} {q : Nat} (h : Soft w q) : q < w.heap.size := by
  obtain ⟨cs, e, h⟩ := h
  exact (Array.getElem?_eq_some_iff.1 h).1
theorem soft_row {w : World} {base size n : Nat} {e : TypeId} {v : Value} {xs : List Value} (h : w.ownsRow base e size v n xs) {g : Nat} (hg : v.ownBlock = some g) : Soft w g := by
  rcases h.2 with ⟨rfl, _⟩ | ⟨g', cap, cur, rfl, _, hh, _⟩
  · simp [Value.ownBlock] at hg
  · simp only [Value.ownBlock, Option.some.injEq] at hg
    subst hg
    exact ⟨_, _, hh⟩

namespace Instr
def blkOf (n : Nat) (a : Option Addr) : List Nat := if n = 0 then [] else match a with
  | some p => [p.block]
  | none => []
/-- The blocks that hold what is in these instructions: labels, lists. -/
def Il.foot : Il → List Nat
  | .nil => []
  | .cons x l e r => (blkOf x.tags.length x.ta ++ (blkOf x.ln x.la ++ l.foot) ++ (blkOf x.en x.ea ++ e.foot)) ++ r.foot
def Il.cells : Il → List Value
  | .nil => []
  | .cons x _ _ r => x.vals.toList ++ r.cells
/-- What is in these instructions lies as it should; the row that holds themselves may move. -/
def Il.kids (w : World) : Il → Prop
  | .nil => True
  | .cons x l e r => x.ok ∧ TagsAt w.heap.size w x.ta x.tags ∧ ListAt w.heap.size w x.la x.ln l ∧ ListAt w.heap.size w x.ea x.en e ∧ r.kids w
theorem foot_app : ∀ t u : Il, (t.app u).foot = t.foot ++ u.foot
  | .nil, _ => rfl
  | .cons x l e r, u => by simp only [Il.app, Il.foot, foot_app r, List.append_assoc]
theorem cells_app : ∀ t u : Il, (t.app u).cells = t.cells ++ u.cells
  | .nil, _ => rfl
  | .cons x l e r, u => by simp only [Il.app, Il.cells, cells_app r, List.append_assoc]
theorem cells_length : ∀ t : Il, t.cells.length = t.len * 8
  | .nil => rfl
  | .cons _ _ _ r => by simp only [Il.cells, Il.len, List.length_append, cells_length r]; simp [Ix.vals]; omega
theorem kids_app {w : World} : ∀ t u : Il, t.kids w → u.kids w → (t.app u).kids w
  | .nil, _, _, h => h
  | .cons _ _ _ r, u, ⟨h1, h2, h3, h4, h5⟩, h => ⟨h1, h2, h3, h4, kids_app r u h5 h⟩

theorem TagsAt.touch {S : Nat → Prop} {n₀ : Nat} {w w' : World} {a : Option Addr} {zs : List Int} (h : TagsAt n₀ w a zs) (ht : Touch S w w') (hk : ∀ q ∈ blkOf zs.length a, ¬ S q) : TagsAt n₀ w' a zs := by
  rcases h with h | ⟨b, off, rfl, hl, hc⟩
  · exact .inl h
  · by_cases h0 : zs = []
    · exact .inl h0
    · have hne : zs.length ≠ 0 := fun h => h0 (List.eq_nil_of_length_eq_zero h)
      exact .inr ⟨b, off, rfl, hl, fun i hi => ht.cell (p := ⟨b, off + i, none⟩) (hk b (by simp [blkOf, hne])) (hc i hi)⟩
theorem Items.touch {S : Nat → Prop} {n₀ : Nat} {w w' : World} (ht : Touch S w w') : ∀ {t : Il} {b off : Nat}, Items n₀ w b off t → ¬ S b → (∀ q ∈ t.foot, ¬ S q) → Items n₀ w' b off t
  | .nil, _, _, _, _, _ => trivial
  | .cons x l e r, b, off, ⟨hl, hx, ⟨c0, c1, c2, c3, c4, c5, c6, c7⟩, htg, ⟨l1, l2⟩, ⟨e1, e2⟩, hr⟩, hb, hf => by
    have k : ∀ j v, w.cell? ⟨b, off + j, none⟩ = some v → w'.cell? ⟨b, off + j, none⟩ = some v := fun j v h => ht.cell (p := ⟨b, off + j, none⟩) hb h
    simp only [Il.foot, List.mem_append] at hf
    refine ⟨hl, hx, ⟨k 0 _ c0, k 1 _ c1, k 2 _ c2, k 3 _ c3, k 4 _ c4, k 5 _ c5, k 6 _ c6, k 7 _ c7⟩, htg.touch ht (fun q hq => hf q (.inl (.inl (.inl hq)))), ⟨l1, ?_⟩, ⟨e1, ?_⟩, Items.touch ht hr hb (fun q hq => hf q (.inr hq))⟩
    · rcases l2 with h | ⟨b', o', ha, hi⟩
      · exact .inl h
      · cases l with
        | nil => exact .inl rfl
        | cons y m f s =>
          have hne : x.ln ≠ 0 := by rw [← l1]; simp [Il.len]
          exact .inr ⟨b', o', ha, Items.touch ht hi (hf b' (.inl (.inl (.inr (.inl (by simp [blkOf, hne, ha])))))) (fun q hq => hf q (.inl (.inl (.inr (.inr hq)))))⟩
    · rcases e2 with h | ⟨b', o', ha, hi⟩
      · exact .inl h
      · cases e with
        | nil => exact .inl rfl
        | cons y m f s =>
          have hne : x.en ≠ 0 := by rw [← e1]; simp [Il.len]
          exact .inr ⟨b', o', ha, Items.touch ht hi (hf b' (.inl (.inr (.inl (by simp [blkOf, hne, ha]))))) (fun q hq => hf q (.inl (.inr (.inr hq))))⟩
theorem ListAt.touch {S : Nat → Prop} {n₀ : Nat} {w w' : World} {a : Option Addr} {n : Nat} {t : Il} (h : ListAt n₀ w a n t) (ht : Touch S w w') (hk : ∀ q ∈ blkOf n a ++ t.foot, ¬ S q) : ListAt n₀ w' a n t := by
  obtain ⟨h1, h2⟩ := h
  refine ⟨h1, ?_⟩
  rcases h2 with h | ⟨b', o', ha, hi⟩
  · exact .inl h
  · cases t with
    | nil => exact .inl rfl
    | cons y m f s =>
      have hne : n ≠ 0 := by rw [← h1]; simp [Il.len]
      exact .inr ⟨b', o', ha, Items.touch ht hi (hk b' (by simp [blkOf, hne, ha])) (fun q hq => hk q (by simp [hq]))⟩
theorem kids_touch {S : Nat → Prop} {w w' : World} (ht : Touch S w w') : ∀ {t : Il}, t.kids w → (∀ q ∈ t.foot, ¬ S q) → t.kids w'
  | .nil, _, _ => trivial
  | .cons x l e r, ⟨h1, h2, h3, h4, h5⟩, hf => by
    simp only [Il.foot, List.mem_append] at hf
    exact ⟨h1, (h2.touch ht (fun q hq => hf q (.inl (.inl (.inl hq))))).more ht.size, ListAt.more ht.size (h3.touch ht (fun q hq => hf q (.inl (.inl (.inr (List.mem_append.1 hq)))))),
      ListAt.more ht.size (h4.touch ht (fun q hq => hf q (.inl (.inr (List.mem_append.1 hq))))), kids_touch ht h5 (fun q hq => hf q (.inr hq))⟩
theorem tags_lt {n₀ : Nat} {w : World} {a : Option Addr} {zs : List Int} (h : TagsAt n₀ w a zs) : ∀ q ∈ blkOf zs.length a, q < n₀ := by
  intro q hq
  rcases h with rfl | ⟨b, off, rfl, hl, _⟩
  · simp [blkOf] at hq
  · unfold blkOf at hq
    split at hq
    · simp at hq
    · simp at hq; omega
mutual
theorem items_lt {n₀ : Nat} {w : World} : ∀ {t : Il} {b off : Nat}, Items n₀ w b off t → ∀ q ∈ t.foot, q < n₀
  | .nil, _, _, _, q, hq => by simp [Il.foot] at hq
  | .cons x l e r, b, off, ⟨_, _, _, ht, hl, he, hr⟩, q, hq => by
    simp only [Il.foot, List.mem_append] at hq
    rcases hq with ((hq | hq) | hq) | hq
    · exact tags_lt ht q hq
    · exact list_lt (t := l) hl q (List.mem_append.2 hq)
    · exact list_lt (t := e) he q (List.mem_append.2 hq)
    · exact items_lt hr q hq
theorem list_lt {n₀ : Nat} {w : World} {a : Option Addr} {n : Nat} : ∀ {t : Il}, ListAt n₀ w a n t → ∀ q ∈ blkOf n a ++ t.foot, q < n₀
  | .nil, ⟨h1, _⟩, q, hq => by simp [← h1, blkOf, Il.len, Il.foot] at hq
  | .cons x l e r, ⟨h1, h2⟩, q, hq => by
    rcases h2 with h | ⟨b, off, rfl, hb, hx, hc, ht, hl, he, hr⟩
    · cases h
    · rcases List.mem_append.1 hq with hq | hq
      · unfold blkOf at hq
        split at hq
        · simp at hq
        · simp at hq; omega
      · simp only [Il.foot, List.mem_append] at hq
        rcases hq with ((hq | hq) | hq) | hq
        · exact tags_lt ht q hq
        · exact list_lt (t := l) hl q (List.mem_append.2 hq)
        · exact list_lt (t := e) he q (List.mem_append.2 hq)
        · exact items_lt hr q hq
end
theorem kids_lt {w : World} : ∀ {t : Il}, t.kids w → ∀ q ∈ t.foot, q < w.heap.size
  | .nil, _, q, hq => by simp [Il.foot] at hq
  | .cons x l e r, ⟨_, ht, hl, he, hr⟩, q, hq => by
    simp only [Il.foot, List.mem_append] at hq
    rcases hq with ((hq | hq) | hq) | hq
    · exact tags_lt ht q hq
    · exact list_lt hl q (List.mem_append.2 hq)
    · exact list_lt he q (List.mem_append.2 hq)
    · exact kids_lt hr q hq
/-- A row that holds them, and what is in them: a list in memory. -/
theorem items_of {w : World} {g : Nat} (hg : g < w.heap.size) : ∀ (t : Il) (off : Nat), (∀ j u, t.cells[j]? = some u → w.cell? ⟨g, off + j, none⟩ = some u) → t.kids w → Items w.heap.size w g off t
  | .nil, _, _, _ => trivial
  | .cons x l e r, off, hc, ⟨h1, h2, h3, h4, h5⟩ => by
    have h8 : ∀ q u, q < 8 → x.vals.toList[q]? = some u → w.cell? ⟨g, off + q, none⟩ = some u := fun q u hq hu => hc q u (by
      rw [Il.cells, List.getElem?_append_left (by simpa [Ix.vals] using hq)]; exact hu)
    refine ⟨hg, h1, ⟨h8 0 _ (by omega) rfl, h8 1 _ (by omega) rfl, h8 2 _ (by omega) rfl, h8 3 _ (by omega) rfl, h8 4 _ (by omega) rfl, h8 5 _ (by omega) rfl, h8 6 _ (by omega) rfl, h8 7 _ (by omega) rfl⟩, h2, h3, h4, items_of hg r (off + 8) (fun j u hu => ?_) h5⟩
    have := hc (8 + j) u (by
      rw [Il.cells, List.getElem?_append_right (by simp [Ix.vals])]
      simpa [Ix.vals] using hu)
    rw [show off + 8 + j = off + (8 + j) by omega]
    exact this
theorem list_of_row {w : World} {base : Nat} {v : Value} {t : Il} (h : w.ownsRow base 126 8 v t.len t.cells) (hk : t.kids w) : ∃ a c, v = .slice a t.len c ∧ ListAt w.heap.size w a t.len t ∧ blkOf t.len a = (if t.len = 0 then [] else match v.ownBlock with
    | some g => [g]
    | none => []) := by
  rcases h.2 with ⟨rfl, h0⟩ | ⟨g, cap, cur, rfl, _, hh, _⟩
  · refine ⟨none, 0, by rw [h0], ⟨rfl, .inl (len_zero h0)⟩, by simp [blkOf, h0]⟩
  · have hlt : g < w.heap.size := (Array.getElem?_eq_some_iff.1 hh).1
    refine ⟨_, _, rfl, ⟨rfl, .inr ⟨g, 0, rfl, items_of hlt t 0 (fun j u hu => ?_) hk⟩⟩, by simp [blkOf, Value.ownBlock]⟩
    have := World.ownsRow.cells h (g := g) rfl j u hu
    rw [plain_add] at this
    rw [Nat.zero_add]
    exact this
where len_zero : ∀ {t : Il}, t.len = 0 → t = .nil
  | .nil, _ => rfl
  | .cons _ _ _ _, h => by simp [Il.len] at h
end Instr
end Go.Proofs.YtepbjkkakfpjgaaGreatDoor

/-
  BODY: the open lists in memory: a row of them, each with a row of its instructions; how a top one turns.
-/
namespace Go.Proofs.YtepbjkkakfpjgaaGreatDoor.Body
open Go.RowKit Go.Proofs.YtepbjkkakfpjgaaGreatDoor.Instr
open Go.Proofs.YtepbjkkakfpjgaaGreatDoor.Kind (Rd numR refuseR startR numR_good numR_bounds refuseR_good getL_next)

/-- Eight cells of a row are written over. -/
def store8 (w : World) (g off : Nat) (x : Ix) : World :=
  (((((((w.setCell ⟨g, off, none⟩ (.int .i64 x.op)).setCell ⟨g, off + 1, none⟩ (.int .i64 x.res)).setCell ⟨g, off + 2, none⟩ (.int .u32 x.a)).setCell ⟨g, off + 3, none⟩ (.int .u32 x.b)).setCell ⟨g, off + 4, none⟩ (.int .i32 x.n)).setCell
    ⟨g, off + 5, none⟩ (.slice x.ta x.tags.length x.tc)).setCell ⟨g, off + 6, none⟩ (.slice x.la x.ln x.lc)).setCell ⟨g, off + 7, none⟩ (.slice x.ea x.en x.ec)
theorem store8_touch (w : World) (g off : Nat) (x : Ix) : Touch (fun j => j = g) w (store8 w g off x) := by
  have step : ∀ (a b : World) (q : Addr) (v : Value), q.block = g → Touch (fun j => j = g) a b → Touch (fun j => j = g) a (b.setCell q v) := fun a b q v hq h => h.setCell (.inl hq) v
  unfold store8
  exact step _ _ _ _ rfl (step _ _ _ _ rfl (step _ _ _ _ rfl (step _ _ _ _ rfl (step _ _ _ _ rfl (step _ _ _ _ rfl (step _ _ _ _ rfl (step _ _ _ _ rfl (Touch.refl _ w))))))))
theorem set8 (l : List Value) (z0 z1 z2 z3 z4 z5 z6 z7 y0 y1 y2 y3 y4 y5 y6 y7 : Value) :
    ((((((((l ++ [z0, z1, z2, z3, z4, z5, z6, z7]).set l.length y0).set (l.length + 1) y1).set (l.length + 2) y2).set (l.length + 3) y3).set (l.length + 4) y4).set (l.length + 5) y5).set (l.length + 6) y6).set (l.length + 7) y7 = l ++ [y0, y1, y2, y3, y4, y5, y6, y7] := by
  simp [List.set_append_right]
theorem store8_row {w : World} {base g n cap : Nat} {xs : List Value} {z : Ix} (x : Ix) (hx : xs.length = n * 8) (h : w.ownsRow base 126 8 (.slice (some ⟨g, 0, none⟩) (n + 1) cap) (n + 1) (xs ++ z.vals.toList)) :
    (store8 w g (n * 8) x).ownsRow base 126 8 (.slice (some ⟨g, 0, none⟩) (n + 1) cap) (n + 1) (xs ++ x.vals.toList) := by
  have h1 := (h.stored (n * 8) (.int .i64 x.op)).1
  have h2 := (h1.stored (n * 8 + 1) (.int .i64 x.res)).1
  have h3 := (h2.stored (n * 8 + 2) (.int .u32 x.a)).1
  have h4 := (h3.stored (n * 8 + 3) (.int .u32 x.b)).1
  have h5 := (h4.stored (n * 8 + 4) (.int .i32 x.n)).1
  have h6 := (h5.stored (n * 8 + 5) (.slice x.ta x.tags.length x.tc)).1
  have h7 := (h6.stored (n * 8 + 6) (.slice x.la x.ln x.lc)).1
  have h8 := (h7.stored (n * 8 + 7) (.slice x.ea x.en x.ec)).1
  have e := set8 xs (.int .i64 z.op) (.int .i64 z.res) (.int .u32 z.a) (.int .u32 z.b) (.int .i32 z.n) (.slice z.ta z.tags.length z.tc) (.slice z.la z.ln z.lc) (.slice z.ea z.en z.ec) (.int .i64 x.op) (.int .i64 x.res) (.int .u32 x.a) (.int .u32 x.b) (.int .i32 x.n) (.slice x.ta x.tags.length x.tc) (.slice x.la x.ln x.lc) (.slice x.ea x.en x.ec)
  rw [hx] at e
  have hz : z.vals.toList = [.int .i64 z.op, .int .i64 z.res, .int .u32 z.a, .int .u32 z.b, .int .i32 z.n, .slice z.ta z.tags.length z.tc, .slice z.la z.ln z.lc, .slice z.ea z.en z.ec] := rfl
  have hxx : x.vals.toList = [.int .i64 x.op, .int .i64 x.res, .int .u32 x.a, .int .u32 x.b, .int .i32 x.n, .slice x.ta x.tags.length x.tc, .slice x.la x.ln x.lc, .slice x.ea x.en x.ec] := rfl
  rw [hz, e, ← hxx] at h8
  exact h8

end Go.Proofs.YtepbjkkakfpjgaaGreatDoor.Body

/-
  BODY: the statements' kit: SameCells, SameInstrs.
-/
namespace Go.Proofs.YtepbjkkakfpjgaaGreatDoor.Body
open Go.RowKit Go.Proofs.YtepbjkkakfpjgaaGreatDoor.Instr

theorem drewn {B : Nat} {a w : World} (h : Below B a w) (n : Nat) : Below B a (w.drewN n) := ⟨h.os, h.tape, h.output, h.size, h.block⟩

set_option maxHeartbeats 1600000 in
theorem SameCells_yes (a1 a2 : Option Addr) (n c1 c2 n₀ : Nat) (zs : List Int) (w : World) (hn : zs.length = n) (hx : TagsAt n₀ w a1 zs) (hy : TagsAt n₀ w a2 zs) (hn0 : n₀ ≤ w.heap.size) (hbig : n ≤ 140737488351232) :
    Calls Tryz.prog 112 #[.slice a1 n c1, .slice a2 n c2] w fun e w' => e = .returned (.bool true) ∧ Below w.heap.size w w' := by
  have HL := hid hn
  have HX := hid hx
  have HY := hid hy
  have HN := hid hn0
  clear hn hx hy hn0
  go_enter Tryz.func112, Tryz.ntmps112
  go_wp2
  go_loopw [5] (fun vi wr => ∃ i : Nat, vi = .int .i64 i ∧ i ≤ n ∧ Below w.heap.size w wr) (fun vi _ => n - (intOf vi).toNat)
  case atStart => exact ⟨0, rfl, Nat.zero_le _, Below.refl _ _⟩
  case round =>
    obtain ⟨i, rfl, hi, hb⟩ := hrel
    by_cases hil : i < n
    · have h1 : i < zs.length := by have := HL.out; omega
      have hne : zs ≠ [] := by rintro rfl; exact absurd h1 (by simp)
      have hcell : ∀ a, TagsAt n₀ w a zs → ∃ b off, a = some ⟨b, off, none⟩ ∧ wr.cell? ⟨b, off + i, none⟩ = some (.int .u32 (zs.getD i 0)) := by
        intro a h
        rcases h with h | ⟨b, off, ha, hl, hc⟩
        · exact absurd h hne
        · exact ⟨b, off, ha, (hb.cell (p := ⟨b, off + i, none⟩) (Nat.lt_of_lt_of_le hl HN.out)).trans (hc i h1)⟩
      obtain ⟨b1, o1, rfl, hd1⟩ := hcell a1 HX.out
      obtain ⟨b2, o2, rfl, hd2⟩ := hcell a2 HY.out
      clear hcell
      generalize zs.getD i 0 = x at *
      have hi0 : (i : Int) < (n : Int) := by omega
      go_wp2
      go_quiet (fail)
      go_wp2
      go_roundw
      case rel => exact ⟨i + 1, by go_num, by omega, drewn hb _⟩
      case measure => simp [intOf]; omega
    · obtain rfl : i = n := by omega
      go_wp2
      go_ret
      exact ⟨rfl, hb⟩

/-- Eight cells of an instruction. -/
def Eight (x : Ix) (b off : Nat) (w : World) : Prop :=
  w.cell? ⟨b, off, none⟩ = some (.int .i64 x.op) ∧ w.cell? ⟨b, off + 1, none⟩ = some (.int .i64 x.res) ∧ w.cell? ⟨b, off + 2, none⟩ = some (.int .u32 x.a) ∧ w.cell? ⟨b, off + 3, none⟩ = some (.int .u32 x.b) ∧
    w.cell? ⟨b, off + 4, none⟩ = some (.int .i32 x.n) ∧ w.cell? ⟨b, off + 5, none⟩ = some (.slice x.ta x.tags.length x.tc) ∧ w.cell? ⟨b, off + 6, none⟩ = some (.slice x.la x.ln x.lc) ∧ w.cell? ⟨b, off + 7, none⟩ = some (.slice x.ea x.en x.ec)
/-- What two equal lists have ahead, from the k-th on. -/
def Pair (n₀ n k m : Nat) (a1 a2 : Option Addr) (w : World) : Prop :=
  k = n ∨ ∃ b1 o1 b2 o2 r s, a1 = some ⟨b1, o1, none⟩ ∧ a2 = some ⟨b2, o2, none⟩ ∧ Items n₀ w b1 (o1 + k * 8) r ∧ Items n₀ w b2 (o2 + k * 8) s ∧ Il.bare r = Il.bare s ∧ r.len + k = n ∧ r.count ≤ m + 1
theorem bare_nil {t : Il} (h : Il.nil.bare = t.bare) : t = .nil := by cases t with | nil => rfl | cons x l e r => simp [Il.bare] at h
theorem Pair.start {n₀ n m : Nat} {a1 a2 : Option Addr} {w : World} {t u : Il} (hm : t.count ≤ m + 1) (h1 : ListAt n₀ w a1 n t) (h2 : ListAt n₀ w a2 n u) (he : t.bare = u.bare) : Pair n₀ n 0 m a1 a2 w := by
  rcases h1.2 with rfl | ⟨b1, o1, ha1, hi1⟩
  · exact .inl h1.1
  · rcases h2.2 with rfl | ⟨b2, o2, ha2, hi2⟩
    · exact .inl h2.1
    · exact .inr ⟨b1, o1, b2, o2, t, u, ha1, ha2, by simpa using hi1, by simpa using hi2, he, h1.1, hm⟩
theorem Pair.below {n₀ n k m : Nat} {a1 a2 : Option Addr} {w w' : World} (h : Pair n₀ n k m a1 a2 w) (hb : Below n₀ w w') : Pair n₀ n k m a1 a2 w' := by
  rcases h with h | ⟨b1, o1, b2, o2, r, s, h1, h2, h3, h4, h5⟩
  · exact .inl h
  · exact .inr ⟨b1, o1, b2, o2, r, s, h1, h2, h3.below hb, h4.below hb, h5⟩
/-- The tables of two equal ones. -/
structure Twin (n₀ m : Nat) (x y : Ix) (w : World) : Prop where
  okx : x.ok
  tx : TagsAt n₀ w x.ta x.tags
  ty : TagsAt n₀ w y.ta x.tags
  l : ∃ t u, t.count ≤ m ∧ ListAt n₀ w x.la x.ln t ∧ ListAt n₀ w y.la x.ln u ∧ t.bare = u.bare
  e : ∃ t u, t.count ≤ m ∧ ListAt n₀ w x.ea x.en t ∧ ListAt n₀ w y.ea x.en u ∧ t.bare = u.bare
theorem Pair.step {n₀ n k m : Nat} {a1 a2 : Option Addr} {w : World} (h : Pair n₀ n k m a1 a2 w) (hk : k < n) :
    ∃ (x : Ix) (ta : Option Addr) (tc : Nat) (la : Option Addr) (lc : Nat) (ea : Option Addr) (ec b1 o1 b2 o2 : Nat), b1 < n₀ ∧ b2 < n₀ ∧ a1 = some ⟨b1, o1, none⟩ ∧ a2 = some ⟨b2, o2, none⟩ ∧ Eight x b1 (o1 + k * 8) w ∧
      Eight ⟨x.op, x.res, x.a, x.b, x.n, x.tags, ta, tc, la, x.ln, lc, ea, x.en, ec⟩ b2 (o2 + k * 8) w ∧ Twin n₀ m x ⟨x.op, x.res, x.a, x.b, x.n, x.tags, ta, tc, la, x.ln, lc, ea, x.en, ec⟩ w ∧ Pair n₀ n (k + 1) m a1 a2 w := by
  rcases h with h | ⟨b1, o1, b2, o2, r, s, h1, h2, h3, h4, h5, h6, h7⟩
  · omega
  · cases r with
    | nil => simp only [Il.len] at h6; omega
    | cons x l e r =>
      cases s with
      | nil => simp [Il.bare] at h5
      | cons y l' e' s =>
        obtain ⟨op, res, a, b, nn, tags, ta, tc, la, ln, lc, ea, en, ec⟩ := x
        obtain ⟨op', res', a', b', nn', tags', ta', tc', la', ln', lc', ea', en', ec'⟩ := y
        simp only [Il.bare, Ix.bare, Il.cons.injEq, Ix.mk.injEq] at h5
        obtain ⟨⟨rfl, rfl, rfl, rfl, rfl, rfl, _, _, _, rfl, _, _, rfl, _⟩, hbl, hbe, hbr⟩ := h5
        obtain ⟨hb1, hx, c, ht, hl, he, hr⟩ := h3
        obtain ⟨hb2, _, c', ht', hl', he', hr'⟩ := h4
        simp only [Il.len] at h6
        simp only [Il.count] at h7
        refine ⟨⟨op, res, a, b, nn, tags, ta, tc, la, ln, lc, ea, en, ec⟩, ta', tc', la', lc', ea', ec', b1, o1, b2, o2, hb1, hb2, h1, h2, c, c', ⟨hx, ht, ht', ⟨l, l', by omega, hl, hl', hbl⟩, ⟨e, e', by omega, he, he', hbe⟩⟩, .inr ⟨b1, o1, b2, o2, r, s, h1, h2, ?_, ?_, hbr, by omega, by omega⟩⟩
        · rw [show o1 + (k + 1) * 8 = o1 + k * 8 + 8 by omega]; exact hr
        · rw [show o2 + (k + 1) * 8 = o2 + k * 8 + 8 by omega]; exact hr'

theorem two_boxes (w : World) (x y : Ix) : At x w.heap.size (((w.alloc (.cells x.vals 126)).alloc (.cells y.vals 126)).drew) ∧ At y (w.heap.size + 1) (((w.alloc (.cells x.vals 126)).alloc (.cells y.vals 126)).drew) ∧
    Below w.heap.size w (((w.alloc (.cells x.vals 126)).alloc (.cells y.vals 126)).drew) := by
  have hb : Below w.heap.size w (((w.alloc (.cells x.vals 126)).alloc (.cells y.vals 126)).drew) :=
    drewn ((((Below.refl w.heap.size w).alloc (Nat.le_refl _) _)).alloc (by simp) _) 1
  have h1 : At x w.heap.size ((w.alloc (.cells x.vals 126)).alloc (.cells y.vals 126)) := (At.made x w).below ((Below.refl _ _).alloc (Nat.le_refl _) _)
  have h2 : At y (w.alloc (.cells x.vals 126)).heap.size ((w.alloc (.cells x.vals 126)).alloc (.cells y.vals 126)) := At.made y _
  rw [World.size_alloc] at h2
  exact ⟨⟨h1.c0, h1.c1, h1.c2, h1.c3, h1.c4, h1.c5, h1.c6, h1.c7⟩, ⟨h2.c0, h2.c1, h2.c2, h2.c3, h2.c4, h2.c5, h2.c6, h2.c7⟩, hb⟩

set_option maxHeartbeats 4000000 in
set_option maxRecDepth 100000 in
theorem SameInstrs_yes (n₀ : Nat) : ∀ (m : Nat) (t u : Il) (a1 a2 : Option Addr) (n c1 c2 : Nat) (w : World), t.count ≤ m → ListAt n₀ w a1 n t → ListAt n₀ w a2 n u → t.bare = u.bare → n₀ ≤ w.heap.size → n ≤ 140737488351232 →
    Calls Tryz.prog 111 #[.slice a1 n c1, .slice a2 n c2] w fun e w' => e = .returned (.bool true) ∧ Below w.heap.size w w' := by
  intro m
  induction m with
  | zero =>
    intro t u a1 a2 n c1 c2 w hm h1 h2 he hn0 hn
    cases t with
    | cons x l e r => simp only [Il.count] at hm; omega
    | nil =>
      have h0 : n = 0 := h1.1.symm
      subst h0
      clear h1 h2 hm he
      go_enter Tryz.func111, Tryz.ntmps111
      go_wp2
      go_loopw [5] (fun vi wr => vi = .int .i64 0 ∧ wr = w) (fun _ _ => 0)
      case atStart => exact ⟨rfl, rfl⟩
      case round =>
        obtain ⟨rfl, rfl⟩ := hrel
        go_wp2
        go_ret
        exact ⟨rfl, Below.refl _ _⟩
  | succ m ih =>
    intro t u a1 a2 n c1 c2 w hm h1 h2 he hn0 hn
    have HM := hid hm
    have H1 := hid h1
    have H2 := hid h2
    have HE := hid he
    have HN := hid hn0
    clear hm h1 h2 he hn0
    go_enter Tryz.func111, Tryz.ntmps111
    go_wp2
    go_loopw [5] (fun vi wr => ∃ k : Nat, vi = .int .i64 k ∧ k ≤ n ∧ Below w.heap.size w wr ∧ Pair n₀ n k m a1 a2 wr) (fun vi _ => n - (intOf vi).toNat)
    case atStart => exact ⟨0, rfl, Nat.zero_le _, Below.refl _ _, Pair.start HM.out H1.out H2.out HE.out⟩
    case round =>
      obtain ⟨k, rfl, hk, hb, hT⟩ := hrel
      by_cases hkn : k < n
      · obtain ⟨x, ta, tc, la, lc, ea, ec, b1, o1, b2, o2, hb1, hb2, rfl, rfl, ⟨c0, c1, c2, c3, c4, c5, c6, c7⟩, ⟨d0, d1, d2, d3, d4, d5, d6, d7⟩, tw, hT'⟩ := hT.step hkn
        have TW := hid tw
        have HT := hid hT'
        have hk0 : (k : Int) < (n : Int) := by omega
        have hs := hb.size
        have hn0 := HN.out
        have e1 : b1 < wr.heap.size := by omega
        have e2 : b2 < wr.heap.size := by omega
        clear hb1 hb2 hs hn0
        dsimp only at d0 d1 d2 d3 d4 d5 d6 d7
        clear tw hT' hT H1 H2 HE HM
        go_wp2
        go_region
        · skip
          obtain ⟨w1, hw1, A1, A2, hb1⟩ : ∃ w1, w1 = ((wr.alloc (.cells #[.int .i64 x.op, .int .i64 x.res, .int .u32 x.a, .int .u32 x.b, .int .i32 x.n, .slice x.ta x.tags.length x.tc, .slice x.la x.ln x.lc, .slice x.ea x.en x.ec] 126)).alloc (.cells #[.int .i64 x.op, .int .i64 x.res, .int .u32 x.a, .int .u32 x.b, .int .i32 x.n, .slice ta x.tags.length tc, .slice la x.ln lc, .slice ea x.en ec] 126)).drew ∧ At x wr.heap.size w1 ∧ At ⟨x.op, x.res, x.a, x.b, x.n, x.tags, ta, tc, la, x.ln, lc, ea, x.en, ec⟩ (wr.heap.size + 1) w1 ∧ Below wr.heap.size wr w1 := by
            obtain ⟨A1, A2, hb⟩ := two_boxes wr x ⟨x.op, x.res, x.a, x.b, x.n, x.tags, ta, tc, la, x.ln, lc, ea, x.en, ec⟩
            exact ⟨_, rfl, A1, A2, hb⟩
          rw [← hw1]
          clear hw1
          have hN1 : n₀ ≤ w1.heap.size := Nat.le_trans HN.out (Nat.le_trans hb.size hb1.size)
          have tx := TW.out.tx.below (hb1.mono (Nat.le_trans HN.out hb.size))
          have ty := TW.out.ty.below (hb1.mono (Nat.le_trans HN.out hb.size))
          have SC := hid (SameCells_yes x.ta ta x.tags.length x.tc tc n₀ x.tags w1 rfl tx ty hN1 TW.out.okx.tn)
          have HB1 := hid hb1
          have HA1 := hid A1
          have HA2 := hid A2
          have HN1 := hid hN1
          obtain ⟨x0, x1, x2, x3, x4, x5, x6, x7⟩ := A1
          obtain ⟨y0, y1, y2, y3, y4, y5, y6, y7⟩ := A2
          dsimp only at y0 y1 y2 y3 y4 y5 y6 y7
          clear tx ty hb1 hN1 c0 c1 c2 c3 c4 c5 c6 c7 d0 d1 d2 d3 d4 d5 d6 d7 e1 e2
          go_wp2_with fail
          refine SC.out.mono ?_
          clear SC x0 x1 x2 x3 x4 x5 x6 x7 y0 y1 y2 y3 y4 y5 y6 y7
          rintro e w2 ⟨rfl, hb2⟩
          have hB2 : Below wr.heap.size wr w2 := HB1.out.trans (hb2.mono HB1.out.size)
          have HB2 := hid hB2
          have HA1' := hid (HA1.out.below hb2)
          have HA2' := hid (HA2.out.below hb2)
          have hN2 : n₀ ≤ w2.heap.size := Nat.le_trans HN1.out hb2.size
          obtain ⟨t1, u1, m1, lx, ly, be⟩ := TW.out.l
          have S1 := hid (ih t1 u1 x.la la x.ln x.lc lc w2 m1 (lx.below (hB2.mono (Nat.le_trans HN.out hb.size))) (ly.below (hB2.mono (Nat.le_trans HN.out hb.size))) be hN2 TW.out.okx.ln)
          have x6 := HA1'.out.c6
          have y6 := HA2'.out.c6
          dsimp only at x6 y6
          have HN2 := hid hN2
          clear hb2 hB2 m1 lx ly be hN2 HA1 HA2 HB1 HN1
          go_wp2_with fail
          refine S1.out.mono ?_
          clear S1 x6 y6
          rintro e w3 ⟨rfl, hb3⟩
          have hB3 : Below wr.heap.size wr w3 := HB2.out.trans (hb3.mono HB2.out.size)
          have HB3 := hid hB3
          have hA1 := HA1'.out.below hb3
          have hA2 := HA2'.out.below hb3
          have hN3 : n₀ ≤ w3.heap.size := Nat.le_trans HN2.out hb3.size
          obtain ⟨t2, u2, m2, kx, ky, bf⟩ := TW.out.e
          have S2 := hid (ih t2 u2 x.ea ea x.en x.ec ec w3 m2 (kx.below (hB3.mono (Nat.le_trans HN.out hb.size))) (ky.below (hB3.mono (Nat.le_trans HN.out hb.size))) bf hN3 TW.out.okx.en)
          have x7 := hA1.c7
          have y7 := hA2.c7
          dsimp only at x7 y7
          clear hb3 hB3 m2 kx ky bf hN3 HA1' HA2' HB2 HN2 hA1 hA2
          go_wp2_with fail
          refine S2.out.mono ?_
          clear S2 x7 y7
          rintro e w4 ⟨rfl, hb4⟩
          have HB4 := hid (HB3.out.trans (hb4.mono HB3.out.size))
          clear hb4 HB3
          go_wp2
          go_roundw
          case rel => exact ⟨k + 1, by go_num, by omega, hb.trans (HB4.out.mono hb.size), HT.out.below (HB4.out.mono (Nat.le_trans HN.out hb.size))⟩
          case measure => simp [intOf]; omega
        · skip
          obtain ⟨w1, hw1, A1, A2, hb1⟩ : ∃ w1, w1 = ((wr.alloc (.cells #[.int .i64 x.op, .int .i64 x.res, .int .u32 x.a, .int .u32 x.b, .int .i32 x.n, .slice ta x.tags.length tc, .slice la x.ln lc, .slice ea x.en ec] 126)).alloc (.cells #[.int .i64 x.op, .int .i64 x.res, .int .u32 x.a, .int .u32 x.b, .int .i32 x.n, .slice x.ta x.tags.length x.tc, .slice x.la x.ln x.lc, .slice x.ea x.en x.ec] 126)).drew ∧ At x (wr.heap.size + 1) w1 ∧ At ⟨x.op, x.res, x.a, x.b, x.n, x.tags, ta, tc, la, x.ln, lc, ea, x.en, ec⟩ wr.heap.size w1 ∧ Below wr.heap.size wr w1 := by
            obtain ⟨A2, A1, hb⟩ := two_boxes wr ⟨x.op, x.res, x.a, x.b, x.n, x.tags, ta, tc, la, x.ln, lc, ea, x.en, ec⟩ x
            exact ⟨_, rfl, A1, A2, hb⟩
          rw [← hw1]
          clear hw1
          have hN1 : n₀ ≤ w1.heap.size := Nat.le_trans HN.out (Nat.le_trans hb.size hb1.size)
          have tx := TW.out.tx.below (hb1.mono (Nat.le_trans HN.out hb.size))
          have ty := TW.out.ty.below (hb1.mono (Nat.le_trans HN.out hb.size))
          have SC := hid (SameCells_yes x.ta ta x.tags.length x.tc tc n₀ x.tags w1 rfl tx ty hN1 TW.out.okx.tn)
          have HB1 := hid hb1
          have HA1 := hid A1
          have HA2 := hid A2
          have HN1 := hid hN1
          obtain ⟨x0, x1, x2, x3, x4, x5, x6, x7⟩ := A1
          obtain ⟨y0, y1, y2, y3, y4, y5, y6, y7⟩ := A2
          dsimp only at y0 y1 y2 y3 y4 y5 y6 y7
          clear tx ty hb1 hN1 c0 c1 c2 c3 c4 c5 c6 c7 d0 d1 d2 d3 d4 d5 d6 d7 e1 e2
          go_wp2_with fail
          refine SC.out.mono ?_
          clear SC x0 x1 x2 x3 x4 x5 x6 x7 y0 y1 y2 y3 y4 y5 y6 y7
          rintro e w2 ⟨rfl, hb2⟩
          have hB2 : Below wr.heap.size wr w2 := HB1.out.trans (hb2.mono HB1.out.size)
          have HB2 := hid hB2
          have HA1' := hid (HA1.out.below hb2)
          have HA2' := hid (HA2.out.below hb2)
          have hN2 : n₀ ≤ w2.heap.size := Nat.le_trans HN1.out hb2.size
          obtain ⟨t1, u1, m1, lx, ly, be⟩ := TW.out.l
          have S1 := hid (ih t1 u1 x.la la x.ln x.lc lc w2 m1 (lx.below (hB2.mono (Nat.le_trans HN.out hb.size))) (ly.below (hB2.mono (Nat.le_trans HN.out hb.size))) be hN2 TW.out.okx.ln)
          have x6 := HA1'.out.c6
          have y6 := HA2'.out.c6
          dsimp only at x6 y6
          have HN2 := hid hN2
          clear hb2 hB2 m1 lx ly be hN2 HA1 HA2 HB1 HN1
          go_wp2_with fail
          refine S1.out.mono ?_
          clear S1 x6 y6
          rintro e w3 ⟨rfl, hb3⟩
          have hB3 : Below wr.heap.size wr w3 := HB2.out.trans (hb3.mono HB2.out.size)
          have HB3 := hid hB3
          have hA1 := HA1'.out.below hb3
          have hA2 := HA2'.out.below hb3
          have hN3 : n₀ ≤ w3.heap.size := Nat.le_trans HN2.out hb3.size
          obtain ⟨t2, u2, m2, kx, ky, bf⟩ := TW.out.e
          have S2 := hid (ih t2 u2 x.ea ea x.en x.ec ec w3 m2 (kx.below (hB3.mono (Nat.le_trans HN.out hb.size))) (ky.below (hB3.mono (Nat.le_trans HN.out hb.size))) bf hN3 TW.out.okx.en)
          have x7 := hA1.c7
          have y7 := hA2.c7
          dsimp only at x7 y7
          clear hb3 hB3 m2 kx ky bf hN3 HA1' HA2' HB2 HN2 hA1 hA2
          go_wp2_with fail
          refine S2.out.mono ?_
          clear S2 x7 y7
          rintro e w4 ⟨rfl, hb4⟩
          have HB4 := hid (HB3.out.trans (hb4.mono HB3.out.size))
          clear hb4 HB3
          go_wp2
          go_roundw
          case rel => exact ⟨k + 1, by go_num, by omega, hb.trans (HB4.out.mono hb.size), HT.out.below (HB4.out.mono (Nat.le_trans HN.out hb.size))⟩
          case measure => simp [intOf]; omega
      · obtain rfl : k = n := by omega
        go_wp2
        go_ret
        exact ⟨rfl, hb⟩
end Go.Proofs.YtepbjkkakfpjgaaGreatDoor.Body

namespace Go.Proofs.YtepbjkkakfpjgaaGreatDoor.Body
open Go.RowKit Go.Proofs.YtepbjkkakfpjgaaGreatDoor.Instr
open Go.Proofs.YtepbjkkakfpjgaaGreatDoor.Kind (Rd numR refuseR startR numR_good numR_bounds refuseR_good getL_next)
/-- An open list: its owner, the owner's first list if this is its second, what has been read, the slice that holds that. -/
structure Og where
  x : Ix
  fl : Il
  t : Il
  v : Value
  oth : Bool
def Og.cells (o : Og) : List Value := o.x.vals.toList ++ [o.v, .bool o.oth]
def rowBlk (v : Value) : List Nat := match v.ownBlock with
  | some g => [g]
  | none => []
/-- Its blocks, but for that of its row. -/
def Og.inner (o : Og) : List Nat := o.t.foot ++ (blkOf o.x.ln o.x.la ++ o.fl.foot)
def Og.foot (o : Og) : List Nat := rowBlk o.v ++ o.inner
/-- What the plain reading knows of it. -/
def Og.fr (o : Og) : Fr := ⟨plainX o.x.op o.x.res 0 0 0 [], o.fl.bare, o.t.bare, o.oth⟩
/-- All but the row of what has been read. -/
structure Half (base : Nat) (w : World) (o : Og) : Prop where
  kids : o.t.kids w
  own : ListAt w.heap.size w o.x.la o.x.ln o.fl
  tags : o.x.tags = []
  zero : o.x.a = 0 ∧ o.x.b = 0 ∧ o.x.n = 0
  ok : o.x.ok
  en : o.x.ea = none ∧ o.x.en = 0 ∧ o.x.ec = 0
  first : o.oth = false → o.x.la = none ∧ o.x.ln = 0 ∧ o.x.lc = 0
  low : ∀ q ∈ o.inner, base ≤ q
  few : o.t.len ≤ 4000000
  soft : ∀ q ∈ o.inner, Soft w q
structure OpenOk (base : Nat) (w : World) (o : Og) : Prop where
  half : Half base w o
  row : w.ownsRow base 126 8 o.v o.t.len o.t.cells
theorem Half.touch {base : Nat} {S : Nat → Prop} {w w' : World} {o : Og} (h : Half base w o) (ht : Touch S w w') (hk : ∀ q ∈ o.inner, ¬ S q) : Half base w' o := by
  obtain ⟨h1, h2, h3, h4, h5, h6, h7, h8, h9, h10⟩ := h
  have hs : ∀ q ∈ o.inner, Soft w' q := fun q hq => (h10 q hq).touch ht (hk q hq)
  unfold Og.inner at hk
  exact ⟨kids_touch ht h1 (fun q hq => hk q (List.mem_append_left _ hq)), ListAt.more ht.size (h2.touch ht (fun q hq => hk q (List.mem_append_right _ hq))), h3, h4, h5, h6, h7, h8, h9, hs⟩
theorem OpenOk.touch {base : Nat} {S : Nat → Prop} {w w' : World} {o : Og} (h : OpenOk base w o) (ht : Touch S w w') (hk : ∀ q ∈ o.foot, ¬ S q) : OpenOk base w' o :=
  ⟨h.half.touch ht (fun q hq => hk q (List.mem_append_right _ hq)), touch_row h.row ht (fun g hg => hk g (List.mem_append_left _ (by simp [rowBlk, hg])))⟩
theorem OpenOk.low {base : Nat} {w : World} {o : Og} (h : OpenOk base w o) : ∀ q ∈ o.foot, base ≤ q := by
  intro q hq
  rcases List.mem_append.1 hq with hq | hq
  · unfold rowBlk at hq
    split at hq
    · rename_i g hg
      simp at hq
      subst hq
      exact (World.ownsRow.lt h.row q hg).1
    · simp at hq
  · exact h.half.low q hq
theorem OpenOk.soft {base : Nat} {w : World} {o : Og} (h : OpenOk base w o) : ∀ q ∈ o.foot, Soft w q := by
  intro q hq
  rcases List.mem_append.1 hq with hq | hq
  · unfold rowBlk at hq
    split at hq
    · rename_i g hg
      simp at hq
      subst hq
      exact soft_row h.row hg
    · simp at hq
  · exact h.half.soft q hq
theorem Half.lt {base : Nat} {w : World} {o : Og} (h : Half base w o) : ∀ q ∈ o.inner, q < w.heap.size := by
  intro q hq
  rcases List.mem_append.1 hq with hq | hq
  · exact kids_lt h.kids q hq
  · exact list_lt h.own q hq
theorem OpenOk.lt {base : Nat} {w : World} {o : Og} (h : OpenOk base w o) : ∀ q ∈ o.foot, q < w.heap.size := by
  intro q hq
  rcases List.mem_append.1 hq with hq | hq
  · unfold rowBlk at hq
    split at hq
    · rename_i g hg
      simp at hq
      subst hq
      exact (World.ownsRow.lt h.row q hg).2
    · simp at hq
  · exact h.half.lt q hq

theorem cells_ten (o : Og) : o.cells.length = 10 := by simp [Og.cells, Ix.vals]
theorem flat_ten : ∀ os : List Og, (os.flatMap Og.cells).length = os.length * 10
  | [] => rfl
  | o :: os => by rw [List.flatMap_cons, List.length_append, flat_ten os, cells_ten, List.length_cons]; omega
theorem flat_snoc (os : List Og) (o : Og) : (os ++ [o]).flatMap Og.cells = os.flatMap Og.cells ++ o.cells := by simp
theorem set_top (os : List Og) (cs : List Value) (j : Nat) (u : Value) : (os.flatMap Og.cells ++ cs).set (os.length * 10 + j) u = os.flatMap Og.cells ++ cs.set j u := by
  rw [List.set_append_right _ _ (by rw [flat_ten]; omega), flat_ten]
  congr 2; omega
theorem nodup_mid {a : Nat} {l m : List Nat} (h : (a :: (l ++ m)).Nodup) : (∀ q ∈ l, q ≠ a ∧ q ∉ m) ∧ (∀ q ∈ m, q ≠ a) ∧ m.Nodup ∧ l.Nodup := by
  simp only [List.nodup_cons, List.mem_append, not_or, List.nodup_append] at h
  obtain ⟨⟨h1, h2⟩, h3, h4, h5⟩ := h
  exact ⟨fun q hq => ⟨fun e => h1 (e ▸ hq), fun hm => h5 q hq q hm rfl⟩, fun q hq e => h2 (e ▸ hq), h4, h3⟩

end Go.Proofs.YtepbjkkakfpjgaaGreatDoor.Body

/-
  BODY: the open lists' small calls, by contract: divisible, divide, closeTop.
-/
namespace Go.Proofs.YtepbjkkakfpjgaaGreatDoor.Body
open Go.RowKit Go.Proofs.YtepbjkkakfpjgaaGreatDoor.Instr
open Go.Proofs.YtepbjkkakfpjgaaGreatDoor.Kind (Rd numR refuseR startR numR_good numR_bounds refuseR_good getL_next)

def divided (w : World) (g p : Nat) (v : Value) : World := ((w.setCell ⟨g, p + 6, none⟩ v).setCell ⟨g, p + 8, none⟩ (.slice none 0 0)).setCell ⟨g, p + 9, none⟩ (.bool true)
/-- The owner, all of which has been read, with its lists where they lie. -/
def Og.ox (o : Og) (a : Option Addr) (c : Nat) : Ix :=
  if o.oth then ⟨o.x.op, o.x.res, o.x.a, o.x.b, o.x.n, o.x.tags, o.x.ta, o.x.tc, o.x.la, o.x.ln, o.x.lc, a, o.t.len, c⟩
  else ⟨o.x.op, o.x.res, o.x.a, o.x.b, o.x.n, o.x.tags, o.x.ta, o.x.tc, a, o.t.len, c, o.x.ea, o.x.en, o.x.ec⟩
def Og.ol (o : Og) : Il := if o.oth then o.fl else o.t
def Og.oe (o : Og) : Il := if o.oth then o.t else .nil
def zeroI : Value := .agg #[.int .i64 0, .int .i64 0, .int .u32 0, .int .u32 0, .int .i32 0, .slice none 0 0, .slice none 0 0, .slice none 0 0]
theorem infoI : (Tryz.prog.info? 126).map (fun i => (i.zero, i.size, i.bytes)) = some (some zeroI, 8, 104) := by kernel_rfl

section
variable {ops : Array Oper} {o : Oper} {act : Act} {K : Act → World → Prop} {Q : Exit → Act → World → Prop} {E : Prop}
/-- A nought is appended to a list of one's own, in a region that draws its order. -/
theorem step_append_zero (hgd : o.guard = none) (s x : Operand) (ho : o.op = .call { callee := .builtin .append, args := #[s, x], argTypes := #[45, 45] })
    {base : Nat} {w : World} {v : Value} {t : Il} {g : Nat} (hs : act.eval s = v) (hx : act.eval x = .slice (some ⟨g, 0, none⟩) 1 1) (hz : ∀ j u, zeroX.vals.toList[j]? = some u → w.cell? ⟨g, j, none⟩ = some u)
    (hown : w.ownsRow base 126 8 v t.len t.cells) (hn : t.len < 4000000) (hbase : base ≤ w.heap.size)
    (h : ∀ g' cap' w', w'.ownsRow base 126 8 (.slice (some ⟨g', 0, none⟩) (t.len + 1) cap') (t.len + 1) (t.cells ++ zeroX.vals.toList) → w.grownBy w' v.ownBlock → (v.ownBlock = some g' ∨ g' = w.heap.size) → g' < w'.heap.size → K (act.put o.dst (.slice (some ⟨g', 0, none⟩) (t.len + 1) cap')) w') :
    if Region.wanted o (yielded ops act.tmps) = true then Oper.wp Tryz.prog o act w K Q else E := by
  obtain ⟨i0, hi, hz0, hz1, hz2⟩ := info_parts infoI
  refine step_append_lies w hgd s x 45 ho base 126 i0 zeroI 8 104 Tryz.underlying45 hi hz0 hz1 hz2 rfl (by decide) v t.len t.cells hs hown ⟨g, 0, none⟩ 1 1 zeroX.vals.toList hx rfl (fun j u hj => by rw [plain_add]; exact hz j u hj) ?_ (by decide) (by unfold maxLen; omega) (by omega) hbase _ rfl h
  intro u hu
  simp [zeroX, plainX, Ix.vals] at hu
  rcases hu with rfl | rfl | rfl | rfl <;> rfl
end
end Go.Proofs.YtepbjkkakfpjgaaGreatDoor.Body

/-
  BODY: closeTop, by contract.
-/
namespace Go.Proofs.YtepbjkkakfpjgaaGreatDoor.Body
open Go.RowKit Go.Proofs.YtepbjkkakfpjgaaGreatDoor.Instr
open Go.Proofs.YtepbjkkakfpjgaaGreatDoor.Kind (Rd numR refuseR startR numR_good numR_bounds refuseR_good getL_next)

/-- The cells that an append to an open list's slice reads: that slice, and the instruction. -/
def Tops (gs p T : Nat) (gv : Value) (y : Ix) (w : World) : Prop := w.cell? ⟨gs, p, none⟩ = some gv ∧ At y T w
theorem Tops.touch {gs p T : Nat} {gv : Value} {y : Ix} {S : Nat → Prop} {w w' : World} (h : Tops gs p T gv y w) (ht : Touch S w w') (h1 : ¬ S gs) (h2 : ¬ S T) : w'.cell? ⟨gs, p, none⟩ = some gv ∧ w'.cell? ⟨T, 0, none⟩ = some (.int .i64 y.op) ∧ w'.cell? ⟨T, 1, none⟩ = some (.int .i64 y.res) ∧
    w'.cell? ⟨T, 2, none⟩ = some (.int .u32 y.a) ∧ w'.cell? ⟨T, 3, none⟩ = some (.int .u32 y.b) ∧ w'.cell? ⟨T, 4, none⟩ = some (.int .i32 y.n) ∧ w'.cell? ⟨T, 5, none⟩ = some (.slice y.ta y.tags.length y.tc) ∧ w'.cell? ⟨T, 6, none⟩ = some (.slice y.la y.ln y.lc) ∧ w'.cell? ⟨T, 7, none⟩ = some (.slice y.ea y.en y.ec) := by
  obtain ⟨h0, ⟨c0, c1, c2, c3, c4, c5, c6, c7⟩⟩ := h
  exact ⟨ht.cell h1 h0, ht.cell h2 c0, ht.cell h2 c1, ht.cell h2 c2, ht.cell h2 c3, ht.cell h2 c4, ht.cell h2 c5, ht.cell h2 c6, ht.cell h2 c7⟩
theorem Tops.keep {gs p T : Nat} {gv : Value} {y : Ix} {w w' : World} (h : Tops gs p T gv y w) (ht : Touch (fun j => j ≠ T) w w') : w'.cell? ⟨T, 0, none⟩ = some (.int .i64 y.op) ∧ w'.cell? ⟨T, 1, none⟩ = some (.int .i64 y.res) ∧
    w'.cell? ⟨T, 2, none⟩ = some (.int .u32 y.a) ∧ w'.cell? ⟨T, 3, none⟩ = some (.int .u32 y.b) ∧ w'.cell? ⟨T, 4, none⟩ = some (.int .i32 y.n) ∧ w'.cell? ⟨T, 5, none⟩ = some (.slice y.ta y.tags.length y.tc) ∧ w'.cell? ⟨T, 6, none⟩ = some (.slice y.la y.ln y.lc) ∧ w'.cell? ⟨T, 7, none⟩ = some (.slice y.ea y.en y.ec) := by
  obtain ⟨_, ⟨c0, c1, c2, c3, c4, c5, c6, c7⟩⟩ := h
  have n : ¬ T ≠ T := fun h => h rfl
  exact ⟨ht.cell n c0, ht.cell n c1, ht.cell n c2, ht.cell n c3, ht.cell n c4, ht.cell n c5, ht.cell n c6, ht.cell n c7⟩
theorem tset {T : Nat} {a b : World} {p : Addr} {v : Value} (h : Touch (fun j => j ≠ T) a b) (hp : p.block ≠ T) : Touch (fun j => j ≠ T) a (b.setCell p v) := h.setCell (.inl hp) v
theorem zero_cells (w : World) : ∀ j u, zeroX.vals.toList[j]? = some u → (w.alloc (.cells #[.int .i64 0, .int .i64 0, .int .u32 0, .int .u32 0, .int .i32 0, .slice none 0 0, .slice none 0 0, .slice none 0 0] 126)).cell? ⟨w.heap.size, j, none⟩ = some u := by
  intro j u hj
  have hm := (bx_made zeroX w).at_
  match j, hj with
  | 0, hj => simp [zeroX, plainX, Ix.vals] at hj; subst hj; exact hm.c0
  | 1, hj => simp [zeroX, plainX, Ix.vals] at hj; subst hj; exact hm.c1
  | 2, hj => simp [zeroX, plainX, Ix.vals] at hj; subst hj; exact hm.c2
  | 3, hj => simp [zeroX, plainX, Ix.vals] at hj; subst hj; exact hm.c3
  | 4, hj => simp [zeroX, plainX, Ix.vals] at hj; subst hj; exact hm.c4
  | 5, hj => simp [zeroX, plainX, Ix.vals] at hj; subst hj; exact hm.c5
  | 6, hj => simp [zeroX, plainX, Ix.vals] at hj; subst hj; exact hm.c6
  | 7, hj => simp [zeroX, plainX, Ix.vals] at hj; subst hj; exact hm.c7
  | j + 8, hj => simp [zeroX, plainX, Ix.vals] at hj

theorem setCell_comm (w : World) {p q : Addr} (u v : Value) (h : p.block ≠ q.block) : (w.setCell p u).setCell q v = (w.setCell q v).setCell p u := by
  unfold World.setCell
  simp only [World.mk.injEq, and_self, and_true]
  apply Array.ext_getElem?
  intro i
  simp only [Array.getElem?_modify]
  by_cases h1 : p.block = i
  · have h2 : ¬ q.block = i := fun e => h (h1.trans e.symm)
    simp [h1, h2]
  · by_cases h2 : q.block = i
    · simp [h1, h2]
    · simp [h1, h2]
theorem store8_comm (w : World) {g off gs p : Nat} (x : Ix) (v : Value) (h : g ≠ gs) : store8 (w.setCell ⟨gs, p, none⟩ v) g off x = (store8 w g off x).setCell ⟨gs, p, none⟩ v := by
  unfold store8
  have c : ∀ (W : World) (j : Nat) (u : Value), (W.setCell ⟨gs, p, none⟩ v).setCell ⟨g, j, none⟩ u = (W.setCell ⟨g, j, none⟩ u).setCell ⟨gs, p, none⟩ v := fun W j u => setCell_comm W v u (fun e => h e.symm)
  rw [c, c, c, c, c, c, c, c]
theorem store8_A (w : World) (g off gs p : Nat) (x : Ix) (v : Value) : ((((((((w.setCell ⟨g, off, none⟩ (.int .i64 x.op)).setCell ⟨g, off + 1, none⟩ (.int .i64 x.res)).setCell ⟨g, off + 2, none⟩ (.int .u32 x.a)).setCell ⟨g, off + 3, none⟩ (.int .u32 x.b)).setCell ⟨g, off + 4, none⟩ (.int .i32 x.n)).setCell
    ⟨g, off + 5, none⟩ (.slice x.ta x.tags.length x.tc)).setCell ⟨g, off + 6, none⟩ (.slice x.la x.ln x.lc)).setCell ⟨g, off + 7, none⟩ (.slice x.ea x.en x.ec)).setCell ⟨gs, p, none⟩ v = (store8 w g off x).setCell ⟨gs, p, none⟩ v := rfl
theorem store8_B (w : World) (g off gs p : Nat) (x : Ix) (v : Value) (h : g ≠ gs) : ((((((((w.setCell ⟨gs, p, none⟩ v).setCell ⟨g, off, none⟩ (.int .i64 x.op)).setCell ⟨g, off + 1, none⟩ (.int .i64 x.res)).setCell ⟨g, off + 2, none⟩ (.int .u32 x.a)).setCell ⟨g, off + 3, none⟩ (.int .u32 x.b)).setCell ⟨g, off + 4, none⟩ (.int .i32 x.n)).setCell
    ⟨g, off + 5, none⟩ (.slice x.ta x.tags.length x.tc)).setCell ⟨g, off + 6, none⟩ (.slice x.la x.ln x.lc)).setCell ⟨g, off + 7, none⟩ (.slice x.ea x.en x.ec) = (store8 w g off x).setCell ⟨gs, p, none⟩ v := store8_comm w x v h
/-- What an item more leaves: the top list's slice, its cells, and the stack's cell. -/
def Itemed (base gs p : Nat) (y : Ix) (ga : Option Addr) (gc : Nat) (gt : Il) (w w' : World) : Prop :=
  ∃ w1 g' cap', Touch (fun j => Value.ownBlock (.slice ga gt.len gc) = some j) w w1 ∧ w1.ownsRow base 126 8 (.slice (some ⟨g', 0, none⟩) (gt.len + 1) cap') (gt.len + 1) (gt.cells ++ zeroX.vals.toList) ∧ (Value.ownBlock (.slice ga gt.len gc) = some g' ∨ w.heap.size ≤ g') ∧
    w' = (store8 w1 g' (gt.len * 8) y).setCell ⟨gs, p, none⟩ (.slice (some ⟨g', 0, none⟩) (gt.len + 1) cap')
def Closed (base m gs cap : Nat) (y : Ix) (ga : Option Addr) (gc : Nat) (gt : Il) (w : World) (e : Ending) (w' : World) : Prop := e = .returned (.slice (some ⟨gs, 0, none⟩) (m + 1) cap) ∧ Itemed base gs (m * 10 + 8) y ga gc gt w w'
/-- What the eight cells hold that were appended, and that they may be written. -/
theorem zero_at {w : World} {base g cap : Nat} {t : Il} (h : w.ownsRow base 126 8 (.slice (some ⟨g, 0, none⟩) (t.len + 1) cap) (t.len + 1) (t.cells ++ zeroX.vals.toList)) :
    (w.cell? ⟨g, t.len * 8, none⟩ = some (.int .i64 0) ∧ w.cell? ⟨g, t.len * 8 + 1, none⟩ = some (.int .i64 0) ∧ w.cell? ⟨g, t.len * 8 + 2, none⟩ = some (.int .u32 0) ∧ w.cell? ⟨g, t.len * 8 + 3, none⟩ = some (.int .u32 0) ∧ w.cell? ⟨g, t.len * 8 + 4, none⟩ = some (.int .i32 0) ∧
      w.cell? ⟨g, t.len * 8 + 5, none⟩ = some (.slice none 0 0) ∧ w.cell? ⟨g, t.len * 8 + 6, none⟩ = some (.slice none 0 0) ∧ w.cell? ⟨g, t.len * 8 + 7, none⟩ = some (.slice none 0 0)) ∧
    (w.frozen? ⟨g, t.len * 8, none⟩ = false ∧ w.frozen? ⟨g, t.len * 8 + 1, none⟩ = false ∧ w.frozen? ⟨g, t.len * 8 + 2, none⟩ = false ∧ w.frozen? ⟨g, t.len * 8 + 3, none⟩ = false ∧ w.frozen? ⟨g, t.len * 8 + 4, none⟩ = false ∧ w.frozen? ⟨g, t.len * 8 + 5, none⟩ = false ∧ w.frozen? ⟨g, t.len * 8 + 6, none⟩ = false ∧ w.frozen? ⟨g, t.len * 8 + 7, none⟩ = false) := by
  have c : ∀ j u, j < 8 → zeroX.vals.toList[j]? = some u → w.cell? ⟨g, t.len * 8 + j, none⟩ = some u := by
    intro j u hj hu
    rw [h.cellAt (t.len * 8 + j) (by omega), List.getElem?_append_right (by rw [cells_length]; omega), cells_length, show t.len * 8 + j - t.len * 8 = j by omega]
    exact hu
  exact ⟨⟨c 0 _ (by omega) rfl, c 1 _ (by omega) rfl, c 2 _ (by omega) rfl, c 3 _ (by omega) rfl, c 4 _ (by omega) rfl, c 5 _ (by omega) rfl, c 6 _ (by omega) rfl, c 7 _ (by omega) rfl⟩,
    h.frozenAt _, h.frozenAt _, h.frozenAt _, h.frozenAt _, h.frozenAt _, h.frozenAt _, h.frozenAt _, h.frozenAt _⟩

end Go.Proofs.YtepbjkkakfpjgaaGreatDoor.Body

/-
  BODY: closeTop, by contract, on the stack of open lists.
-/
namespace Go.Proofs.YtepbjkkakfpjgaaGreatDoor.Body
open Go.RowKit Go.Proofs.YtepbjkkakfpjgaaGreatDoor.Instr
open Go.Proofs.YtepbjkkakfpjgaaGreatDoor.Kind (Rd numR refuseR startR numR_good numR_bounds refuseR_good getL_next)

theorem own_blk {v : Value} {q : Nat} (h : v.ownBlock = some q) : q ∈ rowBlk v := by simp [rowBlk, h]
theorem blk_own {v : Value} {q : Nat} (h : q ∈ rowBlk v) : v.ownBlock = some q := by
  unfold rowBlk at h
  split at h
  · rename_i g hg; simp at h; rw [hg, h]
  · simp at h
theorem bare_nums {x : Ix} (h : x.tags = []) (hz : x.a = 0 ∧ x.b = 0 ∧ x.n = 0) : ∀ l e : Il, Ix.hold (plainX x.op x.res 0 0 0 []) l e = Ix.bare ⟨x.op, x.res, x.a, x.b, x.n, x.tags, x.ta, x.tc, none, l.len, 0, none, e.len, 0⟩ := by
  intro l e
  simp [Ix.hold, plainX, Ix.bare, h, hz.1, hz.2.1, hz.2.2]

end Go.Proofs.YtepbjkkakfpjgaaGreatDoor.Body

/-
  BODY: one open list more; the first one; the instruction's contract, its value written out.
-/
namespace Go.Proofs.YtepbjkkakfpjgaaGreatDoor.Body
open Go.RowKit Go.Proofs.YtepbjkkakfpjgaaGreatDoor.Instr
open Go.Proofs.YtepbjkkakfpjgaaGreatDoor.Kind (Rd numR refuseR startR numR_good numR_bounds refuseR_good getL_next)

def zeroO : Value := .agg #[.int .i64 0, .int .i64 0, .int .u32 0, .int .u32 0, .int .i32 0, .slice none 0 0, .slice none 0 0, .slice none 0 0, .slice none 0 0, .bool false]
def newOg (x : Ix) : Og := ⟨x, .nil, .nil, .slice none 0 0, false⟩
theorem restR_plain {zs : List Int} {op : Int} {s : Rd} : (restR zs op s).x = plainX (restR zs op s).x.op (restR zs op s).x.res (restR zs op s).x.a (restR zs op s).x.b (restR zs op s).x.n (restR zs op s).x.tags := by
  unfold restR
  split <;> rfl
theorem restR_kind1 {zs : List Int} {op : Int} {s : Rd} (h : kindP op = 1) : (restR zs op s).x.a = 0 ∧ (restR zs op s).x.b = 0 ∧ (restR zs op s).x.n = 0 ∧ (restR zs op s).x.tags = [] ∧ ((restR zs op s).x.res = 0 ∨ (restR zs op s).x.res = 1) := by
  rw [restR1 h]
  refine ⟨rfl, rfl, rfl, rfl, ?_⟩
  dsimp only [plainX]
  split <;> simp
theorem sgnR_bounds {zs : List Int} {s : Rd} (hz : ∀ c ∈ zs, 0 ≤ c ∧ c < 256) : -2147483648 ≤ (sgnR zs s).1 ∧ (sgnR zs s).1 < 2147483648 := by
  unfold sgnR
  split
  · split
    · rename_i he
      have := Leb.getL_shortS hz (x := (Leb.getL true zs s.1).1) (q := (Leb.getL true zs s.1).2.1) (e := (Leb.getL true zs s.1).2.2.1) (f := (Leb.getL true zs s.1).2.2.2) rfl he
      exact ⟨this.1, this.2.1⟩
    · simp
  · simp
theorem restR_ok {zs : List Int} {op : Int} {s : Rd} (hz : ∀ c ∈ zs, 0 ≤ c ∧ c < 256) (h0 : -9223372036854775808 ≤ op ∧ op ≤ 9223372036854775807) : (restR zs op s).x.ok ∧ (restR zs op s).x.tags.length ≤ 16384 := by
  have u : ∀ t : Rd, 0 ≤ (numR zs t).1 ∧ (numR zs t).1 < 4294967296 := fun t => numR_bounds hz
  have v := sgnR_bounds (s := s) hz
  have l := labelsR_few (s := s) hz
  rcases kind_cases op with hk | hk | hk | hk | hk | hk | hk | hk
  · rw [restR0 hk]; exact ⟨⟨h0, by simp [plainX], by simp [plainX], by simp [plainX], by simp [plainX], by simp [plainX], by simp [plainX], by simp [plainX], by simp [plainX]⟩, by simp [plainX]⟩
  · rw [restR1 hk]
    refine ⟨⟨h0, ?_, by simp [plainX], by simp [plainX], by simp [plainX], by simp [plainX], by simp [plainX], by simp [plainX], by simp [plainX]⟩, by simp [plainX]⟩
    dsimp only [plainX]
    split <;> simp
  · rw [restR2 hk]; exact ⟨⟨h0, by simp [plainX], u _, by simp [plainX], by simp [plainX], by simp [plainX], by simp [plainX], by simp [plainX], by simp [plainX]⟩, by simp [plainX]⟩
  · rw [restR3 hk]; exact ⟨⟨h0, by simp [plainX], u _, by simp [plainX], by simp [plainX], by simp [plainX], by simp [plainX], by simp [plainX], by simp [plainX]⟩, by simp [plainX]⟩
  · rw [restR4 hk]; exact ⟨⟨h0, by simp [plainX], u _, by simp [plainX], by simp [plainX], l.2, by simp only [plainX]; omega, by simp [plainX], by simp [plainX]⟩, l.1⟩
  · rw [restR5 hk]; exact ⟨⟨h0, by simp [plainX], u _, u _, by simp [plainX], by simp [plainX], by simp [plainX], by simp [plainX], by simp [plainX]⟩, by simp [plainX]⟩
  · rw [restR6 hk]; exact ⟨⟨h0, by simp [plainX], by simp [plainX], by simp [plainX], by simp [plainX], by simp [plainX], by simp [plainX], by simp [plainX], by simp [plainX]⟩, by simp [plainX]⟩
  · rw [restR7 hk]; exact ⟨⟨h0, by simp [plainX], by simp [plainX], by simp [plainX], v, by simp [plainX], by simp [plainX], by simp [plainX], by simp [plainX]⟩, by simp [plainX]⟩

theorem newOg_half {base : Nat} {w : World} {x : Ix} (h1 : x.tags = []) (h2 : x.a = 0 ∧ x.b = 0 ∧ x.n = 0) (h3 : x.ok) (h4 : x.la = none ∧ x.ln = 0 ∧ x.lc = 0) (h5 : x.ea = none ∧ x.en = 0 ∧ x.ec = 0) : OpenOk base w (newOg x) :=
  ⟨⟨trivial, ⟨h4.2.1.symm, .inl rfl⟩, h1, h2, h3, h5, fun _ => h4, fun q hq => by simp [newOg, Og.inner, Il.foot, blkOf, h4.2.1] at hq, by simp [newOg, Il.len], fun q hq => by simp [newOg, Og.inner, Il.foot, blkOf, h4.2.1] at hq⟩, rfl, .inl ⟨rfl, rfl⟩⟩
theorem newOg_foot {x : Ix} (h : x.ln = 0) : (newOg x).foot = [] := by simp [newOg, Og.foot, Og.inner, rowBlk, Value.ownBlock, Il.foot, blkOf, h]
/-- An instruction without its lists, its value written out. -/
def DoesV (k : Nat) (v : Value) (w : World) (op res a b n : Int) (tags : List Int) (s : Rd) (e : Ending) (w' : World) : Prop :=
  ∃ ta tc, e = .returned (.agg #[.int .i64 op, .int .i64 res, .int .u32 a, .int .u32 b, .int .i32 n, .slice ta tags.length tc, .slice none 0 0, .slice none 0 0]) ∧ OwnK 28 .u32 w.heap.size w' (.slice ta tags.length tc) tags ∧ RdIs w' k v s ∧ Save k w w'
theorem tags_soft {w : World} {B : Nat} {ta : Option Addr} {tc : Nat} {tags : List Int} (h : OwnK 28 .u32 B w (.slice ta tags.length tc) tags) : ∀ q ∈ blkOf tags.length ta, Soft w q := by
  intro q hq
  unfold blkOf at hq
  split at hq
  · simp at hq
  · cases ta with
    | none => simp at hq
    | some p =>
      simp at hq
      subst hq
      exact soft_row h rfl
theorem tags_of {w : World} {B : Nat} {ta : Option Addr} {tc : Nat} {tags : List Int} (h : OwnK 28 .u32 B w (.slice ta tags.length tc) tags) : TagsAt w.heap.size w ta tags ∧ (∀ q ∈ blkOf tags.length ta, B ≤ q) ∧ (blkOf tags.length ta).Nodup := by
  refine ⟨?_, ?_, ?_⟩
  · rcases (OwnK.nums h).at_ with h0 | ⟨b, off, rfl, hc⟩
    · exact .inl h0
    · by_cases h0 : tags = []
      · exact .inl h0
      · exact .inr ⟨b, off, rfl, World.block_lt_of_cell? w _ (hc 0 (List.length_pos_iff.2 h0)), hc⟩
  · intro q hq
    rcases h.2 with ⟨h0, _⟩ | ⟨g, cap, cur, hv, hg, _⟩
    · simp only [Value.slice.injEq] at h0
      simp [h0.1, blkOf] at hq
    · simp only [Value.slice.injEq] at hv
      obtain ⟨rfl, _, _⟩ := hv
      unfold blkOf at hq
      split at hq
      · simp at hq
      · simp at hq; omega
  · unfold blkOf
    split
    · exact List.nodup_nil
    · split <;> simp
end Go.Proofs.YtepbjkkakfpjgaaGreatDoor.Body

/-
  BODY: the loop over the open lists: what it keeps; a plain step for each way.
-/
namespace Go.Proofs.YtepbjkkakfpjgaaGreatDoor.Body
open Go.RowKit Go.Proofs.YtepbjkkakfpjgaaGreatDoor.Instr
open Go.Proofs.YtepbjkkakfpjgaaGreatDoor.Kind (Rd numR refuseR startR numR_good numR_bounds refuseR_good getL_next)

section
variable {zs : List Int} {m : Nat} {f : Fr} {fs : List Fr} {cnt : Int} {s s1 : Rd} {y : Int}
theorem mach_succ : mach zs (m + 1) f fs cnt s =
    if (opR zs f.div (fs.length + 1) cnt s).2.2.1 ≠ 0 then (.nil, (opR zs f.div (fs.length + 1) cnt s).2)
    else if (opR zs f.div (fs.length + 1) cnt s).1 = 5 then mach zs m ⟨f.x, f.t, .nil, true⟩ fs cnt (opR zs f.div (fs.length + 1) cnt s).2
    else if (opR zs f.div (fs.length + 1) cnt s).1 = 11 then
      match fs with
      | [] => (f.t, (opR zs f.div (fs.length + 1) cnt s).2)
      | g :: gs => mach zs m ⟨g.x, g.fl, g.t.app f.one, g.oth⟩ gs cnt (opR zs f.div (fs.length + 1) cnt s).2
    else if kindP (opR zs f.div (fs.length + 1) cnt s).1 = 1 then mach zs m ⟨(restR zs (opR zs f.div (fs.length + 1) cnt s).1 (opR zs f.div (fs.length + 1) cnt s).2).x, .nil, .nil, false⟩ (f :: fs) (cnt + 1) (restR zs (opR zs f.div (fs.length + 1) cnt s).1 (opR zs f.div (fs.length + 1) cnt s).2).s
    else mach zs m ⟨f.x, f.fl, f.t.app (.cons (restR zs (opR zs f.div (fs.length + 1) cnt s).1 (opR zs f.div (fs.length + 1) cnt s).2).x .nil .nil .nil), f.oth⟩ fs (cnt + 1) (restR zs (opR zs f.div (fs.length + 1) cnt s).1 (opR zs f.div (fs.length + 1) cnt s).2).s := by
  cases fs <;> rfl
theorem mach_fault (h : opR zs f.div (fs.length + 1) cnt s = (y, s1)) (hb : s1.2.1 ≠ 0) : mach zs (m + 1) f fs cnt s = (.nil, s1) := by
  rw [mach_succ]; simp only [h, ne_eq, hb, not_false_eq_true, if_true]
theorem mach_five (h : opR zs f.div (fs.length + 1) cnt s = (5, s1)) (hb : s1.2.1 = 0) : mach zs (m + 1) f fs cnt s = mach zs m ⟨f.x, f.t, .nil, true⟩ fs cnt s1 := by
  rw [mach_succ]; simp only [h, ne_eq, hb, not_true_eq_false, if_false, if_true]
theorem mach_last (h : opR zs f.div 1 cnt s = (11, s1)) (hb : s1.2.1 = 0) : mach zs (m + 1) f [] cnt s = (f.t, s1) := by
  rw [mach_succ]
  simp only [List.length_nil, Nat.zero_add, h, ne_eq, hb, not_true_eq_false, if_false]
  rw [if_neg (by decide), if_pos trivial]
theorem mach_shut {g : Fr} {gs : List Fr} (h : opR zs f.div (gs.length + 1 + 1) cnt s = (11, s1)) (hb : s1.2.1 = 0) : mach zs (m + 1) f (g :: gs) cnt s = mach zs m ⟨g.x, g.fl, g.t.app f.one, g.oth⟩ gs cnt s1 := by
  rw [mach_succ]
  simp only [List.length_cons, h, ne_eq, hb, not_true_eq_false, if_false]
  rw [if_neg (by decide), if_pos trivial]
theorem mach_open (h : opR zs f.div (fs.length + 1) cnt s = (y, s1)) (hb : s1.2.1 = 0) (h5 : y ≠ 5) (h11 : y ≠ 11) (hk : kindP y = 1) : mach zs (m + 1) f fs cnt s = mach zs m ⟨(restR zs y s1).x, .nil, .nil, false⟩ (f :: fs) (cnt + 1) (restR zs y s1).s := by
  rw [mach_succ]; simp only [h, ne_eq, hb, not_true_eq_false, if_false, h5, h11, hk, if_true]
theorem mach_more (h : opR zs f.div (fs.length + 1) cnt s = (y, s1)) (hb : s1.2.1 = 0) (h5 : y ≠ 5) (h11 : y ≠ 11) (hk : kindP y ≠ 1) : mach zs (m + 1) f fs cnt s = mach zs m ⟨f.x, f.fl, f.t.app (.cons (restR zs y s1).x .nil .nil .nil), f.oth⟩ fs (cnt + 1) (restR zs y s1).s := by
  rw [mach_succ]; simp only [h, ne_eq, hb, not_true_eq_false, if_false, h5, h11, hk]
end

theorem fr_div (o : Og) : o.fr.div = (decide (o.x.op = 4) && !o.oth) := rfl
/-- How far the reader may still go, as its cells tell. -/
def remW (len k : Nat) (w : World) : Nat := if intOf ((w.cell? ⟨k, 2, none⟩).getD undef) = 0 then (len - intOf ((w.cell? ⟨k, 1, none⟩).getD undef)).toNat + 1 else 0
theorem remW_of {w : World} {k : Nat} {v : Value} {s : Rd} {zs : List Int} {len : Nat} (h : RdIs w k v s) (hl : zs.length = len) : remW len k w = rem zs s := by
  unfold remW rem
  rw [h.c2, h.c1]
  by_cases h0 : s.2.1 = 0
  · rw [if_pos h0, if_pos (show intOf ((some (Value.int .i64 s.2.1)).getD undef) = 0 from h0), ← hl]; rfl
  · rw [if_neg h0, if_neg (show ¬ intOf ((some (Value.int .i64 s.2.1)).getD undef) = 0 from h0)]
/-- What reading a list gives. -/
def GotList (k : Nat) (v : Value) (w : World) (R : Il × Rd) (e : Ending) (w' : World) : Prop :=
  ∃ a n c, e = .returned (.slice a n c) ∧ RdIs w' k v R.2 ∧ Save k w w' ∧ (R.2.2.1 = 0 → ∃ t : Il, t.bare = R.1 ∧ ListAt w'.heap.size w' a n t ∧ (blkOf n a ++ t.foot).Nodup ∧ (∀ q ∈ blkOf n a ++ t.foot, w.heap.size ≤ q) ∧ ∀ q ∈ blkOf n a ++ t.foot, Soft w' q)
theorem Itemed.below {base gs p : Nat} {y : Ix} {ga : Option Addr} {gc : Nat} {gt : Il} {w w' : World} (h : Itemed base gs p y ga gc gt w w') (hb : base ≤ w.heap.size) (hlow : ∀ q, Value.ownBlock (.slice ga gt.len gc) = some q → base ≤ q) (hgs : base ≤ gs) : Below base w w' := by
  obtain ⟨w1, g', cap', ht, _, hat, rfl⟩ := h
  have h1 : Below base w w1 := ht.below hb (fun j hj => hlow j hj)
  have hg' : base ≤ g' := by
    rcases hat with h | h
    · exact hlow g' h
    · omega
  exact (h1.trans ((store8_touch w1 g' (gt.len * 8) y).below (Nat.le_trans hb ht.size) (fun j hj => by have hj' : j = g' := hj; omega))).setCell hgs _
end Go.Proofs.YtepbjkkakfpjgaaGreatDoor.Body

/-
  BODY: the reader's list, by contract.
-/
namespace Go.Proofs.YtepbjkkakfpjgaaGreatDoor.Body
open Go.RowKit Go.Proofs.YtepbjkkakfpjgaaGreatDoor.Instr
open Go.Proofs.YtepbjkkakfpjgaaGreatDoor.Kind (Rd numR refuseR startR numR_good numR_bounds refuseR_good getL_next)

end Go.Proofs.YtepbjkkakfpjgaaGreatDoor.Body
