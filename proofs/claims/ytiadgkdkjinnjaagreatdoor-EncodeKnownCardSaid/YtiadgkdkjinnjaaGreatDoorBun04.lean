import Derived.Test.YtiadgkdkjinnjaaGreatDoorBun01
import Derived.Test.YtiadgkdkjinnjaaGreatDoorBun03
import Derived.Test.YtiadgkdkjinnjaaGreatDoorRows
import Derived.BigQuiet
import Derived.Deep.RegionHeld3
import Derived.RangeFuncNested
import Derived.RangeFuncBound
import Derived.RangeFuncCalls
import Derived.RangeFuncLeaves
import Derived.Laws.OwnMore
import Derived.WalkSmall
import Derived.Deep.AppendLies
import Derived.Shelf.Abstract
import Derived.Shelf.RegionOpen
import Derived.OwnWalkIn
import Derived.TacticsInMore
import Derived.LoopNIn
import Derived.LoopIn
import Derived.Laws.Tables
import Derived.Laws.AppendOwnNone
import Derived.Deep.WholeRow
import Derived.ProofKit
import Derived.OpenShut
import Derived.ShutString
import Derived.ChangeOld
import Derived.Below
import Derived.SizedLaws
import Derived.Lib.LaidU8
import Derived.Lay
/-
  INSTR: Name, Align, used, shapeOf and Shape by contracts.
-/
namespace Go.Proofs.YtiadgkdkjinnjaaGreatDoor.Instr
open Go.RowKit

theorem drewN {B n : Nat} {a w : World} (h : Below B a w) : Below B a (w.drewN n) := ⟨h.os, h.tape, h.output, h.size, h.block⟩
/-- The table of names lies as it was laid. -/
def Nams (w : World) : Prop := ∀ j, j < 121 → w.cell? ⟨0, j, none⟩ = some (.string (strOfNums (nameTab.getD j [])))
theorem Nams.below {w w' : World} (h : Nams w) (hb : Below w.heap.size w w') : Nams w' := fun j hj => keep hb (h j hj)

theorem Name_any (op : Int) (w : World) (hT : Nams w) : Calls Tryz.prog 204 #[.int .i64 op] w fun e w' => e = .returned (.string (strOfNums (nameL op))) ∧ w = w' := by
  by_cases h : 0 ≤ op ∧ op < 121
  · have hc := hT op.toNat (by omega)
    have hn : nameTab.getD op.toNat [] = nameL op := by unfold nameL; rw [if_pos h]
    rw [hn] at hc
    obtain ⟨v, hv⟩ : ∃ v, strOfNums (nameL op) = v := ⟨_, rfl⟩
    rw [hv] at hc ⊢
    obtain ⟨h0, h1⟩ := h
    clear hv hT hn
    go_enter Tryz.func204, Tryz.ntmps204
    go_wp2
    go_ret
    exact ⟨rfl, rfl⟩
  · have hn : nameL op = [] := by unfold nameL; rw [if_neg h]
    rw [hn]
    clear hn hT
    have h' : op < 0 ∨ 121 ≤ op := by omega
    clear h
    rcases h' with h' | h'
    all_goals
      go_enter Tryz.func204, Tryz.ntmps204
      go_wp2
      go_ret
      exact ⟨rfl, rfl⟩

/-- Aligned by what, at most; and whether an operation loads or stores. -/
def alignP (op : Int) : Int := if op = 40 ∨ op = 54 then 2 else if op = 46 ∨ op = 47 ∨ op = 59 then 1 else 0
def storedP (op : Int) : Bool := decide (op = 40 ∨ op = 54 ∨ op = 46 ∨ op = 47 ∨ op = 59 ∨ op = 44 ∨ op = 45 ∨ op = 58)
theorem Align_any (op : Int) (w : World) : Calls Tryz.prog 222 #[.int .i64 op] w fun e w' => e = .returned (.tuple #[.int .u32 (alignP op), .bool (storedP op)]) ∧ w = w' := by
  obtain ⟨u, hu⟩ : ∃ u, alignP op = u := ⟨_, rfl⟩
  obtain ⟨v, hv⟩ : ∃ v, storedP op = v := ⟨_, rfl⟩
  rw [hu, hv]
  have HU := hid hu
  have HV := hid hv
  clear hu hv
  go_enter Tryz.func222, Tryz.ntmps222
  go_wp2
  all_goals go_ret2
  all_goals
    refine ⟨?_, rfl⟩
    have hu := HU.out
    have hv := HV.out
    clear HU HV
    simp only [beq_iff_eq, beq_eq_false_iff_ne, ne_eq] at *
    subst hu hv
    refine congrArg Ending.returned (congrArg Value.tuple ?_)
    simp [alignP, storedP, *]
theorem used_any (op : Int) (w : World) : Calls Tryz.prog 206 #[.int .i64 op] w fun e w' => e = .returned (.int .u8 (usedP op)) ∧ w = w' := by
  have CA := Align_any op w
  obtain ⟨u, hu⟩ : ∃ u, alignP op = u := ⟨_, rfl⟩
  rw [hu] at CA
  clear hu
  obtain ⟨v, hv⟩ : ∃ v, usedP op = v := ⟨_, rfl⟩
  rw [hv]
  have HV := hid hv
  clear hv
  cases hs : storedP op
  all_goals
    rw [hs] at CA
    have HS := hid hs
    have C := hid CA
    clear hs CA
    go_enter Tryz.func206, Tryz.ntmps206
    go_wp2_with fail
    refine C.out.mono ?_
    clear C
    rintro e w1 ⟨rfl, rfl⟩
    go_wp2
  all_goals go_ret
  all_goals
    refine ⟨?_, rfl⟩
    have hv := HV.out
    have hs := HS.out
    clear HV HS
    simp only [beq_iff_eq, beq_eq_false_iff_ne, ne_eq] at *
    subst hv
    refine ret_int ?_
    simp only [storedP, decide_eq_true_eq, decide_eq_false_iff_not] at hs
    unfold usedP
    (repeat' split) <;> first | rfl | (exfalso; omega)
end Go.Proofs.YtiadgkdkjinnjaaGreatDoor.Instr

/-
  INSTR: filled and lawful by contracts.
-/
namespace Go.Proofs.YtiadgkdkjinnjaaGreatDoor.Instr
open Go.RowKit

def Ix.vals (x : Ix) : Array Value := #[.int .i64 x.op, .int .i64 x.res, .int .u32 x.a, .int .u32 x.b, .int .i32 x.n, .slice x.ta x.tags.length x.tc, .slice x.la x.ln x.lc, .slice x.ea x.en x.ec]
/-- What a field of an instruction may hold. -/
structure Ix.ok (x : Ix) : Prop where
  op : -9223372036854775808 ≤ x.op ∧ x.op ≤ 9223372036854775807
  res : -9223372036854775808 ≤ x.res ∧ x.res ≤ 9223372036854775807
  a : 0 ≤ x.a ∧ x.a < 4294967296
  b : 0 ≤ x.b ∧ x.b < 4294967296
  n : -2147483648 ≤ x.n ∧ x.n < 2147483648
  tags : ∀ z ∈ x.tags, 0 ≤ z ∧ z < 4294967296
  tn : x.tags.length ≤ 140737488351232
  ln : x.ln ≤ 140737488351232
  en : x.en ≤ 140737488351232

/-- An instruction in a block of its own. -/
structure At (x : Ix) (g : Nat) (w : World) : Prop where
  c0 : w.cell? ⟨g, 0, none⟩ = some (.int .i64 x.op)
  c1 : w.cell? ⟨g, 1, none⟩ = some (.int .i64 x.res)
  c2 : w.cell? ⟨g, 2, none⟩ = some (.int .u32 x.a)
  c3 : w.cell? ⟨g, 3, none⟩ = some (.int .u32 x.b)
  c4 : w.cell? ⟨g, 4, none⟩ = some (.int .i32 x.n)
  c5 : w.cell? ⟨g, 5, none⟩ = some (.slice x.ta x.tags.length x.tc)
  c6 : w.cell? ⟨g, 6, none⟩ = some (.slice x.la x.ln x.lc)
  c7 : w.cell? ⟨g, 7, none⟩ = some (.slice x.ea x.en x.ec)
theorem At.save {x : Ix} {g k : Nat} {w w' : World} (h : At x g w) (hs : Save k w w') (hk : g ≠ k) : At x g w' :=
  ⟨hs.cell hk h.c0, hs.cell hk h.c1, hs.cell hk h.c2, hs.cell hk h.c3, hs.cell hk h.c4, hs.cell hk h.c5, hs.cell hk h.c6, hs.cell hk h.c7⟩
theorem At.below {x : Ix} {g : Nat} {w w' : World} (h : At x g w) (hb : Below w.heap.size w w') : At x g w' :=
  ⟨keep hb h.c0, keep hb h.c1, keep hb h.c2, keep hb h.c3, keep hb h.c4, keep hb h.c5, keep hb h.c6, keep hb h.c7⟩
theorem At.made (x : Ix) (w : World) : At x w.heap.size (w.alloc (.cells x.vals 126)) := by
  constructor <;> simp [Ix.vals, go_sem]

/-- What has been found so far. -/
structure Fil (w0 : World) (x : Ix) (u : Int) (w : World) : Prop where
  below : Below w0.heap.size w0 w
  at_ : At x w0.heap.size w
  out : w.cell? ⟨w0.heap.size + 1, 0, none⟩ = some (.int .u8 u)
  frozen : w.frozen? ⟨w0.heap.size + 1, 0, none⟩ = false
theorem add_any (w0 : World) (x : Ix) (b : Bool) (k : Int) (u : Int) (w : World) (h : Fil w0 x u w) :
    Calls Tryz.prog 221 #[.bool b, .int .u8 k, .pointer (some ⟨w0.heap.size + 1, 0, none⟩)] w fun e w' => (∃ v, e = .returned v) ∧ ∃ u', Hid ((if b then bits .or .u8 u k else u) = u') ∧ Fil w0 x u' w' := by
  obtain ⟨hb, ha, hc, hf⟩ := h
  obtain ⟨g, hg⟩ : ∃ g, w0.heap.size + 1 = g := ⟨_, rfl⟩
  have HG := hid hg
  rw [hg] at hc hf ⊢
  clear hg
  cases b
  · go_enter Tryz.func221, Tryz.ntmps221
    go_wp2
    go_end0
    exact ⟨⟨_, rfl⟩, u, rfl, hb, ha, by rw [HG.out]; exact hc, by rw [HG.out]; exact hf⟩
  · go_enter Tryz.func221, Tryz.ntmps221
    go_wp2
    go_end0
    have hg := HG.out
    have hs : Save g w (w.setCell ⟨g, 0, none⟩ (.int .u8 (bits .or .u8 u k))) := (Save.refl g w).setCell (.inl rfl) _
    refine ⟨⟨_, rfl⟩, bits .or .u8 u k, rfl, hb.trans (hs.below hb.size (by omega)), ha.save hs (by omega), ?_, ?_⟩
    · rw [hg]; simp [go_sem, hc]
    · rw [hg]; simp [go_sem, hf]
theorem add_fills (b1 b2 b3 b4 b5 b6 b7 : Bool) : ∀ u1 u2 u3 u4 u5 u6 : Int, (if b1 then bits .or .u8 0 1 else 0) = u1 → (if b2 then bits .or .u8 u1 2 else u1) = u2 → (if b3 then bits .or .u8 u2 4 else u2) = u3 → (if b4 then bits .or .u8 u3 8 else u3) = u4 →
    (if b5 then bits .or .u8 u4 16 else u4) = u5 → (if b6 then bits .or .u8 u5 32 else u5) = u6 → (if b7 then bits .or .u8 u6 64 else u6) = bit b1 1 + bit b2 2 + bit b3 4 + bit b4 8 + bit b5 16 + bit b6 32 + bit b7 64 := by
  intro u1 u2 u3 u4 u5 u6 h1 h2 h3 h4 h5 h6
  subst h1 h2 h3 h4 h5 h6
  cases b1 <;> cases b2 <;> cases b3 <;> cases b4 <;> cases b5 <;> cases b6 <;> cases b7 <;> rfl
set_option maxHeartbeats 1000000 in
theorem filled_any (x : Ix) (w : World) : Calls Tryz.prog 205 #[.agg x.vals] w fun e w' => e = .returned (.int .u8 (filledP x)) ∧ Below w.heap.size w w' := by
  have hmf : ∀ (fn : Fn) (first cap : Array Value) (w : World), (Instr.makeFunc fn first cap).run Tryz.prog w = .ok (.func fn first cap) w := fun fn first cap w => by simp [Instr.makeFunc, go_sem]
  obtain ⟨u, hu⟩ : ∃ u, filledP x = u := ⟨_, rfl⟩
  rw [hu]
  have HU := hid hu
  clear hu
  unfold Ix.vals
  go_enter Tryz.func205, Tryz.ntmps205
  go_wp2_with fail
  have hF0 : Fil w x 0 ((w.alloc (.cells x.vals 126)).alloc (.cells #[.int .u8 0] 209)) := by
    refine ⟨thenA (thenA (Below.refl _ _) _) _, (At.made x w).below ((Below.refl _ _).alloc (Nat.le_refl _) _), ?_, ?_⟩ <;> simp [go_sem]
  refine (add_any w x _ 1 _ _ hF0).mono ?_
  clear hF0
  rintro e w1 ⟨⟨v1, rfl⟩, u1, hu1, hF1⟩
  obtain ⟨ab1, at1, ao1, af1⟩ := hF1
  have hF1 : Fil w x u1 w1 := ⟨ab1, at1, ao1, af1⟩
  obtain ⟨c0, c1, c2, c3, c4, c5, c6, c7⟩ := at1
  go_wp2_with fail
  clear c0 c1 c2 c3 c4 c5 c6 c7 ao1 af1
  refine (add_any w x _ 2 _ _ hF1).mono ?_
  clear hF1
  rintro e w2 ⟨⟨v2, rfl⟩, u2, hu2, hF2⟩
  obtain ⟨ab2, at2, ao2, af2⟩ := hF2
  have hF2 : Fil w x u2 w2 := ⟨ab2, at2, ao2, af2⟩
  obtain ⟨c0, c1, c2, c3, c4, c5, c6, c7⟩ := at2
  go_wp2_with fail
  clear c0 c1 c2 c3 c4 c5 c6 c7 ao2 af2
  refine (add_any w x _ 4 _ _ hF2).mono ?_
  clear hF2
  rintro e w3 ⟨⟨v3, rfl⟩, u3, hu3, hF3⟩
  obtain ⟨ab3, at3, ao3, af3⟩ := hF3
  have hF3 : Fil w x u3 w3 := ⟨ab3, at3, ao3, af3⟩
  obtain ⟨c0, c1, c2, c3, c4, c5, c6, c7⟩ := at3
  go_wp2_with fail
  clear c0 c1 c2 c3 c4 c5 c6 c7 ao3 af3
  refine (add_any w x _ 8 _ _ hF3).mono ?_
  clear hF3
  rintro e w4 ⟨⟨v4, rfl⟩, u4, hu4, hF4⟩
  obtain ⟨ab4, at4, ao4, af4⟩ := hF4
  have hF4 : Fil w x u4 w4 := ⟨ab4, at4, ao4, af4⟩
  obtain ⟨c0, c1, c2, c3, c4, c5, c6, c7⟩ := at4
  go_wp2_with fail
  clear c0 c1 c2 c3 c4 c5 c6 c7 ao4 af4
  refine (add_any w x _ 16 _ _ hF4).mono ?_
  clear hF4
  rintro e w5 ⟨⟨v5, rfl⟩, u5, hu5, hF5⟩
  obtain ⟨ab5, at5, ao5, af5⟩ := hF5
  have hF5 : Fil w x u5 w5 := ⟨ab5, at5, ao5, af5⟩
  obtain ⟨c0, c1, c2, c3, c4, c5, c6, c7⟩ := at5
  go_wp2_with fail
  clear c0 c1 c2 c3 c4 c5 c6 c7 ao5 af5
  refine (add_any w x _ 32 _ _ hF5).mono ?_
  clear hF5
  rintro e w6 ⟨⟨v6, rfl⟩, u6, hu6, hF6⟩
  obtain ⟨ab6, at6, ao6, af6⟩ := hF6
  have hF6 : Fil w x u6 w6 := ⟨ab6, at6, ao6, af6⟩
  obtain ⟨c0, c1, c2, c3, c4, c5, c6, c7⟩ := at6
  go_wp2_with fail
  clear c0 c1 c2 c3 c4 c5 c6 c7 ao6 af6
  refine (add_any w x _ 64 _ _ hF6).mono ?_
  clear hF6
  rintro e w7 ⟨⟨v7, rfl⟩, u7, hu7, hF7⟩
  obtain ⟨ab7, at7, ao7, af7⟩ := hF7
  have hF7 : Fil w x u7 w7 := ⟨ab7, at7, ao7, af7⟩
  obtain ⟨c0, c1, c2, c3, c4, c5, c6, c7⟩ := at7
  go_wp2_with fail
  go_ret
  refine ⟨ret_int ?_, ab7⟩
  have := add_fills (x.res != 0) (x.a != 0) (x.b != 0) (x.n != 0) (decide (0 < x.tags.length)) (decide (0 < x.ln)) (decide (0 < x.en)) _ _ _ _ _ _ hu1.out hu2.out hu3.out hu4.out hu5.out hu6.out
  rw [← hu7.out, this, ← HU.out, filledP]
end Go.Proofs.YtiadgkdkjinnjaaGreatDoor.Instr

/-
  INSTR: lists of instructions in memory; what a round of a range over them leaves as it was.
-/
namespace Go.Proofs.YtiadgkdkjinnjaaGreatDoor.Instr
open Go.RowKit

/-- Labels in memory below block n₀. -/
def TagsAt (n₀ : Nat) (w : World) (a : Option Addr) (zs : List Int) : Prop :=
  zs = [] ∨ ∃ b off, a = some ⟨b, off, none⟩ ∧ b < n₀ ∧ ∀ i, i < zs.length → w.cell? ⟨b, off + i, none⟩ = some (.int .u32 (zs.getD i 0))
/-- From a place in block b on lie these instructions; all below block n₀. -/
def Items (n₀ : Nat) (w : World) : Nat → Nat → Il → Prop
  | _, _, .nil => True
  | b, off, .cons x l e r =>
    b < n₀ ∧ x.ok ∧
    (w.cell? ⟨b, off, none⟩ = some (.int .i64 x.op) ∧ w.cell? ⟨b, off + 1, none⟩ = some (.int .i64 x.res) ∧ w.cell? ⟨b, off + 2, none⟩ = some (.int .u32 x.a) ∧ w.cell? ⟨b, off + 3, none⟩ = some (.int .u32 x.b) ∧
      w.cell? ⟨b, off + 4, none⟩ = some (.int .i32 x.n) ∧ w.cell? ⟨b, off + 5, none⟩ = some (.slice x.ta x.tags.length x.tc) ∧ w.cell? ⟨b, off + 6, none⟩ = some (.slice x.la x.ln x.lc) ∧ w.cell? ⟨b, off + 7, none⟩ = some (.slice x.ea x.en x.ec)) ∧
    TagsAt n₀ w x.ta x.tags ∧
    (l.len = x.ln ∧ (l = .nil ∨ ∃ b' o', x.la = some ⟨b', o', none⟩ ∧ Items n₀ w b' o' l)) ∧
    (e.len = x.en ∧ (e = .nil ∨ ∃ b' o', x.ea = some ⟨b', o', none⟩ ∧ Items n₀ w b' o' e)) ∧
    Items n₀ w b (off + 8) r
/-- A slice of this many at this address is these instructions. -/
def ListAt (n₀ : Nat) (w : World) (a : Option Addr) (n : Nat) (t : Il) : Prop := t.len = n ∧ (t = .nil ∨ ∃ b off, a = some ⟨b, off, none⟩ ∧ Items n₀ w b off t)

theorem TagsAt.below {n₀ : Nat} {w w' : World} {a : Option Addr} {zs : List Int} (hb : Below n₀ w w') (h : TagsAt n₀ w a zs) : TagsAt n₀ w' a zs := by
  rcases h with h | ⟨b, off, ha, hl, hc⟩
  · exact .inl h
  · exact .inr ⟨b, off, ha, hl, fun i hi => (hb.cell (p := ⟨b, off + i, none⟩) hl).trans (hc i hi)⟩
theorem Items.below {n₀ : Nat} {w w' : World} (hb : Below n₀ w w') : ∀ {t : Il} {b off : Nat}, Items n₀ w b off t → Items n₀ w' b off t
  | .nil, _, _, _ => trivial
  | .cons x l e r, b, off, ⟨hl, hx, ⟨c0, c1, c2, c3, c4, c5, c6, c7⟩, ht, ⟨l1, l2⟩, ⟨e1, e2⟩, hr⟩ => by
    have k : ∀ j v, w.cell? ⟨b, off + j, none⟩ = some v → w'.cell? ⟨b, off + j, none⟩ = some v := fun j v h => (hb.cell (p := ⟨b, off + j, none⟩) hl).trans h
    refine ⟨hl, hx, ⟨k 0 _ c0, k 1 _ c1, k 2 _ c2, k 3 _ c3, k 4 _ c4, k 5 _ c5, k 6 _ c6, k 7 _ c7⟩, ht.below hb, ⟨l1, ?_⟩, ⟨e1, ?_⟩, Items.below hb hr⟩
    · rcases l2 with h | ⟨b', o', ha, hi⟩
      · exact .inl h
      · exact .inr ⟨b', o', ha, Items.below hb hi⟩
    · rcases e2 with h | ⟨b', o', ha, hi⟩
      · exact .inl h
      · exact .inr ⟨b', o', ha, Items.below hb hi⟩
theorem ListAt.below {n₀ : Nat} {w w' : World} {a : Option Addr} {n : Nat} {t : Il} (hb : Below n₀ w w') (h : ListAt n₀ w a n t) : ListAt n₀ w' a n t := by
  refine ⟨h.1, ?_⟩
  rcases h.2 with h | ⟨b', o', ha, hi⟩
  · exact .inl h
  · exact .inr ⟨b', o', ha, hi.below hb⟩
theorem TagsAt.more {n₀ n₁ : Nat} {w : World} {a : Option Addr} {zs : List Int} (hn : n₀ ≤ n₁) (h : TagsAt n₀ w a zs) : TagsAt n₁ w a zs := by
  rcases h with h | ⟨b, off, ha, hl, hc⟩
  · exact .inl h
  · exact .inr ⟨b, off, ha, by omega, hc⟩
theorem Items.more {n₀ n₁ : Nat} {w : World} (hn : n₀ ≤ n₁) : ∀ {t : Il} {b off : Nat}, Items n₀ w b off t → Items n₁ w b off t
  | .nil, _, _, _ => trivial
  | .cons x l e r, b, off, ⟨hl, hx, hc, ht, ⟨l1, l2⟩, ⟨e1, e2⟩, hr⟩ => by
    refine ⟨by omega, hx, hc, ht.more hn, ⟨l1, ?_⟩, ⟨e1, ?_⟩, Items.more hn hr⟩
    · rcases l2 with h | ⟨b', o', ha, hi⟩
      · exact .inl h
      · exact .inr ⟨b', o', ha, Items.more hn hi⟩
    · rcases e2 with h | ⟨b', o', ha, hi⟩
      · exact .inl h
      · exact .inr ⟨b', o', ha, Items.more hn hi⟩
theorem ListAt.more {n₀ n₁ : Nat} {w : World} {a : Option Addr} {n : Nat} {t : Il} (hn : n₀ ≤ n₁) (h : ListAt n₀ w a n t) : ListAt n₁ w a n t := by
  refine ⟨h.1, ?_⟩
  rcases h.2 with h | ⟨b', o', ha, hi⟩
  · exact .inl h
  · exact .inr ⟨b', o', ha, hi.more hn⟩
/-- Behind a call that leaves all that was there. -/
theorem ListAt.on {w w' : World} {a : Option Addr} {n : Nat} {t : Il} (h : ListAt w.heap.size w a n t) (hb : Below w.heap.size w w') : ListAt w'.heap.size w' a n t := (h.below hb).more hb.size

/-- What a round leaves: all cells but those of the blocks from n₀ to n₁; and all below n₀. -/
structure Kept (n₀ n₁ : Nat) (w w' : World) : Prop where
  below : Below n₀ w w'
  cells : ∀ j o, w.heap[j]? = some o → o.isCells = true → n₁ ≤ j → w'.heap[j]? = some o
theorem Kept.refl (n₀ n₁ : Nat) (w : World) : Kept n₀ n₁ w w := ⟨Below.refl _ _, fun _ _ h _ _ => h⟩
theorem Kept.trans {n₀ n₁ : Nat} {a b c : World} (h : Kept n₀ n₁ a b) (g : Kept n₀ n₁ b c) : Kept n₀ n₁ a c := ⟨h.below.trans g.below, fun j o hj ho hn => g.cells j o (h.cells j o hj ho hn) ho hn⟩
theorem Kept.alloc {n₀ n₁ : Nat} {a b : World} (h : Kept n₀ n₁ a b) (o : Obj) (hn : n₀ ≤ b.heap.size) : Kept n₀ n₁ a (b.alloc o) :=
  ⟨h.below.alloc hn o, fun j p hj hp hn => ((Below.refl b.heap.size b).alloc (Nat.le_refl _) o).block j (Array.getElem?_eq_some_iff.1 (h.cells j p hj hp hn)).1 |>.trans (h.cells j p hj hp hn)⟩
theorem Kept.of_below {n₀ n₁ : Nat} {a b : World} (h : Below a.heap.size a b) (hn : n₀ ≤ a.heap.size) : Kept n₀ n₁ a b :=
  ⟨h.mono hn, fun j _ hj _ _ => (h.block j (Array.getElem?_eq_some_iff.1 hj).1).trans hj⟩
theorem Kept.setCell {n₀ n₁ : Nat} {a b : World} (h : Kept n₀ n₁ a b) {p : Addr} (h0 : n₀ ≤ p.block) (h1 : p.block < n₁) (v : Value) : Kept n₀ n₁ a (b.setCell p v) :=
  ⟨h.below.setCell h0 v, fun j o hj ho hn => (Below.heap_setCell b p v j (by omega)).trans (h.cells j o hj ho hn)⟩
theorem Kept.cell {n₀ n₁ : Nat} {a b : World} (h : Kept n₀ n₁ a b) {p : Addr} {v : Value} (hp : n₁ ≤ p.block) (hc : a.cell? p = some v) : b.cell? p = some v := by
  obtain ⟨o, ho, hi⟩ := cells_of_cell hc
  exact (World.cell?_of_block (w := a) ((h.cells _ o ho hi hp).trans ho.symm)).trans hc
theorem At.kept {n₀ n₁ g : Nat} {x : Ix} {a b : World} (h : At x g a) (hk : Kept n₀ n₁ a b) (hg : n₁ ≤ g) : At x g b :=
  ⟨hk.cell hg h.c0, hk.cell hg h.c1, hk.cell hg h.c2, hk.cell hg h.c3, hk.cell hg h.c4, hk.cell hg h.c5, hk.cell hg h.c6, hk.cell hg h.c7⟩
theorem kept_t {n₀ n₁ : Nat} {A B C : World} (h : Kept n₀ n₁ A B) (g : Kept n₀ n₁ B C) : Kept n₀ n₁ A C := h.trans g
theorem kept_b {n₀ n₁ : Nat} {w : World} (hn : n₀ ≤ w.heap.size) : ∀ (W : World) (l : Nat) (o o' : Obj), w.heap.size ≤ l → W.heap[l]? = some o → o.isCells = false → o.isWalk = false → Kept n₀ n₁ W (W.putObj l o') := fun W l o o' hl ho hi hw =>
  ⟨belowK_b hn W l o o' hl ho hi hw, fun j p hj hp _ => by
    have hne : j ≠ l := by rintro rfl; rw [ho] at hj; cases hj; rw [hi] at hp; cases hp
    exact (World.putObj_heap_other hne).trans hj⟩
end Go.Proofs.YtiadgkdkjinnjaaGreatDoor.Instr

/-
  BODY: follows, and the reader's operation, by contract.
-/
namespace Go.Proofs.YtiadgkdkjinnjaaGreatDoor.Body
open Go.RowKit Go.Proofs.YtiadgkdkjinnjaaGreatDoor.Instr
open Go.Proofs.YtiadgkdkjinnjaaGreatDoor.Kind (Rd numR refuseR startR numR_good numR_bounds refuseR_good getL_next)

/-- What follows, as the program's set of parts. -/
def partsP (op : Int) : Int :=
  if op = 2 ∨ op = 3 ∨ op = 4 then 65
  else if op = 12 ∨ op = 13 ∨ op = 16 ∨ op = 32 ∨ op = 33 ∨ op = 34 ∨ op = 35 ∨ op = 36 then 4
  else if op = 17 then 36 else if op = 14 then 6
  else if op = 40 ∨ op = 44 ∨ op = 45 ∨ op = 46 ∨ op = 47 ∨ op = 54 ∨ op = 58 ∨ op = 59 then 12
  else if op = 63 ∨ op = 64 then 32 else if op = 65 then 16 else 0
theorem parts_kind (op : Int) : (kindP op = 0 ∧ partsP op = 0) ∨ (kindP op = 1 ∧ partsP op = 65) ∨ (kindP op = 2 ∧ partsP op = 4) ∨ (kindP op = 3 ∧ partsP op = 36) ∨ (kindP op = 4 ∧ partsP op = 6) ∨ (kindP op = 5 ∧ partsP op = 12) ∨ (kindP op = 6 ∧ partsP op = 32) ∨ (kindP op = 7 ∧ partsP op = 16) := by
  unfold kindP partsP
  (repeat' split) <;> simp
theorem follows_any (op : Int) (w : World) : Calls Tryz.prog 238 #[.int .i64 op] w fun e w' => e = .returned (.int .u8 (partsP op)) ∧ w = w' := by
  obtain ⟨u, hu⟩ : ∃ u, partsP op = u := ⟨_, rfl⟩
  rw [hu]
  have HU := hid hu
  clear hu
  go_enter Tryz.func238, Tryz.ntmps238
  go_wp2
  all_goals go_ret
  all_goals
    refine ⟨ret_int ?_, rfl⟩
    have hu := HU.out
    clear HU
    simp only [beq_iff_eq, beq_eq_false_iff_ne, ne_eq] at *
    subst hu
    simp [partsP, *]

theorem isSome_name {op : Int} : ((strOfNums (nameL op)).toList.isEmpty = true) ↔ nameL op = [] := by
  rw [ByteArray.toList_eq, strOfNums_data]
  simp

end Go.Proofs.YtiadgkdkjinnjaaGreatDoor.Body

/-
  BODY: the reader's labels, by contract: new memory that holds them.
-/
namespace Go.Proofs.YtiadgkdkjinnjaaGreatDoor.Body
open Go.RowKit Go.Proofs.YtiadgkdkjinnjaaGreatDoor.Instr
open Go.Proofs.YtiadgkdkjinnjaaGreatDoor.Kind (Rd numR refuseR startR numR_good numR_bounds refuseR_good getL_next)

theorem infoU32 : (Tryz.prog.info? 28).map (fun i => (i.zero, i.size, i.bytes)) = some (some (.int .u32 0), 1, 4) := by kernel_rfl
/-- One label more is read behind so many. -/
theorem tagsR_snoc {zs : List Int} : ∀ (k : Nat) (s : Rd), (tagsR zs (k + 1) s).1 = (tagsR zs k s).1 ++ (if (tagsR zs k s).2.2.1 = 0 then [(numR zs (tagsR zs k s).2).1] else []) ∧
    (tagsR zs (k + 1) s).2 = (if (tagsR zs k s).2.2.1 = 0 then (numR zs (tagsR zs k s).2).2 else (tagsR zs k s).2)
  | 0, s => by
    unfold tagsR
    split <;> simp [tagsR]
  | k + 1, s => by
    by_cases h : s.2.1 = 0
    · have e : ∀ j, tagsR zs (j + 1) s = ((numR zs s).1 :: (tagsR zs j (numR zs s).2).1, (tagsR zs j (numR zs s).2).2) := fun j => by rw [tagsR, if_pos h]
      obtain ⟨a, b⟩ := tagsR_snoc k (numR zs s).2
      rw [e (k + 1), e k]
      dsimp only
      rw [a, b]
      exact ⟨by simp, rfl⟩
    · have e : ∀ j, tagsR zs (j + 1) s = ([], s) := fun j => by rw [tagsR, if_neg h]
      rw [e (k + 1), e k]
      simp [h]
theorem tagsR_stop {zs : List Int} {s : Rd} : ∀ (j k : Nat), k ≤ j → (tagsR zs k s).2.2.1 ≠ 0 → tagsR zs j s = tagsR zs k s := by
  intro j k hk h
  induction j with
  | zero =>
    obtain rfl : k = 0 := by omega
    rfl
  | succ j ih =>
    by_cases h1 : k = j + 1
    · rw [h1]
    · have e := ih (by omega)
      obtain ⟨a, b⟩ := tagsR_snoc (zs := zs) j s
      rw [e] at a b
      rw [if_neg h] at a b
      rw [List.append_nil] at a
      exact Prod.ext a b
theorem tagsR_len {zs : List Int} : ∀ (k : Nat) (s : Rd), (tagsR zs k s).1.length ≤ k
  | 0, s => Nat.le_refl _
  | k + 1, s => by
    unfold tagsR
    split
    · simp [tagsR_len k]
    · simp
theorem tagsR_words {zs : List Int} (hz : ∀ c ∈ zs, 0 ≤ c ∧ c < 256) : ∀ (k : Nat) (s : Rd), ∀ z ∈ (tagsR zs k s).1, 0 ≤ z ∧ z < 4294967296
  | 0, s, z, h => by simp [tagsR] at h
  | k + 1, s, z, h => by
    unfold tagsR at h
    split at h
    · rcases List.mem_cons.1 h with rfl | h
      · exact numR_bounds hz
      · exact tagsR_words hz k _ z h
    · simp at h
theorem labelsR_few {zs : List Int} {s : Rd} (hz : ∀ c ∈ zs, 0 ≤ c ∧ c < 256) : (labelsR zs s).1.length ≤ 16384 ∧ ∀ z ∈ (labelsR zs s).1, 0 ≤ z ∧ z < 4294967296 := by
  have hb := numR_bounds (s := s) hz
  refine ⟨?_, tagsR_words hz _ _⟩
  unfold labelsR
  split
  · have hbad : (refuseR (numR zs s).2 141 s.1).2.1 ≠ 0 := by
      unfold refuseR; split
      · simp
      · assumption
    have := tagsR_stop (zs := zs) (s := refuseR (numR zs s).2 141 s.1) (numR zs s).1.toNat 0 (Nat.zero_le _) hbad
    rw [this]
    simp [tagsR]
  · have := tagsR_len (zs := zs) (numR zs s).1.toNat (numR zs s).2
    omega

/-- A method that hands back labels of its own. -/
def DoesTags (k : Nat) (v : Value) (w : World) (zs : List Int) (s : Rd) (e : Ending) (w' : World) : Prop := ∃ r, e = .returned r ∧ OwnK 28 .u32 w.heap.size w' r zs ∧ RdIs w' k v s ∧ Save k w w'

theorem ownK_save {e : TypeId} {kd : IntKind} {base k : Nat} {w w' : World} {v : Value} {zs : List Int} (h : OwnK e kd base w v zs) (hs : Save k w w') (hk : k < base) : OwnK e kd base w' v zs := by
  refine ⟨h.1, ?_⟩
  rcases h.2 with h0 | ⟨g, cap, cur, hv, hg, hh, rest⟩
  · exact .inl h0
  · exact .inr ⟨g, cap, cur, hv, hg, (hs.block g (Array.getElem?_eq_some_iff.1 hh).1 (by omega)).trans hh, rest⟩

theorem RdIs.belowB {B : Nat} {w w' : World} {k : Nat} {v : Value} {s : Rd} (h : RdIs w k v s) (hb : Below B w w') (hk : k < B) : RdIs w' k v s :=
  ⟨(hb.cell hk).trans h.c0, (hb.cell hk).trans h.c1, (hb.cell hk).trans h.c2, (hb.cell hk).trans h.c3, (hb.frozen hk).trans h.f0, (hb.frozen hk).trans h.f1, (hb.frozen hk).trans h.f2, (hb.frozen hk).trans h.f3⟩
theorem save_under {k : Nat} {a b c : World} (h : Save k a b) (g : Below a.heap.size b c) : Save k a c :=
  ⟨g.os.trans h.os, g.tape.trans h.tape, g.output.trans h.output, Nat.le_trans h.size g.size, fun j hj hk => (g.block j hj).trans (h.block j hj hk)⟩

end Go.Proofs.YtiadgkdkjinnjaaGreatDoor.Body

/-
  BODY: the reader's instruction, by contract, kind by kind.
-/
namespace Go.Proofs.YtiadgkdkjinnjaaGreatDoor.Body
open Go.RowKit Go.Proofs.YtiadgkdkjinnjaaGreatDoor.Instr
open Go.Proofs.YtiadgkdkjinnjaaGreatDoor.Kind (Rd numR refuseR startR numR_good numR_bounds refuseR_good getL_next)

theorem band (a b : Int) (c : Int) (h : bits .and .u8 a b = c) : bits .and .u8 a b = c := h
def inTags (x : Ix) (ta : Option Addr) (tc : Nat) : Ix := ⟨x.op, x.res, x.a, x.b, x.n, x.tags, ta, tc, x.la, x.ln, x.lc, x.ea, x.en, x.ec⟩
/-- An instruction without its lists, its labels in memory of their own. -/
def DoesIx (k : Nat) (v : Value) (w : World) (x : Ix) (s : Rd) (e : Ending) (w' : World) : Prop :=
  ∃ ta tc, e = .returned (.agg (inTags x ta tc).vals) ∧ OwnK 28 .u32 w.heap.size w' (.slice ta x.tags.length tc) x.tags ∧ RdIs w' k v s ∧ Save k w w'

/-- An instruction in a block of its own, that can be written. -/
structure Bx (g : Nat) (x : Ix) (w : World) : Prop where
  at_ : At x g w
  f0 : w.frozen? ⟨g, 0, none⟩ = false
  f1 : w.frozen? ⟨g, 1, none⟩ = false
  f2 : w.frozen? ⟨g, 2, none⟩ = false
  f3 : w.frozen? ⟨g, 3, none⟩ = false
  f4 : w.frozen? ⟨g, 4, none⟩ = false
  f5 : w.frozen? ⟨g, 5, none⟩ = false
  f6 : w.frozen? ⟨g, 6, none⟩ = false
  f7 : w.frozen? ⟨g, 7, none⟩ = false
theorem Bx.save {g k : Nat} {x : Ix} {w w' : World} (h : Bx g x w) (hs : Save k w w') (hk : g ≠ k) : Bx g x w' := by
  have hl : g < w.heap.size := World.block_lt_of_cell? w _ h.at_.c0
  exact ⟨h.at_.save hs hk, hs.frozen hl hk h.f0, hs.frozen hl hk h.f1, hs.frozen hl hk h.f2, hs.frozen hl hk h.f3, hs.frozen hl hk h.f4, hs.frozen hl hk h.f5, hs.frozen hl hk h.f6, hs.frozen hl hk h.f7⟩
theorem bx_made (x : Ix) (w : World) : Bx w.heap.size x (w.alloc (.cells x.vals 126)) := by
  refine ⟨At.made x w, ?_, ?_, ?_, ?_, ?_, ?_, ?_, ?_⟩ <;> go_simp
theorem Bx.alloc {g : Nat} {x : Ix} {w : World} (h : Bx g x w) (o : Obj) : Bx g x (w.alloc o) := by
  have hb : Below w.heap.size w (w.alloc o) := (Below.refl _ _).alloc (Nat.le_refl _) o
  have hl : g < w.heap.size := World.block_lt_of_cell? w _ h.at_.c0
  exact ⟨h.at_.below hb, (hb.frozen (p := ⟨g, 0, none⟩) hl).trans h.f0, (hb.frozen (p := ⟨g, 1, none⟩) hl).trans h.f1, (hb.frozen (p := ⟨g, 2, none⟩) hl).trans h.f2, (hb.frozen (p := ⟨g, 3, none⟩) hl).trans h.f3, (hb.frozen (p := ⟨g, 4, none⟩) hl).trans h.f4, (hb.frozen (p := ⟨g, 5, none⟩) hl).trans h.f5, (hb.frozen (p := ⟨g, 6, none⟩) hl).trans h.f6, (hb.frozen (p := ⟨g, 7, none⟩) hl).trans h.f7⟩
def zeroX : Ix := plainX 0 0 0 0 0 []
/-- The world in which the reading begins: the result's block, and that of the instruction. -/
theorem ins_start (op : Int) (w : World) : Bx w.heap.size zeroX ((w.alloc (.cells zeroX.vals 126)).alloc (.cells (plainX op 0 0 0 0 []).vals 126)) ∧
    Bx (w.heap.size + 1) (plainX op 0 0 0 0 []) ((w.alloc (.cells zeroX.vals 126)).alloc (.cells (plainX op 0 0 0 0 []).vals 126)) := by
  refine ⟨(bx_made _ _).alloc _, ?_⟩
  have := bx_made (plainX op 0 0 0 0 []) (w.alloc (.cells zeroX.vals 126))
  simpa using this
theorem Bx.other {g : Nat} {x : Ix} {w : World} (h : Bx g x w) {p : Addr} (hp : p.block ≠ g) (v : Value) : Bx g x (w.setCell p v) := by
  have hl : g < w.heap.size := World.block_lt_of_cell? w _ h.at_.c0
  have hs : Save p.block w (w.setCell p v) := (Save.refl _ _).setCell (.inl rfl) _
  exact h.save hs (fun e => hp e.symm)
theorem Bx.setRes {g : Nat} {x : Ix} {w : World} (h : Bx g x w) (n : Int) : Bx g ⟨x.op, n, x.a, x.b, x.n, x.tags, x.ta, x.tc, x.la, x.ln, x.lc, x.ea, x.en, x.ec⟩ (w.setCell ⟨g, 1, none⟩ (.int .i64 n)) := by
  obtain ⟨⟨c0, c1, c2, c3, c4, c5, c6, c7⟩, f0, f1, f2, f3, f4, f5, f6, f7⟩ := h
  refine ⟨⟨?_, ?_, ?_, ?_, ?_, ?_, ?_, ?_⟩, ?_, ?_, ?_, ?_, ?_, ?_, ?_, ?_⟩ <;> simp [go_sem, *]
theorem Bx.setA {g : Nat} {x : Ix} {w : World} (h : Bx g x w) (n : Int) : Bx g ⟨x.op, x.res, n, x.b, x.n, x.tags, x.ta, x.tc, x.la, x.ln, x.lc, x.ea, x.en, x.ec⟩ (w.setCell ⟨g, 2, none⟩ (.int .u32 n)) := by
  obtain ⟨⟨c0, c1, c2, c3, c4, c5, c6, c7⟩, f0, f1, f2, f3, f4, f5, f6, f7⟩ := h
  refine ⟨⟨?_, ?_, ?_, ?_, ?_, ?_, ?_, ?_⟩, ?_, ?_, ?_, ?_, ?_, ?_, ?_, ?_⟩ <;> simp [go_sem, *]
theorem Bx.setT {g : Nat} {x : Ix} {w : World} (h : Bx g x w) (l : List Int) (ta : Option Addr) (tc : Nat) : Bx g ⟨x.op, x.res, x.a, x.b, x.n, l, ta, tc, x.la, x.ln, x.lc, x.ea, x.en, x.ec⟩ (w.setCell ⟨g, 5, none⟩ (.slice ta l.length tc)) := by
  obtain ⟨⟨c0, c1, c2, c3, c4, c5, c6, c7⟩, f0, f1, f2, f3, f4, f5, f6, f7⟩ := h
  refine ⟨⟨?_, ?_, ?_, ?_, ?_, ?_, ?_, ?_⟩, ?_, ?_, ?_, ?_, ?_, ?_, ?_, ?_⟩ <;> simp [go_sem, *]
theorem bytes_one (w : World) (c : Int) (h : 0 ≤ c ∧ c < 256) : Bytes (w.alloc (.cells #[.int .u8 c] 5)) (some ⟨w.heap.size, 0, none⟩) [c] := ⟨by simpa using h, by simp, .inr ⟨_, 0, rfl, fun i hi => by
  match i, hi with
  | 0, _ => go_simp⟩⟩
theorem bytes_two (w : World) (c d : Int) (h : 0 ≤ c ∧ c < 256) (h' : 0 ≤ d ∧ d < 256) : Bytes (w.alloc (.cells #[.int .u8 c, .int .u8 d] 5)) (some ⟨w.heap.size, 0, none⟩) [c, d] := ⟨by simp; omega, by simp, .inr ⟨_, 0, rfl, fun i hi => by
  match i, hi with
  | 0, _ => go_simp
  | 1, _ => go_simp⟩⟩
theorem isRes_in (x : Int) : isRes x = [64, 127].contains x := by simp [isRes, Bool.decide_or]
theorem isNone_in (x : Int) : isNone x = [0].contains x := by simp [isNone]

end Go.Proofs.YtiadgkdkjinnjaaGreatDoor.Body

/-
  (The first part of BodyStack.)
  BODY: lists of instructions in memory of one's own: which blocks they lie in; what stays where only other blocks turn.
-/
namespace Go.Proofs.YtiadgkdkjinnjaaGreatDoor
open Go.RowKit

/-- Of what was there only blocks of S have turned. -/
structure Touch (S : Nat → Prop) (w w' : World) : Prop where
  os : w'.os = w.os
  tape : w'.tape = w.tape
  output : w'.output = w.output
  size : w.heap.size ≤ w'.heap.size
  block : ∀ j, j < w.heap.size → ¬ S j → w'.heap[j]? = w.heap[j]?
theorem Touch.refl (S : Nat → Prop) (w : World) : Touch S w w := ⟨rfl, rfl, rfl, Nat.le_refl _, fun _ _ _ => rfl⟩
theorem Touch.trans {S : Nat → Prop} {a b c : World} (h : Touch S a b) (g : Touch S b c) : Touch S a c :=
  ⟨g.os.trans h.os, g.tape.trans h.tape, g.output.trans h.output, Nat.le_trans h.size g.size, fun j hj hk => (g.block j (Nat.lt_of_lt_of_le hj h.size) hk).trans (h.block j hj hk)⟩
theorem Touch.mono {S T : Nat → Prop} {a b : World} (h : Touch S a b) (hs : ∀ j, S j → T j) : Touch T a b := ⟨h.os, h.tape, h.output, h.size, fun j hj hk => h.block j hj (fun hs' => hk (hs j hs'))⟩
theorem Touch.of_save {k : Nat} {w w' : World} (h : Save k w w') : Touch (fun j => j = k) w w' := ⟨h.os, h.tape, h.output, h.size, fun j hj hk => h.block j hj hk⟩
theorem Touch.of_below {S : Nat → Prop} {w w' : World} (h : Below w.heap.size w w') : Touch S w w' := ⟨h.os, h.tape, h.output, h.size, fun j hj _ => h.block j hj⟩
theorem Touch.of_grown {w w' : World} {row : Option Nat} (h : w.grownBy w' row) : Touch (fun j => row = some j) w w' := ⟨h.os, h.tape, h.output, h.size, fun j hj hk => h.block j hj (fun e => hk e.symm)⟩
theorem Touch.alloc {S : Nat → Prop} {a b : World} (h : Touch S a b) (o : Obj) : Touch S a (b.alloc o) := h.trans (.of_below ((Below.refl _ _).alloc (Nat.le_refl _) o))
theorem Touch.setCell {S : Nat → Prop} {a b : World} (h : Touch S a b) {p : Addr} (hp : S p.block ∨ a.heap.size ≤ p.block) (v : Value) : Touch S a (b.setCell p v) :=
  ⟨h.os, h.tape, h.output, by have := h.size; simpa [World.setCell] using this, fun j hj hk => (Below.heap_setCell _ _ _ _ (by rcases hp with hp | hp; rintro rfl; exact hk hp; omega)).trans (h.block j hj hk)⟩
theorem Touch.below {S : Nat → Prop} {B : Nat} {a b : World} (h : Touch S a b) (hB : B ≤ a.heap.size) (hs : ∀ j, S j → B ≤ j) : Below B a b :=
  ⟨h.os, h.tape, h.output, h.size, fun j hj => h.block j (by omega) (fun hj' => by have := hs j hj'; omega)⟩
theorem Touch.cell {S : Nat → Prop} {w w' : World} (h : Touch S w w') {p : Addr} {v : Value} (hk : ¬ S p.block) (hc : w.cell? p = some v) : w'.cell? p = some v :=
  (World.cell?_of_block (w := w) (h.block p.block (World.block_lt_of_cell? w _ hc) hk)).trans hc
theorem touch_row {S : Nat → Prop} {w w' : World} {base size n : Nat} {e : TypeId} {v : Value} {xs : List Value} (h : w.ownsRow base e size v n xs) (ht : Touch S w w') (hk : ∀ g, v.ownBlock = some g → ¬ S g) : w'.ownsRow base e size v n xs := by
  refine ⟨h.1, ?_⟩
  rcases h.2 with h0 | ⟨g, cap, cur, rfl, hg, hh, rest⟩
  · exact .inl h0
  · exact .inr ⟨g, cap, cur, rfl, hg, (ht.block g (Array.getElem?_eq_some_iff.1 hh).1 (hk g rfl)).trans hh, rest⟩
theorem plain_add (b i : Nat) : (⟨b, 0, none⟩ : Addr).add i = ⟨b, i, none⟩ := by unfold Addr.add; split <;> simp_all

/-- A block that can be written. -/
def Soft (w : World) (q : Nat) : Prop := ∃ cs e, w.heap[q]? = some (.cells cs e (0, 0))
theorem Soft.touch {S : Nat → Prop} {w w' : World} {q : Nat} (h : Soft w q) (ht : Touch S w w') (hk : ¬ S q) : Soft w' q := by
  obtain ⟨cs, e, h⟩ := h
  exact ⟨cs, e, (ht.block q (Array.getElem?_eq_some_iff.1 h).1 hk).trans h⟩
theorem Soft.frozen {w : World} {q : Nat} (h : Soft w q) (i : Nat) : w.frozen? ⟨q, i, none⟩ = false := by
  obtain ⟨cs, e, h⟩ := h
  simp [World.frozen?, h]
theorem Soft.lt {w : World} {q : Nat} (h : Soft w q) : q < w.heap.size := by
  obtain ⟨cs, e, h⟩ := h
  exact (Array.getElem?_eq_some_iff.1 h).1
theorem soft_row {w : World} {base size n : Nat} {e : TypeId} {v : Value} {xs : List Value} (h : w.ownsRow base e size v n xs) {g : Nat} (hg : v.ownBlock = some g) : Soft w g := by
  rcases h.2 with ⟨rfl, _⟩ | ⟨g', cap, cur, rfl, _, hh, _⟩
  · simp [Value.ownBlock] at hg
  · simp only [Value.ownBlock, Option.some.injEq] at hg
    subst hg
    exact ⟨_, _, hh⟩

namespace Instr
def blkOf (n : Nat) (a : Option Addr) : List Nat := if n = 0 then [] else match a with
  | some p => [p.block]
  | none => []
/-- The blocks that hold what is in these instructions: labels, lists. -/
def Il.foot : Il → List Nat
  | .nil => []
  | .cons x l e r => (blkOf x.tags.length x.ta ++ (blkOf x.ln x.la ++ l.foot) ++ (blkOf x.en x.ea ++ e.foot)) ++ r.foot
def Il.cells : Il → List Value
  | .nil => []
  | .cons x _ _ r => x.vals.toList ++ r.cells
/-- What is in these instructions lies as it should; the row that holds themselves may move. -/
def Il.kids (w : World) : Il → Prop
  | .nil => True
  | .cons x l e r => x.ok ∧ TagsAt w.heap.size w x.ta x.tags ∧ ListAt w.heap.size w x.la x.ln l ∧ ListAt w.heap.size w x.ea x.en e ∧ r.kids w
theorem foot_app : ∀ t u : Il, (t.app u).foot = t.foot ++ u.foot
  | .nil, _ => rfl
  | .cons x l e r, u => by simp only [Il.app, Il.foot, foot_app r, List.append_assoc]
theorem cells_app : ∀ t u : Il, (t.app u).cells = t.cells ++ u.cells
  | .nil, _ => rfl
  | .cons x l e r, u => by simp only [Il.app, Il.cells, cells_app r, List.append_assoc]
theorem cells_length : ∀ t : Il, t.cells.length = t.len * 8
  | .nil => rfl
  | .cons _ _ _ r => by simp only [Il.cells, Il.len, List.length_append, cells_length r]; simp [Ix.vals]; omega
theorem kids_app {w : World} : ∀ t u : Il, t.kids w → u.kids w → (t.app u).kids w
  | .nil, _, _, h => h
  | .cons _ _ _ r, u, ⟨h1, h2, h3, h4, h5⟩, h => ⟨h1, h2, h3, h4, kids_app r u h5 h⟩

theorem TagsAt.touch {S : Nat → Prop} {n₀ : Nat} {w w' : World} {a : Option Addr} {zs : List Int} (h : TagsAt n₀ w a zs) (ht : Touch S w w') (hk : ∀ q ∈ blkOf zs.length a, ¬ S q) : TagsAt n₀ w' a zs := by
  rcases h with h | ⟨b, off, rfl, hl, hc⟩
  · exact .inl h
  · by_cases h0 : zs = []
    · exact .inl h0
    · have hne : zs.length ≠ 0 := fun h => h0 (List.eq_nil_of_length_eq_zero h)
      exact .inr ⟨b, off, rfl, hl, fun i hi => ht.cell (p := ⟨b, off + i, none⟩) (hk b (by simp [blkOf, hne])) (hc i hi)⟩
theorem Items.touch {S : Nat → Prop} {n₀ : Nat} {w w' : World} (ht : Touch S w w') : ∀ {t : Il} {b off : Nat}, Items n₀ w b off t → ¬ S b → (∀ q ∈ t.foot, ¬ S q) → Items n₀ w' b off t
  | .nil, _, _, _, _, _ => trivial
  | .cons x l e r, b, off, ⟨hl, hx, ⟨c0, c1, c2, c3, c4, c5, c6, c7⟩, htg, ⟨l1, l2⟩, ⟨e1, e2⟩, hr⟩, hb, hf => by
    have k : ∀ j v, w.cell? ⟨b, off + j, none⟩ = some v → w'.cell? ⟨b, off + j, none⟩ = some v := fun j v h => ht.cell (p := ⟨b, off + j, none⟩) hb h
    simp only [Il.foot, List.mem_append] at hf
    refine ⟨hl, hx, ⟨k 0 _ c0, k 1 _ c1, k 2 _ c2, k 3 _ c3, k 4 _ c4, k 5 _ c5, k 6 _ c6, k 7 _ c7⟩, htg.touch ht (fun q hq => hf q (.inl (.inl (.inl hq)))), ⟨l1, ?_⟩, ⟨e1, ?_⟩, Items.touch ht hr hb (fun q hq => hf q (.inr hq))⟩
    · rcases l2 with h | ⟨b', o', ha, hi⟩
      · exact .inl h
      · cases l with
        | nil => exact .inl rfl
        | cons y m f s =>
          have hne : x.ln ≠ 0 := by rw [← l1]; simp [Il.len]
          exact .inr ⟨b', o', ha, Items.touch ht hi (hf b' (.inl (.inl (.inr (.inl (by simp [blkOf, hne, ha])))))) (fun q hq => hf q (.inl (.inl (.inr (.inr hq)))))⟩
    · rcases e2 with h | ⟨b', o', ha, hi⟩
      · exact .inl h
      · cases e with
        | nil => exact .inl rfl
        | cons y m f s =>
          have hne : x.en ≠ 0 := by rw [← e1]; simp [Il.len]
          exact .inr ⟨b', o', ha, Items.touch ht hi (hf b' (.inl (.inr (.inl (by simp [blkOf, hne, ha]))))) (fun q hq => hf q (.inl (.inr (.inr hq))))⟩
theorem ListAt.touch {S : Nat → Prop} {n₀ : Nat} {w w' : World} {a : Option Addr} {n : Nat} {t : Il} (h : ListAt n₀ w a n t) (ht : Touch S w w') (hk : ∀ q ∈ blkOf n a ++ t.foot, ¬ S q) : ListAt n₀ w' a n t := by
  obtain ⟨h1, h2⟩ := h
  refine ⟨h1, ?_⟩
  rcases h2 with h | ⟨b', o', ha, hi⟩
  · exact .inl h
  · cases t with
    | nil => exact .inl rfl
    | cons y m f s =>
      have hne : n ≠ 0 := by rw [← h1]; simp [Il.len]
      exact .inr ⟨b', o', ha, Items.touch ht hi (hk b' (by simp [blkOf, hne, ha])) (fun q hq => hk q (by simp [hq]))⟩
theorem kids_touch {S : Nat → Prop} {w w' : World} (ht : Touch S w w') : ∀ {t : Il}, t.kids w → (∀ q ∈ t.foot, ¬ S q) → t.kids w'
  | .nil, _, _ => trivial
  | .cons x l e r, ⟨h1, h2, h3, h4, h5⟩, hf => by
    simp only [Il.foot, List.mem_append] at hf
    exact ⟨h1, (h2.touch ht (fun q hq => hf q (.inl (.inl (.inl hq))))).more ht.size, ListAt.more ht.size (h3.touch ht (fun q hq => hf q (.inl (.inl (.inr (List.mem_append.1 hq)))))),
      ListAt.more ht.size (h4.touch ht (fun q hq => hf q (.inl (.inr (List.mem_append.1 hq))))), kids_touch ht h5 (fun q hq => hf q (.inr hq))⟩
theorem tags_lt {n₀ : Nat} {w : World} {a : Option Addr} {zs : List Int} (h : TagsAt n₀ w a zs) : ∀ q ∈ blkOf zs.length a, q < n₀ := by
  intro q hq
  rcases h with rfl | ⟨b, off, rfl, hl, _⟩
  · simp [blkOf] at hq
  · unfold blkOf at hq
    split at hq
    · simp at hq
    · simp at hq; omega
mutual
theorem items_lt {n₀ : Nat} {w : World} : ∀ {t : Il} {b off : Nat}, Items n₀ w b off t → ∀ q ∈ t.foot, q < n₀
  | .nil, _, _, _, q, hq => by simp [Il.foot] at hq
  | .cons x l e r, b, off, ⟨_, _, _, ht, hl, he, hr⟩, q, hq => by
    simp only [Il.foot, List.mem_append] at hq
    rcases hq with ((hq | hq) | hq) | hq
    · exact tags_lt ht q hq
    · exact list_lt (t := l) hl q (List.mem_append.2 hq)
    · exact list_lt (t := e) he q (List.mem_append.2 hq)
    · exact items_lt hr q hq
theorem list_lt {n₀ : Nat} {w : World} {a : Option Addr} {n : Nat} : ∀ {t : Il}, ListAt n₀ w a n t → ∀ q ∈ blkOf n a ++ t.foot, q < n₀
  | .nil, ⟨h1, _⟩, q, hq => by simp [← h1, blkOf, Il.len, Il.foot] at hq
  | .cons x l e r, ⟨h1, h2⟩, q, hq => by
    rcases h2 with h | ⟨b, off, rfl, hb, hx, hc, ht, hl, he, hr⟩
    · cases h
    · rcases List.mem_append.1 hq with hq | hq
      · unfold blkOf at hq
        split at hq
        · simp at hq
        · simp at hq; omega
      · simp only [Il.foot, List.mem_append] at hq
        rcases hq with ((hq | hq) | hq) | hq
        · exact tags_lt ht q hq
        · exact list_lt (t := l) hl q (List.mem_append.2 hq)
        · exact list_lt (t := e) he q (List.mem_append.2 hq)
        · exact items_lt hr q hq
end
theorem kids_lt {w : World} : ∀ {t : Il}, t.kids w → ∀ q ∈ t.foot, q < w.heap.size
  | .nil, _, q, hq => by simp [Il.foot] at hq
  | .cons x l e r, ⟨_, ht, hl, he, hr⟩, q, hq => by
    simp only [Il.foot, List.mem_append] at hq
    rcases hq with ((hq | hq) | hq) | hq
    · exact tags_lt ht q hq
    · exact list_lt hl q (List.mem_append.2 hq)
    · exact list_lt he q (List.mem_append.2 hq)
    · exact kids_lt hr q hq
/-- A row that holds them, and what is in them: a list in memory. -/
theorem items_of {w : World} {g : Nat} (hg : g < w.heap.size) : ∀ (t : Il) (off : Nat), (∀ j u, t.cells[j]? = some u → w.cell? ⟨g, off + j, none⟩ = some u) → t.kids w → Items w.heap.size w g off t
  | .nil, _, _, _ => trivial
  | .cons x l e r, off, hc, ⟨h1, h2, h3, h4, h5⟩ => by
    have h8 : ∀ q u, q < 8 → x.vals.toList[q]? = some u → w.cell? ⟨g, off + q, none⟩ = some u := fun q u hq hu => hc q u (by
      rw [Il.cells, List.getElem?_append_left (by simpa [Ix.vals] using hq)]; exact hu)
    refine ⟨hg, h1, ⟨h8 0 _ (by omega) rfl, h8 1 _ (by omega) rfl, h8 2 _ (by omega) rfl, h8 3 _ (by omega) rfl, h8 4 _ (by omega) rfl, h8 5 _ (by omega) rfl, h8 6 _ (by omega) rfl, h8 7 _ (by omega) rfl⟩, h2, h3, h4, items_of hg r (off + 8) (fun j u hu => ?_) h5⟩
    have := hc (8 + j) u (by
      rw [Il.cells, List.getElem?_append_right (by simp [Ix.vals])]
      simpa [Ix.vals] using hu)
    rw [show off + 8 + j = off + (8 + j) by omega]
    exact this
theorem list_of_row {w : World} {base : Nat} {v : Value} {t : Il} (h : w.ownsRow base 126 8 v t.len t.cells) (hk : t.kids w) : ∃ a c, v = .slice a t.len c ∧ ListAt w.heap.size w a t.len t ∧ blkOf t.len a = (if t.len = 0 then [] else match v.ownBlock with
    | some g => [g]
    | none => []) := by
  rcases h.2 with ⟨rfl, h0⟩ | ⟨g, cap, cur, rfl, _, hh, _⟩
  · refine ⟨none, 0, by rw [h0], ⟨rfl, .inl (len_zero h0)⟩, by simp [blkOf, h0]⟩
  · have hlt : g < w.heap.size := (Array.getElem?_eq_some_iff.1 hh).1
    refine ⟨_, _, rfl, ⟨rfl, .inr ⟨g, 0, rfl, items_of hlt t 0 (fun j u hu => ?_) hk⟩⟩, by simp [blkOf, Value.ownBlock]⟩
    have := World.ownsRow.cells h (g := g) rfl j u hu
    rw [plain_add] at this
    rw [Nat.zero_add]
    exact this
where len_zero : ∀ {t : Il}, t.len = 0 → t = .nil
  | .nil, _ => rfl
  | .cons _ _ _ _, h => by simp [Il.len] at h
end Instr
end Go.Proofs.YtiadgkdkjinnjaaGreatDoor

/-
  BODY: the open lists in memory: a row of them, each with a row of its instructions; how a top one turns.
-/
namespace Go.Proofs.YtiadgkdkjinnjaaGreatDoor.Body
open Go.RowKit Go.Proofs.YtiadgkdkjinnjaaGreatDoor.Instr
open Go.Proofs.YtiadgkdkjinnjaaGreatDoor.Kind (Rd numR refuseR startR numR_good numR_bounds refuseR_good getL_next)

/-- Eight cells of a row are written over. -/
def store8 (w : World) (g off : Nat) (x : Ix) : World :=
  (((((((w.setCell ⟨g, off, none⟩ (.int .i64 x.op)).setCell ⟨g, off + 1, none⟩ (.int .i64 x.res)).setCell ⟨g, off + 2, none⟩ (.int .u32 x.a)).setCell ⟨g, off + 3, none⟩ (.int .u32 x.b)).setCell ⟨g, off + 4, none⟩ (.int .i32 x.n)).setCell
    ⟨g, off + 5, none⟩ (.slice x.ta x.tags.length x.tc)).setCell ⟨g, off + 6, none⟩ (.slice x.la x.ln x.lc)).setCell ⟨g, off + 7, none⟩ (.slice x.ea x.en x.ec)
theorem store8_touch (w : World) (g off : Nat) (x : Ix) : Touch (fun j => j = g) w (store8 w g off x) := by
  have step : ∀ (a b : World) (q : Addr) (v : Value), q.block = g → Touch (fun j => j = g) a b → Touch (fun j => j = g) a (b.setCell q v) := fun a b q v hq h => h.setCell (.inl hq) v
  unfold store8
  exact step _ _ _ _ rfl (step _ _ _ _ rfl (step _ _ _ _ rfl (step _ _ _ _ rfl (step _ _ _ _ rfl (step _ _ _ _ rfl (step _ _ _ _ rfl (step _ _ _ _ rfl (Touch.refl _ w))))))))
theorem set8 (l : List Value) (z0 z1 z2 z3 z4 z5 z6 z7 y0 y1 y2 y3 y4 y5 y6 y7 : Value) :
    ((((((((l ++ [z0, z1, z2, z3, z4, z5, z6, z7]).set l.length y0).set (l.length + 1) y1).set (l.length + 2) y2).set (l.length + 3) y3).set (l.length + 4) y4).set (l.length + 5) y5).set (l.length + 6) y6).set (l.length + 7) y7 = l ++ [y0, y1, y2, y3, y4, y5, y6, y7] := by
  simp [List.set_append_right]
theorem store8_row {w : World} {base g n cap : Nat} {xs : List Value} {z : Ix} (x : Ix) (hx : xs.length = n * 8) (h : w.ownsRow base 126 8 (.slice (some ⟨g, 0, none⟩) (n + 1) cap) (n + 1) (xs ++ z.vals.toList)) :
    (store8 w g (n * 8) x).ownsRow base 126 8 (.slice (some ⟨g, 0, none⟩) (n + 1) cap) (n + 1) (xs ++ x.vals.toList) := by
  have h1 := (h.stored (n * 8) (.int .i64 x.op)).1
  have h2 := (h1.stored (n * 8 + 1) (.int .i64 x.res)).1
  have h3 := (h2.stored (n * 8 + 2) (.int .u32 x.a)).1
  have h4 := (h3.stored (n * 8 + 3) (.int .u32 x.b)).1
  have h5 := (h4.stored (n * 8 + 4) (.int .i32 x.n)).1
  have h6 := (h5.stored (n * 8 + 5) (.slice x.ta x.tags.length x.tc)).1
  have h7 := (h6.stored (n * 8 + 6) (.slice x.la x.ln x.lc)).1
  have h8 := (h7.stored (n * 8 + 7) (.slice x.ea x.en x.ec)).1
  have e := set8 xs (.int .i64 z.op) (.int .i64 z.res) (.int .u32 z.a) (.int .u32 z.b) (.int .i32 z.n) (.slice z.ta z.tags.length z.tc) (.slice z.la z.ln z.lc) (.slice z.ea z.en z.ec) (.int .i64 x.op) (.int .i64 x.res) (.int .u32 x.a) (.int .u32 x.b) (.int .i32 x.n) (.slice x.ta x.tags.length x.tc) (.slice x.la x.ln x.lc) (.slice x.ea x.en x.ec)
  rw [hx] at e
  have hz : z.vals.toList = [.int .i64 z.op, .int .i64 z.res, .int .u32 z.a, .int .u32 z.b, .int .i32 z.n, .slice z.ta z.tags.length z.tc, .slice z.la z.ln z.lc, .slice z.ea z.en z.ec] := rfl
  have hxx : x.vals.toList = [.int .i64 x.op, .int .i64 x.res, .int .u32 x.a, .int .u32 x.b, .int .i32 x.n, .slice x.ta x.tags.length x.tc, .slice x.la x.ln x.lc, .slice x.ea x.en x.ec] := rfl
  rw [hz, e, ← hxx] at h8
  exact h8

end Go.Proofs.YtiadgkdkjinnjaaGreatDoor.Body

namespace Go.Proofs.YtiadgkdkjinnjaaGreatDoor.Body
open Go.RowKit Go.Proofs.YtiadgkdkjinnjaaGreatDoor.Instr
open Go.Proofs.YtiadgkdkjinnjaaGreatDoor.Kind (Rd numR refuseR startR numR_good numR_bounds refuseR_good getL_next)
/-- An open list: its owner, the owner's first list if this is its second, what has been read, the slice that holds that. -/
structure Og where
  x : Ix
  fl : Il
  t : Il
  v : Value
  oth : Bool
def Og.cells (o : Og) : List Value := o.x.vals.toList ++ [o.v, .bool o.oth]
def rowBlk (v : Value) : List Nat := match v.ownBlock with
  | some g => [g]
  | none => []
/-- Its blocks, but for that of its row. -/
def Og.inner (o : Og) : List Nat := o.t.foot ++ (blkOf o.x.ln o.x.la ++ o.fl.foot)
def Og.foot (o : Og) : List Nat := rowBlk o.v ++ o.inner
/-- What the plain reading knows of it. -/
def Og.fr (o : Og) : Fr := ⟨plainX o.x.op o.x.res 0 0 0 [], o.fl.bare, o.t.bare, o.oth⟩
/-- All but the row of what has been read. -/
structure Half (base : Nat) (w : World) (o : Og) : Prop where
  kids : o.t.kids w
  own : ListAt w.heap.size w o.x.la o.x.ln o.fl
  tags : o.x.tags = []
  zero : o.x.a = 0 ∧ o.x.b = 0 ∧ o.x.n = 0
  ok : o.x.ok
  en : o.x.ea = none ∧ o.x.en = 0 ∧ o.x.ec = 0
  first : o.oth = false → o.x.la = none ∧ o.x.ln = 0 ∧ o.x.lc = 0
  low : ∀ q ∈ o.inner, base ≤ q
  few : o.t.len ≤ 4000000
  soft : ∀ q ∈ o.inner, Soft w q
structure OpenOk (base : Nat) (w : World) (o : Og) : Prop where
  half : Half base w o
  row : w.ownsRow base 126 8 o.v o.t.len o.t.cells
theorem Half.touch {base : Nat} {S : Nat → Prop} {w w' : World} {o : Og} (h : Half base w o) (ht : Touch S w w') (hk : ∀ q ∈ o.inner, ¬ S q) : Half base w' o := by
  obtain ⟨h1, h2, h3, h4, h5, h6, h7, h8, h9, h10⟩ := h
  have hs : ∀ q ∈ o.inner, Soft w' q := fun q hq => (h10 q hq).touch ht (hk q hq)
  unfold Og.inner at hk
  exact ⟨kids_touch ht h1 (fun q hq => hk q (List.mem_append_left _ hq)), ListAt.more ht.size (h2.touch ht (fun q hq => hk q (List.mem_append_right _ hq))), h3, h4, h5, h6, h7, h8, h9, hs⟩
theorem OpenOk.touch {base : Nat} {S : Nat → Prop} {w w' : World} {o : Og} (h : OpenOk base w o) (ht : Touch S w w') (hk : ∀ q ∈ o.foot, ¬ S q) : OpenOk base w' o :=
  ⟨h.half.touch ht (fun q hq => hk q (List.mem_append_right _ hq)), touch_row h.row ht (fun g hg => hk g (List.mem_append_left _ (by simp [rowBlk, hg])))⟩
theorem OpenOk.low {base : Nat} {w : World} {o : Og} (h : OpenOk base w o) : ∀ q ∈ o.foot, base ≤ q := by
  intro q hq
  rcases List.mem_append.1 hq with hq | hq
  · unfold rowBlk at hq
    split at hq
    · rename_i g hg
      simp at hq
      subst hq
      exact (World.ownsRow.lt h.row q hg).1
    · simp at hq
  · exact h.half.low q hq
theorem OpenOk.soft {base : Nat} {w : World} {o : Og} (h : OpenOk base w o) : ∀ q ∈ o.foot, Soft w q := by
  intro q hq
  rcases List.mem_append.1 hq with hq | hq
  · unfold rowBlk at hq
    split at hq
    · rename_i g hg
      simp at hq
      subst hq
      exact soft_row h.row hg
    · simp at hq
  · exact h.half.soft q hq
theorem Half.lt {base : Nat} {w : World} {o : Og} (h : Half base w o) : ∀ q ∈ o.inner, q < w.heap.size := by
  intro q hq
  rcases List.mem_append.1 hq with hq | hq
  · exact kids_lt h.kids q hq
  · exact list_lt h.own q hq
theorem OpenOk.lt {base : Nat} {w : World} {o : Og} (h : OpenOk base w o) : ∀ q ∈ o.foot, q < w.heap.size := by
  intro q hq
  rcases List.mem_append.1 hq with hq | hq
  · unfold rowBlk at hq
    split at hq
    · rename_i g hg
      simp at hq
      subst hq
      exact (World.ownsRow.lt h.row q hg).2
    · simp at hq
  · exact h.half.lt q hq

theorem cells_ten (o : Og) : o.cells.length = 10 := by simp [Og.cells, Ix.vals]
theorem flat_ten : ∀ os : List Og, (os.flatMap Og.cells).length = os.length * 10
  | [] => rfl
  | o :: os => by rw [List.flatMap_cons, List.length_append, flat_ten os, cells_ten, List.length_cons]; omega
theorem flat_snoc (os : List Og) (o : Og) : (os ++ [o]).flatMap Og.cells = os.flatMap Og.cells ++ o.cells := by simp
theorem set_top (os : List Og) (cs : List Value) (j : Nat) (u : Value) : (os.flatMap Og.cells ++ cs).set (os.length * 10 + j) u = os.flatMap Og.cells ++ cs.set j u := by
  rw [List.set_append_right _ _ (by rw [flat_ten]; omega), flat_ten]
  congr 2; omega
theorem nodup_mid {a : Nat} {l m : List Nat} (h : (a :: (l ++ m)).Nodup) : (∀ q ∈ l, q ≠ a ∧ q ∉ m) ∧ (∀ q ∈ m, q ≠ a) ∧ m.Nodup ∧ l.Nodup := by
  simp only [List.nodup_cons, List.mem_append, not_or, List.nodup_append] at h
  obtain ⟨⟨h1, h2⟩, h3, h4, h5⟩ := h
  exact ⟨fun q hq => ⟨fun e => h1 (e ▸ hq), fun hm => h5 q hq q hm rfl⟩, fun q hq e => h2 (e ▸ hq), h4, h3⟩

end Go.Proofs.YtiadgkdkjinnjaaGreatDoor.Body

/-
  INSTR: the range function: descend, the function that within hands back, within.
-/
namespace Go.Proofs.YtiadgkdkjinnjaaGreatDoor.Instr
open Go.RowKit Go.Shelf

attribute [local go_sem] Oper.semAt_some

theorem RoundIn.anyD {m m' : Nat} {P : Program} {l : Nat} {f : FuncId} {tmps : Array Value} {assign body : Code} {w : World} {R : Ending → World → Prop}
    (h : RoundIn Fence.wide m P l f tmps assign body w R) : RoundIn Fence.wide m' P l f tmps assign body w R := ⟨h.1, fun c cs _ => h.2 c cs (fun d h => by cases h)⟩
theorem YieldAt.anyD {m m' : Nat} {P : Program} {l : Nat} {args : Array Value} {W : World} {R : Ending → World → Prop} (h : YieldAt Fence.wide m P l args W R) : YieldAt Fence.wide m' P l args W R := by
  obtain ⟨fn, tmps, assign, body, hy, hR⟩ := h
  exact ⟨fn, tmps, assign, body, hy, RoundIn.anyD hR⟩

def encs (p : Int × Ix) : Array Value := #[.int .i64 p.1, .agg p.2.vals]

set_option maxHeartbeats 4000000 in
set_option maxRecDepth 100000 in
theorem descend_in (l n₀ n₁ N : Nat) (J Jx : List (Int × Ix) → World → Prop) (B : Nat) (hJ : AbidesFrom B J) (hn : n₀ ≤ n₁)
    (hY : ∀ m pre x W, J pre W → pre.length < N → n₁ ≤ W.heap.size → YieldAt Fence.wide m Tryz.prog l (encs x) W fun e W' =>
      (e = .returned (.bool true) ∧ J (pre ++ [x]) W' ∧ Kept n₀ n₁ W W') ∨ (e = .returned (.bool false) ∧ Jx (pre ++ [x]) W')) :
    ∀ (m : Nat) (t : Il) (n : Nat) (a : Option Addr) (len cap : Nat) (d : Int) (pre : List (Int × Ix)) (W : World), t.count ≤ m → ListAt n₀ W a len t → J pre W → pre.length + t.count ≤ N → n₁ ≤ W.heap.size → 0 ≤ d → d + t.deep ≤ 4611686018427387904 → len ≤ 140737488351232 →
      CallsIn Fence.wide n Tryz.prog 188 #[.slice a len cap, .int .i64 d, .func (.yield l) #[] #[]] W fun e W' =>
        (e = .returned (.bool true) ∧ J (pre ++ t.walk d) W' ∧ Kept n₀ n₁ W W') ∨ (e = .returned (.bool false) ∧ ∃ q, q <+: t.walk d ∧ Jx (pre ++ q) W') := by
  intro m
  induction m with
  | zero =>
    intro t n a len cap d pre W hm hl hJ0 hN hW hd0 hd1 hlen
    cases t with
    | cons x l e r => simp only [Il.count] at hm; omega
    | nil =>
      have h0 : len = 0 := hl.1.symm
      subst h0
      clear hm hl hN hd1
      refine callsIn_of_wp Tryz.func188 rfl trivial ?_ rfl
      simp only [Tryz.ntmps188, List.size_toArray, List.length_cons, List.length_nil, Nat.reduceAdd, Nat.reduceSub, Array.replicate_succ, Array.replicate_zero, List.push_toArray, List.append_toArray, List.nil_append, List.cons_append]
      gi_wp2
      gi_loopw [11] (fun i wr => i = .int .i64 0 ∧ J pre wr ∧ Kept n₀ n₁ W wr) (fun _ _ => 0)
      case atStart => exact ⟨rfl, hJ0, Kept.refl _ _ _⟩
      case round =>
        obtain ⟨rfl, hJs, hk⟩ := hrel
        gi_wp2
        go_ret
        exact .inl ⟨rfl, by simpa [Il.walk] using hJs, hk⟩
  | succ m ih =>
    intro t n a len cap d pre W hm hl hJ0 hN hW hd0 hd1 hlen
    have hA : ∀ s W, J s W → ∀ o, J s (W.alloc o) := fun s W h o => hJ s W _ none h (World.grownBy_alloc W o none) (fun r e => by cases e)
    obtain ⟨hl1, hl2⟩ := hl
    have HT := hid hm
    have HN := hid hN
    have HD := hid hd1
    have HL := hid hl1
    clear hm hN hd1 hl1
    rcases hl2 with rfl | ⟨b, off, rfl, hi⟩
    · have h0 : len = 0 := HL.out.symm
      subst h0
      refine callsIn_of_wp Tryz.func188 rfl trivial ?_ rfl
      simp only [Tryz.ntmps188, List.size_toArray, List.length_cons, List.length_nil, Nat.reduceAdd, Nat.reduceSub, Array.replicate_succ, Array.replicate_zero, List.push_toArray, List.append_toArray, List.nil_append, List.cons_append]
      gi_wp2
      gi_loopw [11] (fun i wr => i = .int .i64 0 ∧ J pre wr ∧ Kept n₀ n₁ W wr) (fun _ _ => 0)
      case atStart => exact ⟨rfl, hJ0, Kept.refl _ _ _⟩
      case round =>
        obtain ⟨rfl, hJs, hk⟩ := hrel
        gi_wp2
        go_ret
        exact .inl ⟨rfl, by simpa [Il.walk] using hJs, hk⟩
    · refine callsIn_of_wp Tryz.func188 rfl trivial ?_ rfl
      simp only [Tryz.ntmps188, List.size_toArray, List.length_cons, List.length_nil, Nat.reduceAdd, Nat.reduceSub, Array.replicate_succ, Array.replicate_zero, List.push_toArray, List.append_toArray, List.nil_append, List.cons_append]
      gi_wp2
      gi_loopw [11] (fun i wr => ∃ (k : Nat) (done : List (Int × Ix)) (rest : Il), i = .int .i64 k ∧ k ≤ len ∧ Hid (k + rest.len = len ∧ done ++ rest.walk d = t.walk d ∧ rest.count ≤ t.count ∧ rest.deep ≤ t.deep) ∧ Items n₀ wr b (off + k * 8) rest ∧ J (pre ++ done) wr ∧ Kept n₀ n₁ W wr)
        (fun i _ => len - (intOf i).toNat)
      case atStart => exact ⟨0, [], t, rfl, Nat.zero_le _, ⟨by have := HL.out; omega, rfl, Nat.le_refl _, Nat.le_refl _⟩, by simpa using hi, by simpa using hJ0, Kept.refl _ _ _⟩
      case round =>
        obtain ⟨k, done, rest, rfl, hk, HR, hir, hJs, hkw⟩ := hrel
        cases rest with
        | nil =>
          obtain ⟨r1, r2, _, _⟩ := HR.out
          have hkl : k = len := by simpa [Il.len] using r1
          subst hkl
          gi_wp2
          go_ret
          exact .inl ⟨rfl, by rw [← r2]; simpa [Il.walk] using hJs, hkw⟩
        | cons x tl te r =>
          obtain ⟨hbn, hx, ⟨c0, c1, c2, c3, c4, c5, c6, c7⟩, ht, hLl, hLe, hir'⟩ := hir
          have hlt : k < len := by have := HR.out.1; simp only [Il.len] at this; omega
          obtain ⟨fn, tmps, assign, body, hy, hR⟩ := hY (n - 1) (pre ++ done) (d, x) (wr.alloc (.cells x.vals 126)) (hA _ _ hJs _) (by
            have h1 := congrArg List.length HR.out.2.1
            have h2 := walk_length t d
            have h3 := HN.out
            simp only [List.length_append, Il.walk, List.length_cons] at h1 ⊢
            omega) (by have := hkw.below.size; simp; omega)
          simp only [encs, Ix.vals] at hy hR
          have hbx := At.made x wr
          have hg : n₁ ≤ wr.heap.size := Nat.le_trans hW hkw.below.size
          have hw1 : IntKind.i64.wrap (d + 1) = d + 1 := by have := HD.out; rw [IntKind.wrap_i64]; omega
          have hB1 : Kept n₀ n₁ W (wr.alloc (.cells x.vals 126)) := hkw.alloc _ (Nat.le_trans hn hg)
          have hcounts : tl.count + te.count + r.count + 1 ≤ m + 1 ∧ tl.deep + 1 ≤ t.deep ∧ te.deep + 1 ≤ t.deep := by
            have h1 := HR.out.2.2
            have h2 := HT.out
            simp only [Il.count, Il.deep] at h1
            omega
          have HC := hid hcounts
          clear hcounts
          have hlens : (pre ++ done).length + 1 + tl.count + te.count + r.count ≤ N := by
            have h1 := congrArg List.length HR.out.2.1
            have h2 := HN.out
            simp only [List.length_append, Il.walk, List.length_cons, walk_length] at h1 ⊢
            omega
          have HLN := hid hlens
          clear hlens
          gi_wp2_with fail
          refine ⟨fun h => (by cases h), ?_⟩
          refine hR.mono ?_
          clear hR hy
          rintro e W2 (⟨rfl, hJ2, hk2⟩ | ⟨rfl, hx2⟩)
          · have hb2 := hbx.kept hk2 hg
            obtain ⟨d0, d1, d2, d3, d4, d5, d6, d7⟩ := hb2
            gi_wp2_with fail
            refine ⟨trivial, fun h => (by cases h), ?_⟩
            have hL2 : ListAt n₀ W2 x.la x.ln tl := ListAt.below (((Below.refl _ wr).alloc (Nat.le_trans hn hg) _).trans hk2.below) hLl
            refine (ih tl (n - 1) x.la x.ln x.lc (d + 1) (pre ++ done ++ [(d, x)]) W2 (by have := HC.out; omega) hL2 hJ2 (by have := HLN.out; simp only [List.length_append, List.length_cons, List.length_nil] at this ⊢; omega)
              (by have := hk2.below.size; simp at this; omega) (by omega) (by have := HC.out; have := HD.out; omega) hx.ln).mono ?_
            rintro e W3 (⟨rfl, hJ3, hk3⟩ | ⟨rfl, q, hq, hx3⟩)
            · have hb3 := hbx.kept (hk2.trans hk3) hg
              clear d0 d1 d2 d3 d4 d5 d6 d7
              obtain ⟨d0, d1, d2, d3, d4, d5, d6, d7⟩ := hb3
              gi_wp2_with fail
              refine ⟨trivial, fun h => (by cases h), ?_⟩
              have hL3 : ListAt n₀ W3 x.ea x.en te := ListAt.below ((((Below.refl _ wr).alloc (Nat.le_trans hn hg) _).trans hk2.below).trans hk3.below) hLe
              refine (ih te (n - 1) x.ea x.en x.ec (d + 1) (pre ++ done ++ [(d, x)] ++ tl.walk (d + 1)) W3 (by have := HC.out; omega) hL3 hJ3 (by have := HLN.out; simp only [List.length_append, List.length_cons, List.length_nil, walk_length] at this ⊢; omega)
                (by have := (hk2.trans hk3).below.size; simp at this; omega) (by omega) (by have := HC.out; have := HD.out; omega) hx.en).mono ?_
              rintro e W4 (⟨rfl, hJ4, hk4⟩ | ⟨rfl, q, hq, hx4⟩)
              · clear d0 d1 d2 d3 d4 d5 d6 d7
                gi_wp2
                have hkz : Kept n₀ n₁ W W4 := hB1.trans ((hk2.trans hk3).trans hk4)
                go_roundw
                case rel =>
                  refine ⟨k + 1, done ++ [(d, x)] ++ tl.walk (d + 1) ++ te.walk (d + 1), r, by simp, by omega, ?_, ?_, ?_, hkz⟩
                  · have h1 := HR.out
                    refine ⟨by simp only [Il.len] at h1; omega, ?_, by simp only [Il.count] at h1; omega, by simp only [Il.deep] at h1; omega⟩
                    rw [← h1.2.1]; simp [Il.walk, List.append_assoc]
                  · have := Items.below ((((((Below.refl _ wr).alloc (Nat.le_trans hn hg) (.cells x.vals 126)).trans hk2.below).trans hk3.below)).trans hk4.below) hir'
                    rw [show off + (k + 1) * 8 = off + k * 8 + 8 by omega]
                    exact this
                  · simpa [List.append_assoc] using hJ4
                case measure => simp [intOf]; omega
              · gi_wp2
                go_ret
                refine .inr ⟨rfl, done ++ [(d, x)] ++ tl.walk (d + 1) ++ q, ?_, by simpa [List.append_assoc] using hx4⟩
                rw [← HR.out.2.1]
                obtain ⟨z, hz⟩ := hq
                exact ⟨z ++ r.walk d, by rw [Il.walk, ← hz]; simp [List.append_assoc]⟩
            · gi_wp2
              refine ⟨trivial, ?_⟩
              gi_wp2
              go_ret
              refine .inr ⟨rfl, done ++ [(d, x)] ++ q, ?_, by simpa [List.append_assoc] using hx3⟩
              rw [← HR.out.2.1]
              obtain ⟨z, hz⟩ := hq
              exact ⟨z ++ (te.walk (d + 1) ++ r.walk d), by rw [Il.walk, ← hz]; simp [List.append_assoc]⟩
          · gi_wp2
            refine ⟨trivial, ?_⟩
            gi_wp2
            refine ⟨trivial, ?_⟩
            gi_wp2
            go_ret
            refine .inr ⟨rfl, done ++ [(d, x)], ?_, by simpa [List.append_assoc] using hx2⟩
            rw [← HR.out.2.1]
            exact ⟨tl.walk (d + 1) ++ (te.walk (d + 1) ++ r.walk d), by simp [Il.walk, List.append_assoc]⟩

set_option maxHeartbeats 1000000 in
/-- The function that within hands back. -/
theorem within_stops (n n₀ n₁ Bs : Nat) (a : Option Addr) (len cap : Nat) (t : Il) (w : World) (hBs : Bs < w.heap.size) (hn : n₀ ≤ n₁) (hw : n₁ ≤ w.heap.size)
    (hc : w.cell? ⟨Bs, 0, none⟩ = some (.slice a len cap)) (hl : ListAt n₀ w a len t) (hd : t.deep ≤ 4611686018427387900) (hlen : len ≤ 140737488351232) :
    SeqStopsK Fence.wide n Tryz.prog 187 #[.pointer (some ⟨Bs, 0, none⟩)] encs (Kept n₀ n₁) (fun ys => ys = t.walk 1) (fun pre => pre <+: t.walk 1) t.count w := fun l J Jx W hW hJ _ hY h0 => by
  have hc' := (hW.cell (p := ⟨Bs, 0, none⟩) hBs).trans hc
  have hp := descend_in l n₀ n₁ t.count J Jx W.heap.size hJ hn (fun m pre x W1 hj hl1 _ => YieldAt.anyD (hY pre x W1 hj hl1)) t.count t (n - 1) a len cap 1 [] W (Nat.le_refl _) (hl.below (hW.mono (Nat.le_trans hn hw))) h0 (by simp) (Nat.le_trans hw hW.size) (by omega) (by omega) hlen
  have C := hid hp
  clear hp hl hd hc hY
  refine callsIn_of_wp Tryz.func187 rfl trivial ?_ rfl
  simp only [Tryz.ntmps187, List.size_toArray, List.length_cons, List.length_nil, Nat.reduceAdd, Nat.reduceSub, Array.replicate_succ, Array.replicate_zero, List.push_toArray, List.append_toArray, List.nil_append, List.cons_append]
  gi_wp2_with fail
  refine ⟨trivial, fun h => (by cases h), ?_⟩
  refine C.out.mono ?_
  clear C
  rintro e W1 (⟨rfl, hJ1, _⟩ | ⟨rfl, q, hq, hx⟩)
  · gi_wp2
    go_end0
    exact ⟨⟨_, rfl⟩, .inl ⟨_, rfl, by simpa using hJ1⟩⟩
  · gi_wp2
    go_end0
    exact ⟨⟨_, rfl⟩, .inr ⟨q, hq, by simpa using hx⟩⟩
theorem within_in (n : Nat) (a : Option Addr) (len cap : Nat) (w : World) :
    CallsIn Fence.wide n Tryz.prog 138 #[.slice a len cap] w fun e w' => e = .returned (.func (.func 187) #[] #[.pointer (some ⟨w.heap.size, 0, none⟩)]) ∧ w' = w.alloc (.cells #[.slice a len cap] 45) := by
  refine callsIn_of_wp Tryz.func138 rfl trivial ?_ rfl
  simp only [Tryz.ntmps138, List.size_toArray, List.length_cons, List.length_nil, Nat.reduceAdd, Nat.reduceSub, Array.replicate_succ, Array.replicate_zero, List.push_toArray, List.append_toArray, List.nil_append, List.cons_append]
  gi_wp2
  go_ret
  exact ⟨rfl, rfl⟩
end Go.Proofs.YtiadgkdkjinnjaaGreatDoor.Instr

/-
  INSTR: new cells, for loops over the range function.
-/
namespace Go.Proofs.YtiadgkdkjinnjaaGreatDoor.Instr
open Go.RowKit Go.Shelf

theorem cell_new (W : World) (v : Value) (t : TypeId) : (W.alloc (.cells #[v] t)).cell? ⟨W.heap.size, 0, none⟩ = some v ∧ (W.alloc (.cells #[v] t)).frozen? ⟨W.heap.size, 0, none⟩ = false := by
  constructor <;> go_simp
theorem cell_alloc' {W : World} {a : Addr} {v : Value} (o : Obj) (h : W.cell? a = some v) : (W.alloc o).cell? a = some v := cell_kept h (World.grownBy_alloc W o none) (fun r e => by cases e)
theorem frozen_alloc' {W : World} {a : Addr} {v : Value} (o : Obj) (h : W.cell? a = some v) (hf : W.frozen? a = false) : (W.alloc o).frozen? a = false := (frozen_kept h (World.grownBy_alloc W o none) (fun r e => by cases e)).trans hf

end Go.Proofs.YtiadgkdkjinnjaaGreatDoor.Instr

/-
  INSTR: Count by contract: a loop over the range function.
-/
namespace Go.Proofs.YtiadgkdkjinnjaaGreatDoor.Instr
open Go.RowKit Go.Shelf

attribute [local go_sem] Oper.semAt_some

set_option maxRecDepth 100000 in
set_option maxHeartbeats 2000000 in
theorem Count_any (a : Option Addr) (len cap : Nat) (t : Il) (w : World) (hl : ListAt w.heap.size w a len t) (hc : t.count ≤ 4611686018427387900) (hlen : len ≤ 140737488351232) :
    Calls Tryz.prog 83 #[.slice a len cap] w fun e w' => e = .returned (.int .i64 t.count) ∧ Below w.heap.size w w' := by
  have HC := hid hc
  clear hc
  refine (callsIn_wide (n := 3)).1 ?_
  refine callsIn_of_wp_marks Tryz.func83 rfl trivial ?_ rfl
  simp only [Tryz.ntmps83, List.size_toArray, List.length_cons, List.length_nil, Nat.reduceAdd, Nat.reduceSub, Array.replicate_succ, Array.replicate_zero, List.push_toArray, List.append_toArray, List.nil_append, List.cons_append]
  gi_wp2_with (refine ⟨trivial, ?_⟩; refine (within_in _ _ _ _ _).mono ?_; rintro e w' ⟨rfl, rfl⟩)
  have hs := cell_new w (.int .i64 0) 3
  have hb := cell_new (w.alloc (.cells #[.int .i64 0] 3)) (.slice a len cap) 45
  rw [World.size_alloc] at hb
  have hB0 : Below w.heap.size w ((w.alloc (.cells #[.int .i64 0] 3)).alloc (.cells #[.slice a len cap] 45)) := thenA (thenA (Below.refl _ _) _) _
  refine wpIn_rangeFunc_ownF rfl (by omega) (gf := 187) (lb := #[.pointer (some ⟨w.heap.size + 1, 0, none⟩)]) rfl trivial (enters_of Tryz.func187 (by kernel_rfl) rfl)
    (within_stops _ w.heap.size (w.heap.size + 2) (w.heap.size + 1) a len cap t _ (by simp) (by omega) (by simp) hb.1 (hl.below hB0) (by have := HC.out; have := deep_le_count t; omega) hlen) (fun h k => h.trans k) (kept_b (by simp; omega)) (Below.refl _ _) (fun _ => rfl)
    (fun pre W => (W.cell? ⟨w.heap.size, 0, none⟩ = some (.int .i64 pre.length) ∧ W.frozen? ⟨w.heap.size, 0, none⟩ = false) ∧ Below w.heap.size w W)
    (fun _ _ _ => False)
    (OwnFrom.and (Own.from (fun s A B row hs hg hr => ⟨cell_kept hs.1 hg hr, (frozen_kept hs.1 hg hr).trans hs.2⟩) _) (ownFrom_below (Nat.le_refl _) (by simp; omega)))
    (fun _ _ _ _ _ hs _ _ => hs)
    ⟨⟨cell_alloc' _ hs.1, frozen_alloc' _ hs.1 hs.2⟩, hB0⟩
    (fun x => { tmps := #[.slice a len cap, undef, .int .i64 0, .pointer (some ⟨w.heap.size, 0, none⟩), .slice a len cap, .func (.func 187) #[] #[.pointer (some ⟨w.heap.size + 1, 0, none⟩)], .int .i64 x.1, .agg x.2.vals, undef, undef, undef], defers := [] }) ?assign ?body ?done ?stop
  case assign =>
    intro l x W K hK
    gi_wp2
    simpa [encs] using hK
  case body =>
    rintro l pre x W ⟨⟨hc, hf⟩, hB⟩ hlt
    have hw1 : IntKind.i64.wrap ((pre.length : Int) + 1) = ((pre ++ [x]).length : Int) := by have := HC.out; rw [IntKind.wrap_i64]; simp; omega
    gi_wp2
    exact ⟨KeepsOthers.setCell _ _ _, (Kept.refl _ _ W).setCell (p := ⟨w.heap.size, 0, none⟩) (Nat.le_refl _) (by simp) _, ⟨by rw [show (((pre ++ [x]).length : Nat) : Int) = (pre.length : Int) + 1 by simp]; exact World.cell?_setCell_same' _ _ _ (by rw [hc]; rfl), by rw [World.frozen?_setCell]; exact hf⟩, hB.setCell (p := ⟨w.heap.size, 0, none⟩) (Nat.le_refl _) _⟩
  case done =>
    rintro D ys W hD rfl ⟨⟨hc, _⟩, hB⟩ hK
    rw [walk_length] at hc
    gi_wp2
    refine ⟨by simp, .inl ⟨_, _, rfl, run_takeDeferred hK, ?_⟩⟩
    exact ⟨_, results_tmp rfl _ _ _, rfl, hB.trans (belowK_b (w := w) (Nat.le_refl _) W D _ _ (by simp at hD; omega) hK rfl rfl)⟩
  case stop =>
    rintro D c pre W _ _ h _
    exact h.elim
end Go.Proofs.YtiadgkdkjinnjaaGreatDoor.Instr

/-
  INSTR: the statements' count of instructions and labels, as far as it goes, by contract.
-/
namespace Go.Proofs.YtiadgkdkjinnjaaGreatDoor.Instr
open Go.RowKit

def Il.weight : Il → Nat
  | .nil => 0
  | .cons x l e r => 1 + x.tags.length + l.weight + e.weight + r.weight
def tagsMin (x : Ix) (most : Int) : Int := min (x.tags.length : Int) most
/-- Counted on from n, no further than beyond 'most'. -/
def Il.go : Il → Int → Int → Int
  | .nil, n, _ => n
  | .cons x l e r, n, most =>
    if n ≤ most then
      r.go (if (if n + 1 + tagsMin x most ≤ most then n + 1 + tagsMin x most + l.go 0 (most - (n + 1 + tagsMin x most)) else n + 1 + tagsMin x most) ≤ most
        then (if n + 1 + tagsMin x most ≤ most then n + 1 + tagsMin x most + l.go 0 (most - (n + 1 + tagsMin x most)) else n + 1 + tagsMin x most) + e.go 0 (most - (if n + 1 + tagsMin x most ≤ most then n + 1 + tagsMin x most + l.go 0 (most - (n + 1 + tagsMin x most)) else n + 1 + tagsMin x most))
        else (if n + 1 + tagsMin x most ≤ most then n + 1 + tagsMin x most + l.go 0 (most - (n + 1 + tagsMin x most)) else n + 1 + tagsMin x most)) most
    else n
/-- Behind one of them. -/
def next1 (n m : Int) (most : Int) : Int := if n ≤ most then n + m else n
theorem next1_pos {n m most : Int} (h : n ≤ most) : next1 n m most = n + m := if_pos h
theorem next1_neg {n m most : Int} (h : ¬ n ≤ most) : next1 n m most = n := if_neg h
theorem go_cons (x : Ix) (l e r : Il) (n most : Int) (h : n ≤ most) : (Il.cons x l e r).go n most =
    r.go (next1 (next1 (n + 1 + tagsMin x most) (l.go 0 (most - (n + 1 + tagsMin x most))) most) (e.go 0 (most - next1 (n + 1 + tagsMin x most) (l.go 0 (most - (n + 1 + tagsMin x most))) most)) most) most := by
  rw [Il.go, if_pos h]; rfl
theorem go_over (t : Il) (n most : Int) (h : most < n) : t.go n most = n := by
  cases t with
  | nil => rfl
  | cons x l e r => rw [Il.go, if_neg (by omega)]
theorem tagsMin_bounds (x : Ix) (most : Int) (h : 0 ≤ most) : 0 ≤ tagsMin x most ∧ tagsMin x most ≤ most ∧ tagsMin x most ≤ x.tags.length := by unfold tagsMin; omega
theorem go_bounds : ∀ (t : Il) (n most : Int), 0 ≤ n → 0 ≤ most → n ≤ 2 * most + 1 → n ≤ t.go n most ∧ t.go n most ≤ 2 * most + 1 ∧ (t.go n most ≤ most → n + t.weight ≤ t.go n most)
  | .nil, n, most, h0, h1, h2 => by simp [Il.go, Il.weight, h2]
  | .cons x l e r, n, most, h0, h1, h2 => by
    by_cases h : n ≤ most
    · rw [go_cons x l e r n most h]
      have hT := tagsMin_bounds x most h1
      obtain ⟨T, hTT⟩ : ∃ T, tagsMin x most = T := ⟨_, rfl⟩
      have hx : T = most ∨ T = x.tags.length := by rw [← hTT]; unfold tagsMin; omega
      rw [hTT] at hT ⊢
      have A : ∀ (N2 : Int), next1 (n + 1 + T) (l.go 0 (most - (n + 1 + T))) most = N2 → n + 1 + T ≤ N2 ∧ N2 ≤ 2 * most + 1 ∧ (N2 ≤ most → n + 1 + T + l.weight ≤ N2 ∧ n + 1 + T ≤ most) := by
        intro N2 h
        subst h
        unfold next1
        split
        · have := go_bounds l 0 (most - (n + 1 + T)) (by omega) (by omega) (by omega)
          refine ⟨by omega, by omega, fun hh => ⟨?_, by omega⟩⟩
          have := this.2.2 (by omega)
          omega
        · exact ⟨by omega, by omega, fun hh => by omega⟩
      obtain ⟨N2, h2'⟩ : ∃ N2, next1 (n + 1 + T) (l.go 0 (most - (n + 1 + T))) most = N2 := ⟨_, rfl⟩
      have a := A N2 h2'
      rw [h2']
      have B : ∀ (N3 : Int), next1 N2 (e.go 0 (most - N2)) most = N3 → N2 ≤ N3 ∧ N3 ≤ 2 * most + 1 ∧ (N3 ≤ most → N2 + e.weight ≤ N3 ∧ N2 ≤ most) := by
        intro N3 h
        subst h
        unfold next1
        split
        · have := go_bounds e 0 (most - N2) (by omega) (by omega) (by omega)
          refine ⟨by omega, by omega, fun hh => ⟨?_, by omega⟩⟩
          have := this.2.2 (by omega)
          omega
        · exact ⟨by omega, by omega, fun hh => by omega⟩
      obtain ⟨N3, h3'⟩ : ∃ N3, next1 N2 (e.go 0 (most - N2)) most = N3 := ⟨_, rfl⟩
      have b := B N3 h3'
      rw [h3']
      have c := go_bounds r N3 most (by omega) h1 (by omega)
      refine ⟨by omega, c.2.1, fun hh => ?_⟩
      have c3 := c.2.2 hh
      have b3 := b.2.2 (by omega)
      have a3 := a.2.2 (by omega)
      simp only [Il.weight]
      omega
    · rw [go_over _ _ _ (by omega)]
      exact ⟨by omega, by omega, fun hh => by omega⟩
theorem weight_count : ∀ t : Il, t.count ≤ t.weight
  | .nil => Nat.le_refl _
  | .cons x l e r => by have := weight_count l; have := weight_count e; have := weight_count r; simp only [Il.count, Il.weight]; omega

set_option maxRecDepth 100000 in
set_option maxHeartbeats 1600000 in
theorem Instrs_any : ∀ (m : Nat) (t : Il) (a : Option Addr) (len c : Nat) (most : Int) (w : World), t.count ≤ m → ListAt w.heap.size w a len t → len ≤ 140737488351232 → 0 ≤ most → most ≤ 5000 →
    Calls Tryz.prog 32 #[.slice a len c, .int .i64 most] w fun e w' => e = .returned (.int .i64 (t.go 0 most)) ∧ w = w' := by
  intro m
  induction m with
  | zero =>
    intro t a len c most w hm hL hlen hm0 hm1
    cases t with
    | cons x l e r => simp only [Il.count] at hm; omega
    | nil =>
      have h0 : len = 0 := hL.1.symm
      subst h0
      clear hm hL
      go_enter Tryz.func32, Tryz.ntmps32
      go_wp2
      go_loopw [5, 6] (fun sn si wr => si = .int .i64 0 ∧ sn = .int .i64 0 ∧ wr = w) (fun _ _ _ => 0)
      case atStart => exact ⟨rfl, rfl, rfl⟩
      case round =>
        obtain ⟨rfl, rfl, rfl⟩ := hrel
        go_wp2
        go_ret
        exact ⟨rfl, rfl⟩
  | succ m ih =>
    intro t a len c most w hm hL hlen hm0 hm1
    obtain ⟨hL1, hL2⟩ := hL
    have HM := hid hm
    have HL1 := hid hL1
    have HG : Hid (t.go 0 most = t.go 0 most) := hid rfl
    clear hm hL1
    rcases hL2 with rfl | ⟨b, off, rfl, hi⟩
    · have h0 : len = 0 := HL1.out.symm
      subst h0
      clear ih
      go_enter Tryz.func32, Tryz.ntmps32
      go_wp2
      go_loopw [5, 6] (fun sn si wr => si = .int .i64 0 ∧ sn = .int .i64 0 ∧ wr = w) (fun _ _ _ => 0)
      case atStart => exact ⟨rfl, rfl, rfl⟩
      case round =>
        obtain ⟨rfl, rfl, rfl⟩ := hrel
        go_wp2
        go_ret
        exact ⟨rfl, rfl⟩
    · go_enter Tryz.func32, Tryz.ntmps32
      go_wp2
      go_loopw [5, 6] (fun sn si wr => ∃ (k : Nat) (n : Int) (rest : Il), si = .int .i64 k ∧ sn = .int .i64 n ∧ k ≤ len ∧ 0 ≤ n ∧ n ≤ 2 * most + 1 ∧ Hid (k + rest.len = len ∧ rest.go n most = t.go 0 most ∧ rest.count ≤ t.count) ∧ Items w.heap.size w b (off + k * 8) rest ∧ wr = w)
        (fun _ si _ => len - (intOf si).toNat)
      case atStart => exact ⟨0, 0, t, rfl, rfl, Nat.zero_le _, by omega, by omega, ⟨by have := HL1.out; omega, rfl, Nat.le_refl _⟩, by simpa using hi, rfl⟩
      case round =>
        obtain ⟨k, n, rest, rfl, rfl, hk, hn0, hn1, HR, hir, rfl⟩ := hrel
        cases rest with
        | nil =>
          obtain ⟨r1, r2, _⟩ := HR.out
          have hkl : k = len := by simpa [Il.len] using r1
          subst hkl
          have R2 : Hid (n = t.go 0 most) := by show _ = _; rw [← r2]; rfl
          clear r2
          go_wp2
          go_ret
          exact ⟨ret_int R2.out, rfl⟩
        | cons x tl te r =>
          obtain ⟨hbn, hx, ⟨c0, c1, c2, c3, c4, c5, c6, c7⟩, ht, hLl, hLe, hir'⟩ := hir
          have hlt : k < len := by have := HR.out.1; simp only [Il.len] at this; omega
          by_cases hnm : n ≤ most
          · have hcnt : tl.count + te.count + 1 ≤ m + 1 := by have h1 := HR.out.2.2; have h2 := HM.out; simp only [Il.count] at h1; omega
            have htn := hx.tn
            have hLn := hx.ln
            have hEn := hx.en
            have hTb := tagsMin_bounds x most hm0
            rcases (Int.lt_or_le most (x.tags.length : Int)).symm with hle | hle
            · have hT : min (x.tags.length : Int) most = (x.tags.length : Int) := by omega
              have HT : Hid (tagsMin x most = (x.tags.length : Int)) := hid (show tagsMin x most = _ from hT)
              rw [HT.out] at hTb
              obtain ⟨tb0, tb1, _⟩ := hTb
              by_cases c1 : n + 1 + (x.tags.length : Int) ≤ most
              · have ih1 := ih tl x.la x.ln x.lc (most - (n + 1 + (x.tags.length : Int))) wr (by omega) hLl hLn (by omega) (by omega)
                have b1 := go_bounds tl 0 (most - (n + 1 + (x.tags.length : Int))) (by omega) (by omega) (by omega)
                obtain ⟨g1, hg1⟩ : ∃ g1, tl.go 0 (most - (n + 1 + (x.tags.length : Int))) = g1 := ⟨_, rfl⟩
                rw [hg1] at ih1 b1
                obtain ⟨b10, b11, _⟩ := b1
                have G1 := hid hg1
                have I1 := hid ih1
                clear hg1 ih1
                by_cases c2 : n + 1 + (x.tags.length : Int) + g1 ≤ most
                · have ih2 := ih te x.ea x.en x.ec (most - (n + 1 + (x.tags.length : Int) + g1)) wr (by omega) hLe hEn (by omega) (by omega)
                  have b2 := go_bounds te 0 (most - (n + 1 + (x.tags.length : Int) + g1)) (by omega) (by omega) (by omega)
                  obtain ⟨g2, hg2⟩ : ∃ g2, te.go 0 (most - (n + 1 + (x.tags.length : Int) + g1)) = g2 := ⟨_, rfl⟩
                  rw [hg2] at ih2 b2
                  obtain ⟨b20, b21, _⟩ := b2
                  have G2 := hid hg2
                  have I2 := hid ih2
                  clear hg2 ih2
                  go_wp2_with fail
                  refine I1.out.mono ?_
                  clear I1
                  rintro e1 w1 ⟨rfl, rfl⟩
                  go_wp2_with fail
                  refine I2.out.mono ?_
                  clear I2
                  rintro e1 w1 ⟨rfl, rfl⟩
                  go_wp2
                  go_roundw
                  case rel =>
                    refine ⟨k + 1, n + 1 + (x.tags.length : Int) + g1 + g2, r, by simp, by first | rfl | simp, by omega, by omega, by omega, ⟨by have := HR.out.1; simp only [Il.len] at this; omega, ?_, by have := HR.out.2.2; simp only [Il.count] at this; omega⟩, by rw [show off + (k + 1) * 8 = off + k * 8 + 8 by omega]; exact hir', by first | rfl | trivial⟩
                    rw [← HR.out.2.1, go_cons x tl te r n most hnm]
                    rw [HT.out, G1.out, next1_pos c1, G2.out, next1_pos c2]
                  case measure => simp [intOf]; omega

                · have c2' : most < n + 1 + (x.tags.length : Int) + g1 := by omega
                  clear ih
                  go_wp2_with fail
                  refine I1.out.mono ?_
                  clear I1
                  rintro e1 w1 ⟨rfl, rfl⟩
                  go_wp2
                  go_roundw
                  case rel =>
                    refine ⟨k + 1, n + 1 + (x.tags.length : Int) + g1, r, by simp, by first | rfl | simp, by omega, by omega, by omega, ⟨by have := HR.out.1; simp only [Il.len] at this; omega, ?_, by have := HR.out.2.2; simp only [Il.count] at this; omega⟩, by rw [show off + (k + 1) * 8 = off + k * 8 + 8 by omega]; exact hir', by first | rfl | trivial⟩
                    rw [← HR.out.2.1, go_cons x tl te r n most hnm]
                    rw [HT.out, G1.out, next1_pos c1, next1_neg (n := n + 1 + (x.tags.length : Int) + g1) (by omega)]
                  case measure => simp [intOf]; omega

              · have c1' : most < n + 1 + (x.tags.length : Int) := by omega
                clear ih
                go_wp2
                go_roundw
                case rel =>
                  refine ⟨k + 1, n + 1 + (x.tags.length : Int), r, by simp, by first | rfl | simp, by omega, by omega, by omega, ⟨by have := HR.out.1; simp only [Il.len] at this; omega, ?_, by have := HR.out.2.2; simp only [Il.count] at this; omega⟩, by rw [show off + (k + 1) * 8 = off + k * 8 + 8 by omega]; exact hir', by first | rfl | trivial⟩
                  rw [← HR.out.2.1, go_cons x tl te r n most hnm]
                  rw [HT.out, next1_neg (n := n + 1 + (x.tags.length : Int)) (by omega), next1_neg (n := n + 1 + (x.tags.length : Int)) (by omega)]
                case measure => simp [intOf]; omega
            · have hT : min (x.tags.length : Int) most = most := by omega
              have HT : Hid (tagsMin x most = most) := hid (show tagsMin x most = _ from hT)
              rw [HT.out] at hTb
              obtain ⟨tb0, tb1, _⟩ := hTb
              have c1 : ¬ n + 1 + most ≤ most := by omega
              have c1' : most < n + 1 + most := by omega
              clear ih
              go_wp2
              go_roundw
              case rel =>
                refine ⟨k + 1, n + 1 + most, r, by simp, by first | rfl | simp, by omega, by omega, by omega, ⟨by have := HR.out.1; simp only [Il.len] at this; omega, ?_, by have := HR.out.2.2; simp only [Il.count] at this; omega⟩, by rw [show off + (k + 1) * 8 = off + k * 8 + 8 by omega]; exact hir', by first | rfl | trivial⟩
                rw [← HR.out.2.1, go_cons x tl te r n most hnm]
                rw [HT.out, next1_neg (n := n + 1 + most) (by omega), next1_neg (n := n + 1 + most) (by omega)]
              case measure => simp [intOf]; omega
          · have R2 : Hid (n = t.go 0 most) := by show _ = _; rw [← HR.out.2.1, go_over _ _ _ (by omega)]
            have hnm' : most < n := by omega
            go_wp2
            go_ret
            exact ⟨ret_int R2.out, rfl⟩
end Go.Proofs.YtiadgkdkjinnjaaGreatDoor.Instr

/-
  What the rows list is what the walks ask: the table of names.
-/
namespace Go.Proofs.YtiadgkdkjinnjaaGreatDoor
open Go.RowKit Go.Lib

theorem ownK : ownKnob Tryz.prog.godebug = none := by kernel_rfl
theorem laidOutK : laidOutB Tryz.prog = true := by kernel_rfl
theorem names_eq : (Rows.laid_gimlet_instr_names : DataW Unit) = .agg (Instr.nameTab.map fun s => .lit (.string (s.map fun z => UInt8.ofNat z.toNat))) := by kernel_rfl
theorem cells_of_strs {H : Type} {enc : TypeId × Value → H} {P : Program} {w : World} {base : Nat} {sp : Nat → Bool} {held : Bool} {fuel : Nat} {t e : TypeId} {n : Nat} {cs : List Value} {ss : List (List UInt8)} {p : List MemPlace}
    (ht : P.underlying t = some (.array n e)) (he : P.underlying e = some .string) (hce : P.cellsOf e = 1) (hct : P.cellsOf t = n)
    (h : DataW.trod enc P w base sp held fuel t cs = some (.agg (ss.map fun s => .lit (.string s)), p)) : cs = ss.map fun s => Value.string ⟨s.toArray⟩ := by
  cases fuel with
  | zero => simp [DataW.trod] at h
  | succ fuel =>
    simp only [DataW.trod, ht, hce, hct, Nat.mul_one] at h
    split at h
    · rename_i hl
      obtain ⟨xs, hm, hx⟩ := Option.map_eq_some_iff.1 h
      have hxs : xs.map (·.1) = ss.map fun s => (DataW.lit (.string s) : DataW H) := by
        have := congrArg Prod.fst hx
        simpa using this
      have hxl : xs.length = n := by simpa using mapM_length hm
      have hzl : ss.length = n := by
        have := congrArg List.length hxs
        simp at this
        omega
      apply List.ext_getElem?
      intro i
      by_cases hi : i < n
      · obtain ⟨b, hb, hf⟩ := mapM_at hm i i (by simp [hi])
        obtain ⟨z, hc, rfl, _⟩ := DataW.trod_string he hf
        have h1 : cs[i]? = some (.string z) := by
          have := congrArg (·[0]?) hc
          simpa [List.getElem?_take, List.getElem?_drop] using this
        have h2 : (xs.map (·.1))[i]? = some (DataW.lit (.string z.data.toList) : DataW H) := by simp [hb]
        rw [hxs] at h2
        simp only [List.getElem?_map, Option.map_eq_some_iff, DataW.lit.injEq, Lit.string.injEq] at h2
        obtain ⟨z', hz', he'⟩ := h2
        simp [h1, hz', he']
      · rw [List.getElem?_eq_none (by omega), List.getElem?_eq_none (by simp; omega)]
    · cases h
theorem nams_of {W : World} {l : List (String × DataW Unit)} (hm : ("gimlet/instr.names", Rows.laid_gimlet_instr_names) ∈ l) (hL : laidMet Tryz.prog l W) : Instr.Nams W := by
  obtain ⟨g, t, cs, fuel, p, hg, hty, hvar, hd⟩ := Lib.laidMet.reads hL hm
  obtain rfl := Option.some.inj ((show Tryz.prog.globalNamed "gimlet/instr.names" = some 0 by kernel_rfl).symm.trans hg)
  obtain rfl := Option.some.inj ((show (Tryz.prog.globals[0]?).map (·.type) = some 222 by kernel_rfl).symm.trans hty)
  rw [names_eq] at hd
  have hcs := cells_of_strs (ss := Instr.nameTab.map fun s => s.map fun z => UInt8.ofNat z.toNat) Tryz.underlying222 Tryz.underlying9 (by kernel_rfl) (by kernel_rfl) (by rw [List.map_map]; exact hd)
  have hlen : Instr.nameTab.length = 121 := by decide +kernel
  intro j hj
  rw [World.var?_cell hg hvar j, ← Array.getElem?_toList, hcs]
  simp [List.getD, hlen, hj, strOfNums]
end Go.Proofs.YtiadgkdkjinnjaaGreatDoor
