import Derived.Test.YtepbjkkakfpjgaaGreatDoorBun04
import Derived.Test.YtepbjkkakfpjgaaGreatDoorBun05
import Derived.Test.YtepbjkkakfpjgaaGreatDoorRows
import Derived.Test.YtepbjkkakfpjgaaGreatDoorProg
import Derived.Test.YtepbjkkakfpjgaaGreatDoorBun01
import Derived.Test.YtepbjkkakfpjgaaGreatDoorBun03
import Derived.Shelf.Abstract
import Derived.Shelf.RegionOpen
import Derived.OwnWalkIn
import Derived.TacticsInMore
import Derived.LoopNIn
import Derived.LoopIn
import Derived.Laws.Tables
import Derived.Laws.AppendOwnNone
import Derived.Deep.WholeRow
import Derived.ProofKit
import Derived.OpenShut
import Derived.ShutString
import Derived.ChangeOld
import Derived.Below
import Derived.SizedLaws
import Derived.Lib.LaidU8
import Derived.Lay
import Derived.Laws.BytesArg
/-
  BODY: Get, by contract.
-/
namespace Go.Proofs.YtepbjkkakfpjgaaGreatDoor.Body
open Go.RowKit Go.Proofs.YtepbjkkakfpjgaaGreatDoor.Instr
open Go.Proofs.YtepbjkkakfpjgaaGreatDoor.Kind (Rd numR refuseR startR numR_good numR_bounds refuseR_good getL_next startR_good)

/-- What Get tells. -/
def getP (zs : List Int) (p : Int) : Lr := listF zs 1 false 0 (startR zs p)
/-- Instructions in memory of their own. -/
structure Fresh (B : Nat) (w : World) (a : Option Addr) (n : Nat) (t : Il) : Prop where
  lst : ListAt w.heap.size w a n t
  nodup : (blkOf n a ++ t.foot).Nodup
  low : ∀ q ∈ blkOf n a ++ t.foot, B ≤ q
  soft : ∀ q ∈ blkOf n a ++ t.foot, Soft w q
theorem Fresh.nil (B : Nat) (w : World) : Fresh B w none 0 .nil := ⟨⟨rfl, .inl rfl⟩, by simp [blkOf, Il.foot], fun q hq => by simp [blkOf, Il.foot] at hq, fun q hq => by simp [blkOf, Il.foot] at hq⟩
theorem Fresh.touch {B : Nat} {S : Nat → Prop} {w w' : World} {a : Option Addr} {n : Nat} {t : Il} (h : Fresh B w a n t) (ht : Touch S w w') (hs : ∀ q ∈ blkOf n a ++ t.foot, ¬ S q) : Fresh B w' a n t := ⟨ListAt.more ht.size (h.lst.touch ht hs), h.nodup, h.low, fun q hq => (h.soft q hq).touch ht (hs q hq)⟩
theorem Fresh.mono {B B' : Nat} {w : World} {a : Option Addr} {n : Nat} {t : Il} (h : Fresh B w a n t) (hb : B' ≤ B) : Fresh B' w a n t := ⟨h.lst, h.nodup, fun q hq => Nat.le_trans hb (h.low q hq), h.soft⟩
theorem Fresh.below {B : Nat} {w w' : World} {a : Option Addr} {n : Nat} {t : Il} (h : Fresh B w a n t) (hb : Below w.heap.size w w') : Fresh B w' a n t := h.touch (S := fun _ => False) (.of_below hb) (fun _ _ h => h)
def GotI (w : World) (q : Int) (s : Rd) (T : Il) (e : Ending) (w' : World) : Prop :=
  ∃ a n c t, e = .returned (.tuple #[.slice a n c, .int .i64 q, .agg #[.int .i64 s.2.1, .int .i64 s.2.2]]) ∧ Below w.heap.size w w' ∧ Fresh w.heap.size w' a n t ∧ t.bare = T

theorem get_touch (w : World) (g : Nat) (u v : Value) : Touch (fun j => j = g) w (((w.setCell ⟨g, 0, none⟩ u).setCell ⟨g, 1, none⟩ v).drew) := by
  have step : ∀ (a b : World) (q : Addr) (v : Value), q.block = g → Touch (fun j => j = g) a b → Touch (fun j => j = g) a (b.setCell q v) := fun a b q v hq h => h.setCell (.inl hq) v
  exact (step _ _ _ _ rfl (step _ _ _ _ rfl (Touch.refl _ w))).trans (Touch.of_below (Below.refl _ _).drew)
theorem get_end {w w2 : World} (h : Below w.heap.size w w2) (u v : Value) : Below w.heap.size w (((w2.setCell ⟨w.heap.size, 0, none⟩ u).setCell ⟨w.heap.size, 1, none⟩ v).drew) :=
  h.trans ((get_touch w2 w.heap.size u v).below h.size (fun j hj => by have : j = w.heap.size := hj; omega))

/-- Get, in one piece. -/
def getQ (zs : List Int) (p : Int) : Int × Rd × Il := if (getP zs p).s.2.1 = 0 then ((getP zs p).s.1, ((getP zs p).s.1, 0, 0), (getP zs p).t) else (0, (getP zs p).s, .nil)
end Go.Proofs.YtepbjkkakfpjgaaGreatDoor.Body

/-
  INSTR: the range function: descend, the function that within hands back, within.
-/
namespace Go.Proofs.YtepbjkkakfpjgaaGreatDoor.Instr
open Go.RowKit Go.Shelf

attribute [local go_sem] Oper.semAt_some

theorem RoundIn.anyD {m m' : Nat} {P : Program} {l : Nat} {f : FuncId} {tmps : Array Value} {assign body : Code} {w : World} {R : Ending → World → Prop}
    (h : RoundIn Fence.wide m P l f tmps assign body w R) : RoundIn Fence.wide m' P l f tmps assign body w R := ⟨h.1, fun c cs _ => h.2 c cs (fun d h => by cases h)⟩
theorem YieldAt.anyD {m m' : Nat} {P : Program} {l : Nat} {args : Array Value} {W : World} {R : Ending → World → Prop} (h : YieldAt Fence.wide m P l args W R) : YieldAt Fence.wide m' P l args W R := by
  obtain ⟨fn, tmps, assign, body, hy, hR⟩ := h
  exact ⟨fn, tmps, assign, body, hy, RoundIn.anyD hR⟩

def encs (p : Int × Ix) : Array Value := #[.int .i64 p.1, .agg p.2.vals]

set_option maxHeartbeats 4000000 in
set_option maxRecDepth 100000 in
theorem descend_in (l n₀ n₁ N : Nat) (J Jx : List (Int × Ix) → World → Prop) (B : Nat) (hJ : AbidesFrom B J) (hn : n₀ ≤ n₁)
    (hY : ∀ m pre x W, J pre W → pre.length < N → n₁ ≤ W.heap.size → YieldAt Fence.wide m Tryz.prog l (encs x) W fun e W' =>
      (e = .returned (.bool true) ∧ J (pre ++ [x]) W' ∧ Kept n₀ n₁ W W') ∨ (e = .returned (.bool false) ∧ Jx (pre ++ [x]) W')) :
    ∀ (m : Nat) (t : Il) (n : Nat) (a : Option Addr) (len cap : Nat) (d : Int) (pre : List (Int × Ix)) (W : World), t.count ≤ m → ListAt n₀ W a len t → J pre W → pre.length + t.count ≤ N → n₁ ≤ W.heap.size → 0 ≤ d → d + t.deep ≤ 4611686018427387904 → len ≤ 140737488351232 →
      CallsIn Fence.wide n Tryz.prog 187 #[.slice a len cap, .int .i64 d, .func (.yield l) #[] #[]] W fun e W' =>
        (e = .returned (.bool true) ∧ J (pre ++ t.walk d) W' ∧ Kept n₀ n₁ W W') ∨ (e = .returned (.bool false) ∧ ∃ q, q <+: t.walk d ∧ Jx (pre ++ q) W') := by
  intro m
  induction m with
  | zero =>
    intro t n a len cap d pre W hm hl hJ0 hN hW hd0 hd1 hlen
    cases t with
    | cons x l e r => simp only [Il.count] at hm; omega
    | nil =>
      have h0 : len = 0 := hl.1.symm
      subst h0
      clear hm hl hN hd1
      refine callsIn_of_wp Tryz.func187 rfl trivial ?_ rfl
      simp only [Tryz.ntmps187, List.size_toArray, List.length_cons, List.length_nil, Nat.reduceAdd, Nat.reduceSub, Array.replicate_succ, Array.replicate_zero, List.push_toArray, List.append_toArray, List.nil_append, List.cons_append]
      gi_wp2
      gi_loopw [11] (fun i wr => i = .int .i64 0 ∧ J pre wr ∧ Kept n₀ n₁ W wr) (fun _ _ => 0)
      case atStart => exact ⟨rfl, hJ0, Kept.refl _ _ _⟩
      case round =>
        obtain ⟨rfl, hJs, hk⟩ := hrel
        gi_wp2
        go_ret
        exact .inl ⟨rfl, by simpa [Il.walk] using hJs, hk⟩
  | succ m ih =>
    intro t n a len cap d pre W hm hl hJ0 hN hW hd0 hd1 hlen
    have hA : ∀ s W, J s W → ∀ o, J s (W.alloc o) := fun s W h o => hJ s W _ none h (World.grownBy_alloc W o none) (fun r e => by cases e)
    obtain ⟨hl1, hl2⟩ := hl
    have HT := hid hm
    have HN := hid hN
    have HD := hid hd1
    have HL := hid hl1
    clear hm hN hd1 hl1
    rcases hl2 with rfl | ⟨b, off, rfl, hi⟩
    · have h0 : len = 0 := HL.out.symm
      subst h0
      refine callsIn_of_wp Tryz.func187 rfl trivial ?_ rfl
      simp only [Tryz.ntmps187, List.size_toArray, List.length_cons, List.length_nil, Nat.reduceAdd, Nat.reduceSub, Array.replicate_succ, Array.replicate_zero, List.push_toArray, List.append_toArray, List.nil_append, List.cons_append]
      gi_wp2
      gi_loopw [11] (fun i wr => i = .int .i64 0 ∧ J pre wr ∧ Kept n₀ n₁ W wr) (fun _ _ => 0)
      case atStart => exact ⟨rfl, hJ0, Kept.refl _ _ _⟩
      case round =>
        obtain ⟨rfl, hJs, hk⟩ := hrel
        gi_wp2
        go_ret
        exact .inl ⟨rfl, by simpa [Il.walk] using hJs, hk⟩
    · refine callsIn_of_wp Tryz.func187 rfl trivial ?_ rfl
      simp only [Tryz.ntmps187, List.size_toArray, List.length_cons, List.length_nil, Nat.reduceAdd, Nat.reduceSub, Array.replicate_succ, Array.replicate_zero, List.push_toArray, List.append_toArray, List.nil_append, List.cons_append]
      gi_wp2
      gi_loopw [11] (fun i wr => ∃ (k : Nat) (done : List (Int × Ix)) (rest : Il), i = .int .i64 k ∧ k ≤ len ∧ Hid (k + rest.len = len ∧ done ++ rest.walk d = t.walk d ∧ rest.count ≤ t.count ∧ rest.deep ≤ t.deep) ∧ Items n₀ wr b (off + k * 8) rest ∧ J (pre ++ done) wr ∧ Kept n₀ n₁ W wr)
        (fun i _ => len - (intOf i).toNat)
      case atStart => exact ⟨0, [], t, rfl, Nat.zero_le _, ⟨by have := HL.out; omega, rfl, Nat.le_refl _, Nat.le_refl _⟩, by simpa using hi, by simpa using hJ0, Kept.refl _ _ _⟩
      case round =>
        obtain ⟨k, done, rest, rfl, hk, HR, hir, hJs, hkw⟩ := hrel
        cases rest with
        | nil =>
          obtain ⟨r1, r2, _, _⟩ := HR.out
          have hkl : k = len := by simpa [Il.len] using r1
          subst hkl
          gi_wp2
          go_ret
          exact .inl ⟨rfl, by rw [← r2]; simpa [Il.walk] using hJs, hkw⟩
        | cons x tl te r =>
          obtain ⟨hbn, hx, ⟨c0, c1, c2, c3, c4, c5, c6, c7⟩, ht, hLl, hLe, hir'⟩ := hir
          have hlt : k < len := by have := HR.out.1; simp only [Il.len] at this; omega
          obtain ⟨fn, tmps, assign, body, hy, hR⟩ := hY (n - 1) (pre ++ done) (d, x) (wr.alloc (.cells x.vals 126)) (hA _ _ hJs _) (by
            have h1 := congrArg List.length HR.out.2.1
            have h2 := walk_length t d
            have h3 := HN.out
            simp only [List.length_append, Il.walk, List.length_cons] at h1 ⊢
            omega) (by have := hkw.below.size; simp; omega)
          simp only [encs, Ix.vals] at hy hR
          have hbx := At.made x wr
          have hg : n₁ ≤ wr.heap.size := Nat.le_trans hW hkw.below.size
          have hw1 : IntKind.i64.wrap (d + 1) = d + 1 := by have := HD.out; rw [IntKind.wrap_i64]; omega
          have hB1 : Kept n₀ n₁ W (wr.alloc (.cells x.vals 126)) := hkw.alloc _ (Nat.le_trans hn hg)
          have hcounts : tl.count + te.count + r.count + 1 ≤ m + 1 ∧ tl.deep + 1 ≤ t.deep ∧ te.deep + 1 ≤ t.deep := by
            have h1 := HR.out.2.2
            have h2 := HT.out
            simp only [Il.count, Il.deep] at h1
            omega
          have HC := hid hcounts
          clear hcounts
          have hlens : (pre ++ done).length + 1 + tl.count + te.count + r.count ≤ N := by
            have h1 := congrArg List.length HR.out.2.1
            have h2 := HN.out
            simp only [List.length_append, Il.walk, List.length_cons, walk_length] at h1 ⊢
            omega
          have HLN := hid hlens
          clear hlens
          gi_wp2_with fail
          refine ⟨fun h => (by cases h), ?_⟩
          refine hR.mono ?_
          clear hR hy
          rintro e W2 (⟨rfl, hJ2, hk2⟩ | ⟨rfl, hx2⟩)
          · have hb2 := hbx.kept hk2 hg
            obtain ⟨d0, d1, d2, d3, d4, d5, d6, d7⟩ := hb2
            gi_wp2_with fail
            refine ⟨trivial, fun h => (by cases h), ?_⟩
            have hL2 : ListAt n₀ W2 x.la x.ln tl := ListAt.below (((Below.refl _ wr).alloc (Nat.le_trans hn hg) _).trans hk2.below) hLl
            refine (ih tl (n - 1) x.la x.ln x.lc (d + 1) (pre ++ done ++ [(d, x)]) W2 (by have := HC.out; omega) hL2 hJ2 (by have := HLN.out; simp only [List.length_append, List.length_cons, List.length_nil] at this ⊢; omega)
              (by have := hk2.below.size; simp at this; omega) (by omega) (by have := HC.out; have := HD.out; omega) hx.ln).mono ?_
            rintro e W3 (⟨rfl, hJ3, hk3⟩ | ⟨rfl, q, hq, hx3⟩)
            · have hb3 := hbx.kept (hk2.trans hk3) hg
              clear d0 d1 d2 d3 d4 d5 d6 d7
              obtain ⟨d0, d1, d2, d3, d4, d5, d6, d7⟩ := hb3
              gi_wp2_with fail
              refine ⟨trivial, fun h => (by cases h), ?_⟩
              have hL3 : ListAt n₀ W3 x.ea x.en te := ListAt.below ((((Below.refl _ wr).alloc (Nat.le_trans hn hg) _).trans hk2.below).trans hk3.below) hLe
              refine (ih te (n - 1) x.ea x.en x.ec (d + 1) (pre ++ done ++ [(d, x)] ++ tl.walk (d + 1)) W3 (by have := HC.out; omega) hL3 hJ3 (by have := HLN.out; simp only [List.length_append, List.length_cons, List.length_nil, walk_length] at this ⊢; omega)
                (by have := (hk2.trans hk3).below.size; simp at this; omega) (by omega) (by have := HC.out; have := HD.out; omega) hx.en).mono ?_
              rintro e W4 (⟨rfl, hJ4, hk4⟩ | ⟨rfl, q, hq, hx4⟩)
              · clear d0 d1 d2 d3 d4 d5 d6 d7
                gi_wp2
                have hkz : Kept n₀ n₁ W W4 := hB1.trans ((hk2.trans hk3).trans hk4)
                go_roundw
                case rel =>
                  refine ⟨k + 1, done ++ [(d, x)] ++ tl.walk (d + 1) ++ te.walk (d + 1), r, by simp, by omega, ?_, ?_, ?_, hkz⟩
                  · have h1 := HR.out
                    refine ⟨by simp only [Il.len] at h1; omega, ?_, by simp only [Il.count] at h1; omega, by simp only [Il.deep] at h1; omega⟩
                    rw [← h1.2.1]; simp [Il.walk, List.append_assoc]
                  · have := Items.below ((((((Below.refl _ wr).alloc (Nat.le_trans hn hg) (.cells x.vals 126)).trans hk2.below).trans hk3.below)).trans hk4.below) hir'
                    rw [show off + (k + 1) * 8 = off + k * 8 + 8 by omega]
                    exact this
                  · simpa [List.append_assoc] using hJ4
                case measure => simp [intOf]; omega
              · gi_wp2
                go_ret
                refine .inr ⟨rfl, done ++ [(d, x)] ++ tl.walk (d + 1) ++ q, ?_, by simpa [List.append_assoc] using hx4⟩
                rw [← HR.out.2.1]
                obtain ⟨z, hz⟩ := hq
                exact ⟨z ++ r.walk d, by rw [Il.walk, ← hz]; simp [List.append_assoc]⟩
            · gi_wp2
              refine ⟨trivial, ?_⟩
              gi_wp2
              go_ret
              refine .inr ⟨rfl, done ++ [(d, x)] ++ q, ?_, by simpa [List.append_assoc] using hx3⟩
              rw [← HR.out.2.1]
              obtain ⟨z, hz⟩ := hq
              exact ⟨z ++ (te.walk (d + 1) ++ r.walk d), by rw [Il.walk, ← hz]; simp [List.append_assoc]⟩
          · gi_wp2
            refine ⟨trivial, ?_⟩
            gi_wp2
            refine ⟨trivial, ?_⟩
            gi_wp2
            go_ret
            refine .inr ⟨rfl, done ++ [(d, x)], ?_, by simpa [List.append_assoc] using hx2⟩
            rw [← HR.out.2.1]
            exact ⟨tl.walk (d + 1) ++ (te.walk (d + 1) ++ r.walk d), by simp [Il.walk, List.append_assoc]⟩

set_option maxHeartbeats 1000000 in
/-- The function that within hands back. -/
theorem within_stops (n n₀ n₁ Bs : Nat) (a : Option Addr) (len cap : Nat) (t : Il) (w : World) (hBs : Bs < w.heap.size) (hn : n₀ ≤ n₁) (hw : n₁ ≤ w.heap.size)
    (hc : w.cell? ⟨Bs, 0, none⟩ = some (.slice a len cap)) (hl : ListAt n₀ w a len t) (hd : t.deep ≤ 4611686018427387900) (hlen : len ≤ 140737488351232) :
    SeqStopsK Fence.wide n Tryz.prog 186 #[.pointer (some ⟨Bs, 0, none⟩)] encs (Kept n₀ n₁) (fun ys => ys = t.walk 1) (fun pre => pre <+: t.walk 1) t.count w := fun l J Jx W hW hJ _ hY h0 => by
  have hc' := (hW.cell (p := ⟨Bs, 0, none⟩) hBs).trans hc
  have hp := descend_in l n₀ n₁ t.count J Jx W.heap.size hJ hn (fun m pre x W1 hj hl1 _ => YieldAt.anyD (hY pre x W1 hj hl1)) t.count t (n - 1) a len cap 1 [] W (Nat.le_refl _) (hl.below (hW.mono (Nat.le_trans hn hw))) h0 (by simp) (Nat.le_trans hw hW.size) (by omega) (by omega) hlen
  have C := hid hp
  clear hp hl hd hc hY
  refine callsIn_of_wp Tryz.func186 rfl trivial ?_ rfl
  simp only [Tryz.ntmps186, List.size_toArray, List.length_cons, List.length_nil, Nat.reduceAdd, Nat.reduceSub, Array.replicate_succ, Array.replicate_zero, List.push_toArray, List.append_toArray, List.nil_append, List.cons_append]
  gi_wp2_with fail
  refine ⟨trivial, fun h => (by cases h), ?_⟩
  refine C.out.mono ?_
  clear C
  rintro e W1 (⟨rfl, hJ1, _⟩ | ⟨rfl, q, hq, hx⟩)
  · gi_wp2
    go_end0
    exact ⟨⟨_, rfl⟩, .inl ⟨_, rfl, by simpa using hJ1⟩⟩
  · gi_wp2
    go_end0
    exact ⟨⟨_, rfl⟩, .inr ⟨q, hq, by simpa using hx⟩⟩
theorem within_in (n : Nat) (a : Option Addr) (len cap : Nat) (w : World) :
    CallsIn Fence.wide n Tryz.prog 137 #[.slice a len cap] w fun e w' => e = .returned (.func (.func 186) #[] #[.pointer (some ⟨w.heap.size, 0, none⟩)]) ∧ w' = w.alloc (.cells #[.slice a len cap] 45) := by
  refine callsIn_of_wp Tryz.func137 rfl trivial ?_ rfl
  simp only [Tryz.ntmps137, List.size_toArray, List.length_cons, List.length_nil, Nat.reduceAdd, Nat.reduceSub, Array.replicate_succ, Array.replicate_zero, List.push_toArray, List.append_toArray, List.nil_append, List.cons_append]
  gi_wp2
  go_ret
  exact ⟨rfl, rfl⟩
end Go.Proofs.YtepbjkkakfpjgaaGreatDoor.Instr

/-
  INSTR: new cells, for loops over the range function.
-/
namespace Go.Proofs.YtepbjkkakfpjgaaGreatDoor.Instr
open Go.RowKit Go.Shelf

theorem cell_new (W : World) (v : Value) (t : TypeId) : (W.alloc (.cells #[v] t)).cell? ⟨W.heap.size, 0, none⟩ = some v ∧ (W.alloc (.cells #[v] t)).frozen? ⟨W.heap.size, 0, none⟩ = false := by
  constructor <;> go_simp
theorem cell_alloc' {W : World} {a : Addr} {v : Value} (o : Obj) (h : W.cell? a = some v) : (W.alloc o).cell? a = some v := cell_kept h (World.grownBy_alloc W o none) (fun r e => by cases e)
theorem frozen_alloc' {W : World} {a : Addr} {v : Value} (o : Obj) (h : W.cell? a = some v) (hf : W.frozen? a = false) : (W.alloc o).frozen? a = false := (frozen_kept h (World.grownBy_alloc W o none) (fun r e => by cases e)).trans hf

end Go.Proofs.YtepbjkkakfpjgaaGreatDoor.Instr

/-
  INSTR: Check by contract: a loop over the range function that may return from within.
-/
namespace Go.Proofs.YtepbjkkakfpjgaaGreatDoor.Instr
open Go.RowKit Go.Shelf

attribute [local go_sem] Oper.semAt_some

theorem lawful_any (x : Ix) (w : World) (hT : Nams w) : Calls Tryz.prog 179 #[.agg x.vals] w fun e w' => e = .returned (.bool (lawfulP x)) ∧ Below w.heap.size w w' := by
  by_cases h : nameL x.op = []
  · have : lawfulP x = false := by simp [lawfulP, h]
    rw [this]
    exact lawful_noname x w hT h
  · have : lawfulP x = (decide (overP x = 0) && (decide (x.res = 0) || decide (x.res = 1))) := by simp [lawfulP, h]
    rw [this]
    exact lawful_name x w hT h
def manyP (l : List (Int × Ix)) : Bool := decide (262144 < l.length) || (l.any fun p => decide (16384 < p.2.tags.length)) || decide (900 < deepest l)
theorem manyP_snoc (l : List (Int × Ix)) (p : Int × Ix) : manyP (l ++ [p]) = (manyP l || (decide (262144 < l.length + 1) || (decide (16384 < p.2.tags.length) || decide (900 < p.1)))) := by
  unfold manyP
  rw [deepest_snoc]
  simp only [List.length_append, List.length_cons, List.length_nil, List.any_append, List.any_cons, List.any_nil, Bool.or_false]
  rw [Bool.eq_iff_iff]
  simp only [Bool.or_eq_true, decide_eq_true_eq]
  constructor
  · rintro ((h | h | h) | h)
    · right; left; omega
    · left; left; right; exact h
    · right; right; left; exact h
    · rcases Int.le_total (deepest l) p.1 with h1 | h1
      · right; right; right; omega
      · left; right; omega
  · rintro (((h | h) | h) | h | h | h)
    · left; left; omega
    · left; right; left; exact h
    · right; omega
    · left; left; omega
    · left; right; right; exact h
    · right; omega
theorem manyP_walk (t : Il) : manyP (t.walk 1) = decide (262144 < t.count ∨ 900 < t.deep ∨ t.tags = true) := by
  unfold manyP
  rw [walk_length, walk_tags, deepest_walk, Bool.eq_iff_iff]
  simp only [Bool.or_eq_true, decide_eq_true_eq]
  constructor
  · rintro ((h | h) | h)
    · exact .inl h
    · exact .inr (.inr h)
    · exact .inr (.inl (by omega))
  · rintro (h | h | h)
    · exact .inl (.inl h)
    · exact .inr (by omega)
    · exact .inl (.inr h)

def allP (l : List (Int × Ix)) : Bool := l.all fun p => lawfulP p.2
theorem allP_snoc (l : List (Int × Ix)) (p : Int × Ix) : allP (l ++ [p]) = (allP l && lawfulP p.2) := by simp [allP, List.all_append]
theorem allP_walk (t : Il) (d : Int) : allP (t.walk d) = t.all := walk_all t d
theorem keepsFrom_below {B : Nat} {w w' : World} (h : Below w.heap.size w w') : KeepsFrom B w w' := ⟨h.size, fun k _ _ hk _ => (h.block k (Array.getElem?_eq_some_iff.1 hk).1).trans hk⟩
theorem At.own {x : Ix} {g : Nat} {A B : World} {row : Option Nat} (h : At x g A) (hg : A.grownBy B row) (hr : ∀ r, row = some r → ∃ o : Obj, A.heap[r]? = some o ∧ o.isCells = false) : At x g B :=
  ⟨cell_kept h.c0 hg hr, cell_kept h.c1 hg hr, cell_kept h.c2 hg hr, cell_kept h.c3 hg hr, cell_kept h.c4 hg hr, cell_kept h.c5 hg hr, cell_kept h.c6 hg hr, cell_kept h.c7 hg hr⟩

/-- What the loop of Check holds in its own cells: result, count, many. -/
structure Chk (g : Nat) (r : Int) (n : Int) (m : Bool) (W : World) : Prop where
  res : W.cell? ⟨g, 0, none⟩ = some (.int .i64 r)
  num : W.cell? ⟨g + 1, 0, none⟩ = some (.int .i64 n)
  many : W.cell? ⟨g + 2, 0, none⟩ = some (.bool m)
  fres : W.frozen? ⟨g, 0, none⟩ = false
  fnum : W.frozen? ⟨g + 1, 0, none⟩ = false
  fmany : W.frozen? ⟨g + 2, 0, none⟩ = false
theorem Chk.own {g : Nat} {r n : Int} {m : Bool} {A B : World} {row : Option Nat} (h : Chk g r n m A) (hg : A.grownBy B row) (hr : ∀ r, row = some r → ∃ o : Obj, A.heap[r]? = some o ∧ o.isCells = false) : Chk g r n m B :=
  ⟨cell_kept h.res hg hr, cell_kept h.num hg hr, cell_kept h.many hg hr, (frozen_kept h.res hg hr).trans h.fres, (frozen_kept h.num hg hr).trans h.fnum, (frozen_kept h.many hg hr).trans h.fmany⟩
theorem Chk.below {g : Nat} {r n : Int} {m : Bool} {A B : World} (h : Chk g r n m A) (hb : Below A.heap.size A B) : Chk g r n m B :=
  have f : ∀ p v, A.cell? p = some v → A.frozen? p = false → B.frozen? p = false := fun p _ hc hf => (hb.frozen (World.block_lt_of_cell? A p hc)).trans hf
  ⟨keep hb h.res, keep hb h.num, keep hb h.many, f _ _ h.res h.fres, f _ _ h.num h.fnum, f _ _ h.many h.fmany⟩

theorem Chk.next {g : Nat} {r n n' n2 : Int} {m m' m2 : Bool} {A : World} (h : Chk g r n m A) (hn : n' = n2) (hm : m' = m2) : Chk g r n' m' ((A.setCell ⟨g + 1, 0, none⟩ (.int .i64 n2)).setCell ⟨g + 1 + 1, 0, none⟩ (.bool m2)) := by
  obtain ⟨r1, r2, r3, f1, f2, f3⟩ := h
  subst hn hm
  constructor <;> simp [go_sem, *]

set_option maxRecDepth 100000 in
set_option maxHeartbeats 4000000 in
theorem Check_any (a : Option Addr) (len cap : Nat) (t : Il) (w : World) (hT : Nams w) (hl : ListAt w.heap.size w a len t) (hc : t.count ≤ 4611686018427387900) (hlen : len ≤ 140737488351232) :
    Calls Tryz.prog 119 #[.slice a len cap] w fun e w' => e = .returned (.int .i64 (checkP t)) ∧ Below w.heap.size w w' := by
  have HC := hid hc
  clear hc
  refine (callsIn_wide (n := 3)).1 ?_
  refine callsIn_of_wp_marks Tryz.func119 rfl trivial ?_ rfl
  simp only [Tryz.ntmps119, List.size_toArray, List.length_cons, List.length_nil, Nat.reduceAdd, Nat.reduceSub, Array.replicate_succ, Array.replicate_zero, List.push_toArray, List.append_toArray, List.nil_append, List.cons_append]
  gi_wp2_with (refine ⟨trivial, ?_⟩; refine (within_in _ _ _ _ _).mono ?_; rintro e w' ⟨rfl, rfl⟩)
  have hS0 : Chk w.heap.size 0 0 false (((w.alloc (.cells #[.int .i64 0] 36)).alloc (.cells #[.int .i64 0] 3)).alloc (.cells #[.bool false] 4)) := by constructor <;> go_simp
  have hb := cell_new (((w.alloc (.cells #[.int .i64 0] 36)).alloc (.cells #[.int .i64 0] 3)).alloc (.cells #[.bool false] 4)) (.slice a len cap) 45
  have hS1 := hS0.below ((Below.refl _ _).alloc (Nat.le_refl _) (.cells #[.slice a len cap] 45))
  have hB0 : Below w.heap.size w ((((w.alloc (.cells #[.int .i64 0] 36)).alloc (.cells #[.int .i64 0] 3)).alloc (.cells #[.bool false] 4)).alloc (.cells #[.slice a len cap] 45)) := thenA (thenA (thenA (thenA (Below.refl _ _) _) _) _) _
  have hsz : ((((w.alloc (.cells #[.int .i64 0] 36)).alloc (.cells #[.int .i64 0] 3)).alloc (.cells #[.bool false] 4)).alloc (.cells #[.slice a len cap] 45)).heap.size = w.heap.size + 4 := by simp
  have hsz3 : (((w.alloc (.cells #[.int .i64 0] 36)).alloc (.cells #[.int .i64 0] 3)).alloc (.cells #[.bool false] 4)).heap.size = w.heap.size + 1 + 1 + 1 := by simp
  rw [hsz3] at hb
  clear hS0 hsz3
  obtain ⟨W0, hW0⟩ : ∃ W0, (((w.alloc (.cells #[.int .i64 0] 36)).alloc (.cells #[.int .i64 0] 3)).alloc (.cells #[.bool false] 4)).alloc (.cells #[.slice a len cap] 45) = W0 := ⟨_, rfl⟩
  rw [hW0] at hb hS1 hB0 hsz ⊢
  clear hW0
  refine wpIn_rangeFunc_ownH rfl (by omega) (gf := 186) (lb := #[.pointer (some ⟨w.heap.size + 1 + 1 + 1, 0, none⟩)]) rfl trivial (enters_of Tryz.func186 (by kernel_rfl) rfl)
    (within_stops _ w.heap.size (w.heap.size + 4) (w.heap.size + 1 + 1 + 1) a len cap t W0 (by omega) (by omega) (by omega) hb.1 (hl.below hB0) (by have := HC.out; have := deep_le_count t; omega) hlen) (fun h k => h.trans k) (kept_b (by omega)) (Below.refl _ _) (fun _ => rfl)
    (fun pre W => (allP pre = true ∧ Chk w.heap.size 0 pre.length (manyP pre) W ∧ w.heap.size + 4 ≤ W.heap.size) ∧ Below w.heap.size w W)
    (fun c pre W => (c = .ret ∧ allP pre = false ∧ W.cell? ⟨w.heap.size, 0, none⟩ = some (.int .i64 2)) ∧ Below w.heap.size w W)
    (OwnFrom.and (Own.from (fun s A B row hs hg hr => ⟨hs.1, hs.2.1.own hg hr, Nat.le_trans hs.2.2 hg.size⟩) _) (ownFrom_below (Nat.le_refl _) (by omega)))
    (fun c => OwnFrom.and (Own.from (fun s A B row hs hg hr => ⟨hs.1, hs.2.1, cell_kept hs.2.2 hg hr⟩) _) (ownFrom_below (Nat.le_refl _) (by omega)))
    ⟨⟨rfl, by simpa [manyP, deepest] using hS1, by omega⟩, hB0⟩
    (fun x a' W => ∃ Bx, w.heap.size + 4 ≤ Bx ∧ At x.2 Bx W ∧ a' = { tmps := #[.slice a len cap, undef, .pointer (some ⟨w.heap.size, 0, none⟩), .pointer (some ⟨w.heap.size + 1, 0, none⟩), .pointer (some ⟨w.heap.size + 1 + 1, 0, none⟩), .int .i64 x.1, .pointer (some ⟨Bx, 0, none⟩), .slice a len cap, .func (.func 186) #[] #[.pointer (some ⟨w.heap.size + 1 + 1 + 1, 0, none⟩)], .int .i64 x.1, .agg x.2.vals, undef, undef, undef, undef, undef, undef, undef, undef, undef, undef, undef, undef, undef, undef, undef, undef, undef, undef, undef, undef, undef], defers := [] })
    (fun x a' _ X Y row hs hg hr => by obtain ⟨Bx, h1, h2, h3⟩ := hs; exact ⟨Bx, h1, h2.own hg (fun r e => (hr r e).2), h3⟩)
    ?assign ?body ?done ?stop
  case assign =>
    rintro l pre ⟨d, x⟩ W K ⟨⟨hla, hch, hz⟩, hB1⟩ hK
    simp only [encs, Ix.vals] at hK ⊢
    gi_wp2
    exact hK _ _ ((KeepsOthers.alloc _ _).from _) ((Kept.refl _ _ W).alloc _ (by omega)) ⟨⟨hla, hch.below ((Below.refl _ _).alloc (Nat.le_refl _) _), by simp; omega⟩, thenA hB1 _⟩ ⟨W.heap.size, hz, At.made x W, rfl⟩
  case body =>
    rintro l pre ⟨d, x⟩ a' W hl' ⟨r, hr⟩ ⟨⟨hla, hch, hz⟩, hB1⟩ ⟨Bx, hBx, bX, rfl⟩ hlt
    clear hsz hl'
    have CL := callsIn_wide (n := 3 - 1 - 1 - 1) |>.2 (lawful_any x W (hT.below hB1))
    obtain ⟨q, hq⟩ : ∃ q, lawfulP x = q := ⟨_, rfl⟩
    rw [hq] at CL
    obtain ⟨cnt, hcnt⟩ : ∃ cnt : Int, (pre.length : Int) = cnt := ⟨_, rfl⟩
    have hcb : 0 ≤ cnt ∧ cnt + 1 ≤ 4611686018427387900 := by have := HC.out; omega
    obtain ⟨m, hm⟩ : ∃ m, manyP pre = m := ⟨_, rfl⟩
    have hsn := manyP_snoc pre (d, x)
    have HSN := hid hsn
    have HQ := hid hq
    have HM := hid hm
    have HCN := hid hcnt
    have HLA := hid hla
    rw [hcnt, hm] at hch
    clear hsn hq hm hcnt hla hlt
    unfold Ix.vals at CL
    simp only [Ix.vals]
    obtain ⟨hc0, hc1⟩ := hcb
    have hch' := hch
    have bX' := bX
    obtain ⟨b0, b1, b2, b3, b4, b5, b6, b7⟩ := bX
    obtain ⟨r1, r2, r3, f1, f2, f3⟩ := hch
    gi_wp2_with fail
    refine ⟨trivial, ?_⟩
    refine (CallsIn.inRound l CL).mono ?_
    rintro e W3 ⟨rfl, hb3⟩
    clear CL b0 b1 b2 b3 b4 b5 b6 b7 r1 r2 r3 f1 f2 f3
    have hch3 := hch'.below hb3
    obtain ⟨r1, r2, r3, f1, f2, f3⟩ := hch3
    have bX3 := bX'.below hb3
    obtain ⟨b0, b1, b2, b3, b4, b5, b6, b7⟩ := bX3
    have hkf : KeepsFrom W0.heap.size W W3 := keepsFrom_below hb3
    have hkp : Kept w.heap.size (w.heap.size + 4) W W3 := Kept.of_below hb3 (by omega)
    cases q
    · gi_wp2
      exact ⟨hkf.trans ((KeepsOthers.setCell _ _ _).from _), ⟨rfl, by rw [allP_snoc, HQ.out, Bool.and_false], World.cell?_setCell_same' _ _ _ (by rw [r1]; rfl)⟩, (thenB hB1 hb3).setCell (p := ⟨w.heap.size, 0, none⟩) (Nat.le_refl _) _⟩
    · have hch3 : Chk w.heap.size 0 cnt m W3 := hch'.below hb3
      have hln : (((pre ++ [(d, x)]).length : Nat) : Int) = cnt + 1 := by rw [← HCN.out]; simp
      have HLN := hid hln
      clear hln
      gi_wp2
      all_goals
        refine ⟨hkf.trans (((KeepsOthers.setCell _ _ _).trans (KeepsOthers.setCell _ _ _)).from _), (hkp.setCell (p := ⟨w.heap.size + 1, 0, none⟩) (by simp) (by simp) _).setCell (p := ⟨w.heap.size + 1 + 1, 0, none⟩) (by simp; omega) (by simp) _,
          ⟨by rw [allP_snoc, HLA.out, HQ.out]; rfl, hch3.next HLN.out ?_, by have := hb3.size; simp [World.setCell]; omega⟩, ((thenB hB1 hb3).setCell (p := ⟨w.heap.size + 1, 0, none⟩) (by simp) _).setCell (p := ⟨w.heap.size + 1 + 1, 0, none⟩) (by simp; omega) _⟩
        rw [HSN.out, HM.out]
        have hcn := HCN.out
        cases m
        · simp only [Bool.false_or]
          rw [Bool.eq_iff_iff]
          simp only [Bool.or_eq_true, decide_eq_true_eq]
          constructor <;> intro hh <;> first | rfl | trivial | contradiction | omega | trace_state
        · simp_all
  case done =>
    rintro D ys W hD rfl ⟨⟨hla, hch, hz⟩, hB⟩ hK
    rw [allP_walk] at hla
    rw [manyP_walk] at hch
    obtain ⟨m, hm⟩ : ∃ m, decide (262144 < t.count ∨ 900 < t.deep ∨ t.tags = true) = m := ⟨_, rfl⟩
    rw [hm] at hch
    have HR : Hid (checkP t = if m then 141 else 0) := by show _ = _; unfold checkP; rw [if_pos hla, ← hm]; simp
    clear hm hla
    obtain ⟨r1, r2, r3, f1, f2, f3⟩ := hch
    cases m
    · gi_wp2
      have hK' := (KeepsOthers.setCell W ⟨w.heap.size, 0, none⟩ (.int .i64 0)).same D _ hK rfl
      refine ⟨by simp, .inl ⟨_, _, rfl, run_takeDeferred hK', ?_⟩⟩
      have hc5 := cell_kept (World.cell?_setCell_same' W ⟨w.heap.size, 0, none⟩ (.int .i64 0) (by rw [r1]; rfl)) (grownBy_putObj' _ D (.deferred none)) (fun r e => by cases e; exact ⟨_, hK', rfl⟩)
      refine ⟨.int .i64 0, ?_, by rw [HR.out]; rfl, (hB.setCell (p := ⟨w.heap.size, 0, none⟩) (Nat.le_refl _) _).trans (belowK_b (w := w) (Nat.le_refl _) _ D _ _ (by omega) hK' rfl rfl)⟩
      simp [results, Tryz.f119, go_sem, hc5]
    · gi_wp2
      have hK' := (KeepsOthers.setCell W ⟨w.heap.size, 0, none⟩ (.int .i64 141)).same D _ hK rfl
      refine ⟨by simp, .inl ⟨_, _, rfl, run_takeDeferred hK', ?_⟩⟩
      have hc5 := cell_kept (World.cell?_setCell_same' W ⟨w.heap.size, 0, none⟩ (.int .i64 141) (by rw [r1]; rfl)) (grownBy_putObj' _ D (.deferred none)) (fun r e => by cases e; exact ⟨_, hK', rfl⟩)
      refine ⟨.int .i64 141, ?_, by rw [HR.out]; rfl, (hB.setCell (p := ⟨w.heap.size, 0, none⟩) (Nat.le_refl _) _).trans (belowK_b (w := w) (Nat.le_refl _) _ D _ _ (by omega) hK' rfl rfl)⟩
      simp [results, Tryz.f119, go_sem, hc5]
  case stop =>
    rintro D c pre W hD hpre ⟨⟨rfl, hla, hc2⟩, hB⟩ hK
    have hall : t.all = false := by
      rw [← allP_walk t 1]
      obtain ⟨z, hz⟩ := hpre
      unfold allP at hla ⊢
      rw [← hz, List.all_append, hla]
      rfl
    have HR : Hid (checkP t = 2) := by show _ = _; unfold checkP; rw [hall]; rfl
    clear hall hla hpre
    gi_wp2
    refine ⟨by simp, .inl ⟨_, _, rfl, run_takeDeferred hK, ?_⟩⟩
    have hc5 := cell_kept hc2 (grownBy_putObj' _ D (.deferred none)) (fun r e => by cases e; exact ⟨_, hK, rfl⟩)
    refine ⟨.int .i64 2, ?_, by rw [HR.out], hB.trans (belowK_b (w := w) (Nat.le_refl _) W D _ _ (by omega) hK rfl rfl)⟩
    simp [results, Tryz.f119, go_sem, hc5]
end Go.Proofs.YtepbjkkakfpjgaaGreatDoor.Instr

/-
  INSTR: Count by contract: a loop over the range function.
-/
namespace Go.Proofs.YtepbjkkakfpjgaaGreatDoor.Instr
open Go.RowKit Go.Shelf

attribute [local go_sem] Oper.semAt_some

set_option maxRecDepth 100000 in
set_option maxHeartbeats 2000000 in
theorem Count_any (a : Option Addr) (len cap : Nat) (t : Il) (w : World) (hl : ListAt w.heap.size w a len t) (hc : t.count ≤ 4611686018427387900) (hlen : len ≤ 140737488351232) :
    Calls Tryz.prog 82 #[.slice a len cap] w fun e w' => e = .returned (.int .i64 t.count) ∧ Below w.heap.size w w' := by
  have HC := hid hc
  clear hc
  refine (callsIn_wide (n := 3)).1 ?_
  refine callsIn_of_wp_marks Tryz.func82 rfl trivial ?_ rfl
  simp only [Tryz.ntmps82, List.size_toArray, List.length_cons, List.length_nil, Nat.reduceAdd, Nat.reduceSub, Array.replicate_succ, Array.replicate_zero, List.push_toArray, List.append_toArray, List.nil_append, List.cons_append]
  gi_wp2_with (refine ⟨trivial, ?_⟩; refine (within_in _ _ _ _ _).mono ?_; rintro e w' ⟨rfl, rfl⟩)
  have hs := cell_new w (.int .i64 0) 3
  have hb := cell_new (w.alloc (.cells #[.int .i64 0] 3)) (.slice a len cap) 45
  rw [World.size_alloc] at hb
  have hB0 : Below w.heap.size w ((w.alloc (.cells #[.int .i64 0] 3)).alloc (.cells #[.slice a len cap] 45)) := thenA (thenA (Below.refl _ _) _) _
  refine wpIn_rangeFunc_ownF rfl (by omega) (gf := 186) (lb := #[.pointer (some ⟨w.heap.size + 1, 0, none⟩)]) rfl trivial (enters_of Tryz.func186 (by kernel_rfl) rfl)
    (within_stops _ w.heap.size (w.heap.size + 2) (w.heap.size + 1) a len cap t _ (by simp) (by omega) (by simp) hb.1 (hl.below hB0) (by have := HC.out; have := deep_le_count t; omega) hlen) (fun h k => h.trans k) (kept_b (by simp; omega)) (Below.refl _ _) (fun _ => rfl)
    (fun pre W => (W.cell? ⟨w.heap.size, 0, none⟩ = some (.int .i64 pre.length) ∧ W.frozen? ⟨w.heap.size, 0, none⟩ = false) ∧ Below w.heap.size w W)
    (fun _ _ _ => False)
    (OwnFrom.and (Own.from (fun s A B row hs hg hr => ⟨cell_kept hs.1 hg hr, (frozen_kept hs.1 hg hr).trans hs.2⟩) _) (ownFrom_below (Nat.le_refl _) (by simp; omega)))
    (fun _ _ _ _ _ hs _ _ => hs)
    ⟨⟨cell_alloc' _ hs.1, frozen_alloc' _ hs.1 hs.2⟩, hB0⟩
    (fun x => { tmps := #[.slice a len cap, undef, .int .i64 0, .pointer (some ⟨w.heap.size, 0, none⟩), .slice a len cap, .func (.func 186) #[] #[.pointer (some ⟨w.heap.size + 1, 0, none⟩)], .int .i64 x.1, .agg x.2.vals, undef, undef, undef], defers := [] }) ?assign ?body ?done ?stop
  case assign =>
    intro l x W K hK
    gi_wp2
    simpa [encs] using hK
  case body =>
    rintro l pre x W ⟨⟨hc, hf⟩, hB⟩ hlt
    have hw1 : IntKind.i64.wrap ((pre.length : Int) + 1) = ((pre ++ [x]).length : Int) := by have := HC.out; rw [IntKind.wrap_i64]; simp; omega
    gi_wp2
    exact ⟨KeepsOthers.setCell _ _ _, (Kept.refl _ _ W).setCell (p := ⟨w.heap.size, 0, none⟩) (Nat.le_refl _) (by simp) _, ⟨by rw [show (((pre ++ [x]).length : Nat) : Int) = (pre.length : Int) + 1 by simp]; exact World.cell?_setCell_same' _ _ _ (by rw [hc]; rfl), by rw [World.frozen?_setCell]; exact hf⟩, hB.setCell (p := ⟨w.heap.size, 0, none⟩) (Nat.le_refl _) _⟩
  case done =>
    rintro D ys W hD rfl ⟨⟨hc, _⟩, hB⟩ hK
    rw [walk_length] at hc
    gi_wp2
    refine ⟨by simp, .inl ⟨_, _, rfl, run_takeDeferred hK, ?_⟩⟩
    exact ⟨_, results_tmp rfl _ _ _, rfl, hB.trans (belowK_b (w := w) (Nat.le_refl _) W D _ _ (by simp at hD; omega) hK rfl rfl)⟩
  case stop =>
    rintro D c pre W _ _ h _
    exact h.elim
end Go.Proofs.YtepbjkkakfpjgaaGreatDoor.Instr

/-
  INSTR: the statements' count of instructions and labels, as far as it goes, by contract.
-/
namespace Go.Proofs.YtepbjkkakfpjgaaGreatDoor.Instr
open Go.RowKit

def Il.weight : Il → Nat
  | .nil => 0
  | .cons x l e r => 1 + x.tags.length + l.weight + e.weight + r.weight
def tagsMin (x : Ix) (most : Int) : Int := min (x.tags.length : Int) most
/-- Counted on from n, no further than beyond 'most'. -/
def Il.go : Il → Int → Int → Int
  | .nil, n, _ => n
  | .cons x l e r, n, most =>
    if n ≤ most then
      r.go (if (if n + 1 + tagsMin x most ≤ most then n + 1 + tagsMin x most + l.go 0 (most - (n + 1 + tagsMin x most)) else n + 1 + tagsMin x most) ≤ most
        then (if n + 1 + tagsMin x most ≤ most then n + 1 + tagsMin x most + l.go 0 (most - (n + 1 + tagsMin x most)) else n + 1 + tagsMin x most) + e.go 0 (most - (if n + 1 + tagsMin x most ≤ most then n + 1 + tagsMin x most + l.go 0 (most - (n + 1 + tagsMin x most)) else n + 1 + tagsMin x most))
        else (if n + 1 + tagsMin x most ≤ most then n + 1 + tagsMin x most + l.go 0 (most - (n + 1 + tagsMin x most)) else n + 1 + tagsMin x most)) most
    else n
/-- Behind one of them. -/
def next1 (n m : Int) (most : Int) : Int := if n ≤ most then n + m else n
theorem next1_pos {n m most : Int} (h : n ≤ most) : next1 n m most = n + m := if_pos h
theorem next1_neg {n m most : Int} (h : ¬ n ≤ most) : next1 n m most = n := if_neg h
theorem go_cons (x : Ix) (l e r : Il) (n most : Int) (h : n ≤ most) : (Il.cons x l e r).go n most =
    r.go (next1 (next1 (n + 1 + tagsMin x most) (l.go 0 (most - (n + 1 + tagsMin x most))) most) (e.go 0 (most - next1 (n + 1 + tagsMin x most) (l.go 0 (most - (n + 1 + tagsMin x most))) most)) most) most := by
  rw [Il.go, if_pos h]; rfl
theorem go_over (t : Il) (n most : Int) (h : most < n) : t.go n most = n := by
  cases t with
  | nil => rfl
  | cons x l e r => rw [Il.go, if_neg (by omega)]
theorem tagsMin_bounds (x : Ix) (most : Int) (h : 0 ≤ most) : 0 ≤ tagsMin x most ∧ tagsMin x most ≤ most ∧ tagsMin x most ≤ x.tags.length := by unfold tagsMin; omega
theorem go_bounds : ∀ (t : Il) (n most : Int), 0 ≤ n → 0 ≤ most → n ≤ 2 * most + 1 → n ≤ t.go n most ∧ t.go n most ≤ 2 * most + 1 ∧ (t.go n most ≤ most → n + t.weight ≤ t.go n most)
  | .nil, n, most, h0, h1, h2 => by simp [Il.go, Il.weight, h2]
  | .cons x l e r, n, most, h0, h1, h2 => by
    by_cases h : n ≤ most
    · rw [go_cons x l e r n most h]
      have hT := tagsMin_bounds x most h1
      obtain ⟨T, hTT⟩ : ∃ T, tagsMin x most = T := ⟨_, rfl⟩
      have hx : T = most ∨ T = x.tags.length := by rw [← hTT]; unfold tagsMin; omega
      rw [hTT] at hT ⊢
      have A : ∀ (N2 : Int), next1 (n + 1 + T) (l.go 0 (most - (n + 1 + T))) most = N2 → n + 1 + T ≤ N2 ∧ N2 ≤ 2 * most + 1 ∧ (N2 ≤ most → n + 1 + T + l.weight ≤ N2 ∧ n + 1 + T ≤ most) := by
        intro N2 h
        subst h
        unfold next1
        split
        · have := go_bounds l 0 (most - (n + 1 + T)) (by omega) (by omega) (by omega)
          refine ⟨by omega, by omega, fun hh => ⟨?_, by omega⟩⟩
          have := this.2.2 (by omega)
          omega
        · exact ⟨by omega, by omega, fun hh => by omega⟩
      obtain ⟨N2, h2'⟩ : ∃ N2, next1 (n + 1 + T) (l.go 0 (most - (n + 1 + T))) most = N2 := ⟨_, rfl⟩
      have a := A N2 h2'
      rw [h2']
      have B : ∀ (N3 : Int), next1 N2 (e.go 0 (most - N2)) most = N3 → N2 ≤ N3 ∧ N3 ≤ 2 * most + 1 ∧ (N3 ≤ most → N2 + e.weight ≤ N3 ∧ N2 ≤ most) := by
        intro N3 h
        subst h
        unfold next1
        split
        · have := go_bounds e 0 (most - N2) (by omega) (by omega) (by omega)
          refine ⟨by omega, by omega, fun hh => ⟨?_, by omega⟩⟩
          have := this.2.2 (by omega)
          omega
        · exact ⟨by omega, by omega, fun hh => by omega⟩
      obtain ⟨N3, h3'⟩ : ∃ N3, next1 N2 (e.go 0 (most - N2)) most = N3 := ⟨_, rfl⟩
      have b := B N3 h3'
      rw [h3']
      have c := go_bounds r N3 most (by omega) h1 (by omega)
      refine ⟨by omega, c.2.1, fun hh => ?_⟩
      have c3 := c.2.2 hh
      have b3 := b.2.2 (by omega)
      have a3 := a.2.2 (by omega)
      simp only [Il.weight]
      omega
    · rw [go_over _ _ _ (by omega)]
      exact ⟨by omega, by omega, fun hh => by omega⟩
theorem weight_count : ∀ t : Il, t.count ≤ t.weight
  | .nil => Nat.le_refl _
  | .cons x l e r => by have := weight_count l; have := weight_count e; have := weight_count r; simp only [Il.count, Il.weight]; omega

set_option maxRecDepth 100000 in
set_option maxHeartbeats 1600000 in
theorem Instrs_any : ∀ (m : Nat) (t : Il) (a : Option Addr) (len c : Nat) (most : Int) (w : World), t.count ≤ m → ListAt w.heap.size w a len t → len ≤ 140737488351232 → 0 ≤ most → most ≤ 5000 →
    Calls Tryz.prog 32 #[.slice a len c, .int .i64 most] w fun e w' => e = .returned (.int .i64 (t.go 0 most)) ∧ w = w' := by
  intro m
  induction m with
  | zero =>
    intro t a len c most w hm hL hlen hm0 hm1
    cases t with
    | cons x l e r => simp only [Il.count] at hm; omega
    | nil =>
      have h0 : len = 0 := hL.1.symm
      subst h0
      clear hm hL
      go_enter Tryz.func32, Tryz.ntmps32
      go_wp2
      go_loopw [5, 6] (fun sn si wr => si = .int .i64 0 ∧ sn = .int .i64 0 ∧ wr = w) (fun _ _ _ => 0)
      case atStart => exact ⟨rfl, rfl, rfl⟩
      case round =>
        obtain ⟨rfl, rfl, rfl⟩ := hrel
        go_wp2
        go_ret
        exact ⟨rfl, rfl⟩
  | succ m ih =>
    intro t a len c most w hm hL hlen hm0 hm1
    obtain ⟨hL1, hL2⟩ := hL
    have HM := hid hm
    have HL1 := hid hL1
    have HG : Hid (t.go 0 most = t.go 0 most) := hid rfl
    clear hm hL1
    rcases hL2 with rfl | ⟨b, off, rfl, hi⟩
    · have h0 : len = 0 := HL1.out.symm
      subst h0
      clear ih
      go_enter Tryz.func32, Tryz.ntmps32
      go_wp2
      go_loopw [5, 6] (fun sn si wr => si = .int .i64 0 ∧ sn = .int .i64 0 ∧ wr = w) (fun _ _ _ => 0)
      case atStart => exact ⟨rfl, rfl, rfl⟩
      case round =>
        obtain ⟨rfl, rfl, rfl⟩ := hrel
        go_wp2
        go_ret
        exact ⟨rfl, rfl⟩
    · go_enter Tryz.func32, Tryz.ntmps32
      go_wp2
      go_loopw [5, 6] (fun sn si wr => ∃ (k : Nat) (n : Int) (rest : Il), si = .int .i64 k ∧ sn = .int .i64 n ∧ k ≤ len ∧ 0 ≤ n ∧ n ≤ 2 * most + 1 ∧ Hid (k + rest.len = len ∧ rest.go n most = t.go 0 most ∧ rest.count ≤ t.count) ∧ Items w.heap.size w b (off + k * 8) rest ∧ wr = w)
        (fun _ si _ => len - (intOf si).toNat)
      case atStart => exact ⟨0, 0, t, rfl, rfl, Nat.zero_le _, by omega, by omega, ⟨by have := HL1.out; omega, rfl, Nat.le_refl _⟩, by simpa using hi, rfl⟩
      case round =>
        obtain ⟨k, n, rest, rfl, rfl, hk, hn0, hn1, HR, hir, rfl⟩ := hrel
        cases rest with
        | nil =>
          obtain ⟨r1, r2, _⟩ := HR.out
          have hkl : k = len := by simpa [Il.len] using r1
          subst hkl
          have R2 : Hid (n = t.go 0 most) := by show _ = _; rw [← r2]; rfl
          clear r2
          go_wp2
          go_ret
          exact ⟨ret_int R2.out, rfl⟩
        | cons x tl te r =>
          obtain ⟨hbn, hx, ⟨c0, c1, c2, c3, c4, c5, c6, c7⟩, ht, hLl, hLe, hir'⟩ := hir
          have hlt : k < len := by have := HR.out.1; simp only [Il.len] at this; omega
          by_cases hnm : n ≤ most
          · have hcnt : tl.count + te.count + 1 ≤ m + 1 := by have h1 := HR.out.2.2; have h2 := HM.out; simp only [Il.count] at h1; omega
            have htn := hx.tn
            have hLn := hx.ln
            have hEn := hx.en
            have hTb := tagsMin_bounds x most hm0
            rcases (Int.lt_or_le most (x.tags.length : Int)).symm with hle | hle
            · have hT : min (x.tags.length : Int) most = (x.tags.length : Int) := by omega
              have HT : Hid (tagsMin x most = (x.tags.length : Int)) := hid (show tagsMin x most = _ from hT)
              rw [HT.out] at hTb
              obtain ⟨tb0, tb1, _⟩ := hTb
              by_cases c1 : n + 1 + (x.tags.length : Int) ≤ most
              · have ih1 := ih tl x.la x.ln x.lc (most - (n + 1 + (x.tags.length : Int))) wr (by omega) hLl hLn (by omega) (by omega)
                have b1 := go_bounds tl 0 (most - (n + 1 + (x.tags.length : Int))) (by omega) (by omega) (by omega)
                obtain ⟨g1, hg1⟩ : ∃ g1, tl.go 0 (most - (n + 1 + (x.tags.length : Int))) = g1 := ⟨_, rfl⟩
                rw [hg1] at ih1 b1
                obtain ⟨b10, b11, _⟩ := b1
                have G1 := hid hg1
                have I1 := hid ih1
                clear hg1 ih1
                by_cases c2 : n + 1 + (x.tags.length : Int) + g1 ≤ most
                · have ih2 := ih te x.ea x.en x.ec (most - (n + 1 + (x.tags.length : Int) + g1)) wr (by omega) hLe hEn (by omega) (by omega)
                  have b2 := go_bounds te 0 (most - (n + 1 + (x.tags.length : Int) + g1)) (by omega) (by omega) (by omega)
                  obtain ⟨g2, hg2⟩ : ∃ g2, te.go 0 (most - (n + 1 + (x.tags.length : Int) + g1)) = g2 := ⟨_, rfl⟩
                  rw [hg2] at ih2 b2
                  obtain ⟨b20, b21, _⟩ := b2
                  have G2 := hid hg2
                  have I2 := hid ih2
                  clear hg2 ih2
                  go_wp2_with fail
                  refine I1.out.mono ?_
                  clear I1
                  rintro e1 w1 ⟨rfl, rfl⟩
                  go_wp2_with fail
                  refine I2.out.mono ?_
                  clear I2
                  rintro e1 w1 ⟨rfl, rfl⟩
                  go_wp2
                  go_roundw
                  case rel =>
                    refine ⟨k + 1, n + 1 + (x.tags.length : Int) + g1 + g2, r, by simp, by first | rfl | simp, by omega, by omega, by omega, ⟨by have := HR.out.1; simp only [Il.len] at this; omega, ?_, by have := HR.out.2.2; simp only [Il.count] at this; omega⟩, by rw [show off + (k + 1) * 8 = off + k * 8 + 8 by omega]; exact hir', by first | rfl | trivial⟩
                    rw [← HR.out.2.1, go_cons x tl te r n most hnm]
                    rw [HT.out, G1.out, next1_pos c1, G2.out, next1_pos c2]
                  case measure => simp [intOf]; omega

                · have c2' : most < n + 1 + (x.tags.length : Int) + g1 := by omega
                  clear ih
                  go_wp2_with fail
                  refine I1.out.mono ?_
                  clear I1
                  rintro e1 w1 ⟨rfl, rfl⟩
                  go_wp2
                  go_roundw
                  case rel =>
                    refine ⟨k + 1, n + 1 + (x.tags.length : Int) + g1, r, by simp, by first | rfl | simp, by omega, by omega, by omega, ⟨by have := HR.out.1; simp only [Il.len] at this; omega, ?_, by have := HR.out.2.2; simp only [Il.count] at this; omega⟩, by rw [show off + (k + 1) * 8 = off + k * 8 + 8 by omega]; exact hir', by first | rfl | trivial⟩
                    rw [← HR.out.2.1, go_cons x tl te r n most hnm]
                    rw [HT.out, G1.out, next1_pos c1, next1_neg (n := n + 1 + (x.tags.length : Int) + g1) (by omega)]
                  case measure => simp [intOf]; omega

              · have c1' : most < n + 1 + (x.tags.length : Int) := by omega
                clear ih
                go_wp2
                go_roundw
                case rel =>
                  refine ⟨k + 1, n + 1 + (x.tags.length : Int), r, by simp, by first | rfl | simp, by omega, by omega, by omega, ⟨by have := HR.out.1; simp only [Il.len] at this; omega, ?_, by have := HR.out.2.2; simp only [Il.count] at this; omega⟩, by rw [show off + (k + 1) * 8 = off + k * 8 + 8 by omega]; exact hir', by first | rfl | trivial⟩
                  rw [← HR.out.2.1, go_cons x tl te r n most hnm]
                  rw [HT.out, next1_neg (n := n + 1 + (x.tags.length : Int)) (by omega), next1_neg (n := n + 1 + (x.tags.length : Int)) (by omega)]
                case measure => simp [intOf]; omega
            · have hT : min (x.tags.length : Int) most = most := by omega
              have HT : Hid (tagsMin x most = most) := hid (show tagsMin x most = _ from hT)
              rw [HT.out] at hTb
              obtain ⟨tb0, tb1, _⟩ := hTb
              have c1 : ¬ n + 1 + most ≤ most := by omega
              have c1' : most < n + 1 + most := by omega
              clear ih
              go_wp2
              go_roundw
              case rel =>
                refine ⟨k + 1, n + 1 + most, r, by simp, by first | rfl | simp, by omega, by omega, by omega, ⟨by have := HR.out.1; simp only [Il.len] at this; omega, ?_, by have := HR.out.2.2; simp only [Il.count] at this; omega⟩, by rw [show off + (k + 1) * 8 = off + k * 8 + 8 by omega]; exact hir', by first | rfl | trivial⟩
                rw [← HR.out.2.1, go_cons x tl te r n most hnm]
                rw [HT.out, next1_neg (n := n + 1 + most) (by omega), next1_neg (n := n + 1 + most) (by omega)]
              case measure => simp [intOf]; omega
          · have R2 : Hid (n = t.go 0 most) := by show _ = _; rw [← HR.out.2.1, go_over _ _ _ (by omega)]
            have hnm' : most < n := by omega
            go_wp2
            go_ret
            exact ⟨ret_int R2.out, rfl⟩
end Go.Proofs.YtepbjkkakfpjgaaGreatDoor.Instr

/-
  What the rows list is what the walks ask: the table of names.
-/
namespace Go.Proofs.YtepbjkkakfpjgaaGreatDoor
open Go.RowKit Go.Lib

theorem ownK : ownKnob Tryz.prog.godebug = none := by kernel_rfl
theorem laidOutK : laidOutB Tryz.prog = true := by kernel_rfl
theorem names_eq : (Rows.laid_gimlet_instr_names : DataW Unit) = .agg (Instr.nameTab.map fun s => .lit (.string (s.map fun z => UInt8.ofNat z.toNat))) := by kernel_rfl
theorem cells_of_strs {H : Type} {enc : TypeId × Value → H} {P : Program} {w : World} {base : Nat} {sp : Nat → Bool} {held : Bool} {fuel : Nat} {t e : TypeId} {n : Nat} {cs : List Value} {ss : List (List UInt8)} {p : List MemPlace}
    (ht : P.underlying t = some (.array n e)) (he : P.underlying e = some .string) (hce : P.cellsOf e = 1) (hct : P.cellsOf t = n)
    (h : DataW.trod enc P w base sp held fuel t cs = some (.agg (ss.map fun s => .lit (.string s)), p)) : cs = ss.map fun s => Value.string ⟨s.toArray⟩ := by
  cases fuel with
  | zero => simp [DataW.trod] at h
  | succ fuel =>
    simp only [DataW.trod, ht, hce, hct, Nat.mul_one] at h
    split at h
    · rename_i hl
      obtain ⟨xs, hm, hx⟩ := Option.map_eq_some_iff.1 h
      have hxs : xs.map (·.1) = ss.map fun s => (DataW.lit (.string s) : DataW H) := by
        have := congrArg Prod.fst hx
        simpa using this
      have hxl : xs.length = n := by simpa using mapM_length hm
      have hzl : ss.length = n := by
        have := congrArg List.length hxs
        simp at this
        omega
      apply List.ext_getElem?
      intro i
      by_cases hi : i < n
      · obtain ⟨b, hb, hf⟩ := mapM_at hm i i (by simp [hi])
        obtain ⟨z, hc, rfl, _⟩ := DataW.trod_string he hf
        have h1 : cs[i]? = some (.string z) := by
          have := congrArg (·[0]?) hc
          simpa [List.getElem?_take, List.getElem?_drop] using this
        have h2 : (xs.map (·.1))[i]? = some (DataW.lit (.string z.data.toList) : DataW H) := by simp [hb]
        rw [hxs] at h2
        simp only [List.getElem?_map, Option.map_eq_some_iff, DataW.lit.injEq, Lit.string.injEq] at h2
        obtain ⟨z', hz', he'⟩ := h2
        simp [h1, hz', he']
      · rw [List.getElem?_eq_none (by omega), List.getElem?_eq_none (by simp; omega)]
    · cases h
theorem nams_of {W : World} {l : List (String × DataW Unit)} (hm : ("gimlet/instr.names", Rows.laid_gimlet_instr_names) ∈ l) (hL : laidMet Tryz.prog l W) : Instr.Nams W := by
  obtain ⟨g, t, cs, fuel, p, hg, hty, hvar, hd⟩ := Lib.laidMet.reads hL hm
  obtain rfl := Option.some.inj ((show Tryz.prog.globalNamed "gimlet/instr.names" = some 0 by kernel_rfl).symm.trans hg)
  obtain rfl := Option.some.inj ((show (Tryz.prog.globals[0]?).map (·.type) = some 222 by kernel_rfl).symm.trans hty)
  rw [names_eq] at hd
  have hcs := cells_of_strs (ss := Instr.nameTab.map fun s => s.map fun z => UInt8.ofNat z.toNat) Tryz.underlying222 Tryz.underlying9 (by kernel_rfl) (by kernel_rfl) (by rw [List.map_map]; exact hd)
  have hlen : Instr.nameTab.length = 121 := by decide +kernel
  intro j hj
  rw [World.var?_cell hg hvar j, ← Array.getElem?_toList, hcs]
  simp [List.getD, hlen, hj, strOfNums]
end Go.Proofs.YtepbjkkakfpjgaaGreatDoor

/-
  Runes and their bytes: plain functions. A rune's bytes; which rune a list of bytes begins with; the runes of a list, and how many bytes they take; that these lead to one another; that the model's own decoding says the same.
-/
namespace Go.Proofs.YtepbjkkakfpjgaaGreatDoor.Utf

/-- May a number be a rune? -/
def Rune (n : Int) : Prop := 0 ≤ n ∧ n ≤ 1114111 ∧ (n < 55296 ∨ 57343 < n)
instance (n : Int) : Decidable (Rune n) := by unfold Rune; infer_instance
/-- A rune's bytes. -/
def oneL (n : Int) : List Int :=
  if n < 128 then [n] else if n < 2048 then [192 + n / 64, 128 + n % 64] else if n < 65536 then [224 + n / 4096, 128 + n / 64 % 64, 128 + n % 64]
  else [240 + n / 262144, 128 + n / 4096 % 64, 128 + n / 64 % 64, 128 + n % 64]
/-- The part of a first byte, and how many go on. -/
def firstL (c : Int) : Option (Int × Nat) :=
  if c < 128 then some (c, 0) else if 192 ≤ c ∧ c < 224 then some (c - 192, 1) else if 224 ≤ c ∧ c < 240 then some (c - 224, 2) else if 240 ≤ c ∧ c < 248 then some (c - 240, 3) else none
/-- What so many bytes that go on make of a number. -/
def tailsL : Nat → Int → List Int → Option Int
  | 0, n, _ => some n
  | _ + 1, _, [] => none
  | m + 1, n, c :: t => if 128 ≤ c ∧ c < 192 then tailsL m (64 * n + (c - 128)) t else none
/-- The rune that a list begins with, and how many bytes it has. -/
def atL : List Int → Option (Int × Nat)
  | [] => none
  | c :: t => match firstL c with
    | none => none
    | some (n0, more) => match tailsL more n0 t with
      | none => none
      | some n => if Rune n ∧ (oneL n).length = more + 1 then some (n, more + 1) else none

theorem oneL_length (n : Int) : 1 ≤ (oneL n).length ∧ (oneL n).length ≤ 4 := by
  unfold oneL
  repeat' split
  all_goals simp
theorem oneL_bytes {n : Int} (h : Rune n) : ∀ z ∈ oneL n, 0 ≤ z ∧ z < 256 := by
  obtain ⟨h0, h1, _⟩ := h
  unfold oneL
  repeat' split
  all_goals (intro z hz; simp only [List.mem_cons, List.not_mem_nil, or_false] at hz)
  · omega
  · rcases hz with rfl | rfl <;> omega
  · rcases hz with rfl | rfl | rfl <;> omega
  · rcases hz with rfl | rfl | rfl | rfl <;> omega

theorem tailsL_some : ∀ (m : Nat) (n : Int) (t : List Int) (r : Int), tailsL m n t = some r → m ≤ t.length
  | 0, _, _, _, _ => Nat.zero_le _
  | _ + 1, _, [], _, h => by simp [tailsL] at h
  | m + 1, n, c :: t, r, h => by
    simp only [tailsL] at h
    split at h
    · have := tailsL_some m _ t r h
      simp; omega
    · cases h
/-- What a list begins with is a rune, and just its bytes. -/
theorem atL_some {l : List Int} {n : Int} {k : Nat} (h : atL l = some (n, k)) : Rune n ∧ l.take k = oneL n ∧ k = (oneL n).length ∧ 1 ≤ k ∧ k ≤ 4 ∧ k ≤ l.length := by
  cases l with
  | nil => simp [atL] at h
  | cons c t =>
    simp only [atL, firstL] at h
    by_cases h1 : c < 128
    · simp only [if_pos h1, tailsL] at h
      split at h
      · rename_i hr
        simp only [Option.some.injEq, Prod.mk.injEq] at h
        obtain ⟨rfl, rfl⟩ := h
        refine ⟨hr.1, ?_, hr.2.symm, by omega, by omega, by simp⟩
        simp [oneL, h1]
      · cases h
    rw [if_neg h1] at h
    by_cases h2 : 192 ≤ c ∧ c < 224
    · simp only [if_pos h2] at h
      match t, h with
      | [], h => simp [tailsL] at h
      | c1 :: t, h =>
        simp only [tailsL] at h
        by_cases k1 : 128 ≤ c1 ∧ c1 < 192
        · simp only [if_pos k1] at h
          split at h
          · rename_i hr
            simp only [Option.some.injEq, Prod.mk.injEq] at h
            obtain ⟨rfl, rfl⟩ := h
            refine ⟨hr.1, ?_, hr.2.symm, by omega, by omega, by simp⟩
            have hl := hr.2
            unfold oneL at hl ⊢
            split at hl
            · simp at hl
            · split at hl
              · rename_i a b
                rw [if_neg a, if_pos b]
                simp only [List.take_succ_cons, List.take_zero, List.cons.injEq, and_true]
                omega
              · split at hl <;> simp at hl
          · cases h
        · simp [if_neg k1] at h
    rw [if_neg h2] at h
    by_cases h3 : 224 ≤ c ∧ c < 240
    · simp only [if_pos h3] at h
      match t, h with
      | [], h => simp [tailsL] at h
      | [c1], h => simp [tailsL] at h
      | c1 :: c2 :: t, h =>
        simp only [tailsL] at h
        by_cases k1 : 128 ≤ c1 ∧ c1 < 192
        · simp only [if_pos k1] at h
          by_cases k2 : 128 ≤ c2 ∧ c2 < 192
          · simp only [if_pos k2] at h
            split at h
            · rename_i hr
              simp only [Option.some.injEq, Prod.mk.injEq] at h
              obtain ⟨rfl, rfl⟩ := h
              refine ⟨hr.1, ?_, hr.2.symm, by omega, by omega, by simp⟩
              have hl := hr.2
              unfold oneL at hl ⊢
              split at hl
              · simp at hl
              · split at hl
                · simp at hl
                · split at hl
                  · rename_i a b d
                    rw [if_neg a, if_neg b, if_pos d]
                    simp only [List.take_succ_cons, List.take_zero, List.cons.injEq, and_true]
                    omega
                  · simp at hl
            · cases h
          · simp [if_neg k2] at h
        · simp [if_neg k1] at h
    rw [if_neg h3] at h
    by_cases h4 : 240 ≤ c ∧ c < 248
    · simp only [if_pos h4] at h
      match t, h with
      | [], h => simp [tailsL] at h
      | [c1], h => simp [tailsL] at h
      | [c1, c2], h => simp [tailsL] at h
      | c1 :: c2 :: c3 :: t, h =>
        simp only [tailsL] at h
        by_cases k1 : 128 ≤ c1 ∧ c1 < 192
        · simp only [if_pos k1] at h
          by_cases k2 : 128 ≤ c2 ∧ c2 < 192
          · simp only [if_pos k2] at h
            by_cases k3 : 128 ≤ c3 ∧ c3 < 192
            · simp only [if_pos k3] at h
              split at h
              · rename_i hr
                simp only [Option.some.injEq, Prod.mk.injEq] at h
                obtain ⟨rfl, rfl⟩ := h
                refine ⟨hr.1, ?_, hr.2.symm, by omega, by omega, by simp⟩
                have hl := hr.2
                unfold oneL at hl ⊢
                split at hl
                · simp at hl
                · split at hl
                  · simp at hl
                  · split at hl
                    · simp at hl
                    · rename_i a b d
                      rw [if_neg a, if_neg b, if_neg d]
                      simp only [List.take_succ_cons, List.take_zero, List.cons.injEq, and_true]
                      omega
              · cases h
            · simp [if_neg k3] at h
          · simp [if_neg k2] at h
        · simp [if_neg k1] at h
    · simp [if_neg h4] at h

/-- A rune's bytes begin with it. -/
theorem atL_one {n : Int} (h : Rune n) (rest : List Int) : atL (oneL n ++ rest) = some (n, (oneL n).length) := by
  have hr := h
  obtain ⟨h0, h1, h2⟩ := h
  by_cases a : n < 128
  · have e : oneL n = [n] := by simp [oneL, a]
    simp [atL, firstL, tailsL, e, a, hr]
  by_cases b : n < 2048
  · have e : oneL n = [192 + n / 64, 128 + n % 64] := by simp [oneL, a, b]
    have c1 : ¬ (192 + n / 64 < 128) := by omega
    have c2 : 192 ≤ 192 + n / 64 ∧ 192 + n / 64 < 224 := by omega
    have c3 : 128 ≤ 128 + n % 64 ∧ 128 + n % 64 < 192 := by omega
    have c4 : 64 * (192 + n / 64 - 192) + (128 + n % 64 - 128) = n := by omega
    rw [e]
    simp only [List.cons_append, List.nil_append, atL, firstL, if_neg c1, if_pos c2, tailsL, if_pos c3, c4, e]
    simp [hr]
  by_cases d : n < 65536
  · have e : oneL n = [224 + n / 4096, 128 + n / 64 % 64, 128 + n % 64] := by simp [oneL, a, b, d]
    have c1 : ¬ (224 + n / 4096 < 128) := by omega
    have c2 : ¬ (192 ≤ 224 + n / 4096 ∧ 224 + n / 4096 < 224) := by omega
    have c3 : 224 ≤ 224 + n / 4096 ∧ 224 + n / 4096 < 240 := by omega
    have c4 : 128 ≤ 128 + n / 64 % 64 ∧ 128 + n / 64 % 64 < 192 := by omega
    have c5 : 128 ≤ 128 + n % 64 ∧ 128 + n % 64 < 192 := by omega
    have c6 : 64 * (64 * (224 + n / 4096 - 224) + (128 + n / 64 % 64 - 128)) + (128 + n % 64 - 128) = n := by omega
    rw [e]
    simp only [List.cons_append, List.nil_append, atL, firstL, if_neg c1, if_neg c2, if_pos c3, tailsL, if_pos c4, if_pos c5, c6, e]
    simp [hr]
  · have e : oneL n = [240 + n / 262144, 128 + n / 4096 % 64, 128 + n / 64 % 64, 128 + n % 64] := by simp [oneL, a, b, d]
    have c1 : ¬ (240 + n / 262144 < 128) := by omega
    have c2 : ¬ (192 ≤ 240 + n / 262144 ∧ 240 + n / 262144 < 224) := by omega
    have c3 : ¬ (224 ≤ 240 + n / 262144 ∧ 240 + n / 262144 < 240) := by omega
    have c4 : 240 ≤ 240 + n / 262144 ∧ 240 + n / 262144 < 248 := by omega
    have c5 : 128 ≤ 128 + n / 4096 % 64 ∧ 128 + n / 4096 % 64 < 192 := by omega
    have c6 : 128 ≤ 128 + n / 64 % 64 ∧ 128 + n / 64 % 64 < 192 := by omega
    have c7 : 128 ≤ 128 + n % 64 ∧ 128 + n % 64 < 192 := by omega
    have c8 : 64 * (64 * (64 * (240 + n / 262144 - 240) + (128 + n / 4096 % 64 - 128)) + (128 + n / 64 % 64 - 128)) + (128 + n % 64 - 128) = n := by omega
    rw [e]
    simp only [List.cons_append, List.nil_append, atL, firstL, if_neg c1, if_neg c2, if_neg c3, if_pos c4, tailsL, if_pos c5, if_pos c6, if_pos c7, c8, e]
    simp [hr]

/-- The runes that a list begins with, up to the first place where none begins; and how many bytes they take. -/
def scanGo : Nat → List Int → List Int × Nat
  | 0, _ => ([], 0)
  | f + 1, l => match atL l with
    | none => ([], 0)
    | some (n, k) => (n :: (scanGo f (l.drop k)).1, k + (scanGo f (l.drop k)).2)
def scan (l : List Int) : List Int × Nat := scanGo l.length l
theorem scanGo_fuel : ∀ (f g : Nat) (l : List Int), l.length ≤ f → l.length ≤ g → scanGo f l = scanGo g l
  | 0, 0, _, _, _ => rfl
  | 0, g + 1, l, hf, _ => by
    have : l = [] := List.eq_nil_of_length_eq_zero (by omega)
    subst this; simp [scanGo, atL]
  | f + 1, 0, l, _, hg => by
    have : l = [] := List.eq_nil_of_length_eq_zero (by omega)
    subst this; simp [scanGo, atL]
  | f + 1, g + 1, l, hf, hg => by
    simp only [scanGo]
    cases h : atL l with
    | none => rfl
    | some p =>
      obtain ⟨n, k⟩ := p
      obtain ⟨_, _, _, hk, _, hl⟩ := atL_some h
      simp only
      rw [scanGo_fuel f g (l.drop k) (by simp; omega) (by simp; omega)]
theorem scan_none {l : List Int} (h : atL l = none) : scan l = ([], 0) := by
  unfold scan
  cases l with
  | nil => rfl
  | cons c t => simp [scanGo, h]
theorem scan_some {l : List Int} {n : Int} {k : Nat} (h : atL l = some (n, k)) : scan l = (n :: (scan (l.drop k)).1, k + (scan (l.drop k)).2) := by
  obtain ⟨_, _, _, hk, _, hl⟩ := atL_some h
  unfold scan
  obtain ⟨m, hm⟩ : ∃ m, l.length = m + 1 := ⟨l.length - 1, by omega⟩
  rw [hm]
  simp only [scanGo, h]
  rw [scanGo_fuel m (l.drop k).length (l.drop k) (by simp; omega) (Nat.le_refl _)]
theorem scan_nil : scan [] = ([], 0) := rfl

/-- Induction along a list, a rune at a time. -/
theorem along {p : List Int → Prop} (h0 : ∀ l, atL l = none → p l) (h1 : ∀ l n k, atL l = some (n, k) → p (l.drop k) → p l) (l : List Int) : p l := by
  suffices h : ∀ m (l : List Int), l.length ≤ m → p l from h _ l (Nat.le_refl _)
  intro m
  induction m with
  | zero =>
    intro l hl
    have : l = [] := List.eq_nil_of_length_eq_zero (by omega)
    subst this
    exact h0 _ rfl
  | succ m ih =>
    intro l hl
    cases h : atL l with
    | none => exact h0 _ h
    | some q =>
      obtain ⟨n, k⟩ := q
      obtain ⟨_, _, _, hk, _, hkl⟩ := atL_some h
      exact h1 l n k h (ih _ (by simp; omega))

theorem scan_le (l : List Int) : (scan l).2 ≤ l.length := by
  refine along (p := fun l => (scan l).2 ≤ l.length) ?_ ?_ l
  · intro l h; rw [scan_none h]; exact Nat.zero_le _
  · intro l n k h ih
    obtain ⟨_, _, _, _, _, hkl⟩ := atL_some h
    rw [scan_some h]
    simp only [List.length_drop] at ih
    simp only
    omega
theorem scan_count (l : List Int) : (scan l).1.length ≤ (scan l).2 := by
  refine along (p := fun l => (scan l).1.length ≤ (scan l).2) ?_ ?_ l
  · intro l h; rw [scan_none h]; exact Nat.zero_le _
  · intro l n k h ih
    obtain ⟨_, _, _, hk, _, _⟩ := atL_some h
    rw [scan_some h]
    simp only [List.length_cons]
    omega
theorem scan_runes (l : List Int) : ∀ n ∈ (scan l).1, Rune n := by
  refine along (p := fun l => ∀ n ∈ (scan l).1, Rune n) ?_ ?_ l
  · intro l h; rw [scan_none h]; simp
  · intro l n k h ih
    rw [scan_some h]
    intro m hm
    rcases List.mem_cons.1 hm with rfl | hm
    · exact (atL_some h).1
    · exact ih m hm

/-- The text of runes. -/
def textL : List Int → List Int
  | [] => []
  | n :: t => oneL n ++ textL t
theorem textL_append : ∀ a b : List Int, textL (a ++ b) = textL a ++ textL b
  | [], _ => rfl
  | n :: a, b => by simp [textL, textL_append a b]
theorem textL_length : ∀ l : List Int, (textL l).length ≤ 4 * l.length
  | [] => by simp [textL]
  | n :: t => by
    have := textL_length t
    have := oneL_length n
    simp [textL]; omega
theorem textL_count : ∀ l : List Int, l.length ≤ (textL l).length
  | [] => by simp [textL]
  | n :: t => by
    have := textL_count t
    have := oneL_length n
    simp [textL]; omega
theorem textL_bytes : ∀ l : List Int, (∀ n ∈ l, Rune n) → ∀ z ∈ textL l, 0 ≤ z ∧ z < 256
  | [], _ => by simp [textL]
  | n :: t, h => by
    intro z hz
    rcases List.mem_append.1 hz with hz | hz
    · exact oneL_bytes (h n (by simp)) z hz
    · exact textL_bytes t (fun m hm => h m (by simp [hm])) z hz
/-- The runes of a text are those that it was made of. -/
theorem scan_text : ∀ l : List Int, (∀ n ∈ l, Rune n) → scan (textL l) = (l, (textL l).length)
  | [], _ => rfl
  | n :: t, h => by
    have e := atL_one (h n (by simp)) (textL t)
    rw [textL, scan_some e]
    simp only [List.drop_left]
    rw [scan_text t fun m hm => h m (by simp [hm])]
    simp
/-- The text of the runes of a list is the bytes that they take. -/
theorem text_scan (l : List Int) : textL (scan l).1 = l.take (scan l).2 := by
  refine along (p := fun l => textL (scan l).1 = l.take (scan l).2) ?_ ?_ l
  · intro l h; rw [scan_none h]; simp [textL]
  · intro l n k h ih
    obtain ⟨_, ht, _, _, _, hkl⟩ := atL_some h
    rw [scan_some h]
    simp only [textL]
    rw [ih, ← ht, List.take_add]
theorem text_scan_all {l : List Int} (h : (scan l).2 = l.length) : textL (scan l).1 = l := by rw [text_scan, h, List.take_length]
/-- Where a list is no text of runes; -1: it is one. -/
def badL (l : List Int) : Int := if (scan l).2 = l.length then -1 else (scan l).2
theorem badL_none {l : List Int} (h : (scan l).2 = l.length) : badL l = -1 := if_pos h
theorem badL_some {l : List Int} (h : (scan l).2 ≠ l.length) : badL l = (scan l).2 := if_neg h
theorem badL_neg (l : List Int) : badL l < 0 ↔ (scan l).2 = l.length := by
  unfold badL
  split <;> simp_all <;> omega
theorem badL_text {l : List Int} (h : ∀ n ∈ l, Rune n) : badL (textL l) = -1 := badL_none (by rw [scan_text l h])

end Go.Proofs.YtepbjkkakfpjgaaGreatDoor.Utf

/-
  MODULE: modules as plain data: what their lists hold and where these lie; whether they may be; their functions' types, exports, sizes. It imports nothing of any translation.
-/
namespace Go.Proofs.YtepbjkkakfpjgaaGreatDoor.Mod
open Go.RowKit Go.Proofs.YtepbjkkakfpjgaaGreatDoor.Instr

/-- A list of instructions: where it lies, how far it reaches, what it is. -/
structure Lst where
  a : Option Addr
  c : Nat
  t : Il
structure Imp where
  mo : ByteArray
  na : ByteArray
  ty : Int
structure Fn where
  ty : Int
  lo : Int
  l : Lst
structure Li where
  n : Int
  x : Int
  c : Bool
structure Gl where
  mu : Bool
  l : Lst
structure Ex where
  na : ByteArray
  k : Int
  i : Int
structure El where
  l : Lst
  fa : Option Addr
  fc : Nat
  fs : List Int
structure Da where
  l : Lst
  ba : Option Addr
  bc : Nat
  bs : List Int
/-- Where a slice lies, and how far it reaches. -/
structure Sl where
  a : Option Addr
  c : Nat
structure Md where
  ty : List (Int × Int)
  im : List Imp
  fu : List Fn
  tb : List Li
  me : List Li
  gl : List Gl
  ex : List Ex
  st : Bool
  sn : Int
  el : List El
  da : List Da
  ty' : Sl
  im' : Sl
  fu' : Sl
  tb' : Sl
  me' : Sl
  gl' : Sl
  ex' : Sl
  el' : Sl
  da' : Sl

def Lst.val (l : Lst) : Value := .slice l.a l.t.len l.c
def tyV (x : Int × Int) : List Value := [.int .i64 x.1, .int .i64 x.2]
def Imp.v (x : Imp) : List Value := [.string x.mo, .string x.na, .int .i64 x.ty]
def Fn.v (x : Fn) : List Value := [.int .i64 x.ty, .int .i64 x.lo, x.l.val]
def Li.v (x : Li) : List Value := [.int .u32 x.n, .int .u32 x.x, .bool x.c]
def Gl.v (x : Gl) : List Value := [.bool x.mu, x.l.val]
def Ex.v (x : Ex) : List Value := [.string x.na, .int .i64 x.k, .int .u32 x.i]
def El.v (x : El) : List Value := [x.l.val, .slice x.fa x.fs.length x.fc]
def Da.v (x : Da) : List Value := [x.l.val, .slice x.ba x.bs.length x.bc]
/-- A module's cells. -/
def Md.v (m : Md) : Array Value := #[.slice m.ty'.a m.ty.length m.ty'.c, .slice m.im'.a m.im.length m.im'.c, .slice m.fu'.a m.fu.length m.fu'.c, .slice m.tb'.a m.tb.length m.tb'.c, .slice m.me'.a m.me.length m.me'.c,
  .slice m.gl'.a m.gl.length m.gl'.c, .slice m.ex'.a m.ex.length m.ex'.c, .bool m.st, .int .u32 m.sn, .slice m.el'.a m.el.length m.el'.c, .slice m.da'.a m.da.length m.da'.c]

/-- All lists of instructions, in order. -/
def Md.codes (m : Md) : List Lst := m.fu.map (·.l) ++ (m.gl.map (·.l) ++ (m.el.map (·.l) ++ m.da.map (·.l)))
/-- What is told of them all: too many ahead of wrong. -/
def codeP : List Lst → Int
  | [] => 0
  | l :: r => if checkP l.t = 141 then 141 else if codeP r = 141 then 141 else if checkP l.t = 0 then codeP r else 2
theorem checkP_cases (t : Il) : checkP t = 0 ∨ checkP t = 141 ∨ checkP t = 2 := by
  unfold checkP; split
  · split <;> simp
  · simp
theorem codeP_cons (l : Lst) (r : List Lst) : codeP (l :: r) = if checkP l.t = 141 then 141 else if codeP r = 141 then 141 else if checkP l.t = 0 then codeP r else 2 := rfl
theorem codeP_cases : ∀ l : List Lst, codeP l = 0 ∨ codeP l = 141 ∨ codeP l = 2
  | [] => .inl rfl
  | l :: r => by
    rw [codeP_cons]
    have := codeP_cases r
    split
    · simp
    · split
      · simp
      · split
        · exact this
        · simp
def worstP : List Lst → Int → Int
  | [], x => x
  | l :: r, x => worstP r (if checkP l.t = 0 then x else checkP l.t)
theorem worstP_append : ∀ (l r : List Lst) (x : Int), worstP (l ++ r) x = worstP r (worstP l x)
  | [], _, _ => rfl
  | a :: l, r, x => by simp only [List.cons_append, worstP]; exact worstP_append l r _
/-- As the program goes: no list has too many, and what the last wrong one told. -/
theorem codeP_none : ∀ (l : List Lst) (x : Int), (∀ y ∈ l, checkP y.t ≠ 141) → (x = 0 ∨ x = 2) → worstP l x = (if x = 2 then 2 else codeP l) ∧ codeP l ≠ 141
  | [], x, _, hx => by
    simp only [worstP, codeP]
    split <;> omega
  | l :: r, x, h, hx => by
    have h0 := h l (by simp)
    have hr : ∀ y ∈ r, checkP y.t ≠ 141 := fun y hy => h y (by simp [hy])
    have hc := checkP_cases l.t
    simp only [worstP]
    by_cases h1 : checkP l.t = 0
    · obtain ⟨i1, i2⟩ := codeP_none r x hr hx
      have e : codeP (l :: r) = codeP r := by rw [codeP_cons, if_neg h0, if_neg i2, if_pos h1]
      rw [if_pos h1, i1, e]
      exact ⟨rfl, i2⟩
    · have h2 : checkP l.t = 2 := by omega
      obtain ⟨i1, i2⟩ := codeP_none r 2 hr (.inr rfl)
      have e : codeP (l :: r) = 2 := by rw [codeP_cons, if_neg h0, if_neg i2, if_neg h1]
      rw [if_neg h1, h2, i1, if_pos rfl, e]
      exact ⟨by split <;> rfl, by omega⟩
theorem codeP_many : ∀ (l : List Lst) (y : Lst), y ∈ l → checkP y.t = 141 → codeP l = 141
  | [], y, h, _ => by simp at h
  | l :: r, y, h, h1 => by
    rw [codeP_cons]
    rcases List.mem_cons.1 h with rfl | h
    · rw [if_pos h1]
    · split
      · rfl
      · rw [if_pos (codeP_many r y h h1)]
theorem codeP_of_many : ∀ (l : List Lst), codeP l = 141 → ∃ y ∈ l, checkP y.t = 141
  | [], h => by simp [codeP] at h
  | l :: r, h => by
    rw [codeP_cons] at h
    split at h
    · exact ⟨l, by simp, by assumption⟩
    · split at h
      · obtain ⟨y, hy, h1⟩ := codeP_of_many r (by assumption)
        exact ⟨y, by simp [hy], h1⟩
      · split at h
        · contradiction
        · omega
theorem codeP_zero : ∀ (l : List Lst), codeP l = 0 ↔ ∀ y ∈ l, checkP y.t = 0
  | [] => by simp [codeP]
  | l :: r => by
    rw [codeP_cons, List.forall_mem_cons, ← codeP_zero r]
    have := checkP_cases l.t
    have := codeP_cases r
    (repeat' split) <;> omega

/-- The place of the first item of which p holds; -1 if there is none. -/
def idxP {α : Type} (p : α → Bool) (l : List α) : Int := match l.findIdx? p with
  | some i => (i : Int)
  | none => -1
theorem idxP_hit {α : Type} {p : α → Bool} {l : List α} {k : Nat} (hk : k < l.length) (h : p l[k] = true) (hb : ∀ j (hj : j < l.length), j < k → p l[j] = false) : idxP p l = k := by
  have : l.findIdx? p = some k := List.findIdx?_eq_some_iff_getElem.2 ⟨hk, h, fun j hj => by rw [hb j (by omega) hj]; simp⟩
  unfold idxP; rw [this]
theorem idxP_miss {α : Type} {p : α → Bool} {l : List α} (hb : ∀ j (hj : j < l.length), p l[j] = false) : idxP p l = -1 := by
  have : l.findIdx? p = none := List.findIdx?_eq_none_iff.2 fun x hx => by
    obtain ⟨j, hj, rfl⟩ := List.mem_iff_getElem.1 hx
    exact hb j hj
  unfold idxP; rw [this]
theorem idxP_any {α : Type} (p : α → Bool) (l : List α) : decide (0 ≤ idxP p l) = l.any p := by
  cases h : l.findIdx? p with
  | none =>
    have h1 := List.findIdx?_eq_none_iff.1 h
    have : l.any p = false := by rw [List.any_eq_false]; intro x hx; rw [h1 x hx]; simp
    rw [this]; unfold idxP; rw [h]; simp
  | some i =>
    obtain ⟨hi, h1, _⟩ := List.findIdx?_eq_some_iff_getElem.1 h
    have : l.any p = true := List.any_eq_true.2 ⟨l[i], List.getElem_mem hi, h1⟩
    rw [this]; unfold idxP; rw [h]; simp
theorem idxP_bounds {α : Type} (p : α → Bool) (l : List α) : -1 ≤ idxP p l ∧ idxP p l < l.length := by
  unfold idxP
  cases h : l.findIdx? p with
  | none => simp; omega
  | some i =>
    obtain ⟨hi, _, _⟩ := List.findIdx?_eq_some_iff_getElem.1 h
    simp; omega

/-- Has a list too many items? -/
def Md.crowded (m : Md) : Bool :=
  decide (16384 < m.ty.length) || decide (16384 < m.im.length) || decide (16384 < m.fu.length) || decide (16384 < m.gl.length) || decide (16384 < m.ex.length) || decide (16384 < m.el.length) || decide (16384 < m.da.length) ||
    (m.el.any fun e => decide (16384 < e.fs.length)) || decide (1 < m.tb.length) || decide (1 < m.me.length)
/-- The longest of these lists of functions, and of what is longest besides. -/
def longP (l : List El) (x : Int) : Int := l.foldl (fun x e => max x (e.fs.length : Int)) x
theorem longP_snoc (l : List El) (e : El) (x : Int) : longP (l ++ [e]) x = max (longP l x) (e.fs.length : Int) := by simp [longP, List.foldl_append]
theorem longP_gt : ∀ (l : List El) (x : Int), decide (16384 < longP l x) = (decide (16384 < x) || l.any fun e => decide (16384 < e.fs.length))
  | [], x => (Bool.or_false _).symm
  | e :: l, x => by
    have := longP_gt l (max x (e.fs.length : Int))
    unfold longP at this ⊢
    rw [List.foldl_cons, this, List.any_cons, ← Bool.or_assoc]
    congr 1
    rw [Bool.eq_iff_iff]
    simp only [Bool.or_eq_true, decide_eq_true_eq]
    omega
def Md.max7 (m : Md) : Int := max (max (max (max (max (max (m.ty.length : Int) m.im.length) m.fu.length) m.gl.length) m.ex.length) m.el.length) m.da.length
theorem crowded_eq (m : Md) : m.crowded = (decide (16384 < longP m.el m.max7) || (decide (1 < m.tb.length) || decide (1 < m.me.length))) := by
  rw [longP_gt]
  have : decide (16384 < m.max7) = (decide (16384 < m.ty.length) || decide (16384 < m.im.length) || decide (16384 < m.fu.length) || decide (16384 < m.gl.length) || decide (16384 < m.ex.length) || decide (16384 < m.el.length) || decide (16384 < m.da.length)) := by
    unfold Md.max7
    rw [Bool.eq_iff_iff]
    simp only [Bool.or_eq_true, decide_eq_true_eq]
    omega
  rw [this]
  unfold Md.crowded
  simp only [Bool.or_assoc]
def longS (s : ByteArray) : Bool := decide (1000 < s.size)
def noText (s : ByteArray) : Bool := decide (0 ≤ Utf.badL (numsOf s))
def Md.anyName (m : Md) (p : ByteArray → Bool) : Bool := (m.im.any fun i => p i.mo || p i.na) || (m.ex.any fun e => p e.na)
def sumB : List Da → Nat
  | [] => 0
  | d :: r => d.bs.length + sumB r
theorem sumB_append : ∀ (l r : List Da), sumB (l ++ r) = sumB l + sumB r
  | [], r => by simp [sumB]
  | d :: l, r => by simp only [List.cons_append, sumB, sumB_append l r]; omega
theorem sumB_take (l : List Da) (k : Nat) : sumB (l.take k) ≤ sumB l := by
  have := sumB_append (l.take k) (l.drop k)
  rw [List.take_append_drop] at this
  omega
theorem sumB_step {l : List Da} {k : Nat} (hk : k < l.length) : sumB (l.take (k + 1)) = sumB (l.take k) + l[k].bs.length := by
  rw [List.take_succ_eq_append_getElem hk, sumB_append]; rfl
def Md.heavy (m : Md) : Bool := decide (1048576 < sumB m.da)
def wrongN (n : Int) : Bool := decide (n < 0) || decide (2147483647 < n)
def wrongT (t : Int × Int) : Bool := !Kind.okType t.1 t.2
def wrongI (i : Imp) : Bool := wrongN i.ty
def wrongF (f : Fn) : Bool := wrongN f.ty || (decide (f.lo < 0) || decide (50000 < f.lo))
def wrongE (e : Ex) : Bool := decide (e.k < 0) || decide (3 < e.k)
def beyond (most : Int) (l : Li) : Bool := !Kind.okLim l.n l.x l.c most
/-- What else is wrong. -/
def Md.wrong (m : Md) : Bool :=
  m.anyName noText || m.ty.any wrongT || m.im.any wrongI || m.fu.any wrongF || m.ex.any wrongE || m.tb.any (beyond 1048576) || m.me.any (beyond 65536) || (!m.st && decide (m.sn ≠ 0))
/-- P7.1. -/
def Md.check (m : Md) : Int :=
  if m.crowded then 141 else if codeP m.codes = 141 then 141 else if m.anyName longS then 3 else if m.heavy then 3 else if codeP m.codes = 2 then 2 else if m.wrong then 2 else 0

/-- The number of a function's type; -1 if there is no such function. -/
def Md.typeN (m : Md) (n : Nat) : Int :=
  if n < m.im.length then ((m.im.map (·.ty)).getD n 0) else if n < m.im.length + m.fu.length then ((m.fu.map (·.ty)).getD (n - m.im.length) 0) else -1
/-- P7.2: a function's type, and whether it is there. -/
def Md.typeOf (m : Md) (n : Nat) : (Int × Int) × Bool :=
  if m.typeN n < 0 ∨ (m.ty.length : Int) ≤ m.typeN n then ((0, 0), false) else (m.ty.getD (m.typeN n).toNat (0, 0), true)
def Md.find (m : Md) (na : ByteArray) (k : Int) : Int × Bool :=
  match m.ex.find? (fun e => decide (e.na = na) && decide (e.k = k)) with
  | some e => (e.i, true)
  | none => (0, false)
def countL : List Lst → Nat
  | [] => 0
  | l :: r => l.t.count + countL r
def Md.size (m : Md) : Nat := countL m.codes
end Go.Proofs.YtepbjkkakfpjgaaGreatDoor.Mod

/-
  MODULE: modules in memory: the rows of their lists, the lists of instructions in them, labels and bytes.
-/
namespace Go.Proofs.YtepbjkkakfpjgaaGreatDoor.Mod
open Go.RowKit Go.Proofs.YtepbjkkakfpjgaaGreatDoor.Instr

/-- From address a on lie these rows, each of sz cells; below block n₀. -/
def Rows (n₀ : Nat) (w : World) (a : Option Addr) (sz : Nat) (rs : List (List Value)) : Prop :=
  rs = [] ∨ ∃ b off, a = some ⟨b, off, none⟩ ∧ b < n₀ ∧ ∀ i, i < rs.length → ∀ j, j < sz → ∀ v, (rs.getD i [])[j]? = some v → w.cell? ⟨b, off + i * sz + j, none⟩ = some v
theorem Rows.below {n₀ sz : Nat} {w w' : World} {a : Option Addr} {rs : List (List Value)} (hb : Below n₀ w w') (h : Rows n₀ w a sz rs) : Rows n₀ w' a sz rs := by
  rcases h with h | ⟨b, off, ha, hl, hc⟩
  · exact .inl h
  · exact .inr ⟨b, off, ha, hl, fun i hi j hj v hv => (hb.cell (p := ⟨b, off + i * sz + j, none⟩) hl).trans (hc i hi j hj v hv)⟩
theorem Rows.more {n₀ n₁ sz : Nat} {w : World} {a : Option Addr} {rs : List (List Value)} (hn : n₀ ≤ n₁) (h : Rows n₀ w a sz rs) : Rows n₁ w a sz rs := by
  rcases h with h | ⟨b, off, ha, hl, hc⟩
  · exact .inl h
  · exact .inr ⟨b, off, ha, by omega, hc⟩
/-- Where the k-th of them lies. -/
theorem Rows.get {α : Type} {f : α → List Value} {l : List α} {n₀ sz : Nat} {w : World} {a : Option Addr} (h : Rows n₀ w a sz (l.map f)) {k : Nat} (hk : k < l.length) :
    ∃ b off, a = some ⟨b, off, none⟩ ∧ b < n₀ ∧ ∀ j, j < sz → ∀ v, (f l[k])[j]? = some v → w.cell? ⟨b, off + k * sz + j, none⟩ = some v := by
  rcases h with h | ⟨b, off, ha, hl, hc⟩
  · rw [List.map_eq_nil_iff] at h; subst h; simp at hk
  · refine ⟨b, off, ha, hl, fun j hj v hv => hc k (by simpa using hk) j hj v ?_⟩
    rw [List.getD_eq_getElem?_getD, List.getElem?_map, List.getElem?_eq_getElem hk]
    exact hv
/-- Bytes in memory below block n₀. -/
def BytesAt (n₀ : Nat) (w : World) (a : Option Addr) (zs : List Int) : Prop :=
  zs = [] ∨ ∃ b off, a = some ⟨b, off, none⟩ ∧ b < n₀ ∧ ∀ i, i < zs.length → w.cell? ⟨b, off + i, none⟩ = some (.int .u8 (zs.getD i 0))
theorem BytesAt.below {n₀ : Nat} {w w' : World} {a : Option Addr} {zs : List Int} (hb : Below n₀ w w') (h : BytesAt n₀ w a zs) : BytesAt n₀ w' a zs := by
  rcases h with h | ⟨b, off, ha, hl, hc⟩
  · exact .inl h
  · exact .inr ⟨b, off, ha, hl, fun i hi => (hb.cell (p := ⟨b, off + i, none⟩) hl).trans (hc i hi)⟩
theorem BytesAt.more {n₀ n₁ : Nat} {w : World} {a : Option Addr} {zs : List Int} (hn : n₀ ≤ n₁) (h : BytesAt n₀ w a zs) : BytesAt n₁ w a zs := by
  rcases h with h | ⟨b, off, ha, hl, hc⟩
  · exact .inl h
  · exact .inr ⟨b, off, ha, by omega, hc⟩

/-- A module in memory, below block n₀. -/
structure ModAt (n₀ : Nat) (w : World) (m : Md) : Prop where
  ty : Rows n₀ w m.ty'.a 2 (m.ty.map tyV)
  im : Rows n₀ w m.im'.a 3 (m.im.map Imp.v)
  fu : Rows n₀ w m.fu'.a 3 (m.fu.map Fn.v)
  tb : Rows n₀ w m.tb'.a 3 (m.tb.map Li.v)
  me : Rows n₀ w m.me'.a 3 (m.me.map Li.v)
  gl : Rows n₀ w m.gl'.a 2 (m.gl.map Gl.v)
  ex : Rows n₀ w m.ex'.a 3 (m.ex.map Ex.v)
  el : Rows n₀ w m.el'.a 2 (m.el.map El.v)
  da : Rows n₀ w m.da'.a 2 (m.da.map Da.v)
  ls : ∀ l ∈ m.codes, ListAt n₀ w l.a l.t.len l.t
  fs : ∀ e ∈ m.el, TagsAt n₀ w e.fa e.fs
  bs : ∀ d ∈ m.da, BytesAt n₀ w d.ba d.bs
theorem ModAt.below {n₀ : Nat} {w w' : World} {m : Md} (hb : Below n₀ w w') (h : ModAt n₀ w m) : ModAt n₀ w' m :=
  ⟨h.ty.below hb, h.im.below hb, h.fu.below hb, h.tb.below hb, h.me.below hb, h.gl.below hb, h.ex.below hb, h.el.below hb, h.da.below hb, fun l hl => (h.ls l hl).below hb, fun e he => (h.fs e he).below hb, fun d hd => (h.bs d hd).below hb⟩
theorem ModAt.more {n₀ n₁ : Nat} {w : World} {m : Md} (hn : n₀ ≤ n₁) (h : ModAt n₀ w m) : ModAt n₁ w m :=
  ⟨h.ty.more hn, h.im.more hn, h.fu.more hn, h.tb.more hn, h.me.more hn, h.gl.more hn, h.ex.more hn, h.el.more hn, h.da.more hn, fun l hl => (h.ls l hl).more hn, fun e he => (h.fs e he).more hn, fun d hd => (h.bs d hd).more hn⟩
theorem ModAt.on {w w' : World} {m : Md} (h : ModAt w.heap.size w m) (hb : Below w.heap.size w w') : ModAt w'.heap.size w' m := (h.below hb).more hb.size

/-- Sizes that any machine has. -/
structure Md.fits (m : Md) : Prop where
  ty : m.ty.length ≤ 140737488351232
  im : m.im.length ≤ 140737488351232
  fu : m.fu.length ≤ 140737488351232
  tb : m.tb.length ≤ 140737488351232
  me : m.me.length ≤ 140737488351232
  gl : m.gl.length ≤ 140737488351232
  ex : m.ex.length ≤ 140737488351232
  el : m.el.length ≤ 140737488351232
  da : m.da.length ≤ 140737488351232
  ls : ∀ l ∈ m.codes, l.t.len ≤ 140737488351232
  fs : ∀ e ∈ m.el, e.fs.length ≤ 140737488351232
  bs : ∀ d ∈ m.da, d.bs.length ≤ 140737488351232
  iS : ∀ i ∈ m.im, i.mo.size ≤ 140737488351232 ∧ i.na.size ≤ 140737488351232
  eS : ∀ e ∈ m.ex, e.na.size ≤ 140737488351232
/-- Of which all parts together are few. -/
structure Md.few (m : Md) : Prop where
  fit : m.fits
  cs : ∀ l ∈ m.codes, l.t.count ≤ 1000000
  lens : m.ty.length ≤ 1000000 ∧ m.im.length ≤ 1000000 ∧ m.fu.length ≤ 1000000 ∧ m.tb.length ≤ 1000000 ∧ m.me.length ≤ 1000000 ∧ m.gl.length ≤ 1000000 ∧ m.ex.length ≤ 1000000 ∧ m.el.length ≤ 1000000 ∧ m.da.length ≤ 1000000

/-- The box that a module lies in: cell by cell. -/
def BoxAt (w : World) (g : Nat) (v : Array Value) : Prop := ∀ j x, v[j]? = some x → w.cell? ⟨g, j, none⟩ = some x
theorem BoxAt.made (w : World) (v : Array Value) (t : TypeId) : BoxAt (w.alloc (.cells v t)) w.heap.size v := by
  intro j x h
  simp [go_sem, h]
theorem BoxAt.keep {w w' : World} {g : Nat} {v : Array Value} (hb : Below w.heap.size w w') (h : BoxAt w g v) : BoxAt w' g v := fun j x hj => Go.Proofs.YtepbjkkakfpjgaaGreatDoor.keep hb (h j x hj)
end Go.Proofs.YtepbjkkakfpjgaaGreatDoor.Mod

/-
  MODULE: what the document's own answers are told with: loops over lists, plain.
-/
namespace Go.Proofs.YtepbjkkakfpjgaaGreatDoor.Mod
open Go.RowKit Go.Proofs.YtepbjkkakfpjgaaGreatDoor.Instr

theorem any_take {α : Type} {l : List α} {p : α → Bool} {k : Nat} (hk : k < l.length) (h : ∀ j (hj : j < l.length), j < k → p l[j] = false) (hx : p l[k] = false) : ∀ j (hj : j < l.length), j < k + 1 → p l[j] = false := by
  intro j hj hjk
  by_cases e : j = k
  · subst e; exact hx
  · exact h j hj (by omega)
theorem any_none {α : Type} {l : List α} {p : α → Bool} (h : ∀ j (hj : j < l.length), p l[j] = false) : l.any p = false := by
  rw [List.any_eq_false]
  intro x hx
  obtain ⟨j, hj, rfl⟩ := List.mem_iff_getElem.1 hx
  rw [h j hj]; simp
theorem any_some {α : Type} {l : List α} {p : α → Bool} {k : Nat} (hk : k < l.length) (h : p l[k] = true) : l.any p = true := List.any_eq_true.2 ⟨_, List.getElem_mem hk, h⟩
theorem none_upto {α : Type} (l : List α) (p : α → Bool) : ∀ j (hj : j < l.length), j < 0 → p l[j] = false := fun _ _ h => absurd h (Nat.not_lt_zero _)
/-- Types, types' numbers and locals are as they may be. -/
def Md.numbers (m : Md) : Bool := !(m.ty.any wrongT || (m.im.any wrongI || m.fu.any wrongF))
end Go.Proofs.YtepbjkkakfpjgaaGreatDoor.Mod

/-
  MODULE: modules but for where they lie: what is told of them does not hang on that.
-/
namespace Go.Proofs.YtepbjkkakfpjgaaGreatDoor.Mod
open Go.RowKit Go.Proofs.YtepbjkkakfpjgaaGreatDoor.Instr

def Lst.bare (l : Lst) : Lst := ⟨none, 0, l.t.bare⟩
def Fn.bare (f : Fn) : Fn := ⟨f.ty, f.lo, f.l.bare⟩
def Gl.bare (g : Gl) : Gl := ⟨g.mu, g.l.bare⟩
def El.bare (e : El) : El := ⟨e.l.bare, none, 0, e.fs⟩
def Da.bare (d : Da) : Da := ⟨d.l.bare, none, 0, d.bs⟩
/-- A module, but for where its parts lie. -/
def Md.bare (m : Md) : Md :=
  ⟨m.ty, m.im, m.fu.map Fn.bare, m.tb, m.me, m.gl.map Gl.bare, m.ex, m.st, m.sn, m.el.map El.bare, m.da.map Da.bare, ⟨none, 0⟩, ⟨none, 0⟩, ⟨none, 0⟩, ⟨none, 0⟩, ⟨none, 0⟩, ⟨none, 0⟩, ⟨none, 0⟩, ⟨none, 0⟩, ⟨none, 0⟩⟩
theorem bare_codes (m : Md) : m.bare.codes = m.codes.map Lst.bare := by
  unfold Md.codes Md.bare
  simp only [List.map_append, List.map_map]
  rfl
theorem codeP_bare : ∀ l : List Lst, codeP (l.map Lst.bare) = codeP l
  | [] => rfl
  | x :: r => by
    rw [List.map_cons, codeP_cons, codeP_cons, codeP_bare r]
    have : checkP x.bare.t = checkP x.t := bare_check x.t
    rw [this]
theorem sumB_bare : ∀ l : List Da, sumB (l.map Da.bare) = sumB l
  | [] => rfl
  | x :: r => by rw [List.map_cons, sumB, sumB, sumB_bare r]; rfl
theorem crowded_bare (m : Md) : m.bare.crowded = m.crowded := by
  unfold Md.crowded Md.bare
  simp only [List.length_map, List.any_map]
  rfl
theorem heavy_bare (m : Md) : m.bare.heavy = m.heavy := by
  unfold Md.heavy Md.bare
  simp only [sumB_bare]
theorem wrong_bare (m : Md) : m.bare.wrong = m.wrong := by
  unfold Md.wrong Md.anyName Md.bare
  simp only [List.any_map]
  rfl
theorem check_bareM (m : Md) : m.bare.check = m.check := by
  unfold Md.check
  rw [crowded_bare, bare_codes, codeP_bare, heavy_bare, wrong_bare]
  rfl
theorem countL_bare : ∀ l : List Lst, countL (l.map Lst.bare) = countL l
  | [] => rfl
  | x :: r => by
    rw [List.map_cons, countL, countL, countL_bare r]
    have : x.bare.t.count = x.t.count := bare_count x.t
    rw [this]
theorem size_bareM (m : Md) : m.bare.size = m.size := by unfold Md.size; rw [bare_codes, countL_bare]
theorem typeOf_bareM (m : Md) (n : Nat) : m.bare.typeOf n = m.typeOf n := by
  have e : m.bare.typeN n = m.typeN n := by
    unfold Md.typeN Md.bare
    simp only [List.length_map, List.map_map]
    rfl
  unfold Md.typeOf
  rw [e]
  rfl
theorem find_bareM (m : Md) (na : ByteArray) (k : Int) : m.bare.find na k = m.find na k := rfl
theorem check_core {a b : Md} (h : a.bare = b.bare) : a.check = b.check := by rw [← check_bareM a, h, check_bareM]
theorem size_core {a b : Md} (h : a.bare = b.bare) : a.size = b.size := by rw [← size_bareM a, h, size_bareM]
theorem typeOf_core {a b : Md} (h : a.bare = b.bare) (n : Nat) : a.typeOf n = b.typeOf n := by rw [← typeOf_bareM a, h, typeOf_bareM]
theorem find_core {a b : Md} (h : a.bare = b.bare) (na : ByteArray) (k : Int) : a.find na k = b.find na k := by rw [← find_bareM a, h, find_bareM]
/-- Whether a statement holds, as a bool. -/
noncomputable def is (p : Prop) : Bool := @decide p (Classical.propDecidable p)
theorem is_yes {p : Prop} (h : p) : is p = true := by unfold is; exact @decide_eq_true p (Classical.propDecidable p) h
theorem is_no {p : Prop} (h : ¬ p) : is p = false := by unfold is; exact @decide_eq_false p (Classical.propDecidable p) h
/-- The parts that make two modules the same. -/
structure Same (a b : Md) : Prop where
  ty : a.ty = b.ty
  im : a.im = b.im
  fu : a.fu.map Fn.bare = b.fu.map Fn.bare
  tb : a.tb = b.tb
  me : a.me = b.me
  gl : a.gl.map Gl.bare = b.gl.map Gl.bare
  ex : a.ex = b.ex
  st : a.st = b.st
  sn : a.sn = b.sn
  el : a.el.map El.bare = b.el.map El.bare
  da : a.da.map Da.bare = b.da.map Da.bare
theorem same_iff {a b : Md} : a.bare = b.bare ↔ Same a b := by
  constructor
  · intro h
    unfold Md.bare at h
    simp only [Md.mk.injEq] at h
    obtain ⟨h1, h2, h3, h4, h5, h6, h7, h8, h9, h10, h11, _⟩ := h
    exact ⟨h1, h2, h3, h4, h5, h6, h7, h8, h9, h10, h11⟩
  · rintro ⟨h1, h2, h3, h4, h5, h6, h7, h8, h9, h10, h11⟩
    unfold Md.bare
    rw [h1, h2, h3, h4, h5, h6, h7, h8, h9, h10, h11]
/-- Two lists are the same item by item. -/
theorem list_same {α : Type} {l r : List α} {n : Nat} (hl : l.length = n) (hr : r.length = n) (h : ∀ j (h1 : j < l.length) (h2 : j < r.length), j < n → l[j] = r[j]) : l = r := by
  refine List.ext_getElem (by omega) fun j h1 h2 => h j h1 h2 (by omega)
theorem same_step {α : Type} {l r : List α} {k : Nat} (h1 : k < l.length) (h2 : k < r.length) (h : ∀ j (h1 : j < l.length) (h2 : j < r.length), j < k → l[j] = r[j]) (hx : l[k] = r[k]) : ∀ j (h1 : j < l.length) (h2 : j < r.length), j < k + 1 → l[j] = r[j] := by
  intro j g1 g2 hj
  by_cases e : j = k
  · subst e; exact hx
  · exact h j g1 g2 (by omega)
theorem same_zero {α : Type} (l r : List α) : ∀ j (h1 : j < l.length) (h2 : j < r.length), j < 0 → l[j] = r[j] := fun _ _ _ h => absurd h (Nat.not_lt_zero _)
end Go.Proofs.YtepbjkkakfpjgaaGreatDoor.Mod
