import Derived.Test.YtaibfefmehhldaaGreatDoorSa01
import Derived.Test.YtaibfefmehhldaaGreatDoorSa04
import Derived.Test.YtaibfefmehhldaaGreatDoorSa05
import Derived.Test.YtaibfefmehhldaaGreatDoorSa02
import Derived.Deep.RegionHeld3
import Derived.RegionTactic
import Derived.BigQuiet
import Derived.Laws.StructEq
import Derived.Laws.BytesArg
import Derived.Laws.Rows
import Derived.Laws.IdiomCopy
namespace Go.Proofs.YtaibfefmehhldaaGreatDoor.Instr
end Go.Proofs.YtaibfefmehhldaaGreatDoor.Instr
namespace Go.Proofs.YtaibfefmehhldaaGreatDoor
open Go

section
variable {P : Program} {md : Region.Mode} {ops : Array Oper} {Q : Exit → Act → World → Prop} {S : World → Prop} {L : Nat}

def Till (P : Program) (md : Region.Mode) (ops : Array Oper) (Q : Exit → Act → World → Prop) (S : World → Prop) (L : Nat) : Nat → Array Bool → Act → World → Prop
  | 0, l, a, w => Region.ready md ops l = [] ∧ Q .normal a w
  | n + 1, l, a, w => (Region.ready md ops l = [] → Q .normal a w) ∧ ∀ i ∈ Region.ready md ops l, wpOp P ops Q i (fun a' w' => (i ≠ L → S w') ∧ Till P md ops Q S L n (l.setIfInBounds i true) a' w') a w

theorem Till.any : ∀ (n : Nat) (l : Array Bool) (a : Act) (w : World), Till P md ops Q S L n l a w → wpAny P md ops Q n l a w
  | 0, _, _, _, h => h
  | n + 1, _, _, _, h => ⟨h.1, fun i hi => wpOp_mono (fun a' w' k => Till.any n _ a' w' k.2) (h.2 i hi)⟩
theorem Till.begin {id : Nat} {a : Act} {w : World} (hm : P.follows .mixedOrders = true) (hS : S w.drew)
    (h : S w.drew → Till P .any ops Q S L ops.size (Array.replicate ops.size false) a w.drew) : (Code.region id ops true).wp P Q a w :=
  wp_region_any hm (Till.any _ _ _ _ (h hS))
/-- An operation that waits for i is not ready as long as i has not come up. -/
theorem not_ahead {l : Array Bool} {i j : Nat} {oj : Oper} (hj : ops[j]? = some oj) (hw : (oj.after.any fun e => Region.binds md e && e.on == i) = true) (hi : i ∈ Region.ready md ops l) : j ∉ Region.ready md ops l := by
  intro h
  obtain ⟨_, o, ho, hall⟩ := mem_ready.1 h
  rw [hj] at ho
  obtain rfl := Option.some.inj ho
  obtain ⟨e, he, hb⟩ := Array.any_eq_true'.1 hw
  simp only [Bool.and_eq_true, beq_iff_eq] at hb
  have h1 := hall e he hb.1
  rw [hb.2] at h1
  have h0 := (mem_ready.1 hi).1
  rw [Array.getD_eq_getD_getElem?] at h0 h1
  cases hl : l[i]? with
  | none => rw [hl] at h1; simp at h1
  | some b => rw [hl] at h0 h1; simp at h0 h1; rw [h0] at h1; cases h1
theorem Till.first {i : Nat} {oi oL : Oper} {v : Value} (hi : ops[i]? = some oi) (hsel : ∀ (j : Nat) (o : Oper) cs b, ops[j]? = some o → o.op ≠ .select cs b)
    (hL : ops[L]? = some oL) (hw : (oL.after.any fun e => Region.binds md e && e.on == i) = true) (hQ : ∀ c a w, Q (.panic c) (a.put oi.dst v) w → Q (.panic c) a w) :
    ∀ (n : Nat) (l : Array Bool) (a : Act) (w : World),
      (∀ j oj, ops[j]? = some oj → j ≠ i → l.getD j true = false → (∀ e ∈ oj.after, Region.binds md e = true → e.on ≠ i) → oi.apart ops oj = true) →
      i ∈ Region.ready md ops l → YieldsIf P ops S oi v a → S w → Till P md ops Q S L n (l.setIfInBounds i true) (a.put oi.dst v) w → Till P md ops Q S L (n + 1) l a w
  | n, l, a, w, hfree, hr, hy, hS, H => by
    refine ⟨fun h => (by rw [h] at hr; cases hr), fun j hj => ?_⟩
    rcases Nat.decEq j i with hji | hji
    rotate_left
    · subst hji; exact hy.wpOp hi hS ⟨fun _ => hS, H⟩
    have hjL : j ≠ L := fun e => not_ahead hL hw hr (e ▸ hj)
    have hj2 := ready_mono hj hji
    cases n with
    | zero => rw [H.1] at hj2; cases hj2
    | succ n =>
      have h1 := H.2 j hj2
      obtain ⟨hjun, oj, hoj, hall⟩ := mem_ready.1 hj
      have hno : ∀ e ∈ oj.after, Region.binds md e = true → e.on ≠ i := fun e he hb heq => by
        refine not_ahead hoj ?_ hr hj
        exact Array.any_eq_true'.2 ⟨e, he, by simp [hb, heq]⟩
      have h2 := wpOp_putIf hoj (hfree j oj hoj hji hjun hno) (fun cs b => hsel i oi cs b hi) (fun cs b => hsel j oj cs b hoj) hQ hy h1
      refine wpOp_mono (fun a' w' k => ⟨fun h => k.2.1 h, Till.first hi hsel hL hw hQ n (l.setIfInBounds j true) a' w' (fun q oq hq hqi hun hn => ?_) (ready_mono hr (Ne.symm hji)) k.1 (k.2.1 hjL) ?_⟩) h2
      · refine hfree q oq hq hqi ?_ hn
        by_cases e : j = q
        · subst e; exact hjun
        · rwa [getD_set_ne true e] at hun
      · rw [Array.setIfInBounds_comm _ _ hji]; exact k.2.2
theorem Till.take {i : Nat} {oi oL : Oper} {v : Value} {n : Nat} {l : Array Bool} {a : Act} {w : World} (hi : ops[i]? = some oi) (hs : Region.noSelect ops = true) (hf : Region.free md ops l i = true) (hr : (Region.ready md ops l).contains i = true)
    (hL : ops[L]? = some oL) (hw : (oL.after.any fun e => Region.binds md e && e.on == i) = true) (hQ : ∀ c a w, Q (.panic c) (a.put oi.dst v) w → Q (.panic c) a w) (hy : YieldsIf P ops S oi v a) (hS : S w)
    (h : Till P md ops Q S L n (l.setIfInBounds i true) (a.put oi.dst v) w) : Till P md ops Q S L (n + 1) l a w :=
  Till.first hi (Region.noSelect_spec hs) hL hw hQ n l a w (Region.free_spec hi hf) (by simpa using hr) hy hS h
/-- What follows one operation that is carried out. -/
def Then (P : Program) (md : Region.Mode) (ops : Array Oper) (Q : Exit → Act → World → Prop) (S : World → Prop) (L n : Nat) (l : Array Bool) (a : Act) (w : World) (i : Nat) : Prop :=
  wpOp P ops Q i (fun a' w' => (i ≠ L → S w') ∧ Till P md ops Q S L n (l.setIfInBounds i true) a' w') a w
theorem Then.of {n : Nat} {l : Array Bool} {a : Act} {w : World} {i : Nat} {o : Oper} (ho : ops[i]? = some o)
    (h : ∀ K' : Act → World → Prop, Shut (∀ a w, (i ≠ L → S w) → (S w ∨ i = L → Till P md ops Q S L n (l.setIfInBounds i true) a w) → K' a w) → if Region.wanted o (yielded ops a.tmps) = true then Oper.wp P o a w K' Q else K' (a.put o.dst undef) w) : Then P md ops Q S L n l a w i :=
  wpOp_step ho (fun K' hK => h K' (fun a w hS hW => hK a w ⟨hS, hW (by
    by_cases e : i = L
    · exact .inr e
    · exact .inl (hS e))⟩))
theorem Till.one {n : Nat} {l : Array Bool} {a : Act} {w : World} {i : Nat} (hr : Region.ready md ops l = [i]) (h : Then P md ops Q S L n l a w i) : Till P md ops Q S L (n + 1) l a w :=
  ⟨fun h0 => (by rw [hr] at h0; cases h0), fun j hj => by rw [hr, List.mem_singleton] at hj; subst hj; exact h⟩
theorem Till.two {n : Nat} {l : Array Bool} {a : Act} {w : World} {i k : Nat} (hr : Region.ready md ops l = [i, k]) (h : Then P md ops Q S L n l a w i) (g : Then P md ops Q S L n l a w k) : Till P md ops Q S L (n + 1) l a w :=
  ⟨fun h0 => (by rw [hr] at h0; cases h0), fun j hj => by
    rw [hr] at hj
    rcases List.mem_cons.1 hj with rfl | hj
    · exact h
    · rw [List.mem_singleton] at hj; subst hj; exact g⟩
theorem Till.done {l : Array Bool} {a : Act} {w : World} (hr : Region.ready md ops l = []) (h : Q .normal a w) : ∀ n, Till P md ops Q S L n l a w
  | 0 => ⟨hr, h⟩
  | _ + 1 => ⟨fun _ => h, by rw [hr]; simp⟩
end
end Go.Proofs.YtaibfefmehhldaaGreatDoor

namespace Go.Proofs.YtaibfefmehhldaaGreatDoor.Body
open Go.RowKit Go.Proofs.YtaibfefmehhldaaGreatDoor.Instr

theorem drewn {B : Nat} {a w : World} (h : Below B a w) (n : Nat) : Below B a (w.drewN n) := ⟨h.os, h.tape, h.output, h.size, h.block⟩

/-- Eight cells of an instruction. -/
def Eight (x : Ix) (b off : Nat) (w : World) : Prop :=
  w.cell? ⟨b, off, none⟩ = some (.int .i64 x.op) ∧ w.cell? ⟨b, off + 1, none⟩ = some (.int .i64 x.res) ∧ w.cell? ⟨b, off + 2, none⟩ = some (.int .u32 x.a) ∧ w.cell? ⟨b, off + 3, none⟩ = some (.int .u32 x.b) ∧
    w.cell? ⟨b, off + 4, none⟩ = some (.int .i32 x.n) ∧ w.cell? ⟨b, off + 5, none⟩ = some (.slice x.ta x.tags.length x.tc) ∧ w.cell? ⟨b, off + 6, none⟩ = some (.slice x.la x.ln x.lc) ∧ w.cell? ⟨b, off + 7, none⟩ = some (.slice x.ea x.en x.ec)
/-- What two equal lists have ahead, from the k-th on. -/
def Pair (n₀ n k m : Nat) (a1 a2 : Option Addr) (w : World) : Prop :=
  k = n ∨ ∃ b1 o1 b2 o2 r s, a1 = some ⟨b1, o1, none⟩ ∧ a2 = some ⟨b2, o2, none⟩ ∧ Items n₀ w b1 (o1 + k * 8) r ∧ Items n₀ w b2 (o2 + k * 8) s ∧ Il.bare r = Il.bare s ∧ r.len + k = n ∧ r.count ≤ m + 1
theorem Pair.below {n₀ n k m : Nat} {a1 a2 : Option Addr} {w w' : World} (h : Pair n₀ n k m a1 a2 w) (hb : Below n₀ w w') : Pair n₀ n k m a1 a2 w' := by
  rcases h with h | ⟨b1, o1, b2, o2, r, s, h1, h2, h3, h4, h5⟩
  · exact .inl h
  · exact .inr ⟨b1, o1, b2, o2, r, s, h1, h2, h3.below hb, h4.below hb, h5⟩
theorem two_boxes (w : World) (x y : Ix) : At x w.heap.size (((w.alloc (.cells x.vals 87)).alloc (.cells y.vals 87)).drew) ∧ At y (w.heap.size + 1) (((w.alloc (.cells x.vals 87)).alloc (.cells y.vals 87)).drew) ∧
    Below w.heap.size w (((w.alloc (.cells x.vals 87)).alloc (.cells y.vals 87)).drew) := by
  have hb : Below w.heap.size w (((w.alloc (.cells x.vals 87)).alloc (.cells y.vals 87)).drew) :=
    drewn ((((Below.refl w.heap.size w).alloc (Nat.le_refl _) _)).alloc (by simp) _) 1
  have h1 : At x w.heap.size ((w.alloc (.cells x.vals 87)).alloc (.cells y.vals 87)) := (At.made x w).below ((Below.refl _ _).alloc (Nat.le_refl _) _)
  have h2 : At y (w.alloc (.cells x.vals 87)).heap.size ((w.alloc (.cells x.vals 87)).alloc (.cells y.vals 87)) := At.made y _
  rw [World.size_alloc] at h2
  exact ⟨⟨h1.c0, h1.c1, h1.c2, h1.c3, h1.c4, h1.c5, h1.c6, h1.c7⟩, ⟨h2.c0, h2.c1, h2.c2, h2.c3, h2.c4, h2.c5, h2.c6, h2.c7⟩, hb⟩

end Go.Proofs.YtaibfefmehhldaaGreatDoor.Body

namespace Go.Proofs.YtaibfefmehhldaaGreatDoor.Kind
open Go.RowKit

theorem eqType (a b c d : Int) (w : World) : (Op.equalIn 10000 59 (.agg #[.int .i64 a, .int .i64 b]) (.agg #[.int .i64 c, .int .i64 d])).run Tryz.prog w = .ok (a == c && b == d) w := by
  have u3 := Tryz.underlying3
  have a3 := Tryz.isAgg3
  have z3 := Tryz.sizeOf3
  have hS : Tryz.prog.underlying 59 = some (.struct (Tryz.prog.fieldsOf 59)) := by kernel_rfl
  have hp : Tryz.prog.stoodInHeld 59 = false := by kernel_rfl
  rw [show (10000 : Nat) = 9999 + 1 from rfl, run_equalIn_agg w 9999 59 _ _ hS hp]
  simp only [Program.fieldsOf, Tryz.underlying59]
  go_simp
  by_cases h1 : a = c <;> by_cases h2 : b = d <;> simp [h1, h2]
theorem guardType (op : BinOp) (x y : Operand) (xs ys : Array Value) (w : World) : (eqGuard op 59 x y (.agg xs) (.agg ys)).run Tryz.prog w = .ok () w :=
  run_eqGuard_agg w op _ x y xs ys (by kernel_rfl)
theorem eqLim (a b c d : Int) (s t : Bool) (w : World) : (Op.equalIn 10000 68 (.agg #[.int .u32 a, .int .u32 b, .bool s]) (.agg #[.int .u32 c, .int .u32 d, .bool t])).run Tryz.prog w = .ok (a == c && b == d && s == t) w := by
  have u3 := Tryz.underlying28
  have a3 := Tryz.isAgg28
  have z3 := Tryz.sizeOf28
  have u4 := Tryz.underlying4
  have a4 := Tryz.isAgg4
  have z4 := Tryz.sizeOf4
  have hS : Tryz.prog.underlying 68 = some (.struct (Tryz.prog.fieldsOf 68)) := by kernel_rfl
  have hp : Tryz.prog.stoodInHeld 68 = false := by kernel_rfl
  rw [show (10000 : Nat) = 9999 + 1 from rfl, run_equalIn_agg w 9999 68 _ _ hS hp]
  simp only [Program.fieldsOf, Tryz.underlying68]
  go_simp
  by_cases h1 : a = c <;> by_cases h2 : b = d <;> by_cases h3 : s = t <;> simp [h1, h2, h3]
theorem guardLim (op : BinOp) (x y : Operand) (xs ys : Array Value) (w : World) : (eqGuard op 68 x y (.agg xs) (.agg ys)).run Tryz.prog w = .ok () w :=
  run_eqGuard_agg w op _ x y xs ys (by kernel_rfl)
end Go.Proofs.YtaibfefmehhldaaGreatDoor.Kind

namespace Go.Proofs.YtaibfefmehhldaaGreatDoor
open Go.RowKit

theorem strOf_inj {xs ys : List Int} (hx : ∀ z ∈ xs, 0 ≤ z ∧ z < 256) (hy : ∀ z ∈ ys, 0 ≤ z ∧ z < 256) (h : xs.map (fun n => UInt8.ofNat n.toNat) = ys.map (fun n => UInt8.ofNat n.toNat)) : xs = ys := by
  induction xs generalizing ys with
  | nil => cases ys <;> simp_all
  | cons x xs ih =>
    cases ys with
    | nil => simp at h
    | cons y ys =>
      simp only [List.map_cons, List.cons.injEq] at h
      have h1 := hx x (by simp)
      have h2 := hy y (by simp)
      have h3 := congrArg UInt8.toNat h.1
      simp only [UInt8.toNat_ofNat'] at h3
      have : x = y := by omega
      rw [this, ih (fun z hz => hx z (by simp [hz])) (fun z hz => hy z (by simp [hz])) h.2]

theorem SameBytes_any (a1 a2 : Option Addr) (l1 c1 l2 c2 : Nat) (xs ys : List Int) (w : World) (hl1 : xs.length = l1) (hl2 : ys.length = l2) (hx : Bytes w a1 xs) (hy : Bytes w a2 ys) :
    Calls Tryz.prog 49 #[.slice a1 l1 c1, .slice a2 l2 c2] w fun e w' => e = .returned (.bool (decide (xs = ys))) ∧ w = w' := by
  have e1 := str_of hx l1 c1 hl1
  have e2 := str_of hy l2 c2 hl2
  have HE : Hid (((strOfNums xs).toList == (strOfNums ys).toList) = decide (xs = ys)) := by
    show (_ == _) = decide _
    by_cases h : xs = ys
    · subst h; simp
    · have : ¬ (strOfNums xs).toList = (strOfNums ys).toList := fun hh => h (strOf_inj hx.byte hy.byte (by rw [ByteArray.toList_eq, ByteArray.toList_eq, strOfNums_data, strOfNums_data] at hh; exact hh))
      simp [h, this]
  clear hl1 hl2
  go_enter Tryz.func49, Tryz.ntmps49
  go_wp2
  go_ret
  exact ⟨ret_bool HE.out, rfl⟩
end Go.Proofs.YtaibfefmehhldaaGreatDoor

namespace Go.Proofs.YtaibfefmehhldaaGreatDoor.Mod
open Go.RowKit Go.Proofs.YtaibfefmehhldaaGreatDoor.Instr

theorem Ov.set {lo hi : Nat} {w : World} {b o : Nat} {v u : Value} (hb : Blk lo hi w b) (hc : w.cell? ⟨b, o, none⟩ = some v) (hr : KRel v u) : Ov lo hi w (w.setCell ⟨b, o, none⟩ u) := by
  refine ⟨(Kept.refl lo hi w).setCell (p := ⟨b, o, none⟩) hb.1 hb.2.1 u, fun q j x hx => ?_, fun q hq => ?_⟩
  · by_cases e : (⟨b, o, none⟩ : Addr) = ⟨q, j, none⟩
    · simp only [Addr.mk.injEq, and_true] at e
      obtain ⟨rfl, rfl⟩ := e
      rw [hc] at hx
      cases hx
      exact ⟨u, World.cell?_setCell_same _ _ _ hc, hr⟩
    · exact ⟨x, (World.cell?_setCell_other _ _ _ _ e).trans hx, .same x⟩
  · by_cases e : q = b
    · subst e
      obtain ⟨cs, t, h⟩ := hq
      exact ⟨_, _, heap_setCell_same w q o cs t u h⟩
    · obtain ⟨cs, t, h⟩ := hq
      exact ⟨cs, t, (Below.heap_setCell w ⟨b, o, none⟩ u q e).trans h⟩
/-- Cells set one by one, each to a value of its kind. -/
theorem Ov.sets {lo hi b : Nat} : ∀ (us : List Value) (o : Nat) (w : World), Blk lo hi w b → (∀ j u, us[j]? = some u → ∃ v, w.cell? ⟨b, o + j, none⟩ = some v ∧ KRel v u) → Ov lo hi w (w.setCells b o us)
  | [], _, w, _, _ => Ov.refl _ _ w
  | u :: r, o, w, hb, h => by
    obtain ⟨v, h1, h2⟩ := h 0 u rfl
    have s := Ov.set (o := o) hb h1 h2
    refine s.trans (Ov.sets r (o + 1) _ (hb.ov s) fun j z hz => ?_)
    obtain ⟨v', h3, h4⟩ := h (j + 1) z hz
    refine ⟨v', ?_, h4⟩
    rw [show o + 1 + j = o + (j + 1) by omega]
    exact (World.cell?_setCell_other _ _ _ _ (by simp)).trans h3
theorem ItemsO.item {lo hi : Nat} {w : World} : ∀ {t : Il} {b off i : Nat}, ItemsO lo hi w b off t → i < t.len → ∃ (x : Ix) (l e : Il), Blk lo hi w b ∧ x.ok ∧ (∀ j v, x.vals[j]? = some v → w.cell? ⟨b, off + i * 8 + j, none⟩ = some v) ∧ TagsO lo hi w x.ta x.tags ∧ ListO lo hi w x.la x.ln l ∧ ListO lo hi w x.ea x.en e ∧ l.count < t.count ∧ e.count < t.count
  | .nil, _, _, _, _, h => absurd h (Nat.not_lt_zero _)
  | .cons x l e r, b, off, 0, ⟨hb, hx, hc, ht, hl, he, _⟩, _ => ⟨x, l, e, hb, hx, fun j v h => by rw [Nat.zero_mul, Nat.add_zero]; exact hc j v h, ht, ⟨hl.1, hl.2⟩, ⟨he.1, he.2⟩, by simp only [Il.count]; omega, by simp only [Il.count]; omega⟩
  | .cons x l e r, b, off, i + 1, ⟨_, _, _, _, _, _, hr⟩, h => by
    obtain ⟨y, l', e', h1, h2, h3, h4, h5, h6, h7, h8⟩ := ItemsO.item (i := i) hr (by simp only [Il.len] at h; omega)
    exact ⟨y, l', e', h1, h2, fun j v g => by rw [show off + (i + 1) * 8 = off + 8 + i * 8 by omega]; exact h3 j v g, h4, h5, h6, by simp only [Il.count]; omega, by simp only [Il.count]; omega⟩
theorem ListO.item {lo hi b off n i : Nat} {w : World} {t : Il} (h : ListO lo hi w (some ⟨b, off, none⟩) n t) (hi' : i < n) : ∃ (x : Ix) (l e : Il), Blk lo hi w b ∧ x.ok ∧ (∀ j v, x.vals[j]? = some v → w.cell? ⟨b, off + i * 8 + j, none⟩ = some v) ∧ TagsO lo hi w x.ta x.tags ∧ ListO lo hi w x.la x.ln l ∧ ListO lo hi w x.ea x.en e ∧ l.count < t.count ∧ e.count < t.count := by
  obtain ⟨h1, h2⟩ := h
  rcases h2 with rfl | ⟨b', o', h3, h4⟩
  · simp only [Il.len] at h1; omega
  · simp only [Option.some.injEq, Addr.mk.injEq, and_true] at h3
    obtain ⟨rfl, rfl⟩ := h3
    exact h4.item (by omega)
theorem ListO.some_at {lo hi n : Nat} {w : World} {a : Option Addr} {t : Il} (h : ListO lo hi w a n t) (hn : 0 < n) : ∃ b off, a = some ⟨b, off, none⟩ := by
  obtain ⟨h1, h2⟩ := h
  rcases h2 with rfl | ⟨b', o', h3, _⟩
  · simp only [Il.len] at h1; omega
  · exact ⟨b', o', h3⟩
theorem TagsO.item {lo hi i : Nat} {w : World} {a : Option Addr} {zs : List Int} (h : TagsO lo hi w a zs) (hi' : i < zs.length) : ∃ b off, a = some ⟨b, off, none⟩ ∧ Blk lo hi w b ∧ w.cell? ⟨b, off + i, none⟩ = some (.int .u32 (zs.getD i 0)) := by
  rcases h with rfl | ⟨b, off, ha, hb, hc⟩
  · exact absurd hi' (Nat.not_lt_zero _)
  · exact ⟨b, off, ha, hb, hc i hi'⟩
theorem Blk.frozen {lo hi : Nat} {w : World} {b : Nat} (h : Blk lo hi w b) (j : Nat) : w.frozen? ⟨b, j, none⟩ = false := by
  obtain ⟨_, _, cs, e, h⟩ := h
  exact frozen_of_row w b j cs e h
/-- OverInstrs, of lists of fewer than m instructions. -/
def OverC (lo hi m : Nat) : Prop := ∀ (t : Il) (a : Option Addr) (n c : Nat) (w : World), t.count < m → ListO lo hi w a n t → lo ≤ w.heap.size → n ≤ 140737488351232 →
    Calls Tryz.prog 28 #[.slice a n c] w fun e w' => e = .returned (.tuple #[]) ∧ Ov lo hi w w'
set_option maxRecDepth 100000 in
set_option maxHeartbeats 4000000 in
theorem overC (lo hi : Nat) : ∀ m, OverC lo hi m := by
  intro m
  induction m with
  | zero => intro t a n c w hm; omega
  | succ m ih =>
    intro t a n c w hm hl hlo hn
    by_cases hn0 : n = 0
    · subst hn0
      clear hl hm ih hn
      go_enter Tryz.func28, Tryz.ntmps28
      go_wp2
      go_loopw [2] (fun vi wr => vi = .int .i64 0 ∧ wr = w) (fun _ _ => 0)
      case atStart => exact ⟨rfl, rfl⟩
      case round =>
        obtain ⟨rfl, rfl⟩ := hrel
        go_wp2
        go_end0
        exact ⟨rfl, Ov.refl _ _ _⟩
    · obtain ⟨b, off, rfl⟩ := hl.some_at (by omega)
      have HL := hid hl
      have HM := hid hm
      have IH := hid ih
      have HLO := hid hlo
      clear hl hm ih hlo hn0
      go_enter Tryz.func28, Tryz.ntmps28
      go_wp2
      go_loopw [2] (fun vi wr => ∃ i : Nat, vi = .int .i64 i ∧ i ≤ n ∧ Hid (Ov lo hi w wr)) (fun vi _ => n - (intOf vi).toNat)
      case atStart => exact ⟨0, rfl, Nat.zero_le _, Ov.refl _ _ _⟩
      case round =>
        obtain ⟨i, rfl, hin, HO⟩ := hrel
        by_cases hlt : i < n
        · have hii : (i : Int) < (n : Int) := by omega
          obtain ⟨la, ln, lc, c6, C1⟩ : ∃ (la : Option Addr) (ln lc : Nat), wr.cell? ⟨b, off + i * 8 + 6, none⟩ = some (.slice la ln lc) ∧ Hid (Calls Tryz.prog 28 #[.slice la ln lc] wr fun e w' => e = .returned (.tuple #[]) ∧ Ov lo hi wr w') := by
            obtain ⟨u, hu, hU⟩ := HL.out.ov HO.out
            obtain ⟨x, l, e, hB, hok, hc, htg, hl, he, cl, ce⟩ := hU.item hlt
            exact ⟨x.la, x.ln, x.lc, hc 6 _ rfl, IH.out l x.la x.ln x.lc wr (by have := HM.out; omega) hl (Nat.le_trans HLO.out HO.out.kept.below.size) hok.ln⟩
          go_wp2_with fail
          refine C1.out.mono ?_
          rintro r w2 ⟨rfl, ho2⟩
          have HO2 := hid (HO.out.trans ho2)
          clear C1 c6 ho2 HO
          obtain ⟨ea, en, ec, c7, C2⟩ : ∃ (la : Option Addr) (ln lc : Nat), w2.cell? ⟨b, off + i * 8 + 7, none⟩ = some (.slice la ln lc) ∧ Hid (Calls Tryz.prog 28 #[.slice la ln lc] w2 fun e w' => e = .returned (.tuple #[]) ∧ Ov lo hi w2 w') := by
            obtain ⟨u, hu, hU⟩ := HL.out.ov HO2.out
            obtain ⟨x, l, e, hB, hok, hc, htg, hl, he, cl, ce⟩ := hU.item hlt
            exact ⟨x.ea, x.en, x.ec, hc 7 _ rfl, IH.out e x.ea x.en x.ec w2 (by have := HM.out; omega) he (Nat.le_trans HLO.out HO2.out.kept.below.size) hok.en⟩
          go_wp2_with fail
          refine C2.out.mono ?_
          rintro r w3 ⟨rfl, ho3⟩
          have HO3 := hid (HO2.out.trans ho3)
          clear C2 c7 ho3 HO2
          go_wp2
          go_loopw [3] (fun vi wq => ∃ k : Nat, vi = .int .i64 k ∧ k ≤ 140737488351232 ∧ Hid (Ov lo hi w wq)) (fun vi _ => 140737488351232 - (intOf vi).toNat)
          case atStart => exact ⟨0, rfl, Nat.zero_le _, HO3⟩
          case round =>
            clear HO3
            obtain ⟨k, rfl, hk, HO⟩ := hrel
            obtain ⟨u, hu, hU⟩ := HL.out.ov HO.out
            obtain ⟨x, l, e, hB, hok, hc, htg, hl, he, cl, ce⟩ := hU.item hlt
            have c5 : wr.cell? ⟨b, off + i * 8 + 5, none⟩ = some (.slice x.ta x.tags.length x.tc) := hc 5 _ rfl
            obtain ⟨tn, htn⟩ : ∃ n, x.tags.length = n := ⟨_, rfl⟩
            have hbt : tn ≤ 140737488351232 := by rw [← htn]; exact hok.tn
            by_cases hkt : k < tn
            · obtain ⟨bt, ot, hta, hBt, hct⟩ := htg.item (i := k) (by omega)
              rw [htn, hta] at c5
              have fz := hBt.frozen (ot + k)
              have HO2 := hid (HO.out.trans (Ov.set hBt hct (.u32 _ 77 (by omega) (by omega))))
              have hkk : (k : Int) < (tn : Int) := by omega
              obtain ⟨z, hz⟩ : ∃ z, x.tags.getD k 0 = z := ⟨_, rfl⟩
              rw [hz] at hct
              clear hU hB hok hc htg hl he cl ce hu hBt htn hta hz HO
              go_wp2
              go_roundw
              case rel => exact ⟨k + 1, by go_num, by omega, HO2⟩
              case measure => simp [intOf]; omega
            · have hkk : ¬ (k : Int) < (tn : Int) := by omega
              have z0 := hB.frozen (off + i * 8)
              have c0 : wr.cell? ⟨b, off + i * 8, none⟩ = some (.int .i64 x.op) := hc 0 _ rfl
              have z1 := hB.frozen (off + i * 8 + 1)
              have c1 : wr.cell? ⟨b, off + i * 8 + 1, none⟩ = some (.int .i64 x.res) := hc 1 _ rfl
              have z2 := hB.frozen (off + i * 8 + 2)
              have c2 : wr.cell? ⟨b, off + i * 8 + 2, none⟩ = some (.int .u32 x.a) := hc 2 _ rfl
              have z3 := hB.frozen (off + i * 8 + 3)
              have c3 : wr.cell? ⟨b, off + i * 8 + 3, none⟩ = some (.int .u32 x.b) := hc 3 _ rfl
              have z4 := hB.frozen (off + i * 8 + 4)
              have c4 : wr.cell? ⟨b, off + i * 8 + 4, none⟩ = some (.int .i32 x.n) := hc 4 _ rfl
              have z5 := hB.frozen (off + i * 8 + 5)
              have z6 := hB.frozen (off + i * 8 + 6)
              have c6 : wr.cell? ⟨b, off + i * 8 + 6, none⟩ = some (.slice x.la x.ln x.lc) := hc 6 _ rfl
              have z7 := hB.frozen (off + i * 8 + 7)
              have c7 : wr.cell? ⟨b, off + i * 8 + 7, none⟩ = some (.slice x.ea x.en x.ec) := hc 7 _ rfl
              have HS := hid (Ov.sets [.int .i64 999, .int .i64 0, .int .u32 0, .int .u32 0, .int .i32 0, .slice none 0 0, .slice none 0 0, .slice none 0 0] (off + i * 8) wr hB (fun j u hj => by
                match j with
                | 0 => cases hj; exact ⟨_, hc 0 _ rfl, .i64 _ 999 (by omega) (by omega)⟩
                | 1 => cases hj; exact ⟨_, hc 1 _ rfl, .i64 _ 0 (by omega) (by omega)⟩
                | 2 => cases hj; exact ⟨_, hc 2 _ rfl, .u32 _ 0 (by omega) (by omega)⟩
                | 3 => cases hj; exact ⟨_, hc 3 _ rfl, .u32 _ 0 (by omega) (by omega)⟩
                | 4 => cases hj; exact ⟨_, hc 4 _ rfl, .i32 _ 0 (by omega) (by omega)⟩
                | 5 => cases hj; exact ⟨_, hc 5 _ rfl, .slice _ _ _⟩
                | 6 => cases hj; exact ⟨_, hc 6 _ rfl, .slice _ _ _⟩
                | 7 => cases hj; exact ⟨_, hc 7 _ rfl, .slice _ _ _⟩
                | j + 8 => simp at hj))
              have HO2 := hid (HO.out.trans HS.out)
              rw [htn] at c5
              clear hU hB hok hc htg hl he cl ce hu htn HO HS
              go_wp2
              go_roundw
              case rel => exact ⟨i + 1, by go_num, by omega, HO2⟩
              case measure => simp [intOf]; omega
        · obtain rfl : i = n := by omega
          go_wp2
          go_end0
          exact ⟨rfl, HO.out⟩
end Go.Proofs.YtaibfefmehhldaaGreatDoor.Mod

namespace Go.Proofs.YtaibfefmehhldaaGreatDoor.Mod
open Go.RowKit Go.Proofs.YtaibfefmehhldaaGreatDoor.Instr

set_option maxRecDepth 100000 in
set_option maxHeartbeats 2000000 in
theorem overB_any (lo hi : Nat) (a : Option Addr) (n c : Nat) (w : World) (h : RoomO lo hi w a n c) :
    Calls Tryz.prog 29 #[.slice a n c] w fun e w' => e = .returned (.tuple #[]) ∧ Ov lo hi w w' := by
  have HC := hid h.2.1
  have hcb := h.2.1
  have hnc := h.1
  have hni : (n : Int) ≤ (c : Int) := by omega
  by_cases h0 : c = 0
  · subst h0
    obtain rfl : n = 0 := by omega
    clear hni
    rcases h.2.2 with ⟨rfl, _⟩ | ⟨b, off, rfl, _, _⟩ <;> clear h
    all_goals
      go_enter Tryz.func29, Tryz.ntmps29
      go_wp2
      go_loopw [3] (fun vi wr => vi = .int .i64 0 ∧ wr = w) (fun _ _ => 0)
      case atStart => exact ⟨rfl, rfl⟩
      case round =>
        obtain ⟨rfl, rfl⟩ := hrel
        go_wp2
        go_end0
        exact ⟨rfl, Ov.refl _ _ _⟩
  · have HR := hid h
    obtain ⟨b, off, rfl⟩ : ∃ b off, a = some ⟨b, off, none⟩ := by
      rcases h.2.2 with ⟨_, h⟩ | ⟨b, off, h, _, _⟩
      · exact absurd h h0
      · exact ⟨b, off, h⟩
    clear h
    go_enter Tryz.func29, Tryz.ntmps29
    go_wp2
    go_loopw [3] (fun vi wr => ∃ i : Nat, vi = .int .i64 i ∧ i ≤ c ∧ Hid (Ov lo hi w wr)) (fun vi _ => c - (intOf vi).toNat)
    case atStart => exact ⟨0, rfl, Nat.zero_le _, Ov.refl _ _ _⟩
    case round =>
      obtain ⟨i, rfl, hi', HO⟩ := hrel
      by_cases hlt : i < c
      · have hii : (i : Int) < (c : Int) := by omega
        obtain ⟨z, cz, fz, HS⟩ : ∃ z, wr.cell? ⟨b, off + i, none⟩ = some (.int .u8 z) ∧ wr.frozen? ⟨b, off + i, none⟩ = false ∧ Hid (∀ y : Int, Ov lo hi w (wr.setCell ⟨b, off + i, none⟩ (.int .u8 y))) := by
          have hr := HR.out.ov HO.out
          rcases hr.2.2 with ⟨h, _⟩ | ⟨b', o', h1, h2, h3⟩
          · cases h
          · simp only [Option.some.injEq, Addr.mk.injEq, and_true] at h1
            obtain ⟨rfl, rfl⟩ := h1
            obtain ⟨z, hz⟩ := h3 i hlt
            exact ⟨z, hz, h2.frozen _, hid fun y => HO.out.trans (Ov.set h2 hz (.u8 _ y))⟩
        clear HO
        go_wp2
        go_roundw
        case rel => exact ⟨i + 1, by go_num, by omega, HS.out _⟩
        case measure => simp [intOf]; omega
      · obtain rfl : i = c := by omega
        go_wp2
        go_end0
        exact ⟨rfl, HO.out⟩
end Go.Proofs.YtaibfefmehhldaaGreatDoor.Mod

namespace Go.Proofs.YtaibfefmehhldaaGreatDoor.Mod
open Go.RowKit Go.Proofs.YtaibfefmehhldaaGreatDoor.Instr

/-- What a cell of a row holds. -/
inductive Kd where
  | i64 | u32 | bool | str | lst | tags | room
def CellO (lo hi : Nat) (w : World) : Kd → Value → Prop
  | .i64, v => ∃ x, v = .int .i64 x
  | .u32, v => ∃ x, v = .int .u32 x
  | .bool, v => ∃ x, v = .bool x
  | .str, v => ∃ x, v = .string x
  | .lst, v => ∃ a n c t, v = .slice a n c ∧ ListO lo hi w a n t ∧ n ≤ 140737488351232
  | .tags, v => ∃ a n c zs, v = .slice a n c ∧ zs.length = n ∧ TagsO lo hi w a zs ∧ (∀ z ∈ zs, 0 ≤ z ∧ z < 4294967296) ∧ n ≤ 140737488351232
  | .room, v => ∃ a n c, v = .slice a n c ∧ RoomO lo hi w a n c
theorem CellO.ov {lo hi : Nat} {w w' : World} (o : Ov lo hi w w') {k : Kd} {v v' : Value} (h : CellO lo hi w k v) (r : KRel v v') : CellO lo hi w' k v' := by
  cases k with
  | i64 => obtain ⟨x, rfl⟩ := h; obtain ⟨y, rfl, _⟩ := r.i64_of; exact ⟨y, rfl⟩
  | u32 => obtain ⟨x, rfl⟩ := h; obtain ⟨y, rfl, _⟩ := r.u32_of; exact ⟨y, rfl⟩
  | bool =>
    obtain ⟨x, rfl⟩ := h
    cases r with
    | same => exact ⟨x, rfl⟩
    | bool => exact ⟨false, rfl⟩
  | str =>
    obtain ⟨x, rfl⟩ := h
    cases r with
    | same => exact ⟨x, rfl⟩
    | str _ t _ => exact ⟨t, rfl⟩
  | lst =>
    obtain ⟨a, n, c, t, rfl, h1, h2⟩ := h
    rcases r.slice_of with rfl | rfl
    · obtain ⟨u, _, hu⟩ := h1.ov o
      exact ⟨a, n, c, u, rfl, hu, h2⟩
    · exact ⟨none, 0, 0, .nil, rfl, ⟨rfl, .inl rfl⟩, Nat.zero_le _⟩
  | tags =>
    obtain ⟨a, n, c, zs, rfl, h1, h2, h3, h4⟩ := h
    rcases r.slice_of with rfl | rfl
    · obtain ⟨ys, g1, g2, g3⟩ := h2.ov o h3
      exact ⟨a, n, c, ys, rfl, by omega, g2, g3, h4⟩
    · exact ⟨none, 0, 0, [], rfl, rfl, .inl rfl, by simp, Nat.zero_le _⟩
  | room =>
    obtain ⟨a, n, c, rfl, h1⟩ := h
    rcases r.slice_of with rfl | rfl
    · exact ⟨a, n, c, rfl, h1.ov o⟩
    · exact ⟨none, 0, 0, rfl, Nat.le_refl _, by omega, .inl ⟨rfl, rfl⟩⟩
/-- This many rows of such cells. -/
def RowO (lo hi : Nat) (w : World) (ks : List Kd) (a : Option Addr) (n : Nat) : Prop :=
  n = 0 ∨ ∃ b off, a = some ⟨b, off, none⟩ ∧ Blk lo hi w b ∧ ∀ i, i < n → ∀ j k, ks[j]? = some k → ∃ v, w.cell? ⟨b, off + i * ks.length + j, none⟩ = some v ∧ CellO lo hi w k v
theorem RowO.ov {lo hi n : Nat} {w w' : World} (o : Ov lo hi w w') {ks : List Kd} {a : Option Addr} (h : RowO lo hi w ks a n) : RowO lo hi w' ks a n := by
  rcases h with h | ⟨b, off, h1, h2, h3⟩
  · exact .inl h
  · refine .inr ⟨b, off, h1, h2.ov o, fun i hi j k hk => ?_⟩
    obtain ⟨v, g1, g2⟩ := h3 i hi j k hk
    obtain ⟨v', g3, g4⟩ := o.cells b _ v g1
    exact ⟨v', g3, g2.ov o g4⟩
theorem RowO.item {lo hi n i : Nat} {w : World} {ks : List Kd} {a : Option Addr} (h : RowO lo hi w ks a n) (hi' : i < n) : ∃ b off, a = some ⟨b, off, none⟩ ∧ Blk lo hi w b ∧ ∀ j k, ks[j]? = some k → ∃ v, w.cell? ⟨b, off + i * ks.length + j, none⟩ = some v ∧ CellO lo hi w k v := by
  rcases h with h | ⟨b, off, h1, h2, h3⟩
  · omega
  · exact ⟨b, off, h1, h2, h3 i hi'⟩
/-- A module in blocks of its own. -/
structure ModO (lo hi : Nat) (w : World) (m : Md) : Prop where
  ty : RowO lo hi w [.i64, .i64] m.ty'.a m.ty.length
  im : RowO lo hi w [.str, .str, .i64] m.im'.a m.im.length
  fu : RowO lo hi w [.i64, .i64, .lst] m.fu'.a m.fu.length
  gl : RowO lo hi w [.bool, .lst] m.gl'.a m.gl.length
  ex : RowO lo hi w [.str, .i64, .u32] m.ex'.a m.ex.length
  el : RowO lo hi w [.lst, .tags] m.el'.a m.el.length
  da : RowO lo hi w [.lst, .room] m.da'.a m.da.length
theorem over_lst {lo hi : Nat} {w : World} {v : Value} (h : CellO lo hi w .lst v) (hlo : lo ≤ w.heap.size) : ∃ a n c, v = .slice a n c ∧ Calls Tryz.prog 28 #[.slice a n c] w fun e w' => e = .returned (.tuple #[]) ∧ Ov lo hi w w' := by
  obtain ⟨a, n, c, t, rfl, h1, h2⟩ := h
  exact ⟨a, n, c, rfl, overC lo hi (t.count + 1) t a n c w (Nat.lt_succ_self _) h1 hlo h2⟩

set_option maxRecDepth 100000 in
set_option maxHeartbeats 8000000 in
theorem overW_any (lo hi : Nat) (m : Md) (w : World) (h : ModO lo hi w m) (hlo : lo ≤ hi) (hhi : hi ≤ w.heap.size) (hf : m.fits) :
    Calls Tryz.prog 9 #[.agg m.v] w fun e w' => e = .returned (.tuple #[]) ∧ ∃ w0, w0 = w.alloc (.cells m.v 32) ∧ Ov lo hi w0 w' := by
  have Hty := hid h.ty
  have bty := hf.ty
  have Him := hid h.im
  have bim := hf.im
  have Hfu := hid h.fu
  have bfu := hf.fu
  have Hgl := hid h.gl
  have bgl := hf.gl
  have Hex := hid h.ex
  have bex := hf.ex
  have Hel := hid h.el
  have bel := hf.el
  have Hda := hid h.da
  have bda := hf.da
  unfold Md.v
  generalize m.ty.length = nty at Hty bty ⊢
  generalize m.ty'.a = pty at Hty ⊢
  generalize m.ty'.c = qty
  generalize m.im.length = nim at Him bim ⊢
  generalize m.im'.a = pim at Him ⊢
  generalize m.im'.c = qim
  generalize m.fu.length = nfu at Hfu bfu ⊢
  generalize m.fu'.a = pfu at Hfu ⊢
  generalize m.fu'.c = qfu
  generalize m.tb.length = ntb at ⊢
  generalize m.tb'.a = ptb at ⊢
  generalize m.tb'.c = qtb
  generalize m.me.length = nme at ⊢
  generalize m.me'.a = pme at ⊢
  generalize m.me'.c = qme
  generalize m.gl.length = ngl at Hgl bgl ⊢
  generalize m.gl'.a = pgl at Hgl ⊢
  generalize m.gl'.c = qgl
  generalize m.ex.length = nex at Hex bex ⊢
  generalize m.ex'.a = pex at Hex ⊢
  generalize m.ex'.c = qex
  generalize m.el.length = nel at Hel bel ⊢
  generalize m.el'.a = pel at Hel ⊢
  generalize m.el'.c = qel
  generalize m.da.length = nda at Hda bda ⊢
  generalize m.da'.a = pda at Hda ⊢
  generalize m.da'.c = qda
  generalize m.st = st
  generalize m.sn = sn
  have hX := BoxAt.made w #[.slice pty nty qty, .slice pim nim qim, .slice pfu nfu qfu, .slice ptb ntb qtb, .slice pme nme qme, .slice pgl ngl qgl, .slice pex nex qex, .bool st, .int .u32 sn, .slice pel nel qel, .slice pda nda qda] 32
  have hb0 := (Below.refl w.heap.size w).alloc (Nat.le_refl _) (.cells #[.slice pty nty qty, .slice pim nim qim, .slice pfu nfu qfu, .slice ptb ntb qtb, .slice pme nme qme, .slice pgl ngl qgl, .slice pex nex qex, .bool st, .int .u32 sn, .slice pel nel qel, .slice pda nda qda] 32)
  have o0 : ∀ {a n ks}, RowO lo hi w ks a n → RowO lo hi (w.alloc (.cells #[.slice pty nty qty, .slice pim nim qim, .slice pfu nfu qfu, .slice ptb ntb qtb, .slice pme nme qme, .slice pgl ngl qgl, .slice pex nex qex, .bool st, .int .u32 sn, .slice pel nel qel, .slice pda nda qda] 32)) ks a n := fun hr => hr.ov ⟨(Kept.refl lo hi w).alloc _ (by omega), fun q j v hv => ⟨v, Go.Proofs.YtaibfefmehhldaaGreatDoor.keep hb0 hv, .same v⟩, fun q ⟨cs, e, hq⟩ => ⟨cs, e, by
    have hl : q < w.heap.size := by
      rcases Nat.lt_or_ge q w.heap.size with g | g
      · exact g
      · rw [Array.getElem?_eq_none g] at hq; cases hq
    rw [hb0.block q hl]; exact hq⟩⟩
  have Rty := hid (o0 Hty.out)
  have Rim := hid (o0 Him.out)
  have Rfu := hid (o0 Hfu.out)
  have Rgl := hid (o0 Hgl.out)
  have Rex := hid (o0 Hex.out)
  have Rel := hid (o0 Hel.out)
  have Rda := hid (o0 Hda.out)
  have hsz : lo ≤ (w.alloc (.cells #[.slice pty nty qty, .slice pim nim qim, .slice pfu nfu qfu, .slice ptb ntb qtb, .slice pme nme qme, .slice pgl ngl qgl, .slice pex nex qex, .bool st, .int .u32 sn, .slice pel nel qel, .slice pda nda qda] 32)).heap.size := by rw [World.size_alloc]; omega
  obtain ⟨W0, hW0⟩ : ∃ W0, w.alloc (.cells #[.slice pty nty qty, .slice pim nim qim, .slice pfu nfu qfu, .slice ptb ntb qtb, .slice pme nme qme, .slice pgl ngl qgl, .slice pex nex qex, .bool st, .int .u32 sn, .slice pel nel qel, .slice pda nda qda] 32) = W0 := ⟨_, rfl⟩
  rw [hW0] at hX hsz Rty Rim Rfu Rgl Rex Rel Rda ⊢
  obtain ⟨g, hg⟩ : ∃ g, w.heap.size = g := ⟨_, rfl⟩
  rw [hg] at hX
  have HG := hid (show hi ≤ g by omega)
  have Xty := hid (hX 0 _ rfl)
  have Xim := hid (hX 1 _ rfl)
  have Xfu := hid (hX 2 _ rfl)
  have Xgl := hid (hX 5 _ rfl)
  have Xex := hid (hX 6 _ rfl)
  have Xel := hid (hX 9 _ rfl)
  have Xda := hid (hX 10 _ rfl)
  have HSZ := hid hsz
  have HW := hid hW0
  have HGG := hid hg
  clear h hlo hhi hf hX hb0 o0 hsz hW0 hg Hty Him Hfu Hgl Hex Hel Hda
  go_enter Tryz.func9, Tryz.ntmps9
  go_wp2
  rw [HW.out, HGG.out]
  go_loopw [2] (fun vi wr => ∃ i : Nat, vi = .int .i64 i ∧ i ≤ nty ∧ Hid (Ov lo hi W0 wr)) (fun vi _ => nty - (intOf vi).toNat)
  case atStart => exact ⟨0, rfl, Nat.zero_le _, Ov.refl _ _ _⟩
  case round =>
    obtain ⟨i, rfl, hin, HO⟩ := hrel
    have bx := HO.out.kept.cell (p := ⟨g, 0, none⟩) HG.out Xty.out
    by_cases hlt : i < nty
    · have hii : (i : Int) < (nty : Int) := by omega
      obtain ⟨b, off, ha, hB, hC⟩ := (Rty.out.ov HO.out).item hlt
      rw [ha] at bx
      obtain ⟨v0, cc0, x0, hx0⟩ := hC 0 _ rfl
      subst hx0
      have c0 : wr.cell? ⟨b, off + i * 2, none⟩ = some (.int .i64 x0) := cc0
      have z0 := hB.frozen (off + i * 2)
      obtain ⟨v1, cc1, x1, hx1⟩ := hC 1 _ rfl
      subst hx1
      have c1 : wr.cell? ⟨b, off + i * 2 + 1, none⟩ = some (.int .i64 x1) := cc1
      have z1 := hB.frozen (off + i * 2 + 1)
      have HS := hid (Ov.sets [.int .i64 99, .int .i64 0] (off + i * 2) wr hB (fun j u hj => by
          match j with
          | 0 => cases hj; exact ⟨_, cc0, .i64 _ 99 (by omega) (by omega)⟩
          | 1 => cases hj; exact ⟨_, cc1, .i64 _ 0 (by omega) (by omega)⟩
          | j + 2 => simp at hj))
      have HO2 := hid (HO.out.trans HS.out)
      clear HO HS hB hC ha cc0 cc1
      go_wp2
      go_roundw
      case rel => exact ⟨i + 1, by go_num, by omega, HO2⟩
      case measure => simp [intOf]; omega
    · obtain rfl : i = nty := by omega
      have HZ := HO
      clear HO hlt hin
      go_wp2
      clear bx
      go_loopw [3] (fun vi wr => ∃ i : Nat, vi = .int .i64 i ∧ i ≤ nim ∧ Hid (Ov lo hi W0 wr)) (fun vi _ => nim - (intOf vi).toNat)
      case atStart => exact ⟨0, rfl, Nat.zero_le _, HZ⟩
      case round =>
        clear HZ
        obtain ⟨i, rfl, hin, HO⟩ := hrel
        have bx := HO.out.kept.cell (p := ⟨g, 1, none⟩) HG.out Xim.out
        by_cases hlt : i < nim
        · have hii : (i : Int) < (nim : Int) := by omega
          obtain ⟨b, off, ha, hB, hC⟩ := (Rim.out.ov HO.out).item hlt
          rw [ha] at bx
          obtain ⟨v0, cc0, x0, hx0⟩ := hC 0 _ rfl
          subst hx0
          have c0 : wr.cell? ⟨b, off + i * 3, none⟩ = some (.string x0) := cc0
          have z0 := hB.frozen (off + i * 3)
          obtain ⟨v1, cc1, x1, hx1⟩ := hC 1 _ rfl
          subst hx1
          have c1 : wr.cell? ⟨b, off + i * 3 + 1, none⟩ = some (.string x1) := cc1
          have z1 := hB.frozen (off + i * 3 + 1)
          obtain ⟨v2, cc2, x2, hx2⟩ := hC 2 _ rfl
          subst hx2
          have c2 : wr.cell? ⟨b, off + i * 3 + 2, none⟩ = some (.int .i64 x2) := cc2
          have z2 := hB.frozen (off + i * 3 + 2)
          have HS := hid (Ov.sets [.string ⟨#[]⟩, .string ⟨#[111, 118, 101, 114]⟩, .int .i64 0] (off + i * 3) wr hB (fun j u hj => by
              match j with
              | 0 => cases hj; exact ⟨_, cc0, .str _ _ (by decide)⟩
              | 1 => cases hj; exact ⟨_, cc1, .str _ _ (by decide)⟩
              | 2 => cases hj; exact ⟨_, cc2, .i64 _ 0 (by omega) (by omega)⟩
              | j + 3 => simp at hj))
          have HO2 := hid (HO.out.trans HS.out)
          clear HO HS hB hC ha cc0 cc1 cc2
          go_wp2
          go_roundw
          case rel => exact ⟨i + 1, by go_num, by omega, HO2⟩
          case measure => simp [intOf]; omega
        · obtain rfl : i = nim := by omega
          have HZ := HO
          clear HO hlt hin
          go_wp2
          clear bx
          go_loopw [4] (fun vi wr => ∃ i : Nat, vi = .int .i64 i ∧ i ≤ nfu ∧ Hid (Ov lo hi W0 wr)) (fun vi _ => nfu - (intOf vi).toNat)
          case atStart => exact ⟨0, rfl, Nat.zero_le _, HZ⟩
          case round =>
            clear HZ
            obtain ⟨i, rfl, hin, HO⟩ := hrel
            have bx := HO.out.kept.cell (p := ⟨g, 2, none⟩) HG.out Xfu.out
            by_cases hlt : i < nfu
            · have hii : (i : Int) < (nfu : Int) := by omega
              obtain ⟨b, off, ha, hB, hC⟩ := (Rfu.out.ov HO.out).item hlt
              rw [ha] at bx
              obtain ⟨v1, cc1, hv1⟩ := hC 2 _ rfl
              obtain ⟨la, ln, lc, rfl, C1⟩ := over_lst hv1 (Nat.le_trans HSZ.out HO.out.kept.below.size)
              have c1 : wr.cell? ⟨b, off + i * 3 + 2, none⟩ = some (.slice la ln lc) := cc1
              have HC1 := hid C1
              clear cc1 C1 hB hC hv1
              go_wp2_with fail
              refine HC1.out.mono ?_
              rintro r w2 ⟨rfl, ho2⟩
              have HO2 := hid (HO.out.trans ho2)
              have bx := HO2.out.kept.cell (p := ⟨g, 2, none⟩) HG.out Xfu.out
              rw [ha] at bx
              clear HO HC1 ho2 c1
              obtain ⟨b2, off2, ha2, hB, hC⟩ := (Rfu.out.ov HO2.out).item hlt
              rw [ha] at ha2
              simp only [Option.some.injEq, Addr.mk.injEq, and_true] at ha2
              obtain ⟨rfl, rfl⟩ := ha2
              obtain ⟨v0, cc0, x0, rfl⟩ := hC 0 _ rfl
              have c0 : w2.cell? ⟨b, off + i * 3, none⟩ = some (.int .i64 x0) := cc0
              have z0 := hB.frozen (off + i * 3)
              have HO3 := hid (HO2.out.trans (Ov.set hB c0 (.i64 _ 99 (by omega) (by omega))))
              clear HO2 hB hC ha cc0
              go_wp2
              go_roundw
              case rel => exact ⟨i + 1, by go_num, by omega, HO3⟩
              case measure => simp [intOf]; omega
            · obtain rfl : i = nfu := by omega
              have HZ := HO
              clear HO hlt hin
              go_wp2
              clear bx
              go_loopw [5] (fun vi wr => ∃ i : Nat, vi = .int .i64 i ∧ i ≤ ngl ∧ Hid (Ov lo hi W0 wr)) (fun vi _ => ngl - (intOf vi).toNat)
              case atStart => exact ⟨0, rfl, Nat.zero_le _, HZ⟩
              case round =>
                clear HZ
                obtain ⟨i, rfl, hin, HO⟩ := hrel
                have bx := HO.out.kept.cell (p := ⟨g, 5, none⟩) HG.out Xgl.out
                by_cases hlt : i < ngl
                · have hii : (i : Int) < (ngl : Int) := by omega
                  obtain ⟨b, off, ha, hB, hC⟩ := (Rgl.out.ov HO.out).item hlt
                  rw [ha] at bx
                  obtain ⟨v1, cc1, hv1⟩ := hC 1 _ rfl
                  obtain ⟨la, ln, lc, rfl, C1⟩ := over_lst hv1 (Nat.le_trans HSZ.out HO.out.kept.below.size)
                  have c1 : wr.cell? ⟨b, off + i * 2 + 1, none⟩ = some (.slice la ln lc) := cc1
                  have HC1 := hid C1
                  clear cc1 C1 hB hC hv1
                  go_wp2_with fail
                  refine HC1.out.mono ?_
                  rintro r w2 ⟨rfl, ho2⟩
                  have HO2 := hid (HO.out.trans ho2)
                  have bx := HO2.out.kept.cell (p := ⟨g, 5, none⟩) HG.out Xgl.out
                  rw [ha] at bx
                  clear HO HC1 ho2 c1
                  clear ha
                  go_wp2
                  go_roundw
                  case rel => exact ⟨i + 1, by go_num, by omega, HO2⟩
                  case measure => simp [intOf]; omega
                · obtain rfl : i = ngl := by omega
                  have HZ := HO
                  clear HO hlt hin
                  go_wp2
                  clear bx
                  go_loopw [6] (fun vi wr => ∃ i : Nat, vi = .int .i64 i ∧ i ≤ nex ∧ Hid (Ov lo hi W0 wr)) (fun vi _ => nex - (intOf vi).toNat)
                  case atStart => exact ⟨0, rfl, Nat.zero_le _, HZ⟩
                  case round =>
                    clear HZ
                    obtain ⟨i, rfl, hin, HO⟩ := hrel
                    have bx := HO.out.kept.cell (p := ⟨g, 6, none⟩) HG.out Xex.out
                    by_cases hlt : i < nex
                    · have hii : (i : Int) < (nex : Int) := by omega
                      obtain ⟨b, off, ha, hB, hC⟩ := (Rex.out.ov HO.out).item hlt
                      rw [ha] at bx
                      obtain ⟨v0, cc0, x0, hx0⟩ := hC 0 _ rfl
                      subst hx0
                      have c0 : wr.cell? ⟨b, off + i * 3, none⟩ = some (.string x0) := cc0
                      have z0 := hB.frozen (off + i * 3)
                      obtain ⟨v1, cc1, x1, hx1⟩ := hC 1 _ rfl
                      subst hx1
                      have c1 : wr.cell? ⟨b, off + i * 3 + 1, none⟩ = some (.int .i64 x1) := cc1
                      have z1 := hB.frozen (off + i * 3 + 1)
                      obtain ⟨v2, cc2, x2, hx2⟩ := hC 2 _ rfl
                      subst hx2
                      have c2 : wr.cell? ⟨b, off + i * 3 + 2, none⟩ = some (.int .u32 x2) := cc2
                      have z2 := hB.frozen (off + i * 3 + 2)
                      have HS := hid (Ov.sets [.string ⟨#[111, 118, 101, 114]⟩, .int .i64 0, .int .u32 0] (off + i * 3) wr hB (fun j u hj => by
                          match j with
                          | 0 => cases hj; exact ⟨_, cc0, .str _ _ (by decide)⟩
                          | 1 => cases hj; exact ⟨_, cc1, .i64 _ 0 (by omega) (by omega)⟩
                          | 2 => cases hj; exact ⟨_, cc2, .u32 _ 0 (by omega) (by omega)⟩
                          | j + 3 => simp at hj))
                      have HO2 := hid (HO.out.trans HS.out)
                      clear HO HS hB hC ha cc0 cc1 cc2
                      go_wp2
                      go_roundw
                      case rel => exact ⟨i + 1, by go_num, by omega, HO2⟩
                      case measure => simp [intOf]; omega
                    · obtain rfl : i = nex := by omega
                      have HZ := HO
                      clear HO hlt hin
                      go_wp2
                      clear bx
                      go_loopw [7] (fun vi wr => ∃ i : Nat, vi = .int .i64 i ∧ i ≤ nel ∧ Hid (Ov lo hi W0 wr)) (fun vi _ => nel - (intOf vi).toNat)
                      case atStart => exact ⟨0, rfl, Nat.zero_le _, HZ⟩
                      case round =>
                        clear HZ
                        obtain ⟨i, rfl, hin, HO⟩ := hrel
                        have bx := HO.out.kept.cell (p := ⟨g, 9, none⟩) HG.out Xel.out
                        by_cases hlt : i < nel
                        · have hii : (i : Int) < (nel : Int) := by omega
                          obtain ⟨b, off, ha, hB, hC⟩ := (Rel.out.ov HO.out).item hlt
                          rw [ha] at bx
                          obtain ⟨v1, cc1, hv1⟩ := hC 0 _ rfl
                          obtain ⟨la, ln, lc, rfl, C1⟩ := over_lst hv1 (Nat.le_trans HSZ.out HO.out.kept.below.size)
                          have c1 : wr.cell? ⟨b, off + i * 2, none⟩ = some (.slice la ln lc) := cc1
                          have HC1 := hid C1
                          clear cc1 C1 hB hC hv1
                          go_wp2_with fail
                          refine HC1.out.mono ?_
                          rintro r w2 ⟨rfl, ho2⟩
                          have HO2 := hid (HO.out.trans ho2)
                          have bx := HO2.out.kept.cell (p := ⟨g, 9, none⟩) HG.out Xel.out
                          rw [ha] at bx
                          clear HO HC1 ho2 c1
                          have HA := hid ha
                          clear ha bx
                          go_wp2
                          go_loopw [8] (fun vi wq => ∃ k : Nat, vi = .int .i64 k ∧ k ≤ 140737488351232 ∧ Hid (Ov lo hi W0 wq)) (fun vi _ => 140737488351232 - (intOf vi).toNat)
                          case atStart => exact ⟨0, rfl, Nat.zero_le _, HO2⟩
                          case round =>
                            clear HO2
                            obtain ⟨k, rfl, hk, HO⟩ := hrel
                            have bx := HO.out.kept.cell (p := ⟨g, 9, none⟩) HG.out Xel.out
                            rw [HA.out] at bx
                            obtain ⟨b2, off2, ha2, hB, hC⟩ := (Rel.out.ov HO.out).item hlt
                            rw [HA.out] at ha2
                            simp only [Option.some.injEq, Addr.mk.injEq, and_true] at ha2
                            obtain ⟨rfl, rfl⟩ := ha2
                            obtain ⟨v1, cc1, ta, tn, tc, zs, rfl, hzn, htg, hzr, hbt⟩ := hC 1 _ rfl
                            have c5 : wr.cell? ⟨b, off + i * 2 + 1, none⟩ = some (.slice ta tn tc) := cc1
                            by_cases hkt : k < tn
                            · obtain ⟨bt, ot, hta, hBt, hct⟩ := htg.item (i := k) (by omega)
                              rw [hta] at c5
                              have fz := hBt.frozen (ot + k)
                              have HO2 := hid (HO.out.trans (Ov.set hBt hct (.u32 _ 77 (by omega) (by omega))))
                              have hkk : (k : Int) < (tn : Int) := by omega
                              obtain ⟨z, hz⟩ : ∃ z, zs.getD k 0 = z := ⟨_, rfl⟩
                              rw [hz] at hct
                              clear hB hC cc1 htg hzr hBt hta hz hzn HO
                              go_wp2
                              go_roundw
                              case rel => exact ⟨k + 1, by go_num, by omega, HO2⟩
                              case measure => simp [intOf]; omega
                            · have hkk : ¬ (k : Int) < (tn : Int) := by omega
                              clear hB hC cc1 htg hzr hzn
                              go_wp2
                              go_roundw
                              case rel => exact ⟨i + 1, by go_num, by omega, HO⟩
                              case measure => simp [intOf]; omega
                        · obtain rfl : i = nel := by omega
                          have HZ := HO
                          clear HO hlt hin
                          go_wp2
                          clear bx
                          go_loopw [9] (fun vi wr => ∃ i : Nat, vi = .int .i64 i ∧ i ≤ nda ∧ Hid (Ov lo hi W0 wr)) (fun vi _ => nda - (intOf vi).toNat)
                          case atStart => exact ⟨0, rfl, Nat.zero_le _, HZ⟩
                          case round =>
                            clear HZ
                            obtain ⟨i, rfl, hin, HO⟩ := hrel
                            have bx := HO.out.kept.cell (p := ⟨g, 10, none⟩) HG.out Xda.out
                            by_cases hlt : i < nda
                            · have hii : (i : Int) < (nda : Int) := by omega
                              obtain ⟨b, off, ha, hB, hC⟩ := (Rda.out.ov HO.out).item hlt
                              rw [ha] at bx
                              obtain ⟨v1, cc1, hv1⟩ := hC 0 _ rfl
                              obtain ⟨la, ln, lc, rfl, C1⟩ := over_lst hv1 (Nat.le_trans HSZ.out HO.out.kept.below.size)
                              have c1 : wr.cell? ⟨b, off + i * 2, none⟩ = some (.slice la ln lc) := cc1
                              have HC1 := hid C1
                              clear cc1 C1 hB hC hv1
                              go_wp2_with fail
                              refine HC1.out.mono ?_
                              rintro r w2 ⟨rfl, ho2⟩
                              have HO2 := hid (HO.out.trans ho2)
                              have bx := HO2.out.kept.cell (p := ⟨g, 10, none⟩) HG.out Xda.out
                              rw [ha] at bx
                              clear HO HC1 ho2 c1
                              obtain ⟨b2, off2, ha2, hB, hC⟩ := (Rda.out.ov HO2.out).item hlt
                              rw [ha] at ha2
                              simp only [Option.some.injEq, Addr.mk.injEq, and_true] at ha2
                              obtain ⟨rfl, rfl⟩ := ha2
                              obtain ⟨v0, cc0, pa, pn, pc, rfl, hR⟩ := hC 1 _ rfl
                              have c0 : w2.cell? ⟨b, off + i * 2 + 1, none⟩ = some (.slice pa pn pc) := cc0
                              have HC2 := hid (overB_any lo hi pa pn pc w2 hR)
                              clear hB hC ha cc0 hR
                              go_wp2_with fail
                              refine HC2.out.mono ?_
                              rintro r w3 ⟨rfl, ho3⟩
                              have HO3 := hid (HO2.out.trans ho3)
                              clear HO2 HC2 ho3
                              go_wp2
                              go_roundw
                              case rel => exact ⟨i + 1, by go_num, by omega, HO3⟩
                              case measure => simp [intOf]; omega
                            · obtain rfl : i = nda := by omega
                              have HZ := HO
                              clear HO hlt hin
                              go_wp2
                              go_end0
                              exact ⟨rfl, W0, rfl, HZ.out⟩
end Go.Proofs.YtaibfefmehhldaaGreatDoor.Mod

namespace Go.Proofs.YtaibfefmehhldaaGreatDoor.Body
set_option linter.unusedVariables false
open Go.RowKit Go.Proofs.YtaibfefmehhldaaGreatDoor.Instr

/-- What CopyInstrs gives. -/
def GotCopyS (w : World) (n : Nat) (t : Il) (e : Ending) (w' : World) : Prop :=
  ∃ (a : Option Addr) (c : Nat) (u : Il), e = .returned (.slice a n c) ∧ Below w.heap.size w w' ∧ ListAt w'.heap.size w' a n u ∧ (∀ q ∈ blkOf n a ++ u.foot, w.heap.size ≤ q) ∧ u.bare = t.bare ∧ ∀ q ∈ blkOf n a ++ u.foot, Soft w' q
theorem soft_blk {w : World} {base size n c : Nat} {e : TypeId} {a : Option Addr} {xs : List Value} (h : w.ownsRow base e size (.slice a n c) n xs) : ∀ q ∈ blkOf n a, Soft w q := by
  intro q hq
  unfold blkOf at hq
  split at hq
  · simp at hq
  · cases a with
    | none => simp at hq
    | some p =>
      simp only [List.mem_singleton] at hq
      subst hq
      exact soft_row h rfl
theorem Soft.save {k q : Nat} {w w' : World} (h : Soft w q) (hs : Save k w w') (hk : q ≠ k) : Soft w' q := h.touch (S := fun j => j = k) (.of_save hs) (fun e => hk e)
theorem Soft.below {q : Nat} {w w' : World} (h : Soft w q) (hb : Below w.heap.size w w') : Soft w' q := h.touch (S := fun _ => False) (.of_below hb) (fun h => h)
theorem Soft.grown {q : Nat} {w w' : World} {row : Option Nat} (h : Soft w q) (hg : w.grownBy w' row) (hk : row ≠ some q) : Soft w' q := h.touch (S := fun j => row = some j) (.of_grown hg) (fun e => hk e)

set_option maxRecDepth 100000 in
set_option maxHeartbeats 6400000 in
theorem copyS_any : ∀ (m : Nat) (t : Il) (a : Option Addr) (n c : Nat) (w : World), t.weight ≤ m → m ≤ 100000 → ListAt w.heap.size w a n t →
    Calls Tryz.prog 15 #[.slice a n c] w (GotCopyS w n t) := by
  intro m
  induction m using Nat.strongRecOn with
  | ind m ih =>
    intro t a n c w hm hm1 hL
    have hIH : ∀ (t' : Il) (a' : Option Addr) (n' c' : Nat) (w' : World), t'.weight < m → ListAt w'.heap.size w' a' n' t' → Calls Tryz.prog 15 #[.slice a' n' c'] w' (GotCopyS w' n' t') :=
      fun t' a' n' c' w' h1 h2 => ih t'.weight h1 t' a' n' c' w' (Nat.le_refl _) (by omega) h2
    have IH := hid hIH
    have HW := hid hm
    have H0 := hid (show Left w a 0 t from by
      rcases hL.2 with h | ⟨b, off, h1, h2⟩
      · exact .inl h
      · exact .inr ⟨b, off, h1, by simpa using h2⟩)
    have HLN := hid hL.1
    clear hIH ih hm hL
    go_enter Tryz.func15, Tryz.ntmps15
    go_wp2
    go_loopw [3, 4, 5] (fun vo vi v5 wr => ∃ (k : Nat) (u r : Il), vi = .int .i64 k ∧ u.len = k ∧ r.len + k = n ∧ r.weight + k ≤ m ∧ Hid (LOk w vo u wr) ∧ Hid (Below w.heap.size w wr) ∧ Hid (Left w a k r) ∧ Hid (u.bare.app r.bare = t.bare) ∧ Hid (∀ q ∈ u.foot, Soft wr q)) (fun _ vi _ _ => n - (intOf vi).toNat)
    case atStart => exact ⟨0, .nil, t, rfl, rfl, HLN.out, HW.out, LOk.start w w, Below.refl _ _, H0, rfl, by intro q hq; simp [Il.foot] at hq⟩
    case round =>
      clear H0 HW HLN
      obtain ⟨k, u, r, rfl, hu, hr, hw, HO, HB, HI, HE, HSF⟩ := hrel
      cases r with
      | nil =>
        simp only [Il.len] at hr
        obtain rfl : k = n := by omega
        obtain ⟨a0, c0, rfl, hl, hlow⟩ := HO.out.value
        have HSB := hid (soft_blk HO.out.row)
        rw [hu] at hl hlow HSB ⊢
        have HLL := hid hl
        have HLW := hid hlow
        have hE := HE.out
        simp only [Il.bare, app_nil] at hE
        have HE2 := hid hE
        clear hl hlow hE HO HI HE
        go_wp2
        go_ret
        exact ⟨a0, c0, u, rfl, HB.out, HLL.out, HLW.out, HE2.out, fun q hq => (List.mem_append.1 hq).elim (HSB.out q) (HSF.out q)⟩
      | cons x l e r =>
        simp only [Il.len] at hr
        simp only [Il.weight] at hw
        have hkn : (k : Int) < (n : Int) := by omega
        obtain ⟨b, off, rfl, hits⟩ : ∃ b off, a = some ⟨b, off, none⟩ ∧ Items w.heap.size w b (off + k * 8) (.cons x l e r) := by
          rcases HI.out with h | h
          · cases h
          · exact h
        obtain ⟨op, res, xa, xb, xn, tags, ta, tc, la, ln, lc, ea, en, ec⟩ := x
        obtain ⟨hb, hx, ⟨c0, c1, c2, c3, c4, c5, c6, c7⟩, htg, hl, he, hrr⟩ := hits
        have HX := hid hx
        dsimp only at c0 c1 c2 c3 c4 c5 c6 c7 htg hl he hw
        have cc : ∀ i v, w.cell? ⟨b, i, none⟩ = some v → wr.cell? ⟨b, i, none⟩ = some v := fun i v h => (HB.out.cell (p := ⟨b, i, none⟩) hb).trans h
        have c0 := cc _ _ c0
        have c1 := cc _ _ c1
        have c2 := cc _ _ c2
        have c3 := cc _ _ c3
        have c4 := cc _ _ c4
        have c5 := cc _ _ c5
        have c6 := cc _ _ c6
        have c7 := cc _ _ c7
        have HR2 := hid (show Left w (some ⟨b, off, none⟩) (k + 1) r from .inr ⟨b, off, rfl, by rw [show off + (k + 1) * 8 = off + k * 8 + 8 by omega]; exact hrr⟩)
        have C1 := hid (fun W (hb : Below w.heap.size w W) => IH.out l la ln lc W (by omega) (show ListAt W.heap.size W la ln l from ListAt.on (w := w) hl hb))
        have C2 := hid (fun W (hb : Below w.heap.size w W) => IH.out e ea en ec W (by omega) (show ListAt W.heap.size W ea en e from ListAt.on (w := w) he hb))
        have hTG : TagsAt w.heap.size w ta tags := htg
        have HTG := hid (fun W (hb : Below w.heap.size w W) => (hTG.below hb).more hb.size)
        have htl : tags.length ≤ 100000 := by omega
        have Y0 := bx_made ⟨op, res, xa, xb, xn, tags, ta, tc, la, ln, lc, ea, en, ec⟩ wr
        have W0B := hid (alloc_bq wr (.cells #[.int .i64 op, .int .i64 res, .int .u32 xa, .int .u32 xb, .int .i32 xn, .slice ta tags.length tc, .slice la ln lc, .slice ea en ec] 87))
        have Y1 := hid (Y0.alloc (.cells #[] 28))
        have OW := own_none32 (wr.alloc (.cells (⟨op, res, xa, xb, xn, tags, ta, tc, la, ln, lc, ea, en, ec⟩ : Ix).vals 87))
        rw [show (wr.alloc (.cells (⟨op, res, xa, xb, xn, tags, ta, tc, la, ln, lc, ea, en, ec⟩ : Ix).vals 87)).heap.size = wr.heap.size + 1 by simp] at OW
        have HOW := hid OW
        obtain ⟨⟨-, -, -, -, -, b5, -, -⟩, -, -, -, -, -, g5, -, -⟩ := Y1.out
        dsimp only [Ix.vals] at b5 g5
        clear hb htg hl he hrr cc hx HI Y0 OW hTG
        have BW1 := hid (HB.out.trans ((thenA W0B.out (.cells #[] 28)).mono HB.out.size))
        have SZ1 := hid (show wr.heap.size + 1 ≤ ((wr.alloc (.cells #[.int .i64 op, .int .i64 res, .int .u32 xa, .int .u32 xb, .int .i32 xn, .slice ta tags.length tc, .slice la ln lc, .slice ea en ec] 87)).alloc (.cells #[] 28)).heap.size by simp)
        have HTL := hid htl
        clear htl
        go_wp2_with (first
          | (at_builtin; refine append_u32s rfl (.tmp 16) (.tmp 18) rfl rfl HOW.out (Below.refl _ _) SZ1.out ta tags.length tc rfl rfl (HTG.out _ BW1.out) (by have := HTL.out; simp; omega) ?_; intro v6 w6 ho6 hb6 hs6; rw [List.nil_append] at ho6; obtain ⟨a6, c6', rfl⟩ := ho6.sliceN (n := tags.length) rfl; have O6 := hid ho6; have B6 := hid hb6; clear b5 g5 ho6 hb6; have Y6 := hid (Y1.out.belowB B6.out (Nat.lt_succ_self _)); have b5 := Y6.out.at_.c5; have g5 := Y6.out.f5; dsimp only at b5; refine Hid.out ?_))
        refine hid ?_
        have Y7 := hid (Y6.out.setT tags a6 c6')
        have BR6 := hid ((thenA W0B.out (.cells #[] 28)).trans (B6.out.mono (Nat.le_succ _)))
        have BR7 := hid (BR6.out.setCell (p := ⟨wr.heap.size, 5, none⟩) (Nat.le_refl _) (.slice a6 tags.length c6'))
        have BW7 := hid (HB.out.trans (BR7.out.mono HB.out.size))
        have TG6 := hid (tags_of O6.out)
        have HSF6 := hid (soft_blk O6.out)
        have SV67 := hid ((Save.refl wr.heap.size w6).setCell (p := ⟨wr.heap.size, 5, none⟩) (.inl rfl) (.slice a6 tags.length c6'))
        have D1 := hid (C1.out _ BW7.out)
        obtain ⟨⟨-, -, -, -, -, -, b6, -⟩, -, -, -, -, -, -, g6, -⟩ := Y7.out
        dsimp only at b6 g6
        clear C1 Y6 Y1 HOW HTG W0B BW1 SZ1 B6
        go_wp2_with fail
        refine D1.out.mono ?_
        clear D1 b5 g5
        rintro e1 w8 ⟨a8, c8, u8, rfl, hb8, hl8, hlow8, hbr8, hsf8⟩
        have HSF8 := hid hsf8
        clear hsf8
        have Y8 := hid (Y7.out.belowB hb8 (by have := World.block_lt_of_cell? _ _ Y7.out.at_.c0; simpa using this))
        have BR8 := hid (BR7.out.trans (hb8.mono BR7.out.size))
        have SV68 := hid (SV67.out.trans (Save.of_below hb8))
        have HL8 := hid hl8
        have HLW8 := hid (fun q hq => Nat.le_trans (show w6.heap.size ≤ (w6.setCell ⟨wr.heap.size, 5, none⟩ (.slice a6 tags.length c6')).heap.size from by simp [World.setCell]) (hlow8 q hq))
        have HBR8 := hid hbr8
        obtain ⟨⟨-, -, -, -, -, -, b6, -⟩, -, -, -, -, -, -, g6, -⟩ := Y8.out
        dsimp only at b6 g6
        have Y9 := hid (Y8.out.setL a8 ln c8)
        have BR9 := hid (BR8.out.setCell (p := ⟨wr.heap.size, 6, none⟩) (Nat.le_refl _) (.slice a8 ln c8))
        have SV89 := hid ((Save.refl wr.heap.size w8).setCell (p := ⟨wr.heap.size, 6, none⟩) (.inl rfl) (.slice a8 ln c8))
        have BW9 := hid (HB.out.trans (BR9.out.mono HB.out.size))
        have D2 := hid (C2.out _ BW9.out)
        obtain ⟨⟨-, -, -, -, -, -, -, b7⟩, -, -, -, -, -, -, -, g7⟩ := Y9.out
        dsimp only at b7 g7
        clear C2 Y7 Y8 hb8 hl8 hlow8 hbr8 BR7 BR8 SV67
        go_wp2_with fail
        refine D2.out.mono ?_
        clear D2 b6 g6
        rintro e2 w10 ⟨a10, c10, u10, rfl, hb10, hl10, hlow10, hbr10, hsf10⟩
        have HSF10 := hid hsf10
        clear hsf10
        have Y10 := hid (Y9.out.belowB hb10 (by have := World.block_lt_of_cell? _ _ Y9.out.at_.c0; simpa using this))
        have BR10 := hid (BR9.out.trans (hb10.mono BR9.out.size))
        have SV810 := hid (SV89.out.trans (Save.of_below hb10))
        have HL10 := hid hl10
        have HLW10 := hid (fun q hq => Nat.le_trans (show w8.heap.size ≤ (w8.setCell ⟨wr.heap.size, 6, none⟩ (.slice a8 ln c8)).heap.size from by simp [World.setCell]) (hlow10 q hq))
        have HBR10 := hid hbr10
        have Y11 := hid (Y10.out.setE a10 en c10)
        have BR11 := hid (BR10.out.setCell (p := ⟨wr.heap.size, 7, none⟩) (Nat.le_refl _) (.slice a10 en c10))
        have SV1011 := hid ((Save.refl wr.heap.size w10).setCell (p := ⟨wr.heap.size, 7, none⟩) (.inl rfl) (.slice a10 en c10))
        obtain ⟨⟨-, -, -, -, -, -, -, b7⟩, -, -, -, -, -, -, -, g7⟩ := Y10.out
        dsimp only at b7 g7
        obtain ⟨⟨z0, z1, z2, z3, z4, z5, z6, z7⟩, -, -, -, -, -, -, -, -⟩ := Y11.out
        dsimp only at z0 z1 z2 z3 z4 z5 z6 z7
        clear Y9 Y10 hb10 hl10 hlow10 hbr10 BR9 BR10 SV89
        have SZ6 := hid (show wr.heap.size + 1 ≤ w6.heap.size from hs6)
        have SZ8 := hid (show w6.heap.size ≤ w8.heap.size from SV68.out.size)
        have kids : (Il.cons ⟨op, res, xa, xb, xn, tags, a6, c6', a8, ln, c8, a10, en, c10⟩ u8 u10 .nil).kids (w10.setCell ⟨wr.heap.size, 7, none⟩ (.slice a10 en c10)) := by
          have hx := HX.out
          refine ⟨⟨hx.op, hx.res, hx.a, hx.b, hx.n, hx.tags, hx.tn, hx.ln, hx.en⟩, ?_, ?_, ?_, trivial⟩
          · have T := (SV68.out.trans SV810.out).trans SV1011.out
            refine (TG6.out.1.touch (.of_save T) (fun q hq h => ?_)).more T.size
            have := TG6.out.2.1 q hq
            omega
          · have T := SV810.out.trans SV1011.out
            refine ListAt.more T.size (HL8.out.touch (.of_save T) (fun q hq h => ?_))
            have h1 := HLW8.out q hq
            have h2 := SZ6.out
            omega
          · refine ListAt.more SV1011.out.size (HL10.out.touch (.of_save SV1011.out) (fun q hq h => ?_))
            have h1 := HLW10.out q hq
            have h2 := SZ6.out
            have h3 := SZ8.out
            omega
        have hlo : ∀ q ∈ (Il.cons ⟨op, res, xa, xb, xn, tags, a6, c6', a8, ln, c8, a10, en, c10⟩ u8 u10 .nil).foot, wr.heap.size ≤ q := by
          intro q hq
          simp only [Il.foot, List.append_nil] at hq
          have h2 := SZ6.out
          have h3 := SZ8.out
          rcases List.mem_append.1 hq with hq | hq
          · rcases List.mem_append.1 hq with hq | hq
            · have := TG6.out.2.1 q hq; omega
            · have := HLW8.out q hq; omega
          · have := HLW10.out q hq; omega
        have hsoft : ∀ q ∈ u.foot ++ (Il.cons ⟨op, res, xa, xb, xn, tags, a6, c6', a8, ln, c8, a10, en, c10⟩ u8 u10 .nil).foot, Soft (w10.setCell ⟨wr.heap.size, 7, none⟩ (.slice a10 en c10)) q := by
          intro q hq
          have h2 := SZ6.out
          have h3 := SZ8.out
          rcases List.mem_append.1 hq with hq | hq
          · exact Soft.below (HSF.out q hq) BR11.out
          · simp only [Il.foot, List.append_nil] at hq
            rcases List.mem_append.1 hq with hq | hq
            · rcases List.mem_append.1 hq with hq | hq
              · have := TG6.out.2.1 q hq
                exact Soft.save (HSF6.out q hq) ((SV68.out.trans SV810.out).trans SV1011.out) (by omega)
              · have := HLW8.out q hq
                exact Soft.save (HSF8.out q hq) (SV810.out.trans SV1011.out) (by omega)
            · have := HLW10.out q hq
              exact Soft.save (HSF10.out q hq) SV1011.out (by omega)
        have HSFT := hid hsoft
        clear hsoft
        have KD := hid kids
        have HLO := hid hlo
        have HO11 := hid (HO.out.touch (S := fun _ => False) (.of_below BR11.out) (fun _ _ h => h))
        have hsz11 : w.heap.size ≤ (w10.setCell ⟨wr.heap.size, 7, none⟩ (.slice a10 en c10)).heap.size := Nat.le_trans HB.out.size BR11.out.size
        have hu1 : u.len ≤ 1000000 := by omega
        have ROW := hid HO11.out.row
        clear kids hlo
        go_wp2_with (first
          | (at_builtin; refine append_insG rfl (.tmp 29) (.tmp 31) rfl ⟨op, res, xa, xb, xn, tags, a6, c6', a8, ln, c8, a10, en, c10⟩ rfl ROW.out hsz11 w10.heap.size (by simp [World.setCell]) rfl hu1 ?_; intro g cap6 w12 hown hgrow hat; have HOWN := hid hown; have HGR := hid hgrow; have HAT := hid hat; clear hown hgrow hat; refine Hid.out ?_))
        refine hid ?_
        go_wp2
        go_roundw
        case rel =>
          have hsn := HO.out.snoc HO11.out KD.out HLO.out HB.out.size HOWN.out HGR.out HAT.out
          have hB := below_grown HO11.out.row hsz11 HGR.out
          rw [hu] at hsn
          have hsft : ∀ q ∈ (u.app (.cons ⟨op, res, xa, xb, xn, tags, a6, c6', a8, ln, c8, a10, en, c10⟩ u8 u10 .nil)).foot, Soft w12 q := by
            intro q hq
            rw [foot_app] at hq
            refine Soft.grown (Soft.below (HSFT.out q hq) ((Below.refl _ _).alloc (Nat.le_refl _) _)) HGR.out (fun e => ?_)
            rcases List.mem_append.1 hq with hq | hq
            · exact HO11.out.apart q hq e
            · have h1 := HLO.out q hq
              have h2 := (World.ownsRow.lt HO.out.row q e).2
              omega
          refine ⟨k + 1, u.app (.cons ⟨op, res, xa, xb, xn, tags, a6, c6', a8, ln, c8, a10, en, c10⟩ u8 u10 .nil), r, by go_num, by rw [app_len]; simp only [Il.len]; omega, by omega, by omega, hsn, (HB.out.trans (BR11.out.mono HB.out.size)).trans hB, HR2, ?_, hsft⟩
          show (u.app (.cons ⟨op, res, xa, xb, xn, tags, a6, c6', a8, ln, c8, a10, en, c10⟩ u8 u10 .nil)).bare.app r.bare = t.bare
          rw [bare_app, app_assoc, ← HE.out]
          simp only [Il.bare, Ix.bare, HBR8.out, HBR10.out, Il.app]
        case measure => simp [intOf]; omega
end Go.Proofs.YtaibfefmehhldaaGreatDoor.Body

namespace Go.Proofs.YtaibfefmehhldaaGreatDoor.Mod
open Go.RowKit Go.Proofs.YtaibfefmehhldaaGreatDoor.Instr

def smallI : Ix := ⟨65, 0, 0, 0, 1, [], none, 0, none, 0, 0, none, 0, 0⟩
def sHost : ByteArray := ⟨#[104, 111, 115, 116]⟩
def sF : ByteArray := ⟨#[102]⟩
def sRun : ByteArray := ⟨#[114, 117, 110]⟩
def smallL (g : Nat) : Lst := ⟨some ⟨g + 1 + 1 + 1, 0, none⟩, 1, .cons smallI .nil .nil .nil⟩
def smallM (g : Nat) : Md where
  ty := [(0, 1), (2, 0)]
  im := [⟨sHost, sF, 1⟩]
  fu := [⟨0, 0, smallL g⟩]
  tb := []
  me := []
  gl := []
  ex := [⟨sRun, 0, 1⟩]
  st := false
  sn := 0
  el := []
  da := []
  ty' := ⟨some ⟨g + 1, 0, none⟩, 2⟩
  im' := ⟨some ⟨g + 1 + 1, 0, none⟩, 1⟩
  fu' := ⟨some ⟨g + 1 + 1 + 1 + 1, 0, none⟩, 1⟩
  tb' := ⟨none, 0⟩
  me' := ⟨none, 0⟩
  gl' := ⟨none, 0⟩
  ex' := ⟨some ⟨g + 1 + 1 + 1 + 1 + 1, 0, none⟩, 1⟩
  el' := ⟨none, 0⟩
  da' := ⟨none, 0⟩
theorem small_few (g : Nat) : (smallM g).few := by
  have hc : ∀ l ∈ (smallM g).codes, l = smallL g := by simp [smallM, Md.codes]
  refine ⟨⟨by simp [smallM], by simp [smallM], by simp [smallM], by simp [smallM], by simp [smallM], by simp [smallM], by simp [smallM], by simp [smallM], by simp [smallM], fun l hl => by rw [hc l hl]; simp [smallL, Il.len], by simp [smallM], by simp [smallM], fun i hi => ?_, fun e he => ?_⟩, fun l hl => by rw [hc l hl]; simp [smallL, Il.count], by simp [smallM]⟩
  · simp only [smallM, List.mem_singleton] at hi; subst hi; decide
  · simp only [smallM, List.mem_singleton] at he; subst he; decide
theorem small_at {g : Nat} {W : World} (h1 : ∀ (j : Nat) (v : Value), (#[.int .i64 0, .int .i64 1, .int .i64 2, .int .i64 0] : Array Value)[j]? = some v → W.cell? ⟨g + 1, j, none⟩ = some v)
    (h2 : ∀ (j : Nat) (v : Value), (#[.string sHost, .string sF, .int .i64 1] : Array Value)[j]? = some v → W.cell? ⟨g + 1 + 1, j, none⟩ = some v)
    (h3 : ∀ (j : Nat) (v : Value), (#[.int .i64 65, .int .i64 0, .int .u32 0, .int .u32 0, .int .i32 1, .slice none 0 0, .slice none 0 0, .slice none 0 0] : Array Value)[j]? = some v → W.cell? ⟨g + 1 + 1 + 1, j, none⟩ = some v)
    (h4 : ∀ (j : Nat) (v : Value), (#[.int .i64 0, .int .i64 0, .slice (some ⟨g + 1 + 1 + 1, 0, none⟩) 1 1] : Array Value)[j]? = some v → W.cell? ⟨g + 1 + 1 + 1 + 1, j, none⟩ = some v)
    (h5 : ∀ (j : Nat) (v : Value), (#[.string sRun, .int .i64 0, .int .u32 1] : Array Value)[j]? = some v → W.cell? ⟨g + 1 + 1 + 1 + 1 + 1, j, none⟩ = some v) (hs : g + 6 ≤ W.heap.size) : ModAt W.heap.size W (smallM g) := by
  have one : ∀ (b sz : Nat) (l : List Value), b < W.heap.size → (∀ (j : Nat) (v : Value), l[j]? = some v → W.cell? ⟨b, j, none⟩ = some v) → Rows W.heap.size W (some ⟨b, 0, none⟩) sz [l] := fun b sz l hb h =>
    .inr ⟨b, 0, rfl, hb, fun i hi j hj v hv => by
      obtain rfl : i = 0 := by simpa using hi
      have := h j v (by simpa using hv)
      simpa using this⟩
  have hc : ∀ l ∈ (smallM g).codes, l = smallL g := by simp [smallM, Md.codes]
  refine ⟨.inr ⟨g + 1, 0, rfl, by omega, fun i hi j hj v hv => ?_⟩, one _ 3 _ (by omega) (fun j v hv => h2 j v (by simpa [Imp.v] using hv)), one _ 3 _ (by omega) (fun j v hv => h4 j v (by simpa [Fn.v, Lst.val, smallL, Il.len] using hv)), .inl rfl, .inl rfl, .inl rfl, one _ 3 _ (by omega) (fun j v hv => h5 j v (by simpa [Ex.v] using hv)), .inl rfl, .inl rfl,
    fun l hl => ?_, by simp [smallM], by simp [smallM]⟩
  · simp only [smallM, List.map_cons, List.map_nil, List.length_cons, List.length_nil] at hi hv
    have hi' : i = 0 ∨ i = 1 := by omega
    have hj' : j = 0 ∨ j = 1 := by omega
    rcases hi' with rfl | rfl <;> rcases hj' with rfl | rfl <;> simp [tyV] at hv <;> subst hv
    · exact h1 0 _ rfl
    · exact h1 1 _ rfl
    · exact h1 2 _ rfl
    · exact h1 3 _ rfl
  · rw [hc l hl]
    refine ⟨rfl, .inr ⟨g + 1 + 1 + 1, 0, rfl, by omega, ?_, ⟨h3 0 _ rfl, h3 1 _ rfl, h3 2 _ rfl, h3 3 _ rfl, h3 4 _ rfl, h3 5 _ rfl, h3 6 _ rfl, h3 7 _ rfl⟩, .inl rfl, ⟨rfl, .inl rfl⟩, ⟨rfl, .inl rfl⟩, trivial⟩⟩
    constructor <;> simp [smallI]
theorem chain6 (w : World) (A B C D E F : Array Value) (a b c d e f : TypeId) :
    (BoxAt ((((((w.alloc (.cells A a)).alloc (.cells B b)).alloc (.cells C c)).alloc (.cells D d)).alloc (.cells E e)).alloc (.cells F f)) w.heap.size A ∧ BoxAt ((((((w.alloc (.cells A a)).alloc (.cells B b)).alloc (.cells C c)).alloc (.cells D d)).alloc (.cells E e)).alloc (.cells F f)) (w.heap.size + 1) B ∧
      BoxAt ((((((w.alloc (.cells A a)).alloc (.cells B b)).alloc (.cells C c)).alloc (.cells D d)).alloc (.cells E e)).alloc (.cells F f)) (w.heap.size + 1 + 1) C ∧ BoxAt ((((((w.alloc (.cells A a)).alloc (.cells B b)).alloc (.cells C c)).alloc (.cells D d)).alloc (.cells E e)).alloc (.cells F f)) (w.heap.size + 1 + 1 + 1) D ∧
      BoxAt ((((((w.alloc (.cells A a)).alloc (.cells B b)).alloc (.cells C c)).alloc (.cells D d)).alloc (.cells E e)).alloc (.cells F f)) (w.heap.size + 1 + 1 + 1 + 1) E ∧ BoxAt ((((((w.alloc (.cells A a)).alloc (.cells B b)).alloc (.cells C c)).alloc (.cells D d)).alloc (.cells E e)).alloc (.cells F f)) (w.heap.size + 1 + 1 + 1 + 1 + 1) F) ∧
    ((((((w.alloc (.cells A a)).alloc (.cells B b)).alloc (.cells C c)).alloc (.cells D d)).alloc (.cells E e)).alloc (.cells F f)).heap.size = w.heap.size + 6 ∧
    Below w.heap.size w ((((((w.alloc (.cells A a)).alloc (.cells B b)).alloc (.cells C c)).alloc (.cells D d)).alloc (.cells E e)).alloc (.cells F f)) := by
  refine ⟨⟨?_, ?_, ?_, ?_, ?_, ?_⟩, by simp, thenA (thenA (thenA (thenA (thenA (thenA (Below.refl _ _) _) _) _) _) _) _⟩ <;> (intro j x h; simp [go_sem, h])
set_option maxHeartbeats 1000000 in
theorem small_any (w : World) : Calls Tryz.prog 31 #[] w fun e w' => e = .returned (.agg (smallM w.heap.size).v) ∧ ModAt w'.heap.size w' (smallM w.heap.size) ∧ Below w.heap.size w w' := by
  go_enter Tryz.func31, Tryz.ntmps31
  go_wp2
  obtain ⟨⟨b0, b1, b2, b3, b4, b5⟩, hs, hB⟩ := chain6 w #[.slice (some ⟨w.heap.size + 1, 0, none⟩) 2 2, .slice (some ⟨w.heap.size + 1 + 1, 0, none⟩) 1 1, .slice (some ⟨w.heap.size + 1 + 1 + 1 + 1, 0, none⟩) 1 1, .slice none 0 0, .slice none 0 0, .slice none 0 0, .slice (some ⟨w.heap.size + 1 + 1 + 1 + 1 + 1, 0, none⟩) 1 1, .bool false, .int .u32 0, .slice none 0 0, .slice none 0 0]
    #[.int .i64 0, .int .i64 1, .int .i64 2, .int .i64 0] #[.string ⟨#[104, 111, 115, 116]⟩, .string ⟨#[102]⟩, .int .i64 1] #[.int .i64 65, .int .i64 0, .int .u32 0, .int .u32 0, .int .i32 1, .slice none 0 0, .slice none 0 0, .slice none 0 0]
    #[.int .i64 0, .int .i64 0, .slice (some ⟨w.heap.size + 1 + 1 + 1, 0, none⟩) 1 1] #[.string ⟨#[114, 117, 110]⟩, .int .i64 0, .int .u32 1] 32 59 53 87 43 55
  have A := small_at b1 b2 b3 b4 b5 (by omega)
  refine bodyPost_ret (v := .agg (smallM w.heap.size).v) (by simp [results, Tryz.results31, go_sem, smallM, Md.v, smallL]) rfl ⟨rfl, A, hB⟩
end Go.Proofs.YtaibfefmehhldaaGreatDoor.Mod

namespace Go.Proofs.YtaibfefmehhldaaGreatDoor.Mod
open Go.RowKit Go.Proofs.YtaibfefmehhldaaGreatDoor.Instr

def errI (b : Bool) (e : Int) : Int := if b then e else 0
theorem errIf_any (b : Bool) (e : Int) (w : World) : Calls Tryz.prog 61 #[.bool b, .int .i64 e] w fun x w' => x = .returned (.int .i64 (errI b e)) ∧ w = w' := by
  cases b
  all_goals
    go_enter Tryz.func61, Tryz.ntmps61
    go_wp2
    go_ret
    exact ⟨rfl, rfl⟩
theorem max_two (x y : Int) : max x y = if y > x then y else x := by split <;> omega
set_option maxHeartbeats 1000000 in
theorem crowded_any (m : Md) (w : World) (hm : ModAt w.heap.size w m) (hf : m.fits) :
    Calls Tryz.prog 62 #[.agg m.v] w fun e w' => e = .returned (.bool m.crowded) ∧ Below w.heap.size w w' := by
  have hb0 := (Below.refl w.heap.size w).alloc (Nat.le_refl _) (.cells m.v 32)
  have HE := hid (crowded_eq m)
  have HR := hid (hm.on hb0).el
  have HB := hid hb0
  have HX := hid (BoxAt.made w m.v 32)
  have hl := hf.el
  have hmx : ∀ (ts : Array TypeId) (t : TypeId) (w : World), Sem.run Tryz.prog (Builtin.max_ ts t #[.int .i64 (m.ty.length : Int), .int .i64 (m.im.length : Int), .int .i64 (m.fu.length : Int), .int .i64 (m.gl.length : Int), .int .i64 (m.ex.length : Int), .int .i64 (m.el.length : Int), .int .i64 (m.da.length : Int)]) w = .ok (.int .i64 m.max7) w := by
    intro ts t w
    unfold Md.max7
    simp only [max_two]
    simp [Builtin.max_, Builtin.max2]
  obtain ⟨L0, hL0⟩ : ∃ L0, m.max7 = L0 := ⟨_, rfl⟩
  rw [hL0] at HE hmx
  unfold Md.v at HR HB HX ⊢
  clear hm hf hb0 hL0
  generalize m.el'.a = a at HR HB HX ⊢
  go_enter Tryz.func62, Tryz.ntmps62
  go_wp2
  clear hmx
  obtain ⟨n, hn⟩ : ∃ n, m.el.length = n := ⟨_, rfl⟩
  have HN := hid hn
  rw [hn] at HX HB HR hl ⊢
  clear hn
  generalize w.alloc (.cells #[.slice m.ty'.a m.ty.length m.ty'.c, .slice m.im'.a m.im.length m.im'.c, .slice m.fu'.a m.fu.length m.fu'.c, .slice m.tb'.a m.tb.length m.tb'.c, .slice m.me'.a m.me.length m.me'.c, .slice m.gl'.a m.gl.length m.gl'.c, .slice m.ex'.a m.ex.length m.ex'.c, .bool m.st, .int .u32 m.sn, .slice a n m.el'.c, .slice m.da'.a m.da.length m.da'.c] 32) = W0 at HX HB HR ⊢
  go_loopw [3, 31] (fun vl vi wr => ∃ (k : Nat) (L : Int), vl = .int .i64 L ∧ vi = .int .i64 k ∧ k ≤ n ∧ Hid (L = longP (m.el.take k) L0) ∧ Hid (Below W0.heap.size W0 wr)) (fun _ vi _ => n - (intOf vi).toNat)
  case atStart => exact ⟨0, L0, rfl, rfl, Nat.zero_le _, rfl, Below.refl _ _⟩
  case round =>
    obtain ⟨k, L, rfl, rfl, hk, HL, HW⟩ := hrel
    by_cases hlt : k < n
    · have hkl : k < m.el.length := by rw [HN.out]; exact hlt
      obtain ⟨b, off, rfl, hb, hc⟩ := Rows.get HR.out hkl
      have HS := hid (show longP (m.el.take (k + 1)) L0 = max L (m.el[k].fs.length : Int) by rw [List.take_succ_eq_append_getElem hkl, longP_snoc, ← HL.out])
      obtain ⟨x, hxe⟩ : ∃ x, m.el[k] = x := ⟨_, rfl⟩
      rw [hxe] at hc HS
      have cc : ∀ j, j < 2 → ∀ v, x.v[j]? = some v → wr.cell? ⟨b, off + k * 2 + j, none⟩ = some v := fun j hj v hv => (HW.out.cell (p := ⟨b, off + k * 2 + j, none⟩) hb).trans (hc j hj v hv)
      have c0 : wr.cell? ⟨b, off + k * 2, none⟩ = some x.l.val := cc 0 (by omega) _ rfl
      have c1 : wr.cell? ⟨b, off + k * 2 + 1, none⟩ = some (.slice x.fa x.fs.length x.fc) := cc 1 (by omega) _ rfl
      have hki : (k : Int) < (n : Int) := by omega
      unfold Lst.val at c0
      have HW' := hid (show Below W0.heap.size W0 (wr.alloc (.cells #[.slice x.l.a x.l.t.len x.l.c, .slice x.fa x.fs.length x.fc] 48)) from HW.out.alloc HW.out.size _)
      clear hxe hc cc hb
      by_cases hgt : (x.fs.length : Int) > L
      · have HS' := hid (show (x.fs.length : Int) = longP (m.el.take (k + 1)) L0 by rw [HS.out]; omega)
        go_wp2
        go_roundw
        case rel => first | exact ⟨k + 1, _, rfl, by go_num, by omega, HS', HW'⟩ | exact ⟨k + 1, _, rfl, by go_num, by omega, hid HS.out.symm, HW'⟩
        case measure => simp [intOf]; omega
      · have HS' := hid (show L = longP (m.el.take (k + 1)) L0 by rw [HS.out]; omega)
        go_wp2
        go_roundw
        case rel => first | exact ⟨k + 1, _, rfl, by go_num, by omega, HS', HW'⟩ | exact ⟨k + 1, _, rfl, by go_num, by omega, hid HS.out.symm, HW'⟩
        case measure => simp [intOf]; omega
    · obtain rfl : k = n := by omega
      have HE' := hid (show m.crowded = (decide (16384 < L) || (decide (1 < m.tb.length) || decide (1 < m.me.length))) by rw [HE.out, HL.out, ← HN.out, List.take_length])
      have x3 := Go.Proofs.YtaibfefmehhldaaGreatDoor.keep HW.out (HX.out 3 _ rfl)
      have x4 := Go.Proofs.YtaibfefmehhldaaGreatDoor.keep HW.out (HX.out 4 _ rfl)
      have HF := hid (HB.out.trans (HW.out.mono HB.out.size))
      clear HR HL HX HE HW HB
      by_cases h1 : 16384 < L
      · have HC := hid (show m.crowded = true by rw [HE'.out, decide_eq_true h1, Bool.true_or])
        clear HE'
        go_wp2
        go_ret
        exact ⟨ret_bool HC.out.symm, HF.out⟩
      · by_cases h2 : (1 : Int) < (m.tb.length : Int)
        · have HC := hid (show m.crowded = true by rw [HE'.out, decide_eq_true (show 1 < m.tb.length by omega), Bool.true_or, Bool.or_true])
          clear HE'
          go_wp2
          go_ret
          exact ⟨ret_bool HC.out.symm, HF.out⟩
        · have HC := hid (show m.crowded = decide (1 < m.me.length) by rw [HE'.out, decide_eq_false h1, decide_eq_false (show ¬ 1 < m.tb.length by omega), Bool.false_or, Bool.false_or])
          clear HE'
          go_wp2
          go_ret
          exact ⟨ret_bool (by rw [HC.out]; simp; omega), HF.out⟩

set_option maxHeartbeats 1000000 in
theorem heavy_any (l : List Da) (a : Option Addr) (n c : Nat) (w : World) (hn : l.length = n) (hr : Rows w.heap.size w a 2 (l.map Da.v)) (hl : n ≤ 140737488351232) :
    Calls Tryz.prog 69 #[.slice a n c] w fun e w' => e = .returned (.bool (decide (1048576 < sumB l))) ∧ Below w.heap.size w w' := by
  have HR := hid hr
  have HN := hid hn
  clear hr hn
  go_enter Tryz.func69, Tryz.ntmps69
  go_wp2
  go_loopw [3, 8] (fun vl vi wr => ∃ (k : Nat) (L : Int), vl = .int .i64 L ∧ vi = .int .i64 k ∧ k ≤ n ∧ 0 ≤ L ∧ L ≤ 1048576 ∧ Hid (L = 1048576 - (sumB (l.take k) : Int)) ∧ Hid (Below w.heap.size w wr)) (fun _ vi _ => n - (intOf vi).toNat)
  case atStart => exact ⟨0, 1048576, rfl, rfl, Nat.zero_le _, by omega, by omega, rfl, Below.refl _ _⟩
  case round =>
    obtain ⟨k, L, rfl, rfl, hk, h0, h1, HL, HW⟩ := hrel
    by_cases hlt : k < n
    · have hkl : k < l.length := by rw [HN.out]; exact hlt
      obtain ⟨b, off, rfl, hb, hc⟩ := Rows.get HR.out hkl
      have HS := hid (sumB_step hkl)
      have HT := hid (sumB_take l (k + 1))
      obtain ⟨x, hxe⟩ : ∃ x, l[k] = x := ⟨_, rfl⟩
      rw [hxe] at hc HS
      have cc : ∀ j, j < 2 → ∀ v, x.v[j]? = some v → wr.cell? ⟨b, off + k * 2 + j, none⟩ = some v := fun j hj v hv => (HW.out.cell (p := ⟨b, off + k * 2 + j, none⟩) hb).trans (hc j hj v hv)
      have c0 : wr.cell? ⟨b, off + k * 2, none⟩ = some x.l.val := cc 0 (by omega) _ rfl
      have c1 : wr.cell? ⟨b, off + k * 2 + 1, none⟩ = some (.slice x.ba x.bs.length x.bc) := cc 1 (by omega) _ rfl
      have hki : (k : Int) < (n : Int) := by omega
      unfold Lst.val at c0
      have HW' := hid (show Below w.heap.size w (wr.alloc (.cells #[.slice x.l.a x.l.t.len x.l.c, .slice x.ba x.bs.length x.bc] 51)) from HW.out.alloc HW.out.size _)
      clear hxe hc cc hb
      by_cases hgt : L < (x.bs.length : Int)
      · have HC := hid (show decide (1048576 < sumB l) = true by rw [decide_eq_true_eq]; have := HS.out; have := HT.out; have := HL.out; omega)
        go_wp2
        go_ret
        exact ⟨ret_bool HC.out.symm, HW'.out⟩
      · have HL' := hid (show L - (x.bs.length : Int) = 1048576 - (sumB (l.take (k + 1)) : Int) by rw [HS.out]; have := HL.out; omega)
        go_wp2
        go_roundw
        case rel => exact ⟨k + 1, _, rfl, by go_num, by omega, by omega, by omega, HL', HW'⟩
        case measure => simp [intOf]; omega
    · obtain rfl : k = n := by omega
      have HC := hid (show decide (1048576 < sumB l) = false by rw [decide_eq_false_iff_not]; have := HL.out; rw [← HN.out, List.take_length] at this; omega)
      go_wp2
      go_ret
      exact ⟨ret_bool HC.out.symm, HW.out⟩
end Go.Proofs.YtaibfefmehhldaaGreatDoor.Mod

namespace Go.Proofs.YtaibfefmehhldaaGreatDoor.Mod
open Go.RowKit Go.Shelf Go.Proofs.YtaibfefmehhldaaGreatDoor.Instr

/-- What is asked of a name: by function g, in whatever world. -/
def Asks (w : World) (g : Nat) (p : ByteArray → Bool) : Prop :=
  (∀ args w, (callFunc g args).run Tryz.prog w = .ok (.enter g args) w) ∧
    ∀ (W : World) (s : ByteArray), s.size ≤ 140737488351232 → Below w.heap.size w W → Calls Tryz.prog g #[.string s] W fun e w' => e = .returned (.bool (p s)) ∧ Below W.heap.size W w'
theorem Asks.on {w w' : World} {g : Nat} {p : ByteArray → Bool} (h : Asks w g p) (hb : Below w.heap.size w w') : Asks w' g p := ⟨h.1, fun W s hs hW => h.2 W s hs (hb.trans (hW.mono hb.size))⟩

set_option maxHeartbeats 400000 in
theorem anyName1_any (x : Imp) (b g : Nat) (p : ByteArray → Bool) (w : World) (hc : w.cell? ⟨b, 0, none⟩ = some (.func (.func g) #[] #[])) (hp : Asks w g p) (h1 : x.mo.size ≤ 140737488351232) (h2 : x.na.size ≤ 140737488351232) :
    Calls Tryz.prog 97 #[.agg #[.string x.mo, .string x.na, .int .i64 x.ty], .pointer (some ⟨b, 0, none⟩)] w fun e w' => e = .returned (.bool (p x.mo || p x.na)) ∧ Below w.heap.size w w' := by
  have eg := hp.1
  have C1 := hid (hp.2 (w.alloc (.cells #[.string x.mo, .string x.na, .int .i64 x.ty] 53)) x.mo h1 ((Below.refl _ _).alloc (Nat.le_refl _) _))
  have C2 := hid (fun W (hb : Below w.heap.size w W) => hp.2 W x.na h2 hb)
  have HC := hid (show ∀ w1, Below w.heap.size w w1 → w1.cell? ⟨b, 0, none⟩ = some (.func (.func g) #[] #[]) from fun w1 hb => Go.Proofs.YtaibfefmehhldaaGreatDoor.keep hb hc)
  have hbl := World.block_lt_of_cell? w _ hc
  obtain ⟨q, hq⟩ : ∃ q, p x.mo = q := ⟨_, rfl⟩
  rw [hq] at C1 ⊢
  clear hq hp h1 h2
  cases q with
  | true =>
    go_enter Tryz.func97, Tryz.ntmps97
    go_wp2_with (go_at_fn g; refine C1.out.mono ?_; rintro e w1 ⟨rfl, hb1⟩)
    go_ret
    exact ⟨rfl, thenB ((Below.refl _ _).alloc (Nat.le_refl _) _) hb1⟩
  | false =>
    rw [Bool.false_or]
    obtain ⟨r, hr⟩ : ∃ r, p x.na = r := ⟨_, rfl⟩
    rw [hr] at C2 ⊢
    clear hr
    go_enter Tryz.func97, Tryz.ntmps97
    go_wp2_with fail
    refine (Calls.mono (R' := fun e w1 => (e = .returned (.bool false) ∧ Below w.heap.size w w1) ∧ w1.cell? ⟨b, 0, none⟩ = some (.func (.func g) #[] #[]) ∧ w1.cell? ⟨w.heap.size, 1, none⟩ = some (.string x.na)) C1.out ?_).mono ?_
    · rintro e w1 ⟨rfl, hb1⟩
      have hB := thenB ((Below.refl _ _).alloc (Nat.le_refl _) _) hb1
      exact ⟨⟨rfl, hB⟩, HC.out _ hB, Go.Proofs.YtaibfefmehhldaaGreatDoor.keep hb1 (by go_simp)⟩
    rintro e w1 ⟨⟨rfl, hb1⟩, hc1, hc2⟩
    have C3 := hid (C2.out w1 hb1)
    clear hc C2
    go_wp2_with (go_at_fn g; refine C3.out.mono ?_; rintro e w2 ⟨rfl, hb2⟩)
    go_ret
    exact ⟨rfl, thenB hb1 hb2⟩
set_option maxHeartbeats 400000 in
theorem anyName2_any (x : Ex) (b g : Nat) (p : ByteArray → Bool) (w : World) (hc : w.cell? ⟨b, 0, none⟩ = some (.func (.func g) #[] #[])) (hp : Asks w g p) (h1 : x.na.size ≤ 140737488351232) :
    Calls Tryz.prog 98 #[.agg #[.string x.na, .int .i64 x.k, .int .u32 x.i], .pointer (some ⟨b, 0, none⟩)] w fun e w' => e = .returned (.bool (p x.na)) ∧ Below w.heap.size w w' := by
  have eg := hp.1
  have C1 := hid (hp.2 (w.alloc (.cells #[.string x.na, .int .i64 x.k, .int .u32 x.i] 55)) x.na h1 ((Below.refl _ _).alloc (Nat.le_refl _) _))
  have hbl := World.block_lt_of_cell? w _ hc
  clear hp h1
  go_enter Tryz.func98, Tryz.ntmps98
  go_wp2_with (go_at_fn g; refine C1.out.mono ?_; rintro e w1 ⟨rfl, hb1⟩)
  go_ret
  exact ⟨rfl, thenB ((Below.refl _ _).alloc (Nat.le_refl _) _) hb1⟩

theorem enters1 : ∀ args w, (callFunc 97 args).run Tryz.prog w = .ok (.enter 97 args) w := enters_of Tryz.func97 (by kernel_rfl) rfl
theorem enters2 : ∀ args w, (callFunc 98 args).run Tryz.prog w = .ok (.enter 98 args) w := enters_of Tryz.func98 (by kernel_rfl) rfl
set_option maxHeartbeats 1000000 in
theorem anyName_any (m : Md) (g : Nat) (p : ByteArray → Bool) (w : World) (hm : ModAt w.heap.size w m) (hf : m.fits) (hp : Asks w g p) :
    Calls Tryz.prog 66 #[.agg m.v, .func (.func g) #[] #[]] w fun e w' => e = .returned (.bool (m.anyName p)) ∧ Below w.heap.size w w' := by
  have B1 := hid (((Below.refl w.heap.size w).alloc (Nat.le_refl _) (.cells m.v 32)).alloc (by simp) (.cells #[.func (.func g) #[] #[]] 116))
  have hbx : BoxAt ((w.alloc (.cells m.v 32)).alloc (.cells #[.func (.func g) #[] #[]] 116)) w.heap.size m.v := (BoxAt.made w m.v _).keep ((Below.refl _ _).alloc (Nat.le_refl _) _)
  have hcb : ((w.alloc (.cells m.v 32)).alloc (.cells #[.func (.func g) #[] #[]] 116)).cell? ⟨w.heap.size + 1, 0, none⟩ = some (.func (.func g) #[] #[]) := by go_simp
  have C1 := hid (any_im m.im m.im'.a m.im.length m.im'.c ((w.alloc (.cells m.v 32)).alloc (.cells #[.func (.func g) #[] #[]] 116)) rfl (hm.on B1.out).im hf.im
    97 #[.pointer (some ⟨w.heap.size + 1, 0, none⟩)] enters1 (fun x => p x.mo || p x.na) (fun W x hx hW => anyName1_any x _ g p W (Go.Proofs.YtaibfefmehhldaaGreatDoor.keep hW hcb) ((hp.on B1.out).on hW) (hf.iS x hx).1 (hf.iS x hx).2))
  have C2 := hid (fun (W : World) (hW : Below ((w.alloc (.cells m.v 32)).alloc (.cells #[.func (.func g) #[] #[]] 116)).heap.size ((w.alloc (.cells m.v 32)).alloc (.cells #[.func (.func g) #[] #[]] 116)) W) =>
    any_ex m.ex m.ex'.a m.ex.length m.ex'.c W rfl ((hm.on B1.out).on hW).ex hf.ex
      98 #[.pointer (some ⟨w.heap.size + 1, 0, none⟩)] enters2 (fun x => p x.na) (fun W' x hx hW' => anyName2_any x _ g p W' (Go.Proofs.YtaibfefmehhldaaGreatDoor.keep hW' (Go.Proofs.YtaibfefmehhldaaGreatDoor.keep hW hcb)) (((hp.on B1.out).on hW).on hW') (hf.eS x hx)))
  have HX := hid (fun (W : World) (hW : Below ((w.alloc (.cells m.v 32)).alloc (.cells #[.func (.func g) #[] #[]] 116)).heap.size ((w.alloc (.cells m.v 32)).alloc (.cells #[.func (.func g) #[] #[]] 116)) W) => (hbx.keep hW) 6 _ rfl)
  have HE : Hid (m.anyName p = ((m.im.any fun i => p i.mo || p i.na) || (m.ex.any fun e => p e.na))) := rfl
  obtain ⟨q, hq⟩ : ∃ q, (m.im.any fun x => p x.mo || p x.na) = q := ⟨_, rfl⟩
  rw [hq] at C1 HE
  unfold Md.v at C1 C2 B1 HX ⊢
  clear hq hcb hbx hm hf hp
  cases q with
  | true =>
    have HE' : Hid (m.anyName p = true) := by show _ = _; rw [HE.out, Bool.true_or]
    clear HE
    go_enter Tryz.func66, Tryz.ntmps66
    go_wp2_with fail
    refine C1.out.mono ?_
    rintro e w1 ⟨rfl, hb1⟩
    clear C1 C2 HX
    go_wp2
    go_ret
    exact ⟨ret_bool HE'.out.symm, B1.out.trans (hb1.mono B1.out.size)⟩
  | false =>
    obtain ⟨r, hr⟩ : ∃ r, (m.ex.any fun x => p x.na) = r := ⟨_, rfl⟩
    have HE' : Hid (m.anyName p = r) := by show _ = _; rw [HE.out, Bool.false_or]; exact hr
    rw [hr] at C2
    clear HE hr
    go_enter Tryz.func66, Tryz.ntmps66
    go_wp2_with fail
    refine C1.out.mono ?_
    rintro e w1 ⟨rfl, hb1⟩
    have hx := HX.out w1 hb1
    have C3 := hid (C2.out w1 hb1)
    clear C1 C2 HX
    go_wp2_with fail
    refine C3.out.mono ?_
    rintro e w2 ⟨rfl, hb2⟩
    clear C3 hx
    go_wp2
    go_ret
    exact ⟨ret_bool HE'.out.symm, B1.out.trans ((thenB hb1 hb2).mono B1.out.size)⟩
end Go.Proofs.YtaibfefmehhldaaGreatDoor.Mod
