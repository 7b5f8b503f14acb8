/-
  INSTR: filled and lawful by contracts.
-/
import Derived.Test.YtlfflomeaplidaaDoorInstrLeaf
import Derived.Deep.RegionHeld3
import Derived.Test.YtlfflomeaplidaaDoorSave
namespace Go.Proofs.YtlfflomeaplidaaDoor.Instr
open Go.RowKit

def Ix.vals (x : Ix) : Array Value := #[.int .i64 x.op, .int .i64 x.res, .int .u32 x.a, .int .u32 x.b, .int .i32 x.n, .slice x.ta x.tags.length x.tc, .slice x.la x.ln x.lc, .slice x.ea x.en x.ec]
/-- What a field of an instruction may hold. -/
structure Ix.ok (x : Ix) : Prop where
  op : -9223372036854775808 ≤ x.op ∧ x.op ≤ 9223372036854775807
  res : -9223372036854775808 ≤ x.res ∧ x.res ≤ 9223372036854775807
  a : 0 ≤ x.a ∧ x.a < 4294967296
  b : 0 ≤ x.b ∧ x.b < 4294967296
  n : -2147483648 ≤ x.n ∧ x.n < 2147483648
  tags : ∀ z ∈ x.tags, 0 ≤ z ∧ z < 4294967296
  tn : x.tags.length ≤ 140737488351232
  ln : x.ln ≤ 140737488351232
  en : x.en ≤ 140737488351232

/-- An instruction in a block of its own. -/
structure At (x : Ix) (g : Nat) (w : World) : Prop where
  c0 : w.cell? ⟨g, 0, none⟩ = some (.int .i64 x.op)
  c1 : w.cell? ⟨g, 1, none⟩ = some (.int .i64 x.res)
  c2 : w.cell? ⟨g, 2, none⟩ = some (.int .u32 x.a)
  c3 : w.cell? ⟨g, 3, none⟩ = some (.int .u32 x.b)
  c4 : w.cell? ⟨g, 4, none⟩ = some (.int .i32 x.n)
  c5 : w.cell? ⟨g, 5, none⟩ = some (.slice x.ta x.tags.length x.tc)
  c6 : w.cell? ⟨g, 6, none⟩ = some (.slice x.la x.ln x.lc)
  c7 : w.cell? ⟨g, 7, none⟩ = some (.slice x.ea x.en x.ec)
theorem At.save {x : Ix} {g k : Nat} {w w' : World} (h : At x g w) (hs : Save k w w') (hk : g ≠ k) : At x g w' :=
  ⟨hs.cell hk h.c0, hs.cell hk h.c1, hs.cell hk h.c2, hs.cell hk h.c3, hs.cell hk h.c4, hs.cell hk h.c5, hs.cell hk h.c6, hs.cell hk h.c7⟩
theorem At.below {x : Ix} {g : Nat} {w w' : World} (h : At x g w) (hb : Below w.heap.size w w') : At x g w' :=
  ⟨keep hb h.c0, keep hb h.c1, keep hb h.c2, keep hb h.c3, keep hb h.c4, keep hb h.c5, keep hb h.c6, keep hb h.c7⟩
theorem At.made (x : Ix) (w : World) : At x w.heap.size (w.alloc (.cells x.vals 61)) := by
  constructor <;> simp [Ix.vals, go_sem]

/-- What has been found so far. -/
structure Fil (w0 : World) (x : Ix) (u : Int) (w : World) : Prop where
  below : Below w0.heap.size w0 w
  at_ : At x w0.heap.size w
  out : w.cell? ⟨w0.heap.size + 1, 0, none⟩ = some (.int .u8 u)
  frozen : w.frozen? ⟨w0.heap.size + 1, 0, none⟩ = false
theorem add_any (w0 : World) (x : Ix) (b : Bool) (k : Int) (u : Int) (w : World) (h : Fil w0 x u w) :
    Calls Tryd.prog 119 #[.bool b, .int .u8 k, .pointer (some ⟨w0.heap.size + 1, 0, none⟩)] w fun e w' => (∃ v, e = .returned v) ∧ ∃ u', Hid ((if b then bits .or .u8 u k else u) = u') ∧ Fil w0 x u' w' := by
  obtain ⟨hb, ha, hc, hf⟩ := h
  obtain ⟨g, hg⟩ : ∃ g, w0.heap.size + 1 = g := ⟨_, rfl⟩
  have HG := hid hg
  rw [hg] at hc hf ⊢
  clear hg
  cases b
  · go_enter Tryd.func119, Tryd.ntmps119
    go_wp2
    go_end0
    exact ⟨⟨_, rfl⟩, u, rfl, hb, ha, by rw [HG.out]; exact hc, by rw [HG.out]; exact hf⟩
  · go_enter Tryd.func119, Tryd.ntmps119
    go_wp2
    go_end0
    have hg := HG.out
    have hs : Save g w (w.setCell ⟨g, 0, none⟩ (.int .u8 (bits .or .u8 u k))) := (Save.refl g w).setCell (.inl rfl) _
    refine ⟨⟨_, rfl⟩, bits .or .u8 u k, rfl, hb.trans (hs.below hb.size (by omega)), ha.save hs (by omega), ?_, ?_⟩
    · rw [hg]; simp [go_sem, hc]
    · rw [hg]; simp [go_sem, hf]
theorem add_fills (b1 b2 b3 b4 b5 b6 b7 : Bool) : ∀ u1 u2 u3 u4 u5 u6 : Int, (if b1 then bits .or .u8 0 1 else 0) = u1 → (if b2 then bits .or .u8 u1 2 else u1) = u2 → (if b3 then bits .or .u8 u2 4 else u2) = u3 → (if b4 then bits .or .u8 u3 8 else u3) = u4 →
    (if b5 then bits .or .u8 u4 16 else u4) = u5 → (if b6 then bits .or .u8 u5 32 else u5) = u6 → (if b7 then bits .or .u8 u6 64 else u6) = bit b1 1 + bit b2 2 + bit b3 4 + bit b4 8 + bit b5 16 + bit b6 32 + bit b7 64 := by
  intro u1 u2 u3 u4 u5 u6 h1 h2 h3 h4 h5 h6
  subst h1 h2 h3 h4 h5 h6
  cases b1 <;> cases b2 <;> cases b3 <;> cases b4 <;> cases b5 <;> cases b6 <;> cases b7 <;> rfl
set_option maxHeartbeats 1000000 in
theorem filled_any (x : Ix) (w : World) : Calls Tryd.prog 94 #[.agg x.vals] w fun e w' => e = .returned (.int .u8 (filledP x)) ∧ Below w.heap.size w w' := by
  have hmf : ∀ (fn : Fn) (first cap : Array Value) (w : World), (Instr.makeFunc fn first cap).run Tryd.prog w = .ok (.func fn first cap) w := fun fn first cap w => by simp [Instr.makeFunc, go_sem]
  obtain ⟨u, hu⟩ : ∃ u, filledP x = u := ⟨_, rfl⟩
  rw [hu]
  have HU := hid hu
  clear hu
  unfold Ix.vals
  go_enter Tryd.func94, Tryd.ntmps94
  go_wp2_with fail
  have hF0 : Fil w x 0 ((w.alloc (.cells x.vals 61)).alloc (.cells #[.int .u8 0] 135)) := by
    refine ⟨thenA (thenA (Below.refl _ _) _) _, (At.made x w).below ((Below.refl _ _).alloc (Nat.le_refl _) _), ?_, ?_⟩ <;> simp [go_sem]
  refine (add_any w x _ 1 _ _ hF0).mono ?_
  clear hF0
  rintro e w1 ⟨⟨v1, rfl⟩, u1, hu1, hF1⟩
  obtain ⟨ab1, at1, ao1, af1⟩ := hF1
  have hF1 : Fil w x u1 w1 := ⟨ab1, at1, ao1, af1⟩
  obtain ⟨c0, c1, c2, c3, c4, c5, c6, c7⟩ := at1
  go_wp2_with fail
  clear c0 c1 c2 c3 c4 c5 c6 c7 ao1 af1
  refine (add_any w x _ 2 _ _ hF1).mono ?_
  clear hF1
  rintro e w2 ⟨⟨v2, rfl⟩, u2, hu2, hF2⟩
  obtain ⟨ab2, at2, ao2, af2⟩ := hF2
  have hF2 : Fil w x u2 w2 := ⟨ab2, at2, ao2, af2⟩
  obtain ⟨c0, c1, c2, c3, c4, c5, c6, c7⟩ := at2
  go_wp2_with fail
  clear c0 c1 c2 c3 c4 c5 c6 c7 ao2 af2
  refine (add_any w x _ 4 _ _ hF2).mono ?_
  clear hF2
  rintro e w3 ⟨⟨v3, rfl⟩, u3, hu3, hF3⟩
  obtain ⟨ab3, at3, ao3, af3⟩ := hF3
  have hF3 : Fil w x u3 w3 := ⟨ab3, at3, ao3, af3⟩
  obtain ⟨c0, c1, c2, c3, c4, c5, c6, c7⟩ := at3
  go_wp2_with fail
  clear c0 c1 c2 c3 c4 c5 c6 c7 ao3 af3
  refine (add_any w x _ 8 _ _ hF3).mono ?_
  clear hF3
  rintro e w4 ⟨⟨v4, rfl⟩, u4, hu4, hF4⟩
  obtain ⟨ab4, at4, ao4, af4⟩ := hF4
  have hF4 : Fil w x u4 w4 := ⟨ab4, at4, ao4, af4⟩
  obtain ⟨c0, c1, c2, c3, c4, c5, c6, c7⟩ := at4
  go_wp2_with fail
  clear c0 c1 c2 c3 c4 c5 c6 c7 ao4 af4
  refine (add_any w x _ 16 _ _ hF4).mono ?_
  clear hF4
  rintro e w5 ⟨⟨v5, rfl⟩, u5, hu5, hF5⟩
  obtain ⟨ab5, at5, ao5, af5⟩ := hF5
  have hF5 : Fil w x u5 w5 := ⟨ab5, at5, ao5, af5⟩
  obtain ⟨c0, c1, c2, c3, c4, c5, c6, c7⟩ := at5
  go_wp2_with fail
  clear c0 c1 c2 c3 c4 c5 c6 c7 ao5 af5
  refine (add_any w x _ 32 _ _ hF5).mono ?_
  clear hF5
  rintro e w6 ⟨⟨v6, rfl⟩, u6, hu6, hF6⟩
  obtain ⟨ab6, at6, ao6, af6⟩ := hF6
  have hF6 : Fil w x u6 w6 := ⟨ab6, at6, ao6, af6⟩
  obtain ⟨c0, c1, c2, c3, c4, c5, c6, c7⟩ := at6
  go_wp2_with fail
  clear c0 c1 c2 c3 c4 c5 c6 c7 ao6 af6
  refine (add_any w x _ 64 _ _ hF6).mono ?_
  clear hF6
  rintro e w7 ⟨⟨v7, rfl⟩, u7, hu7, hF7⟩
  obtain ⟨ab7, at7, ao7, af7⟩ := hF7
  have hF7 : Fil w x u7 w7 := ⟨ab7, at7, ao7, af7⟩
  obtain ⟨c0, c1, c2, c3, c4, c5, c6, c7⟩ := at7
  go_wp2_with fail
  go_ret
  refine ⟨ret_int ?_, ab7⟩
  have := add_fills (x.res != 0) (x.a != 0) (x.b != 0) (x.n != 0) (decide (0 < x.tags.length)) (decide (0 < x.ln)) (decide (0 < x.en)) _ _ _ _ _ _ hu1.out hu2.out hu3.out hu4.out hu5.out hu6.out
  rw [← hu7.out, this, ← HU.out, filledP]
end Go.Proofs.YtlfflomeaplidaaDoor.Instr
