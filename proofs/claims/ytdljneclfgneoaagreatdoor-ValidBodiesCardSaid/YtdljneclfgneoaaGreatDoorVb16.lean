import Derived.Test.YtdljneclfgneoaaGreatDoorVb15
import Derived.Test.YtdljneclfgneoaaGreatDoorVb14
import Derived.Test.YtdljneclfgneoaaGreatDoorVb02
import Derived.Test.YtdljneclfgneoaaGreatDoorVb05
import Derived.Test.YtdljneclfgneoaaGreatDoorVb07
import Derived.Test.YtdljneclfgneoaaGreatDoorVb10
import Derived.Test.YtdljneclfgneoaaGreatDoorVb13
import Derived.Deep.Cut
import Derived.BigQuiet
import Derived.Deep.QuietTactic
import Derived.Deep.RegionHeld3
import Derived.RegionTactic
import Derived.ChangeAlike
import Derived.Deep.RegionWith
namespace Go.Proofs.YtdljneclfgneoaaGreatDoor.Instr
end Go.Proofs.YtdljneclfgneoaaGreatDoor.Instr
namespace Go.Proofs.YtdljneclfgneoaaGreatDoor.Mod
end Go.Proofs.YtdljneclfgneoaaGreatDoor.Mod
namespace Go.Proofs.YtdljneclfgneoaaGreatDoor.Leb
end Go.Proofs.YtdljneclfgneoaaGreatDoor.Leb
namespace Go.Proofs.YtdljneclfgneoaaGreatDoor.Kind
end Go.Proofs.YtdljneclfgneoaaGreatDoor.Kind
namespace Go.Proofs.YtdljneclfgneoaaGreatDoor.Val
open Go.RowKit Go.Shelf Go.Proofs.YtdljneclfgneoaaGreatDoor.Instr Go.Proofs.YtdljneclfgneoaaGreatDoor.Mod
set_option linter.unusedVariables false

theorem held_ot12 {w w1 : World} {p0 p1 p2 p3 p4 p5 p6 p7 p8 p9 p10 p11 : Addr} {v0 v1 v2 v3 v4 v5 v6 v7 v8 v9 v10 v11 : Value} (h : Below w.heap.size w w1 ∧ w1.cell? p0 = some v0 ∧ w1.cell? p1 = some v1 ∧ w1.cell? p2 = some v2 ∧ w1.cell? p3 = some v3 ∧ w1.cell? p4 = some v4 ∧ w1.cell? p5 = some v5 ∧ w1.cell? p6 = some v6 ∧ w1.cell? p7 = some v7 ∧ w1.cell? p8 = some v8 ∧ w1.cell? p9 = some v9 ∧ w1.cell? p10 = some v10 ∧ w1.cell? p11 = some v11) : Below w.heap.size w w1 := h.1
theorem held_kp12 {w w1 w2 : World} {p0 p1 p2 p3 p4 p5 p6 p7 p8 p9 p10 p11 : Addr} {v0 v1 v2 v3 v4 v5 v6 v7 v8 v9 v10 v11 : Value} (h : Below w.heap.size w w1 ∧ w1.cell? p0 = some v0 ∧ w1.cell? p1 = some v1 ∧ w1.cell? p2 = some v2 ∧ w1.cell? p3 = some v3 ∧ w1.cell? p4 = some v4 ∧ w1.cell? p5 = some v5 ∧ w1.cell? p6 = some v6 ∧ w1.cell? p7 = some v7 ∧ w1.cell? p8 = some v8 ∧ w1.cell? p9 = some v9 ∧ w1.cell? p10 = some v10 ∧ w1.cell? p11 = some v11) (hb : Below w1.heap.size w1 w2) : Below w.heap.size w w2 ∧ w2.cell? p0 = some v0 ∧ w2.cell? p1 = some v1 ∧ w2.cell? p2 = some v2 ∧ w2.cell? p3 = some v3 ∧ w2.cell? p4 = some v4 ∧ w2.cell? p5 = some v5 ∧ w2.cell? p6 = some v6 ∧ w2.cell? p7 = some v7 ∧ w2.cell? p8 = some v8 ∧ w2.cell? p9 = some v9 ∧ w2.cell? p10 = some v10 ∧ w2.cell? p11 = some v11 :=
  ⟨thenB h.1 hb, Go.Proofs.YtdljneclfgneoaaGreatDoor.keep hb h.2.1, Go.Proofs.YtdljneclfgneoaaGreatDoor.keep hb h.2.2.1, Go.Proofs.YtdljneclfgneoaaGreatDoor.keep hb h.2.2.2.1, Go.Proofs.YtdljneclfgneoaaGreatDoor.keep hb h.2.2.2.2.1, Go.Proofs.YtdljneclfgneoaaGreatDoor.keep hb h.2.2.2.2.2.1, Go.Proofs.YtdljneclfgneoaaGreatDoor.keep hb h.2.2.2.2.2.2.1, Go.Proofs.YtdljneclfgneoaaGreatDoor.keep hb h.2.2.2.2.2.2.2.1, Go.Proofs.YtdljneclfgneoaaGreatDoor.keep hb h.2.2.2.2.2.2.2.2.1, Go.Proofs.YtdljneclfgneoaaGreatDoor.keep hb h.2.2.2.2.2.2.2.2.2.1, Go.Proofs.YtdljneclfgneoaaGreatDoor.keep hb h.2.2.2.2.2.2.2.2.2.2.1, Go.Proofs.YtdljneclfgneoaaGreatDoor.keep hb h.2.2.2.2.2.2.2.2.2.2.2.1, Go.Proofs.YtdljneclfgneoaaGreatDoor.keep hb h.2.2.2.2.2.2.2.2.2.2.2.2⟩
/-- The labels lie in a block that is not the judge's. -/
def LabX (g : Nat) (W : World) (a : Option Addr) (ls : List Int) : Prop := ls = [] ∨ ∃ b, a = some ⟨b, 0, none⟩ ∧ b ≠ g ∧ b < W.heap.size ∧ ∀ i, i < ls.length → W.cell? ⟨b, i, none⟩ = some (.int .i64 (ls.getD i 0))
theorem LabX.at_ {g : Nat} {W : World} {a : Option Addr} {ls : List Int} (h : LabX g W a ls) : LabAt W.heap.size W a ls := by
  rcases h with h | ⟨b, h1, h2, h3, h4⟩
  · exact .inl h
  · exact .inr ⟨b, h1, h3, h4⟩
theorem LabX.save {g : Nat} {W W' : World} {a : Option Addr} {ls : List Int} (h : LabX g W a ls) (hs : Save g W W') : LabX g W' a ls := by
  rcases h with h | ⟨b, h1, h2, h3, h4⟩
  · exact .inl h
  · exact .inr ⟨b, h1, h2, Nat.lt_of_lt_of_le h3 hs.size, fun i hi => hs.cell (p := ⟨b, i, none⟩) h2 (h4 i hi)⟩
/-- What a call of the judge wants of its module. -/
theorem mod_on {n₀ g : Nat} {W W' : World} {m : Md} (hm : ModAt n₀ W m) (hg : n₀ ≤ g) (hn : n₀ ≤ W.heap.size) (hs : Save g W W') : ModAt n₀ W' m := hm.below (hs.below hn hg)
theorem mod_all {n₀ : Nat} {W : World} {m : Md} (hm : ModAt n₀ W m) (hn : n₀ ≤ W.heap.size) : ModAt W.heap.size W m := hm.more hn
theorem three_dr {W A : World} {X : Array Value} {n0 : Int} {d : Bool} (h : Three W X n0 d A) (n : Nat) : Three W X n0 d (A.drewN n) := ⟨h.a, h.b, h.c⟩
theorem JQ.away {g q i : Nat} {hd : List Value} {lab : Value} {j : J} {W A : World} (h : JQ g hd lab j W A) (hne : q ≠ g) (hq : W.heap.size ≤ q) (v : Value) : JQ g hd lab j W (A.setCell ⟨q, i, none⟩ v) :=
  ⟨h.1.keep (Save.setCell (p := ⟨q, i, none⟩) (Save.refl q A) (.inl rfl) v) (Ne.symm hne), h.2.setCell (p := ⟨q, i, none⟩) (.inr hq) v⟩
theorem Three.away {W A : World} {X : Array Value} {n0 : Int} {d : Bool} {q i : Nat} (h : Three W X n0 d A) (hq : W.heap.size + 2 < q) (v : Value) : Three W X n0 d (A.setCell ⟨q, i, none⟩ v) :=
  have s : Save q A (A.setCell ⟨q, i, none⟩ v) := Save.setCell (p := ⟨q, i, none⟩) (Save.refl q A) (.inl rfl) v
  ⟨(s.block _ (Array.getElem?_eq_some_iff.1 h.a).1 (by omega)).trans h.a, (s.block _ (Array.getElem?_eq_some_iff.1 h.b).1 (by omega)).trans h.b, (s.block _ (Array.getElem?_eq_some_iff.1 h.c).1 (by omega)).trans h.c⟩
/-- A type's box behind the three. -/
def TyAt (W : World) (q : Nat) (p r : Int) : Prop := W.heap[q]? = some (.cells #[.int .i64 p, .int .i64 r] 26 (0, 0))
theorem TyAt.save {W W' : World} {q g : Nat} {p r : Int} (h : TyAt W q p r) (hs : Save g W W') (hne : q ≠ g) : TyAt W' q p r := (hs.block q (Array.getElem?_eq_some_iff.1 h).1 hne).trans h
theorem ty_of {n₀ : Nat} {W : World} {m : Md} (hm : ModAt n₀ W m) {k : Nat} (hk : k < m.ty.length) : ∃ b off, m.ty'.a = some ⟨b, off, none⟩ ∧ b < n₀ ∧ W.cell? ⟨b, off + k * 2, none⟩ = some (.int .i64 (m.ty.getD k (0, 0)).1) ∧ W.cell? ⟨b, off + k * 2 + 1, none⟩ = some (.int .i64 (m.ty.getD k (0, 0)).2) := by
  obtain ⟨b, off, h1, h2, h3⟩ := Rows.get hm.ty hk
  have e : m.ty.getD k (0, 0) = m.ty[k] := by simp [hk]
  rw [e]
  exact ⟨b, off, h1, h2, h3 0 (by omega) _ rfl, h3 1 (by omega) _ rfl⟩
/-- The first part: which type, and whether it is there. -/
def Fst (W : World) (g : Nat) (hd : List Value) (lab : Value) (j : J) (X : Array Value) (n0 : Int) (d : Bool) (p r : Int) (t9 : Value) (wx : World) : Prop :=
  ∃ q, t9 = .pointer (some ⟨q, 0, none⟩) ∧ W.heap.size + 2 < q ∧ Three W X n0 d wx ∧ TyAt wx q p r ∧ JQ g hd lab j W wx
theorem fst_a {W W3 w7 : World} {g : Nat} {hd : List Value} {lab : Value} {j : J} {X : Array Value} {n0 : Int} {d : Bool} (p r : Int) (hj : JQ g hd lab j W W3) (h3 : Three W X n0 d W3) (hg : g < W.heap.size) (hsz : W3.heap.size = W.heap.size + 1 + 1 + 1) (hb : Below W3.drew.heap.size W3.drew w7) :
    Fst W g hd lab j X n0 d p r (.pointer (some ⟨w7.heap.size, 0, none⟩)) (w7.alloc (.cells #[.int .i64 p, .int .i64 r] 26)) := by
  have hb1 : Below W3.heap.size W3 w7 := ⟨hb.os, hb.tape, hb.output, hb.size, hb.block⟩
  have hb' : Below W3.heap.size W3 (w7.alloc (.cells #[.int .i64 p, .int .i64 r] 26)) := thenA hb1 _
  have hs : Save g W3 (w7.alloc (.cells #[.int .i64 p, .int .i64 r] 26)) := Save.of_below hb'
  exact ⟨w7.heap.size, rfl, by have := hb.size; have e : W3.drew.heap.size = W3.heap.size := rfl; omega, h3.save hs hg, heap_alloc_new w7 _, hj.1.below hb', hj.2.trans hs⟩
theorem fst_b {W W3 w7 : World} {g : Nat} {hd : List Value} {lab : Value} {j : J} {X : Array Value} {n0 : Int} {d : Bool} (p r : Int) (hj : JQ g hd lab j W W3) (h3 : Three W X n0 d W3) (hg : g < W.heap.size) (hsz : W3.heap.size = W.heap.size + 1 + 1 + 1) (hb : Below (W3.alloc (.cells #[.int .i64 0, .int .i64 0] 26)).drew.heap.size (W3.alloc (.cells #[.int .i64 0, .int .i64 0] 26)).drew w7) :
    Fst W g hd lab j X n0 d p r (.pointer (some ⟨W3.heap.size, 0, none⟩)) ((w7.setCell ⟨W3.heap.size, 0, none⟩ (.int .i64 p)).setCell ⟨W3.heap.size, 1, none⟩ (.int .i64 r)) := by
  have e : (W3.alloc (.cells #[.int .i64 0, .int .i64 0] 26)).drew.heap.size = W3.heap.size + 1 := by show (W3.alloc _).heap.size = _; rw [World.size_alloc]
  have hb7 : Below W3.heap.size W3 w7 := (belowAlloc W3 (.cells #[.int .i64 0, .int .i64 0] 26)).trans ⟨hb.os, hb.tape, hb.output, hb.size, fun j hj => hb.block j (by omega)⟩
  have hr : w7.heap[W3.heap.size]? = some (.cells #[.int .i64 0, .int .i64 0] 26 (0, 0)) := (hb.block W3.heap.size (by omega)).trans (heap_alloc_new W3 _)
  have hb' : Below W3.heap.size W3 ((w7.setCell ⟨W3.heap.size, 0, none⟩ (.int .i64 p)).setCell ⟨W3.heap.size, 1, none⟩ (.int .i64 r)) := (hb7.setCell (Nat.le_refl _) _).setCell (Nat.le_refl _) _
  have hs : Save g W3 ((w7.setCell ⟨W3.heap.size, 0, none⟩ (.int .i64 p)).setCell ⟨W3.heap.size, 1, none⟩ (.int .i64 r)) := Save.of_below hb'
  exact ⟨W3.heap.size, rfl, by omega, h3.save hs hg, heap_setCell_same _ _ 1 _ _ _ (heap_setCell_same _ _ 0 _ _ _ hr), hj.1.below hb', hj.2.trans hs⟩
set_option maxRecDepth 100000 in
set_option maxHeartbeats 4000000 in
theorem callR_16 {W : World} {g n₀ : Nat} {m : Md} {t1 t2 lo : Int} {lab : Value} {j : J} (h : JAt W g (jhd m t1 t2 lo) lab j) (hm : ModAt n₀ W m) (hg : n₀ ≤ g) (hf : m.fits) (he : Env m) (hpp : ∀ t ∈ m.ty, t.1 ≤ 1000000) (x : Ix) (hx : x.ok) (hv : Hv) (a : Int) (hh : 0 ≤ hv.n ∧ hv.n ≤ 4000000000000000000) (hop : x.op = 16) :
    Calls Tryz.prog 291 #[.pointer (some ⟨g, 0, none⟩), .agg x.vals, HvV hv, .int .i64 a] W fun e W' => e = .returned (HvV (callJ m x a (hv, j)).1) ∧ JQ g (jhd m t1 t2 lo) lab (callJ m x a (hv, j)).2 W W' := by
  obtain ⟨ha0, ha1⟩ := hx.a
  have hcr := he.callee x
  obtain ⟨op, res, xa, xb, xn, tags, ta, tc, la, ln, lc, ea, en, ec⟩ := x
  simp only at hop ha0 ha1
  subst hop
  obtain ⟨N, rfl⟩ : ∃ N : Nat, xa = (N : Int) := ⟨xa.toNat, by omega⟩
  obtain ⟨n0, d⟩ := hv
  have CP := hid (fun (W' : World) (hv : Hv) (j' : J) (n : Int) (hj : JAt W' g (jhd m t1 t2 lo) lab j') (hn : 0 ≤ n ∧ n ≤ 4611686018427387904) (hh : 0 ≤ hv.n ∧ hv.n ≤ 4611686018427387904) => popR_any hj hv n a hn hh)
  have CF := hid (fun (W' : World) (j' : J) (hj : JAt W' g (jhd m t1 t2 lo) lab j') => fault_any hj 6 a)
  have HG := hid h.lt
  obtain ⟨W3, hW3⟩ : ∃ W3, W3 = ((W.alloc (.cells #[.int .i64 16, .int .i64 res, .int .u32 (N : Int), .int .u32 xb, .int .i32 xn, .slice ta tags.length tc, .slice la ln lc, .slice ea en ec] 92)).alloc (.cells #[.int .i64 n0, .bool d] 312)).alloc (.cells #[.int .i64 0, .bool false] 312) := ⟨_, rfl⟩
  have hb0 : Below W.heap.size W W3 := by rw [hW3]; exact thenA (thenA (belowAlloc W _) _) _
  have h3 : Three W #[.int .i64 16, .int .i64 res, .int .u32 (N : Int), .int .u32 xb, .int .i32 xn, .slice ta tags.length tc, .slice la ln lc, .slice ea en ec] n0 d W3 := by rw [hW3]; exact Three.made W _ n0 d
  have hsz : W3.heap.size = W.heap.size + 1 + 1 + 1 := by rw [hW3]; simp
  have hn0 : n₀ ≤ W3.heap.size := by have := h.lt; omega
  have hmb := hm.below (hb0.mono (by have := h.lt; omega) : Below n₀ W W3)
  have CT := hid (fun (W' : World) (hb : Below W3.heap.size W3 W') => refTypeOf_any m N W' ((hmb.below (hb.mono hn0)).more (Nat.le_trans hn0 hb.size)) hf (by omega))
  have HJ := hid (show JQ g (jhd m t1 t2 lo) lab j W W3 from ⟨h.below hb0, Save.of_below hb0⟩)
  have H3 := hid h3
  have HSZ := hid hsz
  have hj3 := h.below hb0
  have d0 := hj3.hd_ (i := 0) rfl
  have d1 := hj3.hd_ (i := 1) rfl
  have d2 := hj3.hd_ (i := 2) rfl
  have d3 := hj3.hd_ (i := 3) rfl
  have d4 := hj3.hd_ (i := 4) rfl
  have d5 := hj3.hd_ (i := 5) rfl
  have d6 := hj3.hd_ (i := 6) rfl
  have d7 := hj3.hd_ (i := 7) rfl
  have d8 := hj3.hd_ (i := 8) rfl
  have d9 := hj3.hd_ (i := 9) rfl
  have d10 := hj3.hd_ (i := 10) rfl
  have dx := cell_of_row W3 W.heap.size 2 _ _ _ h3.a
  simp at dx
  have HM3 := hid hmb
  have HW3 := hid hW3
  have HB0 := hid hb0
  unfold callJ
  have HCE := hid hcr
  have hce : calleeP m ⟨16, res, (N : Int), xb, xn, tags, ta, tc, la, ln, lc, ea, en, ec⟩ = m.typeOf N := rfl
  rw [hce] at HCE ⊢
  have hpr : 0 ≤ (m.typeOf N).1.1 ∧ (m.typeOf N).1.1 ≤ 1000000 := by
    unfold Md.typeOf
    split
    · simp
    · rename_i hq
      have hk : (m.typeN N).toNat < m.ty.length := by omega
      have e : m.ty.getD (m.typeN N).toNat (0, 0) = m.ty[(m.typeN N).toNat] := by simp [hk]
      simp only [e]
      exact ⟨(he.ty _ (List.getElem_mem hk)).1, hpp _ (List.getElem_mem hk)⟩
  obtain ⟨⟨⟨p, r⟩, is⟩, hty⟩ : ∃ q, m.typeOf N = q := ⟨_, rfl⟩
  rw [hty] at CT HCE hpr ⊢
  have HPR := hid hpr
  have hrr := HCE.out
  have FA := hid (fun (w7 : World) (hb : Below W3.drew.heap.size W3.drew w7) => fst_a p r HJ.out h3 h.lt hsz hb)
  have FB := hid (fun (w7 : World) (hb : Below (W3.alloc (.cells #[.int .i64 0, .int .i64 0] 26)).drew.heap.size (W3.alloc (.cells #[.int .i64 0, .int .i64 0] 26)).drew w7) => fst_b p r HJ.out h3 h.lt hsz hb)
  clear h hx hm hf he hpp hce hty hcr hW3 hb0 h3 hsz hmb hn0 hpr hj3
  dsimp only at CT HCE HPR hrr hh ⊢
  obtain ⟨-, hr0, hr1⟩ := hrr
  have hS0 : Below W3.heap.size W3 W3.drew ∧ W3.drew.cell? ⟨g, 0, none⟩ = some (.slice m.ty'.a m.ty.length m.ty'.c) ∧ W3.drew.cell? ⟨g, 1, none⟩ = some (.slice m.im'.a m.im.length m.im'.c) ∧ W3.drew.cell? ⟨g, 2, none⟩ = some (.slice m.fu'.a m.fu.length m.fu'.c) ∧ W3.drew.cell? ⟨g, 3, none⟩ = some (.slice m.tb'.a m.tb.length m.tb'.c) ∧ W3.drew.cell? ⟨g, 4, none⟩ = some (.slice m.me'.a m.me.length m.me'.c) ∧ W3.drew.cell? ⟨g, 5, none⟩ = some (.slice m.gl'.a m.gl.length m.gl'.c) ∧ W3.drew.cell? ⟨g, 6, none⟩ = some (.slice m.ex'.a m.ex.length m.ex'.c) ∧ W3.drew.cell? ⟨g, 7, none⟩ = some (.bool m.st) ∧ W3.drew.cell? ⟨g, 8, none⟩ = some (.int .u32 m.sn) ∧ W3.drew.cell? ⟨g, 9, none⟩ = some (.slice m.el'.a m.el.length m.el'.c) ∧ W3.drew.cell? ⟨g, 10, none⟩ = some (.slice m.da'.a m.da.length m.da'.c) ∧ W3.drew.cell? ⟨W.heap.size, 2, none⟩ = some (.int .u32 (N : Int)) := ⟨(Below.refl _ _).drew, d0, d1, d2, d3, d4, d5, d6, d7, d8, d9, d10, dx⟩
  have HK := hid (fun (w' : World) (hb : Below W3.heap.size W3 w') => (show Below W3.heap.size W3 w' ∧ w'.cell? ⟨g, 0, none⟩ = some (.slice m.ty'.a m.ty.length m.ty'.c) ∧ w'.cell? ⟨g, 1, none⟩ = some (.slice m.im'.a m.im.length m.im'.c) ∧ w'.cell? ⟨g, 2, none⟩ = some (.slice m.fu'.a m.fu.length m.fu'.c) ∧ w'.cell? ⟨g, 3, none⟩ = some (.slice m.tb'.a m.tb.length m.tb'.c) ∧ w'.cell? ⟨g, 4, none⟩ = some (.slice m.me'.a m.me.length m.me'.c) ∧ w'.cell? ⟨g, 5, none⟩ = some (.slice m.gl'.a m.gl.length m.gl'.c) ∧ w'.cell? ⟨g, 6, none⟩ = some (.slice m.ex'.a m.ex.length m.ex'.c) ∧ w'.cell? ⟨g, 7, none⟩ = some (.bool m.st) ∧ w'.cell? ⟨g, 8, none⟩ = some (.int .u32 m.sn) ∧ w'.cell? ⟨g, 9, none⟩ = some (.slice m.el'.a m.el.length m.el'.c) ∧ w'.cell? ⟨g, 10, none⟩ = some (.slice m.da'.a m.da.length m.da'.c) ∧ w'.cell? ⟨W.heap.size, 2, none⟩ = some (.int .u32 (N : Int)) from held_kp12 ⟨Below.refl _ W3, d0, d1, d2, d3, d4, d5, d6, d7, d8, d9, d10, dx⟩ hb))
  have HKA := hid (fun (w' : World) (hb : Below W3.drew.heap.size W3.drew w') => HK.out w' ⟨hb.os, hb.tape, hb.output, hb.size, hb.block⟩)
  have HKB := hid (fun (o : Obj) (w' : World) (hb : Below (W3.alloc o).drew.heap.size (W3.alloc o).drew w') => HK.out w' ((belowAlloc W3 o).trans ⟨hb.os, hb.tape, hb.output, Nat.le_trans (Nat.le_refl _) hb.size, fun j hj => hb.block j (by show j < (W3.alloc o).heap.size; rw [World.size_alloc]; omega)⟩))
  have HKC := hid (fun (w' : World) (hb : Below (W3.alloc (.cells #[.int .i64 0, .int .i64 0] 26)).drew.heap.size (W3.alloc (.cells #[.int .i64 0, .int .i64 0] 26)).drew w') => (hb.block W3.heap.size (by show _ < (W3.alloc _).heap.size; rw [World.size_alloc]; omega)).trans (heap_alloc_new W3 (.cells #[.int .i64 0, .int .i64 0] 26)))
  clear d0 d1 d2 d3 d4 d5 d6 d7 d8 d9 d10 dx
  unfold HvV Ix.vals
  unfold Md.v at CT
  dsimp only
  cases is with
  | false =>
    rw [if_pos rfl]
    go_enter Tryz.func291, Tryz.ntmps291
    go_upto_region 1 with fail
    rw [← HW3.out]
    clear HW3
    go_cut [9, 10] from 11 (fun t9 t10 wx => t10 = .bool false ∧ Fst W g (jhd m t1 t2 lo) lab j #[.int .i64 16, .int .i64 res, .int .u32 (N : Int), .int .u32 xb, .int .i32 xn, .slice ta tags.length tc, .slice la ln lc, .slice ea en ec] n0 d p r t9 wx)
    case first =>
      (go_region_held3 (fun w' => Below W3.heap.size W3 w' ∧ w'.cell? ⟨g, 0, none⟩ = some (.slice m.ty'.a m.ty.length m.ty'.c) ∧ w'.cell? ⟨g, 1, none⟩ = some (.slice m.im'.a m.im.length m.im'.c) ∧ w'.cell? ⟨g, 2, none⟩ = some (.slice m.fu'.a m.fu.length m.fu'.c) ∧ w'.cell? ⟨g, 3, none⟩ = some (.slice m.tb'.a m.tb.length m.tb'.c) ∧ w'.cell? ⟨g, 4, none⟩ = some (.slice m.me'.a m.me.length m.me'.c) ∧ w'.cell? ⟨g, 5, none⟩ = some (.slice m.gl'.a m.gl.length m.gl'.c) ∧ w'.cell? ⟨g, 6, none⟩ = some (.slice m.ex'.a m.ex.length m.ex'.c) ∧ w'.cell? ⟨g, 7, none⟩ = some (.bool m.st) ∧ w'.cell? ⟨g, 8, none⟩ = some (.int .u32 m.sn) ∧ w'.cell? ⟨g, 9, none⟩ = some (.slice m.el'.a m.el.length m.el'.c) ∧ w'.cell? ⟨g, 10, none⟩ = some (.slice m.da'.a m.da.length m.da'.c) ∧ w'.cell? ⟨W.heap.size, 2, none⟩ = some (.int .u32 (N : Int)))
        (first | (with_reducible assumption) | (with_reducible exact HK.out _ (thenA (held_ot12 (by assumption)) _)) | (with_reducible exact HK.out _ (((held_ot12 (by assumption)).setCell (Nat.le_refl _) _).setCell (Nat.le_refl _) _)))
        (first | (go_at_call 126; (with_reducible refine (CT.out _ (held_ot12 (by assumption))).mono ?_); rintro e7 w7 ⟨rfl, hb7⟩; have hS7 := HKA.out w7 hb7) | (go_at_call 126; (with_reducible refine (CT.out _ (held_ot12 (by assumption))).mono ?_); rintro e7 w7 ⟨rfl, hb7⟩; have hS7 := HKB.out _ w7 hb7; have hR7 := HKC.out w7 hb7; have k0 := cell_of_row w7 W3.heap.size 0 _ _ _ hR7; have k1 := cell_of_row w7 W3.heap.size 1 _ _ _ hR7; have f0 := frozen_of_row w7 W3.heap.size 0 _ _ hR7; have f1 := frozen_of_row w7 W3.heap.size 1 _ _ hR7; simp at k0 k1)))
      all_goals (go_wp2_with fail; go_meet; first | exact ⟨rfl, FA.out w7 hb7⟩ | exact ⟨rfl, FB.out w7 hb7⟩)
    case rest =>
      obtain ⟨rfl, q, rfl, hq, h3x, htx, hjx⟩ := hcut
      have HQG := hid (show q ≠ g by have := HG.out; omega)
      have x0 := cell_of_row wc W.heap.size 0 _ _ _ h3x.a
      have x2 := cell_of_row wc W.heap.size 2 _ _ _ h3x.a
      have b0 := cell_of_row wc (W.heap.size + 1) 0 _ _ _ h3x.b
      have b1 := cell_of_row wc (W.heap.size + 1) 1 _ _ _ h3x.b
      have f0 := frozen_of_row wc (W.heap.size + 1) 0 _ _ h3x.b
      have f1 := frozen_of_row wc (W.heap.size + 1) 1 _ _ h3x.b
      have r0 := cell_of_row wc (W.heap.size + 1 + 1) 0 _ _ _ h3x.c
      have r1 := cell_of_row wc (W.heap.size + 1 + 1) 1 _ _ _ h3x.c
      have g0 := frozen_of_row wc (W.heap.size + 1 + 1) 0 _ _ h3x.c
      have g1 := frozen_of_row wc (W.heap.size + 1 + 1) 1 _ _ h3x.c
      simp at x0 x2 b0 b1 r0 r1
      have HE := hid (fun (n : Nat) (w1 : World) (hq : JQ g (jhd m t1 t2 lo) lab (j.fault 6 a) (wc.drewN n) w1) => (show Three W _ n0 d w1 ∧ ∀ y z, _ from ⟨(three_dr h3x n).save hq.2 HG.out, fun y z => three_end (JQ.trans (JQ.drewN hjx n) hq) ((three_dr h3x n).save hq.2 HG.out) HG.out y z⟩))
      have HE0 := hid (fun (w1 : World) (hq : JQ g (jhd m t1 t2 lo) lab (j.fault 6 a) wc w1) => (show Three W _ n0 d w1 ∧ ∀ y z, _ from ⟨h3x.save hq.2 HG.out, fun y z => three_end (JQ.trans hjx hq) (h3x.save hq.2 HG.out) HG.out y z⟩))
      have C1 := hid (fun (n : Nat) => CF.out (wc.drewN n) j (JQ.drewN hjx n).1)
      have C0 := hid (CF.out wc j hjx.1)
      clear CP CF HJ H3 HK HKA HKB HKC FA FB hS0 CT hq h3x htx hjx
      
      go_wp2_with fail
      first | (refine C0.out.mono ?_; rintro e w1 ⟨rfl, hq⟩; obtain ⟨h31, hend⟩ := HE0.out _ hq) | (refine (C1.out _).mono ?_; rintro e w1 ⟨rfl, hq⟩; obtain ⟨h31, hend⟩ := HE.out _ _ hq)
      clear x0 x2 b0 b1 f0 f1 r0 r1 g0 g1
      have x0 := cell_of_row w1 W.heap.size 0 _ _ _ h31.a
      have x2 := cell_of_row w1 W.heap.size 2 _ _ _ h31.a
      have b0 := cell_of_row w1 (W.heap.size + 1) 0 _ _ _ h31.b
      have b1 := cell_of_row w1 (W.heap.size + 1) 1 _ _ _ h31.b
      have f0 := frozen_of_row w1 (W.heap.size + 1) 0 _ _ h31.b
      have f1 := frozen_of_row w1 (W.heap.size + 1) 1 _ _ h31.b
      have r0 := cell_of_row w1 (W.heap.size + 1 + 1) 0 _ _ _ h31.c
      have r1 := cell_of_row w1 (W.heap.size + 1 + 1) 1 _ _ _ h31.c
      have g0 := frozen_of_row w1 (W.heap.size + 1 + 1) 0 _ _ h31.c
      have g1 := frozen_of_row w1 (W.heap.size + 1 + 1) 1 _ _ h31.c
      simp at x0 x2 b0 b1 r0 r1
      obtain ⟨q1, q2⟩ := hend (.int .i64 n0) (.bool d)
      have Q1 := hid q1
      have Q2 := hid q2
      clear h31 hend q1 q2 hq HE HE0 C0 C1
      go_wp2
      exact bodyPost_ret (results_cell_row Tryz.results291 _ _ (W.heap.size + 1 + 1) _ _ _ _ rfl Q2.out Tryz.underlying312 rfl (by kernel_rfl)) rfl ⟨rfl, Q1.out⟩
  | true =>
    rw [if_neg (by simp), if_neg (show ¬ ((16 : Int) = 17) by omega)]
    obtain ⟨P1, hP1⟩ : ∃ P, popJ p a (⟨n0, d⟩, j) = P := ⟨_, rfl⟩
    obtain ⟨⟨n1, d1⟩, j1⟩ := P1
    have hn1 : 0 ≤ n1 ∧ n1 ≤ 4000000000000000000 := by
      have := congrArg (fun q : Hv × J => q.1.n) hP1
      simp only [popJ] at this
      have := HPR.out
      omega
    obtain ⟨u0, u1⟩ := hn1
    have HP1 := hid hP1
    rw [hP1]
    unfold pushJ
    dsimp only
    clear hP1
    go_enter Tryz.func291, Tryz.ntmps291
    go_upto_region 1 with fail
    rw [← HW3.out]
    clear HW3
    go_cut [9, 10] from 11 (fun t9 t10 wx => t10 = .bool true ∧ Fst W g (jhd m t1 t2 lo) lab j #[.int .i64 16, .int .i64 res, .int .u32 (N : Int), .int .u32 xb, .int .i32 xn, .slice ta tags.length tc, .slice la ln lc, .slice ea en ec] n0 d p r t9 wx)
    case first =>
      (go_region_held3 (fun w' => Below W3.heap.size W3 w' ∧ w'.cell? ⟨g, 0, none⟩ = some (.slice m.ty'.a m.ty.length m.ty'.c) ∧ w'.cell? ⟨g, 1, none⟩ = some (.slice m.im'.a m.im.length m.im'.c) ∧ w'.cell? ⟨g, 2, none⟩ = some (.slice m.fu'.a m.fu.length m.fu'.c) ∧ w'.cell? ⟨g, 3, none⟩ = some (.slice m.tb'.a m.tb.length m.tb'.c) ∧ w'.cell? ⟨g, 4, none⟩ = some (.slice m.me'.a m.me.length m.me'.c) ∧ w'.cell? ⟨g, 5, none⟩ = some (.slice m.gl'.a m.gl.length m.gl'.c) ∧ w'.cell? ⟨g, 6, none⟩ = some (.slice m.ex'.a m.ex.length m.ex'.c) ∧ w'.cell? ⟨g, 7, none⟩ = some (.bool m.st) ∧ w'.cell? ⟨g, 8, none⟩ = some (.int .u32 m.sn) ∧ w'.cell? ⟨g, 9, none⟩ = some (.slice m.el'.a m.el.length m.el'.c) ∧ w'.cell? ⟨g, 10, none⟩ = some (.slice m.da'.a m.da.length m.da'.c) ∧ w'.cell? ⟨W.heap.size, 2, none⟩ = some (.int .u32 (N : Int)))
        (first | (with_reducible assumption) | (with_reducible exact HK.out _ (thenA (held_ot12 (by assumption)) _)) | (with_reducible exact HK.out _ (((held_ot12 (by assumption)).setCell (Nat.le_refl _) _).setCell (Nat.le_refl _) _)))
        (first | (go_at_call 126; (with_reducible refine (CT.out _ (held_ot12 (by assumption))).mono ?_); rintro e7 w7 ⟨rfl, hb7⟩; have hS7 := HKA.out w7 hb7) | (go_at_call 126; (with_reducible refine (CT.out _ (held_ot12 (by assumption))).mono ?_); rintro e7 w7 ⟨rfl, hb7⟩; have hS7 := HKB.out _ w7 hb7; have hR7 := HKC.out w7 hb7; have k0 := cell_of_row w7 W3.heap.size 0 _ _ _ hR7; have k1 := cell_of_row w7 W3.heap.size 1 _ _ _ hR7; have f0 := frozen_of_row w7 W3.heap.size 0 _ _ hR7; have f1 := frozen_of_row w7 W3.heap.size 1 _ _ hR7; simp at k0 k1)))
      all_goals (go_wp2_with fail; go_meet; first | exact ⟨rfl, FA.out w7 hb7⟩ | exact ⟨rfl, FB.out w7 hb7⟩)
    case rest =>
      obtain ⟨rfl, q, rfl, hq, h3x, htx, hjx⟩ := hcut
      have HQG := hid (show q ≠ g by have := HG.out; omega)
      have x0 := cell_of_row wc W.heap.size 0 _ _ _ h3x.a
      have x2 := cell_of_row wc W.heap.size 2 _ _ _ h3x.a
      have b0 := cell_of_row wc (W.heap.size + 1) 0 _ _ _ h3x.b
      have b1 := cell_of_row wc (W.heap.size + 1) 1 _ _ _ h3x.b
      have f0 := frozen_of_row wc (W.heap.size + 1) 0 _ _ h3x.b
      have f1 := frozen_of_row wc (W.heap.size + 1) 1 _ _ h3x.b
      have r0 := cell_of_row wc (W.heap.size + 1 + 1) 0 _ _ _ h3x.c
      have r1 := cell_of_row wc (W.heap.size + 1 + 1) 1 _ _ _ h3x.c
      have g0 := frozen_of_row wc (W.heap.size + 1 + 1) 0 _ _ h3x.c
      have g1 := frozen_of_row wc (W.heap.size + 1 + 1) 1 _ _ h3x.c
      simp at x0 x2 b0 b1 r0 r1
      have y0 := cell_of_row wc q 0 _ _ _ htx
      have y1 := cell_of_row wc q 1 _ _ _ htx
      have z0 := frozen_of_row wc q 0 _ _ htx
      have z1 := frozen_of_row wc q 1 _ _ htx
      simp at y0 y1
      have C1 := hid (CP.out wc ⟨n0, d⟩ j p hjx.1 (by have := HPR.out; omega) (by dsimp only; omega))
      rw [HP1.out] at C1
      unfold HvV at C1
      dsimp only at C1
      have HT := hid htx
      have H3X := hid h3x
      have HJX := hid hjx
      have HQ1 := hid (show q ≠ W.heap.size + 1 by omega)
      clear CP CF HJ H3 HK HKA HKB HKC FA FB hS0 CT hq h3x htx hjx HP1
      go_wp2_with fail
      refine C1.out.mono ?_
      rintro e w1 ⟨rfl, hq⟩
      have h31 := H3X.out.save hq.2 HG.out
      have hj1 := JQ.trans HJX.out hq
      have ht1 := HT.out.save hq.2 HQG.out
      have HE := hid (show ∀ y, _ from fun (y : Int) => by
        obtain ⟨a1, a2⟩ := three_seth hj1 h31 HG.out n1 d1
        obtain ⟨a3, a4⟩ := three_set1 a1 a2 HG.out y
        exact three_end a3 a4 HG.out (.int .i64 y) (.bool d1))
      clear x0 x2 b0 b1 f0 f1 r0 r1 g0 g1 y0 y1 z0 z1
      have x0 := cell_of_row w1 W.heap.size 0 _ _ _ h31.a
      have x2 := cell_of_row w1 W.heap.size 2 _ _ _ h31.a
      have b0 := cell_of_row w1 (W.heap.size + 1) 0 _ _ _ h31.b
      have b1 := cell_of_row w1 (W.heap.size + 1) 1 _ _ _ h31.b
      have f0 := frozen_of_row w1 (W.heap.size + 1) 0 _ _ h31.b
      have f1 := frozen_of_row w1 (W.heap.size + 1) 1 _ _ h31.b
      have r0 := cell_of_row w1 (W.heap.size + 1 + 1) 0 _ _ _ h31.c
      have r1 := cell_of_row w1 (W.heap.size + 1 + 1) 1 _ _ _ h31.c
      have g0 := frozen_of_row w1 (W.heap.size + 1 + 1) 0 _ _ h31.c
      have g1 := frozen_of_row w1 (W.heap.size + 1 + 1) 1 _ _ h31.c
      simp at x0 x2 b0 b1 r0 r1
      have y0 := cell_of_row w1 q 0 _ _ _ ht1
      have y1 := cell_of_row w1 q 1 _ _ _ ht1
      have z0 := frozen_of_row w1 q 0 _ _ ht1
      have z1 := frozen_of_row w1 q 1 _ _ ht1
      simp at y0 y1
      have hq1 := HQ1.out
      clear h31 hj1 ht1 hq H3X HJX HT C1
      go_wp2
      obtain ⟨q1, q2⟩ := HE.out (n1 + r)
      exact bodyPost_ret (results_cell_row Tryz.results291 _ _ (W.heap.size + 1 + 1) _ _ _ _ rfl q2 Tryz.underlying312 rfl (by kernel_rfl)) rfl ⟨rfl, q1⟩
set_option maxRecDepth 100000 in
set_option maxHeartbeats 4000000 in
theorem callR_17 {W : World} {g n₀ : Nat} {m : Md} {t1 t2 lo : Int} {lab : Value} {j : J} (h : JAt W g (jhd m t1 t2 lo) lab j) (hm : ModAt n₀ W m) (hg : n₀ ≤ g) (hf : m.fits) (he : Env m) (hpp : ∀ t ∈ m.ty, t.1 ≤ 1000000) (x : Ix) (hx : x.ok) (hv : Hv) (a : Int) (hh : 0 ≤ hv.n ∧ hv.n ≤ 4000000000000000000) (hop : x.op = 17) :
    Calls Tryz.prog 291 #[.pointer (some ⟨g, 0, none⟩), .agg x.vals, HvV hv, .int .i64 a] W fun e W' => e = .returned (HvV (callJ m x a (hv, j)).1) ∧ JQ g (jhd m t1 t2 lo) lab (callJ m x a (hv, j)).2 W W' := by
  obtain ⟨ha0, ha1⟩ := hx.a
  have hcr := he.callee x
  obtain ⟨op, res, xa, xb, xn, tags, ta, tc, la, ln, lc, ea, en, ec⟩ := x
  simp only at hop ha0 ha1
  subst hop
  obtain ⟨N, rfl⟩ : ∃ N : Nat, xa = (N : Int) := ⟨xa.toNat, by omega⟩
  obtain ⟨n0, d⟩ := hv
  have CP := hid (fun (W' : World) (hv : Hv) (j' : J) (n : Int) (hj : JAt W' g (jhd m t1 t2 lo) lab j') (hn : 0 ≤ n ∧ n ≤ 4611686018427387904) (hh : 0 ≤ hv.n ∧ hv.n ≤ 4611686018427387904) => popR_any hj hv n a hn hh)
  have CF := hid (fun (W' : World) (j' : J) (hj : JAt W' g (jhd m t1 t2 lo) lab j') => fault_any hj 6 a)
  have HG := hid h.lt
  obtain ⟨W3, hW3⟩ : ∃ W3, W3 = ((W.alloc (.cells #[.int .i64 17, .int .i64 res, .int .u32 (N : Int), .int .u32 xb, .int .i32 xn, .slice ta tags.length tc, .slice la ln lc, .slice ea en ec] 92)).alloc (.cells #[.int .i64 n0, .bool d] 312)).alloc (.cells #[.int .i64 0, .bool false] 312) := ⟨_, rfl⟩
  have hb0 : Below W.heap.size W W3 := by rw [hW3]; exact thenA (thenA (belowAlloc W _) _) _
  have h3 : Three W #[.int .i64 17, .int .i64 res, .int .u32 (N : Int), .int .u32 xb, .int .i32 xn, .slice ta tags.length tc, .slice la ln lc, .slice ea en ec] n0 d W3 := by rw [hW3]; exact Three.made W _ n0 d
  have hsz : W3.heap.size = W.heap.size + 1 + 1 + 1 := by rw [hW3]; simp
  have hn0 : n₀ ≤ W3.heap.size := by have := h.lt; omega
  have hmb := hm.below (hb0.mono (by have := h.lt; omega) : Below n₀ W W3)
  have CT := hid (fun (W' : World) (hb : Below W3.heap.size W3 W') => refTypeOf_any m N W' ((hmb.below (hb.mono hn0)).more (Nat.le_trans hn0 hb.size)) hf (by omega))
  have HJ := hid (show JQ g (jhd m t1 t2 lo) lab j W W3 from ⟨h.below hb0, Save.of_below hb0⟩)
  have H3 := hid h3
  have HSZ := hid hsz
  have hj3 := h.below hb0
  have d0 := hj3.hd_ (i := 0) rfl
  have d1 := hj3.hd_ (i := 1) rfl
  have d2 := hj3.hd_ (i := 2) rfl
  have d3 := hj3.hd_ (i := 3) rfl
  have d4 := hj3.hd_ (i := 4) rfl
  have d5 := hj3.hd_ (i := 5) rfl
  have d6 := hj3.hd_ (i := 6) rfl
  have d7 := hj3.hd_ (i := 7) rfl
  have d8 := hj3.hd_ (i := 8) rfl
  have d9 := hj3.hd_ (i := 9) rfl
  have d10 := hj3.hd_ (i := 10) rfl
  have dx := cell_of_row W3 W.heap.size 2 _ _ _ h3.a
  simp at dx
  have HM3 := hid hmb
  have HW3 := hid hW3
  have HB0 := hid hb0
  unfold callJ
  have HCE := hid hcr
  have hce : calleeP m ⟨17, res, (N : Int), xb, xn, tags, ta, tc, la, ln, lc, ea, en, ec⟩ = if m.tb.length = 0 ∨ (m.ty.length : Int) ≤ (N : Int) then ((0, 0), false) else (m.ty.getD N (0, 0), true) := rfl
  rw [hce] at HCE ⊢
  have hpr : 0 ≤ (m.typeOf N).1.1 ∧ (m.typeOf N).1.1 ≤ 1000000 := by
    unfold Md.typeOf
    split
    · simp
    · rename_i hq
      have hk : (m.typeN N).toNat < m.ty.length := by omega
      have e : m.ty.getD (m.typeN N).toNat (0, 0) = m.ty[(m.typeN N).toNat] := by simp [hk]
      simp only [e]
      exact ⟨(he.ty _ (List.getElem_mem hk)).1, hpp _ (List.getElem_mem hk)⟩
  obtain ⟨⟨⟨p', r'⟩, is'⟩, hty⟩ : ∃ q, m.typeOf N = q := ⟨_, rfl⟩
  rw [hty] at CT
  have HTY := hid (fun (W' : World) (hs : Save g W W') (hk : N < m.ty.length) => ty_of (mod_on hm hg (by have := h.lt; omega) hs) hk)
  have HPQ := hid (fun (hk : N < m.ty.length) => (show 0 ≤ (m.ty.getD N (0, 0)).1 ∧ (m.ty.getD N (0, 0)).1 ≤ 1000000 by
    have e : m.ty.getD N (0, 0) = m.ty[N] := by simp [hk]
    rw [e]
    exact ⟨(he.ty _ (List.getElem_mem hk)).1, hpp _ (List.getElem_mem hk)⟩))
  have FA := hid (fun (w7 : World) (hb : Below W3.drew.heap.size W3.drew w7) => fst_a p' r' HJ.out h3 h.lt hsz hb)
  have FB := hid (fun (w7 : World) (hb : Below (W3.alloc (.cells #[.int .i64 0, .int .i64 0] 26)).drew.heap.size (W3.alloc (.cells #[.int .i64 0, .int .i64 0] 26)).drew w7) => fst_b p' r' HJ.out h3 h.lt hsz hb)
  clear h hx hm hf he hpp hce hty hcr hW3 hb0 h3 hsz hmb hn0 hpr hj3
  dsimp only at CT hh ⊢
  have hS0 : Below W3.heap.size W3 W3.drew ∧ W3.drew.cell? ⟨g, 0, none⟩ = some (.slice m.ty'.a m.ty.length m.ty'.c) ∧ W3.drew.cell? ⟨g, 1, none⟩ = some (.slice m.im'.a m.im.length m.im'.c) ∧ W3.drew.cell? ⟨g, 2, none⟩ = some (.slice m.fu'.a m.fu.length m.fu'.c) ∧ W3.drew.cell? ⟨g, 3, none⟩ = some (.slice m.tb'.a m.tb.length m.tb'.c) ∧ W3.drew.cell? ⟨g, 4, none⟩ = some (.slice m.me'.a m.me.length m.me'.c) ∧ W3.drew.cell? ⟨g, 5, none⟩ = some (.slice m.gl'.a m.gl.length m.gl'.c) ∧ W3.drew.cell? ⟨g, 6, none⟩ = some (.slice m.ex'.a m.ex.length m.ex'.c) ∧ W3.drew.cell? ⟨g, 7, none⟩ = some (.bool m.st) ∧ W3.drew.cell? ⟨g, 8, none⟩ = some (.int .u32 m.sn) ∧ W3.drew.cell? ⟨g, 9, none⟩ = some (.slice m.el'.a m.el.length m.el'.c) ∧ W3.drew.cell? ⟨g, 10, none⟩ = some (.slice m.da'.a m.da.length m.da'.c) ∧ W3.drew.cell? ⟨W.heap.size, 2, none⟩ = some (.int .u32 (N : Int)) := ⟨(Below.refl _ _).drew, d0, d1, d2, d3, d4, d5, d6, d7, d8, d9, d10, dx⟩
  have HK := hid (fun (w' : World) (hb : Below W3.heap.size W3 w') => (show Below W3.heap.size W3 w' ∧ w'.cell? ⟨g, 0, none⟩ = some (.slice m.ty'.a m.ty.length m.ty'.c) ∧ w'.cell? ⟨g, 1, none⟩ = some (.slice m.im'.a m.im.length m.im'.c) ∧ w'.cell? ⟨g, 2, none⟩ = some (.slice m.fu'.a m.fu.length m.fu'.c) ∧ w'.cell? ⟨g, 3, none⟩ = some (.slice m.tb'.a m.tb.length m.tb'.c) ∧ w'.cell? ⟨g, 4, none⟩ = some (.slice m.me'.a m.me.length m.me'.c) ∧ w'.cell? ⟨g, 5, none⟩ = some (.slice m.gl'.a m.gl.length m.gl'.c) ∧ w'.cell? ⟨g, 6, none⟩ = some (.slice m.ex'.a m.ex.length m.ex'.c) ∧ w'.cell? ⟨g, 7, none⟩ = some (.bool m.st) ∧ w'.cell? ⟨g, 8, none⟩ = some (.int .u32 m.sn) ∧ w'.cell? ⟨g, 9, none⟩ = some (.slice m.el'.a m.el.length m.el'.c) ∧ w'.cell? ⟨g, 10, none⟩ = some (.slice m.da'.a m.da.length m.da'.c) ∧ w'.cell? ⟨W.heap.size, 2, none⟩ = some (.int .u32 (N : Int)) from held_kp12 ⟨Below.refl _ W3, d0, d1, d2, d3, d4, d5, d6, d7, d8, d9, d10, dx⟩ hb))
  have HKA := hid (fun (w' : World) (hb : Below W3.drew.heap.size W3.drew w') => HK.out w' ⟨hb.os, hb.tape, hb.output, hb.size, hb.block⟩)
  have HKB := hid (fun (o : Obj) (w' : World) (hb : Below (W3.alloc o).drew.heap.size (W3.alloc o).drew w') => HK.out w' ((belowAlloc W3 o).trans ⟨hb.os, hb.tape, hb.output, Nat.le_trans (Nat.le_refl _) hb.size, fun j hj => hb.block j (by show j < (W3.alloc o).heap.size; rw [World.size_alloc]; omega)⟩))
  have HKC := hid (fun (w' : World) (hb : Below (W3.alloc (.cells #[.int .i64 0, .int .i64 0] 26)).drew.heap.size (W3.alloc (.cells #[.int .i64 0, .int .i64 0] 26)).drew w') => (hb.block W3.heap.size (by show _ < (W3.alloc _).heap.size; rw [World.size_alloc]; omega)).trans (heap_alloc_new W3 (.cells #[.int .i64 0, .int .i64 0] 26)))
  clear d0 d1 d2 d3 d4 d5 d6 d7 d8 d9 d10 dx
  unfold HvV Ix.vals
  unfold Md.v at CT
  dsimp only
  by_cases hc : m.tb.length = 0 ∨ (m.ty.length : Int) ≤ (N : Int)
  · rw [if_pos hc, if_pos rfl]
    by_cases ht0 : m.tb.length = 0
    · have hd1 : decide ((0 : Int) < (m.tb.length : Int)) = false := decide_eq_false (by omega); have hd1' : decide (0 < m.tb.length) = false := decide_eq_false (by omega)
      clear hc ht0
      go_enter Tryz.func291, Tryz.ntmps291
      go_upto_region 1 with fail
      rw [← HW3.out]
      clear HW3
      go_cut [9, 10] from 11 (fun t9 t10 wx => t10 = .bool is' ∧ Fst W g (jhd m t1 t2 lo) lab j #[.int .i64 17, .int .i64 res, .int .u32 (N : Int), .int .u32 xb, .int .i32 xn, .slice ta tags.length tc, .slice la ln lc, .slice ea en ec] n0 d p' r' t9 wx)
      case first =>
        (go_region_held3 (fun w' => Below W3.heap.size W3 w' ∧ w'.cell? ⟨g, 0, none⟩ = some (.slice m.ty'.a m.ty.length m.ty'.c) ∧ w'.cell? ⟨g, 1, none⟩ = some (.slice m.im'.a m.im.length m.im'.c) ∧ w'.cell? ⟨g, 2, none⟩ = some (.slice m.fu'.a m.fu.length m.fu'.c) ∧ w'.cell? ⟨g, 3, none⟩ = some (.slice m.tb'.a m.tb.length m.tb'.c) ∧ w'.cell? ⟨g, 4, none⟩ = some (.slice m.me'.a m.me.length m.me'.c) ∧ w'.cell? ⟨g, 5, none⟩ = some (.slice m.gl'.a m.gl.length m.gl'.c) ∧ w'.cell? ⟨g, 6, none⟩ = some (.slice m.ex'.a m.ex.length m.ex'.c) ∧ w'.cell? ⟨g, 7, none⟩ = some (.bool m.st) ∧ w'.cell? ⟨g, 8, none⟩ = some (.int .u32 m.sn) ∧ w'.cell? ⟨g, 9, none⟩ = some (.slice m.el'.a m.el.length m.el'.c) ∧ w'.cell? ⟨g, 10, none⟩ = some (.slice m.da'.a m.da.length m.da'.c) ∧ w'.cell? ⟨W.heap.size, 2, none⟩ = some (.int .u32 (N : Int)))
          (first | (with_reducible assumption) | (with_reducible exact HK.out _ (thenA (held_ot12 (by assumption)) _)) | (with_reducible exact HK.out _ (((held_ot12 (by assumption)).setCell (Nat.le_refl _) _).setCell (Nat.le_refl _) _)))
          (first | (go_at_call 126; (with_reducible refine (CT.out _ (held_ot12 (by assumption))).mono ?_); rintro e7 w7 ⟨rfl, hb7⟩; have hS7 := HKA.out w7 hb7) | (go_at_call 126; (with_reducible refine (CT.out _ (held_ot12 (by assumption))).mono ?_); rintro e7 w7 ⟨rfl, hb7⟩; have hS7 := HKB.out _ w7 hb7; have hR7 := HKC.out w7 hb7; have k0 := cell_of_row w7 W3.heap.size 0 _ _ _ hR7; have k1 := cell_of_row w7 W3.heap.size 1 _ _ _ hR7; have f0 := frozen_of_row w7 W3.heap.size 0 _ _ hR7; have f1 := frozen_of_row w7 W3.heap.size 1 _ _ hR7; simp at k0 k1)))
        all_goals (go_wp2_with fail; go_meet; first | exact ⟨rfl, FA.out w7 hb7⟩ | exact ⟨rfl, FB.out w7 hb7⟩)
      case rest =>
        obtain ⟨rfl, q, rfl, hq, h3x, htx, hjx⟩ := hcut
        have HQG := hid (show q ≠ g by have := HG.out; omega)
        have x0 := cell_of_row wc W.heap.size 0 _ _ _ h3x.a
        have x2 := cell_of_row wc W.heap.size 2 _ _ _ h3x.a
        have b0 := cell_of_row wc (W.heap.size + 1) 0 _ _ _ h3x.b
        have b1 := cell_of_row wc (W.heap.size + 1) 1 _ _ _ h3x.b
        have f0 := frozen_of_row wc (W.heap.size + 1) 0 _ _ h3x.b
        have f1 := frozen_of_row wc (W.heap.size + 1) 1 _ _ h3x.b
        have r0 := cell_of_row wc (W.heap.size + 1 + 1) 0 _ _ _ h3x.c
        have r1 := cell_of_row wc (W.heap.size + 1 + 1) 1 _ _ _ h3x.c
        have g0 := frozen_of_row wc (W.heap.size + 1 + 1) 0 _ _ h3x.c
        have g1 := frozen_of_row wc (W.heap.size + 1 + 1) 1 _ _ h3x.c
        simp at x0 x2 b0 b1 r0 r1
        have c3 := hjx.1.hd_ (i := 3) rfl
        have c0 := hjx.1.hd_ (i := 0) rfl
        have HE := hid (fun (n : Nat) (w1 : World) (hq : JQ g (jhd m t1 t2 lo) lab (j.fault 6 a) (wc.drewN n) w1) => (show Three W _ n0 d w1 ∧ ∀ y z, _ from ⟨(three_dr h3x n).save hq.2 HG.out, fun y z => three_end (JQ.trans (JQ.drewN hjx n) hq) ((three_dr h3x n).save hq.2 HG.out) HG.out y z⟩))
        have HE0 := hid (fun (w1 : World) (hq : JQ g (jhd m t1 t2 lo) lab (j.fault 6 a) wc w1) => (show Three W _ n0 d w1 ∧ ∀ y z, _ from ⟨h3x.save hq.2 HG.out, fun y z => three_end (JQ.trans hjx hq) (h3x.save hq.2 HG.out) HG.out y z⟩))
        have C1 := hid (fun (n : Nat) => CF.out (wc.drewN n) j (JQ.drewN hjx n).1)
        have C0 := hid (CF.out wc j hjx.1)
        clear CP CF HJ H3 HK HKA HKB HKC FA FB hS0 CT hq h3x htx hjx
        generalize m.tb.length = T at *
        generalize m.ty.length = Y at *
        go_upto_region 3 with fail
        go_quiet (fail)
        go_wp2_with fail
        first | (refine C0.out.mono ?_; rintro e w1 ⟨rfl, hq⟩; obtain ⟨h31, hend⟩ := HE0.out _ hq) | (refine (C1.out _).mono ?_; rintro e w1 ⟨rfl, hq⟩; obtain ⟨h31, hend⟩ := HE.out _ _ hq)
        clear x0 x2 b0 b1 f0 f1 r0 r1 g0 g1
        have x0 := cell_of_row w1 W.heap.size 0 _ _ _ h31.a
        have x2 := cell_of_row w1 W.heap.size 2 _ _ _ h31.a
        have b0 := cell_of_row w1 (W.heap.size + 1) 0 _ _ _ h31.b
        have b1 := cell_of_row w1 (W.heap.size + 1) 1 _ _ _ h31.b
        have f0 := frozen_of_row w1 (W.heap.size + 1) 0 _ _ h31.b
        have f1 := frozen_of_row w1 (W.heap.size + 1) 1 _ _ h31.b
        have r0 := cell_of_row w1 (W.heap.size + 1 + 1) 0 _ _ _ h31.c
        have r1 := cell_of_row w1 (W.heap.size + 1 + 1) 1 _ _ _ h31.c
        have g0 := frozen_of_row w1 (W.heap.size + 1 + 1) 0 _ _ h31.c
        have g1 := frozen_of_row w1 (W.heap.size + 1 + 1) 1 _ _ h31.c
        simp at x0 x2 b0 b1 r0 r1
        obtain ⟨q1, q2⟩ := hend (.int .i64 n0) (.bool d)
        have Q1 := hid q1
        have Q2 := hid q2
        clear h31 hend q1 q2 hq HE HE0 C0 C1
        go_wp2
        exact bodyPost_ret (results_cell_row Tryz.results291 _ _ (W.heap.size + 1 + 1) _ _ _ _ rfl Q2.out Tryz.underlying312 rfl (by kernel_rfl)) rfl ⟨rfl, Q1.out⟩
    · have hd1 : decide ((0 : Int) < (m.tb.length : Int)) = true := decide_eq_true (by omega); have hd1' : decide (0 < m.tb.length) = true := decide_eq_true (by omega)
      have hd2 : decide ((N : Int) < (m.ty.length : Int)) = false := decide_eq_false (by omega); have hd2' : decide (N < m.ty.length) = false := decide_eq_false (by omega)
      clear hc ht0
      go_enter Tryz.func291, Tryz.ntmps291
      go_upto_region 1 with fail
      rw [← HW3.out]
      clear HW3
      go_cut [9, 10] from 11 (fun t9 t10 wx => t10 = .bool is' ∧ Fst W g (jhd m t1 t2 lo) lab j #[.int .i64 17, .int .i64 res, .int .u32 (N : Int), .int .u32 xb, .int .i32 xn, .slice ta tags.length tc, .slice la ln lc, .slice ea en ec] n0 d p' r' t9 wx)
      case first =>
        (go_region_held3 (fun w' => Below W3.heap.size W3 w' ∧ w'.cell? ⟨g, 0, none⟩ = some (.slice m.ty'.a m.ty.length m.ty'.c) ∧ w'.cell? ⟨g, 1, none⟩ = some (.slice m.im'.a m.im.length m.im'.c) ∧ w'.cell? ⟨g, 2, none⟩ = some (.slice m.fu'.a m.fu.length m.fu'.c) ∧ w'.cell? ⟨g, 3, none⟩ = some (.slice m.tb'.a m.tb.length m.tb'.c) ∧ w'.cell? ⟨g, 4, none⟩ = some (.slice m.me'.a m.me.length m.me'.c) ∧ w'.cell? ⟨g, 5, none⟩ = some (.slice m.gl'.a m.gl.length m.gl'.c) ∧ w'.cell? ⟨g, 6, none⟩ = some (.slice m.ex'.a m.ex.length m.ex'.c) ∧ w'.cell? ⟨g, 7, none⟩ = some (.bool m.st) ∧ w'.cell? ⟨g, 8, none⟩ = some (.int .u32 m.sn) ∧ w'.cell? ⟨g, 9, none⟩ = some (.slice m.el'.a m.el.length m.el'.c) ∧ w'.cell? ⟨g, 10, none⟩ = some (.slice m.da'.a m.da.length m.da'.c) ∧ w'.cell? ⟨W.heap.size, 2, none⟩ = some (.int .u32 (N : Int)))
          (first | (with_reducible assumption) | (with_reducible exact HK.out _ (thenA (held_ot12 (by assumption)) _)) | (with_reducible exact HK.out _ (((held_ot12 (by assumption)).setCell (Nat.le_refl _) _).setCell (Nat.le_refl _) _)))
          (first | (go_at_call 126; (with_reducible refine (CT.out _ (held_ot12 (by assumption))).mono ?_); rintro e7 w7 ⟨rfl, hb7⟩; have hS7 := HKA.out w7 hb7) | (go_at_call 126; (with_reducible refine (CT.out _ (held_ot12 (by assumption))).mono ?_); rintro e7 w7 ⟨rfl, hb7⟩; have hS7 := HKB.out _ w7 hb7; have hR7 := HKC.out w7 hb7; have k0 := cell_of_row w7 W3.heap.size 0 _ _ _ hR7; have k1 := cell_of_row w7 W3.heap.size 1 _ _ _ hR7; have f0 := frozen_of_row w7 W3.heap.size 0 _ _ hR7; have f1 := frozen_of_row w7 W3.heap.size 1 _ _ hR7; simp at k0 k1)))
        all_goals (go_wp2_with fail; go_meet; first | exact ⟨rfl, FA.out w7 hb7⟩ | exact ⟨rfl, FB.out w7 hb7⟩)
      case rest =>
        obtain ⟨rfl, q, rfl, hq, h3x, htx, hjx⟩ := hcut
        have HQG := hid (show q ≠ g by have := HG.out; omega)
        have x0 := cell_of_row wc W.heap.size 0 _ _ _ h3x.a
        have x2 := cell_of_row wc W.heap.size 2 _ _ _ h3x.a
        have b0 := cell_of_row wc (W.heap.size + 1) 0 _ _ _ h3x.b
        have b1 := cell_of_row wc (W.heap.size + 1) 1 _ _ _ h3x.b
        have f0 := frozen_of_row wc (W.heap.size + 1) 0 _ _ h3x.b
        have f1 := frozen_of_row wc (W.heap.size + 1) 1 _ _ h3x.b
        have r0 := cell_of_row wc (W.heap.size + 1 + 1) 0 _ _ _ h3x.c
        have r1 := cell_of_row wc (W.heap.size + 1 + 1) 1 _ _ _ h3x.c
        have g0 := frozen_of_row wc (W.heap.size + 1 + 1) 0 _ _ h3x.c
        have g1 := frozen_of_row wc (W.heap.size + 1 + 1) 1 _ _ h3x.c
        simp at x0 x2 b0 b1 r0 r1
        have c3 := hjx.1.hd_ (i := 3) rfl
        have c0 := hjx.1.hd_ (i := 0) rfl
        have HE := hid (fun (n : Nat) (w1 : World) (hq : JQ g (jhd m t1 t2 lo) lab (j.fault 6 a) (wc.drewN n) w1) => (show Three W _ n0 d w1 ∧ ∀ y z, _ from ⟨(three_dr h3x n).save hq.2 HG.out, fun y z => three_end (JQ.trans (JQ.drewN hjx n) hq) ((three_dr h3x n).save hq.2 HG.out) HG.out y z⟩))
        have HE0 := hid (fun (w1 : World) (hq : JQ g (jhd m t1 t2 lo) lab (j.fault 6 a) wc w1) => (show Three W _ n0 d w1 ∧ ∀ y z, _ from ⟨h3x.save hq.2 HG.out, fun y z => three_end (JQ.trans hjx hq) (h3x.save hq.2 HG.out) HG.out y z⟩))
        have C1 := hid (fun (n : Nat) => CF.out (wc.drewN n) j (JQ.drewN hjx n).1)
        have C0 := hid (CF.out wc j hjx.1)
        clear CP CF HJ H3 HK HKA HKB HKC FA FB hS0 CT hq h3x htx hjx
        generalize m.tb.length = T at *
        generalize m.ty.length = Y at *
        go_upto_region 3 with fail
        go_quiet (fail)
        go_wp2_with fail
        first | (refine C0.out.mono ?_; rintro e w1 ⟨rfl, hq⟩; obtain ⟨h31, hend⟩ := HE0.out _ hq) | (refine (C1.out _).mono ?_; rintro e w1 ⟨rfl, hq⟩; obtain ⟨h31, hend⟩ := HE.out _ _ hq)
        clear x0 x2 b0 b1 f0 f1 r0 r1 g0 g1
        have x0 := cell_of_row w1 W.heap.size 0 _ _ _ h31.a
        have x2 := cell_of_row w1 W.heap.size 2 _ _ _ h31.a
        have b0 := cell_of_row w1 (W.heap.size + 1) 0 _ _ _ h31.b
        have b1 := cell_of_row w1 (W.heap.size + 1) 1 _ _ _ h31.b
        have f0 := frozen_of_row w1 (W.heap.size + 1) 0 _ _ h31.b
        have f1 := frozen_of_row w1 (W.heap.size + 1) 1 _ _ h31.b
        have r0 := cell_of_row w1 (W.heap.size + 1 + 1) 0 _ _ _ h31.c
        have r1 := cell_of_row w1 (W.heap.size + 1 + 1) 1 _ _ _ h31.c
        have g0 := frozen_of_row w1 (W.heap.size + 1 + 1) 0 _ _ h31.c
        have g1 := frozen_of_row w1 (W.heap.size + 1 + 1) 1 _ _ h31.c
        simp at x0 x2 b0 b1 r0 r1
        obtain ⟨q1, q2⟩ := hend (.int .i64 n0) (.bool d)
        have Q1 := hid q1
        have Q2 := hid q2
        clear h31 hend q1 q2 hq HE HE0 C0 C1
        go_wp2
        exact bodyPost_ret (results_cell_row Tryz.results291 _ _ (W.heap.size + 1 + 1) _ _ _ _ rfl Q2.out Tryz.underlying312 rfl (by kernel_rfl)) rfl ⟨rfl, Q1.out⟩
  · rw [if_neg hc]
    have hd1 : decide ((0 : Int) < (m.tb.length : Int)) = true := decide_eq_true (by omega); have hd1' : decide (0 < m.tb.length) = true := decide_eq_true (by omega)
    have hd2 : decide ((N : Int) < (m.ty.length : Int)) = true := decide_eq_true (by omega); have hd2' : decide (N < m.ty.length) = true := decide_eq_true (by omega)
    have hlt : N < m.ty.length := by omega
    have HTX := hid (fun (W' : World) (hs : Save g W W') => HTY.out W' hs hlt)
    have HPR := hid (HPQ.out hlt)
    have hrr : 0 ≤ (m.ty.getD N (0, 0)).2 ∧ (m.ty.getD N (0, 0)).2 ≤ 1 := by
      have := HCE.out
      rw [if_neg hc] at this
      exact this.2
    obtain ⟨⟨p, r⟩, hpr⟩ : ∃ q, m.ty.getD N (0, 0) = q := ⟨_, rfl⟩
    rw [hpr] at HTX HPR hrr ⊢
    clear hpr HTY HPQ HCE
    dsimp only at HTX HPR hrr ⊢
    obtain ⟨hr0, hr1⟩ := hrr
    rw [if_neg (by simp), if_pos rfl]
    obtain ⟨P0, hP0⟩ : ∃ P, popJ 1 a (⟨n0, d⟩, j) = P := ⟨_, rfl⟩
    obtain ⟨⟨n4, d4⟩, j4⟩ := P0
    have hn4 : 0 ≤ n4 ∧ n4 ≤ 4000000000000000000 := by
      have := congrArg (fun q : Hv × J => q.1.n) hP0
      simp only [popJ] at this
      omega
    have HN4 := hid hn4
    have HP0 := hid hP0
    rw [hP0]
    obtain ⟨P1, hP1⟩ : ∃ P, popJ p a (⟨n4, d4⟩, j4) = P := ⟨_, rfl⟩
    obtain ⟨⟨n1, d1⟩, j1⟩ := P1
    have hn1 : 0 ≤ n1 ∧ n1 ≤ 4000000000000000000 := by
      have := congrArg (fun q : Hv × J => q.1.n) hP1
      simp only [popJ] at this
      have := HPR.out
      omega
    obtain ⟨u0, u1⟩ := hn1
    have HP1 := hid hP1
    rw [hP1]
    unfold pushJ
    dsimp only
    clear hP0 hP1 hn4 hc
    go_enter Tryz.func291, Tryz.ntmps291
    go_upto_region 1 with fail
    rw [← HW3.out]
    clear HW3
    go_cut [9, 10] from 11 (fun t9 t10 wx => t10 = .bool is' ∧ Fst W g (jhd m t1 t2 lo) lab j #[.int .i64 17, .int .i64 res, .int .u32 (N : Int), .int .u32 xb, .int .i32 xn, .slice ta tags.length tc, .slice la ln lc, .slice ea en ec] n0 d p' r' t9 wx)
    case first =>
      (go_region_held3 (fun w' => Below W3.heap.size W3 w' ∧ w'.cell? ⟨g, 0, none⟩ = some (.slice m.ty'.a m.ty.length m.ty'.c) ∧ w'.cell? ⟨g, 1, none⟩ = some (.slice m.im'.a m.im.length m.im'.c) ∧ w'.cell? ⟨g, 2, none⟩ = some (.slice m.fu'.a m.fu.length m.fu'.c) ∧ w'.cell? ⟨g, 3, none⟩ = some (.slice m.tb'.a m.tb.length m.tb'.c) ∧ w'.cell? ⟨g, 4, none⟩ = some (.slice m.me'.a m.me.length m.me'.c) ∧ w'.cell? ⟨g, 5, none⟩ = some (.slice m.gl'.a m.gl.length m.gl'.c) ∧ w'.cell? ⟨g, 6, none⟩ = some (.slice m.ex'.a m.ex.length m.ex'.c) ∧ w'.cell? ⟨g, 7, none⟩ = some (.bool m.st) ∧ w'.cell? ⟨g, 8, none⟩ = some (.int .u32 m.sn) ∧ w'.cell? ⟨g, 9, none⟩ = some (.slice m.el'.a m.el.length m.el'.c) ∧ w'.cell? ⟨g, 10, none⟩ = some (.slice m.da'.a m.da.length m.da'.c) ∧ w'.cell? ⟨W.heap.size, 2, none⟩ = some (.int .u32 (N : Int)))
        (first | (with_reducible assumption) | (with_reducible exact HK.out _ (thenA (held_ot12 (by assumption)) _)) | (with_reducible exact HK.out _ (((held_ot12 (by assumption)).setCell (Nat.le_refl _) _).setCell (Nat.le_refl _) _)))
        (first | (go_at_call 126; (with_reducible refine (CT.out _ (held_ot12 (by assumption))).mono ?_); rintro e7 w7 ⟨rfl, hb7⟩; have hS7 := HKA.out w7 hb7) | (go_at_call 126; (with_reducible refine (CT.out _ (held_ot12 (by assumption))).mono ?_); rintro e7 w7 ⟨rfl, hb7⟩; have hS7 := HKB.out _ w7 hb7; have hR7 := HKC.out w7 hb7; have k0 := cell_of_row w7 W3.heap.size 0 _ _ _ hR7; have k1 := cell_of_row w7 W3.heap.size 1 _ _ _ hR7; have f0 := frozen_of_row w7 W3.heap.size 0 _ _ hR7; have f1 := frozen_of_row w7 W3.heap.size 1 _ _ hR7; simp at k0 k1)))
      all_goals (go_wp2_with fail; go_meet; first | exact ⟨rfl, FA.out w7 hb7⟩ | exact ⟨rfl, FB.out w7 hb7⟩)
    case rest =>
      obtain ⟨rfl, q, rfl, hq, h3x, htx, hjx⟩ := hcut
      have HQG := hid (show q ≠ g by have := HG.out; omega)
      have x0 := cell_of_row wc W.heap.size 0 _ _ _ h3x.a
      have x2 := cell_of_row wc W.heap.size 2 _ _ _ h3x.a
      have b0 := cell_of_row wc (W.heap.size + 1) 0 _ _ _ h3x.b
      have b1 := cell_of_row wc (W.heap.size + 1) 1 _ _ _ h3x.b
      have f0 := frozen_of_row wc (W.heap.size + 1) 0 _ _ h3x.b
      have f1 := frozen_of_row wc (W.heap.size + 1) 1 _ _ h3x.b
      have r0 := cell_of_row wc (W.heap.size + 1 + 1) 0 _ _ _ h3x.c
      have r1 := cell_of_row wc (W.heap.size + 1 + 1) 1 _ _ _ h3x.c
      have g0 := frozen_of_row wc (W.heap.size + 1 + 1) 0 _ _ h3x.c
      have g1 := frozen_of_row wc (W.heap.size + 1 + 1) 1 _ _ h3x.c
      simp at x0 x2 b0 b1 r0 r1
      have y0 := cell_of_row wc q 0 _ _ _ htx
      have y1 := cell_of_row wc q 1 _ _ _ htx
      have z0 := frozen_of_row wc q 0 _ _ htx
      have z1 := frozen_of_row wc q 1 _ _ htx
      simp at y0 y1
      have c3 := hjx.1.hd_ (i := 3) rfl
      have c0 := hjx.1.hd_ (i := 0) rfl
      have HSV := hid (show ∃ b off, m.ty'.a = some ⟨b, off, none⟩ ∧ b < n₀ ∧ wc.cell? ⟨b, off + N * 2, none⟩ = some (.int .i64 p) ∧ wc.cell? ⟨b, off + N * 2 + 1, none⟩ = some (.int .i64 r) from HTX.out wc hjx.2)
      obtain ⟨tb_, off, hta, htb, k0, k1⟩ := HSV.out
      rw [hta] at c0
      have HT := hid htx
      have H3X := hid h3x
      have HJX := hid hjx
      have HQ1 := hid (show q ≠ W.heap.size + 1 by omega)
      have HQ3 := hid (show W.heap.size + 2 < q from hq)
      have hltI : (N : Int) < (m.ty.length : Int) := by omega
      clear HSV HTX HJ H3 HK HKA HKB HKC FA FB hS0 CT CF hq h3x htx hjx hta htb hlt
      generalize m.tb.length = T at *
      generalize m.ty.length = Y at *
      go_upto_region 3 with fail
      go_quiet (fail)
      go_upto_region 5 with fail
      go_region
      obtain ⟨W5, hW5⟩ : ∃ W5, W5 = (((wc.drewN (nq + 1)).setCell ⟨q, 0, none⟩ (.int .i64 p)).setCell ⟨q, 1, none⟩ (.int .i64 r)) := ⟨_, rfl⟩
      have h35 := ((three_dr H3X.out (nq + 1)).away (i := 0) HQ3.out (.int .i64 p)).away (i := 1) HQ3.out (.int .i64 r)
      have hj5 : JQ g (jhd m t1 t2 lo) lab j W W5 := by rw [hW5]; exact ((JQ.drewN HJX.out (nq + 1)).away HQG.out (by have := HQ3.out; omega) _).away HQG.out (by have := HQ3.out; omega) _
      have ht5 : TyAt W5 q p r := by rw [hW5]; exact heap_setCell_same _ _ 1 _ _ _ (heap_setCell_same _ _ 0 _ _ _ HT.out)
      rw [← hW5] at h35 ⊢
      have C0 := hid (CP.out W5 ⟨n0, d⟩ j 1 hj5.1 (by omega) (by dsimp only; omega))
      rw [HP0.out] at C0
      unfold HvV at C0
      dsimp only at C0
      clear x0 x2 b0 b1 f0 f1 r0 r1 g0 g1 y0 y1 z0 z1 c0 c3 k0 k1 hW5
      have x0 := cell_of_row W5 W.heap.size 0 _ _ _ h35.a
      have x2 := cell_of_row W5 W.heap.size 2 _ _ _ h35.a
      have b0 := cell_of_row W5 (W.heap.size + 1) 0 _ _ _ h35.b
      have b1 := cell_of_row W5 (W.heap.size + 1) 1 _ _ _ h35.b
      have f0 := frozen_of_row W5 (W.heap.size + 1) 0 _ _ h35.b
      have f1 := frozen_of_row W5 (W.heap.size + 1) 1 _ _ h35.b
      have r0 := cell_of_row W5 (W.heap.size + 1 + 1) 0 _ _ _ h35.c
      have r1 := cell_of_row W5 (W.heap.size + 1 + 1) 1 _ _ _ h35.c
      have g0 := frozen_of_row W5 (W.heap.size + 1 + 1) 0 _ _ h35.c
      have g1 := frozen_of_row W5 (W.heap.size + 1 + 1) 1 _ _ h35.c
      simp at x0 x2 b0 b1 r0 r1
      have y0 := cell_of_row W5 q 0 _ _ _ ht5
      have y1 := cell_of_row W5 q 1 _ _ _ ht5
      have z0 := frozen_of_row W5 q 0 _ _ ht5
      have z1 := frozen_of_row W5 q 1 _ _ ht5
      simp at y0 y1
      have H35 := hid h35
      have HJ5 := hid hj5
      have HT5 := hid ht5
      clear h35 hj5 ht5 H3X HJX HT HP0
      go_wp2_with fail
      refine C0.out.mono ?_
      rintro e w0 ⟨rfl, hq⟩
      have h30 := H35.out.save hq.2 HG.out
      have hj0 := JQ.trans HJ5.out hq
      have HT := hid (HT5.out.save hq.2 HQG.out)
      have HS := hid (three_seth hj0 h30 HG.out n4 d4)
      clear x0 x2 b0 b1 f0 f1 r0 r1 g0 g1 y0 y1 z0 z1
      have f0 := frozen_of_row w0 (W.heap.size + 1) 0 _ _ h30.b
      have f1 := frozen_of_row w0 (W.heap.size + 1) 1 _ _ h30.b
      have b0 := cell_of_row w0 (W.heap.size + 1) 0 _ _ _ h30.b
      have b1 := cell_of_row w0 (W.heap.size + 1) 1 _ _ _ h30.b
      simp at b0 b1
      clear h30 hj0 hq C0 H35 HJ5 HT5
      go_upto_region 11 with fail
      obtain ⟨W6, hW6⟩ : ∃ W6, W6 = ((w0.setCell ⟨W.heap.size + 1, 0, none⟩ (.int .i64 n4)).setCell ⟨W.heap.size + 1, 1, none⟩ (.bool d4)) := ⟨_, rfl⟩
      have HT6 : TyAt W6 q p r := by
        rw [hW6]
        have s1 : Save (W.heap.size + 1) w0 ((w0.setCell ⟨W.heap.size + 1, 0, none⟩ (.int .i64 n4)).setCell ⟨W.heap.size + 1, 1, none⟩ (.bool d4)) := (Save.setCell (p := ⟨W.heap.size + 1, 0, none⟩) (Save.refl (W.heap.size + 1) w0) (.inl rfl) _).setCell (p := ⟨W.heap.size + 1, 1, none⟩) (.inl rfl) _
        exact HT.out.save s1 (by have := HQ3.out; omega)
      have HS6 := HS.out
      rw [← hW6] at HS6 ⊢
      have C1 := hid (CP.out W6 ⟨n4, d4⟩ j4 p HS6.1.1 (by have := HPR.out; omega) (by have := HN4.out; dsimp only; omega))
      rw [HP1.out] at C1
      unfold HvV at C1
      dsimp only at C1
      have h3x := HS6.2
      clear f0 f1 b0 b1
      have x0 := cell_of_row W6 W.heap.size 0 _ _ _ h3x.a
      have x2 := cell_of_row W6 W.heap.size 2 _ _ _ h3x.a
      have b0 := cell_of_row W6 (W.heap.size + 1) 0 _ _ _ h3x.b
      have b1 := cell_of_row W6 (W.heap.size + 1) 1 _ _ _ h3x.b
      have f0 := frozen_of_row W6 (W.heap.size + 1) 0 _ _ h3x.b
      have f1 := frozen_of_row W6 (W.heap.size + 1) 1 _ _ h3x.b
      have r0 := cell_of_row W6 (W.heap.size + 1 + 1) 0 _ _ _ h3x.c
      have r1 := cell_of_row W6 (W.heap.size + 1 + 1) 1 _ _ _ h3x.c
      have g0 := frozen_of_row W6 (W.heap.size + 1 + 1) 0 _ _ h3x.c
      have g1 := frozen_of_row W6 (W.heap.size + 1 + 1) 1 _ _ h3x.c
      simp at x0 x2 b0 b1 r0 r1
      have y0 := cell_of_row W6 q 0 _ _ _ HT6
      have y1 := cell_of_row W6 q 1 _ _ _ HT6
      have z0 := frozen_of_row W6 q 0 _ _ HT6
      have z1 := frozen_of_row W6 q 1 _ _ HT6
      simp at y0 y1
      have H3X := hid h3x
      have HJX := hid HS6.1
      have HT := hid HT6
      clear HS HS6 h3x HT6 hW6 CP HP1
      go_wp2_with fail
      refine C1.out.mono ?_
      rintro e w1 ⟨rfl, hq⟩
      have h31 := H3X.out.save hq.2 HG.out
      have hj1 := JQ.trans HJX.out hq
      have ht1 := HT.out.save hq.2 HQG.out
      have HE := hid (show ∀ y, _ from fun (y : Int) => by
        obtain ⟨a1, a2⟩ := three_seth hj1 h31 HG.out n1 d1
        obtain ⟨a3, a4⟩ := three_set1 a1 a2 HG.out y
        exact three_end a3 a4 HG.out (.int .i64 y) (.bool d1))
      clear x0 x2 b0 b1 f0 f1 r0 r1 g0 g1 y0 y1 z0 z1
      have x0 := cell_of_row w1 W.heap.size 0 _ _ _ h31.a
      have x2 := cell_of_row w1 W.heap.size 2 _ _ _ h31.a
      have b0 := cell_of_row w1 (W.heap.size + 1) 0 _ _ _ h31.b
      have b1 := cell_of_row w1 (W.heap.size + 1) 1 _ _ _ h31.b
      have f0 := frozen_of_row w1 (W.heap.size + 1) 0 _ _ h31.b
      have f1 := frozen_of_row w1 (W.heap.size + 1) 1 _ _ h31.b
      have r0 := cell_of_row w1 (W.heap.size + 1 + 1) 0 _ _ _ h31.c
      have r1 := cell_of_row w1 (W.heap.size + 1 + 1) 1 _ _ _ h31.c
      have g0 := frozen_of_row w1 (W.heap.size + 1 + 1) 0 _ _ h31.c
      have g1 := frozen_of_row w1 (W.heap.size + 1 + 1) 1 _ _ h31.c
      simp at x0 x2 b0 b1 r0 r1
      have y0 := cell_of_row w1 q 0 _ _ _ ht1
      have y1 := cell_of_row w1 q 1 _ _ _ ht1
      have z0 := frozen_of_row w1 q 0 _ _ ht1
      have z1 := frozen_of_row w1 q 1 _ _ ht1
      simp at y0 y1
      have hq1 := HQ1.out
      clear h31 hj1 ht1 hq H3X HJX HT C1
      go_wp2
      obtain ⟨q1, q2⟩ := HE.out (n1 + r)
      exact bodyPost_ret (results_cell_row Tryz.results291 _ _ (W.heap.size + 1 + 1) _ _ _ _ rfl q2 Tryz.underlying312 rfl (by kernel_rfl)) rfl ⟨rfl, q1⟩
end Go.Proofs.YtdljneclfgneoaaGreatDoor.Val

namespace Go.Proofs.YtdljneclfgneoaaGreatDoor.Val
open Go.RowKit Go.Shelf Go.Proofs.YtdljneclfgneoaaGreatDoor.Instr Go.Proofs.YtdljneclfgneoaaGreatDoor.Mod
set_option linter.unusedVariables false

theorem missJ_at {ls : List Int} {a : Int} {l : List Int} {k : Nat} {j : J} (h : k < l.length) : missJ ls a (l.drop k) j = missJ ls a (l.drop (k + 1)) (labelJ ls (l.getD k 0) a j).2 := by
  rw [List.drop_eq_getElem_cons h]
  have e : l.getD k 0 = l[k] := by simp [h]
  rw [missJ, e]
theorem unlikeJ_at {ls : List Int} {a q : Int} {l : List Int} {k : Nat} {j : J} (h : k < l.length) (hj : j.e = 0) : unlikeJ ls q a (l.drop k) j = unlikeJ ls q a (l.drop (k + 1)) (if (labelJ ls (l.getD k 0) a j).1 = q then (labelJ ls (l.getD k 0) a j).2 else (labelJ ls (l.getD k 0) a j).2.fault 214 a) := by
  rw [List.drop_eq_getElem_cons h]
  have e : l.getD k 0 = l[k] := by simp [h]
  rw [unlikeJ, if_pos hj, e]
set_option maxRecDepth 100000 in
set_option maxHeartbeats 4000000 in
theorem jumpR_table {W : World} {g n₀ : Nat} {m : Md} {t1 t2 lo : Int} {la : Option Addr} {lc : Nat} {ls : List Int} {j : J} (h : JAt W g (jhd m t1 t2 lo) (.slice la ls.length lc) j) (hlab : LabX g W la ls) (hln : ls.length ≤ 1000000) (hls : ∀ l ∈ ls, 0 ≤ l ∧ l ≤ 4611686018427387904) (x : Ix) (hx : x.ok) (ht : TagsAt n₀ W x.ta x.tags) (hg : n₀ ≤ g) (hv : Hv) (a : Int) (hh : 0 ≤ hv.n ∧ hv.n ≤ 4611686018427387904) (hop : x.op = 14) :
    Calls Tryz.prog 290 #[.pointer (some ⟨g, 0, none⟩), .agg x.vals, HvV hv, .int .i64 a] W fun e W' => e = .returned (HvV (tableJ ls x.tags x.a a (hv, j)).1) ∧ JQ g (jhd m t1 t2 lo) (.slice la ls.length lc) (tableJ ls x.tags x.a a (hv, j)).2 W W' := by
  obtain ⟨ha0, ha1⟩ := hx.a
  have htr := hx.tags
  have htn := hx.tn
  obtain ⟨op, res, xa, xb, xn, tags, ta, tc, la', ln, lc', ea, en, ec⟩ := x
  simp only at hop ha0 ha1 htr htn ht ⊢
  subst hop
  obtain ⟨N, rfl⟩ : ∃ N : Nat, xa = (N : Int) := ⟨xa.toNat, by omega⟩
  obtain ⟨n0, d⟩ := hv
  have CL := hid (fun (W' : World) (j' : J) (M : Nat) (hM : M ≤ 4294967295) (hq : JQ g (jhd m t1 t2 lo) (.slice la ls.length lc) j' W W') => labelR_any hq.1 (hlab.save hq.2).at_ hln M a hM)
  have CP := hid (fun (W' : World) (hv : Hv) (j' : J) (n : Int) (hj : JAt W' g (jhd m t1 t2 lo) (.slice la ls.length lc) j') (hn : 0 ≤ n ∧ n ≤ 4611686018427387904) (hh : 0 ≤ hv.n ∧ hv.n ≤ 4611686018427387904) => popR_any hj hv n a hn hh)
  have CF := hid (fun (W' : World) (j' : J) (hj : JAt W' g (jhd m t1 t2 lo) (.slice la ls.length lc) j') => fault_any hj 214 a)
  have HK := hid (fun (n : Int) (j' : J) => labelJ_in hls n a j')
  have HTG := hid (fun (W' : World) (hs : Save g W W') => ht.below (hs.below (by have := h.lt; omega) hg : Below n₀ W W'))
  have HTR := hid (fun (k : Nat) (hk : k < tags.length) => (show ∃ M : Nat, tags.getD k 0 = (M : Int) ∧ M ≤ 4294967295 from by
    have e : tags.getD k 0 = tags[k] := by simp [hk]
    have := htr _ (List.getElem_mem hk)
    exact ⟨tags[k].toNat, by rw [e]; omega, by omega⟩))
  have HG := hid h.lt
  obtain ⟨W3, hW3⟩ : ∃ W3, W3 = ((W.alloc (.cells #[.int .i64 14, .int .i64 res, .int .u32 (N : Int), .int .u32 xb, .int .i32 xn, .slice ta tags.length tc, .slice la' ln lc', .slice ea en ec] 92)).alloc (.cells #[.int .i64 n0, .bool d] 312)).alloc (.cells #[.int .i64 0, .bool false] 312) := ⟨_, rfl⟩
  have hb0 : Below W.heap.size W W3 := by rw [hW3]; exact thenA (thenA (belowAlloc W _) _) _
  have h3 : Three W #[.int .i64 14, .int .i64 res, .int .u32 (N : Int), .int .u32 xb, .int .i32 xn, .slice ta tags.length tc, .slice la' ln lc', .slice ea en ec] n0 d W3 := by rw [hW3]; exact Three.made W _ n0 d
  have HJ := hid (show JQ g (jhd m t1 t2 lo) (.slice la ls.length lc) j W W3 from ⟨h.below hb0, Save.of_below hb0⟩)
  have H3 := hid h3
  have HW3 := hid hW3
  have x0 := cell_of_row W3 W.heap.size 0 _ _ _ h3.a
  have x5 := cell_of_row W3 W.heap.size 5 _ _ _ h3.a
  simp at x0 x5
  have HMI := hid (fun (k : Nat) (j' : J) (hk : k < tags.length) => missJ_at (ls := ls) (a := a) (l := tags) (k := k) (j := j') hk)
  have HUN := hid (fun (k : Nat) (q : Int) (j' : J) (hk : k < tags.length) (hj : j'.e = 0) => unlikeJ_at (ls := ls) (a := a) (q := q) (l := tags) (k := k) (j := j') hk hj)
  have HM0 := hid (show missJ ls a (tags.drop tags.length) = id by rw [List.drop_length]; rfl)
  have HU0 := hid (fun (q : Int) => show unlikeJ ls q a (tags.drop tags.length) = id by rw [List.drop_length]; rfl)
  unfold tableJ
  obtain ⟨jm, hjm⟩ : ∃ jm, missJ ls a tags j = jm := ⟨_, rfl⟩
  have HJM := hid (show missJ ls a (tags.drop 0) j = jm by rw [List.drop_zero]; exact hjm)
  dsimp only
  rw [hjm]
  obtain ⟨⟨k1, j1⟩, hk1⟩ : ∃ q, labelJ ls (N : Int) a jm = q := ⟨_, rfl⟩
  have HK1 := hid hk1
  have HKB := hid (show 0 ≤ k1 ∧ k1 ≤ 4611686018427387904 by have := HK.out (N : Int) jm; rw [hk1] at this; exact this)
  rw [hk1]
  dsimp only
  obtain ⟨ju, hju⟩ : ∃ ju, unlikeJ ls k1 a tags j1 = ju := ⟨_, rfl⟩
  have HJU := hid (show unlikeJ ls k1 a (tags.drop 0) j1 = ju by rw [List.drop_zero]; exact hju)
  rw [hju]
  obtain ⟨P1, hP1⟩ : ∃ P, popJ 1 a (⟨n0, d⟩, ju) = P := ⟨_, rfl⟩
  obtain ⟨⟨n1, d1⟩, j2⟩ := P1
  have HP1 := hid hP1
  have hn1 : 0 ≤ n1 ∧ n1 ≤ 4611686018427387904 := by
    have := congrArg (fun q : Hv × J => q.1.n) hP1
    simp only [popJ] at this
    dsimp only at hh
    omega
  have HN1 := hid hn1
  rw [hP1]
  obtain ⟨n, hn⟩ : ∃ n, tags.length = n := ⟨_, rfl⟩
  have HXA := hid hn
  rw [hn] at HTR HMI HUN HM0 HU0 htn x5
  have HTN := hid htn
  have HH := hid hh
  clear h hlab hln hls hx ht htr htn hW3 hb0 h3 hjm hk1 hju hP1 hn1 hn hh
  unfold HvV Ix.vals
  dsimp only
  rw [HXA.out]
  go_enter Tryz.func290, Tryz.ntmps290
  go_upto_region 1 with fail
  rw [HXA.out] at HW3
  rw [← HW3.out]
  clear HW3
  go_wp2
  go_loopw [11] (fun vi wr => ∃ (k : Nat) (j' : J), vi = .int .i64 k ∧ k ≤ n ∧ Hid (JQ g (jhd m t1 t2 lo) (.slice la ls.length lc) j' W wr) ∧ Hid (Three W #[.int .i64 14, .int .i64 res, .int .u32 (N : Int), .int .u32 xb, .int .i32 xn, .slice ta tags.length tc, .slice la' ln lc', .slice ea en ec] n0 d wr) ∧ Hid (missJ ls a (tags.drop k) j' = jm)) (fun vi _ => n - (intOf vi).toNat)
  case atStart => exact ⟨0, j, rfl, Nat.zero_le _, HJ, H3, HJM⟩
  case round =>
    obtain ⟨k, j', rfl, hk, HJ, H3, HM⟩ := hrel
    have x0 := cell_of_row wr W.heap.size 0 _ _ _ H3.out.a
    have x2 := cell_of_row wr W.heap.size 2 _ _ _ H3.out.a
    have x5 := cell_of_row wr W.heap.size 5 _ _ _ H3.out.a
    have b0 := cell_of_row wr (W.heap.size + 1) 0 _ _ _ H3.out.b
    have b1 := cell_of_row wr (W.heap.size + 1) 1 _ _ _ H3.out.b
    have f0 := frozen_of_row wr (W.heap.size + 1) 0 _ _ H3.out.b
    have f1 := frozen_of_row wr (W.heap.size + 1) 1 _ _ H3.out.b
    have r0 := cell_of_row wr (W.heap.size + 1 + 1) 0 _ _ _ H3.out.c
    have r1 := cell_of_row wr (W.heap.size + 1 + 1) 1 _ _ _ H3.out.c
    have g0 := frozen_of_row wr (W.heap.size + 1 + 1) 0 _ _ H3.out.c
    have g1 := frozen_of_row wr (W.heap.size + 1 + 1) 1 _ _ H3.out.c
    simp at x0 x2 x5 b0 b1 r0 r1
    rw [HXA.out] at x5
    by_cases hlt : k < n
    · obtain ⟨b, off, hta, hb, hc⟩ := (HTG.out wr HJ.out.2).resolve_left (by intro e; have := HXA.out; rw [e] at this; simp at this; omega)
      have hv := hc k (by rw [HXA.out]; exact hlt)
      obtain ⟨M, hM, hMb⟩ := HTR.out k hlt
      rw [hM] at hv
      rw [hta] at x5
      have CC := hid (CL.out wr j' M hMb HJ.out)
      have hki : (k : Int) < (n : Int) := by omega
      have htn := HTN.out
      have HM1 := hid (show missJ ls a (tags.drop (k + 1)) (labelJ ls (M : Int) a j').2 = jm by have := HMI.out k j' hlt; rw [hM] at this; rw [← this]; exact HM.out)
      clear hc hta hb HM hM
      go_wp2_with fail
      refine CC.out.mono ?_
      rintro e w1 ⟨rfl, hq⟩
      have HJ1 := hid (JQ.trans HJ.out hq)
      have H31 := hid (H3.out.save hq.2 HG.out)
      clear x0 x2 x5 b0 b1 f0 f1 r0 r1 g0 g1 hv CC hq HJ H3
      go_wp2
      go_roundw
      case rel => exact ⟨k + 1, _, by go_num, by omega, HJ1, H31, HM1⟩
      case measure => simp [intOf]; omega
    · obtain rfl : n = k := by omega
      have hjm : j' = jm := by have := HM.out; rw [HM0.out] at this; exact this
      subst hjm
      have CC := hid (CL.out wr j' N (by omega) HJ.out)
      rw [HK1.out] at CC
      dsimp only at CC
      clear hlt hk HM
      go_wp2_with fail
      refine CC.out.mono ?_
      rintro e w1 ⟨rfl, hq⟩
      have HJ1 := hid (JQ.trans HJ.out hq)
      have H31 := hid (H3.out.save hq.2 HG.out)
      clear x0 x2 x5 b0 b1 f0 f1 r0 r1 g0 g1 CC hq HJ H3
      go_wp2
      go_loopw [13] (fun vi wr => ∃ (k : Nat) (j' : J), vi = .int .i64 k ∧ k ≤ n ∧ Hid (JQ g (jhd m t1 t2 lo) (.slice la ls.length lc) j' W wr) ∧ Hid (Three W #[.int .i64 14, .int .i64 res, .int .u32 (N : Int), .int .u32 xb, .int .i32 xn, .slice ta tags.length tc, .slice la' ln lc', .slice ea en ec] n0 d wr) ∧ Hid (unlikeJ ls k1 a (tags.drop k) j' = ju)) (fun vi _ => n - (intOf vi).toNat)
      case atStart => exact ⟨0, j1, rfl, Nat.zero_le _, HJ1, H31, HJU⟩
      case round =>
        clear HJ1 H31
        obtain ⟨k, j', rfl, hk, HJ, H3, HM⟩ := hrel
        have x0 := cell_of_row wr W.heap.size 0 _ _ _ H3.out.a
        have x2 := cell_of_row wr W.heap.size 2 _ _ _ H3.out.a
        have x5 := cell_of_row wr W.heap.size 5 _ _ _ H3.out.a
        have b0 := cell_of_row wr (W.heap.size + 1) 0 _ _ _ H3.out.b
        have b1 := cell_of_row wr (W.heap.size + 1) 1 _ _ _ H3.out.b
        have f0 := frozen_of_row wr (W.heap.size + 1) 0 _ _ H3.out.b
        have f1 := frozen_of_row wr (W.heap.size + 1) 1 _ _ H3.out.b
        have r0 := cell_of_row wr (W.heap.size + 1 + 1) 0 _ _ _ H3.out.c
        have r1 := cell_of_row wr (W.heap.size + 1 + 1) 1 _ _ _ H3.out.c
        have g0 := frozen_of_row wr (W.heap.size + 1 + 1) 0 _ _ H3.out.c
        have g1 := frozen_of_row wr (W.heap.size + 1 + 1) 1 _ _ H3.out.c
        simp at x0 x2 x5 b0 b1 r0 r1
        rw [HXA.out] at x5
        have c16 := HJ.out.1.c.2.2.1
        by_cases hlt : k < n
        · by_cases hje : j'.e = 0
          · rw [hje] at c16
            obtain ⟨b, off, hta, hb, hc⟩ := (HTG.out wr HJ.out.2).resolve_left (by intro e; have := HXA.out; rw [e] at this; simp at this; omega)
            have hv := hc k (by rw [HXA.out]; exact hlt)
            obtain ⟨M, hM, hMb⟩ := HTR.out k hlt
            rw [hM] at hv
            rw [hta] at x5
            have CC := hid (CL.out wr j' M hMb HJ.out)
            have hki : (k : Int) < (n : Int) := by omega
            have htn := HTN.out
            have HM1 := hid (show unlikeJ ls k1 a (tags.drop (k + 1)) (if (labelJ ls (M : Int) a j').1 = k1 then (labelJ ls (M : Int) a j').2 else (labelJ ls (M : Int) a j').2.fault 214 a) = ju by have := HUN.out k k1 j' hlt hje; rw [hM] at this; rw [← this]; exact HM.out)
            obtain ⟨⟨kk, j3⟩, hq3⟩ : ∃ q, labelJ ls (M : Int) a j' = q := ⟨_, rfl⟩
            rw [hq3] at HM1 CC
            dsimp only at HM1 CC
            clear hc hta hb HM hM hje hq3
            by_cases hkk : kk = k1
            · subst hkk
              rw [if_pos rfl] at HM1
              go_wp2_with fail
              refine CC.out.mono ?_
              rintro e w1 ⟨rfl, hq⟩
              have HJ1 := hid (JQ.trans HJ.out hq)
              have H31 := hid (H3.out.save hq.2 HG.out)
              clear x0 x2 x5 b0 b1 f0 f1 r0 r1 g0 g1 hv CC hq HJ H3 c16
              go_wp2
              go_roundw
              case rel => exact ⟨k + 1, _, by go_num, by omega, HJ1, H31, HM1⟩
              case measure => simp [intOf]; omega
            · rw [if_neg hkk] at HM1
              have hne : (kk != k1) = true := by simpa using hkk
              clear hkk
              go_wp2_with fail
              refine CC.out.mono ?_
              rintro e w1 ⟨rfl, hq⟩
              have HJ1 := hid (JQ.trans HJ.out hq)
              have H31 := hid (H3.out.save hq.2 HG.out)
              have C4 := hid (CF.out w1 j3 HJ1.out.1)
              clear x0 x2 x5 b0 b1 f0 f1 r0 r1 g0 g1 hv CC hq HJ H3 c16
              go_wp2_with fail
              refine C4.out.mono ?_
              rintro e w4 ⟨rfl, hq⟩
              have HJ4 := hid (JQ.trans HJ1.out hq)
              have H34 := hid (H31.out.save hq.2 HG.out)
              clear hq HJ1 H31 C4
              go_wp2
              go_roundw
              case rel => exact ⟨k + 1, _, by go_num, by omega, HJ4, H34, HM1⟩
              case measure => simp [intOf]; omega
          · have hju : j' = ju := by have := HM.out; rw [unlikeJ_out _ _ _ _ hje] at this; exact this
            have hef : (j'.e == 0) = false := by simpa using hje
            have hki : (k : Int) < (n : Int) := by omega
            have htn := HTN.out
            clear hje HM
            subst hju
            have C2 := hid (CP.out wr ⟨n0, d⟩ j' 1 HJ.out.1 (by omega) HH.out)
            rw [HP1.out] at C2
            unfold HvV at C2
            dsimp only at C2
            go_wp2_with fail
            refine C2.out.mono ?_
            rintro e w2 ⟨rfl, hq⟩
            have h32 := H3.out.save hq.2 HG.out
            have HS := hid (three_seth (JQ.trans HJ.out hq) h32 HG.out n1 d1)
            clear x0 x2 x5 b0 b1 f0 f1 r0 r1 g0 g1
            have f0 := frozen_of_row w2 (W.heap.size + 1) 0 _ _ h32.b
            have f1 := frozen_of_row w2 (W.heap.size + 1) 1 _ _ h32.b
            have b0 := cell_of_row w2 (W.heap.size + 1) 0 _ _ _ h32.b
            have b1 := cell_of_row w2 (W.heap.size + 1) 1 _ _ _ h32.b
            simp at b0 b1
            have C3 := hid (CP.out _ ⟨n1, d1⟩ j2 k1 HS.out.1.1 HKB.out HN1.out)
            unfold HvV at C3
            dsimp only at C3
            clear hq h32 C2 H3 HJ
            go_wp2_with fail
            refine C3.out.mono ?_
            rintro e w3 ⟨rfl, hq⟩
            have h33 := HS.out.2.save hq.2 HG.out
            have HE := hid (three_end (JQ.trans HS.out.1 hq) h33 HG.out (.int .i64 0) (.bool true))
            clear f0 f1 b0 b1
            have z0 := cell_of_row w3 (W.heap.size + 1 + 1) 0 _ _ _ h33.c
            have z1 := cell_of_row w3 (W.heap.size + 1 + 1) 1 _ _ _ h33.c
            have t0 := frozen_of_row w3 (W.heap.size + 1 + 1) 0 _ _ h33.c
            have t1' := frozen_of_row w3 (W.heap.size + 1 + 1) 1 _ _ h33.c
            simp at z0 z1
            clear hq h33 C3 HS
            go_wp2
            obtain ⟨q1, q2⟩ := HE.out
            exact bodyPost_ret (results_cell_row Tryz.results290 _ _ (W.heap.size + 1 + 1) _ _ _ _ rfl q2 Tryz.underlying312 rfl (by kernel_rfl)) rfl ⟨rfl, q1⟩
        · obtain rfl : n = k := by omega
          have hju : j' = ju := by have := HM.out; rw [HU0.out] at this; exact this
          clear HM hlt hk
          subst hju
          have C2 := hid (CP.out wr ⟨n0, d⟩ j' 1 HJ.out.1 (by omega) HH.out)
          rw [HP1.out] at C2
          unfold HvV at C2
          dsimp only at C2
          go_wp2_with fail
          refine C2.out.mono ?_
          rintro e w2 ⟨rfl, hq⟩
          have h32 := H3.out.save hq.2 HG.out
          have HS := hid (three_seth (JQ.trans HJ.out hq) h32 HG.out n1 d1)
          clear x0 x2 x5 b0 b1 f0 f1 r0 r1 g0 g1
          have f0 := frozen_of_row w2 (W.heap.size + 1) 0 _ _ h32.b
          have f1 := frozen_of_row w2 (W.heap.size + 1) 1 _ _ h32.b
          have b0 := cell_of_row w2 (W.heap.size + 1) 0 _ _ _ h32.b
          have b1 := cell_of_row w2 (W.heap.size + 1) 1 _ _ _ h32.b
          simp at b0 b1
          have C3 := hid (CP.out _ ⟨n1, d1⟩ j2 k1 HS.out.1.1 HKB.out HN1.out)
          unfold HvV at C3
          dsimp only at C3
          clear hq h32 C2 H3 HJ
          go_wp2_with fail
          refine C3.out.mono ?_
          rintro e w3 ⟨rfl, hq⟩
          have h33 := HS.out.2.save hq.2 HG.out
          have HE := hid (three_end (JQ.trans HS.out.1 hq) h33 HG.out (.int .i64 0) (.bool true))
          clear f0 f1 b0 b1
          have z0 := cell_of_row w3 (W.heap.size + 1 + 1) 0 _ _ _ h33.c
          have z1 := cell_of_row w3 (W.heap.size + 1 + 1) 1 _ _ _ h33.c
          have t0 := frozen_of_row w3 (W.heap.size + 1 + 1) 0 _ _ h33.c
          have t1' := frozen_of_row w3 (W.heap.size + 1 + 1) 1 _ _ h33.c
          simp at z0 z1
          clear hq h33 C3 HS
          go_wp2
          obtain ⟨q1, q2⟩ := HE.out
          exact bodyPost_ret (results_cell_row Tryz.results290 _ _ (W.heap.size + 1 + 1) _ _ _ _ rfl q2 Tryz.underlying312 rfl (by kernel_rfl)) rfl ⟨rfl, q1⟩
end Go.Proofs.YtdljneclfgneoaaGreatDoor.Val

namespace Go.Proofs.YtdljneclfgneoaaGreatDoor.Instr

/-- Whatever lists and labels lie elsewhere, it is this instruction. -/
def Ix.bare (x : Ix) : Ix := ⟨x.op, x.res, x.a, x.b, x.n, x.tags, none, 0, none, x.ln, 0, none, x.en, 0⟩
def Il.bare : Il → Il
  | .nil => .nil
  | .cons x l e r => .cons x.bare l.bare e.bare r.bare
def Il.app : Il → Il → Il
  | .nil, t => t
  | .cons x l e r, t => .cons x l e (r.app t)
/-- The lists of each have as many as it says. -/
def Il.fit : Il → Prop
  | .nil => True
  | .cons x l e r => l.len = x.ln ∧ e.len = x.en ∧ l.fit ∧ e.fit ∧ r.fit
end Go.Proofs.YtdljneclfgneoaaGreatDoor.Instr
namespace Go.Proofs.YtdljneclfgneoaaGreatDoor.Body
open Go.Proofs.YtdljneclfgneoaaGreatDoor.Leb Go.Proofs.YtdljneclfgneoaaGreatDoor.Kind Go.Proofs.YtdljneclfgneoaaGreatDoor.Instr

/-- What follows an operation: 1: a byte and lists; 2: A; 3: A and a byte 0; 4: labels and A; 5: A and B; 6: a byte 0; 7: N; 0: nothing. -/
def kindP (op : Int) : Nat :=
  if op = 2 ∨ op = 3 ∨ op = 4 then 1
  else if op = 12 ∨ op = 13 ∨ op = 16 ∨ op = 32 ∨ op = 33 ∨ op = 34 ∨ op = 35 ∨ op = 36 then 2
  else if op = 17 then 3
  else if op = 14 then 4
  else if op = 40 ∨ op = 44 ∨ op = 45 ∨ op = 46 ∨ op = 47 ∨ op = 54 ∨ op = 58 ∨ op = 59 then 5
  else if op = 63 ∨ op = 64 then 6
  else if op = 65 then 7 else 0
def plainX (op res a b n : Int) (tags : List Int) : Ix := ⟨op, res, a, b, n, tags, none, 0, none, 0, 0, none, 0, 0⟩
/-- What reading a list gives: instructions, what ended them, how many there have been, the state. -/
structure Lr where
  t : Il
  q : Int
  n : Int
  s : Rd
/-- What a reader does never goes back. -/
def On (s s' : Rd) : Prop := s'.2.1 = 0 → s.2.1 = 0 ∧ s.1 ≤ s'.1
theorem On.refl (s : Rd) : On s s := fun h => ⟨h, Int.le_refl _⟩
theorem On.trans {a b c : Rd} (h : On a b) (g : On b c) : On a c := fun hc => ⟨(h (g hc).1).1, Int.le_trans (h (g hc).1).2 (g hc).2⟩
end Go.Proofs.YtdljneclfgneoaaGreatDoor.Body

/-
  BODY: reading by a stack of open lists, as a plain function; it gives what reading list by list gives.
-/
namespace Go.Proofs.YtdljneclfgneoaaGreatDoor.Body
open Go.Proofs.YtdljneclfgneoaaGreatDoor.Leb Go.Proofs.YtdljneclfgneoaaGreatDoor.Kind Go.Proofs.YtdljneclfgneoaaGreatDoor.Instr

/-- A list whose end has not been read: its owner, the owner's first list if this is its second, what has been read of it. -/
structure Fr where
  x : Ix
  fl : Il
  t : Il
  oth : Bool
end Go.Proofs.YtdljneclfgneoaaGreatDoor.Body

/-
  BODY: what is put is got: an instruction's fields by its operation; its bytes read; a list's bytes read, whatever follows.
-/
namespace Go.Proofs.YtdljneclfgneoaaGreatDoor.Body
open Go.RowKit Go.Proofs.YtdljneclfgneoaaGreatDoor.Leb Go.Proofs.YtdljneclfgneoaaGreatDoor.Instr
open Go.Proofs.YtdljneclfgneoaaGreatDoor.Kind (Rd)

theorem over6 : ∀ b1 b2 b3 b4 b5 b6 b7 : Bool, bits .andNot .u8 (bit b1 1 + bit b2 2 + bit b3 4 + bit b4 8 + bit b5 16 + bit b6 32 + bit b7 64) 6 = 0 ↔ (b1 || b4 || b5 || b6 || b7) = false := by decide
theorem over33 : ∀ b1 b2 b3 b4 b5 b6 b7 : Bool, bits .andNot .u8 (bit b1 1 + bit b2 2 + bit b3 4 + bit b4 8 + bit b5 16 + bit b6 32 + bit b7 64) 33 = 0 ↔ (b2 || b3 || b4 || b5 || b7) = false := by decide
theorem over97 : ∀ b1 b2 b3 b4 b5 b6 b7 : Bool, bits .andNot .u8 (bit b1 1 + bit b2 2 + bit b3 4 + bit b4 8 + bit b5 16 + bit b6 32 + bit b7 64) 97 = 0 ↔ (b2 || b3 || b4 || b5) = false := by decide
theorem over2 : ∀ b1 b2 b3 b4 b5 b6 b7 : Bool, bits .andNot .u8 (bit b1 1 + bit b2 2 + bit b3 4 + bit b4 8 + bit b5 16 + bit b6 32 + bit b7 64) 2 = 0 ↔ (b1 || b3 || b4 || b5 || b6 || b7) = false := by decide
theorem over18 : ∀ b1 b2 b3 b4 b5 b6 b7 : Bool, bits .andNot .u8 (bit b1 1 + bit b2 2 + bit b3 4 + bit b4 8 + bit b5 16 + bit b6 32 + bit b7 64) 18 = 0 ↔ (b1 || b3 || b4 || b6 || b7) = false := by decide
theorem over8 : ∀ b1 b2 b3 b4 b5 b6 b7 : Bool, bits .andNot .u8 (bit b1 1 + bit b2 2 + bit b3 4 + bit b4 8 + bit b5 16 + bit b6 32 + bit b7 64) 8 = 0 ↔ (b1 || b2 || b3 || b5 || b6 || b7) = false := by decide
theorem over0 : ∀ b1 b2 b3 b4 b5 b6 b7 : Bool, bits .andNot .u8 (bit b1 1 + bit b2 2 + bit b3 4 + bit b4 8 + bit b5 16 + bit b6 32 + bit b7 64) 0 = 0 ↔ (b1 || b2 || b3 || b4 || b5 || b6 || b7) = false := by decide

theorem used_kind (op : Int) : (usedP op = 6 ∧ kindP op = 5) ∨ (usedP op = 33 ∧ kindP op = 1 ∧ op ≠ 4) ∨ (usedP op = 97 ∧ kindP op = 1 ∧ op = 4) ∨ (usedP op = 2 ∧ (kindP op = 2 ∨ kindP op = 3)) ∨
    (usedP op = 18 ∧ kindP op = 4) ∨ (usedP op = 8 ∧ kindP op = 7) ∨ (usedP op = 0 ∧ (kindP op = 0 ∨ kindP op = 6)) := by
  unfold usedP kindP
  (repeat' split) <;> simp <;> omega
theorem lawful_iff (x : Ix) : lawfulP x = true ↔ nameL x.op ≠ [] ∧ (x.res = 0 ∨ x.res = 1) ∧ (x.res = 0 ∨ kindP x.op = 1) ∧ (x.a = 0 ∨ kindP x.op = 2 ∨ kindP x.op = 3 ∨ kindP x.op = 4 ∨ kindP x.op = 5) ∧ (x.b = 0 ∨ kindP x.op = 5) ∧
    (x.n = 0 ∨ kindP x.op = 7) ∧ (x.tags.length = 0 ∨ kindP x.op = 4) ∧ (x.ln = 0 ∨ kindP x.op = 1) ∧ (x.en = 0 ∨ (kindP x.op = 1 ∧ x.op = 4)) := by
  unfold lawfulP overP filledP
  simp only [Bool.and_eq_true, Bool.or_eq_true, decide_eq_true_eq, and_assoc]
  refine and_congr_right fun _ => ?_
  rw [and_comm]
  refine and_congr_right fun _ => ?_
  rcases used_kind x.op with ⟨hu, hk⟩ | ⟨hu, hk, h4⟩ | ⟨hu, hk, h4⟩ | ⟨hu, hk⟩ | ⟨hu, hk⟩ | ⟨hu, hk⟩ | ⟨hu, hk⟩ <;> rw [hu]
  · rw [over6]; simp [hk, and_assoc]
  · rw [over33]; simp [hk, h4, and_assoc]
  · rw [over97]; simp [show kindP 4 = 1 by decide, h4, and_assoc]
  · rw [over2]; rcases hk with hk | hk <;> simp [hk, and_assoc]
  · rw [over18]; simp [hk, and_assoc]
  · rw [over8]; simp [hk, and_assoc]
  · rw [over0]; rcases hk with hk | hk <;> simp [hk, and_assoc]

section
variable {zs : List Int} {op : Int} {s : Rd}
end
theorem kind_cases (op : Int) : kindP op = 0 ∨ kindP op = 1 ∨ kindP op = 2 ∨ kindP op = 3 ∨ kindP op = 4 ∨ kindP op = 5 ∨ kindP op = 6 ∨ kindP op = 7 := by
  unfold kindP; (repeat' split) <;> simp
def Lr.pre (t : Il) (r : Lr) : Lr := ⟨t.app r.t, r.q, r.n, r.s⟩
end Go.Proofs.YtdljneclfgneoaaGreatDoor.Body

/-
  BODY: bytes that end too early: the fault is told where they end.
-/
namespace Go.Proofs.YtdljneclfgneoaaGreatDoor.Body
open Go.Proofs.YtdljneclfgneoaaGreatDoor.Leb Go.Proofs.YtdljneclfgneoaaGreatDoor.Instr
open Go.Proofs.YtdljneclfgneoaaGreatDoor.Kind (Rd)

end Go.Proofs.YtdljneclfgneoaaGreatDoor.Body

/-
  BODY: what is got may be, and is put in no more bytes.
-/
namespace Go.Proofs.YtdljneclfgneoaaGreatDoor.Body
open Go.Proofs.YtdljneclfgneoaaGreatDoor.Leb Go.Proofs.YtdljneclfgneoaaGreatDoor.Instr
open Go.Proofs.YtdljneclfgneoaaGreatDoor.Kind (Rd)

section
variable {zs : List Int} (hz : ∀ c ∈ zs, 0 ≤ c ∧ c < 256)
include hz
end
end Go.Proofs.YtdljneclfgneoaaGreatDoor.Body

namespace Go.Proofs.YtdljneclfgneoaaGreatDoor.Mod
open Go.RowKit Go.Proofs.YtdljneclfgneoaaGreatDoor.Instr

def Lst.bare (l : Lst) : Lst := ⟨none, 0, l.t.bare⟩
def Fn.bare (f : Fn) : Fn := ⟨f.ty, f.lo, f.l.bare⟩
def Gl.bare (g : Gl) : Gl := ⟨g.mu, g.l.bare⟩
def El.bare (e : El) : El := ⟨e.l.bare, none, 0, e.fs⟩
def Da.bare (d : Da) : Da := ⟨d.l.bare, none, 0, d.bs⟩
/-- A module, but for where its parts lie. -/
def Md.bare (m : Md) : Md :=
  ⟨m.ty, m.im, m.fu.map Fn.bare, m.tb, m.me, m.gl.map Gl.bare, m.ex, m.st, m.sn, m.el.map El.bare, m.da.map Da.bare, ⟨none, 0⟩, ⟨none, 0⟩, ⟨none, 0⟩, ⟨none, 0⟩, ⟨none, 0⟩, ⟨none, 0⟩, ⟨none, 0⟩, ⟨none, 0⟩, ⟨none, 0⟩⟩
/-- Whether a statement holds, as a bool. -/
noncomputable def is (p : Prop) : Bool := @decide p (Classical.propDecidable p)
end Go.Proofs.YtdljneclfgneoaaGreatDoor.Mod


namespace Go.Proofs.YtdljneclfgneoaaGreatDoor.Body
open Go.RowKit Go.Proofs.YtdljneclfgneoaaGreatDoor.Instr
theorem isSome_doc {op : Int} : ((strOfNums (nameL op)).toList.isEmpty = true) ↔ nameL op = [] := by
  rw [ByteArray.toList_eq, strOfNums_data]
  simp
end Go.Proofs.YtdljneclfgneoaaGreatDoor.Body

namespace Go.Proofs.YtdljneclfgneoaaGreatDoor.Body
set_option linter.unusedVariables false
open Go.RowKit Go.Proofs.YtdljneclfgneoaaGreatDoor.Instr

theorem lists_kind (op : Int) : listsP op = decide (kindP op = 1) := by
  unfold listsP kindP
  (repeat' split) <;> simp_all <;> omega
theorem which_kind (op : Int) : whichP op = decide (kindP op = 2 ∨ kindP op = 3) := by
  unfold whichP kindP
  (repeat' split) <;> simp_all <;> omega
theorem stored_kind (op : Int) : storedP op = decide (kindP op = 5) := by
  unfold storedP kindP
  (repeat' split) <;> simp_all <;> omega
theorem four_kind {op : Int} : op = 14 ↔ kindP op = 4 := by
  unfold kindP
  (repeat' split) <;> simp_all <;> omega
theorem seven_kind {op : Int} : op = 65 ↔ kindP op = 7 := by
  unfold kindP
  (repeat' split) <;> simp_all <;> omega
theorem right_none (op res a b n : Int) (tl ln en : Nat) (ta la ea : Option Addr) (tc lc ec : Nat) (w : World) (h : nameL op = []) :
    Calls Tryz.prog 261 #[.agg #[.int .i64 op, .int .i64 res, .int .u32 a, .int .u32 b, .int .i32 n, .slice ta tl tc, .slice la ln lc, .slice ea en ec]] w fun e w' => e = .returned (.bool false) ∧ Below w.heap.size w w' := by
  have FA := hid (fun W => refAlign_any op W)
  have FN := hid (fun W => refName_any op W)
  have hs : strOfNums (nameL op) = ⟨#[]⟩ := by rw [h]; rfl
  rw [hs] at FN
  obtain ⟨al, hal⟩ : ∃ al, alignP op = al := ⟨_, rfl⟩
  obtain ⟨st, hst⟩ : ∃ st, storedP op = st := ⟨_, rfl⟩
  rw [hal, hst] at FA
  have M := hid ((fun o => (Below.refl w.heap.size w).alloc (Nat.le_refl _) o) (.cells #[.int .i64 op, .int .i64 res, .int .u32 a, .int .u32 b, .int .i32 n, .slice ta tl tc, .slice la ln lc, .slice ea en ec] 92))
  clear h hs hal hst
  go_enter Tryz.func261, Tryz.ntmps261
  go_wp2_with fail
  refine (FA.out _).mono ?_
  rintro e w1 ⟨rfl, rfl⟩
  go_wp2_with fail
  refine (FN.out _).mono ?_
  rintro e w1 ⟨rfl, hb1⟩
  have HB := hid (M.out.trans (hb1.mono M.out.size))
  clear hb1
  go_wp2
  go_ret
  exact ⟨rfl, HB.out⟩
end Go.Proofs.YtdljneclfgneoaaGreatDoor.Body

namespace Go.Proofs.YtdljneclfgneoaaGreatDoor.Body
open Go.RowKit
open Go.Proofs.YtdljneclfgneoaaGreatDoor.Kind (Rd)

/-- The reader in block k: over the bytes of v, in the state s. -/
structure RdIs (w : World) (k : Nat) (v : Value) (s : Rd) : Prop where
  c0 : w.cell? ⟨k, 0, none⟩ = some v
  c1 : w.cell? ⟨k, 1, none⟩ = some (.int .i64 s.1)
  c2 : w.cell? ⟨k, 2, none⟩ = some (.int .i64 s.2.1)
  c3 : w.cell? ⟨k, 3, none⟩ = some (.int .i64 s.2.2)
  f0 : w.frozen? ⟨k, 0, none⟩ = false
  f1 : w.frozen? ⟨k, 1, none⟩ = false
  f2 : w.frozen? ⟨k, 2, none⟩ = false
  f3 : w.frozen? ⟨k, 3, none⟩ = false
theorem RdIs.save {w w' : World} {k j : Nat} {v : Value} {s : Rd} (h : RdIs w k v s) (hb : Save j w w') (hj : k ≠ j) : RdIs w' k v s := by
  have hk := World.block_lt_of_cell? w _ h.c0
  exact ⟨hb.cell hj h.c0, hb.cell hj h.c1, hb.cell hj h.c2, hb.cell hj h.c3, hb.frozen hk hj h.f0, hb.frozen hk hj h.f1, hb.frozen hk hj h.f2, hb.frozen hk hj h.f3⟩

/-- What a method does: this it hands back, in this state it leaves the reader; nothing else turns. -/
def Does (k : Nat) (v : Value) (w : World) (r : Value) (s : Rd) (e : Ending) (w' : World) : Prop := e = .returned r ∧ RdIs w' k v s ∧ Save k w w'

end Go.Proofs.YtdljneclfgneoaaGreatDoor.Body

/-
  BODY: the reader's one, oneOf, newReader, by contract.
-/
namespace Go.Proofs.YtdljneclfgneoaaGreatDoor.Body
open Go.RowKit
open Go.Proofs.YtdljneclfgneoaaGreatDoor.Kind (Rd)

theorem Does.of_save {k : Nat} {v r : Value} {w w0 w' : World} {s : Rd} {e : Ending} (h0 : Save k w w0) (h : Does k v w0 r s e w') : Does k v w r s e w' := ⟨h.1, h.2.1, h0.trans h.2.2⟩

end Go.Proofs.YtdljneclfgneoaaGreatDoor.Body

namespace Go.Proofs.YtdljneclfgneoaaGreatDoor.Body
open Go.RowKit
open Go.Proofs.YtdljneclfgneoaaGreatDoor.Kind (Rd)

/-- The document's own reader in block k: over the bytes of v, in the state s, behind n instructions. -/
structure RcIs (w : World) (k : Nat) (v : Value) (s : Rd) (n : Int) : Prop extends RdIs w k v s where
  c4 : w.cell? ⟨k, 4, none⟩ = some (.int .i64 n)
  f4 : w.frozen? ⟨k, 4, none⟩ = false
theorem RcIs.save {w w' : World} {k j : Nat} {v : Value} {s : Rd} {n : Int} (h : RcIs w k v s n) (hb : Save j w w') (hj : k ≠ j) : RcIs w' k v s n :=
  ⟨h.toRdIs.save hb hj, hb.cell hj h.c4, hb.frozen (World.block_lt_of_cell? w _ h.c4) hj h.f4⟩
/-- One more. -/
theorem RcIs.count {w : World} {k : Nat} {v : Value} {s : Rd} {n : Int} (h : RcIs w k v s n) (m : Int) : RcIs (w.setCell ⟨k, 4, none⟩ (.int .i64 m)) k v s m := by
  refine ⟨⟨?_, ?_, ?_, ?_, ?_, ?_, ?_, ?_⟩, ?_, ?_⟩ <;> simp [go_sem, h.c0, h.c1, h.c2, h.c3, h.c4, h.f0, h.f1, h.f2, h.f3, h.f4]
end Go.Proofs.YtdljneclfgneoaaGreatDoor.Body

/-
  BODY: the document's own reader's next, number, signed, is, by contract. (tools/gen_bodyrefn.py)
-/
namespace Go.Proofs.YtdljneclfgneoaaGreatDoor.Body
open Go.RowKit Go.Proofs.YtdljneclfgneoaaGreatDoor.Leb
open Go.Proofs.YtdljneclfgneoaaGreatDoor.Kind (Rd)

end Go.Proofs.YtdljneclfgneoaaGreatDoor.Body

namespace Go.Proofs.YtdljneclfgneoaaGreatDoor.Body
open Go.RowKit Go.Proofs.YtdljneclfgneoaaGreatDoor.Instr
open Go.Proofs.YtdljneclfgneoaaGreatDoor.Kind (Rd)

end Go.Proofs.YtdljneclfgneoaaGreatDoor.Body

/-
  BODY: the reader's labels, by contract: new memory that holds them.
-/
namespace Go.Proofs.YtdljneclfgneoaaGreatDoor.Body
open Go.RowKit Go.Proofs.YtdljneclfgneoaaGreatDoor.Instr
open Go.Proofs.YtdljneclfgneoaaGreatDoor.Kind (Rd)

theorem RdIs.belowB {B : Nat} {w w' : World} {k : Nat} {v : Value} {s : Rd} (h : RdIs w k v s) (hb : Below B w w') (hk : k < B) : RdIs w' k v s :=
  ⟨(hb.cell hk).trans h.c0, (hb.cell hk).trans h.c1, (hb.cell hk).trans h.c2, (hb.cell hk).trans h.c3, (hb.frozen hk).trans h.f0, (hb.frozen hk).trans h.f1, (hb.frozen hk).trans h.f2, (hb.frozen hk).trans h.f3⟩
theorem save_under {k : Nat} {a b c : World} (h : Save k a b) (g : Below a.heap.size b c) : Save k a c :=
  ⟨g.os.trans h.os, g.tape.trans h.tape, g.output.trans h.output, Nat.le_trans h.size g.size, fun j hj hk => (g.block j hj).trans (h.block j hj hk)⟩

end Go.Proofs.YtdljneclfgneoaaGreatDoor.Body

namespace Go.Proofs.YtdljneclfgneoaaGreatDoor.Body
open Go.RowKit Go.Proofs.YtdljneclfgneoaaGreatDoor.Instr
open Go.Proofs.YtdljneclfgneoaaGreatDoor.Kind (Rd)

/-- An instruction in a block of its own, that can be written. -/
structure Bx (g : Nat) (x : Ix) (w : World) : Prop where
  at_ : At x g w
  f0 : w.frozen? ⟨g, 0, none⟩ = false
  f1 : w.frozen? ⟨g, 1, none⟩ = false
  f2 : w.frozen? ⟨g, 2, none⟩ = false
  f3 : w.frozen? ⟨g, 3, none⟩ = false
  f4 : w.frozen? ⟨g, 4, none⟩ = false
  f5 : w.frozen? ⟨g, 5, none⟩ = false
  f6 : w.frozen? ⟨g, 6, none⟩ = false
  f7 : w.frozen? ⟨g, 7, none⟩ = false
theorem Bx.save {g k : Nat} {x : Ix} {w w' : World} (h : Bx g x w) (hs : Save k w w') (hk : g ≠ k) : Bx g x w' := by
  have hl : g < w.heap.size := World.block_lt_of_cell? w _ h.at_.c0
  exact ⟨h.at_.save hs hk, hs.frozen hl hk h.f0, hs.frozen hl hk h.f1, hs.frozen hl hk h.f2, hs.frozen hl hk h.f3, hs.frozen hl hk h.f4, hs.frozen hl hk h.f5, hs.frozen hl hk h.f6, hs.frozen hl hk h.f7⟩
def zeroX : Ix := plainX 0 0 0 0 0 []
end Go.Proofs.YtdljneclfgneoaaGreatDoor.Body
