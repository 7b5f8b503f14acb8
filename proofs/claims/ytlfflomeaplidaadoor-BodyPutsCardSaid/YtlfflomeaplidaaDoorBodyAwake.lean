/-
  BODY: lists written out; what the statements' own small function 'awake' answers: true.
-/
import Derived.Test.YtlfflomeaplidaaDoorBodyPutC
import Derived.Test.YtlfflomeaplidaaDoorBodyGet
import Derived.Test.YtlfflomeaplidaaDoorBodySame
import Derived.Test.YtlfflomeaplidaaDoorKitBytes
namespace Go.Proofs.YtlfflomeaplidaaDoor.Body
open Go.RowKit Go.Proofs.YtlfflomeaplidaaDoor.Instr

def ix (op res a n : Int) : Ix := ⟨op, res, a, 0, n, [], none, 0, none, 0, 0, none, 0, 0⟩
theorem ok_ix (op res a n : Int) (h0 : -9223372036854775808 ≤ op ∧ op ≤ 9223372036854775807) (h1 : -9223372036854775808 ≤ res ∧ res ≤ 9223372036854775807) (h2 : 0 ≤ a ∧ a < 4294967296) (h3 : -2147483648 ≤ n ∧ n < 2147483648) : (ix op res a n).ok := by
  constructor <;> simp [ix] <;> omega
theorem no_list (n₀ : Nat) (w : World) (a : Option Addr) : ListAt n₀ w a 0 .nil := ⟨rfl, .inl rfl⟩
/-- A list of one, in new memory. -/
theorem list_new (W : World) (x : Ix) (l e : Il) (hx : x.ok) (ht : TagsAt W.heap.size W x.ta x.tags) (hl : ListAt W.heap.size W x.la x.ln l) (he : ListAt W.heap.size W x.ea x.en e) :
    ListAt (W.alloc (.cells x.vals 61)).heap.size (W.alloc (.cells x.vals 61)) (some ⟨W.heap.size, 0, none⟩) 1 (.cons x l e .nil) := by
  have hb : Below W.heap.size W (W.alloc (.cells x.vals 61)) := thenA (Below.refl _ _) _
  have h := At.made x W
  refine ⟨rfl, .inr ⟨_, 0, rfl, by simp, hx, ⟨h.c0, h.c1, h.c2, h.c3, h.c4, h.c5, h.c6, h.c7⟩, (ht.below hb).more hb.size, hl.on hb, he.on hb, trivial⟩⟩
/-- A list of two without lists, in new memory. -/
theorem list_two (W : World) (x y : Ix) (hx : x.ok) (hy : y.ok) (hx1 : x.tags = []) (hy1 : y.tags = []) (hx2 : x.ln = 0) (hx3 : x.en = 0) (hy2 : y.ln = 0) (hy3 : y.en = 0) :
    ListAt (W.alloc (.cells (x.vals ++ y.vals) 61)).heap.size (W.alloc (.cells (x.vals ++ y.vals) 61)) (some ⟨W.heap.size, 0, none⟩) 2 (.cons x .nil .nil (.cons y .nil .nil .nil)) := by
  refine ⟨rfl, .inr ⟨_, 0, rfl, ?_⟩⟩
  refine ⟨by simp, hx, ?_, .inl hx1, ⟨hx2.symm, .inl rfl⟩, ⟨hx3.symm, .inl rfl⟩, by simp, hy, ?_, .inl hy1, ⟨hy2.symm, .inl rfl⟩, ⟨hy3.symm, .inl rfl⟩, trivial⟩
  · simp [Ix.vals, go_sem]
  · simp [Ix.vals, go_sem]
theorem bytes_made (w : World) (zs : List Int) (hz : ∀ z ∈ zs, 0 ≤ z ∧ z < 256) (hl : zs.length ≤ 140737488351232) (e : TypeId) (cs : Array Value) (hc : cs = (zs.map (Value.int .u8)).toArray) (g : Nat) (hg : g = w.heap.size) : Bytes (w.alloc (.cells cs e)) (some ⟨g, 0, none⟩) zs := by
  subst hc
  subst hg
  refine ⟨hz, hl, .inr ⟨w.heap.size, 0, rfl, fun i hi => ?_⟩⟩
  simp [go_sem, hi]
theorem alloc_below (w : World) (o : Obj) : Below w.heap.size w (w.alloc o) := (Below.refl _ _).alloc (Nat.le_refl _) o
def constDrop : Il := .cons (ix 65 0 0 (-1)) .nil .nil (.cons (ix 26 0 0 0) .nil .nil .nil)
def ifNone : Il := .cons (ix 4 0 0 0) .nil .nil .nil
theorem put_cd : checkP constDrop = 0 ∧ putB constDrop = [65, 127, 26, 11] := by constructor <;> decide +kernel
theorem get_if : getQ [4, 64, 5, 11, 11] 0 = (5, (5, 0, 0), ifNone) := by rfl
set_option maxRecDepth 100000 in
set_option maxHeartbeats 1600000 in
theorem awake_any (w : World) (hN : Nams w) : Calls Tryd.prog 14 #[] w fun e w' => e = .returned (.bool true) ∧ Below w.heap.size w w' := by
  have L0 := list_two w (ix 65 0 0 (-1)) (ix 26 0 0 0) (ok_ix _ _ _ _ (by omega) (by omega) (by omega) (by omega)) (ok_ix _ _ _ _ (by omega) (by omega) (by omega) (by omega)) rfl rfl rfl rfl rfl rfl
  have P0 := Put_any constDrop _ 2 2 _ L0 (by omega) (hN.below (alloc_below w _)) (by decide) (by decide +kernel)
  rw [put_cd.1, put_cd.2] at P0
  simp only [Ix.vals, ix, List.append_toArray, List.cons_append, List.nil_append, List.length_nil] at P0
  have P1 := hid P0
  clear L0 P0
  go_enter Tryd.func14, Tryd.ntmps14
  go_wp2_with fail
  refine P1.out.mono ?_
  clear P1
  rintro e w1 ⟨v, rfl, ho, hb1⟩
  obtain ⟨a1, c1, rfl⟩ := ho.sliceN (n := 4) rfl
  have hA := (alloc_below w _).trans (hb1.mono (by simp))
  have hx := ho.bytes (by decide) (by decide)
  have hN1 := hid (hN.below hA)
  have HA := hid hA
  have HX := hid hx
  have G1 := hid (Get_any _ 5 5 [4, 64, 5, 11, 11] 0 _ rfl (bytes_made w1 _ (by decide) (by decide) 5 _ rfl _ rfl) (hN1.out.below (alloc_below w1 _)))
  clear hb1 ho hA hx
  go_wp2_with fail
  refine G1.out.mono ?_
  clear G1
  rw [get_if]
  rintro e w2 ⟨a2, n2, c2, t2, rfl, hb2, hF, hbare⟩
  have hn2 : n2 = 1 := by rw [← hF.lst.1, ← bare_len, hbare]; rfl
  subst hn2
  have hA := (HA.out.trans ((alloc_below w1 _).mono HA.out.size)).trans (hb2.mono (by have := HA.out.size; simp; omega))
  have HA := hid hA
  have HX := hid ((HX.out.alloc _).below hb2)
  have HF := hid hF.lst
  have HB := hid hbare
  have k0 : (w2.alloc (.cells #[.int .i64 0, .int .i64 0] 69)).cell? ⟨w2.heap.size, 0, none⟩ = some (.int .i64 0) := by go_simp
  have K0 := hid k0
  have S1 := hid (fun cs (hc : cs = (([65, 127, 26, 11] : List Int).map (Value.int .u8)).toArray) => SameBytes_yes a1 _ 4 c1 4 4 [65, 127, 26, 11] _ rfl rfl ((HX.out.alloc (.cells #[.int .i64 0, .int .i64 0] 69)).alloc (.cells cs 5)) (bytes_made (w2.alloc (.cells #[.int .i64 0, .int .i64 0] 69)) _ (by decide) (by decide) 5 cs hc (w2.heap.size + 1) (by simp)))
  clear hb2 hA hF hbare k0 hN1
  go_wp2_with fail
  refine (S1.out #[.int .u8 65, .int .u8 127, .int .u8 26, .int .u8 11] rfl).mono ?_
  clear S1 HX
  rintro e w9 ⟨rfl, rfl⟩
  obtain ⟨w3, hw3⟩ : ∃ w3, (w2.alloc (.cells #[.int .i64 0, .int .i64 0] 69)).alloc (.cells #[.int .u8 65, .int .u8 127, .int .u8 26, .int .u8 11] 5) = w3 := ⟨_, rfl⟩
  rw [hw3]
  have hs3 : Below w2.heap.size w2 w3 := by rw [← hw3]; exact thenA (thenA (Below.refl _ _) _) _
  have HF3 := hid (HF.out.on hs3)
  have HA3 := hid (HA.out.trans (hs3.mono HA.out.size))
  have k0 : w3.cell? ⟨w2.heap.size, 0, none⟩ = some (.int .i64 0) := by rw [← hw3]; exact keepA K0.out _
  have L1 := list_new w3 (ix 4 0 0 0) .nil .nil (ok_ix _ _ _ _ (by omega) (by omega) (by omega) (by omega)) (.inl rfl) (no_list _ _ _) (no_list _ _ _)
  have S2 := SameInstrs_yes (w3.alloc (.cells (ix 4 0 0 0).vals 61)).heap.size t2.count t2 ifNone a2 _ 1 c2 1 _ (Nat.le_refl _) (HF3.out.on (alloc_below w3 _)) L1 (by rw [HB.out]; rfl) (Nat.le_refl _) (by omega)
  simp only [Ix.vals, ix, List.length_nil] at S2
  have S3 := hid S2
  clear hw3 hs3 L1 S2 HF HA K0
  go_wp2_with fail
  refine S3.out.mono ?_
  clear S3
  rintro e w5 ⟨rfl, hb5⟩
  have HA5 := hid ((thenA HA3.out _).trans (hb5.mono (Nat.le_trans HA3.out.size (by simp))))
  clear hb5 k0
  go_wp2
  go_ret
  exact ⟨rfl, HA5.out⟩
end Go.Proofs.YtlfflomeaplidaaDoor.Body
