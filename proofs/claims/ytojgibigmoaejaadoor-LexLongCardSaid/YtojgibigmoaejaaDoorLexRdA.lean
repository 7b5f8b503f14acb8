/-
  LEX: the document's reader: its box; what its text begins with at its place: by contract.
-/
import Derived.Test.YtojgibigmoaejaaDoorLexRefC
import Derived.Test.YtojgibigmoaejaaDoorLexLoop
import Derived.Deep.Cut
namespace Go.Proofs.YtojgibigmoaejaaDoor.Lex
open Go.RowKit Go.Proofs.YtojgibigmoaejaaDoor.Utf
set_option linter.unusedSimpArgs false
set_option linter.unusedVariables false

theorem str_mid (zs : List Int) (i j : Nat) : (strOfNums zs).extract i (i + j) = strOfNums ((zs.drop i).take j) := by
  apply ByteArray.ext
  apply Array.toList_inj.1
  rw [ByteArray.data_extract, Array.toList_extract, strOfNums_data, strOfNums_data]
  simp
/-- The document's reader: its text, its place, where its word began, what is wrong, its words. -/
def RAt (w : World) (b : Nat) (zs : List Int) (p f e : Int) (ws : List Wd) : Prop :=
  ∃ v, w.heap[b]? = some (.cells #[.string (strOfNums zs), .int .i64 p, .int .i64 f, .int .i64 e, v] 41 (0, 0)) ∧ Stk.OwnR 31 4 (b + 1) w v (ws.map Wd.row)
theorem RAt.below {w w' : World} {b : Nat} {zs : List Int} {p f e : Int} {ws : List Wd} (h : RAt w b zs p f e ws) (hb : Below w.heap.size w w') : RAt w' b zs p f e ws := by
  obtain ⟨v, h1, h2⟩ := h
  exact ⟨v, (hb.block b (Array.getElem?_eq_some_iff.1 h1).1).trans h1, h2.below hb⟩
theorem RAt.lt {w : World} {b : Nat} {zs : List Int} {p f e : Int} {ws : List Wd} (h : RAt w b zs p f e ws) : b < w.heap.size := by
  obtain ⟨v, h1, _⟩ := h
  exact (Array.getElem?_eq_some_iff.1 h1).1
theorem RAt.c0 {w : World} {b : Nat} {zs : List Int} {p f e : Int} {ws : List Wd} (h : RAt w b zs p f e ws) : w.cell? ⟨b, 0, none⟩ = some (.string (strOfNums zs)) := by
  obtain ⟨v, h1, _⟩ := h; rw [Lib.cell_of_heap h1]; rfl
theorem RAt.c1 {w : World} {b : Nat} {zs : List Int} {p f e : Int} {ws : List Wd} (h : RAt w b zs p f e ws) : w.cell? ⟨b, 1, none⟩ = some (.int .i64 p) := by
  obtain ⟨v, h1, _⟩ := h; rw [Lib.cell_of_heap h1]; rfl
theorem RAt.c2 {w : World} {b : Nat} {zs : List Int} {p f e : Int} {ws : List Wd} (h : RAt w b zs p f e ws) : w.cell? ⟨b, 2, none⟩ = some (.int .i64 f) := by
  obtain ⟨v, h1, _⟩ := h; rw [Lib.cell_of_heap h1]; rfl
theorem RAt.c3 {w : World} {b : Nat} {zs : List Int} {p f e : Int} {ws : List Wd} (h : RAt w b zs p f e ws) : w.cell? ⟨b, 3, none⟩ = some (.int .i64 e) := by
  obtain ⟨v, h1, _⟩ := h; rw [Lib.cell_of_heap h1]; rfl
theorem RAt.c4 {w : World} {b : Nat} {zs : List Int} {p f e : Int} {ws : List Wd} (h : RAt w b zs p f e ws) : ∃ v, w.cell? ⟨b, 4, none⟩ = some v ∧ Stk.OwnR 31 4 (b + 1) w v (ws.map Wd.row) := by
  obtain ⟨v, h1, h2⟩ := h; exact ⟨v, by rw [Lib.cell_of_heap h1]; rfl, h2⟩
theorem RAt.frozen {w : World} {b : Nat} {zs : List Int} {p f e : Int} {ws : List Wd} (h : RAt w b zs p f e ws) (k : Nat) : w.frozen? ⟨b, k, none⟩ = false := by
  obtain ⟨v, h1, _⟩ := h; simp [World.frozen?, h1]
theorem RAt.set1 {w : World} {b : Nat} {zs : List Int} {p f e : Int} {ws : List Wd} (h : RAt w b zs p f e ws) (x : Int) : RAt (w.setCell ⟨b, 1, none⟩ (.int .i64 x)) b zs x f e ws := by
  obtain ⟨v, h1, h2⟩ := h; exact ⟨v, heap_setCell_same w b 1 _ _ _ h1, h2.setCell (Nat.lt_succ_self b) _⟩
theorem RAt.set2 {w : World} {b : Nat} {zs : List Int} {p f e : Int} {ws : List Wd} (h : RAt w b zs p f e ws) (x : Int) : RAt (w.setCell ⟨b, 2, none⟩ (.int .i64 x)) b zs p x e ws := by
  obtain ⟨v, h1, h2⟩ := h; exact ⟨v, heap_setCell_same w b 2 _ _ _ h1, h2.setCell (Nat.lt_succ_self b) _⟩
theorem RAt.set3 {w : World} {b : Nat} {zs : List Int} {p f e : Int} {ws : List Wd} (h : RAt w b zs p f e ws) (x : Int) : RAt (w.setCell ⟨b, 3, none⟩ (.int .i64 x)) b zs p f x ws := by
  obtain ⟨v, h1, h2⟩ := h; exact ⟨v, heap_setCell_same w b 3 _ _ _ h1, h2.setCell (Nat.lt_succ_self b) _⟩
theorem RAt.set4 {w : World} {b : Nat} {zs : List Int} {p f e : Int} {ws vs : List Wd} (h : RAt w b zs p f e ws) (x : Value) (hx : Stk.OwnR 31 4 (b + 1) w x (vs.map Wd.row)) : RAt (w.setCell ⟨b, 4, none⟩ x) b zs p f e vs := by
  obtain ⟨v, h1, h2⟩ := h; exact ⟨x, heap_setCell_same w b 4 _ _ _ h1, hx.setCell (Nat.lt_succ_self b) _⟩
theorem RAt.drew {w : World} {b : Nat} {zs : List Int} {p f e : Int} {ws : List Wd} (h : RAt w b zs p f e ws) (n : Nat) : RAt (w.drewN n) b zs p f e ws := h.below (drewL (Below.refl _ _) n)

set_option maxHeartbeats 2000000 in
set_option maxRecDepth 10000 in
theorem starts_any (b : Nat) (zs : List Int) (hb : ∀ z ∈ zs, 0 ≤ z ∧ z < 256) (hl : zs.length ≤ 100000) (p : Nat) (hp : p ≤ zs.length) (f e : Int) (ws : List Wd) (ys : List Int) (hy : ∀ z ∈ ys, 0 ≤ z ∧ z < 256) (hy9 : ys.length ≤ 9) (w : World) (h : RAt w b zs p f e ws) :
    Calls Tryd.prog 37 #[.pointer (some ⟨b, 0, none⟩), .string (strOfNums ys)] w fun e w' => e = .returned (.bool (decide ((zs.drop p).take ys.length = ys))) ∧ ∃ q, w' = w.drewN q := by
  have hs : (strOfNums zs).size = zs.length := strOfNums_size zs
  have hsy : (strOfNums ys).size = ys.length := strOfNums_size ys
  have c0 := h.c0
  have c1 := h.c1
  have HM := hid (str_mid zs p ys.length)
  have HE := hid (str_eq (xs := (zs.drop p).take ys.length) (ys := ys) (fun z hz => hb z (List.mem_of_mem_drop (List.mem_of_mem_take hz))) hy)
  have HS := hid (show zs.length - p < ys.length → decide ((zs.drop p).take ys.length = ys) = false from fun hlt => decide_eq_false fun hh => by
    have := congrArg List.length hh
    rw [List.length_take, List.length_drop] at this
    omega)
  generalize decide ((zs.drop p).take ys.length = ys) = q at *
  generalize strOfNums ((zs.drop p).take ys.length) = m at *
  generalize strOfNums zs = s at *
  generalize strOfNums ys = t at *
  generalize ys.length = yl at *
  have e1 : IntKind.i64.wrap ((zs.length : Int) - (p : Int)) = (zs.length : Int) - (p : Int) := by rw [IntKind.wrap_i64]; omega
  have e2 : IntKind.i64.wrap ((p : Int) + (yl : Int)) = (p : Int) + (yl : Int) := by rw [IntKind.wrap_i64]; omega
  clear h hb hy
  by_cases hlt : zs.length - p < yl
  · obtain rfl : q = false := HS.out hlt
    have hge : ((yl : Int) ≤ (zs.length : Int) - (p : Int)) = False := by simp only [eq_iff_iff, iff_false]; omega
    clear HS HM HE e2 hlt
    go_enter Tryd.func37, Tryd.ntmps37
    go_wp2
    go_quiet (fail)
    go_wp2
    go_ret
    exact ⟨rfl, _, rfl⟩
  · have hge : (zs.length : Int) - (p : Int) ≥ (yl : Int) := by omega
    have hge2 : (yl : Int) ≤ (zs.length : Int) - (p : Int) := by omega
    have hin : (p : Int) + (yl : Int) ≤ (zs.length : Int) := by omega
    have hin2 : (p : Int) ≤ (p : Int) + (yl : Int) := by omega
    have hin3 : 0 ≤ (p : Int) + (yl : Int) := by omega
    have htn : ((p : Int) + (yl : Int)).toNat = p + yl := by omega
    have hnl : p + yl ≤ zs.length := by omega
    clear HS hlt
    go_enter Tryd.func37, Tryd.ntmps37
    go_wp2
    go_quiet (fail)
    go_wp2
    go_ret
    exact ⟨by rw [← HE.out, ← HM.out]; rfl, _, rfl⟩
end Go.Proofs.YtojgibigmoaejaaDoor.Lex
