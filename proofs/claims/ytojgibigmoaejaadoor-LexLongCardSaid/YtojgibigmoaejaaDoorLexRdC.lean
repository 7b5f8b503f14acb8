/-
  LEX: the document's reader: a word is added: by contract.
-/
import Derived.Test.YtojgibigmoaejaaDoorLexRdB
import Derived.Deep.RegionLaw
namespace Go.Proofs.YtojgibigmoaejaaDoor.Lex
open Go.RowKit Go.Proofs.YtojgibigmoaejaaDoor.Utf
set_option linter.unusedSimpArgs false
set_option linter.unusedVariables false

theorem belowAlloc (w : World) (o : Obj) : Below w.heap.size w (w.alloc o) := (Below.refl _ _).alloc (Nat.le_refl _) o
theorem RAt.after {w w' : World} {b : Nat} {zs : List Int} {p f e : Int} {ws vs : List Wd} {x : Value} (h : RAt w b zs p f e ws) (hb : Below (b + 1) w w') (hx : Stk.OwnR 31 4 (b + 1) w' x (vs.map Wd.row)) : RAt (w'.setCell ⟨b, 4, none⟩ x) b zs p f e vs ∧ w'.frozen? ⟨b, 4, none⟩ = false ∧ w'.cell? ⟨b, 4, none⟩ = w.cell? ⟨b, 4, none⟩ := by
  obtain ⟨v, h1, h2⟩ := h
  have h1' := (hb.block b (Nat.lt_succ_self b)).trans h1
  refine ⟨⟨x, heap_setCell_same w' b 4 _ _ _ h1', hx.setCell (Nat.lt_succ_self b) _⟩, by simp [World.frozen?, h1'], by rw [Lib.cell_of_heap h1', Lib.cell_of_heap h1]⟩
set_option maxRecDepth 100000 in
set_option maxHeartbeats 4000000 in
theorem addR_any (b : Nat) (zs : List Int) (p f e : Int) (ws : List Wd) (hws : ws.length ≤ 1000000) (k n : Int) (s : ByteArray) (ss : List Int) (hss : s = strOfNums ss) (w : World) (h : RAt w b zs p f e ws) :
    Calls Tryd.prog 42 #[.pointer (some ⟨b, 0, none⟩), .int .i64 k, .int .i64 n, .string s] w fun o w' => o = .returned (.tuple #[]) ∧ Below b w w' ∧ RAt w' b zs p f e (ws ++ [⟨k, n, f, ss⟩]) := by
  obtain ⟨v, c4, hown⟩ := h.c4
  have H := hid h
  have c2 := h.c2
  have HO := hid hown
  have HLT := hid h.lt
  have HL := hid hws
  have HSS := hid hss
  have HNW := hid (World.news_of_block (heap_alloc_new w (.cells #[.int .i64 k, .int .i64 n, .int .i64 f, .string s] 31)))
  have HB2 := hid ((belowAlloc w (.cells #[.int .i64 k, .int .i64 n, .int .i64 f, .string s] 31)).trans (((Below.refl w.heap.size (w.alloc (.cells #[.int .i64 k, .int .i64 n, .int .i64 f, .string s] 31))).drew)))
  have c4a := keep (belowAlloc w (.cells #[.int .i64 k, .int .i64 n, .int .i64 f, .string s] 31)) c4
  clear h hown hws hss
  go_enter Tryd.func42, Tryd.ntmps42
  go_wp2
  go_region_law (first
    | (refine Stk.step_rows infoW rfl (by omega) (by omega) Tryd.underlying23 rfl (.tmp 12) (.tmp 21) rfl (base := b + 1) (w0 := w) (xs := ws.map Wd.row) [[.int .i64 k, .int .i64 n, .int .i64 f, .string s]] rfl ((HO.out.below (belowAlloc w _)).below ((Below.refl _ _).drew)) (HB2.out.mono (by have := HLT.out; omega)) (by have := HLT.out; simp; omega) ⟨w.heap.size, 0, none⟩ 1 1 rfl rfl (by simp) (by simpa using HNW.out) (by simp [Value.oneCell']) (by have := HL.out; simp; omega) ?_
       intro v3 u3 ho hb hsz hgrow
       have ho' : Stk.OwnR 31 4 (b + 1) u3 v3 ((ws ++ [(⟨k, n, f, ss⟩ : Wd)]).map Wd.row) := by rw [List.map_append]; rw [HSS.out] at ho; exact ho
       obtain ⟨a3, cap3, hv3⟩ := OwnW.slice4 (base := b + 1) (w := u3) (v := v3) (l := ws ++ [(⟨k, n, f, ss⟩ : Wd)]) ho'
       rw [show (ws ++ [(⟨k, n, f, ss⟩ : Wd)]).length = ws.length + 1 by simp] at hv3
       subst hv3
       obtain ⟨hr, f4, g4⟩ := H.out.after hb ho'
       rw [c4] at g4
       have HR := hid hr
       have HB3 := hid (hb.mono (Nat.le_succ b))
       clear ho hb hsz hgrow ho' hr))
  all_goals try go_wp2
  all_goals go_end0
  all_goals exact ⟨rfl, HB3.out.setCell (p := ⟨b, 4, none⟩) (Nat.le_refl _) _, HR.out⟩
end Go.Proofs.YtojgibigmoaejaaDoor.Lex
