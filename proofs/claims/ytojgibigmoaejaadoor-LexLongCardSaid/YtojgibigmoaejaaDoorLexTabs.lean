/-
  LEX: what the rows list is what the walks ask: the lists of keys and signs, the two tables of unicode/utf8.
-/
import Derived.Test.YtojgibigmoaejaaDoorLexLex
import Derived.Test.YtojgibigmoaejaaDoorRows
import Derived.PinnedBridge
import Derived.ProofKit
import Derived.OpenShut
import Derived.ShutString
import Derived.ChangeOld
import Derived.Below
import Derived.SizedLaws
import Derived.Lib.LaidU8
import Derived.Lay
namespace Go.Proofs.YtojgibigmoaejaaDoor
open Go.RowKit Go.Lib
set_option linter.unusedSimpArgs false

theorem ownK : ownKnob Tryd.prog.godebug = none := by kernel_rfl
theorem laidOutK : laidOutB Tryd.prog = true := by kernel_rfl
theorem u8Extra : U8Extra Tryd.prog Tryd.lays260_ren := ⟨by kernel_rfl, by kernel_rfl, by kernel_rfl, by kernel_rfl, by kernel_rfl, by kernel_rfl, by kernel_rfl⟩
theorem accept_eq : (Rows.laid_unicode_utf8_acceptRanges : DataW Unit) = acceptData := by kernel_rfl

def strsData (l : List (List Int)) : DataW Unit := .slice (l.map fun s => .lit (.string (s.map fun z => UInt8.ofNat z.toNat))) []
theorem keys_eq : (Rows.laid_gimlet_lex_keys : DataW Unit) = strsData Lex.keysL := by kernel_rfl
theorem signs_eq : (Rows.laid_gimlet_lex_signs : DataW Unit) = strsData Lex.signsL := by kernel_rfl
theorem strSlice_of_reads {P : Program} {w : World} {name : String} {g : Nat} {t e : TypeId} {l : List (List Int)} (hn : P.globalNamed name = some g) (hy : (P.globals[g]?).map (·.type) = some t)
    (ht : P.underlying t = some (.slice e)) (he : P.underlying e = some .string) (hc : P.cellsOf e = 1) (hl : 0 < l.length) (h : VarReads P w name (strsData l)) :
    ∃ b off c, w.cell? ⟨g, 0, none⟩ = some (.slice (some ⟨b, off, none⟩) l.length c) ∧ ∀ j, j < l.length → w.cell? ⟨b, off + j, none⟩ = some (.string (strOfNums (l.getD j []))) := by
  obtain ⟨g', t', cs, fuel, p, hg, hty, hvar, hd⟩ := h
  obtain rfl := Option.some.inj (hn.symm.trans hg)
  obtain rfl := Option.some.inj (hy.symm.trans hty)
  rcases DataW.trod_slice ht hd with ⟨_, hx⟩ | ⟨a, len, cap, el, rs, m, rfl, hcs, hx, _, hlc, _, hel, helem, hsp, _⟩
  · cases hx
  have e0 := congrArg Prod.fst hx
  simp only [strsData, DataW.slice.injEq] at e0
  obtain ⟨eE, eR⟩ := e0
  have hlen : len = l.length := by
    have := congrArg List.length eE
    simp at this
    omega
  have hcell : ∀ i, i < l.length → w.cell? (a.add i) = some (.string (strOfNums (l.getD i []))) := by
    intro i hi
    have h1 := helem i (by omega)
    rw [hc] at h1
    obtain ⟨b, hb⟩ : ∃ b, el[i]? = some b := ⟨el[i]'(by omega), List.getElem?_eq_getElem (by omega)⟩
    rw [hb] at h1
    obtain ⟨ce, hce, hte⟩ := Option.bind_eq_some_iff.1 h1
    obtain ⟨z, hz, hbz, _⟩ := DataW.trod_string he hte
    have hb1 : b.1 = .lit (.string ((l.getD i []).map fun z => UInt8.ofNat z.toNat)) := by
      have := congrArg (·[i]?) eE
      simp [hb, hi, List.getD] at this
      have e2 : l.getD i [] = l[i] := by simp [List.getD, List.getElem?_eq_getElem hi]
      rw [e2]
      exact this.symm
    rw [hbz] at hb1
    simp only [DataW.lit.injEq, Lit.string.injEq] at hb1
    obtain ⟨_, _, hcc⟩ := World.cells?_some hce
    have := hcc 0 (by omega)
    rw [hz] at this
    simp only [Nat.mul_one] at this
    have e1 : (a.add i).add 0 = a.add i := by simp [Addr.add]
    rw [e1] at this
    rw [this]
    have hs : z = strOfNums (l.getD i []) := by
      apply ByteArray.ext
      apply Array.toList_inj.1
      rw [hb1, strOfNums_data]
    rw [hs]
    rfl
  obtain ⟨R, o, sR⟩ := a
  obtain rfl : sR = none := by
    have h00 := hcell 0 hl
    have : (Addr.add ⟨R, o, sR⟩ 0) = ⟨R, o, sR⟩ := by simp [Addr.add]
    rw [this] at h00
    exact Go.Proofs.cell_spot h00
  refine ⟨R, o, cap, ?_, fun j hj => ?_⟩
  · rw [World.var?_cell hg hvar 0, ← Array.getElem?_toList, hcs, hlen]
    rfl
  · have := hcell j hj
    rwa [Addr.add_lit] at this
theorem words_of {W : World} {l : List (String × DataW Unit)} (hk : ("gimlet/lex.keys", Rows.laid_gimlet_lex_keys) ∈ l) (hs : ("gimlet/lex.signs", Rows.laid_gimlet_lex_signs) ∈ l) (hL : laidMet Tryd.prog l W) : Lex.Words W := by
  have h1 := Lib.laidMet.reads hL hk
  have h2 := Lib.laidMet.reads hL hs
  rw [keys_eq] at h1
  rw [signs_eq] at h2
  exact ⟨strSlice_of_reads (by kernel_rfl) (by kernel_rfl) Tryd.underlying51 Tryd.underlying9 (by kernel_rfl) (by decide) h1, strSlice_of_reads (by kernel_rfl) (by kernel_rfl) Tryd.underlying51 Tryd.underlying9 (by kernel_rfl) (by decide) h2⟩
def laidX : List (String × DataW Unit) := [("unicode/utf8.acceptRanges", Rows.laid_unicode_utf8_acceptRanges), ("gimlet/lex.signs", Rows.laid_gimlet_lex_signs), ("gimlet/lex.keys", Rows.laid_gimlet_lex_keys), ("unicode/utf8.first", Rows.laid_unicode_utf8_first)]
theorem tabs8_of {W : World} {l : List (String × DataW Unit)} (hf : ("unicode/utf8.first", Rows.laid_unicode_utf8_first) ∈ l) (ha : ("unicode/utf8.acceptRanges", Rows.laid_unicode_utf8_acceptRanges) ∈ l) (hL : laidMet Tryd.prog l W) : Lex.Tabs8 W := by
  refine utf8Tabs_of_reads (ρ := Tryd.lays260_ren) Tryd.lays260 u8Extra (Pinned.utf8First_eq ▸ Lib.laidMet.reads hL hf) ?_
  have h := Lib.laidMet.reads hL ha
  rw [accept_eq] at h
  exact h
theorem tabs_X {W : World} (hL : laidMet Tryd.prog laidX W) : Lex.Tabs8 W ∧ Lex.Words W :=
  ⟨tabs8_of (.tail _ (.tail _ (.tail _ (.head _)))) (.head _) hL, words_of (.tail _ (.tail _ (.head _))) (.tail _ (.head _)) hL⟩
end Go.Proofs.YtojgibigmoaejaaDoor
