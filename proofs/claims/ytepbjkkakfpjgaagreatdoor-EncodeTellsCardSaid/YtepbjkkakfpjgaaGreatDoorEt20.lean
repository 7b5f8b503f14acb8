import Derived.Test.YtepbjkkakfpjgaaGreatDoorEt19
import Derived.Test.YtepbjkkakfpjgaaGreatDoorEt17
import Derived.Test.YtepbjkkakfpjgaaGreatDoorEt16
import Derived.Test.YtepbjkkakfpjgaaGreatDoorEt06
import Derived.Test.YtepbjkkakfpjgaaGreatDoorEt01
import Derived.Lib.SlBytesConst
import Derived.Deep.AppendLies
import Derived.Laws.Tables
import Derived.Laws.AppendOwnNone
import Derived.Deep.WholeRow
import Derived.RegionTactic
import Derived.BigRegion
import Derived.Deep.QuietTactic
import Derived.BigQuiet
namespace Go.Proofs.YtepbjkkakfpjgaaGreatDoor.Mod
open Go.RowKit Go.Proofs.YtepbjkkakfpjgaaGreatDoor.Instr
theorem has_codes (m : Md) (e : Int) : m.has e = m.codes.any (fun l => checkP l.t == e) := by
 unfold Md.has Md.codes
 simp [List.any_append, List.any_map, Function.comp_def]
theorem has_many (m : Md) : m.has 141 = decide (codeP m.codes = 141) := by
 rw [has_codes]
 by_cases h : codeP m.codes = 141
 ·obtain ⟨y, hy, h1⟩ := codeP_of_many _ h
  rw [List.any_eq_true.2 ⟨y, hy, by simp [h1]⟩]; simp [h]
 ·have : (m.codes.any fun l => checkP l.t == 141) = false := by
   rw [List.any_eq_false]
   intro y hy hh
   exact h (codeP_many _ y hy (by simpa using hh))
  rw [this]; simp [h]
theorem has_two (m : Md) (h : codeP m.codes ≠ 141) : m.has 2 = decide (codeP m.codes = 2) := by
 rw [has_codes]
 by_cases h0 : codeP m.codes = 0
 ·have hz := (codeP_zero _).1 h0
  have : (m.codes.any fun l => checkP l.t == 2) = false := by
   rw [List.any_eq_false]
   intro y hy hh
   rw [hz y hy] at hh
   simp at hh
  rw [this]; simp [h0]
 ·have h2 : codeP m.codes = 2 := by have := codeP_cases m.codes; omega
  have : (m.codes.any fun l => checkP l.t == 2) = true := by
   cases hh : (m.codes.any fun l => checkP l.t == 2)
   ·exfalso
    refine h0 ((codeP_zero _).2 fun y hy => ?_)
    rw [List.any_eq_false] at hh
    have n2 := hh y hy
    have n1 : checkP y.t ≠ 141 := fun e => h (codeP_many _ y hy e)
    have := checkP_cases y.t
    have n3 : checkP y.t ≠ 2 := by simpa using n2
    omega
   ·rfl
  rw [this]; simp [h2]
theorem names_any (m : Md) (p : ByteArray → Bool) : m.names.any p = m.anyName p := by
 unfold Md.names Md.anyName twoR
 rw [List.any_append, List.any_flatMap, List.any_map]
 simp [Function.comp_def]
def docCheck (m : Md) : Int := if m.many = true then 141 else if m.long = true then 3 else if m.numbers = true then (if m.rest = true then 0 else 2) else 2
theorem check_doc (m : Md) : docCheck m = m.check := by
 unfold docCheck Md.check Md.many Md.long
 rw [has_many, names_any]
 by_cases h1 : m.crowded = true
 ·simp [h1]
 by_cases h2 : codeP m.codes = 141
 ·simp [h2]
 have h1' : m.crowded = false := by simpa using h1
 rw [h1', decide_eq_false h2]
 simp only [Bool.or_self, Bool.false_eq_true, if_false, h2]
 by_cases h3 : m.anyName longS = true
 ·simp [h3]
 have h3' : m.anyName longS = false := by simpa using h3
 by_cases h4 : m.heavy = true
 ·simp [h4]
 have h4' : m.heavy = false := by simpa using h4
 rw [h3', h4']
 simp only [Bool.or_self, Bool.false_eq_true, if_false]
 unfold Md.numbers Md.rest Md.wrong
 rw [has_two m h2, names_any]
 by_cases h5 : codeP m.codes = 2
 ·simp [h5]
 rw [decide_eq_false h5, if_neg h5]
 by_cases h6 : m.sn = 0
 ·rw [decide_eq_true h6]
  cases m.anyName noText <;> cases m.ty.any wrongT <;> cases m.im.any wrongI <;> cases m.fu.any wrongF <;> cases m.ex.any wrongE <;> cases m.tb.any (beyond 1048576) <;> cases m.me.any (beyond 65536) <;> cases m.st <;> simp [h6]
 ·rw [decide_eq_false h6]
  cases m.anyName noText <;> cases m.ty.any wrongT <;> cases m.im.any wrongI <;> cases m.fu.any wrongF <;> cases m.ex.any wrongE <;> cases m.tb.any (beyond 1048576) <;> cases m.me.any (beyond 65536) <;> cases m.st <;> simp [h6]
set_option maxHeartbeats 4000000 in
set_option maxRecDepth 100000 in
theorem refChk_any (m : Md) (w : World) (hm : ModAt w.heap.size w m) (hf : m.few) (hna : ∀ s ∈ m.names, s.size ≤ 1000000) :
  Calls Tryz.prog 24 #[.agg m.v] w fun x w' => x = .returned (.int .i64 m.check) ∧ Below w.heap.size w w' := by
 have hb0 := (Below.refl w.heap.size w).alloc (Nat.le_refl _) (.cells m.v 32)
 have HB := hid hb0
 have HM := hid (hm.on hb0)
 have HX := hid (BoxAt.made w m.v 32)
 have HD := hid (check_doc m)
 have HDD : Hid (docCheck m = if m.many = true then 141 else if m.long = true then 3 else if m.numbers = true then (if m.rest = true then 0 else 2) else 2) := rfl
 have K1 := hid (fun (W : World) (h : ModAt W.heap.size W m) => refMany_any m W h hf)
 have K2 := hid (fun (W : World) (h : ModAt W.heap.size W m) => refLong_any m W h hf)
 have K3 := hid (fun (W : World) (h : ModAt W.heap.size W m) => refNumbers_any m W h hf.fit)
 have K4 := hid (fun (W : World) (h : ModAt W.heap.size W m) => refRest_any m W h hf hna)
 have X0 := (BoxAt.made w m.v 32)
 have C := hid (K1.out _ HM.out)
 obtain ⟨q1, h1⟩ : ∃ q, m.many = q := ⟨_, rfl⟩
 obtain ⟨q2, h2⟩ : ∃ q, m.long = q := ⟨_, rfl⟩
 obtain ⟨q3, h3⟩ : ∃ q, m.numbers = q := ⟨_, rfl⟩
 obtain ⟨q4, h4⟩ : ∃ q, m.rest = q := ⟨_, rfl⟩
 obtain ⟨z, hz⟩ : ∃ z, m.check = z := ⟨_, rfl⟩
 rw [hz]
 rw [h1, h2, h3, h4] at HDD
 rw [hz] at HD
 rw [h1] at C
 rw [h2] at K2
 rw [h3] at K3
 rw [h4] at K4
 unfold Md.v at HB HX HM X0 C K2 K3 K4 ⊢
 clear hm hf hb0 hna K1 h1 h2 h3 h4 hz
 obtain ⟨x0, x1, x2, x3, x4, x5, x6, x7, x8, x9, x10⟩ := Mod.cells11 X0
 clear X0
 go_enter Tryz.func24, Tryz.ntmps24
 cases q1 with
 | true =>
  go_wp2_with fail
  refine C.out.mono ?_
  rintro e1 w1 ⟨rfl, hb1⟩
  have HB1 := hid (HB.out.trans (hb1.mono HB.out.size))
  have HM1 := hid (HM.out.on hb1)
  have HX1 := hid (HX.out.keep hb1)
  clear C hb1 x0 x1 x2 x3 x4 x5 x6 x7 x8 x9 x10
  have HE := hid (show z = 141 by rw [← HD.out, HDD.out]; rfl)
  go_wp2
  go_ret
  exact ⟨ret_int HE.out.symm, HB1.out⟩
 | false =>
  go_wp2_with fail
  refine C.out.mono ?_
  rintro e1 w1 ⟨rfl, hb1⟩
  have HB1 := hid (HB.out.trans (hb1.mono HB.out.size))
  have HM1 := hid (HM.out.on hb1)
  have HX1 := hid (HX.out.keep hb1)
  clear C hb1 x0 x1 x2 x3 x4 x5 x6 x7 x8 x9 x10
  have C := hid (K2.out _ HM1.out)
  obtain ⟨x0, x1, x2, x3, x4, x5, x6, x7, x8, x9, x10⟩ := Mod.cells11 HX1.out
  cases q2 with
  | true =>
   go_wp2_with fail
   refine C.out.mono ?_
   rintro e2 w2 ⟨rfl, hb2⟩
   have HB2 := hid (HB1.out.trans (hb2.mono HB1.out.size))
   have HM2 := hid (HM1.out.on hb2)
   have HX2 := hid (HX1.out.keep hb2)
   clear C hb2 x0 x1 x2 x3 x4 x5 x6 x7 x8 x9 x10
   have HE := hid (show z = 3 by rw [← HD.out, HDD.out]; rfl)
   go_wp2
   go_ret
   exact ⟨ret_int HE.out.symm, HB2.out⟩
  | false =>
   go_wp2_with fail
   refine C.out.mono ?_
   rintro e2 w2 ⟨rfl, hb2⟩
   have HB2 := hid (HB1.out.trans (hb2.mono HB1.out.size))
   have HM2 := hid (HM1.out.on hb2)
   have HX2 := hid (HX1.out.keep hb2)
   clear C hb2 x0 x1 x2 x3 x4 x5 x6 x7 x8 x9 x10
   have C := hid (K3.out _ HM2.out)
   obtain ⟨x0, x1, x2, x3, x4, x5, x6, x7, x8, x9, x10⟩ := Mod.cells11 HX2.out
   cases q3 with
   | false =>
    go_wp2_with fail
    refine C.out.mono ?_
    rintro e3 w3 ⟨rfl, hb3⟩
    have HB3 := hid (HB2.out.trans (hb3.mono HB2.out.size))
    have HM3 := hid (HM2.out.on hb3)
    have HX3 := hid (HX2.out.keep hb3)
    clear C hb3 x0 x1 x2 x3 x4 x5 x6 x7 x8 x9 x10
    have HE := hid (show z = 2 by rw [← HD.out, HDD.out]; rfl)
    go_wp2
    go_ret
    exact ⟨ret_int HE.out.symm, HB3.out⟩
   | true =>
    go_wp2_with fail
    refine C.out.mono ?_
    rintro e3 w3 ⟨rfl, hb3⟩
    have HB3 := hid (HB2.out.trans (hb3.mono HB2.out.size))
    have HM3 := hid (HM2.out.on hb3)
    have HX3 := hid (HX2.out.keep hb3)
    clear C hb3 x0 x1 x2 x3 x4 x5 x6 x7 x8 x9 x10
    have C := hid (K4.out _ HM3.out)
    obtain ⟨x0, x1, x2, x3, x4, x5, x6, x7, x8, x9, x10⟩ := Mod.cells11 HX3.out
    cases q4 with
    | false =>
     go_wp2_with fail
     refine C.out.mono ?_
     rintro e4 w4 ⟨rfl, hb4⟩
     have HB4 := hid (HB3.out.trans (hb4.mono HB3.out.size))
     have HM4 := hid (HM3.out.on hb4)
     have HX4 := hid (HX3.out.keep hb4)
     clear C hb4 x0 x1 x2 x3 x4 x5 x6 x7 x8 x9 x10
     have HE := hid (show z = 2 by rw [← HD.out, HDD.out]; rfl)
     go_wp2
     go_ret
     exact ⟨ret_int HE.out.symm, HB4.out⟩
    | true =>
     go_wp2_with fail
     refine C.out.mono ?_
     rintro e4 w4 ⟨rfl, hb4⟩
     have HB4 := hid (HB3.out.trans (hb4.mono HB3.out.size))
     have HM4 := hid (HM3.out.on hb4)
     have HX4 := hid (HX3.out.keep hb4)
     clear C hb4 x0 x1 x2 x3 x4 x5 x6 x7 x8 x9 x10
     have HE := hid (show z = 0 by rw [← HD.out, HDD.out]; rfl)
     go_wp2
     go_ret
     exact ⟨ret_int HE.out.symm, HB4.out⟩
end Go.Proofs.YtepbjkkakfpjgaaGreatDoor.Mod
namespace Go.Proofs.YtepbjkkakfpjgaaGreatDoor.Enc
open Go.RowKit Leb Go.Proofs.YtepbjkkakfpjgaaGreatDoor.Instr Go.Proofs.YtepbjkkakfpjgaaGreatDoor.Mod
open Go.Proofs.YtepbjkkakfpjgaaGreatDoor.Body (encL codeL PutP)
set_option linter.unusedVariables false
set_option linter.unusedSimpArgs false
theorem eq0 (n : Nat) : ((n : Int) == 0) = decide (n = 0) := by
 by_cases h : n = 0
 ·subst h; rfl
 ·have h1 : ¬ ((n : Int) = 0) := by omega
  simp [h, h1]
theorem eq0' (n : Nat) : decide ((n : Int) = 0) = decide (n = 0) := by
 by_cases h : n = 0
 ·subst h; rfl
 ·have h1 : ¬ ((n : Int) = 0) := by omega
  simp [h, h1]
def leftB (m : Md) : Nat → Bool
 | 0 => decide (m.ty.length = 0)
 | 1 => decide (m.im.length = 0)
 | 2 => decide (m.fu.length = 0)
 | 3 => decide (m.tb.length = 0)
 | 4 => decide (m.me.length = 0)
 | 5 => decide (m.gl.length = 0)
 | 6 => decide (m.ex.length = 0)
 | 7 => !m.st
 | 8 => decide (m.el.length = 0)
 | 9 => decide (m.fu.length = 0)
 | _ => decide (m.da.length = 0)
theorem lst_nil {α : Type} (f : α → List Int) (l : List α) : decide (l.length = 0) = decide (lstB f l = []) := by
 unfold lstB
 by_cases h : l.length = 0
 ·rw [if_pos h]; simp [h]
 ·rw [if_neg h]
  have : encU l.length ++ l.flatMap f ≠ [] := by
   intro e
   have := congrArg List.length e
   rw [List.length_append, encU_length] at this
   have := (sizeU_pos (l.length : Int)).1
   simp at *
   omega
  simp [h, this]
theorem left_sec (m : Md) {k : Nat} (hk : k < 11) : leftB m k = decide (secB m k = []) := by
 match k, hk with
 | 0, _ => exact lst_nil _ _
 | 1, _ => exact lst_nil _ _
 | 2, _ => exact lst_nil _ _
 | 3, _ => exact lst_nil _ _
 | 4, _ => exact lst_nil _ _
 | 5, _ => exact lst_nil _ _
 | 6, _ => exact lst_nil _ _
 | 7, _ =>
  show (!m.st) = decide ((if m.st then encU m.sn else []) = [])
  have h := (sizeU_pos m.sn).1
  cases m.st
  ·simp
  ·simp only [if_true, Bool.not_true]
   have : encU m.sn ≠ [] := by
    intro e
    have := congrArg List.length e
    rw [encU_length] at this
    simp at this
    omega
   simp [this]
 | 8, _ => exact lst_nil _ _
 | 9, _ => exact lst_nil _ _
 | 10, _ => exact lst_nil _ _
theorem lst_some {α : Type} {f : α → List Int} {l : List α} (h : lstB f l ≠ []) : lstB f l = encU l.length ++ l.flatMap f := by
 unfold lstB at h ⊢
 split at h
 ·exact absurd rfl h
 ·rename_i hl; rw [if_neg hl]
def fn8 (k : Nat) : Nat := if k < 3 then 41 else if k < 5 then 42 else if k < 8 then 43 else 44
theorem sec8_any (k : Nat) (hk : k < 11) (m : Md) (w : World) (FI : Fine w m) (hf : FitAll m 0) (hne : secB m k ≠ []) : Calls Tryz.prog (fn8 k) #[.agg m.v, .int .i64 ((k : Int) + 1)] w (Gives w (secB m k)) := by
 match k, hk with
 | 0, _ => have h := ref_sec1 m w FI hf.ty; rw [← lst_some (f := tyB) hne] at h; exact h
 | 1, _ => have h := ref_sec2 m w FI hf.im; rw [← lst_some (f := impB) hne] at h; exact h
 | 2, _ => have h := ref_sec3 m w FI hf.fn; rw [← lst_some (f := fnB) hne] at h; exact h
 | 3, _ => have h := ref_sec4 m w FI hf.tb; rw [← lst_some (f := tbB) hne] at h; exact h
 | 4, _ => have h := ref_sec5 m w FI hf.me; rw [← lst_some (f := meB) hne] at h; exact h
 | 5, _ => have h := ref_sec6 m w FI hf.gl; rw [← lst_some (f := glB) hne] at h; exact h
 | 6, _ => have h := ref_sec7 m w FI hf.ex; rw [← lst_some (f := exB) hne] at h; exact h
 | 7, _ =>
  have h := ref_sec8 m w FI
  have e : secB m 7 = encU m.sn := by
   simp only [secB] at hne ⊢
   split at hne
   ·rename_i hs; rw [if_pos hs]
   ·exact absurd rfl hne
  rw [e]
  exact h
 | 8, _ => have h := ref_sec9 m w FI hf.el; rw [← lst_some (f := elB) hne] at h; exact h
 | 9, _ => have h := ref_sec10 m w FI hf.co; rw [← lst_some (f := coB) hne] at h; exact h
 | 10, _ => have h := ref_sec11 m w FI hf.da; rw [← lst_some (f := daB) hne] at h; exact h
set_option maxRecDepth 100000 in
set_option maxHeartbeats 4000000 in
theorem left_any (m : Md) (k : Nat) (hk : k < 11) (w : World) : Calls Tryz.prog 39 #[.agg m.v, .int .i64 ((k : Int) + 1)] w fun e w' => e = .returned (.bool (leftB m k)) ∧ Below w.heap.size w w' := by
 have HB := hid ((Below.refl w.heap.size w).alloc (Nat.le_refl _) (.cells m.v 32))
 have X0 := BoxAt.made w m.v 32
 unfold Md.v at HB X0 ⊢
 have x0 := X0 0 _ rfl
 have x1 := X0 1 _ rfl
 have x2 := X0 2 _ rfl
 have x3 := X0 3 _ rfl
 have x4 := X0 4 _ rfl
 have x5 := X0 5 _ rfl
 have x6 := X0 6 _ rfl
 have x7 := X0 7 _ rfl
 have x9 := X0 9 _ rfl
 have x10 := X0 10 _ rfl
 clear X0
 rcases (by omega : k = 0 ∨ k = 1 ∨ k = 2 ∨ k = 3 ∨ k = 4 ∨ k = 5 ∨ k = 6 ∨ k = 7 ∨ k = 8 ∨ k = 9 ∨ k = 10) with rfl | rfl | rfl | rfl | rfl | rfl | rfl | rfl | rfl | rfl | rfl
 all_goals
  clear hk
  go_enter Tryz.func39, Tryz.ntmps39
  go_wp2
  go_ret
  exact ⟨ret_bool (by first | exact eq0 _ | exact eq0' _ | (simp [leftB]; done)), thenA HB.out _⟩
end Go.Proofs.YtepbjkkakfpjgaaGreatDoor.Enc
namespace Go.Proofs.YtepbjkkakfpjgaaGreatDoor.Enc
open Go.RowKit Leb Go.Proofs.YtepbjkkakfpjgaaGreatDoor.Instr Go.Proofs.YtepbjkkakfpjgaaGreatDoor.Mod
open Go.Proofs.YtepbjkkakfpjgaaGreatDoor.Body (encL codeL PutP)
set_option linter.unusedVariables false
set_option linter.unusedSimpArgs false
set_option maxRecDepth 100000 in
set_option maxHeartbeats 4000000 in
theorem refSection_any (m : Md) (id : Int) (w : World) (h : Ready w m) (hna : ∀ s ∈ m.names, s.size ≤ 1000000) (hi : -9223372036854775808 ≤ id ∧ id ≤ 9223372036854775807) (ht : m.check = 0 → FitAll m 0) :
  Calls Tryz.prog 16 #[.agg m.v, .int .i64 id] w (PutP w (secR m id).1 (secR m id).2) := by
 have hb0 := (Below.refl w.heap.size w).alloc (Nat.le_refl _) (.cells m.v 32)
 have CK := hid (refChk_any m _ (h.at_.on hb0) h.few hna)
 have HB := hid hb0
 have X0 := BoxAt.made w m.v 32
 have HX := hid X0
 by_cases hc : m.check = 0
 rotate_left
 ·have HE : Hid (secR m id = ([], m.check)) := by show _ = _; unfold secR; rw [if_pos hc]
  rw [HE.out]
  obtain ⟨ck, hck⟩ : ∃ z, m.check = z := ⟨_, rfl⟩
  rw [hck] at CK hc ⊢
  have q1 : (ck == 0) = false := by simpa using hc
  have q2 : (ck != 0) = true := by simpa using hc
  clear h ht HE hb0 hck hna hi hc
  unfold Md.v at CK HB HX X0 ⊢
  obtain ⟨x0, x1, x2, x3, x4, x5, x6, x7, x8, x9, x10⟩ := Mod.cells11 X0
  clear X0
  go_enter Tryz.func16, Tryz.ntmps16
  go_wp2_with fail
  refine CK.out.mono ?_
  rintro e1 w1 ⟨rfl, hb⟩
  have HB1 := hid (HB.out.trans (hb.mono HB.out.size))
  have HX1 := hid (HX.out.keep hb)
  clear CK hb
  clear x0 x1 x2 x3 x4 x5 x6 x7 x8 x9 x10
  obtain ⟨x0, x1, x2, x3, x4, x5, x6, x7, x8, x9, x10⟩ := Mod.cells11 HX1.out
  go_wp2
  exact bodyPost_ret (v := .tuple #[.slice none 0 0, .int .i64 ck]) (by simp [results, Tryz.results16, go_sem]) rfl (putP_none HB1.out)
 rw [hc] at CK
 have FA := hid (ht hc)
 have S8 := hid (fun (k : Nat) (hk : k < 11) (W : World) (hb : Below w.heap.size w W) (hne : secB m k ≠ []) => sec8_any k hk m W ((h.on hb).fine hc) FA.out hne)
 have LF := hid (fun (k : Nat) (hk : k < 11) (W : World) => left_any m k hk W)
 by_cases h1 : id < 1
 ·have HE : Hid (secR m id = ([], 5)) := by show _ = _; unfold secR; rw [if_neg (by simpa using hc), if_pos (.inl h1)]
  rw [HE.out]
  clear h ht hc HE FA S8 LF hb0 hna hi
  unfold Md.v at CK HB HX X0 ⊢
  obtain ⟨x0, x1, x2, x3, x4, x5, x6, x7, x8, x9, x10⟩ := Mod.cells11 X0
  clear X0
  go_enter Tryz.func16, Tryz.ntmps16
  go_wp2_with fail
  refine CK.out.mono ?_
  rintro e1 w1 ⟨rfl, hb⟩
  have HB1 := hid (HB.out.trans (hb.mono HB.out.size))
  have HX1 := hid (HX.out.keep hb)
  clear CK hb
  clear x0 x1 x2 x3 x4 x5 x6 x7 x8 x9 x10
  obtain ⟨x0, x1, x2, x3, x4, x5, x6, x7, x8, x9, x10⟩ := Mod.cells11 HX1.out
  go_wp2
  exact bodyPost_ret (v := .tuple #[.slice none 0 0, .int .i64 5]) (by simp [results, Tryz.results16, go_sem]) rfl (putP_none HB1.out)
 by_cases h2 : 11 < id
 ·have HE : Hid (secR m id = ([], 5)) := by show _ = _; unfold secR; rw [if_neg (by simpa using hc), if_pos (.inr h2)]
  rw [HE.out]
  clear h ht hc HE FA S8 LF hb0 hna hi
  unfold Md.v at CK HB HX X0 ⊢
  obtain ⟨x0, x1, x2, x3, x4, x5, x6, x7, x8, x9, x10⟩ := Mod.cells11 X0
  clear X0
  go_enter Tryz.func16, Tryz.ntmps16
  go_wp2_with fail
  refine CK.out.mono ?_
  rintro e1 w1 ⟨rfl, hb⟩
  have HB1 := hid (HB.out.trans (hb.mono HB.out.size))
  have HX1 := hid (HX.out.keep hb)
  clear CK hb
  clear x0 x1 x2 x3 x4 x5 x6 x7 x8 x9 x10
  obtain ⟨x0, x1, x2, x3, x4, x5, x6, x7, x8, x9, x10⟩ := Mod.cells11 HX1.out
  go_wp2
  exact bodyPost_ret (v := .tuple #[.slice none 0 0, .int .i64 5]) (by simp [results, Tryz.results16, go_sem]) rfl (putP_none HB1.out)
 obtain ⟨k, hk, rfl⟩ : ∃ k : Nat, k < 11 ∧ id = (k : Int) + 1 := ⟨(id - 1).toNat, by omega, by omega⟩
 have HE : Hid (secR m ((k : Int) + 1) = (secB m k, 0)) := by show _ = _; unfold secR; rw [if_neg (by simpa using hc), if_neg (by omega)]; simp
 rw [HE.out]
 by_cases hne : secB m k = []
 ·have L := hid (LF.out k hk)
  rw [left_sec m hk, hne] at L
  rw [hne]
  clear h ht hc HE FA S8 LF hb0 hna hi hne
  unfold Md.v at CK HB HX X0 L ⊢
  obtain ⟨x0, x1, x2, x3, x4, x5, x6, x7, x8, x9, x10⟩ := Mod.cells11 X0
  clear X0
  go_enter Tryz.func16, Tryz.ntmps16
  go_wp2_with fail
  refine CK.out.mono ?_
  rintro e1 w1 ⟨rfl, hb⟩
  have HB1 := hid (HB.out.trans (hb.mono HB.out.size))
  have HX1 := hid (HX.out.keep hb)
  clear CK hb
  clear x0 x1 x2 x3 x4 x5 x6 x7 x8 x9 x10
  obtain ⟨x0, x1, x2, x3, x4, x5, x6, x7, x8, x9, x10⟩ := Mod.cells11 HX1.out
  go_wp2_with fail
  refine (L.out _).mono ?_
  rintro e2 w2 ⟨rfl, hb⟩
  have HB2 := hid (HB1.out.trans (hb.mono HB1.out.size))
  clear L hb
  clear x0 x1 x2 x3 x4 x5 x6 x7 x8 x9 x10
  go_wp2
  exact bodyPost_ret (v := .tuple #[.slice none 0 0, .int .i64 0]) (by simp [results, Tryz.results16, go_sem]) rfl (putP_none HB2.out)
 have L := hid (LF.out k hk)
 rw [left_sec m hk, decide_eq_false hne] at L
 have S := hid (fun W hb => S8.out k hk W hb hne)
 by_cases g0 : k < 3
 ·skip
  have e8 : fn8 k = 41 := by unfold fn8;  rw [if_pos g0]
  rw [e8] at S
  have f0 : (k : Int) + 1 ≤ 3 := by omega
  obtain ⟨zs, hzs⟩ : ∃ z, secB m k = z := ⟨_, rfl⟩
  rw [hzs] at S ⊢
  clear h ht hc HE FA S8 LF hb0 hna hi hne hk hzs e8 g0
  unfold Md.v at CK HB HX X0 L S ⊢
  obtain ⟨x0, x1, x2, x3, x4, x5, x6, x7, x8, x9, x10⟩ := Mod.cells11 X0
  clear X0
  go_enter Tryz.func16, Tryz.ntmps16
  go_wp2_with fail
  refine CK.out.mono ?_
  rintro e1 w1 ⟨rfl, hb⟩
  have HB1 := hid (HB.out.trans (hb.mono HB.out.size))
  have HX1 := hid (HX.out.keep hb)
  clear CK hb
  clear x0 x1 x2 x3 x4 x5 x6 x7 x8 x9 x10
  obtain ⟨x0, x1, x2, x3, x4, x5, x6, x7, x8, x9, x10⟩ := Mod.cells11 HX1.out
  go_wp2_with fail
  refine (L.out _).mono ?_
  rintro e2 w2 ⟨rfl, hb⟩
  have HB2 := hid (HB1.out.trans (hb.mono HB1.out.size))
  have HX2 := hid (HX1.out.keep hb)
  clear L hb HX1
  clear x0 x1 x2 x3 x4 x5 x6 x7 x8 x9 x10
  obtain ⟨x0, x1, x2, x3, x4, x5, x6, x7, x8, x9, x10⟩ := Mod.cells11 HX2.out
  go_wp2_with fail
  refine (S.out _ HB2.out).mono ?_
  rintro e3 w3 ⟨v, rfl, ho, hb⟩
  have HB3 := hid (HB2.out.trans (hb.mono HB2.out.size))
  have HO := hid (ho.mono HB2.out.size)
  clear S hb ho HX2
  clear x0 x1 x2 x3 x4 x5 x6 x7 x8 x9 x10
  go_wp2
  exact bodyPost_ret (v := .tuple #[v, .int .i64 0]) (by simp [results, Tryz.results16, go_sem]) rfl (⟨v, rfl, HO.out, HB3.out⟩)
 by_cases g1 : k < 5
 ·skip
  have e8 : fn8 k = 42 := by unfold fn8; rw [if_neg g0]; rw [if_pos g1]
  rw [e8] at S
  have f0 : ¬ (k : Int) + 1 ≤ 3 := by omega
  have f1 : (k : Int) + 1 ≤ 5 := by omega
  obtain ⟨zs, hzs⟩ : ∃ z, secB m k = z := ⟨_, rfl⟩
  rw [hzs] at S ⊢
  clear h ht hc HE FA S8 LF hb0 hna hi hne hk hzs e8 g0 g1
  unfold Md.v at CK HB HX X0 L S ⊢
  obtain ⟨x0, x1, x2, x3, x4, x5, x6, x7, x8, x9, x10⟩ := Mod.cells11 X0
  clear X0
  go_enter Tryz.func16, Tryz.ntmps16
  go_wp2_with fail
  refine CK.out.mono ?_
  rintro e1 w1 ⟨rfl, hb⟩
  have HB1 := hid (HB.out.trans (hb.mono HB.out.size))
  have HX1 := hid (HX.out.keep hb)
  clear CK hb
  clear x0 x1 x2 x3 x4 x5 x6 x7 x8 x9 x10
  obtain ⟨x0, x1, x2, x3, x4, x5, x6, x7, x8, x9, x10⟩ := Mod.cells11 HX1.out
  go_wp2_with fail
  refine (L.out _).mono ?_
  rintro e2 w2 ⟨rfl, hb⟩
  have HB2 := hid (HB1.out.trans (hb.mono HB1.out.size))
  have HX2 := hid (HX1.out.keep hb)
  clear L hb HX1
  clear x0 x1 x2 x3 x4 x5 x6 x7 x8 x9 x10
  obtain ⟨x0, x1, x2, x3, x4, x5, x6, x7, x8, x9, x10⟩ := Mod.cells11 HX2.out
  go_wp2_with fail
  refine (S.out _ HB2.out).mono ?_
  rintro e3 w3 ⟨v, rfl, ho, hb⟩
  have HB3 := hid (HB2.out.trans (hb.mono HB2.out.size))
  have HO := hid (ho.mono HB2.out.size)
  clear S hb ho HX2
  clear x0 x1 x2 x3 x4 x5 x6 x7 x8 x9 x10
  go_wp2
  exact bodyPost_ret (v := .tuple #[v, .int .i64 0]) (by simp [results, Tryz.results16, go_sem]) rfl (⟨v, rfl, HO.out, HB3.out⟩)
 by_cases g2 : k < 8
 ·skip
  have e8 : fn8 k = 43 := by unfold fn8; rw [if_neg g0]; rw [if_neg g1]; rw [if_pos g2]
  rw [e8] at S
  have f0 : ¬ (k : Int) + 1 ≤ 3 := by omega
  have f1 : ¬ (k : Int) + 1 ≤ 5 := by omega
  have f2 : (k : Int) + 1 ≤ 8 := by omega
  obtain ⟨zs, hzs⟩ : ∃ z, secB m k = z := ⟨_, rfl⟩
  rw [hzs] at S ⊢
  clear h ht hc HE FA S8 LF hb0 hna hi hne hk hzs e8 g0 g1 g2
  unfold Md.v at CK HB HX X0 L S ⊢
  obtain ⟨x0, x1, x2, x3, x4, x5, x6, x7, x8, x9, x10⟩ := Mod.cells11 X0
  clear X0
  go_enter Tryz.func16, Tryz.ntmps16
  go_wp2_with fail
  refine CK.out.mono ?_
  rintro e1 w1 ⟨rfl, hb⟩
  have HB1 := hid (HB.out.trans (hb.mono HB.out.size))
  have HX1 := hid (HX.out.keep hb)
  clear CK hb
  clear x0 x1 x2 x3 x4 x5 x6 x7 x8 x9 x10
  obtain ⟨x0, x1, x2, x3, x4, x5, x6, x7, x8, x9, x10⟩ := Mod.cells11 HX1.out
  go_wp2_with fail
  refine (L.out _).mono ?_
  rintro e2 w2 ⟨rfl, hb⟩
  have HB2 := hid (HB1.out.trans (hb.mono HB1.out.size))
  have HX2 := hid (HX1.out.keep hb)
  clear L hb HX1
  clear x0 x1 x2 x3 x4 x5 x6 x7 x8 x9 x10
  obtain ⟨x0, x1, x2, x3, x4, x5, x6, x7, x8, x9, x10⟩ := Mod.cells11 HX2.out
  go_wp2_with fail
  refine (S.out _ HB2.out).mono ?_
  rintro e3 w3 ⟨v, rfl, ho, hb⟩
  have HB3 := hid (HB2.out.trans (hb.mono HB2.out.size))
  have HO := hid (ho.mono HB2.out.size)
  clear S hb ho HX2
  clear x0 x1 x2 x3 x4 x5 x6 x7 x8 x9 x10
  go_wp2
  exact bodyPost_ret (v := .tuple #[v, .int .i64 0]) (by simp [results, Tryz.results16, go_sem]) rfl (⟨v, rfl, HO.out, HB3.out⟩)
 have e8 : fn8 k = 44 := by unfold fn8; rw [if_neg g0]; rw [if_neg g1]; rw [if_neg g2];
 rw [e8] at S
 have f0 : ¬ (k : Int) + 1 ≤ 3 := by omega
 have f1 : ¬ (k : Int) + 1 ≤ 5 := by omega
 have f2 : ¬ (k : Int) + 1 ≤ 8 := by omega
 obtain ⟨zs, hzs⟩ : ∃ z, secB m k = z := ⟨_, rfl⟩
 rw [hzs] at S ⊢
 clear h ht hc HE FA S8 LF hb0 hna hi hne hk hzs e8 g0 g1 g2
 unfold Md.v at CK HB HX X0 L S ⊢
 obtain ⟨x0, x1, x2, x3, x4, x5, x6, x7, x8, x9, x10⟩ := Mod.cells11 X0
 clear X0
 go_enter Tryz.func16, Tryz.ntmps16
 go_wp2_with fail
 refine CK.out.mono ?_
 rintro e1 w1 ⟨rfl, hb⟩
 have HB1 := hid (HB.out.trans (hb.mono HB.out.size))
 have HX1 := hid (HX.out.keep hb)
 clear CK hb
 clear x0 x1 x2 x3 x4 x5 x6 x7 x8 x9 x10
 obtain ⟨x0, x1, x2, x3, x4, x5, x6, x7, x8, x9, x10⟩ := Mod.cells11 HX1.out
 go_wp2_with fail
 refine (L.out _).mono ?_
 rintro e2 w2 ⟨rfl, hb⟩
 have HB2 := hid (HB1.out.trans (hb.mono HB1.out.size))
 have HX2 := hid (HX1.out.keep hb)
 clear L hb HX1
 clear x0 x1 x2 x3 x4 x5 x6 x7 x8 x9 x10
 obtain ⟨x0, x1, x2, x3, x4, x5, x6, x7, x8, x9, x10⟩ := Mod.cells11 HX2.out
 go_wp2_with fail
 refine (S.out _ HB2.out).mono ?_
 rintro e3 w3 ⟨v, rfl, ho, hb⟩
 have HB3 := hid (HB2.out.trans (hb.mono HB2.out.size))
 have HO := hid (ho.mono HB2.out.size)
 clear S hb ho HX2
 clear x0 x1 x2 x3 x4 x5 x6 x7 x8 x9 x10
 go_wp2
 exact bodyPost_ret (v := .tuple #[v, .int .i64 0]) (by simp [results, Tryz.results16, go_sem]) rfl (⟨v, rfl, HO.out, HB3.out⟩)
end Go.Proofs.YtepbjkkakfpjgaaGreatDoor.Enc
namespace Go.Proofs.YtepbjkkakfpjgaaGreatDoor.Enc
open Go.RowKit Go.Shelf Leb Go.Proofs.YtepbjkkakfpjgaaGreatDoor.Instr Go.Proofs.YtepbjkkakfpjgaaGreatDoor.Mod
open Go.Proofs.YtepbjkkakfpjgaaGreatDoor.Body (encL codeL PutP Grew)
structure Out (g B : Nat) (v : Value) (xs : List Int) (w : World) : Prop where
 c : w.cell? ⟨g, 0, none⟩ = some v
 f : w.frozen? ⟨g, 0, none⟩ = false
 sep : v.ownBlock ≠ some g
 low : g ≤ B + 1
 lowB : B ≤ w.heap.size
 lt : ∀ q, v.ownBlock = some q → B ≤ q ∧ q < w.heap.size
 byt : ∃ a n c, v = .slice a n c ∧ xs.length = n ∧ Bytes w a xs ∧ (a = none → c = 0)
 kind : Own B w v xs ∨ ∃ q, v = .slice (some ⟨q, 0, none⟩) xs.length xs.length
theorem Out.of {g B : Nat} {v0 v : Value} {xs : List Int} {w0 w : World} (h : Buf g B v0 w0 v xs w) (hz : ∀ z ∈ xs, 0 ≤ z ∧ z < 256) (hl : xs.length ≤ 2000000000) : Out g B v xs w := by
 refine ⟨h.c, h.f, h.sep, h.low, Nat.le_trans h.lowB h.touch.size, World.ownsRow.lt h.own, ?_, .inl h.own⟩
 have ho := h.own
 obtain ⟨a, c, rfl⟩ := ho.sliceN rfl
 exact ⟨a, _, c, rfl, rfl, ho.bytes hz (by omega), ho.nil.out⟩
theorem Out.past {g B g2 B2 : Nat} {v u u' : Value} {zs ys : List Int} {w w' : World} (h : Out g B v zs w) (k : Buf g2 B2 u w u' ys w') (a1 : g ≠ g2) (a2 : u.ownBlock ≠ some g) (a3 : v.ownBlock ≠ some g2) (a4 : ∀ q, v.ownBlock = some q → u.ownBlock ≠ some q) : Out g B v zs w' := by
 have hg : ¬ (g = g2 ∨ u.ownBlock = some g) := by rintro (e | e); exact a1 e; exact a2 e
 have hgl : g < w.heap.size := World.block_lt_of_cell? w _ h.c
 refine ⟨k.touch.cell hg h.c, (World.frozen?_of_block (w := w) (k.touch.block g hgl hg)).trans h.f, h.sep, h.low, Nat.le_trans h.lowB k.touch.size, fun q hq => ⟨(h.lt q hq).1, Nat.lt_of_lt_of_le (h.lt q hq).2 k.touch.size⟩, ?_, ?_⟩
 ·obtain ⟨a, n, c, rfl, hn, hb, h0⟩ := h.byt
  refine ⟨a, n, c, rfl, hn, Bytes.touchE hb k.touch (fun b off ha _ => ?_), h0⟩
  subst ha
  rintro (e | e)
  ·exact a3 (by rw [← e]; rfl)
  ·exact a4 b rfl e
 ·rcases h.kind with h1 | h1
  ·exact .inl (touch_row h1 k.touch (fun q hq => by rintro (e | e); exact a3 (by rw [hq, e]); exact a4 q hq e))
  ·exact .inr h1
theorem run_full {B : Nat} {wr : World} {q : Nat} {xs : List Int} (z : Int) (hx : Bytes wr (some ⟨q, 0, none⟩) xs) (hB : B ≤ wr.heap.size) (b : Nat) (hc : wr.cell? ⟨b, 0, none⟩ = some (.int .u8 z)) (hl : xs.length ≤ 2000000000) (ty : TypeId) :
  ∃ v' w', (Builtin.append_ #[76, 76] ty #[.slice (some ⟨q, 0, none⟩) xs.length xs.length, .slice (some ⟨b, 0, none⟩) 1 1]).run Tryz.prog wr = .ok v' w' ∧ Own B w' v' (xs ++ [z]) ∧ Below wr.heap.size wr w' ∧ v'.ownBlock = some wr.heap.size ∧ Full v' w' := by
 obtain ⟨i0, hi, hz0, hz1, hz2⟩ := info_parts infoByte
 have hadd : ∀ (b j : Nat), (⟨b, 0, none⟩ : Addr).add j = ⟨b, j, none⟩ := plain_add
 have holds : ∀ (j : Nat) (v : Value), (xs.map (Value.int .u8))[j]? = some v → wr.cell? ((⟨q, 0, none⟩ : Addr).add j) = some v := by
  intro j v hj
  have hjl : j < xs.length := by
   rcases Nat.lt_or_ge j xs.length with h | h
   ·exact h
   ·rw [List.getElem?_eq_none (by simpa using h)] at hj; cases hj
  obtain ⟨b', off', he, hcc⟩ := hx.at (by omega)
  simp only [Option.some.injEq, Addr.mk.injEq] at he
  obtain ⟨rfl, rfl, _⟩ := he
  rw [hadd, ← Nat.zero_add j, hcc j hjl]
  rw [← hj, getD_lt hjl]; simp [hjl]
 have hnews : ∀ (j : Nat) (v : Value), ([Value.int .u8 z])[j]? = some v → wr.cell? ((⟨b, 0, none⟩ : Addr).add j) = some v := by
  intro j v hj
  match j, hj with
  | 0, hj => simp at hj; subst hj; rw [hadd]; exact hc
 have hr := run_append_grow (P := Tryz.prog) wr 76 ty 5 i0 (.int .u8 0) Tryz.underlying76 hi hz0 ⟨q, 0, none⟩ xs.length xs.length (xs.map (Value.int .u8)) (by rw [hz1]; simp) holds ⟨b, 0, none⟩ 1 1 [.int .u8 z] (by rw [hz1]; rfl) hnews (by omega) (by omega) (growslice_fits (by omega) (by rw [hz2]; omega))
 refine ⟨_, _, hr, ?_, ((Below.refl _ _).drew.alloc (Nat.le_refl _) _), rfl, Full.new (w := wr.drew) rfl fun u hu => ?_⟩
 rotate_left
 ·simp only [Array.toList_append] at hu
  rcases List.mem_append.1 hu with h | h
  ·rcases List.mem_append.1 h with h | h
   ·exact ints_full xs u (by simpa using h)
   ·exact ⟨z, by simpa using h⟩
  ·exact zeros_full _ u h
 have hge := grownCap_ge wr (xs.length + 1) xs.length 5
 have hcm : grownCap wr (xs.length + 1) xs.length 5 ≤ maxLen := grownCap_le_maxLen wr (xs.length + 1) xs.length 5 (by unfold maxLen; omega)
 unfold Own
 refine ⟨by simp, .inr ⟨wr.heap.size, _, _, by rw [List.length_append]; rfl, hB, heap_alloc_new wr.drew _, by rw [List.length_append]; exact hge, hcm, ?_, ?_⟩⟩
 ·simp only [Array.size_append, List.size_toArray, size_zeroCells, List.length_map, List.length_cons, List.length_nil]
  have : (Value.int .u8 0).cells.size = 1 := rfl
  rw [this]
  omega
 ·rw [List.map_append]
  simp only [Array.toList_append]
  rw [List.take_append_of_le_length (by simp)]
  simp [List.take_of_length_le]
section
variable {ops : Array Oper} {rest : List Oper} {o : Oper} {act : Act} {Q : Exit → Act → World → Prop}
theorem run_wp {t1 t2 : TypeId} (hgd : o.guard = none) (s x : Operand) (ho : o.op = .call { callee := .builtin .append, args := #[s, x], argTypes := #[t1, t2] })
  {wr w' : World} {v u v' : Value} (hs : act.eval s = v) (hx : act.eval x = u) (hr : (Builtin.append_ #[t1, t2] o.type #[v, u]).run Tryz.prog wr = .ok v' w')
  (h : wpList Tryz.prog ops Q rest (act.put o.dst v') w') : wpList Tryz.prog ops Q (o :: rest) act wr := by
 refine wpList_plain hgd fun K hK => ?_
 unfold Oper.wp
 simp [execOp, ho, resolve, invoke, builtin, hs, hx, hr, Result.andThen]
 exact hK _ _ h
end
set_option maxRecDepth 100000 in
set_option maxHeartbeats 1000000 in
theorem byte_out (g B : Nat) (v : Value) (xs : List Int) (z : Int) (w : World) (h : Out g B v xs w) (hz : 0 ≤ z ∧ z < 256) (hl : xs.length ≤ 1000000000) :
  Calls Tryz.prog 34 #[.pointer (some ⟨g, 0, none⟩), .int .u8 z] w (Puts g B v w (xs ++ [z])) := by
 rcases h.kind with hk | ⟨q, rfl⟩
 ·exact byte_any g B v xs z w (Buf.start h.c h.f hk h.sep h.low h.lowB) hz (by omega)
 ·have hbt : Bytes w (some ⟨q, 0, none⟩) xs := by
   obtain ⟨a, n, c, he, hn, hb, _⟩ := h.byt
   simp only [Value.slice.injEq] at he
   obtain ⟨rfl, _, _⟩ := he
   exact hb
  have hb1 := (Below.refl w.heap.size w).alloc (Nat.le_refl _) (.cells #[.int .u8 z] 5)
  obtain ⟨v', w', hr, ho, hb2, hv, hfu⟩ := run_full (B := B) (wr := w.alloc (.cells #[.int .u8 z] 5)) z (hbt.below hb1) (by have := h.lowB; simp; omega) w.heap.size (by simp [go_sem]) (by omega) 76
  have hb3 := thenB hb1 hb2
  have c0 := h.c
  have f0 := h.f
  have hgl : g < w.heap.size := World.block_lt_of_cell? w _ h.c
  obtain ⟨N, hN⟩ : ∃ N, (xs ++ [z]).length = N := ⟨_, rfl⟩
  have ho2 := ho
  obtain ⟨a1, q1, rfl⟩ := ho2.sliceN hN
  have hsep : (Value.slice a1 N q1).ownBlock ≠ some g := by rw [hv]; simp; omega
  have c1 := Go.Proofs.YtepbjkkakfpjgaaGreatDoor.keep hb3 c0
  have f1 : w'.frozen? ⟨g, 0, none⟩ = false := (hb3.frozen (p := ⟨g, 0, none⟩) hgl).trans f0
  have HZ : Hid (Buf g B (.slice (some ⟨q, 0, none⟩) xs.length xs.length) w (.slice a1 N q1) (xs ++ [z]) (w'.setCell ⟨g, 0, none⟩ (.slice a1 N q1))) := by
   refine hid ⟨World.cell?_setCell_same' _ _ _ (by rw [c1]; rfl), by rw [World.frozen?_setCell]; exact f1, touch_row ho ((Touch.refl (fun j => j = g) w').setCell (.inl rfl) _) (fun q hq e => hsep (by rw [hq, e])), ((Touch.of_below hb3).mono (fun j hj => hj)).setCell (.inl (.inl rfl)) _, fun j hj => ?_, fun q hq => ?_, hsep, h.low, h.lowB, hgl, fun _ => hfu.touch ((Touch.refl (fun j => j = g) w').setCell (.inl rfl) _) (fun q hq e => hsep (by rw [hq, e]))⟩
   ·refine Eq.trans ?_ (hb3.cell (p := ⟨g, j, none⟩) hgl)
    exact World.cell?_setCell_other _ _ _ _ (by intro e; simp only [Addr.mk.injEq, true_and, and_true] at e; exact hj e.symm)
   ·rw [hv] at hq; simp at hq; exact .inr (by omega)
  have HR := hid hr
  clear h hbt hb1 ho hb2 hb3 ho2 hv hsep hN hz hr hfu
  go_enter Tryz.func34, Tryz.ntmps34
  go_wp2_with (first
    | (at_builtin; refine run_wp rfl (.tmp 7) (.tmp 9) rfl rfl rfl HR.out ?_))
  go_end0
  exact ⟨rfl, _, HZ.out⟩
end Go.Proofs.YtepbjkkakfpjgaaGreatDoor.Enc
namespace Go.Proofs.YtepbjkkakfpjgaaGreatDoor.Enc
open Go.RowKit Go.Shelf Leb Go.Proofs.YtepbjkkakfpjgaaGreatDoor.Instr Go.Proofs.YtepbjkkakfpjgaaGreatDoor.Mod
open Go.Proofs.YtepbjkkakfpjgaaGreatDoor.Body (encL codeL PutP)
def modR (m : Md) : List Int × Int := if m.check ≠ 0 then ([], m.check) else if 1048576 < (modB m).length then ([], 3) else (modB m, 0)
theorem upto_mono (m : Md) : ∀ (j k : Nat), (uptoB m k).length ≤ (uptoB m (k + j)).length
 | 0, _ => Nat.le_refl _
 | j + 1, k => by
  have := upto_mono m j k
  rw [show k + (j + 1) = (k + j) + 1 by omega, upto_succ, List.length_append]
  omega
theorem upto_long {m : Md} {k : Nat} (hk : k ≤ 11) (h : 1048576 < (uptoB m k).length) : 1048576 < (modB m).length := by
 have := upto_mono m (11 - k) k
 rw [show k + (11 - k) = 11 by omega] at this
 exact Nat.lt_of_lt_of_le h this
structure St (w : World) (m : Md) (go Bo gw Bw s : Nat) (vo : Value) (os : List Int) (vw : Value) (zs : List Int) (W : World) : Prop where
 o : Out go Bo vo os W
 wr : Wr w m gw Bw 1048576 vw zs W
 arr : ∀ j, j < 11 → W.cell? ⟨s, j, none⟩ = some (.func (.func (secF j)) #[.pointer (some ⟨gw, 0, none⟩)] #[])
 d1 : go ≠ gw
 d2 : s ≠ go
 d3 : s ≠ gw
 a1 : vo.ownBlock ≠ some gw
 a2 : vw.ownBlock ≠ some go
 a3 : ∀ q, vo.ownBlock = some q → vw.ownBlock ≠ some q
 a4 : vo.ownBlock ≠ some s
 a5 : vw.ownBlock ≠ some s
 hgo : w.heap.size < go
theorem St.s_lt {w : World} {m : Md} {go Bo gw Bw s : Nat} {vo vw : Value} {os zs : List Int} {W : World} (h : St w m go Bo gw Bw s vo os vw zs W) : s < W.heap.size := World.block_lt_of_cell? W _ (h.arr 0 (by omega))
theorem St.write {w : World} {m : Md} {go Bo gw Bw s : Nat} {vo vw v' : Value} {os zs ys : List Int} {W W' : World} (h : St w m go Bo gw Bw s vo os vw zs W) (hb : Buf gw Bw vw W v' ys W') : St w m go Bo gw Bw s vo os v' ys W' := by
 refine ⟨h.o.past hb h.d1 h.a2 h.a1 h.a3, ⟨hb.again, hb.deep h.wr.buf.own h.wr.low h.wr.hg, h.wr.hg, fun j x hx => (hb.rest (1 + j) (by omega)).trans (h.wr.box j x hx), (hb.rest 12 (by omega)).trans h.wr.most⟩,
   fun j hj => hb.far (p := ⟨s, j, none⟩) h.d3 h.a5 (h.arr j hj), h.d1, h.d2, h.d3, h.a1, fun e => ?_, fun q hq e => ?_, h.a4, fun e => ?_, h.hgo⟩
 ·rcases hb.new _ e with e | e
  ·exact h.a2 e
  ·have := World.block_lt_of_cell? W _ h.o.c; simp at this; omega
 ·rcases hb.new _ e with e | e
  ·exact h.a3 q hq e
  ·have := (h.o.lt q hq).2; omega
 ·rcases hb.new _ e with e | e
  ·exact h.a5 e
  ·have := h.s_lt; omega
theorem St.out {w : World} {m : Md} {go Bo gw Bw s : Nat} {vo vw v' : Value} {os zs ys : List Int} {W W' : World} (h : St w m go Bo gw Bw s vo os vw zs W) (hb : Buf go Bo vo W v' ys W') (hz : ∀ z ∈ ys, 0 ≤ z ∧ z < 256) (hl : ys.length ≤ 2000000000) : St w m go Bo gw Bw s v' ys vw zs W' := by
 have far : ∀ {p : Addr} {x : Value}, p.block = gw → W.cell? p = some x → W'.cell? p = some x := fun {p x} hp hc => hb.far (by rw [hp]; exact fun e => h.d1 e.symm) (by rw [hp]; exact h.a1) hc
 refine ⟨Out.of hb hz hl, ⟨h.wr.buf.past hb (fun e => h.d1 e.symm) h.a1 h.a2 (fun q hq e => h.a3 q e hq), h.wr.low.trans (hb.below (Nat.le_of_lt h.hgo) (fun q hq => by have := (h.o.lt q hq).1; have := h.o.low; have := h.hgo; omega)), h.wr.hg, fun j x hx => far rfl (h.wr.box j x hx), far rfl h.wr.most⟩,
   fun j hj => hb.far (p := ⟨s, j, none⟩) h.d2 h.a4 (h.arr j hj), h.d1, h.d2, h.d3, fun e => ?_, h.a2, fun q hq e => ?_, fun e => ?_, h.a5, h.hgo⟩
 ·rcases hb.new _ e with e | e
  ·exact h.a1 e
  ·have := h.wr.buf.lt; omega
 ·rcases hb.new _ hq with e2 | e2
  ·exact h.a3 q e2 e
  ·have := (World.ownsRow.lt h.wr.buf.own q e).2; omega
 ·rcases hb.new _ e with e | e
  ·exact h.a4 e
  ·have := h.s_lt; omega
theorem St.clear {w : World} {m : Md} {go Bo gw Bw s : Nat} {vo : Value} {os zs : List Int} {W : World} {a : Option Addr} {n c : Nat} (h : St w m go Bo gw Bw s vo os (.slice a n c) zs W) : St w m go Bo gw Bw s vo os (.slice a 0 c) [] (W.setCell ⟨gw, 0, none⟩ (.slice a 0 c)) := by
 have hf : ∀ {p : Addr} {x : Value}, p ≠ ⟨gw, 0, none⟩ → W.cell? p = some x → (W.setCell ⟨gw, 0, none⟩ (.slice a 0 c)).cell? p = some x := fun {p x} hp hc => (World.cell?_setCell_other _ _ _ _ (fun e => hp e.symm)).trans hc
 have ht : Touch (fun j => j = gw) W (W.setCell ⟨gw, 0, none⟩ (.slice a 0 c)) := (Touch.refl (fun j => j = gw) W).setCell (.inl rfl) _
 have hs : (Value.slice a 0 c).ownBlock = (Value.slice a n c).ownBlock := by cases a <;> rfl
 refine ⟨?_, ⟨h.wr.buf.clear, h.wr.low.setCell (Nat.le_of_lt h.wr.hg) _, h.wr.hg, fun j x hx => hf (by intro e; simp only [Addr.mk.injEq, true_and, and_true] at e; omega) (h.wr.box j x hx), hf (by simp) h.wr.most⟩,
   fun j hj => hf (by intro e; simp only [Addr.mk.injEq] at e; exact h.d3 e.1) (h.arr j hj), h.d1, h.d2, h.d3, h.a1, by rw [hs]; exact h.a2, fun q hq => by rw [hs]; exact h.a3 q hq, h.a4, by rw [hs]; exact h.a5, h.hgo⟩
 have ho := h.o
 refine ⟨hf (by intro e; simp only [Addr.mk.injEq] at e; exact h.d1 e.1) ho.c, by rw [World.frozen?_setCell]; exact ho.f, ho.sep, ho.low, by have := ho.lowB; simpa [World.setCell] using this, fun q hq => by have := ho.lt q hq; simpa [World.setCell] using this, ?_, ?_⟩
 ·obtain ⟨a, n, c, he, hn, hb, h0⟩ := ho.byt
  refine ⟨a, n, c, he, hn, Bytes.touchE hb ht (fun b off ha _ e => ?_), h0⟩
  subst ha
  exact h.a1 (by rw [he, ← e]; rfl)
 ·rcases ho.kind with h1 | h1
  ·exact .inl (touch_row h1 ht (fun q hq e => h.a1 (by rw [hq, e])))
  ·exact .inr h1
def ModP (w : World) (zs : List Int) (er : Int) (e : Ending) (w' : World) : Prop := ∃ a n c, e = .returned (.tuple #[.slice a n c, .int .i64 er]) ∧ zs.length = n ∧ Bytes w' a zs ∧ (a = none → c = 0) ∧ Below w.heap.size w w'
theorem modP_none {w w' : World} {er : Int} (hb : Below w.heap.size w w') : ModP w [] er (.returned (.tuple #[.slice none 0 0, .int .i64 er])) w' := ⟨none, 0, 0, rfl, rfl, ⟨by simp, by simp, .inl rfl⟩, fun _ => rfl, hb⟩
theorem piece_none {m : Md} {k : Nat} (h : secB m k = []) : uptoB m (k + 1) = uptoB m k := by rw [upto_succ]; unfold pieceB; rw [if_pos h, List.append_nil]
theorem piece_some {m : Md} {k : Nat} (h : secB m k ≠ []) : uptoB m (k + 1) = (uptoB m k ++ [((k + 1 : Nat) : Int)]) ++ (encU (secB m k).length ++ secB m k) := by rw [upto_succ]; unfold pieceB; rw [if_neg h]; simp
theorem new_at (W : World) (C : Array Value) (t : TypeId) (m : Nat × Nat) (i : Nat) (x : Value) (h : C[i]? = some x) : (W.alloc (.cells C t m)).cell? ⟨W.heap.size, i, none⟩ = some x := by
 have hh : (W.alloc (.cells C t m)).heap[W.heap.size]? = some (.cells C t m) := heap_alloc_new W _
 unfold World.cell?
 rw [hh]
 exact h
theorem St.start {w W : World} {m : Md} (t1 t2 t3 : TypeId) (hB : Below w.heap.size w W) (hl : w.heap.size < W.heap.size) :
  St w m (W.heap.size + 1) W.heap.size (W.heap.size + 2) (W.heap.size + 3) (W.heap.size + 3) (.slice (some ⟨W.heap.size, 0, none⟩) 8 8) headB (.slice none 0 0) []
   ((((W.alloc (.cells #[.int .u8 0, .int .u8 97, .int .u8 115, .int .u8 109, .int .u8 1, .int .u8 0, .int .u8 0, .int .u8 0] 5 (8, 9))).alloc (.cells #[.slice (some ⟨W.heap.size, 0, none⟩) 8 8] t1)).alloc (.cells (wrV m 1048576) t2)).alloc (.cells (secsV (W.heap.size + 2)) t3)) := by
 have by1 : Bytes (W.alloc (.cells #[.int .u8 0, .int .u8 97, .int .u8 115, .int .u8 109, .int .u8 1, .int .u8 0, .int .u8 0, .int .u8 0] 5 (8, 9))) (some ⟨W.heap.size, 0, none⟩) headB := by
  refine ⟨by unfold headB; intro z hz; simp at hz; omega, by simp [headB], .inr ⟨_, 0, rfl, fun i hi => ?_⟩⟩
  have hi8 : i < 8 := hi
  match i, hi8 with
  | 0, _ | 1, _ | 2, _ | 3, _ | 4, _ | 5, _ | 6, _ | 7, _ => exact new_at W _ _ _ _ _ rfl
 obtain ⟨W1, hW1⟩ : ∃ W1, W1 = W.alloc (.cells #[.int .u8 0, .int .u8 97, .int .u8 115, .int .u8 109, .int .u8 1, .int .u8 0, .int .u8 0, .int .u8 0] 5 (8, 9)) := ⟨_, rfl⟩
 have s1 : W1.heap.size = W.heap.size + 1 := by rw [hW1]; simp
 have b1 : Below W.heap.size W W1 := by rw [hW1]; exact (Below.refl _ _).alloc (Nat.le_refl _) _
 rw [← hW1] at by1 ⊢
 clear hW1
 have hal : ∀ (w : World) (o : Obj), Below w.heap.size w (w.alloc o) := fun w o => (Below.refl _ _).alloc (Nat.le_refl _) o
 have s2 : (W1.alloc (.cells #[.slice (some ⟨W.heap.size, 0, none⟩) 8 8] t1)).heap.size = W.heap.size + 2 := by simp [s1]
 have b2 : Below W.heap.size W (W1.alloc (.cells #[.slice (some ⟨W.heap.size, 0, none⟩) 8 8] t1)) := b1.alloc b1.size _
 obtain ⟨W2, hW2⟩ : ∃ W2, W2 = W1.alloc (.cells #[.slice (some ⟨W.heap.size, 0, none⟩) 8 8] t1) := ⟨_, rfl⟩
 have by2 := by1.below (hal W1 (.cells #[.slice (some ⟨W.heap.size, 0, none⟩) 8 8] t1))
 have c2 : (W1.alloc (.cells #[.slice (some ⟨W.heap.size, 0, none⟩) 8 8] t1)).cell? ⟨W.heap.size + 1, 0, none⟩ = some (.slice (some ⟨W.heap.size, 0, none⟩) 8 8) := by rw [← s1]; simp [go_sem]
 have f2 : (W1.alloc (.cells #[.slice (some ⟨W.heap.size, 0, none⟩) 8 8] t1)).frozen? ⟨W.heap.size + 1, 0, none⟩ = false := by rw [← s1]; simp [go_sem]
 rw [← hW2] at s2 b2 by2 c2 f2 ⊢
 clear hW2
 have r3 := wr_new w W2 m 1048576 t2 (hB.trans (b2.mono hB.size)) (by have := hl; omega)
 rw [s2] at r3
 have b3 := hal W2 (.cells (wrV m 1048576) t2)
 have s3 : (W2.alloc (.cells (wrV m 1048576) t2)).heap.size = W.heap.size + 3 := by simp [s2]
 obtain ⟨W3, hW3⟩ : ∃ W3, W3 = W2.alloc (.cells (wrV m 1048576) t2) := ⟨_, rfl⟩
 rw [← hW3] at b3 r3 s3 ⊢
 clear hW3
 have r4 := r3.on ((Below.refl W3.heap.size W3).alloc (Nat.le_refl _) (.cells (secsV (W.heap.size + 2)) t3))
 have b4 := thenB b3 (hal W3 (.cells (secsV (W.heap.size + 2)) t3))
 have o4 : Out (W.heap.size + 1) W.heap.size (.slice (some ⟨W.heap.size, 0, none⟩) 8 8) headB (W3.alloc (.cells (secsV (W.heap.size + 2)) t3)) :=
  ⟨Go.Proofs.YtepbjkkakfpjgaaGreatDoor.keep b4 c2, (b4.frozen (p := ⟨W.heap.size + 1, 0, none⟩) (by show W.heap.size + 1 < W2.heap.size; omega)).trans f2, by simp [Value.ownBlock], Nat.le_refl _, by simp; omega, fun q hq => by simp [Value.ownBlock] at hq; subst hq; simp; omega, ⟨_, 8, 8, rfl, rfl, by2.below b4, fun e => by cases e⟩, .inr ⟨_, rfl⟩⟩
 have a4 := fun j hj => secs_at (W.heap.size + 2) W3 t3 j hj
 rw [s3] at a4
 exact ⟨o4, r4, a4, by omega, by omega, by omega, by simp [Value.ownBlock], by simp [Value.ownBlock], fun _ _ => by simp [Value.ownBlock], by simp [Value.ownBlock], by simp [Value.ownBlock], by omega⟩
theorem St.begin {w W : World} {m : Md} (t1 t2 t3 : TypeId) (hB : Below w.heap.size w W) (hl : w.heap.size < W.heap.size) :
  St w m (W.heap.size + 1) W.heap.size (W.heap.size + 1 + 1) (W.heap.size + 1 + 1 + 1) (W.heap.size + 1 + 1 + 1) (.slice (some ⟨W.heap.size, 0, none⟩) 8 8) headB (.slice none 0 0) []
   ((((W.alloc (.cells #[.int .u8 0, .int .u8 97, .int .u8 115, .int .u8 109, .int .u8 1, .int .u8 0, .int .u8 0, .int .u8 0] 5 (8, 9))).alloc (.cells #[.slice (some ⟨W.heap.size, 0, none⟩) 8 8] t1)).alloc (.cells (wrV m 1048576) t2)).alloc (.cells (secsV (W.heap.size + 1 + 1)) t3)) := St.start t1 t2 t3 hB hl
theorem St.full {w : World} {m : Md} {go Bo gw Bw s : Nat} {vo vw : Value} {os zs : List Int} {W : World} (h : St w m go Bo gw Bw s vo os vw zs W) : ∃ a n c, vo = .slice a n c ∧ os.length = n ∧ Bytes W a os ∧ (a = none → c = 0) := h.o.byt
theorem secB_bytes {w0 : World} {m : Md} (FI : Fine w0 m) (k : Nat) : ∀ z ∈ secB m k, 0 ≤ z ∧ z < 256 := by
 have F := facts_of FI.chk
 have lst : ∀ {α : Type} (f : α → List Int) (l : List α), (∀ x ∈ l, ∀ z ∈ f x, 0 ≤ z ∧ z < 256) → ∀ z ∈ lstB f l, 0 ≤ z ∧ z < 256 := by
  intro α f l hf z hz
  unfold lstB at hz
  split at hz
  ·simp at hz
  ·rcases List.mem_append.1 hz with h | h
   ·exact encU_bytes _ z h
   ·obtain ⟨x, hx, hzx⟩ := List.mem_flatMap.1 h
    exact hf x hx z hzx
 have app : ∀ (a b : List Int), (∀ z ∈ a, 0 ≤ z ∧ z < 256) → (∀ z ∈ b, 0 ≤ z ∧ z < 256) → ∀ z ∈ a ++ b, 0 ≤ z ∧ z < 256 := fun a b ha hb z hz => (List.mem_append.1 hz).elim (ha z) (hb z)
 have cns : ∀ (a : Int) (b : List Int), (0 ≤ a ∧ a < 256) → (∀ z ∈ b, 0 ≤ z ∧ z < 256) → ∀ z ∈ a :: b, 0 ≤ z ∧ z < 256 := fun a b ha hb z hz => by
  rcases List.mem_cons.1 hz with rfl | h
  ·exact ha
  ·exact hb z h
 have ins : ∀ l ∈ m.codes, ∀ z ∈ insB l, 0 ≤ z ∧ z < 256 := fun l hl => insB_bytes (FI.at_.ls l hl) (F.ck l hl)
 match k with
 | 0 => simp only [secB]; exact lst tyB m.ty (fun x _ => Kind.typeL_bytes _ _)
 | 1 => simp only [secB]; exact lst impB m.im (fun x _ => app _ _ (nameB_bytes _) (app _ _ (nameB_bytes _) (cns _ _ (by omega) (encU_bytes _))))
 | 2 => simp only [secB]; exact lst fnB m.fu (fun x _ => encU_bytes _)
 | 3 => simp only [secB]; exact lst tbB m.tb (fun x _ => cns _ _ (by omega) (Kind.limL_bytes _ _ _))
 | 4 => simp only [secB]; exact lst meB m.me (fun x _ => Kind.limL_bytes _ _ _)
 | 5 => simp only [secB]; exact lst glB m.gl (fun x hx => cns _ _ (by omega) (cns _ _ (by split <;> omega) (ins _ (mem_gl hx))))
 | 6 => simp only [secB]; exact lst exB m.ex (fun x hx => app _ _ (nameB_bytes _) (cns _ _ (by have := F.ex x hx; omega) (encU_bytes _)))
 | 7 =>
  simp only [secB]
  split
  ·exact encU_bytes _
  ·simp
 | 8 => simp only [secB]; exact lst elB m.el (fun x hx => cns _ _ (by omega) (app _ _ (ins _ (mem_el hx)) (app _ _ (encU_bytes _) (fun z hz => by obtain ⟨y, _, hy⟩ := List.mem_flatMap.1 hz; exact encU_bytes _ z hy))))
 | 9 => simp only [secB]; exact lst coB m.fu (fun x hx => app _ _ (encU_bytes _) (app _ _ (Body.loc_bytes _) (ins _ (mem_fu hx))))
 | 10 => simp only [secB]; exact lst daB m.da (fun x hx => cns _ _ (by omega) (app _ _ (ins _ (mem_da hx)) (app _ _ (encU_bytes _) (FI.siz.db x hx))))
 | n + 11 => simp [secB]
theorem upto_bytes {w0 : World} {m : Md} (FI : Fine w0 m) : ∀ (k : Nat), k ≤ 11 → ∀ z ∈ uptoB m k, 0 ≤ z ∧ z < 256
 | 0, _ => by
  intro z hz
  unfold uptoB headB at hz
  simp at hz
  omega
 | k + 1, hk => by
  intro z hz
  rw [upto_succ] at hz
  rcases List.mem_append.1 hz with h | h
  ·exact upto_bytes FI k (by omega) z h
  ·unfold pieceB at h
   split at h
   ·simp at h
   ·rcases List.mem_cons.1 h with rfl | h
    ·omega
    ·rcases List.mem_append.1 h with h | h
     ·exact encU_bytes _ z h
     ·exact secB_bytes FI k z h
theorem cut_nil {k : Nat} {m : Md} {ys : List Int} (h : Cut 1048576 (secB m k) ys) (hl : ys.length = 0) : secB m k = [] := by
 rcases h.2 with e | e
 ·rw [← e]; exact List.eq_nil_of_length_eq_zero hl
 ·omega
theorem upto_cut {m : Md} {k q : Nat} {ys : List Int} (hU : uptoB m (k + 1) = (uptoB m k ++ [((k + 1 : Nat) : Int)]) ++ (encU (secB m k).length ++ secB m k)) (hc : Cut 1048576 (secB m k) ys) (hq : ys.length = q) :
  (1048576 < (uptoB m k ++ [(k : Int) + 1] ++ (encU q ++ ys)).length → 1048576 < (uptoB m (k + 1)).length) ∧ ((uptoB m k ++ [(k : Int) + 1] ++ (encU q ++ ys)).length ≤ 1048576 → uptoB m k ++ [(k : Int) + 1] ++ (encU q ++ ys) = uptoB m (k + 1)) := by
 rcases hc.2 with e | e
 ·have h : uptoB m k ++ [(k : Int) + 1] ++ (encU q ++ ys) = uptoB m (k + 1) := by rw [hU, ← e, hq]; simp
  exact ⟨fun g => by rw [← h]; exact g, fun _ => h⟩
 ·have h1 := hc.1.length_le
  have h2 := congrArg List.length hU
  simp only [List.length_append, List.length_cons, List.length_nil] at h2 ⊢
  exact ⟨fun _ => by omega, fun g => by omega⟩
set_option maxRecDepth 100000 in
set_option maxHeartbeats 8000000 in
theorem Module_any (m : Md) (w : World) (h : Ready w m) (ht : m.check = 0 → FitAll m 1048576) :
  Calls Tryz.prog 10 #[.agg m.v] w (ModP w (modR m).1 (modR m).2) := by
 have hb0 := (Below.refl w.heap.size w).alloc (Nat.le_refl _) (.cells m.v 32)
 have CK := hid (ModCheck_any m _ (h.nam.below hb0) (h.tab.below hb0) (h.at_.on hb0) h.few)
 have HB := hid hb0
 have X0 := BoxAt.made w m.v 32
 have HX := hid X0
 by_cases hc : m.check = 0
 ·rw [hc] at CK
  have FI := hid (h.fine hc)
  have FA := hid (ht hc)
  have EL := hid (fun (k : Nat) (hk : k ≤ 11) (hl : 1048576 < (uptoB m k).length) => show modR m = ([], 3) by unfold modR; rw [if_neg (by simpa using hc), if_pos (upto_long hk hl)])
  have EN := hid (fun (hl : (uptoB m 11).length ≤ 1048576) => show modR m = (uptoB m 11, 0) by unfold modR modB; rw [if_neg (by simpa using hc), if_neg (by omega)])
  have SK := hid (fun (k : Nat) (hk : k < 11) (W : World) (g B : Nat) (v : Value) (H : Wr w m g B 1048576 v [] W) => sec_any k hk w W m g B v 1048576 FI.out H FA.out)
  have ST := hid (fun (W : World) (hb : Below w.heap.size w W) (hl : w.heap.size < W.heap.size) => St.begin (m := m) 76 79 1 hb hl)
  have HLT := hid (show w.heap.size < (w.alloc (.cells m.v 32)).heap.size by simp)
  have SA := hid (fun g w => sections_any g w)
  have PN := hid (fun k => piece_none (m := m) (k := k))
  have PS := hid (fun k => piece_some (m := m) (k := k))
  have UB := hid (fun k hk => upto_bytes FI.out k hk)
  have SB := hid (fun k => secB_bytes FI.out k)
  have SF := hid (fun (k : Nat) (hk : k < 11) => secB_few (k := k) FA.out hk)
  have UM := hid (fun (k : Nat) => show (uptoB m k).length ≤ (uptoB m (k + 1)).length from upto_mono m 1 k)
  clear h ht hc FI FA hb0
  unfold Md.v at CK HB HX X0 HLT ⊢
  obtain ⟨x0, x1, x2, x3, x4, x5, x6, x7, x8, x9, x10⟩ := Mod.cells11 X0
  clear X0
  go_enter Tryz.func10, Tryz.ntmps10
  go_wp2_with fail
  refine CK.out.mono ?_
  rintro e1 w1 ⟨rfl, hb⟩
  have HB1 := hid (HB.out.trans (hb.mono HB.out.size))
  have HX1 := hid (HX.out.keep hb)
  have HS := hid (ST.out w1 HB1.out (Nat.lt_of_lt_of_le HLT.out hb.size))
  clear CK hb ST HLT HB HX x0 x1 x2 x3 x4 x5 x6 x7 x8 x9 x10
  obtain ⟨x0, x1, x2, x3, x4, x5, x6, x7, x8, x9, x10⟩ := Mod.cells11 HX1.out
  have y0 := Lib.cell?_alloc_marked (.cells #[.int .u8 0, .int .u8 97, .int .u8 115, .int .u8 109, .int .u8 1, .int .u8 0, .int .u8 0, .int .u8 0] 5 (8, 9)) x0
  have z0 := keepA y0 (.cells #[.slice (some ⟨w1.heap.size, 0, none⟩) 8 8] 76)
  have y1 := Lib.cell?_alloc_marked (.cells #[.int .u8 0, .int .u8 97, .int .u8 115, .int .u8 109, .int .u8 1, .int .u8 0, .int .u8 0, .int .u8 0] 5 (8, 9)) x1
  have z1 := keepA y1 (.cells #[.slice (some ⟨w1.heap.size, 0, none⟩) 8 8] 76)
  have y2 := Lib.cell?_alloc_marked (.cells #[.int .u8 0, .int .u8 97, .int .u8 115, .int .u8 109, .int .u8 1, .int .u8 0, .int .u8 0, .int .u8 0] 5 (8, 9)) x2
  have z2 := keepA y2 (.cells #[.slice (some ⟨w1.heap.size, 0, none⟩) 8 8] 76)
  have y3 := Lib.cell?_alloc_marked (.cells #[.int .u8 0, .int .u8 97, .int .u8 115, .int .u8 109, .int .u8 1, .int .u8 0, .int .u8 0, .int .u8 0] 5 (8, 9)) x3
  have z3 := keepA y3 (.cells #[.slice (some ⟨w1.heap.size, 0, none⟩) 8 8] 76)
  have y4 := Lib.cell?_alloc_marked (.cells #[.int .u8 0, .int .u8 97, .int .u8 115, .int .u8 109, .int .u8 1, .int .u8 0, .int .u8 0, .int .u8 0] 5 (8, 9)) x4
  have z4 := keepA y4 (.cells #[.slice (some ⟨w1.heap.size, 0, none⟩) 8 8] 76)
  have y5 := Lib.cell?_alloc_marked (.cells #[.int .u8 0, .int .u8 97, .int .u8 115, .int .u8 109, .int .u8 1, .int .u8 0, .int .u8 0, .int .u8 0] 5 (8, 9)) x5
  have z5 := keepA y5 (.cells #[.slice (some ⟨w1.heap.size, 0, none⟩) 8 8] 76)
  have y6 := Lib.cell?_alloc_marked (.cells #[.int .u8 0, .int .u8 97, .int .u8 115, .int .u8 109, .int .u8 1, .int .u8 0, .int .u8 0, .int .u8 0] 5 (8, 9)) x6
  have z6 := keepA y6 (.cells #[.slice (some ⟨w1.heap.size, 0, none⟩) 8 8] 76)
  have y7 := Lib.cell?_alloc_marked (.cells #[.int .u8 0, .int .u8 97, .int .u8 115, .int .u8 109, .int .u8 1, .int .u8 0, .int .u8 0, .int .u8 0] 5 (8, 9)) x7
  have z7 := keepA y7 (.cells #[.slice (some ⟨w1.heap.size, 0, none⟩) 8 8] 76)
  have y8 := Lib.cell?_alloc_marked (.cells #[.int .u8 0, .int .u8 97, .int .u8 115, .int .u8 109, .int .u8 1, .int .u8 0, .int .u8 0, .int .u8 0] 5 (8, 9)) x8
  have z8 := keepA y8 (.cells #[.slice (some ⟨w1.heap.size, 0, none⟩) 8 8] 76)
  have y9 := Lib.cell?_alloc_marked (.cells #[.int .u8 0, .int .u8 97, .int .u8 115, .int .u8 109, .int .u8 1, .int .u8 0, .int .u8 0, .int .u8 0] 5 (8, 9)) x9
  have z9 := keepA y9 (.cells #[.slice (some ⟨w1.heap.size, 0, none⟩) 8 8] 76)
  have y10 := Lib.cell?_alloc_marked (.cells #[.int .u8 0, .int .u8 97, .int .u8 115, .int .u8 109, .int .u8 1, .int .u8 0, .int .u8 0, .int .u8 0] 5 (8, 9)) x10
  have z10 := keepA y10 (.cells #[.slice (some ⟨w1.heap.size, 0, none⟩) 8 8] 76)
  have hcv : _ = Result.ok _ (w1.alloc (.cells #[.int .u8 0, .int .u8 97, .int .u8 115, .int .u8 109, .int .u8 1, .int .u8 0, .int .u8 0, .int .u8 0] 5 (8, 9))) := Lib.run_convert_bytes_const w1 76 5 #[.int .u8 0, .int .u8 97, .int .u8 115, .int .u8 109, .int .u8 1, .int .u8 0, .int .u8 0, .int .u8 0] 8 8 Tryz.underlying76 Tryz.underlying5
  go_wp2_with fail
  refine (SA.out _ _).mono ?_
  rintro e2 w2 ⟨rfl, rfl⟩
  unfold wrV at HS
  clear SA hcv x0 x1 x2 x3 x4 x5 x6 x7 x8 x9 x10 y0 z0 y1 z1 y2 z2 y3 z3 y4 z4 y5 z5 y6 z6 y7 z7 y8 z8 y9 z9 y10 z10
  go_wp2
  go_loopw [22] (fun vi wr => ∃ (k : Nat) (vo vw : Value) (zs : List Int), vi = .int .i64 k ∧ k ≤ 11 ∧ Hid ((uptoB m k).length ≤ 1048576) ∧ Hid (St w m (w1.heap.size + 1) w1.heap.size (w1.heap.size + 1 + 1) (w1.heap.size + 1 + 1 + 1) (w1.heap.size + 1 + 1 + 1) vo (uptoB m k) vw zs wr)) (fun vi _ => 11 - (intOf vi).toNat)
  case atStart => exact ⟨0, _, _, _, rfl, Nat.zero_le _, hid (show (8 : Nat) ≤ 1048576 by omega), HS⟩
  case round =>
   clear HS
   obtain ⟨k, vo, vw, zs, rfl, hk, HL, HT⟩ := hrel
   by_cases hlt : k < 11
   ·have hki : (k : Int) < 11 := by omega
    have eg := sec_enters k hlt
    have c := HT.out.arr k hlt
    obtain ⟨G, hG⟩ : ∃ G, secF k = G := ⟨_, rfl⟩
    have SK1 := hid (SK.out k hlt)
    rw [hG] at eg c SK1
    clear hG
    obtain ⟨nz, hnz⟩ : ∃ n, zs.length = n := ⟨_, rfl⟩
    have ho := HT.out.wr.buf.own
    obtain ⟨aw, cw, rfl⟩ := ho.sliceN hnz
    have d := HT.out.wr.buf.c
    have f := HT.out.wr.buf.f
    have HC := hid HT.out.clear
    have CS := hid (SK1.out _ _ _ _ HC.out.wr)
    clear ho hnz HT SK1
    go_wp2_with fail
    refine CS.out.mono ?_
    rintro e3 w3 ⟨ys, hys, rfl, v3, hb3⟩
    have HYS := hid hys
    have H3 := hid (HC.out.write hb3)
    have hn3 := hb3.own
    obtain ⟨q, hq⟩ : ∃ n, ys.length = n := ⟨_, rfl⟩
    have HQ := hid hq
    have HYB := hid (fun z (hz : z ∈ ys) => SB.out k z (hys.1.subset hz))
    have HYL := hid (show q ≤ 1000000000 by have h1 := hys.1.length_le; have h2 := SF.out k hlt; omega)
    obtain ⟨a3, c3, rfl⟩ := hn3.sliceN hq
    have d3 := H3.out.wr.buf.c
    clear CS HC hb3 hn3 hq c d f hys
    by_cases hq0 : q = 0
    ·subst hq0
     have HU := hid (PN.out k (cut_nil HYS.out HQ.out))
     obtain ⟨ao, no, co, rfl, hno, hbo, _⟩ := H3.out.o.byt
     have c0 := H3.out.o.c
     have hno2 : no ≤ 1048576 := by have := HL.out; omega
     have hni : ¬ (1048576 : Int) < (no : Int) := by omega
     clear hno hbo
     go_wp2
     go_roundw
     case rel => exact ⟨k + 1, _, _, _, by go_num, by omega, hid (by rw [HU.out]; exact HL.out), hid (by rw [HU.out]; exact H3.out)⟩
     case measure => simp [intOf]; omega
    ·have hqi : (0 : Int) < (q : Int) := by omega
     have HU := hid (PS.out k (fun e => hq0 (by have h1 := HYS.out.1.length_le; rw [e, List.length_nil] at h1; have h2 := HQ.out; omega)))
     have hw : IntKind.u8.wrap ((k : Int) + 1) = (k : Int) + 1 := by rw [IntKind.wrap_u8]; omega
     have HUK := hid (UB.out k hk)
     have CB := hid (byte_out _ _ vo (uptoB m k) ((k : Int) + 1) w3 H3.out.o (by omega) (by have := HL.out; omega))
     go_wp2_with fail
     refine CB.out.mono ?_
     rintro e4 w4 ⟨rfl, v4, hb4⟩
     have HB4 := hid hb4
     have H4 := hid (H3.out.out hb4 (fun z hz => by
       rcases List.mem_append.1 hz with h | h
       · exact HUK.out z h
       · simp at h; omega) (by rw [List.length_append]; have := HL.out; simp; omega))
     have d4 := H4.out.wr.buf.c
     have CZ := hid (sized_any _ _ v4 (uptoB m k ++ [(k : Int) + 1]) ys a3 q c3 w4 hb4.again HQ.out (H4.out.wr.buf.own.bytes HYB.out (by have := HYL.out; have := HQ.out; omega)) (by rw [List.length_append]; have := HL.out; have := HYL.out; have := HQ.out; simp; omega) (fun b off ha _ hs => by
       subst ha
       rcases hs with e | e
       · exact H4.out.a2 (by rw [← e]; rfl)
       · exact H4.out.a3 b e rfl))
     clear CB hb4 d3 hw
     go_wp2_with fail
     refine CZ.out.mono ?_
     rintro e5 w5 ⟨rfl, v5, hb5⟩
     have HX5 := hid (fun z (hz : z ∈ uptoB m k ++ [(k : Int) + 1] ++ (encU q ++ ys)) => show 0 ≤ z ∧ z < 256 by
       rcases List.mem_append.1 hz with h | h
       · rcases List.mem_append.1 h with h | h
         · exact HUK.out z h
         · simp at h; omega
       · rcases List.mem_append.1 h with h | h
         · exact encU_bytes _ z h
         · exact HYB.out z h)
     have HXB := hid (upto_cut HU.out HYS.out HQ.out).1
     have HXE := hid (upto_cut HU.out HYS.out HQ.out).2
     obtain ⟨X, hX⟩ : ∃ X, uptoB m k ++ [(k : Int) + 1] ++ (encU q ++ ys) = X := ⟨_, rfl⟩
     have hXL := congrArg List.length hX
     rw [hX] at hb5 HX5 HXB HXE
     obtain ⟨N, hN⟩ : ∃ n, X.length = n := ⟨_, rfl⟩
     have HN := hid hN
     have HLT5 := hid (show N ≤ 1100000000 by
       simp only [List.length_append, List.length_cons, List.length_nil] at hXL
       have h1 := HL.out
       have h2 := HYL.out
       have h3 := HQ.out
       have h4 : (encU q).length ≤ 5 := by rw [encU_length]; exact (sizeU_pos q).2
       omega)
     have H5 := hid (H4.out.out hb5 HX5.out (by have := HLT5.out; have := HN.out; omega))
     have ho5 := hb5.own
     obtain ⟨a5, c5, rfl⟩ := ho5.sliceN hN
     have c0 := H5.out.o.c
     clear CZ hb5 ho5 hN d4 H4 H3 hX hXL HYS HYB HYL HU
     by_cases hbig : 1048576 < N
     ·have hbi : (1048576 : Int) < (N : Int) := by omega
      have HR := hid (EL.out (k + 1) (by omega) (HXB.out (by rw [HN.out]; exact hbig)))
      go_wp2
      exact bodyPost_ret (v := .tuple #[.slice none 0 0, .int .i64 3]) (by simp [results, Tryz.results10, go_sem]) rfl (by rw [HR.out]; exact modP_none H5.out.wr.low)
     ·have hbi : ¬ (1048576 : Int) < (N : Int) := by omega
      go_wp2
      go_roundw
      case rel => exact ⟨k + 1, _, _, _, by go_num, by omega, hid (by rw [← HXE.out (by rw [HN.out]; omega), HN.out]; omega), hid (by rw [← HXE.out (by rw [HN.out]; omega)]; exact H5.out)⟩
      case measure => simp [intOf]; omega
   ·obtain rfl : k = 11 := by omega
    have HR := hid (EN.out HL.out)
    obtain ⟨ao, no, co, rfl, hno, hbo, h0⟩ := HT.out.o.byt
    have c0 := HT.out.o.c
    have HN := hid hno
    have HBO := hid hbo
    have H0 := hid h0
    clear hno hbo h0
    go_wp2
    exact bodyPost_ret (v := .tuple #[.slice ao no co, .int .i64 0]) (by simp [results, Tryz.results10, go_sem]) rfl (by rw [HR.out]; exact ⟨ao, no, co, rfl, HN.out, HBO.out, H0.out, HT.out.wr.low⟩)
 ·have HE : Hid (modR m = ([], m.check)) := by show _ = _; unfold modR; rw [if_pos hc]
  rw [HE.out]
  obtain ⟨q, hq⟩ : ∃ q, m.check = q := ⟨_, rfl⟩
  rw [hq] at CK hc ⊢
  have hq1 : (q == 0) = false := by simpa using hc
  have hq2 : (q != 0) = true := by simpa using hc
  clear h ht HE hb0 hq
  unfold Md.v at CK HB HX X0 ⊢
  obtain ⟨x0, x1, x2, x3, x4, x5, x6, x7, x8, x9, x10⟩ := Mod.cells11 X0
  clear X0
  go_enter Tryz.func10, Tryz.ntmps10
  go_wp2_with fail
  refine CK.out.mono ?_
  rintro e1 w1 ⟨rfl, hb⟩
  have HB1 := hid (HB.out.trans (hb.mono HB.out.size))
  clear CK hb x0 x1 x2 x3 x4 x5 x6 x7 x8 x9 x10
  go_wp2
  exact bodyPost_ret (v := .tuple #[.slice none 0 0, .int .i64 q]) (by simp [results, Tryz.results10, go_sem]) rfl (modP_none HB1.out)
end Go.Proofs.YtepbjkkakfpjgaaGreatDoor.Enc
namespace Go.Proofs.YtepbjkkakfpjgaaGreatDoor.Enc
open Go.RowKit Leb Go.Proofs.YtepbjkkakfpjgaaGreatDoor.Instr Go.Proofs.YtepbjkkakfpjgaaGreatDoor.Mod
open Go.Proofs.YtepbjkkakfpjgaaGreatDoor.Body (encL codeL PutP)
set_option linter.unusedVariables false
set_option linter.unusedSimpArgs false
section
variable {ops : Array Oper} {rest : List Oper} {o : Oper} {act : Act} {Q : Exit → Act → World → Prop}
theorem append_new (hgd : o.guard = none) (s x : Operand) (ho : o.op = .call { callee := .builtin .append, args := #[s, x], argTypes := #[35, 35] })
  {W0 wr : World} {v : Value} {xs ys : List Int} (hs : act.eval s = v) (hA : Acc W0 v xs wr)
  (a2 : Option Addr) (n c : Nat) (hx : act.eval x = .slice a2 n c) (hn : ys.length = n) (h0 : 0 < n) (hy : Bytes wr a2 ys) (hl : xs.length + ys.length ≤ 140737488355328)
  (h : ∀ v' w', Acc W0 v' (xs ++ ys) w' → Touch (fun j => v.ownBlock = some j) wr w' → (∀ g, v'.ownBlock = some g → v.ownBlock = some g ∨ g = wr.heap.size) → wpList Tryz.prog ops Q rest (act.put o.dst v') w') :
  wpList Tryz.prog ops Q (o :: rest) act wr := by
 obtain ⟨i0, hi, hz0, hz1, hz2⟩ := info_parts infoByte
 subst hn
 rcases hy.at_ with h2 | ⟨b, off, rfl, hc⟩
 ·subst h2; simp at h0
 refine wpList_append_lies _ hgd s x 35 ho W0.heap.size 5 i0 (.int .u8 0) 1 1 Tryz.underlying35 hi hz0 hz1 hz2 rfl (by decide) v xs.length _ hs hA.own ⟨b, off, none⟩ ys.length c (ys.map (Value.int .u8)) hx (by simp)
  ?_ ?_ h0 ?_ ?_ hA.base wr.heap.size rfl (fun g cap w' hown' hgrow hat _ => h _ _ ⟨?_, hA.bel.grown hgrow hA.base (fun k hk => (World.ownsRow.lt hA.own k hk).1), ?_⟩ (Touch.of_grown hgrow) (fun q hq => ?_))
 ·intro j u hj
  have hjl : j < ys.length := by
   rcases Nat.lt_or_ge j ys.length with h | h
   ·exact h
   ·rw [List.getElem?_eq_none (by simpa using h)] at hj; cases hj
  have hplain : (⟨b, off, none⟩ : Addr).add j = ⟨b, off + j, none⟩ := by unfold Addr.add; split <;> simp_all
  rw [hplain, hc j hjl]
  rw [← hj, getD_lt hjl]; simp [hjl]
 ·intro u hu
  obtain ⟨n, _, rfl⟩ := List.mem_map.1 hu
  rfl
 ·unfold maxLen; omega
 ·omega
 ·unfold Own; rw [List.length_append, List.map_append]; exact hown'
 ·have := hgrow.size; have := hA.base; omega
 ·simp only [Value.ownBlock, Option.some.injEq] at hq
  subst hq
  exact hat
end
theorem lit_one (W : World) (z : Int) (hz : 0 ≤ z ∧ z < 256) (t : TypeId) : Bytes (W.alloc (.cells #[.int .u8 z] t)) (some ⟨W.heap.size, 0, none⟩) [z] := by
 refine ⟨fun y hy => ?_, by simp, .inr ⟨W.heap.size, 0, rfl, fun i hi => ?_⟩⟩
 ·rw [List.mem_singleton] at hy; subst hy; exact hz
 ·obtain rfl : i = 0 := by simpa using hi
  simp [go_sem]
theorem own_lit8 (W : World) : Own W.heap.size (W.alloc (.cells #[.int .u8 0, .int .u8 97, .int .u8 115, .int .u8 109, .int .u8 1, .int .u8 0, .int .u8 0, .int .u8 0] 5)) (.slice (some ⟨W.heap.size, 0, none⟩) 8 8) headB := by
 refine ⟨rfl, .inr ⟨W.heap.size, 8, #[.int .u8 0, .int .u8 97, .int .u8 115, .int .u8 109, .int .u8 1, .int .u8 0, .int .u8 0, .int .u8 0], rfl, Nat.le_refl _, ?_, Nat.le_refl _, by unfold maxLen; omega, rfl, rfl⟩⟩
 show (W.heap.push _)[W.heap.size]? = _
 simp
theorem upto_few {m : Md} {most : Int} (h : FitAll m most) : ∀ (k : Nat), k ≤ 11 → (uptoB m k).length ≤ 8 + k * 1000000010
 | 0, _ => by show (headB ++ []).length ≤ _; simp [headB]
 | k + 1, hk => by
  have h1 := upto_few h k (by omega)
  have h2 := secB_few (k := k) h (by omega)
  have h3 := encU_few ((secB m k).length : Int)
  rw [upto_succ, List.length_append]
  have h4 : (pieceB m k).length ≤ 1000000010 := by
   unfold pieceB
   split
   ·simp
   ·rw [List.length_cons, List.length_append]; omega
  omega
theorem modR_no {m : Md} (hc : m.check ≠ 0) : modR m = ([], m.check) := by unfold modR; rw [if_pos hc]
set_option maxRecDepth 100000 in
set_option maxHeartbeats 8000000 in
theorem refModule_any (m : Md) (w : World) (h : Ready w m) (hna : ∀ s ∈ m.names, s.size ≤ 1000000) (ht : m.check = 0 → FitAll m 0) :
  Calls Tryz.prog 14 #[.agg m.v] w (ModP w (modR m).1 (modR m).2) := by
 have hb0 := (Below.refl w.heap.size w).alloc (Nat.le_refl _) (.cells m.v 32)
 have CK := hid (refChk_any m _ (h.at_.on hb0) h.few hna)
 have HB := hid hb0
 have X0 := BoxAt.made w m.v 32
 have HX := hid X0
 by_cases hc : m.check = 0
 rotate_left
 ·rw [modR_no hc]
  obtain ⟨ck, hck⟩ : ∃ z, m.check = z := ⟨_, rfl⟩
  rw [hck] at CK hc ⊢
  have q1 : (ck == 0) = false := by simpa using hc
  have q2 : (ck != 0) = true := by simpa using hc
  clear h ht hb0 hck hna hc
  unfold Md.v at CK HB HX X0 ⊢
  obtain ⟨x0, x1, x2, x3, x4, x5, x6, x7, x8, x9, x10⟩ := Mod.cells11 X0
  clear X0
  go_enter Tryz.func14, Tryz.ntmps14
  go_wp2_with fail
  refine CK.out.mono ?_
  rintro e1 w1 ⟨rfl, hb⟩
  have HB1 := hid (HB.out.trans (hb.mono HB.out.size))
  have HX1 := hid (HX.out.keep hb)
  clear CK hb
  clear x0 x1 x2 x3 x4 x5 x6 x7 x8 x9 x10
  obtain ⟨x0, x1, x2, x3, x4, x5, x6, x7, x8, x9, x10⟩ := Mod.cells11 HX1.out
  go_wp2
  exact bodyPost_ret (v := .tuple #[.slice none 0 0, .int .i64 ck]) (by simp [results, Tryz.results14, go_sem]) rfl (modP_none HB1.out)
 rw [hc] at CK
 have HH := hid h
 have HNA := hid hna
 have HTT := hid ht
 have HC := hid hc
 have FI := hid (h.fine hc)
 have FA := hid (ht hc)
 have EL := hid (fun (hl : 1048576 < (uptoB m 11).length) => show modR m = ([], 3) by unfold modR; rw [if_neg (by simpa using hc), if_pos (show 1048576 < (modB m).length from hl)])
 have EN := hid (fun (hl : (uptoB m 11).length ≤ 1048576) => show modR m = (uptoB m 11, 0) by unfold modR modB; rw [if_neg (by simpa using hc), if_neg (by omega)])
 have LF := hid (fun (k : Nat) (hk : k < 11) (W : World) => left_any m k hk W)
 have SC := hid (fun (k : Nat) (hk : k < 11) (W : World) (hb : Below w.heap.size w W) => refSection_any m ((k : Int) + 1) W (HH.out.on hb) HNA.out (by omega) HTT.out)
 have SR := hid (fun (k : Nat) (hk : k < 11) => show secR m ((k : Int) + 1) = (secB m k, 0) by unfold secR; rw [if_neg (by simpa using hc), if_neg (by omega)]; simp)
 have PN := hid (fun k => piece_none (m := m) (k := k))
 have PS := hid (fun k => piece_some (m := m) (k := k))
 have SB := hid (fun k => secB_bytes FI.out k)
 have UB := hid (fun k hk => upto_bytes FI.out k hk)
 have SF := hid (fun (k : Nat) (hk : k < 11) => secB_few (k := k) FA.out hk)
 have LS := hid (fun (k : Nat) (hk : k < 11) => left_sec m hk)
 have UL := hid (fun (k : Nat) (hk : k ≤ 11) => upto_few FA.out k hk)
 clear h ht hb0 hna hc
 unfold Md.v at CK HB HX X0 LF SC ⊢
 obtain ⟨x0, x1, x2, x3, x4, x5, x6, x7, x8, x9, x10⟩ := Mod.cells11 X0
 clear X0
 go_enter Tryz.func14, Tryz.ntmps14
 go_wp2_with fail
 refine CK.out.mono ?_
 rintro e1 w1 ⟨rfl, hb⟩
 have HB1 := hid (HB.out.trans (hb.mono HB.out.size))
 have HX1 := hid (HX.out.keep hb)
 clear CK hb
 clear x0 x1 x2 x3 x4 x5 x6 x7 x8 x9 x10
 obtain ⟨x0, x1, x2, x3, x4, x5, x6, x7, x8, x9, x10⟩ := Mod.cells11 HX1.out
 have A0 := hid (show Acc w1 (.slice (some ⟨w1.heap.size, 0, none⟩) 8 8) (uptoB m 0) (w1.alloc (.cells #[.int .u8 0, .int .u8 97, .int .u8 115, .int .u8 109, .int .u8 1, .int .u8 0, .int .u8 0, .int .u8 0] 5)) from ⟨by have := own_lit8 w1; simpa [uptoB] using this, (Below.refl _ _).alloc (Nat.le_refl _) _, by simp⟩)
 clear x0 x1 x2 x3 x4 x5 x6 x7 x8 x9 x10
 go_wp2
 go_loopw [5, 6, 7, 8] (fun vo vi y7 y8 wr => ∃ k : Nat, vi = .int .i64 ((k : Int) + 1) ∧ k ≤ 11 ∧ Hid (Acc w1 vo (uptoB m k) wr)) (fun _ vi _ _ _ => 12 - (intOf vi).toNat)
 case atStart => exact ⟨0, rfl, by omega, A0⟩
 case round =>
  clear A0
  obtain ⟨k, rfl, hk, AK⟩ := hrel
  by_cases hlt : k < 11
  ·have hki : (k : Int) + 1 ≤ 11 := by omega
   have HXK := hid (fun (X : World) (h : Below w1.heap.size w1 X) => HX1.out.keep h)
   have X1 := HXK.out _ AK.out.bel
   obtain ⟨x0, x1, x2, x3, x4, x5, x6, x7, x8, x9, x10⟩ := Mod.cells11 X1
   clear X1
   have L := hid (LF.out k hlt)
   have LE := hid (LS.out k hlt)
   by_cases hne : secB m k = []
   ·rw [LE.out, hne] at L
    have HU := hid (PN.out k hne)
    go_wp2_with fail
    refine (L.out _).mono ?_
    rintro e2 w2 ⟨rfl, hb⟩
    have A2 := hid (AK.out.call hb)
    clear hb AK L
    clear x0 x1 x2 x3 x4 x5 x6 x7 x8 x9 x10
    go_wp2
    go_roundw
    case rel => exact ⟨k + 1, by go_num, by omega, by rw [HU.out]; exact A2⟩
    case measure => simp [intOf]; omega
   rw [LE.out, decide_eq_false hne] at L
   have HU := hid (PS.out k hne)
   have HUL := hid (UL.out k (by omega))
   go_wp2_with fail
   refine (L.out _).mono ?_
   rintro e2 w2 ⟨rfl, hb⟩
   have A2 := hid (AK.out.call hb)
   have BB2 := hid (HB1.out.trans (A2.out.bel.mono HB1.out.size))
   clear hb AK L
   clear x0 x1 x2 x3 x4 x5 x6 x7 x8 x9 x10
   have X2 := HXK.out _ A2.out.bel
   obtain ⟨x0, x1, x2, x3, x4, x5, x6, x7, x8, x9, x10⟩ := Mod.cells11 X2
   clear X2
   have S := hid (SC.out k hlt w2 BB2.out)
   rw [SR.out k hlt] at S
   dsimp only at S
   have HVO := hid (fun q hq => (World.ownsRow.lt A2.out.own q hq).2)
   obtain ⟨q, hq⟩ : ∃ n, (secB m k).length = n := ⟨_, rfl⟩
   have HQ := hid hq
   have HQN := hid (show 0 < q by rw [← hq]; exact List.length_pos_iff.2 hne)
   have HQL := hid (show q ≤ 1000000000 by rw [← hq]; exact SF.out k hlt)
   have hqi : (q : Int) < 4294967296 := by have := HQL.out; omega
   have hq0 : 0 ≤ (q : Int) := by omega
   go_wp2_with fail
   refine S.out.mono ?_
   rintro e3 w3 ⟨v3, rfl, ho, hb⟩
   obtain ⟨a3, c3, rfl⟩ := ho.sliceN hq
   have A3 := hid (A2.out.call hb)
   have HO3 := hid (fun b (hb3 : (Value.slice a3 q c3).ownBlock = some b) => World.ownsRow.lt ho b hb3)
   have HY3 := hid (ho.bytes (SB.out k) (by have := HQL.out; omega))
   clear ho hb hq S A2
   clear x0 x1 x2 x3 x4 x5 x6 x7 x8 x9 x10
   have hw : IntKind.u8.wrap ((k : Int) + 1) = (k : Int) + 1 := by rw [IntKind.wrap_u8]; omega
   have AL := hid (A3.out.call ((Below.refl _ _).alloc (Nat.le_refl _) (.cells #[.int .u8 ((k : Int) + 1)] 5)))
   have HY2 := hid (lit_one w3 ((k : Int) + 1) (by omega) 5)
   go_wp2_with (first | (at_builtin; (refine append_new rfl (.tmp 28) (.tmp 31) rfl rfl AL.out (some ⟨w3.heap.size, 0, none⟩) 1 1 rfl rfl (by omega) HY2.out (by have := HUL.out; simp only [List.length_cons, List.length_nil]; omega) ?_); intro v4 z4 ha4 ht4 hn4; refine Hid.out ?_))
   refine hid ?_
   have A4 := hid ha4
   have HY4 := hid (Bytes.touchE (HY3.out.alloc (.cells #[.int .u8 ((k : Int) + 1)] 5)) ht4 (fun b3 o3 h3 _ h4 => by have h5 := HVO.out b3 h4; have h6 := (HO3.out b3 (by rw [h3]; rfl)).1; omega))
   have HV4 := hid (fun g hg => show g < w2.heap.size ∨ w3.heap.size ≤ g from (hn4 g hg).elim (fun h => .inl (HVO.out g h)) (fun h => .inr (by rw [h]; simp)))
   have hB34 := hid (AL.out)
   clear ha4 ht4 hn4 AL HY2 HY3 A3 hw
   go_wp2_with fail
   refine (u8_tl (q : Int) _ hq0 hqi).mono ?_
   rintro e5 u5 ⟨pa, pn, pc, rfl, hpn, hpy, hpz, hb⟩
   have B5 := hid (A4.out.call hb)
   have HPN := hid hpn
   have HPY := hid hpy
   have HY5 := hid (HY4.out.below hb)
   have HPL := hid (encU_few (q : Int))
   clear hpn hpy hpz hb A4 HY4
   go_wp2_with (first | (at_builtin; (refine append_tch rfl (.tmp 33) (.tmp 36) rfl rfl B5.out pa pn pc rfl HPN.out HPY.out (by have := HUL.out; have := HPL.out; rw [List.length_append]; simp only [List.length_cons, List.length_nil]; omega) ?_); intro v6 z6 ha6 ht6; refine Hid.out ?_))
   refine hid ?_
   have A6 := hid ha6
   have HY6 := hid (Bytes.touchE HY5.out ht6 (fun b3 o3 h3 _ h4 => by have h6 := HO3.out b3 (by rw [h3]; rfl); rcases HV4.out b3 h4 with h5 | h5 <;> omega))
   clear ha6 ht6 B5 HPN HPY HY5
   go_wp2_with (first | (at_builtin; (refine append_lie rfl (.tmp 38) (.tmp 39) rfl rfl A6.out a3 q c3 rfl HQ.out HY6.out (by have h1 := HUL.out; have h2 := HPL.out; have h3 := HQ.out; have h4 := HQL.out; rw [List.length_append, List.length_append]; simp only [List.length_cons, List.length_nil]; omega) ?_); intro v8 z8 ha8; refine Hid.out ?_))
   refine hid ?_
   have A8 := hid ha8
   clear ha8 A6 HY6
   go_wp2
   go_roundw
   case rel => exact ⟨k + 1, by go_num, by omega, by rw [HU.out]; have h9 := A8; rw [← HQ.out] at h9; simpa [List.append_assoc] using h9⟩
   case measure => simp [intOf]; omega
  ·obtain rfl : k = 11 := by omega
   have hko : ¬ ((11 : Nat) : Int) + 1 ≤ 11 := by omega
   obtain ⟨L, hL⟩ : ∃ n, (uptoB m 11).length = n := ⟨_, rfl⟩
   have HBY := hid (AK.out.own)
   obtain ⟨ao, co, rfl⟩ := AK.out.own.sliceN hL
   have HLL := hid hL
   have HUL := hid (UL.out 11 (by omega))
   have HE := hid (HB1.out.trans (AK.out.bel.mono HB1.out.size))
   by_cases hbig : 1048576 < L
   ·have hbi : (1048576 : Int) < (L : Int) := by omega
    have HR := hid (EL.out (by rw [HLL.out]; exact hbig))
    clear hL AK hbig
    go_wp2
    exact bodyPost_ret (v := .tuple #[.slice none 0 0, .int .i64 3]) (by simp [results, Tryz.results14, go_sem]) rfl (by rw [HR.out]; exact modP_none HE.out)
   have hbi : ¬ (1048576 : Int) < (L : Int) := by omega
   have HR := hid (EN.out (by rw [HLL.out]; omega))
   have HY := hid (HBY.out.bytes (UB.out 11 (by omega)) (by have := HUL.out; omega))
   have HZ := hid HBY.out.nil.out
   clear hL AK hbig
   go_wp2
   exact bodyPost_ret (v := .tuple #[.slice ao L co, .int .i64 0]) (by simp [results, Tryz.results14, go_sem]) rfl (by rw [HR.out]; exact ⟨ao, L, co, rfl, HLL.out, HY.out, HZ.out, HE.out⟩)
end Go.Proofs.YtepbjkkakfpjgaaGreatDoor.Enc
namespace Go.Proofs.YtepbjkkakfpjgaaGreatDoor.Instr
open Go.RowKit
def Il.weight : Il → Nat
 | .nil => 0
 | .cons x l e r => 1 + x.tags.length + l.weight + e.weight + r.weight
def tagsMin (x : Ix) (most : Int) : Int := min (x.tags.length : Int) most
def Il.go : Il → Int → Int → Int
 | .nil, n, _ => n
 | .cons x l e r, n, most =>
  if n ≤ most then
   r.go (if (if n + 1 + tagsMin x most ≤ most then n + 1 + tagsMin x most + l.go 0 (most - (n + 1 + tagsMin x most)) else n + 1 + tagsMin x most) ≤ most
     then (if n + 1 + tagsMin x most ≤ most then n + 1 + tagsMin x most + l.go 0 (most - (n + 1 + tagsMin x most)) else n + 1 + tagsMin x most) + e.go 0 (most - (if n + 1 + tagsMin x most ≤ most then n + 1 + tagsMin x most + l.go 0 (most - (n + 1 + tagsMin x most)) else n + 1 + tagsMin x most))
     else (if n + 1 + tagsMin x most ≤ most then n + 1 + tagsMin x most + l.go 0 (most - (n + 1 + tagsMin x most)) else n + 1 + tagsMin x most)) most
  else n
def next1 (n m : Int) (most : Int) : Int := if n ≤ most then n + m else n
theorem next1_pos {n m most : Int} (h : n ≤ most) : next1 n m most = n + m := if_pos h
theorem next1_neg {n m most : Int} (h : ¬ n ≤ most) : next1 n m most = n := if_neg h
theorem go_cons (x : Ix) (l e r : Il) (n most : Int) (h : n ≤ most) : (Il.cons x l e r).go n most =
  r.go (next1 (next1 (n + 1 + tagsMin x most) (l.go 0 (most - (n + 1 + tagsMin x most))) most) (e.go 0 (most - next1 (n + 1 + tagsMin x most) (l.go 0 (most - (n + 1 + tagsMin x most))) most)) most) most := by
 rw [Il.go, if_pos h]; rfl
theorem go_over (t : Il) (n most : Int) (h : most < n) : t.go n most = n := by
 cases t with
 | nil => rfl
 | cons x l e r => rw [Il.go, if_neg (by omega)]
theorem tagsMin_bounds (x : Ix) (most : Int) (h : 0 ≤ most) : 0 ≤ tagsMin x most ∧ tagsMin x most ≤ most ∧ tagsMin x most ≤ x.tags.length := by unfold tagsMin; omega
theorem go_bounds : ∀ (t : Il) (n most : Int), 0 ≤ n → 0 ≤ most → n ≤ 2 * most + 1 → n ≤ t.go n most ∧ t.go n most ≤ 2 * most + 1 ∧ (t.go n most ≤ most → n + t.weight ≤ t.go n most)
 | .nil, n, most, h0, h1, h2 => by simp [Il.go, Il.weight, h2]
 | .cons x l e r, n, most, h0, h1, h2 => by
  by_cases h : n ≤ most
  ·rw [go_cons x l e r n most h]
   have hT := tagsMin_bounds x most h1
   obtain ⟨T, hTT⟩ : ∃ T, tagsMin x most = T := ⟨_, rfl⟩
   have hx : T = most ∨ T = x.tags.length := by rw [← hTT]; unfold tagsMin; omega
   rw [hTT] at hT ⊢
   have A : ∀ (N2 : Int), next1 (n + 1 + T) (l.go 0 (most - (n + 1 + T))) most = N2 → n + 1 + T ≤ N2 ∧ N2 ≤ 2 * most + 1 ∧ (N2 ≤ most → n + 1 + T + l.weight ≤ N2 ∧ n + 1 + T ≤ most) := by
    intro N2 h
    subst h
    unfold next1
    split
    ·have := go_bounds l 0 (most - (n + 1 + T)) (by omega) (by omega) (by omega)
     refine ⟨by omega, by omega, fun hh => ⟨?_, by omega⟩⟩
     have := this.2.2 (by omega)
     omega
    ·exact ⟨by omega, by omega, fun hh => by omega⟩
   obtain ⟨N2, h2'⟩ : ∃ N2, next1 (n + 1 + T) (l.go 0 (most - (n + 1 + T))) most = N2 := ⟨_, rfl⟩
   have a := A N2 h2'
   rw [h2']
   have B : ∀ (N3 : Int), next1 N2 (e.go 0 (most - N2)) most = N3 → N2 ≤ N3 ∧ N3 ≤ 2 * most + 1 ∧ (N3 ≤ most → N2 + e.weight ≤ N3 ∧ N2 ≤ most) := by
    intro N3 h
    subst h
    unfold next1
    split
    ·have := go_bounds e 0 (most - N2) (by omega) (by omega) (by omega)
     refine ⟨by omega, by omega, fun hh => ⟨?_, by omega⟩⟩
     have := this.2.2 (by omega)
     omega
    ·exact ⟨by omega, by omega, fun hh => by omega⟩
   obtain ⟨N3, h3'⟩ : ∃ N3, next1 N2 (e.go 0 (most - N2)) most = N3 := ⟨_, rfl⟩
   have b := B N3 h3'
   rw [h3']
   have c := go_bounds r N3 most (by omega) h1 (by omega)
   refine ⟨by omega, c.2.1, fun hh => ?_⟩
   have c3 := c.2.2 hh
   have b3 := b.2.2 (by omega)
   have a3 := a.2.2 (by omega)
   simp only [Il.weight]
   omega
  ·rw [go_over _ _ _ (by omega)]
   exact ⟨by omega, by omega, fun hh => by omega⟩
theorem weight_count : ∀ t : Il, t.count ≤ t.weight
 | .nil => Nat.le_refl _
 | .cons x l e r => by have := weight_count l; have := weight_count e; have := weight_count r; simp only [Il.count, Il.weight]; omega
set_option maxRecDepth 100000 in
set_option maxHeartbeats 1600000 in
theorem Instrs_any : ∀ (m : Nat) (t : Il) (a : Option Addr) (len c : Nat) (most : Int) (w : World), t.count ≤ m → ListAt w.heap.size w a len t → len ≤ 140737488351232 → 0 ≤ most → most ≤ 5000 →
  Calls Tryz.prog 32 #[.slice a len c, .int .i64 most] w fun e w' => e = .returned (.int .i64 (t.go 0 most)) ∧ w = w' := by
 intro m
 induction m with
 | zero =>
  intro t a len c most w hm hL hlen hm0 hm1
  cases t with
  | cons x l e r => simp only [Il.count] at hm; omega
  | nil =>
   have h0 : len = 0 := hL.1.symm
   subst h0
   clear hm hL
   go_enter Tryz.func32, Tryz.ntmps32
   go_wp2
   go_loopw [5, 6] (fun sn si wr => si = .int .i64 0 ∧ sn = .int .i64 0 ∧ wr = w) (fun _ _ _ => 0)
   case atStart => exact ⟨rfl, rfl, rfl⟩
   case round =>
    obtain ⟨rfl, rfl, rfl⟩ := hrel
    go_wp2
    go_ret
    exact ⟨rfl, rfl⟩
 | succ m ih =>
  intro t a len c most w hm hL hlen hm0 hm1
  obtain ⟨hL1, hL2⟩ := hL
  have HM := hid hm
  have HL1 := hid hL1
  have HG : Hid (t.go 0 most = t.go 0 most) := hid rfl
  clear hm hL1
  rcases hL2 with rfl | ⟨b, off, rfl, hi⟩
  ·have h0 : len = 0 := HL1.out.symm
   subst h0
   clear ih
   go_enter Tryz.func32, Tryz.ntmps32
   go_wp2
   go_loopw [5, 6] (fun sn si wr => si = .int .i64 0 ∧ sn = .int .i64 0 ∧ wr = w) (fun _ _ _ => 0)
   case atStart => exact ⟨rfl, rfl, rfl⟩
   case round =>
    obtain ⟨rfl, rfl, rfl⟩ := hrel
    go_wp2
    go_ret
    exact ⟨rfl, rfl⟩
  ·go_enter Tryz.func32, Tryz.ntmps32
   go_wp2
   go_loopw [5, 6] (fun sn si wr => ∃ (k : Nat) (n : Int) (rest : Il), si = .int .i64 k ∧ sn = .int .i64 n ∧ k ≤ len ∧ 0 ≤ n ∧ n ≤ 2 * most + 1 ∧ Hid (k + rest.len = len ∧ rest.go n most = t.go 0 most ∧ rest.count ≤ t.count) ∧ Items w.heap.size w b (off + k * 8) rest ∧ wr = w)
    (fun _ si _ => len - (intOf si).toNat)
   case atStart => exact ⟨0, 0, t, rfl, rfl, Nat.zero_le _, by omega, by omega, ⟨by have := HL1.out; omega, rfl, Nat.le_refl _⟩, by simpa using hi, rfl⟩
   case round =>
    obtain ⟨k, n, rest, rfl, rfl, hk, hn0, hn1, HR, hir, rfl⟩ := hrel
    cases rest with
    | nil =>
     obtain ⟨r1, r2, _⟩ := HR.out
     have hkl : k = len := by simpa [Il.len] using r1
     subst hkl
     have R2 : Hid (n = t.go 0 most) := by show _ = _; rw [← r2]; rfl
     clear r2
     go_wp2
     go_ret
     exact ⟨ret_int R2.out, rfl⟩
    | cons x tl te r =>
     obtain ⟨hbn, hx, ⟨c0, c1, c2, c3, c4, c5, c6, c7⟩, ht, hLl, hLe, hir'⟩ := hir
     have hlt : k < len := by have := HR.out.1; simp only [Il.len] at this; omega
     by_cases hnm : n ≤ most
     ·have hcnt : tl.count + te.count + 1 ≤ m + 1 := by have h1 := HR.out.2.2; have h2 := HM.out; simp only [Il.count] at h1; omega
      have htn := hx.tn
      have hLn := hx.ln
      have hEn := hx.en
      have hTb := tagsMin_bounds x most hm0
      rcases (Int.lt_or_le most (x.tags.length : Int)).symm with hle | hle
      ·have hT : min (x.tags.length : Int) most = (x.tags.length : Int) := by omega
       have HT : Hid (tagsMin x most = (x.tags.length : Int)) := hid (show tagsMin x most = _ from hT)
       rw [HT.out] at hTb
       obtain ⟨tb0, tb1, _⟩ := hTb
       by_cases c1 : n + 1 + (x.tags.length : Int) ≤ most
       ·have ih1 := ih tl x.la x.ln x.lc (most - (n + 1 + (x.tags.length : Int))) wr (by omega) hLl hLn (by omega) (by omega)
        have b1 := go_bounds tl 0 (most - (n + 1 + (x.tags.length : Int))) (by omega) (by omega) (by omega)
        obtain ⟨g1, hg1⟩ : ∃ g1, tl.go 0 (most - (n + 1 + (x.tags.length : Int))) = g1 := ⟨_, rfl⟩
        rw [hg1] at ih1 b1
        obtain ⟨b10, b11, _⟩ := b1
        have G1 := hid hg1
        have I1 := hid ih1
        clear hg1 ih1
        by_cases c2 : n + 1 + (x.tags.length : Int) + g1 ≤ most
        ·have ih2 := ih te x.ea x.en x.ec (most - (n + 1 + (x.tags.length : Int) + g1)) wr (by omega) hLe hEn (by omega) (by omega)
         have b2 := go_bounds te 0 (most - (n + 1 + (x.tags.length : Int) + g1)) (by omega) (by omega) (by omega)
         obtain ⟨g2, hg2⟩ : ∃ g2, te.go 0 (most - (n + 1 + (x.tags.length : Int) + g1)) = g2 := ⟨_, rfl⟩
         rw [hg2] at ih2 b2
         obtain ⟨b20, b21, _⟩ := b2
         have G2 := hid hg2
         have I2 := hid ih2
         clear hg2 ih2
         go_wp2_with fail
         refine I1.out.mono ?_
         clear I1
         rintro e1 w1 ⟨rfl, rfl⟩
         go_wp2_with fail
         refine I2.out.mono ?_
         clear I2
         rintro e1 w1 ⟨rfl, rfl⟩
         go_wp2
         go_roundw
         case rel =>
          refine ⟨k + 1, n + 1 + (x.tags.length : Int) + g1 + g2, r, by simp, by first | rfl | simp, by omega, by omega, by omega, ⟨by have := HR.out.1; simp only [Il.len] at this; omega, ?_, by have := HR.out.2.2; simp only [Il.count] at this; omega⟩, by rw [show off + (k + 1) * 8 = off + k * 8 + 8 by omega]; exact hir', by first | rfl | trivial⟩
          rw [← HR.out.2.1, go_cons x tl te r n most hnm]
          rw [HT.out, G1.out, next1_pos c1, G2.out, next1_pos c2]
         case measure => simp [intOf]; omega
        ·have c2' : most < n + 1 + (x.tags.length : Int) + g1 := by omega
         clear ih
         go_wp2_with fail
         refine I1.out.mono ?_
         clear I1
         rintro e1 w1 ⟨rfl, rfl⟩
         go_wp2
         go_roundw
         case rel =>
          refine ⟨k + 1, n + 1 + (x.tags.length : Int) + g1, r, by simp, by first | rfl | simp, by omega, by omega, by omega, ⟨by have := HR.out.1; simp only [Il.len] at this; omega, ?_, by have := HR.out.2.2; simp only [Il.count] at this; omega⟩, by rw [show off + (k + 1) * 8 = off + k * 8 + 8 by omega]; exact hir', by first | rfl | trivial⟩
          rw [← HR.out.2.1, go_cons x tl te r n most hnm]
          rw [HT.out, G1.out, next1_pos c1, next1_neg (n := n + 1 + (x.tags.length : Int) + g1) (by omega)]
         case measure => simp [intOf]; omega
       ·have c1' : most < n + 1 + (x.tags.length : Int) := by omega
        clear ih
        go_wp2
        go_roundw
        case rel =>
         refine ⟨k + 1, n + 1 + (x.tags.length : Int), r, by simp, by first | rfl | simp, by omega, by omega, by omega, ⟨by have := HR.out.1; simp only [Il.len] at this; omega, ?_, by have := HR.out.2.2; simp only [Il.count] at this; omega⟩, by rw [show off + (k + 1) * 8 = off + k * 8 + 8 by omega]; exact hir', by first | rfl | trivial⟩
         rw [← HR.out.2.1, go_cons x tl te r n most hnm]
         rw [HT.out, next1_neg (n := n + 1 + (x.tags.length : Int)) (by omega), next1_neg (n := n + 1 + (x.tags.length : Int)) (by omega)]
        case measure => simp [intOf]; omega
      ·have hT : min (x.tags.length : Int) most = most := by omega
       have HT : Hid (tagsMin x most = most) := hid (show tagsMin x most = _ from hT)
       rw [HT.out] at hTb
       obtain ⟨tb0, tb1, _⟩ := hTb
       have c1 : ¬ n + 1 + most ≤ most := by omega
       have c1' : most < n + 1 + most := by omega
       clear ih
       go_wp2
       go_roundw
       case rel =>
        refine ⟨k + 1, n + 1 + most, r, by simp, by first | rfl | simp, by omega, by omega, by omega, ⟨by have := HR.out.1; simp only [Il.len] at this; omega, ?_, by have := HR.out.2.2; simp only [Il.count] at this; omega⟩, by rw [show off + (k + 1) * 8 = off + k * 8 + 8 by omega]; exact hir', by first | rfl | trivial⟩
        rw [← HR.out.2.1, go_cons x tl te r n most hnm]
        rw [HT.out, next1_neg (n := n + 1 + most) (by omega), next1_neg (n := n + 1 + most) (by omega)]
       case measure => simp [intOf]; omega
     ·have R2 : Hid (n = t.go 0 most) := by show _ = _; rw [← HR.out.2.1, go_over _ _ _ (by omega)]
      have hnm' : most < n := by omega
      go_wp2
      go_ret
      exact ⟨ret_int R2.out, rfl⟩
end Go.Proofs.YtepbjkkakfpjgaaGreatDoor.Instr
namespace Go.Proofs.YtepbjkkakfpjgaaGreatDoor.Mod
open Go.RowKit Go.Proofs.YtepbjkkakfpjgaaGreatDoor.Instr
structure Md.small (m : Md) (most : Nat) : Prop where
 lens : m.ty.length + m.im.length + m.fu.length + m.tb.length + m.me.length + m.gl.length + m.ex.length + m.el.length + m.da.length ≤ most
 ls : ∀ l ∈ m.codes, l.t.weight ≤ most
 fs : ∀ e ∈ m.el, e.fs.length ≤ most
 bs : ∀ d ∈ m.da, d.bs.length ≤ most
 iS : ∀ i ∈ m.im, i.mo.size ≤ most ∧ i.na.size ≤ most
 eS : ∀ e ∈ m.ex, e.na.size ≤ most
theorem drewQ {B : Nat} {w w' : World} (h : Below B w w') (n : Nat) : Below B w (w'.drewN n) := ⟨h.os, h.tape, h.output, h.size, h.block⟩
end Go.Proofs.YtepbjkkakfpjgaaGreatDoor.Mod
