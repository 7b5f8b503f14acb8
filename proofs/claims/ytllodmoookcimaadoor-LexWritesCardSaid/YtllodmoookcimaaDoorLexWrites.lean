/-
  THE STATEMENT LexWrites: the walk.
-/
import Derived.Test.YtllodmoookcimaaDoorLexRefE
import Derived.Test.YtllodmoookcimaaDoorLexLarge
import Derived.Test.YtllodmoookcimaaDoorLexLoop
namespace Go.Proofs.YtllodmoookcimaaDoor.Lex
open Go.RowKit Go.Proofs.YtllodmoookcimaaDoor.Utf
set_option linter.unusedSimpArgs false
set_option linter.unusedVariables false

set_option maxRecDepth 10000 in
set_option maxHeartbeats 4000000 in
theorem writes_walk (w : World) (l : List Wd) (a : Option Addr) (n c : Nat) (hn : l.length = n) (hbig : n ≤ 140737488351232) (hby : ∀ x ∈ l, Bytes8 x.s) (hw : WordsAt w a l) (h8 : Tabs8 w) (hT : Words w) (hP : Pow w) :
    Calls Tryd.prog 5 #[.slice a n c] w fun e w' => e = .returned (.bool true) ∧ Below w.heap.size w w' := by
  have H8 := hid h8
  have HT := hid hT
  have HP := hid hP
  have HW := hid hw
  have AW := hid (fun W h1 h2 => awake_any W h1 h2)
  have LG := hid (fun W h => large_any l a n c 200 hn hbig W h)
  have HLG := hid (fun h : largeB l 200 = false => large_no h)
  have HBY := hid hby
  have HN := hid hn
  clear h8 hT hP hw hby hn
  go_enter Tryd.func5, Tryd.ntmps5
  go_wp2_with fail
  refine (LG.out _ HW.out).mono ?_
  rintro e w1 ⟨rfl, hb1⟩
  have HB1 := hid hb1
  clear hb1 LG
  cases hlg : largeB l 200 with
  | true =>
    clear hlg
    go_wp2_with fail
    refine (AW.out _ (H8.out.below HB1.out) (HT.out.below HB1.out)).mono ?_
    rintro e w2 ⟨rfl, hb2⟩
    have HB2 := hid (HB1.out.trans (hb2.mono HB1.out.size))
    go_wp2
    go_ret
    exact ⟨rfl, HB2.out⟩
  | false =>
    obtain ⟨l1, l2⟩ := HLG.out hlg
    have hok : WOk l := ⟨HBY.out, fun x hx => by have := l1 x hx; omega, by omega⟩
    have HNB : Hid (n ≤ 200) := by show _ ≤ _; have := HN.out; omega
    have W1 := hid (fun a c W h1 h2 h3 => Write_any l a n c HN.out hok W h1 h2 h3)
    have W2 := hid (fun W h1 => WriteR_any l a n c HN.out hok W h1)
    have ST := hid (fun a1 c1 W h1 h2 => sameTok_yes a1 a n c1 c l W HN.out (by have := HNB.out; omega) h1 h2)
    clear hlg hok l1 l2 HLG HBY
    generalize hr1 : (writeV l).1 = rs at *
    generalize hr2 : (writeV l).2 = re at *
    clear hr1 hr2
    have hss : (rs.toList == rs.toList) = true := by simp
    have hal := Stk.OwnR.madeG (W := w1) 31 4 w1.heap.size rfl
    have HBA := hid (HB1.out.alloc HB1.out.size (.cells #[] 31))
    go_wp2_with (at_builtin; refine (?_ : _ ∧ True).1)
    refine ⟨?_, trivial⟩
    refine Stk.append_list infoW rfl (by decide) (by decide) Tryd.underlying23 rfl (.tmp 11) (.tmp 12) rfl rfl hal (by rw [World.size_alloc]; omega) a n c rfl (l.map Wd.row) (by rw [List.length_map]; exact HN.out) (HW.out.below HBA.out) ?_ ?_ (by rw [List.length_map, HN.out]; have := HNB.out; omega) ?_
    · intro r hr
      obtain ⟨x, _, rfl⟩ := List.mem_map.1 hr
      rfl
    · intro r hr u hu
      obtain ⟨x, _, rfl⟩ := List.mem_map.1 hr
      simp only [Wd.row, List.mem_cons, List.not_mem_nil, or_false] at hu
      rcases hu with rfl | rfl | rfl | rfl <;> rfl
    intro v' w2 hown2 hb2 hs2
    obtain ⟨a1, c1, hv, hrows, _⟩ := Stk.OwnR.rows hown2
    rw [List.length_map, HN.out] at hv
    subst hv
    have HR := hid hrows
    have hsz1 : w.heap.size ≤ w1.heap.size := HB1.out.size
    have HB2 := hid (HBA.out.trans (hb2.mono hsz1))
    clear hown2 hb2 hs2 hrows hal HBA
    go_wp2_with fail
    refine (W1.out _ _ _ HR.out (HT.out.below HB2.out) (HP.out.below HB2.out)).mono ?_
    rintro e w3 ⟨rfl, hb3⟩
    have HB3 := hid (HB2.out.trans (hb3.mono HB2.out.size))
    have HR3 := hid (WordsAt.below HR.out hb3)
    clear hb3 W1 HB2 HR
    go_wp2_with fail
    refine (W2.out _ (HW.out.below HB3.out)).mono ?_
    rintro e w4 ⟨rfl, hb4⟩
    have HB4 := hid (HB3.out.trans (hb4.mono HB3.out.size))
    have HR4 := hid (WordsAt.below HR3.out hb4)
    clear hb4 W2 HB3 HR3
    go_wp2_with fail
    refine (ST.out _ _ _ HR4.out (HW.out.below HB4.out)).mono ?_
    rintro e w5 ⟨rfl, hb5⟩
    have HB5 := hid (HB4.out.trans (hb5.mono HB4.out.size))
    clear hb5 ST HB4 HR4
    go_wp2_with fail
    refine (AW.out _ (H8.out.below HB5.out) (HT.out.below HB5.out)).mono ?_
    rintro e w6 ⟨rfl, hb6⟩
    have HB6 := hid (HB5.out.trans (hb6.mono HB5.out.size))
    clear hb6 AW HB5
    go_wp2
    go_ret
    exact ⟨rfl, HB6.out⟩
end Go.Proofs.YtllodmoookcimaaDoor.Lex
namespace Go.Proofs.YtllodmoookcimaaDoor
theorem lexWrites_walk (w : World) (a : Option Addr) (n c : Nat) (l : List Lex.Wd) (hn : l.length = n) (hbig : n ≤ 140737488351232) (hw : Lex.WordsAt w a l) (hby : ∀ x ∈ l, Lex.Bytes8 x.s) (hT : Lex.Tabs8 w ∧ Lex.Words w ∧ Lex.Pow w) :
    Calls Tryd.prog 5 #[.slice a n c] w fun e w' => e = .returned (.bool true) ∧ RowKit.Below w.heap.size w w' := Lex.writes_walk w l a n c hn hbig hby hw hT.1 hT.2.1 hT.2.2
end Go.Proofs.YtllodmoookcimaaDoor
