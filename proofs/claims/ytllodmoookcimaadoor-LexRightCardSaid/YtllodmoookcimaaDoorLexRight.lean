/-
  THE STATEMENT LexRight: the walk.
-/
import Derived.Test.YtllodmoookcimaaDoorLexChar
namespace Go.Proofs.YtllodmoookcimaaDoor.Lex
open Go.RowKit Go.Proofs.YtllodmoookcimaaDoor.Utf
set_option linter.unusedSimpArgs false
set_option linter.unusedVariables false

set_option maxHeartbeats 1000000 in
theorem right_walk (w : World) (s : ByteArray) (h8 : Tabs8 w) (hT : Words w) :
    Calls Tryd.prog 4 #[.string s] w fun e w' => e = .returned (.bool true) ∧ Below w.heap.size w w' := by
  obtain ⟨zs, hz⟩ : ∃ zs, numsOf s = zs := ⟨_, rfl⟩
  have hb : ∀ z ∈ zs, 0 ≤ z ∧ z < 256 := hz ▸ numsOf_bytes s
  have hsz : strOfNums zs = s := hz ▸ str_numsOf s
  have hlen : s.size = zs.length := by rw [← hsz, strOfNums_size]
  clear hz
  have A := hid (fun W h1 h2 => awake_any W h1 h2)
  have H8 := hid h8
  have HT := hid hT
  by_cases hl : zs.length > 3000
  · have hli : (zs.length : Int) > 3000 := by omega
    clear hb hsz h8 hT
    go_enter Tryd.func4, Tryd.ntmps4
    go_wp2_with fail
    refine (A.out _ H8.out HT.out).mono ?_
    rintro e w1 ⟨rfl, hb1⟩
    go_wp2
    go_ret
    exact ⟨rfl, hb1⟩
  · have hli : ¬ (zs.length : Int) > 3000 := by omega
    have R := hid (fun W h => Right_any zs hb W h)
    have D := hid (fun W => refRight_any zs hb (by omega) W)
    rw [hsz] at R D
    generalize (scan zs).2 = p at *
    clear hb hsz h8 hT
    go_enter Tryd.func4, Tryd.ntmps4
    go_wp2_with fail
    refine (R.out _ H8.out).mono ?_
    rintro e w1 ⟨rfl, hb1⟩
    have HB1 := hid hb1
    clear hb1 R
    go_wp2_with fail
    refine (D.out _).mono ?_
    rintro e w2 ⟨rfl, hb2⟩
    have HB2 := hid (HB1.out.trans (hb2.mono HB1.out.size))
    clear hb2 D
    go_wp2_with fail
    refine (A.out _ (H8.out.below HB2.out) (HT.out.below HB2.out)).mono ?_
    rintro e w3 ⟨rfl, hb3⟩
    have HB3 := hid (HB2.out.trans (hb3.mono HB2.out.size))
    clear hb3 A
    go_wp2
    go_ret
    exact ⟨rfl, HB3.out⟩
end Go.Proofs.YtllodmoookcimaaDoor.Lex
namespace Go.Proofs.YtllodmoookcimaaDoor
theorem lexRight_walk (w : World) (s : ByteArray) (hT : Lex.Tabs8 w ∧ Lex.Words w) :
    Calls Tryd.prog 4 #[.string s] w fun e w' => e = .returned (.bool true) ∧ RowKit.Below w.heap.size w w' := Lex.right_walk w s hT.1 hT.2
end Go.Proofs.YtllodmoookcimaaDoor
