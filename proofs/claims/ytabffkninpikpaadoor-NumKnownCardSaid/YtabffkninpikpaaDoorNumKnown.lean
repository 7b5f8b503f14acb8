/-
  NUM: the walk of the closed statement NumKnown: the chapter's examples.
-/
import Derived.Test.YtabffkninpikpaaDoorNumCount
import Derived.Test.YtabffkninpikpaaDoorNumWide
namespace Go.Proofs.YtabffkninpikpaaDoor
open Go.RowKit Num

set_option maxRecDepth 100000 in
set_option maxHeartbeats 1600000 in
theorem numKnown_walk (w : World) (hT : DeB w ∧ Arit w) :
    Calls Tryd.prog 9 #[] w fun e w' => e = .returned (.bool true) ∧ Below w.heap.size w w' := by
  obtain ⟨hD, hA⟩ := hT
  have A := Two_any 110 1 0 w (by decide) (by decide) (by decide) (by decide) hA
  rw [show twoV 110 1 0 = 0 by decide, show twoE 110 1 0 = 130 by decide] at A
  have B := Two_any 109 2147483648 4294967295 w (by decide) (by decide) (by decide) (by decide) hA
  rw [show twoV 109 2147483648 4294967295 = 0 by decide, show twoE 109 2147483648 4294967295 = 131 by decide] at B
  have C := One_any 103 0 w (by decide) (by decide) hA hD
  rw [show oneV 103 0 = 32 by decide, show oneE 103 = 0 by decide] at C
  have D := fun W hA hD => One_any 104 8 W (by decide) (by decide) hA hD
  rw [show oneV 104 8 = 3 by decide, show oneE 104 = 0 by decide] at D
  have E := fun W hA hD => One_any 105 255 W (by decide) (by decide) hA hD
  rw [show oneV 105 255 = 8 by decide +kernel, show oneE 105 = 0 by decide] at E
  have F := fun W hA hD => One_any 106 1 W (by decide) (by decide) hA hD
  rw [show oneV 106 1 = 0 by decide, show oneE 106 = 2 by decide] at F
  have G := fun W => Wide_any 128 8 W
  rw [show wideV 128 8 = 4294967168 by decide, show wideE 8 = 0 by decide] at G
  have H := fun W => Wide_any 384 8 W
  rw [show wideV 384 8 = 4294967168 by decide, show wideE 8 = 0 by decide] at H
  have I := fun W => Wide_any 1 9 W
  rw [show wideV 1 9 = 0 by decide, show wideE 9 = 2 by decide] at I
  have J := fun W hA => two_any 111 4294967289 2 W (by decide) (by decide) (by decide) (by decide) hA
  rw [show twoK 111 4294967289 2 = 4294967295 by decide] at J
  have K := fun W hA => two_any 110 4294967289 2 W (by decide) (by decide) (by decide) (by decide) hA
  rw [show twoK 110 4294967289 2 = 2147483644 by decide] at K
  have L := fun W hA => two_any 111 2147483648 4294967295 W (by decide) (by decide) (by decide) (by decide) hA
  rw [show twoK 111 2147483648 4294967295 = 0 by decide] at L
  have M := fun W hA => awake_any W hA
  have N := fun W hA => two_any 117 2147483648 31 W (by decide) (by decide) (by decide) (by decide) hA
  rw [show twoK 117 2147483648 31 = 4294967295 by decide] at N
  have O := fun W hA => two_any 119 2147483649 1 W (by decide) (by decide) (by decide) (by decide) hA
  rw [show twoK 119 2147483649 1 = 3 by decide] at O
  have A := hid A
  have B := hid B
  have C := hid C
  have D := hid D
  have E := hid E
  have F := hid F
  have G := hid G
  have H := hid H
  have I := hid I
  have J := hid J
  have K := hid K
  have L := hid L
  have M := hid M
  have N := hid N
  have O := hid O
  have HA := hid hA
  have HD := hid hD
  clear hA hD
  go_enter Tryd.func9, Tryd.ntmps9
  go_wp2_with fail
  refine A.out.mono ?_
  rintro e w' ⟨rfl, rfl⟩
  go_wp2_with fail
  refine B.out.mono ?_
  rintro e w' ⟨rfl, rfl⟩
  go_wp2_with fail
  refine C.out.mono ?_
  rintro e w1 ⟨rfl, hb⟩
  have HA1 := hid (HA.out.below hb)
  have HD1 := hid (HD.out.below hb)
  go_wp2_with fail
  refine (D.out _ HA1.out HD1.out).mono ?_
  rintro e w2 ⟨rfl, hc⟩
  have HA2 := hid (HA1.out.below hc)
  have HD2 := hid (HD1.out.below hc)
  have hb2 := thenB hb hc
  clear hb hc
  go_wp2_with fail
  refine (E.out _ HA2.out HD2.out).mono ?_
  rintro e w3 ⟨rfl, hc⟩
  have HA3 := hid (HA2.out.below hc)
  have HD3 := hid (HD2.out.below hc)
  have hb3 := thenB hb2 hc
  clear hb2 hc
  go_wp2_with fail
  refine (F.out _ HA3.out HD3.out).mono ?_
  rintro e w4 ⟨rfl, hc⟩
  have HA4 := hid (HA3.out.below hc)
  have hb4 := thenB hb3 hc
  clear hb3 hc
  go_wp2_with fail
  refine (G.out _).mono ?_
  rintro e w' ⟨rfl, rfl⟩
  go_wp2_with fail
  refine (H.out _).mono ?_
  rintro e w' ⟨rfl, rfl⟩
  go_wp2_with fail
  refine (I.out _).mono ?_
  rintro e w' ⟨rfl, rfl⟩
  go_wp2_with fail
  refine (J.out _ HA4.out).mono ?_
  rintro e w' ⟨rfl, rfl⟩
  go_wp2_with fail
  refine (K.out _ HA4.out).mono ?_
  rintro e w' ⟨rfl, rfl⟩
  go_wp2_with fail
  refine (L.out _ HA4.out).mono ?_
  rintro e w' ⟨rfl, rfl⟩
  go_wp2_with fail
  refine (M.out _ HA4.out).mono ?_
  rintro e w' ⟨rfl, rfl⟩
  go_wp2_with fail
  refine (N.out _ HA4.out).mono ?_
  rintro e w' ⟨rfl, rfl⟩
  go_wp2_with fail
  refine (O.out _ HA4.out).mono ?_
  rintro e w' ⟨rfl, rfl⟩
  go_wp2
  go_ret
  exact ⟨rfl, hb4⟩
end Go.Proofs.YtabffkninpikpaaDoor
