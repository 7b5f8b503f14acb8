import Derived.Test.YtepbjkkakfpjgaaGreatDoorEl04
import Derived.Test.YtepbjkkakfpjgaaGreatDoorEl02
import Derived.Test.YtepbjkkakfpjgaaGreatDoorEl01
import Derived.Deep.RegionLaw
import Derived.Deep.RegionHeld3
namespace Go.Proofs.YtepbjkkakfpjgaaGreatDoor.Body
open Go.RowKit Go.Proofs.YtepbjkkakfpjgaaGreatDoor.Instr Go.Proofs.YtepbjkkakfpjgaaGreatDoor.Leb
open Go.Proofs.YtepbjkkakfpjgaaGreatDoor.Kind (Rd)

theorem encU_lens (n : Int) : (encU n).length ≤ 5 ∧ encU n ≠ [] := by
  have := sizeU_pos n
  rw [← List.length_pos_iff, encU_length]
  omega
theorem encS_lens (n : Int) : (encS n).length ≤ 5 ∧ encS n ≠ [] := by
  have := sizeS_pos n
  rw [← List.length_pos_iff, encS_length]
  omega
theorem flatMap_snoc (l : List Int) (z : Int) : (l ++ [z]).flatMap encU = l.flatMap encU ++ encU z := by simp
theorem flatMap_len : ∀ l : List Int, (l.flatMap encU).length ≤ 5 * l.length
  | [] => by simp
  | z :: l => by have := flatMap_len l; have := (encU_lens z).1; simp only [List.flatMap_cons, List.length_append, List.length_cons]; omega
/-- PutU's bytes, as what is appended. -/
theorem putU_put (n : Int) (w : World) (h0 : 0 ≤ n) (h1 : n < 4294967296) : Calls Tryz.prog 175 #[.int .u32 n] w fun e w' => ∃ a c, e = .returned (.slice a (encU n).length c) ∧ Bytes w' a (encU n) ∧ Below w.heap.size w w' :=
  (putU_any n w h0 h1).mono fun _ _ h => gives_put h (encU_bytes n) (by have := (encU_lens n).1; omega)
theorem putS_put (n : Int) (w : World) (h0 : -2147483648 ≤ n) (h1 : n < 2147483648) : Calls Tryz.prog 240 #[.int .i32 n] w fun e w' => ∃ a c, e = .returned (.slice a (encS n).length c) ∧ Bytes w' a (encS n) ∧ Below w.heap.size w w' :=
  (putS_any n w h0 h1).mono fun _ _ h => gives_put h (encS_bytes n) (by have := (encS_lens n).1; omega)

set_option maxRecDepth 100000 in
set_option maxHeartbeats 3200000 in
theorem appendLabels_any (B : Nat) (v : Value) (xs l : List Int) (a : Option Addr) (len c : Nat) (w : World) (hv : Own B w v xs) (hB : B ≤ w.heap.size) (hlen : l.length = len) (hl : TagsAt B w a l) (hz : ∀ z ∈ l, 0 ≤ z ∧ z < 4294967296) (hfew : len ≤ 16384) (hx : xs.length ≤ 70368744178000) :
    Calls Tryz.prog 239 #[v, .slice a len c] w (PutsTo B v w (xs ++ encTags l)) := by
  have HV := hid hv
  have HT := hid hl
  have HZ := hid hz
  have HL := hid hlen
  have P1 := hid (fun w' => putU_put (len : Int) w' (by omega) (by omega))
  have HE : Hid (xs ++ encTags l = (xs ++ encU (len : Int)) ++ l.flatMap encU) := by show _ = _; rw [encTags, hlen, List.append_assoc]
  rw [HE.out]
  have hfl := flatMap_len l
  rw [hlen] at hfl
  have q1 := encU_lens (len : Int)
  obtain ⟨e1, he1⟩ : ∃ e, encU (len : Int) = e := ⟨_, rfl⟩
  rw [he1] at P1 q1 ⊢
  have Q1 := hid q1
  have HX := hid hx
  have HFL := hid hfl
  clear hv hl hz hlen HE q1 he1 hx hfl
  go_enter Tryz.func239, Tryz.ntmps239
  go_wp2_with fail
  refine (P1.out w).mono ?_
  clear P1
  rintro e w1 ⟨a1, c1, rfl, hb1, hw1⟩
  have G1 := hid ((Grew.refl HV.out).post hw1)
  have HB1 := hid hb1
  have T1 := hid (show xs.length + e1.length ≤ 140737488351232 by have := HX.out; have := Q1.out.1; omega)
  clear hb1 hw1
  go_wp2_with (first
    | (at_builtin; refine put_bytes rfl (.tmp 7) (.tmp 11) rfl rfl G1.out hB rfl rfl HB1.out Q1.out.2 T1.out ?_; intro v2 w2 hg2; refine Hid.out ?_))
  refine hid ?_
  clear G1 HB1 T1
  go_wp2
  go_loopw [0, 15] (fun s0 s15 wr => ∃ j : Nat, j ≤ len ∧ s15 = .int .i64 j ∧ Hid (Grew B v w s0 ((xs ++ e1) ++ (l.take j).flatMap encU) wr)) (fun _ s15 _ => len - (intOf s15).toNat)
  case atStart => exact ⟨0, by omega, rfl, by simpa using hid hg2⟩
  case round =>
    obtain ⟨j, hj, rfl, hG⟩ := hrel
    by_cases hlt : j < len
    · have hil : j < l.length := by have := HL.out; omega
      have hz' := HZ.out _ (List.getElem_mem hil)
      rw [← getD_lt hil] at hz'
      have hd : Hid ((l.take (j + 1)).flatMap encU = (l.take j).flatMap encU ++ encU (l.getD j 0)) := by
        show _ = _
        rw [List.take_succ_eq_append_getElem hil, flatMap_snoc, getD_lt hil]
      rcases HT.out with h0 | ⟨b, off, rfl, hbl, hc⟩
      · rw [h0] at hil; simp at hil
      have hcj := (hG.out.below HV.out hB).cell (p := ⟨b, off + j, none⟩) hbl |>.trans (hc j hil)
      have hlen3 : Hid (((xs ++ e1) ++ (l.take j).flatMap encU).length ≤ 70368744270000) := by
        refine hid ?_
        have h1 := flatMap_len (l.take j)
        have h2 := HX.out
        have h3 := Q1.out.1
        simp only [List.length_append, List.length_take] at h1 ⊢
        have := HL.out
        omega
      obtain ⟨z, hz⟩ : ∃ z, l.getD j 0 = z := ⟨_, rfl⟩
      rw [hz] at hz' hd hcj
      have P2 := hid (fun w' => putU_put z w' hz'.1 hz'.2)
      have q2 := encU_lens z
      obtain ⟨e2, he2⟩ : ∃ e, encU z = e := ⟨_, rfl⟩
      rw [he2] at P2 q2 hd
      obtain ⟨zs, hzs⟩ : ∃ zs, (xs ++ e1) ++ (l.take j).flatMap encU = zs := ⟨_, rfl⟩
      rw [hzs] at hG hlen3
      have hd2 : Hid ((xs ++ e1) ++ (l.take (j + 1)).flatMap encU = zs ++ e2) := by show _ = _; rw [hd.out, ← List.append_assoc, hzs]
      have Q2 := hid q2
      clear hd hzs he2 hz hz' hc hil q2
      go_wp2_with fail
      refine (P2.out _).mono ?_
      clear P2
      rintro e w3 ⟨a3, c3, rfl, hb3, hw3⟩
      have G3 := hid (hG.out.post hw3)
      have HB3 := hid hb3
      have T3 := hid (show zs.length + e2.length ≤ 140737488351232 by have := hlen3.out; have := Q2.out.1; omega)
      clear hb3 hw3
      go_wp2_with (first
        | (at_builtin; refine put_bytes rfl (.tmp 19) (.tmp 21) rfl rfl G3.out hB rfl rfl HB3.out Q2.out.2 T3.out ?_; intro v4 w4 hg4; refine Hid.out ?_))
      refine hid ?_
      go_wp2
      go_roundw
      case rel => exact ⟨j + 1, by omega, by simp, by rw [hd2.out]; exact hid hg4⟩
      case measure => simp [intOf]; omega
    · obtain rfl : j = len := by omega
      have hd : Hid (l.take j = l) := by show _ = _; rw [List.take_of_length_le (by have := HL.out; omega)]
      rw [hd.out] at hG
      go_wp2
      go_ret
      exact ⟨_, rfl, hG.out⟩

/-- What appendList must do with a list. -/
def ALok (t : Il) : Prop := ∀ (B : Nat) (v : Value) (xs : List Int) (a : Option Addr) (n c : Nat) (w : World), Own B w v xs → B ≤ w.heap.size → ListAt B w a n t → n ≤ 140737488351232 → xs.length + (encL t).length ≤ 70368744177664 →
  Calls Tryz.prog 213 #[v, .slice a n c] w (PutsTo B v w (xs ++ encL t))
set_option maxRecDepth 100000 in
set_option maxHeartbeats 3200000 in
theorem put0 (B : Nat) (v : Value) (xs : List Int) (x : Ix) (w : World) (hv : Own B w v xs) (hB : B ≤ w.heap.size) (hx : May x) (_ht : TagsAt B w x.ta x.tags) (hl : xs.length ≤ 70368744177700) (hk : kindP x.op = 0) (hp : partsP x.op = 0) :
    Calls Tryz.prog 229 #[v, .agg x.vals] w (PutsTo B v w (xs ++ (x.op :: encRest x))) := by
  have hop := name_range ((lawful_iff x).1 hx.law).1
  obtain ⟨o0, o1, _, _⟩ := hop
  have F := hid (fun w' => follows_any x.op w')
  rw [hp] at F
  have b1 : bits .and .u8 0 1 = 0 := by decide
  have b2 : bits .and .u8 0 2 = 0 := by decide
  have b4 : bits .and .u8 0 4 = 0 := by decide
  have b8 : bits .and .u8 0 8 = 0 := by decide
  have b16 : bits .and .u8 0 16 = 0 := by decide
  have b32 : bits .and .u8 0 32 = 0 := by decide
  have b64 : bits .and .u8 0 64 = 0 := by decide
  have hXv : v.ownBlock ≠ some w.heap.size := fun h => by have := (World.ownsRow.lt hv _ h).2; omega
  have HXV := hid hXv
  have X0 := hid (At.made x w)
  have G0 := hid ((Grew.refl hv).post ((Below.refl w.heap.size w).alloc (Nat.le_refl _) (.cells x.vals 126)))
  rw [encRest0 hk]
  have GW : Hid (Grew B v (w.alloc (.cells x.vals 126)) v xs (w.alloc (.cells x.vals 126))) := hid (Grew.refl G0.out.own)
  have HL := hid hl
  have HB2 : Hid (B ≤ (w.alloc (.cells x.vals 126)).heap.size) := by refine hid ?_; simp; omega
  have HW1 : Hid (Below w.heap.size w (w.alloc (.cells x.vals 126))) := hid ((Below.refl w.heap.size w).alloc (Nat.le_refl _) _)
  clear hv hB _ht hl hk hp hXv G0 hx
  unfold Ix.vals at GW X0 HB2 HW1 ⊢
  obtain ⟨c0, c1, c2, c3, c4, c5, c6, c7⟩ := X0.out
  go_enter Tryz.func229, Tryz.ntmps229
  go_wp2_with fail
  refine (F.out _).mono ?_
  rintro e w' ⟨rfl, rfl⟩
  have T0 := hid (show xs.length ≤ 140737488351232 by have := HL.out; omega)
  generalize hW1 : (w.alloc (.cells #[.int .i64 x.op, .int .i64 x.res, .int .u32 x.a, .int .u32 x.b, .int .i32 x.n, .slice x.ta x.tags.length x.tc, .slice x.la x.ln x.lc, .slice x.ea x.en x.ec] 126)) = W1 at *
  go_wp2_with (first
    | (at_builtin; refine put_byte rfl (.tmp 9) (.tmp 13) rfl x.op rfl GW.out HB2.out rfl T0.out ?_; intro v1 w1 hg1; refine Hid.out ?_))
  refine hid ?_
  go_wp2
  go_ret
  refine ⟨_, rfl, Grew.pre HW1.out ?_⟩
  simpa [List.append_assoc] using hg1

set_option maxRecDepth 100000 in
set_option maxHeartbeats 3200000 in
theorem put2 (B : Nat) (v : Value) (xs : List Int) (x : Ix) (w : World) (hv : Own B w v xs) (hB : B ≤ w.heap.size) (hx : May x) (_ht : TagsAt B w x.ta x.tags) (hl : xs.length ≤ 70368744177700) (hk : kindP x.op = 2) (hp : partsP x.op = 4) :
    Calls Tryz.prog 229 #[v, .agg x.vals] w (PutsTo B v w (xs ++ (x.op :: encRest x))) := by
  have hop := name_range ((lawful_iff x).1 hx.law).1
  obtain ⟨o0, o1, _, _⟩ := hop
  have F := hid (fun w' => follows_any x.op w')
  rw [hp] at F
  have b1 : bits .and .u8 4 1 = 0 := by decide
  have b2 : bits .and .u8 4 2 = 0 := by decide
  have b4 : bits .and .u8 4 4 = 4 := by decide
  have b8 : bits .and .u8 4 8 = 0 := by decide
  have b16 : bits .and .u8 4 16 = 0 := by decide
  have b32 : bits .and .u8 4 32 = 0 := by decide
  have b64 : bits .and .u8 4 64 = 0 := by decide
  have hXv : v.ownBlock ≠ some w.heap.size := fun h => by have := (World.ownsRow.lt hv _ h).2; omega
  have HXV := hid hXv
  have X0 := hid (At.made x w)
  have G0 := hid ((Grew.refl hv).post ((Below.refl w.heap.size w).alloc (Nat.le_refl _) (.cells x.vals 126)))
  rw [encRest2 hk]
  have GW : Hid (Grew B v (w.alloc (.cells x.vals 126)) v xs (w.alloc (.cells x.vals 126))) := hid (Grew.refl G0.out.own)
  have P1 := hid (fun w' => putU_put x.a w' hx.a.1 hx.a.2)
  have Q1 := hid (encU_lens x.a)
  obtain ⟨ea, hea⟩ : ∃ e, encU x.a = e := ⟨_, rfl⟩
  rw [hea] at P1 Q1
  rw [hea]
  clear hea
  have HL := hid hl
  have HB2 : Hid (B ≤ (w.alloc (.cells x.vals 126)).heap.size) := by refine hid ?_; simp; omega
  have HW1 : Hid (Below w.heap.size w (w.alloc (.cells x.vals 126))) := hid ((Below.refl w.heap.size w).alloc (Nat.le_refl _) _)
  clear hv hB _ht hl hk hp hXv G0 hx
  unfold Ix.vals at GW X0 HB2 HW1 ⊢
  obtain ⟨c0, c1, c2, c3, c4, c5, c6, c7⟩ := X0.out
  go_enter Tryz.func229, Tryz.ntmps229
  go_wp2_with fail
  refine (F.out _).mono ?_
  rintro e w' ⟨rfl, rfl⟩
  have T0 := hid (show xs.length ≤ 140737488351232 by have := HL.out; omega)
  generalize hW1 : (w.alloc (.cells #[.int .i64 x.op, .int .i64 x.res, .int .u32 x.a, .int .u32 x.b, .int .i32 x.n, .slice x.ta x.tags.length x.tc, .slice x.la x.ln x.lc, .slice x.ea x.en x.ec] 126)) = W1 at *
  go_wp2_with (first
    | (at_builtin; refine put_byte rfl (.tmp 9) (.tmp 13) rfl x.op rfl GW.out HB2.out rfl T0.out ?_; intro v1 w1 hg1; refine Hid.out ?_))
  refine hid ?_
  have A1 := hg1.at_ X0.out HXV.out
  have GH1 := hid hg1
  clear c0 c1 c2 c3 c4 c5 c6 c7 hg1
  obtain ⟨c0, c1, c2, c3, c4, c5, c6, c7⟩ := A1
  go_wp2_with fail
  refine (P1.out _).mono ?_
  rintro e q1 ⟨a1, cc1, rfl, hb1, hw1⟩
  have GC1 := hid (GH1.out.post hw1)
  have HB1c := hid hb1
  have TT1 := hid (show (xs ++ [x.op]).length + ea.length ≤ 140737488351232 by have h1 := HL.out; have h2 := Q1.out.1; simp only [List.length_append, List.length_cons, List.length_nil]; omega)
  have AX1 := GC1.out.at_ X0.out HXV.out
  clear c0 c1 c2 c3 c4 c5 c6 c7 hb1 hw1
  go_wp2_with (first
    | (at_builtin; refine put_bytes rfl (.tmp 34) (.tmp 37) rfl rfl GC1.out HB2.out rfl rfl HB1c.out Q1.out.2 TT1.out ?_; intro v2 w2 hg2; refine Hid.out ?_))
  refine hid ?_
  obtain ⟨c0, c1, c2, c3, c4, c5, c6, c7⟩ := hg2.at_ X0.out HXV.out
  go_wp2
  go_ret
  refine ⟨_, rfl, Grew.pre HW1.out ?_⟩
  simpa [List.append_assoc] using hg2

set_option maxRecDepth 100000 in
set_option maxHeartbeats 3200000 in
theorem put3 (B : Nat) (v : Value) (xs : List Int) (x : Ix) (w : World) (hv : Own B w v xs) (hB : B ≤ w.heap.size) (hx : May x) (_ht : TagsAt B w x.ta x.tags) (hl : xs.length ≤ 70368744177700) (hk : kindP x.op = 3) (hp : partsP x.op = 36) :
    Calls Tryz.prog 229 #[v, .agg x.vals] w (PutsTo B v w (xs ++ (x.op :: encRest x))) := by
  have hop := name_range ((lawful_iff x).1 hx.law).1
  obtain ⟨o0, o1, _, _⟩ := hop
  have F := hid (fun w' => follows_any x.op w')
  rw [hp] at F
  have b1 : bits .and .u8 36 1 = 0 := by decide
  have b2 : bits .and .u8 36 2 = 0 := by decide
  have b4 : bits .and .u8 36 4 = 4 := by decide
  have b8 : bits .and .u8 36 8 = 0 := by decide
  have b16 : bits .and .u8 36 16 = 0 := by decide
  have b32 : bits .and .u8 36 32 = 32 := by decide
  have b64 : bits .and .u8 36 64 = 0 := by decide
  have hXv : v.ownBlock ≠ some w.heap.size := fun h => by have := (World.ownsRow.lt hv _ h).2; omega
  have HXV := hid hXv
  have X0 := hid (At.made x w)
  have G0 := hid ((Grew.refl hv).post ((Below.refl w.heap.size w).alloc (Nat.le_refl _) (.cells x.vals 126)))
  rw [encRest3 hk]
  have GW : Hid (Grew B v (w.alloc (.cells x.vals 126)) v xs (w.alloc (.cells x.vals 126))) := hid (Grew.refl G0.out.own)
  have P1 := hid (fun w' => putU_put x.a w' hx.a.1 hx.a.2)
  have Q1 := hid (encU_lens x.a)
  obtain ⟨ea, hea⟩ : ∃ e, encU x.a = e := ⟨_, rfl⟩
  rw [hea] at P1 Q1
  rw [hea]
  clear hea
  have HL := hid hl
  have HB2 : Hid (B ≤ (w.alloc (.cells x.vals 126)).heap.size) := by refine hid ?_; simp; omega
  have HW1 : Hid (Below w.heap.size w (w.alloc (.cells x.vals 126))) := hid ((Below.refl w.heap.size w).alloc (Nat.le_refl _) _)
  clear hv hB _ht hl hk hp hXv G0 hx
  unfold Ix.vals at GW X0 HB2 HW1 ⊢
  obtain ⟨c0, c1, c2, c3, c4, c5, c6, c7⟩ := X0.out
  go_enter Tryz.func229, Tryz.ntmps229
  go_wp2_with fail
  refine (F.out _).mono ?_
  rintro e w' ⟨rfl, rfl⟩
  have T0 := hid (show xs.length ≤ 140737488351232 by have := HL.out; omega)
  generalize hW1 : (w.alloc (.cells #[.int .i64 x.op, .int .i64 x.res, .int .u32 x.a, .int .u32 x.b, .int .i32 x.n, .slice x.ta x.tags.length x.tc, .slice x.la x.ln x.lc, .slice x.ea x.en x.ec] 126)) = W1 at *
  go_wp2_with (first
    | (at_builtin; refine put_byte rfl (.tmp 9) (.tmp 13) rfl x.op rfl GW.out HB2.out rfl T0.out ?_; intro v1 w1 hg1; refine Hid.out ?_))
  refine hid ?_
  have A1 := hg1.at_ X0.out HXV.out
  have GH1 := hid hg1
  clear c0 c1 c2 c3 c4 c5 c6 c7 hg1
  obtain ⟨c0, c1, c2, c3, c4, c5, c6, c7⟩ := A1
  go_wp2_with fail
  refine (P1.out _).mono ?_
  rintro e q1 ⟨a1, cc1, rfl, hb1, hw1⟩
  have GC1 := hid (GH1.out.post hw1)
  have HB1c := hid hb1
  have TT1 := hid (show (xs ++ [x.op]).length + ea.length ≤ 140737488351232 by have h1 := HL.out; have h2 := Q1.out.1; simp only [List.length_append, List.length_cons, List.length_nil]; omega)
  have AX1 := GC1.out.at_ X0.out HXV.out
  clear c0 c1 c2 c3 c4 c5 c6 c7 hb1 hw1
  go_wp2_with (first
    | (at_builtin; refine put_bytes rfl (.tmp 34) (.tmp 37) rfl rfl GC1.out HB2.out rfl rfl HB1c.out Q1.out.2 TT1.out ?_; intro v2 w2 hg2; refine Hid.out ?_))
  refine hid ?_
  obtain ⟨c0, c1, c2, c3, c4, c5, c6, c7⟩ := hg2.at_ X0.out HXV.out
  have A2 := hg2.at_ X0.out HXV.out
  have GH2 := hid hg2
  clear c0 c1 c2 c3 c4 c5 c6 c7 hg2
  obtain ⟨c0, c1, c2, c3, c4, c5, c6, c7⟩ := A2
  have TT2 := hid (show ((xs ++ [x.op]) ++ ea).length ≤ 140737488351232 by have h1 := HL.out; have h2 := Q1.out.1; simp only [List.length_append, List.length_cons, List.length_nil]; omega)
  go_wp2_with (first
    | (at_builtin; refine put_byte rfl (.tmp 58) (.tmp 59) rfl 0 rfl GH2.out HB2.out rfl TT2.out ?_; intro v3 w3 hg3; refine Hid.out ?_))
  refine hid ?_
  obtain ⟨c0, c1, c2, c3, c4, c5, c6, c7⟩ := hg3.at_ X0.out HXV.out
  go_wp2
  go_ret
  refine ⟨_, rfl, Grew.pre HW1.out ?_⟩
  simpa [List.append_assoc] using hg3

set_option maxRecDepth 100000 in
set_option maxHeartbeats 3200000 in
theorem put4 (B : Nat) (v : Value) (xs : List Int) (x : Ix) (w : World) (hv : Own B w v xs) (hB : B ≤ w.heap.size) (hx : May x) (ht : TagsAt B w x.ta x.tags) (hl : xs.length ≤ 70368744177700) (hk : kindP x.op = 4) (hp : partsP x.op = 6) :
    Calls Tryz.prog 229 #[v, .agg x.vals] w (PutsTo B v w (xs ++ (x.op :: encRest x))) := by
  have hop := name_range ((lawful_iff x).1 hx.law).1
  obtain ⟨o0, o1, _, _⟩ := hop
  have F := hid (fun w' => follows_any x.op w')
  rw [hp] at F
  have b1 : bits .and .u8 6 1 = 0 := by decide
  have b2 : bits .and .u8 6 2 = 2 := by decide
  have b4 : bits .and .u8 6 4 = 4 := by decide
  have b8 : bits .and .u8 6 8 = 0 := by decide
  have b16 : bits .and .u8 6 16 = 0 := by decide
  have b32 : bits .and .u8 6 32 = 0 := by decide
  have b64 : bits .and .u8 6 64 = 0 := by decide
  have hXv : v.ownBlock ≠ some w.heap.size := fun h => by have := (World.ownsRow.lt hv _ h).2; omega
  have HXV := hid hXv
  have X0 := hid (At.made x w)
  have G0 := hid ((Grew.refl hv).post ((Below.refl w.heap.size w).alloc (Nat.le_refl _) (.cells x.vals 126)))
  rw [encRest4 hk]
  have GW : Hid (Grew B v (w.alloc (.cells x.vals 126)) v xs (w.alloc (.cells x.vals 126))) := hid (Grew.refl G0.out.own)
  have P1 := hid (fun (v' : Value) (zs : List Int) (w' : World) (h1 : Own B w' v' zs) (h2 : B ≤ w'.heap.size) (h3 : TagsAt B w' x.ta x.tags) (h4 : zs.length ≤ 70368744178000) => appendLabels_any B v' zs x.tags x.ta x.tags.length x.tc w' h1 h2 rfl h3 hx.tags hx.few h4)
  have P2 := hid (fun w' => putU_put x.a w' hx.a.1 hx.a.2)
  have Q2 := hid (encU_lens x.a)
  obtain ⟨ea, hea⟩ : ∃ e, encU x.a = e := ⟨_, rfl⟩
  rw [hea] at P2 Q2
  rw [hea]
  clear hea
  have HTL : Hid ((encTags x.tags).length ≤ 90000) := by refine hid ?_; have h1 := flatMap_len x.tags; have h2 := hx.few; have h3 := (encU_lens (x.tags.length : Int)).1; simp only [encTags, List.length_append]; omega
  have HT := hid ht
  have HB0 := hid hB
  have HL := hid hl
  have HB2 : Hid (B ≤ (w.alloc (.cells x.vals 126)).heap.size) := by refine hid ?_; simp; omega
  have HW1 : Hid (Below w.heap.size w (w.alloc (.cells x.vals 126))) := hid ((Below.refl w.heap.size w).alloc (Nat.le_refl _) _)
  obtain ⟨et, het⟩ : ∃ e, encTags x.tags = e := ⟨_, rfl⟩
  rw [het] at P1 HTL ⊢
  clear het
  clear hv hB ht hl hk hp hXv G0 hx
  unfold Ix.vals at GW X0 HB2 HW1 ⊢
  obtain ⟨c0, c1, c2, c3, c4, c5, c6, c7⟩ := X0.out
  go_enter Tryz.func229, Tryz.ntmps229
  go_wp2_with fail
  refine (F.out _).mono ?_
  rintro e w' ⟨rfl, rfl⟩
  have T0 := hid (show xs.length ≤ 140737488351232 by have := HL.out; omega)
  generalize hW1 : (w.alloc (.cells #[.int .i64 x.op, .int .i64 x.res, .int .u32 x.a, .int .u32 x.b, .int .i32 x.n, .slice x.ta x.tags.length x.tc, .slice x.la x.ln x.lc, .slice x.ea x.en x.ec] 126)) = W1 at *
  go_wp2_with (first
    | (at_builtin; refine put_byte rfl (.tmp 9) (.tmp 13) rfl x.op rfl GW.out HB2.out rfl T0.out ?_; intro v1 w1 hg1; refine Hid.out ?_))
  refine hid ?_
  have A1 := hg1.at_ X0.out HXV.out
  have GH1 := hid hg1
  clear c0 c1 c2 c3 c4 c5 c6 c7 hg1
  obtain ⟨c0, c1, c2, c3, c4, c5, c6, c7⟩ := A1
  have TB := GH1.out.below GW.out.own HB2.out
  have TT1 := hid (show (xs ++ [x.op]).length ≤ 70368744178000 by have h1 := HL.out; simp only [List.length_append, List.length_cons, List.length_nil]; omega)
  go_wp2_with fail
  refine (P1.out _ _ _ GH1.out.own (Nat.le_trans HB2.out GH1.out.touch.size) ((HT.out.below (HW1.out.mono HB0.out)).below TB) TT1.out).mono ?_
  rintro e w2 ⟨v2, rfl, hgl⟩
  have hg2 := GH1.out.trans hgl
  clear TB hgl
  clear c0 c1 c2 c3 c4 c5 c6 c7
  obtain ⟨c0, c1, c2, c3, c4, c5, c6, c7⟩ := hg2.at_ X0.out HXV.out
  have A2 := hg2.at_ X0.out HXV.out
  have GH2 := hid hg2
  clear c0 c1 c2 c3 c4 c5 c6 c7 hg2
  obtain ⟨c0, c1, c2, c3, c4, c5, c6, c7⟩ := A2
  go_wp2_with fail
  refine (P2.out _).mono ?_
  rintro e q2 ⟨a2, cc2, rfl, hb2, hw2⟩
  have GC2 := hid (GH2.out.post hw2)
  have HB2c := hid hb2
  have TT2 := hid (show ((xs ++ [x.op]) ++ et).length + ea.length ≤ 140737488351232 by have h1 := HL.out; have h2 := Q2.out.1; have h3 := HTL.out; simp only [List.length_append, List.length_cons, List.length_nil]; omega)
  have AX2 := GC2.out.at_ X0.out HXV.out
  clear c0 c1 c2 c3 c4 c5 c6 c7 hb2 hw2
  go_wp2_with (first
    | (at_builtin; refine put_bytes rfl (.tmp 34) (.tmp 37) rfl rfl GC2.out HB2.out rfl rfl HB2c.out Q2.out.2 TT2.out ?_; intro v3 w3 hg3; refine Hid.out ?_))
  refine hid ?_
  obtain ⟨c0, c1, c2, c3, c4, c5, c6, c7⟩ := hg3.at_ X0.out HXV.out
  go_wp2
  go_ret
  refine ⟨_, rfl, Grew.pre HW1.out ?_⟩
  simpa [List.append_assoc] using hg3

set_option maxRecDepth 100000 in
set_option maxHeartbeats 3200000 in
theorem put5 (B : Nat) (v : Value) (xs : List Int) (x : Ix) (w : World) (hv : Own B w v xs) (hB : B ≤ w.heap.size) (hx : May x) (_ht : TagsAt B w x.ta x.tags) (hl : xs.length ≤ 70368744177700) (hk : kindP x.op = 5) (hp : partsP x.op = 12) :
    Calls Tryz.prog 229 #[v, .agg x.vals] w (PutsTo B v w (xs ++ (x.op :: encRest x))) := by
  have hop := name_range ((lawful_iff x).1 hx.law).1
  obtain ⟨o0, o1, _, _⟩ := hop
  have F := hid (fun w' => follows_any x.op w')
  rw [hp] at F
  have b1 : bits .and .u8 12 1 = 0 := by decide
  have b2 : bits .and .u8 12 2 = 0 := by decide
  have b4 : bits .and .u8 12 4 = 4 := by decide
  have b8 : bits .and .u8 12 8 = 8 := by decide
  have b16 : bits .and .u8 12 16 = 0 := by decide
  have b32 : bits .and .u8 12 32 = 0 := by decide
  have b64 : bits .and .u8 12 64 = 0 := by decide
  have hXv : v.ownBlock ≠ some w.heap.size := fun h => by have := (World.ownsRow.lt hv _ h).2; omega
  have HXV := hid hXv
  have X0 := hid (At.made x w)
  have G0 := hid ((Grew.refl hv).post ((Below.refl w.heap.size w).alloc (Nat.le_refl _) (.cells x.vals 126)))
  rw [encRest5 hk]
  have GW : Hid (Grew B v (w.alloc (.cells x.vals 126)) v xs (w.alloc (.cells x.vals 126))) := hid (Grew.refl G0.out.own)
  have P1 := hid (fun w' => putU_put x.a w' hx.a.1 hx.a.2)
  have Q1 := hid (encU_lens x.a)
  have P2 := hid (fun w' => putU_put x.b w' hx.b.1 hx.b.2)
  have Q2 := hid (encU_lens x.b)
  obtain ⟨ea, hea⟩ : ∃ e, encU x.a = e := ⟨_, rfl⟩
  rw [hea] at P1 Q1
  rw [hea]
  clear hea
  obtain ⟨eb, heb⟩ : ∃ e, encU x.b = e := ⟨_, rfl⟩
  rw [heb] at P2 Q2
  rw [heb]
  clear heb
  have HL := hid hl
  have HB2 : Hid (B ≤ (w.alloc (.cells x.vals 126)).heap.size) := by refine hid ?_; simp; omega
  have HW1 : Hid (Below w.heap.size w (w.alloc (.cells x.vals 126))) := hid ((Below.refl w.heap.size w).alloc (Nat.le_refl _) _)
  clear hv hB _ht hl hk hp hXv G0 hx
  unfold Ix.vals at GW X0 HB2 HW1 ⊢
  obtain ⟨c0, c1, c2, c3, c4, c5, c6, c7⟩ := X0.out
  go_enter Tryz.func229, Tryz.ntmps229
  go_wp2_with fail
  refine (F.out _).mono ?_
  rintro e w' ⟨rfl, rfl⟩
  have T0 := hid (show xs.length ≤ 140737488351232 by have := HL.out; omega)
  generalize hW1 : (w.alloc (.cells #[.int .i64 x.op, .int .i64 x.res, .int .u32 x.a, .int .u32 x.b, .int .i32 x.n, .slice x.ta x.tags.length x.tc, .slice x.la x.ln x.lc, .slice x.ea x.en x.ec] 126)) = W1 at *
  go_wp2_with (first
    | (at_builtin; refine put_byte rfl (.tmp 9) (.tmp 13) rfl x.op rfl GW.out HB2.out rfl T0.out ?_; intro v1 w1 hg1; refine Hid.out ?_))
  refine hid ?_
  have A1 := hg1.at_ X0.out HXV.out
  have GH1 := hid hg1
  clear c0 c1 c2 c3 c4 c5 c6 c7 hg1
  obtain ⟨c0, c1, c2, c3, c4, c5, c6, c7⟩ := A1
  go_wp2_with fail
  refine (P1.out _).mono ?_
  rintro e q1 ⟨a1, cc1, rfl, hb1, hw1⟩
  have GC1 := hid (GH1.out.post hw1)
  have HB1c := hid hb1
  have TT1 := hid (show (xs ++ [x.op]).length + ea.length ≤ 140737488351232 by have h1 := HL.out; have h2 := Q1.out.1; simp only [List.length_append, List.length_cons, List.length_nil]; omega)
  have AX1 := GC1.out.at_ X0.out HXV.out
  clear c0 c1 c2 c3 c4 c5 c6 c7 hb1 hw1
  go_wp2_with (first
    | (at_builtin; refine put_bytes rfl (.tmp 34) (.tmp 37) rfl rfl GC1.out HB2.out rfl rfl HB1c.out Q1.out.2 TT1.out ?_; intro v2 w2 hg2; refine Hid.out ?_))
  refine hid ?_
  obtain ⟨c0, c1, c2, c3, c4, c5, c6, c7⟩ := hg2.at_ X0.out HXV.out
  have A2 := hg2.at_ X0.out HXV.out
  have GH2 := hid hg2
  clear c0 c1 c2 c3 c4 c5 c6 c7 hg2
  obtain ⟨c0, c1, c2, c3, c4, c5, c6, c7⟩ := A2
  go_wp2_with fail
  refine (P2.out _).mono ?_
  rintro e q2 ⟨a2, cc2, rfl, hb2, hw2⟩
  have GC2 := hid (GH2.out.post hw2)
  have HB2c := hid hb2
  have TT2 := hid (show ((xs ++ [x.op]) ++ ea).length + eb.length ≤ 140737488351232 by have h1 := HL.out; have h2 := Q2.out.1; have h3 := Q1.out.1; simp only [List.length_append, List.length_cons, List.length_nil]; omega)
  have AX2 := GC2.out.at_ X0.out HXV.out
  clear c0 c1 c2 c3 c4 c5 c6 c7 hb2 hw2
  go_wp2_with (first
    | (at_builtin; refine put_bytes rfl (.tmp 42) (.tmp 45) rfl rfl GC2.out HB2.out rfl rfl HB2c.out Q2.out.2 TT2.out ?_; intro v3 w3 hg3; refine Hid.out ?_))
  refine hid ?_
  obtain ⟨c0, c1, c2, c3, c4, c5, c6, c7⟩ := hg3.at_ X0.out HXV.out
  go_wp2
  go_ret
  refine ⟨_, rfl, Grew.pre HW1.out ?_⟩
  simpa [List.append_assoc] using hg3

set_option maxRecDepth 100000 in
set_option maxHeartbeats 3200000 in
theorem put6 (B : Nat) (v : Value) (xs : List Int) (x : Ix) (w : World) (hv : Own B w v xs) (hB : B ≤ w.heap.size) (hx : May x) (_ht : TagsAt B w x.ta x.tags) (hl : xs.length ≤ 70368744177700) (hk : kindP x.op = 6) (hp : partsP x.op = 32) :
    Calls Tryz.prog 229 #[v, .agg x.vals] w (PutsTo B v w (xs ++ (x.op :: encRest x))) := by
  have hop := name_range ((lawful_iff x).1 hx.law).1
  obtain ⟨o0, o1, _, _⟩ := hop
  have F := hid (fun w' => follows_any x.op w')
  rw [hp] at F
  have b1 : bits .and .u8 32 1 = 0 := by decide
  have b2 : bits .and .u8 32 2 = 0 := by decide
  have b4 : bits .and .u8 32 4 = 0 := by decide
  have b8 : bits .and .u8 32 8 = 0 := by decide
  have b16 : bits .and .u8 32 16 = 0 := by decide
  have b32 : bits .and .u8 32 32 = 32 := by decide
  have b64 : bits .and .u8 32 64 = 0 := by decide
  have hXv : v.ownBlock ≠ some w.heap.size := fun h => by have := (World.ownsRow.lt hv _ h).2; omega
  have HXV := hid hXv
  have X0 := hid (At.made x w)
  have G0 := hid ((Grew.refl hv).post ((Below.refl w.heap.size w).alloc (Nat.le_refl _) (.cells x.vals 126)))
  rw [encRest6 hk]
  have GW : Hid (Grew B v (w.alloc (.cells x.vals 126)) v xs (w.alloc (.cells x.vals 126))) := hid (Grew.refl G0.out.own)
  have HL := hid hl
  have HB2 : Hid (B ≤ (w.alloc (.cells x.vals 126)).heap.size) := by refine hid ?_; simp; omega
  have HW1 : Hid (Below w.heap.size w (w.alloc (.cells x.vals 126))) := hid ((Below.refl w.heap.size w).alloc (Nat.le_refl _) _)
  clear hv hB _ht hl hk hp hXv G0 hx
  unfold Ix.vals at GW X0 HB2 HW1 ⊢
  obtain ⟨c0, c1, c2, c3, c4, c5, c6, c7⟩ := X0.out
  go_enter Tryz.func229, Tryz.ntmps229
  go_wp2_with fail
  refine (F.out _).mono ?_
  rintro e w' ⟨rfl, rfl⟩
  have T0 := hid (show xs.length ≤ 140737488351232 by have := HL.out; omega)
  generalize hW1 : (w.alloc (.cells #[.int .i64 x.op, .int .i64 x.res, .int .u32 x.a, .int .u32 x.b, .int .i32 x.n, .slice x.ta x.tags.length x.tc, .slice x.la x.ln x.lc, .slice x.ea x.en x.ec] 126)) = W1 at *
  go_wp2_with (first
    | (at_builtin; refine put_byte rfl (.tmp 9) (.tmp 13) rfl x.op rfl GW.out HB2.out rfl T0.out ?_; intro v1 w1 hg1; refine Hid.out ?_))
  refine hid ?_
  have A1 := hg1.at_ X0.out HXV.out
  have GH1 := hid hg1
  clear c0 c1 c2 c3 c4 c5 c6 c7 hg1
  obtain ⟨c0, c1, c2, c3, c4, c5, c6, c7⟩ := A1
  have TT1 := hid (show (xs ++ [x.op]).length ≤ 140737488351232 by have h1 := HL.out; simp only [List.length_append, List.length_cons, List.length_nil]; omega)
  go_wp2_with (first
    | (at_builtin; refine put_byte rfl (.tmp 58) (.tmp 59) rfl 0 rfl GH1.out HB2.out rfl TT1.out ?_; intro v2 w2 hg2; refine Hid.out ?_))
  refine hid ?_
  obtain ⟨c0, c1, c2, c3, c4, c5, c6, c7⟩ := hg2.at_ X0.out HXV.out
  go_wp2
  go_ret
  refine ⟨_, rfl, Grew.pre HW1.out ?_⟩
  simpa [List.append_assoc] using hg2

set_option maxRecDepth 100000 in
set_option maxHeartbeats 3200000 in
theorem put7 (B : Nat) (v : Value) (xs : List Int) (x : Ix) (w : World) (hv : Own B w v xs) (hB : B ≤ w.heap.size) (hx : May x) (_ht : TagsAt B w x.ta x.tags) (hl : xs.length ≤ 70368744177700) (hk : kindP x.op = 7) (hp : partsP x.op = 16) :
    Calls Tryz.prog 229 #[v, .agg x.vals] w (PutsTo B v w (xs ++ (x.op :: encRest x))) := by
  have hop := name_range ((lawful_iff x).1 hx.law).1
  obtain ⟨o0, o1, _, _⟩ := hop
  have F := hid (fun w' => follows_any x.op w')
  rw [hp] at F
  have b1 : bits .and .u8 16 1 = 0 := by decide
  have b2 : bits .and .u8 16 2 = 0 := by decide
  have b4 : bits .and .u8 16 4 = 0 := by decide
  have b8 : bits .and .u8 16 8 = 0 := by decide
  have b16 : bits .and .u8 16 16 = 16 := by decide
  have b32 : bits .and .u8 16 32 = 0 := by decide
  have b64 : bits .and .u8 16 64 = 0 := by decide
  have hXv : v.ownBlock ≠ some w.heap.size := fun h => by have := (World.ownsRow.lt hv _ h).2; omega
  have HXV := hid hXv
  have X0 := hid (At.made x w)
  have G0 := hid ((Grew.refl hv).post ((Below.refl w.heap.size w).alloc (Nat.le_refl _) (.cells x.vals 126)))
  rw [encRest7 hk]
  have GW : Hid (Grew B v (w.alloc (.cells x.vals 126)) v xs (w.alloc (.cells x.vals 126))) := hid (Grew.refl G0.out.own)
  have P1 := hid (fun w' => putS_put x.n w' hx.n.1 hx.n.2)
  have Q1 := hid (encS_lens x.n)
  obtain ⟨en, hen⟩ : ∃ e, encS x.n = e := ⟨_, rfl⟩
  rw [hen] at P1 Q1
  rw [hen]
  clear hen
  have HL := hid hl
  have HB2 : Hid (B ≤ (w.alloc (.cells x.vals 126)).heap.size) := by refine hid ?_; simp; omega
  have HW1 : Hid (Below w.heap.size w (w.alloc (.cells x.vals 126))) := hid ((Below.refl w.heap.size w).alloc (Nat.le_refl _) _)
  clear hv hB _ht hl hk hp hXv G0 hx
  unfold Ix.vals at GW X0 HB2 HW1 ⊢
  obtain ⟨c0, c1, c2, c3, c4, c5, c6, c7⟩ := X0.out
  go_enter Tryz.func229, Tryz.ntmps229
  go_wp2_with fail
  refine (F.out _).mono ?_
  rintro e w' ⟨rfl, rfl⟩
  have T0 := hid (show xs.length ≤ 140737488351232 by have := HL.out; omega)
  generalize hW1 : (w.alloc (.cells #[.int .i64 x.op, .int .i64 x.res, .int .u32 x.a, .int .u32 x.b, .int .i32 x.n, .slice x.ta x.tags.length x.tc, .slice x.la x.ln x.lc, .slice x.ea x.en x.ec] 126)) = W1 at *
  go_wp2_with (first
    | (at_builtin; refine put_byte rfl (.tmp 9) (.tmp 13) rfl x.op rfl GW.out HB2.out rfl T0.out ?_; intro v1 w1 hg1; refine Hid.out ?_))
  refine hid ?_
  have A1 := hg1.at_ X0.out HXV.out
  have GH1 := hid hg1
  clear c0 c1 c2 c3 c4 c5 c6 c7 hg1
  obtain ⟨c0, c1, c2, c3, c4, c5, c6, c7⟩ := A1
  go_wp2_with fail
  refine (P1.out _).mono ?_
  rintro e q1 ⟨a1, cc1, rfl, hb1, hw1⟩
  have GC1 := hid (GH1.out.post hw1)
  have HB1c := hid hb1
  have TT1 := hid (show (xs ++ [x.op]).length + en.length ≤ 140737488351232 by have h1 := HL.out; have h2 := Q1.out.1; simp only [List.length_append, List.length_cons, List.length_nil]; omega)
  have AX1 := GC1.out.at_ X0.out HXV.out
  clear c0 c1 c2 c3 c4 c5 c6 c7 hb1 hw1
  go_wp2_with (first
    | (at_builtin; refine put_bytes rfl (.tmp 50) (.tmp 53) rfl rfl GC1.out HB2.out rfl rfl HB1c.out Q1.out.2 TT1.out ?_; intro v2 w2 hg2; refine Hid.out ?_))
  refine hid ?_
  obtain ⟨c0, c1, c2, c3, c4, c5, c6, c7⟩ := hg2.at_ X0.out HXV.out
  go_wp2
  go_ret
  refine ⟨_, rfl, Grew.pre HW1.out ?_⟩
  simpa [List.append_assoc] using hg2

set_option maxRecDepth 100000 in
set_option maxHeartbeats 3200000 in
theorem inner_any (B : Nat) (v : Value) (xs : List Int) (x : Ix) (l e : Il) (w : World) (hv : Own B w v xs) (hB : B ≤ w.heap.size) (hl : ListAt B w x.la x.ln l) (he : ListAt B w x.ea x.en e) (hln : x.ln ≤ 140737488351232) (hen : x.en ≤ 140737488351232) (il : ALok l) (ie : ALok e)
    (hx : xs.length + (encL l).length + (encL e).length + 1 ≤ 70368744177664) :
    Calls Tryz.prog 241 #[v, .agg x.vals] w (PutsTo B v w (xs ++ (encL l ++ ((if x.en = 0 then [] else 5 :: encL e) ++ [11])))) := by
  have hXv : v.ownBlock ≠ some w.heap.size := fun h => by have := (World.ownsRow.lt hv _ h).2; omega
  have HXV := hid hXv
  have HW1 : Hid (Below w.heap.size w (w.alloc (.cells x.vals 126))) := hid ((Below.refl w.heap.size w).alloc (Nat.le_refl _) _)
  have X0 := hid (At.made x w)
  have GW : Hid (Grew B v (w.alloc (.cells x.vals 126)) v xs (w.alloc (.cells x.vals 126))) := hid (Grew.refl (hv.alloc _))
  have HB2 : Hid (B ≤ (w.alloc (.cells x.vals 126)).heap.size) := by refine hid ?_; simp; omega
  have LL := hid (hl.below (HW1.out.mono hB))
  have LE := hid (he.below (HW1.out.mono hB))
  have PL := hid (fun (v' : Value) (zs : List Int) (w' : World) (h1 : Own B w' v' zs) (h2 : B ≤ w'.heap.size) (h3 : ListAt B w' x.la x.ln l) (h4 : zs.length + (encL l).length ≤ 70368744177664) => il B v' zs x.la x.ln x.lc w' h1 h2 h3 hln h4)
  have PE := hid (fun (v' : Value) (zs : List Int) (w' : World) (h1 : Own B w' v' zs) (h2 : B ≤ w'.heap.size) (h3 : ListAt B w' x.ea x.en e) (h4 : zs.length + (encL e).length ≤ 70368744177664) => ie B v' zs x.ea x.en x.ec w' h1 h2 h3 hen h4)
  obtain ⟨el, hel⟩ : ∃ r, encL l = r := ⟨_, rfl⟩
  obtain ⟨ee, hee⟩ : ∃ r, encL e = r := ⟨_, rfl⟩
  rw [hel] at PL hx ⊢
  rw [hee] at PE hx ⊢
  have HL := hid hx
  clear hv hB hl he hln hen il ie hx hXv hel hee
  by_cases h0 : x.en = 0
  · rw [if_pos h0, List.nil_append]
    have h0'' : ¬ (0 : Int) < (x.en : Int) := by omega
    clear h0
    unfold Ix.vals at GW X0 HB2 HW1 LL LE ⊢
    obtain ⟨c0, c1, c2, c3, c4, c5, c6, c7⟩ := X0.out
    have T0 := hid (show xs.length + el.length ≤ 70368744177664 by have := HL.out; omega)
    go_enter Tryz.func241, Tryz.ntmps241
    generalize hW1 : (w.alloc (.cells #[.int .i64 x.op, .int .i64 x.res, .int .u32 x.a, .int .u32 x.b, .int .i32 x.n, .slice x.ta x.tags.length x.tc, .slice x.la x.ln x.lc, .slice x.ea x.en x.ec] 126)) = W1 at *
    go_wp2_with fail
    try rw [hW1]
    refine (PL.out v xs W1 GW.out.own HB2.out LL.out T0.out).mono ?_
    clear PL
    rintro e1 w1 ⟨v1, rfl, hg1⟩
    have A1 := hg1.at_ X0.out HXV.out
    have GH1 := hid hg1
    clear c0 c1 c2 c3 c4 c5 c6 c7 hg1
    obtain ⟨c0, c1, c2, c3, c4, c5, c6, c7⟩ := A1
    have T1 := hid (show (xs ++ el).length ≤ 140737488351232 by have := HL.out; simp only [List.length_append]; omega)
    go_wp2_with (first
      | (at_builtin; refine put_byte rfl (.tmp 19) (.tmp 20) rfl 11 rfl GH1.out HB2.out rfl T1.out ?_; intro v2 w2 hg2; refine Hid.out ?_))
    refine hid ?_
    go_wp2
    go_ret
    refine ⟨_, rfl, Grew.pre HW1.out ?_⟩
    simpa [List.append_assoc] using hg2
  · rw [if_neg h0]
    have h0'' : (0 : Int) < (x.en : Int) := by omega
    unfold Ix.vals at GW X0 HB2 HW1 LL LE ⊢
    obtain ⟨c0, c1, c2, c3, c4, c5, c6, c7⟩ := X0.out
    have T0 := hid (show xs.length + el.length ≤ 70368744177664 by have := HL.out; omega)
    go_enter Tryz.func241, Tryz.ntmps241
    generalize hW1 : (w.alloc (.cells #[.int .i64 x.op, .int .i64 x.res, .int .u32 x.a, .int .u32 x.b, .int .i32 x.n, .slice x.ta x.tags.length x.tc, .slice x.la x.ln x.lc, .slice x.ea x.en x.ec] 126)) = W1 at *
    go_wp2_with fail
    try rw [hW1]
    refine (PL.out v xs W1 GW.out.own HB2.out LL.out T0.out).mono ?_
    clear PL
    rintro e1 w1 ⟨v1, rfl, hg1⟩
    have A1 := hg1.at_ X0.out HXV.out
    have GH1 := hid hg1
    clear c0 c1 c2 c3 c4 c5 c6 c7
    obtain ⟨c0, c1, c2, c3, c4, c5, c6, c7⟩ := A1
    have LE1 := hid (LE.out.below (hg1.below GW.out.own HB2.out))
    clear hg1
    have T1 := hid (show (xs ++ el).length ≤ 140737488351232 by have := HL.out; simp only [List.length_append]; omega)
    have G1d := hid (GH1.out.post (Below.refl _ _).drew)
    have G1z := hid (GH1.out.post ((Below.refl w1.heap.size w1).alloc (Nat.le_refl _) (.cells #[.int .u8 5] 5)).drew)
    have Z5 : Hid ((w1.alloc (.cells #[.int .u8 5] 5)).drew.cell? ⟨w1.heap.size, 0, none⟩ = some (.int .u8 5)) := by refine hid ?_; go_simp
    have c7z := keepA c7 (.cells #[.int .u8 5] 5)
    have T2 := hid (show (xs ++ el ++ [5]).length + ee.length ≤ 70368744177664 by have := HL.out; simp only [List.length_append, List.length_cons, List.length_nil]; omega)
    have LE0 := LE
    go_wp2
    go_region_law
      (first
        | (refine step_put_byte rfl (.tmp 13) (.tmp 14) rfl 5 rfl G1z.out HB2.out rfl Z5.out T1.out ?_
           intro v2 w2 hg2
           have c72 := (hg2.at_ X0.out HXV.out).c7
           have LE2 := hid (LE0.out.below (hg2.below GW.out.own HB2.out))
           have HG2 := hid hg2
           clear hg2)
        | (go_simp; go_at_call 213
           refine (PE.out _ _ _ HG2.out.own (Nat.le_trans HB2.out HG2.out.touch.size) LE2.out T2.out).mono ?_
           rintro e3 w3 ⟨v3, rfl, hg3⟩
           have HG3 := hid (HG2.out.trans hg3)
           clear hg3))
    all_goals
      have T3 := hid (show (xs ++ el ++ [5] ++ ee).length ≤ 140737488351232 by have := HL.out; simp only [List.length_append, List.length_cons, List.length_nil]; omega)
      go_wp2_with (first
        | (at_builtin; refine put_byte rfl (.tmp 19) (.tmp 20) rfl 11 rfl HG3.out HB2.out rfl T3.out ?_; intro v4 w4 hg4; refine Hid.out ?_))
      refine hid ?_
      go_wp2
      go_ret
      refine ⟨_, rfl, Grew.pre HW1.out ?_⟩
      simpa [List.append_assoc] using hg4
end Go.Proofs.YtepbjkkakfpjgaaGreatDoor.Body

namespace Go.Proofs.YtepbjkkakfpjgaaGreatDoor.Instr
open Go.RowKit Go.Shelf

attribute [local go_sem] Oper.semAt_some

theorem lawful_any (x : Ix) (w : World) (hT : Nams w) : Calls Tryz.prog 179 #[.agg x.vals] w fun e w' => e = .returned (.bool (lawfulP x)) ∧ Below w.heap.size w w' := by
  by_cases h : nameL x.op = []
  · have : lawfulP x = false := by simp [lawfulP, h]
    rw [this]
    exact lawful_noname x w hT h
  · have : lawfulP x = (decide (overP x = 0) && (decide (x.res = 0) || decide (x.res = 1))) := by simp [lawfulP, h]
    rw [this]
    exact lawful_name x w hT h
def manyP (l : List (Int × Ix)) : Bool := decide (262144 < l.length) || (l.any fun p => decide (16384 < p.2.tags.length)) || decide (900 < deepest l)
theorem manyP_snoc (l : List (Int × Ix)) (p : Int × Ix) : manyP (l ++ [p]) = (manyP l || (decide (262144 < l.length + 1) || (decide (16384 < p.2.tags.length) || decide (900 < p.1)))) := by
  unfold manyP
  rw [deepest_snoc]
  simp only [List.length_append, List.length_cons, List.length_nil, List.any_append, List.any_cons, List.any_nil, Bool.or_false]
  rw [Bool.eq_iff_iff]
  simp only [Bool.or_eq_true, decide_eq_true_eq]
  constructor
  · rintro ((h | h | h) | h)
    · right; left; omega
    · left; left; right; exact h
    · right; right; left; exact h
    · rcases Int.le_total (deepest l) p.1 with h1 | h1
      · right; right; right; omega
      · left; right; omega
  · rintro (((h | h) | h) | h | h | h)
    · left; left; omega
    · left; right; left; exact h
    · right; omega
    · left; left; omega
    · left; right; right; exact h
    · right; omega
theorem manyP_walk (t : Il) : manyP (t.walk 1) = decide (262144 < t.count ∨ 900 < t.deep ∨ t.tags = true) := by
  unfold manyP
  rw [walk_length, walk_tags, deepest_walk, Bool.eq_iff_iff]
  simp only [Bool.or_eq_true, decide_eq_true_eq]
  constructor
  · rintro ((h | h) | h)
    · exact .inl h
    · exact .inr (.inr h)
    · exact .inr (.inl (by omega))
  · rintro (h | h | h)
    · exact .inl (.inl h)
    · exact .inr (by omega)
    · exact .inl (.inr h)

def allP (l : List (Int × Ix)) : Bool := l.all fun p => lawfulP p.2
theorem allP_snoc (l : List (Int × Ix)) (p : Int × Ix) : allP (l ++ [p]) = (allP l && lawfulP p.2) := by simp [allP, List.all_append]
theorem allP_walk (t : Il) (d : Int) : allP (t.walk d) = t.all := walk_all t d
theorem keepsFrom_below {B : Nat} {w w' : World} (h : Below w.heap.size w w') : KeepsFrom B w w' := ⟨h.size, fun k _ _ hk _ => (h.block k (Array.getElem?_eq_some_iff.1 hk).1).trans hk⟩
theorem At.own {x : Ix} {g : Nat} {A B : World} {row : Option Nat} (h : At x g A) (hg : A.grownBy B row) (hr : ∀ r, row = some r → ∃ o : Obj, A.heap[r]? = some o ∧ o.isCells = false) : At x g B :=
  ⟨cell_kept h.c0 hg hr, cell_kept h.c1 hg hr, cell_kept h.c2 hg hr, cell_kept h.c3 hg hr, cell_kept h.c4 hg hr, cell_kept h.c5 hg hr, cell_kept h.c6 hg hr, cell_kept h.c7 hg hr⟩

/-- What the loop of Check holds in its own cells: result, count, many. -/
structure Chk (g : Nat) (r : Int) (n : Int) (m : Bool) (W : World) : Prop where
  res : W.cell? ⟨g, 0, none⟩ = some (.int .i64 r)
  num : W.cell? ⟨g + 1, 0, none⟩ = some (.int .i64 n)
  many : W.cell? ⟨g + 2, 0, none⟩ = some (.bool m)
  fres : W.frozen? ⟨g, 0, none⟩ = false
  fnum : W.frozen? ⟨g + 1, 0, none⟩ = false
  fmany : W.frozen? ⟨g + 2, 0, none⟩ = false
theorem Chk.own {g : Nat} {r n : Int} {m : Bool} {A B : World} {row : Option Nat} (h : Chk g r n m A) (hg : A.grownBy B row) (hr : ∀ r, row = some r → ∃ o : Obj, A.heap[r]? = some o ∧ o.isCells = false) : Chk g r n m B :=
  ⟨cell_kept h.res hg hr, cell_kept h.num hg hr, cell_kept h.many hg hr, (frozen_kept h.res hg hr).trans h.fres, (frozen_kept h.num hg hr).trans h.fnum, (frozen_kept h.many hg hr).trans h.fmany⟩
theorem Chk.below {g : Nat} {r n : Int} {m : Bool} {A B : World} (h : Chk g r n m A) (hb : Below A.heap.size A B) : Chk g r n m B :=
  have f : ∀ p v, A.cell? p = some v → A.frozen? p = false → B.frozen? p = false := fun p _ hc hf => (hb.frozen (World.block_lt_of_cell? A p hc)).trans hf
  ⟨keep hb h.res, keep hb h.num, keep hb h.many, f _ _ h.res h.fres, f _ _ h.num h.fnum, f _ _ h.many h.fmany⟩

theorem Chk.next {g : Nat} {r n n' n2 : Int} {m m' m2 : Bool} {A : World} (h : Chk g r n m A) (hn : n' = n2) (hm : m' = m2) : Chk g r n' m' ((A.setCell ⟨g + 1, 0, none⟩ (.int .i64 n2)).setCell ⟨g + 1 + 1, 0, none⟩ (.bool m2)) := by
  obtain ⟨r1, r2, r3, f1, f2, f3⟩ := h
  subst hn hm
  constructor <;> simp [go_sem, *]

set_option maxRecDepth 100000 in
set_option maxHeartbeats 4000000 in
theorem Check_any (a : Option Addr) (len cap : Nat) (t : Il) (w : World) (hT : Nams w) (hl : ListAt w.heap.size w a len t) (hc : t.count ≤ 4611686018427387900) (hlen : len ≤ 140737488351232) :
    Calls Tryz.prog 119 #[.slice a len cap] w fun e w' => e = .returned (.int .i64 (checkP t)) ∧ Below w.heap.size w w' := by
  have HC := hid hc
  clear hc
  refine (callsIn_wide (n := 3)).1 ?_
  refine callsIn_of_wp_marks Tryz.func119 rfl trivial ?_ rfl
  simp only [Tryz.ntmps119, List.size_toArray, List.length_cons, List.length_nil, Nat.reduceAdd, Nat.reduceSub, Array.replicate_succ, Array.replicate_zero, List.push_toArray, List.append_toArray, List.nil_append, List.cons_append]
  gi_wp2_with (refine ⟨trivial, ?_⟩; refine (within_in _ _ _ _ _).mono ?_; rintro e w' ⟨rfl, rfl⟩)
  have hS0 : Chk w.heap.size 0 0 false (((w.alloc (.cells #[.int .i64 0] 36)).alloc (.cells #[.int .i64 0] 3)).alloc (.cells #[.bool false] 4)) := by constructor <;> go_simp
  have hb := cell_new (((w.alloc (.cells #[.int .i64 0] 36)).alloc (.cells #[.int .i64 0] 3)).alloc (.cells #[.bool false] 4)) (.slice a len cap) 45
  have hS1 := hS0.below ((Below.refl _ _).alloc (Nat.le_refl _) (.cells #[.slice a len cap] 45))
  have hB0 : Below w.heap.size w ((((w.alloc (.cells #[.int .i64 0] 36)).alloc (.cells #[.int .i64 0] 3)).alloc (.cells #[.bool false] 4)).alloc (.cells #[.slice a len cap] 45)) := thenA (thenA (thenA (thenA (Below.refl _ _) _) _) _) _
  have hsz : ((((w.alloc (.cells #[.int .i64 0] 36)).alloc (.cells #[.int .i64 0] 3)).alloc (.cells #[.bool false] 4)).alloc (.cells #[.slice a len cap] 45)).heap.size = w.heap.size + 4 := by simp
  have hsz3 : (((w.alloc (.cells #[.int .i64 0] 36)).alloc (.cells #[.int .i64 0] 3)).alloc (.cells #[.bool false] 4)).heap.size = w.heap.size + 1 + 1 + 1 := by simp
  rw [hsz3] at hb
  clear hS0 hsz3
  obtain ⟨W0, hW0⟩ : ∃ W0, (((w.alloc (.cells #[.int .i64 0] 36)).alloc (.cells #[.int .i64 0] 3)).alloc (.cells #[.bool false] 4)).alloc (.cells #[.slice a len cap] 45) = W0 := ⟨_, rfl⟩
  rw [hW0] at hb hS1 hB0 hsz ⊢
  clear hW0
  refine wpIn_rangeFunc_ownH rfl (by omega) (gf := 186) (lb := #[.pointer (some ⟨w.heap.size + 1 + 1 + 1, 0, none⟩)]) rfl trivial (enters_of Tryz.func186 (by kernel_rfl) rfl)
    (within_stops _ w.heap.size (w.heap.size + 4) (w.heap.size + 1 + 1 + 1) a len cap t W0 (by omega) (by omega) (by omega) hb.1 (hl.below hB0) (by have := HC.out; have := deep_le_count t; omega) hlen) (fun h k => h.trans k) (kept_b (by omega)) (Below.refl _ _) (fun _ => rfl)
    (fun pre W => (allP pre = true ∧ Chk w.heap.size 0 pre.length (manyP pre) W ∧ w.heap.size + 4 ≤ W.heap.size) ∧ Below w.heap.size w W)
    (fun c pre W => (c = .ret ∧ allP pre = false ∧ W.cell? ⟨w.heap.size, 0, none⟩ = some (.int .i64 2)) ∧ Below w.heap.size w W)
    (OwnFrom.and (Own.from (fun s A B row hs hg hr => ⟨hs.1, hs.2.1.own hg hr, Nat.le_trans hs.2.2 hg.size⟩) _) (ownFrom_below (Nat.le_refl _) (by omega)))
    (fun c => OwnFrom.and (Own.from (fun s A B row hs hg hr => ⟨hs.1, hs.2.1, cell_kept hs.2.2 hg hr⟩) _) (ownFrom_below (Nat.le_refl _) (by omega)))
    ⟨⟨rfl, by simpa [manyP, deepest] using hS1, by omega⟩, hB0⟩
    (fun x a' W => ∃ Bx, w.heap.size + 4 ≤ Bx ∧ At x.2 Bx W ∧ a' = { tmps := #[.slice a len cap, undef, .pointer (some ⟨w.heap.size, 0, none⟩), .pointer (some ⟨w.heap.size + 1, 0, none⟩), .pointer (some ⟨w.heap.size + 1 + 1, 0, none⟩), .int .i64 x.1, .pointer (some ⟨Bx, 0, none⟩), .slice a len cap, .func (.func 186) #[] #[.pointer (some ⟨w.heap.size + 1 + 1 + 1, 0, none⟩)], .int .i64 x.1, .agg x.2.vals, undef, undef, undef, undef, undef, undef, undef, undef, undef, undef, undef, undef, undef, undef, undef, undef, undef, undef, undef, undef, undef], defers := [] })
    (fun x a' _ X Y row hs hg hr => by obtain ⟨Bx, h1, h2, h3⟩ := hs; exact ⟨Bx, h1, h2.own hg (fun r e => (hr r e).2), h3⟩)
    ?assign ?body ?done ?stop
  case assign =>
    rintro l pre ⟨d, x⟩ W K ⟨⟨hla, hch, hz⟩, hB1⟩ hK
    simp only [encs, Ix.vals] at hK ⊢
    gi_wp2
    exact hK _ _ ((KeepsOthers.alloc _ _).from _) ((Kept.refl _ _ W).alloc _ (by omega)) ⟨⟨hla, hch.below ((Below.refl _ _).alloc (Nat.le_refl _) _), by simp; omega⟩, thenA hB1 _⟩ ⟨W.heap.size, hz, At.made x W, rfl⟩
  case body =>
    rintro l pre ⟨d, x⟩ a' W hl' ⟨r, hr⟩ ⟨⟨hla, hch, hz⟩, hB1⟩ ⟨Bx, hBx, bX, rfl⟩ hlt
    clear hsz hl'
    have CL := callsIn_wide (n := 3 - 1 - 1 - 1) |>.2 (lawful_any x W (hT.below hB1))
    obtain ⟨q, hq⟩ : ∃ q, lawfulP x = q := ⟨_, rfl⟩
    rw [hq] at CL
    obtain ⟨cnt, hcnt⟩ : ∃ cnt : Int, (pre.length : Int) = cnt := ⟨_, rfl⟩
    have hcb : 0 ≤ cnt ∧ cnt + 1 ≤ 4611686018427387900 := by have := HC.out; omega
    obtain ⟨m, hm⟩ : ∃ m, manyP pre = m := ⟨_, rfl⟩
    have hsn := manyP_snoc pre (d, x)
    have HSN := hid hsn
    have HQ := hid hq
    have HM := hid hm
    have HCN := hid hcnt
    have HLA := hid hla
    rw [hcnt, hm] at hch
    clear hsn hq hm hcnt hla hlt
    unfold Ix.vals at CL
    simp only [Ix.vals]
    obtain ⟨hc0, hc1⟩ := hcb
    have hch' := hch
    have bX' := bX
    obtain ⟨b0, b1, b2, b3, b4, b5, b6, b7⟩ := bX
    obtain ⟨r1, r2, r3, f1, f2, f3⟩ := hch
    gi_wp2_with fail
    refine ⟨trivial, ?_⟩
    refine (CallsIn.inRound l CL).mono ?_
    rintro e W3 ⟨rfl, hb3⟩
    clear CL b0 b1 b2 b3 b4 b5 b6 b7 r1 r2 r3 f1 f2 f3
    have hch3 := hch'.below hb3
    obtain ⟨r1, r2, r3, f1, f2, f3⟩ := hch3
    have bX3 := bX'.below hb3
    obtain ⟨b0, b1, b2, b3, b4, b5, b6, b7⟩ := bX3
    have hkf : KeepsFrom W0.heap.size W W3 := keepsFrom_below hb3
    have hkp : Kept w.heap.size (w.heap.size + 4) W W3 := Kept.of_below hb3 (by omega)
    cases q
    · gi_wp2
      exact ⟨hkf.trans ((KeepsOthers.setCell _ _ _).from _), ⟨rfl, by rw [allP_snoc, HQ.out, Bool.and_false], World.cell?_setCell_same' _ _ _ (by rw [r1]; rfl)⟩, (thenB hB1 hb3).setCell (p := ⟨w.heap.size, 0, none⟩) (Nat.le_refl _) _⟩
    · have hch3 : Chk w.heap.size 0 cnt m W3 := hch'.below hb3
      have hln : (((pre ++ [(d, x)]).length : Nat) : Int) = cnt + 1 := by rw [← HCN.out]; simp
      have HLN := hid hln
      clear hln
      gi_wp2
      all_goals
        refine ⟨hkf.trans (((KeepsOthers.setCell _ _ _).trans (KeepsOthers.setCell _ _ _)).from _), (hkp.setCell (p := ⟨w.heap.size + 1, 0, none⟩) (by simp) (by simp) _).setCell (p := ⟨w.heap.size + 1 + 1, 0, none⟩) (by simp; omega) (by simp) _,
          ⟨by rw [allP_snoc, HLA.out, HQ.out]; rfl, hch3.next HLN.out ?_, by have := hb3.size; simp [World.setCell]; omega⟩, ((thenB hB1 hb3).setCell (p := ⟨w.heap.size + 1, 0, none⟩) (by simp) _).setCell (p := ⟨w.heap.size + 1 + 1, 0, none⟩) (by simp; omega) _⟩
        rw [HSN.out, HM.out]
        have hcn := HCN.out
        cases m
        · simp only [Bool.false_or]
          rw [Bool.eq_iff_iff]
          simp only [Bool.or_eq_true, decide_eq_true_eq]
          constructor <;> intro hh <;> first | rfl | trivial | contradiction | omega | trace_state
        · simp_all
  case done =>
    rintro D ys W hD rfl ⟨⟨hla, hch, hz⟩, hB⟩ hK
    rw [allP_walk] at hla
    rw [manyP_walk] at hch
    obtain ⟨m, hm⟩ : ∃ m, decide (262144 < t.count ∨ 900 < t.deep ∨ t.tags = true) = m := ⟨_, rfl⟩
    rw [hm] at hch
    have HR : Hid (checkP t = if m then 141 else 0) := by show _ = _; unfold checkP; rw [if_pos hla, ← hm]; simp
    clear hm hla
    obtain ⟨r1, r2, r3, f1, f2, f3⟩ := hch
    cases m
    · gi_wp2
      have hK' := (KeepsOthers.setCell W ⟨w.heap.size, 0, none⟩ (.int .i64 0)).same D _ hK rfl
      refine ⟨by simp, .inl ⟨_, _, rfl, run_takeDeferred hK', ?_⟩⟩
      have hc5 := cell_kept (World.cell?_setCell_same' W ⟨w.heap.size, 0, none⟩ (.int .i64 0) (by rw [r1]; rfl)) (grownBy_putObj' _ D (.deferred none)) (fun r e => by cases e; exact ⟨_, hK', rfl⟩)
      refine ⟨.int .i64 0, ?_, by rw [HR.out]; rfl, (hB.setCell (p := ⟨w.heap.size, 0, none⟩) (Nat.le_refl _) _).trans (belowK_b (w := w) (Nat.le_refl _) _ D _ _ (by omega) hK' rfl rfl)⟩
      simp [results, Tryz.f119, go_sem, hc5]
    · gi_wp2
      have hK' := (KeepsOthers.setCell W ⟨w.heap.size, 0, none⟩ (.int .i64 141)).same D _ hK rfl
      refine ⟨by simp, .inl ⟨_, _, rfl, run_takeDeferred hK', ?_⟩⟩
      have hc5 := cell_kept (World.cell?_setCell_same' W ⟨w.heap.size, 0, none⟩ (.int .i64 141) (by rw [r1]; rfl)) (grownBy_putObj' _ D (.deferred none)) (fun r e => by cases e; exact ⟨_, hK', rfl⟩)
      refine ⟨.int .i64 141, ?_, by rw [HR.out]; rfl, (hB.setCell (p := ⟨w.heap.size, 0, none⟩) (Nat.le_refl _) _).trans (belowK_b (w := w) (Nat.le_refl _) _ D _ _ (by omega) hK' rfl rfl)⟩
      simp [results, Tryz.f119, go_sem, hc5]
  case stop =>
    rintro D c pre W hD hpre ⟨⟨rfl, hla, hc2⟩, hB⟩ hK
    have hall : t.all = false := by
      rw [← allP_walk t 1]
      obtain ⟨z, hz⟩ := hpre
      unfold allP at hla ⊢
      rw [← hz, List.all_append, hla]
      rfl
    have HR : Hid (checkP t = 2) := by show _ = _; unfold checkP; rw [hall]; rfl
    clear hall hla hpre
    gi_wp2
    refine ⟨by simp, .inl ⟨_, _, rfl, run_takeDeferred hK, ?_⟩⟩
    have hc5 := cell_kept hc2 (grownBy_putObj' _ D (.deferred none)) (fun r e => by cases e; exact ⟨_, hK, rfl⟩)
    refine ⟨.int .i64 2, ?_, by rw [HR.out], hB.trans (belowK_b (w := w) (Nat.le_refl _) W D _ _ (by omega) hK rfl rfl)⟩
    simp [results, Tryz.f119, go_sem, hc5]
end Go.Proofs.YtepbjkkakfpjgaaGreatDoor.Instr

namespace Go.Proofs.YtepbjkkakfpjgaaGreatDoor.Body
open Go.RowKit Go.Proofs.YtepbjkkakfpjgaaGreatDoor.Instr Go.Proofs.YtepbjkkakfpjgaaGreatDoor.Leb
open Go.Proofs.YtepbjkkakfpjgaaGreatDoor.Kind (Rd)

set_option maxRecDepth 100000 in
set_option maxHeartbeats 3200000 in
theorem put1 (B : Nat) (v : Value) (xs : List Int) (x : Ix) (l e : Il) (w : World) (hv : Own B w v xs) (hB : B ≤ w.heap.size) (hx : May x) (hl : ListAt B w x.la x.ln l) (he : ListAt B w x.ea x.en e) (hln : x.ln ≤ 140737488351232) (hen : x.en ≤ 140737488351232) (il : ALok l) (ie : ALok e)
    (hlx : xs.length + (encL l).length + (encL e).length + 3 ≤ 70368744177664) (hk : kindP x.op = 1) (hp : partsP x.op = 65) :
    Calls Tryz.prog 229 #[v, .agg x.vals] w (PutsTo B v w (xs ++ (x.op :: (encRest x ++ (encL l ++ ((if x.en = 0 then [] else 5 :: encL e) ++ [11])))))) := by
  have hop := name_range ((lawful_iff x).1 hx.law).1
  obtain ⟨o0, o1, _, _⟩ := hop
  have F := hid (fun w' => follows_any x.op w')
  rw [hp] at F
  have b1 : bits .and .u8 65 1 = 1 := by decide
  have b2 : bits .and .u8 65 2 = 0 := by decide
  have b4 : bits .and .u8 65 4 = 0 := by decide
  have b8 : bits .and .u8 65 8 = 0 := by decide
  have b16 : bits .and .u8 65 16 = 0 := by decide
  have b32 : bits .and .u8 65 32 = 0 := by decide
  have b64 : bits .and .u8 65 64 = 64 := by decide
  have hXv : v.ownBlock ≠ some w.heap.size := fun h => by have := (World.ownsRow.lt hv _ h).2; omega
  have HXV := hid hXv
  have HW1 : Hid (Below w.heap.size w (w.alloc (.cells x.vals 126))) := hid ((Below.refl w.heap.size w).alloc (Nat.le_refl _) _)
  have X0 := hid (At.made x w)
  have GW : Hid (Grew B v (w.alloc (.cells x.vals 126)) v xs (w.alloc (.cells x.vals 126))) := hid (Grew.refl (hv.alloc _))
  have HB2 : Hid (B ≤ (w.alloc (.cells x.vals 126)).heap.size) := by refine hid ?_; simp; omega
  have LL := hid (hl.below (HW1.out.mono hB))
  have LE := hid (he.below (HW1.out.mono hB))
  have PI := hid (fun (v' : Value) (zs : List Int) (w' : World) (h1 : Own B w' v' zs) (h2 : B ≤ w'.heap.size) (h3 : ListAt B w' x.la x.ln l) (h4 : ListAt B w' x.ea x.en e) (h5 : zs.length + (encL l).length + (encL e).length + 1 ≤ 70368744177664) => inner_any B v' zs x l e w' h1 h2 h3 h4 hln hen il ie h5)
  rw [encRest1 hk]
  obtain ⟨ei, hei⟩ : ∃ r, encL l ++ ((if x.en = 0 then [] else 5 :: encL e) ++ [11]) = r := ⟨_, rfl⟩
  rw [hei] at PI ⊢
  have HL := hid hlx
  obtain ⟨z, hz⟩ : ∃ z : Int, (if x.res = 0 then 64 else 127) = z := ⟨_, rfl⟩
  have PR := hid (fun w' => putResults_any x.res w')
  rw [hz] at PR ⊢
  clear hv hB hl he hln hen il ie hlx hXv hei hk hp hx hz
  unfold Ix.vals at GW X0 HB2 HW1 LL LE PI ⊢
  obtain ⟨c0, c1, c2, c3, c4, c5, c6, c7⟩ := X0.out
  have T0 := hid (show xs.length ≤ 140737488351232 by have := HL.out; omega)
  have T1 := hid (show (xs ++ [x.op]).length ≤ 140737488351232 by have := HL.out; simp only [List.length_append, List.length_cons, List.length_nil]; omega)
  have T2 := hid (show (xs ++ [x.op] ++ [z]).length + (encL l).length + (encL e).length + 1 ≤ 70368744177664 by have := HL.out; simp only [List.length_append, List.length_cons, List.length_nil]; omega)
  go_enter Tryz.func229, Tryz.ntmps229
  go_wp2_with fail
  refine (F.out _).mono ?_
  rintro e w' ⟨rfl, rfl⟩
  generalize hW1 : (w.alloc (.cells #[.int .i64 x.op, .int .i64 x.res, .int .u32 x.a, .int .u32 x.b, .int .i32 x.n, .slice x.ta x.tags.length x.tc, .slice x.la x.ln x.lc, .slice x.ea x.en x.ec] 126)) = W1 at *
  go_wp2_with (first
    | (at_builtin; refine put_byte rfl (.tmp 9) (.tmp 13) rfl x.op rfl GW.out HB2.out rfl T0.out ?_; intro v1 w1 hg1; refine Hid.out ?_))
  refine hid ?_
  have A1 := hg1.at_ X0.out HXV.out
  have GH1 := hid hg1
  clear c0 c1 c2 c3 c4 c5 c6 c7 hg1
  obtain ⟨c0, c1, c2, c3, c4, c5, c6, c7⟩ := A1
  go_wp2_with fail
  refine (PR.out _).mono ?_
  rintro e w' ⟨rfl, rfl⟩
  go_wp2_with (first
    | (at_builtin; refine put_byte rfl (.tmp 18) (.tmp 22) rfl z rfl GH1.out HB2.out rfl T1.out ?_; intro v2 w2 hg2; refine Hid.out ?_))
  refine hid ?_
  have A2 := hg2.at_ X0.out HXV.out
  have hBW := hg2.below GW.out.own HB2.out
  have LL2 := hid (LL.out.below hBW)
  have LE2 := hid (LE.out.below hBW)
  have GH2 := hid hg2
  clear c0 c1 c2 c3 c4 c5 c6 c7 hg2 hBW
  obtain ⟨c0, c1, c2, c3, c4, c5, c6, c7⟩ := A2
  go_wp2_with fail
  refine (PI.out _ _ _ GH2.out.own (Nat.le_trans HB2.out GH2.out.touch.size) LL2.out LE2.out T2.out).mono ?_
  rintro e3 w3 ⟨v3, rfl, hg3⟩
  have HG3 := GH2.out.trans hg3
  clear hg3
  go_wp2
  go_ret
  refine ⟨_, rfl, Grew.pre HW1.out ?_⟩
  simpa [List.append_assoc] using HG3

/-- An instruction's bytes, with those of its lists. -/
def encOne (x : Ix) (l e : Il) : List Int := x.op :: (encRest x ++ (if kindP x.op = 1 then encL l ++ ((if x.en = 0 then [] else 5 :: encL e) ++ [11]) else []))
theorem encL_cons (x : Ix) (l e r : Il) : encL (.cons x l e r) = encOne x l e ++ encL r := by simp [encL, encOne]
theorem encOne_len {x : Ix} {l e : Il} (hk : kindP x.op = 1) (he0 : x.en = 0 → e = .nil) : (encL l).length + (encL e).length + 3 ≤ (encOne x l e).length := by
  unfold encOne
  rw [if_pos hk, encRest1 hk]
  by_cases h : x.en = 0
  · rw [he0 h, if_pos h]; simp [encL]
  · rw [if_neg h]; simp; omega
theorem appendOne_any (B : Nat) (v : Value) (xs : List Int) (x : Ix) (l e : Il) (w : World) (hv : Own B w v xs) (hB : B ≤ w.heap.size) (hx : May x) (ht : TagsAt B w x.ta x.tags) (hl : ListAt B w x.la x.ln l) (he : ListAt B w x.ea x.en e) (hln : x.ln ≤ 140737488351232) (hen : x.en ≤ 140737488351232) (il : ALok l) (ie : ALok e)
    (hlx : xs.length + (encOne x l e).length ≤ 70368744177664) (he0 : x.en = 0 → e = .nil) : Calls Tryz.prog 229 #[v, .agg x.vals] w (PutsTo B v w (xs ++ encOne x l e)) := by
  have hlx' : xs.length ≤ 70368744177700 := by omega
  have hl3 : kindP x.op = 1 → xs.length + (encL l).length + (encL e).length + 3 ≤ 70368744177664 := fun hk => by have := encOne_len (l := l) hk he0; omega
  clear hlx
  unfold encOne
  rcases parts_kind x.op with ⟨hk, hp⟩ | ⟨hk, hp⟩ | ⟨hk, hp⟩ | ⟨hk, hp⟩ | ⟨hk, hp⟩ | ⟨hk, hp⟩ | ⟨hk, hp⟩ | ⟨hk, hp⟩
  · rw [if_neg (by omega), List.append_nil]; exact put0 B v xs x w hv hB hx ht hlx' hk hp
  · rw [if_pos hk]; exact put1 B v xs x l e w hv hB hx hl he hln hen il ie (hl3 hk) hk hp
  · rw [if_neg (by omega), List.append_nil]; exact put2 B v xs x w hv hB hx ht hlx' hk hp
  · rw [if_neg (by omega), List.append_nil]; exact put3 B v xs x w hv hB hx ht hlx' hk hp
  · rw [if_neg (by omega), List.append_nil]; exact put4 B v xs x w hv hB hx ht hlx' hk hp
  · rw [if_neg (by omega), List.append_nil]; exact put5 B v xs x w hv hB hx ht hlx' hk hp
  · rw [if_neg (by omega), List.append_nil]; exact put6 B v xs x w hv hB hx ht hlx' hk hp
  · rw [if_neg (by omega), List.append_nil]; exact put7 B v xs x w hv hB hx ht hlx' hk hp

set_option maxRecDepth 100000 in
set_option maxHeartbeats 3200000 in
theorem appendList_ok : ∀ (m : Nat) (t : Il), t.count ≤ m → MayT t → ALok t := by
  intro m
  induction m with
  | zero =>
    intro t hm _ B v xs a n c w hv hB hL hn hx
    cases t with
    | cons x l e r => simp only [Il.count] at hm; omega
    | nil =>
      have h0 : n = 0 := hL.1.symm
      subst h0
      have HV := hid hv
      clear hm hL hn hx hv
      go_enter Tryz.func213, Tryz.ntmps213
      go_wp2
      go_loopw [0, 9] (fun s0 si wr => s0 = v ∧ si = .int .i64 0 ∧ wr = w) (fun _ _ _ => 0)
      case atStart => exact ⟨rfl, rfl, rfl⟩
      case round =>
        obtain ⟨rfl, rfl, rfl⟩ := hrel
        go_wp2
        go_ret
        exact ⟨_, rfl, by simpa [encL] using Grew.refl HV.out⟩
  | succ m ih =>
    intro t hm hmay B v xs a n c w hv hB hL hn hx
    have HV := hid hv
    obtain ⟨hL1, hL2⟩ := hL
    rcases hL2 with rfl | ⟨b, off, rfl, hi⟩
    · have h0 : n = 0 := hL1.symm
      subst h0
      clear hm hL1 hn hx hv ih hmay
      go_enter Tryz.func213, Tryz.ntmps213
      go_wp2
      go_loopw [0, 9] (fun s0 si wr => s0 = v ∧ si = .int .i64 0 ∧ wr = w) (fun _ _ _ => 0)
      case atStart => exact ⟨rfl, rfl, rfl⟩
      case round =>
        obtain ⟨rfl, rfl, rfl⟩ := hrel
        go_wp2
        go_ret
        exact ⟨_, rfl, by simpa [encL] using Grew.refl HV.out⟩
    · have HM := hid hm
      have HX := hid hx
      have HL1 := hid hL1
      have HI := hid hi
      have HMAY := hid hmay
      have HIH := hid ih
      clear hm hx hL1 hi hmay ih hv
      go_enter Tryz.func213, Tryz.ntmps213
      go_wp2
      go_loopw [0, 9] (fun s0 si wr => ∃ (k : Nat) (rest : Il) (ys : List Int), si = .int .i64 k ∧ k ≤ n ∧ Hid (k + rest.len = n ∧ rest.count ≤ t.count ∧ MayT rest ∧ ys ++ encL rest = encL t) ∧ Hid (Items B w b (off + k * 8) rest) ∧ Hid (Grew B v w s0 (xs ++ ys) wr))
        (fun _ si _ => n - (intOf si).toNat)
      case atStart => exact ⟨0, t, [], rfl, Nat.zero_le _, ⟨by have := HL1.out; omega, Nat.le_refl _, HMAY.out, rfl⟩, by simpa using HI, hid (by simpa using Grew.refl HV.out)⟩
      case round =>
        obtain ⟨k, rest, ys, rfl, hk, HR, HIR, HG⟩ := hrel
        cases rest with
        | nil =>
          obtain ⟨r1, _, _, r4⟩ := HR.out
          have hkl : k = n := by simpa [Il.len] using r1
          have HE : Hid (ys = encL t) := by show _ = _; rw [← r4]; simp [encL]
          clear r4
          subst hkl
          rw [HE.out] at HG
          go_wp2
          go_ret
          exact ⟨_, rfl, HG.out⟩
        | cons x tl te r =>
          obtain ⟨r1, r2, r3, r4⟩ := HR.out
          obtain ⟨mx, mfl, mfe, mtl, mte, mr⟩ := r3
          have hbw := HG.out.below HV.out hB
          have hir := Items.below hbw HIR.out
          obtain ⟨hbn, hxok, ⟨c0, c1, c2, c3, c4, c5, c6, c7⟩, ht, hLl, hLe, _⟩ := hir
          have hlt : k < n := by simp only [Il.len] at r1; omega
          have hcnt : tl.count ≤ m ∧ te.count ≤ m := by have := HM.out; simp only [Il.count] at r2; omega
          rw [encL_cons] at r4
          have hlen4 : (xs ++ ys).length + (encOne x tl te).length ≤ 70368744177664 := by
            have h1 := congrArg List.length r4
            have h2 := HX.out
            simp only [List.length_append] at h1 ⊢
            omega
          have AO := appendOne_any B
          have PO := hid (fun (v' : Value) (w' : World) (h1 : Own B w' v' (xs ++ ys)) (h2 : B ≤ w'.heap.size) (hb : Below B w w') =>
            AO v' (xs ++ ys) x tl te w' h1 h2 mx ((HIR.out).2.2.2.1.below hb) (ListAt.below hb (HIR.out).2.2.2.2.1) (ListAt.below hb (HIR.out).2.2.2.2.2.1) hxok.ln hxok.en (HIH.out tl hcnt.1 mtl) (HIH.out te hcnt.2 mte) hlen4 (fun h => list_of_row.len_zero (by omega)))
          have HNX : Hid (Items B w b (off + (k + 1) * 8) r) := by
            rw [show off + (k + 1) * 8 = off + k * 8 + 8 by omega]
            exact hid (HIR.out).2.2.2.2.2.2
          have HR2 : Hid ((k + 1) + r.len = n ∧ r.count ≤ t.count ∧ MayT r ∧ (ys ++ encOne x tl te) ++ encL r = encL t) := hid ⟨by simp only [Il.len] at r1; omega, by simp only [Il.count] at r2; omega, mr, by rw [List.append_assoc]; exact r4⟩
          have G0 := hid (HG.out.post ((Below.refl wr.heap.size wr).alloc (Nat.le_refl _) (.cells x.vals 126)))
          obtain ⟨eo, heo⟩ : ∃ r, encOne x tl te = r := ⟨_, rfl⟩
          rw [heo] at PO HR2
          clear r1 r2 r4 hcnt hlen4 AO heo mx mfl mfe mtl mte mr hbw ht hLl hLe hxok hbn
          unfold Ix.vals at PO G0
          go_wp2_with fail
          refine (PO.out _ _ G0.out.own (Nat.le_trans hB G0.out.touch.size) (G0.out.below HV.out hB)).mono ?_
          clear PO
          rintro e3 w3 ⟨v3, rfl, hg3⟩
          have HG3 := hid (G0.out.trans hg3)
          clear hg3
          go_wp2
          go_roundw
          case rel => exact ⟨k + 1, r, ys ++ eo, by simp, by omega, HR2, HNX, by rw [← List.append_assoc]; exact HG3⟩
          case measure => simp [intOf]; omega
theorem appendList_any (t : Il) (h : MayT t) : ALok t := appendList_ok t.count t (Nat.le_refl _) h
end Go.Proofs.YtepbjkkakfpjgaaGreatDoor.Body

/-
  BODY: Put, by contract.
-/
namespace Go.Proofs.YtepbjkkakfpjgaaGreatDoor.Body
open Go.RowKit Go.Proofs.YtepbjkkakfpjgaaGreatDoor.Instr Go.Proofs.YtepbjkkakfpjgaaGreatDoor.Leb
open Go.Proofs.YtepbjkkakfpjgaaGreatDoor.Kind (Rd)

theorem items_fit {n₀ : Nat} {w : World} : ∀ {t : Il} {b off : Nat}, Items n₀ w b off t → t.fit ∧ t.nums
  | .nil, _, _, _ => ⟨trivial, trivial⟩
  | .cons x l e r, _, _, ⟨_, hx, _, _, ⟨l1, l2⟩, ⟨e1, e2⟩, hr⟩ => by
    have hl : l.fit ∧ l.nums := by
      rcases l2 with rfl | ⟨b', o', _, hi⟩
      · exact ⟨trivial, trivial⟩
      · exact items_fit hi
    have he : e.fit ∧ e.nums := by
      rcases e2 with rfl | ⟨b', o', _, hi⟩
      · exact ⟨trivial, trivial⟩
      · exact items_fit hi
    have hr := items_fit hr
    exact ⟨⟨l1, e1, hl.1, he.1, hr.1⟩, ⟨hx.a, hx.b, hx.n, hx.tags, hl.2, he.2, hr.2⟩⟩
theorem list_fits {n₀ : Nat} {w : World} {a : Option Addr} {n : Nat} {t : Il} (h : ListAt n₀ w a n t) : t.fit ∧ t.nums := by
  rcases h.2 with rfl | ⟨b, o, _, hi⟩
  · exact ⟨trivial, trivial⟩
  · exact items_fit hi
theorem check_parts {t : Il} (h : checkP t = 0) : t.all = true ∧ t.count ≤ 262144 ∧ t.deep ≤ 900 ∧ t.tags = false := by
  unfold checkP at h
  split at h
  · rename_i ha
    split at h
    · omega
    · rename_i hb
      refine ⟨ha, by omega, by omega, ?_⟩
      rw [← Bool.not_eq_true]
      intro ht
      exact hb (.inr (.inr ht))
  · omega
theorem mayT_list {n₀ : Nat} {w : World} {a : Option Addr} {n : Nat} {t : Il} (h : ListAt n₀ w a n t) (hc : checkP t = 0) : MayT t := by
  obtain ⟨h1, _, _, h4⟩ := check_parts hc
  obtain ⟨h5, h6⟩ := list_fits h
  exact mayT_of t h1 h4 h5 h6
/-- Bytes and no error; or the error alone. -/
def PutP (w : World) (zs : List Int) (er : Int) (e : Ending) (w' : World) : Prop := ∃ v, e = .returned (.tuple #[v, .int .i64 er]) ∧ Own w.heap.size w' v zs ∧ Below w.heap.size w w'
def putB (t : Il) : List Int := if checkP t = 0 then encP t else []

set_option maxRecDepth 100000 in
set_option maxHeartbeats 1600000 in
theorem Put_any (t : Il) (a : Option Addr) (n c : Nat) (w : World) (hL : ListAt w.heap.size w a n t) (hn : n ≤ 140737488351232) (hT : Nams w) (hc : t.count ≤ 4611686018427387900) (hx : (encL t).length ≤ 70368744177664) :
    Calls Tryz.prog 197 #[.slice a n c] w (PutP w (putB t) (checkP t)) := by
  have CK := hid (Check_any a n c t w hT hL hc hn)
  by_cases h0 : checkP t = 0
  · have hm := mayT_list hL h0
    have AL := hid (fun w' (hb : Below w.heap.size w w') => appendList_any t hm w'.heap.size (.slice none 0 0) [] a n c w' ⟨rfl, .inl ⟨rfl, rfl⟩⟩ (Nat.le_refl _) (hL.on hb) hn (by simpa using hx))
    unfold putB
    rw [if_pos h0]
    rw [h0] at CK ⊢
    obtain ⟨z, hz⟩ : ∃ z, encL t = z := ⟨_, rfl⟩
    unfold encP
    rw [hz] at AL hx ⊢
    have HX := hid hx
    clear hL hn hT hc hx h0 hm hz
    go_enter Tryz.func197, Tryz.ntmps197
    go_wp2_with fail
    refine CK.out.mono ?_
    clear CK
    rintro e w1 ⟨rfl, hb1⟩
    go_wp2_with fail
    refine (AL.out w1 hb1).mono ?_
    clear AL
    rintro e w2 ⟨v2, rfl, hg2⟩
    simp only [List.nil_append] at hg2
    have HG := hid hg2
    have HB : Hid (w1.heap.size ≤ w1.heap.size) := hid (Nat.le_refl _)
    have HB1 := hid hb1
    have T1 := hid (show z.length ≤ 140737488351232 by have := HX.out; omega)
    clear hg2
    go_wp2_with (first
      | (at_builtin; refine put_byte rfl (.tmp 11) (.tmp 12) rfl 11 rfl HG.out HB.out rfl T1.out ?_; intro v3 w3 hg3; refine Hid.out ?_))
    refine hid ?_
    go_wp2
    go_ret2
    refine ⟨v3, rfl, hg3.own.mono hb1.size, HB1.out.trans ((hg3.below (show Own w1.heap.size w1 (.slice none 0 0) [] from ⟨rfl, .inl ⟨rfl, rfl⟩⟩) (Nat.le_refl _)).mono hb1.size)⟩
  · unfold putB
    rw [if_neg h0]
    obtain ⟨q, hq⟩ : ∃ q, checkP t = q := ⟨_, rfl⟩
    rw [hq] at CK h0 ⊢
    have h1 : (q != 0) = true := by simp [h0]
    clear hL hn hT hc hx hq
    go_enter Tryz.func197, Tryz.ntmps197
    go_wp2_with fail
    refine CK.out.mono ?_
    clear CK
    rintro e w1 ⟨rfl, hb1⟩
    go_wp2
    go_ret2
    exact ⟨_, rfl, ⟨rfl, .inl ⟨rfl, rfl⟩⟩, hb1⟩
end Go.Proofs.YtepbjkkakfpjgaaGreatDoor.Body

namespace Go.Proofs.YtepbjkkakfpjgaaGreatDoor.Body
open Go.RowKit Go.Proofs.YtepbjkkakfpjgaaGreatDoor.Instr Go.Proofs.YtepbjkkakfpjgaaGreatDoor.Leb
open Go.Proofs.YtepbjkkakfpjgaaGreatDoor.Kind (Parts concat_any)

theorem parts3 {w : World} {g : Nat} (hg : g = w.heap.size) {a0 a1 a2 : Option Addr} {n0 n1 n2 c0 c1 c2 : Nat} {t : TypeId} {l0 l1 l2 : List Int} (h0 : Bytes w a0 l0) (h1 : Bytes w a1 l1) (h2 : Bytes w a2 l2) (k0 : l0.length = n0) (k1 : l1.length = n1) (k2 : l2.length = n2)
    (m0 : a0 = none → c0 = 0) (m1 : a1 = none → c1 = 0) (m2 : a2 = none → c2 = 0) : Parts (w.alloc (.cells #[.slice a0 n0 c0, .slice a1 n1 c1, .slice a2 n2 c2] t)) g [l0, l1, l2] := by
  subst hg
  intro j hj
  match j, hj with
  | 0, _ => exact ⟨a0, c0, by subst k0; go_simp, h0.alloc _, m0⟩
  | 1, _ => exact ⟨a1, c1, by subst k1; go_simp, h1.alloc _, m1⟩
  | 2, _ => exact ⟨a2, c2, by subst k2; go_simp, h2.alloc _, m2⟩
theorem parts2 {w : World} {g : Nat} (hg : g = w.heap.size) {a0 a1 : Option Addr} {n0 n1 c0 c1 : Nat} {t : TypeId} {l0 l1 : List Int} (h0 : Bytes w a0 l0) (h1 : Bytes w a1 l1) (k0 : l0.length = n0) (k1 : l1.length = n1)
    (m0 : a0 = none → c0 = 0) (m1 : a1 = none → c1 = 0) : Parts (w.alloc (.cells #[.slice a0 n0 c0, .slice a1 n1 c1] t)) g [l0, l1] := by
  subst hg
  intro j hj
  match j, hj with
  | 0, _ => exact ⟨a0, c0, by subst k0; go_simp, h0.alloc _, m0⟩
  | 1, _ => exact ⟨a1, c1, by subst k1; go_simp, h1.alloc _, m1⟩
theorem made_one (w : World) (e : TypeId) (g : Nat) (hg : g = w.heap.size) : Bytes (w.alloc (.cells #[.int .u8 127] e)) (some ⟨g, 0, none⟩) [127] := by
  subst hg
  refine ⟨by simp, by simp, .inr ⟨w.heap.size, 0, rfl, fun i hi => ?_⟩⟩
  obtain rfl : i = 0 := by simpa using hi
  simp [go_sem]
theorem loc_flat {n : Int} (h : n ≠ 0) : [encU 1, encU n, [127]].flatten = locL n := by unfold locL; rw [if_neg h]; simp [show encU 1 = [1] from encU_last (by omega) (by omega)]
theorem loc_len (n : Int) : (locL n).length ≤ 7 ∧ locL n ≠ [] := by
  have := (encU_lens n).1
  unfold locL
  split <;> simp; omega
theorem loc_bytes (n : Int) : ∀ z ∈ locL n, 0 ≤ z ∧ z < 256 := by
  intro z hz
  unfold locL at hz
  split at hz
  · simp at hz; omega
  · rcases List.mem_cons.1 hz with rfl | hz
    · omega
    · rcases List.mem_append.1 hz with h | h
      · exact encU_bytes _ z h
      · simp at h; omega

theorem rest_bytesC {x : Ix} (_hx : May x) : ∀ z ∈ encRest x, 0 ≤ z ∧ z < 256 := by
  intro z hz
  unfold encRest encTags at hz
  split at hz
  · split at hz <;> simp at hz <;> omega
  · exact encU_bytes _ z hz
  · rcases List.mem_append.1 hz with h | h
    · exact encU_bytes _ z h
    · simp at h; omega
  · rcases List.mem_append.1 hz with h | h
    · rcases List.mem_append.1 h with h | h
      · exact encU_bytes _ z h
      · obtain ⟨n, _, hn⟩ := List.mem_flatMap.1 h
        exact encU_bytes _ z hn
    · exact encU_bytes _ z h
  · rcases List.mem_append.1 hz with h | h
    · exact encU_bytes _ z h
    · exact encU_bytes _ z h
  · simp at hz; omega
  · exact encS_bytes _ z hz
  · simp at hz
theorem encL_bytesC : ∀ t : Il, MayT t → ∀ z ∈ encL t, 0 ≤ z ∧ z < 256
  | .nil, _ => by simp [encL]
  | .cons x l e r, ⟨hx, _, _, hl, he, hr⟩ => by
    have h0 := rest_bytesC hx
    have h1 := encL_bytesC l hl
    have h2 := encL_bytesC e he
    have h3 := encL_bytesC r hr
    have hop := name_range ((lawful_iff x).1 hx.law).1
    intro z hz
    simp only [encL] at hz
    rcases List.mem_cons.1 hz with rfl | hz
    · omega
    · rcases List.mem_append.1 hz with h | h
      · exact h0 z h
      · rcases List.mem_append.1 h with h | h
        · split at h
          · rcases List.mem_append.1 h with h | h
            · exact h1 z h
            · rcases List.mem_append.1 h with h | h
              · split at h
                · simp at h
                · rcases List.mem_cons.1 h with rfl | h
                  · omega
                  · exact h2 z h
              · simp at h; omega
          · simp at h
        · exact h3 z h
theorem encP_bytesC {t : Il} (h : MayT t) : ∀ z ∈ encP t, 0 ≤ z ∧ z < 256 := by
  intro z hz
  rcases List.mem_append.1 hz with hz | hz
  · exact encL_bytesC t h z hz
  · simp at hz; omega
theorem alloc_below' (w : World) (o : Obj) : Below w.heap.size w (w.alloc o) := (Below.refl _ _).alloc (Nat.le_refl _) o

set_option maxHeartbeats 1600000 in
theorem putLocals_any (n : Int) (h0 : 0 ≤ n) (h1 : n < 4294967296) (w : World) : Calls Tryz.prog 214 #[.int .u32 n] w (Gives w (locL n)) := by
  by_cases hn : n = 0
  · subst hn
    have HE : Hid (encU 0 = locL 0) := hid (show encU 0 = locL 0 by unfold locL; rw [if_pos rfl]; exact encU_last (by omega) (by omega))
    go_enter Tryz.func214, Tryz.ntmps214
    go_wp2_with fail
    refine (putU_any 0 _ (by omega) (by omega)).mono ?_
    rw [HE.out]
    rintro e w1 ⟨v, rfl, ho, hb⟩
    go_wp2
    go_ret
    exact ⟨_, rfl, ho, hb⟩
  · have HF := hid (loc_flat hn)
    have HL := hid (loc_len n)
    have l0 := (encU_lens 1).1
    have l1 := (encU_lens n).1
    go_enter Tryz.func214, Tryz.ntmps214
    go_wp2_with fail
    refine (putU_any 1 _ (by omega) (by omega)).mono ?_
    rintro e w1 ⟨v1, rfl, ho1, hb1⟩
    obtain ⟨m1, hm1⟩ : ∃ m, (encU 1).length = m := ⟨_, rfl⟩
    obtain ⟨a1, c1, rfl⟩ := ho1.sliceN hm1
    have y1 := ho1.bytes (encU_bytes 1) (by omega)
    have HN1 := ho1.nil
    have HB1 := hid hb1
    have HM1 := hid hm1
    have HY1 := hid y1
    clear ho1 hb1 hm1 y1
    go_wp2_with fail
    refine (putU_any n _ (by omega) (by omega)).mono ?_
    rintro e w2 ⟨v2, rfl, ho2, hb2⟩
    obtain ⟨m2, hm2⟩ : ∃ m, (encU n).length = m := ⟨_, rfl⟩
    obtain ⟨a2, c2, rfl⟩ := ho2.sliceN hm2
    have y2 := ho2.bytes (encU_bytes n) (by omega)
    have HN2 := ho2.nil
    have HB2 := hid (thenB HB1.out hb2)
    have HM2 := hid hm2
    have HY1 := hid (HY1.out.below hb2)
    have HY2 := hid y2
    clear ho2 hb2 hm2 y2 HB1
    have CC := hid (fun g (hg : g = (w2.alloc (.cells #[.int .u8 127] 5)).heap.size) => concat_any g 3 3 [encU 1, encU n, [127]] _ rfl (parts3 (t := 35) hg (HY1.out.alloc (.cells #[.int .u8 127] 5)) (HY2.out.alloc _) (made_one w2 5 w2.heap.size rfl) HM1.out HM2.out (n2 := 1) (c2 := 1) rfl HN1.out HN2.out (by simp))
      (by rw [HF.out]; exact List.length_pos_iff.2 HL.out.2) (by rw [HF.out]; have := HL.out.1; omega) (by omega))
    go_wp2_with fail
    refine (CC.out _ (by simp)).mono ?_
    rw [HF.out]
    rintro e w4 ⟨v, rfl, ho, hb⟩
    have HB3 := (thenA (thenA HB2.out _) _).trans (hb.mono (by have := HB2.out.size; simp; omega))
    go_wp2
    go_ret
    exact ⟨_, rfl, ho.mono (by have := HB2.out.size; simp; omega), HB3⟩
def checkC (n : Int) (t : Il) : Int := if n < 0 ∨ 50000 < n then 2 else checkP t
def putC (n : Int) (t : Il) : List Int := if checkC n t = 0 then codeL n t else []
theorem box_at (w : World) (n : Int) (a : Option Addr) (len c : Nat) (e : TypeId) : (w.alloc (.cells #[.int .i64 n, .slice a len c] e)).cell? ⟨w.heap.size, 0, none⟩ = some (.int .i64 n) ∧ (w.alloc (.cells #[.int .i64 n, .slice a len c] e)).cell? ⟨w.heap.size, 1, none⟩ = some (.slice a len c) := by
  constructor <;> simp [go_sem]

set_option maxRecDepth 100000 in
set_option maxHeartbeats 1600000 in
theorem PutCode_any (n : Int) (t : Il) (a : Option Addr) (len c : Nat) (w : World) (hL : ListAt w.heap.size w a len t) (hn : len ≤ 140737488351232) (hT : Nams w) (hc : t.count ≤ 4611686018427387900) (hx : (encL t).length ≤ 90000) :
    Calls Tryz.prog 198 #[.agg #[.int .i64 n, .slice a len c]] w (PutP w (putC n t) (checkC n t)) := by
  by_cases hr : n < 0 ∨ 50000 < n
  · have hce : checkC n t = 2 := if_pos hr
    have hpe : putC n t = [] := by unfold putC; rw [hce, if_neg (by decide)]
    rw [hce, hpe]
    clear hce hpe hL hn hT hc hx
    rcases hr with hr | hr
    · go_enter Tryz.func198, Tryz.ntmps198
      go_wp2
      go_ret2
      exact ⟨_, rfl, ⟨rfl, .inl ⟨rfl, rfl⟩⟩, thenA (Below.refl _ _) _⟩
    · have hr0 : ¬ n < 0 := by omega
      go_enter Tryz.func198, Tryz.ntmps198
      go_wp2
      go_ret2
      exact ⟨_, rfl, ⟨rfl, .inl ⟨rfl, rfl⟩⟩, thenA (Below.refl _ _) _⟩
  · have hr0 : 0 ≤ n := by omega
    have hr1 : n ≤ 50000 := by omega
    have hr2 : ¬ n < 0 := by omega
    have hr3 : ¬ 50000 < n := by omega
    have hce : checkC n t = checkP t := if_neg hr
    have hpe : putC n t = if checkP t = 0 then codeL n t else [] := by unfold putC; rw [hce]
    rw [hce, hpe]
    have hb0 := alloc_below' w (.cells #[.int .i64 n, .slice a len c] 64)
    have PC := hid (Put_any t a len c _ (hL.on hb0) hn (hT.below hb0) hc (by omega))
    obtain ⟨x0, x1⟩ := box_at w n a len c 64
    have X0 := hid x0
    have HB0 := hid hb0
    by_cases h0 : checkP t = 0
    · have hm := mayT_list hL h0
      rw [if_pos h0]
      have hput : putB t = encP t := by unfold putB; rw [if_pos h0]
      rw [hput, h0] at PC
      rw [h0]
      have hlen : (encP t).length = (encL t).length + 1 := by simp [encP]
      have HBY := hid (encP_bytesC hm)
      obtain ⟨zs, hzs⟩ : ∃ zs, encP t = zs := ⟨_, rfl⟩
      have hcode : codeL n t = [locL n, zs].flatten := by unfold codeL; rw [hzs]; simp
      rw [hcode]
      rw [hzs] at PC hlen HBY
      obtain ⟨L, hLn⟩ : ∃ L, zs.length = L := ⟨_, rfl⟩
      have HL := hid hLn
      have HLEN := hid (show 1 ≤ L ∧ L ≤ 90001 by omega)
      have HLOC := hid (loc_len n)
      have PL := hid (fun w' => putLocals_any n hr0 (by omega) w')
      clear hr hce hpe hput h0 hm hlen hzs hcode hLn hx hc hT hL x0 x1 hb0
      go_enter Tryz.func198, Tryz.ntmps198
      go_wp2_with fail
      refine PC.out.mono ?_
      clear PC
      rintro e w1 ⟨v, rfl, ho, hb1⟩
      obtain ⟨a1, c1, rfl⟩ := ho.sliceN (n := L) HL.out
      have y1 := ho.bytes HBY.out (by have := HL.out; have := HLEN.out; omega)
      have HN1 := ho.nil
      have x0 := keep hb1 X0.out
      have HB1 := hid (HB0.out.trans (hb1.mono HB0.out.size))
      have HY1 := hid y1
      clear ho hb1 y1 X0 HB0 HBY
      go_wp2_with fail
      refine (PL.out w1).mono ?_
      clear PL
      rintro e w2 ⟨v2, rfl, ho2, hb2⟩
      obtain ⟨m2, hm2⟩ : ∃ m, (locL n).length = m := ⟨_, rfl⟩
      obtain ⟨a2, c2, rfl⟩ := ho2.sliceN hm2
      have y2 := ho2.bytes (loc_bytes n) (by have := HLOC.out.1; omega)
      have HN2 := ho2.nil
      have CC := hid (fun g (hg : g = w2.heap.size) => concat_any g 2 2 [locL n, zs] _ rfl (parts2 (t := 35) hg y2 (HY1.out.below hb2) hm2 HL.out HN2.out HN1.out)
        (by simp; have := HLEN.out; have := HL.out; omega) (by simp; have := HLEN.out; have := HL.out; have := HLOC.out.1; omega) (by omega))
      have HB2 := hid (HB1.out.trans (hb2.mono HB1.out.size))
      clear ho2 hb2 y2 hm2 HY1 HB1 x0
      go_wp2_with fail
      refine (CC.out _ rfl).mono ?_
      clear CC
      rintro e w3 ⟨v3, rfl, ho3, hb3⟩
      have HB3 := hid ((thenA HB2.out _).trans (hb3.mono (by have := HB2.out.size; simp; omega)))
      have HO := hid (ho3.mono (base' := w.heap.size) (by have := HB2.out.size; simp; omega))
      clear ho3 hb3 HB2
      go_wp2
      go_ret2
      exact ⟨_, rfl, HO.out, HB3.out⟩
    · rw [if_neg h0]
      have hput : putB t = [] := by unfold putB; rw [if_neg h0]
      rw [hput] at PC
      obtain ⟨q, hq⟩ : ∃ q, checkP t = q := ⟨_, rfl⟩
      rw [hq] at PC h0 ⊢
      have h1 : (q != 0) = true := by simp [h0]
      clear hr hce hpe hput hq hx hc hT hL x0 x1 hb0 X0
      go_enter Tryz.func198, Tryz.ntmps198
      go_wp2_with fail
      refine PC.out.mono ?_
      clear PC
      rintro e w1 ⟨v, rfl, ho, hb1⟩
      have HB1 := hid (HB0.out.trans (hb1.mono HB0.out.size))
      clear ho hb1
      go_wp2
      go_ret2
      exact ⟨_, rfl, ⟨rfl, .inl ⟨rfl, rfl⟩⟩, HB1.out⟩
end Go.Proofs.YtepbjkkakfpjgaaGreatDoor.Body

namespace Go.Proofs.YtepbjkkakfpjgaaGreatDoor.Kind
open Go.RowKit

theorem nearestType_any (p r : Int) (w : World) : Calls Tryz.prog 181 #[.agg #[.int .i64 p, .int .i64 r]] w
    fun e w' => e = .returned (.agg #[.int .i64 (min (max p 0) 255), .int .i64 (min (max r 0) 1)]) ∧ Below w.heap.size w w' := by
  go_enter Tryz.func181, Tryz.ntmps181
  go_wp2
  all_goals
    refine bodyPost_ret (v := .agg #[.int .i64 (min (max p 0) 255), .int .i64 (min (max r 0) 1)]) ?_ rfl ⟨rfl, ((Below.refl _ _).alloc (Nat.le_refl _) _).alloc (by simp) _⟩
    first
      | (simp [results, Tryz.results181, go_sem]; done)
      | (simp [results, Tryz.results181, go_sem]; omega)
theorem near_ok {p r : Int} (h : okType p r = true) : min (max p 0) 255 = p ∧ min (max r 0) 1 = r := by
  unfold okType at h; simp at h; omega
theorem near_no {p r : Int} (h : okType p r = false) : ¬ (p = min (max p 0) 255 ∧ r = min (max r 0) 1) := by
  rintro ⟨h1, h2⟩
  have : okType p r = true := by unfold okType; simp; omega
  rw [h] at this; cases this
theorem box_start (w : World) (x y : Value) (t : TypeId) : Below w.heap.size w (w.alloc (.cells #[x, y] t)).drew ∧ (w.alloc (.cells #[x, y] t)).drew.cell? ⟨w.heap.size, 0, none⟩ = some x ∧ (w.alloc (.cells #[x, y] t)).drew.cell? ⟨w.heap.size, 1, none⟩ = some y :=
  ⟨((Below.refl _ _).alloc (Nat.le_refl _) _).drew, by go_simp, by go_simp⟩
theorem box_keep {w w1 w2 : World} {x y : Value} {k : Nat} (h : Below w.heap.size w w1 ∧ w1.cell? ⟨k, 0, none⟩ = some x ∧ w1.cell? ⟨k, 1, none⟩ = some y) (hb : Below w1.heap.size w1 w2) :
    Below w.heap.size w w2 ∧ w2.cell? ⟨k, 0, none⟩ = some x ∧ w2.cell? ⟨k, 1, none⟩ = some y := ⟨thenB h.1 hb, keep hb h.2.1, keep hb h.2.2⟩
theorem box_out {w w1 : World} {x y : Value} {k : Nat} (h : Below w.heap.size w w1 ∧ w1.cell? ⟨k, 0, none⟩ = some x ∧ w1.cell? ⟨k, 1, none⟩ = some y) : Below w.heap.size w w1 := h.1
def codeType (p r : Int) : Int := if okType p r then 0 else 2
set_option maxHeartbeats 800000 in
theorem check_any (p r : Int) (w : World) : Calls Tryz.prog 124 #[.agg #[.int .i64 p, .int .i64 r]] w
    fun e w' => e = .returned (.int .i64 (codeType p r)) ∧ Below w.heap.size w w' := by
  have q1 := eqType
  have q2 := guardType
  have hN := fun w => nearestType_any p r w
  by_cases h : okType p r = true
  · obtain ⟨e1, e2⟩ := near_ok h
    have HC : Hid (codeType p r = 0) := by unfold codeType; rw [if_pos h]; rfl
    simp only [e1, e2] at hN
    clear h e1 e2
    go_enter Tryz.func124, Tryz.ntmps124
    go_wp2
    go_region_held3 (fun w' => Below w.heap.size w w' ∧ w'.cell? ⟨w.heap.size, 0, none⟩ = some (.int .i64 p) ∧ w'.cell? ⟨w.heap.size, 1, none⟩ = some (.int .i64 r)) (first | assumption | exact box_start w _ _ _ | exact box_keep (by assumption) (by assumption))
      (first
        | (go_at_call 181; refine (hN _).mono ?_; rintro e w2 ⟨rfl, hb2⟩))
    go_wp2
    go_ret
    exact ⟨ret_int HC.out.symm, box_out (x := .int .i64 p) (y := .int .i64 r) (k := w.heap.size) (by assumption)⟩
  · have h' : okType p r = false := by simpa using h
    have hn := near_no h'
    have HC : Hid (codeType p r = 2) := by unfold codeType; rw [h']; rfl
    generalize min (max p 0) 255 = m1 at *
    generalize min (max r 0) 1 = m2 at *
    have hor : (p == m1) = false ∧ (p != m1) = true ∨ (r == m2) = false ∧ (r != m2) = true := by
      by_cases h1 : p = m1
      · right
        have : r ≠ m2 := fun h2 => hn ⟨h1, h2⟩
        simp [this]
      · left; simp [h1]
    clear h h' hn
    rcases hor with ⟨n1, n2⟩ | ⟨n1, n2⟩
    all_goals
      go_enter Tryz.func124, Tryz.ntmps124
      go_wp2
      go_region_held3 (fun w' => Below w.heap.size w w' ∧ w'.cell? ⟨w.heap.size, 0, none⟩ = some (.int .i64 p) ∧ w'.cell? ⟨w.heap.size, 1, none⟩ = some (.int .i64 r)) (first | assumption | exact box_start w _ _ _ | exact box_keep (by assumption) (by assumption))
        (first
          | (go_at_call 181; refine (hN _).mono ?_; rintro e w2 ⟨rfl, hb2⟩))
      go_wp2
      go_ret
      exact ⟨ret_int HC.out.symm, box_out (x := .int .i64 p) (y := .int .i64 r) (k := w.heap.size) (by assumption)⟩

theorem nearestLimits_any (n x most : Int) (c : Bool) (w : World) : Calls Tryz.prog 183 #[.agg #[.int .u32 n, .int .u32 x, .bool c], .int .u32 most] w
    fun e w' => e = .returned (.agg #[.int .u32 (min n most), .int .u32 (if c then min (max x (min n most)) most else 0), .bool c]) ∧ Below w.heap.size w w' := by
  cases c
  · go_enter Tryz.func183, Tryz.ntmps183
    go_wp2
    all_goals
      refine bodyPost_ret (v := .agg #[.int .u32 (min n most), .int .u32 0, .bool false]) ?_ rfl ⟨rfl, ?_⟩
      · simp [results, Tryz.results183, go_sem]
        try omega
      · first | exact ((Below.refl _ _).alloc (Nat.le_refl _) _).alloc (by simp) _ | trace_state
  · go_enter Tryz.func183, Tryz.ntmps183
    go_wp2
    all_goals
      refine bodyPost_ret (v := .agg #[.int .u32 (min n most), .int .u32 (min (max x (min n most)) most), .bool true]) ?_ rfl ⟨rfl, ?_⟩
      · simp [results, Tryz.results183, go_sem]
        try omega
      · first | exact ((Below.refl _ _).alloc (Nat.le_refl _) _).alloc (by simp) _ | trace_state
theorem nearL_ok {n x most : Int} {c : Bool} (h : okLim n x c most = true) : min n most = n ∧ (if c then min (max x (min n most)) most else 0) = x := by
  unfold okLim at h; cases c <;> simp at h ⊢ <;> omega
theorem nearL_no {n x most : Int} {c : Bool} (h : okLim n x c most = false) : ¬ (n = min n most ∧ x = (if c then min (max x (min n most)) most else 0)) := by
  rintro ⟨h1, h2⟩
  have : okLim n x c most = true := by unfold okLim; cases c <;> simp at h2 ⊢ <;> omega
  rw [h] at this; cases this
def codeLim (n x : Int) (c : Bool) (most : Int) : Int := if okLim n x c most then 0 else 2
theorem box3_start (w : World) (x y z : Value) (t : TypeId) : Below w.heap.size w (w.alloc (.cells #[x, y, z] t)).drew ∧ (w.alloc (.cells #[x, y, z] t)).drew.cell? ⟨w.heap.size, 0, none⟩ = some x ∧ (w.alloc (.cells #[x, y, z] t)).drew.cell? ⟨w.heap.size, 1, none⟩ = some y ∧ (w.alloc (.cells #[x, y, z] t)).drew.cell? ⟨w.heap.size, 2, none⟩ = some z :=
  ⟨((Below.refl _ _).alloc (Nat.le_refl _) _).drew, by go_simp, by go_simp, by go_simp⟩
theorem box3_keep {w w1 w2 : World} {x y z : Value} {k : Nat} (h : Below w.heap.size w w1 ∧ w1.cell? ⟨k, 0, none⟩ = some x ∧ w1.cell? ⟨k, 1, none⟩ = some y ∧ w1.cell? ⟨k, 2, none⟩ = some z) (hb : Below w1.heap.size w1 w2) :
    Below w.heap.size w w2 ∧ w2.cell? ⟨k, 0, none⟩ = some x ∧ w2.cell? ⟨k, 1, none⟩ = some y ∧ w2.cell? ⟨k, 2, none⟩ = some z := ⟨thenB h.1 hb, keep hb h.2.1, keep hb h.2.2.1, keep hb h.2.2.2⟩
theorem box3_out {w w1 : World} {x y z : Value} {k : Nat} (h : Below w.heap.size w w1 ∧ w1.cell? ⟨k, 0, none⟩ = some x ∧ w1.cell? ⟨k, 1, none⟩ = some y ∧ w1.cell? ⟨k, 2, none⟩ = some z) : Below w.heap.size w w1 := h.1
set_option maxHeartbeats 800000 in
theorem checkLimits_any (n x : Int) (c : Bool) (most : Int) (w : World) : Calls Tryz.prog 130 #[.agg #[.int .u32 n, .int .u32 x, .bool c], .int .u32 most] w
    fun e w' => e = .returned (.int .i64 (codeLim n x c most)) ∧ Below w.heap.size w w' := by
  have q1 := eqLim
  have q2 := guardLim
  have hN := fun w => nearestLimits_any n x most c w
  by_cases h : okLim n x c most = true
  · obtain ⟨e1, e2⟩ := nearL_ok h
    have HC : Hid (codeLim n x c most = 0) := by unfold codeLim; rw [if_pos h]; rfl
    rw [e2] at hN
    simp only [e1] at hN
    clear h e1 e2
    go_enter Tryz.func130, Tryz.ntmps130
    go_wp2
    go_region_held3 (fun w' => Below w.heap.size w w' ∧ w'.cell? ⟨w.heap.size, 0, none⟩ = some (.int .u32 n) ∧ w'.cell? ⟨w.heap.size, 1, none⟩ = some (.int .u32 x) ∧ w'.cell? ⟨w.heap.size, 2, none⟩ = some (.bool c)) (first | assumption | exact box3_start w _ _ _ _ | exact box3_keep (by assumption) (by assumption))
      (first
        | (go_at_call 183; refine (hN _).mono ?_; rintro e w2 ⟨rfl, hb2⟩))
    go_wp2
    go_ret
    exact ⟨ret_int HC.out.symm, box3_out (x := .int .u32 n) (y := .int .u32 x) (z := .bool c) (k := w.heap.size) (by assumption)⟩
  · have h' : okLim n x c most = false := by simpa using h
    have hn := nearL_no h'
    have HC : Hid (codeLim n x c most = 2) := by unfold codeLim; rw [h']; rfl
    generalize (if c then min (max x (min n most)) most else 0) = m2 at *
    generalize min n most = m1 at *
    have hor : (n == m1) = false ∧ (n != m1) = true ∨ (x == m2) = false ∧ (x != m2) = true := by
      by_cases h1 : n = m1
      · right
        have : x ≠ m2 := fun h2 => hn ⟨h1, h2⟩
        simp [this]
      · left; simp [h1]
    clear h h' hn
    rcases hor with ⟨n1, n2⟩ | ⟨n1, n2⟩
    all_goals
      go_enter Tryz.func130, Tryz.ntmps130
      go_wp2
      go_region_held3 (fun w' => Below w.heap.size w w' ∧ w'.cell? ⟨w.heap.size, 0, none⟩ = some (.int .u32 n) ∧ w'.cell? ⟨w.heap.size, 1, none⟩ = some (.int .u32 x) ∧ w'.cell? ⟨w.heap.size, 2, none⟩ = some (.bool c)) (first | assumption | exact box3_start w _ _ _ _ | exact box3_keep (by assumption) (by assumption))
        (first
          | (go_at_call 183; refine (hN _).mono ?_; rintro e w2 ⟨rfl, hb2⟩))
      go_wp2
      go_ret
      exact ⟨ret_int HC.out.symm, box3_out (x := .int .u32 n) (y := .int .u32 x) (z := .bool c) (k := w.heap.size) (by assumption)⟩
end Go.Proofs.YtepbjkkakfpjgaaGreatDoor.Kind
