/-
  BODY: appendLabels, appendOne, appendInner, appendList by contract. (tools/gen_bodyput.py)
-/
import Derived.Test.YtlfflomeaplidaaDoorBodyPutK
import Derived.Test.YtlfflomeaplidaaDoorBodyTags
import Derived.Test.YtlfflomeaplidaaDoorBodyPlain
import Derived.Test.YtlfflomeaplidaaDoorBodyIns
import Derived.Deep.RegionLaw
namespace Go.Proofs.YtlfflomeaplidaaDoor.Body
open Go.RowKit Go.Proofs.YtlfflomeaplidaaDoor.Instr Go.Proofs.YtlfflomeaplidaaDoor.Leb
open Go.Proofs.YtlfflomeaplidaaDoor.Kind (Rd numR refuseR startR numR_good numR_bounds refuseR_good getL_next)

theorem encU_lens (n : Int) : (encU n).length ≤ 5 ∧ encU n ≠ [] := by
  have := sizeU_pos n
  rw [← List.length_pos_iff, encU_length]
  omega
theorem encS_lens (n : Int) : (encS n).length ≤ 5 ∧ encS n ≠ [] := by
  have := sizeS_pos n
  rw [← List.length_pos_iff, encS_length]
  omega
theorem flatMap_snoc (l : List Int) (z : Int) : (l ++ [z]).flatMap encU = l.flatMap encU ++ encU z := by simp
theorem flatMap_len : ∀ l : List Int, (l.flatMap encU).length ≤ 5 * l.length
  | [] => by simp
  | z :: l => by have := flatMap_len l; have := (encU_lens z).1; simp only [List.flatMap_cons, List.length_append, List.length_cons]; omega
/-- PutU's bytes, as what is appended. -/
theorem putU_put (n : Int) (w : World) (h0 : 0 ≤ n) (h1 : n < 4294967296) : Calls Tryd.prog 72 #[.int .u32 n] w fun e w' => ∃ a c, e = .returned (.slice a (encU n).length c) ∧ Bytes w' a (encU n) ∧ Below w.heap.size w w' :=
  (putU_any n w h0 h1).mono fun _ _ h => gives_put h (encU_bytes n) (by have := (encU_lens n).1; omega)
theorem putS_put (n : Int) (w : World) (h0 : -2147483648 ≤ n) (h1 : n < 2147483648) : Calls Tryd.prog 99 #[.int .i32 n] w fun e w' => ∃ a c, e = .returned (.slice a (encS n).length c) ∧ Bytes w' a (encS n) ∧ Below w.heap.size w w' :=
  (putS_any n w h0 h1).mono fun _ _ h => gives_put h (encS_bytes n) (by have := (encS_lens n).1; omega)

set_option maxRecDepth 100000 in
set_option maxHeartbeats 3200000 in
theorem appendLabels_any (B : Nat) (v : Value) (xs l : List Int) (a : Option Addr) (len c : Nat) (w : World) (hv : Own B w v xs) (hB : B ≤ w.heap.size) (hlen : l.length = len) (hl : TagsAt B w a l) (hz : ∀ z ∈ l, 0 ≤ z ∧ z < 4294967296) (hfew : len ≤ 16384) (hx : xs.length ≤ 70368744178000) :
    Calls Tryd.prog 98 #[v, .slice a len c] w (PutsTo B v w (xs ++ encTags l)) := by
  have HV := hid hv
  have HT := hid hl
  have HZ := hid hz
  have HL := hid hlen
  have P1 := hid (fun w' => putU_put (len : Int) w' (by omega) (by omega))
  have HE : Hid (xs ++ encTags l = (xs ++ encU (len : Int)) ++ l.flatMap encU) := by show _ = _; rw [encTags, hlen, List.append_assoc]
  rw [HE.out]
  have hfl := flatMap_len l
  rw [hlen] at hfl
  have q1 := encU_lens (len : Int)
  obtain ⟨e1, he1⟩ : ∃ e, encU (len : Int) = e := ⟨_, rfl⟩
  rw [he1] at P1 q1 ⊢
  have Q1 := hid q1
  have HX := hid hx
  have HFL := hid hfl
  clear hv hl hz hlen HE q1 he1 hx hfl
  go_enter Tryd.func98, Tryd.ntmps98
  go_wp2_with fail
  refine (P1.out w).mono ?_
  clear P1
  rintro e w1 ⟨a1, c1, rfl, hb1, hw1⟩
  have G1 := hid ((Grew.refl HV.out).post hw1)
  have HB1 := hid hb1
  have T1 := hid (show xs.length + e1.length ≤ 140737488351232 by have := HX.out; have := Q1.out.1; omega)
  clear hb1 hw1
  go_wp2_with (first
    | (at_builtin; refine put_bytes rfl (.tmp 7) (.tmp 11) rfl rfl G1.out hB rfl rfl HB1.out Q1.out.2 T1.out ?_; intro v2 w2 hg2; refine Hid.out ?_))
  refine hid ?_
  clear G1 HB1 T1
  go_wp2
  go_loopw [0, 15] (fun s0 s15 wr => ∃ j : Nat, j ≤ len ∧ s15 = .int .i64 j ∧ Hid (Grew B v w s0 ((xs ++ e1) ++ (l.take j).flatMap encU) wr)) (fun _ s15 _ => len - (intOf s15).toNat)
  case atStart => exact ⟨0, by omega, rfl, by simpa using hid hg2⟩
  case round =>
    obtain ⟨j, hj, rfl, hG⟩ := hrel
    by_cases hlt : j < len
    · have hil : j < l.length := by have := HL.out; omega
      have hz' := HZ.out _ (List.getElem_mem hil)
      rw [← getD_lt hil] at hz'
      have hd : Hid ((l.take (j + 1)).flatMap encU = (l.take j).flatMap encU ++ encU (l.getD j 0)) := by
        show _ = _
        rw [List.take_succ_eq_append_getElem hil, flatMap_snoc, getD_lt hil]
      rcases HT.out with h0 | ⟨b, off, rfl, hbl, hc⟩
      · rw [h0] at hil; simp at hil
      have hcj := (hG.out.below HV.out hB).cell (p := ⟨b, off + j, none⟩) hbl |>.trans (hc j hil)
      have hlen3 : Hid (((xs ++ e1) ++ (l.take j).flatMap encU).length ≤ 70368744270000) := by
        refine hid ?_
        have h1 := flatMap_len (l.take j)
        have h2 := HX.out
        have h3 := Q1.out.1
        simp only [List.length_append, List.length_take] at h1 ⊢
        have := HL.out
        omega
      obtain ⟨z, hz⟩ : ∃ z, l.getD j 0 = z := ⟨_, rfl⟩
      rw [hz] at hz' hd hcj
      have P2 := hid (fun w' => putU_put z w' hz'.1 hz'.2)
      have q2 := encU_lens z
      obtain ⟨e2, he2⟩ : ∃ e, encU z = e := ⟨_, rfl⟩
      rw [he2] at P2 q2 hd
      obtain ⟨zs, hzs⟩ : ∃ zs, (xs ++ e1) ++ (l.take j).flatMap encU = zs := ⟨_, rfl⟩
      rw [hzs] at hG hlen3
      have hd2 : Hid ((xs ++ e1) ++ (l.take (j + 1)).flatMap encU = zs ++ e2) := by show _ = _; rw [hd.out, ← List.append_assoc, hzs]
      have Q2 := hid q2
      clear hd hzs he2 hz hz' hc hil q2
      go_wp2_with fail
      refine (P2.out _).mono ?_
      clear P2
      rintro e w3 ⟨a3, c3, rfl, hb3, hw3⟩
      have G3 := hid (hG.out.post hw3)
      have HB3 := hid hb3
      have T3 := hid (show zs.length + e2.length ≤ 140737488351232 by have := hlen3.out; have := Q2.out.1; omega)
      clear hb3 hw3
      go_wp2_with (first
        | (at_builtin; refine put_bytes rfl (.tmp 19) (.tmp 21) rfl rfl G3.out hB rfl rfl HB3.out Q2.out.2 T3.out ?_; intro v4 w4 hg4; refine Hid.out ?_))
      refine hid ?_
      go_wp2
      go_roundw
      case rel => exact ⟨j + 1, by omega, by simp, by rw [hd2.out]; exact hid hg4⟩
      case measure => simp [intOf]; omega
    · obtain rfl : j = len := by omega
      have hd : Hid (l.take j = l) := by show _ = _; rw [List.take_of_length_le (by have := HL.out; omega)]
      rw [hd.out] at hG
      go_wp2
      go_ret
      exact ⟨_, rfl, hG.out⟩

/-- What appendList must do with a list. -/
def ALok (t : Il) : Prop := ∀ (B : Nat) (v : Value) (xs : List Int) (a : Option Addr) (n c : Nat) (w : World), Own B w v xs → B ≤ w.heap.size → ListAt B w a n t → n ≤ 140737488351232 → xs.length + (encL t).length ≤ 70368744177664 →
  Calls Tryd.prog 22 #[v, .slice a n c] w (PutsTo B v w (xs ++ encL t))
set_option maxRecDepth 100000 in
set_option maxHeartbeats 3200000 in
theorem put0 (B : Nat) (v : Value) (xs : List Int) (x : Ix) (w : World) (hv : Own B w v xs) (hB : B ≤ w.heap.size) (hx : May x) (_ht : TagsAt B w x.ta x.tags) (hl : xs.length ≤ 70368744177700) (hk : kindP x.op = 0) (hp : partsP x.op = 0) :
    Calls Tryd.prog 65 #[v, .agg x.vals] w (PutsTo B v w (xs ++ (x.op :: encRest x))) := by
  have hop := name_range ((lawful_iff x).1 hx.law).1
  obtain ⟨o0, o1, _, _⟩ := hop
  have F := hid (fun w' => follows_any x.op w')
  rw [hp] at F
  have b1 : bits .and .u8 0 1 = 0 := by decide
  have b2 : bits .and .u8 0 2 = 0 := by decide
  have b4 : bits .and .u8 0 4 = 0 := by decide
  have b8 : bits .and .u8 0 8 = 0 := by decide
  have b16 : bits .and .u8 0 16 = 0 := by decide
  have b32 : bits .and .u8 0 32 = 0 := by decide
  have b64 : bits .and .u8 0 64 = 0 := by decide
  have hXv : v.ownBlock ≠ some w.heap.size := fun h => by have := (World.ownsRow.lt hv _ h).2; omega
  have HXV := hid hXv
  have X0 := hid (At.made x w)
  have G0 := hid ((Grew.refl hv).post ((Below.refl w.heap.size w).alloc (Nat.le_refl _) (.cells x.vals 61)))
  rw [encRest0 hk]
  have GW : Hid (Grew B v (w.alloc (.cells x.vals 61)) v xs (w.alloc (.cells x.vals 61))) := hid (Grew.refl G0.out.own)
  have HL := hid hl
  have HB2 : Hid (B ≤ (w.alloc (.cells x.vals 61)).heap.size) := by refine hid ?_; simp; omega
  have HW1 : Hid (Below w.heap.size w (w.alloc (.cells x.vals 61))) := hid ((Below.refl w.heap.size w).alloc (Nat.le_refl _) _)
  clear hv hB _ht hl hk hp hXv G0 hx
  unfold Ix.vals at GW X0 HB2 HW1 ⊢
  obtain ⟨c0, c1, c2, c3, c4, c5, c6, c7⟩ := X0.out
  go_enter Tryd.func65, Tryd.ntmps65
  go_wp2_with fail
  refine (F.out _).mono ?_
  rintro e w' ⟨rfl, rfl⟩
  have T0 := hid (show xs.length ≤ 140737488351232 by have := HL.out; omega)
  generalize hW1 : (w.alloc (.cells #[.int .i64 x.op, .int .i64 x.res, .int .u32 x.a, .int .u32 x.b, .int .i32 x.n, .slice x.ta x.tags.length x.tc, .slice x.la x.ln x.lc, .slice x.ea x.en x.ec] 61)) = W1 at *
  go_wp2_with (first
    | (at_builtin; refine put_byte rfl (.tmp 9) (.tmp 13) rfl x.op rfl GW.out HB2.out rfl T0.out ?_; intro v1 w1 hg1; refine Hid.out ?_))
  refine hid ?_
  go_wp2
  go_ret
  refine ⟨_, rfl, Grew.pre HW1.out ?_⟩
  simpa [List.append_assoc] using hg1

set_option maxRecDepth 100000 in
set_option maxHeartbeats 3200000 in
theorem put2 (B : Nat) (v : Value) (xs : List Int) (x : Ix) (w : World) (hv : Own B w v xs) (hB : B ≤ w.heap.size) (hx : May x) (_ht : TagsAt B w x.ta x.tags) (hl : xs.length ≤ 70368744177700) (hk : kindP x.op = 2) (hp : partsP x.op = 4) :
    Calls Tryd.prog 65 #[v, .agg x.vals] w (PutsTo B v w (xs ++ (x.op :: encRest x))) := by
  have hop := name_range ((lawful_iff x).1 hx.law).1
  obtain ⟨o0, o1, _, _⟩ := hop
  have F := hid (fun w' => follows_any x.op w')
  rw [hp] at F
  have b1 : bits .and .u8 4 1 = 0 := by decide
  have b2 : bits .and .u8 4 2 = 0 := by decide
  have b4 : bits .and .u8 4 4 = 4 := by decide
  have b8 : bits .and .u8 4 8 = 0 := by decide
  have b16 : bits .and .u8 4 16 = 0 := by decide
  have b32 : bits .and .u8 4 32 = 0 := by decide
  have b64 : bits .and .u8 4 64 = 0 := by decide
  have hXv : v.ownBlock ≠ some w.heap.size := fun h => by have := (World.ownsRow.lt hv _ h).2; omega
  have HXV := hid hXv
  have X0 := hid (At.made x w)
  have G0 := hid ((Grew.refl hv).post ((Below.refl w.heap.size w).alloc (Nat.le_refl _) (.cells x.vals 61)))
  rw [encRest2 hk]
  have GW : Hid (Grew B v (w.alloc (.cells x.vals 61)) v xs (w.alloc (.cells x.vals 61))) := hid (Grew.refl G0.out.own)
  have P1 := hid (fun w' => putU_put x.a w' hx.a.1 hx.a.2)
  have Q1 := hid (encU_lens x.a)
  obtain ⟨ea, hea⟩ : ∃ e, encU x.a = e := ⟨_, rfl⟩
  rw [hea] at P1 Q1
  rw [hea]
  clear hea
  have HL := hid hl
  have HB2 : Hid (B ≤ (w.alloc (.cells x.vals 61)).heap.size) := by refine hid ?_; simp; omega
  have HW1 : Hid (Below w.heap.size w (w.alloc (.cells x.vals 61))) := hid ((Below.refl w.heap.size w).alloc (Nat.le_refl _) _)
  clear hv hB _ht hl hk hp hXv G0 hx
  unfold Ix.vals at GW X0 HB2 HW1 ⊢
  obtain ⟨c0, c1, c2, c3, c4, c5, c6, c7⟩ := X0.out
  go_enter Tryd.func65, Tryd.ntmps65
  go_wp2_with fail
  refine (F.out _).mono ?_
  rintro e w' ⟨rfl, rfl⟩
  have T0 := hid (show xs.length ≤ 140737488351232 by have := HL.out; omega)
  generalize hW1 : (w.alloc (.cells #[.int .i64 x.op, .int .i64 x.res, .int .u32 x.a, .int .u32 x.b, .int .i32 x.n, .slice x.ta x.tags.length x.tc, .slice x.la x.ln x.lc, .slice x.ea x.en x.ec] 61)) = W1 at *
  go_wp2_with (first
    | (at_builtin; refine put_byte rfl (.tmp 9) (.tmp 13) rfl x.op rfl GW.out HB2.out rfl T0.out ?_; intro v1 w1 hg1; refine Hid.out ?_))
  refine hid ?_
  have A1 := hg1.at_ X0.out HXV.out
  have GH1 := hid hg1
  clear c0 c1 c2 c3 c4 c5 c6 c7 hg1
  obtain ⟨c0, c1, c2, c3, c4, c5, c6, c7⟩ := A1
  go_wp2_with fail
  refine (P1.out _).mono ?_
  rintro e q1 ⟨a1, cc1, rfl, hb1, hw1⟩
  have GC1 := hid (GH1.out.post hw1)
  have HB1c := hid hb1
  have TT1 := hid (show (xs ++ [x.op]).length + ea.length ≤ 140737488351232 by have h1 := HL.out; have h2 := Q1.out.1; simp only [List.length_append, List.length_cons, List.length_nil]; omega)
  have AX1 := GC1.out.at_ X0.out HXV.out
  clear c0 c1 c2 c3 c4 c5 c6 c7 hb1 hw1
  go_wp2_with (first
    | (at_builtin; refine put_bytes rfl (.tmp 34) (.tmp 37) rfl rfl GC1.out HB2.out rfl rfl HB1c.out Q1.out.2 TT1.out ?_; intro v2 w2 hg2; refine Hid.out ?_))
  refine hid ?_
  obtain ⟨c0, c1, c2, c3, c4, c5, c6, c7⟩ := hg2.at_ X0.out HXV.out
  go_wp2
  go_ret
  refine ⟨_, rfl, Grew.pre HW1.out ?_⟩
  simpa [List.append_assoc] using hg2

set_option maxRecDepth 100000 in
set_option maxHeartbeats 3200000 in
theorem put3 (B : Nat) (v : Value) (xs : List Int) (x : Ix) (w : World) (hv : Own B w v xs) (hB : B ≤ w.heap.size) (hx : May x) (_ht : TagsAt B w x.ta x.tags) (hl : xs.length ≤ 70368744177700) (hk : kindP x.op = 3) (hp : partsP x.op = 36) :
    Calls Tryd.prog 65 #[v, .agg x.vals] w (PutsTo B v w (xs ++ (x.op :: encRest x))) := by
  have hop := name_range ((lawful_iff x).1 hx.law).1
  obtain ⟨o0, o1, _, _⟩ := hop
  have F := hid (fun w' => follows_any x.op w')
  rw [hp] at F
  have b1 : bits .and .u8 36 1 = 0 := by decide
  have b2 : bits .and .u8 36 2 = 0 := by decide
  have b4 : bits .and .u8 36 4 = 4 := by decide
  have b8 : bits .and .u8 36 8 = 0 := by decide
  have b16 : bits .and .u8 36 16 = 0 := by decide
  have b32 : bits .and .u8 36 32 = 32 := by decide
  have b64 : bits .and .u8 36 64 = 0 := by decide
  have hXv : v.ownBlock ≠ some w.heap.size := fun h => by have := (World.ownsRow.lt hv _ h).2; omega
  have HXV := hid hXv
  have X0 := hid (At.made x w)
  have G0 := hid ((Grew.refl hv).post ((Below.refl w.heap.size w).alloc (Nat.le_refl _) (.cells x.vals 61)))
  rw [encRest3 hk]
  have GW : Hid (Grew B v (w.alloc (.cells x.vals 61)) v xs (w.alloc (.cells x.vals 61))) := hid (Grew.refl G0.out.own)
  have P1 := hid (fun w' => putU_put x.a w' hx.a.1 hx.a.2)
  have Q1 := hid (encU_lens x.a)
  obtain ⟨ea, hea⟩ : ∃ e, encU x.a = e := ⟨_, rfl⟩
  rw [hea] at P1 Q1
  rw [hea]
  clear hea
  have HL := hid hl
  have HB2 : Hid (B ≤ (w.alloc (.cells x.vals 61)).heap.size) := by refine hid ?_; simp; omega
  have HW1 : Hid (Below w.heap.size w (w.alloc (.cells x.vals 61))) := hid ((Below.refl w.heap.size w).alloc (Nat.le_refl _) _)
  clear hv hB _ht hl hk hp hXv G0 hx
  unfold Ix.vals at GW X0 HB2 HW1 ⊢
  obtain ⟨c0, c1, c2, c3, c4, c5, c6, c7⟩ := X0.out
  go_enter Tryd.func65, Tryd.ntmps65
  go_wp2_with fail
  refine (F.out _).mono ?_
  rintro e w' ⟨rfl, rfl⟩
  have T0 := hid (show xs.length ≤ 140737488351232 by have := HL.out; omega)
  generalize hW1 : (w.alloc (.cells #[.int .i64 x.op, .int .i64 x.res, .int .u32 x.a, .int .u32 x.b, .int .i32 x.n, .slice x.ta x.tags.length x.tc, .slice x.la x.ln x.lc, .slice x.ea x.en x.ec] 61)) = W1 at *
  go_wp2_with (first
    | (at_builtin; refine put_byte rfl (.tmp 9) (.tmp 13) rfl x.op rfl GW.out HB2.out rfl T0.out ?_; intro v1 w1 hg1; refine Hid.out ?_))
  refine hid ?_
  have A1 := hg1.at_ X0.out HXV.out
  have GH1 := hid hg1
  clear c0 c1 c2 c3 c4 c5 c6 c7 hg1
  obtain ⟨c0, c1, c2, c3, c4, c5, c6, c7⟩ := A1
  go_wp2_with fail
  refine (P1.out _).mono ?_
  rintro e q1 ⟨a1, cc1, rfl, hb1, hw1⟩
  have GC1 := hid (GH1.out.post hw1)
  have HB1c := hid hb1
  have TT1 := hid (show (xs ++ [x.op]).length + ea.length ≤ 140737488351232 by have h1 := HL.out; have h2 := Q1.out.1; simp only [List.length_append, List.length_cons, List.length_nil]; omega)
  have AX1 := GC1.out.at_ X0.out HXV.out
  clear c0 c1 c2 c3 c4 c5 c6 c7 hb1 hw1
  go_wp2_with (first
    | (at_builtin; refine put_bytes rfl (.tmp 34) (.tmp 37) rfl rfl GC1.out HB2.out rfl rfl HB1c.out Q1.out.2 TT1.out ?_; intro v2 w2 hg2; refine Hid.out ?_))
  refine hid ?_
  obtain ⟨c0, c1, c2, c3, c4, c5, c6, c7⟩ := hg2.at_ X0.out HXV.out
  have A2 := hg2.at_ X0.out HXV.out
  have GH2 := hid hg2
  clear c0 c1 c2 c3 c4 c5 c6 c7 hg2
  obtain ⟨c0, c1, c2, c3, c4, c5, c6, c7⟩ := A2
  have TT2 := hid (show ((xs ++ [x.op]) ++ ea).length ≤ 140737488351232 by have h1 := HL.out; have h2 := Q1.out.1; simp only [List.length_append, List.length_cons, List.length_nil]; omega)
  go_wp2_with (first
    | (at_builtin; refine put_byte rfl (.tmp 58) (.tmp 59) rfl 0 rfl GH2.out HB2.out rfl TT2.out ?_; intro v3 w3 hg3; refine Hid.out ?_))
  refine hid ?_
  obtain ⟨c0, c1, c2, c3, c4, c5, c6, c7⟩ := hg3.at_ X0.out HXV.out
  go_wp2
  go_ret
  refine ⟨_, rfl, Grew.pre HW1.out ?_⟩
  simpa [List.append_assoc] using hg3

set_option maxRecDepth 100000 in
set_option maxHeartbeats 3200000 in
theorem put4 (B : Nat) (v : Value) (xs : List Int) (x : Ix) (w : World) (hv : Own B w v xs) (hB : B ≤ w.heap.size) (hx : May x) (ht : TagsAt B w x.ta x.tags) (hl : xs.length ≤ 70368744177700) (hk : kindP x.op = 4) (hp : partsP x.op = 6) :
    Calls Tryd.prog 65 #[v, .agg x.vals] w (PutsTo B v w (xs ++ (x.op :: encRest x))) := by
  have hop := name_range ((lawful_iff x).1 hx.law).1
  obtain ⟨o0, o1, _, _⟩ := hop
  have F := hid (fun w' => follows_any x.op w')
  rw [hp] at F
  have b1 : bits .and .u8 6 1 = 0 := by decide
  have b2 : bits .and .u8 6 2 = 2 := by decide
  have b4 : bits .and .u8 6 4 = 4 := by decide
  have b8 : bits .and .u8 6 8 = 0 := by decide
  have b16 : bits .and .u8 6 16 = 0 := by decide
  have b32 : bits .and .u8 6 32 = 0 := by decide
  have b64 : bits .and .u8 6 64 = 0 := by decide
  have hXv : v.ownBlock ≠ some w.heap.size := fun h => by have := (World.ownsRow.lt hv _ h).2; omega
  have HXV := hid hXv
  have X0 := hid (At.made x w)
  have G0 := hid ((Grew.refl hv).post ((Below.refl w.heap.size w).alloc (Nat.le_refl _) (.cells x.vals 61)))
  rw [encRest4 hk]
  have GW : Hid (Grew B v (w.alloc (.cells x.vals 61)) v xs (w.alloc (.cells x.vals 61))) := hid (Grew.refl G0.out.own)
  have P1 := hid (fun (v' : Value) (zs : List Int) (w' : World) (h1 : Own B w' v' zs) (h2 : B ≤ w'.heap.size) (h3 : TagsAt B w' x.ta x.tags) (h4 : zs.length ≤ 70368744178000) => appendLabels_any B v' zs x.tags x.ta x.tags.length x.tc w' h1 h2 rfl h3 hx.tags hx.few h4)
  have P2 := hid (fun w' => putU_put x.a w' hx.a.1 hx.a.2)
  have Q2 := hid (encU_lens x.a)
  obtain ⟨ea, hea⟩ : ∃ e, encU x.a = e := ⟨_, rfl⟩
  rw [hea] at P2 Q2
  rw [hea]
  clear hea
  have HTL : Hid ((encTags x.tags).length ≤ 90000) := by refine hid ?_; have h1 := flatMap_len x.tags; have h2 := hx.few; have h3 := (encU_lens (x.tags.length : Int)).1; simp only [encTags, List.length_append]; omega
  have HT := hid ht
  have HB0 := hid hB
  have HL := hid hl
  have HB2 : Hid (B ≤ (w.alloc (.cells x.vals 61)).heap.size) := by refine hid ?_; simp; omega
  have HW1 : Hid (Below w.heap.size w (w.alloc (.cells x.vals 61))) := hid ((Below.refl w.heap.size w).alloc (Nat.le_refl _) _)
  obtain ⟨et, het⟩ : ∃ e, encTags x.tags = e := ⟨_, rfl⟩
  rw [het] at P1 HTL ⊢
  clear het
  clear hv hB ht hl hk hp hXv G0 hx
  unfold Ix.vals at GW X0 HB2 HW1 ⊢
  obtain ⟨c0, c1, c2, c3, c4, c5, c6, c7⟩ := X0.out
  go_enter Tryd.func65, Tryd.ntmps65
  go_wp2_with fail
  refine (F.out _).mono ?_
  rintro e w' ⟨rfl, rfl⟩
  have T0 := hid (show xs.length ≤ 140737488351232 by have := HL.out; omega)
  generalize hW1 : (w.alloc (.cells #[.int .i64 x.op, .int .i64 x.res, .int .u32 x.a, .int .u32 x.b, .int .i32 x.n, .slice x.ta x.tags.length x.tc, .slice x.la x.ln x.lc, .slice x.ea x.en x.ec] 61)) = W1 at *
  go_wp2_with (first
    | (at_builtin; refine put_byte rfl (.tmp 9) (.tmp 13) rfl x.op rfl GW.out HB2.out rfl T0.out ?_; intro v1 w1 hg1; refine Hid.out ?_))
  refine hid ?_
  have A1 := hg1.at_ X0.out HXV.out
  have GH1 := hid hg1
  clear c0 c1 c2 c3 c4 c5 c6 c7 hg1
  obtain ⟨c0, c1, c2, c3, c4, c5, c6, c7⟩ := A1
  have TB := GH1.out.below GW.out.own HB2.out
  have TT1 := hid (show (xs ++ [x.op]).length ≤ 70368744178000 by have h1 := HL.out; simp only [List.length_append, List.length_cons, List.length_nil]; omega)
  go_wp2_with fail
  refine (P1.out _ _ _ GH1.out.own (Nat.le_trans HB2.out GH1.out.touch.size) ((HT.out.below (HW1.out.mono HB0.out)).below TB) TT1.out).mono ?_
  rintro e w2 ⟨v2, rfl, hgl⟩
  have hg2 := GH1.out.trans hgl
  clear TB hgl
  clear c0 c1 c2 c3 c4 c5 c6 c7
  obtain ⟨c0, c1, c2, c3, c4, c5, c6, c7⟩ := hg2.at_ X0.out HXV.out
  have A2 := hg2.at_ X0.out HXV.out
  have GH2 := hid hg2
  clear c0 c1 c2 c3 c4 c5 c6 c7 hg2
  obtain ⟨c0, c1, c2, c3, c4, c5, c6, c7⟩ := A2
  go_wp2_with fail
  refine (P2.out _).mono ?_
  rintro e q2 ⟨a2, cc2, rfl, hb2, hw2⟩
  have GC2 := hid (GH2.out.post hw2)
  have HB2c := hid hb2
  have TT2 := hid (show ((xs ++ [x.op]) ++ et).length + ea.length ≤ 140737488351232 by have h1 := HL.out; have h2 := Q2.out.1; have h3 := HTL.out; simp only [List.length_append, List.length_cons, List.length_nil]; omega)
  have AX2 := GC2.out.at_ X0.out HXV.out
  clear c0 c1 c2 c3 c4 c5 c6 c7 hb2 hw2
  go_wp2_with (first
    | (at_builtin; refine put_bytes rfl (.tmp 34) (.tmp 37) rfl rfl GC2.out HB2.out rfl rfl HB2c.out Q2.out.2 TT2.out ?_; intro v3 w3 hg3; refine Hid.out ?_))
  refine hid ?_
  obtain ⟨c0, c1, c2, c3, c4, c5, c6, c7⟩ := hg3.at_ X0.out HXV.out
  go_wp2
  go_ret
  refine ⟨_, rfl, Grew.pre HW1.out ?_⟩
  simpa [List.append_assoc] using hg3

set_option maxRecDepth 100000 in
set_option maxHeartbeats 3200000 in
theorem put5 (B : Nat) (v : Value) (xs : List Int) (x : Ix) (w : World) (hv : Own B w v xs) (hB : B ≤ w.heap.size) (hx : May x) (_ht : TagsAt B w x.ta x.tags) (hl : xs.length ≤ 70368744177700) (hk : kindP x.op = 5) (hp : partsP x.op = 12) :
    Calls Tryd.prog 65 #[v, .agg x.vals] w (PutsTo B v w (xs ++ (x.op :: encRest x))) := by
  have hop := name_range ((lawful_iff x).1 hx.law).1
  obtain ⟨o0, o1, _, _⟩ := hop
  have F := hid (fun w' => follows_any x.op w')
  rw [hp] at F
  have b1 : bits .and .u8 12 1 = 0 := by decide
  have b2 : bits .and .u8 12 2 = 0 := by decide
  have b4 : bits .and .u8 12 4 = 4 := by decide
  have b8 : bits .and .u8 12 8 = 8 := by decide
  have b16 : bits .and .u8 12 16 = 0 := by decide
  have b32 : bits .and .u8 12 32 = 0 := by decide
  have b64 : bits .and .u8 12 64 = 0 := by decide
  have hXv : v.ownBlock ≠ some w.heap.size := fun h => by have := (World.ownsRow.lt hv _ h).2; omega
  have HXV := hid hXv
  have X0 := hid (At.made x w)
  have G0 := hid ((Grew.refl hv).post ((Below.refl w.heap.size w).alloc (Nat.le_refl _) (.cells x.vals 61)))
  rw [encRest5 hk]
  have GW : Hid (Grew B v (w.alloc (.cells x.vals 61)) v xs (w.alloc (.cells x.vals 61))) := hid (Grew.refl G0.out.own)
  have P1 := hid (fun w' => putU_put x.a w' hx.a.1 hx.a.2)
  have Q1 := hid (encU_lens x.a)
  have P2 := hid (fun w' => putU_put x.b w' hx.b.1 hx.b.2)
  have Q2 := hid (encU_lens x.b)
  obtain ⟨ea, hea⟩ : ∃ e, encU x.a = e := ⟨_, rfl⟩
  rw [hea] at P1 Q1
  rw [hea]
  clear hea
  obtain ⟨eb, heb⟩ : ∃ e, encU x.b = e := ⟨_, rfl⟩
  rw [heb] at P2 Q2
  rw [heb]
  clear heb
  have HL := hid hl
  have HB2 : Hid (B ≤ (w.alloc (.cells x.vals 61)).heap.size) := by refine hid ?_; simp; omega
  have HW1 : Hid (Below w.heap.size w (w.alloc (.cells x.vals 61))) := hid ((Below.refl w.heap.size w).alloc (Nat.le_refl _) _)
  clear hv hB _ht hl hk hp hXv G0 hx
  unfold Ix.vals at GW X0 HB2 HW1 ⊢
  obtain ⟨c0, c1, c2, c3, c4, c5, c6, c7⟩ := X0.out
  go_enter Tryd.func65, Tryd.ntmps65
  go_wp2_with fail
  refine (F.out _).mono ?_
  rintro e w' ⟨rfl, rfl⟩
  have T0 := hid (show xs.length ≤ 140737488351232 by have := HL.out; omega)
  generalize hW1 : (w.alloc (.cells #[.int .i64 x.op, .int .i64 x.res, .int .u32 x.a, .int .u32 x.b, .int .i32 x.n, .slice x.ta x.tags.length x.tc, .slice x.la x.ln x.lc, .slice x.ea x.en x.ec] 61)) = W1 at *
  go_wp2_with (first
    | (at_builtin; refine put_byte rfl (.tmp 9) (.tmp 13) rfl x.op rfl GW.out HB2.out rfl T0.out ?_; intro v1 w1 hg1; refine Hid.out ?_))
  refine hid ?_
  have A1 := hg1.at_ X0.out HXV.out
  have GH1 := hid hg1
  clear c0 c1 c2 c3 c4 c5 c6 c7 hg1
  obtain ⟨c0, c1, c2, c3, c4, c5, c6, c7⟩ := A1
  go_wp2_with fail
  refine (P1.out _).mono ?_
  rintro e q1 ⟨a1, cc1, rfl, hb1, hw1⟩
  have GC1 := hid (GH1.out.post hw1)
  have HB1c := hid hb1
  have TT1 := hid (show (xs ++ [x.op]).length + ea.length ≤ 140737488351232 by have h1 := HL.out; have h2 := Q1.out.1; simp only [List.length_append, List.length_cons, List.length_nil]; omega)
  have AX1 := GC1.out.at_ X0.out HXV.out
  clear c0 c1 c2 c3 c4 c5 c6 c7 hb1 hw1
  go_wp2_with (first
    | (at_builtin; refine put_bytes rfl (.tmp 34) (.tmp 37) rfl rfl GC1.out HB2.out rfl rfl HB1c.out Q1.out.2 TT1.out ?_; intro v2 w2 hg2; refine Hid.out ?_))
  refine hid ?_
  obtain ⟨c0, c1, c2, c3, c4, c5, c6, c7⟩ := hg2.at_ X0.out HXV.out
  have A2 := hg2.at_ X0.out HXV.out
  have GH2 := hid hg2
  clear c0 c1 c2 c3 c4 c5 c6 c7 hg2
  obtain ⟨c0, c1, c2, c3, c4, c5, c6, c7⟩ := A2
  go_wp2_with fail
  refine (P2.out _).mono ?_
  rintro e q2 ⟨a2, cc2, rfl, hb2, hw2⟩
  have GC2 := hid (GH2.out.post hw2)
  have HB2c := hid hb2
  have TT2 := hid (show ((xs ++ [x.op]) ++ ea).length + eb.length ≤ 140737488351232 by have h1 := HL.out; have h2 := Q2.out.1; have h3 := Q1.out.1; simp only [List.length_append, List.length_cons, List.length_nil]; omega)
  have AX2 := GC2.out.at_ X0.out HXV.out
  clear c0 c1 c2 c3 c4 c5 c6 c7 hb2 hw2
  go_wp2_with (first
    | (at_builtin; refine put_bytes rfl (.tmp 42) (.tmp 45) rfl rfl GC2.out HB2.out rfl rfl HB2c.out Q2.out.2 TT2.out ?_; intro v3 w3 hg3; refine Hid.out ?_))
  refine hid ?_
  obtain ⟨c0, c1, c2, c3, c4, c5, c6, c7⟩ := hg3.at_ X0.out HXV.out
  go_wp2
  go_ret
  refine ⟨_, rfl, Grew.pre HW1.out ?_⟩
  simpa [List.append_assoc] using hg3

set_option maxRecDepth 100000 in
set_option maxHeartbeats 3200000 in
theorem put6 (B : Nat) (v : Value) (xs : List Int) (x : Ix) (w : World) (hv : Own B w v xs) (hB : B ≤ w.heap.size) (hx : May x) (_ht : TagsAt B w x.ta x.tags) (hl : xs.length ≤ 70368744177700) (hk : kindP x.op = 6) (hp : partsP x.op = 32) :
    Calls Tryd.prog 65 #[v, .agg x.vals] w (PutsTo B v w (xs ++ (x.op :: encRest x))) := by
  have hop := name_range ((lawful_iff x).1 hx.law).1
  obtain ⟨o0, o1, _, _⟩ := hop
  have F := hid (fun w' => follows_any x.op w')
  rw [hp] at F
  have b1 : bits .and .u8 32 1 = 0 := by decide
  have b2 : bits .and .u8 32 2 = 0 := by decide
  have b4 : bits .and .u8 32 4 = 0 := by decide
  have b8 : bits .and .u8 32 8 = 0 := by decide
  have b16 : bits .and .u8 32 16 = 0 := by decide
  have b32 : bits .and .u8 32 32 = 32 := by decide
  have b64 : bits .and .u8 32 64 = 0 := by decide
  have hXv : v.ownBlock ≠ some w.heap.size := fun h => by have := (World.ownsRow.lt hv _ h).2; omega
  have HXV := hid hXv
  have X0 := hid (At.made x w)
  have G0 := hid ((Grew.refl hv).post ((Below.refl w.heap.size w).alloc (Nat.le_refl _) (.cells x.vals 61)))
  rw [encRest6 hk]
  have GW : Hid (Grew B v (w.alloc (.cells x.vals 61)) v xs (w.alloc (.cells x.vals 61))) := hid (Grew.refl G0.out.own)
  have HL := hid hl
  have HB2 : Hid (B ≤ (w.alloc (.cells x.vals 61)).heap.size) := by refine hid ?_; simp; omega
  have HW1 : Hid (Below w.heap.size w (w.alloc (.cells x.vals 61))) := hid ((Below.refl w.heap.size w).alloc (Nat.le_refl _) _)
  clear hv hB _ht hl hk hp hXv G0 hx
  unfold Ix.vals at GW X0 HB2 HW1 ⊢
  obtain ⟨c0, c1, c2, c3, c4, c5, c6, c7⟩ := X0.out
  go_enter Tryd.func65, Tryd.ntmps65
  go_wp2_with fail
  refine (F.out _).mono ?_
  rintro e w' ⟨rfl, rfl⟩
  have T0 := hid (show xs.length ≤ 140737488351232 by have := HL.out; omega)
  generalize hW1 : (w.alloc (.cells #[.int .i64 x.op, .int .i64 x.res, .int .u32 x.a, .int .u32 x.b, .int .i32 x.n, .slice x.ta x.tags.length x.tc, .slice x.la x.ln x.lc, .slice x.ea x.en x.ec] 61)) = W1 at *
  go_wp2_with (first
    | (at_builtin; refine put_byte rfl (.tmp 9) (.tmp 13) rfl x.op rfl GW.out HB2.out rfl T0.out ?_; intro v1 w1 hg1; refine Hid.out ?_))
  refine hid ?_
  have A1 := hg1.at_ X0.out HXV.out
  have GH1 := hid hg1
  clear c0 c1 c2 c3 c4 c5 c6 c7 hg1
  obtain ⟨c0, c1, c2, c3, c4, c5, c6, c7⟩ := A1
  have TT1 := hid (show (xs ++ [x.op]).length ≤ 140737488351232 by have h1 := HL.out; simp only [List.length_append, List.length_cons, List.length_nil]; omega)
  go_wp2_with (first
    | (at_builtin; refine put_byte rfl (.tmp 58) (.tmp 59) rfl 0 rfl GH1.out HB2.out rfl TT1.out ?_; intro v2 w2 hg2; refine Hid.out ?_))
  refine hid ?_
  obtain ⟨c0, c1, c2, c3, c4, c5, c6, c7⟩ := hg2.at_ X0.out HXV.out
  go_wp2
  go_ret
  refine ⟨_, rfl, Grew.pre HW1.out ?_⟩
  simpa [List.append_assoc] using hg2

set_option maxRecDepth 100000 in
set_option maxHeartbeats 3200000 in
theorem put7 (B : Nat) (v : Value) (xs : List Int) (x : Ix) (w : World) (hv : Own B w v xs) (hB : B ≤ w.heap.size) (hx : May x) (_ht : TagsAt B w x.ta x.tags) (hl : xs.length ≤ 70368744177700) (hk : kindP x.op = 7) (hp : partsP x.op = 16) :
    Calls Tryd.prog 65 #[v, .agg x.vals] w (PutsTo B v w (xs ++ (x.op :: encRest x))) := by
  have hop := name_range ((lawful_iff x).1 hx.law).1
  obtain ⟨o0, o1, _, _⟩ := hop
  have F := hid (fun w' => follows_any x.op w')
  rw [hp] at F
  have b1 : bits .and .u8 16 1 = 0 := by decide
  have b2 : bits .and .u8 16 2 = 0 := by decide
  have b4 : bits .and .u8 16 4 = 0 := by decide
  have b8 : bits .and .u8 16 8 = 0 := by decide
  have b16 : bits .and .u8 16 16 = 16 := by decide
  have b32 : bits .and .u8 16 32 = 0 := by decide
  have b64 : bits .and .u8 16 64 = 0 := by decide
  have hXv : v.ownBlock ≠ some w.heap.size := fun h => by have := (World.ownsRow.lt hv _ h).2; omega
  have HXV := hid hXv
  have X0 := hid (At.made x w)
  have G0 := hid ((Grew.refl hv).post ((Below.refl w.heap.size w).alloc (Nat.le_refl _) (.cells x.vals 61)))
  rw [encRest7 hk]
  have GW : Hid (Grew B v (w.alloc (.cells x.vals 61)) v xs (w.alloc (.cells x.vals 61))) := hid (Grew.refl G0.out.own)
  have P1 := hid (fun w' => putS_put x.n w' hx.n.1 hx.n.2)
  have Q1 := hid (encS_lens x.n)
  obtain ⟨en, hen⟩ : ∃ e, encS x.n = e := ⟨_, rfl⟩
  rw [hen] at P1 Q1
  rw [hen]
  clear hen
  have HL := hid hl
  have HB2 : Hid (B ≤ (w.alloc (.cells x.vals 61)).heap.size) := by refine hid ?_; simp; omega
  have HW1 : Hid (Below w.heap.size w (w.alloc (.cells x.vals 61))) := hid ((Below.refl w.heap.size w).alloc (Nat.le_refl _) _)
  clear hv hB _ht hl hk hp hXv G0 hx
  unfold Ix.vals at GW X0 HB2 HW1 ⊢
  obtain ⟨c0, c1, c2, c3, c4, c5, c6, c7⟩ := X0.out
  go_enter Tryd.func65, Tryd.ntmps65
  go_wp2_with fail
  refine (F.out _).mono ?_
  rintro e w' ⟨rfl, rfl⟩
  have T0 := hid (show xs.length ≤ 140737488351232 by have := HL.out; omega)
  generalize hW1 : (w.alloc (.cells #[.int .i64 x.op, .int .i64 x.res, .int .u32 x.a, .int .u32 x.b, .int .i32 x.n, .slice x.ta x.tags.length x.tc, .slice x.la x.ln x.lc, .slice x.ea x.en x.ec] 61)) = W1 at *
  go_wp2_with (first
    | (at_builtin; refine put_byte rfl (.tmp 9) (.tmp 13) rfl x.op rfl GW.out HB2.out rfl T0.out ?_; intro v1 w1 hg1; refine Hid.out ?_))
  refine hid ?_
  have A1 := hg1.at_ X0.out HXV.out
  have GH1 := hid hg1
  clear c0 c1 c2 c3 c4 c5 c6 c7 hg1
  obtain ⟨c0, c1, c2, c3, c4, c5, c6, c7⟩ := A1
  go_wp2_with fail
  refine (P1.out _).mono ?_
  rintro e q1 ⟨a1, cc1, rfl, hb1, hw1⟩
  have GC1 := hid (GH1.out.post hw1)
  have HB1c := hid hb1
  have TT1 := hid (show (xs ++ [x.op]).length + en.length ≤ 140737488351232 by have h1 := HL.out; have h2 := Q1.out.1; simp only [List.length_append, List.length_cons, List.length_nil]; omega)
  have AX1 := GC1.out.at_ X0.out HXV.out
  clear c0 c1 c2 c3 c4 c5 c6 c7 hb1 hw1
  go_wp2_with (first
    | (at_builtin; refine put_bytes rfl (.tmp 50) (.tmp 53) rfl rfl GC1.out HB2.out rfl rfl HB1c.out Q1.out.2 TT1.out ?_; intro v2 w2 hg2; refine Hid.out ?_))
  refine hid ?_
  obtain ⟨c0, c1, c2, c3, c4, c5, c6, c7⟩ := hg2.at_ X0.out HXV.out
  go_wp2
  go_ret
  refine ⟨_, rfl, Grew.pre HW1.out ?_⟩
  simpa [List.append_assoc] using hg2


set_option maxRecDepth 100000 in
set_option maxHeartbeats 3200000 in
theorem inner_any (B : Nat) (v : Value) (xs : List Int) (x : Ix) (l e : Il) (w : World) (hv : Own B w v xs) (hB : B ≤ w.heap.size) (hl : ListAt B w x.la x.ln l) (he : ListAt B w x.ea x.en e) (hln : x.ln ≤ 140737488351232) (hen : x.en ≤ 140737488351232) (il : ALok l) (ie : ALok e)
    (hx : xs.length + (encL l).length + (encL e).length + 1 ≤ 70368744177664) :
    Calls Tryd.prog 100 #[v, .agg x.vals] w (PutsTo B v w (xs ++ (encL l ++ ((if x.en = 0 then [] else 5 :: encL e) ++ [11])))) := by
  have hXv : v.ownBlock ≠ some w.heap.size := fun h => by have := (World.ownsRow.lt hv _ h).2; omega
  have HXV := hid hXv
  have HW1 : Hid (Below w.heap.size w (w.alloc (.cells x.vals 61))) := hid ((Below.refl w.heap.size w).alloc (Nat.le_refl _) _)
  have X0 := hid (At.made x w)
  have GW : Hid (Grew B v (w.alloc (.cells x.vals 61)) v xs (w.alloc (.cells x.vals 61))) := hid (Grew.refl (hv.alloc _))
  have HB2 : Hid (B ≤ (w.alloc (.cells x.vals 61)).heap.size) := by refine hid ?_; simp; omega
  have LL := hid (hl.below (HW1.out.mono hB))
  have LE := hid (he.below (HW1.out.mono hB))
  have PL := hid (fun (v' : Value) (zs : List Int) (w' : World) (h1 : Own B w' v' zs) (h2 : B ≤ w'.heap.size) (h3 : ListAt B w' x.la x.ln l) (h4 : zs.length + (encL l).length ≤ 70368744177664) => il B v' zs x.la x.ln x.lc w' h1 h2 h3 hln h4)
  have PE := hid (fun (v' : Value) (zs : List Int) (w' : World) (h1 : Own B w' v' zs) (h2 : B ≤ w'.heap.size) (h3 : ListAt B w' x.ea x.en e) (h4 : zs.length + (encL e).length ≤ 70368744177664) => ie B v' zs x.ea x.en x.ec w' h1 h2 h3 hen h4)
  obtain ⟨el, hel⟩ : ∃ r, encL l = r := ⟨_, rfl⟩
  obtain ⟨ee, hee⟩ : ∃ r, encL e = r := ⟨_, rfl⟩
  rw [hel] at PL hx ⊢
  rw [hee] at PE hx ⊢
  have HL := hid hx
  clear hv hB hl he hln hen il ie hx hXv hel hee
  by_cases h0 : x.en = 0
  · rw [if_pos h0, List.nil_append]
    have h0'' : ¬ (0 : Int) < (x.en : Int) := by omega
    clear h0
    unfold Ix.vals at GW X0 HB2 HW1 LL LE ⊢
    obtain ⟨c0, c1, c2, c3, c4, c5, c6, c7⟩ := X0.out
    have T0 := hid (show xs.length + el.length ≤ 70368744177664 by have := HL.out; omega)
    go_enter Tryd.func100, Tryd.ntmps100
    generalize hW1 : (w.alloc (.cells #[.int .i64 x.op, .int .i64 x.res, .int .u32 x.a, .int .u32 x.b, .int .i32 x.n, .slice x.ta x.tags.length x.tc, .slice x.la x.ln x.lc, .slice x.ea x.en x.ec] 61)) = W1 at *
    go_wp2_with fail
    try rw [hW1]
    refine (PL.out v xs W1 GW.out.own HB2.out LL.out T0.out).mono ?_
    clear PL
    rintro e1 w1 ⟨v1, rfl, hg1⟩
    have A1 := hg1.at_ X0.out HXV.out
    have GH1 := hid hg1
    clear c0 c1 c2 c3 c4 c5 c6 c7 hg1
    obtain ⟨c0, c1, c2, c3, c4, c5, c6, c7⟩ := A1
    have T1 := hid (show (xs ++ el).length ≤ 140737488351232 by have := HL.out; simp only [List.length_append]; omega)
    go_wp2_with (first
      | (at_builtin; refine put_byte rfl (.tmp 19) (.tmp 20) rfl 11 rfl GH1.out HB2.out rfl T1.out ?_; intro v2 w2 hg2; refine Hid.out ?_))
    refine hid ?_
    go_wp2
    go_ret
    refine ⟨_, rfl, Grew.pre HW1.out ?_⟩
    simpa [List.append_assoc] using hg2
  · rw [if_neg h0]
    have h0'' : (0 : Int) < (x.en : Int) := by omega
    unfold Ix.vals at GW X0 HB2 HW1 LL LE ⊢
    obtain ⟨c0, c1, c2, c3, c4, c5, c6, c7⟩ := X0.out
    have T0 := hid (show xs.length + el.length ≤ 70368744177664 by have := HL.out; omega)
    go_enter Tryd.func100, Tryd.ntmps100
    generalize hW1 : (w.alloc (.cells #[.int .i64 x.op, .int .i64 x.res, .int .u32 x.a, .int .u32 x.b, .int .i32 x.n, .slice x.ta x.tags.length x.tc, .slice x.la x.ln x.lc, .slice x.ea x.en x.ec] 61)) = W1 at *
    go_wp2_with fail
    try rw [hW1]
    refine (PL.out v xs W1 GW.out.own HB2.out LL.out T0.out).mono ?_
    clear PL
    rintro e1 w1 ⟨v1, rfl, hg1⟩
    have A1 := hg1.at_ X0.out HXV.out
    have GH1 := hid hg1
    clear c0 c1 c2 c3 c4 c5 c6 c7
    obtain ⟨c0, c1, c2, c3, c4, c5, c6, c7⟩ := A1
    have LE1 := hid (LE.out.below (hg1.below GW.out.own HB2.out))
    clear hg1
    have T1 := hid (show (xs ++ el).length ≤ 140737488351232 by have := HL.out; simp only [List.length_append]; omega)
    have G1d := hid (GH1.out.post (Below.refl _ _).drew)
    have G1z := hid (GH1.out.post ((Below.refl w1.heap.size w1).alloc (Nat.le_refl _) (.cells #[.int .u8 5] 5)).drew)
    have Z5 : Hid ((w1.alloc (.cells #[.int .u8 5] 5)).drew.cell? ⟨w1.heap.size, 0, none⟩ = some (.int .u8 5)) := by refine hid ?_; go_simp
    have c7z := keepA c7 (.cells #[.int .u8 5] 5)
    have T2 := hid (show (xs ++ el ++ [5]).length + ee.length ≤ 70368744177664 by have := HL.out; simp only [List.length_append, List.length_cons, List.length_nil]; omega)
    have LE0 := LE
    go_wp2
    go_region_law
      (first
        | (refine step_put_byte rfl (.tmp 13) (.tmp 14) rfl 5 rfl G1z.out HB2.out rfl Z5.out T1.out ?_
           intro v2 w2 hg2
           have c72 := (hg2.at_ X0.out HXV.out).c7
           have LE2 := hid (LE0.out.below (hg2.below GW.out.own HB2.out))
           have HG2 := hid hg2
           clear hg2)
        | (go_simp; go_at_call 22
           refine (PE.out _ _ _ HG2.out.own (Nat.le_trans HB2.out HG2.out.touch.size) LE2.out T2.out).mono ?_
           rintro e3 w3 ⟨v3, rfl, hg3⟩
           have HG3 := hid (HG2.out.trans hg3)
           clear hg3))
    all_goals
      have T3 := hid (show (xs ++ el ++ [5] ++ ee).length ≤ 140737488351232 by have := HL.out; simp only [List.length_append, List.length_cons, List.length_nil]; omega)
      go_wp2_with (first
        | (at_builtin; refine put_byte rfl (.tmp 19) (.tmp 20) rfl 11 rfl HG3.out HB2.out rfl T3.out ?_; intro v4 w4 hg4; refine Hid.out ?_))
      refine hid ?_
      go_wp2
      go_ret
      refine ⟨_, rfl, Grew.pre HW1.out ?_⟩
      simpa [List.append_assoc] using hg4
end Go.Proofs.YtlfflomeaplidaaDoor.Body
