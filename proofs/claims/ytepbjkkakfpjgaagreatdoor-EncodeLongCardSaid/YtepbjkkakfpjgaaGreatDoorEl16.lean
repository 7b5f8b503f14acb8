import Derived.Test.YtepbjkkakfpjgaaGreatDoorEl15
import Derived.Test.YtepbjkkakfpjgaaGreatDoorEl04
import Derived.Test.YtepbjkkakfpjgaaGreatDoorEl01
import Derived.Test.YtepbjkkakfpjgaaGreatDoorEl08
import Derived.Laws.AppendOwnNone
import Derived.Deep.Cut
namespace Go.Proofs.YtepbjkkakfpjgaaGreatDoor.Body
set_option linter.unusedVariables false
open Go.RowKit Go.Proofs.YtepbjkkakfpjgaaGreatDoor.Instr Go.Proofs.YtepbjkkakfpjgaaGreatDoor.Leb

theorem one06_any (x : Ix) (l e : Il) (m : Nat) (w : World) (hx : May x) (ht : TagsAt w.heap.size w x.ta x.tags) (hl : ListAt w.heap.size w x.la x.ln l) (he : ListAt w.heap.size w x.ea x.en e) (hml : MayT l) (hme : MayT e)
    (hcl : l.count < m) (hce : e.count < m) (hfl : (encL l).length ≤ 90000) (hfe : (encL e).length ≤ 90000) (LH : PutH m) :
    Calls Tryz.prog 219 #[.agg x.vals] w (Gives w (encOne x l e)) := by
  rcases kind_cases x.op with h | h | h | h | h | h | h | h
  · exact enc0 x l e m w hx h ht hl he hml hme hcl hce hfl hfe LH
  · exact enc1 x l e m w hx h ht hl he hml hme hcl hce hfl hfe LH
  · exact enc2 x l e m w hx h ht hl he hml hme hcl hce hfl hfe LH
  · exact enc3 x l e m w hx h ht hl he hml hme hcl hce hfl hfe LH
  · exact enc4 x l e m w hx h ht hl he hml hme hcl hce hfl hfe LH
  · exact enc5 x l e m w hx h ht hl he hml hme hcl hce hfl hfe LH
  · exact enc6 x l e m w hx h ht hl he hml hme hcl hce hfl hfe LH
  · exact enc7 x l e m w hx h ht hl he hml hme hcl hce hfl hfe LH
theorem len_le_enc : ∀ t : Il, t.len ≤ (encL t).length
  | .nil => by simp [Il.len]
  | .cons x l e r => by
    have h1 := len_le_enc r
    have h2 : 1 ≤ (encOne x l e).length := by unfold encOne; simp
    rw [encL_cons, List.length_append]
    simp only [Il.len]
    omega
theorem nil_of_len {t : Il} (h : t.len = 0) : t = .nil := by
  cases t with
  | nil => rfl
  | cons x l e r => simp [Il.len] at h
theorem sub_len {x : Ix} {l e : Il} (hx : May x) (hl : l.len = x.ln) (he : e.len = x.en) : (encL l).length ≤ (encOne x l e).length ∧ (encL e).length ≤ (encOne x l e).length := by
  by_cases hk : kindP x.op = 1
  · have h := encOne_len (l := l) (e := e) hk (fun h0 => nil_of_len (by omega))
    omega
  · have law := (lawful_iff x).1 hx.law
    have h1 : l = .nil := nil_of_len (by have := law.2.2.2.2.2.2.2.1; omega)
    have h2 : e = .nil := nil_of_len (by have := law.2.2.2.2.2.2.2.2; omega)
    rw [h1, h2]
    simp [encL]
theorem own_gives {w W : World} {v : Value} {ys : List Int} (h : Own w.heap.size W v ys) (hb : Below w.heap.size w W) : Gives w ys (.returned v) W := ⟨v, rfl, h, hb⟩
set_option maxRecDepth 100000 in
set_option maxHeartbeats 3200000 in
theorem list06 : ∀ m, PutH m := by
  intro m
  induction m with
  | zero => intro t a n c w hm; omega
  | succ m ih =>
    intro t a len c w hm hL hM hf
    obtain ⟨hL1, hL2⟩ := hL
    rcases hL2 with rfl | ⟨b, off, rfl, hi⟩
    · have h0 : len = 0 := hL1.symm
      subst h0
      clear ih hm hL1 hM hf
      go_enter Tryz.func202, Tryz.ntmps202
      go_wp2
      go_loopw [3, 4] (fun so si wr => so = .slice none 0 0 ∧ si = .int .i64 0 ∧ wr = w) (fun _ _ _ => 0)
      case atStart => exact ⟨rfl, rfl, rfl⟩
      case round =>
        obtain ⟨rfl, rfl, rfl⟩ := hrel
        go_wp2
        go_ret
        exact own_gives (World.ownsRow_nil _ _ _ _) (Below.refl _ _)
    · have hlen : len ≤ 90000 := by have := len_le_enc t; omega
      have HM := hid hm
      have HF := hid hf
      have HL1 := hid hL1
      have HI := hid hi
      have HMAY := hid hM
      have HIH := hid ih
      clear hm hf hL1 hi hM ih
      go_enter Tryz.func202, Tryz.ntmps202
      go_wp2
      go_loopw [3, 4] (fun so si wr => ∃ (k n3 k3 : Nat) (q3 : Option Addr) (ys : List Int) (rest : Il), si = .int .i64 k ∧ so = .slice q3 n3 k3 ∧ k ≤ len ∧ Hid (k + rest.len = len ∧ rest.count ≤ t.count ∧ MayT rest ∧ ys ++ encL rest = encL t) ∧ Hid (Items w.heap.size w b (off + k * 8) rest) ∧ Hid (Own w.heap.size wr (.slice q3 n3 k3) ys) ∧ Below w.heap.size w wr)
        (fun _ si _ => len - (intOf si).toNat)
      case atStart => exact ⟨0, 0, 0, none, [], t, rfl, rfl, Nat.zero_le _, ⟨by have := HL1.out; omega, Nat.le_refl _, HMAY.out, rfl⟩, by simpa using HI, World.ownsRow_nil _ _ _ _, Below.refl _ _⟩
      case round =>
        obtain ⟨k, n3, k3, q3, ys, rest, rfl, rfl, hk, HR, HIR, HO, hb⟩ := hrel
        cases rest with
        | nil =>
          obtain ⟨r1, _, _, r4⟩ := HR.out
          have hkl : k = len := by simpa [Il.len] using r1
          have HE : Hid (ys = encL t) := by show _ = _; rw [← r4]; simp [encL]
          clear r4
          subst hkl
          rw [HE.out] at HO
          go_wp2
          go_ret
          exact own_gives HO.out hb
        | cons x tl te r =>
          have hir := Items.below hb HIR.out
          obtain ⟨hbn, hxk, ⟨c0, c1, c2, c3, c4, c5, c6, c7⟩, _⟩ := hir
          obtain ⟨_, _, _, ht, hLl, hLe, hir'⟩ := HIR.out
          obtain ⟨r1, r2, r3, r4⟩ := HR.out
          obtain ⟨mx, mfl, mfe, mtl, mte, mr⟩ := r3
          have hlt : k < len := by simp only [Il.len] at r1; omega
          have hcnt : tl.count < m ∧ te.count < m := by have := HM.out; simp only [Il.count] at r2; omega
          rw [encL_cons] at r4
          have hone : ys.length + (encOne x tl te).length ≤ 90000 := by
            have h1 := congrArg List.length r4
            have h2 := HF.out
            simp only [List.length_append] at h1
            omega
          have hsub := sub_len mx mfl mfe
          have PO := hid (fun (W : World) (hb' : Below w.heap.size w W) => one06_any x tl te m W mx ((ht.below hb').more hb'.size) (ListAt.on hLl hb') (ListAt.on hLe hb') mtl mte hcnt.1 hcnt.2 (by omega) (by omega) HIH.out)
          have HNX : Hid (Items w.heap.size w b (off + (k + 1) * 8) r) := by
            rw [show off + (k + 1) * 8 = off + k * 8 + 8 by omega]
            exact hid hir'
          have HR2 : Hid ((k + 1) + r.len = len ∧ r.count ≤ t.count ∧ MayT r ∧ (ys ++ encOne x tl te) ++ encL r = encL t) := hid ⟨by simp only [Il.len] at r1; omega, by simp only [Il.count] at r2; omega, mr, by rw [List.append_assoc]; exact r4⟩
          have BE : Hid (∀ z ∈ encOne x tl te, 0 ≤ z ∧ z < 256) := hid (fun z hz => encL_bytesC t HMAY.out z (by rw [← r4]; simp [hz]))
          obtain ⟨eo, heo⟩ : ∃ r, encOne x tl te = r := ⟨_, rfl⟩
          rw [heo] at PO HR2 BE hone
          have HN := hid hone
          clear r1 r2 r4 hcnt hone hsub heo mx mfl mfe mtl mte mr ht hLl hLe hxk
          unfold Ix.vals at PO
          go_wp2_with fail
          refine (PO.out _ hb).mono ?_
          clear PO
          rintro e3 w3 ⟨r3, rfl, ro3, rb3⟩
          obtain ⟨q4, k4, rfl⟩ := ro3.slice
          have RN := ro3.nil
          have RY := hid (ro3.bytes BE.out (by have := HN.out; omega))
          have O3 := hid (HO.out.below rb3)
          have hb3 := thenB hb rb3
          clear ro3
          go_wp2_with (first | (at_builtin; refine append_bytes rfl _ _ rfl rfl O3.out hb3 hb3.size q4 _ k4 rfl RN.out rfl RY.out (by have := HN.out; omega) ?_; intro v5 w5 ho5 hb5 hs5; obtain ⟨q5, k5, rfl⟩ := ho5.sliceN (n := ys.length + eo.length) (by rw [List.length_append])))
          obtain ⟨n5, hn5⟩ : ∃ n, ys.length + eo.length = n := ⟨_, rfl⟩
          rw [hn5] at ho5
          have HO5 := hid ho5
          clear ho5
          go_roundw
          case rel => exact ⟨k + 1, n5, k5, q5, ys ++ eo, r, by simp, by simp [hn5], by omega, HR2, HNX, HO5, hb5⟩
          case measure => simp [intOf]; omega
theorem own_lit1 (B : Nat) (W : World) (hB : B ≤ W.heap.size) (z : Int) : Own B (W.alloc (.cells #[.int .u8 z] 5)) (.slice (some ⟨W.heap.size, 0, none⟩) 1 1) [z] :=
  World.ownsRow_lit (base := B) (e := 5) (size := 1) W #[.int .u8 z] 1 (by simpa using hB) (by decide) rfl
set_option maxRecDepth 100000 in
set_option maxHeartbeats 1600000 in
theorem Put06_any (t : Il) (a : Option Addr) (len c : Nat) (w : World) (hL : ListAt w.heap.size w a len t) (hn : len ≤ 140737488351232) (hc : t.count ≤ 4611686018427387900) (hx : (encL t).length ≤ 90000) :
    Calls Tryz.prog 178 #[.slice a len c] w (PutP w (putB t) (checkP t)) := by
  have CK := hid (checkDoc_any t a len c w hL hn hc)
  by_cases h0 : checkP t = 0
  · have hm := mayT_list hL h0
    have LS := hid (fun (W : World) (hb : Below w.heap.size w W) => list06 (t.count + 1) t a len c W (Nat.lt_succ_self _) (hL.on hb) hm hx)
    unfold putB
    rw [if_pos h0]
    rw [h0] at CK ⊢
    unfold encP
    obtain ⟨zl, hzl⟩ : ∃ z, encL t = z := ⟨_, rfl⟩
    rw [hzl] at LS hx ⊢
    obtain ⟨m1, hm1⟩ : ∃ n, zl.length = n := ⟨_, rfl⟩
    have HX := hid hx
    have HM1 := hid hm1
    clear hzl hm h0 hx hc hn hL hm1
    go_enter Tryz.func178, Tryz.ntmps178
    go_wp2_with fail
    refine CK.out.mono ?_
    clear CK
    rintro e w1 ⟨rfl, hb1⟩
    go_wp2_with fail
    refine (LS.out _ hb1).mono ?_
    clear LS
    rintro e w2 ⟨v, rfl, ho, hb2⟩
    obtain ⟨q2, k2, rfl⟩ := ho.sliceN HM1.out
    have O2 := hid (ho.mono (base' := w.heap.size) hb1.size)
    have B2 := thenB hb1 hb2
    clear ho hb2
    go_wp2_with (first | (at_builtin; refine append_byte rfl _ _ rfl 11 rfl O2.out B2 B2.size rfl (by have := HX.out; omega) ?_; intro v3 w3 ho3 hb3 hs3; obtain ⟨q3, k3, rfl⟩ := ho3.sliceN (n := m1 + 1) (by rw [List.length_append, HM1.out]; rfl); have HO3 := hid ho3; clear ho3))
    go_ret2
    exact ⟨_, rfl, HO3.out, hb3⟩
  · unfold putB
    rw [if_neg h0]
    obtain ⟨q, hq⟩ : ∃ q, checkP t = q := ⟨_, rfl⟩
    rw [hq] at CK h0 ⊢
    have h1 : (q != 0) = true := by simp [h0]
    clear hq hx hc hn hL
    go_enter Tryz.func178, Tryz.ntmps178
    go_wp2_with fail
    refine CK.out.mono ?_
    clear CK
    rintro e w1 ⟨rfl, hb1⟩
    go_wp2
    go_ret2
    exact ⟨_, rfl, ⟨rfl, .inl ⟨rfl, rfl⟩⟩, hb1⟩
set_option maxRecDepth 100000 in
set_option maxHeartbeats 3200000 in
theorem PutCode06_any (n : Int) (t : Il) (a : Option Addr) (len c : Nat) (w : World) (hL : ListAt w.heap.size w a len t) (hn : len ≤ 140737488351232) (hc : t.count ≤ 4611686018427387900) (hx : (encL t).length ≤ 90000) :
    Calls Tryz.prog 118 #[.agg #[.int .i64 n, .slice a len c]] w (PutP w (putC n t) (checkC n t)) := by
  by_cases hr : n < 0 ∨ 50000 < n
  · have hce : checkC n t = 2 := if_pos hr
    have hpe : putC n t = [] := by unfold putC; rw [hce, if_neg (by decide)]
    rw [hce, hpe]
    clear hce hpe hL hn hc hx
    rcases hr with hr | hr
    · go_enter Tryz.func118, Tryz.ntmps118
      go_wp2
      go_ret2
      exact ⟨_, rfl, ⟨rfl, .inl ⟨rfl, rfl⟩⟩, thenA (Below.refl _ _) _⟩
    · have hr0 : ¬ n < 0 := by omega
      go_enter Tryz.func118, Tryz.ntmps118
      go_wp2
      go_ret2
      exact ⟨_, rfl, ⟨rfl, .inl ⟨rfl, rfl⟩⟩, thenA (Below.refl _ _) _⟩
  · have hr0 : 0 ≤ n := by omega
    have hr1 : n ≤ 50000 := by omega
    have hr2 : ¬ n < 0 := by omega
    have hr3 : ¬ 50000 < n := by omega
    have hce : checkC n t = checkP t := if_neg hr
    have hpe : putC n t = if checkP t = 0 then codeL n t else [] := by unfold putC; rw [hce]
    rw [hce, hpe]
    have hb0 := alloc_below' w (.cells #[.int .i64 n, .slice a len c] 64)
    have PC := hid (Put06_any t a len c _ (hL.on hb0) hn hc hx)
    obtain ⟨x0, x1⟩ := box_at w n a len c 64
    have X0 := hid x0
    have HB0 := hid hb0
    by_cases h0 : checkP t = 0
    · have hm := mayT_list hL h0
      rw [if_pos h0]
      have hput : putB t = encP t := by unfold putB; rw [if_pos h0]
      rw [hput, h0] at PC
      rw [h0]
      have hlen : (encP t).length = (encL t).length + 1 := by simp [encP]
      have HBY := hid (encP_bytesC hm)
      obtain ⟨zs, hzs⟩ : ∃ zs, encP t = zs := ⟨_, rfl⟩
      have hcode : codeL n t = locL n ++ zs := by unfold codeL; rw [hzs]
      rw [hcode]
      rw [hzs] at PC hlen HBY
      obtain ⟨L, hLn⟩ : ∃ L, zs.length = L := ⟨_, rfl⟩
      have HL := hid hLn
      have HLEN := hid (show 1 ≤ L ∧ L ≤ 90001 by omega)
      clear hr hce hpe hput h0 hm hlen hzs hcode hLn hx hc hL x0 x1 hb0
      by_cases hz : n = 0
      · subst hz
        have hloc : locL 0 = [0] := rfl
        rw [hloc]
        clear hloc
        go_enter Tryz.func118, Tryz.ntmps118
        go_wp2_with fail
        refine PC.out.mono ?_
        clear PC
        rintro e w1 ⟨v, rfl, ho, hb1⟩
        obtain ⟨a1, c1, rfl⟩ := ho.sliceN (n := L) HL.out
        have HY1 := hid (ho.bytes HBY.out (by have := HL.out; have := HLEN.out; omega))
        have HN1 := ho.nil
        have x0 := keep hb1 X0.out
        have HB1 := HB0.out.trans (hb1.mono HB0.out.size)
        have OL := hid (own_lit1 w.heap.size w1 HB1.size 0)
        have HB2 := thenA HB1 (.cells #[.int .u8 0] 5)
        have HY2 := hid (HY1.out.alloc (.cells #[.int .u8 0] 5))
        clear ho hb1 X0 HB0 HBY HY1
        go_wp2_with (first | (at_builtin; refine append_bytes rfl _ _ rfl rfl OL.out HB2 HB2.size a1 _ c1 rfl HN1.out HL.out HY2.out (by have := HL.out; have := HLEN.out; simp; omega) ?_; intro v3 w3 ho3 hb3 hs3; obtain ⟨q3, k3, rfl⟩ := ho3.sliceN (n := 1 + L) (by rw [List.length_append, HL.out]; rfl); have HO3 := hid ho3; clear ho3))
        go_ret2
        exact ⟨_, rfl, HO3.out, hb3⟩
      · have hloc : locL n = [1] ++ encU n ++ [127] := by unfold locL; rw [if_neg hz]; rfl
        rw [hloc]
        have PU := hid (fun W => refU_any n W hr0 (by omega))
        have LU := hid (encU_lens n).1
        have BU := hid (encU_bytes n)
        obtain ⟨eu, heu⟩ : ∃ e, encU n = e := ⟨_, rfl⟩
        rw [heu] at PU LU BU ⊢
        obtain ⟨m2, hm2⟩ : ∃ m, eu.length = m := ⟨_, rfl⟩
        have HM2 := hid hm2
        have hw : IntKind.u32.wrap n = n := by rw [IntKind.wrap_u32]; omega
        clear hloc heu hm2
        go_enter Tryz.func118, Tryz.ntmps118
        go_wp2_with fail
        refine PC.out.mono ?_
        clear PC
        rintro e w1 ⟨v, rfl, ho, hb1⟩
        obtain ⟨a1, c1, rfl⟩ := ho.sliceN (n := L) HL.out
        have HY1 := hid (ho.bytes HBY.out (by have := HL.out; have := HLEN.out; omega))
        have HN1 := ho.nil
        have x0 := keep hb1 X0.out
        have HB1 := HB0.out.trans (hb1.mono HB0.out.size)
        have HB1' := hid HB1
        have OL := hid (own_lit1 w1.heap.size w1 (Nat.le_refl _) 1)
        have HB2 := hid (alloc_below' w1 (.cells #[.int .u8 1] 5))
        have x2 := keep (alloc_below' w1 (.cells #[.int .u8 1] 5)) x0
        clear ho hb1 X0 HB0 HBY HB1
        go_wp2_with fail
        refine (PU.out _).mono ?_
        clear PU
        rintro e w3 ⟨v3, rfl, ho3, hb3⟩
        obtain ⟨q3, k3, rfl⟩ := ho3.sliceN HM2.out
        have RN := ho3.nil
        have RY := hid (ho3.bytes BU.out (by have := LU.out; omega))
        have O3 := hid (OL.out.below hb3)
        have B3 := HB2.out.trans (hb3.mono HB2.out.size)
        clear ho3 hb3 OL
        go_wp2_with (first
          | (at_builtin; refine append_bytes rfl _ _ rfl rfl O3.out B3 B3.size q3 _ k3 rfl RN.out HM2.out RY.out (by have := LU.out; simp; omega) ?_; intro v4 w4 ho4 hb4 hs4; obtain ⟨q4, k4, rfl⟩ := ho4.sliceN (n := 1 + m2) (by rw [List.length_append, HM2.out]; rfl); have HO4 := hid ho4; clear ho4)
          | (at_builtin; refine append_byte rfl _ _ rfl 127 rfl HO4.out hb4 hb4.size rfl (by have := LU.out; simp; omega) ?_; intro v5 w5 ho5 hb5 hs5; obtain ⟨q5, k5, rfl⟩ := ho5.sliceN (n := 1 + m2 + 1) (by rw [List.length_append, List.length_append, HM2.out]; rfl); have HO5 := hid ho5; clear ho5)
          | (at_builtin; refine append_bytes rfl _ _ rfl rfl HO5.out hb5 hb5.size a1 _ c1 rfl HN1.out HL.out (HY1.out.below hb5) (by have := LU.out; have := HL.out; have := HLEN.out; simp; omega) ?_; intro v6 w6 ho6 hb6 hs6; obtain ⟨q6, k6, rfl⟩ := ho6.sliceN (n := 1 + m2 + 1 + L) (by simp [HM2.out, HL.out]; omega); have HO6 := hid ho6; clear ho6))
        go_ret2
        exact ⟨_, rfl, HO6.out.mono HB1'.out.size, thenB HB1'.out hb6⟩
    · rw [if_neg h0]
      have hput : putB t = [] := by unfold putB; rw [if_neg h0]
      rw [hput] at PC
      obtain ⟨q, hq⟩ : ∃ q, checkP t = q := ⟨_, rfl⟩
      rw [hq] at PC h0 ⊢
      have h1 : (q != 0) = true := by simp [h0]
      clear hr hce hpe hput hq hx hc hL x0 x1 hb0 X0
      go_enter Tryz.func118, Tryz.ntmps118
      go_wp2_with fail
      refine PC.out.mono ?_
      clear PC
      rintro e w1 ⟨v, rfl, ho, hb1⟩
      have HB1 := hid (HB0.out.trans (hb1.mono HB0.out.size))
      clear ho hb1
      go_wp2
      go_ret2
      exact ⟨_, rfl, ⟨rfl, .inl ⟨rfl, rfl⟩⟩, HB1.out⟩
end Go.Proofs.YtepbjkkakfpjgaaGreatDoor.Body

namespace Go.Proofs.YtepbjkkakfpjgaaGreatDoor.Utf
open Go.RowKit

/-- What 'at' hands back. -/
def atR : List Int → Int × Int × Bool
  | [] => (0, 0, false)
  | c :: t => match firstL c with
    | none => (0, 0, false)
    | some (n0, more) => match tailsL more n0 t with
      | none => (0, 0, false)
      | some n => (n, (more + 1 : Nat), decide (Rune n ∧ (oneL n).length = more + 1))
theorem atR_some {l : List Int} {n : Int} {k : Nat} (h : atL l = some (n, k)) : atR l = (n, (k : Int), true) := by
  cases l with
  | nil => cases h
  | cons c t =>
    simp only [atL] at h
    simp only [atR]
    cases hf : firstL c with
    | none => rw [hf] at h; cases h
    | some q =>
      obtain ⟨n0, more⟩ := q
      rw [hf] at h
      simp only at h ⊢
      cases ht : tailsL more n0 t with
      | none => rw [ht] at h; cases h
      | some m =>
        rw [ht] at h
        simp only at h ⊢
        split at h
        · rename_i hr
          cases h
          rw [decide_eq_true hr]
        · cases h
theorem atR_none {l : List Int} (h : atL l = none) : (atR l).2.2 = false := by
  cases l with
  | nil => rfl
  | cons c t =>
    simp only [atL] at h
    simp only [atR]
    cases hf : firstL c with
    | none => rfl
    | some q =>
      obtain ⟨n0, more⟩ := q
      rw [hf] at h
      simp only at h ⊢
      cases ht : tailsL more n0 t with
      | none => rfl
      | some m =>
        rw [ht] at h
        simp only at h ⊢
        split at h
        · cases h
        · rename_i hr
          exact decide_eq_false hr
theorem firstL_some {c n : Int} {k : Nat} (h0 : 0 ≤ c) (h : firstL c = some (n, k)) : 0 ≤ n ∧ n < 128 ∧ k ≤ 3 ∧ firstR c = (n, (k : Int), true) := by
  have hr : firstR c = (n, (k : Int), true) := by unfold firstR; rw [h]
  refine ⟨?_, ?_, ?_, hr⟩
  all_goals
    unfold firstL at h
    repeat' split at h
    all_goals first | (cases h; omega) | (cases h)
theorem firstL_none {c : Int} (h : firstL c = none) : firstR c = (0, 0, false) := by unfold firstR; rw [h]
/-- One more byte that goes on. -/
theorem tailsL_step {m : Nat} {n : Int} {l : List Int} (h : (tailR l).2 = true) : tailsL (m + 1) n l = tailsL m (64 * n + (tailR l).1) (l.drop 1) ∧ 0 ≤ (tailR l).1 ∧ (tailR l).1 < 64 := by
  cases l with
  | nil => cases h
  | cons c t =>
    unfold tailR at h ⊢
    by_cases hc : 128 ≤ c ∧ c < 192
    · simp only [if_pos hc, tailsL, List.drop_one, List.tail_cons]
      exact ⟨trivial, by omega, by omega⟩
    · simp [if_neg hc] at h
theorem tailsL_stop {m : Nat} {n : Int} {l : List Int} (h : (tailR l).2 = false) : tailsL (m + 1) n l = none := by
  cases l with
  | nil => rfl
  | cons c t =>
    unfold tailR at h
    by_cases hc : 128 ≤ c ∧ c < 192
    · simp [if_pos hc] at h
    · simp only [tailsL, if_neg hc]

set_option maxHeartbeats 1600000 in
theorem at_any (a : Option Addr) (len cap : Nat) (zs : List Int) (i : Nat) (w : World) (hlen : zs.length = len) (hz : Bytes w a zs) (hi : i < len) :
    Calls Tryz.prog 207 #[.slice a len cap, .int .i64 i] w fun e w' => e = .returned (.tuple #[.int .i64 (atR (zs.drop i)).1, .int .i64 (atR (zs.drop i)).2.1, .bool (atR (zs.drop i)).2.2]) ∧ Below w.heap.size w w' := by
  have hil : i < zs.length := by omega
  have hz0 := hz
  obtain ⟨b, off, rfl, hcell⟩ := hz.at (by omega)
  have hc := hcell i hil
  obtain ⟨c0, c1⟩ := hz.get hil
  have hmax := hz.size
  rw [hlen] at hmax
  have HD := hid (drop_at hil)
  generalize zs.getD i 0 = c at *
  have HL := hid hlen
  clear hcell hlen hil hz
  cases hf : firstL c with
  | none =>
    have HR : Hid (atR (zs.drop i) = (0, 0, false)) := by
      show _ = _
      rw [HD.out]; simp only [atR, hf]
    have hfr := hid (firstL_none hf)
    clear hf
    go_enter Tryz.func207, Tryz.ntmps207
    go_wp2_with fail
    refine (first_any c _ c0 c1).mono ?_
    rw [hfr.out]
    rintro e w1 ⟨rfl, rfl⟩
    go_wp2
    exact bodyPost_ret (v := .tuple #[.int .i64 0, .int .i64 0, .bool false]) (by simp [results, Tryz.results207, go_sem]) rfl ⟨by rw [HR.out], Below.refl _ _⟩
  | some q =>
    obtain ⟨n0, more⟩ := q
    obtain ⟨hn0, hn1, hm3, hfr⟩ := firstL_some c0 hf
    have HF := hid hfr
    have HA : Hid (atR (zs.drop i) = match tailsL more n0 (zs.drop (i + 1)) with
      | none => (0, 0, false)
      | some n => (n, (more + 1 : Nat), decide (Rune n ∧ (oneL n).length = more + 1))) := by
      show _ = _
      rw [HD.out]; simp only [atR, hf]
    clear hf hfr
    go_enter Tryz.func207, Tryz.ntmps207
    go_wp2_with fail
    refine (first_any c _ c0 c1).mono ?_
    rw [HF.out]
    rintro e w1 ⟨rfl, rfl⟩
    clear HF
    go_wp2
    go_loopw [7, 10] (fun vn vi wr => ∃ (j : Nat) (acc : Int), vi = .int .i64 (j + 1 : Nat) ∧ vn = .int .i64 acc ∧ j ≤ more ∧ 0 ≤ acc ∧ acc < 128 * 64 ^ j ∧ tailsL more n0 (zs.drop (i + 1)) = tailsL (more - j) acc (zs.drop (i + 1 + j)) ∧ Below w1.heap.size w1 wr)
      (fun _ vi _ => more + 1 - (intOf vi).toNat)
    case atStart => exact ⟨0, n0, rfl, rfl, Nat.zero_le _, hn0, by simpa using hn1, rfl, Below.refl _ _⟩
    case round =>
      obtain ⟨j, acc, rfl, rfl, hj, ha0, ha1, hT, hb⟩ := hrel
      have HT := hid hT
      clear hT
      have ha2 : acc < 33554432 := by
        have h4 : j = 0 ∨ j = 1 ∨ j = 2 ∨ j = 3 := by omega
        rcases h4 with rfl | rfl | rfl | rfl <;> simp at ha1 <;> omega
      have HP := hid ha1
      clear ha1
      by_cases hjm : j < more
      · go_wp2_with fail
        refine (tail_any _ len cap zs _ _ HL.out (hz0.below hb) (by omega)).mono ?_
        have hX : ((i : Int) + ((j : Int) + 1)).toNat = i + 1 + j := by omega
        rw [hX]
        rintro e w2 ⟨rfl, hb2⟩
        have hb' := thenB hb hb2
        obtain ⟨k, hk⟩ : ∃ k, more - j = k + 1 := ⟨more - j - 1, by omega⟩
        cases ht : (tailR (zs.drop (i + 1 + j))).2 with
        | false =>
          have HN : Hid (tailsL more n0 (zs.drop (i + 1)) = none) := by
            show _ = _
            rw [HT.out, hk]; exact tailsL_stop ht
          clear HT hb2 hX hk
          generalize (tailR (zs.drop (i + 1 + j))).1 = t1 at *
          generalize (tailR (zs.drop (i + 1 + j))).2 = t2 at *
          subst ht
          go_wp2
          exact bodyPost_ret (v := .tuple #[.int .i64 0, .int .i64 0, .bool false]) (by simp [results, Tryz.results207, go_sem]) rfl ⟨by rw [HA.out, HN.out], hb'⟩
        | true =>
          obtain ⟨hs1, hs2, hs3⟩ := tailsL_step (m := k) (n := acc) ht
          have HN : Hid (tailsL more n0 (zs.drop (i + 1)) = tailsL (more - (j + 1)) (64 * acc + (tailR (zs.drop (i + 1 + j))).1) (zs.drop (i + 1 + (j + 1)))) := by
            show _ = _
            rw [HT.out, hk, hs1, List.drop_drop]
            exact congr (congr (congrArg tailsL (by omega)) rfl) rfl
          clear HT hb2 hX hk hs1
          generalize (tailR (zs.drop (i + 1 + j))).1 = t1 at *
          generalize (tailR (zs.drop (i + 1 + j))).2 = t2 at *
          subst ht
          have hpw : 64 * acc + t1 < 128 * 64 ^ (j + 1) := by
            have := HP.out
            rw [Int.pow_succ]
            omega
          have HPW := hid hpw
          clear hpw
          go_wp2
          go_roundw
          case rel => exact ⟨j + 1, 64 * acc + t1, by go_num, rfl, by omega, by omega, HPW.out, HN.out, hb'⟩
          case measure => simp [intOf]; omega
      · obtain rfl : j = more := by omega
        have HN : Hid (tailsL j n0 (zs.drop (i + 1)) = some acc) := by
          show _ = _
          rw [HT.out, Nat.sub_self]; rfl
        clear HT
        go_wp2_with fail
        refine (Rune_any acc _).mono ?_
        by_cases hr : Rune acc
        · rw [decide_eq_true hr]
          rintro e w2 ⟨rfl, rfl⟩
          have HR := hid hr
          go_wp2_with fail
          refine (one_any acc _ HR.out).mono ?_
          rintro e w3 ⟨v, rfl, ho, hb3⟩
          obtain ⟨a4, c4, rfl⟩ := ho.slice
          have hb' := thenB hb hb3
          have hol := oneL_length acc
          clear ho hb3 hr
          by_cases hm : (oneL acc).length = j + 1
          · have HO : Hid (atR (zs.drop i) = (acc, (j : Int) + 1, true)) := by
              show _ = _
              rw [HA.out, HN.out]
              simp only [Prod.mk.injEq, true_and, decide_eq_true_eq]
              exact ⟨by omega, HR.out, hm⟩
            generalize (oneL acc).length = m at *
            subst hm
            go_wp2
            exact bodyPost_ret (v := .tuple #[.int .i64 acc, .int .i64 ((j : Int) + 1), .bool true]) (by simp [results, Tryz.results207, go_sem]) rfl ⟨by rw [HO.out], hb'⟩
          · have HO : Hid (atR (zs.drop i) = (acc, (j : Int) + 1, false)) := by
              show _ = _
              rw [HA.out, HN.out]
              simp only [Prod.mk.injEq, true_and, decide_eq_false_iff_not]
              exact ⟨by omega, fun h => hm h.2⟩
            have hm' : ¬ ((oneL acc).length : Int) = (j : Int) + 1 := by omega
            generalize (oneL acc).length = m at *
            go_wp2
            exact bodyPost_ret (v := .tuple #[.int .i64 acc, .int .i64 ((j : Int) + 1), .bool false]) (by simp [results, Tryz.results207, go_sem, hm']) rfl ⟨by rw [HO.out], hb'⟩
        · rw [decide_eq_false hr]
          rintro e w2 ⟨rfl, rfl⟩
          have HO : Hid (atR (zs.drop i) = (acc, (j : Int) + 1, false)) := by
            show _ = _
            rw [HA.out, HN.out]
            simp only [Prod.mk.injEq, true_and, decide_eq_false_iff_not]
            exact ⟨by omega, fun h => hr h.1⟩
          clear hr
          go_wp2
          exact bodyPost_ret (v := .tuple #[.int .i64 acc, .int .i64 ((j : Int) + 1), .bool false]) (by simp [results, Tryz.results207, go_sem]) rfl ⟨by rw [HO.out], hb⟩
end Go.Proofs.YtepbjkkakfpjgaaGreatDoor.Utf

namespace Go.Proofs.YtepbjkkakfpjgaaGreatDoor.Utf
open Go.RowKit

set_option maxHeartbeats 3200000 in
theorem refRunes_any (a : Option Addr) (len cap : Nat) (zs : List Int) (w : World) (hlen : zs.length = len) (hz : Bytes w a zs) (hbig : zs.length ≤ 8796093022208) :
    Calls Tryz.prog 185 #[.slice a len cap] w (GotRunes w zs) := by
  have HL := hid hlen
  have hz1 := hz.alloc (.cells #[.int .i64 0, .int .i64 0] 198)
  have c0 : (w.alloc (.cells #[.int .i64 0, .int .i64 0] 198)).cell? ⟨w.heap.size, 0, none⟩ = some (.int .i64 0) := by go_simp
  have c1 : (w.alloc (.cells #[.int .i64 0, .int .i64 0] 198)).cell? ⟨w.heap.size, 1, none⟩ = some (.int .i64 0) := by go_simp
  have f0 : (w.alloc (.cells #[.int .i64 0, .int .i64 0] 198)).frozen? ⟨w.heap.size, 0, none⟩ = false := by go_simp
  have f1 : (w.alloc (.cells #[.int .i64 0, .int .i64 0] 198)).frozen? ⟨w.heap.size, 1, none⟩ = false := by go_simp
  have hA : Below w.heap.size w (w.alloc (.cells #[.int .i64 0, .int .i64 0] 198)) := (Below.refl _ _).alloc (Nat.le_refl _) _
  have hlt : w.heap.size < (w.alloc (.cells #[.int .i64 0, .int .i64 0] 198)).heap.size := by simp
  rw [hlen] at hbig
  clear hlen hz
  go_enter Tryz.func185, Tryz.ntmps185
  go_wp2
  generalize w.alloc (.cells #[.int .i64 0, .int .i64 0] 198) = wa at *
  go_loopw [4, 5] (fun v vi wr => ∃ (pos : Nat) (acc : List Int), vi = .int .i64 pos ∧ OwnK 3 .i64 wa.heap.size wr v acc ∧ Below wa.heap.size wa wr ∧ wa.heap.size ≤ wr.heap.size ∧ pos ≤ len ∧ acc.length ≤ pos ∧
      scan zs = (acc ++ (scan (zs.drop pos)).1, pos + (scan (zs.drop pos)).2)) (fun _ vi _ => len - (intOf vi).toNat)
  case atStart => exact ⟨0, [], rfl, own_nothing _ _ _ _, Below.refl _ _, Nat.le_refl _, Nat.zero_le _, by simp, by simp⟩
  case round =>
    obtain ⟨pos, acc, rfl, hown, hbw, hsw, hpos, hacc, hsc⟩ := hrel
    have HS := hid hsc
    clear hsc
    obtain ⟨av, cv, rfl⟩ := hown.sliceN rfl
    have hAw := hA.trans (hbw.mono (by omega))
    by_cases hp : pos < len
    · cases ha : atL (zs.drop pos) with
      | none =>
        have HF : Hid (faultL zs = (4, (pos : Int))) := by
          have h := congrArg Prod.snd HS.out
          rw [scan_none ha] at h
          simp only [Nat.add_zero] at h
          show _ = _
          unfold faultL
          rw [h, if_neg (by have := HL.out; omega)]
        have HR : Hid (runesL zs = []) := by
          have h := congrArg Prod.snd HS.out
          rw [scan_none ha] at h
          simp only [Nat.add_zero] at h
          show _ = _
          unfold runesL
          rw [h, if_neg (by have := HL.out; omega)]
        have hr := hid (atR_none ha)
        clear ha HS
        go_wp2_with fail
        refine (at_any a len cap zs pos _ HL.out (hz1.below hbw) hp).mono ?_
        generalize atR (zs.drop pos) = r at *
        obtain ⟨r1, r2, r3⟩ := r
        obtain rfl : r3 = false := hr.out
        rintro e w2 ⟨rfl, hb2⟩
        have c0 := keep hb2 ((hbw.cell (p := ⟨w.heap.size, 0, none⟩) hlt).trans c0)
        have c1 := keep hb2 ((hbw.cell (p := ⟨w.heap.size, 1, none⟩) hlt).trans c1)
        have f0 := (hb2.frozen (p := ⟨w.heap.size, 0, none⟩) (by show w.heap.size < _; omega)).trans ((hbw.frozen (p := ⟨w.heap.size, 0, none⟩) hlt).trans f0)
        have f1 := (hb2.frozen (p := ⟨w.heap.size, 1, none⟩) (by show w.heap.size < _; omega)).trans ((hbw.frozen (p := ⟨w.heap.size, 1, none⟩) hlt).trans f1)
        have hA2 := thenB hAw hb2
        clear hA hAw hbw hb2 hown hz1
        go_wp2
        refine bodyPost_ret (v := .tuple #[.slice none 0 0, .agg #[.int .i64 4, .int .i64 pos]]) (by simp [results, Tryz.results185, go_sem, c0, c1]) rfl ⟨_, by rw [HF.out], ?_, ?_⟩
        · rw [HR.out]; exact own_nothing _ _ _ _
        · exact (hA2.setCell (Nat.le_refl _) _).setCell (Nat.le_refl _) _
      | some q =>
        obtain ⟨n, k⟩ := q
        obtain ⟨hn, _, _, hk1, hk4, hkl⟩ := atL_some ha
        have HF : Hid (scan zs = ((acc ++ [n]) ++ (scan (zs.drop (pos + k))).1, (pos + k) + (scan (zs.drop (pos + k))).2)) := by
          have h := HS.out
          rw [scan_some ha, List.drop_drop] at h
          show _ = _
          rw [h]
          simp [Nat.add_assoc]
        have hlk : pos + k ≤ len := by simp at hkl; have := HL.out; omega
        have HLL : Hid ((acc ++ [n]).length ≤ pos + k) := by show _ ≤ _; simp; omega
        have hr := hid (atR_some ha)
        obtain ⟨h0, h1, _⟩ := hn
        clear ha HS hkl
        go_wp2_with fail
        refine (at_any a len cap zs pos _ HL.out (hz1.below hbw) hp).mono ?_
        rw [hr.out]
        rintro e w2 ⟨rfl, hb2⟩
        have hown2 := hown.below hb2
        have hbw2 := hbw.trans (hb2.mono hsw)
        have hsw2 : wa.heap.size ≤ w2.heap.size := by have := hb2.size; omega
        clear hr hAw hbw hb2 hown
        go_wp2_with (first | (at_builtin; refine append_num infoInt Tryz.underlying131 rfl (.tmp 24) (.tmp 26) rfl n rfl hown2 hbw2 hsw2 rfl (by omega) (by omega) ?_; intro v' w5 hown5 hb5 hs5 _))
        go_roundw
        case rel => exact ⟨pos + k, acc ++ [n], by go_num, hown5, hb5, hs5, hlk, HLL.out, HF.out⟩
        case measure => simp [intOf]; omega
    · have HF : Hid (faultL zs = (0, 0)) := by
        have h := congrArg Prod.snd HS.out
        rw [List.drop_eq_nil_of_le (by have := HL.out; omega), scan_nil] at h
        simp only [Nat.add_zero] at h
        show _ = _
        unfold faultL
        rw [h, if_pos (by have := HL.out; omega)]
      have HR : Hid (runesL zs = acc) := by
        have h := HS.out
        rw [List.drop_eq_nil_of_le (by have := HL.out; omega), scan_nil] at h
        simp only [Nat.add_zero, List.append_nil] at h
        show _ = _
        unfold runesL
        rw [h, if_pos (by have := HL.out; omega)]
      have c0 := (hbw.cell (p := ⟨w.heap.size, 0, none⟩) hlt).trans c0
      have c1 := (hbw.cell (p := ⟨w.heap.size, 1, none⟩) hlt).trans c1
      have f0 := (hbw.frozen (p := ⟨w.heap.size, 0, none⟩) hlt).trans f0
      have f1 := (hbw.frozen (p := ⟨w.heap.size, 1, none⟩) hlt).trans f1
      clear hA hbw hz1 HS
      go_wp2
      refine bodyPost_ret (v := .tuple #[.slice av acc.length cv, .agg #[.int .i64 0, .int .i64 0]]) (by simp [results, Tryz.results185, go_sem, c0, c1]) rfl ⟨_, by rw [HF.out], ?_, ?_⟩
      · rw [HR.out]
        exact ((hown.setCell (p := ⟨w.heap.size, 0, none⟩) hlt _).setCell (p := ⟨w.heap.size, 1, none⟩) hlt _).mono (by omega)
      · exact (hAw.setCell (Nat.le_refl _) _).setCell (Nat.le_refl _) _
end Go.Proofs.YtepbjkkakfpjgaaGreatDoor.Utf

namespace Go.Proofs.YtepbjkkakfpjgaaGreatDoor.Utf
open Go.RowKit

theorem badL_fault (zs : List Int) : badL zs = if (faultL zs).1 ≠ 0 then (faultL zs).2 else -1 := by
  unfold badL faultL
  by_cases h : (scan zs).2 = zs.length
  · simp [h]
  · simp [h]

set_option maxHeartbeats 800000 in
theorem refBad_any (a : Option Addr) (len cap : Nat) (zs : List Int) (w : World) (hlen : zs.length = len) (hz : Bytes w a zs) (hbig : zs.length ≤ 8796093022208) :
    Calls Tryz.prog 134 #[.slice a len cap] w fun e w' => e = .returned (.int .i64 (badL zs)) ∧ Below w.heap.size w w' := by
  have HB := hid (badL_fault zs)
  have HL := hid hlen
  clear hlen
  go_enter Tryz.func134, Tryz.ntmps134
  go_wp2_with fail
  refine (refRunes_any a len cap zs _ HL.out hz hbig).mono ?_
  rintro e w1 ⟨v, rfl, _, hb⟩
  generalize faultL zs = r at *
  obtain ⟨r1, r2⟩ := r
  clear hz hbig
  by_cases h : r1 = 0
  · subst h
    go_wp2
    go_ret
    exact ⟨ret_int (by rw [HB.out]; simp), thenA hb _⟩
  · go_wp2
    go_ret
    exact ⟨ret_int (by rw [HB.out]; simp [h]), thenA hb _⟩

end Go.Proofs.YtepbjkkakfpjgaaGreatDoor.Utf

namespace Go.Proofs.YtepbjkkakfpjgaaGreatDoor.Utf
open Go.RowKit Go.Proofs.YtepbjkkakfpjgaaGreatDoor.Leb

set_option maxRecDepth 100000 in
set_option maxHeartbeats 1600000 in
theorem refPut_good (zs : List Int) (hz : ∀ z ∈ zs, 0 ≤ z ∧ z < 256) (w : World) (hlong : zs.length ≤ 1048576) (hgood : (scan zs).2 = zs.length) :
    Calls Tryz.prog 177 #[.string (strOfNums zs)] w fun e w' => ∃ v, e = .returned (.tuple #[v, .int .i64 0]) ∧ Own w.heap.size w' v (encU zs.length ++ zs) ∧ Below w.heap.size w w' := by
  have hs : (strOfNums zs).size = zs.length := strOfNums_size zs
  obtain ⟨b, c, w1, hcv, hB, hb1⟩ := bytes_of zs hz (by omega) w
  have HL := hid (badL_none hgood)
  have hw : wrap64 (zs.length : Int) = zs.length := by unfold wrap64; omega
  have HZ := hid hz
  have hsu := sizeU_pos zs.length
  have HS := hid (fun W => bytes_of zs hz (by omega) W)
  clear hz hgood
  generalize strOfNums zs = s at *
  go_enter Tryz.func177, Tryz.ntmps177
  go_wp2_with fail
  refine (refBad_any _ zs.length c zs _ rfl hB (by omega)).mono ?_
  rw [HL.out]
  rintro e w2 ⟨rfl, hb2⟩
  have hA := thenB hb1 hb2
  clear hcv hB hb1 hb2 HL
  go_wp2_with fail
  refine (refU_any zs.length _ (by omega) (by omega)).mono ?_
  rintro e w3 ⟨v, rfl, ho, hb3⟩
  obtain ⟨a3, c3, rfl⟩ := ho.sliceN (encU_length zs.length)
  obtain ⟨b4, c4, w4, hcv4, hB4, hb4⟩ := HS.out w3
  have ho4 := ho.below hb4
  have hb34 := thenB hb3 hb4
  have hs34 := hb34.size
  clear HS ho hb3 hb4
  go_wp2_with (first | (at_builtin; refine append_bytes rfl (.tmp 14) (.tmp 16) rfl rfl ho4 hb34 hs34 _ _ _ rfl (fun h => by cases h) rfl hB4 (by rw [encU_length]; omega) ?_; intro v' w5 ho5 hb5 hs5))
  exact bodyPost_ret (v := .tuple #[v', .int .i64 0]) (by simp [results, Tryz.results177, go_sem]) rfl ⟨v', rfl, ho5.mono (by have := hA.size; omega), thenB hA hb5⟩
end Go.Proofs.YtepbjkkakfpjgaaGreatDoor.Utf

namespace Go.Proofs.YtepbjkkakfpjgaaGreatDoor.Enc
open Go.RowKit Go.Proofs.YtepbjkkakfpjgaaGreatDoor.Leb Go.Proofs.YtepbjkkakfpjgaaGreatDoor.Instr Go.Proofs.YtepbjkkakfpjgaaGreatDoor.Mod
open Go.Proofs.YtepbjkkakfpjgaaGreatDoor.Body (encL codeL PutP)
set_option linter.unusedVariables false

/-- Bytes, in memory. -/
def Tl (w : World) (ys : List Int) (e : Ending) (w' : World) : Prop := ∃ a n c, e = .returned (.slice a n c) ∧ ys.length = n ∧ Bytes w' a ys ∧ (a = none → c = 0) ∧ Below w.heap.size w w'
/-- Bytes, and no error. -/
def TlT (w : World) (ys : List Int) (e : Ending) (w' : World) : Prop := ∃ a n c, e = .returned (.tuple #[.slice a n c, .int .i64 0]) ∧ ys.length = n ∧ Bytes w' a ys ∧ (a = none → c = 0) ∧ Below w.heap.size w w'
theorem tl_own {w w' : World} {ys : List Int} {e : Ending} (hz : ∀ z ∈ ys, 0 ≤ z ∧ z < 256) (hl : ys.length ≤ 140737488351232) (h : Gives w ys e w') : Tl w ys e w' := by
  obtain ⟨v, rfl, ho, hb⟩ := h
  obtain ⟨a, c, rfl⟩ := ho.slice
  exact ⟨a, _, c, rfl, rfl, ho.bytes hz hl, ho.nil.out, hb⟩
theorem u32_all (n : Int) (h0 : 0 ≤ n) (h1 : n < 4294967296) : IntKind.u32.wrap n = n := by rw [IntKind.wrap_u32]; omega
theorem encU_few (n : Int) : (encU n).length ≤ 5 := by rw [encU_length]; exact (sizeU_pos n).2
theorem u8_gives (n : Int) (w : World) (h0 : 0 ≤ n) (h1 : n < 4294967296) : Calls Tryz.prog 40 #[.int .i64 n] w (Gives w (encU n)) := by
  have hw := u32_all n h0 h1
  have C := hid (refU_any n w h0 h1)
  clear h0 h1
  go_enter Tryz.func40, Tryz.ntmps40
  go_wp2_with fail
  refine C.out.mono ?_
  rintro e w1 ⟨v, rfl, ho, hb⟩
  go_wp2
  go_ret
  exact ⟨v, rfl, ho, hb⟩
theorem u8_tl (n : Int) (w : World) (h0 : 0 ≤ n) (h1 : n < 4294967296) : Calls Tryz.prog 40 #[.int .i64 n] w (Tl w (encU n)) :=
  (u8_gives n w h0 h1).mono fun e w' h => tl_own (encU_bytes n) (by have := encU_few n; omega) h
theorem U8_tl (n : Int) (w : World) (h0 : 0 ≤ n) (h1 : n < 4294967296) : Calls Tryz.prog 113 #[.int .u32 n] w (Tl w (encU n)) :=
  (refU_any n w h0 h1).mono fun e w' h => tl_own (encU_bytes n) (by have := encU_few n; omega) h
theorem name8_tl (s : ByteArray) (w : World) (hs : s.size ≤ 1048576) (ht : noText s = false) : Calls Tryz.prog 115 #[.string s] w (Tl w (nameB s)) := by
  have hb : (Utf.scan (numsOf s)).2 = (numsOf s).length := (Utf.badL_neg _).1 (by
    unfold noText at ht
    have := of_decide_eq_false ht
    omega)
  have C := hid (Utf.refPut_good (numsOf s) (numsOf_bytes s) w (by rw [numsOf_length]; exact hs) hb)
  rw [str_numsOf, numsOf_length] at C
  have hl := nameB_len s
  have HZ := hid (fun W' v (ho : Own w.heap.size W' v (encU s.size ++ numsOf s)) hb => tl_own (w := w) (ys := nameB s) (nameB_bytes s) (by omega) ⟨v, rfl, ho, hb⟩)
  clear hb hl hs ht
  go_enter Tryz.func115, Tryz.ntmps115
  go_wp2_with fail
  refine C.out.mono ?_
  rintro e w1 ⟨v, rfl, ho, hb⟩
  go_wp2
  go_ret
  exact HZ.out _ _ ho hb
theorem code8_tl (l : Lst) (w : World) (hL : ListAt w.heap.size w l.a l.t.len l.t) (hl : l.t.len ≤ 140737488351232) (hc : l.t.count ≤ 1000000) (hx : (encL l.t).length ≤ 90000) (h : checkP l.t = 0) :
    Calls Tryz.prog 117 #[.slice l.a l.t.len l.c] w (Tl w (insB l)) := by
  have e : Go.Proofs.YtepbjkkakfpjgaaGreatDoor.Body.putB l.t = insB l := by unfold Go.Proofs.YtepbjkkakfpjgaaGreatDoor.Body.putB insB; rw [if_pos h]
  have C := hid (Go.Proofs.YtepbjkkakfpjgaaGreatDoor.Body.Put06_any l.t l.a l.t.len l.c w hL hl (by omega) hx)
  rw [e, h] at C
  have hle : (insB l).length ≤ 140737488351232 := by
    show (encL l.t ++ [11]).length ≤ _
    simp; omega
  have HZ := hid (fun W' v (ho : Own w.heap.size W' v (insB l)) hb => tl_own (w := w) (ys := insB l) (insB_bytes hL h) hle ⟨v, rfl, ho, hb⟩)
  obtain ⟨n, hn⟩ : ∃ n, l.t.len = n := ⟨_, rfl⟩
  rw [hn] at C ⊢
  obtain ⟨a, c, t⟩ := l
  clear hL hl hc hx h e hle hn
  dsimp only at C ⊢
  go_enter Tryz.func117, Tryz.ntmps117
  go_wp2_with fail
  refine C.out.mono ?_
  rintro e w1 ⟨v, rfl, ho, hb⟩
  go_wp2
  go_ret
  exact HZ.out _ _ ho hb
theorem type8_tl (x : Int × Int) (h : Kind.okType x.1 x.2 = true) (w : World) : Calls Tryz.prog 114 #[.agg #[.int .i64 x.1, .int .i64 x.2]] w (TlT w (tyB x)) := by
  have e1 : Kind.putZ x.1 x.2 = tyB x := by unfold Kind.putZ tyB; rw [if_pos h]
  have e2 : Kind.codeType x.1 x.2 = 0 := by unfold Kind.codeType; rw [if_pos h]
  have := Kind.refPut_any x.1 x.2 _ rfl w
  rw [e1, e2] at this
  exact this.mono fun e w' ⟨a, q, he, hb, hz, hB⟩ => ⟨a, _, q, he, rfl, hb, hz.out, hB⟩
theorem lim8_tl (l : Li) (most : Int) (h : Kind.okLim l.n l.x l.c most = true) (h0 : 0 ≤ l.n ∧ l.n ≤ 4294967295) (h1 : 0 ≤ l.x ∧ l.x ≤ 4294967295) (w : World) :
    Calls Tryz.prog 116 #[.agg #[.int .u32 l.n, .int .u32 l.x, .bool l.c], .int .u32 most] w (TlT w (meB l)) := by
  have e1 : Kind.limZ l.n l.x l.c most = meB l := by unfold Kind.limZ meB; rw [if_pos h]
  have e2 : Kind.codeLim l.n l.x l.c most = 0 := by unfold Kind.codeLim; rw [if_pos h]
  have := Kind.refPutLim_any l.n l.x l.c most _ rfl h0 h1 w
  rw [e1, e2] at this
  exact this.mono fun e w' ⟨a, q, he, hb, hz, hB⟩ => ⟨a, _, q, he, rfl, hb, hz.out, hB⟩
/-- The same of a function's code, in new memory. -/
theorem fcode8_new (f : Mod.Fn) (w : World) (hL : ListAt w.heap.size w f.l.a f.l.t.len f.l.t) (hl : f.l.t.len ≤ 140737488351232) (hc : f.l.t.count ≤ 1000000) (hx : (encL f.l.t).length ≤ 90000) (h : checkP f.l.t = 0) (h0 : 0 ≤ f.lo) (h1 : f.lo ≤ 50000) :
    Calls Tryz.prog 118 #[.agg #[.int .i64 f.lo, .slice f.l.a f.l.t.len f.l.c]] w (fun e w' => ∃ a n c, e = .returned (.tuple #[.slice a n c, .int .i64 0]) ∧ (codeL f.lo f.l.t).length = n ∧ Bytes w' a (codeL f.lo f.l.t) ∧ (∀ b off, a = some ⟨b, off, none⟩ → w.heap.size ≤ b) ∧ Below w.heap.size w w') := by
  have := Go.Proofs.YtepbjkkakfpjgaaGreatDoor.Body.PutCode06_any f.lo f.l.t f.l.a f.l.t.len f.l.c w hL hl (by omega) hx
  have e0 : Go.Proofs.YtepbjkkakfpjgaaGreatDoor.Body.checkC f.lo f.l.t = 0 := by unfold Go.Proofs.YtepbjkkakfpjgaaGreatDoor.Body.checkC; rw [if_neg (by omega)]; exact h
  have e : Go.Proofs.YtepbjkkakfpjgaaGreatDoor.Body.putC f.lo f.l.t = codeL f.lo f.l.t := by unfold Go.Proofs.YtepbjkkakfpjgaaGreatDoor.Body.putC; rw [if_pos e0]
  rw [e, e0] at this
  refine this.mono fun e w' h' => ?_
  obtain ⟨v, rfl, ho, hb⟩ := h'
  obtain ⟨a, c, rfl⟩ := ho.slice
  refine ⟨a, _, c, rfl, rfl, ho.bytes (fun z hz => ?_) ?_, fun b off ha => ?_, hb⟩
  · rcases List.mem_append.1 hz with hz | hz
    · exact Go.Proofs.YtepbjkkakfpjgaaGreatDoor.Body.loc_bytes f.lo z hz
    · exact Go.Proofs.YtepbjkkakfpjgaaGreatDoor.Body.encP_bytesC (Go.Proofs.YtepbjkkakfpjgaaGreatDoor.Body.mayT_list hL h) z hz
  · have := (Go.Proofs.YtepbjkkakfpjgaaGreatDoor.Body.loc_len f.lo).1
    unfold codeL
    rw [List.length_append]
    show _ + (encL f.l.t ++ [11]).length ≤ _
    simp; omega
  · subst ha
    exact (World.ownsRow.lt ho b rfl).1
/-- A list of bytes under way. -/
structure Acc (W0 : World) (v : Value) (xs : List Int) (W : World) : Prop where
  own : Own W0.heap.size W v xs
  bel : Below W0.heap.size W0 W
  base : W0.heap.size ≤ W.heap.size
theorem Acc.call {W0 W W' : World} {v : Value} {xs : List Int} (h : Acc W0 v xs W) (hb : Below W.heap.size W W') : Acc W0 v xs W' := ⟨h.own.below hb, h.bel.trans (hb.mono h.base), Nat.le_trans h.base hb.size⟩
theorem Acc.start (W0 : World) : Acc W0 (.slice none 0 0) [] W0 := ⟨World.ownsRow_nil _ _ _ _, Below.refl _ _, Nat.le_refl _⟩
theorem Acc.of {W0 W : World} {xs : List Int} {e : Ending} (h : Gives W0 xs e W) : ∃ v, e = .returned v ∧ Acc W0 v xs W := by
  obtain ⟨v, he, ho, hb⟩ := h
  exact ⟨v, he, ho, hb, hb.size⟩
theorem Acc.gives {w W0 W : World} {v : Value} {xs ys : List Int} (hb : Below w.heap.size w W0) (h : Acc W0 v xs W) (e : xs = ys) : Gives w ys (.returned v) W := by
  subst e
  exact ⟨v, rfl, h.own.mono hb.size, hb.trans (h.bel.mono hb.size)⟩
theorem lit_two (W : World) (x y : Int) (hx : 0 ≤ x ∧ x < 256) (hy : 0 ≤ y ∧ y < 256) (t : TypeId) : Bytes (W.alloc (.cells #[.int .u8 x, .int .u8 y] t)) (some ⟨W.heap.size, 0, none⟩) [x, y] := by
  refine ⟨fun z hz => ?_, by simp, .inr ⟨W.heap.size, 0, rfl, fun i hi => ?_⟩⟩
  · simp only [List.mem_cons, List.not_mem_nil, or_false] at hz
    rcases hz with rfl | rfl <;> assumption
  · have hi2 : i < 2 := by simpa using hi
    match i, hi2 with
    | 0, _ => simp [go_sem]
    | 1, _ => simp [go_sem]
section
variable {ops : Array Oper} {rest : List Oper} {o : Oper} {act : Act} {Q : Exit → Act → World → Prop}
theorem none_run (w : World) (base : Nat) (t ty e : TypeId) (i : TypeInfo) (size c : Nat) (ht : Tryz.prog.underlying t = some (.slice e)) (hi : Tryz.prog.info? e = some i)
    (v : Value) (n : Nat) (xs : List Value) (hown : w.ownsRow base e size v n xs) : (Builtin.append_ #[t, t] ty #[v, .slice none 0 c]).run Tryz.prog w = .ok v w := by
  rcases hown.2 with ⟨rfl, rfl⟩ | ⟨g, cap, cur, rfl, _, _, hnc, _⟩
  · simp [Builtin.append_, run_underlying ht, sizeOf, typeInfo, hi, Builtin.lenOf, Builtin.firstCells]
  · simp [Builtin.append_, run_underlying ht, sizeOf, typeInfo, hi, Builtin.lenOf, Builtin.firstCells, hnc, storeCells]
theorem none_append (hgd : o.guard = none) (s x : Operand) (t : TypeId) (ho : o.op = .call { callee := .builtin .append, args := #[s, x], argTypes := #[t, t] })
    {w : World} (base : Nat) (e : TypeId) (i : TypeInfo) (size c : Nat) (ht : Tryz.prog.underlying t = some (.slice e)) (hi : Tryz.prog.info? e = some i)
    (v : Value) (n : Nat) (xs : List Value) (hs : act.eval s = v) (hown : w.ownsRow base e size v n xs) (hx : act.eval x = .slice none 0 c)
    (h : wpList Tryz.prog ops Q rest (act.put o.dst v) w) : wpList Tryz.prog ops Q (o :: rest) act w := by
  refine wpList_plain hgd fun K hK => ?_
  have hrun := none_run w base t o.type e i size c ht hi v n xs hown
  unfold Oper.wp
  simp [execOp, ho, resolve, invoke, builtin, hs, hx, hrun, Result.andThen]
  exact hK _ _ h
/-- The same, and what is touched. -/
theorem append_tch (hgd : o.guard = none) (s x : Operand) (ho : o.op = .call { callee := .builtin .append, args := #[s, x], argTypes := #[35, 35] })
    {W0 wr : World} {v : Value} {xs ys : List Int} (hs : act.eval s = v) (hA : Acc W0 v xs wr)
    (a2 : Option Addr) (n c : Nat) (hx : act.eval x = .slice a2 n c) (hn : ys.length = n) (hy : Bytes wr a2 ys) (hl : xs.length + ys.length ≤ 140737488355328)
    (h : ∀ v' w', Acc W0 v' (xs ++ ys) w' → Touch (fun j => v.ownBlock = some j) wr w' → wpList Tryz.prog ops Q rest (act.put o.dst v') w') :
    wpList Tryz.prog ops Q (o :: rest) act wr := by
  obtain ⟨i0, hi, hz0, hz1, hz2⟩ := info_parts infoByte
  subst hn
  have fin : ∀ v' w', w'.ownsRow W0.heap.size 5 1 v' (xs.length + ys.length) (xs.map (Value.int .u8) ++ ys.map (Value.int .u8)) → wr.grownBy w' v.ownBlock → wpList Tryz.prog ops Q rest (act.put o.dst v') w' := by
    intro v' w' hown' hgrow
    refine h v' w' ⟨?_, hA.bel.grown hgrow hA.base (fun k hk => (World.ownsRow.lt hA.own k hk).1), ?_⟩ (Touch.of_grown hgrow)
    · unfold Own; rw [List.length_append, List.map_append]; exact hown'
    · have := hgrow.size; have := hA.base; omega
  rcases hy.at_ with h0 | ⟨b, off, rfl, hc⟩
  · subst h0
    cases a2 with
    | none => exact none_append hgd s x 35 ho W0.heap.size 5 i0 1 c Tryz.underlying35 hi v xs.length _ hs hA.own hx (h v wr (by rw [List.append_nil]; exact hA) (Touch.refl _ _))
    | some ad =>
      refine wpList_append_own _ hgd s x 35 ho W0.heap.size 5 i0 (.int .u8 0) 1 1 Tryz.underlying35 hi hz0 hz1 hz2 rfl (by decide) v xs.length _ hs hA.own ad 0 c [] hx rfl
        (by simp) (by simp) ?_ ?_ hA.base (fun v' w' hown' hgrow _ => fin v' w' (by simpa using hown') hgrow)
      · unfold maxLen; simp at hl; omega
      · simp at hl; omega
  · refine wpList_append_own _ hgd s x 35 ho W0.heap.size 5 i0 (.int .u8 0) 1 1 Tryz.underlying35 hi hz0 hz1 hz2 rfl (by decide) v xs.length _ hs hA.own ⟨b, off, none⟩ ys.length c (ys.map (Value.int .u8)) hx (by simp)
      ?_ ?_ ?_ ?_ hA.base (fun v' w' hown' hgrow _ => fin v' w' hown' hgrow)
    · intro j u hj
      have hjl : j < ys.length := by
        rcases Nat.lt_or_ge j ys.length with h | h
        · exact h
        · rw [List.getElem?_eq_none (by simpa using h)] at hj; cases hj
      have hplain : (⟨b, off, none⟩ : Addr).add j = ⟨b, off + j, none⟩ := by unfold Addr.add; split <;> simp_all
      rw [hplain, hc j hjl]
      rw [← hj, getD_lt hjl]; simp [hjl]
    · intro u hu
      obtain ⟨n, _, rfl⟩ := List.mem_map.1 hu
      rfl
    · unfold maxLen; omega
    · omega
/-- Bytes that lie somewhere are appended, wherever an empty list of them may point. -/
theorem append_lie (hgd : o.guard = none) (s x : Operand) (ho : o.op = .call { callee := .builtin .append, args := #[s, x], argTypes := #[35, 35] })
    {W0 W : World} {v : Value} {xs ys : List Int} (hs : act.eval s = v) (h : Acc W0 v xs W) (a2 : Option Addr) (n c : Nat) (hx : act.eval x = .slice a2 n c) (hn : ys.length = n) (hy : Bytes W a2 ys) (hl : xs.length + ys.length ≤ 140737488355328)
    (hk : ∀ v' w', Acc W0 v' (xs ++ ys) w' → wpList Tryz.prog ops Q rest (act.put o.dst v') w') : wpList Tryz.prog ops Q (o :: rest) act W := by
  obtain ⟨i0, hi, _, _, _⟩ := info_parts infoByte
  cases a2 with
  | none =>
    have h0 : ys = [] := by
      rcases hy.at_ with h0 | ⟨b, off, hb, _⟩
      · exact h0
      · cases hb
    subst h0
    subst hn
    exact none_append hgd s x 35 ho W0.heap.size 5 i0 1 c Tryz.underlying35 hi v xs.length _ hs h.own hx (hk v W (by rw [List.append_nil]; exact h))
  | some ad => exact append_bytes hgd s x ho hs h.own h.bel h.base (some ad) n c hx (fun k => by cases k) hn hy hl (fun v' w' h1 h2 h3 => hk v' w' ⟨h1, h2, h3⟩)
end
end Go.Proofs.YtepbjkkakfpjgaaGreatDoor.Enc

namespace Go.Proofs.YtepbjkkakfpjgaaGreatDoor.Enc
open Go.RowKit Go.Proofs.YtepbjkkakfpjgaaGreatDoor.Leb Go.Proofs.YtepbjkkakfpjgaaGreatDoor.Instr Go.Proofs.YtepbjkkakfpjgaaGreatDoor.Mod
open Go.Proofs.YtepbjkkakfpjgaaGreatDoor.Body (encL codeL PutP)
set_option linter.unusedVariables false
set_option linter.unusedSimpArgs false

theorem flat_take {α : Type} (f : α → List Int) : ∀ (l : List α) (k : Nat), ((l.take k).flatMap f).length ≤ (l.flatMap f).length
  | [], k => by simp
  | x :: r, 0 => by simp
  | x :: r, k + 1 => by
    have := flat_take f r k
    rw [List.take_succ_cons, List.flatMap_cons, List.flatMap_cons, List.length_append, List.length_append]
    omega
theorem flat_item {α : Type} (f : α → List Int) {l : List α} {k : Nat} (hk : k < l.length) : (f l[k]).length ≤ (l.flatMap f).length := by
  have h1 := flat_take f l (k + 1)
  rw [flat_step f hk, List.length_append] at h1
  omega
theorem tags_some {n₀ : Nat} {w : World} {a : Option Addr} {zs : List Int} (h : TagsAt n₀ w a zs) {i : Nat} (hi : i < zs.length) : ∃ b off, a = some ⟨b, off, none⟩ ∧ b < n₀ ∧ ∀ j, j < zs.length → w.cell? ⟨b, off + j, none⟩ = some (.int .u32 (zs.getD j 0)) := by
  rcases h with h | h
  · subst h; simp at hi
  · exact h
theorem code_facts {w : World} {m : Md} (FI : Fine w m) {l : Lst} (hl : l ∈ m.codes) : ListAt w.heap.size w l.a l.t.len l.t ∧ l.t.len ≤ 140737488351232 ∧ l.t.count ≤ 1000000 ∧ (encL l.t).length ≤ 90000 ∧ checkP l.t = 0 :=
  ⟨FI.at_.ls l hl, FI.few.fit.ls l hl, FI.few.cs l hl, FI.enc l hl, (facts_of FI.chk).ck l hl⟩
set_option maxRecDepth 100000 in
set_option maxHeartbeats 8000000 in
theorem ref_sec1 (m : Md) (w : World) (FI : Fine w m) (hf : FitP tyB m.ty 0) : Calls Tryz.prog 41 #[.agg m.v, .int .i64 1] w (Gives w (encU m.ty.length ++ m.ty.flatMap tyB)) := by
  have FX := facts_of FI.chk
  have HB := hid ((Below.refl w.heap.size w).alloc (Nat.le_refl _) (.cells m.v 32))
  have X0 := BoxAt.made w m.v 32
  have HR := hid ((FI.at_.on HB.out).ty)
  have HFIT := hid hf
  have FS := hid FI
  have FXH := hid FX
  obtain ⟨n, hn⟩ : ∃ n, m.ty.length = n := ⟨_, rfl⟩
  have HN := hid hn
  have hn5 : n ≤ 16384 := by have := FX.lens; omega
  have h0 : 0 ≤ (n : Int) := by omega
  have h1 : (n : Int) < 4294967296 := by omega
  unfold Md.v at HB X0 HR ⊢
  rw [hn] at HB X0 HR ⊢
  clear FX hn hf FI
  have xm := X0 0 _ rfl
  have HXX := hid X0
  clear X0
  go_enter Tryz.func41, Tryz.ntmps41
  go_wp2_with fail
  generalize w.alloc (.cells #[.slice m.ty'.a n m.ty'.c, .slice m.im'.a m.im.length m.im'.c, .slice m.fu'.a m.fu.length m.fu'.c, .slice m.tb'.a m.tb.length m.tb'.c, .slice m.me'.a m.me.length m.me'.c, .slice m.gl'.a m.gl.length m.gl'.c, .slice m.ex'.a m.ex.length m.ex'.c, .bool m.st, .int .u32 m.sn, .slice m.el'.a m.el.length m.el'.c, .slice m.da'.a m.da.length m.da'.c] 32) = W0 at HB HR HXX xm ⊢
  refine (u8_gives (n : Int) _ h0 h1).mono ?_
  rintro e0 u0 h
  obtain ⟨a0, n0, c0, rfl, hn0, hy0, hz0, hb0⟩ := tl_own (encU_bytes _) (by have := encU_few (n : Int); omega) h
  have AS := hid ((Acc.start W0).call hb0)
  have HY := hid hy0
  have HN0 := hid hn0
  have HZ0 := hid hz0
  have HE0 := hid (encU_few (n : Int))
  clear h hn0 hy0 hz0 hb0 xm
  go_wp2_with (first | (at_builtin; go_loud (refine append_bytes rfl (.tmp 36) (.tmp 40) rfl rfl AS.out.own AS.out.bel AS.out.base a0 n0 c0 rfl HZ0.out HN0.out HY.out (by have := HE0.out; simp; omega) ?_); intro v0 z0 ho hb hs; refine Hid.out ?_))
  refine hid ?_
  have A0 := hid (Acc.mk ho hb hs)
  rw [List.nil_append] at A0
  clear ho hb hs AS HY HN0 HZ0 HE0
  have KM := hid (fun (X : World) (h : Below W0.heap.size W0 X) => (h.cell (p := ⟨w.heap.size, 0, none⟩) (by have := World.block_lt_of_cell? _ _ (HXX.out 0 _ rfl); simpa using this)).trans (HXX.out 0 _ rfl))
  have xm := KM.out _ A0.out.bel
  go_wp2
  clear xm
  go_loopw [5, 6, 7, 8] (fun vo vi y7 y8 wr => ∃ k : Nat, vi = .int .i64 k ∧ k ≤ n ∧ Hid (Acc W0 vo (encU (n : Int) ++ (m.ty.take k).flatMap tyB) wr)) (fun _ vi _ _ _ => n - (intOf vi).toNat)
  case atStart => exact ⟨0, rfl, Nat.zero_le _, by simpa using A0⟩
  case round =>
    clear A0
    obtain ⟨k, rfl, hk, A0⟩ := hrel
    by_cases hlt : k < n
    · have hkl : k < m.ty.length := by rw [HN.out]; exact hlt
      have hki : (k : Int) < (n : Int) := by omega
      obtain ⟨b, off, ha, hb, hc⟩ := Rows.get HR.out hkl
      have FI := FS.out
      have FX := FXH.out
      have HX := hid (FX.ty _ (List.getElem_mem hkl))
      have HT := hid (flat_step tyB hkl)
      have LK := hid (show (encU (n : Int) ++ (m.ty.take k).flatMap tyB).length ≤ 1000000000 by have h2 := HFIT.out; unfold FitP at h2; have h3 := flat_take tyB m.ty k; rw [HN.out] at h2; rw [List.length_append] at h2 ⊢; omega)
      have LXX := hid (show (tyB m.ty[k]).length ≤ 1000000000 by have h2 := HFIT.out; unfold FitP at h2; have h3 := flat_item tyB hkl; rw [List.length_append] at h2; omega)
      clear FI FX
      obtain ⟨x, hxe⟩ : ∃ x, m.ty[k] = x := ⟨_, rfl⟩
      rw [hxe] at hc HT LXX HX
      obtain ⟨x0, x1⟩ := x
      skip
      have r0 : W0.cell? ⟨b, off + k * 2, none⟩ = some (.int .i64 x0) := hc 0 (by omega) _ rfl
      have r1 : W0.cell? ⟨b, off + k * 2 + 1, none⟩ = some (.int .i64 x1) := hc 1 (by omega) _ rfl
      have K0 := hid (fun (X : World) (h : Below W0.heap.size W0 X) => (h.cell (p := ⟨b, off + k * 2, none⟩) hb).trans r0)
      have K1 := hid (fun (X : World) (h : Below W0.heap.size W0 X) => (h.cell (p := ⟨b, off + k * 2 + 1, none⟩) hb).trans r1)
      have KB := hid (fun (X : World) (h : Below W0.heap.size W0 X) => KM.out X h)
      rw [ha] at KB
      clear hc hb hxe ha r0 r1
      have xm := KB.out _ A0.out.bel
      have c0 := K0.out _ A0.out.bel
      have c1 := K1.out _ A0.out.bel
      have L0 := hid LK.out
      go_wp2_with fail
      have C := (fun (X : World) (h : Below W0.heap.size W0 X) => type8_tl ⟨x0, x1⟩ HX.out X) _ A0.out.bel
      refine C.mono ?_
      clear C
      rintro e0 u0 ⟨pa0, pn0, pc0, rfl, hn, hy, hz, hb⟩
      have B0 := hid (A0.out.call hb)
      have HYY := hid hy
      have HNN := hid hn
      have HZZ := hid hz
      have LY := hid (show (tyB ⟨x0, x1⟩).length ≤ 1000000000 by exact LXX.out)
      clear hn hy hz hb A0
      clear xm c0 c1
      go_wp2_with (first | (at_builtin; go_loud (refine append_bytes rfl (.tmp 58) (.tmp 59) rfl rfl B0.out.own B0.out.bel B0.out.base pa0 pn0 pc0 rfl HZZ.out HNN.out HYY.out (by have := L0.out; have := LY.out; omega) ?_); intro v1 z1 ho hb hs; refine Hid.out ?_))
      refine hid ?_
      have A1 := hid (Acc.mk ho hb hs)
      have L1 := hid (show ((encU (n : Int) ++ (m.ty.take k).flatMap tyB) ++ tyB ⟨x0, x1⟩).length ≤ 2000000000 from by have h1 := L0.out; have h2 := LY.out; rw [List.length_append]; omega)
      clear ho hb hs HYY HNN HZZ LY B0 L0
      have xm := KB.out _ A1.out.bel
      have c0 := K0.out _ A1.out.bel
      have c1 := K1.out _ A1.out.bel
      clear L1
      go_wp2
      go_roundw
      case rel => exact ⟨k + 1, by go_num, by omega, by rw [HT.out]; simpa [tyB, List.append_assoc] using A1⟩
      case measure => simp [intOf]; omega
    · obtain rfl : n = k := by omega
      have xm := KM.out _ A0.out.bel
      go_wp2
      go_ret
      exact Acc.gives HB.out A0.out (by rw [List.take_of_length_le (by rw [HN.out]; exact Nat.le_refl _)])
set_option maxRecDepth 100000 in
set_option maxHeartbeats 8000000 in
theorem ref_sec2 (m : Md) (w : World) (FI : Fine w m) (hf : FitP impB m.im 0) : Calls Tryz.prog 41 #[.agg m.v, .int .i64 2] w (Gives w (encU m.im.length ++ m.im.flatMap impB)) := by
  have FX := facts_of FI.chk
  have HB := hid ((Below.refl w.heap.size w).alloc (Nat.le_refl _) (.cells m.v 32))
  have X0 := BoxAt.made w m.v 32
  have HR := hid ((FI.at_.on HB.out).im)
  have HFIT := hid hf
  have FS := hid FI
  have FXH := hid FX
  obtain ⟨n, hn⟩ : ∃ n, m.im.length = n := ⟨_, rfl⟩
  have HN := hid hn
  have hn5 : n ≤ 16384 := by have := FX.lens; omega
  have h0 : 0 ≤ (n : Int) := by omega
  have h1 : (n : Int) < 4294967296 := by omega
  unfold Md.v at HB X0 HR ⊢
  rw [hn] at HB X0 HR ⊢
  clear FX hn hf FI
  have xm := X0 1 _ rfl
  have HXX := hid X0
  clear X0
  go_enter Tryz.func41, Tryz.ntmps41
  go_wp2_with fail
  generalize w.alloc (.cells #[.slice m.ty'.a m.ty.length m.ty'.c, .slice m.im'.a n m.im'.c, .slice m.fu'.a m.fu.length m.fu'.c, .slice m.tb'.a m.tb.length m.tb'.c, .slice m.me'.a m.me.length m.me'.c, .slice m.gl'.a m.gl.length m.gl'.c, .slice m.ex'.a m.ex.length m.ex'.c, .bool m.st, .int .u32 m.sn, .slice m.el'.a m.el.length m.el'.c, .slice m.da'.a m.da.length m.da'.c] 32) = W0 at HB HR HXX xm ⊢
  refine (u8_gives (n : Int) _ h0 h1).mono ?_
  rintro e0 u0 h
  obtain ⟨a0, n0, c0, rfl, hn0, hy0, hz0, hb0⟩ := tl_own (encU_bytes _) (by have := encU_few (n : Int); omega) h
  have AS := hid ((Acc.start W0).call hb0)
  have HY := hid hy0
  have HN0 := hid hn0
  have HZ0 := hid hz0
  have HE0 := hid (encU_few (n : Int))
  clear h hn0 hy0 hz0 hb0 xm
  go_wp2_with (first | (at_builtin; go_loud (refine append_bytes rfl (.tmp 63) (.tmp 67) rfl rfl AS.out.own AS.out.bel AS.out.base a0 n0 c0 rfl HZ0.out HN0.out HY.out (by have := HE0.out; simp; omega) ?_); intro v0 z0 ho hb hs; refine Hid.out ?_))
  refine hid ?_
  have A0 := hid (Acc.mk ho hb hs)
  rw [List.nil_append] at A0
  clear ho hb hs AS HY HN0 HZ0 HE0
  have KM := hid (fun (X : World) (h : Below W0.heap.size W0 X) => (h.cell (p := ⟨w.heap.size, 1, none⟩) (by have := World.block_lt_of_cell? _ _ (HXX.out 1 _ rfl); simpa using this)).trans (HXX.out 1 _ rfl))
  have xm := KM.out _ A0.out.bel
  go_wp2
  clear xm
  go_loopw [5, 9] (fun vo vi wr => ∃ k : Nat, vi = .int .i64 k ∧ k ≤ n ∧ Hid (Acc W0 vo (encU (n : Int) ++ (m.im.take k).flatMap impB) wr)) (fun _ vi _ => n - (intOf vi).toNat)
  case atStart => exact ⟨0, rfl, Nat.zero_le _, by simpa using A0⟩
  case round =>
    clear A0
    obtain ⟨k, rfl, hk, A0⟩ := hrel
    by_cases hlt : k < n
    · have hkl : k < m.im.length := by rw [HN.out]; exact hlt
      have hki : (k : Int) < (n : Int) := by omega
      obtain ⟨b, off, ha, hb, hc⟩ := Rows.get HR.out hkl
      have FI := FS.out
      have FX := FXH.out
      have HX := hid (FX.im _ (List.getElem_mem hkl))
      have HT := hid (flat_step impB hkl)
      have LK := hid (show (encU (n : Int) ++ (m.im.take k).flatMap impB).length ≤ 1000000000 by have h2 := HFIT.out; unfold FitP at h2; have h3 := flat_take impB m.im k; rw [HN.out] at h2; rw [List.length_append] at h2 ⊢; omega)
      have LXX := hid (show (impB m.im[k]).length ≤ 1000000000 by have h2 := HFIT.out; unfold FitP at h2; have h3 := flat_item impB hkl; rw [List.length_append] at h2; omega)
      clear FI FX
      obtain ⟨x, hxe⟩ : ∃ x, m.im[k] = x := ⟨_, rfl⟩
      rw [hxe] at hc HT LXX HX
      obtain ⟨mo, na, ty⟩ := x
      skip
      have r0 : W0.cell? ⟨b, off + k * 3, none⟩ = some (.string mo) := hc 0 (by omega) _ rfl
      have r1 : W0.cell? ⟨b, off + k * 3 + 1, none⟩ = some (.string na) := hc 1 (by omega) _ rfl
      have r2 : W0.cell? ⟨b, off + k * 3 + 2, none⟩ = some (.int .i64 ty) := hc 2 (by omega) _ rfl
      have K0 := hid (fun (X : World) (h : Below W0.heap.size W0 X) => (h.cell (p := ⟨b, off + k * 3, none⟩) hb).trans r0)
      have K1 := hid (fun (X : World) (h : Below W0.heap.size W0 X) => (h.cell (p := ⟨b, off + k * 3 + 1, none⟩) hb).trans r1)
      have K2 := hid (fun (X : World) (h : Below W0.heap.size W0 X) => (h.cell (p := ⟨b, off + k * 3 + 2, none⟩) hb).trans r2)
      have KB := hid (fun (X : World) (h : Below W0.heap.size W0 X) => KM.out X h)
      rw [ha] at KB
      clear hc hb hxe ha r0 r1 r2
      have xm := KB.out _ A0.out.bel
      have c0 := K0.out _ A0.out.bel
      have c1 := K1.out _ A0.out.bel
      have c2 := K2.out _ A0.out.bel
      have L0 := hid LK.out
      go_wp2_with fail
      have C := (fun (X : World) (h : Below W0.heap.size W0 X) => name8_tl mo X (by have := HX.out.1; first | omega | (dsimp only at this; omega)) HX.out.2.2.1) _ A0.out.bel
      refine C.mono ?_
      clear C
      rintro e0 u0 ⟨pa0, pn0, pc0, rfl, hn, hy, hz, hb⟩
      have B0 := hid (A0.out.call hb)
      have HYY := hid hy
      have HNN := hid hn
      have HZZ := hid hz
      have LY := hid (show (nameB mo).length ≤ 1000000000 by have h := LXX.out; simp only [tyB, impB, fnB, tbB, meB, glB, exB, elB, coB, daB, List.length_append, List.length_cons] at h ⊢; omega)
      clear hn hy hz hb A0
      clear xm c0 c1 c2
      go_wp2_with (first | (at_builtin; go_loud (refine append_bytes rfl (.tmp 76) (.tmp 83) rfl rfl B0.out.own B0.out.bel B0.out.base pa0 pn0 pc0 rfl HZZ.out HNN.out HYY.out (by have := L0.out; have := LY.out; omega) ?_); intro v1 z1 ho hb hs; refine Hid.out ?_))
      refine hid ?_
      have A1 := hid (Acc.mk ho hb hs)
      have L1 := hid (show ((encU (n : Int) ++ (m.im.take k).flatMap impB) ++ nameB mo).length ≤ 2000000000 from by have h1 := L0.out; have h2 := LY.out; rw [List.length_append]; omega)
      clear ho hb hs HYY HNN HZZ LY B0 L0
      have xm := KB.out _ A1.out.bel
      have c0 := K0.out _ A1.out.bel
      have c1 := K1.out _ A1.out.bel
      have c2 := K2.out _ A1.out.bel
      go_wp2_with fail
      have C := (fun (X : World) (h : Below W0.heap.size W0 X) => name8_tl na X (by have := HX.out.2.1; first | omega | (dsimp only at this; omega)) HX.out.2.2.2.1) _ A1.out.bel
      refine C.mono ?_
      clear C
      rintro e1 u1 ⟨pa1, pn1, pc1, rfl, hn, hy, hz, hb⟩
      have B1 := hid (A1.out.call hb)
      have HYY := hid hy
      have HNN := hid hn
      have HZZ := hid hz
      have LY := hid (show (nameB na).length ≤ 1000000000 by have h := LXX.out; simp only [tyB, impB, fnB, tbB, meB, glB, exB, elB, coB, daB, List.length_append, List.length_cons] at h ⊢; omega)
      clear hn hy hz hb A1
      clear xm c0 c1 c2
      go_wp2_with (first | (at_builtin; go_loud (refine append_bytes rfl (.tmp 85) (.tmp 92) rfl rfl B1.out.own B1.out.bel B1.out.base pa1 pn1 pc1 rfl HZZ.out HNN.out HYY.out (by have := L1.out; have := LY.out; omega) ?_); intro v2 z2 ho hb hs; refine Hid.out ?_))
      refine hid ?_
      have A2 := hid (Acc.mk ho hb hs)
      have L2 := hid (show (((encU (n : Int) ++ (m.im.take k).flatMap impB) ++ nameB mo) ++ nameB na).length ≤ 3000000000 from by have h1 := L1.out; have h2 := LY.out; rw [List.length_append]; omega)
      clear ho hb hs HYY HNN HZZ LY B1 L1
      have xm := KB.out _ A2.out.bel
      have c0 := K0.out _ A2.out.bel
      have c1 := K1.out _ A2.out.bel
      have c2 := K2.out _ A2.out.bel
      go_wp2_with (first | (at_builtin; go_loud (refine append_byte rfl (.tmp 94) (.tmp 95) rfl (0) rfl A2.out.own A2.out.bel A2.out.base rfl (by have := L2.out; omega) ?_); intro v3 z3 ho hb hs; refine Hid.out ?_))
      refine hid ?_
      have A3 := hid (Acc.mk ho hb hs)
      have L3 := hid (show ((((encU (n : Int) ++ (m.im.take k).flatMap impB) ++ nameB mo) ++ nameB na) ++ [(0 : Int)]).length ≤ 4000000000 from by have h1 := L2.out; rw [List.length_append]; simp only [List.length_cons, List.length_nil]; omega)
      clear ho hb hs A2 L2
      clear xm c0 c1 c2
      have xm := KB.out _ A3.out.bel
      have c0 := K0.out _ A3.out.bel
      have c1 := K1.out _ A3.out.bel
      have c2 := K2.out _ A3.out.bel
      go_wp2_with fail
      have C := (fun (X : World) (h : Below W0.heap.size W0 X) => u8_tl ty X HX.out.2.2.2.2.1 (by have := HX.out.2.2.2.2.2; first | omega | (dsimp only at this; omega))) _ A3.out.bel
      refine C.mono ?_
      clear C
      rintro e3 u3 ⟨pa3, pn3, pc3, rfl, hn, hy, hz, hb⟩
      have B3 := hid (A3.out.call hb)
      have HYY := hid hy
      have HNN := hid hn
      have HZZ := hid hz
      have LY := hid (show (encU ty).length ≤ 1000000000 by have := encU_few (ty); omega)
      clear hn hy hz hb A3
      clear xm c0 c1 c2
      go_wp2_with (first | (at_builtin; go_loud (refine append_bytes rfl (.tmp 97) (.tmp 104) rfl rfl B3.out.own B3.out.bel B3.out.base pa3 pn3 pc3 rfl HZZ.out HNN.out HYY.out (by have := L3.out; have := LY.out; omega) ?_); intro v4 z4 ho hb hs; refine Hid.out ?_))
      refine hid ?_
      have A4 := hid (Acc.mk ho hb hs)
      have L4 := hid (show (((((encU (n : Int) ++ (m.im.take k).flatMap impB) ++ nameB mo) ++ nameB na) ++ [(0 : Int)]) ++ encU ty).length ≤ 5000000000 from by have h1 := L3.out; have h2 := LY.out; rw [List.length_append]; omega)
      clear ho hb hs HYY HNN HZZ LY B3 L3
      have xm := KB.out _ A4.out.bel
      have c0 := K0.out _ A4.out.bel
      have c1 := K1.out _ A4.out.bel
      have c2 := K2.out _ A4.out.bel
      clear L4
      go_wp2
      go_roundw
      case rel => exact ⟨k + 1, by go_num, by omega, by rw [HT.out]; simpa [impB, List.append_assoc] using A4⟩
      case measure => simp [intOf]; omega
    · obtain rfl : n = k := by omega
      have xm := KM.out _ A0.out.bel
      go_wp2
      go_ret
      exact Acc.gives HB.out A0.out (by rw [List.take_of_length_le (by rw [HN.out]; exact Nat.le_refl _)])
set_option maxRecDepth 100000 in
set_option maxHeartbeats 8000000 in
theorem ref_sec3 (m : Md) (w : World) (FI : Fine w m) (hf : FitP fnB m.fu 0) : Calls Tryz.prog 41 #[.agg m.v, .int .i64 3] w (Gives w (encU m.fu.length ++ m.fu.flatMap fnB)) := by
  have FX := facts_of FI.chk
  have HB := hid ((Below.refl w.heap.size w).alloc (Nat.le_refl _) (.cells m.v 32))
  have X0 := BoxAt.made w m.v 32
  have HR := hid ((FI.at_.on HB.out).fu)
  have HFIT := hid hf
  have FS := hid FI
  have FXH := hid FX
  obtain ⟨n, hn⟩ : ∃ n, m.fu.length = n := ⟨_, rfl⟩
  have HN := hid hn
  have hn5 : n ≤ 16384 := by have := FX.lens; omega
  have h0 : 0 ≤ (n : Int) := by omega
  have h1 : (n : Int) < 4294967296 := by omega
  unfold Md.v at HB X0 HR ⊢
  rw [hn] at HB X0 HR ⊢
  clear FX hn hf FI
  have xm := X0 2 _ rfl
  have HXX := hid X0
  clear X0
  go_enter Tryz.func41, Tryz.ntmps41
  go_wp2_with fail
  generalize w.alloc (.cells #[.slice m.ty'.a m.ty.length m.ty'.c, .slice m.im'.a m.im.length m.im'.c, .slice m.fu'.a n m.fu'.c, .slice m.tb'.a m.tb.length m.tb'.c, .slice m.me'.a m.me.length m.me'.c, .slice m.gl'.a m.gl.length m.gl'.c, .slice m.ex'.a m.ex.length m.ex'.c, .bool m.st, .int .u32 m.sn, .slice m.el'.a m.el.length m.el'.c, .slice m.da'.a m.da.length m.da'.c] 32) = W0 at HB HR HXX xm ⊢
  refine (u8_gives (n : Int) _ h0 h1).mono ?_
  rintro e0 u0 h
  obtain ⟨a0, n0, c0, rfl, hn0, hy0, hz0, hb0⟩ := tl_own (encU_bytes _) (by have := encU_few (n : Int); omega) h
  have AS := hid ((Acc.start W0).call hb0)
  have HY := hid hy0
  have HN0 := hid hn0
  have HZ0 := hid hz0
  have HE0 := hid (encU_few (n : Int))
  clear h hn0 hy0 hz0 hb0 xm
  go_wp2_with (first | (at_builtin; go_loud (refine append_bytes rfl (.tmp 12) (.tmp 16) rfl rfl AS.out.own AS.out.bel AS.out.base a0 n0 c0 rfl HZ0.out HN0.out HY.out (by have := HE0.out; simp; omega) ?_); intro v0 z0 ho hb hs; refine Hid.out ?_))
  refine hid ?_
  have A0 := hid (Acc.mk ho hb hs)
  rw [List.nil_append] at A0
  clear ho hb hs AS HY HN0 HZ0 HE0
  have KM := hid (fun (X : World) (h : Below W0.heap.size W0 X) => (h.cell (p := ⟨w.heap.size, 2, none⟩) (by have := World.block_lt_of_cell? _ _ (HXX.out 2 _ rfl); simpa using this)).trans (HXX.out 2 _ rfl))
  have xm := KM.out _ A0.out.bel
  go_wp2
  clear xm
  go_loopw [5, 10] (fun vo vi wr => ∃ k : Nat, vi = .int .i64 k ∧ k ≤ n ∧ Hid (Acc W0 vo (encU (n : Int) ++ (m.fu.take k).flatMap fnB) wr)) (fun _ vi _ => n - (intOf vi).toNat)
  case atStart => exact ⟨0, rfl, Nat.zero_le _, by simpa using A0⟩
  case round =>
    clear A0
    obtain ⟨k, rfl, hk, A0⟩ := hrel
    by_cases hlt : k < n
    · have hkl : k < m.fu.length := by rw [HN.out]; exact hlt
      have hki : (k : Int) < (n : Int) := by omega
      obtain ⟨b, off, ha, hb, hc⟩ := Rows.get HR.out hkl
      have FI := FS.out
      have FX := FXH.out
      have HX := hid (FX.fu _ (List.getElem_mem hkl))
      have HT := hid (flat_step fnB hkl)
      have LK := hid (show (encU (n : Int) ++ (m.fu.take k).flatMap fnB).length ≤ 1000000000 by have h2 := HFIT.out; unfold FitP at h2; have h3 := flat_take fnB m.fu k; rw [HN.out] at h2; rw [List.length_append] at h2 ⊢; omega)
      have LXX := hid (show (fnB m.fu[k]).length ≤ 1000000000 by have h2 := HFIT.out; unfold FitP at h2; have h3 := flat_item fnB hkl; rw [List.length_append] at h2; omega)
      clear FI FX
      obtain ⟨x, hxe⟩ : ∃ x, m.fu[k] = x := ⟨_, rfl⟩
      rw [hxe] at hc HT LXX HX
      obtain ⟨ty, lo, l⟩ := x
      skip
      have r0 : W0.cell? ⟨b, off + k * 3, none⟩ = some (.int .i64 ty) := hc 0 (by omega) _ rfl
      have K0 := hid (fun (X : World) (h : Below W0.heap.size W0 X) => (h.cell (p := ⟨b, off + k * 3, none⟩) hb).trans r0)
      have KB := hid (fun (X : World) (h : Below W0.heap.size W0 X) => KM.out X h)
      rw [ha] at KB
      clear hc hb hxe ha r0
      have xm := KB.out _ A0.out.bel
      have c0 := K0.out _ A0.out.bel
      have L0 := hid LK.out
      go_wp2_with fail
      have C := (fun (X : World) (h : Below W0.heap.size W0 X) => u8_tl ty X HX.out.1 (by have := HX.out.2.1; first | omega | (dsimp only at this; omega))) _ A0.out.bel
      refine C.mono ?_
      clear C
      rintro e0 u0 ⟨pa0, pn0, pc0, rfl, hn, hy, hz, hb⟩
      have B0 := hid (A0.out.call hb)
      have HYY := hid hy
      have HNN := hid hn
      have HZZ := hid hz
      have LY := hid (show (encU ty).length ≤ 1000000000 by have := encU_few (ty); omega)
      clear hn hy hz hb A0
      clear xm c0
      go_wp2_with (first | (at_builtin; go_loud (refine append_bytes rfl (.tmp 25) (.tmp 32) rfl rfl B0.out.own B0.out.bel B0.out.base pa0 pn0 pc0 rfl HZZ.out HNN.out HYY.out (by have := L0.out; have := LY.out; omega) ?_); intro v1 z1 ho hb hs; refine Hid.out ?_))
      refine hid ?_
      have A1 := hid (Acc.mk ho hb hs)
      have L1 := hid (show ((encU (n : Int) ++ (m.fu.take k).flatMap fnB) ++ encU ty).length ≤ 2000000000 from by have h1 := L0.out; have h2 := LY.out; rw [List.length_append]; omega)
      clear ho hb hs HYY HNN HZZ LY B0 L0
      have xm := KB.out _ A1.out.bel
      have c0 := K0.out _ A1.out.bel
      clear L1
      go_wp2
      go_roundw
      case rel => exact ⟨k + 1, by go_num, by omega, by rw [HT.out]; simpa [fnB, List.append_assoc] using A1⟩
      case measure => simp [intOf]; omega
    · obtain rfl : n = k := by omega
      have xm := KM.out _ A0.out.bel
      go_wp2
      go_ret
      exact Acc.gives HB.out A0.out (by rw [List.take_of_length_le (by rw [HN.out]; exact Nat.le_refl _)])
set_option maxRecDepth 100000 in
set_option maxHeartbeats 8000000 in
theorem ref_sec4 (m : Md) (w : World) (FI : Fine w m) (hf : FitP tbB m.tb 0) : Calls Tryz.prog 42 #[.agg m.v, .int .i64 4] w (Gives w (encU m.tb.length ++ m.tb.flatMap tbB)) := by
  have FX := facts_of FI.chk
  have HB := hid ((Below.refl w.heap.size w).alloc (Nat.le_refl _) (.cells m.v 32))
  have X0 := BoxAt.made w m.v 32
  have HR := hid ((FI.at_.on HB.out).tb)
  have HFIT := hid hf
  have FS := hid FI
  have FXH := hid FX
  obtain ⟨n, hn⟩ : ∃ n, m.tb.length = n := ⟨_, rfl⟩
  have HN := hid hn
  have hn5 : n ≤ 16384 := by have := FX.lens; omega
  have h0 : 0 ≤ (n : Int) := by omega
  have h1 : (n : Int) < 4294967296 := by omega
  unfold Md.v at HB X0 HR ⊢
  rw [hn] at HB X0 HR ⊢
  clear FX hn hf FI
  have xm := X0 3 _ rfl
  have HXX := hid X0
  clear X0
  rcases Nat.eq_zero_or_pos n with hzr | hpos
  · have HZR := hid hzr
    clear hzr
    go_enter Tryz.func42, Tryz.ntmps42
    have x3 := HXX.out 3 _ rfl
    go_wp2_with fail
    generalize w.alloc (.cells #[.slice m.ty'.a m.ty.length m.ty'.c, .slice m.im'.a m.im.length m.im'.c, .slice m.fu'.a m.fu.length m.fu'.c, .slice m.tb'.a n m.tb'.c, .slice m.me'.a m.me.length m.me'.c, .slice m.gl'.a m.gl.length m.gl'.c, .slice m.ex'.a m.ex.length m.ex'.c, .bool m.st, .int .u32 m.sn, .slice m.el'.a m.el.length m.el'.c, .slice m.da'.a m.da.length m.da'.c] 32) = W0 at HB HR HXX xm x3 ⊢
    refine (u8_gives (n : Int) _ h0 h1).mono ?_
    rintro e0 z0 h
    obtain ⟨v0, rfl, ha0⟩ := Acc.of h
    have A0 := hid ha0
    clear h ha0 xm x3
    have KM := hid (fun (X : World) (h : Below W0.heap.size W0 X) => (h.cell (p := ⟨w.heap.size, 3, none⟩) (by have := World.block_lt_of_cell? _ _ (HXX.out 3 _ rfl); simpa using this)).trans (HXX.out 3 _ rfl))
    have xm := KM.out _ A0.out.bel
    go_wp2
    clear xm
    go_loopw [7, 8, 9, 10] (fun vo vi y9 y10 wr => ∃ k : Nat, vi = .int .i64 k ∧ k ≤ n ∧ Hid (Acc W0 vo (encU (n : Int) ++ (m.tb.take k).flatMap tbB) wr)) (fun _ vi _ _ _ => n - (intOf vi).toNat)
    case atStart => exact ⟨0, rfl, Nat.zero_le _, by simpa using A0⟩
    case round =>
      clear A0
      obtain ⟨k, rfl, hk, A0⟩ := hrel
      by_cases hlt : k < n
      · exact absurd hlt (by have := HZR.out; omega)
      · obtain rfl : n = k := by omega
        have xm := KM.out _ A0.out.bel
        go_wp2
        go_ret
        exact Acc.gives HB.out A0.out (by rw [List.take_of_length_le (by rw [HN.out]; exact Nat.le_refl _)])
  · obtain ⟨b, off, ha, hb, hc⟩ := Rows.get HR.out (k := 0) (by rw [HN.out]; exact hpos)
    rw [ha] at HB HR HXX xm ⊢
    clear hb hc hpos
    go_enter Tryz.func42, Tryz.ntmps42
    have x3 := HXX.out 3 _ rfl
    go_wp2_with fail
    generalize w.alloc (.cells #[.slice m.ty'.a m.ty.length m.ty'.c, .slice m.im'.a m.im.length m.im'.c, .slice m.fu'.a m.fu.length m.fu'.c, .slice (some ⟨b, off, none⟩) n m.tb'.c, .slice m.me'.a m.me.length m.me'.c, .slice m.gl'.a m.gl.length m.gl'.c, .slice m.ex'.a m.ex.length m.ex'.c, .bool m.st, .int .u32 m.sn, .slice m.el'.a m.el.length m.el'.c, .slice m.da'.a m.da.length m.da'.c] 32) = W0 at HB HR HXX xm x3 ⊢
    refine (u8_gives (n : Int) _ h0 h1).mono ?_
    rintro e0 z0 h
    obtain ⟨v0, rfl, ha0⟩ := Acc.of h
    have A0 := hid ha0
    clear h ha0 xm x3
    have KM := hid (fun (X : World) (h : Below W0.heap.size W0 X) => (h.cell (p := ⟨w.heap.size, 3, none⟩) (by have := World.block_lt_of_cell? _ _ (HXX.out 3 _ rfl); simpa using this)).trans (HXX.out 3 _ rfl))
    have xm := KM.out _ A0.out.bel
    go_wp2
    clear xm
    go_loopw [7, 8, 9, 10] (fun vo vi y9 y10 wr => ∃ k : Nat, vi = .int .i64 k ∧ k ≤ n ∧ Hid (Acc W0 vo (encU (n : Int) ++ (m.tb.take k).flatMap tbB) wr)) (fun _ vi _ _ _ => n - (intOf vi).toNat)
    case atStart => exact ⟨0, rfl, Nat.zero_le _, by simpa using A0⟩
    case round =>
      clear A0
      obtain ⟨k, rfl, hk, A0⟩ := hrel
      by_cases hlt : k < n
      · have hkl : k < m.tb.length := by rw [HN.out]; exact hlt
        have hki : (k : Int) < (n : Int) := by omega
        obtain ⟨b2, off2, ha2, hb, hc⟩ := Rows.get HR.out hkl
        obtain ⟨rfl, rfl⟩ : b = b2 ∧ off = off2 := by simpa using ha2
        clear ha2
        have FI := FS.out
        have FX := FXH.out
        have HX := hid (FX.tb _ (List.getElem_mem hkl))
        have HN0 := FI.siz.n0 _ (List.mem_append_left _ (List.getElem_mem hkl))
        have LN := hid (okLim_le (FX.tb _ (List.getElem_mem hkl)) HN0 (by omega))
        have HT := hid (flat_step tbB hkl)
        have LK := hid (show (encU (n : Int) ++ (m.tb.take k).flatMap tbB).length ≤ 1000000000 by have h2 := HFIT.out; unfold FitP at h2; have h3 := flat_take tbB m.tb k; rw [HN.out] at h2; rw [List.length_append] at h2 ⊢; omega)
        have LXX := hid (show (tbB m.tb[k]).length ≤ 1000000000 by have h2 := HFIT.out; unfold FitP at h2; have h3 := flat_item tbB hkl; rw [List.length_append] at h2; omega)
        clear FI FX
        obtain ⟨x, hxe⟩ : ∃ x, m.tb[k] = x := ⟨_, rfl⟩
        rw [hxe] at hc HT LXX HX LN
        obtain ⟨ln, lx, lc⟩ := x
        skip
        dsimp only at HX LN
        have r0 : W0.cell? ⟨b, off + k * 3, none⟩ = some (.int .u32 ln) := hc 0 (by omega) _ rfl
        have r1 : W0.cell? ⟨b, off + k * 3 + 1, none⟩ = some (.int .u32 lx) := hc 1 (by omega) _ rfl
        have r2 : W0.cell? ⟨b, off + k * 3 + 2, none⟩ = some (.bool lc) := hc 2 (by omega) _ rfl
        have K0 := hid (fun (X : World) (h : Below W0.heap.size W0 X) => (h.cell (p := ⟨b, off + k * 3, none⟩) hb).trans r0)
        have K1 := hid (fun (X : World) (h : Below W0.heap.size W0 X) => (h.cell (p := ⟨b, off + k * 3 + 1, none⟩) hb).trans r1)
        have K2 := hid (fun (X : World) (h : Below W0.heap.size W0 X) => (h.cell (p := ⟨b, off + k * 3 + 2, none⟩) hb).trans r2)
        have KB := hid (fun (X : World) (h : Below W0.heap.size W0 X) => KM.out X h)
        clear hc hb hxe r0 r1 r2
        have xm := KB.out _ A0.out.bel
        have c0 := K0.out _ A0.out.bel
        have c1 := K1.out _ A0.out.bel
        have c2 := K2.out _ A0.out.bel
        have L0 := hid LK.out
        go_wp2_with (first | (at_builtin; go_loud (refine append_byte rfl (.tmp 28) (.tmp 29) rfl (112) rfl A0.out.own A0.out.bel A0.out.base rfl (by have := L0.out; omega) ?_); intro v1 z1 ho hb hs; refine Hid.out ?_))
        refine hid ?_
        have A1 := hid (Acc.mk ho hb hs)
        have L1 := hid (show ((encU (n : Int) ++ (m.tb.take k).flatMap tbB) ++ [(112 : Int)]).length ≤ 2000000000 from by have h1 := L0.out; rw [List.length_append]; simp only [List.length_cons, List.length_nil]; omega)
        clear ho hb hs A0 L0
        clear xm c0 c1 c2
        have xm := KB.out _ A1.out.bel
        have c0 := K0.out _ A1.out.bel
        have c1 := K1.out _ A1.out.bel
        have c2 := K2.out _ A1.out.bel
        go_wp2_with fail
        have C := (fun (X : World) (h : Below W0.heap.size W0 X) => lim8_tl ⟨ln, lx, lc⟩ 1048576 HX.out LN.out.1 LN.out.2 X) _ A1.out.bel
        refine C.mono ?_
        clear C
        rintro e1 u1 ⟨pa1, pn1, pc1, rfl, hn, hy, hz, hb⟩
        have B1 := hid (A1.out.call hb)
        have HYY := hid hy
        have HNN := hid hn
        have HZZ := hid hz
        have LY := hid (show (meB ⟨ln, lx, lc⟩).length ≤ 1000000000 by have h := LXX.out; first | exact h | (unfold tbB at h; rw [List.length_cons] at h; unfold meB; omega))
        clear hn hy hz hb A1
        clear xm c0 c1 c2
        go_wp2_with (first | (at_builtin; go_loud (refine append_bytes rfl (.tmp 40) (.tmp 41) rfl rfl B1.out.own B1.out.bel B1.out.base pa1 pn1 pc1 rfl HZZ.out HNN.out HYY.out (by have := L1.out; have := LY.out; omega) ?_); intro v2 z2 ho hb hs; refine Hid.out ?_))
        refine hid ?_
        have A2 := hid (Acc.mk ho hb hs)
        have L2 := hid (show (((encU (n : Int) ++ (m.tb.take k).flatMap tbB) ++ [(112 : Int)]) ++ meB ⟨ln, lx, lc⟩).length ≤ 3000000000 from by have h1 := L1.out; have h2 := LY.out; rw [List.length_append]; omega)
        clear ho hb hs HYY HNN HZZ LY B1 L1
        have xm := KB.out _ A2.out.bel
        have c0 := K0.out _ A2.out.bel
        have c1 := K1.out _ A2.out.bel
        have c2 := K2.out _ A2.out.bel
        clear L2
        go_wp2
        go_roundw
        case rel => exact ⟨k + 1, by go_num, by omega, by rw [HT.out]; simpa [tbB, meB, List.append_assoc] using A2⟩
        case measure => simp [intOf]; omega
      · obtain rfl : n = k := by omega
        have xm := KM.out _ A0.out.bel
        go_wp2
        go_ret
        exact Acc.gives HB.out A0.out (by rw [List.take_of_length_le (by rw [HN.out]; exact Nat.le_refl _)])
set_option maxRecDepth 100000 in
set_option maxHeartbeats 8000000 in
theorem ref_sec5 (m : Md) (w : World) (FI : Fine w m) (hf : FitP meB m.me 0) : Calls Tryz.prog 42 #[.agg m.v, .int .i64 5] w (Gives w (encU m.me.length ++ m.me.flatMap meB)) := by
  have FX := facts_of FI.chk
  have HB := hid ((Below.refl w.heap.size w).alloc (Nat.le_refl _) (.cells m.v 32))
  have X0 := BoxAt.made w m.v 32
  have HR := hid ((FI.at_.on HB.out).me)
  have HFIT := hid hf
  have FS := hid FI
  have FXH := hid FX
  obtain ⟨n, hn⟩ : ∃ n, m.me.length = n := ⟨_, rfl⟩
  have HN := hid hn
  have hn5 : n ≤ 16384 := by have := FX.lens; omega
  have h0 : 0 ≤ (n : Int) := by omega
  have h1 : (n : Int) < 4294967296 := by omega
  unfold Md.v at HB X0 HR ⊢
  rw [hn] at HB X0 HR ⊢
  clear FX hn hf FI
  have xm := X0 4 _ rfl
  have HXX := hid X0
  clear X0
  rcases Nat.eq_zero_or_pos n with hzr | hpos
  · have HZR := hid hzr
    clear hzr
    go_enter Tryz.func42, Tryz.ntmps42
    have x3 := HXX.out 3 _ rfl
    go_wp2_with fail
    generalize w.alloc (.cells #[.slice m.ty'.a m.ty.length m.ty'.c, .slice m.im'.a m.im.length m.im'.c, .slice m.fu'.a m.fu.length m.fu'.c, .slice m.tb'.a m.tb.length m.tb'.c, .slice m.me'.a n m.me'.c, .slice m.gl'.a m.gl.length m.gl'.c, .slice m.ex'.a m.ex.length m.ex'.c, .bool m.st, .int .u32 m.sn, .slice m.el'.a m.el.length m.el'.c, .slice m.da'.a m.da.length m.da'.c] 32) = W0 at HB HR HXX xm x3 ⊢
    refine (u8_gives (n : Int) _ h0 h1).mono ?_
    rintro e0 z0 h
    obtain ⟨v0, rfl, ha0⟩ := Acc.of h
    have A0 := hid ha0
    clear h ha0 xm x3
    have KM := hid (fun (X : World) (h : Below W0.heap.size W0 X) => (h.cell (p := ⟨w.heap.size, 4, none⟩) (by have := World.block_lt_of_cell? _ _ (HXX.out 4 _ rfl); simpa using this)).trans (HXX.out 4 _ rfl))
    have xm := KM.out _ A0.out.bel
    go_wp2
    clear xm
    go_loopw [7, 8, 9, 10] (fun vo vi y9 y10 wr => ∃ k : Nat, vi = .int .i64 k ∧ k ≤ n ∧ Hid (Acc W0 vo (encU (n : Int) ++ (m.me.take k).flatMap meB) wr)) (fun _ vi _ _ _ => n - (intOf vi).toNat)
    case atStart => exact ⟨0, rfl, Nat.zero_le _, by simpa using A0⟩
    case round =>
      clear A0
      obtain ⟨k, rfl, hk, A0⟩ := hrel
      by_cases hlt : k < n
      · exact absurd hlt (by have := HZR.out; omega)
      · obtain rfl : n = k := by omega
        have xm := KM.out _ A0.out.bel
        go_wp2
        go_ret
        exact Acc.gives HB.out A0.out (by rw [List.take_of_length_le (by rw [HN.out]; exact Nat.le_refl _)])
  · obtain ⟨b, off, ha, hb, hc⟩ := Rows.get HR.out (k := 0) (by rw [HN.out]; exact hpos)
    rw [ha] at HB HR HXX xm ⊢
    clear hb hc hpos
    go_enter Tryz.func42, Tryz.ntmps42
    have x3 := HXX.out 3 _ rfl
    go_wp2_with fail
    generalize w.alloc (.cells #[.slice m.ty'.a m.ty.length m.ty'.c, .slice m.im'.a m.im.length m.im'.c, .slice m.fu'.a m.fu.length m.fu'.c, .slice m.tb'.a m.tb.length m.tb'.c, .slice (some ⟨b, off, none⟩) n m.me'.c, .slice m.gl'.a m.gl.length m.gl'.c, .slice m.ex'.a m.ex.length m.ex'.c, .bool m.st, .int .u32 m.sn, .slice m.el'.a m.el.length m.el'.c, .slice m.da'.a m.da.length m.da'.c] 32) = W0 at HB HR HXX xm x3 ⊢
    refine (u8_gives (n : Int) _ h0 h1).mono ?_
    rintro e0 z0 h
    obtain ⟨v0, rfl, ha0⟩ := Acc.of h
    have A0 := hid ha0
    clear h ha0 xm x3
    have KM := hid (fun (X : World) (h : Below W0.heap.size W0 X) => (h.cell (p := ⟨w.heap.size, 4, none⟩) (by have := World.block_lt_of_cell? _ _ (HXX.out 4 _ rfl); simpa using this)).trans (HXX.out 4 _ rfl))
    have xm := KM.out _ A0.out.bel
    go_wp2
    clear xm
    go_loopw [7, 8, 9, 10] (fun vo vi y9 y10 wr => ∃ k : Nat, vi = .int .i64 k ∧ k ≤ n ∧ Hid (Acc W0 vo (encU (n : Int) ++ (m.me.take k).flatMap meB) wr)) (fun _ vi _ _ _ => n - (intOf vi).toNat)
    case atStart => exact ⟨0, rfl, Nat.zero_le _, by simpa using A0⟩
    case round =>
      clear A0
      obtain ⟨k, rfl, hk, A0⟩ := hrel
      by_cases hlt : k < n
      · have hkl : k < m.me.length := by rw [HN.out]; exact hlt
        have hki : (k : Int) < (n : Int) := by omega
        obtain ⟨b2, off2, ha2, hb, hc⟩ := Rows.get HR.out hkl
        obtain ⟨rfl, rfl⟩ : b = b2 ∧ off = off2 := by simpa using ha2
        clear ha2
        have FI := FS.out
        have FX := FXH.out
        have HX := hid (FX.me _ (List.getElem_mem hkl))
        have HN0 := FI.siz.n0 _ (List.mem_append_right _ (List.getElem_mem hkl))
        have LN := hid (okLim_le (FX.me _ (List.getElem_mem hkl)) HN0 (by omega))
        have HT := hid (flat_step meB hkl)
        have LK := hid (show (encU (n : Int) ++ (m.me.take k).flatMap meB).length ≤ 1000000000 by have h2 := HFIT.out; unfold FitP at h2; have h3 := flat_take meB m.me k; rw [HN.out] at h2; rw [List.length_append] at h2 ⊢; omega)
        have LXX := hid (show (meB m.me[k]).length ≤ 1000000000 by have h2 := HFIT.out; unfold FitP at h2; have h3 := flat_item meB hkl; rw [List.length_append] at h2; omega)
        clear FI FX
        obtain ⟨x, hxe⟩ : ∃ x, m.me[k] = x := ⟨_, rfl⟩
        rw [hxe] at hc HT LXX HX LN
        obtain ⟨ln, lx, lc⟩ := x
        skip
        dsimp only at HX LN
        have r0 : W0.cell? ⟨b, off + k * 3, none⟩ = some (.int .u32 ln) := hc 0 (by omega) _ rfl
        have r1 : W0.cell? ⟨b, off + k * 3 + 1, none⟩ = some (.int .u32 lx) := hc 1 (by omega) _ rfl
        have r2 : W0.cell? ⟨b, off + k * 3 + 2, none⟩ = some (.bool lc) := hc 2 (by omega) _ rfl
        have K0 := hid (fun (X : World) (h : Below W0.heap.size W0 X) => (h.cell (p := ⟨b, off + k * 3, none⟩) hb).trans r0)
        have K1 := hid (fun (X : World) (h : Below W0.heap.size W0 X) => (h.cell (p := ⟨b, off + k * 3 + 1, none⟩) hb).trans r1)
        have K2 := hid (fun (X : World) (h : Below W0.heap.size W0 X) => (h.cell (p := ⟨b, off + k * 3 + 2, none⟩) hb).trans r2)
        have KB := hid (fun (X : World) (h : Below W0.heap.size W0 X) => KM.out X h)
        clear hc hb hxe r0 r1 r2
        have xm := KB.out _ A0.out.bel
        have c0 := K0.out _ A0.out.bel
        have c1 := K1.out _ A0.out.bel
        have c2 := K2.out _ A0.out.bel
        have L0 := hid LK.out
        go_wp2_with fail
        have C := (fun (X : World) (h : Below W0.heap.size W0 X) => lim8_tl ⟨ln, lx, lc⟩ 65536 HX.out LN.out.1 LN.out.2 X) _ A0.out.bel
        refine C.mono ?_
        clear C
        rintro e0 u0 ⟨pa0, pn0, pc0, rfl, hn, hy, hz, hb⟩
        have B0 := hid (A0.out.call hb)
        have HYY := hid hy
        have HNN := hid hn
        have HZZ := hid hz
        have LY := hid (show (meB ⟨ln, lx, lc⟩).length ≤ 1000000000 by have h := LXX.out; first | exact h | (unfold tbB at h; rw [List.length_cons] at h; unfold meB; omega))
        clear hn hy hz hb A0
        clear xm c0 c1 c2
        go_wp2_with (first | (at_builtin; go_loud (refine append_bytes rfl (.tmp 40) (.tmp 41) rfl rfl B0.out.own B0.out.bel B0.out.base pa0 pn0 pc0 rfl HZZ.out HNN.out HYY.out (by have := L0.out; have := LY.out; omega) ?_); intro v1 z1 ho hb hs; refine Hid.out ?_))
        refine hid ?_
        have A1 := hid (Acc.mk ho hb hs)
        have L1 := hid (show ((encU (n : Int) ++ (m.me.take k).flatMap meB) ++ meB ⟨ln, lx, lc⟩).length ≤ 2000000000 from by have h1 := L0.out; have h2 := LY.out; rw [List.length_append]; omega)
        clear ho hb hs HYY HNN HZZ LY B0 L0
        have xm := KB.out _ A1.out.bel
        have c0 := K0.out _ A1.out.bel
        have c1 := K1.out _ A1.out.bel
        have c2 := K2.out _ A1.out.bel
        clear L1
        go_wp2
        go_roundw
        case rel => exact ⟨k + 1, by go_num, by omega, by rw [HT.out]; simpa [meB, List.append_assoc] using A1⟩
        case measure => simp [intOf]; omega
      · obtain rfl : n = k := by omega
        have xm := KM.out _ A0.out.bel
        go_wp2
        go_ret
        exact Acc.gives HB.out A0.out (by rw [List.take_of_length_le (by rw [HN.out]; exact Nat.le_refl _)])
end Go.Proofs.YtepbjkkakfpjgaaGreatDoor.Enc
