import Derived.Test.YtlfflomeaplidaaDoorBodyPut
import Derived.Test.YtlfflomeaplidaaDoorInstrCheck
/-
  BODY: appendOne of a Block, a Loop, an If; appendList, by contract.
-/
namespace Go.Proofs.YtlfflomeaplidaaDoor.Body
open Go.RowKit Go.Proofs.YtlfflomeaplidaaDoor.Instr Go.Proofs.YtlfflomeaplidaaDoor.Leb
open Go.Proofs.YtlfflomeaplidaaDoor.Kind (Rd numR refuseR startR numR_good numR_bounds refuseR_good getL_next)

set_option maxRecDepth 100000 in
set_option maxHeartbeats 3200000 in
theorem put1 (B : Nat) (v : Value) (xs : List Int) (x : Ix) (l e : Il) (w : World) (hv : Own B w v xs) (hB : B ≤ w.heap.size) (hx : May x) (hl : ListAt B w x.la x.ln l) (he : ListAt B w x.ea x.en e) (hln : x.ln ≤ 140737488351232) (hen : x.en ≤ 140737488351232) (il : ALok l) (ie : ALok e)
    (hlx : xs.length + (encL l).length + (encL e).length + 3 ≤ 70368744177664) (hk : kindP x.op = 1) (hp : partsP x.op = 65) :
    Calls Tryd.prog 65 #[v, .agg x.vals] w (PutsTo B v w (xs ++ (x.op :: (encRest x ++ (encL l ++ ((if x.en = 0 then [] else 5 :: encL e) ++ [11])))))) := by
  have hop := name_range ((lawful_iff x).1 hx.law).1
  obtain ⟨o0, o1, _, _⟩ := hop
  have F := hid (fun w' => follows_any x.op w')
  rw [hp] at F
  have b1 : bits .and .u8 65 1 = 1 := by decide
  have b2 : bits .and .u8 65 2 = 0 := by decide
  have b4 : bits .and .u8 65 4 = 0 := by decide
  have b8 : bits .and .u8 65 8 = 0 := by decide
  have b16 : bits .and .u8 65 16 = 0 := by decide
  have b32 : bits .and .u8 65 32 = 0 := by decide
  have b64 : bits .and .u8 65 64 = 64 := by decide
  have hXv : v.ownBlock ≠ some w.heap.size := fun h => by have := (World.ownsRow.lt hv _ h).2; omega
  have HXV := hid hXv
  have HW1 : Hid (Below w.heap.size w (w.alloc (.cells x.vals 61))) := hid ((Below.refl w.heap.size w).alloc (Nat.le_refl _) _)
  have X0 := hid (At.made x w)
  have GW : Hid (Grew B v (w.alloc (.cells x.vals 61)) v xs (w.alloc (.cells x.vals 61))) := hid (Grew.refl (hv.alloc _))
  have HB2 : Hid (B ≤ (w.alloc (.cells x.vals 61)).heap.size) := by refine hid ?_; simp; omega
  have LL := hid (hl.below (HW1.out.mono hB))
  have LE := hid (he.below (HW1.out.mono hB))
  have PI := hid (fun (v' : Value) (zs : List Int) (w' : World) (h1 : Own B w' v' zs) (h2 : B ≤ w'.heap.size) (h3 : ListAt B w' x.la x.ln l) (h4 : ListAt B w' x.ea x.en e) (h5 : zs.length + (encL l).length + (encL e).length + 1 ≤ 70368744177664) => inner_any B v' zs x l e w' h1 h2 h3 h4 hln hen il ie h5)
  rw [encRest1 hk]
  obtain ⟨ei, hei⟩ : ∃ r, encL l ++ ((if x.en = 0 then [] else 5 :: encL e) ++ [11]) = r := ⟨_, rfl⟩
  rw [hei] at PI ⊢
  have HL := hid hlx
  obtain ⟨z, hz⟩ : ∃ z : Int, (if x.res = 0 then 64 else 127) = z := ⟨_, rfl⟩
  have PR := hid (fun w' => putResults_any x.res w')
  rw [hz] at PR ⊢
  clear hv hB hl he hln hen il ie hlx hXv hei hk hp hx hz
  unfold Ix.vals at GW X0 HB2 HW1 LL LE PI ⊢
  obtain ⟨c0, c1, c2, c3, c4, c5, c6, c7⟩ := X0.out
  have T0 := hid (show xs.length ≤ 140737488351232 by have := HL.out; omega)
  have T1 := hid (show (xs ++ [x.op]).length ≤ 140737488351232 by have := HL.out; simp only [List.length_append, List.length_cons, List.length_nil]; omega)
  have T2 := hid (show (xs ++ [x.op] ++ [z]).length + (encL l).length + (encL e).length + 1 ≤ 70368744177664 by have := HL.out; simp only [List.length_append, List.length_cons, List.length_nil]; omega)
  go_enter Tryd.func65, Tryd.ntmps65
  go_wp2_with fail
  refine (F.out _).mono ?_
  rintro e w' ⟨rfl, rfl⟩
  generalize hW1 : (w.alloc (.cells #[.int .i64 x.op, .int .i64 x.res, .int .u32 x.a, .int .u32 x.b, .int .i32 x.n, .slice x.ta x.tags.length x.tc, .slice x.la x.ln x.lc, .slice x.ea x.en x.ec] 61)) = W1 at *
  go_wp2_with (first
    | (at_builtin; refine put_byte rfl (.tmp 9) (.tmp 13) rfl x.op rfl GW.out HB2.out rfl T0.out ?_; intro v1 w1 hg1; refine Hid.out ?_))
  refine hid ?_
  have A1 := hg1.at_ X0.out HXV.out
  have GH1 := hid hg1
  clear c0 c1 c2 c3 c4 c5 c6 c7 hg1
  obtain ⟨c0, c1, c2, c3, c4, c5, c6, c7⟩ := A1
  go_wp2_with fail
  refine (PR.out _).mono ?_
  rintro e w' ⟨rfl, rfl⟩
  go_wp2_with (first
    | (at_builtin; refine put_byte rfl (.tmp 18) (.tmp 22) rfl z rfl GH1.out HB2.out rfl T1.out ?_; intro v2 w2 hg2; refine Hid.out ?_))
  refine hid ?_
  have A2 := hg2.at_ X0.out HXV.out
  have hBW := hg2.below GW.out.own HB2.out
  have LL2 := hid (LL.out.below hBW)
  have LE2 := hid (LE.out.below hBW)
  have GH2 := hid hg2
  clear c0 c1 c2 c3 c4 c5 c6 c7 hg2 hBW
  obtain ⟨c0, c1, c2, c3, c4, c5, c6, c7⟩ := A2
  go_wp2_with fail
  refine (PI.out _ _ _ GH2.out.own (Nat.le_trans HB2.out GH2.out.touch.size) LL2.out LE2.out T2.out).mono ?_
  rintro e3 w3 ⟨v3, rfl, hg3⟩
  have HG3 := GH2.out.trans hg3
  clear hg3
  go_wp2
  go_ret
  refine ⟨_, rfl, Grew.pre HW1.out ?_⟩
  simpa [List.append_assoc] using HG3

/-- An instruction's bytes, with those of its lists. -/
def encOne (x : Ix) (l e : Il) : List Int := x.op :: (encRest x ++ (if kindP x.op = 1 then encL l ++ ((if x.en = 0 then [] else 5 :: encL e) ++ [11]) else []))
theorem encL_cons (x : Ix) (l e r : Il) : encL (.cons x l e r) = encOne x l e ++ encL r := by simp [encL, encOne]
theorem encOne_len {x : Ix} {l e : Il} (hk : kindP x.op = 1) (he0 : x.en = 0 → e = .nil) : (encL l).length + (encL e).length + 3 ≤ (encOne x l e).length := by
  unfold encOne
  rw [if_pos hk, encRest1 hk]
  by_cases h : x.en = 0
  · rw [he0 h, if_pos h]; simp [encL]
  · rw [if_neg h]; simp; omega
theorem appendOne_any (B : Nat) (v : Value) (xs : List Int) (x : Ix) (l e : Il) (w : World) (hv : Own B w v xs) (hB : B ≤ w.heap.size) (hx : May x) (ht : TagsAt B w x.ta x.tags) (hl : ListAt B w x.la x.ln l) (he : ListAt B w x.ea x.en e) (hln : x.ln ≤ 140737488351232) (hen : x.en ≤ 140737488351232) (il : ALok l) (ie : ALok e)
    (hlx : xs.length + (encOne x l e).length ≤ 70368744177664) (he0 : x.en = 0 → e = .nil) : Calls Tryd.prog 65 #[v, .agg x.vals] w (PutsTo B v w (xs ++ encOne x l e)) := by
  have hlx' : xs.length ≤ 70368744177700 := by omega
  have hl3 : kindP x.op = 1 → xs.length + (encL l).length + (encL e).length + 3 ≤ 70368744177664 := fun hk => by have := encOne_len (l := l) hk he0; omega
  clear hlx
  unfold encOne
  rcases parts_kind x.op with ⟨hk, hp⟩ | ⟨hk, hp⟩ | ⟨hk, hp⟩ | ⟨hk, hp⟩ | ⟨hk, hp⟩ | ⟨hk, hp⟩ | ⟨hk, hp⟩ | ⟨hk, hp⟩
  · rw [if_neg (by omega), List.append_nil]; exact put0 B v xs x w hv hB hx ht hlx' hk hp
  · rw [if_pos hk]; exact put1 B v xs x l e w hv hB hx hl he hln hen il ie (hl3 hk) hk hp
  · rw [if_neg (by omega), List.append_nil]; exact put2 B v xs x w hv hB hx ht hlx' hk hp
  · rw [if_neg (by omega), List.append_nil]; exact put3 B v xs x w hv hB hx ht hlx' hk hp
  · rw [if_neg (by omega), List.append_nil]; exact put4 B v xs x w hv hB hx ht hlx' hk hp
  · rw [if_neg (by omega), List.append_nil]; exact put5 B v xs x w hv hB hx ht hlx' hk hp
  · rw [if_neg (by omega), List.append_nil]; exact put6 B v xs x w hv hB hx ht hlx' hk hp
  · rw [if_neg (by omega), List.append_nil]; exact put7 B v xs x w hv hB hx ht hlx' hk hp


set_option maxRecDepth 100000 in
set_option maxHeartbeats 3200000 in
theorem appendList_ok : ∀ (m : Nat) (t : Il), t.count ≤ m → MayT t → ALok t := by
  intro m
  induction m with
  | zero =>
    intro t hm _ B v xs a n c w hv hB hL hn hx
    cases t with
    | cons x l e r => simp only [Il.count] at hm; omega
    | nil =>
      have h0 : n = 0 := hL.1.symm
      subst h0
      have HV := hid hv
      clear hm hL hn hx hv
      go_enter Tryd.func22, Tryd.ntmps22
      go_wp2
      go_loopw [0, 9] (fun s0 si wr => s0 = v ∧ si = .int .i64 0 ∧ wr = w) (fun _ _ _ => 0)
      case atStart => exact ⟨rfl, rfl, rfl⟩
      case round =>
        obtain ⟨rfl, rfl, rfl⟩ := hrel
        go_wp2
        go_ret
        exact ⟨_, rfl, by simpa [encL] using Grew.refl HV.out⟩
  | succ m ih =>
    intro t hm hmay B v xs a n c w hv hB hL hn hx
    have HV := hid hv
    obtain ⟨hL1, hL2⟩ := hL
    rcases hL2 with rfl | ⟨b, off, rfl, hi⟩
    · have h0 : n = 0 := hL1.symm
      subst h0
      clear hm hL1 hn hx hv ih hmay
      go_enter Tryd.func22, Tryd.ntmps22
      go_wp2
      go_loopw [0, 9] (fun s0 si wr => s0 = v ∧ si = .int .i64 0 ∧ wr = w) (fun _ _ _ => 0)
      case atStart => exact ⟨rfl, rfl, rfl⟩
      case round =>
        obtain ⟨rfl, rfl, rfl⟩ := hrel
        go_wp2
        go_ret
        exact ⟨_, rfl, by simpa [encL] using Grew.refl HV.out⟩
    · have HM := hid hm
      have HX := hid hx
      have HL1 := hid hL1
      have HI := hid hi
      have HMAY := hid hmay
      have HIH := hid ih
      clear hm hx hL1 hi hmay ih hv
      go_enter Tryd.func22, Tryd.ntmps22
      go_wp2
      go_loopw [0, 9] (fun s0 si wr => ∃ (k : Nat) (rest : Il) (ys : List Int), si = .int .i64 k ∧ k ≤ n ∧ Hid (k + rest.len = n ∧ rest.count ≤ t.count ∧ MayT rest ∧ ys ++ encL rest = encL t) ∧ Hid (Items B w b (off + k * 8) rest) ∧ Hid (Grew B v w s0 (xs ++ ys) wr))
        (fun _ si _ => n - (intOf si).toNat)
      case atStart => exact ⟨0, t, [], rfl, Nat.zero_le _, ⟨by have := HL1.out; omega, Nat.le_refl _, HMAY.out, rfl⟩, by simpa using HI, hid (by simpa using Grew.refl HV.out)⟩
      case round =>
        obtain ⟨k, rest, ys, rfl, hk, HR, HIR, HG⟩ := hrel
        cases rest with
        | nil =>
          obtain ⟨r1, _, _, r4⟩ := HR.out
          have hkl : k = n := by simpa [Il.len] using r1
          have HE : Hid (ys = encL t) := by show _ = _; rw [← r4]; simp [encL]
          clear r4
          subst hkl
          rw [HE.out] at HG
          go_wp2
          go_ret
          exact ⟨_, rfl, HG.out⟩
        | cons x tl te r =>
          obtain ⟨r1, r2, r3, r4⟩ := HR.out
          obtain ⟨mx, mfl, mfe, mtl, mte, mr⟩ := r3
          have hbw := HG.out.below HV.out hB
          have hir := Items.below hbw HIR.out
          obtain ⟨hbn, hxok, ⟨c0, c1, c2, c3, c4, c5, c6, c7⟩, ht, hLl, hLe, _⟩ := hir
          have hlt : k < n := by simp only [Il.len] at r1; omega
          have hcnt : tl.count ≤ m ∧ te.count ≤ m := by have := HM.out; simp only [Il.count] at r2; omega
          rw [encL_cons] at r4
          have hlen4 : (xs ++ ys).length + (encOne x tl te).length ≤ 70368744177664 := by
            have h1 := congrArg List.length r4
            have h2 := HX.out
            simp only [List.length_append] at h1 ⊢
            omega
          have AO := appendOne_any B
          have PO := hid (fun (v' : Value) (w' : World) (h1 : Own B w' v' (xs ++ ys)) (h2 : B ≤ w'.heap.size) (hb : Below B w w') =>
            AO v' (xs ++ ys) x tl te w' h1 h2 mx ((HIR.out).2.2.2.1.below hb) (ListAt.below hb (HIR.out).2.2.2.2.1) (ListAt.below hb (HIR.out).2.2.2.2.2.1) hxok.ln hxok.en (HIH.out tl hcnt.1 mtl) (HIH.out te hcnt.2 mte) hlen4 (fun h => list_of_row.len_zero (by omega)))
          have HNX : Hid (Items B w b (off + (k + 1) * 8) r) := by
            rw [show off + (k + 1) * 8 = off + k * 8 + 8 by omega]
            exact hid (HIR.out).2.2.2.2.2.2
          have HR2 : Hid ((k + 1) + r.len = n ∧ r.count ≤ t.count ∧ MayT r ∧ (ys ++ encOne x tl te) ++ encL r = encL t) := hid ⟨by simp only [Il.len] at r1; omega, by simp only [Il.count] at r2; omega, mr, by rw [List.append_assoc]; exact r4⟩
          have G0 := hid (HG.out.post ((Below.refl wr.heap.size wr).alloc (Nat.le_refl _) (.cells x.vals 61)))
          obtain ⟨eo, heo⟩ : ∃ r, encOne x tl te = r := ⟨_, rfl⟩
          rw [heo] at PO HR2
          clear r1 r2 r4 hcnt hlen4 AO heo mx mfl mfe mtl mte mr hbw ht hLl hLe hxok hbn
          unfold Ix.vals at PO G0
          go_wp2_with fail
          refine (PO.out _ _ G0.out.own (Nat.le_trans hB G0.out.touch.size) (G0.out.below HV.out hB)).mono ?_
          clear PO
          rintro e3 w3 ⟨v3, rfl, hg3⟩
          have HG3 := hid (G0.out.trans hg3)
          clear hg3
          go_wp2
          go_roundw
          case rel => exact ⟨k + 1, r, ys ++ eo, by simp, by omega, HR2, HNX, by rw [← List.append_assoc]; exact HG3⟩
          case measure => simp [intOf]; omega
theorem appendList_any (t : Il) (h : MayT t) : ALok t := appendList_ok t.count t (Nat.le_refl _) h
end Go.Proofs.YtlfflomeaplidaaDoor.Body

/-
  BODY: Put, by contract.
-/
namespace Go.Proofs.YtlfflomeaplidaaDoor.Body
open Go.RowKit Go.Proofs.YtlfflomeaplidaaDoor.Instr Go.Proofs.YtlfflomeaplidaaDoor.Leb
open Go.Proofs.YtlfflomeaplidaaDoor.Kind (Rd numR refuseR startR numR_good numR_bounds refuseR_good getL_next)

theorem items_fit {n₀ : Nat} {w : World} : ∀ {t : Il} {b off : Nat}, Items n₀ w b off t → t.fit ∧ t.nums
  | .nil, _, _, _ => ⟨trivial, trivial⟩
  | .cons x l e r, _, _, ⟨_, hx, _, _, ⟨l1, l2⟩, ⟨e1, e2⟩, hr⟩ => by
    have hl : l.fit ∧ l.nums := by
      rcases l2 with rfl | ⟨b', o', _, hi⟩
      · exact ⟨trivial, trivial⟩
      · exact items_fit hi
    have he : e.fit ∧ e.nums := by
      rcases e2 with rfl | ⟨b', o', _, hi⟩
      · exact ⟨trivial, trivial⟩
      · exact items_fit hi
    have hr := items_fit hr
    exact ⟨⟨l1, e1, hl.1, he.1, hr.1⟩, ⟨hx.a, hx.b, hx.n, hx.tags, hl.2, he.2, hr.2⟩⟩
theorem list_fits {n₀ : Nat} {w : World} {a : Option Addr} {n : Nat} {t : Il} (h : ListAt n₀ w a n t) : t.fit ∧ t.nums := by
  rcases h.2 with rfl | ⟨b, o, _, hi⟩
  · exact ⟨trivial, trivial⟩
  · exact items_fit hi
theorem check_parts {t : Il} (h : checkP t = 0) : t.all = true ∧ t.count ≤ 262144 ∧ t.deep ≤ 900 ∧ t.tags = false := by
  unfold checkP at h
  split at h
  · rename_i ha
    split at h
    · omega
    · rename_i hb
      refine ⟨ha, by omega, by omega, ?_⟩
      rw [← Bool.not_eq_true]
      intro ht
      exact hb (.inr (.inr ht))
  · omega
theorem mayT_list {n₀ : Nat} {w : World} {a : Option Addr} {n : Nat} {t : Il} (h : ListAt n₀ w a n t) (hc : checkP t = 0) : MayT t := by
  obtain ⟨h1, _, _, h4⟩ := check_parts hc
  obtain ⟨h5, h6⟩ := list_fits h
  exact mayT_of t h1 h4 h5 h6
/-- Bytes and no error; or the error alone. -/
def PutP (w : World) (zs : List Int) (er : Int) (e : Ending) (w' : World) : Prop := ∃ v, e = .returned (.tuple #[v, .int .i64 er]) ∧ Own w.heap.size w' v zs ∧ Below w.heap.size w w'
def putB (t : Il) : List Int := if checkP t = 0 then encP t else []

set_option maxRecDepth 100000 in
set_option maxHeartbeats 1600000 in
theorem Put_any (t : Il) (a : Option Addr) (n c : Nat) (w : World) (hL : ListAt w.heap.size w a n t) (hn : n ≤ 140737488351232) (hT : Nams w) (hc : t.count ≤ 4611686018427387900) (hx : (encL t).length ≤ 70368744177664) :
    Calls Tryd.prog 8 #[.slice a n c] w (PutP w (putB t) (checkP t)) := by
  have CK := hid (Check_any a n c t w hT hL hc hn)
  by_cases h0 : checkP t = 0
  · have hm := mayT_list hL h0
    have AL := hid (fun w' (hb : Below w.heap.size w w') => appendList_any t hm w'.heap.size (.slice none 0 0) [] a n c w' ⟨rfl, .inl ⟨rfl, rfl⟩⟩ (Nat.le_refl _) (hL.on hb) hn (by simpa using hx))
    unfold putB
    rw [if_pos h0]
    rw [h0] at CK ⊢
    obtain ⟨z, hz⟩ : ∃ z, encL t = z := ⟨_, rfl⟩
    unfold encP
    rw [hz] at AL hx ⊢
    have HX := hid hx
    clear hL hn hT hc hx h0 hm hz
    go_enter Tryd.func8, Tryd.ntmps8
    go_wp2_with fail
    refine CK.out.mono ?_
    clear CK
    rintro e w1 ⟨rfl, hb1⟩
    go_wp2_with fail
    refine (AL.out w1 hb1).mono ?_
    clear AL
    rintro e w2 ⟨v2, rfl, hg2⟩
    simp only [List.nil_append] at hg2
    have HG := hid hg2
    have HB : Hid (w1.heap.size ≤ w1.heap.size) := hid (Nat.le_refl _)
    have HB1 := hid hb1
    have T1 := hid (show z.length ≤ 140737488351232 by have := HX.out; omega)
    clear hg2
    go_wp2_with (first
      | (at_builtin; refine put_byte rfl (.tmp 11) (.tmp 12) rfl 11 rfl HG.out HB.out rfl T1.out ?_; intro v3 w3 hg3; refine Hid.out ?_))
    refine hid ?_
    go_wp2
    go_ret2
    refine ⟨v3, rfl, hg3.own.mono hb1.size, HB1.out.trans ((hg3.below (show Own w1.heap.size w1 (.slice none 0 0) [] from ⟨rfl, .inl ⟨rfl, rfl⟩⟩) (Nat.le_refl _)).mono hb1.size)⟩
  · unfold putB
    rw [if_neg h0]
    obtain ⟨q, hq⟩ : ∃ q, checkP t = q := ⟨_, rfl⟩
    rw [hq] at CK h0 ⊢
    have h1 : (q != 0) = true := by simp [h0]
    clear hL hn hT hc hx hq
    go_enter Tryd.func8, Tryd.ntmps8
    go_wp2_with fail
    refine CK.out.mono ?_
    clear CK
    rintro e w1 ⟨rfl, hb1⟩
    go_wp2
    go_ret2
    exact ⟨_, rfl, ⟨rfl, .inl ⟨rfl, rfl⟩⟩, hb1⟩
end Go.Proofs.YtlfflomeaplidaaDoor.Body
