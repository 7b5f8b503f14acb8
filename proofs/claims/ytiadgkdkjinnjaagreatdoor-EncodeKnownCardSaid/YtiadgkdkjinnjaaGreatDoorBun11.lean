import Derived.Test.YtiadgkdkjinnjaaGreatDoorBun06
import Derived.Test.YtiadgkdkjinnjaaGreatDoorBun07
import Derived.Test.YtiadgkdkjinnjaaGreatDoorBun02
import Derived.Test.YtiadgkdkjinnjaaGreatDoorBun01
/-
  BODY: appendOne of a Block, a Loop, an If; appendList, by contract.
-/
namespace Go.Proofs.YtiadgkdkjinnjaaGreatDoor.Body
open Go.RowKit Go.Proofs.YtiadgkdkjinnjaaGreatDoor.Instr Go.Proofs.YtiadgkdkjinnjaaGreatDoor.Leb
open Go.Proofs.YtiadgkdkjinnjaaGreatDoor.Kind (Rd numR refuseR startR numR_good numR_bounds refuseR_good getL_next)

set_option maxRecDepth 100000 in
set_option maxHeartbeats 3200000 in
theorem put1 (B : Nat) (v : Value) (xs : List Int) (x : Ix) (l e : Il) (w : World) (hv : Own B w v xs) (hB : B ≤ w.heap.size) (hx : May x) (hl : ListAt B w x.la x.ln l) (he : ListAt B w x.ea x.en e) (hln : x.ln ≤ 140737488351232) (hen : x.en ≤ 140737488351232) (il : ALok l) (ie : ALok e)
    (hlx : xs.length + (encL l).length + (encL e).length + 3 ≤ 70368744177664) (hk : kindP x.op = 1) (hp : partsP x.op = 65) :
    Calls Tryz.prog 230 #[v, .agg x.vals] w (PutsTo B v w (xs ++ (x.op :: (encRest x ++ (encL l ++ ((if x.en = 0 then [] else 5 :: encL e) ++ [11])))))) := by
  have hop := name_range ((lawful_iff x).1 hx.law).1
  obtain ⟨o0, o1, _, _⟩ := hop
  have F := hid (fun w' => follows_any x.op w')
  rw [hp] at F
  have b1 : bits .and .u8 65 1 = 1 := by decide
  have b2 : bits .and .u8 65 2 = 0 := by decide
  have b4 : bits .and .u8 65 4 = 0 := by decide
  have b8 : bits .and .u8 65 8 = 0 := by decide
  have b16 : bits .and .u8 65 16 = 0 := by decide
  have b32 : bits .and .u8 65 32 = 0 := by decide
  have b64 : bits .and .u8 65 64 = 64 := by decide
  have hXv : v.ownBlock ≠ some w.heap.size := fun h => by have := (World.ownsRow.lt hv _ h).2; omega
  have HXV := hid hXv
  have HW1 : Hid (Below w.heap.size w (w.alloc (.cells x.vals 126))) := hid ((Below.refl w.heap.size w).alloc (Nat.le_refl _) _)
  have X0 := hid (At.made x w)
  have GW : Hid (Grew B v (w.alloc (.cells x.vals 126)) v xs (w.alloc (.cells x.vals 126))) := hid (Grew.refl (hv.alloc _))
  have HB2 : Hid (B ≤ (w.alloc (.cells x.vals 126)).heap.size) := by refine hid ?_; simp; omega
  have LL := hid (hl.below (HW1.out.mono hB))
  have LE := hid (he.below (HW1.out.mono hB))
  have PI := hid (fun (v' : Value) (zs : List Int) (w' : World) (h1 : Own B w' v' zs) (h2 : B ≤ w'.heap.size) (h3 : ListAt B w' x.la x.ln l) (h4 : ListAt B w' x.ea x.en e) (h5 : zs.length + (encL l).length + (encL e).length + 1 ≤ 70368744177664) => inner_any B v' zs x l e w' h1 h2 h3 h4 hln hen il ie h5)
  rw [encRest1 hk]
  obtain ⟨ei, hei⟩ : ∃ r, encL l ++ ((if x.en = 0 then [] else 5 :: encL e) ++ [11]) = r := ⟨_, rfl⟩
  rw [hei] at PI ⊢
  have HL := hid hlx
  obtain ⟨z, hz⟩ : ∃ z : Int, (if x.res = 0 then 64 else 127) = z := ⟨_, rfl⟩
  have PR := hid (fun w' => putResults_any x.res w')
  rw [hz] at PR ⊢
  clear hv hB hl he hln hen il ie hlx hXv hei hk hp hx hz
  unfold Ix.vals at GW X0 HB2 HW1 LL LE PI ⊢
  obtain ⟨c0, c1, c2, c3, c4, c5, c6, c7⟩ := X0.out
  have T0 := hid (show xs.length ≤ 140737488351232 by have := HL.out; omega)
  have T1 := hid (show (xs ++ [x.op]).length ≤ 140737488351232 by have := HL.out; simp only [List.length_append, List.length_cons, List.length_nil]; omega)
  have T2 := hid (show (xs ++ [x.op] ++ [z]).length + (encL l).length + (encL e).length + 1 ≤ 70368744177664 by have := HL.out; simp only [List.length_append, List.length_cons, List.length_nil]; omega)
  go_enter Tryz.func230, Tryz.ntmps230
  go_wp2_with fail
  refine (F.out _).mono ?_
  rintro e w' ⟨rfl, rfl⟩
  generalize hW1 : (w.alloc (.cells #[.int .i64 x.op, .int .i64 x.res, .int .u32 x.a, .int .u32 x.b, .int .i32 x.n, .slice x.ta x.tags.length x.tc, .slice x.la x.ln x.lc, .slice x.ea x.en x.ec] 126)) = W1 at *
  go_wp2_with (first
    | (at_builtin; refine put_byte rfl (.tmp 9) (.tmp 13) rfl x.op rfl GW.out HB2.out rfl T0.out ?_; intro v1 w1 hg1; refine Hid.out ?_))
  refine hid ?_
  have A1 := hg1.at_ X0.out HXV.out
  have GH1 := hid hg1
  clear c0 c1 c2 c3 c4 c5 c6 c7 hg1
  obtain ⟨c0, c1, c2, c3, c4, c5, c6, c7⟩ := A1
  go_wp2_with fail
  refine (PR.out _).mono ?_
  rintro e w' ⟨rfl, rfl⟩
  go_wp2_with (first
    | (at_builtin; refine put_byte rfl (.tmp 18) (.tmp 22) rfl z rfl GH1.out HB2.out rfl T1.out ?_; intro v2 w2 hg2; refine Hid.out ?_))
  refine hid ?_
  have A2 := hg2.at_ X0.out HXV.out
  have hBW := hg2.below GW.out.own HB2.out
  have LL2 := hid (LL.out.below hBW)
  have LE2 := hid (LE.out.below hBW)
  have GH2 := hid hg2
  clear c0 c1 c2 c3 c4 c5 c6 c7 hg2 hBW
  obtain ⟨c0, c1, c2, c3, c4, c5, c6, c7⟩ := A2
  go_wp2_with fail
  refine (PI.out _ _ _ GH2.out.own (Nat.le_trans HB2.out GH2.out.touch.size) LL2.out LE2.out T2.out).mono ?_
  rintro e3 w3 ⟨v3, rfl, hg3⟩
  have HG3 := GH2.out.trans hg3
  clear hg3
  go_wp2
  go_ret
  refine ⟨_, rfl, Grew.pre HW1.out ?_⟩
  simpa [List.append_assoc] using HG3

/-- An instruction's bytes, with those of its lists. -/
def encOne (x : Ix) (l e : Il) : List Int := x.op :: (encRest x ++ (if kindP x.op = 1 then encL l ++ ((if x.en = 0 then [] else 5 :: encL e) ++ [11]) else []))
theorem encL_cons (x : Ix) (l e r : Il) : encL (.cons x l e r) = encOne x l e ++ encL r := by simp [encL, encOne]
theorem encOne_len {x : Ix} {l e : Il} (hk : kindP x.op = 1) (he0 : x.en = 0 → e = .nil) : (encL l).length + (encL e).length + 3 ≤ (encOne x l e).length := by
  unfold encOne
  rw [if_pos hk, encRest1 hk]
  by_cases h : x.en = 0
  · rw [he0 h, if_pos h]; simp [encL]
  · rw [if_neg h]; simp; omega
theorem appendOne_any (B : Nat) (v : Value) (xs : List Int) (x : Ix) (l e : Il) (w : World) (hv : Own B w v xs) (hB : B ≤ w.heap.size) (hx : May x) (ht : TagsAt B w x.ta x.tags) (hl : ListAt B w x.la x.ln l) (he : ListAt B w x.ea x.en e) (hln : x.ln ≤ 140737488351232) (hen : x.en ≤ 140737488351232) (il : ALok l) (ie : ALok e)
    (hlx : xs.length + (encOne x l e).length ≤ 70368744177664) (he0 : x.en = 0 → e = .nil) : Calls Tryz.prog 230 #[v, .agg x.vals] w (PutsTo B v w (xs ++ encOne x l e)) := by
  have hlx' : xs.length ≤ 70368744177700 := by omega
  have hl3 : kindP x.op = 1 → xs.length + (encL l).length + (encL e).length + 3 ≤ 70368744177664 := fun hk => by have := encOne_len (l := l) hk he0; omega
  clear hlx
  unfold encOne
  rcases parts_kind x.op with ⟨hk, hp⟩ | ⟨hk, hp⟩ | ⟨hk, hp⟩ | ⟨hk, hp⟩ | ⟨hk, hp⟩ | ⟨hk, hp⟩ | ⟨hk, hp⟩ | ⟨hk, hp⟩
  · rw [if_neg (by omega), List.append_nil]; exact put0 B v xs x w hv hB hx ht hlx' hk hp
  · rw [if_pos hk]; exact put1 B v xs x l e w hv hB hx hl he hln hen il ie (hl3 hk) hk hp
  · rw [if_neg (by omega), List.append_nil]; exact put2 B v xs x w hv hB hx ht hlx' hk hp
  · rw [if_neg (by omega), List.append_nil]; exact put3 B v xs x w hv hB hx ht hlx' hk hp
  · rw [if_neg (by omega), List.append_nil]; exact put4 B v xs x w hv hB hx ht hlx' hk hp
  · rw [if_neg (by omega), List.append_nil]; exact put5 B v xs x w hv hB hx ht hlx' hk hp
  · rw [if_neg (by omega), List.append_nil]; exact put6 B v xs x w hv hB hx ht hlx' hk hp
  · rw [if_neg (by omega), List.append_nil]; exact put7 B v xs x w hv hB hx ht hlx' hk hp


set_option maxRecDepth 100000 in
set_option maxHeartbeats 3200000 in
theorem appendList_ok : ∀ (m : Nat) (t : Il), t.count ≤ m → MayT t → ALok t := by
  intro m
  induction m with
  | zero =>
    intro t hm _ B v xs a n c w hv hB hL hn hx
    cases t with
    | cons x l e r => simp only [Il.count] at hm; omega
    | nil =>
      have h0 : n = 0 := hL.1.symm
      subst h0
      have HV := hid hv
      clear hm hL hn hx hv
      go_enter Tryz.func214, Tryz.ntmps214
      go_wp2
      go_loopw [0, 9] (fun s0 si wr => s0 = v ∧ si = .int .i64 0 ∧ wr = w) (fun _ _ _ => 0)
      case atStart => exact ⟨rfl, rfl, rfl⟩
      case round =>
        obtain ⟨rfl, rfl, rfl⟩ := hrel
        go_wp2
        go_ret
        exact ⟨_, rfl, by simpa [encL] using Grew.refl HV.out⟩
  | succ m ih =>
    intro t hm hmay B v xs a n c w hv hB hL hn hx
    have HV := hid hv
    obtain ⟨hL1, hL2⟩ := hL
    rcases hL2 with rfl | ⟨b, off, rfl, hi⟩
    · have h0 : n = 0 := hL1.symm
      subst h0
      clear hm hL1 hn hx hv ih hmay
      go_enter Tryz.func214, Tryz.ntmps214
      go_wp2
      go_loopw [0, 9] (fun s0 si wr => s0 = v ∧ si = .int .i64 0 ∧ wr = w) (fun _ _ _ => 0)
      case atStart => exact ⟨rfl, rfl, rfl⟩
      case round =>
        obtain ⟨rfl, rfl, rfl⟩ := hrel
        go_wp2
        go_ret
        exact ⟨_, rfl, by simpa [encL] using Grew.refl HV.out⟩
    · have HM := hid hm
      have HX := hid hx
      have HL1 := hid hL1
      have HI := hid hi
      have HMAY := hid hmay
      have HIH := hid ih
      clear hm hx hL1 hi hmay ih hv
      go_enter Tryz.func214, Tryz.ntmps214
      go_wp2
      go_loopw [0, 9] (fun s0 si wr => ∃ (k : Nat) (rest : Il) (ys : List Int), si = .int .i64 k ∧ k ≤ n ∧ Hid (k + rest.len = n ∧ rest.count ≤ t.count ∧ MayT rest ∧ ys ++ encL rest = encL t) ∧ Hid (Items B w b (off + k * 8) rest) ∧ Hid (Grew B v w s0 (xs ++ ys) wr))
        (fun _ si _ => n - (intOf si).toNat)
      case atStart => exact ⟨0, t, [], rfl, Nat.zero_le _, ⟨by have := HL1.out; omega, Nat.le_refl _, HMAY.out, rfl⟩, by simpa using HI, hid (by simpa using Grew.refl HV.out)⟩
      case round =>
        obtain ⟨k, rest, ys, rfl, hk, HR, HIR, HG⟩ := hrel
        cases rest with
        | nil =>
          obtain ⟨r1, _, _, r4⟩ := HR.out
          have hkl : k = n := by simpa [Il.len] using r1
          have HE : Hid (ys = encL t) := by show _ = _; rw [← r4]; simp [encL]
          clear r4
          subst hkl
          rw [HE.out] at HG
          go_wp2
          go_ret
          exact ⟨_, rfl, HG.out⟩
        | cons x tl te r =>
          obtain ⟨r1, r2, r3, r4⟩ := HR.out
          obtain ⟨mx, mfl, mfe, mtl, mte, mr⟩ := r3
          have hbw := HG.out.below HV.out hB
          have hir := Items.below hbw HIR.out
          obtain ⟨hbn, hxok, ⟨c0, c1, c2, c3, c4, c5, c6, c7⟩, ht, hLl, hLe, _⟩ := hir
          have hlt : k < n := by simp only [Il.len] at r1; omega
          have hcnt : tl.count ≤ m ∧ te.count ≤ m := by have := HM.out; simp only [Il.count] at r2; omega
          rw [encL_cons] at r4
          have hlen4 : (xs ++ ys).length + (encOne x tl te).length ≤ 70368744177664 := by
            have h1 := congrArg List.length r4
            have h2 := HX.out
            simp only [List.length_append] at h1 ⊢
            omega
          have AO := appendOne_any B
          have PO := hid (fun (v' : Value) (w' : World) (h1 : Own B w' v' (xs ++ ys)) (h2 : B ≤ w'.heap.size) (hb : Below B w w') =>
            AO v' (xs ++ ys) x tl te w' h1 h2 mx ((HIR.out).2.2.2.1.below hb) (ListAt.below hb (HIR.out).2.2.2.2.1) (ListAt.below hb (HIR.out).2.2.2.2.2.1) hxok.ln hxok.en (HIH.out tl hcnt.1 mtl) (HIH.out te hcnt.2 mte) hlen4 (fun h => list_of_row.len_zero (by omega)))
          have HNX : Hid (Items B w b (off + (k + 1) * 8) r) := by
            rw [show off + (k + 1) * 8 = off + k * 8 + 8 by omega]
            exact hid (HIR.out).2.2.2.2.2.2
          have HR2 : Hid ((k + 1) + r.len = n ∧ r.count ≤ t.count ∧ MayT r ∧ (ys ++ encOne x tl te) ++ encL r = encL t) := hid ⟨by simp only [Il.len] at r1; omega, by simp only [Il.count] at r2; omega, mr, by rw [List.append_assoc]; exact r4⟩
          have G0 := hid (HG.out.post ((Below.refl wr.heap.size wr).alloc (Nat.le_refl _) (.cells x.vals 126)))
          obtain ⟨eo, heo⟩ : ∃ r, encOne x tl te = r := ⟨_, rfl⟩
          rw [heo] at PO HR2
          clear r1 r2 r4 hcnt hlen4 AO heo mx mfl mfe mtl mte mr hbw ht hLl hLe hxok hbn
          unfold Ix.vals at PO G0
          go_wp2_with fail
          refine (PO.out _ _ G0.out.own (Nat.le_trans hB G0.out.touch.size) (G0.out.below HV.out hB)).mono ?_
          clear PO
          rintro e3 w3 ⟨v3, rfl, hg3⟩
          have HG3 := hid (G0.out.trans hg3)
          clear hg3
          go_wp2
          go_roundw
          case rel => exact ⟨k + 1, r, ys ++ eo, by simp, by omega, HR2, HNX, by rw [← List.append_assoc]; exact HG3⟩
          case measure => simp [intOf]; omega
theorem appendList_any (t : Il) (h : MayT t) : ALok t := appendList_ok t.count t (Nat.le_refl _) h
end Go.Proofs.YtiadgkdkjinnjaaGreatDoor.Body

/-
  BODY: Put, by contract.
-/
namespace Go.Proofs.YtiadgkdkjinnjaaGreatDoor.Body
open Go.RowKit Go.Proofs.YtiadgkdkjinnjaaGreatDoor.Instr Go.Proofs.YtiadgkdkjinnjaaGreatDoor.Leb
open Go.Proofs.YtiadgkdkjinnjaaGreatDoor.Kind (Rd numR refuseR startR numR_good numR_bounds refuseR_good getL_next)

theorem items_fit {n₀ : Nat} {w : World} : ∀ {t : Il} {b off : Nat}, Items n₀ w b off t → t.fit ∧ t.nums
  | .nil, _, _, _ => ⟨trivial, trivial⟩
  | .cons x l e r, _, _, ⟨_, hx, _, _, ⟨l1, l2⟩, ⟨e1, e2⟩, hr⟩ => by
    have hl : l.fit ∧ l.nums := by
      rcases l2 with rfl | ⟨b', o', _, hi⟩
      · exact ⟨trivial, trivial⟩
      · exact items_fit hi
    have he : e.fit ∧ e.nums := by
      rcases e2 with rfl | ⟨b', o', _, hi⟩
      · exact ⟨trivial, trivial⟩
      · exact items_fit hi
    have hr := items_fit hr
    exact ⟨⟨l1, e1, hl.1, he.1, hr.1⟩, ⟨hx.a, hx.b, hx.n, hx.tags, hl.2, he.2, hr.2⟩⟩
theorem list_fits {n₀ : Nat} {w : World} {a : Option Addr} {n : Nat} {t : Il} (h : ListAt n₀ w a n t) : t.fit ∧ t.nums := by
  rcases h.2 with rfl | ⟨b, o, _, hi⟩
  · exact ⟨trivial, trivial⟩
  · exact items_fit hi
theorem check_parts {t : Il} (h : checkP t = 0) : t.all = true ∧ t.count ≤ 262144 ∧ t.deep ≤ 900 ∧ t.tags = false := by
  unfold checkP at h
  split at h
  · rename_i ha
    split at h
    · omega
    · rename_i hb
      refine ⟨ha, by omega, by omega, ?_⟩
      rw [← Bool.not_eq_true]
      intro ht
      exact hb (.inr (.inr ht))
  · omega
theorem mayT_list {n₀ : Nat} {w : World} {a : Option Addr} {n : Nat} {t : Il} (h : ListAt n₀ w a n t) (hc : checkP t = 0) : MayT t := by
  obtain ⟨h1, _, _, h4⟩ := check_parts hc
  obtain ⟨h5, h6⟩ := list_fits h
  exact mayT_of t h1 h4 h5 h6
/-- Bytes and no error; or the error alone. -/
def PutP (w : World) (zs : List Int) (er : Int) (e : Ending) (w' : World) : Prop := ∃ v, e = .returned (.tuple #[v, .int .i64 er]) ∧ Own w.heap.size w' v zs ∧ Below w.heap.size w w'
def putB (t : Il) : List Int := if checkP t = 0 then encP t else []

set_option maxRecDepth 100000 in
set_option maxHeartbeats 1600000 in
theorem Put_any (t : Il) (a : Option Addr) (n c : Nat) (w : World) (hL : ListAt w.heap.size w a n t) (hn : n ≤ 140737488351232) (hT : Nams w) (hc : t.count ≤ 4611686018427387900) (hx : (encL t).length ≤ 70368744177664) :
    Calls Tryz.prog 198 #[.slice a n c] w (PutP w (putB t) (checkP t)) := by
  have CK := hid (Check_any a n c t w hT hL hc hn)
  by_cases h0 : checkP t = 0
  · have hm := mayT_list hL h0
    have AL := hid (fun w' (hb : Below w.heap.size w w') => appendList_any t hm w'.heap.size (.slice none 0 0) [] a n c w' ⟨rfl, .inl ⟨rfl, rfl⟩⟩ (Nat.le_refl _) (hL.on hb) hn (by simpa using hx))
    unfold putB
    rw [if_pos h0]
    rw [h0] at CK ⊢
    obtain ⟨z, hz⟩ : ∃ z, encL t = z := ⟨_, rfl⟩
    unfold encP
    rw [hz] at AL hx ⊢
    have HX := hid hx
    clear hL hn hT hc hx h0 hm hz
    go_enter Tryz.func198, Tryz.ntmps198
    go_wp2_with fail
    refine CK.out.mono ?_
    clear CK
    rintro e w1 ⟨rfl, hb1⟩
    go_wp2_with fail
    refine (AL.out w1 hb1).mono ?_
    clear AL
    rintro e w2 ⟨v2, rfl, hg2⟩
    simp only [List.nil_append] at hg2
    have HG := hid hg2
    have HB : Hid (w1.heap.size ≤ w1.heap.size) := hid (Nat.le_refl _)
    have HB1 := hid hb1
    have T1 := hid (show z.length ≤ 140737488351232 by have := HX.out; omega)
    clear hg2
    go_wp2_with (first
      | (at_builtin; refine put_byte rfl (.tmp 11) (.tmp 12) rfl 11 rfl HG.out HB.out rfl T1.out ?_; intro v3 w3 hg3; refine Hid.out ?_))
    refine hid ?_
    go_wp2
    go_ret2
    refine ⟨v3, rfl, hg3.own.mono hb1.size, HB1.out.trans ((hg3.below (show Own w1.heap.size w1 (.slice none 0 0) [] from ⟨rfl, .inl ⟨rfl, rfl⟩⟩) (Nat.le_refl _)).mono hb1.size)⟩
  · unfold putB
    rw [if_neg h0]
    obtain ⟨q, hq⟩ : ∃ q, checkP t = q := ⟨_, rfl⟩
    rw [hq] at CK h0 ⊢
    have h1 : (q != 0) = true := by simp [h0]
    clear hL hn hT hc hx hq
    go_enter Tryz.func198, Tryz.ntmps198
    go_wp2_with fail
    refine CK.out.mono ?_
    clear CK
    rintro e w1 ⟨rfl, hb1⟩
    go_wp2
    go_ret2
    exact ⟨_, rfl, ⟨rfl, .inl ⟨rfl, rfl⟩⟩, hb1⟩
end Go.Proofs.YtiadgkdkjinnjaaGreatDoor.Body

/-
  BODY: PutCode, by contract.
-/
namespace Go.Proofs.YtiadgkdkjinnjaaGreatDoor.Body
open Go.RowKit Go.Proofs.YtiadgkdkjinnjaaGreatDoor.Instr Go.Proofs.YtiadgkdkjinnjaaGreatDoor.Leb
open Go.Proofs.YtiadgkdkjinnjaaGreatDoor.Kind (Parts concat_any)

theorem parts3 {w : World} {g : Nat} (hg : g = w.heap.size) {a0 a1 a2 : Option Addr} {n0 n1 n2 c0 c1 c2 : Nat} {t : TypeId} {l0 l1 l2 : List Int} (h0 : Bytes w a0 l0) (h1 : Bytes w a1 l1) (h2 : Bytes w a2 l2) (k0 : l0.length = n0) (k1 : l1.length = n1) (k2 : l2.length = n2)
    (m0 : a0 = none → c0 = 0) (m1 : a1 = none → c1 = 0) (m2 : a2 = none → c2 = 0) : Parts (w.alloc (.cells #[.slice a0 n0 c0, .slice a1 n1 c1, .slice a2 n2 c2] t)) g [l0, l1, l2] := by
  subst hg
  intro j hj
  match j, hj with
  | 0, _ => exact ⟨a0, c0, by subst k0; go_simp, h0.alloc _, m0⟩
  | 1, _ => exact ⟨a1, c1, by subst k1; go_simp, h1.alloc _, m1⟩
  | 2, _ => exact ⟨a2, c2, by subst k2; go_simp, h2.alloc _, m2⟩
theorem parts2 {w : World} {g : Nat} (hg : g = w.heap.size) {a0 a1 : Option Addr} {n0 n1 c0 c1 : Nat} {t : TypeId} {l0 l1 : List Int} (h0 : Bytes w a0 l0) (h1 : Bytes w a1 l1) (k0 : l0.length = n0) (k1 : l1.length = n1)
    (m0 : a0 = none → c0 = 0) (m1 : a1 = none → c1 = 0) : Parts (w.alloc (.cells #[.slice a0 n0 c0, .slice a1 n1 c1] t)) g [l0, l1] := by
  subst hg
  intro j hj
  match j, hj with
  | 0, _ => exact ⟨a0, c0, by subst k0; go_simp, h0.alloc _, m0⟩
  | 1, _ => exact ⟨a1, c1, by subst k1; go_simp, h1.alloc _, m1⟩
theorem made_one (w : World) (e : TypeId) (g : Nat) (hg : g = w.heap.size) : Bytes (w.alloc (.cells #[.int .u8 127] e)) (some ⟨g, 0, none⟩) [127] := by
  subst hg
  refine ⟨by simp, by simp, .inr ⟨w.heap.size, 0, rfl, fun i hi => ?_⟩⟩
  obtain rfl : i = 0 := by simpa using hi
  simp [go_sem]
theorem loc_flat {n : Int} (h : n ≠ 0) : [encU 1, encU n, [127]].flatten = locL n := by unfold locL; rw [if_neg h]; simp [show encU 1 = [1] from encU_last (by omega) (by omega)]
theorem loc_len (n : Int) : (locL n).length ≤ 7 ∧ locL n ≠ [] := by
  have := (encU_lens n).1
  unfold locL
  split <;> simp; omega
theorem loc_bytes (n : Int) : ∀ z ∈ locL n, 0 ≤ z ∧ z < 256 := by
  intro z hz
  unfold locL at hz
  split at hz
  · simp at hz; omega
  · rcases List.mem_cons.1 hz with rfl | hz
    · omega
    · rcases List.mem_append.1 hz with h | h
      · exact encU_bytes _ z h
      · simp at h; omega

theorem rest_bytesC {x : Ix} (_hx : May x) : ∀ z ∈ encRest x, 0 ≤ z ∧ z < 256 := by
  intro z hz
  unfold encRest encTags at hz
  split at hz
  · split at hz <;> simp at hz <;> omega
  · exact encU_bytes _ z hz
  · rcases List.mem_append.1 hz with h | h
    · exact encU_bytes _ z h
    · simp at h; omega
  · rcases List.mem_append.1 hz with h | h
    · rcases List.mem_append.1 h with h | h
      · exact encU_bytes _ z h
      · obtain ⟨n, _, hn⟩ := List.mem_flatMap.1 h
        exact encU_bytes _ z hn
    · exact encU_bytes _ z h
  · rcases List.mem_append.1 hz with h | h
    · exact encU_bytes _ z h
    · exact encU_bytes _ z h
  · simp at hz; omega
  · exact encS_bytes _ z hz
  · simp at hz
theorem encL_bytesC : ∀ t : Il, MayT t → ∀ z ∈ encL t, 0 ≤ z ∧ z < 256
  | .nil, _ => by simp [encL]
  | .cons x l e r, ⟨hx, _, _, hl, he, hr⟩ => by
    have h0 := rest_bytesC hx
    have h1 := encL_bytesC l hl
    have h2 := encL_bytesC e he
    have h3 := encL_bytesC r hr
    have hop := name_range ((lawful_iff x).1 hx.law).1
    intro z hz
    simp only [encL] at hz
    rcases List.mem_cons.1 hz with rfl | hz
    · omega
    · rcases List.mem_append.1 hz with h | h
      · exact h0 z h
      · rcases List.mem_append.1 h with h | h
        · split at h
          · rcases List.mem_append.1 h with h | h
            · exact h1 z h
            · rcases List.mem_append.1 h with h | h
              · split at h
                · simp at h
                · rcases List.mem_cons.1 h with rfl | h
                  · omega
                  · exact h2 z h
              · simp at h; omega
          · simp at h
        · exact h3 z h
theorem encP_bytesC {t : Il} (h : MayT t) : ∀ z ∈ encP t, 0 ≤ z ∧ z < 256 := by
  intro z hz
  rcases List.mem_append.1 hz with hz | hz
  · exact encL_bytesC t h z hz
  · simp at hz; omega
theorem alloc_below' (w : World) (o : Obj) : Below w.heap.size w (w.alloc o) := (Below.refl _ _).alloc (Nat.le_refl _) o

set_option maxHeartbeats 1600000 in
theorem putLocals_any (n : Int) (h0 : 0 ≤ n) (h1 : n < 4294967296) (w : World) : Calls Tryz.prog 215 #[.int .u32 n] w (Gives w (locL n)) := by
  by_cases hn : n = 0
  · subst hn
    have HE : Hid (encU 0 = locL 0) := hid (show encU 0 = locL 0 by unfold locL; rw [if_pos rfl]; exact encU_last (by omega) (by omega))
    go_enter Tryz.func215, Tryz.ntmps215
    go_wp2_with fail
    refine (putU_any 0 _ (by omega) (by omega)).mono ?_
    rw [HE.out]
    rintro e w1 ⟨v, rfl, ho, hb⟩
    go_wp2
    go_ret
    exact ⟨_, rfl, ho, hb⟩
  · have HF := hid (loc_flat hn)
    have HL := hid (loc_len n)
    have l0 := (encU_lens 1).1
    have l1 := (encU_lens n).1
    go_enter Tryz.func215, Tryz.ntmps215
    go_wp2_with fail
    refine (putU_any 1 _ (by omega) (by omega)).mono ?_
    rintro e w1 ⟨v1, rfl, ho1, hb1⟩
    obtain ⟨m1, hm1⟩ : ∃ m, (encU 1).length = m := ⟨_, rfl⟩
    obtain ⟨a1, c1, rfl⟩ := ho1.sliceN hm1
    have y1 := ho1.bytes (encU_bytes 1) (by omega)
    have HN1 := ho1.nil
    have HB1 := hid hb1
    have HM1 := hid hm1
    have HY1 := hid y1
    clear ho1 hb1 hm1 y1
    go_wp2_with fail
    refine (putU_any n _ (by omega) (by omega)).mono ?_
    rintro e w2 ⟨v2, rfl, ho2, hb2⟩
    obtain ⟨m2, hm2⟩ : ∃ m, (encU n).length = m := ⟨_, rfl⟩
    obtain ⟨a2, c2, rfl⟩ := ho2.sliceN hm2
    have y2 := ho2.bytes (encU_bytes n) (by omega)
    have HN2 := ho2.nil
    have HB2 := hid (thenB HB1.out hb2)
    have HM2 := hid hm2
    have HY1 := hid (HY1.out.below hb2)
    have HY2 := hid y2
    clear ho2 hb2 hm2 y2 HB1
    have CC := hid (fun g (hg : g = (w2.alloc (.cells #[.int .u8 127] 5)).heap.size) => concat_any g 3 3 [encU 1, encU n, [127]] _ rfl (parts3 (t := 35) hg (HY1.out.alloc (.cells #[.int .u8 127] 5)) (HY2.out.alloc _) (made_one w2 5 w2.heap.size rfl) HM1.out HM2.out (n2 := 1) (c2 := 1) rfl HN1.out HN2.out (by simp))
      (by rw [HF.out]; exact List.length_pos_iff.2 HL.out.2) (by rw [HF.out]; have := HL.out.1; omega) (by omega))
    go_wp2_with fail
    refine (CC.out _ (by simp)).mono ?_
    rw [HF.out]
    rintro e w4 ⟨v, rfl, ho, hb⟩
    have HB3 := (thenA (thenA HB2.out _) _).trans (hb.mono (by have := HB2.out.size; simp; omega))
    go_wp2
    go_ret
    exact ⟨_, rfl, ho.mono (by have := HB2.out.size; simp; omega), HB3⟩
def checkC (n : Int) (t : Il) : Int := if n < 0 ∨ 50000 < n then 2 else checkP t
def putC (n : Int) (t : Il) : List Int := if checkC n t = 0 then codeL n t else []
theorem box_at (w : World) (n : Int) (a : Option Addr) (len c : Nat) (e : TypeId) : (w.alloc (.cells #[.int .i64 n, .slice a len c] e)).cell? ⟨w.heap.size, 0, none⟩ = some (.int .i64 n) ∧ (w.alloc (.cells #[.int .i64 n, .slice a len c] e)).cell? ⟨w.heap.size, 1, none⟩ = some (.slice a len c) := by
  constructor <;> simp [go_sem]

set_option maxRecDepth 100000 in
set_option maxHeartbeats 1600000 in
theorem PutCode_any (n : Int) (t : Il) (a : Option Addr) (len c : Nat) (w : World) (hL : ListAt w.heap.size w a len t) (hn : len ≤ 140737488351232) (hT : Nams w) (hc : t.count ≤ 4611686018427387900) (hx : (encL t).length ≤ 90000) :
    Calls Tryz.prog 199 #[.agg #[.int .i64 n, .slice a len c]] w (PutP w (putC n t) (checkC n t)) := by
  by_cases hr : n < 0 ∨ 50000 < n
  · have hce : checkC n t = 2 := if_pos hr
    have hpe : putC n t = [] := by unfold putC; rw [hce, if_neg (by decide)]
    rw [hce, hpe]
    clear hce hpe hL hn hT hc hx
    rcases hr with hr | hr
    · go_enter Tryz.func199, Tryz.ntmps199
      go_wp2
      go_ret2
      exact ⟨_, rfl, ⟨rfl, .inl ⟨rfl, rfl⟩⟩, thenA (Below.refl _ _) _⟩
    · have hr0 : ¬ n < 0 := by omega
      go_enter Tryz.func199, Tryz.ntmps199
      go_wp2
      go_ret2
      exact ⟨_, rfl, ⟨rfl, .inl ⟨rfl, rfl⟩⟩, thenA (Below.refl _ _) _⟩
  · have hr0 : 0 ≤ n := by omega
    have hr1 : n ≤ 50000 := by omega
    have hr2 : ¬ n < 0 := by omega
    have hr3 : ¬ 50000 < n := by omega
    have hce : checkC n t = checkP t := if_neg hr
    have hpe : putC n t = if checkP t = 0 then codeL n t else [] := by unfold putC; rw [hce]
    rw [hce, hpe]
    have hb0 := alloc_below' w (.cells #[.int .i64 n, .slice a len c] 61)
    have PC := hid (Put_any t a len c _ (hL.on hb0) hn (hT.below hb0) hc (by omega))
    obtain ⟨x0, x1⟩ := box_at w n a len c 61
    have X0 := hid x0
    have HB0 := hid hb0
    by_cases h0 : checkP t = 0
    · have hm := mayT_list hL h0
      rw [if_pos h0]
      have hput : putB t = encP t := by unfold putB; rw [if_pos h0]
      rw [hput, h0] at PC
      rw [h0]
      have hlen : (encP t).length = (encL t).length + 1 := by simp [encP]
      have HBY := hid (encP_bytesC hm)
      obtain ⟨zs, hzs⟩ : ∃ zs, encP t = zs := ⟨_, rfl⟩
      have hcode : codeL n t = [locL n, zs].flatten := by unfold codeL; rw [hzs]; simp
      rw [hcode]
      rw [hzs] at PC hlen HBY
      obtain ⟨L, hLn⟩ : ∃ L, zs.length = L := ⟨_, rfl⟩
      have HL := hid hLn
      have HLEN := hid (show 1 ≤ L ∧ L ≤ 90001 by omega)
      have HLOC := hid (loc_len n)
      have PL := hid (fun w' => putLocals_any n hr0 (by omega) w')
      clear hr hce hpe hput h0 hm hlen hzs hcode hLn hx hc hT hL x0 x1 hb0
      go_enter Tryz.func199, Tryz.ntmps199
      go_wp2_with fail
      refine PC.out.mono ?_
      clear PC
      rintro e w1 ⟨v, rfl, ho, hb1⟩
      obtain ⟨a1, c1, rfl⟩ := ho.sliceN (n := L) HL.out
      have y1 := ho.bytes HBY.out (by have := HL.out; have := HLEN.out; omega)
      have HN1 := ho.nil
      have x0 := keep hb1 X0.out
      have HB1 := hid (HB0.out.trans (hb1.mono HB0.out.size))
      have HY1 := hid y1
      clear ho hb1 y1 X0 HB0 HBY
      go_wp2_with fail
      refine (PL.out w1).mono ?_
      clear PL
      rintro e w2 ⟨v2, rfl, ho2, hb2⟩
      obtain ⟨m2, hm2⟩ : ∃ m, (locL n).length = m := ⟨_, rfl⟩
      obtain ⟨a2, c2, rfl⟩ := ho2.sliceN hm2
      have y2 := ho2.bytes (loc_bytes n) (by have := HLOC.out.1; omega)
      have HN2 := ho2.nil
      have CC := hid (fun g (hg : g = w2.heap.size) => concat_any g 2 2 [locL n, zs] _ rfl (parts2 (t := 35) hg y2 (HY1.out.below hb2) hm2 HL.out HN2.out HN1.out)
        (by simp; have := HLEN.out; have := HL.out; omega) (by simp; have := HLEN.out; have := HL.out; have := HLOC.out.1; omega) (by omega))
      have HB2 := hid (HB1.out.trans (hb2.mono HB1.out.size))
      clear ho2 hb2 y2 hm2 HY1 HB1 x0
      go_wp2_with fail
      refine (CC.out _ rfl).mono ?_
      clear CC
      rintro e w3 ⟨v3, rfl, ho3, hb3⟩
      have HB3 := hid ((thenA HB2.out _).trans (hb3.mono (by have := HB2.out.size; simp; omega)))
      have HO := hid (ho3.mono (base' := w.heap.size) (by have := HB2.out.size; simp; omega))
      clear ho3 hb3 HB2
      go_wp2
      go_ret2
      exact ⟨_, rfl, HO.out, HB3.out⟩
    · rw [if_neg h0]
      have hput : putB t = [] := by unfold putB; rw [if_neg h0]
      rw [hput] at PC
      obtain ⟨q, hq⟩ : ∃ q, checkP t = q := ⟨_, rfl⟩
      rw [hq] at PC h0 ⊢
      have h1 : (q != 0) = true := by simp [h0]
      clear hr hce hpe hput hq hx hc hT hL x0 x1 hb0 X0
      go_enter Tryz.func199, Tryz.ntmps199
      go_wp2_with fail
      refine PC.out.mono ?_
      clear PC
      rintro e w1 ⟨v, rfl, ho, hb1⟩
      have HB1 := hid (HB0.out.trans (hb1.mono HB0.out.size))
      clear ho hb1
      go_wp2
      go_ret2
      exact ⟨_, rfl, ⟨rfl, .inl ⟨rfl, rfl⟩⟩, HB1.out⟩
end Go.Proofs.YtiadgkdkjinnjaaGreatDoor.Body

/-
  ENCODE: modules' bytes, plain: of each item, of each section, of all.
-/
namespace Go.Proofs.YtiadgkdkjinnjaaGreatDoor.Enc
open Go.RowKit Go.Proofs.YtiadgkdkjinnjaaGreatDoor.Instr Go.Proofs.YtiadgkdkjinnjaaGreatDoor.Leb Go.Proofs.YtiadgkdkjinnjaaGreatDoor.Mod
open Go.Proofs.YtiadgkdkjinnjaaGreatDoor.Body (encL codeL)

def insB (l : Lst) : List Int := Go.Proofs.YtiadgkdkjinnjaaGreatDoor.Body.encP l.t
def nameB (s : ByteArray) : List Int := encU s.size ++ numsOf s
def tyB (x : Int × Int) : List Int := Kind.typeL x.1 x.2
def impB (i : Imp) : List Int := nameB i.mo ++ (nameB i.na ++ (0 :: encU i.ty))
def fnB (f : Mod.Fn) : List Int := encU f.ty
def tbB (l : Li) : List Int := 112 :: Kind.limL l.n l.x l.c
def meB (l : Li) : List Int := Kind.limL l.n l.x l.c
def glB (g : Gl) : List Int := 127 :: (if g.mu then 1 else 0) :: insB g.l
def exB (e : Ex) : List Int := nameB e.na ++ (e.k :: encU e.i)
def elB (e : El) : List Int := 0 :: (insB e.l ++ (encU e.fs.length ++ e.fs.flatMap encU))
def coB (f : Mod.Fn) : List Int := encU (codeL f.lo f.l.t).length ++ codeL f.lo f.l.t
def daB (d : Da) : List Int := 0 :: (insB d.l ++ (encU d.bs.length ++ d.bs))
/-- A list: how many, and each; nothing of an empty one. -/
def lstB {α : Type} (f : α → List Int) (l : List α) : List Int := if l.length = 0 then [] else encU l.length ++ l.flatMap f
/-- A section after its size, by its number less one. -/
def secB (m : Md) : Nat → List Int
  | 0 => lstB tyB m.ty
  | 1 => lstB impB m.im
  | 2 => lstB fnB m.fu
  | 3 => lstB tbB m.tb
  | 4 => lstB meB m.me
  | 5 => lstB glB m.gl
  | 6 => lstB exB m.ex
  | 7 => if m.st then encU m.sn else []
  | 8 => lstB elB m.el
  | 9 => lstB coB m.fu
  | 10 => lstB daB m.da
  | _ => []
/-- A section with its number and size, unless it is left out. -/
def pieceB (m : Md) (k : Nat) : List Int := if secB m k = [] then [] else ((k + 1 : Nat) : Int) :: (encU (secB m k).length ++ secB m k)
def headB : List Int := [0, 97, 115, 109, 1, 0, 0, 0]
/-- The first k sections, and what is ahead of them. -/
def uptoB (m : Md) (k : Nat) : List Int := headB ++ (List.range k).flatMap (pieceB m)
def modB (m : Md) : List Int := uptoB m 11
theorem upto_succ (m : Md) (k : Nat) : uptoB m (k + 1) = uptoB m k ++ pieceB m k := by
  unfold uptoB
  rw [List.range_succ, List.flatMap_append, List.append_assoc]
  simp
theorem flat_step {α : Type} (f : α → List Int) {l : List α} {k : Nat} (hk : k < l.length) : (l.take (k + 1)).flatMap f = (l.take k).flatMap f ++ f l[k] := by
  rw [List.take_succ_eq_append_getElem hk, List.flatMap_append]
  simp
/-- What the sections hang on. -/
theorem encL_bareE : ∀ t : Il, encL t.bare = encL t
  | .nil => rfl
  | .cons x l e r => by
    have h : Go.Proofs.YtiadgkdkjinnjaaGreatDoor.Body.encRest x.bare = Go.Proofs.YtiadgkdkjinnjaaGreatDoor.Body.encRest x := rfl
    simp only [Il.bare, encL, h, encL_bareE l, encL_bareE e, encL_bareE r]
    rfl
theorem insB_bare (l : Lst) : insB l.bare = insB l := by
  unfold insB Go.Proofs.YtiadgkdkjinnjaaGreatDoor.Body.encP Lst.bare
  rw [encL_bareE]
theorem codeL_bareE (n : Int) (t : Il) : codeL n t.bare = codeL n t := by
  unfold codeL Go.Proofs.YtiadgkdkjinnjaaGreatDoor.Body.encP
  rw [encL_bareE]
theorem lstB_map {α : Type} (f : α → List Int) (g : α → α) (h : ∀ x, f (g x) = f x) (l : List α) : lstB f (l.map g) = lstB f l := by
  unfold lstB
  rw [List.length_map, List.flatMap_map]
  simp only [h]
theorem secB_bare (m : Md) (k : Nat) : secB m.bare k = secB m k := by
  match k with
  | 0 => simp only [secB]; rfl
  | 1 => simp only [secB]; rfl
  | 2 => simp only [secB]; exact lstB_map fnB Mod.Fn.bare (fun _ => rfl) m.fu
  | 3 => simp only [secB]; rfl
  | 4 => simp only [secB]; rfl
  | 5 => simp only [secB]; exact lstB_map glB Gl.bare (fun x => by unfold glB; rw [show (Gl.bare x).l = x.l.bare from rfl, insB_bare]; rfl) m.gl
  | 6 => simp only [secB]; rfl
  | 7 => simp only [secB]; rfl
  | 8 => simp only [secB]; exact lstB_map elB El.bare (fun x => by unfold elB; rw [show (El.bare x).l = x.l.bare from rfl, insB_bare]; rfl) m.el
  | 9 => simp only [secB]; exact lstB_map coB Mod.Fn.bare (fun x => by unfold coB; rw [show (Mod.Fn.bare x).l.t = x.l.t.bare from rfl, codeL_bareE]; rfl) m.fu
  | 10 => simp only [secB]; exact lstB_map daB Da.bare (fun x => by unfold daB; rw [show (Da.bare x).l = x.l.bare from rfl, insB_bare]; rfl) m.da
  | n + 11 => simp [secB]
theorem secB_core {a b : Md} (h : a.bare = b.bare) (k : Nat) : secB a k = secB b k := by rw [← secB_bare a, h, secB_bare]
theorem modB_core {a b : Md} (h : a.bare = b.bare) : modB a = modB b := by
  have : pieceB a = pieceB b := by
    funext k
    unfold pieceB
    rw [secB_core h]
  unfold modB uptoB
  rw [this]
end Go.Proofs.YtiadgkdkjinnjaaGreatDoor.Enc

/-
  NAME: Put by contract.
-/
namespace Go.Proofs.YtiadgkdkjinnjaaGreatDoor.Utf
open Go.RowKit Leb

set_option maxHeartbeats 800000 in
theorem Put_long (zs : List Int) (w : World) (hlong : 1048576 < zs.length) :
    Calls Tryz.prog 196 #[.string (strOfNums zs)] w fun e w' => e = .returned (.tuple #[.slice none 0 0, .int .i64 3]) ∧ Below w.heap.size w w' := by
  have hs : (strOfNums zs).size = zs.length := strOfNums_size zs
  generalize strOfNums zs = s at *
  go_enter Tryz.func196, Tryz.ntmps196
  go_wp2
  exact bodyPost_ret (v := .tuple #[.slice none 0 0, .int .i64 3]) (by simp [results, Tryz.results196, go_sem]) rfl ⟨rfl, Below.refl _ _⟩

set_option maxHeartbeats 800000 in
theorem Put_bad (zs : List Int) (hz : ∀ z ∈ zs, 0 ≤ z ∧ z < 256) (w : World) (hT : Tabs w) (hlong : zs.length ≤ 1048576) (hbad : (scan zs).2 ≠ zs.length) :
    Calls Tryz.prog 196 #[.string (strOfNums zs)] w fun e w' => e = .returned (.tuple #[.slice none 0 0, .int .i64 4]) ∧ Below w.heap.size w w' := by
  have hs : (strOfNums zs).size = zs.length := strOfNums_size zs
  have HB := hid (bad_any zs hz w hT)
  have HL := hid (badL_some hbad)
  generalize strOfNums zs = s at *
  clear hz hT hbad
  go_enter Tryz.func196, Tryz.ntmps196
  go_wp2_with fail
  refine HB.out.mono ?_
  rw [HL.out]
  rintro e w1 ⟨rfl, hb1⟩
  go_wp2
  exact bodyPost_ret (v := .tuple #[.slice none 0 0, .int .i64 4]) (by simp [results, Tryz.results196, go_sem]) rfl ⟨rfl, hb1⟩

set_option maxHeartbeats 1600000 in
theorem Put_good (zs : List Int) (hz : ∀ z ∈ zs, 0 ≤ z ∧ z < 256) (w : World) (hT : Tabs w) (hlong : zs.length ≤ 1048576) (hgood : (scan zs).2 = zs.length) :
    Calls Tryz.prog 196 #[.string (strOfNums zs)] w fun e w' => ∃ v, e = .returned (.tuple #[v, .int .i64 0]) ∧ Own w.heap.size w' v (encU zs.length ++ zs) ∧ Below w.heap.size w w' := by
  have hs : (strOfNums zs).size = zs.length := strOfNums_size zs
  have HB := hid (bad_any zs hz w hT)
  have HL := hid (badL_none hgood)
  have hw : wrap64 (zs.length : Int) = zs.length := by unfold wrap64; omega
  have HZ := hid hz
  have hsu := sizeU_pos zs.length
  clear hz hT hgood
  go_enter Tryz.func196, Tryz.ntmps196
  go_wp2_with fail
  refine HB.out.mono ?_
  rw [HL.out]
  rintro e w1 ⟨rfl, hb1⟩
  go_wp2_with fail
  refine (putU_any zs.length _ (by omega) (by omega)).mono ?_
  rintro e w2 ⟨v, rfl, ho, hb2⟩
  obtain ⟨a3, c3, rfl⟩ := ho.sliceN (encU_length zs.length)
  have hs2 := hb2.size
  clear HB HL
  go_wp2_with (first | (at_builtin; refine append_str rfl (.tmp 13) (.tmp 14) rfl rfl ho hb2 hs2 rfl HZ.out (by rw [encU_length]; omega) ?_; intro v' w3 ho3 hb3 hs3))
  exact bodyPost_ret (v := .tuple #[v', .int .i64 0]) (by simp [results, Tryz.results196, go_sem]) rfl ⟨v', rfl, ho3.mono (by have := hb1.size; omega), thenB hb1 hb3⟩
end Go.Proofs.YtiadgkdkjinnjaaGreatDoor.Utf

/-
  ENCODE: what the lower layers hand to the buffer: bytes without an error.
-/
namespace Go.Proofs.YtiadgkdkjinnjaaGreatDoor.Enc
open Go.RowKit Go.Proofs.YtiadgkdkjinnjaaGreatDoor.Leb Go.Proofs.YtiadgkdkjinnjaaGreatDoor.Instr Go.Proofs.YtiadgkdkjinnjaaGreatDoor.Mod
open Go.Proofs.YtiadgkdkjinnjaaGreatDoor.Body (encL codeL PutP)

/-- Bytes, as many as n, and no error. -/
def GotB (w : World) (zs : List Int) (n : Nat) (e : Ending) (w' : World) : Prop := ∃ a c, e = .returned (.tuple #[.slice a n c, .int .i64 0]) ∧ Bytes w' a zs ∧ Below w.heap.size w w' ∧ zs.length = n
theorem got_own {w w' : World} {zs : List Int} {n : Nat} {e : Ending} (hn : zs.length = n) (hz : ∀ z ∈ zs, 0 ≤ z ∧ z < 256) (hl : zs.length ≤ 140737488351232) (h : ∃ v, e = .returned (.tuple #[v, .int .i64 0]) ∧ Own w.heap.size w' v zs ∧ Below w.heap.size w w') : GotB w zs n e w' := by
  obtain ⟨v, rfl, ho, hb⟩ := h
  obtain ⟨a, c, rfl⟩ := ho.sliceN hn
  exact ⟨a, c, rfl, ho.bytes hz hl, hb, hn⟩
theorem type_got (x : Int × Int) (h : Kind.okType x.1 x.2 = true) (n : Nat) (hn : (tyB x).length = n) (w : World) : Calls Tryz.prog 195 #[.agg #[.int .i64 x.1, .int .i64 x.2]] w (GotB w (tyB x) n) := by
  have e1 : Kind.putZ x.1 x.2 = tyB x := by unfold Kind.putZ tyB; rw [if_pos h]
  have e2 : Kind.codeType x.1 x.2 = 0 := by unfold Kind.codeType; rw [if_pos h]
  have := Kind.put_any x.1 x.2 n (by rw [e1]; exact hn) w
  rw [e1, e2] at this
  exact this.mono fun e w' ⟨a, q, he, hb, _, hB⟩ => ⟨a, q, he, hb, hB, hn⟩
theorem lim_got (l : Li) (most : Int) (h : Kind.okLim l.n l.x l.c most = true) (h0 : 0 ≤ l.n ∧ l.n ≤ 4294967295) (h1 : 0 ≤ l.x ∧ l.x ≤ 4294967295) (n : Nat) (hn : (meB l).length = n) (w : World) :
    Calls Tryz.prog 197 #[.agg #[.int .u32 l.n, .int .u32 l.x, .bool l.c], .int .u32 most] w (GotB w (meB l) n) := by
  have e1 : Kind.limZ l.n l.x l.c most = meB l := by unfold Kind.limZ meB; rw [if_pos h]
  have e2 : Kind.codeLim l.n l.x l.c most = 0 := by unfold Kind.codeLim; rw [if_pos h]
  have := Kind.putLim_any l.n l.x l.c most n (by rw [e1]; exact hn) h0 h1 w
  rw [e1, e2] at this
  exact this.mono fun e w' ⟨a, q, he, hb, _, hB⟩ => ⟨a, q, he, hb, hB, hn⟩
theorem nameB_bytes (s : ByteArray) : ∀ z ∈ nameB s, 0 ≤ z ∧ z < 256 := by
  intro z hz
  unfold nameB at hz
  rcases List.mem_append.1 hz with h | h
  · exact encU_bytes _ z h
  · exact numsOf_bytes s z h
theorem nameB_len (s : ByteArray) : (nameB s).length ≤ s.size + 5 := by
  unfold nameB
  rw [List.length_append, encU_length, numsOf_length]
  have := (sizeU_pos s.size).2
  omega
theorem name_got (s : ByteArray) (w : World) (hU : Utf.Tabs w) (hs : s.size ≤ 1048576) (ht : noText s = false) (n : Nat) (hn : (nameB s).length = n) : Calls Tryz.prog 196 #[.string s] w (GotB w (nameB s) n) := by
  have hb : (Utf.scan (numsOf s)).2 = (numsOf s).length := (Utf.badL_neg _).1 (by
    unfold noText at ht
    have := of_decide_eq_false ht
    omega)
  have := Utf.Put_good (numsOf s) (numsOf_bytes s) w hU (by rw [numsOf_length]; exact hs) hb
  rw [str_numsOf, numsOf_length] at this
  have hl := nameB_len s
  exact this.mono fun e w' h => got_own hn (nameB_bytes s) (by omega) h
theorem insB_bytes {n₀ : Nat} {w : World} {l : Lst} (hL : ListAt n₀ w l.a l.t.len l.t) (h : checkP l.t = 0) : ∀ z ∈ insB l, 0 ≤ z ∧ z < 256 := Go.Proofs.YtiadgkdkjinnjaaGreatDoor.Body.encP_bytesC (Go.Proofs.YtiadgkdkjinnjaaGreatDoor.Body.mayT_list hL h)
theorem ins_got (l : Lst) (w : World) (hL : ListAt w.heap.size w l.a l.t.len l.t) (hl : l.t.len ≤ 140737488351232) (hT : Nams w) (hc : l.t.count ≤ 1000000) (hx : (encL l.t).length ≤ 90000) (h : checkP l.t = 0) (n : Nat) (hn : (insB l).length = n) :
    Calls Tryz.prog 198 #[.slice l.a l.t.len l.c] w (GotB w (insB l) n) := by
  have := Go.Proofs.YtiadgkdkjinnjaaGreatDoor.Body.Put_any l.t l.a l.t.len l.c w hL hl hT (by omega) (by omega)
  have e : Go.Proofs.YtiadgkdkjinnjaaGreatDoor.Body.putB l.t = insB l := by unfold Go.Proofs.YtiadgkdkjinnjaaGreatDoor.Body.putB insB; rw [if_pos h]
  rw [e, h] at this
  refine this.mono fun e w' h' => got_own hn (insB_bytes hL h) ?_ h'
  show (encL l.t ++ [11]).length ≤ _
  simp; omega
theorem code_got (f : Mod.Fn) (w : World) (hL : ListAt w.heap.size w f.l.a f.l.t.len f.l.t) (hl : f.l.t.len ≤ 140737488351232) (hT : Nams w) (hc : f.l.t.count ≤ 1000000) (hx : (encL f.l.t).length ≤ 90000) (h : checkP f.l.t = 0) (h0 : 0 ≤ f.lo) (h1 : f.lo ≤ 50000) (n : Nat) (hn : (codeL f.lo f.l.t).length = n) :
    Calls Tryz.prog 199 #[.agg #[.int .i64 f.lo, .slice f.l.a f.l.t.len f.l.c]] w (fun e w' => GotB w (codeL f.lo f.l.t) n e w' ∧ ∀ a c, e = .returned (.tuple #[.slice a n c, .int .i64 0]) → ∀ b off, a = some ⟨b, off, none⟩ → w.heap.size ≤ b) := by
  have := Go.Proofs.YtiadgkdkjinnjaaGreatDoor.Body.PutCode_any f.lo f.l.t f.l.a f.l.t.len f.l.c w hL hl hT (by omega) hx
  have e0 : Go.Proofs.YtiadgkdkjinnjaaGreatDoor.Body.checkC f.lo f.l.t = 0 := by unfold Go.Proofs.YtiadgkdkjinnjaaGreatDoor.Body.checkC; rw [if_neg (by omega)]; exact h
  have e : Go.Proofs.YtiadgkdkjinnjaaGreatDoor.Body.putC f.lo f.l.t = codeL f.lo f.l.t := by unfold Go.Proofs.YtiadgkdkjinnjaaGreatDoor.Body.putC; rw [if_pos e0]
  rw [e, e0] at this
  have hby : ∀ z ∈ codeL f.lo f.l.t, 0 ≤ z ∧ z < 256 := by
    intro z hz
    rcases List.mem_append.1 hz with hz | hz
    · exact Go.Proofs.YtiadgkdkjinnjaaGreatDoor.Body.loc_bytes f.lo z hz
    · exact Go.Proofs.YtiadgkdkjinnjaaGreatDoor.Body.encP_bytesC (Go.Proofs.YtiadgkdkjinnjaaGreatDoor.Body.mayT_list hL h) z hz
  have hle : (codeL f.lo f.l.t).length ≤ 140737488351232 := by
    have := (Go.Proofs.YtiadgkdkjinnjaaGreatDoor.Body.loc_len f.lo).1
    unfold codeL
    rw [List.length_append]
    show _ + (encL f.l.t ++ [11]).length ≤ _
    simp; omega
  refine this.mono fun e w' h' => ⟨got_own hn hby hle h', ?_⟩
  obtain ⟨v, rfl, ho, hb⟩ := h'
  intro a c hE b off ha
  subst ha
  have hv : v = .slice (some ⟨b, off, none⟩) n c := by simpa using hE
  subst hv
  exact (World.ownsRow.lt ho b rfl).1
end Go.Proofs.YtiadgkdkjinnjaaGreatDoor.Enc

/-
  ENCODE: what the buffer appends of each item, by contract (tools/gen_encitems.py).
-/
namespace Go.Proofs.YtiadgkdkjinnjaaGreatDoor.Enc
open Go.RowKit Go.Proofs.YtiadgkdkjinnjaaGreatDoor.Leb Go.Proofs.YtiadgkdkjinnjaaGreatDoor.Instr Go.Proofs.YtiadgkdkjinnjaaGreatDoor.Mod
open Go.Proofs.YtiadgkdkjinnjaaGreatDoor.Body (encL codeL)

theorem u32_id (n : Int) (h0 : 0 ≤ n) (h1 : n ≤ 2147483647) : IntKind.u32.wrap n = n := by rw [IntKind.wrap_u32]; omega
theorem u8_id (n : Int) (h0 : 0 ≤ n) (h1 : n ≤ 3) : IntKind.u8.wrap n = n := by rw [IntKind.wrap_u8]; omega
theorem Buf.apart {g B : Nat} {v : Value} {xs : List Int} {w : World} (h : Buf g B v w v xs w) : ¬ (w.heap.size = g ∨ v.ownBlock = some w.heap.size) := by
  rintro (e | e)
  · have := h.lt; omega
  · have := (World.ownsRow.lt h.own _ e).2; omega
/-- What lies below the buffer is as it was. -/
theorem Buf.deep {g B : Nat} {v v' : Value} {xs zs : List Int} {w w' W W0 : World} (h : Buf g B v w v' zs w') (hv : Own B W v xs) (hB : Below W0.heap.size W0 w) (hg : W0.heap.size < g) : Below W0.heap.size W0 w' :=
  hB.trans (h.below (Nat.le_of_lt hg) (fun q hq => by have := (World.ownsRow.lt hv q hq).1; have := h.low; omega))
theorem flat_five : ∀ l : List Int, (l.flatMap encU).length ≤ 5 * l.length
  | [] => by simp
  | n :: r => by
    rw [List.flatMap_cons, List.length_append, List.length_cons, encU_length]
    have := (sizeU_pos n).2
    have := flat_five r
    omega
theorem type_few {x : Int × Int} (h : Kind.okType x.1 x.2 = true) : (tyB x).length ≤ 100000000 := by
  obtain ⟨a, b, ha, hb, h1, h2⟩ := Kind.okType_nat h
  unfold tyB
  rw [ha, hb]
  have := Kind.typeL_le a b h1 h2
  omega
theorem bytes_at {n₀ : Nat} {w : World} {a : Option Addr} {zs : List Int} (h : BytesAt n₀ w a zs) (hz : ∀ z ∈ zs, 0 ≤ z ∧ z < 256) (hl : zs.length ≤ 140737488351232) : Bytes w a zs := by
  refine ⟨hz, hl, ?_⟩
  rcases h with h | ⟨b, off, rfl, _, hc⟩
  · exact .inl h
  · exact .inr ⟨b, off, rfl, hc⟩
set_option maxRecDepth 100000 in
set_option maxHeartbeats 2000000 in
theorem funcType_any (g B : Nat) (v : Value) (xs : List Int) (x : Int × Int) (w0 w : World) (h : Buf g B v w v xs w) (hB : Below w0.heap.size w0 w) (hg : w0.heap.size < g) (hl : xs.length ≤ 1000000000)
    (hx : Kind.okType x.1 x.2 = true) :
    Calls Tryz.prog 159 #[.pointer (some ⟨g, 0, none⟩), .agg #[.int .i64 x.1, .int .i64 x.2]] w (Puts g B v w (xs ++ tyB x)) := by
  have H := hid h
  have H1 := hid (h.lit (.cells #[.int .i64 x.1, .int .i64 x.2] 50))
  have HA0 := hid (h.lit (.cells #[.int .i64 x.1, .int .i64 x.2] 50)).again
  have HS := hid h.apart
  have HL := hid hl
  have HG := hid hg
  have HW0 := hid (hB.trans (((Below.refl w.heap.size w).alloc (Nat.le_refl _) (.cells #[.int .i64 x.1, .int .i64 x.2] 50)).mono hB.size))
  have X0 := BoxAt.made w #[.int .i64 x.1, .int .i64 x.2] 50
  have X0H := hid (X0 0 _ rfl)
  have X1H := hid (X0 1 _ rfl)
  have x0 := X0H.out
  have x1 := X1H.out
  have HX := hid hx
  have e : xs ++ tyB x = xs ++ tyB x := by rfl
  rw [e]
  have Bp := hid (show (tyB x).length ≤ 100000000 from by exact type_few hx)
  obtain ⟨p, hp⟩ : ∃ p, tyB x = p := ⟨_, rfl⟩
  have Ep := hid hp
  rw [hp] at Bp ⊢
  clear h hB hg hl X0 e hp
  skip
  go_enter Tryz.func159, Tryz.ntmps159
  clear hx
  obtain ⟨n0, hn0⟩ : ∃ n, p.length = n := ⟨_, rfl⟩
  have C := hid (type_got x HX.out n0 (by rw [Ep.out]; exact hn0) (w.alloc (.cells #[.int .i64 x.1, .int .i64 x.2] 50)))
  rw [Ep.out] at C
  go_wp2_with fail
  refine C.out.mono ?_
  rintro e1 w1 ⟨a1, c1, rfl, hy, hb, hm⟩
  have HA1 := hid (HA0.out.on hb)
  have HW1 := hid (HW0.out.trans (hb.mono HW0.out.size))
  have HY := hid hy
  have HN := hid hm
  clear C hb hy hm x0 x1
  have x0 := HA1.out.touch.cell (p := ⟨w.heap.size, 0, none⟩) HS.out X0H.out
  have x1 := HA1.out.touch.cell (p := ⟨w.heap.size, 1, none⟩) HS.out X1H.out
  have C := hid (put_anyE g B v (xs) p a1 n0 c1 0 w1 HA1.out.again HN.out HY.out (by have := HL.out; have := Bp.out; first | omega | (simp; omega)))
  go_wp2_with fail
  refine C.out.mono ?_
  rintro e1 w2 ⟨rfl, v2, hb⟩
  have HA2 := hid (HA1.out.trans hb)
  have HW2 := hid (HA2.out.deep H.out.own HW0.out HG.out)
  clear C hb x0 x1
  have x0 := HA2.out.touch.cell (p := ⟨w.heap.size, 0, none⟩) HS.out X0H.out
  have x1 := HA2.out.touch.cell (p := ⟨w.heap.size, 1, none⟩) HS.out X1H.out
  clear x0 x1
  go_wp2
  go_end0
  exact ⟨rfl, v2, H1.out.trans HA2.out⟩
set_option maxRecDepth 100000 in
set_option maxHeartbeats 2000000 in
theorem imported_any (g B : Nat) (v : Value) (xs : List Int) (x : Imp) (w0 w : World) (h : Buf g B v w v xs w) (hB : Below w0.heap.size w0 w) (hg : w0.heap.size < g) (hl : xs.length ≤ 1000000000)
    (hU : Utf.Tabs w0) (h1 : x.mo.size ≤ 1048576) (h2 : x.na.size ≤ 1048576) (h3 : noText x.mo = false) (h4 : noText x.na = false) (h5 : 0 ≤ x.ty) (h6 : x.ty ≤ 2147483647) :
    Calls Tryz.prog 161 #[.pointer (some ⟨g, 0, none⟩), .agg #[.string x.mo, .string x.na, .int .i64 x.ty]] w (Puts g B v w (xs ++ impB x)) := by
  have H := hid h
  have H1 := hid (h.lit (.cells #[.string x.mo, .string x.na, .int .i64 x.ty] 70))
  have HA0 := hid (h.lit (.cells #[.string x.mo, .string x.na, .int .i64 x.ty] 70)).again
  have HS := hid h.apart
  have HL := hid hl
  have HG := hid hg
  have HW0 := hid (hB.trans (((Below.refl w.heap.size w).alloc (Nat.le_refl _) (.cells #[.string x.mo, .string x.na, .int .i64 x.ty] 70)).mono hB.size))
  have X0 := BoxAt.made w #[.string x.mo, .string x.na, .int .i64 x.ty] 70
  have X0H := hid (X0 0 _ rfl)
  have X1H := hid (X0 1 _ rfl)
  have X2H := hid (X0 2 _ rfl)
  have x0 := X0H.out
  have x1 := X1H.out
  have x2 := X2H.out
  have HU := hid hU
  have H1a := hid h1
  have H2a := hid h2
  have H3a := hid h3
  have H4a := hid h4
  have hw := u32_id x.ty h5 h6
  have H5 := hid h5
  have H7 := hid (show x.ty < 4294967296 by omega)
  have e : xs ++ impB x = xs ++ nameB x.mo ++ nameB x.na ++ [0] ++ encU x.ty := by unfold impB; simp
  rw [e]
  have Bp := hid (show (nameB x.mo).length ≤ 100000000 from by have := nameB_len x.mo; omega)
  have Bq := hid (show (nameB x.na).length ≤ 100000000 from by have := nameB_len x.na; omega)
  have Br := hid (show (encU x.ty).length ≤ 100000000 from by rw [encU_length]; have := (sizeU_pos x.ty).2; omega)
  obtain ⟨p, hp⟩ : ∃ p, nameB x.mo = p := ⟨_, rfl⟩
  have Ep := hid hp
  rw [hp] at Bp ⊢
  obtain ⟨q, hq⟩ : ∃ p, nameB x.na = p := ⟨_, rfl⟩
  have Eq := hid hq
  rw [hq] at Bq ⊢
  obtain ⟨r, hr⟩ : ∃ p, encU x.ty = p := ⟨_, rfl⟩
  have Er := hid hr
  rw [hr] at Br ⊢
  clear h hB hg hl X0 e hp hq hr
  skip
  go_enter Tryz.func161, Tryz.ntmps161
  clear hU h1 h2 h3 h4 h5 h6
  obtain ⟨n0, hn0⟩ : ∃ n, p.length = n := ⟨_, rfl⟩
  have C := hid (name_got x.mo (w.alloc (.cells #[.string x.mo, .string x.na, .int .i64 x.ty] 70)) (HU.out.below HW0.out) H1a.out H3a.out n0 (by rw [Ep.out]; exact hn0))
  rw [Ep.out] at C
  go_wp2_with fail
  refine C.out.mono ?_
  rintro e1 w1 ⟨a1, c1, rfl, hy, hb, hm⟩
  have HA1 := hid (HA0.out.on hb)
  have HW1 := hid (HW0.out.trans (hb.mono HW0.out.size))
  have HY := hid hy
  have HN := hid hm
  clear C hb hy hm x0 x1 x2
  have x0 := HA1.out.touch.cell (p := ⟨w.heap.size, 0, none⟩) HS.out X0H.out
  have x1 := HA1.out.touch.cell (p := ⟨w.heap.size, 1, none⟩) HS.out X1H.out
  have x2 := HA1.out.touch.cell (p := ⟨w.heap.size, 2, none⟩) HS.out X2H.out
  have C := hid (put_anyE g B v (xs) p a1 n0 c1 0 w1 HA1.out.again HN.out HY.out (by have := HL.out; have := Bp.out; have := Bq.out; have := Br.out; first | omega | (simp; omega)))
  go_wp2_with fail
  refine C.out.mono ?_
  rintro e1 w2 ⟨rfl, v2, hb⟩
  have HA2 := hid (HA1.out.trans hb)
  have HW2 := hid (HA2.out.deep H.out.own HW0.out HG.out)
  clear C hb x0 x1 x2
  have x0 := HA2.out.touch.cell (p := ⟨w.heap.size, 0, none⟩) HS.out X0H.out
  have x1 := HA2.out.touch.cell (p := ⟨w.heap.size, 1, none⟩) HS.out X1H.out
  have x2 := HA2.out.touch.cell (p := ⟨w.heap.size, 2, none⟩) HS.out X2H.out
  obtain ⟨n2, hn2⟩ : ∃ n, q.length = n := ⟨_, rfl⟩
  have C := hid (name_got x.na w2 (HU.out.below HW2.out) H2a.out H4a.out n2 (by rw [Eq.out]; exact hn2))
  rw [Eq.out] at C
  go_wp2_with fail
  refine C.out.mono ?_
  rintro e1 w3 ⟨a3, c3, rfl, hy, hb, hm⟩
  have HA3 := hid (HA2.out.on hb)
  have HW3 := hid (HW2.out.trans (hb.mono HW2.out.size))
  have HY := hid hy
  have HN := hid hm
  clear C hb hy hm x0 x1 x2
  have x0 := HA3.out.touch.cell (p := ⟨w.heap.size, 0, none⟩) HS.out X0H.out
  have x1 := HA3.out.touch.cell (p := ⟨w.heap.size, 1, none⟩) HS.out X1H.out
  have x2 := HA3.out.touch.cell (p := ⟨w.heap.size, 2, none⟩) HS.out X2H.out
  have C := hid (put_anyE g B v2 (xs ++ p) q a3 n2 c3 0 w3 HA3.out.again HN.out HY.out (by have := HL.out; have := Bp.out; have := Bq.out; have := Br.out; first | omega | (simp; omega)))
  go_wp2_with fail
  refine C.out.mono ?_
  rintro e1 w4 ⟨rfl, v4, hb⟩
  have HA4 := hid (HA3.out.trans hb)
  have HW4 := hid (HA4.out.deep H.out.own HW0.out HG.out)
  clear C hb x0 x1 x2
  have x0 := HA4.out.touch.cell (p := ⟨w.heap.size, 0, none⟩) HS.out X0H.out
  have x1 := HA4.out.touch.cell (p := ⟨w.heap.size, 1, none⟩) HS.out X1H.out
  have x2 := HA4.out.touch.cell (p := ⟨w.heap.size, 2, none⟩) HS.out X2H.out
  have C := hid (byte_any g B v4 (xs ++ p ++ q) 0 w4 HA4.out.again (by omega) (by have := HL.out; have := Bp.out; have := Bq.out; have := Br.out; first | omega | (simp; omega)))
  go_wp2_with fail
  refine C.out.mono ?_
  rintro e1 w5 ⟨rfl, v5, hb⟩
  have HA5 := hid (HA4.out.trans hb)
  have HW5 := hid (HA5.out.deep H.out.own HW0.out HG.out)
  clear C hb x0 x1 x2
  have x0 := HA5.out.touch.cell (p := ⟨w.heap.size, 0, none⟩) HS.out X0H.out
  have x1 := HA5.out.touch.cell (p := ⟨w.heap.size, 1, none⟩) HS.out X1H.out
  have x2 := HA5.out.touch.cell (p := ⟨w.heap.size, 2, none⟩) HS.out X2H.out
  have C := hid (number_any g B v5 (xs ++ p ++ q ++ [0]) x.ty w5 HA5.out.again H5.out H7.out (by have := HL.out; have := Bp.out; have := Bq.out; have := Br.out; first | omega | (simp; omega)))
  rw [Er.out] at C
  go_wp2_with fail
  refine C.out.mono ?_
  rintro e1 w6 ⟨rfl, v6, hb⟩
  have HA6 := hid (HA5.out.trans hb)
  have HW6 := hid (HA6.out.deep H.out.own HW0.out HG.out)
  clear C hb x0 x1 x2
  have x0 := HA6.out.touch.cell (p := ⟨w.heap.size, 0, none⟩) HS.out X0H.out
  have x1 := HA6.out.touch.cell (p := ⟨w.heap.size, 1, none⟩) HS.out X1H.out
  have x2 := HA6.out.touch.cell (p := ⟨w.heap.size, 2, none⟩) HS.out X2H.out
  clear x0 x1 x2
  go_wp2
  go_end0
  exact ⟨rfl, v6, H1.out.trans HA6.out⟩
set_option maxRecDepth 100000 in
set_option maxHeartbeats 2000000 in
theorem typeOf_any (g B : Nat) (v : Value) (xs : List Int) (x : Mod.Fn) (w0 w : World) (h : Buf g B v w v xs w) (hB : Below w0.heap.size w0 w) (hg : w0.heap.size < g) (hl : xs.length ≤ 1000000000)
    (h5 : 0 ≤ x.ty) (h6 : x.ty ≤ 2147483647) :
    Calls Tryz.prog 163 #[.pointer (some ⟨g, 0, none⟩), .agg #[.int .i64 x.ty, .int .i64 x.lo, x.l.val]] w (Puts g B v w (xs ++ fnB x)) := by
  have H := hid h
  have H1 := hid (h.lit (.cells #[.int .i64 x.ty, .int .i64 x.lo, x.l.val] 63))
  have HA0 := hid (h.lit (.cells #[.int .i64 x.ty, .int .i64 x.lo, x.l.val] 63)).again
  have HS := hid h.apart
  have HL := hid hl
  have HG := hid hg
  have HW0 := hid (hB.trans (((Below.refl w.heap.size w).alloc (Nat.le_refl _) (.cells #[.int .i64 x.ty, .int .i64 x.lo, x.l.val] 63)).mono hB.size))
  have X0 := BoxAt.made w #[.int .i64 x.ty, .int .i64 x.lo, x.l.val] 63
  have X0H := hid (X0 0 _ rfl)
  have X1H := hid (X0 1 _ rfl)
  have X2H := hid (X0 2 _ rfl)
  have x0 := X0H.out
  have x1 := X1H.out
  have x2 := X2H.out
  have hw := u32_id x.ty h5 h6
  have H5 := hid h5
  have H7 := hid (show x.ty < 4294967296 by omega)
  have e : xs ++ fnB x = xs ++ encU x.ty := by rfl
  rw [e]
  have Br := hid (show (encU x.ty).length ≤ 100000000 from by rw [encU_length]; have := (sizeU_pos x.ty).2; omega)
  obtain ⟨r, hr⟩ : ∃ p, encU x.ty = p := ⟨_, rfl⟩
  have Er := hid hr
  rw [hr] at Br ⊢
  clear h hB hg hl X0 e hr
  skip
  go_enter Tryz.func163, Tryz.ntmps163
  clear h5 h6
  have C := hid (number_any g B v (xs) x.ty (w.alloc (.cells #[.int .i64 x.ty, .int .i64 x.lo, x.l.val] 63)) HA0.out.again H5.out H7.out (by have := HL.out; have := Br.out; first | omega | (simp; omega)))
  rw [Er.out] at C
  go_wp2_with fail
  refine C.out.mono ?_
  rintro e1 w1 ⟨rfl, v1, hb⟩
  have HA1 := hid (HA0.out.trans hb)
  have HW1 := hid (HA1.out.deep H.out.own HW0.out HG.out)
  clear C hb x0 x1 x2
  have x0 := HA1.out.touch.cell (p := ⟨w.heap.size, 0, none⟩) HS.out X0H.out
  have x1 := HA1.out.touch.cell (p := ⟨w.heap.size, 1, none⟩) HS.out X1H.out
  have x2 := HA1.out.touch.cell (p := ⟨w.heap.size, 2, none⟩) HS.out X2H.out
  clear x0 x1 x2
  go_wp2
  go_end0
  exact ⟨rfl, v1, H1.out.trans HA1.out⟩
set_option maxRecDepth 100000 in
set_option maxHeartbeats 2000000 in
theorem table_any (g B : Nat) (v : Value) (xs : List Int) (x : Li) (w0 w : World) (h : Buf g B v w v xs w) (hB : Below w0.heap.size w0 w) (hg : w0.heap.size < g) (hl : xs.length ≤ 1000000000)
    (hx : Kind.okLim x.n x.x x.c 1048576 = true) (ha : 0 ≤ x.n ∧ x.n ≤ 4294967295) (hb2 : 0 ≤ x.x ∧ x.x ≤ 4294967295) :
    Calls Tryz.prog 165 #[.pointer (some ⟨g, 0, none⟩), .agg #[.int .u32 x.n, .int .u32 x.x, .bool x.c]] w (Puts g B v w (xs ++ tbB x)) := by
  have H := hid h
  have H1 := hid (h.lit (.cells #[.int .u32 x.n, .int .u32 x.x, .bool x.c] 85))
  have HA0 := hid (h.lit (.cells #[.int .u32 x.n, .int .u32 x.x, .bool x.c] 85)).again
  have HS := hid h.apart
  have HL := hid hl
  have HG := hid hg
  have HW0 := hid (hB.trans (((Below.refl w.heap.size w).alloc (Nat.le_refl _) (.cells #[.int .u32 x.n, .int .u32 x.x, .bool x.c] 85)).mono hB.size))
  have X0 := BoxAt.made w #[.int .u32 x.n, .int .u32 x.x, .bool x.c] 85
  have X0H := hid (X0 0 _ rfl)
  have X1H := hid (X0 1 _ rfl)
  have X2H := hid (X0 2 _ rfl)
  have x0 := X0H.out
  have x1 := X1H.out
  have x2 := X2H.out
  have HX := hid hx
  have HA := hid ha
  have HC := hid hb2
  have e : xs ++ tbB x = xs ++ [112] ++ meB x := by unfold tbB meB; simp
  rw [e]
  have Bp := hid (show (meB x).length ≤ 100000000 from by have := Kind.limL_le x.n x.x x.c; unfold meB; omega)
  obtain ⟨p, hp⟩ : ∃ p, meB x = p := ⟨_, rfl⟩
  have Ep := hid hp
  rw [hp] at Bp ⊢
  clear h hB hg hl X0 e hp
  skip
  go_enter Tryz.func165, Tryz.ntmps165
  clear hx ha hb2
  have C := hid (byte_any g B v (xs) 112 (w.alloc (.cells #[.int .u32 x.n, .int .u32 x.x, .bool x.c] 85)) HA0.out.again (by omega) (by have := HL.out; have := Bp.out; first | omega | (simp; omega)))
  go_wp2_with fail
  refine C.out.mono ?_
  rintro e1 w1 ⟨rfl, v1, hb⟩
  have HA1 := hid (HA0.out.trans hb)
  have HW1 := hid (HA1.out.deep H.out.own HW0.out HG.out)
  clear C hb x0 x1 x2
  have x0 := HA1.out.touch.cell (p := ⟨w.heap.size, 0, none⟩) HS.out X0H.out
  have x1 := HA1.out.touch.cell (p := ⟨w.heap.size, 1, none⟩) HS.out X1H.out
  have x2 := HA1.out.touch.cell (p := ⟨w.heap.size, 2, none⟩) HS.out X2H.out
  obtain ⟨n1, hn1⟩ : ∃ n, p.length = n := ⟨_, rfl⟩
  have C := hid (lim_got x 1048576 HX.out HA.out HC.out n1 (by rw [Ep.out]; exact hn1) w1)
  rw [Ep.out] at C
  go_wp2_with fail
  refine C.out.mono ?_
  rintro e1 w2 ⟨a2, c2, rfl, hy, hb, hm⟩
  have HA2 := hid (HA1.out.on hb)
  have HW2 := hid (HW1.out.trans (hb.mono HW1.out.size))
  have HY := hid hy
  have HN := hid hm
  clear C hb hy hm x0 x1 x2
  have x0 := HA2.out.touch.cell (p := ⟨w.heap.size, 0, none⟩) HS.out X0H.out
  have x1 := HA2.out.touch.cell (p := ⟨w.heap.size, 1, none⟩) HS.out X1H.out
  have x2 := HA2.out.touch.cell (p := ⟨w.heap.size, 2, none⟩) HS.out X2H.out
  have C := hid (put_anyE g B v1 (xs ++ [112]) p a2 n1 c2 0 w2 HA2.out.again HN.out HY.out (by have := HL.out; have := Bp.out; first | omega | (simp; omega)))
  go_wp2_with fail
  refine C.out.mono ?_
  rintro e1 w3 ⟨rfl, v3, hb⟩
  have HA3 := hid (HA2.out.trans hb)
  have HW3 := hid (HA3.out.deep H.out.own HW0.out HG.out)
  clear C hb x0 x1 x2
  have x0 := HA3.out.touch.cell (p := ⟨w.heap.size, 0, none⟩) HS.out X0H.out
  have x1 := HA3.out.touch.cell (p := ⟨w.heap.size, 1, none⟩) HS.out X1H.out
  have x2 := HA3.out.touch.cell (p := ⟨w.heap.size, 2, none⟩) HS.out X2H.out
  clear x0 x1 x2
  go_wp2
  go_end0
  exact ⟨rfl, v3, H1.out.trans HA3.out⟩
set_option maxRecDepth 100000 in
set_option maxHeartbeats 2000000 in
theorem memory_any (g B : Nat) (v : Value) (xs : List Int) (x : Li) (w0 w : World) (h : Buf g B v w v xs w) (hB : Below w0.heap.size w0 w) (hg : w0.heap.size < g) (hl : xs.length ≤ 1000000000)
    (hx : Kind.okLim x.n x.x x.c 65536 = true) (ha : 0 ≤ x.n ∧ x.n ≤ 4294967295) (hb2 : 0 ≤ x.x ∧ x.x ≤ 4294967295) :
    Calls Tryz.prog 166 #[.pointer (some ⟨g, 0, none⟩), .agg #[.int .u32 x.n, .int .u32 x.x, .bool x.c]] w (Puts g B v w (xs ++ meB x)) := by
  have H := hid h
  have H1 := hid (h.lit (.cells #[.int .u32 x.n, .int .u32 x.x, .bool x.c] 85))
  have HA0 := hid (h.lit (.cells #[.int .u32 x.n, .int .u32 x.x, .bool x.c] 85)).again
  have HS := hid h.apart
  have HL := hid hl
  have HG := hid hg
  have HW0 := hid (hB.trans (((Below.refl w.heap.size w).alloc (Nat.le_refl _) (.cells #[.int .u32 x.n, .int .u32 x.x, .bool x.c] 85)).mono hB.size))
  have X0 := BoxAt.made w #[.int .u32 x.n, .int .u32 x.x, .bool x.c] 85
  have X0H := hid (X0 0 _ rfl)
  have X1H := hid (X0 1 _ rfl)
  have X2H := hid (X0 2 _ rfl)
  have x0 := X0H.out
  have x1 := X1H.out
  have x2 := X2H.out
  have HX := hid hx
  have HA := hid ha
  have HC := hid hb2
  have e : xs ++ meB x = xs ++ meB x := by rfl
  rw [e]
  have Bp := hid (show (meB x).length ≤ 100000000 from by have := Kind.limL_le x.n x.x x.c; unfold meB; omega)
  obtain ⟨p, hp⟩ : ∃ p, meB x = p := ⟨_, rfl⟩
  have Ep := hid hp
  rw [hp] at Bp ⊢
  clear h hB hg hl X0 e hp
  skip
  go_enter Tryz.func166, Tryz.ntmps166
  clear hx ha hb2
  obtain ⟨n0, hn0⟩ : ∃ n, p.length = n := ⟨_, rfl⟩
  have C := hid (lim_got x 65536 HX.out HA.out HC.out n0 (by rw [Ep.out]; exact hn0) (w.alloc (.cells #[.int .u32 x.n, .int .u32 x.x, .bool x.c] 85)))
  rw [Ep.out] at C
  go_wp2_with fail
  refine C.out.mono ?_
  rintro e1 w1 ⟨a1, c1, rfl, hy, hb, hm⟩
  have HA1 := hid (HA0.out.on hb)
  have HW1 := hid (HW0.out.trans (hb.mono HW0.out.size))
  have HY := hid hy
  have HN := hid hm
  clear C hb hy hm x0 x1 x2
  have x0 := HA1.out.touch.cell (p := ⟨w.heap.size, 0, none⟩) HS.out X0H.out
  have x1 := HA1.out.touch.cell (p := ⟨w.heap.size, 1, none⟩) HS.out X1H.out
  have x2 := HA1.out.touch.cell (p := ⟨w.heap.size, 2, none⟩) HS.out X2H.out
  have C := hid (put_anyE g B v (xs) p a1 n0 c1 0 w1 HA1.out.again HN.out HY.out (by have := HL.out; have := Bp.out; first | omega | (simp; omega)))
  go_wp2_with fail
  refine C.out.mono ?_
  rintro e1 w2 ⟨rfl, v2, hb⟩
  have HA2 := hid (HA1.out.trans hb)
  have HW2 := hid (HA2.out.deep H.out.own HW0.out HG.out)
  clear C hb x0 x1 x2
  have x0 := HA2.out.touch.cell (p := ⟨w.heap.size, 0, none⟩) HS.out X0H.out
  have x1 := HA2.out.touch.cell (p := ⟨w.heap.size, 1, none⟩) HS.out X1H.out
  have x2 := HA2.out.touch.cell (p := ⟨w.heap.size, 2, none⟩) HS.out X2H.out
  clear x0 x1 x2
  go_wp2
  go_end0
  exact ⟨rfl, v2, H1.out.trans HA2.out⟩
set_option maxRecDepth 100000 in
set_option maxHeartbeats 2000000 in
theorem global1_any (g B : Nat) (v : Value) (xs : List Int) (x : Gl) (w0 w : World) (h : Buf g B v w v xs w) (hB : Below w0.heap.size w0 w) (hg : w0.heap.size < g) (hl : xs.length ≤ 1000000000)
    (hLs : ListAt w0.heap.size w0 x.l.a x.l.t.len x.l.t) (hT : Nams w0) (hck : checkP x.l.t = 0) (hln : x.l.t.len ≤ 140737488351232) (hct : x.l.t.count ≤ 1000000) (hel : (encL x.l.t).length ≤ 90000) :
    Calls Tryz.prog 168 #[.pointer (some ⟨g, 0, none⟩), .agg #[.bool true, x.l.val]] w (Puts g B v w (xs ++ (127 :: 1 :: insB x.l))) := by
  have H := hid h
  have H1 := hid (h.lit (.cells #[.bool true, x.l.val] 65))
  have HA0 := hid (h.lit (.cells #[.bool true, x.l.val] 65)).again
  have HS := hid h.apart
  have HL := hid hl
  have HG := hid hg
  have HW0 := hid (hB.trans (((Below.refl w.heap.size w).alloc (Nat.le_refl _) (.cells #[.bool true, x.l.val] 65)).mono hB.size))
  have X0 := BoxAt.made w #[.bool true, x.l.val] 65
  have X0H := hid (X0 0 _ rfl)
  have X1H := hid (X0 1 _ rfl)
  have x0 := X0H.out
  have x1 := X1H.out
  have HLs := hid hLs
  have HT := hid hT
  have HCK := hid hck
  have HLN := hid hln
  have HCT := hid hct
  have HEL := hid hel
  have e : xs ++ (127 :: 1 :: insB x.l) = xs ++ [127] ++ [1] ++ insB x.l := by simp
  rw [e]
  have Bp := hid (show (insB x.l).length ≤ 100000000 from by show (encL x.l.t ++ [11]).length ≤ _; simp; omega)
  obtain ⟨p, hp⟩ : ∃ p, insB x.l = p := ⟨_, rfl⟩
  have Ep := hid hp
  rw [hp] at Bp ⊢
  clear h hB hg hl X0 e hp
  skip
  go_enter Tryz.func168, Tryz.ntmps168
  clear hLs hT hck hln hct hel
  unfold Lst.val at *
  have C := hid (byte_any g B v (xs) 127 (w.alloc (.cells #[.bool true, x.l.val] 65)) HA0.out.again (by omega) (by have := HL.out; have := Bp.out; first | omega | (simp; omega)))
  go_wp2_with fail
  refine C.out.mono ?_
  rintro e1 w1 ⟨rfl, v1, hb⟩
  have HA1 := hid (HA0.out.trans hb)
  have HW1 := hid (HA1.out.deep H.out.own HW0.out HG.out)
  clear C hb x0 x1
  have x0 := HA1.out.touch.cell (p := ⟨w.heap.size, 0, none⟩) HS.out X0H.out
  have x1 := HA1.out.touch.cell (p := ⟨w.heap.size, 1, none⟩) HS.out X1H.out
  have C := hid (byte_any g B v1 (xs ++ [127]) 1 w1 HA1.out.again (by omega) (by have := HL.out; have := Bp.out; first | omega | (simp; omega)))
  go_wp2_with fail
  refine C.out.mono ?_
  rintro e1 w2 ⟨rfl, v2, hb⟩
  have HA2 := hid (HA1.out.trans hb)
  have HW2 := hid (HA2.out.deep H.out.own HW0.out HG.out)
  clear C hb x0 x1
  have x0 := HA2.out.touch.cell (p := ⟨w.heap.size, 0, none⟩) HS.out X0H.out
  have x1 := HA2.out.touch.cell (p := ⟨w.heap.size, 1, none⟩) HS.out X1H.out
  obtain ⟨n2, hn2⟩ : ∃ n, p.length = n := ⟨_, rfl⟩
  have C := hid (ins_got x.l w2 ((HLs.out.below HW2.out).more HW2.out.size) HLN.out (HT.out.below HW2.out) HCT.out HEL.out HCK.out n2 (by rw [Ep.out]; exact hn2))
  rw [Ep.out] at C
  go_wp2_with fail
  refine C.out.mono ?_
  rintro e1 w3 ⟨a3, c3, rfl, hy, hb, hm⟩
  have HA3 := hid (HA2.out.on hb)
  have HW3 := hid (HW2.out.trans (hb.mono HW2.out.size))
  have HY := hid hy
  have HN := hid hm
  clear C hb hy hm x0 x1
  have x0 := HA3.out.touch.cell (p := ⟨w.heap.size, 0, none⟩) HS.out X0H.out
  have x1 := HA3.out.touch.cell (p := ⟨w.heap.size, 1, none⟩) HS.out X1H.out
  have C := hid (put_anyE g B v2 (xs ++ [127] ++ [1]) p a3 n2 c3 0 w3 HA3.out.again HN.out HY.out (by have := HL.out; have := Bp.out; first | omega | (simp; omega)))
  go_wp2_with fail
  refine C.out.mono ?_
  rintro e1 w4 ⟨rfl, v4, hb⟩
  have HA4 := hid (HA3.out.trans hb)
  have HW4 := hid (HA4.out.deep H.out.own HW0.out HG.out)
  clear C hb x0 x1
  have x0 := HA4.out.touch.cell (p := ⟨w.heap.size, 0, none⟩) HS.out X0H.out
  have x1 := HA4.out.touch.cell (p := ⟨w.heap.size, 1, none⟩) HS.out X1H.out
  clear x0 x1
  go_wp2
  go_end0
  exact ⟨rfl, v4, H1.out.trans HA4.out⟩
set_option maxRecDepth 100000 in
set_option maxHeartbeats 2000000 in
theorem global0_any (g B : Nat) (v : Value) (xs : List Int) (x : Gl) (w0 w : World) (h : Buf g B v w v xs w) (hB : Below w0.heap.size w0 w) (hg : w0.heap.size < g) (hl : xs.length ≤ 1000000000)
    (hLs : ListAt w0.heap.size w0 x.l.a x.l.t.len x.l.t) (hT : Nams w0) (hck : checkP x.l.t = 0) (hln : x.l.t.len ≤ 140737488351232) (hct : x.l.t.count ≤ 1000000) (hel : (encL x.l.t).length ≤ 90000) :
    Calls Tryz.prog 168 #[.pointer (some ⟨g, 0, none⟩), .agg #[.bool false, x.l.val]] w (Puts g B v w (xs ++ (127 :: 0 :: insB x.l))) := by
  have H := hid h
  have H1 := hid (h.lit (.cells #[.bool false, x.l.val] 65))
  have HA0 := hid (h.lit (.cells #[.bool false, x.l.val] 65)).again
  have HS := hid h.apart
  have HL := hid hl
  have HG := hid hg
  have HW0 := hid (hB.trans (((Below.refl w.heap.size w).alloc (Nat.le_refl _) (.cells #[.bool false, x.l.val] 65)).mono hB.size))
  have X0 := BoxAt.made w #[.bool false, x.l.val] 65
  have X0H := hid (X0 0 _ rfl)
  have X1H := hid (X0 1 _ rfl)
  have x0 := X0H.out
  have x1 := X1H.out
  have HLs := hid hLs
  have HT := hid hT
  have HCK := hid hck
  have HLN := hid hln
  have HCT := hid hct
  have HEL := hid hel
  have e : xs ++ (127 :: 0 :: insB x.l) = xs ++ [127] ++ [0] ++ insB x.l := by simp
  rw [e]
  have Bp := hid (show (insB x.l).length ≤ 100000000 from by show (encL x.l.t ++ [11]).length ≤ _; simp; omega)
  obtain ⟨p, hp⟩ : ∃ p, insB x.l = p := ⟨_, rfl⟩
  have Ep := hid hp
  rw [hp] at Bp ⊢
  clear h hB hg hl X0 e hp
  skip
  go_enter Tryz.func168, Tryz.ntmps168
  clear hLs hT hck hln hct hel
  unfold Lst.val at *
  have C := hid (byte_any g B v (xs) 127 (w.alloc (.cells #[.bool false, x.l.val] 65)) HA0.out.again (by omega) (by have := HL.out; have := Bp.out; first | omega | (simp; omega)))
  go_wp2_with fail
  refine C.out.mono ?_
  rintro e1 w1 ⟨rfl, v1, hb⟩
  have HA1 := hid (HA0.out.trans hb)
  have HW1 := hid (HA1.out.deep H.out.own HW0.out HG.out)
  clear C hb x0 x1
  have x0 := HA1.out.touch.cell (p := ⟨w.heap.size, 0, none⟩) HS.out X0H.out
  have x1 := HA1.out.touch.cell (p := ⟨w.heap.size, 1, none⟩) HS.out X1H.out
  have C := hid (byte_any g B v1 (xs ++ [127]) 0 w1 HA1.out.again (by omega) (by have := HL.out; have := Bp.out; first | omega | (simp; omega)))
  go_wp2_with fail
  refine C.out.mono ?_
  rintro e1 w2 ⟨rfl, v2, hb⟩
  have HA2 := hid (HA1.out.trans hb)
  have HW2 := hid (HA2.out.deep H.out.own HW0.out HG.out)
  clear C hb x0 x1
  have x0 := HA2.out.touch.cell (p := ⟨w.heap.size, 0, none⟩) HS.out X0H.out
  have x1 := HA2.out.touch.cell (p := ⟨w.heap.size, 1, none⟩) HS.out X1H.out
  obtain ⟨n2, hn2⟩ : ∃ n, p.length = n := ⟨_, rfl⟩
  have C := hid (ins_got x.l w2 ((HLs.out.below HW2.out).more HW2.out.size) HLN.out (HT.out.below HW2.out) HCT.out HEL.out HCK.out n2 (by rw [Ep.out]; exact hn2))
  rw [Ep.out] at C
  go_wp2_with fail
  refine C.out.mono ?_
  rintro e1 w3 ⟨a3, c3, rfl, hy, hb, hm⟩
  have HA3 := hid (HA2.out.on hb)
  have HW3 := hid (HW2.out.trans (hb.mono HW2.out.size))
  have HY := hid hy
  have HN := hid hm
  clear C hb hy hm x0 x1
  have x0 := HA3.out.touch.cell (p := ⟨w.heap.size, 0, none⟩) HS.out X0H.out
  have x1 := HA3.out.touch.cell (p := ⟨w.heap.size, 1, none⟩) HS.out X1H.out
  have C := hid (put_anyE g B v2 (xs ++ [127] ++ [0]) p a3 n2 c3 0 w3 HA3.out.again HN.out HY.out (by have := HL.out; have := Bp.out; first | omega | (simp; omega)))
  go_wp2_with fail
  refine C.out.mono ?_
  rintro e1 w4 ⟨rfl, v4, hb⟩
  have HA4 := hid (HA3.out.trans hb)
  have HW4 := hid (HA4.out.deep H.out.own HW0.out HG.out)
  clear C hb x0 x1
  have x0 := HA4.out.touch.cell (p := ⟨w.heap.size, 0, none⟩) HS.out X0H.out
  have x1 := HA4.out.touch.cell (p := ⟨w.heap.size, 1, none⟩) HS.out X1H.out
  clear x0 x1
  go_wp2
  go_end0
  exact ⟨rfl, v4, H1.out.trans HA4.out⟩
set_option maxRecDepth 100000 in
set_option maxHeartbeats 2000000 in
theorem exported_any (g B : Nat) (v : Value) (xs : List Int) (x : Ex) (w0 w : World) (h : Buf g B v w v xs w) (hB : Below w0.heap.size w0 w) (hg : w0.heap.size < g) (hl : xs.length ≤ 1000000000)
    (hU : Utf.Tabs w0) (h1 : x.na.size ≤ 1048576) (h3 : noText x.na = false) (h5 : 0 ≤ x.k) (h6 : x.k ≤ 3) (h7 : 0 ≤ x.i) (h8 : x.i < 4294967296) :
    Calls Tryz.prog 170 #[.pointer (some ⟨g, 0, none⟩), .agg #[.string x.na, .int .i64 x.k, .int .u32 x.i]] w (Puts g B v w (xs ++ exB x)) := by
  have H := hid h
  have H1 := hid (h.lit (.cells #[.string x.na, .int .i64 x.k, .int .u32 x.i] 72))
  have HA0 := hid (h.lit (.cells #[.string x.na, .int .i64 x.k, .int .u32 x.i] 72)).again
  have HS := hid h.apart
  have HL := hid hl
  have HG := hid hg
  have HW0 := hid (hB.trans (((Below.refl w.heap.size w).alloc (Nat.le_refl _) (.cells #[.string x.na, .int .i64 x.k, .int .u32 x.i] 72)).mono hB.size))
  have X0 := BoxAt.made w #[.string x.na, .int .i64 x.k, .int .u32 x.i] 72
  have X0H := hid (X0 0 _ rfl)
  have X1H := hid (X0 1 _ rfl)
  have X2H := hid (X0 2 _ rfl)
  have x0 := X0H.out
  have x1 := X1H.out
  have x2 := X2H.out
  have HU := hid hU
  have H1a := hid h1
  have H3a := hid h3
  have hw := u8_id x.k h5 h6
  have H5 := hid (show 0 ≤ x.k ∧ x.k < 256 by omega)
  have H7 := hid h7
  have H8 := hid h8
  have e : xs ++ exB x = xs ++ nameB x.na ++ [x.k] ++ encU x.i := by unfold exB; simp
  rw [e]
  have Bp := hid (show (nameB x.na).length ≤ 100000000 from by have := nameB_len x.na; omega)
  have Br := hid (show (encU x.i).length ≤ 100000000 from by rw [encU_length]; have := (sizeU_pos x.i).2; omega)
  obtain ⟨p, hp⟩ : ∃ p, nameB x.na = p := ⟨_, rfl⟩
  have Ep := hid hp
  rw [hp] at Bp ⊢
  obtain ⟨r, hr⟩ : ∃ p, encU x.i = p := ⟨_, rfl⟩
  have Er := hid hr
  rw [hr] at Br ⊢
  clear h hB hg hl X0 e hp hr
  skip
  go_enter Tryz.func170, Tryz.ntmps170
  clear hU h1 h3 h5 h6 h7 h8
  obtain ⟨n0, hn0⟩ : ∃ n, p.length = n := ⟨_, rfl⟩
  have C := hid (name_got x.na (w.alloc (.cells #[.string x.na, .int .i64 x.k, .int .u32 x.i] 72)) (HU.out.below HW0.out) H1a.out H3a.out n0 (by rw [Ep.out]; exact hn0))
  rw [Ep.out] at C
  go_wp2_with fail
  refine C.out.mono ?_
  rintro e1 w1 ⟨a1, c1, rfl, hy, hb, hm⟩
  have HA1 := hid (HA0.out.on hb)
  have HW1 := hid (HW0.out.trans (hb.mono HW0.out.size))
  have HY := hid hy
  have HN := hid hm
  clear C hb hy hm x0 x1 x2
  have x0 := HA1.out.touch.cell (p := ⟨w.heap.size, 0, none⟩) HS.out X0H.out
  have x1 := HA1.out.touch.cell (p := ⟨w.heap.size, 1, none⟩) HS.out X1H.out
  have x2 := HA1.out.touch.cell (p := ⟨w.heap.size, 2, none⟩) HS.out X2H.out
  have C := hid (put_anyE g B v (xs) p a1 n0 c1 0 w1 HA1.out.again HN.out HY.out (by have := HL.out; have := Bp.out; have := Br.out; first | omega | (simp; omega)))
  go_wp2_with fail
  refine C.out.mono ?_
  rintro e1 w2 ⟨rfl, v2, hb⟩
  have HA2 := hid (HA1.out.trans hb)
  have HW2 := hid (HA2.out.deep H.out.own HW0.out HG.out)
  clear C hb x0 x1 x2
  have x0 := HA2.out.touch.cell (p := ⟨w.heap.size, 0, none⟩) HS.out X0H.out
  have x1 := HA2.out.touch.cell (p := ⟨w.heap.size, 1, none⟩) HS.out X1H.out
  have x2 := HA2.out.touch.cell (p := ⟨w.heap.size, 2, none⟩) HS.out X2H.out
  have C := hid (byte_any g B v2 (xs ++ p) x.k w2 HA2.out.again H5.out (by have := HL.out; have := Bp.out; have := Br.out; first | omega | (simp; omega)))
  go_wp2_with fail
  refine C.out.mono ?_
  rintro e1 w3 ⟨rfl, v3, hb⟩
  have HA3 := hid (HA2.out.trans hb)
  have HW3 := hid (HA3.out.deep H.out.own HW0.out HG.out)
  clear C hb x0 x1 x2
  have x0 := HA3.out.touch.cell (p := ⟨w.heap.size, 0, none⟩) HS.out X0H.out
  have x1 := HA3.out.touch.cell (p := ⟨w.heap.size, 1, none⟩) HS.out X1H.out
  have x2 := HA3.out.touch.cell (p := ⟨w.heap.size, 2, none⟩) HS.out X2H.out
  have C := hid (number_any g B v3 (xs ++ p ++ [x.k]) x.i w3 HA3.out.again H7.out H8.out (by have := HL.out; have := Bp.out; have := Br.out; first | omega | (simp; omega)))
  rw [Er.out] at C
  go_wp2_with fail
  refine C.out.mono ?_
  rintro e1 w4 ⟨rfl, v4, hb⟩
  have HA4 := hid (HA3.out.trans hb)
  have HW4 := hid (HA4.out.deep H.out.own HW0.out HG.out)
  clear C hb x0 x1 x2
  have x0 := HA4.out.touch.cell (p := ⟨w.heap.size, 0, none⟩) HS.out X0H.out
  have x1 := HA4.out.touch.cell (p := ⟨w.heap.size, 1, none⟩) HS.out X1H.out
  have x2 := HA4.out.touch.cell (p := ⟨w.heap.size, 2, none⟩) HS.out X2H.out
  clear x0 x1 x2
  go_wp2
  go_end0
  exact ⟨rfl, v4, H1.out.trans HA4.out⟩
set_option maxRecDepth 100000 in
set_option maxHeartbeats 2000000 in
theorem code_any (g B : Nat) (v : Value) (xs : List Int) (x : Mod.Fn) (w0 w : World) (h : Buf g B v w v xs w) (hB : Below w0.heap.size w0 w) (hg : w0.heap.size < g) (hl : xs.length ≤ 1000000000)
    (hLs : ListAt w0.heap.size w0 x.l.a x.l.t.len x.l.t) (hT : Nams w0) (hck : checkP x.l.t = 0) (hln : x.l.t.len ≤ 140737488351232) (hct : x.l.t.count ≤ 1000000) (hel : (encL x.l.t).length ≤ 90000) (hlo : 0 ≤ x.lo ∧ x.lo ≤ 50000) :
    Calls Tryz.prog 173 #[.pointer (some ⟨g, 0, none⟩), .agg #[.int .i64 x.ty, .int .i64 x.lo, x.l.val]] w (Puts g B v w (xs ++ coB x)) := by
  have H := hid h
  have H1 := hid (h.lit (.cells #[.int .i64 x.ty, .int .i64 x.lo, x.l.val] 63))
  have HA0 := hid (h.lit (.cells #[.int .i64 x.ty, .int .i64 x.lo, x.l.val] 63)).again
  have HS := hid h.apart
  have HL := hid hl
  have HG := hid hg
  have HW0 := hid (hB.trans (((Below.refl w.heap.size w).alloc (Nat.le_refl _) (.cells #[.int .i64 x.ty, .int .i64 x.lo, x.l.val] 63)).mono hB.size))
  have X0 := BoxAt.made w #[.int .i64 x.ty, .int .i64 x.lo, x.l.val] 63
  have X0H := hid (X0 0 _ rfl)
  have X1H := hid (X0 1 _ rfl)
  have X2H := hid (X0 2 _ rfl)
  have x0 := X0H.out
  have x1 := X1H.out
  have x2 := X2H.out
  have HLs := hid hLs
  have HT := hid hT
  have HCK := hid hck
  have HLN := hid hln
  have HCT := hid hct
  have HEL := hid hel
  have HL0 := hid hlo
  have e : xs ++ coB x = xs ++ (encU (codeL x.lo x.l.t).length ++ codeL x.lo x.l.t) := by rfl
  rw [e]
  have Bp := hid (show (codeL x.lo x.l.t).length ≤ 100000000 from by have := (Go.Proofs.YtiadgkdkjinnjaaGreatDoor.Body.loc_len x.lo).1; unfold codeL; rw [List.length_append]; show _ + (encL x.l.t ++ [11]).length ≤ _; simp; omega)
  obtain ⟨p, hp⟩ : ∃ p, codeL x.lo x.l.t = p := ⟨_, rfl⟩
  have Ep := hid hp
  rw [hp] at Bp ⊢
  clear h hB hg hl X0 e hp
  skip
  go_enter Tryz.func173, Tryz.ntmps173
  clear hLs hT hck hln hct hel hlo
  unfold Lst.val at *
  obtain ⟨n0, hn0⟩ : ∃ n, p.length = n := ⟨_, rfl⟩
  have C := hid (code_got x _ ((HLs.out.below HW0.out).more HW0.out.size) HLN.out (HT.out.below HW0.out) HCT.out HEL.out HCK.out HL0.out.1 HL0.out.2 n0 (by rw [Ep.out]; exact hn0))
  rw [Ep.out] at C
  rw [hn0]
  go_wp2_with fail
  refine C.out.mono ?_
  rintro e1 w1 ⟨⟨a1, c1, rfl, hy, hb, hm⟩, hfr⟩
  have HA1 := hid (HA0.out.on hb)
  have HW1 := hid (HW0.out.trans (hb.mono HW0.out.size))
  have HY := hid hy
  have HN := hid hm
  have HF := hid (fun b off (ha : a1 = some ⟨b, off, none⟩) => hfr a1 c1 rfl b off ha)
  clear C hb hy hm hfr hn0 x0 x1 x2
  have C := hid (sized_any g B v xs p a1 n0 c1 w1 HA1.out.again HN.out HY.out (by have := HL.out; have := Bp.out; omega) (fun b off ha _ hs => by
    have h1 := HF.out b off ha
    simp only [World.size_alloc] at h1
    rcases hs with rfl | e
    · have := H.out.lt; omega
    · have := (World.ownsRow.lt H.out.own b e).2; omega))
  go_wp2_with fail
  refine C.out.mono ?_
  rintro e1 w2 ⟨rfl, v2, hb⟩
  have HA2 := hid (HA1.out.trans hb)
  clear C hb
  have x0 := X0H.out
  have x1 := X1H.out
  have x2 := X2H.out
  clear x0 x1 x2
  go_wp2
  go_end0
  exact ⟨rfl, v2, H1.out.trans HA2.out⟩
set_option maxRecDepth 100000 in
set_option maxHeartbeats 2000000 in
theorem data_any (g B : Nat) (v : Value) (xs : List Int) (x : Da) (w0 w : World) (h : Buf g B v w v xs w) (hB : Below w0.heap.size w0 w) (hg : w0.heap.size < g) (hl : xs.length ≤ 1000000000)
    (hLs : ListAt w0.heap.size w0 x.l.a x.l.t.len x.l.t) (hT : Nams w0) (hck : checkP x.l.t = 0) (hln : x.l.t.len ≤ 140737488351232) (hct : x.l.t.count ≤ 1000000) (hel : (encL x.l.t).length ≤ 90000) (hbs : BytesAt w0.heap.size w0 x.ba x.bs) (hby : ∀ z ∈ x.bs, 0 ≤ z ∧ z < 256) (hbl : x.bs.length ≤ 100000000) :
    Calls Tryz.prog 175 #[.pointer (some ⟨g, 0, none⟩), .agg #[x.l.val, .slice x.ba x.bs.length x.bc]] w (Puts g B v w (xs ++ daB x)) := by
  have H := hid h
  have H1 := hid (h.lit (.cells #[x.l.val, .slice x.ba x.bs.length x.bc] 47))
  have HA0 := hid (h.lit (.cells #[x.l.val, .slice x.ba x.bs.length x.bc] 47)).again
  have HS := hid h.apart
  have HL := hid hl
  have HG := hid hg
  have HW0 := hid (hB.trans (((Below.refl w.heap.size w).alloc (Nat.le_refl _) (.cells #[x.l.val, .slice x.ba x.bs.length x.bc] 47)).mono hB.size))
  have X0 := BoxAt.made w #[x.l.val, .slice x.ba x.bs.length x.bc] 47
  have X0H := hid (X0 0 _ rfl)
  have X1H := hid (X0 1 _ rfl)
  have x0 := X0H.out
  have x1 := X1H.out
  have HLs := hid hLs
  have HT := hid hT
  have HCK := hid hck
  have HLN := hid hln
  have HCT := hid hct
  have HEL := hid hel
  have HBS := hid hbs
  have HBY := hid hby
  have HBL := hid hbl
  have e : xs ++ daB x = xs ++ [0] ++ insB x.l ++ (encU x.bs.length ++ x.bs) := by unfold daB; simp
  rw [e]
  have Bp := hid (show (insB x.l).length ≤ 100000000 from by show (encL x.l.t ++ [11]).length ≤ _; simp; omega)
  obtain ⟨p, hp⟩ : ∃ p, insB x.l = p := ⟨_, rfl⟩
  have Ep := hid hp
  rw [hp] at Bp ⊢
  clear h hB hg hl X0 e hp
  skip
  go_enter Tryz.func175, Tryz.ntmps175
  clear hLs hT hck hln hct hel hbs hby hbl
  unfold Lst.val at *
  have C := hid (byte_any g B v (xs) 0 (w.alloc (.cells #[x.l.val, .slice x.ba x.bs.length x.bc] 47)) HA0.out.again (by omega) (by have := HL.out; have := Bp.out; first | omega | (simp; omega)))
  go_wp2_with fail
  refine C.out.mono ?_
  rintro e1 w1 ⟨rfl, v1, hb⟩
  have HA1 := hid (HA0.out.trans hb)
  have HW1 := hid (HA1.out.deep H.out.own HW0.out HG.out)
  clear C hb x0 x1
  have x0 := HA1.out.touch.cell (p := ⟨w.heap.size, 0, none⟩) HS.out X0H.out
  have x1 := HA1.out.touch.cell (p := ⟨w.heap.size, 1, none⟩) HS.out X1H.out
  obtain ⟨n1, hn1⟩ : ∃ n, p.length = n := ⟨_, rfl⟩
  have C := hid (ins_got x.l w1 ((HLs.out.below HW1.out).more HW1.out.size) HLN.out (HT.out.below HW1.out) HCT.out HEL.out HCK.out n1 (by rw [Ep.out]; exact hn1))
  rw [Ep.out] at C
  go_wp2_with fail
  refine C.out.mono ?_
  rintro e1 w2 ⟨a2, c2, rfl, hy, hb, hm⟩
  have HA2 := hid (HA1.out.on hb)
  have HW2 := hid (HW1.out.trans (hb.mono HW1.out.size))
  have HY := hid hy
  have HN := hid hm
  clear C hb hy hm x0 x1
  have x0 := HA2.out.touch.cell (p := ⟨w.heap.size, 0, none⟩) HS.out X0H.out
  have x1 := HA2.out.touch.cell (p := ⟨w.heap.size, 1, none⟩) HS.out X1H.out
  have C := hid (put_anyE g B v1 (xs ++ [0]) p a2 n1 c2 0 w2 HA2.out.again HN.out HY.out (by have := HL.out; have := Bp.out; first | omega | (simp; omega)))
  go_wp2_with fail
  refine C.out.mono ?_
  rintro e1 w3 ⟨rfl, v3, hb⟩
  have HA3 := hid (HA2.out.trans hb)
  have HW3 := hid (HA3.out.deep H.out.own HW0.out HG.out)
  clear C hb x0 x1
  have x0 := HA3.out.touch.cell (p := ⟨w.heap.size, 0, none⟩) HS.out X0H.out
  have x1 := HA3.out.touch.cell (p := ⟨w.heap.size, 1, none⟩) HS.out X1H.out
  obtain ⟨nb, hnb⟩ : ∃ n, x.bs.length = n := ⟨_, rfl⟩
  have HNB := hid hnb
  have C := hid (sized_any g B v3 (xs ++ [0] ++ p) x.bs x.ba nb x.bc w3 HA3.out.again HNB.out (bytes_at (HBS.out.below HW3.out) HBY.out (by have := HBL.out; omega)) (by have := HL.out; have := Bp.out; have := HBL.out; simp; omega) (fun b off ha hne hs => by
    have hlt : b < w0.heap.size := by
      rcases HBS.out with h | ⟨b1, off1, h, hl, _⟩
      · exact absurd h hne
      · rw [h] at ha; simp only [Option.some.injEq, Addr.mk.injEq] at ha; omega
    have h2 := HG.out
    rcases hs with e | e
    · omega
    · have := (World.ownsRow.lt HA3.out.own b e).1; have := H.out.low; omega))
  rw [hnb] at x1
  rw [hnb]
  clear hnb
  go_wp2_with fail
  refine C.out.mono ?_
  rintro e1 w4 ⟨rfl, v4, hb⟩
  rw [← HNB.out] at hb
  have HA4 := hid (HA3.out.trans hb)
  clear C hb
  clear x0 x1
  go_wp2
  go_end0
  exact ⟨rfl, v4, H1.out.trans HA4.out⟩
set_option maxRecDepth 100000 in
set_option maxHeartbeats 2000000 in
theorem elem_any (g B : Nat) (v : Value) (xs : List Int) (x : El) (w0 w : World) (h : Buf g B v w v xs w) (hB : Below w0.heap.size w0 w) (hg : w0.heap.size < g) (hl : xs.length ≤ 1000000000)
    (hLs : ListAt w0.heap.size w0 x.l.a x.l.t.len x.l.t) (hT : Nams w0) (hck : checkP x.l.t = 0) (hln : x.l.t.len ≤ 140737488351232) (hct : x.l.t.count ≤ 1000000) (hel : (encL x.l.t).length ≤ 90000) (hfs : TagsAt w0.heap.size w0 x.fa x.fs) (hfz : ∀ z ∈ x.fs, 0 ≤ z ∧ z < 4294967296) (hfl : x.fs.length ≤ 16384) :
    Calls Tryz.prog 172 #[.pointer (some ⟨g, 0, none⟩), .agg #[x.l.val, .slice x.fa x.fs.length x.fc]] w (Puts g B v w (xs ++ elB x)) := by
  have H := hid h
  have H1 := hid (h.lit (.cells #[x.l.val, .slice x.fa x.fs.length x.fc] 68))
  have HA0 := hid (h.lit (.cells #[x.l.val, .slice x.fa x.fs.length x.fc] 68)).again
  have HS := hid h.apart
  have HL := hid hl
  have HG := hid hg
  have HW0 := hid (hB.trans (((Below.refl w.heap.size w).alloc (Nat.le_refl _) (.cells #[x.l.val, .slice x.fa x.fs.length x.fc] 68)).mono hB.size))
  have X0 := BoxAt.made w #[x.l.val, .slice x.fa x.fs.length x.fc] 68
  have X0H := hid (X0 0 _ rfl)
  have X1H := hid (X0 1 _ rfl)
  have x0 := X0H.out
  have x1 := X1H.out
  have HLs := hid hLs
  have HT := hid hT
  have HCK := hid hck
  have HLN := hid hln
  have HCT := hid hct
  have HEL := hid hel
  have HFS := hid hfs
  have HFZ := hid hfz
  have HFL := hid hfl
  have hw := u32_id x.fs.length (by omega) (by omega)
  have e : xs ++ elB x = xs ++ [0] ++ insB x.l ++ encU x.fs.length ++ x.fs.flatMap encU := by unfold elB; simp
  rw [e]
  have Bp := hid (show (insB x.l).length ≤ 100000000 from by show (encL x.l.t ++ [11]).length ≤ _; simp; omega)
  have Br := hid (show (encU x.fs.length).length ≤ 100000000 from by rw [encU_length]; have := (sizeU_pos x.fs.length).2; omega)
  obtain ⟨p, hp⟩ : ∃ p, insB x.l = p := ⟨_, rfl⟩
  have Ep := hid hp
  rw [hp] at Bp ⊢
  obtain ⟨r, hr⟩ : ∃ p, encU x.fs.length = p := ⟨_, rfl⟩
  have Er := hid hr
  rw [hr] at Br ⊢
  clear h hB hg hl X0 e hp hr
  skip
  go_enter Tryz.func172, Tryz.ntmps172
  clear hLs hT hck hln hct hel hfs hfz hfl
  unfold Lst.val at *
  skip
  skip
  have C := hid (byte_any g B v (xs) 0 (w.alloc (.cells #[x.l.val, .slice x.fa x.fs.length x.fc] 68)) HA0.out.again (by omega) (by have := HL.out; have := Bp.out; have := Br.out; first | omega | (simp; omega)))
  go_wp2_with fail
  refine C.out.mono ?_
  rintro e1 w1 ⟨rfl, v1, hb⟩
  have HA1 := hid (HA0.out.trans hb)
  have HW1 := hid (HA1.out.deep H.out.own HW0.out HG.out)
  clear C hb x0 x1
  have x0 := HA1.out.touch.cell (p := ⟨w.heap.size, 0, none⟩) HS.out X0H.out
  have x1 := HA1.out.touch.cell (p := ⟨w.heap.size, 1, none⟩) HS.out X1H.out
  obtain ⟨n1, hn1⟩ : ∃ n, p.length = n := ⟨_, rfl⟩
  have C := hid (ins_got x.l w1 ((HLs.out.below HW1.out).more HW1.out.size) HLN.out (HT.out.below HW1.out) HCT.out HEL.out HCK.out n1 (by rw [Ep.out]; exact hn1))
  rw [Ep.out] at C
  go_wp2_with fail
  refine C.out.mono ?_
  rintro e1 w2 ⟨a2, c2, rfl, hy, hb, hm⟩
  have HA2 := hid (HA1.out.on hb)
  have HW2 := hid (HW1.out.trans (hb.mono HW1.out.size))
  have HY := hid hy
  have HN := hid hm
  clear C hb hy hm x0 x1
  have x0 := HA2.out.touch.cell (p := ⟨w.heap.size, 0, none⟩) HS.out X0H.out
  have x1 := HA2.out.touch.cell (p := ⟨w.heap.size, 1, none⟩) HS.out X1H.out
  have C := hid (put_anyE g B v1 (xs ++ [0]) p a2 n1 c2 0 w2 HA2.out.again HN.out HY.out (by have := HL.out; have := Bp.out; have := Br.out; first | omega | (simp; omega)))
  go_wp2_with fail
  refine C.out.mono ?_
  rintro e1 w3 ⟨rfl, v3, hb⟩
  have HA3 := hid (HA2.out.trans hb)
  have HW3 := hid (HA3.out.deep H.out.own HW0.out HG.out)
  clear C hb x0 x1
  have x0 := HA3.out.touch.cell (p := ⟨w.heap.size, 0, none⟩) HS.out X0H.out
  have x1 := HA3.out.touch.cell (p := ⟨w.heap.size, 1, none⟩) HS.out X1H.out
  obtain ⟨nf, hnf⟩ : ∃ n, x.fs.length = n := ⟨_, rfl⟩
  have LN := hid hnf
  have C := hid (number_any g B v3 (xs ++ [0] ++ p) (nf : Int) w3 HA3.out.again (by omega) (by have := HFL.out; omega) (by have := HL.out; have := Bp.out; have := Br.out; first | omega | (simp; omega)))
  rw [← hnf, Er.out] at C
  rw [hnf] at C x1 hw
  go_wp2_with fail
  refine C.out.mono ?_
  rintro e1 w4 ⟨rfl, v4, hb⟩
  have HA4 := hid (HA3.out.trans hb)
  have HW4 := hid (HA4.out.deep H.out.own HW0.out HG.out)
  clear C hb x0 x1
  have x0 := HA4.out.touch.cell (p := ⟨w.heap.size, 0, none⟩) HS.out X0H.out
  have x1 := HA4.out.touch.cell (p := ⟨w.heap.size, 1, none⟩) HS.out X1H.out
  rw [hnf] at x1
  clear hnf hw
  go_wp2
  obtain ⟨fa, hfa9⟩ : ∃ a, x.fa = a := ⟨_, rfl⟩
  have HFT := HFS
  rw [hfa9] at HFT ⊢
  clear hfa9
  have hnf2 : nf ≤ 16384 := by have := LN.out; have := HFL.out; omega
  go_loopw [24] (fun vi wr => ∃ (j : Nat) (v9 : Value), vi = .int .i64 j ∧ j ≤ nf ∧ Hid (Buf g B v (w.alloc (.cells #[.slice x.l.a x.l.t.len x.l.c, .slice x.fa x.fs.length x.fc] 68)) v9 (xs ++ [0] ++ p ++ r ++ (x.fs.take j).flatMap encU) wr) ∧ Hid (Below w0.heap.size w0 wr)) (fun vi _ => nf - (intOf vi).toNat)
  case atStart => exact ⟨0, v4, rfl, Nat.zero_le _, hid (by simpa using HA4.out), HW4⟩
  case round =>
    clear HA4 HW4 x0 x1
    obtain ⟨j, v9, rfl, hj, HA, HW⟩ := hrel
    by_cases hlt : j < nf
    · have hjl : j < x.fs.length := by rw [LN.out]; exact hlt
      have hji : (j : Int) < (nf : Int) := by omega
      rcases HFT.out with h0 | ⟨b, off, rfl, hbl, hc⟩
      · rw [h0] at hjl; simp at hjl
      have hcj := HW.out.cell (p := ⟨b, off + j, none⟩) hbl |>.trans (hc j hjl)
      have HST := hid (flat_step encU hjl)
      have hfz := HFZ.out _ (List.getElem_mem hjl)
      rw [getD_lt hjl] at hcj
      obtain ⟨f, hf⟩ : ∃ f, x.fs[j] = f := ⟨_, rfl⟩
      rw [hf] at hcj HST hfz
      have hlen : (xs ++ [0] ++ p ++ r ++ (x.fs.take j).flatMap encU).length ≤ 2000000000 := by
        have h1 := flat_five (x.fs.take j)
        have h2 := HFL.out
        have h3 : (x.fs.take j).length ≤ x.fs.length := by rw [List.length_take]; omega
        have := HL.out; have := Bp.out; have := Br.out
        rw [List.length_append]
        simp only [List.length_append, List.length_cons, List.length_nil]
        omega
      have C := hid (number_any g B v9 (xs ++ [0] ++ p ++ r ++ (x.fs.take j).flatMap encU) f wr HA.out.again hfz.1 hfz.2 hlen)
      clear hf hc hbl hjl hfz hlen hlt
      go_wp2_with fail
      refine C.out.mono ?_
      rintro e1 w9 ⟨rfl, v8, hb⟩
      have HA8 := hid (HA.out.trans hb)
      have HW8 := hid (HA8.out.deep H1.out.own HW0.out HG.out)
      clear C hb hcj
      go_wp2
      go_roundw
      case rel => exact ⟨j + 1, v8, by go_num, by omega, hid (by rw [HST.out, ← List.append_assoc]; exact HA8.out), HW8⟩
      case measure => simp [intOf]; omega
    · obtain rfl : nf = j := by omega
      have HE := hid (show x.fs.take nf = x.fs from List.take_of_length_le (by rw [LN.out]; exact Nat.le_refl _))
      go_wp2
      go_end0
      exact ⟨rfl, v9, H1.out.trans (by have := HA.out; rw [HE.out] at this; exact this)⟩
end Go.Proofs.YtiadgkdkjinnjaaGreatDoor.Enc
