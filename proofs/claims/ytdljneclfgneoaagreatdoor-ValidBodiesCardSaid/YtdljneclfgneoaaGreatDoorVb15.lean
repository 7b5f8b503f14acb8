import Derived.Test.YtdljneclfgneoaaGreatDoorVb14
import Derived.Test.YtdljneclfgneoaaGreatDoorVb12
namespace Go.Proofs.YtdljneclfgneoaaGreatDoor.Instr
end Go.Proofs.YtdljneclfgneoaaGreatDoor.Instr
namespace Go.Proofs.YtdljneclfgneoaaGreatDoor.Mod
end Go.Proofs.YtdljneclfgneoaaGreatDoor.Mod
namespace Go.Proofs.YtdljneclfgneoaaGreatDoor.Stk
end Go.Proofs.YtdljneclfgneoaaGreatDoor.Stk
namespace Go.Proofs.YtdljneclfgneoaaGreatDoor.Val
open Go.RowKit Go.Proofs.YtdljneclfgneoaaGreatDoor.Instr Go.Proofs.YtdljneclfgneoaaGreatDoor.Mod
open Go.Proofs.YtdljneclfgneoaaGreatDoor.Stk (Fr R pushR popR deadR enterR leaveR labelR newR valid lastF without wrongRe opens)

theorem Out.pop {s : St} {p : Hv × J} (o : Out s p.2) (n a : Int) : Out (popS n s) (popJ n a p).2 := by
  have h : s.er ≠ 0 := by rw [o.2.1]; exact o.1
  rw [popS_erJ h, popJ_out o.1]; exact o
theorem Out.ne {s : St} {j : J} (o : Out s j) : s.er ≠ 0 := by rw [o.2.1]; exact o.1
section
variable {a b : Int} {ls : List Int} {fs : List Fr} {op ba re : Int} {s : St} {p : Hv × J}
theorem Rel.tagsIn (r : Rel a b ls fs op ba re s p) (k : Int) : ∀ (l : List Int) (q : Bool), (∀ t ∈ l, 0 ≤ t ∧ t < (ls.length : Int)) →
    tagsS k l q s = (q && l.all (fun t => decide ((labelJ ls t a p.2).1 = k)), s) ∧ missJ ls a l p.2 = p.2
  | [], q, _ => by simp [tagsS, missJ]
  | t :: l, q, h => by
    obtain ⟨h1, h2⟩ := h t (by simp)
    obtain ⟨e1, e2, _⟩ := r.labelIn h1 h2
    obtain ⟨i1, i2⟩ := r.tagsIn k l (decide ((labelJ ls t a p.2).1 = k) && q) (fun x hx => h x (by simp [hx]))
    rw [tagsS, missJ, e1, e2, i1, i2]
    refine ⟨?_, rfl⟩
    rw [List.all_cons]
    congr 1
    cases decide ((labelJ ls t a p.2).1 = k) <;> cases q <;> rfl
theorem Rel.tagsOut (r : Rel a b ls fs op ba re s p) (k : Int) : ∀ (l : List Int) (q : Bool), (∀ t ∈ l, 0 ≤ t) → (∃ t ∈ l, (ls.length : Int) ≤ t) →
    (tagsS k l q s).2 = failS 6 s ∧ missJ ls a l p.2 = p.2.fault 6 a
  | [], q, _, h => by simp at h
  | t :: l, q, h0, h => by
    rw [tagsS, missJ]
    by_cases h1 : (ls.length : Int) ≤ t
    · obtain ⟨e1, e2⟩ := r.labelOut h1
      rw [e1, e2]
      exact ⟨tagsS_erJ _ _ _ (failS_ne (by simp)), missJ_out _ _ _ (fault_ne (by simp))⟩
    · obtain ⟨e1, e2, _⟩ := r.labelIn (h0 t (by simp)) (by omega)
      rw [e1, e2]
      refine r.tagsOut k l _ (fun x hx => h0 x (by simp [hx])) ?_
      obtain ⟨x, hx, h2⟩ := h
      rcases List.mem_cons.1 hx with rfl | hx
      · exact absurd h2 h1
      · exact ⟨x, hx, h2⟩
theorem Rel.unlike (r : Rel a b ls fs op ba re s p) (k : Int) : ∀ (l : List Int), (∀ t ∈ l, 0 ≤ t ∧ t < (ls.length : Int)) →
    unlikeJ ls k a l p.2 = if l.all (fun t => decide ((labelJ ls t a p.2).1 = k)) then p.2 else p.2.fault 214 a
  | [], _ => by simp [unlikeJ]
  | t :: l, h => by
    obtain ⟨h1, h2⟩ := h t (by simp)
    obtain ⟨e1, e2, _⟩ := r.labelIn h1 h2
    rw [unlikeJ, if_pos r.e, e2, List.all_cons]
    by_cases hk : (labelJ ls t a p.2).1 = k
    · rw [if_pos hk, r.unlike k l (fun x hx => h x (by simp [hx]))]
      simp [hk]
    · rw [if_neg hk, unlikeJ_out _ _ _ _ (fault_ne (by simp))]
      simp [hk]
/-- A table of labels, ahead of the words. -/
theorem Rel.table (r : Rel a b ls fs op ba re s p) {tags : List Int} {last : Int} (ht : ∀ t ∈ tags, 0 ≤ t) (hl : 0 ≤ last) :
    (last < (ls.length : Int) ∧ tableS tags last s = s ∧ unlikeJ ls (labelJ ls last a (missJ ls a tags p.2)).1 a tags (labelJ ls last a (missJ ls a tags p.2)).2 = p.2 ∧ missJ ls a tags p.2 = p.2) ∨
      Out (tableS tags last s) (unlikeJ ls (labelJ ls last a (missJ ls a tags p.2)).1 a tags (labelJ ls last a (missJ ls a tags p.2)).2) := by
  by_cases h1 : ∃ t ∈ tags, (ls.length : Int) ≤ t
  · right
    by_cases h2 : (ls.length : Int) ≤ last
    · obtain ⟨e1, e2⟩ := r.labelOut h2
      obtain ⟨_, i2⟩ := r.tagsOut 0 tags true ht h1
      have hne : (p.2.fault 6 a).e ≠ 0 := fault_ne (by simp)
      rw [i2, labelJ_out hne, unlikeJ_out _ _ _ _ hne]
      have : tableS tags last s = failS 6 s := by
        have h6 : (failS 6 s).er ≠ 0 := failS_ne (by simp)
        unfold tableS
        rw [e1]; simp only
        rw [tagsS_erJ _ _ _ h6, failS_erJ h6]; split <;> rfl
      rw [this]
      exact r.fail (by simp)
    · obtain ⟨e1, e2, _⟩ := r.labelIn hl (by omega)
      obtain ⟨i1, i2⟩ := r.tagsOut (labelJ ls last a p.2).1 tags true ht h1
      have hne : (p.2.fault 6 a).e ≠ 0 := fault_ne (by simp)
      rw [i2, labelJ_out hne, unlikeJ_out _ _ _ _ hne]
      have : tableS tags last s = failS 6 s := by
        have h6 : (failS 6 s).er ≠ 0 := failS_ne (by simp)
        unfold tableS
        rw [e1]; simp only
        rw [i1, failS_erJ h6]; split <;> rfl
      rw [this]
      exact r.fail (by simp)
  · have h1' : ∀ t ∈ tags, 0 ≤ t ∧ t < (ls.length : Int) := fun t hx => ⟨ht t hx, by
      rcases (show t < (ls.length : Int) ∨ (ls.length : Int) ≤ t by omega) with h | h
      · exact h
      · exact absurd ⟨t, hx, h⟩ h1⟩
    by_cases h2 : (ls.length : Int) ≤ last
    · right
      obtain ⟨e1, e2⟩ := r.labelOut h2
      obtain ⟨_, i2⟩ := r.tagsIn 0 tags true h1'
      have hne : (p.2.fault 6 a).e ≠ 0 := fault_ne (by simp)
      rw [i2, e2, unlikeJ_out _ _ _ _ hne]
      have : tableS tags last s = failS 6 s := by
        have h6 : (failS 6 s).er ≠ 0 := failS_ne (by simp)
        unfold tableS
        rw [e1]; simp only
        rw [tagsS_erJ _ _ _ h6, failS_erJ h6]; split <;> rfl
      rw [this]
      exact r.fail (by simp)
    · obtain ⟨e1, e2, _⟩ := r.labelIn hl (by omega)
      obtain ⟨i1, i2⟩ := r.tagsIn (labelJ ls last a p.2).1 tags true h1'
      rw [i2, e2, r.unlike _ tags h1']
      unfold tableS
      rw [e1]; simp only
      rw [i1]; simp only [Bool.true_and]
      cases hq : tags.all (fun t => decide ((labelJ ls t a p.2).1 = (labelJ ls last a p.2).1)) with
      | true => left; simp only [if_true]; exact ⟨by omega, trivial, trivial, trivial⟩
      | false => right; exact r.fail (by simp)
end
/-- What is asked of a module's types. -/
structure Env (m : Md) : Prop where
  fn : ∀ n, 0 ≤ (m.typeOf n).1.1 ∧ 0 ≤ (m.typeOf n).1.2 ∧ (m.typeOf n).1.2 ≤ 1
  ty : ∀ t ∈ m.ty, 0 ≤ t.1 ∧ 0 ≤ t.2 ∧ t.2 ≤ 1
theorem Env.callee {m : Md} (h : Env m) (x : Ix) : 0 ≤ (calleeP m x).1.1 ∧ 0 ≤ (calleeP m x).1.2 ∧ (calleeP m x).1.2 ≤ 1 := by
  unfold calleeP
  split
  · exact h.fn _
  split
  · simp
  · rename_i h1
    by_cases hk : x.a.toNat < m.ty.length
    · have : m.ty.getD x.a.toNat (0, 0) = m.ty[x.a.toNat] := by simp [hk]
      simp only [this]
      exact h.ty _ (List.getElem_mem hk)
    · have : m.ty.getD x.a.toNat (0, 0) = (0, 0) := by simp [hk]
      simp only [this]
      simp
theorem takesP_nonneg (op : Int) : 0 ≤ takesP op := by
  unfold takesP; split
  · omega
  · exact (takesO_range op).1
theorem leavesP_range (op : Int) : 0 ≤ leavesP op ∧ leavesP op ≤ 1 := by
  unfold leavesP; split
  · simp
  · exact leavesO_range op
/-- Both ways treat a list that is entered alike. -/
def ListOk (t : Il) (ls : List Int) (res a : Int) (Ls : St → St) (LJ : Int → J → J) : Prop :=
  ∀ (o : Int) (fs : List Fr) (s : St) (j : J), Stk.opens o = true → valid s.h fs = true → fs.length + t.deep < 1000 → s.er = 0 → j.e = 0 → s.cnt = j.cnt → s.l = fs ++ [⟨o, s.h, res, false⟩] → ls = fs.map labF → s.at_ = a → s.h ≤ s.cnt → s.cnt + t.count ≤ 1000000 → j.at_ = 0 →
    Out (Ls s) (LJ (if o = 3 then 0 else res) j) ∨
      ((Ls s).er = 0 ∧ (LJ (if o = 3 then 0 else res) j).e = 0 ∧ (Ls s).cnt = (LJ (if o = 3 then 0 else res) j).cnt ∧ (Ls s).l = fs ∧ (Ls s).h = s.h + res ∧ (Ls s).at_ = a ∧ s.cnt ≤ (Ls s).cnt ∧ (Ls s).cnt ≤ s.cnt + t.count ∧ (LJ (if o = 3 then 0 else res) j).at_ = 0)
section
variable {a b : Int} {ls : List Int} {fs : List Fr} {op ba re : Int} {s : St} {p : Hv × J}
theorem Rel.more (r : Rel a b ls fs op ba re s p) {c : Int} (h : b ≤ c) : Rel a c ls fs op ba re s p := { r with hb := Int.le_trans r.hb h }
theorem Rel.entered (r : Rel a b ls fs op ba re s p) {o res : Int} (ho : Stk.opens o = true) (hr : 0 ≤ res ∧ res ≤ 1) (hl : s.l.length < 1000) : enterS o res s = ⟨s.h, s.l ++ [⟨o, s.h, res, false⟩], s.cnt, s.at_, 0⟩ ∧ valid s.h (s.l ++ [⟨o, s.h, res, false⟩]) = true := by
  have hw : wrongRe res = false := by unfold wrongRe; simp; omega
  refine ⟨?_, Stk.valid_enter false r.v ho hw hl⟩
  unfold enterS enterR
  rw [if_pos r.er, if_neg (by rw [r.v]; simp), if_neg (by rw [ho, hw]; simp), if_neg (by omega)]
  rfl
/-- Behind a list that was left. -/
theorem Rel.behind (r : Rel a b ls fs op ba re s p) {s' : St} {j' : J} {res c : Int} (hr : 0 ≤ res ∧ res ≤ 1) (hc : b + 1 ≤ c) (h2 : c ≤ 1073741824) (h1 : s'.er = 0) (he : j'.e = 0) (hcnt : s'.cnt = j'.cnt) (hl : s'.l = s.l) (hh : s'.h = s.h + res) (ha : s'.at_ = a) (hz : j'.at_ = 0) :
    Rel a c ls fs op ba re s' (pushJ res (p.1, j')) := by
  have hb := r.hb
  have h0 := (Stk.valid_yes r.v).1
  refine ⟨h1, he, hcnt, by rw [hl]; exact r.l, ?_, ?_, ?_, by rw [hl]; exact r.labs, ha, by omega, hz⟩
  · have := r.h; simp only [pushJ]; omega
  · have := r.n0; simp only [pushJ]; omega
  · rw [hl]
    exact Stk.valid_shift r.v (by omega) (by omega) (fun f hf => by have := (Stk.valid_fine r.v f hf).2.1; omega)
theorem Rel.block (r : Rel a b ls fs op ba re s p) {t : Il} {o res c : Int} {Ls : St → St} {LJ : Int → J → J} (ho : Stk.opens o = true) (hr : 0 ≤ res ∧ res ≤ 1) (hl : s.l.length + t.deep < 1000) (hc : b + 1 ≤ c) (h2 : c ≤ 1073741824) (hcn : s.h ≤ s.cnt) (hct : s.cnt + t.count ≤ 1000000)
    (H : ListOk t ls res a Ls LJ) : Out (Ls (enterS o res s)) (LJ (if o = 3 then 0 else res) p.2) ∨ Rel a c ls fs op ba re (Ls (enterS o res s)) (pushJ res (p.1, LJ (if o = 3 then 0 else res) p.2)) := by
  obtain ⟨e1, e2⟩ := r.entered ho hr (by omega)
  rw [e1]
  rcases H o s.l ⟨s.h, s.l ++ [⟨o, s.h, res, false⟩], s.cnt, s.at_, 0⟩ p.2 ho r.v hl rfl r.e r.cnt rfl r.labs r.at_ hcn hct r.z with h | ⟨h1, h3, h4, h5, h6, h7, _, _, h8⟩
  · exact .inl h
  · exact .inr (r.behind hr hc h2 h1 h3 h4 h5 h6 h7 h8)
end
theorem opens_four : Stk.opens 2 = true ∧ Stk.opens 3 = true ∧ Stk.opens 4 = true ∧ Stk.opens 5 = true := by decide
section
variable {a b : Int} {ls : List Int} {fs : List Fr} {op ba re : Int} {s : St} {p : Hv × J}
theorem Rel.either (r : Rel a b ls fs op ba re s p) {t u : Il} {res c : Int} {Ls Es : St → St} {LJ EJ : Int → J → J} (hr : 0 ≤ res ∧ res ≤ 1) (hl : s.l.length + t.deep < 1000) (hl2 : s.l.length + u.deep < 1000) (hc : b + 1 ≤ c) (h2 : c ≤ 1073741824) (hcn : s.h ≤ s.cnt) (hct : s.cnt + t.count + u.count ≤ 1000000)
    (HL : ListOk t ls res a Ls LJ) (HE : ListOk u ls res a Es EJ) (hLer : ∀ s, s.er ≠ 0 → Ls s = s) (hEer : ∀ s, s.er ≠ 0 → Es s = s) :
    Out (eitherS res Ls Es s) (ifJ res a LJ EJ p).2 ∨ Rel a c ls fs op ba re (eitherS res Ls Es s) (ifJ res a LJ EJ p) := by
  unfold eitherS ifJ
  simp only
  rcases r.pop (n := 1) (by simp) with o | q
  · left
    have h1 := o.ne
    rw [enterS_erJ h1, hLer _ h1]
    have h3 : ((popS 1 s).back (popS 1 s)) = popS 1 s := rfl
    rw [h3, enterS_erJ h1, hEer _ h1, if_neg o.1, if_neg o.1]
    exact o
  · rw [if_pos q.e]
    have hpl : (popS 1 s).l = s.l := by rw [q.l, r.l]; unfold popJ; rfl
    have hpc : (popS 1 s).cnt = s.cnt := popS_cnt _ _
    have hph : (popS 1 s).h ≤ s.h := by
      rw [q.h, r.h]; unfold popJ; have := r.n0; simp only; omega
    have k4 : (if (4 : Int) = 3 then (0 : Int) else res) = res := by simp
    have k5 : (if (5 : Int) = 3 then (0 : Int) else res) = res := by simp
    obtain ⟨e1, e2⟩ := q.entered opens_four.2.2.1 hr (by rw [hpl]; omega)
    rw [e1]
    have hh := HL 4 (popS 1 s).l ⟨(popS 1 s).h, (popS 1 s).l ++ [⟨4, (popS 1 s).h, res, false⟩], (popS 1 s).cnt, (popS 1 s).at_, 0⟩ (popJ 1 a p).2 opens_four.2.2.1 q.v (by rw [hpl]; omega) rfl q.e q.cnt rfl q.labs q.at_ (by simp only; omega) (by simp only; omega) q.z
    rw [k4] at hh
    generalize Ls ⟨(popS 1 s).h, (popS 1 s).l ++ [⟨4, (popS 1 s).h, res, false⟩], (popS 1 s).cnt, (popS 1 s).at_, 0⟩ = S1 at hh ⊢
    generalize LJ res (popJ 1 a p).2 = J1 at hh ⊢
    rcases hh with o | ⟨h1, h3, h4, h5, h6, h7, h8, h9, h10⟩
    · left
      have hb : (S1.back (popS 1 s)).er ≠ 0 := o.ne
      rw [enterS_erJ hb, hEer _ hb, if_neg o.1]
      exact o
    · rw [if_pos h3]
      simp only at h8 h9
      have q2 : Rel a b ls fs op ba re (S1.back (popS 1 s)) ((popJ 1 a p).1, J1) := ⟨h1, h3, h4, q.l, q.h, q.n0, q.v, q.labs, h7, q.hb, h10⟩
      have := q2.block (t := u) (o := 5) (res := res) (c := c) (Ls := Es) (LJ := EJ) opens_four.2.2.2 hr (by show (popS 1 s).l.length + _ < _; rw [hpl]; exact hl2) hc h2 (by show (popS 1 s).h ≤ S1.cnt; omega) (by show S1.cnt + _ ≤ _; omega) HE
      rw [k5] at this
      exact this
theorem Rel.deadOut {q : Hv × J} {s' : St} (h : Out s' q.2 ∨ Rel a b ls fs op ba re s' q) : Out (deadS s') q.2 ∨ Rel a b ls fs op ba re (deadS s') (⟨0, true⟩, q.2) := by
  rcases h with o | r
  · left; rw [deadS_erJ o.ne]; exact o
  · exact .inr r.dead
theorem Rel.popOut {q : Hv × J} {s' : St} (h : Out s' q.2 ∨ Rel a b ls fs op ba re s' q) {n : Int} (hn : 0 ≤ n) : Out (popS n s') (popJ n a q).2 ∨ Rel a b ls fs op ba re (popS n s') (popJ n a q) := by
  rcases h with o | r
  · exact .inl (o.pop n a)
  · exact r.pop hn
theorem Rel.pushOut {q : Hv × J} {s' : St} (h : Out s' q.2 ∨ Rel a b ls fs op ba re s' q) {n c : Int} (hn : 0 ≤ n) (h1 : n ≤ 1) (hc : b + 1 ≤ c) (h2 : c ≤ 1073741824) : Out (pushS n s') (pushJ n q).2 ∨ Rel a c ls fs op ba re (pushS n s') (pushJ n q) := by
  rcases h with o | r
  · left; rw [pushS_erJ o.ne]; exact o
  · exact .inr (r.push hn (by have := r.hb; omega) h2)
theorem Rel.deadMore {q : Hv × J} {s' : St} (h : Out s' q.2 ∨ Rel a b ls fs op ba re s' q) {c : Int} (hc : b ≤ c) : Out (deadS s') q.2 ∨ Rel a c ls fs op ba re (deadS s') (⟨0, true⟩, q.2) := by
  rcases Rel.deadOut h with o | r
  · exact .inl o
  · exact .inr (r.more hc)
theorem Rel.labelBoth (r : Rel a b ls fs op ba re s p) {n : Int} (hn : 0 ≤ n) : (labelS n s).1 = (labelJ ls n a p.2).1 ∧ 0 ≤ (labelS n s).1 ∧ (labelS n s).1 ≤ 1 ∧ (Out (labelS n s).2 (labelJ ls n a p.2).2 ∨ Rel a b ls fs op ba re (labelS n s).2 (p.1, (labelJ ls n a p.2).2)) := by
  rcases (show n < (ls.length : Int) ∨ (ls.length : Int) ≤ n by omega) with h | h
  · obtain ⟨e1, e2, e3, e4⟩ := r.labelIn hn h
    rw [e1, e2]
    exact ⟨rfl, e3, e4, .inr r⟩
  · obtain ⟨e1, e2⟩ := r.labelOut h
    rw [e1, e2]
    exact ⟨rfl, Int.le_refl _, by simp, .inl (r.fail (by simp))⟩
theorem one_same (m : Md) (he : Env m) (lo tr : Int) (htr : 0 ≤ tr) (x : Ix) (hx : 0 ≤ x.a) (ht : ∀ z ∈ x.tags, 0 ≤ z) (hres : 0 ≤ x.res ∧ x.res ≤ 1) {t u : Il} {c : Int} {Ls Es : St → St} {LJ EJ : Int → J → J} (r : Rel a b ls fs op ba re s p) (hl : s.l.length + t.deep < 1000) (hl2 : s.l.length + u.deep < 1000) (hc : b + 1 ≤ c) (h2 : c ≤ 1073741824) (hcn : s.h ≤ s.cnt) (hct : s.cnt + t.count + u.count ≤ 1000000)
    (HL : ListOk t ls x.res a Ls LJ) (HE : ListOk u ls x.res a Es EJ) (hLer : ∀ s, s.er ≠ 0 → Ls s = s) (hEer : ∀ s, s.er ≠ 0 → Es s = s) :
    Out (insS m lo tr x Ls Es s) (oneJ m lo tr ls x LJ EJ a p).2 ∨ Rel a c ls fs op ba re (insS m lo tr x Ls Es s) (oneJ m lo tr ls x LJ EJ a p) := by
  have hbc : b ≤ c := by omega
  have lk : ∀ k : Int, x.op = k → k ≠ 16 → k ≠ 17 → (k = 0 ∨ k = 2 ∨ k = 3 ∨ k = 4 ∨ k = 14 ∨ k = 12 ∨ k = 13 ∨ k = 15) → lacksP m lo x = 0 := by
    intro k hk h16 h17 hh
    unfold lacksP storedP
    rw [hk]
    rcases hh with rfl | rfl | rfl | rfl | rfl | rfl | rfl | rfl <;> rfl
  unfold insS
  by_cases g0 : x.op = 0
  · rw [lk 0 g0 (by simp) (by simp) (by simp), r.fine0]
    unfold opS oneJ; rw [if_pos g0, if_pos g0]
    exact .inr (r.dead.more hbc)
  by_cases g2 : x.op = 2
  · rw [lk 2 g2 (by simp) (by simp) (by simp), r.fine0]
    have := r.block (t := t) (o := 2) (c := c) opens_four.1 hres hl hc h2 hcn (by omega) HL
    unfold opS oneJ; simp only [g2]
    exact this
  by_cases g3 : x.op = 3
  · rw [lk 3 g3 (by simp) (by simp) (by simp), r.fine0]
    have := r.block (t := t) (o := 3) (c := c) opens_four.2.1 hres hl hc h2 hcn (by omega) HL
    unfold opS oneJ; simp only [g3]
    exact this
  by_cases g4 : x.op = 4
  · rw [lk 4 g4 (by simp) (by simp) (by simp), r.fine0]
    have := r.either (t := t) (u := u) (c := c) hres hl hl2 hc h2 hcn hct HL HE hLer hEer
    unfold opS oneJ; simp only [g4]
    exact this
  by_cases g14 : x.op = 14
  · rw [lk 14 g14 (by simp) (by simp) (by simp), r.fine0]
    have e1 : opS m tr x Ls Es s = brS x.a (popS 1 (tableS x.tags x.a s)) := by unfold opS; simp [g14]
    have e2 : oneJ m lo tr ls x LJ EJ a p = tableJ ls x.tags x.a a p := by unfold oneJ; simp [g14]
    rw [e1, e2]
    rcases r.table ht hx with ⟨k1, k2, k3, k4⟩ | o
    · rw [k2]
      unfold tableJ
      rw [k3, k4]
      obtain ⟨l1, l2, l3, l4⟩ := r.labelIn hx k1
      rcases r.pop (n := 1) (by simp) with o | q
      · left
        unfold brS
        rw [labelS_erJ o.ne, popS_erJ o.ne, deadS_erJ o.ne, popJ_out (p := popJ 1 a p) o.1]
        exact o
      · obtain ⟨q1, q2, q3, q4⟩ := q.labelIn hx k1
        have hlj : (labelJ ls x.a a (popJ 1 a p).2).1 = (labelJ ls x.a a p.2).1 := by unfold labelJ; rw [if_neg (by omega), if_neg (by omega)]
        unfold brS
        rw [q1]; simp only
        rw [hlj]
        have z := Rel.deadMore (q.pop l3) hbc
        exact z
    · left
      unfold tableJ brS
      have h3 : (popS 1 (tableS x.tags x.a s)) = tableS x.tags x.a s := popS_erJ o.ne
      rw [h3, labelS_erJ o.ne, popS_erJ o.ne, deadS_erJ o.ne, popJ_out (by rw [popJ_out o.1]; exact o.1), popJ_out o.1]
      exact o
  by_cases g12 : x.op = 12
  · rw [lk 12 g12 (by simp) (by simp) (by simp), r.fine0]
    have e1 : opS m tr x Ls Es s = brS x.a s := by unfold opS; simp [g12]
    have e2 : oneJ m lo tr ls x LJ EJ a p = (⟨0, true⟩, (popJ (labelJ ls x.a a p.2).1 a (p.1, (labelJ ls x.a a p.2).2)).2) := by unfold oneJ; simp [g12]
    rw [e1, e2]
    obtain ⟨l1, l2, l3, l4⟩ := r.labelBoth hx
    unfold brS
    rw [← l1]
    have z := Rel.deadMore (Rel.popOut (q := (p.1, (labelJ ls x.a a p.2).2)) l4 l2) hbc
    exact z
  by_cases g13 : x.op = 13
  · rw [lk 13 g13 (by simp) (by simp) (by simp), r.fine0]
    have e1 : opS m tr x Ls Es s = brIfS x.a s := by unfold opS; simp [g13]
    have e2 : oneJ m lo tr ls x LJ EJ a p = pushJ (labelJ ls x.a a p.2).1 (popJ (labelJ ls x.a a p.2).1 a (popJ 1 a (p.1, (labelJ ls x.a a p.2).2))) := by unfold oneJ; simp [g13]
    rw [e1, e2]
    obtain ⟨l1, l2, l3, l4⟩ := r.labelBoth hx
    unfold brIfS
    rw [← l1]
    exact Rel.pushOut (Rel.popOut (Rel.popOut (q := (p.1, (labelJ ls x.a a p.2).2)) l4 (by simp)) l2) l2 l3 hc h2
  by_cases g15 : x.op = 15
  · rw [lk 15 g15 (by simp) (by simp) (by simp), r.fine0]
    have e1 : opS m tr x Ls Es s = deadS (popS tr s) := by unfold opS; simp [g15]
    have e2 : oneJ m lo tr ls x LJ EJ a p = (⟨0, true⟩, (popJ tr a p).2) := by unfold oneJ; simp [g15]
    rw [e1, e2]
    have z := Rel.deadMore (r.pop htr) hbc
    exact z
  have hcal := he.callee x
  by_cases g16 : x.op = 16 ∨ x.op = 17
  · have e2 : oneJ m lo tr ls x LJ EJ a p = callJ m x a p := by unfold oneJ; rw [if_neg g0, if_neg g2, if_neg g3, if_neg g4, if_neg g14, if_neg g12, if_neg g13, if_neg g15, if_pos g16]
    have e3 : lacksP m lo x = if (calleeP m x).2 then 0 else 6 := by unfold lacksP; rw [if_pos g16]
    have e1 : ∀ s, opS m tr x Ls Es s = callS (calleeP m x).1 (if x.op = 17 then popS 1 s else s) := by
      intro s; unfold opS
      rw [if_neg g0, if_neg (by omega), if_neg g4, if_neg g14, if_neg g12, if_neg g13, if_neg g15]
      by_cases g17 : x.op = 17
      · rw [if_pos g17, if_pos g17]
      · rw [if_neg g17, if_neg g17, if_pos (by omega)]
    rw [e1, e2, e3]
    unfold callJ
    cases hq : (calleeP m x).2 with
    | false =>
      left
      have o := r.fail (e := 6) (by simp)
      simp only [if_true, Bool.false_eq_true, if_false]
      rw [popS_erJ o.ne, ite_self, callS_erJ o.ne]
      exact o
    | true =>
      simp only [if_true, Bool.true_eq_false, if_false]
      rw [r.fine0]
      unfold callS
      have hp : Out (if x.op = 17 then popS 1 s else s) (if x.op = 17 then popJ 1 a p else p).2 ∨ Rel a b ls fs op ba re (if x.op = 17 then popS 1 s else s) (if x.op = 17 then popJ 1 a p else p) := by
        split
        · exact r.pop (by simp)
        · exact .inr r
      exact Rel.pushOut (Rel.popOut hp hcal.1) hcal.2.1 hcal.2.2 hc h2
  have e1 : ∀ s, opS m tr x Ls Es s = pushS (leavesP x.op) (popS (takesP x.op) s) := by
    intro s; unfold opS
    rw [if_neg g0, if_neg (by omega), if_neg g4, if_neg g14, if_neg g12, if_neg g13, if_neg g15, if_neg (by omega), if_neg (by omega)]
  have e2 : oneJ m lo tr ls x LJ EJ a p = pushJ (leavesP x.op) (popJ (takesP x.op) a (p.1, namesJ m lo x a p.2)) := by unfold oneJ; rw [if_neg g0, if_neg g2, if_neg g3, if_neg g4, if_neg g14, if_neg g12, if_neg g13, if_neg g15, if_neg g16]
  rw [e1, e2]
  unfold namesJ
  have hp : Out (failS (lacksP m lo x) s) (if lacksP m lo x = 0 then p.2 else p.2.fault (lacksP m lo x) a) ∨ Rel a b ls fs op ba re (failS (lacksP m lo x) s) (p.1, if lacksP m lo x = 0 then p.2 else p.2.fault (lacksP m lo x) a) := by
    by_cases h0 : lacksP m lo x = 0
    · rw [h0, r.fine0, if_pos rfl]; exact .inr r
    · rw [if_neg h0]; exact .inl (r.fail h0)
  have hlv := leavesP_range x.op
  exact Rel.pushOut (Rel.popOut hp (takesP_nonneg _)) hlv.1 hlv.2 hc h2
end
/-- No number in an instruction is below nought. -/
def nonneg : Il → Prop
  | .nil => True
  | .cons x l e r => 0 ≤ x.a ∧ (∀ z ∈ x.tags, 0 ≤ z) ∧ nonneg l ∧ nonneg e ∧ nonneg r
theorem lawful_res {x : Ix} (h : lawfulP x = true) : 0 ≤ x.res ∧ x.res ≤ 1 := by
  unfold lawfulP at h
  simp only [Bool.and_eq_true, Bool.or_eq_true, decide_eq_true_eq] at h
  omega
/-- Of a list that is open both ways tell the same of the instructions. -/
def RunOk (m : Md) (lo tr : Int) (t : Il) : Prop :=
  ∀ (ls : List Int) (fs : List Fr) (op ba re a : Int) (s : St) (p : Hv × J), Rel a s.cnt ls fs op ba re s p → s.l.length + t.deep ≤ 1000 → s.cnt + t.count ≤ 1000000 →
    Out (runS m lo tr t s) (runJ m lo tr t ls p).2 ∨ ∃ a', Rel a' (runS m lo tr t s).cnt ls fs op ba re (runS m lo tr t s) (runJ m lo tr t ls p)
theorem listOk_of {m : Md} {lo tr : Int} {t : Il} (H : RunOk m lo tr t) (ls : List Int) {res : Int} (hres : 0 ≤ res ∧ res ≤ 1) (a : Int) : ListOk t ls res a (listS m lo tr t) (fun label => listJ m lo tr ls t label res a) := by
  intro o fs s j ho hv hlen her hje hcnt hl hls hat hh hct hz
  have r0 : Rel a s.cnt (ls ++ [if o = 3 then 0 else res]) fs o s.h res s (⟨0, false⟩, j) := by
    refine ⟨her, hje, hcnt, hl, by simp, Int.le_refl _, ?_, ?_, hat, hh, hz⟩
    · rw [hl]; exact Stk.valid_enter false hv ho (by unfold wrongRe; simp; omega) (by omega)
    · rw [hl, hls]; simp [labF]
  have hc := runS_cnt m lo tr t s
  have hX := H _ _ _ _ _ _ _ _ r0 (by rw [hl]; simp; omega) hct
  simp only [listS, listJ]
  rw [hat]
  generalize (if o = 3 then 0 else res) = lab at hX ⊢
  generalize runS m lo tr t s = S at hX hc ⊢
  generalize runJ m lo tr t (ls ++ [lab]) (⟨0, false⟩, j) = P at hX ⊢
  rcases hX with q | ⟨a', r⟩
  · left
    rw [leaveS_erJ q.ne]
    unfold endJ
    rw [if_neg q.1]
    exact q
  · have hlf : lastF S.l = ⟨o, s.h, res, P.1.d⟩ := by rw [r.l, Stk.lastF_snoc]
    have hSh := r.h
    have hn := r.n0
    unfold leaveS endJ
    rw [if_pos r.er, if_pos r.e]
    unfold leaveR
    rw [if_neg (by rw [r.v]; simp), hlf]
    simp only
    by_cases h1 : P.1.n < res ∧ P.1.d = false
    · left
      have hw : without S.h res ⟨o, s.h, res, P.1.d⟩ = (0, 200) := by unfold without; rw [if_pos ⟨by simp only; omega, h1.2⟩]
      rw [hw, if_pos (by simp)]
      have hz : ¬ 0 < (popJ res a P).1.n := by unfold popJ; simp only; omega
      rw [if_neg hz]
      unfold popJ Out
      rw [if_pos h1]
      unfold J.fault
      rw [if_pos r.e]
      exact ⟨by simp, rfl, rfl⟩
    · have hw : without S.h res ⟨o, s.h, res, P.1.d⟩ = (if s.h ≤ S.h - res then S.h - res else s.h, 0) := by
        unfold without
        rw [if_neg (fun h => h1 ⟨by have := h.1; simp only at this; omega, h.2⟩)]
      rw [hw, if_neg (by simp)]
      simp only
      have hp2 : (popJ res a P).2 = P.2 := by unfold popJ; rw [if_neg h1]
      have hp1 : (popJ res a P).1.n = max (P.1.n - res) 0 := by unfold popJ; rfl
      rw [hp1, hp2]
      by_cases h2 : s.h < (if s.h ≤ S.h - res then S.h - res else s.h)
      · left
        have hz : 0 < max (P.1.n - res) 0 := by split at h2 <;> omega
        rw [if_pos h2, if_pos hz]
        unfold J.fault Out
        rw [if_pos r.e]
        exact ⟨by simp, rfl, rfl⟩
      · right
        have hz : ¬ (0 < max (P.1.n - res) 0) := by split at h2 <;> omega
        rw [if_neg h2, if_neg hz]
        refine ⟨rfl, r.e, r.cnt, ?_, ?_, rfl, hc.1, hc.2, r.z⟩
        · rw [r.l]; simp [St.put]
        · simp only [St.put]; split at h2 <;> split <;> omega
theorem run_ok (m : Md) (he : Env m) (lo tr : Int) (htr : 0 ≤ tr) : ∀ (t : Il), t.all = true → nonneg t → RunOk m lo tr t
  | .nil, _, _ => fun ls fs op ba re a s p r _ _ => .inr ⟨a, r⟩
  | .cons x l e q, hall, hnn => by
    intro ls fs op ba re a s p r hd hct
    simp only [Il.all, Bool.and_eq_true] at hall
    obtain ⟨⟨⟨hx, hal⟩, hae⟩, haq⟩ := hall
    obtain ⟨n1, n2, n3, n4, n5⟩ := hnn
    have hres := lawful_res hx
    simp only [Il.deep] at hd
    simp only [Il.count] at hct
    have IL := listOk_of (run_ok m he lo tr htr l hal n3) ls hres (p.2.cnt + 1)
    have IE := listOk_of (run_ok m he lo tr htr e hae n4) ls hres (p.2.cnt + 1)
    have IQ := run_ok m he lo tr htr q haq n5
    rw [runS_cons, runJ_cons, if_pos r.er, if_pos r.e]
    have rn : Rel (p.2.cnt + 1) s.cnt ls fs op ba re s.next (p.1, p.2.next) := ⟨r.er, r.e, by have := r.cnt; show s.cnt + 1 = p.2.cnt + 1; omega, r.l, r.h, r.n0, r.v, r.labs, by have := r.cnt; show s.cnt + 1 = _; omega, r.hb, r.z⟩
    have hb := r.hb
    have hcn := opS_cnt (m := m) (re := tr) (x := x) (a := l.count) (b := e.count) (L := listS m lo tr l) (E := listS m lo tr e) (by omega) (by omega) (listS_cnt m lo tr l) (listS_cnt m lo tr e) (failS (lacksP m lo x) s.next)
    rw [failS_cnt] at hcn
    have hnx : s.next.cnt = s.cnt + 1 := rfl
    have hO := one_same (t := l) (u := e) (c := s.cnt + 1) m he lo tr htr x n1 n2 hres rn (by show s.l.length + _ < _; omega) (by show s.l.length + _ < _; omega) (Int.le_refl _) (by omega) (by show s.h ≤ s.cnt + 1; omega) (by show s.cnt + 1 + _ + _ ≤ _; omega) IL IE (fun s h => listS_erJ h) (fun s h => listS_erJ h)
    unfold insS at hO ⊢
    generalize opS m tr x (listS m lo tr l) (listS m lo tr e) (failS (lacksP m lo x) s.next) = S at hO hcn ⊢
    generalize oneJ m lo tr ls x (fun label => listJ m lo tr ls l label x.res (p.2.cnt + 1)) (fun label => listJ m lo tr ls e label x.res (p.2.cnt + 1)) (p.2.cnt + 1) (p.1, p.2.next) = P at hO ⊢
    rcases hO with o | r'
    · left
      rw [runS_er _ _ _ _ _ o.ne]
      have : runJ m lo tr q ls P = P := by
        cases q with
        | nil => rfl
        | cons x' l' e' q' => rw [runJ_cons, if_neg o.1]
      rw [this]; exact o
    · refine IQ ls fs op ba re _ S P (r'.more (by omega)) ?_ (by omega)
      have h1 : S.l.length = s.l.length := by rw [r'.l, r.l]; simp
      omega
/-- Of a whole function. -/
theorem body_same (m : Md) (he : Env m) (lo tr : Int) (htr : 0 ≤ tr ∧ tr ≤ 1) (t : Il) (hall : t.all = true) (hnn : nonneg t) (hd : t.deep ≤ 900) (hct : t.count ≤ 262144) :
    (listS m lo tr t (startS tr)).er = (listJ m lo tr [] t tr tr 0 ⟨0, 0, 0⟩).e ∧ (listS m lo tr t (startS tr)).at_ = (listJ m lo tr [] t tr tr 0 ⟨0, 0, 0⟩).at_ := by
  have hn : newR tr = ⟨0, [⟨0, 0, tr, false⟩], 0⟩ := by unfold newR; rw [if_neg (by unfold wrongRe; simp; omega)]
  have hst : startS tr = ⟨0, [⟨0, 0, tr, false⟩], 0, 0, 0⟩ := by unfold startS; rw [hn]
  have hv : valid 0 [⟨0, 0, tr, false⟩] = true := Stk.valid_of (Int.le_refl _) (by simp) (by simp) (by unfold Stk.badFirst wrongRe; simp; omega) rfl
  have r0 : Rel 0 0 [tr] [] 0 0 tr ⟨0, [⟨0, 0, tr, false⟩], 0, 0, 0⟩ (⟨0, false⟩, ⟨0, 0, 0⟩) := ⟨rfl, rfl, rfl, rfl, rfl, Int.le_refl _, hv, by simp [labF], rfl, Int.le_refl _, rfl⟩
  have hX := run_ok m he lo tr htr.1 t hall hnn [tr] [] 0 0 tr 0 ⟨0, [⟨0, 0, tr, false⟩], 0, 0, 0⟩ (⟨0, false⟩, ⟨0, 0, 0⟩) r0 (by simp; omega) (by simp only; omega)
  rw [hst]
  unfold listS listJ
  simp only [List.nil_append]
  generalize runS m lo tr t ⟨0, [⟨0, 0, tr, false⟩], 0, 0, 0⟩ = S at hX ⊢
  generalize runJ m lo tr t [tr] (⟨0, false⟩, ⟨0, 0, 0⟩) = P at hX ⊢
  rcases hX with q | ⟨a', r⟩
  · rw [leaveS_erJ q.ne]
    unfold endJ
    rw [if_neg q.1]
    exact q.2
  · have hlf : lastF S.l = ⟨0, 0, tr, P.1.d⟩ := by rw [r.l, Stk.lastF_snoc]
    have hSh := r.h
    have hn := r.n0
    unfold leaveS endJ
    rw [if_pos r.er, if_pos r.e]
    unfold leaveR
    rw [if_neg (by rw [r.v]; simp), hlf]
    simp only
    by_cases h1 : P.1.n < tr ∧ P.1.d = false
    · have hw : without S.h tr ⟨0, 0, tr, P.1.d⟩ = (0, 200) := by unfold without; rw [if_pos ⟨by simp only; omega, h1.2⟩]
      rw [hw, if_pos (by simp)]
      have hz : ¬ 0 < (popJ tr 0 P).1.n := by unfold popJ; simp only; omega
      rw [if_neg hz]
      unfold popJ
      rw [if_pos h1]
      unfold J.fault
      rw [if_pos r.e]
      exact ⟨rfl, rfl⟩
    · have hw : without S.h tr ⟨0, 0, tr, P.1.d⟩ = (if 0 ≤ S.h - tr then S.h - tr else 0, 0) := by
        unfold without
        rw [if_neg (fun h => h1 ⟨by have := h.1; simp only at this; omega, h.2⟩)]
      rw [hw, if_neg (by simp)]
      simp only
      have hp2 : (popJ tr 0 P).2 = P.2 := by unfold popJ; rw [if_neg h1]
      have hp1 : (popJ tr 0 P).1.n = max (P.1.n - tr) 0 := by unfold popJ; rfl
      rw [hp1, hp2]
      by_cases h2 : (0 : Int) < (if 0 ≤ S.h - tr then S.h - tr else 0)
      · have hz : 0 < max (P.1.n - tr) 0 := by split at h2 <;> omega
        rw [if_pos h2, if_pos hz]
        unfold J.fault
        rw [if_pos r.e]
        exact ⟨rfl, rfl⟩
      · have hz : ¬ (0 < max (P.1.n - tr) 0) := by split at h2 <;> omega
        rw [if_neg h2, if_neg hz]
        exact ⟨r.e.symm, r.z.symm⟩
end Go.Proofs.YtdljneclfgneoaaGreatDoor.Val

namespace Go.Proofs.YtdljneclfgneoaaGreatDoor.Val
open Go.RowKit Go.Proofs.YtdljneclfgneoaaGreatDoor.Instr Go.Proofs.YtdljneclfgneoaaGreatDoor.Mod
set_option linter.unusedVariables false

theorem env_of {m : Md} (h : Fine m) : Env m where
  fn n := by
    have z : (0 : Int) ≤ 0 ∧ (0 : Int) ≤ 0 ∧ (0 : Int) ≤ 1 := by omega
    unfold Md.typeOf
    split
    · exact z
    · have := h.tys.getD (m.typeN n).toNat
      exact ⟨this.1, this.2.2.1, this.2.2.2⟩
  ty t ht := by
    have := h.tys t ht
    exact ⟨this.1, this.2.2.1, this.2.2.2⟩
/-- A function's type. -/
theorem typeOf_fn (m : Md) (k : Nat) (hk : k < m.fu.length) : m.typeOf (m.im.length + k) = if (fuAt m k).ty < 0 ∨ (m.ty.length : Int) ≤ (fuAt m k).ty then ((0, 0), false) else (m.ty.getD (fuAt m k).ty.toNat (0, 0), true) := by
  have e : m.typeN (m.im.length + k) = (fuAt m k).ty := by
    unfold Md.typeN fuAt
    rw [if_neg (by omega), if_pos (by omega), Nat.add_sub_cancel_left, List.getD_eq_getElem?_getD, List.getD_eq_getElem?_getD, List.getElem?_map, List.getElem?_eq_getElem hk]
    rfl
  unfold Md.typeOf
  rw [e]
/-- A function that has its type: both tell the same of it. -/
theorem bodyP_J {m : Md} (hf : Fine m) (hn : ∀ l ∈ m.codes, nonneg l.t) {k : Nat} (hk : k < m.fu.length) (ht : (fuAt m k).ty < (m.ty.length : Int)) : Md.bodyP m k = Md.bodyJ m k := by
  have hm : fuAt m k ∈ m.fu := by
    unfold fuAt
    rw [List.getD_eq_getElem?_getD, List.getElem?_eq_getElem hk]
    exact List.getElem_mem _
  have h0 := hf.ty _ hm
  have hc : (fuAt m k).l ∈ m.codes := by unfold Md.codes; exact List.mem_append_left _ (List.mem_map.2 ⟨_, hm, rfl⟩)
  have e := typeOf_fn m k hk
  rw [if_neg (by omega)] at e
  have hz := hf.cs _ hc
  have ht2 := hf.tys.getD (fuAt m k).ty.toNat
  unfold checkP at hz
  by_cases hall : (fuAt m k).l.t.all = true
  · rw [if_pos hall] at hz
    by_cases hbig : 262144 < (fuAt m k).l.t.count ∨ 900 < (fuAt m k).l.t.deep ∨ (fuAt m k).l.t.tags = true
    · rw [if_pos hbig] at hz; exact absurd hz (by decide)
    · obtain ⟨b1, b2⟩ := body_same m (env_of hf) ((m.ty.getD (fuAt m k).ty.toNat (0, 0)).1 + (fuAt m k).lo) (m.ty.getD (fuAt m k).ty.toNat (0, 0)).2 ⟨ht2.2.2.1, ht2.2.2.2⟩ (fuAt m k).l.t hall (hn _ hc) (by omega) (by omega)
      unfold Md.bodyP Md.bodyJ
      rw [e, if_neg (by simp)]
      exact Prod.ext b1 b2
  · rw [if_neg hall] at hz; exact absurd hz (by decide)
/-- The document's Body. -/
def Md.docBody (m : Md) (n : Int) : Int × Int := if m.check ≠ 0 then (m.check, 0) else if (n < 0 ∨ (m.fu.length : Int) ≤ n) ∨ (m.ty.length : Int) ≤ (fuAt m n.toNat).ty then (6, 0) else Md.bodyJ m n.toNat
theorem body_doc (m : Md) (hn : ∀ l ∈ m.codes, nonneg l.t) (n : Int) : Md.body m n = Md.docBody m n := by
  unfold Md.body Md.docBody
  by_cases hc : m.check ≠ 0
  · rw [if_pos hc, if_pos hc]
  rw [if_neg hc, if_neg hc]
  have hf := fine_of (show m.check = 0 by omega)
  by_cases h1 : n < 0 ∨ (m.fu.length : Int) ≤ n
  · rw [if_pos h1, if_pos (.inl h1)]
  rw [if_neg h1]
  have hk : n.toNat < m.fu.length := by omega
  by_cases h2 : (m.ty.length : Int) ≤ (fuAt m n.toNat).ty
  · rw [if_pos (.inr h2)]
    have e := typeOf_fn m n.toNat hk
    rw [if_pos (.inr h2)] at e
    unfold Md.bodyP
    rw [e, if_pos rfl]
  · rw [if_neg (by rintro (h | h); exact h1 h; exact h2 h)]
    exact bodyP_J hf hn hk (by omega)
/-- The first that is wrong of some sections, and of some behind them. -/
theorem scanS_add (m : Md) (b : Nat) : ∀ (a j : Nat), scanS m j (a + b) = match scanS m j a with
    | some r => some r
    | none => scanS m (j + a) b
  | 0, j => by rw [Nat.zero_add]; rfl
  | a + 1, j => by
    rw [show a + 1 + b = (a + b) + 1 by omega]
    cases h : scanI m j 0 (secL m j) with
    | some r => rw [scanS_hit h, scanS_hit h]
    | none =>
      rw [scanS_miss h, scanS_miss h, scanS_add m b a (j + 1), show j + 1 + a = j + (a + 1) by omega]
theorem scanI_none (m : Md) (j : Nat) : ∀ (n k : Nat), scanI m j k n = none → ∀ i, k ≤ i → i < k + n → (secE m j i).1 = 0
  | 0, k, _, i, h1, h2 => by omega
  | n + 1, k, h, i, h1, h2 => by
    unfold scanI at h
    by_cases hz : (secE m j k).1 = 0
    · rw [if_pos hz] at h
      by_cases hik : i = k
      · rw [hik]; exact hz
      · exact scanI_none m j n (k + 1) h i (by omega) (by omega)
    · rw [if_neg hz] at h; cases h
theorem scanS_one (m : Md) (j : Nat) : scanS m j 1 = scanI m j 0 (secL m j) := by
  unfold scanS
  cases h : scanI m j 0 (secL m j) <;> rfl
/-- Where the first three sections are as they should be, each function has its type. -/
theorem heads_ty {m : Md} (h : scanS m 0 3 = none) : ∀ k, k < m.fu.length → (fuAt m k).ty < (m.ty.length : Int) := by
  intro k hk
  have h1 : scanI m 1 0 m.fu.length = none := by
    have e1 := scanS_add m 2 1 0
    rw [h] at e1
    cases h0 : scanS m 0 1 with
    | some r => rw [h0] at e1; cases e1
    | none =>
      rw [h0] at e1
      have e2 := scanS_add m 1 1 1
      have e1' : scanS m 1 2 = none := e1.symm
      rw [e1'] at e2
      cases h2 : scanS m 1 1 with
      | some r => rw [h2] at e2; cases e2
      | none => rw [scanS_one] at h2; exact h2
  have h2 := scanI_none m 1 _ _ h1 k (Nat.zero_le _) (by omega)
  have h3 : typeEP m (fuAt m k).ty = 0 := h2
  unfold typeEP at h3
  by_cases hq : (m.ty.length : Int) ≤ (fuAt m k).ty
  · rw [if_pos hq] at h3; exact absurd h3 (by decide)
  · omega
end Go.Proofs.YtdljneclfgneoaaGreatDoor.Val

namespace Go.Proofs.YtdljneclfgneoaaGreatDoor.Val
open Go.RowKit Go.Shelf Go.Proofs.YtdljneclfgneoaaGreatDoor.Instr Go.Proofs.YtdljneclfgneoaaGreatDoor.Mod
set_option linter.unusedVariables false

/-- The judge's box: a module, a type, how many words; the labels; what it has found. -/
structure JAt (W : World) (g : Nat) (hd : List Value) (lab : Value) (j : J) : Prop where
  box : W.heap[g]? = some (.cells (hd ++ [lab, .int .i64 j.cnt, .int .i64 j.e, .int .i64 j.at_]).toArray 261 (0, 0))
  len : hd.length = 14
theorem JAt.lt {W : World} {g : Nat} {hd : List Value} {lab : Value} {j : J} (h : JAt W g hd lab j) : g < W.heap.size := (Array.getElem?_eq_some_iff.1 h.box).1
theorem JAt.c {W : World} {g : Nat} {hd : List Value} {lab : Value} {j : J} (h : JAt W g hd lab j) : W.cell? ⟨g, 14, none⟩ = some lab ∧ W.cell? ⟨g, 15, none⟩ = some (.int .i64 j.cnt) ∧ W.cell? ⟨g, 16, none⟩ = some (.int .i64 j.e) ∧ W.cell? ⟨g, 17, none⟩ = some (.int .i64 j.at_) := by
  have hl := h.len
  refine ⟨(cell_of_row W g 14 _ _ _ h.box).trans ?_, (cell_of_row W g 15 _ _ _ h.box).trans ?_, (cell_of_row W g 16 _ _ _ h.box).trans ?_, (cell_of_row W g 17 _ _ _ h.box).trans ?_⟩
  all_goals
    rw [List.getElem?_toArray, List.getElem?_append_right (by omega), hl]
    rfl
theorem JAt.f {W : World} {g : Nat} {hd : List Value} {lab : Value} {j : J} (h : JAt W g hd lab j) (i : Nat) : W.frozen? ⟨g, i, none⟩ = false := frozen_of_row W g i _ _ h.box
theorem JAt.hd_ {W : World} {g : Nat} {hd : List Value} {lab : Value} {j : J} (h : JAt W g hd lab j) {i : Nat} {v : Value} (hi : hd[i]? = some v) : W.cell? ⟨g, i, none⟩ = some v := by
  have hl := (List.getElem?_eq_some_iff.1 hi).1
  refine (cell_of_row W g i _ _ _ h.box).trans ?_
  rw [List.getElem?_toArray, List.getElem?_append_left hl]
  exact hi
theorem JAt.keep {W W' : World} {g k : Nat} {hd : List Value} {lab : Value} {j : J} (h : JAt W g hd lab j) (hs : Save k W W') (hne : g ≠ k) : JAt W' g hd lab j := ⟨(hs.block g h.lt hne).trans h.box, h.len⟩
theorem JAt.below {W W' : World} {g : Nat} {hd : List Value} {lab : Value} {j : J} (h : JAt W g hd lab j) (hb : Below W.heap.size W W') : JAt W' g hd lab j := ⟨(hb.block g h.lt).trans h.box, h.len⟩
theorem jset {hd : List Value} (hl : hd.length = 14) (a b c d x : Value) : (hd ++ [a, b, c, d]).toArray.set! 14 x = (hd ++ [x, b, c, d]).toArray ∧ (hd ++ [a, b, c, d]).toArray.set! 15 x = (hd ++ [a, x, c, d]).toArray ∧ (hd ++ [a, b, c, d]).toArray.set! 16 x = (hd ++ [a, b, x, d]).toArray ∧ (hd ++ [a, b, c, d]).toArray.set! 17 x = (hd ++ [a, b, c, x]).toArray := by
  refine ⟨?_, ?_, ?_, ?_⟩
  all_goals
    simp [hl]
theorem JAt.setLab {W : World} {g : Nat} {hd : List Value} {lab : Value} {j : J} (h : JAt W g hd lab j) (x : Value) : JAt (W.setCell ⟨g, 14, none⟩ x) g hd x j :=
  ⟨by have := heap_setCell_same W g 14 _ _ x h.box; rw [← (jset h.len lab _ _ _ x).1]; exact this, h.len⟩
theorem JAt.setCnt {W : World} {g : Nat} {hd : List Value} {lab : Value} {j : J} (h : JAt W g hd lab j) (x : Int) : JAt (W.setCell ⟨g, 15, none⟩ (.int .i64 x)) g hd lab ⟨x, j.e, j.at_⟩ :=
  ⟨by have := heap_setCell_same W g 15 _ _ (.int .i64 x) h.box; rw [← (jset h.len lab _ _ _ _).2.1]; exact this, h.len⟩
theorem JAt.setE {W : World} {g : Nat} {hd : List Value} {lab : Value} {j : J} (h : JAt W g hd lab j) (x : Int) : JAt (W.setCell ⟨g, 16, none⟩ (.int .i64 x)) g hd lab ⟨j.cnt, x, j.at_⟩ :=
  ⟨by have := heap_setCell_same W g 16 _ _ (.int .i64 x) h.box; rw [← (jset h.len lab _ _ _ _).2.2.1]; exact this, h.len⟩
theorem JAt.setAt {W : World} {g : Nat} {hd : List Value} {lab : Value} {j : J} (h : JAt W g hd lab j) (x : Int) : JAt (W.setCell ⟨g, 17, none⟩ (.int .i64 x)) g hd lab ⟨j.cnt, j.e, x⟩ :=
  ⟨by have := heap_setCell_same W g 17 _ _ (.int .i64 x) h.box; rw [← (jset h.len lab _ _ _ _).2.2.2]; exact this, h.len⟩
/-- What a call of the judge leaves: the box, and all others as they were. -/
def JQ (g : Nat) (hd : List Value) (lab : Value) (j : J) (W W' : World) : Prop := JAt W' g hd lab j ∧ Save g W W'
theorem JQ.refl {g : Nat} {hd : List Value} {lab : Value} {j : J} {W : World} (h : JAt W g hd lab j) : JQ g hd lab j W W := ⟨h, Save.refl g W⟩
theorem JQ.trans {g : Nat} {hd hd' : List Value} {lab lab' : Value} {j j' : J} {A B C : World} (h : JQ g hd lab j A B) (h2 : JQ g hd' lab' j' B C) : JQ g hd' lab' j' A C := ⟨h2.1, h.2.trans h2.2⟩
theorem JQ.drewN {g : Nat} {hd : List Value} {lab : Value} {j : J} {W W' : World} (h : JQ g hd lab j W W') (n : Nat) : JQ g hd lab j W (W'.drewN n) := ⟨⟨h.1.box, h.1.len⟩, ⟨h.2.os, h.2.tape, h.2.output, h.2.size, h.2.block⟩⟩
set_option maxRecDepth 100000 in
theorem fault_any {W : World} {g : Nat} {hd : List Value} {lab : Value} {j : J} (h : JAt W g hd lab j) (er a : Int) :
    Calls Tryz.prog 250 #[.pointer (some ⟨g, 0, none⟩), .int .i64 er, .int .i64 a] W fun e W' => e = .returned (.tuple #[]) ∧ JQ g hd lab (j.fault er a) W W' := by
  obtain ⟨c14, c15, c16, c17⟩ := h.c
  have f16 := h.f 16
  have f17 := h.f 17
  have H := hid h
  unfold J.fault
  by_cases h0 : j.e = 0
  · rw [if_pos h0]
    have HN := hid (show JQ g hd lab ⟨j.cnt, er, a⟩ W ((W.setCell ⟨g, 16, none⟩ (.int .i64 er)).setCell ⟨g, 17, none⟩ (.int .i64 a)) from ⟨(h.setE er).setAt a, ((Save.refl g W).setCell (p := ⟨g, 16, none⟩) (.inl rfl) _).setCell (p := ⟨g, 17, none⟩) (.inl rfl) _⟩)
    rw [h0] at c16
    clear h
    go_enter Tryz.func250, Tryz.ntmps250
    go_wp2
    go_end0
    exact ⟨rfl, HN.out⟩
  · rw [if_neg h0]
    clear h
    go_enter Tryz.func250, Tryz.ntmps250
    go_wp2
    go_end0
    exact ⟨rfl, JQ.refl H.out⟩
def HvV (h : Hv) : Value := .agg #[.int .i64 h.n, .bool h.d]
/-- Two boxes of a count behind a world. -/
structure Two2 (W : World) (B : Nat) (n0 : Int) (d : Bool) (W' : World) : Prop where
  a : W'.heap[B]? = some (.cells #[.int .i64 n0, .bool d] 312 (0, 0))
  b : W'.heap[B + 1]? = some (.cells #[.int .i64 0, .bool false] 312 (0, 0))
theorem two_end {W w1 : World} {g : Nat} {hd : List Value} {lab : Value} {j : J} {n0 : Int} {d : Bool} (hq : JQ g hd lab j W w1) (h2 : Two2 W W.heap.size n0 d w1) (hg : g < W.heap.size) (x y z : Value) :
    JQ g hd lab j W (((w1.setCell ⟨W.heap.size, 0, none⟩ x).setCell ⟨W.heap.size + 1, 0, none⟩ y).setCell ⟨W.heap.size + 1, 1, none⟩ z) ∧ (((w1.setCell ⟨W.heap.size, 0, none⟩ x).setCell ⟨W.heap.size + 1, 0, none⟩ y).setCell ⟨W.heap.size + 1, 1, none⟩ z).heap[W.heap.size + 1]? = some (.cells #[y, z] 312 (0, 0)) := by
  refine ⟨⟨?_, ((hq.2.setCell (p := ⟨W.heap.size, 0, none⟩) (.inr (Nat.le_refl _)) _).setCell (p := ⟨W.heap.size + 1, 0, none⟩) (.inr (by simp)) _).setCell (p := ⟨W.heap.size + 1, 1, none⟩) (.inr (by simp)) _⟩, ?_⟩
  · have e1 := hq.1.keep (Save.setCell (p := ⟨W.heap.size, 0, none⟩) (Save.refl W.heap.size w1) (.inl rfl) x) (by omega)
    have e2 := e1.keep (Save.setCell (p := ⟨W.heap.size + 1, 0, none⟩) (Save.refl (W.heap.size + 1) _) (.inl rfl) y) (by omega)
    exact e2.keep (Save.setCell (p := ⟨W.heap.size + 1, 1, none⟩) (Save.refl (W.heap.size + 1) _) (.inl rfl) z) (by omega)
  · have hs := Save.setCell (p := ⟨W.heap.size, 0, none⟩) (Save.refl W.heap.size w1) (.inl rfl) x
    have hb := (hs.block (W.heap.size + 1) (Array.getElem?_eq_some_iff.1 h2.b).1 (by omega)).trans h2.b
    exact heap_setCell_same _ _ 1 _ _ z (heap_setCell_same _ _ 0 _ _ y hb)
set_option maxRecDepth 100000 in
set_option maxHeartbeats 1000000 in
theorem popR_any {W : World} {g : Nat} {hd : List Value} {lab : Value} {j : J} (h : JAt W g hd lab j) (hv : Hv) (n a : Int) (hn : 0 ≤ n ∧ n ≤ 4611686018427387904) (hh : 0 ≤ hv.n ∧ hv.n ≤ 4611686018427387904) :
    Calls Tryz.prog 249 #[.pointer (some ⟨g, 0, none⟩), HvV hv, .int .i64 n, .int .i64 a] W fun e W' => e = .returned (HvV (popJ n a (hv, j)).1) ∧ JQ g hd lab (popJ n a (hv, j)).2 W W' := by
  obtain ⟨n0, d⟩ := hv
  have hb0 : Below W.heap.size W ((W.alloc (.cells #[.int .i64 n0, .bool d] 312)).alloc (.cells #[.int .i64 0, .bool false] 312)) := thenA (belowAlloc W _) _
  have H0 := hid (h.below hb0)
  have HG := hid h.lt
  have CF := hid (fault_any H0.out 200 a)
  have hx0 : Two2 W W.heap.size n0 d ((W.alloc (.cells #[.int .i64 n0, .bool d] 312)).alloc (.cells #[.int .i64 0, .bool false] 312)) := ⟨(belowAlloc (W.alloc (.cells #[.int .i64 n0, .bool d] 312)) _).block W.heap.size (by simp) |>.trans (heap_alloc_new W _), by have := heap_alloc_new (W.alloc (.cells #[.int .i64 n0, .bool d] 312)) (.cells #[.int .i64 0, .bool false] 312); rw [World.size_alloc] at this; exact this⟩
  have HH := hid h
  have HJ0 := hid (⟨H0.out, Save.of_below hb0⟩ : JQ g hd lab j W ((W.alloc (.cells #[.int .i64 n0, .bool d] 312)).alloc (.cells #[.int .i64 0, .bool false] 312)))
  have HX0 := hid hx0
  have HF := hid (fun (W' : World) (j' : J) (hq : JQ g hd lab j' ((W.alloc (.cells #[.int .i64 n0, .bool d] 312)).alloc (.cells #[.int .i64 0, .bool false] 312)) W') => (show Two2 W W.heap.size n0 d W' ∧ JQ g hd lab j' W W' from ⟨⟨(hq.2.block _ (by simp; omega) (by have := HG.out; omega)).trans hx0.a, (hq.2.block _ (by simp) (by have := HG.out; omega)).trans hx0.b⟩, hq.1, (Save.of_below hb0).trans hq.2⟩))
  unfold HvV popJ
  dsimp only at hh ⊢
  obtain ⟨h0, h1⟩ := hh
  obtain ⟨k0, k1⟩ := hn
  clear h hb0 H0 hx0
  obtain ⟨W2, hW2⟩ : ∃ W2, W2 = (W.alloc (.cells #[.int .i64 n0, .bool d] 312)).alloc (.cells #[.int .i64 0, .bool false] 312) := ⟨_, rfl⟩
  rw [← hW2] at CF HJ0 HX0 HF
  have HW2 := hid hW2
  clear hW2
  by_cases hc : n0 < n ∧ d = false
  · obtain ⟨hc1, rfl⟩ := hc
    rw [if_pos ⟨hc1, rfl⟩]
    clear HJ0 HH
    go_enter Tryz.func249, Tryz.ntmps249
    go_wp2_with fail
    rw [← HW2.out]
    refine CF.out.mono ?_
    rintro e w1 ⟨rfl, hq⟩
    obtain ⟨hx1, hq1⟩ := HF.out _ _ hq
    have HE1 := hid (fun x y z => two_end hq1 hx1 HG.out x y z)
    have x0 := cell_of_row w1 W.heap.size 0 _ _ _ hx1.a
    have x1 := cell_of_row w1 W.heap.size 1 _ _ _ hx1.a
    have y0 := frozen_of_row w1 W.heap.size 0 _ _ hx1.a
    have z0 := cell_of_row w1 (W.heap.size + 1) 0 _ _ _ hx1.b
    have z1 := cell_of_row w1 (W.heap.size + 1) 1 _ _ _ hx1.b
    have t0 := frozen_of_row w1 (W.heap.size + 1) 0 _ _ hx1.b
    have t1 := frozen_of_row w1 (W.heap.size + 1) 1 _ _ hx1.b
    simp at x0 x1 z0 z1
    clear hx1 hq1 hq CF HF HW2 HX0
    go_wp2
    obtain ⟨q1, q2⟩ := HE1.out (.int .i64 (max (n0 - n) 0)) (.int .i64 (max (n0 - n) 0)) (.bool false)
    exact bodyPost_ret (results_cell_row Tryz.results249 _ _ (W.heap.size + 1) _ _ _ _ rfl q2 Tryz.underlying312 rfl (by kernel_rfl)) rfl ⟨rfl, q1⟩
  · rw [if_neg hc]
    have HE := hid (fun (o1 o2 : Obj) => (show JQ g hd lab j W ((W.alloc o1).alloc o2) from ⟨HH.out.below (thenA (belowAlloc W o1) o2), Save.of_below (thenA (belowAlloc W o1) o2)⟩))
    have HR := hid (fun (o1 o2 : Obj) (c : Array Value) (t : TypeId) (e : o2 = .cells c t) => (show ((W.alloc o1).alloc o2).heap[W.heap.size + 1]? = some (.cells c t (0, 0)) by
      subst e
      have := heap_alloc_new (W.alloc o1) (.cells c t)
      rw [World.size_alloc] at this
      exact this))
    have hc' : ¬ n0 < n ∨ d = true := by
      rcases Decidable.em (n0 < n) with h | h
      · right
        cases d with
        | true => rfl
        | false => exact absurd ⟨h, rfl⟩ hc
      · exact .inl h
    clear CF HF HW2 HX0 HJ0 hc HH
    rcases hc' with hc | rfl
    · go_enter Tryz.func249, Tryz.ntmps249
      go_wp2
      exact bodyPost_ret (results_cell_row Tryz.results249 _ _ (W.heap.size + 1) _ _ _ _ rfl (HR.out _ _ _ _ rfl) Tryz.underlying312 rfl (by kernel_rfl)) rfl ⟨rfl, HE.out _ _⟩
    · rcases Decidable.em (n0 < n) with hc | hc
      · go_enter Tryz.func249, Tryz.ntmps249
        go_wp2
        exact bodyPost_ret (results_cell_row Tryz.results249 _ _ (W.heap.size + 1) _ _ _ _ rfl (HR.out _ _ _ _ rfl) Tryz.underlying312 rfl (by kernel_rfl)) rfl ⟨rfl, HE.out _ _⟩
      · go_enter Tryz.func249, Tryz.ntmps249
        go_wp2
        exact bodyPost_ret (results_cell_row Tryz.results249 _ _ (W.heap.size + 1) _ _ _ _ rfl (HR.out _ _ _ _ rfl) Tryz.underlying312 rfl (by kernel_rfl)) rfl ⟨rfl, HE.out _ _⟩
/-- The labels' list. -/
def LabAt (n₀ : Nat) (W : World) (a : Option Addr) (ls : List Int) : Prop := ls = [] ∨ ∃ b, a = some ⟨b, 0, none⟩ ∧ b < n₀ ∧ ∀ i, i < ls.length → W.cell? ⟨b, i, none⟩ = some (.int .i64 (ls.getD i 0))
set_option maxRecDepth 100000 in
set_option maxHeartbeats 1000000 in
theorem labelR_any {W : World} {g : Nat} {hd : List Value} {la : Option Addr} {lc : Nat} {ls : List Int} {j : J} (h : JAt W g hd (.slice la ls.length lc) j) (hl : LabAt W.heap.size W la ls) (hn : ls.length ≤ 1000000) (n : Nat) (a : Int) (hnn : n ≤ 4294967295) :
    Calls Tryz.prog 328 #[.pointer (some ⟨g, 0, none⟩), .int .u32 n, .int .i64 a] W fun e W' => e = .returned (.int .i64 (labelJ ls n a j).1) ∧ JQ g hd (.slice la ls.length lc) (labelJ ls n a j).2 W W' := by
  have c14 := h.c.1
  have CF := hid (fault_any h 6 a)
  have H := hid (JQ.refl h)
  unfold labelJ
  by_cases hc : (ls.length : Int) ≤ n
  · rw [if_pos hc]
    clear h
    generalize ls.length = k at *
    go_enter Tryz.func328, Tryz.ntmps328
    go_wp2_with fail
    refine CF.out.mono ?_
    rintro e w1 ⟨rfl, hq⟩
    have HQ := hid hq
    clear hq c14 H CF
    go_wp2
    go_ret
    exact ⟨rfl, HQ.out⟩
  · rw [if_neg hc]
    obtain ⟨b, rfl, hb, hcell⟩ := hl.resolve_left (fun e => by subst e; simp at hc)
    have hx := hcell (ls.length - 1 - n) (by omega)
    have e1 : ((n : Int)).toNat = n := by simp
    rw [e1]
    generalize ls.getD (ls.length - 1 - n) 0 = z at *
    clear h hcell CF hl
    generalize ls.length = k at *
    obtain ⟨q, hq⟩ : ∃ q : Nat, (k : Int) - 1 - (n : Int) = (q : Int) := ⟨k - 1 - n, by omega⟩
    have hq2 : k - 1 - n = q := by omega
    have hq3 : (q : Int) < (k : Int) := by omega
    have hq4 : q < k := by omega
    rw [hq2] at hx
    clear hq2
    go_enter Tryz.func328, Tryz.ntmps328
    go_upto_region 4 with fail
    go_quiet (fail)
    go_wp2
    go_ret
    exact ⟨rfl, H.out.drewN _⟩
end Go.Proofs.YtdljneclfgneoaaGreatDoor.Val

namespace Go.Proofs.YtdljneclfgneoaaGreatDoor.Val
open Go.RowKit Go.Shelf Go.Proofs.YtdljneclfgneoaaGreatDoor.Instr Go.Proofs.YtdljneclfgneoaaGreatDoor.Mod
set_option linter.unusedVariables false

/-- The head of the judge's box. -/
def jhd (m : Md) (t1 t2 lo : Int) : List Value := [.slice m.ty'.a m.ty.length m.ty'.c, .slice m.im'.a m.im.length m.im'.c, .slice m.fu'.a m.fu.length m.fu'.c, .slice m.tb'.a m.tb.length m.tb'.c, .slice m.me'.a m.me.length m.me'.c, .slice m.gl'.a m.gl.length m.gl'.c, .slice m.ex'.a m.ex.length m.ex'.c, .bool m.st, .int .u32 m.sn, .slice m.el'.a m.el.length m.el'.c, .slice m.da'.a m.da.length m.da'.c, .int .i64 t1, .int .i64 t2, .int .i64 lo]
set_option maxRecDepth 100000 in
set_option maxHeartbeats 1000000 in
theorem namesR_local {W : World} {g : Nat} {m : Md} {t1 t2 lo : Int} {lab : Value} {j : J} (h : JAt W g (jhd m t1 t2 lo) lab j) (x : Ix) (hx : x.ok) (a : Int) (hop : x.op = 32 ∨ x.op = 33 ∨ x.op = 34) :
    Calls Tryz.prog 292 #[.pointer (some ⟨g, 0, none⟩), .agg x.vals, .int .i64 a] W fun e W' => e = .returned (.tuple #[]) ∧ JQ g (jhd m t1 t2 lo) lab (namesJ m lo x a j) W W' := by
  have HL := hid (show lacksP m lo x = if x.a < lo then 0 else 6 by unfold lacksP; rw [if_neg (by omega), if_pos hop])
  obtain ⟨W0, hW0⟩ : ∃ W0, W0 = W.alloc (.cells x.vals 92) := ⟨_, rfl⟩
  have hb0 : Below W.heap.size W W0 := by rw [hW0]; exact thenA (Below.refl _ _) _
  have hat : At x W.heap.size W0 := by rw [hW0]; exact At.made x W
  have h0 := h.below hb0
  have c13 := h0.hd_ (i := 13) rfl
  have CA := hid (refAlign_any x.op W0)
  have CF := hid (fun (n : Nat) => fault_any (W := W0.drewN n) (hd := jhd m t1 t2 lo) (lab := lab) (j := j) ⟨h0.box, h0.len⟩ 6 a)
  have HQ := hid (show JQ g (jhd m t1 t2 lo) lab j W W0 from ⟨h0, Save.of_below hb0⟩)
  obtain ⟨ha0, ha1⟩ := hx.a
  have d0 := hat.c0
  have d2 := hat.c2
  obtain ⟨op, res, xa, xb, xn, tags, ta, tc, la, ln, lc, ea, en, ec⟩ := x
  unfold namesJ
  unfold Ix.vals at hW0 ⊢
  simp only at hop hW0 CA ha0 ha1 ⊢
  simp only at HL d0 d2
  rw [HL.out]
  clear h h0 hat hb0 HL
  by_cases h1 : xa < lo
  · rw [if_pos h1, if_pos rfl]
    rcases hop with rfl | rfl | rfl
    all_goals
      go_enter Tryz.func292, Tryz.ntmps292
      go_upto_region 1 with fail
      go_wp2_with fail
      rw [← hW0]
      refine CA.out.mono ?_
      rintro e w1 ⟨rfl, rfl⟩
      generalize alignP _ = al at *
      generalize storedP _ = sp at *
      clear hW0
      go_upto_region 3 with fail
      go_quiet (fail)
      go_wp2
      go_end0
      exact ⟨rfl, JQ.drewN HQ.out _⟩
  · rw [if_neg h1, if_neg (by omega)]
    rcases hop with rfl | rfl | rfl
    all_goals
      go_enter Tryz.func292, Tryz.ntmps292
      go_upto_region 1 with fail
      go_wp2_with fail
      rw [← hW0]
      refine CA.out.mono ?_
      rintro e w1 ⟨rfl, rfl⟩
      generalize alignP _ = al at *
      generalize storedP _ = sp at *
      clear hW0
      go_upto_region 3 with fail
      go_quiet (fail)
      go_wp2_with fail
      refine (CF.out _).mono ?_
      rintro e w2 ⟨rfl, hq⟩
      have HN := hid (JQ.trans (JQ.drewN HQ.out _) hq)
      clear hq CF HQ
      go_wp2
      go_end0
      exact ⟨rfl, HN.out⟩
set_option maxRecDepth 100000 in
set_option maxHeartbeats 1000000 in
theorem namesR_other {W : World} {g : Nat} {m : Md} {t1 t2 lo : Int} {lab : Value} {j : J} (h : JAt W g (jhd m t1 t2 lo) lab j) (x : Ix) (hx : x.ok) (a : Int) (h0' : x.op ≠ 16 ∧ x.op ≠ 17) (h1' : x.op < 32 ∨ 34 < x.op) (h2' : x.op ≠ 35 ∧ x.op ≠ 36) (h3' : storedP x.op = false) (h4' : x.op ≠ 63 ∧ x.op ≠ 64) :
    Calls Tryz.prog 292 #[.pointer (some ⟨g, 0, none⟩), .agg x.vals, .int .i64 a] W fun e W' => e = .returned (.tuple #[]) ∧ JQ g (jhd m t1 t2 lo) lab (namesJ m lo x a j) W W' := by
  have HL := hid (show lacksP m lo x = 0 by unfold lacksP; rw [if_neg (by omega), if_neg (by omega), if_neg (by omega), if_neg (by rw [h3']; simp), if_neg (by omega)])
  obtain ⟨W0, hW0⟩ : ∃ W0, W0 = W.alloc (.cells x.vals 92) := ⟨_, rfl⟩
  have hb0 : Below W.heap.size W W0 := by rw [hW0]; exact thenA (Below.refl _ _) _
  have hat : At x W.heap.size W0 := by rw [hW0]; exact At.made x W
  have h0 := h.below hb0
  have c13 := h0.hd_ (i := 13) rfl
  have CA := hid (refAlign_any x.op W0)
  have HQ := hid (show JQ g (jhd m t1 t2 lo) lab j W W0 from ⟨h0, Save.of_below hb0⟩)
  obtain ⟨ha0, ha1⟩ := hx.a
  have d0 := hat.c0
  have d2 := hat.c2
  obtain ⟨op, res, xa, xb, xn, tags, ta, tc, la, ln, lc, ea, en, ec⟩ := x
  unfold namesJ
  unfold Ix.vals at hW0 ⊢
  simp only at h0' h1' h2' h3' h4' hW0 CA ha0 ha1 ⊢
  simp only at HL d0 d2
  rw [HL.out, if_pos rfl]
  rw [h3'] at CA
  obtain ⟨g1, g2⟩ := h2'
  obtain ⟨g3, g4⟩ := h4'
  have HOP := hid h1'
  have k1 : (op == 35) = false := beq_eq_false_iff_ne.2 g1
  have k2 : (op == 36) = false := beq_eq_false_iff_ne.2 g2
  have k3 : (op == 63) = false := beq_eq_false_iff_ne.2 g3
  have k4 : (op == 64) = false := beq_eq_false_iff_ne.2 g4
  clear h0'
  clear h h0 hat hb0 HL h1' h3'
  rcases HOP.out with hop | hop
  all_goals
    go_enter Tryz.func292, Tryz.ntmps292
    go_upto_region 1 with fail
    go_wp2_with fail
    rw [← hW0]
    refine CA.out.mono ?_
    rintro e w1 ⟨rfl, rfl⟩
    generalize alignP _ = al at *
    clear hW0
    go_wp2
    go_end0
    exact ⟨rfl, HQ.out⟩
set_option maxRecDepth 100000 in
set_option maxHeartbeats 1000000 in
theorem namesR_mem {W : World} {g : Nat} {m : Md} {t1 t2 lo : Int} {lab : Value} {j : J} (h : JAt W g (jhd m t1 t2 lo) lab j) (x : Ix) (hx : x.ok) (a : Int) (h0' : x.op ≠ 16 ∧ x.op ≠ 17) (h1' : x.op < 32 ∨ 34 < x.op) (h2' : x.op ≠ 35 ∧ x.op ≠ 36) (h3' : storedP x.op = true ∨ x.op = 63 ∨ x.op = 64) :
    Calls Tryz.prog 292 #[.pointer (some ⟨g, 0, none⟩), .agg x.vals, .int .i64 a] W fun e W' => e = .returned (.tuple #[]) ∧ JQ g (jhd m t1 t2 lo) lab (namesJ m lo x a j) W W' := by
  have HL := hid (show lacksP m lo x = if m.me.length = 0 then 6 else if storedP x.op = true ∧ alignP x.op < x.a then 211 else 0 by
    unfold lacksP; rw [if_neg (by omega), if_neg (by omega), if_neg (by omega)]
    rcases Bool.eq_false_or_eq_true (storedP x.op) with h | h
    · rw [if_pos h]; simp [h]
    · rw [if_neg (by rw [h]; simp), if_pos (h3'.resolve_left (by rw [h]; simp))]; simp [h])
  obtain ⟨W0, hW0⟩ : ∃ W0, W0 = W.alloc (.cells x.vals 92) := ⟨_, rfl⟩
  have hb0 : Below W.heap.size W W0 := by rw [hW0]; exact thenA (Below.refl _ _) _
  have hat : At x W.heap.size W0 := by rw [hW0]; exact At.made x W
  have h0 := h.below hb0
  have c4 := h0.hd_ (i := 4) rfl
  have CA := hid (refAlign_any x.op W0)
  have CF := hid (fun er => fault_any h0 er a)
  have CG := hid (fun (w1 : World) (j' : J) (hq : JQ g (jhd m t1 t2 lo) lab j' W0 w1) (he : j'.e ≠ 0) => (show Calls Tryz.prog 250 #[.pointer (some ⟨g, 0, none⟩), .int .i64 211, .int .i64 a] w1 fun e W' => e = .returned (.tuple #[]) ∧ JQ g (jhd m t1 t2 lo) lab j' w1 W' by
    have := fault_any hq.1 211 a
    rw [fault_out he] at this
    exact this))
  have HQ := hid (show JQ g (jhd m t1 t2 lo) lab j W W0 from ⟨h0, Save.of_below hb0⟩)
  obtain ⟨ha0, ha1⟩ := hx.a
  have d0 := hat.c0
  have d2 := hat.c2
  obtain ⟨op, res, xa, xb, xn, tags, ta, tc, la, ln, lc, ea, en, ec⟩ := x
  unfold namesJ
  unfold Ix.vals at hW0 ⊢
  simp only at h0' h1' h2' h3' hW0 CA ha0 ha1 ⊢
  simp only at HL d0 d2
  have HX := hid (fun (w1 : World) (j' : J) (hq : JQ g (jhd m t1 t2 lo) lab j' W0 w1) => (⟨hq.2.cell (p := ⟨W.heap.size, 0, none⟩) (by have := h.lt; show W.heap.size ≠ g; omega) d0, hq.2.cell (p := ⟨W.heap.size, 2, none⟩) (by have := h.lt; show W.heap.size ≠ g; omega) d2⟩ : w1.cell? ⟨W.heap.size, 0, none⟩ = some (.int .i64 op) ∧ w1.cell? ⟨W.heap.size, 2, none⟩ = some (.int .u32 xa)))
  rw [HL.out]
  obtain ⟨g1, g2⟩ := h2'
  have HOP := hid h1'
  have k1 : (op == 35) = false := beq_eq_false_iff_ne.2 g1
  have k2 : (op == 36) = false := beq_eq_false_iff_ne.2 g2
  clear h0'
  clear h h0 hat hb0 HL h1'
  generalize hal : alignP op = al at *
  generalize hsp : storedP op = sp at *
  clear hal hsp
  have hc : sp = true ∨ (sp = false ∧ (op = 63 ∨ op = 64)) := by
    cases sp with
    | true => exact .inl rfl
    | false => exact .inr ⟨rfl, h3'.resolve_left (by simp)⟩
  clear h3'
  generalize m.me.length = N at *
  by_cases hN : N = 0
  · subst hN
    rw [if_pos rfl, if_neg (by omega)]
    have hJ : (j.fault 6 a).e ≠ 0 := by
      unfold J.fault
      by_cases h : j.e = 0
      · rw [if_pos h]; simp
      · rw [if_neg h]; exact h
    have HJ := hid hJ
    clear hJ
    rcases hc with rfl | ⟨rfl, hop⟩
    · by_cases hxa : al < xa
      · rcases HOP.out with hop | hop
        all_goals
          go_enter Tryz.func292, Tryz.ntmps292
          go_upto_region 1 with fail
          go_wp2_with fail
          rw [← hW0]
          refine CA.out.mono ?_
          rintro e w1 ⟨rfl, rfl⟩
          clear hW0
          go_wp2_with fail
          refine (CF.out 6).mono ?_
          rintro e w2 ⟨rfl, hq⟩
          obtain ⟨x0, x2⟩ := HX.out _ _ hq
          have C2 := hid (CG.out _ _ hq HJ.out)
          have HN := hid (JQ.trans HQ.out hq)
          clear hq CF CG HQ
          go_wp2_with fail
          refine C2.out.mono ?_
          rintro e w3 ⟨rfl, hq⟩
          have HN3 := hid (JQ.trans HN.out hq)
          clear hq HN C2
          go_wp2
          go_end0
          exact ⟨rfl, HN3.out⟩
      · rcases HOP.out with hop | hop
        all_goals
          go_enter Tryz.func292, Tryz.ntmps292
          go_upto_region 1 with fail
          go_wp2_with fail
          rw [← hW0]
          refine CA.out.mono ?_
          rintro e w1 ⟨rfl, rfl⟩
          clear hW0
          go_wp2_with fail
          refine (CF.out 6).mono ?_
          rintro e w2 ⟨rfl, hq⟩
          obtain ⟨x0, x2⟩ := HX.out _ _ hq
          have HN := hid (JQ.trans HQ.out hq)
          clear hq CF CG HQ
          go_wp2
          go_end0
          exact ⟨rfl, HN.out⟩
    · rcases hop with rfl | rfl
      all_goals
        clear HOP k1 k2 g1 g2
        go_enter Tryz.func292, Tryz.ntmps292
        go_upto_region 1 with fail
        go_wp2_with fail
        rw [← hW0]
        refine CA.out.mono ?_
        rintro e w1 ⟨rfl, rfl⟩
        clear hW0
        go_wp2_with fail
        refine (CF.out 6).mono ?_
        rintro e w2 ⟨rfl, hq⟩
        obtain ⟨x0, x2⟩ := HX.out _ _ hq
        have HN := hid (JQ.trans HQ.out hq)
        clear hq CF CG HQ
        go_wp2
        go_end0
        exact ⟨rfl, HN.out⟩
  · rw [if_neg hN]
    have hN0 : ((N : Int) == 0) = false := by rw [beq_eq_false_iff_ne]; omega
    rcases hc with rfl | ⟨rfl, hop⟩
    · by_cases hxa : al < xa
      · rw [if_pos (show (true = true ∧ al < xa) from ⟨rfl, hxa⟩), if_neg (by omega)]
        rcases HOP.out with hop | hop
        all_goals
          go_enter Tryz.func292, Tryz.ntmps292
          go_upto_region 1 with fail
          go_wp2_with fail
          rw [← hW0]
          refine CA.out.mono ?_
          rintro e w1 ⟨rfl, rfl⟩
          clear hW0
          go_wp2_with fail
          refine (CF.out 211).mono ?_
          rintro e w2 ⟨rfl, hq⟩
          obtain ⟨x0, x2⟩ := HX.out _ _ hq
          have HN := hid (JQ.trans HQ.out hq)
          clear hq CF CG HQ
          go_wp2
          go_end0
          exact ⟨rfl, HN.out⟩
      · rw [if_neg (show ¬ (true = true ∧ al < xa) from fun h => hxa h.2), if_pos rfl]
        rcases HOP.out with hop | hop
        all_goals
          go_enter Tryz.func292, Tryz.ntmps292
          go_upto_region 1 with fail
          go_wp2_with fail
          rw [← hW0]
          refine CA.out.mono ?_
          rintro e w1 ⟨rfl, rfl⟩
          clear hW0
          go_wp2
          go_end0
          exact ⟨rfl, HQ.out⟩
    · rw [if_neg (show ¬ (false = true ∧ al < xa) from fun h => by simp at h), if_pos rfl]
      rcases hop with rfl | rfl
      all_goals
        clear HOP k1 k2 g1 g2
        go_enter Tryz.func292, Tryz.ntmps292
        go_upto_region 1 with fail
        go_wp2_with fail
        rw [← hW0]
        refine CA.out.mono ?_
        rintro e w1 ⟨rfl, rfl⟩
        clear hW0
        go_wp2
        go_end0
        exact ⟨rfl, HQ.out⟩
set_option maxRecDepth 100000 in
set_option maxHeartbeats 1000000 in
theorem namesR_glob {W : World} {g : Nat} {m : Md} {t1 t2 lo : Int} {lab : Value} {j : J} (h : JAt W g (jhd m t1 t2 lo) lab j) (x : Ix) (hx : x.ok) (a : Int) (hm : ModAt W.heap.size W m) (hop : x.op = 35 ∨ x.op = 36) :
    Calls Tryz.prog 292 #[.pointer (some ⟨g, 0, none⟩), .agg x.vals, .int .i64 a] W fun e W' => e = .returned (.tuple #[]) ∧ JQ g (jhd m t1 t2 lo) lab (namesJ m lo x a j) W W' := by
  have HL := hid (show lacksP m lo x = if x.a < (m.gl.length : Int) then (if x.op = 36 ∧ (m.gl.map (·.mu)).getD x.a.toNat false = false then 212 else 0) else 6 by unfold lacksP; rw [if_neg (by omega), if_neg (by omega), if_pos hop])
  obtain ⟨W0, hW0⟩ : ∃ W0, W0 = W.alloc (.cells x.vals 92) := ⟨_, rfl⟩
  have hb0 : Below W.heap.size W W0 := by rw [hW0]; exact thenA (Below.refl _ _) _
  have hat : At x W.heap.size W0 := by rw [hW0]; exact At.made x W
  have h0 := h.below hb0
  have c5 := h0.hd_ (i := 5) rfl
  have CA := hid (refAlign_any x.op W0)
  have CF := hid (fun (n : Nat) => fault_any (W := W0.drewN n) (hd := jhd m t1 t2 lo) (lab := lab) (j := j) ⟨h0.box, h0.len⟩)
  have HQ := hid (show JQ g (jhd m t1 t2 lo) lab j W W0 from ⟨h0, Save.of_below hb0⟩)
  obtain ⟨ha0, ha1⟩ := hx.a
  have d0 := hat.c0
  have d2 := hat.c2
  obtain ⟨op, res, xa, xb, xn, tags, ta, tc, la, ln, lc, ea, en, ec⟩ := x
  unfold namesJ
  unfold Ix.vals at hW0 ⊢
  simp only at hop hW0 CA ha0 ha1 ⊢
  simp only at HL d0 d2
  rw [HL.out]
  have HBL := hid hb0
  clear h h0 hat hb0 HL
  by_cases h1 : xa < (m.gl.length : Int)
  · rw [if_pos h1]
    obtain ⟨K, rfl⟩ : ∃ K : Nat, xa = (K : Int) := ⟨xa.toNat, by omega⟩
    have hk : K < m.gl.length := by omega
    obtain ⟨b, off, hga, hb, hc⟩ := Rows.get hm.gl hk
    have cm : W0.cell? ⟨b, off + K * 2, none⟩ = some (.bool (m.gl[K]).mu) := (HBL.out.cell (p := ⟨b, off + K * 2, none⟩) hb).trans (hc 0 (by omega) _ rfl)
    have hmu : (m.gl.map (·.mu)).getD ((K : Int)).toNat false = (m.gl[K]).mu := by simp [hk]
    rw [hmu]
    rw [hga] at c5
    generalize (m.gl[K]).mu = mu at *
    clear hc hmu hb HBL hm hga hx
    generalize m.gl.length = N at *
    have hk' : K ≤ 4294967295 := by omega
    clear hk ha0 ha1
    rcases hop with rfl | rfl
    · rw [if_neg (show ¬ ((35 : Int) = 36 ∧ mu = false) from fun h => by have := h.1; omega), if_pos rfl]
      go_enter Tryz.func292, Tryz.ntmps292
      go_upto_region 1 with fail
      go_wp2_with fail
      rw [← hW0]
      refine CA.out.mono ?_
      rintro e w1 ⟨rfl, rfl⟩
      generalize alignP _ = al at *
      generalize storedP _ = sp at *
      clear hW0
      go_upto_region 6 with fail
      go_quiet (fail)
      go_upto_region 8 with fail
      go_quiet (fail)
      go_wp2
      go_end0
      exact ⟨rfl, JQ.drewN (JQ.drewN HQ.out _) _⟩
    · cases mu with
      | true =>
        rw [if_neg (show ¬ ((36 : Int) = 36 ∧ true = false) from fun h => by have := h.2; cases this), if_pos rfl]
        go_enter Tryz.func292, Tryz.ntmps292
        go_upto_region 1 with fail
        go_wp2_with fail
        rw [← hW0]
        refine CA.out.mono ?_
        rintro e w1 ⟨rfl, rfl⟩
        generalize alignP _ = al at *
        generalize storedP _ = sp at *
        clear hW0
        go_upto_region 6 with fail
        go_quiet (fail)
        go_upto_region 8 with fail
        go_quiet (fail)
        go_wp2
        go_end0
        exact ⟨rfl, JQ.drewN (JQ.drewN HQ.out _) _⟩
      | false =>
        rw [if_pos (show ((36 : Int) = 36 ∧ false = false) from ⟨rfl, rfl⟩), if_neg (by omega)]
        go_enter Tryz.func292, Tryz.ntmps292
        go_upto_region 1 with fail
        go_wp2_with fail
        rw [← hW0]
        refine CA.out.mono ?_
        rintro e w1 ⟨rfl, rfl⟩
        generalize alignP _ = al at *
        generalize storedP _ = sp at *
        clear hW0
        go_upto_region 6 with fail
        go_quiet (fail)
        go_upto_region 8 with fail
        go_quiet (fail)
        go_wp2_with fail
        refine (CF.out _ 212 a).mono ?_
        rintro e w2 ⟨rfl, hq⟩
        have HN := hid (JQ.trans (JQ.drewN HQ.out _) hq)
        clear hq CF HQ
        go_wp2
        go_end0
        exact ⟨rfl, HN.out⟩
  · rw [if_neg h1, if_neg (by omega)]
    clear HBL
    generalize m.gl.length = N at *
    rcases hop with rfl | rfl
    all_goals
      go_enter Tryz.func292, Tryz.ntmps292
      go_upto_region 1 with fail
      go_wp2_with fail
      rw [← hW0]
      refine CA.out.mono ?_
      rintro e w1 ⟨rfl, rfl⟩
      generalize alignP _ = al at *
      generalize storedP _ = sp at *
      clear hW0
      go_upto_region 6 with fail
      go_quiet (fail)
      go_wp2_with fail
      refine (CF.out _ 6 a).mono ?_
      rintro e w2 ⟨rfl, hq⟩
      have HN := hid (JQ.trans (JQ.drewN HQ.out _) hq)
      clear hq CF HQ
      go_wp2
      go_end0
      exact ⟨rfl, HN.out⟩
/-- What an instruction names. -/
theorem namesR_any {W : World} {g : Nat} {m : Md} {t1 t2 lo : Int} {lab : Value} {j : J} (h : JAt W g (jhd m t1 t2 lo) lab j) (hm : ModAt W.heap.size W m) (x : Ix) (hx : x.ok) (a : Int) (hop : x.op ≠ 16 ∧ x.op ≠ 17) :
    Calls Tryz.prog 292 #[.pointer (some ⟨g, 0, none⟩), .agg x.vals, .int .i64 a] W fun e W' => e = .returned (.tuple #[]) ∧ JQ g (jhd m t1 t2 lo) lab (namesJ m lo x a j) W W' := by
  by_cases h1 : x.op = 32 ∨ x.op = 33 ∨ x.op = 34
  · exact namesR_local h x hx a h1
  · by_cases h2 : x.op = 35 ∨ x.op = 36
    · exact namesR_glob h x hx a hm h2
    · by_cases h3 : storedP x.op = true ∨ x.op = 63 ∨ x.op = 64
      · exact namesR_mem h x hx a hop (by omega) (by omega) h3
      · exact namesR_other h x hx a hop (by omega) (by omega) (by simpa using fun e => h3 (.inl e)) ⟨fun e => h3 (.inr (.inl e)), fun e => h3 (.inr (.inr e))⟩
end Go.Proofs.YtdljneclfgneoaaGreatDoor.Val

namespace Go.Proofs.YtdljneclfgneoaaGreatDoor.Val
open Go.RowKit Go.Shelf Go.Proofs.YtdljneclfgneoaaGreatDoor.Instr Go.Proofs.YtdljneclfgneoaaGreatDoor.Mod
set_option linter.unusedVariables false
/-- The three boxes of such a call: the instruction, what is had, what is returned. -/
structure Three (W : World) (X : Array Value) (n0 : Int) (d : Bool) (W' : World) : Prop where
  a : W'.heap[W.heap.size]? = some (.cells X 92 (0, 0))
  b : W'.heap[W.heap.size + 1]? = some (.cells #[.int .i64 n0, .bool d] 312 (0, 0))
  c : W'.heap[W.heap.size + 2]? = some (.cells #[.int .i64 0, .bool false] 312 (0, 0))
theorem Three.save {W A B : World} {X : Array Value} {n0 : Int} {d : Bool} {g : Nat} (h : Three W X n0 d A) (hs : Save g A B) (hg : g < W.heap.size) : Three W X n0 d B :=
  ⟨(hs.block _ (Array.getElem?_eq_some_iff.1 h.a).1 (by omega)).trans h.a, (hs.block _ (Array.getElem?_eq_some_iff.1 h.b).1 (by omega)).trans h.b, (hs.block _ (Array.getElem?_eq_some_iff.1 h.c).1 (by omega)).trans h.c⟩
theorem Three.made (W : World) (X : Array Value) (n0 : Int) (d : Bool) : Three W X n0 d (((W.alloc (.cells X 92)).alloc (.cells #[.int .i64 n0, .bool d] 312)).alloc (.cells #[.int .i64 0, .bool false] 312)) := by
  have h1 := heap_alloc_new W (.cells X 92)
  have h2 := heap_alloc_new (W.alloc (.cells X 92)) (.cells #[.int .i64 n0, .bool d] 312)
  have h3 := heap_alloc_new ((W.alloc (.cells X 92)).alloc (.cells #[.int .i64 n0, .bool d] 312)) (.cells #[.int .i64 0, .bool false] 312)
  have b1 : Below (W.alloc (.cells X 92)).heap.size _ _ := thenA (belowAlloc (W.alloc (.cells X 92)) (.cells #[.int .i64 n0, .bool d] 312)) (.cells #[.int .i64 0, .bool false] 312)
  have b2 := belowAlloc ((W.alloc (.cells X 92)).alloc (.cells #[.int .i64 n0, .bool d] 312)) (.cells #[.int .i64 0, .bool false] 312)
  simp only [World.size_alloc] at h2 h3
  exact ⟨(b1.block W.heap.size (by simp)).trans h1, (b2.block (W.heap.size + 1) (by simp)).trans h2, h3⟩
theorem three_end {W w1 : World} {g : Nat} {hd : List Value} {lab : Value} {j : J} {X : Array Value} {n0 : Int} {d : Bool} (hq : JQ g hd lab j W w1) (h3 : Three W X n0 d w1) (hg : g < W.heap.size) (y z : Value) :
    JQ g hd lab j W ((w1.setCell ⟨W.heap.size + 1 + 1, 0, none⟩ y).setCell ⟨W.heap.size + 1 + 1, 1, none⟩ z) ∧ ((w1.setCell ⟨W.heap.size + 1 + 1, 0, none⟩ y).setCell ⟨W.heap.size + 1 + 1, 1, none⟩ z).heap[W.heap.size + 1 + 1]? = some (.cells #[y, z] 312 (0, 0)) := by
  refine ⟨⟨?_, (hq.2.setCell (p := ⟨W.heap.size + 1 + 1, 0, none⟩) (.inr (by simp; omega)) _).setCell (p := ⟨W.heap.size + 1 + 1, 1, none⟩) (.inr (by simp; omega)) _⟩, ?_⟩
  · have e2 := hq.1.keep (Save.setCell (p := ⟨W.heap.size + 1 + 1, 0, none⟩) (Save.refl (W.heap.size + 1 + 1) _) (.inl rfl) y) (by omega)
    exact e2.keep (Save.setCell (p := ⟨W.heap.size + 1 + 1, 1, none⟩) (Save.refl (W.heap.size + 1 + 1) _) (.inl rfl) z) (by omega)
  · exact heap_setCell_same _ _ 1 _ _ z (heap_setCell_same _ _ 0 _ _ y h3.c)
theorem held3 {w : World} {p q r : Addr} {x y z : Value} (h : w.cell? p = some x ∧ w.cell? q = some y ∧ w.cell? r = some z) : w.drew.cell? p = some x ∧ w.drew.cell? q = some y ∧ w.drew.cell? r = some z := h
set_option maxRecDepth 100000 in
set_option maxHeartbeats 1000000 in
theorem jumpR_ret {W : World} {g : Nat} {m : Md} {t1 t2 lo : Int} {lab : Value} {j : J} (h : JAt W g (jhd m t1 t2 lo) lab j) (x : Ix) (hx : x.ok) (hv : Hv) (a : Int) (ht : 0 ≤ t2 ∧ t2 ≤ 4611686018427387904) (hh : 0 ≤ hv.n ∧ hv.n ≤ 4611686018427387904) (hop : x.op = 15) :
    Calls Tryz.prog 290 #[.pointer (some ⟨g, 0, none⟩), .agg x.vals, HvV hv, .int .i64 a] W fun e W' => e = .returned (HvV ⟨0, true⟩) ∧ JQ g (jhd m t1 t2 lo) lab (popJ t2 a (hv, j)).2 W W' := by
  have CP := hid (fun (W' : World) (hj : JAt W' g (jhd m t1 t2 lo) lab j) => popR_any hj hv t2 a ht hh)
  obtain ⟨op, res, xa, xb, xn, tags, ta, tc, la, ln, lc, ea, en, ec⟩ := x
  simp only at hop
  subst hop
  obtain ⟨n0, d⟩ := hv
  unfold HvV at CP ⊢
  unfold Ix.vals
  dsimp only at hh CP ⊢
  have HG := hid h.lt
  have hb0 : Below W.heap.size W (((W.alloc (.cells #[.int .i64 15, .int .i64 res, .int .u32 xa, .int .u32 xb, .int .i32 xn, .slice ta tags.length tc, .slice la ln lc, .slice ea en ec] 92)).alloc (.cells #[.int .i64 n0, .bool d] 312)).alloc (.cells #[.int .i64 0, .bool false] 312)) := thenA (thenA (belowAlloc W _) _) _
  have H3 := hid (Three.made W #[.int .i64 15, .int .i64 res, .int .u32 xa, .int .u32 xb, .int .i32 xn, .slice ta tags.length tc, .slice la ln lc, .slice ea en ec] n0 d)
  have HH := hid (h.below hb0)
  have HJ := hid (show JQ g (jhd m t1 t2 lo) lab j W _ from ⟨h.below hb0, Save.of_below hb0⟩)
  have c12 := (h.below hb0).hd_ (i := 12) rfl
  clear h hx hb0
  go_enter Tryz.func290, Tryz.ntmps290
  go_upto_region 3 with fail
  generalize hW3 : (((W.alloc (.cells #[.int .i64 15, .int .i64 res, .int .u32 xa, .int .u32 xb, .int .i32 xn, .slice ta tags.length tc, .slice la ln lc, .slice ea en ec] 92)).alloc (.cells #[.int .i64 n0, .bool d] 312)).alloc (.cells #[.int .i64 0, .bool false] 312)) = W3 at *
  have b0 := cell_of_row W3 (W.heap.size + 1) 0 _ _ _ H3.out.b
  have b1 := cell_of_row W3 (W.heap.size + 1) 1 _ _ _ H3.out.b
  simp at b0 b1
  have HS := hid (fun (w1 : World) (hs : Save g W3 w1) (j' : J) (hj : JAt w1 g (jhd m t1 t2 lo) lab j') => (show w1.cell? ⟨g, 12, none⟩ = some (.int .i64 t2) ∧ w1.cell? ⟨W.heap.size + 1, 0, none⟩ = some (.int .i64 n0) ∧ w1.cell? ⟨W.heap.size + 1, 1, none⟩ = some (.bool d) from
    ⟨hj.hd_ (i := 12) rfl, hs.cell (p := ⟨W.heap.size + 1, 0, none⟩) (by have := HG.out; show W.heap.size + 1 ≠ g; omega) b0, hs.cell (p := ⟨W.heap.size + 1, 1, none⟩) (by have := HG.out; show W.heap.size + 1 ≠ g; omega) b1⟩))
  have hS0 : W3.drew.cell? ⟨g, 12, none⟩ = some (.int .i64 t2) ∧ W3.drew.cell? ⟨W.heap.size + 1, 0, none⟩ = some (.int .i64 n0) ∧ W3.drew.cell? ⟨W.heap.size + 1, 1, none⟩ = some (.bool d) := ⟨c12, b0, b1⟩
  clear hW3
  (first | go_loud (go_region_held3 (fun w' => w'.cell? ⟨g, 12, none⟩ = some (.int .i64 t2) ∧ w'.cell? ⟨W.heap.size + 1, 0, none⟩ = some (.int .i64 n0) ∧ w'.cell? ⟨W.heap.size + 1, 1, none⟩ = some (.bool d))
    (first | assumption | exact held3 (by assumption))
    (first | (go_at_call 249; (first | refine (CP.out W3.drew ⟨HH.out.box, HH.out.len⟩).mono ?_ | refine (CP.out W3 HH.out).mono ?_); rintro e1 w1 ⟨rfl, hq⟩; have hS1 := HS.out w1 ⟨hq.2.os, hq.2.tape, hq.2.output, hq.2.size, hq.2.block⟩ _ hq.1))) | fail)
  have hs : Save g W3 w1 := ⟨hq.2.os, hq.2.tape, hq.2.output, hq.2.size, hq.2.block⟩
  have h31 := H3.out.save hs HG.out
  have HE := hid (fun y z => three_end (JQ.trans HJ.out ⟨hq.1, hs⟩) h31 HG.out y z)
  have z0 := cell_of_row w1 (W.heap.size + 1 + 1) 0 _ _ _ h31.c
  have z1 := cell_of_row w1 (W.heap.size + 1 + 1) 1 _ _ _ h31.c
  have t0 := frozen_of_row w1 (W.heap.size + 1 + 1) 0 _ _ h31.c
  have t1' := frozen_of_row w1 (W.heap.size + 1 + 1) 1 _ _ h31.c
  simp at z0 z1
  clear hq h31 hs HS HH CP H3 HJ c12 hS0 hS1 b0 b1
  go_wp2
  obtain ⟨q1, q2⟩ := HE.out (.int .i64 0) (.bool true)
  exact bodyPost_ret (results_cell_row Tryz.results290 _ _ (W.heap.size + 1 + 1) _ _ _ _ rfl q2 Tryz.underlying312 rfl (by kernel_rfl)) rfl ⟨rfl, q1⟩
theorem labelJ_in {ls : List Int} (hl : ∀ l ∈ ls, 0 ≤ l ∧ l ≤ 4611686018427387904) (n a : Int) (j : J) : 0 ≤ (labelJ ls n a j).1 ∧ (labelJ ls n a j).1 ≤ 4611686018427387904 := by
  unfold labelJ
  split
  · simp
  · simp only
    rw [List.getD_eq_getElem?_getD]
    rcases h : ls[ls.length - 1 - n.toNat]? with _ | v
    · simp
    · exact hl v (List.mem_of_getElem? h)
theorem LabAt.save {n₀ g : Nat} {W W' : World} {la : Option Addr} {ls : List Int} (h : LabAt n₀ W la ls) (hs : Save g W W') (hg : n₀ ≤ g) : LabAt n₀ W' la ls := by
  rcases h with h | ⟨b, h1, h2, h3⟩
  · exact .inl h
  · exact .inr ⟨b, h1, h2, fun i hi => hs.cell (p := ⟨b, i, none⟩) (by show b ≠ g; omega) (h3 i hi)⟩
theorem LabAt.on {n₀ : Nat} {W W' : World} {la : Option Addr} {ls : List Int} (h : LabAt n₀ W la ls) (hb : Below n₀ W W') : LabAt n₀ W' la ls := by
  rcases h with h | ⟨b, h1, h2, h3⟩
  · exact .inl h
  · exact .inr ⟨b, h1, h2, fun i hi => (hb.cell (p := ⟨b, i, none⟩) h2).trans (h3 i hi)⟩
theorem LabAt.more {n₀ n₁ : Nat} {W : World} {la : Option Addr} {ls : List Int} (h : LabAt n₀ W la ls) (hn : n₀ ≤ n₁) : LabAt n₁ W la ls := by
  rcases h with h | ⟨b, h1, h2, h3⟩
  · exact .inl h
  · exact .inr ⟨b, h1, by omega, h3⟩
set_option maxRecDepth 100000 in
set_option maxHeartbeats 1000000 in
theorem jumpR_br {W : World} {g : Nat} {m : Md} {t1 t2 lo : Int} {la : Option Addr} {lc : Nat} {ls : List Int} {j : J} (h : JAt W g (jhd m t1 t2 lo) (.slice la ls.length lc) j) (hlab : LabAt W.heap.size W la ls) (hln : ls.length ≤ 1000000) (hls : ∀ l ∈ ls, 0 ≤ l ∧ l ≤ 4611686018427387904) (x : Ix) (hx : x.ok) (hv : Hv) (a : Int) (hh : 0 ≤ hv.n ∧ hv.n ≤ 4611686018427387904) (hop : x.op = 12) :
    Calls Tryz.prog 290 #[.pointer (some ⟨g, 0, none⟩), .agg x.vals, HvV hv, .int .i64 a] W fun e W' => e = .returned (HvV ⟨0, true⟩) ∧ JQ g (jhd m t1 t2 lo) (.slice la ls.length lc) (popJ (labelJ ls x.a a j).1 a (hv, (labelJ ls x.a a j).2)).2 W W' := by
  have hk := labelJ_in hls x.a a j
  have CP := hid (fun (W' : World) (hj : JAt W' g (jhd m t1 t2 lo) (.slice la ls.length lc) (labelJ ls x.a a j).2) => popR_any hj hv (labelJ ls x.a a j).1 a hk hh)
  obtain ⟨ha0, ha1⟩ := hx.a
  obtain ⟨op, res, xa, xb, xn, tags, ta, tc, la', ln, lc', ea, en, ec⟩ := x
  simp only at hop ha0 ha1 hk CP ⊢
  subst hop
  obtain ⟨N, rfl⟩ : ∃ N : Nat, xa = (N : Int) := ⟨xa.toNat, by omega⟩
  obtain ⟨n0, d⟩ := hv
  unfold HvV at CP ⊢
  unfold Ix.vals
  dsimp only at hh CP ⊢
  have HG := hid h.lt
  have hb0 : Below W.heap.size W (((W.alloc (.cells #[.int .i64 12, .int .i64 res, .int .u32 (N : Int), .int .u32 xb, .int .i32 xn, .slice ta tags.length tc, .slice la' ln lc', .slice ea en ec] 92)).alloc (.cells #[.int .i64 n0, .bool d] 312)).alloc (.cells #[.int .i64 0, .bool false] 312)) := thenA (thenA (belowAlloc W _) _) _
  have H3 := hid (Three.made W #[.int .i64 12, .int .i64 res, .int .u32 (N : Int), .int .u32 xb, .int .i32 xn, .slice ta tags.length tc, .slice la' ln lc', .slice ea en ec] n0 d)
  have HJ := hid (show JQ g (jhd m t1 t2 lo) (.slice la ls.length lc) j W _ from ⟨h.below hb0, Save.of_below hb0⟩)
  have CLB := hid (labelR_any (h.below hb0) ((hlab.on hb0).more hb0.size) hln N a (by omega))
  obtain ⟨k, hkk⟩ : ∃ k, labelJ ls (N : Int) a j = k := ⟨_, rfl⟩
  rw [hkk] at CLB CP hk ⊢
  obtain ⟨k, j1⟩ := k
  dsimp only at CLB CP hk ⊢
  clear h hx hb0 hlab hln hls hkk ha0 ha1
  go_enter Tryz.func290, Tryz.ntmps290
  go_wp2_with fail
  refine CLB.out.mono ?_
  rintro e w1 ⟨rfl, hq⟩
  have hs1 := hq.2
  have h31 := H3.out.save hs1 HG.out
  have HJ1 := hid (JQ.trans HJ.out hq)
  have b0 := cell_of_row w1 (W.heap.size + 1) 0 _ _ _ h31.b
  have b1 := cell_of_row w1 (W.heap.size + 1) 1 _ _ _ h31.b
  simp at b0 b1
  have H31 := hid h31
  clear hq hs1 h31 H3 HJ CLB
  have C2 := hid (CP.out w1 HJ1.out.1)
  clear CP
  go_wp2_with fail
  refine C2.out.mono ?_
  rintro e w2 ⟨rfl, hq⟩
  have h32 := H31.out.save hq.2 HG.out
  have HE := hid (fun y z => three_end (JQ.trans HJ1.out hq) h32 HG.out y z)
  have z0 := cell_of_row w2 (W.heap.size + 1 + 1) 0 _ _ _ h32.c
  have z1 := cell_of_row w2 (W.heap.size + 1 + 1) 1 _ _ _ h32.c
  have t0 := frozen_of_row w2 (W.heap.size + 1 + 1) 0 _ _ h32.c
  have t1' := frozen_of_row w2 (W.heap.size + 1 + 1) 1 _ _ h32.c
  simp at z0 z1
  clear hq h32 C2 H31 HJ1 b0 b1
  go_wp2
  obtain ⟨q1, q2⟩ := HE.out (.int .i64 0) (.bool true)
  exact bodyPost_ret (results_cell_row Tryz.results290 _ _ (W.heap.size + 1 + 1) _ _ _ _ rfl q2 Tryz.underlying312 rfl (by kernel_rfl)) rfl ⟨rfl, q1⟩
theorem three_set1 {W w1 : World} {g : Nat} {hd : List Value} {lab : Value} {j : J} {X : Array Value} {n0 : Int} {d : Bool} (hq : JQ g hd lab j W w1) (h3 : Three W X n0 d w1) (hg : g < W.heap.size) (y : Int) :
    JQ g hd lab j W (w1.setCell ⟨W.heap.size + 1, 0, none⟩ (.int .i64 y)) ∧ Three W X y d (w1.setCell ⟨W.heap.size + 1, 0, none⟩ (.int .i64 y)) := by
  have s1 : Save (W.heap.size + 1) w1 (w1.setCell ⟨W.heap.size + 1, 0, none⟩ (.int .i64 y)) := Save.setCell (p := ⟨W.heap.size + 1, 0, none⟩) (Save.refl (W.heap.size + 1) w1) (.inl rfl) _
  exact ⟨⟨hq.1.keep s1 (by omega), hq.2.setCell (p := ⟨W.heap.size + 1, 0, none⟩) (.inr (by simp)) _⟩, (s1.block _ (Array.getElem?_eq_some_iff.1 h3.a).1 (by omega)).trans h3.a, heap_setCell_same _ _ 0 _ _ _ h3.b, (s1.block _ (Array.getElem?_eq_some_iff.1 h3.c).1 (by omega)).trans h3.c⟩
theorem three_seth {W w1 : World} {g : Nat} {hd : List Value} {lab : Value} {j : J} {X : Array Value} {n0 : Int} {d : Bool} (hq : JQ g hd lab j W w1) (h3 : Three W X n0 d w1) (hg : g < W.heap.size) (y : Int) (z : Bool) :
    JQ g hd lab j W ((w1.setCell ⟨W.heap.size + 1, 0, none⟩ (.int .i64 y)).setCell ⟨W.heap.size + 1, 1, none⟩ (.bool z)) ∧ Three W X y z ((w1.setCell ⟨W.heap.size + 1, 0, none⟩ (.int .i64 y)).setCell ⟨W.heap.size + 1, 1, none⟩ (.bool z)) := by
  have s1 : Save (W.heap.size + 1) w1 ((w1.setCell ⟨W.heap.size + 1, 0, none⟩ (.int .i64 y)).setCell ⟨W.heap.size + 1, 1, none⟩ (.bool z)) := (Save.setCell (p := ⟨W.heap.size + 1, 0, none⟩) (Save.refl (W.heap.size + 1) w1) (.inl rfl) _).setCell (p := ⟨W.heap.size + 1, 1, none⟩) (.inl rfl) _
  refine ⟨⟨hq.1.keep s1 (by omega), (hq.2.setCell (p := ⟨W.heap.size + 1, 0, none⟩) (.inr (by simp)) _).setCell (p := ⟨W.heap.size + 1, 1, none⟩) (.inr (by simp)) _⟩, (s1.block _ (Array.getElem?_eq_some_iff.1 h3.a).1 (by omega)).trans h3.a, ?_, (s1.block _ (Array.getElem?_eq_some_iff.1 h3.c).1 (by omega)).trans h3.c⟩
  exact heap_setCell_same _ _ 1 _ _ _ (heap_setCell_same _ _ 0 _ _ _ h3.b)
set_option maxRecDepth 100000 in
set_option maxHeartbeats 1000000 in
theorem jumpR_brIf {W : World} {g : Nat} {m : Md} {t1 t2 lo : Int} {la : Option Addr} {lc : Nat} {ls : List Int} {j : J} (h : JAt W g (jhd m t1 t2 lo) (.slice la ls.length lc) j) (hlab : LabAt W.heap.size W la ls) (hln : ls.length ≤ 1000000) (hls : ∀ l ∈ ls, 0 ≤ l ∧ l ≤ 4611686018427387904) (x : Ix) (hx : x.ok) (hv : Hv) (a : Int) (hh : 0 ≤ hv.n ∧ hv.n ≤ 4611686018427387904) (hop : x.op = 13) :
    Calls Tryz.prog 290 #[.pointer (some ⟨g, 0, none⟩), .agg x.vals, HvV hv, .int .i64 a] W fun e W' => e = .returned (HvV (pushJ (labelJ ls x.a a j).1 (popJ (labelJ ls x.a a j).1 a (popJ 1 a (hv, (labelJ ls x.a a j).2)))).1) ∧ JQ g (jhd m t1 t2 lo) (.slice la ls.length lc) (pushJ (labelJ ls x.a a j).1 (popJ (labelJ ls x.a a j).1 a (popJ 1 a (hv, (labelJ ls x.a a j).2)))).2 W W' := by
  have hk := labelJ_in hls x.a a j
  have CP := hid (fun (W' : World) (hv : Hv) (j' : J) (n : Int) (hj : JAt W' g (jhd m t1 t2 lo) (.slice la ls.length lc) j') (hn : 0 ≤ n ∧ n ≤ 4611686018427387904) (hh : 0 ≤ hv.n ∧ hv.n ≤ 4611686018427387904) => popR_any hj hv n a hn hh)
  obtain ⟨ha0, ha1⟩ := hx.a
  obtain ⟨op, res, xa, xb, xn, tags, ta, tc, la', ln, lc', ea, en, ec⟩ := x
  simp only at hop ha0 ha1 hk CP ⊢
  subst hop
  obtain ⟨N, rfl⟩ : ∃ N : Nat, xa = (N : Int) := ⟨xa.toNat, by omega⟩
  obtain ⟨n0, d⟩ := hv
  unfold HvV at CP
  unfold Ix.vals
  dsimp only at hh ⊢
  have HG := hid h.lt
  have hb0 : Below W.heap.size W (((W.alloc (.cells #[.int .i64 13, .int .i64 res, .int .u32 (N : Int), .int .u32 xb, .int .i32 xn, .slice ta tags.length tc, .slice la' ln lc', .slice ea en ec] 92)).alloc (.cells #[.int .i64 n0, .bool d] 312)).alloc (.cells #[.int .i64 0, .bool false] 312)) := thenA (thenA (belowAlloc W _) _) _
  have H3 := hid (Three.made W #[.int .i64 13, .int .i64 res, .int .u32 (N : Int), .int .u32 xb, .int .i32 xn, .slice ta tags.length tc, .slice la' ln lc', .slice ea en ec] n0 d)
  have HJ := hid (show JQ g (jhd m t1 t2 lo) (.slice la ls.length lc) j W _ from ⟨h.below hb0, Save.of_below hb0⟩)
  have CLB := hid (labelR_any (h.below hb0) ((hlab.on hb0).more hb0.size) hln N a (by omega))
  obtain ⟨k, hkk⟩ : ∃ k, labelJ ls (N : Int) a j = k := ⟨_, rfl⟩
  rw [hkk] at CLB hk ⊢
  obtain ⟨k, j1⟩ := k
  dsimp only at CLB hk ⊢
  obtain ⟨P1, hP1⟩ : ∃ P, popJ 1 a (⟨n0, d⟩, j1) = P := ⟨_, rfl⟩
  obtain ⟨⟨n1, d1⟩, j2⟩ := P1
  obtain ⟨P2, hP2⟩ : ∃ P, popJ k a (⟨n1, d1⟩, j2) = P := ⟨_, rfl⟩
  obtain ⟨⟨n2, d2⟩, j3⟩ := P2
  have hn1 : 0 ≤ n1 ∧ n1 ≤ 4611686018427387904 := by
    have := congrArg (fun q : Hv × J => q.1.n) hP1
    simp only [popJ] at this
    omega
  have hn2 : 0 ≤ n2 ∧ n2 + k ≤ 4611686018427387904 := by
    have := congrArg (fun q : Hv × J => q.1.n) hP2
    simp only [popJ] at this
    omega
  rw [hP1, hP2]
  unfold pushJ HvV
  dsimp only
  clear h hx hb0 hlab hln hls hkk ha0 ha1
  go_enter Tryz.func290, Tryz.ntmps290
  go_wp2_with fail
  refine CLB.out.mono ?_
  rintro e w1 ⟨rfl, hq⟩
  have hs1 := hq.2
  have h31 := H3.out.save hs1 HG.out
  have HJ1 := hid (JQ.trans HJ.out hq)
  have b0 := cell_of_row w1 (W.heap.size + 1) 0 _ _ _ h31.b
  have b1 := cell_of_row w1 (W.heap.size + 1) 1 _ _ _ h31.b
  simp at b0 b1
  have H31 := hid h31
  clear hq hs1 h31 H3 HJ CLB
  have C2 := hid (CP.out w1 ⟨n0, d⟩ j1 1 HJ1.out.1 (by omega) hh)
  rw [hP1] at C2
  dsimp only at C2
  have f0 := frozen_of_row w1 (W.heap.size + 1) 0 _ _ H31.out.b
  go_wp2_with fail
  refine C2.out.mono ?_
  rintro e w2 ⟨rfl, hq⟩
  have h32 := H31.out.save hq.2 HG.out
  have HS := hid (three_seth (JQ.trans HJ1.out hq) h32 HG.out n1 d1)
  have f0 := frozen_of_row w2 (W.heap.size + 1) 0 _ _ h32.b
  have f1 := frozen_of_row w2 (W.heap.size + 1) 1 _ _ h32.b
  have b0 := cell_of_row w2 (W.heap.size + 1) 0 _ _ _ h32.b
  have b1 := cell_of_row w2 (W.heap.size + 1) 1 _ _ _ h32.b
  simp at b0 b1
  have C3 := hid (CP.out _ ⟨n1, d1⟩ j2 k HS.out.1.1 hk hn1)
  rw [hP2] at C3
  dsimp only at C3
  clear hq h32 C2 H31 HJ1 CP
  go_wp2_with fail
  refine C3.out.mono ?_
  rintro e w3 ⟨rfl, hq⟩
  have h33 := HS.out.2.save hq.2 HG.out
  have hj3 := JQ.trans HS.out.1 hq
  have HE := hid (show ∀ y, _ from fun y => by
    obtain ⟨a1, a2⟩ := three_seth hj3 h33 HG.out n2 d2
    obtain ⟨a3, a4⟩ := three_set1 a1 a2 HG.out y
    exact three_end a3 a4 HG.out (.int .i64 y) (.bool d2))
  have g0 := frozen_of_row w3 (W.heap.size + 1) 0 _ _ h33.b
  have g1 := frozen_of_row w3 (W.heap.size + 1) 1 _ _ h33.b
  have b0 := cell_of_row w3 (W.heap.size + 1) 0 _ _ _ h33.b
  have b1 := cell_of_row w3 (W.heap.size + 1) 1 _ _ _ h33.b
  have z0 := cell_of_row w3 (W.heap.size + 1 + 1) 0 _ _ _ h33.c
  have z1 := cell_of_row w3 (W.heap.size + 1 + 1) 1 _ _ _ h33.c
  have t0 := frozen_of_row w3 (W.heap.size + 1 + 1) 0 _ _ h33.c
  have t1' := frozen_of_row w3 (W.heap.size + 1 + 1) 1 _ _ h33.c
  simp at b0 b1 z0 z1
  obtain ⟨u0, u1⟩ := hn2
  obtain ⟨u2, u3⟩ := hk
  clear hq h33 hj3 C3 HS hP1 hP2 hn1 hh f0 f1
  go_wp2
  obtain ⟨q1, q2⟩ := HE.out (n2 + k)
  exact bodyPost_ret (results_cell_row Tryz.results290 _ _ (W.heap.size + 1 + 1) _ _ _ _ rfl q2 Tryz.underlying312 rfl (by kernel_rfl)) rfl ⟨rfl, q1⟩
end Go.Proofs.YtdljneclfgneoaaGreatDoor.Val
