/-
  BODY: the code of a function, written and read again (plain).
-/
import Derived.Test.YtcjamlgdidiaeaaDoorBodyCodeG
namespace Go.Proofs.YtcjamlgdidiaeaaDoor.Body
open Go.Proofs.YtcjamlgdidiaeaaDoor.Instr Go.Proofs.YtcjamlgdidiaeaaDoor.Leb
open Go.Proofs.YtcjamlgdidiaeaaDoor.Kind (Rd numR refuseR startR)

theorem loc_there {zs r : List Int} {p : Nat} {n : Int} (h0 : 0 ≤ n) (h1 : n ≤ 50000) (h : zs.drop p = locL n ++ r) : locR zs ((p : Int), 0, 0) = (n, ((p + (locL n).length : Nat) : Int), 0, 0) := by
  unfold locR
  by_cases hn : n = 0
  · subst hn
    have hl : locL 0 = encU 0 := by unfold locL; rw [if_pos rfl]; exact (encU_last (by omega) (by omega)).symm
    rw [hl] at h ⊢
    rw [numR_at (by omega) (by omega) h]
    rfl
  · have hl : locL n = encU 1 ++ (encU n ++ [127]) := by unfold locL; rw [if_neg hn, show encU 1 = [1] from encU_last (by omega) (by omega)]; rfl
    rw [hl] at h ⊢
    rw [List.append_assoc] at h
    rw [numR_at (by omega) (by omega) h]
    have hp1 := at_app h
    rw [List.append_assoc] at hp1
    have hp2 := at_app hp1
    have hn1 := numR_at h0 (by omega) hp1
    have ht := tagR_at (ok := isWord) (c := 127) (by decide) hp2
    have hg : grpR zs 0 (((p + (encU 1).length : Nat) : Int), 0, 0) = (((p + (encU 1).length + (encU n).length + 1 : Nat) : Int), 0, 0) := by
      unfold grpR
      rw [hn1]
      dsimp only
      rw [if_neg (by omega), ht]
    show groupsR zs 1 0 _ = _
    rw [groupsR_succ, hg, hn1]
    dsimp only
    rw [if_pos rfl]
    show (0 + n, _) = _
    simp only [List.length_append, List.length_cons, List.length_nil, Int.zero_add, Prod.mk.injEq, and_true, true_and]
    omega
/-- What was written is read. -/
theorem code_there {zs r : List Int} {p : Nat} {n : Int} {t : Il} (hp : p ≤ zs.length) (h0 : 0 ≤ n) (h1 : n ≤ 50000) (hm : MayT t) (hd : t.deep ≤ 900) (hc : t.count ≤ 262144) (h : zs.drop p = codeL n t ++ r) :
    codeQ zs p = (n, ((p + (codeL n t).length : Nat) : Int), (((p + (codeL n t).length : Nat) : Int), 0, 0), t.bare) := by
  have hs : startR zs p = ((p : Int), 0, 0) := by unfold startR; rw [if_neg (by omega)]
  have hlen : (codeL n t).length = (locL n).length + (encL t).length + 1 := by unfold codeL encP; simp only [List.length_append, List.length_cons, List.length_nil]; omega
  unfold codeL encP at h
  rw [List.append_assoc, List.append_assoc] at h
  have hl := loc_there h0 h1 h
  have hp1 := at_app h
  have hle : p + (locL n).length ≤ zs.length := at_le h (by unfold locL; split <;> simp)
  have e1 := there zs t 1 false 0 _ _ hm (by omega) (by omega) hle hp1
  have hp2 := at_app hp1
  have hle2 : p + (locL n).length + (encL t).length ≤ zs.length := by
    by_cases hne : encL t = []
    · rw [hne]; simpa using hle
    · exact at_le hp1 hne
  rw [listF_end hp2] at e1
  have hc2 : (codeP zs p).s = (((p + (codeL n t).length : Nat) : Int), 0, 0) ∧ (codeP zs p).t = t.bare := by
    unfold codeP
    rw [hs, hl]
    dsimp only
    rw [e1]
    refine ⟨?_, ?_⟩
    · simp only [Lr.pre, Prod.mk.injEq, and_true]
      omega
    · simp only [Lr.pre]
      exact app_nil _
  unfold codeQ
  rw [hc2.1, hc2.2, if_pos rfl, hs, hl]

theorem numR_good' {zs : List Int} {s : Rd} (h : Kind.Good zs s) : Kind.Good zs (numR zs s).2 := Kind.numR_good h
theorem refuseR_good' {zs : List Int} {s : Rd} {f : Int} (h : Kind.Good zs s) : Kind.Good zs (refuseR s 141 f) := Kind.refuseR_good (by decide) h
theorem size_add {a b : Int} (h0 : 0 ≤ a) (h1 : a ≤ 50000) (h2 : 0 ≤ b) (h3 : b ≤ 50000) : sizeU (a + b) ≤ sizeU a + sizeU b := by
  unfold sizeU
  (repeat' split) <;> omega
theorem grp_fit {zs : List Int} (hz : ∀ c ∈ zs, 0 ≤ c ∧ c < 256) {tot : Int} {s : Rd} (hg : Kind.Good zs s) (h : (grpR zs tot s).2.1 = 0) :
    s.2.1 = 0 ∧ 0 ≤ (numR zs s).1 ∧ tot + (numR zs s).1 ≤ 50000 ∧ (sizeU (numR zs s).1 : Int) + 1 ≤ (grpR zs tot s).1 - s.1 := by
  unfold grpR at h ⊢
  by_cases hb : 50000 - tot < (numR zs s).1
  · rw [if_pos hb] at h
    have h2 := (tagR_fit (refuseR_good' (numR_good' hg)) h).1
    exact absurd h2 (refuse_is_bad (by decide))
  · rw [if_neg hb] at h ⊢
    obtain ⟨a1, a2⟩ := tagR_fit (numR_good' hg) h
    obtain ⟨b1, b2, b3, _⟩ := numR_fit hz a1
    rw [encU_length] at b2
    exact ⟨b1, b3, by omega, by omega⟩
theorem groups_fit {zs : List Int} (hz : ∀ c ∈ zs, 0 ≤ c ∧ c < 256) : ∀ (k : Nat) (tot : Int) (s : Rd), Kind.Good zs s → 0 ≤ tot → tot ≤ 50000 → (groupsR zs k tot s).2.2.1 = 0 →
    s.2.1 = 0 ∧ 0 ≤ (groupsR zs k tot s).1 ∧ (groupsR zs k tot s).1 ≤ 50000 ∧ (sizeU (groupsR zs k tot s).1 : Int) - sizeU tot ≤ (groupsR zs k tot s).2.1 - s.1
  | 0, tot, s, _, h0, h1, h => ⟨h, h0, h1, by simp [groupsR]⟩
  | k + 1, tot, s, hg, h0, h1, h => by
    rw [groupsR_succ] at h ⊢
    by_cases hb : (grpR zs tot s).2.1 = 0
    · rw [if_pos hb] at h ⊢
      obtain ⟨a1, a2, a3, a4⟩ := grp_fit hz hg hb
      have hg2 : Kind.Good zs (grpR zs tot s) := by
        unfold grpR
        refine tagR_good ?_
        split
        · exact refuseR_good' (numR_good' hg)
        · exact numR_good' hg
      obtain ⟨b1, b2, b3, b4⟩ := groups_fit hz k _ _ hg2 (by omega) a3 h
      have := size_add h0 h1 a2 (by omega)
      exact ⟨a1, b2, b3, by omega⟩
    · rw [if_neg hb] at h
      exact absurd h hb
theorem loc_fit {zs : List Int} (hz : ∀ c ∈ zs, 0 ≤ c ∧ c < 256) {s : Rd} (hg : Kind.Good zs s) (h : (locR zs s).2.2.1 = 0) :
    s.2.1 = 0 ∧ 0 ≤ (locR zs s).1 ∧ (locR zs s).1 ≤ 50000 ∧ ((locL (locR zs s).1).length : Int) ≤ (locR zs s).2.1 - s.1 := by
  unfold locR at h ⊢
  have hg1 := numR_good' hg
  have hpos := fun n : Int => (sizeU_pos n).1
  obtain ⟨k, hk⟩ : ∃ k, (numR zs s).1.toNat = k := ⟨_, rfl⟩
  rw [hk] at h ⊢
  cases k with
  | zero =>
    have h' : (numR zs s).2.2.1 = 0 := h
    obtain ⟨b1, b2, b3, _⟩ := numR_fit hz h'
    rw [encU_length] at b2
    have := hpos (numR zs s).1
    refine ⟨b1, by simp [groupsR], by simp [groupsR], ?_⟩
    show ((locL 0).length : Int) ≤ (numR zs s).2.1 - s.1
    simp only [locL, if_true, List.length_cons, List.length_nil]
    omega
  | succ k =>
    rw [groupsR_succ] at h ⊢
    by_cases hb : (grpR zs 0 (numR zs s).2).2.1 = 0
    · rw [if_pos hb] at h ⊢
      obtain ⟨a1, a2, a3, a4⟩ := grp_fit hz hg1 hb
      obtain ⟨b1, b2, b3, _⟩ := numR_fit hz a1
      rw [encU_length] at b2
      have := hpos (numR zs s).1
      have hg2 : Kind.Good zs (grpR zs 0 (numR zs s).2) := by
        unfold grpR
        refine tagR_good ?_
        split
        · exact refuseR_good' (numR_good' hg1)
        · exact numR_good' hg1
      obtain ⟨c1, c2, c3, c4⟩ := groups_fit hz k _ _ hg2 (by omega) a3 h
      refine ⟨b1, c2, c3, ?_⟩
      obtain ⟨T, hT⟩ : ∃ T, (groupsR zs k (0 + (numR zs (numR zs s).2).1) (grpR zs 0 (numR zs s).2)).1 = T := ⟨_, rfl⟩
      rw [hT] at c4 ⊢
      have hl : ((locL T).length : Int) ≤ 2 + sizeU T := by
        unfold locL
        split
        · have := hpos T; simp; omega
        · simp [encU_length]; omega
      rw [Int.zero_add] at c4
      rw [Int.zero_add]
      omega
    · rw [if_neg hb] at h
      exact absurd h hb
theorem may_all : ∀ t : Il, MayT t → t.all = true ∧ t.tags = false
  | .nil, _ => ⟨rfl, rfl⟩
  | .cons x l e r, ⟨hx, _, _, hl, he, hr⟩ => by
    obtain ⟨l1, l2⟩ := may_all l hl
    obtain ⟨e1, e2⟩ := may_all e he
    obtain ⟨r1, r2⟩ := may_all r hr
    refine ⟨by simp [Il.all, hx.law, l1, e1, r1], ?_⟩
    have := hx.few
    simp only [Il.tags, l2, e2, r2, Bool.or_false, decide_eq_false_iff_not]
    omega
theorem check_of {t : Il} (h : MayT t) (hc : t.count ≤ 262144) (hd : t.deep ≤ 900) : checkP t = 0 := by
  obtain ⟨h1, h2⟩ := may_all t h
  unfold checkP
  rw [if_pos h1, if_neg (by rintro (h | h | h) <;> first | omega | simp [h2] at h)]
/-- What was read may be written, in no more bytes. -/
theorem code_back {zs : List Int} (hz : ∀ c ∈ zs, 0 ≤ c ∧ c < 256) (h : (codeP zs 0).s.2.1 = 0) :
    0 ≤ (codeQ zs 0).1 ∧ (codeQ zs 0).1 ≤ 50000 ∧ MayT (codeP zs 0).t ∧ checkP (codeP zs 0).t = 0 ∧ ((codeL (codeQ zs 0).1 (codeP zs 0).t).length : Int) ≤ (codeP zs 0).s.1 ∧ (codeP zs 0).t.bare = (codeP zs 0).t := by
  have hs : startR zs 0 = (0, 0, 0) := by unfold startR; rw [if_neg (by omega)]
  have hg0 : Kind.Good zs ((0 : Int), 0, 0) := good_at (zs := zs) (p := 0) (Nat.zero_le _)
  unfold codeQ
  rw [if_pos h]
  unfold codeP at h ⊢
  rw [hs] at h ⊢
  have hgl := locR_good hg0
  have hls := ((listF_fine zs 1 false 0 _ hgl).2 h).1
  obtain ⟨l1, l2, l3, l4⟩ := loc_fit hz hg0 hls
  obtain ⟨f1, f2, f3, f4, f5, f6⟩ := list_back hz hgl h
  have hcd : (listF zs 1 false 0 (locR zs ((0 : Int), 0, 0)).2).t.count ≤ 262144 ∧ (listF zs 1 false 0 (locR zs ((0 : Int), 0, 0)).2).t.deep ≤ 900 := by
    rcases f4 with f4 | f4
    · rw [f4]; exact ⟨by simp [Il.count], by simp [Il.deep]⟩
    · constructor <;> omega
  refine ⟨l2, l3, f1, check_of f1 hcd.1 hcd.2, ?_, f2⟩
  dsimp only at l4
  unfold codeL encP
  simp only [List.length_append, List.length_cons, List.length_nil]
  omega
end Go.Proofs.YtcjamlgdidiaeaaDoor.Body
