/-
  BODY: BodyCut.
-/
import Derived.Test.YtcjamlgdidiaeaaDoorBodyAwake
import Derived.Test.YtcjamlgdidiaeaaDoorBodyPlain
import Derived.Test.YtcjamlgdidiaeaaDoorInstrOpen
import Derived.Test.YtcjamlgdidiaeaaDoorInstrKit
import Derived.Test.YtcjamlgdidiaeaaDoorInstrPick
namespace Go.Proofs.YtcjamlgdidiaeaaDoor.Body
open Go.RowKit Go.Proofs.YtcjamlgdidiaeaaDoor.Instr Go.Proofs.YtcjamlgdidiaeaaDoor.Leb
open Go.Proofs.YtcjamlgdidiaeaaDoor.Kind (startR)

theorem tags_len (l : List Int) : (l.flatMap encU).length ≤ 5 * l.length := by
  induction l with
  | nil => simp
  | cons n l ih =>
    simp only [List.flatMap_cons, List.length_append, List.length_cons]
    have := (encU_lens n).1
    omega
theorem rest_len (x : Ix) : (encRest x).length ≤ 10 + 5 * x.tags.length := by
  have ha := (encU_lens x.a).1
  have hb := (encU_lens x.b).1
  have hn := (encS_lens x.n).1
  have ht := (encU_lens (x.tags.length : Int)).1
  have hl := tags_len x.tags
  unfold encRest encTags
  split <;> (try simp only [List.length_append, List.length_cons, List.length_nil]) <;> omega
theorem encL_len : ∀ t : Il, (encL t).length ≤ 13 * t.weight
  | .nil => by simp [encL]
  | .cons x l e r => by
    have h0 := rest_len x
    have h1 := encL_len l
    have h2 := encL_len e
    have h3 := encL_len r
    simp only [encL, Il.weight]
    split <;> (try split) <;> simp only [List.length_append, List.length_cons, List.length_nil] <;> omega
theorem rest_bytes {x : Ix} (_hx : May x) : ∀ z ∈ encRest x, 0 ≤ z ∧ z < 256 := by
  intro z hz
  unfold encRest encTags at hz
  split at hz
  · split at hz <;> simp at hz <;> omega
  · exact encU_bytes _ z hz
  · rcases List.mem_append.1 hz with h | h
    · exact encU_bytes _ z h
    · simp at h; omega
  · rcases List.mem_append.1 hz with h | h
    · rcases List.mem_append.1 h with h | h
      · exact encU_bytes _ z h
      · obtain ⟨n, _, hn⟩ := List.mem_flatMap.1 h
        exact encU_bytes _ z hn
    · exact encU_bytes _ z h
  · rcases List.mem_append.1 hz with h | h
    · exact encU_bytes _ z h
    · exact encU_bytes _ z h
  · simp at hz; omega
  · exact encS_bytes _ z hz
  · simp at hz
theorem encL_bytes : ∀ t : Il, MayT t → ∀ z ∈ encL t, 0 ≤ z ∧ z < 256
  | .nil, _ => by simp [encL]
  | .cons x l e r, ⟨hx, _, _, hl, he, hr⟩ => by
    have h0 := rest_bytes hx
    have h1 := encL_bytes l hl
    have h2 := encL_bytes e he
    have h3 := encL_bytes r hr
    have hop := name_range ((lawful_iff x).1 hx.law).1
    intro z hz
    simp only [encL] at hz
    rcases List.mem_cons.1 hz with rfl | hz
    · omega
    · rcases List.mem_append.1 hz with h | h
      · exact h0 z h
      · rcases List.mem_append.1 h with h | h
        · split at h
          · rcases List.mem_append.1 h with h | h
            · exact h1 z h
            · rcases List.mem_append.1 h with h | h
              · split at h
                · simp at h
                · rcases List.mem_cons.1 h with rfl | h
                  · omega
                  · exact h2 z h
              · simp at h; omega
          · simp at h
        · exact h3 z h
theorem encP_bytes {t : Il} (h : MayT t) : ∀ z ∈ encP t, 0 ≤ z ∧ z < 256 := by
  intro z hz
  rcases List.mem_append.1 hz with hz | hz
  · exact encL_bytes t h z hz
  · simp at hz; omega
theorem start_zero (zs : List Int) : startR zs 0 = (0, 0, 0) := by unfold startR; rw [if_neg (by omega)]
/-- What is got of the first so many bytes. -/
theorem get_cut {t : Il} (hm : MayT t) (hd : t.deep ≤ 900) (hc : t.count ≤ 262144) {n : Nat} (hn : n < (encP t).length) : ∃ q, getQ ((encP t).take n) 0 = (0, (q, 4, (n : Int)), .nil) := by
  have h := list_cut ((encP t).take n) t 1 false 0 0 ((encP t).drop n) hm (by omega) (by omega) (Nat.zero_le _) (by
    intro h
    have := congrArg List.length h
    simp at this
    omega) (by rw [List.drop_zero, List.take_append_drop]; rfl)
  have hs : Short ((encP t).take n) (getP ((encP t).take n) 0).s := by unfold getP; rw [start_zero]; exact h
  have hb := hs.bad
  unfold getQ
  rw [if_neg hb]
  obtain ⟨h4, h5⟩ := hs
  rw [List.length_take, Nat.min_eq_left (by omega)] at h5
  refine ⟨(getP ((encP t).take n) 0).s.1, ?_⟩
  rw [← h4, ← h5]
theorem Bytes.take {w : World} {a : Option Addr} {zs : List Int} (h : Bytes w a zs) (k : Nat) : Bytes w a (zs.take k) := by
  refine ⟨fun z hz => h.byte z (List.mem_of_mem_take hz), by have := h.size; rw [List.length_take]; omega, ?_⟩
  rcases h.at_ with rfl | ⟨b, off, ha, hc⟩
  · exact .inl (by simp)
  · refine .inr ⟨b, off, ha, fun i hi => ?_⟩
    rw [List.length_take] at hi
    rw [hc i (by omega)]
    simp [List.getD, show i < k by omega]
theorem own_caps {B n c : Nat} {w : World} {a : Option Addr} {zs : List Int} (h : Own B w (.slice a n c) zs) : n ≤ c := by
  rcases h.2 with ⟨h', _⟩ | ⟨g, c', cur, h', _, _, h1, _⟩
  · simp only [Value.slice.injEq] at h'
    omega
  · simp only [Value.slice.injEq] at h'
    omega

set_option maxRecDepth 100000 in
set_option maxHeartbeats 1600000 in
theorem cut_go (w : World) (a : Option Addr) (len cap : Nat) (t : Il) (hl : ListAt w.heap.size w a len t) (hx : len ≤ 140737488351232) (i : Int) (hT : Nams w) (hg : t.go 0 2000 ≤ 2000) (h0 : checkP t = 0) :
    Calls Tryd.prog 7 #[.slice a len cap, .int .i64 i] w fun e w' => e = .returned (.bool true) ∧ Below w.heap.size w w' := by
  have hw := (go_bounds t 0 2000 (by omega) (by omega) (by omega)).2.2 hg
  have hlen := encL_len t
  have hwc := weight_count t
  have hm := mayT_list hl h0
  obtain ⟨_, hcnt, hdp, _⟩ := check_parts h0
  have PC := hid (fun w' (hb : Below w.heap.size w w') => Put_any t a len cap w' (hl.on hb) hx (hT.below hb) (by omega) (by omega))
  have IC := hid (fun w' (hb : Below w.heap.size w w') => Instrs_any t.count t a len cap 2000 w' (Nat.le_refl _) (hl.on hb) hx (by omega) (by omega))
  have GC := hid (fun n hn => get_cut hm hdp hcnt (n := n) hn)
  have HB := hid (encP_bytes hm)
  have hpl : (encP t).length = (encL t).length + 1 := by simp [encP]
  have hput : putB t = encP t := by unfold putB; rw [if_pos h0]
  obtain ⟨zs, hzs⟩ : ∃ zs, encP t = zs := ⟨_, rfl⟩
  rw [hput, h0, hzs] at PC
  rw [hzs] at GC HB hpl
  obtain ⟨L, hL⟩ : ∃ L, zs.length = L := ⟨_, rfl⟩
  rw [hL] at hpl
  have hL1 : 1 ≤ L := by omega
  have hL2 : L ≤ 1000000 := by omega
  obtain ⟨g, hgg⟩ : ∃ g, t.go 0 2000 = g := ⟨_, rfl⟩
  rw [hgg] at IC hg
  have HL := hid hL
  have HT := hid hT
  clear hw hlen hwc hm hcnt hdp hpl hput hzs hL hgg h0 hl hx hT
  go_enter Tryd.func7, Tryd.ntmps7
  go_wp2_with fail
  refine (awake_any w HT.out).mono ?_
  rintro e w1 ⟨rfl, hb1⟩
  have HB1 := hid hb1
  clear hb1
  go_wp2_with fail
  refine (IC.out w1 HB1.out).mono ?_
  clear IC
  rintro e w2 ⟨rfl, rfl⟩
  go_wp2_with fail
  refine (PC.out w1 HB1.out).mono ?_
  clear PC
  rintro e w2 ⟨v, rfl, ho, hb2⟩
  obtain ⟨a2, c2, rfl⟩ := ho.sliceN (n := L) HL.out
  have hcap := own_caps ho
  have HB2 := hid (HB1.out.trans (hb2.mono HB1.out.size))
  have HZ := hid (ho.bytes HB.out (by have := HL.out; omega))
  have hL3 : ¬ (L : Int) = 0 := by omega
  have PK := hid (Pick_any i (L : Int) (by omega) (by omega) w2)
  clear hb2 ho HB1 HB
  go_wp2_with fail
  refine PK.out.mono ?_
  clear PK
  rintro e w3 ⟨⟨m, rfl, hm0, hm1⟩, rfl⟩
  obtain ⟨k, rfl⟩ := Int.eq_ofNat_of_zero_le hm0
  have hk1 : k < L := by omega
  have hk2 : k ≤ c2 := by omega
  obtain ⟨q, hq⟩ := GC.out k (by have := HL.out; omega)
  have G0 := Get_any a2 k c2 (zs.take k) 0 w2 (by have := HL.out; rw [List.length_take]; omega) (Bytes.take HZ.out k) (HT.out.below HB2.out)
  rw [hq] at G0
  have G1 := hid G0
  clear G0 hq GC HZ HL hm0 hm1
  go_wp2_with fail
  refine G1.out.mono ?_
  clear G1
  rintro e w4 ⟨a4, n4, c4, t4, rfl, hb4, _, _⟩
  have HB4 := hid (HB2.out.trans (hb4.mono HB2.out.size))
  clear hb4 HB2
  go_wp2
  go_ret
  exact ⟨rfl, thenA HB4.out _⟩

set_option maxRecDepth 100000 in
set_option maxHeartbeats 1600000 in
theorem cut_no (w : World) (a : Option Addr) (len cap : Nat) (t : Il) (hl : ListAt w.heap.size w a len t) (hx : len ≤ 140737488351232) (i : Int) (hT : Nams w) (hg : t.go 0 2000 ≤ 2000) (h0 : checkP t ≠ 0) :
    Calls Tryd.prog 7 #[.slice a len cap, .int .i64 i] w fun e w' => e = .returned (.bool true) ∧ Below w.heap.size w w' := by
  have hw := (go_bounds t 0 2000 (by omega) (by omega) (by omega)).2.2 hg
  have hlen := encL_len t
  have hwc := weight_count t
  have PC := hid (fun w' (hb : Below w.heap.size w w') => Put_any t a len cap w' (hl.on hb) hx (hT.below hb) (by omega) (by omega))
  have IC := hid (fun w' (hb : Below w.heap.size w w') => Instrs_any t.count t a len cap 2000 w' (Nat.le_refl _) (hl.on hb) hx (by omega) (by omega))
  have hput : putB t = [] := by unfold putB; rw [if_neg h0]
  rw [hput] at PC
  obtain ⟨q, hq⟩ : ∃ q, checkP t = q := ⟨_, rfl⟩
  rw [hq] at PC h0
  obtain ⟨g, hgg⟩ : ∃ g, t.go 0 2000 = g := ⟨_, rfl⟩
  rw [hgg] at IC hg
  have HT := hid hT
  clear hw hlen hwc hput hgg hl hx hT hq
  go_enter Tryd.func7, Tryd.ntmps7
  go_wp2_with fail
  refine (awake_any w HT.out).mono ?_
  rintro e w1 ⟨rfl, hb1⟩
  have HB1 := hid hb1
  clear hb1
  go_wp2_with fail
  refine (IC.out w1 HB1.out).mono ?_
  clear IC
  rintro e w2 ⟨rfl, rfl⟩
  go_wp2_with fail
  refine (PC.out w1 HB1.out).mono ?_
  clear PC
  rintro e w2 ⟨v, rfl, ho, hb2⟩
  obtain ⟨a2, c2, rfl⟩ := ho.sliceN (n := 0) rfl
  have HB2 := hid (HB1.out.trans (hb2.mono HB1.out.size))
  clear hb2 ho HB1
  go_wp2
  go_ret
  exact ⟨rfl, HB2.out⟩

set_option maxRecDepth 100000 in
set_option maxHeartbeats 1600000 in
theorem cut_big (w : World) (a : Option Addr) (len cap : Nat) (t : Il) (hl : ListAt w.heap.size w a len t) (hx : len ≤ 140737488351232) (i : Int) (hT : Nams w) (hg : ¬ t.go 0 2000 ≤ 2000) :
    Calls Tryd.prog 7 #[.slice a len cap, .int .i64 i] w fun e w' => e = .returned (.bool true) ∧ Below w.heap.size w w' := by
  have IC := hid (fun w' (hb : Below w.heap.size w w') => Instrs_any t.count t a len cap 2000 w' (Nat.le_refl _) (hl.on hb) hx (by omega) (by omega))
  obtain ⟨g, hgg⟩ : ∃ g, t.go 0 2000 = g := ⟨_, rfl⟩
  rw [hgg] at IC hg
  have hg2 : 2000 < g := by omega
  have HT := hid hT
  clear hgg hl hx hT hg
  go_enter Tryd.func7, Tryd.ntmps7
  go_wp2_with fail
  refine (awake_any w HT.out).mono ?_
  rintro e w1 ⟨rfl, hb1⟩
  have HB1 := hid hb1
  clear hb1
  go_wp2_with fail
  refine (IC.out w1 HB1.out).mono ?_
  clear IC
  rintro e w2 ⟨rfl, rfl⟩
  go_wp2
  go_ret
  exact ⟨rfl, HB1.out⟩
end Go.Proofs.YtcjamlgdidiaeaaDoor.Body
namespace Go.Proofs.YtcjamlgdidiaeaaDoor
open Go.RowKit Go.Proofs.YtcjamlgdidiaeaaDoor.Instr Go.Proofs.YtcjamlgdidiaeaaDoor.Body
theorem bodyCut_walk (w : World) (a : Option Addr) (len cap : Nat) (t : Il) (hl : ListAt w.heap.size w a len t) (_hc : len ≤ cap) (hx : len ≤ 140737488351232) (i : Int) (_hi : -9223372036854775808 ≤ i ∧ i ≤ 9223372036854775807) (hT : Nams w) :
    Calls Tryd.prog 7 #[.slice a len cap, .int .i64 i] w fun e w' => e = .returned (.bool true) ∧ Below w.heap.size w w' := by
  by_cases hg : t.go 0 2000 ≤ 2000
  · by_cases h0 : checkP t = 0
    · exact cut_go w a len cap t hl hx i hT hg h0
    · exact cut_no w a len cap t hl hx i hT hg h0
  · exact cut_big w a len cap t hl hx i hT hg
end Go.Proofs.YtcjamlgdidiaeaaDoor
