/-
  BODY: PutCode, by contract.
-/
import Derived.Test.YtlfflomeaplidaaDoorBodyPutC
import Derived.Test.YtlfflomeaplidaaDoorKindCat
import Derived.Test.YtlfflomeaplidaaDoorLebPut
namespace Go.Proofs.YtlfflomeaplidaaDoor.Body
open Go.RowKit Go.Proofs.YtlfflomeaplidaaDoor.Instr Go.Proofs.YtlfflomeaplidaaDoor.Leb
open Go.Proofs.YtlfflomeaplidaaDoor.Kind (Parts concat_any)

theorem parts3 {w : World} {g : Nat} (hg : g = w.heap.size) {a0 a1 a2 : Option Addr} {n0 n1 n2 c0 c1 c2 : Nat} {t : TypeId} {l0 l1 l2 : List Int} (h0 : Bytes w a0 l0) (h1 : Bytes w a1 l1) (h2 : Bytes w a2 l2) (k0 : l0.length = n0) (k1 : l1.length = n1) (k2 : l2.length = n2)
    (m0 : a0 = none → c0 = 0) (m1 : a1 = none → c1 = 0) (m2 : a2 = none → c2 = 0) : Parts (w.alloc (.cells #[.slice a0 n0 c0, .slice a1 n1 c1, .slice a2 n2 c2] t)) g [l0, l1, l2] := by
  subst hg
  intro j hj
  match j, hj with
  | 0, _ => exact ⟨a0, c0, by subst k0; go_simp, h0.alloc _, m0⟩
  | 1, _ => exact ⟨a1, c1, by subst k1; go_simp, h1.alloc _, m1⟩
  | 2, _ => exact ⟨a2, c2, by subst k2; go_simp, h2.alloc _, m2⟩
theorem parts2 {w : World} {g : Nat} (hg : g = w.heap.size) {a0 a1 : Option Addr} {n0 n1 c0 c1 : Nat} {t : TypeId} {l0 l1 : List Int} (h0 : Bytes w a0 l0) (h1 : Bytes w a1 l1) (k0 : l0.length = n0) (k1 : l1.length = n1)
    (m0 : a0 = none → c0 = 0) (m1 : a1 = none → c1 = 0) : Parts (w.alloc (.cells #[.slice a0 n0 c0, .slice a1 n1 c1] t)) g [l0, l1] := by
  subst hg
  intro j hj
  match j, hj with
  | 0, _ => exact ⟨a0, c0, by subst k0; go_simp, h0.alloc _, m0⟩
  | 1, _ => exact ⟨a1, c1, by subst k1; go_simp, h1.alloc _, m1⟩
theorem made_one (w : World) (e : TypeId) (g : Nat) (hg : g = w.heap.size) : Bytes (w.alloc (.cells #[.int .u8 127] e)) (some ⟨g, 0, none⟩) [127] := by
  subst hg
  refine ⟨by simp, by simp, .inr ⟨w.heap.size, 0, rfl, fun i hi => ?_⟩⟩
  obtain rfl : i = 0 := by simpa using hi
  simp [go_sem]
theorem loc_flat {n : Int} (h : n ≠ 0) : [encU 1, encU n, [127]].flatten = locL n := by unfold locL; rw [if_neg h]; simp [show encU 1 = [1] from encU_last (by omega) (by omega)]
theorem loc_len (n : Int) : (locL n).length ≤ 7 ∧ locL n ≠ [] := by
  have := (encU_lens n).1
  unfold locL
  split <;> simp; omega
theorem loc_bytes (n : Int) : ∀ z ∈ locL n, 0 ≤ z ∧ z < 256 := by
  intro z hz
  unfold locL at hz
  split at hz
  · simp at hz; omega
  · rcases List.mem_cons.1 hz with rfl | hz
    · omega
    · rcases List.mem_append.1 hz with h | h
      · exact encU_bytes _ z h
      · simp at h; omega

theorem rest_bytesC {x : Ix} (_hx : May x) : ∀ z ∈ encRest x, 0 ≤ z ∧ z < 256 := by
  intro z hz
  unfold encRest encTags at hz
  split at hz
  · split at hz <;> simp at hz <;> omega
  · exact encU_bytes _ z hz
  · rcases List.mem_append.1 hz with h | h
    · exact encU_bytes _ z h
    · simp at h; omega
  · rcases List.mem_append.1 hz with h | h
    · rcases List.mem_append.1 h with h | h
      · exact encU_bytes _ z h
      · obtain ⟨n, _, hn⟩ := List.mem_flatMap.1 h
        exact encU_bytes _ z hn
    · exact encU_bytes _ z h
  · rcases List.mem_append.1 hz with h | h
    · exact encU_bytes _ z h
    · exact encU_bytes _ z h
  · simp at hz; omega
  · exact encS_bytes _ z hz
  · simp at hz
theorem encL_bytesC : ∀ t : Il, MayT t → ∀ z ∈ encL t, 0 ≤ z ∧ z < 256
  | .nil, _ => by simp [encL]
  | .cons x l e r, ⟨hx, _, _, hl, he, hr⟩ => by
    have h0 := rest_bytesC hx
    have h1 := encL_bytesC l hl
    have h2 := encL_bytesC e he
    have h3 := encL_bytesC r hr
    have hop := name_range ((lawful_iff x).1 hx.law).1
    intro z hz
    simp only [encL] at hz
    rcases List.mem_cons.1 hz with rfl | hz
    · omega
    · rcases List.mem_append.1 hz with h | h
      · exact h0 z h
      · rcases List.mem_append.1 h with h | h
        · split at h
          · rcases List.mem_append.1 h with h | h
            · exact h1 z h
            · rcases List.mem_append.1 h with h | h
              · split at h
                · simp at h
                · rcases List.mem_cons.1 h with rfl | h
                  · omega
                  · exact h2 z h
              · simp at h; omega
          · simp at h
        · exact h3 z h
theorem encP_bytesC {t : Il} (h : MayT t) : ∀ z ∈ encP t, 0 ≤ z ∧ z < 256 := by
  intro z hz
  rcases List.mem_append.1 hz with hz | hz
  · exact encL_bytesC t h z hz
  · simp at hz; omega
theorem alloc_below' (w : World) (o : Obj) : Below w.heap.size w (w.alloc o) := (Below.refl _ _).alloc (Nat.le_refl _) o

set_option maxHeartbeats 1600000 in
theorem putLocals_any (n : Int) (h0 : 0 ≤ n) (h1 : n < 4294967296) (w : World) : Calls Tryd.prog 26 #[.int .u32 n] w (Gives w (locL n)) := by
  by_cases hn : n = 0
  · subst hn
    have HE : Hid (encU 0 = locL 0) := hid (show encU 0 = locL 0 by unfold locL; rw [if_pos rfl]; exact encU_last (by omega) (by omega))
    go_enter Tryd.func26, Tryd.ntmps26
    go_wp2_with fail
    refine (putU_any 0 _ (by omega) (by omega)).mono ?_
    rw [HE.out]
    rintro e w1 ⟨v, rfl, ho, hb⟩
    go_wp2
    go_ret
    exact ⟨_, rfl, ho, hb⟩
  · have HF := hid (loc_flat hn)
    have HL := hid (loc_len n)
    have l0 := (encU_lens 1).1
    have l1 := (encU_lens n).1
    go_enter Tryd.func26, Tryd.ntmps26
    go_wp2_with fail
    refine (putU_any 1 _ (by omega) (by omega)).mono ?_
    rintro e w1 ⟨v1, rfl, ho1, hb1⟩
    obtain ⟨m1, hm1⟩ : ∃ m, (encU 1).length = m := ⟨_, rfl⟩
    obtain ⟨a1, c1, rfl⟩ := ho1.sliceN hm1
    have y1 := ho1.bytes (encU_bytes 1) (by omega)
    have HN1 := ho1.nil
    have HB1 := hid hb1
    have HM1 := hid hm1
    have HY1 := hid y1
    clear ho1 hb1 hm1 y1
    go_wp2_with fail
    refine (putU_any n _ (by omega) (by omega)).mono ?_
    rintro e w2 ⟨v2, rfl, ho2, hb2⟩
    obtain ⟨m2, hm2⟩ : ∃ m, (encU n).length = m := ⟨_, rfl⟩
    obtain ⟨a2, c2, rfl⟩ := ho2.sliceN hm2
    have y2 := ho2.bytes (encU_bytes n) (by omega)
    have HN2 := ho2.nil
    have HB2 := hid (thenB HB1.out hb2)
    have HM2 := hid hm2
    have HY1 := hid (HY1.out.below hb2)
    have HY2 := hid y2
    clear ho2 hb2 hm2 y2 HB1
    have CC := hid (fun g (hg : g = (w2.alloc (.cells #[.int .u8 127] 5)).heap.size) => concat_any g 3 3 [encU 1, encU n, [127]] _ rfl (parts3 (t := 27) hg (HY1.out.alloc (.cells #[.int .u8 127] 5)) (HY2.out.alloc _) (made_one w2 5 w2.heap.size rfl) HM1.out HM2.out (n2 := 1) (c2 := 1) rfl HN1.out HN2.out (by simp))
      (by rw [HF.out]; exact List.length_pos_iff.2 HL.out.2) (by rw [HF.out]; have := HL.out.1; omega) (by omega))
    go_wp2_with fail
    refine (CC.out _ (by simp)).mono ?_
    rw [HF.out]
    rintro e w4 ⟨v, rfl, ho, hb⟩
    have HB3 := (thenA (thenA HB2.out _) _).trans (hb.mono (by have := HB2.out.size; simp; omega))
    go_wp2
    go_ret
    exact ⟨_, rfl, ho.mono (by have := HB2.out.size; simp; omega), HB3⟩
def checkC (n : Int) (t : Il) : Int := if n < 0 ∨ 50000 < n then 2 else checkP t
def putC (n : Int) (t : Il) : List Int := if checkC n t = 0 then codeL n t else []
theorem box_at (w : World) (n : Int) (a : Option Addr) (len c : Nat) (e : TypeId) : (w.alloc (.cells #[.int .i64 n, .slice a len c] e)).cell? ⟨w.heap.size, 0, none⟩ = some (.int .i64 n) ∧ (w.alloc (.cells #[.int .i64 n, .slice a len c] e)).cell? ⟨w.heap.size, 1, none⟩ = some (.slice a len c) := by
  constructor <;> simp [go_sem]

set_option maxRecDepth 100000 in
set_option maxHeartbeats 1600000 in
theorem PutCode_any (n : Int) (t : Il) (a : Option Addr) (len c : Nat) (w : World) (hL : ListAt w.heap.size w a len t) (hn : len ≤ 140737488351232) (hT : Nams w) (hc : t.count ≤ 4611686018427387900) (hx : (encL t).length ≤ 90000) :
    Calls Tryd.prog 10 #[.agg #[.int .i64 n, .slice a len c]] w (PutP w (putC n t) (checkC n t)) := by
  by_cases hr : n < 0 ∨ 50000 < n
  · have hce : checkC n t = 2 := if_pos hr
    have hpe : putC n t = [] := by unfold putC; rw [hce, if_neg (by decide)]
    rw [hce, hpe]
    clear hce hpe hL hn hT hc hx
    rcases hr with hr | hr
    · go_enter Tryd.func10, Tryd.ntmps10
      go_wp2
      go_ret2
      exact ⟨_, rfl, ⟨rfl, .inl ⟨rfl, rfl⟩⟩, thenA (Below.refl _ _) _⟩
    · have hr0 : ¬ n < 0 := by omega
      go_enter Tryd.func10, Tryd.ntmps10
      go_wp2
      go_ret2
      exact ⟨_, rfl, ⟨rfl, .inl ⟨rfl, rfl⟩⟩, thenA (Below.refl _ _) _⟩
  · have hr0 : 0 ≤ n := by omega
    have hr1 : n ≤ 50000 := by omega
    have hr2 : ¬ n < 0 := by omega
    have hr3 : ¬ 50000 < n := by omega
    have hce : checkC n t = checkP t := if_neg hr
    have hpe : putC n t = if checkP t = 0 then codeL n t else [] := by unfold putC; rw [hce]
    rw [hce, hpe]
    have hb0 := alloc_below' w (.cells #[.int .i64 n, .slice a len c] 24)
    have PC := hid (Put_any t a len c _ (hL.on hb0) hn (hT.below hb0) hc (by omega))
    obtain ⟨x0, x1⟩ := box_at w n a len c 24
    have X0 := hid x0
    have HB0 := hid hb0
    by_cases h0 : checkP t = 0
    · have hm := mayT_list hL h0
      rw [if_pos h0]
      have hput : putB t = encP t := by unfold putB; rw [if_pos h0]
      rw [hput, h0] at PC
      rw [h0]
      have hlen : (encP t).length = (encL t).length + 1 := by simp [encP]
      have HBY := hid (encP_bytesC hm)
      obtain ⟨zs, hzs⟩ : ∃ zs, encP t = zs := ⟨_, rfl⟩
      have hcode : codeL n t = [locL n, zs].flatten := by unfold codeL; rw [hzs]; simp
      rw [hcode]
      rw [hzs] at PC hlen HBY
      obtain ⟨L, hLn⟩ : ∃ L, zs.length = L := ⟨_, rfl⟩
      have HL := hid hLn
      have HLEN := hid (show 1 ≤ L ∧ L ≤ 90001 by omega)
      have HLOC := hid (loc_len n)
      have PL := hid (fun w' => putLocals_any n hr0 (by omega) w')
      clear hr hce hpe hput h0 hm hlen hzs hcode hLn hx hc hT hL x0 x1 hb0
      go_enter Tryd.func10, Tryd.ntmps10
      go_wp2_with fail
      refine PC.out.mono ?_
      clear PC
      rintro e w1 ⟨v, rfl, ho, hb1⟩
      obtain ⟨a1, c1, rfl⟩ := ho.sliceN (n := L) HL.out
      have y1 := ho.bytes HBY.out (by have := HL.out; have := HLEN.out; omega)
      have HN1 := ho.nil
      have x0 := keep hb1 X0.out
      have HB1 := hid (HB0.out.trans (hb1.mono HB0.out.size))
      have HY1 := hid y1
      clear ho hb1 y1 X0 HB0 HBY
      go_wp2_with fail
      refine (PL.out w1).mono ?_
      clear PL
      rintro e w2 ⟨v2, rfl, ho2, hb2⟩
      obtain ⟨m2, hm2⟩ : ∃ m, (locL n).length = m := ⟨_, rfl⟩
      obtain ⟨a2, c2, rfl⟩ := ho2.sliceN hm2
      have y2 := ho2.bytes (loc_bytes n) (by have := HLOC.out.1; omega)
      have HN2 := ho2.nil
      have CC := hid (fun g (hg : g = w2.heap.size) => concat_any g 2 2 [locL n, zs] _ rfl (parts2 (t := 27) hg y2 (HY1.out.below hb2) hm2 HL.out HN2.out HN1.out)
        (by simp; have := HLEN.out; have := HL.out; omega) (by simp; have := HLEN.out; have := HL.out; have := HLOC.out.1; omega) (by omega))
      have HB2 := hid (HB1.out.trans (hb2.mono HB1.out.size))
      clear ho2 hb2 y2 hm2 HY1 HB1 x0
      go_wp2_with fail
      refine (CC.out _ rfl).mono ?_
      clear CC
      rintro e w3 ⟨v3, rfl, ho3, hb3⟩
      have HB3 := hid ((thenA HB2.out _).trans (hb3.mono (by have := HB2.out.size; simp; omega)))
      have HO := hid (ho3.mono (base' := w.heap.size) (by have := HB2.out.size; simp; omega))
      clear ho3 hb3 HB2
      go_wp2
      go_ret2
      exact ⟨_, rfl, HO.out, HB3.out⟩
    · rw [if_neg h0]
      have hput : putB t = [] := by unfold putB; rw [if_neg h0]
      rw [hput] at PC
      obtain ⟨q, hq⟩ : ∃ q, checkP t = q := ⟨_, rfl⟩
      rw [hq] at PC h0 ⊢
      have h1 : (q != 0) = true := by simp [h0]
      clear hr hce hpe hput hq hx hc hT hL x0 x1 hb0 X0
      go_enter Tryd.func10, Tryd.ntmps10
      go_wp2_with fail
      refine PC.out.mono ?_
      clear PC
      rintro e w1 ⟨v, rfl, ho, hb1⟩
      have HB1 := hid (HB0.out.trans (hb1.mono HB0.out.size))
      clear ho hb1
      go_wp2
      go_ret2
      exact ⟨_, rfl, ⟨rfl, .inl ⟨rfl, rfl⟩⟩, HB1.out⟩
end Go.Proofs.YtlfflomeaplidaaDoor.Body
