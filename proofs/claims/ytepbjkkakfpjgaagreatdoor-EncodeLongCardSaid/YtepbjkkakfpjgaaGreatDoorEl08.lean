import Derived.Test.YtepbjkkakfpjgaaGreatDoorEl01
import Derived.Test.YtepbjkkakfpjgaaGreatDoorEl07
import Derived.Test.YtepbjkkakfpjgaaGreatDoorEl04
import Derived.Lib.SlBuf
import Derived.Lib.MakeNoZero
import Derived.Deep.RegionLaw
import Derived.Laws.Externs
import Derived.IntWalk
import Derived.Deep.RegionHeldLaw
import Derived.BigQuiet
import Derived.Deep.QuietTactic
import Derived.Deep.RegionHeld3
import Derived.Defers
import Derived.FnLit
namespace Go.Proofs.YtepbjkkakfpjgaaGreatDoor.Kind
open Go.RowKit

theorem step_copy_run {P : Program} {ops : Array Oper} {o : Oper} {a : Act} {w : World} {K : Act → World → Prop} {Q : Exit → Act → World → Prop} {E : Prop}
    (hg : o.guard = none) (d s : Operand) (t t' : TypeId) (hop : o.op = .call { callee := .builtin .copy, args := #[d, s], argTypes := #[t, t'] })
    (v u : Value) (hd : a.eval d = v) (hs : a.eval s = u) {v' : Value} {w' : World} (hr : (Builtin.copy_ #[t, t'] o.type #[v, u]).run P w = .ok v' w') (hK : K (a.put o.dst v') w') :
    if Region.wanted o (yielded ops a.tmps) = true then Oper.wp P o a w K Q else E := by
  have hw : Region.wanted o (yielded ops a.tmps) = true := by simp [Region.wanted, hg]
  rw [if_pos hw]
  exact Lib.wp_copy_run w d s t t' hop v u hd hs hr hK

/-- 'copy(nb[k:], nb[:k])' of a buffer that holds k times x. -/
theorem copy_self {P : Program} (w0 wr : World) (h N k c : Nat) (x : UInt8) (t ty e : TypeId) (hu : P.underlying t = some (.slice e)) (hs : (P.info? e).map (·.size) = some 1)
    (hb : Lib.Buf w0 wr h N (List.replicate k x)) (hk : k < N) :
    ∃ wr', (Builtin.copy_ #[t, t] ty #[.slice (some ⟨h, k, none⟩) (N - k) (N - k), .slice (some ⟨h, 0, none⟩) k c]).run P wr = .ok (.int .i64 ((min k (N - k) : Nat) : Int)) wr' ∧ Lib.Buf w0 wr' h N (List.replicate (k + min k (N - k)) x) := by
  obtain ⟨m, hm⟩ : ∃ m, min k (N - k) = m := ⟨_, rfl⟩
  rw [hm]
  have hr := run_copy_cells (P := P) wr t t ty e h k (N - k) (N - k) ⟨h, 0, none⟩ k c (List.replicate m (Value.int .u8 (x.toNat : Int))) hu hs (by rw [List.length_replicate]; exact hm.symm)
    (fun j u hj => by
      rw [List.getElem?_replicate] at hj
      split at hj
      · simp only [Option.some.injEq] at hj
        subst hj
        have hj' : (List.replicate k x)[j]? = some x := by rw [List.getElem?_replicate, if_pos (by omega)]
        have := hb.holds j x hj'
        have hplain : (⟨h, 0, none⟩ : Addr).add j = ⟨h, 0 + j, none⟩ := by unfold Addr.add; split <;> simp_all
        rw [hplain, Nat.zero_add]; exact this
      · cases hj)
    (fun j hj => by rw [List.length_replicate] at hj; exact hb.there _ (by omega)) (fun j hj => by rw [List.length_replicate] at hj; exact hb.free _ (by omega))
    (fun u hu' => by obtain ⟨_, rfl⟩ := List.mem_replicate.1 hu'; rfl)
  rw [List.length_replicate] at hr
  refine ⟨_, hr, ?_⟩
  have hin := World.cell?_setCells_in h (List.replicate m (Value.int .u8 (x.toNat : Int))) k wr (fun j hj => by rw [List.length_replicate] at hj; exact hb.there _ (by omega))
  have hout := World.cell?_setCells_out h (List.replicate m (Value.int .u8 (x.toNat : Int))) k wr
  refine ⟨Lib.below_setCells h (Nat.le_refl _) _ _ hb.below, ?_, ?_, ?_, by rw [List.length_replicate]; omega⟩
  · intro j hj
    by_cases h1 : k ≤ j ∧ j < k + m
    · obtain ⟨d, rfl⟩ : ∃ d, j = k + d := ⟨j - k, by omega⟩
      rw [hin d (by rw [List.length_replicate]; omega)]
      rfl
    · rw [hout ⟨h, j, none⟩ (fun _ _ => by rw [List.length_replicate]; show j < _ ∨ _ ≤ j; omega)]
      exact hb.there j hj
  · intro j hj
    rw [World.frozen?_setCells]
    exact hb.free j hj
  · intro j y hy
    rw [List.getElem?_replicate] at hy
    split at hy
    · rename_i hjm
      simp only [Option.some.injEq] at hy
      subst hy
      by_cases h1 : j < k
      · rw [hout ⟨h, j, none⟩ (fun _ _ => Or.inl h1)]
        exact hb.holds j x (by rw [List.getElem?_replicate, if_pos h1])
      · obtain ⟨d, rfl⟩ : ∃ d, j = k + d := ⟨j - k, by omega⟩
        rw [hin d (by rw [List.length_replicate]; omega)]
        simp
    · cases hy

theorem mulOne (c : Nat) (hc : c ≤ 255) (w : World) : Calls Tryz.prog 235 #[.int .u64 1, .int .u64 c] w fun e w' => e = .returned (.tuple #[.int .u64 0, .int .u64 c]) ∧ w = w' := by
  refine (Tryz.bits_Mul 1 c (by omega) (by omega) w).mono ?_
  rintro e w' ⟨rfl, rfl⟩
  refine ⟨?_, rfl⟩
  rw [Nat.one_mul, Nat.div_eq_of_lt (by omega), Nat.mod_eq_of_lt (by omega)]; rfl

/-- A new slice of so many bytes 127. -/
def Runs (c : Nat) (w : World) (e : Ending) (w' : World) : Prop := ∃ a q, e = .returned (.slice a c q) ∧ Bytes w' a (List.replicate c 127) ∧ (a = none → q = 0) ∧ Below w.heap.size w w'

theorem runs_of {c : Nat} {w w' : World} (h : Lib.Buf w w' w.heap.size c (List.replicate c 127)) (hc : c ≤ 255) : Runs c w (.returned (.slice (some ⟨w.heap.size, 0, none⟩) c c)) w' := by
  refine ⟨_, _, rfl, ⟨fun z hz => ?_, by simp; omega, .inr ⟨_, 0, rfl, fun i hi => ?_⟩⟩, by simp, h.below⟩
  · rw [List.eq_of_mem_replicate hz]; omega
  · have hi' : i < c := by simpa using hi
    have := h.holds i 127 (by rw [List.getElem?_replicate, if_pos hi'])
    rw [Nat.zero_add, this]
    have e : (List.replicate c (127 : Int)).getD i 0 = 127 := by rw [getD_lt (by simpa using hi')]; simp
    rw [e]; rfl

theorem repeat_0 (b off cap : Nat) (w : World) : Calls Tryz.prog 228 #[.slice (some ⟨b, off, none⟩) 1 cap, .int .i64 0] w (Runs 0 w) := by
  go_enter Tryz.func228, Tryz.ntmps228
  go_wp2
  go_ret
  exact ⟨_, _, rfl, ⟨by simp, by simp, .inl rfl⟩, by simp, by first | exact Below.refl _ _ | exact (Below.refl _ _).alloc (Nat.le_refl _) _⟩

set_option maxHeartbeats 1600000 in
set_option maxRecDepth 100000 in
theorem repeat_any (c : Nat) (hc : c ≤ 255) (b off cap : Nat) (w : World) (hcell : w.cell? ⟨b, off, none⟩ = some (.int .u8 127)) :
    Calls Tryz.prog 228 #[.slice (some ⟨b, off, none⟩) 1 cap, .int .i64 c] w (Runs c w) := by
  by_cases h0 : c = 0
  · subst h0; exact repeat_0 b off cap w
  have hs5 : (Tryz.prog.info? 5).map (·.size) = some 1 := by kernel_rfl
  obtain ⟨cs, hrunM, hle, _⟩ := Lib.run_makeNoZero (P := Tryz.prog) w #[3] 35 5 Tryz.underlying35 c (by omega)
  have hcall : (callFunc 236 #[.int .i64 (c : Int)]).run Tryz.prog w = .ok (.value (.slice (some ⟨w.heap.size, 0, none⟩) c cs.size)) ((w.alloc (.cells cs 5)).drewN 2) := by
    rw [run_callFunc_extern Tryz.func236 (by kernel_rfl) (by kernel_rfl) (by kernel_rfl) (e := Extern.BytealgMakeNoZero.makeNoZero #[3] #[35]) (by kernel_rfl), hrunM]
    rfl
  clear hrunM
  have B0 := Lib.Buf.start w cs 5 c 2 hle
  have hv : Lib.HoldsBytes w (.slice (some ⟨b, off, none⟩) 1 cap) [127] := ⟨some ⟨b, off, none⟩, cap, rfl, by simp, fun a ha i x hx => by
    simp only [Option.some.injEq] at ha
    subst ha
    match i, hx with
    | 0, hx => simp at hx; subst hx; simpa [Addr.add] using hcell⟩
  obtain ⟨w1, hr1, B1⟩ := Lib.copy_part (P := Tryz.prog) w _ w.heap.size c [] [127] (.slice (some ⟨b, off, none⟩) 1 cap) 35 3 5 Tryz.underlying35 hs5 (Nat.le_refl _) B0 hv (by simp; omega)
  rw [List.length_nil, Lib.tailV_zero] at hr1
  rw [List.nil_append] at B1
  rw [show ((([127] : List UInt8).length : Nat) : Int) = 1 from rfl] at hr1
  have d1 : decide ((c : Int) < 0) = false := decide_eq_false (by omega)
  have d2 : decide (9223372036854775807 < (c : Int)) = false := decide_eq_false (by omega)
  have d3 : decide (8192 < (c : Int)) = false := decide_eq_false (by omega)
  have hm := fun w => mulOne c hc w
  have hn1 : ¬ (c : Int) = 0 := by omega
  have i1 : (c : Int) ≤ (cs.size : Int) := by omega
  have HB1 := hid B1
  clear B1 B0 hv hcell
  go_enter Tryz.func228, Tryz.ntmps228
  go_wp2_with (first
    | (go_at_call 235; refine (hm _).mono ?_; rintro e w' ⟨rfl, rfl⟩)
    | (at_builtin; refine Lib.wpList_copy_run _ rfl _ _ 35 35 rfl _ _ rfl rfl hr1 ?_))
  have hsz : w.heap.size ≤ w1.heap.size := HB1.out.below.size
  go_loopw [10] (fun sb wr => ∃ k : Nat, 1 ≤ k ∧ k ≤ c ∧ sb = .int .i64 k ∧ Hid (Lib.Buf w wr w.heap.size c (List.replicate k 127))) (fun sb _ => c - (intOf sb).toNat)
  case atStart => exact ⟨1, by omega, by omega, rfl, HB1⟩
  case round =>
    obtain ⟨k, hk1, hkc, rfl, HB⟩ := hrel
    by_cases hlt : k < c
    · obtain ⟨wr', hr2, B2⟩ := copy_self (P := Tryz.prog) w wr.drew w.heap.size c k c 127 35 3 5 Tryz.underlying35 hs5 ⟨HB.out.below.drew, HB.out.there, HB.out.free, HB.out.holds, HB.out.fits⟩ hlt
      obtain ⟨m, hm1, hm2⟩ : ∃ m, min k (c - k) = m ∧ 1 ≤ m ∧ k + m ≤ c := ⟨_, rfl, by omega, by omega⟩
      rw [hm1] at hr2 B2
      have HB2 := hid B2
      clear hm1
      clear B2 hcall hr1 HB1 hm
      have hn2 : ¬ c = k := by omega
      have hw : IntKind.i64.wrap ((k : Int) + (m : Int)) = ((k + m : Nat) : Int) := by rw [IntWalk.i64_in _ (by omega)]; rfl
      have hmn : min (k : Int) (c : Int) = (k : Int) := by omega
      go_wp2
      go_region_law (refine step_copy_run (by rfl) (.tmp 70) (.tmp 73) 35 35 (by rfl) (.slice (some ⟨w.heap.size, k, none⟩) (c - k) (c - k)) (.slice (some ⟨w.heap.size, 0, none⟩) k c) (by go_simp) (by go_simp) hr2 ?_)
      simp [Act.put]
      go_roundw
      case rel => exact ⟨_, _, _, _, _, _, _, _, _, _, _, _, _, _, _, _, _, ⟨k + m, by omega, by omega, (show Value.int .i64 ((k : Int) + (m : Int)) = .int .i64 ((k + m : Nat) : Int) from rfl), HB2⟩, rfl⟩
      case measure => simp [intOf]; omega
    · obtain rfl : k = c := by omega
      go_wp2
      go_ret
      exact runs_of HB.out hc
end Go.Proofs.YtepbjkkakfpjgaaGreatDoor.Kind

namespace Go.Proofs.YtepbjkkakfpjgaaGreatDoor.Kind
open Go.RowKit Go.Proofs.YtepbjkkakfpjgaaGreatDoor.Leb

theorem wordsL_bytes (n : Int) : ∀ z ∈ wordsL n, 0 ≤ z ∧ z < 256 := by
  intro z hz
  unfold wordsL at hz
  rcases List.mem_append.1 hz with h | h
  · exact encU_bytes n z h
  · rw [List.eq_of_mem_replicate h]; omega
theorem wordsL_len (n : Nat) : (wordsL n).length = sizeU n + n := by
  unfold wordsL; rw [List.length_append, encU_length, List.length_replicate, Int.toNat_natCast]
theorem words_append (n : Nat) : encU (n : Int) ++ List.replicate n 127 = wordsL n := by unfold wordsL; rw [Int.toNat_natCast]

set_option maxHeartbeats 800000 in
theorem putWords_any (n : Nat) (hn : n ≤ 255) (w : World) : Calls Tryz.prog 212 #[.int .i64 n] w (Gives w (wordsL n)) := by
  have hs := sizeU_pos n
  go_enter Tryz.func212, Tryz.ntmps212
  go_wp2_with fail
  refine (putU_any n _ (by omega) (by omega)).mono ?_
  rintro e w1 ⟨v, rfl, ho, hb⟩
  obtain ⟨a1, c1, rfl⟩ := ho.sliceN (encU_length n)
  go_wp2_with fail
  refine (repeat_any n hn w1.heap.size 0 1 _ (by go_simp)).mono ?_
  rintro e w2 ⟨a2, c2, rfl, hy2, hnil2, hb2⟩
  have hb3 : Below w1.heap.size w1 w2 := (Below.refl _ _).alloc (Nat.le_refl _) _ |>.trans (hb2.mono (by simp))
  have ho := ho.below hb3
  have hA := thenB hb hb3
  have HNIL := hid hnil2
  clear hb hb2 hb3 hnil2
  go_wp2_with (first | (at_builtin; refine append_bytes rfl (.tmp 5) (.tmp 8) rfl rfl ho hA hA.size _ _ _ rfl HNIL.out (by simp) hy2 (by rw [encU_length]; simp; omega) ?_; intro v' w5 hown5 hb5 hs5))
  go_ret
  rw [words_append] at hown5
  exact ⟨_, rfl, hown5, hb5⟩

/-- Two results: a list of bytes of its own, and OK; or nothing, and an error. -/
def PutOk (w : World) (zs : List Int) (e : Ending) (w' : World) : Prop := ∃ v, e = .returned (.tuple #[v, .int .i64 0]) ∧ Own w.heap.size w' v zs ∧ Below w.heap.size w w'
def PutNo (w : World) (e : Ending) (w' : World) : Prop := e = .returned (.tuple #[.slice none 0 0, .int .i64 2]) ∧ Below w.heap.size w w'

theorem parts3 {w : World} {g : Nat} (hg : g = w.heap.size) {a0 a1 a2 : Option Addr} {n0 n1 n2 c0 c1 c2 : Nat} {t : TypeId} {l0 l1 l2 : List Int} (h0 : Bytes w a0 l0) (h1 : Bytes w a1 l1) (h2 : Bytes w a2 l2) (k0 : l0.length = n0) (k1 : l1.length = n1) (k2 : l2.length = n2)
    (m0 : a0 = none → c0 = 0) (m1 : a1 = none → c1 = 0) (m2 : a2 = none → c2 = 0) : Parts (w.alloc (.cells #[.slice a0 n0 c0, .slice a1 n1 c1, .slice a2 n2 c2] t)) g [l0, l1, l2] := by
  subst hg
  intro j hj
  match j, hj with
  | 0, _ => exact ⟨a0, c0, by subst k0; go_simp, h0.alloc _, m0⟩
  | 1, _ => exact ⟨a1, c1, by subst k1; go_simp, h1.alloc _, m1⟩
  | 2, _ => exact ⟨a2, c2, by subst k2; go_simp, h2.alloc _, m2⟩
theorem parts2 {w : World} {g : Nat} (hg : g = w.heap.size) {a0 a1 : Option Addr} {n0 n1 c0 c1 : Nat} {t : TypeId} {l0 l1 : List Int} (h0 : Bytes w a0 l0) (h1 : Bytes w a1 l1) (k0 : l0.length = n0) (k1 : l1.length = n1)
    (m0 : a0 = none → c0 = 0) (m1 : a1 = none → c1 = 0) : Parts (w.alloc (.cells #[.slice a0 n0 c0, .slice a1 n1 c1] t)) g [l0, l1] := by
  subst hg
  intro j hj
  match j, hj with
  | 0, _ => exact ⟨a0, c0, by subst k0; go_simp, h0.alloc _, m0⟩
  | 1, _ => exact ⟨a1, c1, by subst k1; go_simp, h1.alloc _, m1⟩
theorem byte_at {w : World} {k : Nat} {z : Int} (hz : 0 ≤ z ∧ z < 256) (h : w.cell? ⟨k, 0, none⟩ = some (.int .u8 z)) : Bytes w (some ⟨k, 0, none⟩) [z] :=
  ⟨by simpa using hz, by simp, .inr ⟨k, 0, rfl, fun i hi => by
    match i, hi with
    | 0, _ => exact h⟩⟩

theorem typeL_flat (p r : Int) : [[96], wordsL p, wordsL r].flatten = typeL p r := by simp [typeL]
theorem typeL_len (p r : Nat) : (typeL p r).length = 1 + (sizeU p + p) + (sizeU r + r) := by
  unfold typeL; rw [List.length_cons, List.length_append, wordsL_len, wordsL_len]; omega

set_option maxHeartbeats 1600000 in
theorem put_ok (p r : Nat) (hp : p ≤ 255) (hr : r ≤ 1) (w : World) : Calls Tryz.prog 194 #[.agg #[.int .i64 p, .int .i64 r]] w (PutOk w (typeL p r)) := by
  have hC := fun w => check_any p r w
  have hc0 : codeType p r = 0 := by
    have : okType p r = true := by unfold okType; simp; omega
    unfold codeType; rw [if_pos this]
  simp only [hc0] at hC
  have HFL := hid (typeL_flat p r)
  have HLE := hid (typeL_len p r)
  have hs := sizeU_pos p
  have hs2 := sizeU_pos r
  clear hc0
  go_enter Tryz.func194, Tryz.ntmps194
  go_wp2_with fail
  refine (hC _).mono ?_
  rintro e w1 ⟨rfl, hb1⟩
  obtain ⟨d0, d1, _, _, _⟩ := two hb1
  have hA : Below w.heap.size w w1 := ((Below.refl _ _).alloc (Nat.le_refl _) _).trans (hb1.mono (by simp))
  clear hC hb1
  go_wp2
  have hS : Below w.heap.size w w1.drew ∧ w1.drew.cell? ⟨w.heap.size, 0, none⟩ = some (.int .i64 p) ∧ w1.drew.cell? ⟨w.heap.size, 1, none⟩ = some (.int .i64 r) := ⟨hA.drew, d0, d1⟩
  go_region_held3 (fun w' => Below w.heap.size w w' ∧ w'.cell? ⟨w.heap.size, 0, none⟩ = some (.int .i64 p) ∧ w'.cell? ⟨w.heap.size, 1, none⟩ = some (.int .i64 r))
    (first | assumption | exact box_keep (by assumption) ((Below.refl _ _).alloc (Nat.le_refl _) _) | exact box_keep (by assumption) (by assumption))
    (first
      | (go_at_call 212; ((with_reducible refine (putWords_any p hp _).mono ?_); rintro e w13 ⟨v13, rfl, ho13, hb13⟩; obtain ⟨a13, c13, rfl⟩ := ho13.sliceN (wordsL_len p); have hy13 := ho13.bytes (wordsL_bytes p) (by rw [wordsL_len]; omega); have hn13 := ho13.nil; clear ho13))
      | (go_at_call 212; ((with_reducible refine (putWords_any r (by omega) _).mono ?_); rintro e w16 ⟨v16, rfl, ho16, hb16⟩; obtain ⟨a16, c16, rfl⟩ := ho16.sliceN (wordsL_len r); have hy16 := ho16.bytes (wordsL_bytes r) (by rw [wordsL_len]; omega); have hn16 := ho16.nil; clear ho16))
      | (go_at_call 211
         refine (concat_any _ 3 3 [[96], wordsL p, wordsL r] _ rfl ?_ (by rw [HFL.out, HLE.out]; omega) (by rw [HFL.out, HLE.out]; omega) (by omega)).mono ?_
         · first
            | (refine parts3 ?_ (byte_at (z := 96) (by decide) ?_) ((hy13.below hb16).alloc _) (hy16.alloc _) rfl (wordsL_len p) (wordsL_len r) (by simp) hn13.out hn16.out <;> go_simp <;> done)
            | (refine parts3 ?_ (byte_at (z := 96) (by decide) (keep hb16 ?_)) (hy13.below (thenB ((Below.refl _ _).alloc (Nat.le_refl _) _) hb16)) hy16 rfl (wordsL_len p) (wordsL_len r) (by simp) hn13.out hn16.out <;> go_simp <;> done)
            | (refine parts3 ?_ (byte_at (z := 96) (by decide) (keep (thenB hb13 hb16) ?_)) (hy13.below hb16) hy16 rfl (wordsL_len p) (wordsL_len r) (by simp) hn13.out hn16.out <;> go_simp <;> done)
         rintro e w18 ⟨v18, rfl, ho18, hb18⟩
         rw [HFL.out] at ho18
         have ho18 := ho18.mono (base' := w.heap.size) (by have s1 := hA.size; have s2 := hb13.size; have s3 := hb16.size; (try simp at s2); (try simp at s3); (try simp); omega)
         obtain ⟨a18, c18, rfl⟩ := ho18.sliceN HLE.out))
  all_goals go_wp2
  all_goals go_ret2
  all_goals exact ⟨_, rfl, ho18, box_out (x := .int .i64 p) (y := .int .i64 r) (k := w.heap.size) (by assumption)⟩
set_option maxHeartbeats 800000 in
theorem put_no (p r : Int) (h : okType p r = false) (w : World) : Calls Tryz.prog 194 #[.agg #[.int .i64 p, .int .i64 r]] w (PutNo w) := by
  have hC := fun w => check_any p r w
  have hc0 : codeType p r = 2 := by unfold codeType; rw [h]; rfl
  simp only [hc0] at hC
  clear hc0 h
  go_enter Tryz.func194, Tryz.ntmps194
  go_wp2_with fail
  refine (hC _).mono ?_
  rintro e w1 ⟨rfl, hb1⟩
  have hA : Below w.heap.size w w1 := ((Below.refl _ _).alloc (Nat.le_refl _) _).trans (hb1.mono (by simp))
  clear hC hb1
  go_wp2
  go_ret2
  exact ⟨rfl, hA⟩

theorem limL_flat (n x : Int) : [[1], encU n, encU x].flatten = limL n x true := by simp [limL]
theorem limL_flat2 (n : Int) : [[0], encU n].flatten = limL n 0 false := by simp [limL]
theorem limL_len (n x : Int) : (limL n x true).length = 1 + sizeU n + sizeU x := by
  unfold limL; simp [encU_length]; omega
theorem limL_len2 (n : Int) : (limL n 0 false).length = 1 + sizeU n := by
  unfold limL; simp [encU_length]; omega
theorem three {w w' : World} {x y z : Value} {t : TypeId} (hb : Below (w.alloc (.cells #[x, y, z] t)).heap.size (w.alloc (.cells #[x, y, z] t)) w') :
    w'.cell? ⟨w.heap.size, 0, none⟩ = some x ∧ w'.cell? ⟨w.heap.size, 1, none⟩ = some y ∧ w'.cell? ⟨w.heap.size, 2, none⟩ = some z := by
  obtain ⟨hc, _⟩ := old hb
  refine ⟨(hc _ _ (by simp)).trans ?_, (hc _ _ (by simp)).trans ?_, (hc _ _ (by simp)).trans ?_⟩ <;> go_simp

set_option maxHeartbeats 800000 in
theorem putLimits_no (n x : Int) (c : Bool) (most : Int) (h : okLim n x c most = false) (w : World) : Calls Tryz.prog 196 #[.agg #[.int .u32 n, .int .u32 x, .bool c], .int .u32 most] w (PutNo w) := by
  have hC := fun w => checkLimits_any n x c most w
  have hc0 : codeLim n x c most = 2 := by unfold codeLim; rw [h]; rfl
  simp only [hc0] at hC
  clear hc0 h
  go_enter Tryz.func196, Tryz.ntmps196
  go_wp2_with fail
  refine (hC _).mono ?_
  rintro e w1 ⟨rfl, hb1⟩
  have hA : Below w.heap.size w w1 := ((Below.refl _ _).alloc (Nat.le_refl _) _).trans (hb1.mono (by simp))
  clear hC hb1
  go_wp2
  go_ret2
  exact ⟨rfl, hA⟩

set_option maxHeartbeats 1600000 in
theorem putLimits_plain (n x most : Int) (h : okLim n x false most = true) (h0 : 0 ≤ n ∧ n ≤ 4294967295) (w : World) : Calls Tryz.prog 196 #[.agg #[.int .u32 n, .int .u32 x, .bool false], .int .u32 most] w (PutOk w (limL n x false)) := by
  have hC := fun w => checkLimits_any n x false most w
  have hc0 : codeLim n x false most = 0 := by unfold codeLim; rw [if_pos h]
  obtain rfl : x = 0 := by unfold okLim at h; simp at h; exact h.2
  simp only [hc0] at hC
  have HFL := hid (limL_flat2 n)
  have HLE := hid (limL_len2 n)
  have hs := sizeU_pos n
  clear hc0 h
  go_enter Tryz.func196, Tryz.ntmps196
  go_wp2_with fail
  refine (hC _).mono ?_
  rintro e w1 ⟨rfl, hb1⟩
  obtain ⟨d0, d1, d2⟩ := three hb1
  have hA : Below w.heap.size w w1 := ((Below.refl _ _).alloc (Nat.le_refl _) _).trans (hb1.mono (by simp))
  have d0' := keepA d0 (.cells #[.int .u8 0] 5)
  clear hC hb1
  go_wp2_with fail
  refine (putU_any n _ (by omega) (by omega)).mono ?_
  rintro e w3 ⟨v, rfl, ho, hb3⟩
  obtain ⟨a3, c3, rfl⟩ := ho.sliceN (encU_length n)
  have hy := ho.bytes (encU_bytes n) (by rw [encU_length]; omega)
  have hn3 := ho.nil
  have hz : w1.heap.size + 1 ≤ w3.heap.size := by have := hb3.size; simpa using this
  have d96 : w3.cell? ⟨w1.heap.size, 0, none⟩ = some (.int .u8 0) := keep hb3 (by go_simp)
  have hA3 : Below w.heap.size w w3 := (thenA hA (.cells #[.int .u8 0] 5)).trans (hb3.mono (by have := hA.size; simp; omega))
  clear ho hb3
  go_wp2_with fail
  refine (concat_any _ 2 2 [[0], encU n] _ rfl (parts2 rfl (byte_at (z := 0) (by decide) d96) hy rfl (encU_length n) (by simp) hn3.out) (by rw [HFL.out, HLE.out]; omega) (by rw [HFL.out, HLE.out]; omega) (by omega)).mono ?_
  rintro e w5 ⟨v, rfl, ho, hb5⟩
  rw [HFL.out] at ho
  have ho := ho.mono (base' := w.heap.size) (by have := hA3.size; simp; omega)
  have hb6 : Below w3.heap.size w3 w5 := ((Below.refl _ _).alloc (Nat.le_refl _) _).trans (hb5.mono (by simp))
  have hA5 := thenB hA3 hb6
  clear hb6
  obtain ⟨a5, c5, rfl⟩ := ho.sliceN HLE.out
  clear hb5
  go_wp2
  go_ret2
  exact ⟨_, rfl, ho, hA5⟩

set_option maxHeartbeats 1600000 in
theorem putLimits_capped (n x most : Int) (h : okLim n x true most = true) (h0 : 0 ≤ n ∧ n ≤ 4294967295) (h1 : 0 ≤ x ∧ x ≤ 4294967295) (w : World) : Calls Tryz.prog 196 #[.agg #[.int .u32 n, .int .u32 x, .bool true], .int .u32 most] w (PutOk w (limL n x true)) := by
  have hC := fun w => checkLimits_any n x true most w
  have hc0 : codeLim n x true most = 0 := by unfold codeLim; rw [if_pos h]
  simp only [hc0] at hC
  have HFL := hid (limL_flat n x)
  have HLE := hid (limL_len n x)
  have hs := sizeU_pos n
  have hs2 := sizeU_pos x
  clear hc0 h
  go_enter Tryz.func196, Tryz.ntmps196
  go_wp2_with fail
  refine (hC _).mono ?_
  rintro e w1 ⟨rfl, hb1⟩
  obtain ⟨d0, d1, d2⟩ := three hb1
  have hA : Below w.heap.size w w1 := ((Below.refl _ _).alloc (Nat.le_refl _) _).trans (hb1.mono (by simp))
  clear hC hb1
  go_wp2
  have hS : Below w.heap.size w w1.drew ∧ w1.drew.cell? ⟨w.heap.size, 0, none⟩ = some (.int .u32 n) ∧ w1.drew.cell? ⟨w.heap.size, 1, none⟩ = some (.int .u32 x) := ⟨hA.drew, d0, d1⟩
  go_region_held3 (fun w' => Below w.heap.size w w' ∧ w'.cell? ⟨w.heap.size, 0, none⟩ = some (.int .u32 n) ∧ w'.cell? ⟨w.heap.size, 1, none⟩ = some (.int .u32 x))
    (first | assumption | exact box_keep (by assumption) ((Below.refl _ _).alloc (Nat.le_refl _) _) | exact box_keep (by assumption) (by assumption))
    (first
      | (go_at_call 175; (first
          | (clear hb16; fail)
          | ((with_reducible refine (putU_any n _ (by omega) (by omega)).mono ?_); rintro e w13 ⟨v13, rfl, ho13, hb13⟩; obtain ⟨a13, c13, rfl⟩ := ho13.sliceN (encU_length n); have hy13 := ho13.bytes (encU_bytes n) (by rw [encU_length]; omega); have hn13 := ho13.nil; clear ho13)
          | ((with_reducible refine (putU_any x _ (by omega) (by omega)).mono ?_); rintro e w16 ⟨v16, rfl, ho16, hb16⟩; obtain ⟨a16, c16, rfl⟩ := ho16.sliceN (encU_length x); have hy16 := ho16.bytes (encU_bytes x) (by rw [encU_length]; omega); have hn16 := ho16.nil; clear ho16)))
      | (go_at_call 211
         refine (concat_any _ 3 3 [[1], encU n, encU x] _ rfl ?_ (by rw [HFL.out, HLE.out]; omega) (by rw [HFL.out, HLE.out]; omega) (by omega)).mono ?_
         · first
            | (refine parts3 ?_ (byte_at (z := 1) (by decide) ?_) ((hy13.below hb16).alloc _) (hy16.alloc _) rfl (encU_length n) (encU_length x) (by simp) hn13.out hn16.out <;> go_simp <;> done)
            | (refine parts3 ?_ (byte_at (z := 1) (by decide) (keep hb16 ?_)) (hy13.below (thenB ((Below.refl _ _).alloc (Nat.le_refl _) _) hb16)) hy16 rfl (encU_length n) (encU_length x) (by simp) hn13.out hn16.out <;> go_simp <;> done)
            | (refine parts3 ?_ (byte_at (z := 1) (by decide) (keep (thenB hb13 hb16) ?_)) (hy13.below hb16) hy16 rfl (encU_length n) (encU_length x) (by simp) hn13.out hn16.out <;> go_simp <;> done)
         rintro e w18 ⟨v18, rfl, ho18, hb18⟩
         rw [HFL.out] at ho18
         have ho18 := ho18.mono (base' := w.heap.size) (by have s1 := hA.size; have s2 := hb13.size; have s3 := hb16.size; (try simp at s2); (try simp at s3); (try simp); omega)
         obtain ⟨a18, c18, rfl⟩ := ho18.sliceN HLE.out))
  all_goals go_wp2
  all_goals go_ret2
  all_goals exact ⟨_, rfl, ho18, box_out (x := .int .u32 n) (y := .int .u32 x) (k := w.heap.size) (by assumption)⟩
end Go.Proofs.YtepbjkkakfpjgaaGreatDoor.Kind

namespace Go.Proofs.YtepbjkkakfpjgaaGreatDoor.Kind
open Go.RowKit Go.Proofs.YtepbjkkakfpjgaaGreatDoor.Leb

theorem refCheck_any (p r : Int) (w : World) : Calls Tryz.prog 133 #[.agg #[.int .i64 p, .int .i64 r]] w
    fun e w' => e = .returned (.int .i64 (codeType p r)) ∧ Below w.heap.size w w' := by
  by_cases h1 : p < 0
  · have HC : Hid (codeType p r = 2) := by show _ = _; unfold codeType okType; rw [if_neg]; simp; omega
    have d1 : decide (p < 0) = true := decide_eq_true h1
    go_enter Tryz.func133, Tryz.ntmps133
    go_wp2
    go_ret
    exact ⟨ret_int HC.out.symm, (Below.refl _ _).alloc (Nat.le_refl _) _⟩
  · by_cases h2 : 255 < p
    · have HC : Hid (codeType p r = 2) := by show _ = _; unfold codeType okType; rw [if_neg]; simp; omega
      go_enter Tryz.func133, Tryz.ntmps133
      go_wp2
      go_ret
      exact ⟨ret_int HC.out.symm, (Below.refl _ _).alloc (Nat.le_refl _) _⟩
    · by_cases h3 : r < 0
      · have HC : Hid (codeType p r = 2) := by show _ = _; unfold codeType okType; rw [if_neg]; simp; omega
        go_enter Tryz.func133, Tryz.ntmps133
        go_wp2
        go_ret
        exact ⟨ret_int HC.out.symm, (Below.refl _ _).alloc (Nat.le_refl _) _⟩
      · by_cases h4 : 1 < r
        · have HC : Hid (codeType p r = 2) := by show _ = _; unfold codeType okType; rw [if_neg]; simp; omega
          go_enter Tryz.func133, Tryz.ntmps133
          go_wp2
          go_ret
          exact ⟨ret_int HC.out.symm, (Below.refl _ _).alloc (Nat.le_refl _) _⟩
        · have HC : Hid (codeType p r = 0) := by show _ = _; unfold codeType okType; rw [if_pos]; simp; omega
          go_enter Tryz.func133, Tryz.ntmps133
          go_wp2
          go_ret
          exact ⟨ret_int HC.out.symm, (Below.refl _ _).alloc (Nat.le_refl _) _⟩

set_option maxHeartbeats 800000 in
theorem refCheckLimits_any (n x : Int) (c : Bool) (most : Int) (w : World) : Calls Tryz.prog 135 #[.agg #[.int .u32 n, .int .u32 x, .bool c], .int .u32 most] w
    fun e w' => e = .returned (.int .i64 (codeLim n x c most)) ∧ Below w.heap.size w w' := by
  by_cases h1 : most < n
  · have HC : Hid (codeLim n x c most = 2) := by show _ = _; unfold codeLim okLim; rw [if_neg]; simp; omega
    go_enter Tryz.func135, Tryz.ntmps135
    go_wp2
    go_ret
    exact ⟨ret_int HC.out.symm, (Below.refl _ _).alloc (Nat.le_refl _) _⟩
  · cases c
    · by_cases h2 : x = 0
      · subst h2
        have HC : Hid (codeLim n 0 false most = 0) := by show _ = _; unfold codeLim okLim; rw [if_pos]; simp; omega
        go_enter Tryz.func135, Tryz.ntmps135
        go_wp2
        go_ret
        exact ⟨ret_int HC.out.symm, (Below.refl _ _).alloc (Nat.le_refl _) _⟩
      · have HC : Hid (codeLim n x false most = 2) := by show _ = _; unfold codeLim okLim; rw [if_neg]; simp; omega
        have h3 : (x != 0) = true := by simp [h2]
        go_enter Tryz.func135, Tryz.ntmps135
        go_wp2
        go_ret
        exact ⟨ret_int HC.out.symm, (Below.refl _ _).alloc (Nat.le_refl _) _⟩
    · by_cases h2 : x < n
      · have HC : Hid (codeLim n x true most = 2) := by show _ = _; unfold codeLim okLim; rw [if_neg]; simp; omega
        go_enter Tryz.func135, Tryz.ntmps135
        go_wp2
        go_ret
        exact ⟨ret_int HC.out.symm, (Below.refl _ _).alloc (Nat.le_refl _) _⟩
      · by_cases h3 : most < x
        · have HC : Hid (codeLim n x true most = 2) := by show _ = _; unfold codeLim okLim; rw [if_neg]; simp; omega
          go_enter Tryz.func135, Tryz.ntmps135
          go_wp2
          go_ret
          exact ⟨ret_int HC.out.symm, (Below.refl _ _).alloc (Nat.le_refl _) _⟩
        · have HC : Hid (codeLim n x true most = 0) := by show _ = _; unfold codeLim okLim; rw [if_pos]; simp; omega
          go_enter Tryz.func135, Tryz.ntmps135
          go_wp2
          go_ret
          exact ⟨ret_int HC.out.symm, (Below.refl _ _).alloc (Nat.le_refl _) _⟩

theorem rep_snoc (n : Int) (i : Nat) : encU n ++ List.replicate i 127 ++ [127] = encU n ++ List.replicate (i + 1) 127 := by
  rw [List.append_assoc, ← List.replicate_succ']
set_option maxHeartbeats 800000 in
theorem refWords_any (n : Nat) (hn : n ≤ 255) (w : World) : Calls Tryz.prog 176 #[.int .i64 n] w (Gives w (wordsL n)) := by
  have hs := sizeU_pos n
  go_enter Tryz.func176, Tryz.ntmps176
  go_wp2_with fail
  refine (refU_any n _ (by omega) (by omega)).mono ?_
  rintro e w1 ⟨v, rfl, ho, hb⟩
  go_wp2
  go_loopw [3, 4] (fun sv si wr => ∃ i : Nat, i ≤ n ∧ si = .int .i64 i ∧ Own w.heap.size wr sv (encU n ++ List.replicate i 127) ∧ Below w.heap.size w wr) (fun _ si _ => n - (intOf si).toNat)
  case atStart => exact ⟨0, by omega, rfl, by simpa using ho, hb⟩
  case round =>
    obtain ⟨i, hi, rfl, hown, hbw⟩ := hrel
    obtain ⟨m, hm⟩ : ∃ m, (encU (n : Int) ++ List.replicate i 127).length = m := ⟨_, rfl⟩
    obtain ⟨av, cv, rfl⟩ := hown.sliceN hm
    have hm2 : m ≤ 300 := by rw [← hm, List.length_append, encU_length, List.length_replicate]; omega
    have HM := hid hm
    clear hm ho hb
    by_cases hlt : i < n
    · go_wp2_with (first | (at_builtin; refine append_byte rfl (.tmp 13) (.tmp 14) rfl 127 rfl hown hbw hbw.size rfl (by rw [HM.out]; omega) ?_; intro v' w5 hown5 hb5 hs5))
      go_roundw
      case rel => exact ⟨i + 1, by omega, by go_num, by rw [← rep_snoc]; exact hown5, hb5⟩
      case measure => simp [intOf]; omega
    · obtain rfl : i = n := by omega
      go_wp2
      go_ret
      rw [words_append] at hown
      exact ⟨_, rfl, hown, hbw⟩

theorem own_lit (w : World) (z : Int) : Own w.heap.size (w.alloc (.cells #[.int .u8 z] 5)) (.slice (some ⟨w.heap.size, 0, none⟩) 1 1) [z] := by
  refine ⟨rfl, .inr ⟨w.heap.size, 1, #[.int .u8 z], rfl, Nat.le_refl _, ?_, Nat.le_refl _, by unfold maxLen; omega, rfl, rfl⟩⟩
  show (w.heap.push _)[w.heap.size]? = _
  simp

theorem typeL_cat (p r : Int) : [96] ++ wordsL p ++ wordsL r = typeL p r := by simp [typeL]
theorem typeL_cat1 (p : Nat) : ([96] ++ wordsL p).length = 1 + (sizeU p + p) := by simp [wordsL_len]; omega
set_option maxHeartbeats 1600000 in
theorem refPut_ok (p r : Nat) (hp : p ≤ 255) (hr : r ≤ 1) (w : World) : Calls Tryz.prog 114 #[.agg #[.int .i64 p, .int .i64 r]] w (PutOk w (typeL p r)) := by
  have hC := fun w => refCheck_any p r w
  have hc0 : codeType p r = 0 := by
    have : okType p r = true := by unfold okType; simp; omega
    unfold codeType; rw [if_pos this]
  simp only [hc0] at hC
  have HLE := hid (typeL_len p r)
  have HCAT := hid (typeL_cat p r)
  have HC1 := hid (typeL_cat1 p)
  have hs := sizeU_pos p
  have hs2 := sizeU_pos r
  clear hc0
  go_enter Tryz.func114, Tryz.ntmps114
  go_wp2_with fail
  refine (hC _).mono ?_
  rintro e w1 ⟨rfl, hb1⟩
  obtain ⟨d0, d1, _, _, _⟩ := two hb1
  have hW0 : Below w.heap.size w (w.alloc (.cells #[.int .i64 p, .int .i64 r] 50)) := (Below.refl _ _).alloc (Nat.le_refl _) _
  have hs0 : w.heap.size + 1 = (w.alloc (.cells #[.int .i64 p, .int .i64 r] 50)).heap.size := by simp
  have HS0 := hid hs0
  have d0' := keepA d0 (.cells #[.int .u8 96] 5)
  clear hC hs0
  generalize w.alloc (.cells #[.int .i64 p, .int .i64 r] 50) = W0 at *
  go_wp2_with fail
  refine (refWords_any p hp _).mono ?_
  rintro e w3 ⟨v3, rfl, ho3, hb3⟩
  obtain ⟨a3, c3, rfl⟩ := ho3.sliceN (wordsL_len p)
  have hy3 := ho3.bytes (wordsL_bytes p) (by rw [wordsL_len]; omega)
  have hn3 := ho3.nil
  have hb4 : Below w1.heap.size w1 w3 := ((Below.refl _ _).alloc (Nat.le_refl _) _).trans (hb3.mono (by simp))
  have hoL := ((own_lit w1 96).below hb3).mono hb1.size
  have hB3 := thenB hb1 hb4
  have e1 := keep hb4 d1
  have HLk : W0.heap.size > w.heap.size := by have := HS0.out; omega
  clear ho3 hb3 hb4 d0 d1 d0' hb1
  go_wp2_with (first | (at_builtin; refine append_bytes rfl (.tmp 11) (.tmp 14) rfl rfl hoL hB3 hB3.size _ _ _ rfl hn3.out (wordsL_len p) hy3 (by rw [wordsL_len]; simp; omega) ?_; intro v5 w5 ho5 hB5 hs5; have e5 := (hB5.cell (p := ⟨w.heap.size, 1, none⟩) HLk).trans ((hB3.cell (p := ⟨w.heap.size, 1, none⟩) HLk).symm.trans e1); obtain ⟨a5, c5, rfl⟩ := ho5.sliceN HC1.out))
  refine (refWords_any r (by omega) _).mono ?_
  rintro e w7 ⟨v7, rfl, ho7, hb7⟩
  obtain ⟨a7, c7, rfl⟩ := ho7.sliceN (wordsL_len r)
  have hy7 := ho7.bytes (wordsL_bytes r) (by rw [wordsL_len]; omega)
  have hn7 := ho7.nil
  have ho6 := ho5.below hb7
  have hB7 := thenB hB5 hb7
  clear ho7 hb7 ho5 hB5
  go_wp2_with (first | (at_builtin; refine append_bytes rfl (.tmp 16) (.tmp 19) rfl rfl ho6 hB7 hB7.size _ _ _ rfl hn7.out (wordsL_len r) hy7 (by rw [HC1.out, wordsL_len]; omega) ?_; intro v9 w9 ho9 hB9 hs9; rw [HCAT.out] at ho9; obtain ⟨a9, c9, rfl⟩ := ho9.sliceN HLE.out))
  go_ret2
  exact ⟨_, rfl, ho9.mono (by have := HS0.out; omega), hW0.trans (hB9.mono (by have := HS0.out; omega))⟩

set_option maxHeartbeats 800000 in
theorem refPut_no (p r : Int) (h : okType p r = false) (w : World) : Calls Tryz.prog 114 #[.agg #[.int .i64 p, .int .i64 r]] w (PutNo w) := by
  have hC := fun w => refCheck_any p r w
  have hc0 : codeType p r = 2 := by unfold codeType; rw [h]; rfl
  simp only [hc0] at hC
  clear hc0 h
  go_enter Tryz.func114, Tryz.ntmps114
  go_wp2_with fail
  refine (hC _).mono ?_
  rintro e w1 ⟨rfl, hb1⟩
  have hA : Below w.heap.size w w1 := ((Below.refl _ _).alloc (Nat.le_refl _) _).trans (hb1.mono (by simp))
  clear hC hb1
  go_wp2
  go_ret2
  exact ⟨rfl, hA⟩

set_option maxHeartbeats 800000 in
theorem refPutLimits_no (n x : Int) (c : Bool) (most : Int) (h : okLim n x c most = false) (w : World) : Calls Tryz.prog 116 #[.agg #[.int .u32 n, .int .u32 x, .bool c], .int .u32 most] w (PutNo w) := by
  have hC := fun w => refCheckLimits_any n x c most w
  have hc0 : codeLim n x c most = 2 := by unfold codeLim; rw [h]; rfl
  simp only [hc0] at hC
  clear hc0 h
  go_enter Tryz.func116, Tryz.ntmps116
  go_wp2_with fail
  refine (hC _).mono ?_
  rintro e w1 ⟨rfl, hb1⟩
  have hA : Below w.heap.size w w1 := ((Below.refl _ _).alloc (Nat.le_refl _) _).trans (hb1.mono (by simp))
  clear hC hb1
  go_wp2
  go_ret2
  exact ⟨rfl, hA⟩

theorem limL_cat2 (n : Int) : [0] ++ encU n = limL n 0 false := by simp [limL]
theorem limL_cat (n x : Int) : [1] ++ encU n ++ encU x = limL n x true := by simp [limL]
set_option maxHeartbeats 1600000 in
theorem refPutLimits_plain (n x most : Int) (h : okLim n x false most = true) (h0 : 0 ≤ n ∧ n ≤ 4294967295) (w : World) : Calls Tryz.prog 116 #[.agg #[.int .u32 n, .int .u32 x, .bool false], .int .u32 most] w (PutOk w (limL n x false)) := by
  have hC := fun w => refCheckLimits_any n x false most w
  have hc0 : codeLim n x false most = 0 := by unfold codeLim; rw [if_pos h]
  obtain rfl : x = 0 := by unfold okLim at h; simp at h; exact h.2
  simp only [hc0] at hC
  have HCAT := hid (limL_cat2 n)
  have HLE := hid (limL_len2 n)
  have hs := sizeU_pos n
  clear hc0 h
  go_enter Tryz.func116, Tryz.ntmps116
  go_wp2_with fail
  refine (hC _).mono ?_
  rintro e w1 ⟨rfl, hb1⟩
  obtain ⟨d0, d1, d2⟩ := three hb1
  have hA : Below w.heap.size w w1 := ((Below.refl _ _).alloc (Nat.le_refl _) _).trans (hb1.mono (by simp))
  have d0' := keepA d0 (.cells #[.int .u8 0] 5)
  clear hC hb1
  go_wp2_with fail
  refine (refU_any n _ (by omega) (by omega)).mono ?_
  rintro e w3 ⟨v, rfl, ho, hb3⟩
  obtain ⟨a3, c3, rfl⟩ := ho.sliceN (encU_length n)
  have hy := ho.bytes (encU_bytes n) (by rw [encU_length]; omega)
  have hn3 := ho.nil
  have hb4 : Below w1.heap.size w1 w3 := ((Below.refl _ _).alloc (Nat.le_refl _) _).trans (hb3.mono (by simp))
  have hoL := ((own_lit w1 0).below hb3).mono hA.size
  have hA3 := thenB hA hb4
  clear ho hb3 hb4
  go_wp2_with (first | (at_builtin; refine append_bytes rfl (.tmp 16) (.tmp 19) rfl rfl hoL hA3 hA3.size _ _ _ rfl hn3.out (encU_length n) hy (by rw [encU_length]; simp; omega) ?_; intro v5 w5 ho5 hA5 hs5; rw [HCAT.out] at ho5; obtain ⟨a5, c5, rfl⟩ := ho5.sliceN HLE.out))
  go_ret2
  exact ⟨_, rfl, ho5, hA5⟩
end Go.Proofs.YtepbjkkakfpjgaaGreatDoor.Kind

namespace Go.Proofs.YtepbjkkakfpjgaaGreatDoor.Kind
open Go.RowKit Go.Proofs.YtepbjkkakfpjgaaGreatDoor.Leb

theorem keepN {w w' : World} {x y : Value} {k : Nat} (c0 : w.cell? ⟨k, 0, none⟩ = some x) (c1 : w.cell? ⟨k, 1, none⟩ = some y) (hb : Below w.heap.size w w') :
    Below w.heap.size w w' ∧ w'.cell? ⟨k, 0, none⟩ = some x ∧ w'.cell? ⟨k, 1, none⟩ = some y := ⟨hb, keep hb c0, keep hb c1⟩

end Go.Proofs.YtepbjkkakfpjgaaGreatDoor.Kind

namespace Go.Proofs.YtepbjkkakfpjgaaGreatDoor.Kind
open Go.RowKit Go.Proofs.YtepbjkkakfpjgaaGreatDoor.Leb

theorem step_append_bytes {ops : Array Oper} {o : Oper} {a : Act} {w : World} {K : Act → World → Prop} {Q : Exit → Act → World → Prop} {E : Prop}
    (hg : o.guard = none) (s x : Operand) (hop : o.op = .call { callee := .builtin .append, args := #[s, x], argTypes := #[35, 35] })
    {base : Nat} (v : Value) {xs ys : List Int} (hs : a.eval s = v) (hown : Own base w v xs) (hbase : base ≤ w.heap.size)
    (b n c : Nat) (hx : a.eval x = .slice (some ⟨b, 0, none⟩) n c) (hn : ys.length = n) (hy : Bytes w (some ⟨b, 0, none⟩) ys) (hl : xs.length + ys.length ≤ 140737488351232)
    (h : ∀ v' w', Own base w' v' (xs ++ ys) → w.grownBy w' v.ownBlock → K (a.put o.dst v') w') :
    if Region.wanted o (yielded ops a.tmps) = true then Oper.wp Tryz.prog o a w K Q else E := by
  have hw : Region.wanted o (yielded ops a.tmps) = true := by simp [Region.wanted, hg]
  rw [if_pos hw]
  obtain ⟨i0, hi, hz0, hz1, hz2⟩ := info_parts infoByte
  subst hn
  refine wp_append_own w s x 35 hop base 5 i0 (.int .u8 0) 1 1 Tryz.underlying35 hi hz0 hz1 hz2 rfl (by decide) v xs.length _ hs hown ⟨b, 0, none⟩ ys.length c (ys.map (Value.int .u8)) hx (by simp)
    ?_ ?_ ?_ ?_ hbase (fun v' w' hown' hgrow _ => h v' w' (by unfold Own; rw [List.length_append, List.map_append]; exact hown') hgrow)
  · intro j u hj
    have hjl : j < ys.length := by
      rcases Nat.lt_or_ge j ys.length with h | h
      · exact h
      · rw [List.getElem?_eq_none (by simpa using h)] at hj; cases hj
    rcases hy.at_ with h0 | ⟨b', off, he, hc⟩
    · rw [h0] at hjl; simp at hjl
    · simp only [Option.some.injEq, Addr.mk.injEq] at he
      obtain ⟨rfl, rfl, _⟩ := he
      have hplain : (⟨b, 0, none⟩ : Addr).add j = ⟨b, 0 + j, none⟩ := by unfold Addr.add; split <;> simp_all
      rw [hplain, hc j hjl, ← hj, getD_lt hjl]; simp [hjl]
  · intro u hu
    obtain ⟨n, _, rfl⟩ := List.mem_map.1 hu
    rfl
  · unfold maxLen; omega
  · omega
theorem Own.at {base : Nat} {w : World} {a : Option Addr} {n c : Nat} {zs : List Int} (h : Own base w (.slice a n c) zs) (hn : 0 < zs.length) : ∃ g, a = some ⟨g, 0, none⟩ ∧ base ≤ g ∧ g < w.heap.size := by
  rcases h.2 with ⟨_, h0⟩ | ⟨g, cap, cur, hv, hb, hh, _⟩
  · omega
  · simp only [Value.slice.injEq] at hv
    exact ⟨g, hv.1, hb, (Array.getElem?_eq_some_iff.1 hh).1⟩
theorem Bytes.grown {w w' : World} {g row : Nat} {zs : List Int} (h : Bytes w (some ⟨g, 0, none⟩) zs) (hg : w.grownBy w' (some row)) (hlt : g < w.heap.size) (hne : g ≠ row) : Bytes w' (some ⟨g, 0, none⟩) zs := by
  refine ⟨h.byte, h.size, ?_⟩
  rcases h.at_ with h0 | ⟨b, off, he, hc⟩
  · exact .inl h0
  · simp only [Option.some.injEq, Addr.mk.injEq] at he
    obtain ⟨rfl, rfl, _⟩ := he
    exact .inr ⟨g, 0, rfl, fun i hi => (World.cell?_of_block (w := w) (hg.block g hlt (fun e => hne (by simpa using e)))).trans (hc i hi)⟩
theorem own_lit_d (w : World) (z : Int) : Own w.heap.size (w.alloc (.cells #[.int .u8 z] 5)).drew (.slice (some ⟨w.heap.size, 0, none⟩) 1 1) [z] := own_lit w z
theorem cat1_len (n : Int) : ([1] ++ encU n).length = 1 + sizeU n := by simp [encU_length]; omega

set_option maxHeartbeats 3200000 in
theorem refPutLimits_capped (n x most : Int) (h : okLim n x true most = true) (h0 : 0 ≤ n ∧ n ≤ 4294967295) (h1 : 0 ≤ x ∧ x ≤ 4294967295) (w : World) : Calls Tryz.prog 116 #[.agg #[.int .u32 n, .int .u32 x, .bool true], .int .u32 most] w (PutOk w (limL n x true)) := by
  have hC := fun w => refCheckLimits_any n x true most w
  have hc0 : codeLim n x true most = 0 := by unfold codeLim; rw [if_pos h]
  simp only [hc0] at hC
  have HCAT := hid (limL_cat n x)
  have HLE := hid (limL_len n x)
  have HC1 := hid (cat1_len n)
  have hs := sizeU_pos n
  have hs2 := sizeU_pos x
  clear hc0 h
  go_enter Tryz.func116, Tryz.ntmps116
  go_wp2_with fail
  refine (hC _).mono ?_
  rintro e w1 ⟨rfl, hb1⟩
  have hW0 : Below w.heap.size w (w.alloc (.cells #[.int .u32 n, .int .u32 x, .bool true] 60)) := (Below.refl _ _).alloc (Nat.le_refl _) _
  have hs0 : w.heap.size + 1 = (w.alloc (.cells #[.int .u32 n, .int .u32 x, .bool true] 60)).heap.size := by simp
  have HS0 := hid hs0
  obtain ⟨d0, d1, d2⟩ := three hb1
  have c0 : (w.alloc (.cells #[.int .u32 n, .int .u32 x, .bool true] 60)).cell? ⟨w.heap.size, 0, none⟩ = some (.int .u32 n) := by go_simp
  have c1 : (w.alloc (.cells #[.int .u32 n, .int .u32 x, .bool true] 60)).cell? ⟨w.heap.size, 1, none⟩ = some (.int .u32 x) := by go_simp
  clear hC hs0
  generalize w.alloc (.cells #[.int .u32 n, .int .u32 x, .bool true] 60) = W0 at *
  go_wp2
  have hS := keepN (w := W0) (w' := w1.drew) c0 c1 hb1.drew
  go_region_held_law (fun w' => Below W0.heap.size W0 w' ∧ w'.cell? ⟨w.heap.size, 0, none⟩ = some (.int .u32 n) ∧ w'.cell? ⟨w.heap.size, 1, none⟩ = some (.int .u32 x))
    (first
      | (with_reducible assumption)
      | (with_reducible exact keepN c0 c1 hB29)
      | (with_reducible exact keepN c0 c1 hB25)
      | (with_reducible exact keepN c0 c1 hA16)
      | (with_reducible exact keepN c0 c1 hA13)
      | (with_reducible exact keepN c0 c1 (thenA hA16 _))
      | (with_reducible exact keepN c0 c1 (thenA hA13 _))
      | exact keepN c0 c1 (hb1.alloc hb1.size _).drew)
    (first
      | (have hoL := ((own_lit_d w1 1).below hb13).mono (base' := W0.heap.size) (hb1.size); have hyc := hy13; have hAc := hA13
         refine step_append_bytes rfl (.tmp 21) (.tmp 24) rfl (base := W0.heap.size) (.slice (some ⟨w1.heap.size, 0, none⟩) 1 1) (by go_simp) hoL hAc.size g13 (sizeU n) c13 (by go_simp) (encU_length n) hyc (by rw [encU_length]; simp; omega) ?_
         intro v25 w25 ho25 hg25
         have hB25 := hAc.grown hg25 hAc.size (fun k h => by simp only [Value.ownBlock, Option.some.injEq] at h; subst h; exact hb1.size)
         clear hoL hyc hAc hg25
         obtain ⟨a25, c25, rfl⟩ := ho25.sliceN HC1.out)
      | (have hoL := (((own_lit_d w1 1).below hb13).below hb16).mono (base' := W0.heap.size) (hb1.size); have hyc := hy13.below hb16; have hAc := hA16
         refine step_append_bytes rfl (.tmp 21) (.tmp 24) rfl (base := W0.heap.size) (.slice (some ⟨w1.heap.size, 0, none⟩) 1 1) (by go_simp) hoL hAc.size g13 (sizeU n) c13 (by go_simp) (encU_length n) hyc (by rw [encU_length]; simp; omega) ?_
         intro v25 w25 ho25 hg25
         have hB25 := hAc.grown hg25 hAc.size (fun k h => by simp only [Value.ownBlock, Option.some.injEq] at h; subst h; exact hb1.size)
         have hy16 := Bytes.grown hy16 hg25 hi16 (by have h1 := hb13.size; have h2 := lo16; (try simp at h1); (try simp at h2); omega)
         clear hoL hyc hAc hg25
         obtain ⟨a25, c25, rfl⟩ := ho25.sliceN HC1.out)
      | (have hoL := (own_lit w13 1).mono (base' := W0.heap.size) (hA13.size); have hyc := hy13.alloc (.cells #[.int .u8 1] 5); have hAc := thenA hA13 (.cells #[.int .u8 1] 5)
         refine step_append_bytes rfl (.tmp 21) (.tmp 24) rfl (base := W0.heap.size) (.slice (some ⟨w13.heap.size, 0, none⟩) 1 1) (by go_simp) hoL hAc.size g13 (sizeU n) c13 (by go_simp) (encU_length n) hyc (by rw [encU_length]; simp; omega) ?_
         intro v25 w25 ho25 hg25
         have hB25 := hAc.grown hg25 hAc.size (fun k h => by simp only [Value.ownBlock, Option.some.injEq] at h; subst h; exact hA13.size)
         clear hoL hyc hAc hg25
         obtain ⟨a25, c25, rfl⟩ := ho25.sliceN HC1.out)
      | (have hoL := ((own_lit w13 1).below hb16).mono (base' := W0.heap.size) (hA13.size); have hyc := (hy13.alloc (.cells #[.int .u8 1] 5)).below hb16; have hAc := hA16
         refine step_append_bytes rfl (.tmp 21) (.tmp 24) rfl (base := W0.heap.size) (.slice (some ⟨w13.heap.size, 0, none⟩) 1 1) (by go_simp) hoL hAc.size g13 (sizeU n) c13 (by go_simp) (encU_length n) hyc (by rw [encU_length]; simp; omega) ?_
         intro v25 w25 ho25 hg25
         have hB25 := hAc.grown hg25 hAc.size (fun k h => by simp only [Value.ownBlock, Option.some.injEq] at h; subst h; exact hA13.size)
         have hy16 := Bytes.grown hy16 hg25 hi16 (by have h2 := lo16; (try simp at h2); omega)
         clear hoL hyc hAc hg25
         obtain ⟨a25, c25, rfl⟩ := ho25.sliceN HC1.out)
      | (have hoL := (own_lit w16 1).mono (base' := W0.heap.size) (hA16.size); have hyc := (hy13.below hb16).alloc (.cells #[.int .u8 1] 5); have hAc := thenA hA16 (.cells #[.int .u8 1] 5)
         refine step_append_bytes rfl (.tmp 21) (.tmp 24) rfl (base := W0.heap.size) (.slice (some ⟨w16.heap.size, 0, none⟩) 1 1) (by go_simp) hoL hAc.size g13 (sizeU n) c13 (by go_simp) (encU_length n) hyc (by rw [encU_length]; simp; omega) ?_
         intro v25 w25 ho25 hg25
         have hB25 := hAc.grown hg25 hAc.size (fun k h => by simp only [Value.ownBlock, Option.some.injEq] at h; subst h; exact hA16.size)
         have hy16 := Bytes.grown (hy16.alloc (.cells #[.int .u8 1] 5)) hg25 (by simp; omega) (by omega)
         clear hoL hyc hAc hg25
         obtain ⟨a25, c25, rfl⟩ := ho25.sliceN HC1.out)
      | (have hoM := ho25.below hb16; have hAc := hA16
         refine step_append_bytes rfl (.tmp 25) (.tmp 28) rfl (base := W0.heap.size) (.slice a25 (1 + sizeU n) c25) (by go_simp) hoM hAc.size g16 (sizeU x) c16 (by go_simp) (encU_length x) hy16 (by rw [HC1.out, encU_length]; omega) ?_
         intro v29 w29 ho29 hg29
         have hB29 := hAc.grown hg29 hAc.size (fun k h => (World.ownsRow.lt hoM k h).1)
         clear hoM hAc hg29
         rw [HCAT.out] at ho29
         obtain ⟨a29, c29, rfl⟩ := ho29.sliceN HLE.out)
      | (have hoM := ho25; have hAc := hB25
         refine step_append_bytes rfl (.tmp 25) (.tmp 28) rfl (base := W0.heap.size) (.slice a25 (1 + sizeU n) c25) (by go_simp) hoM hAc.size g16 (sizeU x) c16 (by go_simp) (encU_length x) hy16 (by rw [HC1.out, encU_length]; omega) ?_
         intro v29 w29 ho29 hg29
         have hB29 := hAc.grown hg29 hAc.size (fun k h => (World.ownsRow.lt hoM k h).1)
         clear hoM hAc hg29
         rw [HCAT.out] at ho29
         obtain ⟨a29, c29, rfl⟩ := ho29.sliceN HLE.out)
      | (go_at_call 113; ((with_reducible refine (refU_any n _ (by omega) (by omega)).mono ?_); rintro e w13 ⟨v13, rfl, ho13, hb13⟩; obtain ⟨a13, c13, rfl⟩ := ho13.sliceN (encU_length n); obtain ⟨g13, rfl, lo13, hi13⟩ := Own.at ho13 (by rw [encU_length]; omega); have hy13 := ho13.bytes (encU_bytes n) (by rw [encU_length]; omega); have hA13 := thenB (w := W0) (box_out (x := .int .u32 n) (y := .int .u32 x) (k := w.heap.size) (by assumption)) hb13; clear ho13))
      | (go_at_call 113; ((with_reducible refine (refU_any x _ (by omega) (by omega)).mono ?_); rintro e w16 ⟨v16, rfl, ho16, hb16⟩; obtain ⟨a16, c16, rfl⟩ := ho16.sliceN (encU_length x); obtain ⟨g16, rfl, lo16, hi16⟩ := Own.at ho16 (by rw [encU_length]; omega); have hy16 := ho16.bytes (encU_bytes x) (by rw [encU_length]; omega); have hA16 := thenB (w := W0) (box_out (x := .int .u32 n) (y := .int .u32 x) (k := w.heap.size) (by assumption)) hb16; clear ho16)))
  all_goals go_wp2
  all_goals go_ret2
  all_goals exact ⟨.slice a29 (1 + sizeU n + sizeU x) c29, by simp, ho29.mono (by have := HS0.out; omega), hW0.trans (hB29.mono (by have := HS0.out; omega))⟩
end Go.Proofs.YtepbjkkakfpjgaaGreatDoor.Kind

namespace Go.Proofs.YtepbjkkakfpjgaaGreatDoor.Kind
set_option linter.unusedVariables false
open Go.RowKit Go.Proofs.YtepbjkkakfpjgaaGreatDoor.Leb

def putZ (p r : Int) : List Int := if okType p r then typeL p r else []
def limZ (n x : Int) (c : Bool) (most : Int) : List Int := if okLim n x c most then limL n x c else []
def PutRes (w : World) (zs : List Int) (m : Nat) (er : Int) (e : Ending) (w' : World) : Prop := ∃ a q, e = .returned (.tuple #[.slice a m q, .int .i64 er]) ∧ Bytes w' a zs ∧ Hid (a = none → q = 0) ∧ Below w.heap.size w w'

theorem typeL_bytes (p r : Int) : ∀ z ∈ typeL p r, 0 ≤ z ∧ z < 256 := by
  intro z hz
  unfold typeL at hz
  rcases List.mem_cons.1 hz with h | h
  · omega
  · rcases List.mem_append.1 h with h | h
    · exact wordsL_bytes _ z h
    · exact wordsL_bytes _ z h
theorem limL_bytes (n x : Int) (c : Bool) : ∀ z ∈ limL n x c, 0 ≤ z ∧ z < 256 := by
  intro z hz
  unfold limL at hz
  cases c
  · simp only [Bool.false_eq_true, if_false] at hz
    rcases List.mem_cons.1 hz with h | h
    · omega
    · exact encU_bytes _ z h
  · simp only [if_true] at hz
    rcases List.mem_cons.1 hz with h | h
    · omega
    · rcases List.mem_append.1 h with h | h
      · exact encU_bytes _ z h
      · exact encU_bytes _ z h
theorem putRes_ok {w w' : World} {zs : List Int} {m : Nat} {e : Ending} (hm : zs.length = m) (hb : ∀ z ∈ zs, 0 ≤ z ∧ z < 256) (hl : zs.length ≤ 1000) (h : PutOk w zs e w') : PutRes w zs m 0 e w' := by
  obtain ⟨v, he, ho, hB⟩ := h
  obtain ⟨a, q, rfl⟩ := ho.sliceN hm
  exact ⟨a, q, he, ho.bytes hb (by omega), ho.nil, hB⟩
theorem putRes_no {w w' : World} {e : Ending} (h : PutNo w e w') : PutRes w [] 0 2 e w' :=
  ⟨none, 0, h.1, ⟨by simp, by simp, .inl rfl⟩, (hid fun _ => rfl), h.2⟩
theorem okType_nat {p r : Int} (h : okType p r = true) : ∃ a b : Nat, p = a ∧ r = b ∧ a ≤ 255 ∧ b ≤ 1 := by
  unfold okType at h; simp at h
  exact ⟨p.toNat, r.toNat, by omega, by omega, by omega, by omega⟩
theorem typeL_le (p r : Nat) (hp : p ≤ 255) (hr : r ≤ 1) : (typeL p r).length ≤ 1000 := by
  rw [typeL_len]; have := sizeU_pos p; have := sizeU_pos r; omega
theorem put_any (p r : Int) (m : Nat) (hm : (putZ p r).length = m) (w : World) : Calls Tryz.prog 194 #[.agg #[.int .i64 p, .int .i64 r]] w (PutRes w (putZ p r) m (codeType p r)) := by
  by_cases h : okType p r = true
  · have e1 : putZ p r = typeL p r := by unfold putZ; rw [if_pos h]
    have e2 : codeType p r = 0 := by unfold codeType; rw [if_pos h]
    rw [e1] at hm; rw [e1, e2]
    obtain ⟨a, b, rfl, rfl, ha, hb⟩ := okType_nat h
    exact (put_ok a b ha hb w).mono fun e w' he => putRes_ok hm (typeL_bytes _ _) (typeL_le a b ha hb) he
  · have h' : okType p r = false := by simpa using h
    have e1 : putZ p r = [] := by unfold putZ; rw [h']; rfl
    have e2 : codeType p r = 2 := by unfold codeType; rw [h']; rfl
    rw [e1] at hm; rw [e1, e2]
    obtain rfl : m = 0 := by simpa using hm.symm
    exact (put_no p r h' w).mono fun e w' he => putRes_no he
theorem refPut_any (p r : Int) (m : Nat) (hm : (putZ p r).length = m) (w : World) : Calls Tryz.prog 114 #[.agg #[.int .i64 p, .int .i64 r]] w (PutRes w (putZ p r) m (codeType p r)) := by
  by_cases h : okType p r = true
  · have e1 : putZ p r = typeL p r := by unfold putZ; rw [if_pos h]
    have e2 : codeType p r = 0 := by unfold codeType; rw [if_pos h]
    rw [e1] at hm; rw [e1, e2]
    obtain ⟨a, b, rfl, rfl, ha, hb⟩ := okType_nat h
    exact (refPut_ok a b ha hb w).mono fun e w' he => putRes_ok hm (typeL_bytes _ _) (typeL_le a b ha hb) he
  · have h' : okType p r = false := by simpa using h
    have e1 : putZ p r = [] := by unfold putZ; rw [h']; rfl
    have e2 : codeType p r = 2 := by unfold codeType; rw [h']; rfl
    rw [e1] at hm; rw [e1, e2]
    obtain rfl : m = 0 := by simpa using hm.symm
    exact (refPut_no p r h' w).mono fun e w' he => putRes_no he
theorem limL_le (n x : Int) (c : Bool) : (limL n x c).length ≤ 1000 := by
  have := sizeU_pos n; have := sizeU_pos x
  cases c <;> unfold limL <;> simp [encU_length] <;> omega
theorem putLim_any (n x : Int) (c : Bool) (most : Int) (m : Nat) (hm : (limZ n x c most).length = m) (h0 : 0 ≤ n ∧ n ≤ 4294967295) (h1 : 0 ≤ x ∧ x ≤ 4294967295) (w : World) :
    Calls Tryz.prog 196 #[.agg #[.int .u32 n, .int .u32 x, .bool c], .int .u32 most] w (PutRes w (limZ n x c most) m (codeLim n x c most)) := by
  by_cases h : okLim n x c most = true
  · have e1 : limZ n x c most = limL n x c := by unfold limZ; rw [if_pos h]
    have e2 : codeLim n x c most = 0 := by unfold codeLim; rw [if_pos h]
    rw [e1] at hm; rw [e1, e2]
    cases c
    · exact (putLimits_plain n x most h h0 w).mono fun e w' he => putRes_ok hm (limL_bytes _ _ _) (limL_le _ _ _) he
    · exact (putLimits_capped n x most h h0 h1 w).mono fun e w' he => putRes_ok hm (limL_bytes _ _ _) (limL_le _ _ _) he
  · have h' : okLim n x c most = false := by simpa using h
    have e1 : limZ n x c most = [] := by unfold limZ; rw [h']; rfl
    have e2 : codeLim n x c most = 2 := by unfold codeLim; rw [h']; rfl
    rw [e1] at hm; rw [e1, e2]
    obtain rfl : m = 0 := by simpa using hm.symm
    exact (putLimits_no n x c most h' w).mono fun e w' he => putRes_no he
theorem refPutLim_any (n x : Int) (c : Bool) (most : Int) (m : Nat) (hm : (limZ n x c most).length = m) (h0 : 0 ≤ n ∧ n ≤ 4294967295) (h1 : 0 ≤ x ∧ x ≤ 4294967295) (w : World) :
    Calls Tryz.prog 116 #[.agg #[.int .u32 n, .int .u32 x, .bool c], .int .u32 most] w (PutRes w (limZ n x c most) m (codeLim n x c most)) := by
  by_cases h : okLim n x c most = true
  · have e1 : limZ n x c most = limL n x c := by unfold limZ; rw [if_pos h]
    have e2 : codeLim n x c most = 0 := by unfold codeLim; rw [if_pos h]
    rw [e1] at hm; rw [e1, e2]
    cases c
    · exact (refPutLimits_plain n x most h h0 w).mono fun e w' he => putRes_ok hm (limL_bytes _ _ _) (limL_le _ _ _) he
    · exact (refPutLimits_capped n x most h h0 h1 w).mono fun e w' he => putRes_ok hm (limL_bytes _ _ _) (limL_le _ _ _) he
  · have h' : okLim n x c most = false := by simpa using h
    have e1 : limZ n x c most = [] := by unfold limZ; rw [h']; rfl
    have e2 : codeLim n x c most = 2 := by unfold codeLim; rw [h']; rfl
    rw [e1] at hm; rw [e1, e2]
    obtain rfl : m = 0 := by simpa using hm.symm
    exact (refPutLimits_no n x c most h' w).mono fun e w' he => putRes_no he

end Go.Proofs.YtepbjkkakfpjgaaGreatDoor.Kind

namespace Go.Proofs.YtepbjkkakfpjgaaGreatDoor.Enc
open Go.RowKit Go.Proofs.YtepbjkkakfpjgaaGreatDoor.Instr Go.Proofs.YtepbjkkakfpjgaaGreatDoor.Leb Go.Proofs.YtepbjkkakfpjgaaGreatDoor.Mod
open Go.Proofs.YtepbjkkakfpjgaaGreatDoor.Body (encL codeL)

def insB (l : Lst) : List Int := Go.Proofs.YtepbjkkakfpjgaaGreatDoor.Body.encP l.t
def nameB (s : ByteArray) : List Int := encU s.size ++ numsOf s
def tyB (x : Int × Int) : List Int := Kind.typeL x.1 x.2
def impB (i : Imp) : List Int := nameB i.mo ++ (nameB i.na ++ (0 :: encU i.ty))
def fnB (f : Mod.Fn) : List Int := encU f.ty
def tbB (l : Li) : List Int := 112 :: Kind.limL l.n l.x l.c
def meB (l : Li) : List Int := Kind.limL l.n l.x l.c
def glB (g : Gl) : List Int := 127 :: (if g.mu then 1 else 0) :: insB g.l
def exB (e : Ex) : List Int := nameB e.na ++ (e.k :: encU e.i)
def elB (e : El) : List Int := 0 :: (insB e.l ++ (encU e.fs.length ++ e.fs.flatMap encU))
def coB (f : Mod.Fn) : List Int := encU (codeL f.lo f.l.t).length ++ codeL f.lo f.l.t
def daB (d : Da) : List Int := 0 :: (insB d.l ++ (encU d.bs.length ++ d.bs))
/-- A list: how many, and each; nothing of an empty one. -/
def lstB {α : Type} (f : α → List Int) (l : List α) : List Int := if l.length = 0 then [] else encU l.length ++ l.flatMap f
/-- A section after its size, by its number less one. -/
def secB (m : Md) : Nat → List Int
  | 0 => lstB tyB m.ty
  | 1 => lstB impB m.im
  | 2 => lstB fnB m.fu
  | 3 => lstB tbB m.tb
  | 4 => lstB meB m.me
  | 5 => lstB glB m.gl
  | 6 => lstB exB m.ex
  | 7 => if m.st then encU m.sn else []
  | 8 => lstB elB m.el
  | 9 => lstB coB m.fu
  | 10 => lstB daB m.da
  | _ => []
/-- A section with its number and size, unless it is left out. -/
def pieceB (m : Md) (k : Nat) : List Int := if secB m k = [] then [] else ((k + 1 : Nat) : Int) :: (encU (secB m k).length ++ secB m k)
def headB : List Int := [0, 97, 115, 109, 1, 0, 0, 0]
/-- The first k sections, and what is ahead of them. -/
def uptoB (m : Md) (k : Nat) : List Int := headB ++ (List.range k).flatMap (pieceB m)
def modB (m : Md) : List Int := uptoB m 11
theorem upto_succ (m : Md) (k : Nat) : uptoB m (k + 1) = uptoB m k ++ pieceB m k := by
  unfold uptoB
  rw [List.range_succ, List.flatMap_append, List.append_assoc]
  simp
theorem flat_step {α : Type} (f : α → List Int) {l : List α} {k : Nat} (hk : k < l.length) : (l.take (k + 1)).flatMap f = (l.take k).flatMap f ++ f l[k] := by
  rw [List.take_succ_eq_append_getElem hk, List.flatMap_append]
  simp
end Go.Proofs.YtepbjkkakfpjgaaGreatDoor.Enc

namespace Go.Proofs.YtepbjkkakfpjgaaGreatDoor.Enc
open Go.RowKit
open Go.Proofs.YtepbjkkakfpjgaaGreatDoor.Body (Grew)

/-- All that a row's block holds are bytes. -/
def Full (v : Value) (w : World) : Prop := ∀ g, v.ownBlock = some g → ∃ (cs : Array Value) (e : TypeId) (m : Nat × Nat), w.heap[g]? = some (.cells cs e m) ∧ ∀ u ∈ cs.toList, ∃ z, u = Value.int .u8 z
theorem Full.none (a : Nat) (c : Nat) (w : World) : Full (.slice none a c) w := fun g hg => by simp [Value.ownBlock] at hg
theorem Full.touch {S : Nat → Prop} {v : Value} {w w' : World} (h : Full v w) (ht : Touch S w w') (hk : ∀ g, v.ownBlock = some g → ¬ S g) : Full v w' := fun g hg => by
  obtain ⟨cs, e, m, hh, hc⟩ := h g hg
  exact ⟨cs, e, m, (ht.block g (Array.getElem?_eq_some_iff.1 hh).1 (hk g hg)).trans hh, hc⟩
theorem Full.below {v : Value} {w w' : World} (h : Full v w) (hb : Below w.heap.size w w') : Full v w' := h.touch (S := fun _ => False) (.of_below hb) (fun _ _ h => h)
theorem Full.new {w : World} {g n c : Nat} {cs : Array Value} {e : TypeId} {m : Nat × Nat} (hg : g = w.heap.size) (hc : ∀ u ∈ cs.toList, ∃ z, u = Value.int .u8 z) : Full (.slice (some ⟨g, 0, Option.none⟩) n c) (w.alloc (.cells cs e m)) := fun q hq => by
  simp only [Value.ownBlock, Option.some.injEq] at hq
  subst hq; subst hg
  exact ⟨cs, e, m, heap_alloc_new w _, hc⟩
theorem zeros_full (n : Nat) : ∀ u ∈ (Builtin.zeroCells (Value.int .u8 0).cells n).toList, ∃ z, u = Value.int .u8 z := by
  intro u hu
  simp [Builtin.zeroCells, Value.cells] at hu
  obtain ⟨a, _, h⟩ := hu
  rw [Nat.mod_one] at h
  exact ⟨0, by simpa using h.symm⟩
theorem ints_full (l : List Int) : ∀ u ∈ l.map (Value.int .u8), ∃ z, u = Value.int .u8 z := by
  intro u hu
  obtain ⟨z, _, rfl⟩ := List.mem_map.1 hu
  exact ⟨z, rfl⟩
/-- An append of bytes to such a row gives such a row. -/
theorem append_full (t ty : TypeId) (ht : Tryz.prog.underlying t = some (.slice 5)) {B : Nat} {wr w' : World} {v v' : Value} {xs ys : List Int} (hown : Own B wr v xs) (ad : Addr) (n c : Nat) (hn : ys.length = n)
    (hnews : ∀ (j : Nat) (u : Value), (ys.map (Value.int .u8))[j]? = some u → wr.cell? (ad.add j) = some u) (hl : xs.length + ys.length ≤ 140737488351232)
    (hr : (Builtin.append_ #[t, t] ty #[v, .slice (some ad) n c]).run Tryz.prog wr = .ok v' w') (hF : Full v wr) : Full v' w' := by
  obtain ⟨i0, hi, hz0, hz1, hz2⟩ := info_parts infoByte
  subst hn
  have hnl : (ys.map (Value.int .u8)).length = ys.length * i0.size := by rw [hz1]; simp
  rcases hown.2 with ⟨rfl, h0⟩ | ⟨g, cap, cur, rfl, hbg, hg, hnc, hcm, hcs, htake⟩
  · by_cases hm : ys.length = 0
    · have hy : ys = [] := List.eq_nil_of_length_eq_zero hm
      subst hy
      have : (Builtin.append_ #[t, t] ty #[.slice Option.none 0 0, .slice (some ad) ([] : List Int).length c]).run Tryz.prog wr = .ok (.slice Option.none 0 0) wr := by
        simp [Builtin.append_, run_underlying ht, sizeOf, typeInfo, hi, Builtin.lenOf, Builtin.firstCells, loadCells, loadCellsFrom]
      rw [this] at hr
      simp only [Result.ok.injEq] at hr
      obtain ⟨rfl, rfl⟩ := hr
      exact hF
    · have h2 := run_append_nil (P := Tryz.prog) wr t ty 5 i0 (.int .u8 0) ht hi hz0 ad ys.length c (ys.map (Value.int .u8)) hnl hnews (by omega) (by omega) (by rw [hz2]; omega)
      rw [h2] at hr
      simp only [Result.ok.injEq] at hr
      obtain ⟨rfl, rfl⟩ := hr
      refine Full.new (w := wr.drew) rfl fun u hu => ?_
      rw [Array.toList_append] at hu
      rcases List.mem_append.1 hu with h | h
      · exact ints_full ys u (by simpa using h)
      · exact zeros_full _ u h
  · by_cases hroom : xs.length + ys.length ≤ cap
    · have h2 := run_append_room (P := Tryz.prog) wr t ty 5 i0 ht hi g xs.length cap cur hg ad ys.length c (ys.map (Value.int .u8)) hnl hnews (fun u hu => by obtain ⟨n, _, rfl⟩ := List.mem_map.1 hu; rfl) hroom (by rw [hz1, hcs]; simp; omega)
      rw [h2] at hr
      simp only [Result.ok.injEq] at hr
      obtain ⟨rfl, rfl⟩ := hr
      intro q hq
      simp only [Value.ownBlock, Option.some.injEq] at hq
      subst hq
      refine ⟨_, _, _, setRow_heap wr g cur _ 5 _ hg, fun u hu => ?_⟩
      obtain ⟨cs, e, m, hh, hc⟩ := hF g rfl
      rw [hg] at hh
      simp only [Option.some.injEq, Obj.cells.injEq] at hh
      obtain ⟨rfl, rfl, rfl⟩ := hh
      rw [List.toList_toArray] at hu
      rcases List.mem_append.1 hu with h | h
      · rcases List.mem_append.1 h with h | h
        · exact hc u (List.mem_of_mem_take h)
        · exact ints_full ys u h
      · exact hc u (List.mem_of_mem_drop h)
    · have holds : ∀ (j : Nat) (u : Value), (xs.map (Value.int .u8))[j]? = some u → wr.cell? ((⟨g, 0, Option.none⟩ : Addr).add j) = some u := by
        intro j u hj
        have := World.ownsRow.cells (show wr.ownsRow B 5 1 (.slice (some ⟨g, 0, Option.none⟩) xs.length cap) xs.length (xs.map (Value.int .u8)) from hown) (g := g) rfl j u hj
        exact this
      have h2 := run_append_grow (P := Tryz.prog) wr t ty 5 i0 (.int .u8 0) ht hi hz0 ⟨g, 0, Option.none⟩ xs.length cap (xs.map (Value.int .u8)) (by rw [hz1]; simp) holds ad ys.length c (ys.map (Value.int .u8)) hnl hnews (by omega) (by omega) (growslice_fits (by omega) (by rw [hz2]; omega))
      rw [h2] at hr
      simp only [Result.ok.injEq] at hr
      obtain ⟨rfl, rfl⟩ := hr
      refine Full.new (w := wr.drew) rfl fun u hu => ?_
      simp only [Array.toList_append] at hu
      rcases List.mem_append.1 hu with h | h
      · rcases List.mem_append.1 h with h | h
        · exact ints_full xs u (by simpa using h)
        · exact ints_full ys u (by simpa using h)
      · exact zeros_full _ u h
end Go.Proofs.YtepbjkkakfpjgaaGreatDoor.Enc

namespace Go.Proofs.YtepbjkkakfpjgaaGreatDoor.Enc
open Go.RowKit
open Go.Proofs.YtepbjkkakfpjgaaGreatDoor.Body (Grew)

/-- From world w0, in which cell g held v0, on: it holds v, whose row holds these bytes. -/
structure Buf (g B : Nat) (v0 : Value) (w0 : World) (v : Value) (zs : List Int) (w : World) : Prop where
  c : w.cell? ⟨g, 0, none⟩ = some v
  f : w.frozen? ⟨g, 0, none⟩ = false
  own : Own B w v zs
  touch : Touch (fun j => j = g ∨ v0.ownBlock = some j) w0 w
  rest : ∀ j, j ≠ 0 → w.cell? ⟨g, j, none⟩ = w0.cell? ⟨g, j, none⟩
  new : ∀ q, v.ownBlock = some q → v0.ownBlock = some q ∨ w0.heap.size ≤ q
  sep : v.ownBlock ≠ some g
  low : g ≤ B + 1
  lowB : B ≤ w0.heap.size
  gl : g < w0.heap.size
  full : Full v0 w0 → Full v w
theorem Buf.start {g B : Nat} {v : Value} {zs : List Int} {w : World} (c : w.cell? ⟨g, 0, none⟩ = some v) (f : w.frozen? ⟨g, 0, none⟩ = false) (own : Own B w v zs) (sep : v.ownBlock ≠ some g) (low : g ≤ B + 1) (lowB : B ≤ w.heap.size) : Buf g B v w v zs w :=
  ⟨c, f, own, .refl _ _, fun _ _ => rfl, fun _ h => .inl h, sep, low, lowB, World.block_lt_of_cell? w _ c, id⟩
theorem Buf.again {g B : Nat} {v0 v : Value} {zs : List Int} {w0 w : World} (h : Buf g B v0 w0 v zs w) : Buf g B v w v zs w := .start h.c h.f h.own h.sep h.low (Nat.le_trans h.lowB h.touch.size)
theorem Buf.lt {g B : Nat} {v0 v : Value} {zs : List Int} {w0 w : World} (h : Buf g B v0 w0 v zs w) : g < w.heap.size := World.block_lt_of_cell? w _ h.c
theorem Buf.ne {g B : Nat} {v0 v : Value} {zs : List Int} {w0 w : World} (h : Buf g B v0 w0 v zs w) : ¬ v.ownBlock = some g := h.sep
theorem Buf.trans {g B : Nat} {v0 v1 v2 : Value} {xs zs : List Int} {w0 w1 w2 : World} (h : Buf g B v0 w0 v1 xs w1) (k : Buf g B v1 w1 v2 zs w2) : Buf g B v0 w0 v2 zs w2 := by
  refine ⟨k.c, k.f, k.own, ⟨k.touch.os.trans h.touch.os, k.touch.tape.trans h.touch.tape, k.touch.output.trans h.touch.output, Nat.le_trans h.touch.size k.touch.size, fun j hj hk => ?_⟩, fun j hj => (k.rest j hj).trans (h.rest j hj), fun q hq => ?_, k.sep, h.low, h.lowB, h.gl, fun a => k.full (h.full a)⟩
  · refine (k.touch.block j (Nat.lt_of_lt_of_le hj h.touch.size) (fun e => ?_)).trans (h.touch.block j hj hk)
    rcases e with e | e
    · exact hk (.inl e)
    · rcases h.new j e with e | e
      · exact hk (.inr e)
      · omega
  · rcases k.new q hq with e | e
    · exact h.new q e
    · exact .inr (Nat.le_trans h.touch.size e)
theorem Buf.on {g B : Nat} {v0 v : Value} {zs : List Int} {w0 w w' : World} (h : Buf g B v0 w0 v zs w) (hb : Below w.heap.size w w') : Buf g B v0 w0 v zs w' := by
  refine ⟨keep hb h.c, (hb.frozen (p := ⟨g, 0, none⟩) h.lt).trans h.f, h.own.below hb, h.touch.trans (Touch.of_below hb), fun j hj => ?_, h.new, h.sep, h.low, h.lowB, h.gl, fun a => (h.full a).below hb⟩
  exact (hb.cell (p := ⟨g, j, none⟩) h.lt).trans (h.rest j hj)
/-- Bytes are appended, and the slice is stored. -/
theorem Buf.put {g B : Nat} {v0 v v' : Value} {xs zs : List Int} {w0 w w' : World} (h : Buf g B v0 w0 v xs w) (k : Grew B v w v' zs w') (kf : Full v w → Full v' w') : Buf g B v0 w0 v' zs (w'.setCell ⟨g, 0, none⟩ v') := by
  have hg : g < w'.heap.size := Nat.lt_of_lt_of_le h.lt k.touch.size
  have hsep : v'.ownBlock ≠ some g := fun e => by
    rcases k.new _ e with e | e
    · exact h.sep e
    · have := h.lt; omega
  have hcell : ∀ j, w'.cell? ⟨g, j, none⟩ = w.cell? ⟨g, j, none⟩ := fun j => World.cell?_of_block (k.touch.block g h.lt h.ne)
  have hfr : w'.frozen? ⟨g, 0, none⟩ = false := (World.frozen?_of_block (w := w) (k.touch.block g h.lt h.ne)).trans h.f
  have t1 : Touch (fun j => j = g ∨ v.ownBlock = some j) w (w'.setCell ⟨g, 0, none⟩ v') := (k.touch.mono (fun j hj => .inr hj)).setCell (.inl (.inl rfl)) v'
  refine ⟨World.cell?_setCell_same' _ _ _ (by rw [hcell 0, h.c]; rfl), by rw [World.frozen?_setCell]; exact hfr, touch_row k.own ((Touch.refl (fun j => j = g) w').setCell (.inl rfl) v') (fun q hq e => hsep (by rw [hq, e])), ⟨t1.os.trans h.touch.os, t1.tape.trans h.touch.tape, t1.output.trans h.touch.output, Nat.le_trans h.touch.size t1.size, fun j hj hk => ?_⟩, fun j hj => ?_, fun q hq => ?_, hsep, h.low, h.lowB, h.gl, fun a => (kf (h.full a)).touch ((Touch.refl (fun j => j = g) w').setCell (.inl rfl) v') (fun q hq e => hsep (by rw [hq, e]))⟩
  · refine (t1.block j (Nat.lt_of_lt_of_le hj h.touch.size) (fun e => ?_)).trans (h.touch.block j hj hk)
    rcases e with e | e
    · exact hk (.inl e)
    · rcases h.new j e with e | e
      · exact hk (.inr e)
      · omega
  · refine Eq.trans ?_ ((hcell j).trans (h.rest j hj))
    exact World.cell?_setCell_other _ _ _ _ (by intro e; simp only [Addr.mk.injEq, true_and, and_true] at e; exact hj e.symm)
  · rcases k.new q hq with e | e
    · exact h.new q e
    · exact .inr (Nat.le_trans h.touch.size e)
theorem Buf.old {g B : Nat} {v0 v v' : Value} {xs zs : List Int} {w0 w w' : World} (h : Buf g B v0 w0 v xs w) (k : Grew B v w v' zs w') : w'.cell? ⟨g, 0, none⟩ = some v ∧ w'.frozen? ⟨g, 0, none⟩ = false :=
  ⟨(World.cell?_of_block (k.touch.block g h.lt h.ne)).trans h.c, (World.frozen?_of_block (w := w) (k.touch.block g h.lt h.ne)).trans h.f⟩
/-- What lies below, but for the row, is as it was. -/
theorem Buf.below {g B n : Nat} {v0 v : Value} {zs : List Int} {w0 w : World} (h : Buf g B v0 w0 v zs w) (hg : n ≤ g) (hv : ∀ q, v0.ownBlock = some q → n ≤ q) : Below n w0 w :=
  h.touch.below (Nat.le_trans hg (Nat.le_of_lt h.gl)) (fun j hj => by rcases hj with rfl | hj; exact hg; exact hv j hj)
/-- A method that appends these bytes to the bytes in cell g. -/
def Puts (g B : Nat) (v : Value) (w : World) (zs : List Int) (e : Ending) (w' : World) : Prop := e = .returned (.tuple #[]) ∧ ∃ v', Buf g B v w v' zs w'
end Go.Proofs.YtepbjkkakfpjgaaGreatDoor.Enc

namespace Go.Proofs.YtepbjkkakfpjgaaGreatDoor.Enc
open Go.RowKit Go.Proofs.YtepbjkkakfpjgaaGreatDoor.Leb
open Go.Proofs.YtepbjkkakfpjgaaGreatDoor.Body (Grew)

theorem run_append_two (t t2 ty e e2 : TypeId) (ht : Tryz.prog.underlying t = some (.slice e)) (ht2 : Tryz.prog.underlying t2 = some (.slice e2)) (s x : Value) (w : World) :
    (Builtin.append_ #[t, t2] ty #[s, x]).run Tryz.prog w = (Builtin.append_ #[t, t] ty #[s, x]).run Tryz.prog w := by
  cases s <;> simp [Builtin.append_, run_underlying ht, run_underlying ht2, sizeOf, typeInfo]
/-- An append of bytes as the program runs it. -/
theorem run_puts (t2 e2 ty : TypeId) (ht2 : Tryz.prog.underlying t2 = some (.slice e2)) {B : Nat} {wr : World} {v : Value} {xs ys : List Int} (hown : Own B wr v xs) (hB : B ≤ wr.heap.size)
    (a : Option Addr) (n c : Nat) (hn : ys.length = n) (hy : Bytes wr a ys) (hl : xs.length + ys.length ≤ 140737488351232) :
    ∃ v' w', (Builtin.append_ #[76, t2] ty #[v, .slice a n c]).run Tryz.prog wr = .ok v' w' ∧ Grew B v wr v' (xs ++ ys) w' ∧ (Full v wr → Full v' w') := by
  obtain ⟨i0, hi, hz0, hz1, hz2⟩ := info_parts infoByte
  subst hn
  rw [run_append_two _ t2 _ _ e2 Tryz.underlying76 ht2]
  have fin : ∀ (v' : Value) (w' : World), w'.ownsRow B 5 1 v' (xs.length + ys.length) (xs.map (Value.int .u8) ++ ys.map (Value.int .u8)) → wr.grownBy w' v.ownBlock → (v'.ownBlock = v.ownBlock ∨ v'.ownBlock = some wr.heap.size) → Grew B v wr v' (xs ++ ys) w' := by
    intro v' w' h1 h2 h3
    refine ⟨by unfold Own; rw [List.length_append, List.map_append]; exact h1, Touch.of_grown h2, fun g hg => ?_⟩
    rcases h3 with h3 | h3
    · exact .inl (by rw [← h3]; exact hg)
    · rw [h3, Option.some.injEq] at hg; exact .inr (by omega)
  cases a with
  | none =>
    have h0 : ys = [] := by
      rcases hy.at_ with h | ⟨b, off, h, _⟩
      · exact h
      · cases h
    subst h0
    refine ⟨v, wr, ?_, by rw [List.append_nil]; exact Grew.refl hown, id⟩
    rcases hown.2 with ⟨rfl, h0⟩ | ⟨g, cap, cur, rfl, _, _, hnc, _⟩
    · simp [Builtin.append_, run_underlying Tryz.underlying76, sizeOf, typeInfo, hi, Builtin.lenOf, Builtin.firstCells]
    · simp [Builtin.append_, run_underlying Tryz.underlying76, sizeOf, typeInfo, hi, Builtin.lenOf, Builtin.firstCells, hnc, storeCells]
  | some ad =>
    have hnews : ∀ (j : Nat) (u : Value), (ys.map (Value.int .u8))[j]? = some u → wr.cell? (ad.add j) = some u := by
      intro j u hj
      have hjl : j < ys.length := by
        rcases Nat.lt_or_ge j ys.length with h | h
        · exact h
        · rw [List.getElem?_eq_none (by simpa using h)] at hj; cases hj
      rcases hy.at_ with h | ⟨b, off, h, hc⟩
      · subst h; exact absurd hjl (by simp)
      · obtain rfl := Option.some.inj h
        have hplain : (⟨b, off, none⟩ : Addr).add j = ⟨b, off + j, none⟩ := by unfold Addr.add; split <;> simp_all
        rw [hplain, hc j hjl]
        rw [← hj, getD_lt hjl]; simp [hjl]
    obtain ⟨v', w', hr, h2, h3, _, h5⟩ := run_append_own_at (P := Tryz.prog) wr B 76 ty 5 i0 (.int .u8 0) 1 1 Tryz.underlying76 hi hz0 hz1 hz2 rfl (by decide) v xs.length _ hown ad ys.length c (ys.map (Value.int .u8)) (by simp)
      hnews (fun u hu => by obtain ⟨n, _, rfl⟩ := List.mem_map.1 hu; rfl) (by unfold maxLen; omega) (by omega) hB
    exact ⟨v', w', hr, fin v' w' h2 h3 h5, fun hF => append_full _ ty Tryz.underlying76 hown ad ys.length c rfl hnews hl hr hF⟩
section
variable {ops : Array Oper} {rest : List Oper} {o : Oper} {act : Act} {Q : Exit → Act → World → Prop}
theorem puts_wp (t2 e2 : TypeId) (ht2 : Tryz.prog.underlying t2 = some (.slice e2)) (hgd : o.guard = none) (s x : Operand) (ho : o.op = .call { callee := .builtin .append, args := #[s, x], argTypes := #[76, t2] })
    {B : Nat} {wr : World} {v : Value} {xs ys : List Int} (hs : act.eval s = v) (hown : Own B wr v xs) (hB : B ≤ wr.heap.size)
    (a : Option Addr) (n c : Nat) (hx : act.eval x = .slice a n c) (hn : ys.length = n) (hy : Bytes wr a ys) (hl : xs.length + ys.length ≤ 140737488351232)
    (h : ∀ v' w', Grew B v wr v' (xs ++ ys) w' → (Full v wr → Full v' w') → wpList Tryz.prog ops Q rest (act.put o.dst v') w') :
    wpList Tryz.prog ops Q (o :: rest) act wr := by
  refine wpList_plain hgd fun K hK => ?_
  obtain ⟨v', w', hr, hg, hgf⟩ := run_puts t2 e2 o.type ht2 hown hB a n c hn hy hl
  unfold Oper.wp
  simp [execOp, ho, resolve, invoke, builtin, hs, hx, hr, Result.andThen]
  exact hK _ _ (h v' w' hg hgf)
end
section
variable {ops : Array Oper} {o : Oper} {act : Act} {K : Act → World → Prop} {Q : Exit → Act → World → Prop} {E : Prop}
theorem puts_step (t2 e2 : TypeId) (ht2 : Tryz.prog.underlying t2 = some (.slice e2)) (hgd : o.guard = none) (s x : Operand) (ho : o.op = .call { callee := .builtin .append, args := #[s, x], argTypes := #[76, t2] })
    {B : Nat} {wr : World} {v : Value} {xs ys : List Int} (hs : act.eval s = v) (hown : Own B wr v xs) (hB : B ≤ wr.heap.size)
    (a : Option Addr) (n c : Nat) (hx : act.eval x = .slice a n c) (hn : ys.length = n) (hy : Bytes wr a ys) (hl : xs.length + ys.length ≤ 140737488351232)
    (h : ∀ v' w', Grew B v wr v' (xs ++ ys) w' → (Full v wr → Full v' w') → K (act.put o.dst v') w') :
    if Region.wanted o (yielded ops act.tmps) = true then Oper.wp Tryz.prog o act wr K Q else E := by
  have hw : Region.wanted o (yielded ops act.tmps) = true := by simp [Region.wanted, hgd]
  rw [if_pos hw]
  obtain ⟨v', w', hr, hg, hgf⟩ := run_puts t2 e2 o.type ht2 hown hB a n c hn hy hl
  unfold Oper.wp
  simp [execOp, ho, resolve, invoke, builtin, hs, hx, hr, Result.andThen]
  exact h v' w' hg hgf
end
/-- A byte that a literal holds. -/
theorem lit_byte (w : World) (z : Int) (t : TypeId) (g : Nat) (hg : g = w.heap.size) (hz : 0 ≤ z ∧ z < 256) : Bytes (w.alloc (.cells #[.int .u8 z] t)) (some ⟨g, 0, none⟩) [z] := by
  subst hg
  exact ⟨by simpa using hz, by simp, .inr ⟨_, 0, rfl, fun i hi => by
    have : i = 0 := by simpa using hi
    subst this
    simp [go_sem]⟩⟩
theorem Buf.lit {g B : Nat} {v0 v : Value} {zs : List Int} {w0 w : World} (h : Buf g B v0 w0 v zs w) (o : Obj) : Buf g B v0 w0 v zs (w.alloc o) := h.on ((Below.refl _ _).alloc (Nat.le_refl _) o)

set_option maxRecDepth 100000 in
set_option maxHeartbeats 1000000 in
theorem byte_any (g B : Nat) (v : Value) (xs : List Int) (z : Int) (w : World) (h : Buf g B v w v xs w) (hz : 0 ≤ z ∧ z < 256) (hl : xs.length ≤ 2000000000) :
    Calls Tryz.prog 34 #[.pointer (some ⟨g, 0, none⟩), .int .u8 z] w (Puts g B v w (xs ++ [z])) := by
  have H := hid h
  have H1 := hid (h.lit (.cells #[.int .u8 z] 5))
  have c0 := h.c
  have f0 := h.f
  have LB := hid (lit_byte w z 5 w.heap.size rfl hz)
  have HL := hid (show xs.length + [z].length ≤ 140737488351232 by simp; omega)
  clear h hz hl
  go_enter Tryz.func34, Tryz.ntmps34
  go_wp2_with (first
    | (at_builtin; refine puts_wp (ys := [z]) 76 5 Tryz.underlying76 rfl (.tmp 7) (.tmp 9) rfl rfl H1.out.own (Nat.le_trans H1.out.lowB H1.out.touch.size) _ 1 1 rfl rfl LB.out HL.out ?_; intro v1 w1 hg hgf; obtain ⟨c1, f1⟩ := H1.out.old hg; have HN := hid hg.own; obtain ⟨N, hN⟩ : ∃ N, (xs ++ [z]).length = N := ⟨_, rfl⟩; obtain ⟨a1, q1, rfl⟩ := HN.out.sliceN hN; have HG := hid (H1.out.put hg hgf); clear hg hgf c0 f0 HN hN))
  go_end0
  exact ⟨rfl, _, HG.out⟩
set_option maxRecDepth 100000 in
set_option maxHeartbeats 1000000 in
theorem put_anyE (g B : Nat) (v : Value) (xs ys : List Int) (a : Option Addr) (n c : Nat) (e : Int) (w : World) (h : Buf g B v w v xs w) (hn : ys.length = n) (hy : Bytes w a ys) (hl : xs.length + ys.length ≤ 2000000000) :
    Calls Tryz.prog 193 #[.pointer (some ⟨g, 0, none⟩), .slice a n c, .int .i64 e] w (Puts g B v w (xs ++ ys)) := by
  have H := hid h
  have c0 := h.c
  have f0 := h.f
  have LB := hid hy
  have LN := hid hn
  have HL := hid (show xs.length + ys.length ≤ 140737488351232 by omega)
  clear h hy hl hn
  go_enter Tryz.func193, Tryz.ntmps193
  go_wp2_with (first
    | (at_builtin; refine puts_wp (ys := ys) 35 5 Tryz.underlying35 rfl (.tmp 9) (.tmp 10) rfl rfl H.out.own (Nat.le_trans H.out.lowB H.out.touch.size) a n c rfl LN.out LB.out HL.out ?_; intro v1 w1 hg hgf; obtain ⟨c1, f1⟩ := H.out.old hg; have HN := hid hg.own; obtain ⟨N, hN⟩ : ∃ N, (xs ++ ys).length = N := ⟨_, rfl⟩; obtain ⟨a1, q1, rfl⟩ := HN.out.sliceN hN; have HG := hid (H.out.put hg hgf); clear hg hgf c0 f0 HN hN))
  go_end0
  exact ⟨rfl, _, HG.out⟩
set_option maxRecDepth 100000 in
set_option maxHeartbeats 2000000 in
theorem number_any (g B : Nat) (v : Value) (xs : List Int) (z : Int) (w : World) (h : Buf g B v w v xs w) (h0 : 0 ≤ z) (h1 : z < 4294967296) (hl : xs.length ≤ 2000000000) :
    Calls Tryz.prog 110 #[.pointer (some ⟨g, 0, none⟩), .int .u32 z] w (Puts g B v w (xs ++ encU z)) := by
  have H := hid h
  have P := hid (fun W => putU_any z W h0 h1)
  have HBY := hid (encU_bytes z)
  have HEL := hid (show (encU z).length ≤ 5 from by rw [encU_length]; exact (sizeU_pos z).2)
  have HL := hid hl
  have c0 := h.c
  have f0 := h.f
  have HD := hid ((Below.refl w.heap.size w).drew)
  obtain ⟨ys, hys⟩ : ∃ ys, encU z = ys := ⟨_, rfl⟩
  rw [hys] at P HBY HEL ⊢
  clear h hl hys
  go_enter Tryz.func110, Tryz.ntmps110
  go_wp2
  have hd := (Below.refl w.heap.size w).drew
  have H0 := hid (H.out.on hd)
  clear hd
  go_region_law
    (first
      | (refine puts_step (ys := ys) 35 5 Tryz.underlying35 rfl (.tmp 7) (.tmp 9) rfl rfl H2.out.own (Nat.le_trans H2.out.lowB H2.out.touch.size) _ _ _ rfl HN2.out HY2.out HL2.out ?_; intro v3 w3 hg hgf; obtain ⟨c3, f3⟩ := H2.out.old hg; have HN := hid hg.own; obtain ⟨N, hN⟩ : ∃ N, (xs ++ ys).length = N := ⟨_, rfl⟩; obtain ⟨a1, q1, rfl⟩ := HN.out.sliceN hN; have HG := hid (H2.out.put hg hgf); clear hg hgf HN hN)
      | (go_simp; go_at_call 175; refine (P.out _).mono ?_; rintro e1 w2 ⟨v2, rfl, ho2, hb2⟩; obtain ⟨n2, hn2⟩ : ∃ n, ys.length = n := ⟨_, rfl⟩; have HN2 := hid hn2; have ho3 := ho2; obtain ⟨a2, q2, rfl⟩ := ho3.sliceN hn2; have HY2 := hid (ho2.bytes HBY.out (by have := HEL.out; omega)); have H2 := hid (H0.out.on hb2); have c2 := H2.out.c; have f2 := H2.out.f; have HL2 := hid (show xs.length + ys.length ≤ 140737488351232 by have := HEL.out; have := HL.out; omega); clear ho2 ho3 hb2 hn2))
  all_goals
    go_end0
    exact ⟨rfl, _, HG.out⟩
theorem Bytes.touchE {S : Nat → Prop} {w w' : World} {a : Option Addr} {zs : List Int} (h : Bytes w a zs) (ht : Touch S w w') (hk : ∀ b off, a = some ⟨b, off, none⟩ → zs ≠ [] → ¬ S b) : Bytes w' a zs := by
  refine ⟨h.byte, h.size, ?_⟩
  by_cases h9 : zs = []
  · exact .inl h9
  · rcases h.at_ with h0 | ⟨b, off, rfl, hc⟩
    · exact .inl h0
    · exact .inr ⟨b, off, rfl, fun i hi => ht.cell (hk b off rfl h9) (hc i hi)⟩
set_option maxRecDepth 100000 in
set_option maxHeartbeats 2000000 in
theorem sized_any (g B : Nat) (v : Value) (xs ys : List Int) (a : Option Addr) (n c : Nat) (w : World) (h : Buf g B v w v xs w) (hn : ys.length = n) (hy : Bytes w a ys) (hl : xs.length + ys.length ≤ 1500000000)
    (hs : ∀ b off, a = some ⟨b, off, none⟩ → ys ≠ [] → ¬ (b = g ∨ v.ownBlock = some b)) :
    Calls Tryz.prog 35 #[.pointer (some ⟨g, 0, none⟩), .slice a n c] w (Puts g B v w (xs ++ (encU n ++ ys))) := by
  have H := hid h
  have hn4 : (n : Int) < 4294967296 := by omega
  have hw : IntKind.u32.wrap (n : Int) = n := by rw [IntKind.wrap_u32]; omega
  have P := hid (number_any g B v xs n w h (by omega) hn4 (by omega))
  have HEL := hid (show (encU n).length ≤ 5 from by rw [encU_length]; exact (sizeU_pos n).2)
  have HL := hid hl
  have LB := hid (fun w' (ht : Touch (fun j => j = g ∨ v.ownBlock = some j) w w') => Bytes.touchE hy ht hs)
  have LN := hid hn
  obtain ⟨zs, hzs⟩ : ∃ zs, encU n = zs := ⟨_, rfl⟩
  rw [hzs] at P HEL ⊢
  have e : xs ++ (zs ++ ys) = (xs ++ zs) ++ ys := by rw [List.append_assoc]
  rw [e]
  clear h hl hy hn hs hzs e
  go_enter Tryz.func35, Tryz.ntmps35
  go_wp2_with fail
  refine P.out.mono ?_
  rintro e1 w1 ⟨rfl, v1, hb⟩
  have H1 := hid hb
  have LB1 := hid (LB.out w1 hb.touch)
  have c1 := hb.c
  have f1 := hb.f
  have HL1 := hid (show (xs ++ zs).length + ys.length ≤ 140737488351232 by rw [List.length_append]; have := HL.out; have := HEL.out; omega)
  clear P hb LB
  go_wp2_with (first
    | (at_builtin; refine puts_wp (ys := ys) 35 5 Tryz.underlying35 rfl (.tmp 12) (.tmp 13) rfl rfl H1.out.own (Nat.le_trans H1.out.lowB H1.out.touch.size) a n c rfl LN.out LB1.out HL1.out ?_; intro v2 w2 hg hgf; obtain ⟨c2, f2⟩ := H1.out.old hg; have HN := hid hg.own; obtain ⟨N, hN⟩ : ∃ N, (xs ++ zs ++ ys).length = N := ⟨_, rfl⟩; obtain ⟨a1, q1, rfl⟩ := HN.out.sliceN hN; have HG := hid (H1.out.put hg hgf); clear hg hgf c1 f1 HN hN))
  go_end0
  exact ⟨rfl, _, HG.out⟩
end Go.Proofs.YtepbjkkakfpjgaaGreatDoor.Enc

namespace Go.Proofs.YtepbjkkakfpjgaaGreatDoor.Utf
open Go.RowKit Leb

set_option maxHeartbeats 1600000 in
theorem Put_good (zs : List Int) (hz : ∀ z ∈ zs, 0 ≤ z ∧ z < 256) (w : World) (hT : Tabs w) (hlong : zs.length ≤ 1048576) (hgood : (scan zs).2 = zs.length) :
    Calls Tryz.prog 195 #[.string (strOfNums zs)] w fun e w' => ∃ v, e = .returned (.tuple #[v, .int .i64 0]) ∧ Own w.heap.size w' v (encU zs.length ++ zs) ∧ Below w.heap.size w w' := by
  have hs : (strOfNums zs).size = zs.length := strOfNums_size zs
  have HB := hid (bad_any zs hz w hT)
  have HL := hid (badL_none hgood)
  have hw : wrap64 (zs.length : Int) = zs.length := by unfold wrap64; omega
  have HZ := hid hz
  have hsu := sizeU_pos zs.length
  clear hz hT hgood
  go_enter Tryz.func195, Tryz.ntmps195
  go_wp2_with fail
  refine HB.out.mono ?_
  rw [HL.out]
  rintro e w1 ⟨rfl, hb1⟩
  go_wp2_with fail
  refine (putU_any zs.length _ (by omega) (by omega)).mono ?_
  rintro e w2 ⟨v, rfl, ho, hb2⟩
  obtain ⟨a3, c3, rfl⟩ := ho.sliceN (encU_length zs.length)
  have hs2 := hb2.size
  clear HB HL
  go_wp2_with (first | (at_builtin; refine append_str rfl (.tmp 13) (.tmp 14) rfl rfl ho hb2 hs2 rfl HZ.out (by rw [encU_length]; omega) ?_; intro v' w3 ho3 hb3 hs3))
  exact bodyPost_ret (v := .tuple #[v', .int .i64 0]) (by simp [results, Tryz.results195, go_sem]) rfl ⟨v', rfl, ho3.mono (by have := hb1.size; omega), thenB hb1 hb3⟩
end Go.Proofs.YtepbjkkakfpjgaaGreatDoor.Utf

namespace Go.Proofs.YtepbjkkakfpjgaaGreatDoor.Enc
open Go.RowKit Go.Proofs.YtepbjkkakfpjgaaGreatDoor.Leb Go.Proofs.YtepbjkkakfpjgaaGreatDoor.Instr Go.Proofs.YtepbjkkakfpjgaaGreatDoor.Mod
open Go.Proofs.YtepbjkkakfpjgaaGreatDoor.Body (encL codeL PutP)

/-- Bytes, as many as n, and no error. -/
def GotB (w : World) (zs : List Int) (n : Nat) (e : Ending) (w' : World) : Prop := ∃ a c, e = .returned (.tuple #[.slice a n c, .int .i64 0]) ∧ Bytes w' a zs ∧ Below w.heap.size w w' ∧ zs.length = n
theorem got_own {w w' : World} {zs : List Int} {n : Nat} {e : Ending} (hn : zs.length = n) (hz : ∀ z ∈ zs, 0 ≤ z ∧ z < 256) (hl : zs.length ≤ 140737488351232) (h : ∃ v, e = .returned (.tuple #[v, .int .i64 0]) ∧ Own w.heap.size w' v zs ∧ Below w.heap.size w w') : GotB w zs n e w' := by
  obtain ⟨v, rfl, ho, hb⟩ := h
  obtain ⟨a, c, rfl⟩ := ho.sliceN hn
  exact ⟨a, c, rfl, ho.bytes hz hl, hb, hn⟩
theorem type_got (x : Int × Int) (h : Kind.okType x.1 x.2 = true) (n : Nat) (hn : (tyB x).length = n) (w : World) : Calls Tryz.prog 194 #[.agg #[.int .i64 x.1, .int .i64 x.2]] w (GotB w (tyB x) n) := by
  have e1 : Kind.putZ x.1 x.2 = tyB x := by unfold Kind.putZ tyB; rw [if_pos h]
  have e2 : Kind.codeType x.1 x.2 = 0 := by unfold Kind.codeType; rw [if_pos h]
  have := Kind.put_any x.1 x.2 n (by rw [e1]; exact hn) w
  rw [e1, e2] at this
  exact this.mono fun e w' ⟨a, q, he, hb, _, hB⟩ => ⟨a, q, he, hb, hB, hn⟩
theorem lim_got (l : Li) (most : Int) (h : Kind.okLim l.n l.x l.c most = true) (h0 : 0 ≤ l.n ∧ l.n ≤ 4294967295) (h1 : 0 ≤ l.x ∧ l.x ≤ 4294967295) (n : Nat) (hn : (meB l).length = n) (w : World) :
    Calls Tryz.prog 196 #[.agg #[.int .u32 l.n, .int .u32 l.x, .bool l.c], .int .u32 most] w (GotB w (meB l) n) := by
  have e1 : Kind.limZ l.n l.x l.c most = meB l := by unfold Kind.limZ meB; rw [if_pos h]
  have e2 : Kind.codeLim l.n l.x l.c most = 0 := by unfold Kind.codeLim; rw [if_pos h]
  have := Kind.putLim_any l.n l.x l.c most n (by rw [e1]; exact hn) h0 h1 w
  rw [e1, e2] at this
  exact this.mono fun e w' ⟨a, q, he, hb, _, hB⟩ => ⟨a, q, he, hb, hB, hn⟩
theorem nameB_bytes (s : ByteArray) : ∀ z ∈ nameB s, 0 ≤ z ∧ z < 256 := by
  intro z hz
  unfold nameB at hz
  rcases List.mem_append.1 hz with h | h
  · exact encU_bytes _ z h
  · exact numsOf_bytes s z h
theorem nameB_len (s : ByteArray) : (nameB s).length ≤ s.size + 5 := by
  unfold nameB
  rw [List.length_append, encU_length, numsOf_length]
  have := (sizeU_pos s.size).2
  omega
theorem name_got (s : ByteArray) (w : World) (hU : Utf.Tabs w) (hs : s.size ≤ 1048576) (ht : noText s = false) (n : Nat) (hn : (nameB s).length = n) : Calls Tryz.prog 195 #[.string s] w (GotB w (nameB s) n) := by
  have hb : (Utf.scan (numsOf s)).2 = (numsOf s).length := (Utf.badL_neg _).1 (by
    unfold noText at ht
    have := of_decide_eq_false ht
    omega)
  have := Utf.Put_good (numsOf s) (numsOf_bytes s) w hU (by rw [numsOf_length]; exact hs) hb
  rw [str_numsOf, numsOf_length] at this
  have hl := nameB_len s
  exact this.mono fun e w' h => got_own hn (nameB_bytes s) (by omega) h
theorem insB_bytes {n₀ : Nat} {w : World} {l : Lst} (hL : ListAt n₀ w l.a l.t.len l.t) (h : checkP l.t = 0) : ∀ z ∈ insB l, 0 ≤ z ∧ z < 256 := Go.Proofs.YtepbjkkakfpjgaaGreatDoor.Body.encP_bytesC (Go.Proofs.YtepbjkkakfpjgaaGreatDoor.Body.mayT_list hL h)
theorem ins_got (l : Lst) (w : World) (hL : ListAt w.heap.size w l.a l.t.len l.t) (hl : l.t.len ≤ 140737488351232) (hT : Nams w) (hc : l.t.count ≤ 1000000) (hx : (encL l.t).length ≤ 90000) (h : checkP l.t = 0) (n : Nat) (hn : (insB l).length = n) :
    Calls Tryz.prog 197 #[.slice l.a l.t.len l.c] w (GotB w (insB l) n) := by
  have := Go.Proofs.YtepbjkkakfpjgaaGreatDoor.Body.Put_any l.t l.a l.t.len l.c w hL hl hT (by omega) (by omega)
  have e : Go.Proofs.YtepbjkkakfpjgaaGreatDoor.Body.putB l.t = insB l := by unfold Go.Proofs.YtepbjkkakfpjgaaGreatDoor.Body.putB insB; rw [if_pos h]
  rw [e, h] at this
  refine this.mono fun e w' h' => got_own hn (insB_bytes hL h) ?_ h'
  show (encL l.t ++ [11]).length ≤ _
  simp; omega
theorem code_got (f : Mod.Fn) (w : World) (hL : ListAt w.heap.size w f.l.a f.l.t.len f.l.t) (hl : f.l.t.len ≤ 140737488351232) (hT : Nams w) (hc : f.l.t.count ≤ 1000000) (hx : (encL f.l.t).length ≤ 90000) (h : checkP f.l.t = 0) (h0 : 0 ≤ f.lo) (h1 : f.lo ≤ 50000) (n : Nat) (hn : (codeL f.lo f.l.t).length = n) :
    Calls Tryz.prog 198 #[.agg #[.int .i64 f.lo, .slice f.l.a f.l.t.len f.l.c]] w (fun e w' => GotB w (codeL f.lo f.l.t) n e w' ∧ ∀ a c, e = .returned (.tuple #[.slice a n c, .int .i64 0]) → ∀ b off, a = some ⟨b, off, none⟩ → w.heap.size ≤ b) := by
  have := Go.Proofs.YtepbjkkakfpjgaaGreatDoor.Body.PutCode_any f.lo f.l.t f.l.a f.l.t.len f.l.c w hL hl hT (by omega) hx
  have e0 : Go.Proofs.YtepbjkkakfpjgaaGreatDoor.Body.checkC f.lo f.l.t = 0 := by unfold Go.Proofs.YtepbjkkakfpjgaaGreatDoor.Body.checkC; rw [if_neg (by omega)]; exact h
  have e : Go.Proofs.YtepbjkkakfpjgaaGreatDoor.Body.putC f.lo f.l.t = codeL f.lo f.l.t := by unfold Go.Proofs.YtepbjkkakfpjgaaGreatDoor.Body.putC; rw [if_pos e0]
  rw [e, e0] at this
  have hby : ∀ z ∈ codeL f.lo f.l.t, 0 ≤ z ∧ z < 256 := by
    intro z hz
    rcases List.mem_append.1 hz with hz | hz
    · exact Go.Proofs.YtepbjkkakfpjgaaGreatDoor.Body.loc_bytes f.lo z hz
    · exact Go.Proofs.YtepbjkkakfpjgaaGreatDoor.Body.encP_bytesC (Go.Proofs.YtepbjkkakfpjgaaGreatDoor.Body.mayT_list hL h) z hz
  have hle : (codeL f.lo f.l.t).length ≤ 140737488351232 := by
    have := (Go.Proofs.YtepbjkkakfpjgaaGreatDoor.Body.loc_len f.lo).1
    unfold codeL
    rw [List.length_append]
    show _ + (encL f.l.t ++ [11]).length ≤ _
    simp; omega
  refine this.mono fun e w' h' => ⟨got_own hn hby hle h', ?_⟩
  obtain ⟨v, rfl, ho, hb⟩ := h'
  intro a c hE b off ha
  subst ha
  have hv : v = .slice (some ⟨b, off, none⟩) n c := by simpa using hE
  subst hv
  exact (World.ownsRow.lt ho b rfl).1
end Go.Proofs.YtepbjkkakfpjgaaGreatDoor.Enc
