/-
  bytes.Repeat of one byte 127, so many times (255 at most): by contract: a new slice of so many bytes 127.
-/
import Derived.Test.YtgndekmmeknfpaaBase2
import Derived.Test.YtgndekmmeknfpaaShelf
import Derived.Lib.SlBuf
import Derived.Lib.MakeNoZero
import Derived.Deep.RegionLaw
import Derived.Laws.Externs
import Derived.IntWalk
namespace Go.Proofs.Ytgndekmmeknfpaa.Kind
open Go.RowKit

theorem step_copy_run {P : Program} {ops : Array Oper} {o : Oper} {a : Act} {w : World} {K : Act → World → Prop} {Q : Exit → Act → World → Prop} {E : Prop}
    (hg : o.guard = none) (d s : Operand) (t t' : TypeId) (hop : o.op = .call { callee := .builtin .copy, args := #[d, s], argTypes := #[t, t'] })
    (v u : Value) (hd : a.eval d = v) (hs : a.eval s = u) {v' : Value} {w' : World} (hr : (Builtin.copy_ #[t, t'] o.type #[v, u]).run P w = .ok v' w') (hK : K (a.put o.dst v') w') :
    if Region.wanted o (yielded ops a.tmps) = true then Oper.wp P o a w K Q else E := by
  have hw : Region.wanted o (yielded ops a.tmps) = true := by simp [Region.wanted, hg]
  rw [if_pos hw]
  exact Lib.wp_copy_run w d s t t' hop v u hd hs hr hK

/-- 'copy(nb[k:], nb[:k])' of a buffer that holds k times x. -/
theorem copy_self {P : Program} (w0 wr : World) (h N k c : Nat) (x : UInt8) (t ty e : TypeId) (hu : P.underlying t = some (.slice e)) (hs : (P.info? e).map (·.size) = some 1)
    (hb : Lib.Buf w0 wr h N (List.replicate k x)) (hk : k < N) :
    ∃ wr', (Builtin.copy_ #[t, t] ty #[.slice (some ⟨h, k, none⟩) (N - k) (N - k), .slice (some ⟨h, 0, none⟩) k c]).run P wr = .ok (.int .i64 ((min k (N - k) : Nat) : Int)) wr' ∧ Lib.Buf w0 wr' h N (List.replicate (k + min k (N - k)) x) := by
  obtain ⟨m, hm⟩ : ∃ m, min k (N - k) = m := ⟨_, rfl⟩
  rw [hm]
  have hr := run_copy_cells (P := P) wr t t ty e h k (N - k) (N - k) ⟨h, 0, none⟩ k c (List.replicate m (Value.int .u8 (x.toNat : Int))) hu hs (by rw [List.length_replicate]; exact hm.symm)
    (fun j u hj => by
      rw [List.getElem?_replicate] at hj
      split at hj
      · simp only [Option.some.injEq] at hj
        subst hj
        have hj' : (List.replicate k x)[j]? = some x := by rw [List.getElem?_replicate, if_pos (by omega)]
        have := hb.holds j x hj'
        have hplain : (⟨h, 0, none⟩ : Addr).add j = ⟨h, 0 + j, none⟩ := by unfold Addr.add; split <;> simp_all
        rw [hplain, Nat.zero_add]; exact this
      · cases hj)
    (fun j hj => by rw [List.length_replicate] at hj; exact hb.there _ (by omega)) (fun j hj => by rw [List.length_replicate] at hj; exact hb.free _ (by omega))
    (fun u hu' => by obtain ⟨_, rfl⟩ := List.mem_replicate.1 hu'; rfl)
  rw [List.length_replicate] at hr
  refine ⟨_, hr, ?_⟩
  have hin := World.cell?_setCells_in h (List.replicate m (Value.int .u8 (x.toNat : Int))) k wr (fun j hj => by rw [List.length_replicate] at hj; exact hb.there _ (by omega))
  have hout := World.cell?_setCells_out h (List.replicate m (Value.int .u8 (x.toNat : Int))) k wr
  refine ⟨Lib.below_setCells h (Nat.le_refl _) _ _ hb.below, ?_, ?_, ?_, by rw [List.length_replicate]; omega⟩
  · intro j hj
    by_cases h1 : k ≤ j ∧ j < k + m
    · obtain ⟨d, rfl⟩ : ∃ d, j = k + d := ⟨j - k, by omega⟩
      rw [hin d (by rw [List.length_replicate]; omega)]
      rfl
    · rw [hout ⟨h, j, none⟩ (fun _ _ => by rw [List.length_replicate]; show j < _ ∨ _ ≤ j; omega)]
      exact hb.there j hj
  · intro j hj
    rw [World.frozen?_setCells]
    exact hb.free j hj
  · intro j y hy
    rw [List.getElem?_replicate] at hy
    split at hy
    · rename_i hjm
      simp only [Option.some.injEq] at hy
      subst hy
      by_cases h1 : j < k
      · rw [hout ⟨h, j, none⟩ (fun _ _ => Or.inl h1)]
        exact hb.holds j x (by rw [List.getElem?_replicate, if_pos h1])
      · obtain ⟨d, rfl⟩ : ∃ d, j = k + d := ⟨j - k, by omega⟩
        rw [hin d (by rw [List.length_replicate]; omega)]
        simp
    · cases hy

theorem mulOne (c : Nat) (hc : c ≤ 255) (w : World) : Calls Try.prog 39 #[.int .u64 1, .int .u64 c] w fun e w' => e = .returned (.tuple #[.int .u64 0, .int .u64 c]) ∧ w = w' := by
  refine (Try.bits_Mul 1 c (by omega) (by omega) w).mono ?_
  rintro e w' ⟨rfl, rfl⟩
  refine ⟨?_, rfl⟩
  rw [Nat.one_mul, Nat.div_eq_of_lt (by omega), Nat.mod_eq_of_lt (by omega)]; rfl

/-- A new slice of so many bytes 127. -/
def Runs (c : Nat) (w : World) (e : Ending) (w' : World) : Prop := ∃ a q, e = .returned (.slice a c q) ∧ Bytes w' a (List.replicate c 127) ∧ (a = none → q = 0) ∧ Below w.heap.size w w'

theorem runs_of {c : Nat} {w w' : World} (h : Lib.Buf w w' w.heap.size c (List.replicate c 127)) (hc : c ≤ 255) : Runs c w (.returned (.slice (some ⟨w.heap.size, 0, none⟩) c c)) w' := by
  refine ⟨_, _, rfl, ⟨fun z hz => ?_, by simp; omega, .inr ⟨_, 0, rfl, fun i hi => ?_⟩⟩, by simp, h.below⟩
  · rw [List.eq_of_mem_replicate hz]; omega
  · have hi' : i < c := by simpa using hi
    have := h.holds i 127 (by rw [List.getElem?_replicate, if_pos hi'])
    rw [Nat.zero_add, this]
    have e : (List.replicate c (127 : Int)).getD i 0 = 127 := by rw [getD_lt (by simpa using hi')]; simp
    rw [e]; rfl

theorem repeat_0 (b off cap : Nat) (w : World) : Calls Try.prog 33 #[.slice (some ⟨b, off, none⟩) 1 cap, .int .i64 0] w (Runs 0 w) := by
  go_enter Try.func33, Try.ntmps33
  go_wp2
  go_ret
  exact ⟨_, _, rfl, ⟨by simp, by simp, .inl rfl⟩, by simp, by first | exact Below.refl _ _ | exact (Below.refl _ _).alloc (Nat.le_refl _) _⟩

set_option maxHeartbeats 1600000 in
theorem repeat_any (c : Nat) (hc : c ≤ 255) (b off cap : Nat) (w : World) (hcell : w.cell? ⟨b, off, none⟩ = some (.int .u8 127)) :
    Calls Try.prog 33 #[.slice (some ⟨b, off, none⟩) 1 cap, .int .i64 c] w (Runs c w) := by
  by_cases h0 : c = 0
  · subst h0; exact repeat_0 b off cap w
  have hs5 : (Try.prog.info? 5).map (·.size) = some 1 := by kernel_rfl
  obtain ⟨cs, hrunM, hle, _⟩ := Lib.run_makeNoZero (P := Try.prog) w #[3] 27 5 Try.underlying27 c (by omega)
  have hcall : (callFunc 40 #[.int .i64 (c : Int)]).run Try.prog w = .ok (.value (.slice (some ⟨w.heap.size, 0, none⟩) c cs.size)) ((w.alloc (.cells cs 5)).drewN 2) := by
    rw [run_callFunc_extern Try.func40 (by kernel_rfl) (by kernel_rfl) (by kernel_rfl) (e := Extern.BytealgMakeNoZero.makeNoZero #[3] #[27]) (by kernel_rfl), hrunM]
    rfl
  clear hrunM
  have B0 := Lib.Buf.start w cs 5 c 2 hle
  have hv : Lib.HoldsBytes w (.slice (some ⟨b, off, none⟩) 1 cap) [127] := ⟨some ⟨b, off, none⟩, cap, rfl, by simp, fun a ha i x hx => by
    simp only [Option.some.injEq] at ha
    subst ha
    match i, hx with
    | 0, hx => simp at hx; subst hx; simpa [Addr.add] using hcell⟩
  obtain ⟨w1, hr1, B1⟩ := Lib.copy_part (P := Try.prog) w _ w.heap.size c [] [127] (.slice (some ⟨b, off, none⟩) 1 cap) 27 3 5 Try.underlying27 hs5 (Nat.le_refl _) B0 hv (by simp; omega)
  rw [List.length_nil, Lib.tailV_zero] at hr1
  rw [List.nil_append] at B1
  rw [show ((([127] : List UInt8).length : Nat) : Int) = 1 from rfl] at hr1
  have d1 : decide ((c : Int) < 0) = false := decide_eq_false (by omega)
  have d2 : decide (9223372036854775807 < (c : Int)) = false := decide_eq_false (by omega)
  have d3 : decide (8192 < (c : Int)) = false := decide_eq_false (by omega)
  have hm := fun w => mulOne c hc w
  have hn1 : ¬ (c : Int) = 0 := by omega
  have i1 : (c : Int) ≤ (cs.size : Int) := by omega
  have HB1 := hid B1
  clear B1 B0 hv hcell
  go_enter Try.func33, Try.ntmps33
  go_wp2_with (first
    | (go_at_call 39; refine (hm _).mono ?_; rintro e w' ⟨rfl, rfl⟩)
    | (at_builtin; refine Lib.wpList_copy_run _ rfl _ _ 27 27 rfl _ _ rfl rfl hr1 ?_))
  have hsz : w.heap.size ≤ w1.heap.size := HB1.out.below.size
  go_loopw [10] (fun sb wr => ∃ k : Nat, 1 ≤ k ∧ k ≤ c ∧ sb = .int .i64 k ∧ Hid (Lib.Buf w wr w.heap.size c (List.replicate k 127))) (fun sb _ => c - (intOf sb).toNat)
  case atStart => exact ⟨1, by omega, by omega, rfl, HB1⟩
  case round =>
    obtain ⟨k, hk1, hkc, rfl, HB⟩ := hrel
    by_cases hlt : k < c
    · obtain ⟨wr', hr2, B2⟩ := copy_self (P := Try.prog) w wr.drew w.heap.size c k c 127 27 3 5 Try.underlying27 hs5 ⟨HB.out.below.drew, HB.out.there, HB.out.free, HB.out.holds, HB.out.fits⟩ hlt
      obtain ⟨m, hm1, hm2⟩ : ∃ m, min k (c - k) = m ∧ 1 ≤ m ∧ k + m ≤ c := ⟨_, rfl, by omega, by omega⟩
      rw [hm1] at hr2 B2
      have HB2 := hid B2
      clear hm1
      clear B2 hcall hr1 HB1 hm
      have hn2 : ¬ c = k := by omega
      have hw : IntKind.i64.wrap ((k : Int) + (m : Int)) = ((k + m : Nat) : Int) := by rw [IntWalk.i64_in _ (by omega)]; rfl
      have hmn : min (k : Int) (c : Int) = (k : Int) := by omega
      go_wp2
      go_region_law (refine step_copy_run (by rfl) (.tmp 70) (.tmp 73) 27 27 (by rfl) (.slice (some ⟨w.heap.size, k, none⟩) (c - k) (c - k)) (.slice (some ⟨w.heap.size, 0, none⟩) k c) (by go_simp) (by go_simp) hr2 ?_)
      simp [Act.put]
      go_roundw
      case rel => exact ⟨_, _, _, _, _, _, _, _, _, _, _, _, _, _, _, _, _, ⟨k + m, by omega, by omega, (show Value.int .i64 ((k : Int) + (m : Int)) = .int .i64 ((k + m : Nat) : Int) from rfl), HB2⟩, rfl⟩
      case measure => simp [intOf]; omega
    · obtain rfl : k = c := by omega
      go_wp2
      go_ret
      exact runs_of HB.out hc
end Go.Proofs.Ytgndekmmeknfpaa.Kind
