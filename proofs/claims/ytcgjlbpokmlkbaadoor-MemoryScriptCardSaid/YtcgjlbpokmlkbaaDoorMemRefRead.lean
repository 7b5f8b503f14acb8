/-
  MEMORY: the document's Read by contract.
-/
import Derived.Test.YtcgjlbpokmlkbaaDoorMemRefStore
namespace Go.Proofs.YtcgjlbpokmlkbaaDoor.Mem
open Go.RowKit Go.Proofs.YtcgjlbpokmlkbaaDoor.Instr Go.Proofs.YtcgjlbpokmlkbaaDoor.Num Go.Proofs.YtcgjlbpokmlkbaaDoor.Kind
open Go.Proofs.YtcgjlbpokmlkbaaDoor.Stk (OwnR)
set_option linter.unusedVariables false

theorem rowF_zero (s : Nat) : ∀ (n : Nat) (f : Nat → Int), (∀ i, i < n → f (s + i) = 0) → rowF f s n = List.replicate n 0 := by
  intro n f h
  apply List.ext_getElem (by rw [rowF_length, List.length_replicate])
  intro i h1 h2
  have := rowF_getD f n s i (by rwa [rowF_length] at h1)
  rw [getD_lt h1] at this
  rw [this, h i (by rwa [rowF_length] at h1)]
  simp
theorem rowF_set (f f' : Nat → Int) (s n j : Nat) (b : Int) (hj : j < n) (h : ∀ x, f' x = if x = s + j then b else f x) : (rowF f s n).set j b = rowF f' s n := by
  apply List.ext_getElem (by simp [rowF_length])
  intro i h1 h2
  rw [rowF_length] at h2
  have e1 := rowF_getD f n s i h2
  have e2 := rowF_getD f' n s i h2
  rw [getD_lt (by rw [rowF_length]; exact h2)] at e1 e2
  rw [e2, List.getElem_set, e1, h]
  by_cases hji : j = i
  · subst hji; rw [if_pos rfl, if_pos rfl]
  · rw [if_neg hji, if_neg (by omega)]
set_option maxRecDepth 100000 in
set_option maxHeartbeats 4000000 in
theorem Read_ref {B : Nat} {W : World} {q K : Nat} {m : Mm} (hI : RefIs B W q K m) (hok : m.ok) (s n : Nat) (hs : s ≤ 4294967295) (hn : n ≤ 4294967295) :
    Calls Tryd.prog 28 #[.pointer (some ⟨q, 0, none⟩), .int .u32 s, .int .u32 n] W fun e w' => GotB W (m.read s n).1 (m.read s n).2 e w' ∧ Below W.heap.size W w' := by
  have hnp : m.n ≤ 65536 := Nat.le_trans hok.n hok.most
  have CT := hI.there s n ⟨by omega, by omega⟩ ⟨by omega, by omega⟩ hnp
  unfold Mm.read
  rw [has_int m s n s rfl]
  obtain ⟨S, hS⟩ : ∃ S : Int, (s : Int) = S := ⟨_, rfl⟩
  obtain ⟨X, hX⟩ : ∃ X : Int, (n : Int) = X := ⟨_, rfl⟩
  have hS0 : 0 ≤ S ∧ S ≤ 4294967295 := by omega
  obtain ⟨hS0, hS1⟩ := hS0
  have hX0 : 0 ≤ X ∧ X ≤ 4294967295 := by omega
  obtain ⟨hX0, hX1⟩ := hX0
  by_cases hin : (s : Int) + (n : Int) ≤ (m.n : Int) * 65536
  · rw [decide_eq_true hin] at CT ⊢
    rw [if_pos rfl]
    rw [hS, hX] at CT
    have CT := hid CT
    by_cases hbig : n ≤ 1048576
    · rw [if_pos hbig]
      have hb2 : X ≤ 1048576 := by omega
      obtain ⟨w1, hmk, hh1, hb1⟩ := make_word W n (by omega)
      have hmk := hmk X (by omega)
      obtain ⟨v, L, hr, hval, hlen⟩ := hI
      have CF := find_any (hr.below hb1) s (by omega)
      rw [hS] at CF
      have CF := hid CF
      obtain ⟨gr, c, ad, rfl, hlc, had, hcell⟩ := hr.slice
      have c2 := hr.cells.2.2
      obtain ⟨N, hN⟩ : ∃ N, L.length = N := ⟨_, rfl⟩
      rw [hN] at c2 hlc
      have hlenN := hr.len
      rw [hN] at hlenN
      have HR := hid hr
      have HVAL := hid hval
      have HC := hid hcell
      have HAD := hid had
      have HNL := hid hN
      have HB1 := hid hb1
      have HH1 := hid hh1
      have HSS := hid hS
      have HXX := hid hX
      have C2 := hid (fun (w : World) (hb : Below W.heap.size W w) => keep hb c2)
      have hlcI : (N : Int) ≤ (c : Int) := by omega

      have HBYTE := hid hok.byte
      rw [hS, hX]
      clear hr hval hcell had hN hb1 hh1 hin hS hX hnp hok hs hn hlen c2
      go_enter Tryd.func28, Tryd.ntmps28
      go_wp2_with fail
      refine CT.out.mono ?_
      rintro e w0 ⟨rfl, rfl⟩
      go_wp2_with fail
      refine CF.out.mono ?_
      rintro e w2 ⟨⟨i0, hsp, rfl⟩, hb2w⟩
      have HB2 := hid (HB1.out.trans (hb2w.mono HB1.out.size))
      have HSP := hid hsp
      have H0 := hid (show w2.heap[W.heap.size]? = some (.cells ((rowF (valL (L.take i0)) s n).map (Value.int .u8)).toArray 5 (0, 0)) from by
        rw [rowF_zero s n _ (fun j hj => valL_take_low (fun k h1 h2 => by have := hsp.low k h1; omega))]
        have h1 := HH1.out
        exact (hb2w.block _ (Array.getElem?_eq_some_iff.1 h1).1).trans h1)
      have hi0 : i0 ≤ N := by have := hsp.le; have := HNL.out; omega
      clear hsp hb2w CF CT HH1 hmk
      go_wp2
      go_loopw [9] (fun vi wr => ∃ i : Nat, vi = .int .i64 i ∧ i0 ≤ i ∧ i ≤ N ∧ Hid (wr.heap[W.heap.size]? = some (.cells ((rowF (valL (L.take i)) s n).map (Value.int .u8)).toArray 5 (0, 0))) ∧ Hid (Below W.heap.size W wr)) (fun vi _ => N - (intOf vi).toNat)
      case atStart => exact ⟨i0, rfl, Nat.le_refl _, hi0, H0, HB2⟩
      case round =>
        obtain ⟨i, rfl, hii, hiN, HH, HB⟩ := hrel
        clear H0 HB2
        have c2r := C2.out wr HB.out
        have HFIN := hid (fun (h : ∀ k, i ≤ k → k < L.length → s + n ≤ (L.getD k (0, 0)).1) => (show GotB W (rowF m.f s n) 0 (.returned (.tuple #[.slice (some ⟨W.heap.size, 0, none⟩) n n, .int .i64 0])) wr ∧ Below W.heap.size W wr from by
          have e : rowF (valL (L.take i)) s n = rowF m.f s n := by
            rw [← HVAL.out]
            refine rowF_congr n s (fun j hj => valL_take_end (fun k h1 h2 => ?_))
            have := h k h1 h2
            omega
          have h1 := HH.out
          rw [e] at h1
          exact ⟨.inl ⟨W.heap.size, by rw [rowF_length], Nat.le_refl _, h1⟩, HB.out⟩))
        by_cases hlt : i < N
        · have hltI : (i : Int) < (N : Int) := by omega
          have hil : i < L.length := by rw [HNL.out]; exact hlt
          have hadd := HAD.out (by omega)
          subst hadd
          have k0 := keep HB.out (HC.out i hil).1
          have k1 := keep HB.out (HC.out i hil).2
          obtain ⟨x, hx⟩ : ∃ x : Nat, (L.getD i (0, 0)).1 = x := ⟨_, rfl⟩
          obtain ⟨u, hu⟩ : ∃ u, (L.getD i (0, 0)).2 = u := ⟨_, rfl⟩
          have hsx : s ≤ x := by have := HSP.out.high i hii hil; omega
          rw [hx] at k0
          rw [hu] at k1
          have hi6 : (i : Int) ≤ 1000000 := by omega
          by_cases hxs : x < s + n
          · obtain ⟨j, hj⟩ : ∃ j, x = s + j := ⟨x - s, by omega⟩
            have hjn : j < n := by omega
            have hset := HH.out
            have hrl : j < (rowF (valL (L.take i)) s n).length := by rw [rowF_length]; exact hjn
            have kc := nums_of_heap HH.out j hrl
            rw [Nat.zero_add] at kc
            have kf := frozen_heap HH.out j
            have hsh := set_heap HH.out j u
            rw [rowF_set (valL (L.take i)) (valL (L.take (i + 1))) s n j u hjn (fun y => by rw [valL_take HR.out.rising hil, hx, hj, hu])] at hsh
            have HNX := hid (show (wr.drew.setCell ⟨W.heap.size, j, none⟩ (.int .u8 u)).heap[W.heap.size]? = some (.cells ((rowF (valL (L.take (i + 1))) s n).map (Value.int .u8)).toArray 5 (0, 0)) from hsh)
            have HBN := hid (show Below W.heap.size W (wr.drew.setCell ⟨W.heap.size, j, none⟩ (.int .u8 u)) from HB.out.drew.setCell (Nat.le_refl _) _)
            generalize (rowF (valL (L.take i)) s n).getD j 0 = old at *
            obtain ⟨Y, hY⟩ : ∃ Y : Int, (x : Int) = Y := ⟨_, rfl⟩
            rw [hY] at k0
            have hYS : Y - S = (j : Int) := by have := HSS.out; omega
            have hYlt : Y < S + X := by have := HSS.out; have := HXX.out; omega
            have hYb : 0 ≤ Y ∧ Y ≤ 4295000000000 := by have := HSS.out; omega
            obtain ⟨hY0, hY1⟩ := hYb
            have hjX : (j : Int) < X := by have := HXX.out; omega
            have hjI : (j : Int) < (n : Int) := by omega
            clear hset hsh hrl HFIN hil hx hu hsx hxs hj hY
            go_wp2
            go_region
            go_wp2
            go_roundw
            case rel => exact ⟨i + 1, by go_num, by omega, hlt, HNX, HBN⟩
            case measure => simp [intOf]; omega
          · have HF := hid (HFIN.out (fun k h1 h2 => by
              by_cases hki : k = i
              · rw [hki, hx]; omega
              · have := HR.out.rising.lt (show i < k by omega) h2
                rw [hx] at this
                omega))
            obtain ⟨Y, hY⟩ : ∃ Y : Int, (x : Int) = Y := ⟨_, rfl⟩
            rw [hY] at k0
            have hYlt : ¬ Y < S + X := by have := HSS.out; have := HXX.out; omega
            clear HFIN hil hx hu hsx hxs hY k1
            go_wp2
            go_ret2
            exact HF.out
        · have hni : ¬ (i : Int) < (N : Int) := by omega
          have HF := hid (HFIN.out (fun k h1 h2 => by have := HNL.out; omega))
          clear HFIN
          go_wp2
          go_ret2
          exact HF.out
    · rw [if_neg hbig]
      have hb2 : 1048576 < X := by omega
      rw [hS, hX]
      clear hI hin hbig hS hX hnp hok hs hn
      go_enter Tryd.func28, Tryd.ntmps28
      go_wp2_with fail
      refine CT.out.mono ?_
      rintro e w0 ⟨rfl, rfl⟩
      go_wp2
      go_ret2
      exact ⟨.inr ⟨rfl, rfl⟩, Below.refl _ _⟩
  · rw [decide_eq_false hin] at CT ⊢
    rw [if_neg (by simp)]
    rw [hS, hX] at CT
    have CT := hid CT
    rw [hS, hX]
    clear hI hin hS hX hnp hok hs hn
    go_enter Tryd.func28, Tryd.ntmps28
    go_wp2_with fail
    refine CT.out.mono ?_
    rintro e w0 ⟨rfl, rfl⟩
    go_wp2
    go_ret2
    exact ⟨.inr ⟨rfl, rfl⟩, Below.refl _ _⟩
end Go.Proofs.YtcgjlbpokmlkbaaDoor.Mem
