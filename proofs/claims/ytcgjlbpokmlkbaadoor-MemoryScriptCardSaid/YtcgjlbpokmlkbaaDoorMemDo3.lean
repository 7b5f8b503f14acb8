/-
  MEMORY: Store, Read, Write, Grow, New by contracts.
-/
import Derived.Test.YtcgjlbpokmlkbaaDoorMemDo2
namespace Go.Proofs.YtcgjlbpokmlkbaaDoor.Mem
open Go.RowKit Go.Proofs.YtcgjlbpokmlkbaaDoor.Instr Go.Proofs.YtcgjlbpokmlkbaaDoor.Num
open Go.Maps (Keyed int_keyed IsMap)
set_option linter.unusedVariables false

/-- What a call that writes leaves: the memory as told, and all else as it was. -/
def Wrote (B : Nat) (W : World) (p K : Nat) (m : Mm) (w' : World) : Prop := MemIs B w' p K m ∧ Keep W w' ∧ Below B W w'
theorem Wrote.of_put {B : Nat} {W W2 : World} {p mb K K2 n s : Nat} {m : Mm} {zs : List Int} (h : PutTo B W p mb K m zs s n W2) (hk : K + n ≤ K2) (hl : zs.length = n) : Wrote B W p K2 { m with f := putF m.f s zs } W2 := by
  obtain ⟨D, K', hK, hM, h1, h2⟩ := h
  rw [List.take_of_length_le (by omega)] at hM
  exact ⟨⟨mb, D, K', by omega, hM⟩, h1, h2⟩
theorem Wrote.none {B : Nat} {W W2 : World} {p K K2 : Nat} {m : Mm} (h : MemIs B W p K m) (hk : K ≤ K2) (hb : Below W.heap.size W W2) (hB : B ≤ W.heap.size) : Wrote B W p K2 m W2 := ⟨(h.below hb).mono hk, Keep.of_below hb, hb.mono hB⟩
theorem Wrote.behind {B : Nat} {W W1 W2 : World} {p K : Nat} {m : Mm} (hb : Below W.heap.size W W1) (h : Wrote B W1 p K m W2) (hB : B ≤ W.heap.size) : Wrote B W p K m W2 := ⟨h.1, (Keep.of_below hb).trans h.2.1, (hb.mono hB).trans h.2.2⟩
set_option maxHeartbeats 1000000 in
theorem Store_any {B : Nat} {W : World} {p K : Nat} {m : Mm} (hM : MemIs B W p K m) (hB : B ≤ W.heap.size) (hK : K + 4 ≤ 1000000000) (op x y v : Int) (s : Nat) (hx : 0 ≤ x ∧ x ≤ 4294967295) (hy : 0 ≤ y ∧ y ≤ 4294967295) (hv : 0 ≤ v ∧ v < 4294967296) (hs : (s : Int) = x + y) (hT : Arit W) :
    Calls Tryd.prog 18 #[.pointer (some ⟨p, 0, none⟩), .int .i64 op, .int .u32 x, .int .u32 y, .int .u32 v] W fun e w' => e = .returned (.int .i64 (m.store op s v).2) ∧ Wrote B W p (K + 4) (m.store op s v).1 w' := by
  have C1 := locate_any hM op 2 x y s hx hy hs hT
  rw [locP_store] at C1
  unfold Mm.store
  cases hl : isStore op
  · simp only [hl, Bool.false_eq_true, if_false] at C1 ⊢
    have C1 := hid C1
    have HN := hid (fun (w' : World) hb => Wrote.none (W2 := w') hM (Nat.le_add_right K 4) hb hB)
    clear hM hK
    go_enter Tryd.func18, Tryd.ntmps18
    go_wp2_with fail
    refine C1.out.mono ?_
    rintro e w1 ⟨rfl, hb⟩
    go_wp2
    go_ret
    exact ⟨rfl, HN.out _ hb⟩
  · cases hh : m.has s (wd op)
    · simp only [hl, hh, Bool.false_eq_true, if_false, if_true] at C1 ⊢
      have C1 := hid C1
      have HN := hid (fun (w' : World) hb => Wrote.none (W2 := w') hM (Nat.le_add_right K 4) hb hB)
      clear hM hK
      go_enter Tryd.func18, Tryd.ntmps18
      go_wp2_with fail
      refine C1.out.mono ?_
      rintro e w1 ⟨rfl, hb⟩
      go_wp2
      go_ret
      exact ⟨rfl, HN.out _ hb⟩
    · simp only [hl, hh, if_true] at C1 ⊢
      have HC1 := hid C1
      have hin : s + wd op ≤ m.n * 65536 := by simpa [Mm.has] using hh
      have hwc := wd_cases op
      have hbl : (bytesN v).length = 4 := rfl
      have hbb := bytesN_byte v
      have hbg : bytesN v = [v % 256, v / 256 % 256, v / 65536 % 256, v / 16777216 % 256] := rfl
      have CB := hid (fun (w : World) => bytesOf_any v w hv)
      have HM := hid hM
      generalize wd op = n at *
      have hsl := fun g w => slice_four g n hwc w
      have hn0 : (0 : Int) ≤ (n : Int) ∧ (n : Int) ≤ 4 := by omega
      obtain ⟨hn0, hn1⟩ := hn0
      obtain ⟨b0, hb0⟩ : ∃ b, v % 256 = b := ⟨_, rfl⟩
      obtain ⟨b1, hb1⟩ : ∃ b, v / 256 % 256 = b := ⟨_, rfl⟩
      obtain ⟨b2, hb2⟩ : ∃ b, v / 65536 % 256 = b := ⟨_, rfl⟩
      obtain ⟨b3, hb3⟩ : ∃ b, v / 16777216 % 256 = b := ⟨_, rfl⟩
      rw [hb0, hb1, hb2, hb3] at CB
      rw [hb0, hb1, hb2, hb3] at hbg
      have CP := hid (fun (w : World) (g : Nat) (hm : MemIs B w p K m) (hBw : B ≤ w.heap.size) (hg : w.heap[g]? = some (.cells #[.int .u8 b0, .int .u8 b1, .int .u8 b2, .int .u8 b3] 71 (0, 0))) => (show Calls Tryd.prog 40 #[.pointer (some ⟨p, 0, none⟩), .int .u64 s, .slice (some ⟨g, 0, none⟩) n 4] w fun e W' => e = .returned (.tuple #[]) ∧ Wrote B w p (K + 4) { m with f := putF m.f s ((bytesN v).take n) } W' from by
        obtain ⟨mb, D, K', hK', hm⟩ := hm
        have hl4 : ((bytesN v).take n).length = n := by rw [List.length_take, hbl]; omega
        refine (put_any hm hBw g 0 (some ⟨g, 0, none⟩) n 4 s ((bytesN v).take n) hl4 (fun z hz => hbb z (List.mem_of_mem_take hz)) (by omega) (by omega) (fun _ => ⟨rfl, fun i hi => ?_, _, hg, .inl rfl⟩) hin (by omega)).mono fun e W' ⟨he, h⟩ => ⟨he, Wrote.of_put h (by omega) hl4⟩
        rw [List.getD_eq_getElem?_getD, List.getElem?_take_of_lt hi, hbg]
        have : i = 0 ∨ i = 1 ∨ i = 2 ∨ i = 3 := by omega
        rcases this with rfl | rfl | rfl | rfl <;> simp [World.cell?, hg]))
      clear C1 hM hl hh hin hwc hT hs hx hy hK hb0 hb1 hb2 hb3 hbl hbb hbg hv
      go_enter Tryd.func18, Tryd.ntmps18
      go_wp2_with fail
      refine HC1.out.mono ?_
      rintro e w1 ⟨rfl, hb1⟩
      clear HC1
      go_wp2_with fail
      refine (CB.out _).mono ?_
      rintro e w2 ⟨rfl, hb2⟩
      have hb3 := thenB hb1 hb2
      have hM2 := hid (HM.out.below hb3)
      clear CB HM hb1 hb2
      have C2 := hid (CP.out (w2.alloc (.cells #[.int .u8 b0, .int .u8 b1, .int .u8 b2, .int .u8 b3] 71)) w2.heap.size (hM2.out.below (thenA (Below.refl _ _) _)) (by have := hb3.size; simp; omega) (MapKept.heap_alloc w2 _).1)
      have hb4 := thenA hb3 (.cells #[.int .u8 b0, .int .u8 b1, .int .u8 b2, .int .u8 b3] 71)
      clear CP hM2
      go_wp2_with fail
      refine C2.out.mono ?_
      rintro e w3 ⟨rfl, hW⟩
      go_wp2
      go_ret
      exact ⟨rfl, hW.behind hb4 hB⟩
theorem Write_any {B : Nat} {W : World} {p K : Nat} {m : Mm} (hM : MemIs B W p K m) (hB : B ≤ W.heap.size) (b off : Nat) (a : Option Addr) (n c s : Nat) (zs : List Int) (hzl : zs.length = n) (hz : ∀ z ∈ zs, 0 ≤ z ∧ z < 256) (hc : n ≤ c) (hcm : c ≤ 140737488351232) (hs : s ≤ 4294967295)
    (ha : 0 < n → a = some ⟨b, off, none⟩ ∧ (∀ i, i < n → W.cell? ⟨b, off + i, none⟩ = some (.int .u8 (zs.getD i 0))) ∧ ∃ o, W.heap[b]? = some o ∧ (isOwn o = false ∨ b < B)) (hK : K + n ≤ 1000000000) :
    Calls Tryd.prog 19 #[.pointer (some ⟨p, 0, none⟩), .int .u32 s, .slice a n c] W fun e w' => e = .returned (.int .i64 (m.write s zs).2) ∧ Wrote B W p (K + n) (m.write s zs).1 w' := by
  have hnp : m.n ≤ 65536 := Nat.le_trans hM.ok.n hM.ok.most
  have C1 := hid (made_yes p W hM.cells.1)
  have C2 := has_any p m.n s n W hM.cells.2.1 ⟨by omega, by omega⟩ ⟨by omega, by omega⟩ ⟨by omega, by omega⟩
  have he : m.has s zs.length = decide ((s : Int) + (n : Int) ≤ (m.n : Int) * 65536) := by
    unfold Mm.has
    rw [hzl, decide_eq_decide]; constructor <;> intro h <;> omega
  unfold Mm.write
  rw [he]
  by_cases hin : (s : Int) + (n : Int) ≤ (m.n : Int) * 65536
  · have CP := hid (show Calls Tryd.prog 40 #[.pointer (some ⟨p, 0, none⟩), .int .u64 s, .slice a n c] W fun e W' => e = .returned (.tuple #[]) ∧ Wrote B W p (K + n) { m with f := putF m.f s zs } W' from by
      obtain ⟨mb, D, K', hK', hm⟩ := hM
      exact (put_any hm hB b off a n c s zs hzl hz hc (by omega) ha (by omega) (by omega)).mono fun e W' ⟨he, h⟩ => ⟨he, Wrote.of_put h (by omega) hzl⟩)
    rw [decide_eq_true hin] at C2 ⊢
    have C2 := hid C2
    clear hM hnp he hin ha hz hzl hK
    obtain ⟨S, hS⟩ : ∃ S : Int, (s : Int) = S := ⟨_, rfl⟩
    have hS0 : 0 ≤ S ∧ S ≤ 4294967295 := by omega
    obtain ⟨hS0, hS1⟩ := hS0
    rw [hS] at C2 CP ⊢
    clear hS
    go_enter Tryd.func19, Tryd.ntmps19
    go_wp2_with fail
    refine C1.out.mono ?_
    rintro e w1 ⟨rfl, rfl⟩
    go_wp2_with fail
    refine C2.out.mono ?_
    rintro e w1 ⟨rfl, rfl⟩
    go_wp2_with fail
    refine CP.out.mono ?_
    rintro e w1 ⟨rfl, hW⟩
    go_wp2
    go_ret
    exact ⟨rfl, hW⟩
  · rw [decide_eq_false hin] at C2 ⊢
    have C2 := hid C2
    have HN := hid (Wrote.none (W2 := W) hM (Nat.le_add_right K n) (Below.refl _ _) hB)
    clear hM hnp he hin ha hz hzl hK
    obtain ⟨S, hS⟩ : ∃ S : Int, (s : Int) = S := ⟨_, rfl⟩
    have hS0 : 0 ≤ S ∧ S ≤ 4294967295 := by omega
    obtain ⟨hS0, hS1⟩ := hS0
    rw [hS] at C2 ⊢
    clear hS
    go_enter Tryd.func19, Tryd.ntmps19
    go_wp2_with fail
    refine C1.out.mono ?_
    rintro e w1 ⟨rfl, rfl⟩
    go_wp2_with fail
    refine C2.out.mono ?_
    rintro e w1 ⟨rfl, rfl⟩
    go_wp2
    go_ret
    exact ⟨rfl, HN.out⟩
end Go.Proofs.YtcgjlbpokmlkbaaDoor.Mem
