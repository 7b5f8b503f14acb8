/-
  MEMORY: locate, Load, Pages, Grow by contracts.
-/
import Derived.Test.YtcgjlbpokmlkbaaDoorMemPut
namespace Go.Proofs.YtcgjlbpokmlkbaaDoor.Mem
open Go.RowKit Go.Proofs.YtcgjlbpokmlkbaaDoor.Instr Go.Proofs.YtcgjlbpokmlkbaaDoor.Num
open Go.Maps (Keyed int_keyed IsMap)
set_option linter.unusedVariables false

/-- A memory, whose map has room. -/
def MemIs (B : Nat) (W : World) (p K : Nat) (m : Mm) : Prop := ∃ mb D K', K' ≤ K ∧ MemAt B W p mb K' D m
theorem MemIs.below {B : Nat} {W W' : World} {p K : Nat} {m : Mm} (h : MemIs B W p K m) (hb : Below W.heap.size W W') : MemIs B W' p K m := by
  obtain ⟨mb, D, K', hK, h⟩ := h
  exact ⟨mb, D, K', hK, h.below hb⟩
theorem MemIs.save {B : Nat} {W W' : World} {p K g : Nat} {m : Mm} {o : Obj} (h : MemIs B W p K m) (hs : Save g W W') (hg : W.heap[g]? = some o) (ho : isOwn o = false) : MemIs B W' p K m := by
  obtain ⟨mb, D, K', hK, h⟩ := h
  exact ⟨mb, D, K', hK, h.save hs hg ho⟩
theorem MemIs.mono {B : Nat} {W : World} {p K K2 : Nat} {m : Mm} (h : MemIs B W p K m) (hk : K ≤ K2) : MemIs B W p K2 m := by
  obtain ⟨mb, D, K', hK, h⟩ := h
  exact ⟨mb, D, K', Nat.le_trans hK hk, h⟩
theorem MemIs.ok {B : Nat} {W : World} {p K : Nat} {m : Mm} (h : MemIs B W p K m) : m.ok := by
  obtain ⟨mb, D, K', hK, h⟩ := h
  exact h.ok
theorem MemIs.cells {B : Nat} {W : World} {p K : Nat} {m : Mm} (h : MemIs B W p K m) : W.cell? ⟨p, 0, none⟩ = some (.pointer (some ⟨p, 0, none⟩)) ∧ W.cell? ⟨p, 1, none⟩ = some (.int .u32 m.n) ∧ W.cell? ⟨p, 2, none⟩ = some (.int .u32 m.most) := by
  obtain ⟨mb, D, K', hK, h⟩ := h
  exact ⟨h.cells.1, h.cells.2.1, h.cells.2.2.1⟩

/-- What locate tells. -/
def locP (m : Mm) (op takes : Int) (s : Nat) : Int × Int × Int := if widthQ op takes then (if m.has s (wd op) then ((s : Int), (wd op : Int), 0) else (0, 0, 220)) else (0, 0, 2)
theorem locate_no (v : Value) (op takes x y : Int) (w : World) (h : Unmade w v) :
    Calls Tryd.prog 34 #[v, .int .i64 op, .int .i64 takes, .int .u32 x, .int .u32 y] w fun e w' => e = .returned (.tuple #[.int .u64 0, .int .i64 0, .int .i64 1]) ∧ w = w' := by
  have C := hid (made_no v w h)
  clear h
  go_enter Tryd.func34, Tryd.ntmps34
  go_wp2_with fail
  refine C.out.mono ?_
  rintro e w1 ⟨rfl, rfl⟩
  go_wp2
  refine bodyPost_ret (v := .tuple #[.int .u64 (0), .int .i64 (0), .int .i64 (1)]) (by simp [results, Tryd.results34, go_sem]) rfl ?_
  exact ⟨rfl, rfl⟩
set_option maxHeartbeats 1000000 in
theorem locate_any {B : Nat} {W : World} {p K : Nat} {m : Mm} (hM : MemIs B W p K m) (op takes x y : Int) (s : Nat) (hx : 0 ≤ x ∧ x ≤ 4294967295) (hy : 0 ≤ y ∧ y ≤ 4294967295) (hs : (s : Int) = x + y) (hT : Arit W) :
    Calls Tryd.prog 34 #[.pointer (some ⟨p, 0, none⟩), .int .i64 op, .int .i64 takes, .int .u32 x, .int .u32 y] W fun e w' => e = .returned (.tuple #[.int .u64 (locP m op takes s).1, .int .i64 (locP m op takes s).2.1, .int .i64 (locP m op takes s).2.2]) ∧ Below W.heap.size W w' := by
  obtain ⟨x0, x1⟩ := hx
  obtain ⟨y0, y1⟩ := hy
  have hnp : m.n ≤ 65536 := Nat.le_trans hM.ok.n hM.ok.most
  have C1 := hid (made_yes p W hM.cells.1)
  have C2 := hid (width_any op takes W hT)
  have hwd := wd_cases op
  have C3 := hid (fun (w : World) (hb : Below W.heap.size W w) => has_any p m.n s (wd op) w ((hM.below hb).cells.2.1) ⟨by omega, by omega⟩ ⟨by omega, by omega⟩ ⟨by omega, by omega⟩)
  have HE : Hid (∀ b, widthQ op takes = b → ∀ c, decide ((s : Int) + (wd op : Int) ≤ (m.n : Int) * 65536) = c → locP m op takes s = if b then (if c then ((s : Int), (wd op : Int), 0) else (0, 0, 220)) else (0, 0, 2)) := by
    intro b hb c hc
    unfold locP Mm.has
    rw [hb, ← hc]
    have : decide (s + wd op ≤ m.n * 65536) = decide ((s : Int) + (wd op : Int) ≤ (m.n : Int) * 65536) := by
      rw [decide_eq_decide]; constructor <;> intro h <;> omega
    rw [this]
  have hwr : 0 ≤ (wd op : Int) ∧ (wd op : Int) ≤ 4 := by omega
  rw [hs] at C3
  rw [hs] at HE
  generalize hq : widthQ op takes = b at *
  generalize hc : decide (x + y + (wd op : Int) ≤ (m.n : Int) * 65536) = c at *
  have HE2 := hid (HE.out b rfl c rfl)
  generalize locP m op takes s = r at *
  generalize (wd op : Int) = k at *
  obtain ⟨k0, k1⟩ := hwr
  clear hM hnp hT hs hwd hq hc HE
  cases b
  · have HR := HE2.out
    simp only [Bool.false_eq_true, if_false] at HR
    subst HR
    clear HE2
    go_enter Tryd.func34, Tryd.ntmps34
    go_wp2_with fail
    refine C1.out.mono ?_
    rintro e w1 ⟨rfl, rfl⟩
    go_wp2_with fail
    refine C2.out.mono ?_
    rintro e w2 ⟨rfl, hb2⟩
    go_wp2
    refine bodyPost_ret (v := .tuple #[.int .u64 (0), .int .i64 (0), .int .i64 (2)]) (by simp [results, Tryd.results34, go_sem]) rfl ?_
    exact ⟨rfl, hb2⟩
  · cases c
    · have HR := HE2.out
      simp only [Bool.false_eq_true, if_false, if_true] at HR
      subst HR
      clear HE2
      go_enter Tryd.func34, Tryd.ntmps34
      go_wp2_with fail
      refine C1.out.mono ?_
      rintro e w1 ⟨rfl, rfl⟩
      go_wp2_with fail
      refine C2.out.mono ?_
      rintro e w2 ⟨rfl, hb2⟩
      have C4 := hid (C3.out w2 hb2)
      clear C3
      go_wp2_with fail
      refine C4.out.mono ?_
      rintro e w3 ⟨rfl, rfl⟩
      go_wp2
      refine bodyPost_ret (v := .tuple #[.int .u64 (0), .int .i64 (0), .int .i64 (220)]) (by simp [results, Tryd.results34, go_sem]) rfl ?_
      exact ⟨rfl, hb2⟩
    · have HR := HE2.out
      simp only [if_true] at HR
      subst HR
      clear HE2
      go_enter Tryd.func34, Tryd.ntmps34
      go_wp2_with fail
      refine C1.out.mono ?_
      rintro e w1 ⟨rfl, rfl⟩
      go_wp2_with fail
      refine C2.out.mono ?_
      rintro e w2 ⟨rfl, hb2⟩
      have C4 := hid (C3.out w2 hb2)
      clear C3
      go_wp2_with fail
      refine C4.out.mono ?_
      rintro e w3 ⟨rfl, rfl⟩
      go_wp2
      refine bodyPost_ret (v := .tuple #[.int .u64 (x + y), .int .i64 (k), .int .i64 (0)]) (by simp [results, Tryd.results34, go_sem]) rfl ?_
      exact ⟨rfl, hb2⟩
end Go.Proofs.YtcgjlbpokmlkbaaDoor.Mem
