/-
  MEMORY: the statements' kit beside the script: bytes written over, bytes kept, pages; the document's memory outlives a block that is written.
-/
import Derived.Test.YtcgjlbpokmlkbaaDoorMemRefRead
import Derived.Test.YtcgjlbpokmlkbaaDoorMemKeepsP
import Derived.Test.YtcgjlbpokmlkbaaDoorKitLent
import Derived.Deep.RegionHeld3
namespace Go.Proofs.YtcgjlbpokmlkbaaDoor.Mem
open Go.RowKit Go.Proofs.YtcgjlbpokmlkbaaDoor.Instr Go.Proofs.YtcgjlbpokmlkbaaDoor.Num
open Go.Proofs.YtcgjlbpokmlkbaaDoor.Stk (OwnR Rows)
set_option linter.unusedVariables false

theorem marks_bytes {zs : List Int} (hz : ∀ z ∈ zs, 0 ≤ z ∧ z < 256) (n : Int) : ∀ z ∈ zs ++ marksBytes n, 0 ≤ z ∧ z < 256 := by
  intro z hm
  rcases List.mem_append.1 hm with h | h
  · exact hz z h
  · simp only [marksBytes, List.mem_cons, List.not_mem_nil, or_false] at h
    rcases h with rfl | rfl | rfl <;> omega
set_option maxHeartbeats 1600000 in
theorem kept_yes (a1 a2 : Option Addr) (len c2 : Nat) (zs : List Int) (w : World) (hl : zs.length = len) (hx : Bytes w a1 (zs ++ marksBytes len)) (hy : Bytes w a2 zs) (hbig : len ≤ 8796093022208) :
    Calls Tryd.prog 32 #[.slice a1 len (len + 3), .slice a2 len c2] w fun e w' => e = .returned (.bool true) ∧ Below w.heap.size w w' := by
  have HL := hid hl
  have hw1 : IntKind.i64.wrap ((len : Int) + 3) = (len : Int) + 3 := by rw [IntKind.wrap_i64]; omega
  have hw2 : 0 ≤ (len : Int) + 3 := by omega
  have hw3 : ((len : Int) + 3).toNat = len + 3 := by omega
  have HX : Hid ((zs ++ marksBytes len).length = len + 3) := by show _ = _; simp [marksBytes, hl]
  have HM := hid (marks_bytes hy.byte len)
  have HS : Hid ((zs ++ marksBytes len).length ≤ 140737488351232) := by show _ ≤ _; rw [HX.out]; omega
  clear hl
  go_enter Tryd.func32, Tryd.ntmps32
  go_wp2
  go_region_held3 (fun w' => Below w.heap.size w w') (first | assumption | exact (Below.refl _ _).drew | exact thenB (by assumption) (by assumption))
    (first
      | (go_at_call 30; refine (LentBytes_any _ _ _ zs _ HL.out (hy.nums.below ?_) hbig).mono ?_; (assumption); rintro e w2 ⟨rfl, hh, hb2⟩)
      | (go_at_call 21; refine (SameBytes_yes _ _ _ _ _ _ (zs ++ marksBytes len) _ HX.out HX.out (hx.below (by assumption)) (bytes_heap hh HM.out HS.out)).mono ?_; rintro e w3 ⟨rfl, rfl⟩))
  go_wp2
  go_ret
  exact ⟨rfl, by assumption⟩
theorem cell_cs {w : World} {g : Nat} {cs : Array Value} {t : TypeId} {m : Nat × Nat} (hh : w.heap[g]? = some (.cells cs t m)) {i : Nat} {u : Value} (hu : cs[i]? = some u) : w.cell? ⟨g, i, none⟩ = some u := by
  simp [World.cell?, hh, hu]
set_option maxRecDepth 100000 in
set_option maxHeartbeats 2000000 in
theorem overB_nil (w : World) :
    Calls Tryd.prog 29 #[.slice none 0 0] w fun e w' => e = .returned (.tuple #[]) ∧ w = w' := by
  go_enter Tryd.func29, Tryd.ntmps29
  go_wp2
  go_loopw [3] (fun vi wr => vi = .int .i64 0 ∧ wr = w) (fun _ _ => 0)
  case atStart => exact ⟨rfl, rfl⟩
  case round =>
    obtain ⟨rfl, rfl⟩ := hrel
    go_wp2
    go_end0
    exact ⟨rfl, rfl⟩
def Byted (wr : World) (g cap : Nat) : Prop := ∃ cs, wr.heap[g]? = some (.cells cs 5 (0, 0)) ∧ cs.size = cap ∧ ∀ u ∈ cs.toList, ∃ z, u = Value.int .u8 z
theorem Byted.of {w : World} {g : Nat} {zs : List Int} (h : w.heap[g]? = some (.cells (zs.map (Value.int .u8)).toArray 5 (0, 0))) : Byted w g zs.length :=
  ⟨_, h, by simp, fun u hu => by
    simp only [List.mem_map] at hu
    obtain ⟨z, _, rfl⟩ := hu
    exact ⟨z, rfl⟩⟩
set_option maxRecDepth 100000 in
set_option maxHeartbeats 2000000 in
theorem over_block (g n cap : Nat) (w : World) (hB : Byted w g cap) (hn : n ≤ cap) (hcap : cap ≤ 140737488355328) :
    Calls Tryd.prog 29 #[.slice (some ⟨g, 0, none⟩) n cap] w fun e w' => e = .returned (.tuple #[]) ∧ Save g w w' := by
  have HS := hid hB
  have hnci : (n : Int) ≤ (cap : Int) := by omega
  clear hB hn
  go_enter Tryd.func29, Tryd.ntmps29
  go_wp2
  go_loopw [3] (fun vi wr => ∃ i : Nat, vi = .int .i64 i ∧ i ≤ cap ∧ Hid (Byted wr g cap) ∧ Hid (Save g w wr)) (fun vi _ => cap - (intOf vi).toNat)
  case atStart => exact ⟨0, rfl, Nat.zero_le _, HS, Save.refl _ _⟩
  case round =>
    clear HS
    obtain ⟨i, rfl, hi, HS, HT⟩ := hrel
    by_cases hlt : i < cap
    · have hii : (i : Int) < (cap : Int) := by omega
      obtain ⟨cs, hh, hsz, hc⟩ := HS.out
      obtain ⟨z, hz⟩ := hc cs[i] (by simp)
      have c := cell_cs hh (show cs[i]? = some (Value.int .u8 z) by rw [Array.getElem?_eq_getElem (by omega), hz])
      have f := frozen_of_row wr g i cs 5 hh
      have HN := hid (fun (u : Int) => heap_setCell_same wr g i cs 5 (.int .u8 u) hh)
      have HZ := hid hsz
      have HC := hid hc
      have HT2 := hid (fun (u : Value) => HT.out.setCell (p := ⟨g, i, none⟩) (.inl rfl) u)
      clear hh hsz hc hz HS HT
      go_wp2
      go_roundw
      case rel =>
        refine ⟨i + 1, by go_num, by omega, hid ⟨_, HN.out _, by simp [HZ.out], fun u hu => ?_⟩, HT2.out _⟩
        rw [Array.toList_setIfInBounds] at hu
        rcases List.mem_or_eq_of_mem_set hu with h | h
        · exact HC.out u h
        · exact ⟨_, h⟩
      case measure => simp [intOf]; omega
    · obtain rfl : cap = i := by omega
      go_wp2
      go_end0
      exact ⟨rfl, HT.out⟩
def manyP (n : Int) : Bool := decide (64 < n ∧ n ≤ 65536)
theorem many_any (n : Int) (w : World) : Calls Tryd.prog 9 #[.int .i64 n] w fun e w' => e = .returned (.bool (manyP n)) ∧ w = w' := by
  have HM : Hid (manyP n = decide (64 < n ∧ n ≤ 65536)) := rfl
  by_cases h1 : 64 < n
  · by_cases h2 : n ≤ 65536
    · go_enter Tryd.func9, Tryd.ntmps9
      go_wp2
      go_ret
      exact ⟨ret_bool (by rw [HM.out]; simp [h1, h2]), rfl⟩
    · go_enter Tryd.func9, Tryd.ntmps9
      go_wp2
      go_ret
      exact ⟨ret_bool (by rw [HM.out]; simp [h1, h2]), rfl⟩
  · go_enter Tryd.func9, Tryd.ntmps9
    go_wp2
    go_ret
    exact ⟨ret_bool (by rw [HM.out, eq_comm, decide_eq_false_iff_not]; omega), rfl⟩
theorem RefAt.save {B : Nat} {W W' : World} {q g : Nat} {v : Value} {L : List (Nat × Int)} {n most : Nat} {o : Obj} (h : RefAt B W q v L n most) (hs : Save g W W') (hg : W.heap[g]? = some o) (ho : isRef o = false) : RefAt B W' q v L n most := by
  have key : ∀ (j : Nat) (o' : Obj), W.heap[j]? = some o' → isRef o' = true → W'.heap[j]? = some o' := fun j o' hj ho' =>
    (hs.block j (Array.getElem?_eq_some_iff.1 hj).1 (fun e => by subst e; rw [hg] at hj; cases hj; rw [ho] at ho'; cases ho')).trans hj
  exact ⟨key _ _ h.box rfl, h.bq, OwnR.kept h.row (fun g C hg => key _ _ hg (by simp [isRef])), h.rising, h.ok, h.len⟩
theorem RefIs.save {B : Nat} {W W' : World} {q K g : Nat} {m : Mm} {o : Obj} (h : RefIs B W q K m) (hs : Save g W W') (hg : W.heap[g]? = some o) (ho : isRef o = false) : RefIs B W' q K m := by
  obtain ⟨v, L, hr, r⟩ := h
  exact ⟨v, L, hr.save hs hg ho, r⟩
theorem u8_own (cs : Array Value) (m : Nat × Nat) : isOwn (.cells cs 5 m) = false := by simp only [isOwn]; decide
theorem u8_ref (cs : Array Value) (m : Nat × Nat) : isRef (.cells cs 5 m) = false := by simp only [isRef]; decide
/-- What a call of both leaves. -/
def Both (B : Nat) (W : World) (p q K : Nat) (w' : World) : Prop := ∃ m, MemIs B w' p K m ∧ RefIs B w' q K m ∧ Below B W w'
end Go.Proofs.YtcgjlbpokmlkbaaDoor.Mem
