/-
  MODULE: Find by contract.
-/
import Derived.Test.YtlfflomeaplidaaDoorModType
namespace Go.Proofs.YtlfflomeaplidaaDoor.Mod
open Go.RowKit Go.Shelf Go.Proofs.YtlfflomeaplidaaDoor.Instr

theorem bytes_ne {a b : ByteArray} (h : a ≠ b) : (a.toList == b.toList) = false := by
  rw [beq_eq_false_iff_ne]
  intro hh
  rw [ByteArray.toList_eq, ByteArray.toList_eq] at hh
  exact h (ByteArray.ext (Array.toList_inj.1 hh))
def isEx (na : ByteArray) (k : Int) (e : Ex) : Bool := decide (e.na = na) && decide (e.k = k)
set_option maxHeartbeats 400000 in
theorem find1_any (x : Ex) (g : Nat) (na : ByteArray) (k : Int) (w : World) (h1 : w.cell? ⟨g, 0, none⟩ = some (.string na)) (h2 : w.cell? ⟨g + 1, 0, none⟩ = some (.int .i64 k)) :
    Calls Tryd.prog 77 #[.agg #[.string x.na, .int .i64 x.k, .int .u32 x.i], .pointer (some ⟨g, 0, none⟩), .pointer (some ⟨g + 1, 0, none⟩)] w fun e w' => e = .returned (.bool (isEx na k x)) ∧ Below w.heap.size w w' := by
  have HE : Hid (isEx na k x = (decide (x.na = na) && decide (x.k = k))) := rfl
  have hl1 := World.block_lt_of_cell? w _ h1
  have hl2 := World.block_lt_of_cell? w _ h2
  obtain ⟨n, hn⟩ : ∃ n, x.na = n := ⟨_, rfl⟩
  obtain ⟨j, hj⟩ : ∃ j, x.k = j := ⟨_, rfl⟩
  rw [hn, hj] at HE ⊢
  clear hn hj
  by_cases he : n = na
  · subst he
    have HC := hid (show isEx n k x = (j == k) by rw [HE.out]; simp [Bool.beq_eq_decide_eq])
    clear HE
    go_enter Tryd.func77, Tryd.ntmps77
    go_wp2
    go_ret
    exact ⟨ret_bool (by rw [HC.out]), (Below.refl _ _).alloc (Nat.le_refl _) _⟩
  · have hb := bytes_ne he
    have HC := hid (show isEx na k x = false by rw [HE.out]; simp [he])
    have HH := hid he
    clear HE he
    go_enter Tryd.func77, Tryd.ntmps77
    go_wp2
    go_ret
    exact ⟨ret_bool (by rw [HC.out]), (Below.refl _ _).alloc (Nat.le_refl _) _⟩
theorem entersF : ∀ args w, (callFunc 77 args).run Tryd.prog w = .ok (.enter 77 args) w := enters_of Tryd.func77 (by kernel_rfl) rfl
theorem find_hit {m : Md} {na : ByteArray} {k : Int} {i : Nat} (h : idxP (isEx na k) m.ex = i) (hi : i < m.ex.length) : m.find na k = ((m.ex[i]).i, true) := by
  unfold idxP at h
  cases hf : m.ex.findIdx? (isEx na k) with
  | none => rw [hf] at h; simp at h <;> omega
  | some j =>
    rw [hf] at h
    have hj : (j : Int) = i := h
    have hj : j = i := by omega
    subst hj
    obtain ⟨h0, h1, h2⟩ := List.findIdx?_eq_some_iff_getElem.1 hf
    unfold Md.find
    have : m.ex.find? (fun e => decide (e.na = na) && decide (e.k = k)) = some m.ex[j] := List.find?_eq_some_iff_getElem.2 ⟨h1, j, hi, rfl, fun p hp => by have := h2 p hp; simp only [Bool.not_eq_true] at this; unfold isEx at this; rw [this]; rfl⟩
    rw [this]
theorem find_miss {m : Md} {na : ByteArray} {k : Int} (h : idxP (isEx na k) m.ex < 0) : m.find na k = (0, false) := by
  unfold idxP at h
  cases hf : m.ex.findIdx? (isEx na k) with
  | some j => rw [hf] at h; have : (j : Int) < 0 := h; omega
  | none =>
    have h1 := List.findIdx?_eq_none_iff.1 hf
    unfold Md.find
    have : m.ex.find? (fun e => decide (e.na = na) && decide (e.k = k)) = none := List.find?_eq_none.2 fun x hx => by have := h1 x hx; unfold isEx at this; rw [this]; simp
    rw [this]
set_option maxHeartbeats 1000000 in
theorem Find_any (m : Md) (na : ByteArray) (k : Int) (w : World) (hm : ModAt w.heap.size w m) (hf : m.fits) :
    Calls Tryd.prog 31 #[.agg m.v, .string na, .int .i64 k] w fun e w' => e = .returned (.tuple #[.int .u32 (m.find na k).1, .bool (m.find na k).2]) ∧ Below w.heap.size w w' := by
  have hb1 : Below w.heap.size w (((w.alloc (.cells m.v 46)).alloc (.cells #[.string na] 9)).alloc (.cells #[.int .i64 k] 3)) := thenA (thenA (thenA (Below.refl _ _) _) _) _
  have HB := hid hb1
  have hm1 := hm.on hb1
  have hx := (BoxAt.made w m.v 46).keep (((Below.refl _ _).alloc (Nat.le_refl _) (.cells #[.string na] 9)).alloc (by simp) (.cells #[.int .i64 k] 3))
  have hc1 : (((w.alloc (.cells m.v 46)).alloc (.cells #[.string na] 9)).alloc (.cells #[.int .i64 k] 3)).cell? ⟨w.heap.size + 1, 0, none⟩ = some (.string na) := by go_simp
  have hc2 : (((w.alloc (.cells m.v 46)).alloc (.cells #[.string na] 9)).alloc (.cells #[.int .i64 k] 3)).cell? ⟨w.heap.size + 1 + 1, 0, none⟩ = some (.int .i64 k) := by go_simp
  have C := hid (idx_ex m.ex m.ex'.a m.ex.length m.ex'.c _ rfl hm1.ex hf.ex 77 #[.pointer (some ⟨w.heap.size + 1, 0, none⟩), .pointer (some ⟨w.heap.size + 1 + 1, 0, none⟩)] entersF (isEx na k)
    (fun W x _ hW => find1_any x _ na k W (Go.Proofs.YtlfflomeaplidaaDoor.keep hW hc1) (Go.Proofs.YtlfflomeaplidaaDoor.keep hW hc2)))
  have HK := hid (show ∀ w1, Below (((w.alloc (.cells m.v 46)).alloc (.cells #[.string na] 9)).alloc (.cells #[.int .i64 k] 3)).heap.size (((w.alloc (.cells m.v 46)).alloc (.cells #[.string na] 9)).alloc (.cells #[.int .i64 k] 3)) w1 →
      w1.cell? ⟨w.heap.size, 6, none⟩ = some (.slice m.ex'.a m.ex.length m.ex'.c) ∧ Rows w1.heap.size w1 m.ex'.a 3 (m.ex.map Ex.v) from fun w1 hb => ⟨(hx.keep hb) 6 _ rfl, (hm1.on hb).ex⟩)
  have hl := hf.ex
  have hbd := idxP_bounds (isEx na k) m.ex
  have HN := hid (fun h => find_miss (m := m) (na := na) (k := k) h)
  have HY := hid (fun i h hi => find_hit (m := m) (na := na) (k := k) (i := i) h hi)
  obtain ⟨t, ht⟩ : ∃ t, idxP (isEx na k) m.ex = t := ⟨_, rfl⟩
  rw [ht] at C HN hbd
  have HT := hid ht
  unfold Md.v at C HB HK ⊢
  clear hm hf hb1 hm1 hx hc1 hc2 ht
  by_cases h1 : t < 0
  · have HR := hid (HN.out h1)
    clear HN HY hbd
    go_enter Tryd.func31, Tryd.ntmps31
    go_wp2_with fail
    refine C.out.mono ?_
    rintro e w1 ⟨rfl, hb1⟩
    have HB1 := hid (HB.out.trans (hb1.mono HB.out.size))
    clear C HK hb1 HB
    go_wp2
    go_ret2
    exact ⟨by rw [HR.out]; rfl, HB1.out⟩
  · obtain ⟨i, rfl⟩ : ∃ i : Nat, t = i := ⟨t.toNat, by omega⟩
    have hi : i < m.ex.length := by omega
    have HR := hid (HY.out i HT.out hi)
    clear HN HY HT hbd
    go_enter Tryd.func31, Tryd.ntmps31
    go_wp2_with fail
    refine C.out.mono ?_
    rintro e w1 ⟨rfl, hb1⟩
    obtain ⟨k0, hrw⟩ := HK.out w1 hb1
    obtain ⟨b, off, ha, hb, hc⟩ := Rows.get hrw hi
    rw [ha] at k0
    obtain ⟨x, hx⟩ : ∃ x, m.ex[i] = x := ⟨_, rfl⟩
    rw [hx] at hc HR
    have c2 : w1.cell? ⟨b, off + i * 3 + 2, none⟩ = some (.int .u32 x.i) := hc 2 (by omega) _ rfl
    have HB1 := hid (HB.out.trans (hb1.mono HB.out.size))
    have hki : (i : Int) < (m.ex.length : Int) := by omega
    clear C HK hb1 HB hrw hc hx hb ha h1
    go_wp2
    go_ret2
    exact ⟨by rw [HR.out]; rfl, HB1.out⟩
end Go.Proofs.YtlfflomeaplidaaDoor.Mod
