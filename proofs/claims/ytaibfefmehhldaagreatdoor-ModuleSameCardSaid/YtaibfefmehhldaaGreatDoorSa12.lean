import Derived.Test.YtaibfefmehhldaaGreatDoorSa10
import Derived.Test.YtaibfefmehhldaaGreatDoorSa09
import Derived.Test.YtaibfefmehhldaaGreatDoorSa05
namespace Go.Proofs.YtaibfefmehhldaaGreatDoor.Instr
end Go.Proofs.YtaibfefmehhldaaGreatDoor.Instr
namespace Go.Proofs.YtaibfefmehhldaaGreatDoor.Body
end Go.Proofs.YtaibfefmehhldaaGreatDoor.Body
namespace Go.Proofs.YtaibfefmehhldaaGreatDoor.Mod
open Go.RowKit Go.Proofs.YtaibfefmehhldaaGreatDoor.Instr
open Go.Proofs.YtaibfefmehhldaaGreatDoor.Body (drewn)

theorem ne_len {α : Type} {l r : List α} {n m : Nat} (hl : l.length = n) (hr : r.length = m) (h : ¬ n = m) : is (l = r) = false := is_no (p := l = r) (fun e => h (by rw [← hl, ← hr, e]))
theorem same_all {α : Type} {l r : List α} {n : Nat} (hl : l.length = n) (hr : r.length = n) (h : ∀ j (h1 : j < l.length) (h2 : j < r.length), j < n → l[j] = r[j]) : is (l = r) = true := is_yes (p := l = r) (list_same hl hr h)
theorem list_getD {α : Type} {l r : List α} {k : Nat} (h1 : k < l.length) (h2 : k < r.length) (h : ¬ l[k] = r[k]) : is (l = r) = false := is_no (p := l = r) (fun e => h (by subst e; rfl))

set_option maxRecDepth 100000 in
set_option maxHeartbeats 2000000 in
theorem equal_ty (n₀ : Nat) (l r : List (Int × Int)) (a1 a2 : Option Addr) (n m c1 c2 : Nat) (w : World) (hn : l.length = n) (hm : r.length = m) (hx : Rows n₀ w a1 2 (l.map tyV)) (hy : Rows n₀ w a2 2 (r.map tyV)) (hn0 : n₀ ≤ w.heap.size) (hb1 : n ≤ 140737488351232) (hb2 : m ≤ 140737488351232) :
    Calls Tryz.prog 35 #[.slice a1 n c1, .slice a2 m c2] w fun e w' => e = .returned (.bool (is (l = r))) ∧ Below w.heap.size w w' := by
  by_cases hnn : n = m
  · subst hnn
    have HL := hid hn
    have HR := hid hm
    have HX := hid hx
    have HY := hid hy
    have HN := hid hn0
    clear hn hm hx hy hn0 hb2
    go_enter Tryz.func35, Tryz.ntmps35
    go_wp2
    go_loopw [5, 13] (fun _ vi wr => ∃ k : Nat, vi = .int .i64 k ∧ k ≤ n ∧ Hid (Below w.heap.size w wr) ∧ Hid (∀ j (h1 : j < l.length) (h2 : j < r.length), j < k → l[j] = r[j])) (fun _ vi _ => n - (intOf vi).toNat)
    case atStart => exact ⟨0, rfl, Nat.zero_le _, Below.refl _ _, fun j _ _ h => absurd h (Nat.not_lt_zero _)⟩
    case round =>
      obtain ⟨k, rfl, hk, HW, HQ⟩ := hrel
      by_cases hlt : k < n
      · have hka : k < l.length := by rw [HL.out]; exact hlt
        have hkb : k < r.length := by rw [HR.out]; exact hlt
        obtain ⟨b1, o1, rfl, hl1, hc1⟩ := Mod.Rows.get HX.out hka
        obtain ⟨b2, o2, rfl, hl2, hc2⟩ := Mod.Rows.get HY.out hkb
        have HS := hid (fun h => same_step hka hkb HQ.out h)
        have HF := hid (fun h => list_getD (l := l) (r := r) hka hkb h)
        obtain ⟨x, hxe⟩ : ∃ x, l[k] = x := ⟨_, rfl⟩
        obtain ⟨y, hye⟩ : ∃ y, r[k] = y := ⟨_, rfl⟩
        rw [hxe] at hc1 HS HF
        rw [hye] at hc2 HS HF
        have c0 : wr.cell? ⟨b1, o1 + k * 2, none⟩ = some (.int .i64 x.1) := (HW.out.cell (p := ⟨b1, o1 + k * 2 + 0, none⟩) (Nat.lt_of_lt_of_le hl1 HN.out)).trans (hc1 0 (by omega) _ rfl)
        have c1 : wr.cell? ⟨b1, o1 + k * 2 + 1, none⟩ = some (.int .i64 x.2) := (HW.out.cell (p := ⟨b1, o1 + k * 2 + 1, none⟩) (Nat.lt_of_lt_of_le hl1 HN.out)).trans (hc1 1 (by omega) _ rfl)
        have d0 : wr.cell? ⟨b2, o2 + k * 2, none⟩ = some (.int .i64 y.1) := (HW.out.cell (p := ⟨b2, o2 + k * 2 + 0, none⟩) (Nat.lt_of_lt_of_le hl2 HN.out)).trans (hc2 0 (by omega) _ rfl)
        have d1 : wr.cell? ⟨b2, o2 + k * 2 + 1, none⟩ = some (.int .i64 y.2) := (HW.out.cell (p := ⟨b2, o2 + k * 2 + 1, none⟩) (Nat.lt_of_lt_of_le hl2 HN.out)).trans (hc2 1 (by omega) _ rfl)
        have hki : (k : Int) < (n : Int) := by omega
        have hsz := HW.out.size
        have hnn0 := HN.out
        have e1 : b1 < wr.heap.size := by omega
        have e2 : b2 < wr.heap.size := by omega
        clear hc1 hc2 hl1 hl2 hxe hye hka hkb hsz hnn0 HQ HX HY
        by_cases hxy : x = y
        · subst hxy
          have HE := hid (HS.out rfl)
          clear HS HF
          have q1 := Kind.eqType
          have q2 := Kind.guardType
          go_wp2
          go_quiet (fail)
          go_wp2
          go_roundw
          case rel => exact ⟨k + 1, by go_num, by omega, drewn HW.out _, HE⟩
          case measure => simp [intOf]; omega
        · have HE := hid (HF.out hxy)
          have q1 := Kind.eqType
          have q2 := Kind.guardType
          have q3 : (x.1 == y.1 && x.2 == y.2) = false := ne_ty hxy
          clear HS HF hxy
          go_wp2
          go_quiet (fail)
          go_wp2
          go_ret
          exact ⟨ret_bool HE.out.symm, drewn HW.out _⟩
      · obtain rfl : k = n := by omega
        have HE := hid (same_all (n := k) HL.out HR.out HQ.out)
        clear HQ hlt hk
        go_wp2
        go_ret
        exact ⟨ret_bool HE.out.symm, HW.out⟩
  · have HE := hid (ne_len hn hm hnn)
    have hni : ¬ (n : Int) = (m : Int) := by omega
    have q1 : ((n : Int) == (m : Int)) = false := beq_eq_false_iff_ne.2 hni
    have q2 : ((n : Int) != (m : Int)) = true := bne_iff_ne.2 hni
    clear hx hy hn hm hnn
    go_enter Tryz.func35, Tryz.ntmps35
    go_wp2
    go_ret
    exact ⟨ret_bool HE.out.symm, Below.refl _ _⟩

set_option maxRecDepth 100000 in
set_option maxHeartbeats 2000000 in
theorem equal_im (n₀ : Nat) (l r : List (Imp)) (a1 a2 : Option Addr) (n m c1 c2 : Nat) (w : World) (hn : l.length = n) (hm : r.length = m) (hx : Rows n₀ w a1 3 (l.map Imp.v)) (hy : Rows n₀ w a2 3 (r.map Imp.v)) (hn0 : n₀ ≤ w.heap.size) (hb1 : n ≤ 140737488351232) (hb2 : m ≤ 140737488351232) :
    Calls Tryz.prog 36 #[.slice a1 n c1, .slice a2 m c2] w fun e w' => e = .returned (.bool (is (l = r))) ∧ Below w.heap.size w w' := by
  by_cases hnn : n = m
  · subst hnn
    have HL := hid hn
    have HR := hid hm
    have HX := hid hx
    have HY := hid hy
    have HN := hid hn0
    clear hn hm hx hy hn0 hb2
    go_enter Tryz.func36, Tryz.ntmps36
    go_wp2
    go_loopw [5, 13] (fun _ vi wr => ∃ k : Nat, vi = .int .i64 k ∧ k ≤ n ∧ Hid (Below w.heap.size w wr) ∧ Hid (∀ j (h1 : j < l.length) (h2 : j < r.length), j < k → l[j] = r[j])) (fun _ vi _ => n - (intOf vi).toNat)
    case atStart => exact ⟨0, rfl, Nat.zero_le _, Below.refl _ _, fun j _ _ h => absurd h (Nat.not_lt_zero _)⟩
    case round =>
      obtain ⟨k, rfl, hk, HW, HQ⟩ := hrel
      by_cases hlt : k < n
      · have hka : k < l.length := by rw [HL.out]; exact hlt
        have hkb : k < r.length := by rw [HR.out]; exact hlt
        obtain ⟨b1, o1, rfl, hl1, hc1⟩ := Mod.Rows.get HX.out hka
        obtain ⟨b2, o2, rfl, hl2, hc2⟩ := Mod.Rows.get HY.out hkb
        have HS := hid (fun h => same_step hka hkb HQ.out h)
        have HF := hid (fun h => list_getD (l := l) (r := r) hka hkb h)
        obtain ⟨x, hxe⟩ : ∃ x, l[k] = x := ⟨_, rfl⟩
        obtain ⟨y, hye⟩ : ∃ y, r[k] = y := ⟨_, rfl⟩
        rw [hxe] at hc1 HS HF
        rw [hye] at hc2 HS HF
        have c0 : wr.cell? ⟨b1, o1 + k * 3, none⟩ = some (.string x.mo) := (HW.out.cell (p := ⟨b1, o1 + k * 3 + 0, none⟩) (Nat.lt_of_lt_of_le hl1 HN.out)).trans (hc1 0 (by omega) _ rfl)
        have c1 : wr.cell? ⟨b1, o1 + k * 3 + 1, none⟩ = some (.string x.na) := (HW.out.cell (p := ⟨b1, o1 + k * 3 + 1, none⟩) (Nat.lt_of_lt_of_le hl1 HN.out)).trans (hc1 1 (by omega) _ rfl)
        have c2 : wr.cell? ⟨b1, o1 + k * 3 + 2, none⟩ = some (.int .i64 x.ty) := (HW.out.cell (p := ⟨b1, o1 + k * 3 + 2, none⟩) (Nat.lt_of_lt_of_le hl1 HN.out)).trans (hc1 2 (by omega) _ rfl)
        have d0 : wr.cell? ⟨b2, o2 + k * 3, none⟩ = some (.string y.mo) := (HW.out.cell (p := ⟨b2, o2 + k * 3 + 0, none⟩) (Nat.lt_of_lt_of_le hl2 HN.out)).trans (hc2 0 (by omega) _ rfl)
        have d1 : wr.cell? ⟨b2, o2 + k * 3 + 1, none⟩ = some (.string y.na) := (HW.out.cell (p := ⟨b2, o2 + k * 3 + 1, none⟩) (Nat.lt_of_lt_of_le hl2 HN.out)).trans (hc2 1 (by omega) _ rfl)
        have d2 : wr.cell? ⟨b2, o2 + k * 3 + 2, none⟩ = some (.int .i64 y.ty) := (HW.out.cell (p := ⟨b2, o2 + k * 3 + 2, none⟩) (Nat.lt_of_lt_of_le hl2 HN.out)).trans (hc2 2 (by omega) _ rfl)
        have hki : (k : Int) < (n : Int) := by omega
        have hsz := HW.out.size
        have hnn0 := HN.out
        have e1 : b1 < wr.heap.size := by omega
        have e2 : b2 < wr.heap.size := by omega
        clear hc1 hc2 hl1 hl2 hxe hye hka hkb hsz hnn0 HQ HX HY
        by_cases hxy : x = y
        · subst hxy
          have HE := hid (HS.out rfl)
          clear HS HF
          have q1 := eqImp
          have q2 := guardImp
          go_wp2
          go_quiet (fail)
          go_wp2
          go_roundw
          case rel => exact ⟨k + 1, by go_num, by omega, drewn HW.out _, HE⟩
          case measure => simp [intOf]; omega
        · have HE := hid (HF.out hxy)
          have q1 := eqImp
          have q2 := guardImp
          have q3 : (x.mo.toList == y.mo.toList && x.na.toList == y.na.toList && x.ty == y.ty) = false := ne_im hxy
          clear HS HF hxy
          go_wp2
          go_quiet (fail)
          go_wp2
          go_ret
          exact ⟨ret_bool HE.out.symm, drewn HW.out _⟩
      · obtain rfl : k = n := by omega
        have HE := hid (same_all (n := k) HL.out HR.out HQ.out)
        clear HQ hlt hk
        go_wp2
        go_ret
        exact ⟨ret_bool HE.out.symm, HW.out⟩
  · have HE := hid (ne_len hn hm hnn)
    have hni : ¬ (n : Int) = (m : Int) := by omega
    have q1 : ((n : Int) == (m : Int)) = false := beq_eq_false_iff_ne.2 hni
    have q2 : ((n : Int) != (m : Int)) = true := bne_iff_ne.2 hni
    clear hx hy hn hm hnn
    go_enter Tryz.func36, Tryz.ntmps36
    go_wp2
    go_ret
    exact ⟨ret_bool HE.out.symm, Below.refl _ _⟩

set_option maxRecDepth 100000 in
set_option maxHeartbeats 2000000 in
theorem equal_ex (n₀ : Nat) (l r : List (Ex)) (a1 a2 : Option Addr) (n m c1 c2 : Nat) (w : World) (hn : l.length = n) (hm : r.length = m) (hx : Rows n₀ w a1 3 (l.map Ex.v)) (hy : Rows n₀ w a2 3 (r.map Ex.v)) (hn0 : n₀ ≤ w.heap.size) (hb1 : n ≤ 140737488351232) (hb2 : m ≤ 140737488351232) :
    Calls Tryz.prog 42 #[.slice a1 n c1, .slice a2 m c2] w fun e w' => e = .returned (.bool (is (l = r))) ∧ Below w.heap.size w w' := by
  by_cases hnn : n = m
  · subst hnn
    have HL := hid hn
    have HR := hid hm
    have HX := hid hx
    have HY := hid hy
    have HN := hid hn0
    clear hn hm hx hy hn0 hb2
    go_enter Tryz.func42, Tryz.ntmps42
    go_wp2
    go_loopw [5, 13] (fun _ vi wr => ∃ k : Nat, vi = .int .i64 k ∧ k ≤ n ∧ Hid (Below w.heap.size w wr) ∧ Hid (∀ j (h1 : j < l.length) (h2 : j < r.length), j < k → l[j] = r[j])) (fun _ vi _ => n - (intOf vi).toNat)
    case atStart => exact ⟨0, rfl, Nat.zero_le _, Below.refl _ _, fun j _ _ h => absurd h (Nat.not_lt_zero _)⟩
    case round =>
      obtain ⟨k, rfl, hk, HW, HQ⟩ := hrel
      by_cases hlt : k < n
      · have hka : k < l.length := by rw [HL.out]; exact hlt
        have hkb : k < r.length := by rw [HR.out]; exact hlt
        obtain ⟨b1, o1, rfl, hl1, hc1⟩ := Mod.Rows.get HX.out hka
        obtain ⟨b2, o2, rfl, hl2, hc2⟩ := Mod.Rows.get HY.out hkb
        have HS := hid (fun h => same_step hka hkb HQ.out h)
        have HF := hid (fun h => list_getD (l := l) (r := r) hka hkb h)
        obtain ⟨x, hxe⟩ : ∃ x, l[k] = x := ⟨_, rfl⟩
        obtain ⟨y, hye⟩ : ∃ y, r[k] = y := ⟨_, rfl⟩
        rw [hxe] at hc1 HS HF
        rw [hye] at hc2 HS HF
        have c0 : wr.cell? ⟨b1, o1 + k * 3, none⟩ = some (.string x.na) := (HW.out.cell (p := ⟨b1, o1 + k * 3 + 0, none⟩) (Nat.lt_of_lt_of_le hl1 HN.out)).trans (hc1 0 (by omega) _ rfl)
        have c1 : wr.cell? ⟨b1, o1 + k * 3 + 1, none⟩ = some (.int .i64 x.k) := (HW.out.cell (p := ⟨b1, o1 + k * 3 + 1, none⟩) (Nat.lt_of_lt_of_le hl1 HN.out)).trans (hc1 1 (by omega) _ rfl)
        have c2 : wr.cell? ⟨b1, o1 + k * 3 + 2, none⟩ = some (.int .u32 x.i) := (HW.out.cell (p := ⟨b1, o1 + k * 3 + 2, none⟩) (Nat.lt_of_lt_of_le hl1 HN.out)).trans (hc1 2 (by omega) _ rfl)
        have d0 : wr.cell? ⟨b2, o2 + k * 3, none⟩ = some (.string y.na) := (HW.out.cell (p := ⟨b2, o2 + k * 3 + 0, none⟩) (Nat.lt_of_lt_of_le hl2 HN.out)).trans (hc2 0 (by omega) _ rfl)
        have d1 : wr.cell? ⟨b2, o2 + k * 3 + 1, none⟩ = some (.int .i64 y.k) := (HW.out.cell (p := ⟨b2, o2 + k * 3 + 1, none⟩) (Nat.lt_of_lt_of_le hl2 HN.out)).trans (hc2 1 (by omega) _ rfl)
        have d2 : wr.cell? ⟨b2, o2 + k * 3 + 2, none⟩ = some (.int .u32 y.i) := (HW.out.cell (p := ⟨b2, o2 + k * 3 + 2, none⟩) (Nat.lt_of_lt_of_le hl2 HN.out)).trans (hc2 2 (by omega) _ rfl)
        have hki : (k : Int) < (n : Int) := by omega
        have hsz := HW.out.size
        have hnn0 := HN.out
        have e1 : b1 < wr.heap.size := by omega
        have e2 : b2 < wr.heap.size := by omega
        clear hc1 hc2 hl1 hl2 hxe hye hka hkb hsz hnn0 HQ HX HY
        by_cases hxy : x = y
        · subst hxy
          have HE := hid (HS.out rfl)
          clear HS HF
          have q1 := eqExp
          have q2 := guardExp
          go_wp2
          go_quiet (fail)
          go_wp2
          go_roundw
          case rel => exact ⟨k + 1, by go_num, by omega, drewn HW.out _, HE⟩
          case measure => simp [intOf]; omega
        · have HE := hid (HF.out hxy)
          have q1 := eqExp
          have q2 := guardExp
          have q3 : (x.na.toList == y.na.toList && x.k == y.k && x.i == y.i) = false := ne_ex hxy
          clear HS HF hxy
          go_wp2
          go_quiet (fail)
          go_wp2
          go_ret
          exact ⟨ret_bool HE.out.symm, drewn HW.out _⟩
      · obtain rfl : k = n := by omega
        have HE := hid (same_all (n := k) HL.out HR.out HQ.out)
        clear HQ hlt hk
        go_wp2
        go_ret
        exact ⟨ret_bool HE.out.symm, HW.out⟩
  · have HE := hid (ne_len hn hm hnn)
    have hni : ¬ (n : Int) = (m : Int) := by omega
    have q1 : ((n : Int) == (m : Int)) = false := beq_eq_false_iff_ne.2 hni
    have q2 : ((n : Int) != (m : Int)) = true := bne_iff_ne.2 hni
    clear hx hy hn hm hnn
    go_enter Tryz.func42, Tryz.ntmps42
    go_wp2
    go_ret
    exact ⟨ret_bool HE.out.symm, Below.refl _ _⟩

set_option maxRecDepth 100000 in
set_option maxHeartbeats 2000000 in
theorem equal_li (n₀ : Nat) (l r : List (Li)) (a1 a2 : Option Addr) (n m c1 c2 : Nat) (w : World) (hn : l.length = n) (hm : r.length = m) (hx : Rows n₀ w a1 3 (l.map Li.v)) (hy : Rows n₀ w a2 3 (r.map Li.v)) (hn0 : n₀ ≤ w.heap.size) (hb1 : n ≤ 140737488351232) (hb2 : m ≤ 140737488351232) :
    Calls Tryz.prog 39 #[.slice a1 n c1, .slice a2 m c2] w fun e w' => e = .returned (.bool (is (l = r))) ∧ Below w.heap.size w w' := by
  by_cases hnn : n = m
  · subst hnn
    have HL := hid hn
    have HR := hid hm
    have HX := hid hx
    have HY := hid hy
    have HN := hid hn0
    clear hn hm hx hy hn0 hb2
    go_enter Tryz.func39, Tryz.ntmps39
    go_wp2
    go_loopw [5, 13] (fun _ vi wr => ∃ k : Nat, vi = .int .i64 k ∧ k ≤ n ∧ Hid (Below w.heap.size w wr) ∧ Hid (∀ j (h1 : j < l.length) (h2 : j < r.length), j < k → l[j] = r[j])) (fun _ vi _ => n - (intOf vi).toNat)
    case atStart => exact ⟨0, rfl, Nat.zero_le _, Below.refl _ _, fun j _ _ h => absurd h (Nat.not_lt_zero _)⟩
    case round =>
      obtain ⟨k, rfl, hk, HW, HQ⟩ := hrel
      by_cases hlt : k < n
      · have hka : k < l.length := by rw [HL.out]; exact hlt
        have hkb : k < r.length := by rw [HR.out]; exact hlt
        obtain ⟨b1, o1, rfl, hl1, hc1⟩ := Mod.Rows.get HX.out hka
        obtain ⟨b2, o2, rfl, hl2, hc2⟩ := Mod.Rows.get HY.out hkb
        have HS := hid (fun h => same_step hka hkb HQ.out h)
        have HF := hid (fun h => list_getD (l := l) (r := r) hka hkb h)
        obtain ⟨x, hxe⟩ : ∃ x, l[k] = x := ⟨_, rfl⟩
        obtain ⟨y, hye⟩ : ∃ y, r[k] = y := ⟨_, rfl⟩
        rw [hxe] at hc1 HS HF
        rw [hye] at hc2 HS HF
        have c0 : wr.cell? ⟨b1, o1 + k * 3, none⟩ = some (.int .u32 x.n) := (HW.out.cell (p := ⟨b1, o1 + k * 3 + 0, none⟩) (Nat.lt_of_lt_of_le hl1 HN.out)).trans (hc1 0 (by omega) _ rfl)
        have c1 : wr.cell? ⟨b1, o1 + k * 3 + 1, none⟩ = some (.int .u32 x.x) := (HW.out.cell (p := ⟨b1, o1 + k * 3 + 1, none⟩) (Nat.lt_of_lt_of_le hl1 HN.out)).trans (hc1 1 (by omega) _ rfl)
        have c2 : wr.cell? ⟨b1, o1 + k * 3 + 2, none⟩ = some (.bool x.c) := (HW.out.cell (p := ⟨b1, o1 + k * 3 + 2, none⟩) (Nat.lt_of_lt_of_le hl1 HN.out)).trans (hc1 2 (by omega) _ rfl)
        have d0 : wr.cell? ⟨b2, o2 + k * 3, none⟩ = some (.int .u32 y.n) := (HW.out.cell (p := ⟨b2, o2 + k * 3 + 0, none⟩) (Nat.lt_of_lt_of_le hl2 HN.out)).trans (hc2 0 (by omega) _ rfl)
        have d1 : wr.cell? ⟨b2, o2 + k * 3 + 1, none⟩ = some (.int .u32 y.x) := (HW.out.cell (p := ⟨b2, o2 + k * 3 + 1, none⟩) (Nat.lt_of_lt_of_le hl2 HN.out)).trans (hc2 1 (by omega) _ rfl)
        have d2 : wr.cell? ⟨b2, o2 + k * 3 + 2, none⟩ = some (.bool y.c) := (HW.out.cell (p := ⟨b2, o2 + k * 3 + 2, none⟩) (Nat.lt_of_lt_of_le hl2 HN.out)).trans (hc2 2 (by omega) _ rfl)
        have hki : (k : Int) < (n : Int) := by omega
        have hsz := HW.out.size
        have hnn0 := HN.out
        have e1 : b1 < wr.heap.size := by omega
        have e2 : b2 < wr.heap.size := by omega
        clear hc1 hc2 hl1 hl2 hxe hye hka hkb hsz hnn0 HQ HX HY
        by_cases hxy : x = y
        · subst hxy
          have HE := hid (HS.out rfl)
          clear HS HF
          have q1 := Kind.eqLim
          have q2 := Kind.guardLim
          go_wp2
          go_quiet (fail)
          go_wp2
          go_roundw
          case rel => exact ⟨k + 1, by go_num, by omega, drewn HW.out _, HE⟩
          case measure => simp [intOf]; omega
        · have HE := hid (HF.out hxy)
          have q1 := Kind.eqLim
          have q2 := Kind.guardLim
          have q3 : (x.n == y.n && x.x == y.x && x.c == y.c) = false := ne_li hxy
          clear HS HF hxy
          go_wp2
          go_quiet (fail)
          go_wp2
          go_ret
          exact ⟨ret_bool HE.out.symm, drewn HW.out _⟩
      · obtain rfl : k = n := by omega
        have HE := hid (same_all (n := k) HL.out HR.out HQ.out)
        clear HQ hlt hk
        go_wp2
        go_ret
        exact ⟨ret_bool HE.out.symm, HW.out⟩
  · have HE := hid (ne_len hn hm hnn)
    have hni : ¬ (n : Int) = (m : Int) := by omega
    have q1 : ((n : Int) == (m : Int)) = false := beq_eq_false_iff_ne.2 hni
    have q2 : ((n : Int) != (m : Int)) = true := bne_iff_ne.2 hni
    clear hx hy hn hm hnn
    go_enter Tryz.func39, Tryz.ntmps39
    go_wp2
    go_ret
    exact ⟨ret_bool HE.out.symm, Below.refl _ _⟩

set_option maxRecDepth 100000 in
set_option maxHeartbeats 2000000 in
theorem equal_tags (n₀ : Nat) (l r : List (Int)) (a1 a2 : Option Addr) (n m c1 c2 : Nat) (w : World) (hn : l.length = n) (hm : r.length = m) (hx : TagsAt n₀ w a1 l) (hy : TagsAt n₀ w a2 r) (hn0 : n₀ ≤ w.heap.size) (hb1 : n ≤ 140737488351232) (hb2 : m ≤ 140737488351232) :
    Calls Tryz.prog 92 #[.slice a1 n c1, .slice a2 m c2] w fun e w' => e = .returned (.bool (is (l = r))) ∧ Below w.heap.size w w' := by
  by_cases hnn : n = m
  · subst hnn
    have HL := hid hn
    have HR := hid hm
    have HX := hid hx
    have HY := hid hy
    have HN := hid hn0
    clear hn hm hx hy hn0 hb2
    go_enter Tryz.func92, Tryz.ntmps92
    go_wp2
    go_loopw [5, 13] (fun _ vi wr => ∃ k : Nat, vi = .int .i64 k ∧ k ≤ n ∧ Hid (Below w.heap.size w wr) ∧ Hid (∀ j (h1 : j < l.length) (h2 : j < r.length), j < k → l[j] = r[j])) (fun _ vi _ => n - (intOf vi).toNat)
    case atStart => exact ⟨0, rfl, Nat.zero_le _, Below.refl _ _, fun j _ _ h => absurd h (Nat.not_lt_zero _)⟩
    case round =>
      obtain ⟨k, rfl, hk, HW, HQ⟩ := hrel
      by_cases hlt : k < n
      · have hka : k < l.length := by rw [HL.out]; exact hlt
        have hkb : k < r.length := by rw [HR.out]; exact hlt
        have hcell : ∀ (a : Option Addr) (zs : List Int) (h : k < zs.length), TagsAt n₀ w a zs → ∃ b off, a = some ⟨b, off, none⟩ ∧ b < n₀ ∧ wr.cell? ⟨b, off + k, none⟩ = some (.int .u32 zs[k]) := by
          intro a zs h1 h
          rcases h with h | ⟨b, off, ha, hl, hc⟩
          · subst h; exact absurd h1 (by simp)
          · exact ⟨b, off, ha, hl, by rw [← getD_lt h1]; exact (HW.out.cell (p := ⟨b, off + k, none⟩) (Nat.lt_of_lt_of_le hl HN.out)).trans (hc k h1)⟩
        obtain ⟨b1, o1, rfl, hl1, hc1⟩ := hcell a1 l hka HX.out
        obtain ⟨b2, o2, rfl, hl2, hc2⟩ := hcell a2 r hkb HY.out
        clear hcell
        have HS := hid (fun h => same_step hka hkb HQ.out h)
        have HF := hid (fun h => list_getD (l := l) (r := r) hka hkb h)
        obtain ⟨x, hxe⟩ : ∃ x, l[k] = x := ⟨_, rfl⟩
        obtain ⟨y, hye⟩ : ∃ y, r[k] = y := ⟨_, rfl⟩
        rw [hxe] at hc1 HS HF
        rw [hye] at hc2 HS HF
        have c0 := hc1
        have d0 := hc2
        have hki : (k : Int) < (n : Int) := by omega
        have hsz := HW.out.size
        have hnn0 := HN.out
        have e1 : b1 < wr.heap.size := by omega
        have e2 : b2 < wr.heap.size := by omega
        clear hc1 hc2 hl1 hl2 hxe hye hka hkb hsz hnn0 HQ HX HY
        by_cases hxy : x = y
        · subst hxy
          have HE := hid (HS.out rfl)
          clear HS HF

          go_wp2
          go_quiet (fail)
          go_wp2
          go_roundw
          case rel => exact ⟨k + 1, by go_num, by omega, drewn HW.out _, HE⟩
          case measure => simp [intOf]; omega
        · have HE := hid (HF.out hxy)
          have q1 : (x == y) = false := by simp [hxy]
          have q2 : (x != y) = true := by simp [hxy]
          clear HS HF hxy
          go_wp2
          go_quiet (fail)
          go_wp2
          go_ret
          exact ⟨ret_bool HE.out.symm, drewn HW.out _⟩
      · obtain rfl : k = n := by omega
        have HE := hid (same_all (n := k) HL.out HR.out HQ.out)
        clear HQ hlt hk
        go_wp2
        go_ret
        exact ⟨ret_bool HE.out.symm, HW.out⟩
  · have HE := hid (ne_len hn hm hnn)
    have hni : ¬ (n : Int) = (m : Int) := by omega
    have q1 : ((n : Int) == (m : Int)) = false := beq_eq_false_iff_ne.2 hni
    have q2 : ((n : Int) != (m : Int)) = true := bne_iff_ne.2 hni
    clear hx hy hn hm hnn
    go_enter Tryz.func92, Tryz.ntmps92
    go_wp2
    go_ret
    exact ⟨ret_bool HE.out.symm, Below.refl _ _⟩

set_option maxRecDepth 100000 in
set_option maxHeartbeats 2000000 in
theorem equal_bytes (n₀ : Nat) (l r : List (Int)) (a1 a2 : Option Addr) (n m c1 c2 : Nat) (w : World) (hn : l.length = n) (hm : r.length = m) (hx : BytesAt n₀ w a1 l) (hy : BytesAt n₀ w a2 r) (hn0 : n₀ ≤ w.heap.size) (hb1 : n ≤ 140737488351232) (hb2 : m ≤ 140737488351232) :
    Calls Tryz.prog 93 #[.slice a1 n c1, .slice a2 m c2] w fun e w' => e = .returned (.bool (is (l = r))) ∧ Below w.heap.size w w' := by
  by_cases hnn : n = m
  · subst hnn
    have HL := hid hn
    have HR := hid hm
    have HX := hid hx
    have HY := hid hy
    have HN := hid hn0
    clear hn hm hx hy hn0 hb2
    go_enter Tryz.func93, Tryz.ntmps93
    go_wp2
    go_loopw [5, 13] (fun _ vi wr => ∃ k : Nat, vi = .int .i64 k ∧ k ≤ n ∧ Hid (Below w.heap.size w wr) ∧ Hid (∀ j (h1 : j < l.length) (h2 : j < r.length), j < k → l[j] = r[j])) (fun _ vi _ => n - (intOf vi).toNat)
    case atStart => exact ⟨0, rfl, Nat.zero_le _, Below.refl _ _, fun j _ _ h => absurd h (Nat.not_lt_zero _)⟩
    case round =>
      obtain ⟨k, rfl, hk, HW, HQ⟩ := hrel
      by_cases hlt : k < n
      · have hka : k < l.length := by rw [HL.out]; exact hlt
        have hkb : k < r.length := by rw [HR.out]; exact hlt
        have hcell : ∀ (a : Option Addr) (zs : List Int) (h : k < zs.length), BytesAt n₀ w a zs → ∃ b off, a = some ⟨b, off, none⟩ ∧ b < n₀ ∧ wr.cell? ⟨b, off + k, none⟩ = some (.int .u8 zs[k]) := by
          intro a zs h1 h
          rcases h with h | ⟨b, off, ha, hl, hc⟩
          · subst h; exact absurd h1 (by simp)
          · exact ⟨b, off, ha, hl, by rw [← getD_lt h1]; exact (HW.out.cell (p := ⟨b, off + k, none⟩) (Nat.lt_of_lt_of_le hl HN.out)).trans (hc k h1)⟩
        obtain ⟨b1, o1, rfl, hl1, hc1⟩ := hcell a1 l hka HX.out
        obtain ⟨b2, o2, rfl, hl2, hc2⟩ := hcell a2 r hkb HY.out
        clear hcell
        have HS := hid (fun h => same_step hka hkb HQ.out h)
        have HF := hid (fun h => list_getD (l := l) (r := r) hka hkb h)
        obtain ⟨x, hxe⟩ : ∃ x, l[k] = x := ⟨_, rfl⟩
        obtain ⟨y, hye⟩ : ∃ y, r[k] = y := ⟨_, rfl⟩
        rw [hxe] at hc1 HS HF
        rw [hye] at hc2 HS HF
        have c0 := hc1
        have d0 := hc2
        have hki : (k : Int) < (n : Int) := by omega
        have hsz := HW.out.size
        have hnn0 := HN.out
        have e1 : b1 < wr.heap.size := by omega
        have e2 : b2 < wr.heap.size := by omega
        clear hc1 hc2 hl1 hl2 hxe hye hka hkb hsz hnn0 HQ HX HY
        by_cases hxy : x = y
        · subst hxy
          have HE := hid (HS.out rfl)
          clear HS HF

          go_wp2
          go_quiet (fail)
          go_wp2
          go_roundw
          case rel => exact ⟨k + 1, by go_num, by omega, drewn HW.out _, HE⟩
          case measure => simp [intOf]; omega
        · have HE := hid (HF.out hxy)
          have q1 : (x == y) = false := by simp [hxy]
          have q2 : (x != y) = true := by simp [hxy]
          clear HS HF hxy
          go_wp2
          go_quiet (fail)
          go_wp2
          go_ret
          exact ⟨ret_bool HE.out.symm, drewn HW.out _⟩
      · obtain rfl : k = n := by omega
        have HE := hid (same_all (n := k) HL.out HR.out HQ.out)
        clear HQ hlt hk
        go_wp2
        go_ret
        exact ⟨ret_bool HE.out.symm, HW.out⟩
  · have HE := hid (ne_len hn hm hnn)
    have hni : ¬ (n : Int) = (m : Int) := by omega
    have q1 : ((n : Int) == (m : Int)) = false := beq_eq_false_iff_ne.2 hni
    have q2 : ((n : Int) != (m : Int)) = true := bne_iff_ne.2 hni
    clear hx hy hn hm hnn
    go_enter Tryz.func93, Tryz.ntmps93
    go_wp2
    go_ret
    exact ⟨ret_bool HE.out.symm, Below.refl _ _⟩
end Go.Proofs.YtaibfefmehhldaaGreatDoor.Mod

namespace Go.Proofs.YtaibfefmehhldaaGreatDoor.Mod
open Go.RowKit Go.Proofs.YtaibfefmehhldaaGreatDoor.Instr
open Go.Proofs.YtaibfefmehhldaaGreatDoor.Body (drewn Eight two_boxes)

theorem len_le : ∀ t : Il, t.len ≤ t.count
  | .nil => Nat.le_refl _
  | .cons _ _ _ r => by have := len_le r; simp only [Il.len, Il.count]; omega
/-- The program's lists, of lists of fewer than m instructions. -/
def ListsC (n₀ m : Nat) : Prop := ∀ (t u : Il) (a1 a2 : Option Addr) (n1 n2 c1 c2 : Nat) (w : World), t.count < m → u.count < m → ListAt n₀ w a1 n1 t → ListAt n₀ w a2 n2 u → n₀ ≤ w.heap.size → n1 ≤ 140737488351232 → n2 ≤ 140737488351232 →
    Calls Tryz.prog 91 #[.agg #[], .slice a1 n1 c1, .slice a2 n2 c2] w fun e w' => e = .returned (.bool (is (t.bare = u.bare))) ∧ Below w.heap.size w w'

set_option maxRecDepth 100000 in
set_option maxHeartbeats 4000000 in
theorem instrs_any (n₀ m : Nat) (ih : ListsC n₀ m) (x y : Ix) (l e l' e' : Il) (w : World) (hox : x.ok) (hoy : y.ok) (htx : TagsAt n₀ w x.ta x.tags) (hty : TagsAt n₀ w y.ta y.tags)
    (hlx : ListAt n₀ w x.la x.ln l) (hly : ListAt n₀ w y.la y.ln l') (hex : ListAt n₀ w x.ea x.en e) (hey : ListAt n₀ w y.ea y.en e') (hcl : l.count < m) (hcl' : l'.count < m) (hce : e.count < m) (hce' : e'.count < m) (hn0 : n₀ ≤ w.heap.size) :
    Calls Tryz.prog 111 #[.agg #[], .agg x.vals, .agg y.vals] w fun r w' => r = .returned (.bool (is (AllSame x y l e l' e'))) ∧ Below w.heap.size w w' := by
  obtain ⟨op, res, xa, xb, xn, tags, ta, tc, la, ln, lc, ea, en, ec⟩ := x
  obtain ⟨op', res', xa', xb', xn', tags', ta', tc', la', ln', lc', ea', en', ec'⟩ := y
  dsimp only at htx hty hlx hly hex hey
  have tnx : tags.length ≤ 140737488351232 := hox.tn
  have tny : tags'.length ≤ 140737488351232 := hoy.tn
  have lnx : ln ≤ 140737488351232 := hox.ln
  have lny : ln' ≤ 140737488351232 := hoy.ln
  have enx : en ≤ 140737488351232 := hox.en
  have eny : en' ≤ 140737488351232 := hoy.en
  have SC := hid (fun (W : World) (hb : Below w.heap.size w W) => equal_tags n₀ tags tags' ta ta' tags.length tags'.length tc tc' W rfl rfl (htx.below (hb.mono hn0)) (hty.below (hb.mono hn0)) (Nat.le_trans hn0 hb.size) tnx tny)
  have SL := hid (fun (W : World) (hb : Below w.heap.size w W) => ih l l' la la' ln ln' lc lc' W hcl hcl' (hlx.below (hb.mono hn0)) (hly.below (hb.mono hn0)) (Nat.le_trans hn0 hb.size) lnx lny)
  have SE := hid (fun (W : World) (hb : Below w.heap.size w W) => ih e e' ea ea' en en' ec ec' W hce hce' (hex.below (hb.mono hn0)) (hey.below (hb.mono hn0)) (Nat.le_trans hn0 hb.size) enx eny)
  have HY := hid (fun (h1 : op = op') (h2 : res = res') (h3 : xa = xa') (h4 : xb = xb') (h5 : xn = xn') (h6 : tags = tags') (h7 : l.bare = l'.bare) (h8 : e.bare = e'.bare) => is_yes (p := AllSame ⟨op, res, xa, xb, xn, tags, ta, tc, la, ln, lc, ea, en, ec⟩ ⟨op', res', xa', xb', xn', tags', ta', tc', la', ln', lc', ea', en', ec'⟩ l e l' e') ⟨h1, h2, h3, h4, h5, h6, h7, h8⟩)
  have HN := hid (fun (h : ¬ AllSame ⟨op, res, xa, xb, xn, tags, ta, tc, la, ln, lc, ea, en, ec⟩ ⟨op', res', xa', xb', xn', tags', ta', tc', la', ln', lc', ea', en', ec'⟩ l e l' e') => is_no h)
  have H0 := hid (fun (h : AllSame ⟨op, res, xa, xb, xn, tags, ta, tc, la, ln, lc, ea, en, ec⟩ ⟨op', res', xa', xb', xn', tags', ta', tc', la', ln', lc', ea', en', ec'⟩ l e l' e') => (show op = op' ∧ res = res' ∧ xa = xa' ∧ xb = xb' ∧ xn = xn' ∧ tags = tags' ∧ l.bare = l'.bare ∧ e.bare = e'.bare from ⟨h.op, h.res, h.a, h.b, h.n, h.tags, h.l, h.e⟩))
  clear hox hoy htx hty hlx hly hex hey hcl hcl' hce hce' tnx tny lnx lny enx eny ih
  obtain ⟨R, hR⟩ : ∃ R, is (AllSame ⟨op, res, xa, xb, xn, tags, ta, tc, la, ln, lc, ea, en, ec⟩ ⟨op', res', xa', xb', xn', tags', ta', tc', la', ln', lc', ea', en', ec'⟩ l e l' e') = R := ⟨_, rfl⟩
  rw [hR] at HY HN ⊢
  obtain ⟨S, hS⟩ : ∃ S, AllSame ⟨op, res, xa, xb, xn, tags, ta, tc, la, ln, lc, ea, en, ec⟩ ⟨op', res', xa', xb', xn', tags', ta', tc', la', ln', lc', ea', en', ec'⟩ l e l' e' = S := ⟨_, rfl⟩
  rw [hS] at HN H0
  clear hR hS
  show Calls _ _ #[.agg #[], .agg #[.int .i64 op, .int .i64 res, .int .u32 xa, .int .u32 xb, .int .i32 xn, .slice ta tags.length tc, .slice la ln lc, .slice ea en ec], .agg #[.int .i64 op', .int .i64 res', .int .u32 xa', .int .u32 xb', .int .i32 xn', .slice ta' tags'.length tc', .slice la' ln' lc', .slice ea' en' ec']] w _
  obtain ⟨w1, hw1, A1, A2, hb1⟩ : ∃ w1, w1 = (((w.alloc (.cells #[] 57)).alloc (.cells #[.int .i64 op, .int .i64 res, .int .u32 xa, .int .u32 xb, .int .i32 xn, .slice ta tags.length tc, .slice la ln lc, .slice ea en ec] 87)).alloc (.cells #[.int .i64 op', .int .i64 res', .int .u32 xa', .int .u32 xb', .int .i32 xn', .slice ta' tags'.length tc', .slice la' ln' lc', .slice ea' en' ec'] 87)) ∧ At ⟨op, res, xa, xb, xn, tags, ta, tc, la, ln, lc, ea, en, ec⟩ (w.heap.size + 1) w1 ∧ At ⟨op', res', xa', xb', xn', tags', ta', tc', la', ln', lc', ea', en', ec'⟩ (w.heap.size + 2) w1 ∧ Below w.heap.size w w1 := by
    obtain ⟨A1, A2, hb⟩ := two_boxes (w.alloc (.cells #[] 57)) ⟨op, res, xa, xb, xn, tags, ta, tc, la, ln, lc, ea, en, ec⟩ ⟨op', res', xa', xb', xn', tags', ta', tc', la', ln', lc', ea', en', ec'⟩
    rw [World.size_alloc] at A1 A2
    refine ⟨_, rfl, ⟨A1.c0, A1.c1, A1.c2, A1.c3, A1.c4, A1.c5, A1.c6, A1.c7⟩, ⟨A2.c0, A2.c1, A2.c2, A2.c3, A2.c4, A2.c5, A2.c6, A2.c7⟩, ?_⟩
    exact (((Below.refl w.heap.size w).alloc (Nat.le_refl _) _).alloc (by simp only [World.size_alloc]; omega) _).alloc (by simp only [World.size_alloc]; omega) _
  have HB1 := hid hb1
  obtain ⟨x0, x1, x2, x3, x4, x5, x6, x7⟩ := A1
  obtain ⟨y0, y1, y2, y3, y4, y5, y6, y7⟩ := A2
  dsimp only at x0 x1 x2 x3 x4 x5 x6 x7 y0 y1 y2 y3 y4 y5 y6 y7
  have HW := hid hw1
  clear hw1 hb1
  go_enter Tryz.func111, Tryz.ntmps111

  by_cases g0 : op = op'
  rotate_left
  · have HE := hid (HN.out (fun h => g0 (H0.out h).1))
    have q1 : (op == op') = false := by simp [g0]
    have q2 : (op != op') = true := by simp [g0]
    clear SC SL SE HY HN H0
    go_wp2
    rw [← HW.out]
    go_wp2
    go_ret
    exact ⟨ret_bool HE.out.symm, HB1.out⟩
  subst g0
  by_cases g1 : res = res'
  rotate_left
  · have HE := hid (HN.out (fun h => g1 (H0.out h).2.1))
    have q1 : (res == res') = false := by simp [g1]
    have q2 : (res != res') = true := by simp [g1]
    clear SC SL SE HY HN H0
    go_wp2
    rw [← HW.out]
    go_wp2
    go_ret
    exact ⟨ret_bool HE.out.symm, HB1.out⟩
  subst g1
  by_cases g2 : xa = xa'
  rotate_left
  · have HE := hid (HN.out (fun h => g2 (H0.out h).2.2.1))
    have q1 : (xa == xa') = false := by simp [g2]
    have q2 : (xa != xa') = true := by simp [g2]
    clear SC SL SE HY HN H0
    go_wp2
    rw [← HW.out]
    go_wp2
    go_ret
    exact ⟨ret_bool HE.out.symm, HB1.out⟩
  subst g2
  by_cases g3 : xb = xb'
  rotate_left
  · have HE := hid (HN.out (fun h => g3 (H0.out h).2.2.2.1))
    have q1 : (xb == xb') = false := by simp [g3]
    have q2 : (xb != xb') = true := by simp [g3]
    clear SC SL SE HY HN H0
    go_wp2
    rw [← HW.out]
    go_wp2
    go_ret
    exact ⟨ret_bool HE.out.symm, HB1.out⟩
  subst g3
  by_cases g4 : xn = xn'
  rotate_left
  · have HE := hid (HN.out (fun h => g4 (H0.out h).2.2.2.2.1))
    have q1 : (xn == xn') = false := by simp [g4]
    have q2 : (xn != xn') = true := by simp [g4]
    clear SC SL SE HY HN H0
    go_wp2
    rw [← HW.out]
    go_wp2
    go_ret
    exact ⟨ret_bool HE.out.symm, HB1.out⟩
  subst g4
  go_wp2_with fail
  rw [← HW.out]
  go_wp2_with fail
  obtain ⟨r5, h5⟩ : ∃ r, is (tags = tags') = r := ⟨_, rfl⟩
  rw [h5] at SC
  refine (SC.out _ HB1.out).mono ?_
  rintro r w2 ⟨rfl, hb2⟩
  have HB2 := hid (HB1.out.trans (hb2.mono HB1.out.size))
  have x6 := Go.Proofs.YtaibfefmehhldaaGreatDoor.keep hb2 x6
  have x7 := Go.Proofs.YtaibfefmehhldaaGreatDoor.keep hb2 x7
  have y6 := Go.Proofs.YtaibfefmehhldaaGreatDoor.keep hb2 y6
  have y7 := Go.Proofs.YtaibfefmehhldaaGreatDoor.keep hb2 y7
  clear HB1 HW hb2 SC x0 x1 x2 x3 x4 x5 y0 y1 y2 y3 y4 y5
  cases r5 with
  | false =>
    have HE := hid (HN.out (fun h => by have := is_yes (H0.out h).2.2.2.2.2.1; rw [h5] at this; cases this))
    clear SL SE HY HN H0 h5
    go_wp2
    go_ret
    exact ⟨ret_bool HE.out.symm, HB2.out⟩
  | true =>
    have G5 : Hid (tags = tags') := hid (by apply Classical.byContradiction; intro h; rw [is_no h] at h5; cases h5)
    clear h5
    go_wp2_with fail
    obtain ⟨r6, h6⟩ : ∃ r, is (l.bare = l'.bare) = r := ⟨_, rfl⟩
    rw [h6] at SL
    refine (SL.out _ HB2.out).mono ?_
    rintro r w3 ⟨rfl, hb3⟩
    have HB3 := hid (HB2.out.trans (hb3.mono HB2.out.size))
    have x7 := Go.Proofs.YtaibfefmehhldaaGreatDoor.keep hb3 x7
    have y7 := Go.Proofs.YtaibfefmehhldaaGreatDoor.keep hb3 y7
    clear HB2 hb3 SL x6 y6
    cases r6 with
    | false =>
      have HE := hid (HN.out (fun h => by have := is_yes (H0.out h).2.2.2.2.2.2.1; rw [h6] at this; cases this))
      clear SE HY HN H0 h6
      go_wp2
      go_ret
      exact ⟨ret_bool HE.out.symm, HB3.out⟩
    | true =>
      have G6 : Hid (l.bare = l'.bare) := hid (by apply Classical.byContradiction; intro h; rw [is_no h] at h6; cases h6)
      clear h6
      go_wp2_with fail
      obtain ⟨r7, h7⟩ : ∃ r, is (e.bare = e'.bare) = r := ⟨_, rfl⟩
      rw [h7] at SE
      refine (SE.out _ HB3.out).mono ?_
      rintro r w4 ⟨rfl, hb4⟩
      have HB4 := hid (HB3.out.trans (hb4.mono HB3.out.size))
      clear HB3 hb4 SE x7 y7
      cases r7 with
      | false =>
        have HE := hid (HN.out (fun h => by have := is_yes (H0.out h).2.2.2.2.2.2.2; rw [h7] at this; cases this))
        clear HY HN H0 h7
        go_wp2
        go_ret
        exact ⟨ret_bool HE.out.symm, HB4.out⟩
      | true =>
        have G7 : Hid (e.bare = e'.bare) := hid (by apply Classical.byContradiction; intro h; rw [is_no h] at h7; cases h7)
        have HE := hid (HY.out (by trivial) (by trivial) (by trivial) (by trivial) (by trivial) G5.out G6.out G7.out)
        clear HY HN H0 h7
        go_wp2
        go_ret
        exact ⟨ret_bool HE.out.symm, HB4.out⟩

set_option maxRecDepth 100000 in
set_option maxHeartbeats 4000000 in
theorem equalI (n₀ m : Nat) (ih : ListsC n₀ m) (t u : Il) (a1 a2 : Option Addr) (n1 n2 c1 c2 : Nat) (w : World) (hm : t.count ≤ m) (hm2 : u.count ≤ m) (h1 : ListAt n₀ w a1 n1 t) (h2 : ListAt n₀ w a2 n2 u) (hn0 : n₀ ≤ w.heap.size) (hn1 : n1 ≤ 140737488351232) (hn2 : n2 ≤ 140737488351232) :
    Calls Tryz.prog 110 #[.slice a1 n1 c1, .slice a2 n2 c2, .func (.func 111) #[.agg #[]] #[]] w fun e w' => e = .returned (.bool (is (t.bare = u.bare))) ∧ Below w.heap.size w w' := by
  by_cases hnn : n1 = n2
  · subst hnn
    have hpos : 0 < n1 → m = m - 1 + 1 := fun h => by have := len_le t; have := h1.1; omega
    have HA1 := hid (Ahead.start (n₀ := n₀) (n := n1) (m := m - 1) (by omega) h1)
    have HA2 := hid (Ahead.start (n₀ := n₀) (n := n1) (m := m - 1) (by omega) h2)
    have IH := hid ih
    have HP := hid hpos
    have HN := hid hn0
    clear hm hm2 h1 h2 hn0 hn2 ih hpos
    go_enter Tryz.func110, Tryz.ntmps110
    go_wp2
    go_loopw [7, 17] (fun _ vi wr => ∃ (k : Nat) (r s : Il), vi = .int .i64 k ∧ k ≤ n1 ∧ Hid (Below w.heap.size w wr) ∧ Hid (Ahead n₀ n1 k (m - 1) a1 wr r) ∧ Hid (Ahead n₀ n1 k (m - 1) a2 wr s) ∧ Hid (t.bare = u.bare ↔ r.bare = s.bare)) (fun _ vi _ => n1 - (intOf vi).toNat)
    case atStart => exact ⟨0, t, u, rfl, Nat.zero_le _, Below.refl _ _, HA1, HA2, Iff.rfl⟩
    case round =>
      clear HA1 HA2
      obtain ⟨k, r, s, rfl, hk, HB, HR, HS, HI⟩ := hrel
      by_cases hkn : k < n1
      · obtain ⟨x, l, e, r', b1, o1, rfl, hb1, rfl, hc, hox, htx, hlx, hex, hcl, hce, hr'⟩ := HR.out.step hkn
        obtain ⟨y, l', e', s', b2, o2, rfl, hb2, rfl, hd, hoy, hty, hly, hey, hcl', hce', hs'⟩ := HS.out.step hkn
        have HI2 := hid (HI.out.trans (cons_same hlx.1 hex.1 hly.1 hey.1))
        have HR2 := hid hr'
        have HS2 := hid hs'
        have hk0 : (k : Int) < (n1 : Int) := by omega
        have hmm := HP.out (by omega)
        have hs := HB.out.size
        have hn0 := HN.out
        have e1 : b1 < wr.heap.size := by omega
        have e2 : b2 < wr.heap.size := by omega
        have CI := hid (fun (W : World) (hb : Below wr.heap.size wr W) => instrs_any n₀ m IH.out x y l e l' e' W hox hoy (htx.below (hb.mono (Nat.le_trans hn0 hs))) (hty.below (hb.mono (Nat.le_trans hn0 hs))) (hlx.below (hb.mono (Nat.le_trans hn0 hs))) (hly.below (hb.mono (Nat.le_trans hn0 hs))) (hex.below (hb.mono (Nat.le_trans hn0 hs))) (hey.below (hb.mono (Nat.le_trans hn0 hs))) (by omega) (by omega) (by omega) (by omega) (Nat.le_trans (Nat.le_trans hn0 hs) hb.size))
        obtain ⟨q, hq⟩ : ∃ q, AllSame x y l e l' e' = q := ⟨_, rfl⟩
        rw [hq] at CI HI2
        obtain ⟨z, hz⟩ : ∃ z, is q = z := ⟨_, rfl⟩
        rw [hz] at CI
        have HZ := hid hz
        clear hq hz hb1 hb2 hs hn0 hmm hox htx hlx hex hcl hce hr' hoy hty hly hey hcl' hce' hs' HR HS HI
        obtain ⟨op, res, xa, xb, xn, tags, ta, tc, la, ln, lc, ea, en, ec⟩ := x
        obtain ⟨op', res', xa', xb', xn', tags', ta', tc', la', ln', lc', ea', en', ec'⟩ := y
        obtain ⟨c0, c1, c2, c3, c4, c5, c6, c7⟩ := hc
        obtain ⟨d0, d1, d2, d3, d4, d5, d6, d7⟩ := hd
        dsimp only at c0 c1 c2 c3 c4 c5 c6 c7 d0 d1 d2 d3 d4 d5 d6 d7
        go_wp2_with fail
        refine (CI.out _ (((Below.refl wr.heap.size wr).alloc (Nat.le_refl _) _).alloc (by simp only [World.size_alloc]; omega) _)).mono ?_
        rintro r w2 ⟨rfl, hb2⟩
        have hb3 : Below wr.heap.size wr w2 := (((Below.refl wr.heap.size wr).alloc (Nat.le_refl _) _).alloc (by simp only [World.size_alloc]; omega) _).trans (hb2.mono (by simp only [World.size_alloc]; omega))
        have HB2 := hid (HB.out.trans (hb3.mono HB.out.size))
        have hb4 := hb3.mono (Nat.le_trans HN.out HB.out.size)
        have HR3 := hid (HR2.out.below hb4)
        have HS3 := hid (HS2.out.below hb4)
        clear HR2 HS2 hb2 hb3 hb4 CI c0 c1 c2 c3 c4 c5 c6 c7 d0 d1 d2 d3 d4 d5 d6 d7 e1 e2
        cases z with
        | false =>
          have HE := hid (is_no (p := t.bare = u.bare) (fun e => by have := is_yes (HI2.out.1 e).1; rw [HZ.out] at this; cases this))
          clear HR3 HS3 HI2 HZ
          go_wp2
          go_ret
          exact ⟨ret_bool HE.out.symm, HB2.out⟩
        | true =>
          have HQ := hid (show t.bare = u.bare ↔ r'.bare = s'.bare from HI2.out.trans ⟨fun h => h.2, fun h => ⟨Classical.byContradiction (fun g => by have := HZ.out; rw [is_no g] at this; cases this), h⟩⟩)
          clear HI2 HZ
          go_wp2
          go_roundw
          case rel => exact ⟨k + 1, r', s', by go_num, by omega, HB2, HR3, HS3, HQ⟩
          case measure => simp [intOf]; omega
      · obtain rfl : k = n1 := by omega
        have HE := hid (is_yes (p := t.bare = u.bare) (HI.out.2 (by rw [HR.out.done, HS.out.done])))
        clear HI HR HS hkn hk
        go_wp2
        go_ret
        exact ⟨ret_bool HE.out.symm, HB.out⟩
  · have HE := hid (is_no (p := t.bare = u.bare) (bare_lens h1.1 h2.1 hnn))
    have hni : ¬ (n1 : Int) = (n2 : Int) := by omega
    have q1 : ((n1 : Int) == (n2 : Int)) = false := beq_eq_false_iff_ne.2 hni
    have q2 : ((n1 : Int) != (n2 : Int)) = true := bne_iff_ne.2 hni
    clear h1 h2 hm hm2 hnn ih
    go_enter Tryz.func110, Tryz.ntmps110
    go_wp2
    go_ret
    exact ⟨ret_bool HE.out.symm, Below.refl _ _⟩

set_option maxRecDepth 100000 in
set_option maxHeartbeats 4000000 in
theorem listsC (n₀ : Nat) : ∀ m, ListsC n₀ m := by
  intro m
  induction m with
  | zero => intro t u a1 a2 n1 n2 c1 c2 w hm; omega
  | succ m ih =>
    intro t u a1 a2 n1 n2 c1 c2 w hm hm2 h1 h2 hn0 hn1 hn2
    have hb := (Below.refl w.heap.size w).alloc (Nat.le_refl _) (.cells #[] 57)
    have C := hid (equalI n₀ m ih t u a1 a2 n1 n2 c1 c2 (w.alloc (.cells #[] 57)) (by omega) (by omega) (h1.below (hb.mono hn0)) (h2.below (hb.mono hn0)) (by simp only [World.size_alloc]; omega) hn1 hn2)
    have HB := hid hb
    obtain ⟨z, hz⟩ : ∃ z, is (t.bare = u.bare) = z := ⟨_, rfl⟩
    rw [hz] at C ⊢
    clear hz h1 h2 hm hm2 ih hb
    go_enter Tryz.func91, Tryz.ntmps91
    go_wp2_with fail
    refine C.out.mono ?_
    rintro r w2 ⟨rfl, hb2⟩
    have HB2 := hid (HB.out.trans (hb2.mono HB.out.size))
    clear HB hb2 C
    go_wp2
    go_ret
    exact ⟨rfl, HB2.out⟩
theorem lists_any (n₀ : Nat) (t u : Il) (a1 a2 : Option Addr) (n1 n2 c1 c2 : Nat) (w : World) (h1 : ListAt n₀ w a1 n1 t) (h2 : ListAt n₀ w a2 n2 u) (hn0 : n₀ ≤ w.heap.size) (hn1 : n1 ≤ 140737488351232) (hn2 : n2 ≤ 140737488351232) :
    Calls Tryz.prog 91 #[.agg #[], .slice a1 n1 c1, .slice a2 n2 c2] w fun e w' => e = .returned (.bool (is (t.bare = u.bare))) ∧ Below w.heap.size w w' :=
  listsC n₀ (max t.count u.count + 1) t u a1 a2 n1 n2 c1 c2 w (by omega) (by omega) h1 h2 hn0 hn1 hn2
end Go.Proofs.YtaibfefmehhldaaGreatDoor.Mod

namespace Go.Proofs.YtaibfefmehhldaaGreatDoor.Mod
open Go.RowKit Go.Proofs.YtaibfefmehhldaaGreatDoor.Instr

theorem cs_cell {w : World} {g : Nat} {cs : Array Value} {t : TypeId} {m : Nat × Nat} (hh : w.heap[g]? = some (.cells cs t m)) {i : Nat} {u : Value} (hu : cs[i]? = some u) : w.cell? ⟨g, i, none⟩ = some u := by
  simp [World.cell?, hh, hu]
/-- What copyInstr tells of x with its sublists l and e. -/
structure CpyX (lo : Nat) (w : World) (x' x : Ix) (l' l e' e : Il) : Prop where
  ok : x'.ok
  tags : TagsO lo w.heap.size w x'.ta x'.tags
  ls : ListO lo w.heap.size w x'.la x'.ln l'
  es : ListO lo w.heap.size w x'.ea x'.en e'
  same : AllSame x' x l' e' l e
/-- copyList, of lists of fewer than m instructions. -/
def CpyC (m : Nat) : Prop := ∀ (t : Il) (a : Option Addr) (n c : Nat) (w : World), t.count < m → t.weight ≤ 1000000000 → ListAt w.heap.size w a n t → n ≤ 140737488351232 →
    Calls Tryz.prog 51 #[.slice a n c] w fun e w' => (∃ a' c' u, e = .returned (.slice a' n c') ∧ ListO w.heap.size w'.heap.size w' a' n u ∧ u.bare = t.bare) ∧ Below w.heap.size w w'
theorem oneU_len (zs : List Int) : ∀ r ∈ oneU zs, r.length = 1 := by
  intro r hr
  unfold oneU at hr
  obtain ⟨z, _, rfl⟩ := List.mem_map.1 hr
  rfl
theorem oneU_one (zs : List Int) : ∀ r ∈ oneU zs, ∀ u ∈ r, u.oneCell' = true := by
  intro r hr u hu
  unfold oneU at hr
  obtain ⟨z, _, rfl⟩ := List.mem_map.1 hr
  rw [List.mem_singleton] at hu
  rw [hu]; rfl
set_option maxRecDepth 100000 in
set_option maxHeartbeats 4000000 in
theorem cpyI (m : Nat) (ih : CpyC m) (x : Ix) (l e : Il) (w : World) (hox : x.ok) (htx : TagsAt w.heap.size w x.ta x.tags) (hl : ListAt w.heap.size w x.la x.ln l) (he : ListAt w.heap.size w x.ea x.en e) (cl : l.count < m) (ce : e.count < m) (wt : x.tags.length ≤ 1000000000) (wl : l.weight ≤ 1000000000) (we : e.weight ≤ 1000000000) :
    Calls Tryz.prog 95 #[.agg x.vals] w fun r w' => (∃ x' l' e', r = .returned (.agg x'.vals) ∧ CpyX w.heap.size w' x' x l' l e' e) ∧ Below w.heap.size w w' := by
  obtain ⟨op, res, xa, xb, xn, tags, ta, tc, la, ln, lc, ea, en, ec⟩ := x
  dsimp only at htx hl he wt
  have HOX := hid hox
  have CT := hid (fun (W : World) (hb : Below w.heap.size w W) => clone_u4 W ta tags.length tc (oneU tags) (by unfold oneU; rw [List.length_map]) ((rows_tags (htx.below hb)).more hb.size) (oneU_len tags) (oneU_one tags) (by unfold oneU; rw [List.length_map]; exact wt))
  have CL := hid (fun (W : World) (hb : Below w.heap.size w W) => ih l la ln lc W cl wl ((hl.below hb).more hb.size) hox.ln)
  have CE := hid (fun (W : World) (hb : Below w.heap.size w W) => ih e ea en ec W ce we ((he.below hb).more hb.size) hox.en)
  have hr := heap_alloc_new w (.cells #[.int .i64 op, .int .i64 res, .int .u32 xa, .int .u32 xb, .int .i32 xn, .slice ta tags.length tc, .slice la ln lc, .slice ea en ec] 87)
  clear hox htx hl he cl ce wt wl we ih
  show Calls _ _ #[.agg #[.int .i64 op, .int .i64 res, .int .u32 xa, .int .u32 xb, .int .i32 xn, .slice ta tags.length tc, .slice la ln lc, .slice ea en ec]] w _
  go_enter Tryz.func95, Tryz.ntmps95
  have hs := heap_alloc_new (w.alloc (.cells #[.int .i64 op, .int .i64 res, .int .u32 xa, .int .u32 xb, .int .i32 xn, .slice ta tags.length tc, .slice la ln lc, .slice ea en ec] 87)) (.cells #[.int .i64 0, .int .i64 0, .int .u32 0, .int .u32 0, .int .i32 0, .slice none 0 0, .slice none 0 0, .slice none 0 0] 87)
  rw [World.size_alloc] at hs
  have hb1 : Below w.heap.size w ((w.alloc (.cells #[.int .i64 op, .int .i64 res, .int .u32 xa, .int .u32 xb, .int .i32 xn, .slice ta tags.length tc, .slice la ln lc, .slice ea en ec] 87)).alloc (.cells #[.int .i64 0, .int .i64 0, .int .u32 0, .int .u32 0, .int .i32 0, .slice none 0 0, .slice none 0 0, .slice none 0 0] 87)) := ((Below.refl w.heap.size w).alloc (Nat.le_refl _) _).alloc (by simp only [World.size_alloc]; omega) _
  have r1 : ((w.alloc (.cells #[.int .i64 op, .int .i64 res, .int .u32 xa, .int .u32 xb, .int .i32 xn, .slice ta tags.length tc, .slice la ln lc, .slice ea en ec] 87)).alloc (.cells #[.int .i64 0, .int .i64 0, .int .u32 0, .int .u32 0, .int .i32 0, .slice none 0 0, .slice none 0 0, .slice none 0 0] 87)).heap[w.heap.size]? = some (.cells #[.int .i64 op, .int .i64 res, .int .u32 xa, .int .u32 xb, .int .i32 xn, .slice ta tags.length tc, .slice la ln lc, .slice ea en ec] 87 (0, 0)) := (((Below.refl _ _).alloc (Nat.le_refl _) (.cells #[.int .i64 0, .int .i64 0, .int .u32 0, .int .u32 0, .int .i32 0, .slice none 0 0, .slice none 0 0, .slice none 0 0] 87)).block w.heap.size (by rw [World.size_alloc]; omega)).trans hr
  obtain ⟨W1, hW1⟩ : ∃ W1, ((w.alloc (.cells #[.int .i64 op, .int .i64 res, .int .u32 xa, .int .u32 xb, .int .i32 xn, .slice ta tags.length tc, .slice la ln lc, .slice ea en ec] 87)).alloc (.cells #[.int .i64 0, .int .i64 0, .int .u32 0, .int .u32 0, .int .i32 0, .slice none 0 0, .slice none 0 0, .slice none 0 0] 87)) = W1 := ⟨_, rfl⟩
  have n1 : W1.heap.size = w.heap.size + 2 := by rw [← hW1, World.size_alloc, World.size_alloc]
  rw [hW1] at hs hb1 r1
  obtain ⟨g, hg⟩ : ∃ g, w.heap.size = g := ⟨_, rfl⟩
  rw [hg] at hs hb1 r1 n1 CT CL CE
  have HW := hid hW1
  have HB := hid hb1
  have HR := hid r1
  have HS := hid hs
  have HN := hid n1
  have HG := hid hg
  clear hr hs hW1 hb1 r1 n1 hg
  go_wp2_with fail
  rw [HW.out]
  refine (CT.out _ HB.out).mono ?_
  rintro r w2 ⟨v, rfl, ho, hb2⟩
  obtain ⟨ta', tc', rfl, hT⟩ := own_tags ho
  rw [HG.out]
  have r2 : w2.heap[g]? = some (.cells #[.int .i64 op, .int .i64 res, .int .u32 xa, .int .u32 xb, .int .i32 xn, .slice ta tags.length tc, .slice la ln lc, .slice ea en ec] 87 (0, 0)) := (hb2.block g (by have := HN.out; omega)).trans HR.out
  have s2 : w2.heap[g + 1]? = some (.cells #[.int .i64 0, .int .i64 0, .int .u32 0, .int .u32 0, .int .i32 0, .slice none 0 0, .slice none 0 0, .slice none 0 0] 87 (0, 0)) := (hb2.block (g + 1) (by have := HN.out; omega)).trans HS.out
  have r3 : (w2.setCell ⟨g, 5, none⟩ (.slice ta' tags.length tc')).heap[g]? = some (.cells #[.int .i64 op, .int .i64 res, .int .u32 xa, .int .u32 xb, .int .i32 xn, .slice ta' tags.length tc', .slice la ln lc, .slice ea en ec] 87 (0, 0)) := heap_setCell_same w2 g 5 _ _ _ r2
  have s3 : (w2.setCell ⟨g, 5, none⟩ (.slice ta' tags.length tc')).heap[g + 1]? = some (.cells #[.int .i64 0, .int .i64 0, .int .u32 0, .int .u32 0, .int .i32 0, .slice none 0 0, .slice none 0 0, .slice none 0 0] 87 (0, 0)) := (Below.heap_setCell w2 ⟨g, 5, none⟩ _ (g + 1) (by simp only; omega)).trans s2
  have c5 := cs_cell r2 (i := 5) rfl
  have c6 := cs_cell r2 (i := 6) rfl
  have z5 := frozen_of_row w2 g 5 _ _ r2
  have hb3 : Below g w (w2.setCell ⟨g, 5, none⟩ (.slice ta' tags.length tc')) := (HB.out.trans (hb2.mono (by have := HN.out; omega))).setCell (p := ⟨g, 5, none⟩) (Nat.le_refl _) _
  have t3 : Same2 W1.heap.size w2.heap.size w2 (w2.setCell ⟨g, 5, none⟩ (.slice ta' tags.length tc')) := Same2.set (.inl (by have := HN.out; omega))
  have hT3 := hT.frame t3
  have e3 : (w2.setCell ⟨g, 5, none⟩ (.slice ta' tags.length tc')).heap.size = w2.heap.size := by simp [World.setCell]
  have q3 : g + 2 ≤ w2.heap.size := by have := HN.out; have := hb2.size; omega
  obtain ⟨w3, hw3⟩ : ∃ w3, w2.setCell ⟨g, 5, none⟩ (.slice ta' tags.length tc') = w3 := ⟨_, rfl⟩
  rw [hw3] at r3 s3 hb3 t3 hT3 e3
  have HW3 := hid hw3
  have HR3 := hid r3
  have HS3 := hid s3
  have HB3 := hid hb3
  have HT3 := hid hT3
  have HE3 := hid e3
  have HQ3 := hid q3
  clear r3 s3 hb3 t3 hT3 e3 q3 hT ho hb2 r2 s2 hw3
  go_wp2_with fail
  rw [HW3.out]
  refine (CL.out _ HB3.out).mono ?_
  rintro r w4 ⟨⟨la', lc', l', rfl, hL, hbare⟩, hb4⟩
  have r4 : w4.heap[g]? = some (.cells #[.int .i64 op, .int .i64 res, .int .u32 xa, .int .u32 xb, .int .i32 xn, .slice ta' tags.length tc', .slice la ln lc, .slice ea en ec] 87 (0, 0)) := (hb4.block g (by have := HQ3.out; have := HE3.out; omega)).trans HR3.out
  have s4 : w4.heap[g + 1]? = some (.cells #[.int .i64 0, .int .i64 0, .int .u32 0, .int .u32 0, .int .i32 0, .slice none 0 0, .slice none 0 0, .slice none 0 0] 87 (0, 0)) := (hb4.block (g + 1) (by have := HQ3.out; have := HE3.out; omega)).trans HS3.out
  have r5 : (w4.setCell ⟨g, 6, none⟩ (.slice la' ln lc')).heap[g]? = some (.cells #[.int .i64 op, .int .i64 res, .int .u32 xa, .int .u32 xb, .int .i32 xn, .slice ta' tags.length tc', .slice la' ln lc', .slice ea en ec] 87 (0, 0)) := heap_setCell_same w4 g 6 _ _ _ r4
  have s5 : (w4.setCell ⟨g, 6, none⟩ (.slice la' ln lc')).heap[g + 1]? = some (.cells #[.int .i64 0, .int .i64 0, .int .u32 0, .int .u32 0, .int .i32 0, .slice none 0 0, .slice none 0 0, .slice none 0 0] 87 (0, 0)) := (Below.heap_setCell w4 ⟨g, 6, none⟩ _ (g + 1) (by simp only; omega)).trans s4
  have c6 := cs_cell r4 (i := 6) rfl
  have c7 := cs_cell r4 (i := 7) rfl
  have z6 := frozen_of_row w4 g 6 _ _ r4
  have hb5 : Below g w (w4.setCell ⟨g, 6, none⟩ (.slice la' ln lc')) := (HB3.out.trans (hb4.mono (by have := HQ3.out; have := HE3.out; omega))).setCell (p := ⟨g, 6, none⟩) (Nat.le_refl _) _
  have q5 : g + 2 ≤ w4.heap.size := by have := HQ3.out; have := HE3.out; have := hb4.size; omega
  have f5 : ∀ lo, g + 2 ≤ lo → Same2 lo w2.heap.size w3 (w4.setCell ⟨g, 6, none⟩ (.slice la' ln lc')) := fun lo h => (Same2.of_below hb4 (by rw [HE3.out]; exact Nat.le_refl _)).trans (Same2.set (.inl (by omega)))
  have hL5 := hL.frame (Same2.set (lo := w3.heap.size) (hi := w4.heap.size) (b := g) (o := 6) (w := w4) (v := .slice la' ln lc') (.inl (by have := HQ3.out; have := HE3.out; omega)))
  have e5 : (w4.setCell ⟨g, 6, none⟩ (.slice la' ln lc')).heap.size = w4.heap.size := by simp [World.setCell]
  have m5 : w2.heap.size ≤ w4.heap.size := by have := HE3.out; have := hb4.size; omega
  obtain ⟨w5, hw5⟩ : ∃ w5, w4.setCell ⟨g, 6, none⟩ (.slice la' ln lc') = w5 := ⟨_, rfl⟩
  rw [hw5] at r5 s5 hb5 f5 hL5 e5
  have HW5 := hid hw5
  have HR5 := hid r5
  have HS5 := hid s5
  have HB5 := hid hb5
  have HE5 := hid e5
  have HQ5 := hid q5
  have HF5 := hid f5
  have HL5 := hid hL5
  have HU5 := hid hbare
  have HM5 := hid m5
  clear r5 s5 hb5 f5 hL5 e5 q5 m5 hL hbare hb4 r4 s4 hw5
  go_wp2_with fail
  rw [HW5.out]
  refine (CE.out _ HB5.out).mono ?_
  rintro r w6 ⟨⟨ea', ec', e', rfl, hL, hbare⟩, hb6⟩
  have r6 : w6.heap[g]? = some (.cells #[.int .i64 op, .int .i64 res, .int .u32 xa, .int .u32 xb, .int .i32 xn, .slice ta' tags.length tc', .slice la' ln lc', .slice ea en ec] 87 (0, 0)) := (hb6.block g (by have := HQ5.out; have := HE5.out; omega)).trans HR5.out
  have s6 : w6.heap[g + 1]? = some (.cells #[.int .i64 0, .int .i64 0, .int .u32 0, .int .u32 0, .int .i32 0, .slice none 0 0, .slice none 0 0, .slice none 0 0] 87 (0, 0)) := (hb6.block (g + 1) (by have := HQ5.out; have := HE5.out; omega)).trans HS5.out
  have r7 : (w6.setCell ⟨g, 7, none⟩ (.slice ea' en ec')).heap[g]? = some (.cells #[.int .i64 op, .int .i64 res, .int .u32 xa, .int .u32 xb, .int .i32 xn, .slice ta' tags.length tc', .slice la' ln lc', .slice ea' en ec'] 87 (0, 0)) := heap_setCell_same w6 g 7 _ _ _ r6
  have s7 : (w6.setCell ⟨g, 7, none⟩ (.slice ea' en ec')).heap[g + 1]? = some (.cells #[.int .i64 0, .int .i64 0, .int .u32 0, .int .u32 0, .int .i32 0, .slice none 0 0, .slice none 0 0, .slice none 0 0] 87 (0, 0)) := (Below.heap_setCell w6 ⟨g, 7, none⟩ _ (g + 1) (by simp only; omega)).trans s6
  have c0 := cs_cell r6 (i := 0) rfl
  have c1 := cs_cell r6 (i := 1) rfl
  have c2 := cs_cell r6 (i := 2) rfl
  have c3 := cs_cell r6 (i := 3) rfl
  have c4 := cs_cell r6 (i := 4) rfl
  have c5 := cs_cell r6 (i := 5) rfl
  have c6 := cs_cell r6 (i := 6) rfl
  have c7 := cs_cell r6 (i := 7) rfl
  have z7 := frozen_of_row w6 g 7 _ _ r6
  have hb7 : Below g w (w6.setCell ⟨g, 7, none⟩ (.slice ea' en ec')) := (HB5.out.trans (hb6.mono (by have := HQ5.out; have := HE5.out; omega))).setCell (p := ⟨g, 7, none⟩) (Nat.le_refl _) _
  have q7 : g + 2 ≤ w6.heap.size := by have := HQ5.out; have := HE5.out; have := hb6.size; omega
  have f7 : ∀ lo, g + 2 ≤ lo → Same2 lo w4.heap.size w5 (w6.setCell ⟨g, 7, none⟩ (.slice ea' en ec')) := fun lo h => (Same2.of_below hb6 (by rw [HE5.out]; exact Nat.le_refl _)).trans (Same2.set (.inl (by omega)))
  have hL7 := hL.frame (Same2.set (lo := w5.heap.size) (hi := w6.heap.size) (b := g) (o := 7) (w := w6) (v := .slice ea' en ec') (.inl (by have := HQ5.out; have := HE5.out; omega)))
  have e7 : (w6.setCell ⟨g, 7, none⟩ (.slice ea' en ec')).heap.size = w6.heap.size := by simp [World.setCell]
  have m7 : w4.heap.size ≤ w6.heap.size := by have := HE5.out; have := hb6.size; omega
  obtain ⟨w7, hw7⟩ : ∃ w7, w6.setCell ⟨g, 7, none⟩ (.slice ea' en ec') = w7 := ⟨_, rfl⟩
  rw [hw7] at r7 s7 hb7 f7 hL7 e7
  have HW7 := hid hw7
  have HR7 := hid r7
  have HS7 := hid s7
  have HB7 := hid hb7
  have HE7 := hid e7
  have HQ7 := hid q7
  have HF7 := hid f7
  have HL7 := hid hL7
  have HU7 := hid hbare
  have HM7 := hid m7
  have y0 := cs_cell s6 (i := 0) rfl
  have v0 := frozen_of_row w6 (g + 1) 0 _ _ s6
  have y1 := cs_cell s6 (i := 1) rfl
  have v1 := frozen_of_row w6 (g + 1) 1 _ _ s6
  have y2 := cs_cell s6 (i := 2) rfl
  have v2 := frozen_of_row w6 (g + 1) 2 _ _ s6
  have y3 := cs_cell s6 (i := 3) rfl
  have v3 := frozen_of_row w6 (g + 1) 3 _ _ s6
  have y4 := cs_cell s6 (i := 4) rfl
  have v4 := frozen_of_row w6 (g + 1) 4 _ _ s6
  have y5 := cs_cell s6 (i := 5) rfl
  have v5 := frozen_of_row w6 (g + 1) 5 _ _ s6
  have y6 := cs_cell s6 (i := 6) rfl
  have v6 := frozen_of_row w6 (g + 1) 6 _ _ s6
  have y7 := cs_cell s6 (i := 7) rfl
  have v7 := frozen_of_row w6 (g + 1) 7 _ _ s6
  have HX6 := hid r6
  clear r7 s7 hb7 f7 hL7 e7 q7 m7 hL hbare hb6 r6 s6 hw7
  go_wp2
  rw [HW7.out]
  clear y0 v0 c0 y1 v1 c1 y2 v2 c2 y3 v3 c3 y4 v4 c4 y5 v5 c5 y6 v6 c6 y7 v7 c7 z7
  have R0 := HS7.out
  have R1 : (w7.setCell ⟨g + 1, 0, none⟩ (.int .i64 op)).heap[g + 1]? = some (.cells #[.int .i64 op, .int .i64 0, .int .u32 0, .int .u32 0, .int .i32 0, .slice none 0 0, .slice none 0 0, .slice none 0 0] 87 (0, 0)) := heap_setCell_same _ (g + 1) 0 _ _ _ R0
  have R2 : ((w7.setCell ⟨g + 1, 0, none⟩ (.int .i64 op)).setCell ⟨g + 1, 1, none⟩ (.int .i64 res)).heap[g + 1]? = some (.cells #[.int .i64 op, .int .i64 res, .int .u32 0, .int .u32 0, .int .i32 0, .slice none 0 0, .slice none 0 0, .slice none 0 0] 87 (0, 0)) := heap_setCell_same _ (g + 1) 1 _ _ _ R1
  have R3 : (((w7.setCell ⟨g + 1, 0, none⟩ (.int .i64 op)).setCell ⟨g + 1, 1, none⟩ (.int .i64 res)).setCell ⟨g + 1, 2, none⟩ (.int .u32 xa)).heap[g + 1]? = some (.cells #[.int .i64 op, .int .i64 res, .int .u32 xa, .int .u32 0, .int .i32 0, .slice none 0 0, .slice none 0 0, .slice none 0 0] 87 (0, 0)) := heap_setCell_same _ (g + 1) 2 _ _ _ R2
  have R4 : ((((w7.setCell ⟨g + 1, 0, none⟩ (.int .i64 op)).setCell ⟨g + 1, 1, none⟩ (.int .i64 res)).setCell ⟨g + 1, 2, none⟩ (.int .u32 xa)).setCell ⟨g + 1, 3, none⟩ (.int .u32 xb)).heap[g + 1]? = some (.cells #[.int .i64 op, .int .i64 res, .int .u32 xa, .int .u32 xb, .int .i32 0, .slice none 0 0, .slice none 0 0, .slice none 0 0] 87 (0, 0)) := heap_setCell_same _ (g + 1) 3 _ _ _ R3
  have R5 : (((((w7.setCell ⟨g + 1, 0, none⟩ (.int .i64 op)).setCell ⟨g + 1, 1, none⟩ (.int .i64 res)).setCell ⟨g + 1, 2, none⟩ (.int .u32 xa)).setCell ⟨g + 1, 3, none⟩ (.int .u32 xb)).setCell ⟨g + 1, 4, none⟩ (.int .i32 xn)).heap[g + 1]? = some (.cells #[.int .i64 op, .int .i64 res, .int .u32 xa, .int .u32 xb, .int .i32 xn, .slice none 0 0, .slice none 0 0, .slice none 0 0] 87 (0, 0)) := heap_setCell_same _ (g + 1) 4 _ _ _ R4
  have R6 : ((((((w7.setCell ⟨g + 1, 0, none⟩ (.int .i64 op)).setCell ⟨g + 1, 1, none⟩ (.int .i64 res)).setCell ⟨g + 1, 2, none⟩ (.int .u32 xa)).setCell ⟨g + 1, 3, none⟩ (.int .u32 xb)).setCell ⟨g + 1, 4, none⟩ (.int .i32 xn)).setCell ⟨g + 1, 5, none⟩ (.slice ta' tags.length tc')).heap[g + 1]? = some (.cells #[.int .i64 op, .int .i64 res, .int .u32 xa, .int .u32 xb, .int .i32 xn, .slice ta' tags.length tc', .slice none 0 0, .slice none 0 0] 87 (0, 0)) := heap_setCell_same _ (g + 1) 5 _ _ _ R5
  have R7 : (((((((w7.setCell ⟨g + 1, 0, none⟩ (.int .i64 op)).setCell ⟨g + 1, 1, none⟩ (.int .i64 res)).setCell ⟨g + 1, 2, none⟩ (.int .u32 xa)).setCell ⟨g + 1, 3, none⟩ (.int .u32 xb)).setCell ⟨g + 1, 4, none⟩ (.int .i32 xn)).setCell ⟨g + 1, 5, none⟩ (.slice ta' tags.length tc')).setCell ⟨g + 1, 6, none⟩ (.slice la' ln lc')).heap[g + 1]? = some (.cells #[.int .i64 op, .int .i64 res, .int .u32 xa, .int .u32 xb, .int .i32 xn, .slice ta' tags.length tc', .slice la' ln lc', .slice none 0 0] 87 (0, 0)) := heap_setCell_same _ (g + 1) 6 _ _ _ R6
  have R8 : ((((((((w7.setCell ⟨g + 1, 0, none⟩ (.int .i64 op)).setCell ⟨g + 1, 1, none⟩ (.int .i64 res)).setCell ⟨g + 1, 2, none⟩ (.int .u32 xa)).setCell ⟨g + 1, 3, none⟩ (.int .u32 xb)).setCell ⟨g + 1, 4, none⟩ (.int .i32 xn)).setCell ⟨g + 1, 5, none⟩ (.slice ta' tags.length tc')).setCell ⟨g + 1, 6, none⟩ (.slice la' ln lc')).setCell ⟨g + 1, 7, none⟩ (.slice ea' en ec')).heap[g + 1]? = some (.cells #[.int .i64 op, .int .i64 res, .int .u32 xa, .int .u32 xb, .int .i32 xn, .slice ta' tags.length tc', .slice la' ln lc', .slice ea' en ec'] 87 (0, 0)) := heap_setCell_same _ (g + 1) 7 _ _ _ R7
  have F8 : ∀ lo hi, g + 2 ≤ lo → Same2 lo hi w7 ((((((((w7.setCell ⟨g + 1, 0, none⟩ (.int .i64 op)).setCell ⟨g + 1, 1, none⟩ (.int .i64 res)).setCell ⟨g + 1, 2, none⟩ (.int .u32 xa)).setCell ⟨g + 1, 3, none⟩ (.int .u32 xb)).setCell ⟨g + 1, 4, none⟩ (.int .i32 xn)).setCell ⟨g + 1, 5, none⟩ (.slice ta' tags.length tc')).setCell ⟨g + 1, 6, none⟩ (.slice la' ln lc')).setCell ⟨g + 1, 7, none⟩ (.slice ea' en ec')) := fun lo hi h =>
    (((((((Same2.set (b := g + 1) (.inl (by omega))).trans (Same2.set (b := g + 1) (.inl (by omega)))).trans (Same2.set (b := g + 1) (.inl (by omega)))).trans (Same2.set (b := g + 1) (.inl (by omega)))).trans (Same2.set (b := g + 1) (.inl (by omega)))).trans (Same2.set (b := g + 1) (.inl (by omega)))).trans (Same2.set (b := g + 1) (.inl (by omega)))).trans (Same2.set (b := g + 1) (.inl (by omega)))
  have B8 : Below g w ((((((((w7.setCell ⟨g + 1, 0, none⟩ (.int .i64 op)).setCell ⟨g + 1, 1, none⟩ (.int .i64 res)).setCell ⟨g + 1, 2, none⟩ (.int .u32 xa)).setCell ⟨g + 1, 3, none⟩ (.int .u32 xb)).setCell ⟨g + 1, 4, none⟩ (.int .i32 xn)).setCell ⟨g + 1, 5, none⟩ (.slice ta' tags.length tc')).setCell ⟨g + 1, 6, none⟩ (.slice la' ln lc')).setCell ⟨g + 1, 7, none⟩ (.slice ea' en ec')) := (((((((HB7.out.setCell (p := ⟨g + 1, 0, none⟩) (by simp only; omega) _).setCell (p := ⟨g + 1, 1, none⟩) (by simp only; omega) _).setCell (p := ⟨g + 1, 2, none⟩) (by simp only; omega) _).setCell (p := ⟨g + 1, 3, none⟩) (by simp only; omega) _).setCell (p := ⟨g + 1, 4, none⟩) (by simp only; omega) _).setCell (p := ⟨g + 1, 5, none⟩) (by simp only; omega) _).setCell (p := ⟨g + 1, 6, none⟩) (by simp only; omega) _).setCell (p := ⟨g + 1, 7, none⟩) (by simp only; omega) _
  have E8 : ((((((((w7.setCell ⟨g + 1, 0, none⟩ (.int .i64 op)).setCell ⟨g + 1, 1, none⟩ (.int .i64 res)).setCell ⟨g + 1, 2, none⟩ (.int .u32 xa)).setCell ⟨g + 1, 3, none⟩ (.int .u32 xb)).setCell ⟨g + 1, 4, none⟩ (.int .i32 xn)).setCell ⟨g + 1, 5, none⟩ (.slice ta' tags.length tc')).setCell ⟨g + 1, 6, none⟩ (.slice la' ln lc')).setCell ⟨g + 1, 7, none⟩ (.slice ea' en ec')).heap.size = w7.heap.size := by simp [World.setCell]
  obtain ⟨w8, hw8⟩ : ∃ w8, ((((((((w7.setCell ⟨g + 1, 0, none⟩ (.int .i64 op)).setCell ⟨g + 1, 1, none⟩ (.int .i64 res)).setCell ⟨g + 1, 2, none⟩ (.int .u32 xa)).setCell ⟨g + 1, 3, none⟩ (.int .u32 xb)).setCell ⟨g + 1, 4, none⟩ (.int .i32 xn)).setCell ⟨g + 1, 5, none⟩ (.slice ta' tags.length tc')).setCell ⟨g + 1, 6, none⟩ (.slice la' ln lc')).setCell ⟨g + 1, 7, none⟩ (.slice ea' en ec')) = w8 := ⟨_, rfl⟩
  rw [hw8] at F8 B8 E8 R8 ⊢
  clear hw8 R0 R1 R2 R3 R4 R5 R6 R7
  have hsz : w2.heap.size ≤ w4.heap.size ∧ w4.heap.size ≤ w6.heap.size ∧ w6.heap.size = w8.heap.size := ⟨HM5.out, HM7.out, by rw [E8, HE7.out]⟩
  have hg1 : g ≤ W1.heap.size ∧ g + 2 ≤ W1.heap.size := by have := HN.out; omega
  have hg3 : g + 2 ≤ w3.heap.size := by have := HQ3.out; have := HE3.out; omega
  have hg5 : g + 2 ≤ w5.heap.size := by have := HQ5.out; have := HE5.out; omega
  have k1 : TagsO g w8.heap.size w8 ta' tags := TagsO.mono hg1.1 (by omega) (((HT3.out.frame (HF5.out _ hg1.2)).frame (fun b h1 h2 => HF7.out _ hg1.2 b h1 (by omega))).frame (F8 _ _ hg1.2))
  have k2 : ListO g w8.heap.size w8 la' ln l' := ListO.mono (by omega) (by omega) ((HL5.out.frame (HF7.out _ hg3)).frame (F8 _ _ hg3))
  have k3 : ListO g w8.heap.size w8 ea' en e' := ListO.mono (by omega) (by omega) (HL7.out.frame (F8 _ _ hg5))
  have hok := HOX.out
  refine bodyPost_ret (v := .agg (Ix.vals ⟨op, res, xa, xb, xn, tags, ta', tc', la', ln, lc', ea', en, ec'⟩)) ?_ rfl ⟨⟨⟨op, res, xa, xb, xn, tags, ta', tc', la', ln, lc', ea', en, ec'⟩, l', e', rfl, ⟨⟨hok.op, hok.res, hok.a, hok.b, hok.n, hok.tags, hok.tn, hok.ln, hok.en⟩, by rw [HG.out]; exact k1, by rw [HG.out]; exact k2, by rw [HG.out]; exact k3, ⟨rfl, rfl, rfl, rfl, rfl, rfl, HU5.out, HU7.out⟩⟩⟩, by rw [HG.out]; exact B8⟩
  exact results_cell_row Tryz.results95 _ w8 (g + 1) _ _ _ _ rfl R8 Tryz.underlying87 rfl (by kernel_rfl)
end Go.Proofs.YtaibfefmehhldaaGreatDoor.Mod

namespace Go.Proofs.YtaibfefmehhldaaGreatDoor.Mod
open Go.RowKit Go.Proofs.YtaibfefmehhldaaGreatDoor.Instr

def Il.rows : Il → List (List Value)
  | .nil => []
  | .cons x _ _ r => x.vals.toList :: Il.rows r
theorem rows_len : ∀ t : Il, (Il.rows t).length = t.len
  | .nil => rfl
  | .cons _ _ _ r => by simp only [Il.rows, List.length_cons, Il.len, rows_len r]
theorem rows_eight : ∀ t : Il, ∀ r ∈ Il.rows t, r.length = 8
  | .nil, r, h => by simp [Il.rows] at h
  | .cons x _ _ s, r, h => by
    simp only [Il.rows, List.mem_cons] at h
    rcases h with rfl | h
    · rfl
    · exact rows_eight s r h
theorem rows_one : ∀ t : Il, ∀ r ∈ Il.rows t, ∀ u ∈ r, u.oneCell' = true
  | .nil, r, h => by simp [Il.rows] at h
  | .cons x _ _ s, r, h => by
    simp only [Il.rows, List.mem_cons] at h
    rcases h with rfl | h
    · intro u hu
      simp only [Ix.vals, List.mem_cons, List.not_mem_nil, or_false] at hu
      rcases hu with rfl | rfl | rfl | rfl | rfl | rfl | rfl | rfl <;> rfl
    · exact rows_one s r h
theorem rows_at {n₀ : Nat} {w : World} : ∀ {t : Il} {b off i : Nat}, Items n₀ w b off t → i < (Il.rows t).length → ∀ j, j < 8 → ∀ v, ((Il.rows t).getD i [])[j]? = some v → w.cell? ⟨b, off + i * 8 + j, none⟩ = some v
  | .nil, _, _, _, _, h => absurd h (Nat.not_lt_zero _)
  | .cons x l e r, b, off, 0, ⟨_, _, ⟨c0, c1, c2, c3, c4, c5, c6, c7⟩, _, _, _, _⟩, _ => by
    intro j hj v hv
    simp only [Il.rows, List.getD_cons_zero] at hv
    rw [Nat.zero_mul, Nat.add_zero]
    match j, hj with
    | 0, _ => cases hv; exact c0
    | 1, _ => cases hv; exact c1
    | 2, _ => cases hv; exact c2
    | 3, _ => cases hv; exact c3
    | 4, _ => cases hv; exact c4
    | 5, _ => cases hv; exact c5
    | 6, _ => cases hv; exact c6
    | 7, _ => cases hv; exact c7
  | .cons x l e r, b, off, i + 1, ⟨_, _, _, _, _, _, hr⟩, h => by
    intro j hj v hv
    simp only [Il.rows, List.getD_cons_succ] at hv
    rw [show off + (i + 1) * 8 + j = off + 8 + i * 8 + j by omega]
    exact rows_at (i := i) hr (by simp only [Il.rows, List.length_cons] at h; omega) j hj v hv
theorem rows_list {n₀ n : Nat} {w : World} {a : Option Addr} {t : Il} (hb : ∀ b off, Items n₀ w b off t → t = .nil ∨ b < n₀) (h : ListAt n₀ w a n t) : Rows n₀ w a 8 (Il.rows t) := by
  rcases h.2 with rfl | ⟨b, off, ha, hi⟩
  · exact .inl rfl
  · rcases hb b off hi with rfl | hlt
    · exact .inl rfl
    · exact .inr ⟨b, off, ha, hlt, fun i hi' j hj v hv => rows_at hi hi' j hj v hv⟩
theorem items_lt {n₀ : Nat} {w : World} {t : Il} (b off : Nat) (h : Items n₀ w b off t) : t = .nil ∨ b < n₀ := by
  cases t with
  | nil => exact .inl rfl
  | cons x l e r => exact .inr h.1
/-- The instructions of a list, each with its two sublists. -/
def Il.items : Il → List (Ix × Il × Il)
  | .nil => []
  | .cons x l e r => (x, l, e) :: Il.items r
theorem items_len : ∀ t : Il, (Il.items t).length = t.len
  | .nil => rfl
  | .cons _ _ _ r => by simp only [Il.items, List.length_cons, Il.len, items_len r]
/-- At a place lies a copy of an instruction with its sublists. -/
def CpyAt (lo hi : Nat) (w : World) (b o : Nat) (y : Ix × Il × Il) : Prop :=
  ∃ x' l' e', x'.ok ∧ (∀ q v, x'.vals[q]? = some v → w.cell? ⟨b, o + q, none⟩ = some v) ∧ TagsO lo hi w x'.ta x'.tags ∧ ListO lo hi w x'.la x'.ln l' ∧ ListO lo hi w x'.ea x'.en e' ∧ AllSame x' y.1 l' e' y.2.1 y.2.2 ∧ y.2.1.len = y.1.ln ∧ y.2.2.len = y.1.en
/-- A list all of whose places are copies is a copy of the list. -/
theorem put_together {lo hi : Nat} {w : World} {b : Nat} (hb : Blk lo hi w b) : ∀ (t : Il) (off : Nat), (∀ i (h : i < (Il.items t).length), CpyAt lo hi w b (off + i * 8) (Il.items t)[i]) → ∃ u : Il, u.bare = t.bare ∧ u.len = t.len ∧ ItemsO lo hi w b off u
  | .nil, _, _ => ⟨.nil, rfl, rfl, trivial⟩
  | .cons x l e r, off, h => by
    obtain ⟨u, h1, h2, h3⟩ := put_together hb r (off + 8) (fun i hi' => by
      have := h (i + 1) (by simp only [Il.items, List.length_cons]; omega)
      simp only [Il.items, List.getElem_cons_succ] at this
      rw [show off + 8 + i * 8 = off + (i + 1) * 8 by omega]
      exact this)
    have h0 := h 0 (by simp only [Il.items, List.length_cons]; omega)
    simp only [Il.items, List.getElem_cons_zero, Nat.zero_mul, Nat.add_zero] at h0
    obtain ⟨x', l', e', g1, g2, g3, g4, g5, g6, g7, g8⟩ := h0
    exact ⟨.cons x' l' e' u, (cons_same g4.1 g5.1 g7 g8).2 ⟨g6, h1⟩, by simp only [Il.len, h2], hb, g1, g2, g3, ⟨g4.1, g4.2⟩, ⟨g5.1, g5.2⟩, h3⟩
end Go.Proofs.YtaibfefmehhldaaGreatDoor.Mod

namespace Go.Proofs.YtaibfefmehhldaaGreatDoor.Mod
open Go.RowKit Go.Proofs.YtaibfefmehhldaaGreatDoor.Instr

/-- What is known of each instruction of a list that lies somewhere. -/
structure ItemIn (n₀ : Nat) (w : World) (t : Il) (y : Ix × Il × Il) : Prop where
  ok : y.1.ok
  tags : TagsAt n₀ w y.1.ta y.1.tags
  l : ListAt n₀ w y.1.la y.1.ln y.2.1
  e : ListAt n₀ w y.1.ea y.1.en y.2.2
  cl : y.2.1.count < t.count
  ce : y.2.2.count < t.count
  wt : y.1.tags.length ≤ t.weight
  wl : y.2.1.weight ≤ t.weight
  we : y.2.2.weight ≤ t.weight
theorem items_in {n₀ : Nat} {w : World} : ∀ {t : Il} {b off : Nat}, Items n₀ w b off t → ∀ y ∈ Il.items t, ItemIn n₀ w t y
  | .nil, _, _, _, y, h => by simp [Il.items] at h
  | .cons x l e r, b, off, ⟨_, hx, _, ht, hl, he, hr⟩, y, h => by
    simp only [Il.items, List.mem_cons] at h
    rcases h with rfl | h
    · exact ⟨hx, ht, ⟨hl.1, hl.2⟩, ⟨he.1, he.2⟩, by simp only [Il.count]; omega, by simp only [Il.count]; omega, by simp only [Il.weight]; omega, by simp only [Il.weight]; omega, by simp only [Il.weight]; omega⟩
    · have g := items_in hr y h
      exact ⟨g.ok, g.tags, g.l, g.e, by have := g.cl; simp only [Il.count]; omega, by have := g.ce; simp only [Il.count]; omega, by have := g.wt; simp only [Il.weight]; omega, by have := g.wl; simp only [Il.weight]; omega, by have := g.we; simp only [Il.weight]; omega⟩
theorem items_in_list {n₀ n : Nat} {w : World} {a : Option Addr} {t : Il} (h : ListAt n₀ w a n t) : ∀ y ∈ Il.items t, ItemIn n₀ w t y := by
  rcases h.2 with rfl | ⟨b, off, _, hi⟩
  · intro y hy; simp [Il.items] at hy
  · exact items_in hi
theorem len_weight : ∀ t : Il, t.len ≤ t.weight
  | .nil => Nat.le_refl _
  | .cons _ _ _ r => by have := len_weight r; simp only [Il.len, Il.weight]; omega
theorem rows_items : ∀ t : Il, Il.rows t = (Il.items t).map fun y => y.1.vals.toList
  | .nil => rfl
  | .cons _ _ _ r => by simp only [Il.rows, Il.items, List.map_cons, rows_items r]
/-- Behind k rounds: the first k places hold copies, the others what was there. -/
structure InvM (t : Il) (lo g k : Nat) (w : World) : Prop where
  soft : ∃ cs e, w.heap[g]? = some (.cells cs e (0, 0))
  done : ∀ j (h : j < (Il.items t).length), j < k → CpyAt lo w.heap.size w g (0 + j * 8) (Il.items t)[j]
  left : ∀ j (h : j < (Il.items t).length), k ≤ j → ∀ q v, (Il.items t)[j].1.vals[q]? = some v → w.cell? ⟨g, j * 8 + q, none⟩ = some v
theorem CpyAt.frame {lo hi hi' b o : Nat} {w w' : World} {y : Ix × Il × Il} (s : Same2 lo hi w w') (hh : hi ≤ hi') (hc : ∀ q, q < 8 → w'.cell? ⟨b, o + q, none⟩ = w.cell? ⟨b, o + q, none⟩) (h : CpyAt lo hi w b o y) : CpyAt lo hi' w' b o y := by
  obtain ⟨x', l', e', g1, g2, g3, g4, g5, g6⟩ := h
  refine ⟨x', l', e', g1, fun q v hv => ?_, (g3.frame s).mono (Nat.le_refl _) hh, (g4.frame s).mono (Nat.le_refl _) hh, (g5.frame s).mono (Nat.le_refl _) hh, g6⟩
  have hq : q < 8 := by
    rcases Nat.lt_or_ge q 8 with h | h
    · exact h
    · rw [Array.getElem?_eq_none (by simpa [Ix.vals] using h)] at hv; cases hv
  rw [hc q hq]; exact g2 q v hv
/-- One round more. -/
theorem InvM.step {t : Il} {lo g k : Nat} {w W w2 : World} (h : InvM t lo g k w) (hg : g < lo) (hlo : lo ≤ w.heap.size) (hW : Below w.heap.size w W) (hWs : w.heap.size ≤ W.heap.size) (hb : Below W.heap.size W w2) (hk : k < (Il.items t).length) {x' : Ix} {l' e' : Il}
    (hc : CpyX W.heap.size w2 x' (Il.items t)[k].1 l' (Il.items t)[k].2.1 e' (Il.items t)[k].2.2) (h1 : (Il.items t)[k].2.1.len = (Il.items t)[k].1.ln) (h2 : (Il.items t)[k].2.2.len = (Il.items t)[k].1.en) :
    InvM t lo g (k + 1) (w2.setCells g (k * 8) x'.vals.toList) := by
  have hbb : Below w.heap.size w w2 := hW.trans (hb.mono hWs)
  have hgl : g < w.heap.size := by omega
  have sz : ∀ (us : List Value) (o : Nat) (v : World), (v.setCells g o us).heap.size = v.heap.size := by
    intro us
    induction us with
    | nil => intro o v; rfl
    | cons u r ih => intro o v; rw [World.setCells, ih]; simp [World.setCell]
  have oth : ∀ (us : List Value) (o : Nat) (v : World) (q : Nat), q ≠ g → (v.setCells g o us).heap[q]? = v.heap[q]? := by
    intro us
    induction us with
    | nil => intro o v q _; rfl
    | cons u r ih => intro o v q hq; rw [World.setCells, ih _ _ _ hq]; exact Below.heap_setCell v ⟨g, o, none⟩ u q hq
  have sof : ∀ (us : List Value) (o : Nat) (v : World), (∃ cs e, v.heap[g]? = some (.cells cs e (0, 0))) → ∃ cs e, (v.setCells g o us).heap[g]? = some (.cells cs e (0, 0)) := by
    intro us
    induction us with
    | nil => intro o v h; exact h
    | cons u r ih =>
      intro o v ⟨cs, e, h⟩
      rw [World.setCells]
      exact ih _ _ ⟨_, _, heap_setCell_same v g o cs e u h⟩
  have c2 : ∀ j, w2.cell? ⟨g, j, none⟩ = w.cell? ⟨g, j, none⟩ := fun j => hbb.cell (p := ⟨g, j, none⟩) hgl
  have hout : ∀ j, (j < k * 8 ∨ k * 8 + 8 ≤ j) → (w2.setCells g (k * 8) x'.vals.toList).cell? ⟨g, j, none⟩ = w.cell? ⟨g, j, none⟩ := fun j hj => (World.cell?_setCells_out g _ _ _ _ (fun _ _ => by simpa [Ix.vals] using hj)).trans (c2 j)
  refine ⟨sof _ _ _ ?_, fun j hj hjk => ?_, fun j hj hjk q v hv => ?_⟩
  · obtain ⟨cs, e, h⟩ := h.soft
    exact ⟨cs, e, (hbb.block g hgl).trans h⟩
  · by_cases e : j = k
    · subst e
      refine ⟨x', l', e', hc.ok, fun q v hv => ?_, ?_, ?_, ?_, hc.same, h1, h2⟩
      · have hq : q < x'.vals.toList.length := by
          rcases Nat.lt_or_ge q x'.vals.toList.length with h | h
          · exact h
          · rw [Array.getElem?_eq_none (by simpa using h)] at hv; cases hv
        rw [Nat.zero_add]
        rw [World.cell?_setCells_in g x'.vals.toList (j * 8) w2 (fun i hi => by
          have hi8 : i < 8 := by simpa [Ix.vals] using hi
          rw [c2]
          have h8 : i < (Il.items t)[j].1.vals.size := by simpa [Ix.vals] using hi8
          rw [h.left j hj (Nat.le_refl _) i _ (Array.getElem?_eq_getElem h8)]; rfl) q hq]
        rw [← Array.getElem?_toList, List.getElem?_eq_getElem hq] at hv
        exact hv
      · exact (hc.tags.frame (fun b b1 b2 => oth _ _ _ _ (by omega))).mono (by omega) (by rw [sz]; exact Nat.le_refl _)
      · exact (hc.ls.frame (fun b b1 b2 => oth _ _ _ _ (by omega))).mono (by omega) (by rw [sz]; exact Nat.le_refl _)
      · exact (hc.es.frame (fun b b1 b2 => oth _ _ _ _ (by omega))).mono (by omega) (by rw [sz]; exact Nat.le_refl _)
    · exact (h.done j hj (by omega)).frame (fun b b1 b2 => (oth _ _ _ _ (by omega)).trans (hbb.block b b2)) (by rw [sz]; exact hbb.size) (fun q hq => hout _ (by omega))
  · have hq : q < 8 := by
      rcases Nat.lt_or_ge q 8 with h | h
      · exact h
      · rw [Array.getElem?_eq_none (by simpa [Ix.vals] using h)] at hv; cases hv
    rw [hout _ (by omega)]
    exact h.left j hj (by omega) q v hv
end Go.Proofs.YtaibfefmehhldaaGreatDoor.Mod

namespace Go.Proofs.YtaibfefmehhldaaGreatDoor.Mod
open Go.RowKit Go.Proofs.YtaibfefmehhldaaGreatDoor.Instr

theorem size_sets (g : Nat) : ∀ (us : List Value) (o : Nat) (v : World), (v.setCells g o us).heap.size = v.heap.size
  | [], _, _ => rfl
  | u :: r, o, v => by rw [World.setCells, size_sets g r]; simp [World.setCell]
theorem below_sets {B g : Nat} {w : World} : ∀ (us : List Value) (o : Nat) {W : World}, Below B w W → B ≤ g → Below B w (W.setCells g o us)
  | [], _, _, h, _ => h
  | u :: r, o, W, h, hg => by
    rw [World.setCells]
    exact below_sets r (o + 1) (h.setCell (p := ⟨g, o, none⟩) hg u) hg
set_option maxRecDepth 100000 in
set_option maxHeartbeats 4000000 in
theorem mapI (m : Nat) (ih : CpyC m) (t : Il) (a : Option Addr) (n c : Nat) (w : World) (hm : t.count ≤ m) (hw : t.weight ≤ 1000000000) (hl : ListAt w.heap.size w a n t) (hn : n ≤ 140737488351232) :
    Calls Tryz.prog 94 #[.slice a n c, .func (.func 95) #[] #[]] w fun e w' => (∃ a' c' u, e = .returned (.slice a' n c') ∧ ListO w.heap.size w'.heap.size w' a' n u ∧ u.bare = t.bare) ∧ Below w.heap.size w w' := by
  have hln : (Il.rows t).length = n := (rows_len t).trans hl.1
  have hin : (Il.items t).length = n := (items_len t).trans hl.1
  have CC := hid (clone_in w a n c (Il.rows t) hln (rows_list items_lt hl) (rows_eight t) (rows_one t) (by rw [rows_len]; have := len_weight t; omega))
  have HI := hid (items_in_list hl)
  have HLN := hid hln
  have HIN := hid hin
  have HM := hid hm
  have HWT := hid hw
  have IH := hid ih
  have HL := hid hl
  clear hln hin hl hm hw ih
  go_enter Tryz.func94, Tryz.ntmps94
  go_wp2_with fail
  refine CC.out.mono ?_
  rintro r w1 ⟨v, rfl, ho, hb1⟩
  have HB1 := hid hb1
  rcases ho.row.2 with ⟨rfl, h0⟩ | ⟨g, cap, cur, rfl, hbg, hg, hnc, hcm, hcs, htake⟩
  · obtain rfl : n = 0 := by rw [← HLN.out]; exact h0
    have ht : t = .nil := by
      have := HL.out.1
      cases t with
      | nil => rfl
      | cons x l e r => simp only [Il.len] at this; omega
    subst ht
    clear ho hb1 h0 CC
    go_wp2
    go_loopw [6, 12] (fun _ vi wr => vi = .int .i64 0 ∧ wr = w1) (fun _ _ _ => 0)
    case atStart => exact ⟨rfl, rfl⟩
    case round =>
      obtain ⟨rfl, rfl⟩ := hrel
      go_wp2
      go_ret
      exact ⟨⟨none, 0, .nil, rfl, ⟨rfl, .inl rfl⟩, rfl⟩, HB1.out⟩
  · rw [HLN.out] at hnc htake ⊢
    have hgl : g < w1.heap.size := by
      rcases Nat.lt_or_ge g w1.heap.size with h | h
      · exact h
      · rw [Array.getElem?_eq_none h] at hg; cases hg
    have HV : Hid (InvM t w1.heap.size g 0 w1) := hid (by
      refine ⟨⟨cur, _, hg⟩, fun j _ h => absurd h (Nat.not_lt_zero _), fun j hj _ q v hv => ?_⟩
      have hq : q < 8 := by
        rcases Nat.lt_or_ge q 8 with h | h
        · exact h
        · rw [Array.getElem?_eq_none (by simpa [Ix.vals] using h)] at hv; cases hv
      have hjr : j < (Il.rows t).length := by rw [rows_len, ← items_len]; exact hj
      have hf := flat_get (Il.rows t) (rows_eight t) j q hjr hq
      have hrow : (Il.rows t).getD j [] = (Il.items t)[j].1.vals.toList := by
        rw [rows_items t]; simp [hj]
      have hv2 : (Il.items t)[j].1.vals.toList[q]? = some v := by rw [Array.getElem?_toList]; exact hv
      rw [hrow, hv2] at hf
      have hjn : j < n := by rw [← HIN.out]; exact hj
      have h5 := congrArg (fun l => l[j * 8 + q]?) htake
      simp only [List.getElem?_take, if_pos (show j * 8 + q < n * 8 by omega)] at h5
      rw [hf] at h5
      have h6 : cur[j * 8 + q]? = some v := by rw [← Array.getElem?_toList]; exact h5
      simp [World.cell?, hg, h6])
    have HG := hid hgl
    have HBG := hid hbg
    clear ho hb1 CC hcs htake hcm hg hgl hbg
    go_wp2
    go_loopw [6, 12] (fun _ vi wr => ∃ k : Nat, vi = .int .i64 k ∧ k ≤ n ∧ Hid (Below w1.heap.size w1 wr ∨ True) ∧ Hid (Below w.heap.size w wr) ∧ Hid (w1.heap.size ≤ wr.heap.size) ∧ Hid (InvM t w1.heap.size g k wr)) (fun _ vi _ => n - (intOf vi).toNat)
    case atStart => exact ⟨0, rfl, Nat.zero_le _, .inr trivial, HB1, Nat.le_refl _, HV⟩
    case round =>
      obtain ⟨k, rfl, hk, _, HB, HZ, HV⟩ := hrel
      by_cases hlt : k < n
      · have hkl : k < (Il.items t).length := by rw [HIN.out]; exact hlt
        have hy := HI.out _ (List.getElem_mem hkl)
        have hleft := HV.out.left k hkl (Nat.le_refl _)
        have HST := hid (fun (W w2 : World) (x' : Ix) (l' e' : Il) (h1 : Below wr.heap.size wr W) (h2 : Below W.heap.size W w2) (hc : CpyX W.heap.size w2 x' (Il.items t)[k].1 l' (Il.items t)[k].2.1 e' (Il.items t)[k].2.2) => HV.out.step HG.out HZ.out h1 h1.size h2 hkl hc hy.l.1 hy.e.1)
        have HCI := hid (fun (W : World) (h1 : Below w.heap.size w W) => cpyI m IH.out (Il.items t)[k].1 (Il.items t)[k].2.1 (Il.items t)[k].2.2 W hy.ok ((hy.tags.below h1).more h1.size) ((hy.l.below h1).more h1.size) ((hy.e.below h1).more h1.size) (by have := hy.cl; have := HM.out; omega) (by have := hy.ce; have := HM.out; omega) (by have := hy.wt; have := HWT.out; omega) (by have := hy.wl; have := HWT.out; omega) (by have := hy.we; have := HWT.out; omega))
        obtain ⟨y, hye⟩ : ∃ y, (Il.items t)[k] = y := ⟨_, rfl⟩
        rw [hye] at hleft HST HCI
        obtain ⟨⟨op, res, xa, xb, xn, tags, ta, tc, la, ln, lc, ea, en, ec⟩, l, e⟩ := y
        dsimp only at hleft HST HCI
        have c0 : wr.cell? ⟨g, k * 8, none⟩ = some (.int .i64 op) := hleft 0 _ rfl
        have c1 : wr.cell? ⟨g, k * 8 + 1, none⟩ = some (.int .i64 res) := hleft 1 _ rfl
        have c2 : wr.cell? ⟨g, k * 8 + 2, none⟩ = some (.int .u32 xa) := hleft 2 _ rfl
        have c3 : wr.cell? ⟨g, k * 8 + 3, none⟩ = some (.int .u32 xb) := hleft 3 _ rfl
        have c4 : wr.cell? ⟨g, k * 8 + 4, none⟩ = some (.int .i32 xn) := hleft 4 _ rfl
        have c5 : wr.cell? ⟨g, k * 8 + 5, none⟩ = some (.slice ta tags.length tc) := hleft 5 _ rfl
        have c6 : wr.cell? ⟨g, k * 8 + 6, none⟩ = some (.slice la ln lc) := hleft 6 _ rfl
        have c7 : wr.cell? ⟨g, k * 8 + 7, none⟩ = some (.slice ea en ec) := hleft 7 _ rfl
        have hki : (k : Int) < (n : Int) := by omega
        have HSO := hid HV.out.soft
        clear hye hleft hy HV
        go_wp2_with fail
        refine (HCI.out _ (HB.out.alloc (HB.out.size) _)).mono ?_
        rintro r w2 ⟨⟨x', l', e', rfl, hc⟩, hb2⟩
        have hA := (Below.refl wr.heap.size wr).alloc (Nat.le_refl _) (.cells #[.int .i64 op, .int .i64 res, .int .u32 xa, .int .u32 xb, .int .i32 xn, .slice ta tags.length tc, .slice la ln lc, .slice ea en ec] 87)
        have HN := hid (HST.out _ w2 x' l' e' hA hb2 hc)
        have hA2 : Below wr.heap.size wr w2 := hA.trans (hb2.mono hA.size)
        have hgr : g < wr.heap.size := Nat.lt_of_lt_of_le HG.out HZ.out
        have HBF := hid (below_sets (g := g) x'.vals.toList (k * 8) (HB.out.trans (hA2.mono HB.out.size)) HBG.out)
        have HZF := hid (show w1.heap.size ≤ (w2.setCells g (k * 8) x'.vals.toList).heap.size by rw [size_sets]; exact Nat.le_trans HZ.out hA2.size)
        have hso2 : ∃ cs e, w2.heap[g]? = some (.cells cs e (0, 0)) := by
          obtain ⟨cs, e, h⟩ := HSO.out
          exact ⟨cs, e, (hA2.block g hgr).trans h⟩
        obtain ⟨cs, te, hcs⟩ := hso2
        have z := fun j => frozen_of_row w2 g j cs te hcs
        have z0 := z (k * 8)
        have z1 := z (k * 8 + 1)
        have z2 := z (k * 8 + 2)
        have z3 := z (k * 8 + 3)
        have z4 := z (k * 8 + 4)
        have z5 := z (k * 8 + 5)
        have z6 := z (k * 8 + 6)
        have z7 := z (k * 8 + 7)
        have c0 := Go.Proofs.YtaibfefmehhldaaGreatDoor.keep hA2 c0
        have c1 := Go.Proofs.YtaibfefmehhldaaGreatDoor.keep hA2 c1
        have c2 := Go.Proofs.YtaibfefmehhldaaGreatDoor.keep hA2 c2
        have c3 := Go.Proofs.YtaibfefmehhldaaGreatDoor.keep hA2 c3
        have c4 := Go.Proofs.YtaibfefmehhldaaGreatDoor.keep hA2 c4
        have c5 := Go.Proofs.YtaibfefmehhldaaGreatDoor.keep hA2 c5
        have c6 := Go.Proofs.YtaibfefmehhldaaGreatDoor.keep hA2 c6
        have c7 := Go.Proofs.YtaibfefmehhldaaGreatDoor.keep hA2 c7
        clear hc hb2 hA hA2 HST HCI HSO z hcs HB HZ
        obtain ⟨op', res', xa', xb', xn', tags', ta', tc', la', ln', lc', ea', en', ec'⟩ := x'
        dsimp only [Ix.vals] at HN HBF HZF ⊢
        go_wp2
        go_roundw
        case rel => exact ⟨k + 1, by go_num, by omega, .inr trivial, HBF, HZF, HN⟩
        case measure => simp [intOf]; omega
      · obtain rfl : k = n := by omega
        have HE := hid (put_together (lo := w.heap.size) (hi := wr.heap.size) (w := wr) (b := g) ⟨HBG.out, by have := HG.out; have := HZ.out; omega, HV.out.soft⟩ t 0 (fun i hi => by
          have := HV.out.done i hi (by rw [← HIN.out]; exact hi)
          exact this.frame (hi' := wr.heap.size) (fun b _ _ => rfl) (Nat.le_refl _) (fun _ _ => rfl) |> fun h => by
            obtain ⟨x', l', e', g1, g2, g3, g4, g5, g6⟩ := h
            have hb := HB1.out.size
            exact ⟨x', l', e', g1, g2, g3.mono hb (Nat.le_refl _), g4.mono hb (Nat.le_refl _), g5.mono hb (Nat.le_refl _), g6⟩))
        have HLT := hid HL.out.1
        clear HV hlt hk
        go_wp2
        go_ret
        obtain ⟨u, h1, h2, h3⟩ := HE.out
        exact ⟨⟨_, _, u, rfl, ⟨h2.trans HLT.out, .inr ⟨g, 0, rfl, h3⟩⟩, h1⟩, HB.out⟩
set_option maxRecDepth 100000 in
set_option maxHeartbeats 4000000 in
theorem cpyC : ∀ m, CpyC m := by
  intro m
  induction m with
  | zero => intro t a n c w hm; omega
  | succ m ih =>
    intro t a n c w hm hw hl hn
    have C := hid (mapI m ih t a n c w (by omega) hw hl hn)
    clear hm hw hl ih
    go_enter Tryz.func51, Tryz.ntmps51
    go_wp2_with fail
    refine C.out.mono ?_
    rintro r w2 ⟨⟨a', c', u, rfl, h1, h2⟩, hb⟩
    have H1 := hid h1
    have H2 := hid h2
    have HB := hid hb
    clear h1 h2 hb C
    go_wp2
    go_ret
    exact ⟨⟨a', c', u, rfl, H1.out, H2.out⟩, HB.out⟩
/-- copyList of any list. -/
theorem copyList_any (t : Il) (a : Option Addr) (n c : Nat) (w : World) (hw : t.weight ≤ 1000000000) (hl : ListAt w.heap.size w a n t) (hn : n ≤ 140737488351232) :
    Calls Tryz.prog 51 #[.slice a n c] w fun e w' => (∃ a' c' u, e = .returned (.slice a' n c') ∧ ListO w.heap.size w'.heap.size w' a' n u ∧ u.bare = t.bare) ∧ Below w.heap.size w w' :=
  cpyC (t.count + 1) t a n c w (Nat.lt_succ_self _) hw hl hn
end Go.Proofs.YtaibfefmehhldaaGreatDoor.Mod

namespace Go.Proofs.YtaibfefmehhldaaGreatDoor.Instr
open Go.RowKit Go.Shelf

theorem cell_new (W : World) (v : Value) (t : TypeId) : (W.alloc (.cells #[v] t)).cell? ⟨W.heap.size, 0, none⟩ = some v ∧ (W.alloc (.cells #[v] t)).frozen? ⟨W.heap.size, 0, none⟩ = false := by
  constructor <;> go_simp
theorem cell_alloc' {W : World} {a : Addr} {v : Value} (o : Obj) (h : W.cell? a = some v) : (W.alloc o).cell? a = some v := cell_kept h (World.grownBy_alloc W o none) (fun r e => by cases e)
theorem frozen_alloc' {W : World} {a : Addr} {v : Value} (o : Obj) (h : W.cell? a = some v) (hf : W.frozen? a = false) : (W.alloc o).frozen? a = false := (frozen_kept h (World.grownBy_alloc W o none) (fun r e => by cases e)).trans hf

end Go.Proofs.YtaibfefmehhldaaGreatDoor.Instr
