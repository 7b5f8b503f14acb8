import Derived.Test.YtlfflomeaplidaaDoorSave
import Derived.Test.YtlfflomeaplidaaDoorBodyPlain
import Derived.BigQuiet
import Derived.Deep.QuietTactic
/-
  BODY: the reader's small methods by contracts: faulty, refuse; slices.Contains of bytes.
-/
namespace Go.Proofs.YtlfflomeaplidaaDoor.Body
open Go.RowKit
open Go.Proofs.YtlfflomeaplidaaDoor.Kind (Rd numR refuseR startR numR_good numR_bounds refuseR_good getL_next)

/-- The reader in block k: over the bytes of v, in the state s. -/
structure RdIs (w : World) (k : Nat) (v : Value) (s : Rd) : Prop where
  c0 : w.cell? ⟨k, 0, none⟩ = some v
  c1 : w.cell? ⟨k, 1, none⟩ = some (.int .i64 s.1)
  c2 : w.cell? ⟨k, 2, none⟩ = some (.int .i64 s.2.1)
  c3 : w.cell? ⟨k, 3, none⟩ = some (.int .i64 s.2.2)
  f0 : w.frozen? ⟨k, 0, none⟩ = false
  f1 : w.frozen? ⟨k, 1, none⟩ = false
  f2 : w.frozen? ⟨k, 2, none⟩ = false
  f3 : w.frozen? ⟨k, 3, none⟩ = false
theorem RdIs.below {w w' : World} {k : Nat} {v : Value} {s : Rd} (h : RdIs w k v s) (hb : Below w.heap.size w w') : RdIs w' k v s := by
  have hk := World.block_lt_of_cell? w _ h.c0
  exact ⟨keep hb h.c0, keep hb h.c1, keep hb h.c2, keep hb h.c3, (hb.frozen (p := ⟨k, 0, none⟩) hk).trans h.f0, (hb.frozen (p := ⟨k, 1, none⟩) hk).trans h.f1, (hb.frozen (p := ⟨k, 2, none⟩) hk).trans h.f2, (hb.frozen (p := ⟨k, 3, none⟩) hk).trans h.f3⟩
theorem RdIs.save {w w' : World} {k j : Nat} {v : Value} {s : Rd} (h : RdIs w k v s) (hb : Save j w w') (hj : k ≠ j) : RdIs w' k v s := by
  have hk := World.block_lt_of_cell? w _ h.c0
  exact ⟨hb.cell hj h.c0, hb.cell hj h.c1, hb.cell hj h.c2, hb.cell hj h.c3, hb.frozen hk hj h.f0, hb.frozen hk hj h.f1, hb.frozen hk hj h.f2, hb.frozen hk hj h.f3⟩

/-- What a method does: this it hands back, in this state it leaves the reader; nothing else turns. -/
def Does (k : Nat) (v : Value) (w : World) (r : Value) (s : Rd) (e : Ending) (w' : World) : Prop := e = .returned r ∧ RdIs w' k v s ∧ Save k w w'

theorem faulty_no (k : Nat) (v : Value) (s : Rd) (w : World) (h : RdIs w k v s) (h0 : s.2.1 = 0) :
    Calls Tryd.prog 75 #[.pointer (some ⟨k, 0, none⟩)] w fun e w' => e = .returned (.bool false) ∧ w = w' := by
  have c2 := h.c2
  rw [h0] at c2
  clear h h0
  go_enter Tryd.func75, Tryd.ntmps75
  go_wp2
  go_ret
  exact ⟨rfl, rfl⟩
theorem faulty_yes (k : Nat) (v : Value) (s : Rd) (w : World) (h : RdIs w k v s) (h0 : s.2.1 ≠ 0) :
    Calls Tryd.prog 75 #[.pointer (some ⟨k, 0, none⟩)] w fun e w' => e = .returned (.bool true) ∧ w = w' := by
  have c2 := h.c2
  have hn : ¬ s.2.1 = 0 := h0
  have hb : (s.2.1 != 0) = true := by simp [h0]
  generalize s.2.1 = er at *
  clear h h0
  go_enter Tryd.func75, Tryd.ntmps75
  go_wp2
  go_ret
  exact ⟨ret_bool (by first | rfl | simpa using hn), rfl⟩

theorem refuse_any (k : Nat) (v : Value) (s : Rd) (e f : Int) (w : World) (h : RdIs w k v s) :
    Calls Tryd.prog 108 #[.pointer (some ⟨k, 0, none⟩), .int .i64 e, .int .i64 f] w (Does k v w (.tuple #[]) (refuseR s e f)) := by
  have h2 := h.f2
  have h3 := h.f3
  have k2 := h.c2
  have k3 := h.c3
  by_cases h0 : s.2.1 = 0
  · have hf := faulty_no k v s w h h0
    have HE : Hid (refuseR s e f = (s.1, e, f)) := by unfold refuseR; rw [if_pos h0]; rfl
    have H0 := hid h0
    clear h0
    go_enter Tryd.func108, Tryd.ntmps108
    go_wp2_with fail
    refine hf.mono ?_
    rintro e1 w1 ⟨rfl, rfl⟩
    clear hf
    go_wp2
    go_end0
    refine ⟨rfl, ?_, ?_⟩
    · rw [HE.out]
      refine ⟨?_, ?_, ?_, ?_, ?_, ?_, ?_, ?_⟩ <;> simp [go_sem, h.c0, h.c1, h.c2, h.c3, h.f0, h.f1, h.f2, h.f3]
    · exact ((Save.refl k w).setCell (p := ⟨k, 2, none⟩) (.inl rfl) _).setCell (p := ⟨k, 3, none⟩) (.inl rfl) _
  · have hf := faulty_yes k v s w h h0
    have HE : Hid (refuseR s e f = s) := by unfold refuseR; rw [if_neg h0]; rfl
    clear h0 h2 h3 k2 k3
    go_enter Tryd.func108, Tryd.ntmps108
    go_wp2_with fail
    refine hf.mono ?_
    rintro e1 w1 ⟨rfl, rfl⟩
    clear hf
    go_wp2
    go_end0
    exact ⟨rfl, by rw [HE.out]; exact h, Save.refl _ _⟩

/-- Where a byte stands in a list: some number that is not below 0 just if it does. -/
def Finds (ls : List Int) (x : Int) (w : World) (e : Ending) (w' : World) : Prop := ∃ j : Int, e = .returned (.int .i64 j) ∧ decide (0 ≤ j) = ls.contains x ∧ w = w'
theorem contains_drop {ls : List Int} {x : Int} {i : Nat} (hi : i < ls.length) (h : (ls.drop i).contains x = ls.contains x) (hx : x ≠ ls.getD i 0) : (ls.drop (i + 1)).contains x = ls.contains x := by
  rw [← h, drop_at hi, List.contains_cons]
  have : (x == ls.getD i 0) = false := by simpa using hx
  rw [this, Bool.false_or]
theorem contains_here {ls : List Int} {x : Int} {i : Nat} (hi : i < ls.length) (h : (ls.drop i).contains x = ls.contains x) (hx : x = ls.getD i 0) : ls.contains x = true := by
  rw [← h, drop_at hi, List.contains_cons, hx]
  simp
set_option maxHeartbeats 400000 in
theorem index_any (a : Option Addr) (len cap : Nat) (ls : List Int) (x : Int) (w : World) (hlen : ls.length = len) (hz : Bytes w a ls) :
    Calls Tryd.prog 138 #[.slice a len cap, .int .u8 x] w (Finds ls x w) := by
  have hmax := hz.size
  rw [hlen] at hmax
  have HL := hid hlen
  clear hlen
  go_enter Tryd.func138, Tryd.ntmps138
  go_wp2
  go_loop [8] (fun si => ∃ i : Nat, i ≤ len ∧ si = .int .i64 i ∧ Hid ((ls.drop i).contains x = ls.contains x)) (fun si => len - (intOf si).toNat)
  case atStart => exact ⟨0, by omega, rfl, rfl⟩
  case round =>
    obtain ⟨i, hi, rfl, HC⟩ := hrel
    by_cases hlt : i < len
    · have hil : i < ls.length := by have := HL.out; omega
      obtain ⟨b, off, rfl, hcell⟩ := hz.at (by omega)
      have hc := hcell i hil
      clear hcell
      by_cases hx : x = ls.getD i 0
      · have HY := hid (contains_here hil HC.out hx)
        rw [← hx] at hc
        clear hx
        go_wp2
        go_ret
        exact ⟨i, rfl, by rw [HY.out]; simp, rfl⟩
      · have HY := hid (contains_drop hil HC.out hx)
        generalize ls.getD i 0 = y at hx hc
        have hx' : (x == y) = false := by simpa using hx
        go_wp2
        go_round
        case rel => exact ⟨i + 1, by omega, by go_num, HY⟩
        case measure => simp [intOf]; omega
    · have HY : Hid (ls.contains x = false) := by
        show _ = _
        rw [← HC.out, List.drop_eq_nil_of_le (by have := HL.out; omega)]; rfl
      go_wp2
      go_ret
      exact ⟨-1, rfl, by rw [HY.out]; rfl, rfl⟩
set_option maxHeartbeats 400000 in
theorem contains_any (a : Option Addr) (len cap : Nat) (ls : List Int) (x : Int) (w : World) (hlen : ls.length = len) (hz : Bytes w a ls) :
    Calls Tryd.prog 131 #[.slice a len cap, .int .u8 x] w fun e w' => e = .returned (.bool (ls.contains x)) ∧ w = w' := by
  have hI := index_any a len cap ls x w hlen hz
  clear hlen hz
  go_enter Tryd.func131, Tryd.ntmps131
  go_wp2_with fail
  refine hI.mono ?_
  rintro e w' ⟨j, rfl, hj, rfl⟩
  have HJ := hid hj
  clear hj hI
  go_wp2
  go_ret
  exact ⟨ret_bool HJ.out, rfl⟩
end Go.Proofs.YtlfflomeaplidaaDoor.Body

/-
  BODY: the reader's one, oneOf, newReader, by contract.
-/
namespace Go.Proofs.YtlfflomeaplidaaDoor.Body
open Go.RowKit
open Go.Proofs.YtlfflomeaplidaaDoor.Kind (Rd numR refuseR startR numR_good numR_bounds refuseR_good getL_next)

theorem drewB (w : World) (n : Nat) : Below w.heap.size w (w.drewN n) := ⟨rfl, rfl, rfl, Nat.le_refl _, fun _ _ => rfl⟩
theorem Does.of_save {k : Nat} {v r : Value} {w w0 w' : World} {s : Rd} {e : Ending} (h0 : Save k w w0) (h : Does k v w0 r s e w') : Does k v w r s e w' := ⟨h.1, h.2.1, h0.trans h.2.2⟩

theorem one_bad (k : Nat) (v : Value) (s : Rd) (w : World) (h : RdIs w k v s) (h0 : s.2.1 ≠ 0) :
    Calls Tryd.prog 124 #[.pointer (some ⟨k, 0, none⟩)] w (Does k v w (.int .u8 0) s) := by
  have hf := faulty_yes k v s w h h0
  go_enter Tryd.func124, Tryd.ntmps124
  go_wp2_with fail
  refine hf.mono ?_
  rintro e1 w1 ⟨rfl, rfl⟩
  clear hf
  go_wp2
  go_ret
  exact ⟨rfl, h, Save.refl _ _⟩

set_option maxHeartbeats 800000 in
theorem one_end (k : Nat) (av : Option Addr) (len cap : Nat) (w : World) (h : RdIs w k (.slice av len cap) ((len : Int), 0, 0)) :
    Calls Tryd.prog 124 #[.pointer (some ⟨k, 0, none⟩)] w (Does k (.slice av len cap) w (.int .u8 0) ((len : Int), 4, (len : Int))) := by
  have hf := faulty_no k _ _ w h rfl
  have c0 := h.c0
  have c1 := h.c1
  have hd : ∀ n, RdIs (w.drewN n) k (.slice av len cap) ((len : Int), 0, 0) := fun n => h.below (drewB w n)
  have HD := hid hd
  have hs : ∀ n, Save k w (w.drewN n) := fun n => .of_below (drewB w n)
  have HS := hid hs
  simp only at c1
  clear h hd hs
  go_enter Tryd.func124, Tryd.ntmps124
  go_wp2_with fail
  refine hf.mono ?_
  rintro e1 w1 ⟨rfl, rfl⟩
  clear hf
  go_wp2
  go_quiet (fail)
  go_wp2_with fail
  refine (refuse_any k _ _ 4 len _ (HD.out _)).mono ?_
  rintro e2 w2 ⟨rfl, h2, s2⟩
  go_wp2
  go_ret
  exact ⟨rfl, h2, (HS.out _).trans s2⟩

set_option maxHeartbeats 1600000 in
theorem one_hit (k : Nat) (av : Option Addr) (len cap i : Nat) (zs : List Int) (w : World) (h : RdIs w k (.slice av len cap) ((i : Int), 0, 0)) (hi : i < len) (hlen : zs.length = len) (hz : Bytes w av zs) :
    Calls Tryd.prog 124 #[.pointer (some ⟨k, 0, none⟩)] w (Does k (.slice av len cap) w (.int .u8 (zs.getD i 0)) ((i : Int) + 1, 0, 0)) := by
  have hf := faulty_no k _ _ w h rfl
  have c0 := h.c0
  have c1 := h.c1
  have f1 := h.f1
  have hd : ∀ n, RdIs (w.drewN n) k (.slice av len cap) ((i : Int), 0, 0) := fun n => h.below (drewB w n)
  have HD := hid hd
  have hs : ∀ n, Save k w (w.drewN n) := fun n => .of_below (drewB w n)
  have HS := hid hs
  have hmax := hz.size
  rw [hlen] at hmax
  have hil : i < zs.length := by omega
  obtain ⟨b, off, rfl, hcell⟩ := hz.at (by omega)
  have hc := hcell i hil
  generalize zs.getD i 0 = y at *
  simp only at c1
  have hne : ¬ i = len := by omega
  clear h hd hs hcell hlen hz hil
  go_enter Tryd.func124, Tryd.ntmps124
  go_wp2_with fail
  refine hf.mono ?_
  rintro e1 w1 ⟨rfl, rfl⟩
  clear hf
  go_wp2
  go_quiet (fail)
  go_wp2
  go_quiet (fail)
  go_wp2
  go_ret
  refine ⟨rfl, ?_, (HS.out _).setCell (p := ⟨k, 1, none⟩) (.inl rfl) _⟩
  have h1 := HD.out
  refine ⟨?_, ?_, ?_, ?_, ?_, ?_, ?_, ?_⟩ <;> simp [go_sem, (h1 _).c0, (h1 _).c1, (h1 _).c2, (h1 _).c3, (h1 _).f0, (h1 _).f1, (h1 _).f2, (h1 _).f3]

theorem one_any (k : Nat) (av : Option Addr) (len cap : Nat) (zs : List Int) (s : Rd) (w : World) (h : RdIs w k (.slice av len cap) s) (hg : Kind.Good zs s) (hlen : zs.length = len) (hz : Bytes w av zs) :
    Calls Tryd.prog 124 #[.pointer (some ⟨k, 0, none⟩)] w (Does k (.slice av len cap) w (.int .u8 (byteR zs s).1) (byteR zs s).2) := by
  unfold byteR
  by_cases h0 : s.2.1 = 0
  · rw [if_pos h0]
    obtain ⟨p, e, f⟩ := s
    obtain ⟨g1, g2, g3⟩ := hg h0
    simp only at h0 g1 g2 g3 ⊢
    subst h0 g3
    obtain ⟨i, rfl⟩ := Int.eq_ofNat_of_zero_le g1
    by_cases hi : (i : Int) = zs.length
    · rw [if_pos hi]
      obtain rfl : i = len := by omega
      exact one_end k av i cap w h
    · rw [if_neg hi, Int.toNat_natCast]
      exact one_hit k av len cap i zs w h (by omega) hlen hz
  · rw [if_neg h0]
    exact one_bad k _ s w h h0

set_option maxHeartbeats 1600000 in
theorem oneOf_any (k : Nat) (av : Option Addr) (len cap : Nat) (zs : List Int) (s : Rd) (a : Option Addr) (n c : Nat) (ls : List Int) (ok : Int → Bool) (w : World) (h : RdIs w k (.slice av len cap) s) (hg : Kind.Good zs s) (hlen : zs.length = len) (hz : Bytes w av zs)
    (hn : ls.length = n) (hl : Bytes w a ls) (ha : ∀ b off, a = some ⟨b, off, none⟩ → ls ≠ [] → b ≠ k) (hok : ∀ x, ok x = ls.contains x) :
    Calls Tryd.prog 125 #[.pointer (some ⟨k, 0, none⟩), .slice a n c] w (Does k (.slice av len cap) w (.int .u8 (tagR zs ok s).1) (tagR zs ok s).2) := by
  have C1 := hid (one_any k av len cap zs s w h hg hlen hz)
  have c1 := h.c1
  obtain ⟨p, hp⟩ : ∃ p, s.1 = p := ⟨_, rfl⟩
  rw [hp] at c1
  have HT : Hid (tagR zs ok s = ((byteR zs s).1, if ok (byteR zs s).1 then (byteR zs s).2 else refuseR (byteR zs s).2 140 p)) := by show _ = _; rw [← hp]; rfl
  obtain ⟨y, hy⟩ : ∃ y, (byteR zs s).1 = y := ⟨_, rfl⟩
  obtain ⟨s1, hs1⟩ : ∃ s1, (byteR zs s).2 = s1 := ⟨_, rfl⟩
  rw [hy, hs1] at C1 HT
  have C2 := hid (fun w' (hs : Save k w w') => contains_any a n c ls y w' hn (hl.save hs ha))
  obtain ⟨q, hq⟩ : ∃ q, ls.contains y = q := ⟨_, rfl⟩
  rw [hok, hq] at HT
  rw [hq] at C2
  clear h hg hlen hz hn hl ha hok hp hy hs1 hq
  rw [HT.out]
  clear HT
  cases q
  · simp only [Bool.false_eq_true, if_false]
    go_enter Tryd.func125, Tryd.ntmps125
    go_wp2_with fail
    refine C1.out.mono ?_
    clear C1
    rintro e1 w1 ⟨rfl, h1, sv1⟩
    go_wp2_with fail
    refine (C2.out _ sv1).mono ?_
    clear C2
    rintro e2 w2 ⟨rfl, rfl⟩
    go_wp2_with fail
    refine (refuse_any k _ s1 140 p _ h1).mono ?_
    rintro e2 w2 ⟨rfl, h2, sv2⟩
    go_wp2
    go_ret
    exact ⟨rfl, h2, sv1.trans sv2⟩
  · simp only [if_true]
    go_enter Tryd.func125, Tryd.ntmps125
    go_wp2_with fail
    refine C1.out.mono ?_
    clear C1
    rintro e1 w1 ⟨rfl, h1, sv1⟩
    go_wp2_with fail
    refine (C2.out _ sv1).mono ?_
    clear C2
    rintro e2 w2 ⟨rfl, rfl⟩
    go_wp2
    go_ret
    exact ⟨rfl, h1, sv1⟩
/-- A new reader in the next block. -/
def NewR (w : World) (v : Value) (s : Rd) (e : Ending) (w' : World) : Prop := e = .returned (.pointer (some ⟨w.heap.size, 0, none⟩)) ∧ RdIs w' w.heap.size v s ∧ Below w.heap.size w w'

theorem rd_new (w : World) (v : Value) (p : Int) (t : TypeId) : RdIs (w.alloc (.cells #[v, .int .i64 p, .int .i64 0, .int .i64 0] t)) w.heap.size v (p, 0, 0) := by
  refine ⟨?_, ?_, ?_, ?_, ?_, ?_, ?_, ?_⟩ <;> go_simp

set_option maxHeartbeats 800000 in
theorem newReader_any (av : Option Addr) (len cap : Nat) (zs : List Int) (p : Int) (w : World) (hlen : zs.length = len) :
    Calls Tryd.prog 73 #[.slice av len cap, .int .i64 p] w (NewR w (.slice av len cap) (startR zs p)) := by
  have hR := rd_new w (.slice av len cap) p 115
  have HR := hid hR
  have hB : Below w.heap.size w (w.alloc (.cells #[.slice av len cap, .int .i64 p, .int .i64 0, .int .i64 0] 115)) := (Below.refl _ _).alloc (Nat.le_refl _) _
  have HB := hid hB
  clear hR hB
  by_cases h0 : p < 0
  · have HS : Hid (startR zs p = (p, 5, 0)) := by show _ = _; unfold startR; rw [if_pos (.inl h0)]
    clear hlen
    go_enter Tryd.func73, Tryd.ntmps73
    go_wp2_with fail
    refine (refuse_any w.heap.size _ _ 5 0 _ HR.out).mono ?_
    rintro e2 w2 ⟨rfl, h2, s2⟩
    go_wp2
    go_ret
    rw [HS.out]
    exact ⟨rfl, h2, HB.out.trans (s2.below (by simp) (Nat.le_refl _))⟩
  · by_cases h1 : (len : Int) < p
    · have HS : Hid (startR zs p = (p, 5, 0)) := by show _ = _; unfold startR; rw [if_pos (.inr (by omega))]
      clear hlen
      go_enter Tryd.func73, Tryd.ntmps73
      go_wp2_with fail
      refine (refuse_any w.heap.size _ _ 5 0 _ HR.out).mono ?_
      rintro e2 w2 ⟨rfl, h2, s2⟩
      go_wp2
      go_ret
      rw [HS.out]
      exact ⟨rfl, h2, HB.out.trans (s2.below (by simp) (Nat.le_refl _))⟩
    · have HS : Hid (startR zs p = (p, 0, 0)) := by show _ = _; unfold startR; rw [if_neg (by omega)]
      clear hlen
      go_enter Tryd.func73, Tryd.ntmps73
      go_wp2
      go_ret
      rw [HS.out]
      exact ⟨rfl, HR.out, HB.out⟩
end Go.Proofs.YtlfflomeaplidaaDoor.Body
