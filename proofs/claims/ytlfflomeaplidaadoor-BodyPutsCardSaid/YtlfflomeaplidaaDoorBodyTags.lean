import Derived.Test.YtlfflomeaplidaaDoorBodyByte
import Derived.Test.YtlfflomeaplidaaDoorInstrLeaf
import Derived.Test.YtlfflomeaplidaaDoorBodyNum
import Derived.Test.YtlfflomeaplidaaDoorInts
import Derived.Test.YtlfflomeaplidaaDoorInstrHeap
/-
  BODY: follows, and the reader's operation, by contract.
-/
namespace Go.Proofs.YtlfflomeaplidaaDoor.Body
open Go.RowKit Go.Proofs.YtlfflomeaplidaaDoor.Instr
open Go.Proofs.YtlfflomeaplidaaDoor.Kind (Rd numR refuseR startR numR_good numR_bounds refuseR_good getL_next)

/-- What follows, as the program's set of parts. -/
def partsP (op : Int) : Int :=
  if op = 2 ∨ op = 3 ∨ op = 4 then 65
  else if op = 12 ∨ op = 13 ∨ op = 16 ∨ op = 32 ∨ op = 33 ∨ op = 34 ∨ op = 35 ∨ op = 36 then 4
  else if op = 17 then 36 else if op = 14 then 6
  else if op = 40 ∨ op = 44 ∨ op = 45 ∨ op = 46 ∨ op = 47 ∨ op = 54 ∨ op = 58 ∨ op = 59 then 12
  else if op = 63 ∨ op = 64 then 32 else if op = 65 then 16 else 0
theorem parts_kind (op : Int) : (kindP op = 0 ∧ partsP op = 0) ∨ (kindP op = 1 ∧ partsP op = 65) ∨ (kindP op = 2 ∧ partsP op = 4) ∨ (kindP op = 3 ∧ partsP op = 36) ∨ (kindP op = 4 ∧ partsP op = 6) ∨ (kindP op = 5 ∧ partsP op = 12) ∨ (kindP op = 6 ∧ partsP op = 32) ∨ (kindP op = 7 ∧ partsP op = 16) := by
  unfold kindP partsP
  (repeat' split) <;> simp
theorem follows_any (op : Int) (w : World) : Calls Tryd.prog 96 #[.int .i64 op] w fun e w' => e = .returned (.int .u8 (partsP op)) ∧ w = w' := by
  obtain ⟨u, hu⟩ : ∃ u, partsP op = u := ⟨_, rfl⟩
  rw [hu]
  have HU := hid hu
  clear hu
  go_enter Tryd.func96, Tryd.ntmps96
  go_wp2
  all_goals go_ret
  all_goals
    refine ⟨ret_int ?_, rfl⟩
    have hu := HU.out
    clear HU
    simp only [beq_iff_eq, beq_eq_false_iff_ne, ne_eq] at *
    subst hu
    simp [partsP, *]

theorem isSome_name {op : Int} : ((strOfNums (nameL op)).toList.isEmpty = true) ↔ nameL op = [] := by
  rw [ByteArray.toList_eq, strOfNums_data]
  simp

set_option maxHeartbeats 1600000 in
theorem operation_any (k : Nat) (av : Option Addr) (len cap : Nat) (zs : List Int) (s : Rd) (oth : Bool) (deep : Nat) (cnt : Int) (w : World) (h : RdIs w k (.slice av len cap) s) (hg : Kind.Good zs s) (hlen : zs.length = len) (hz : Bytes w av zs)
    (hN : ∀ w', Save k w w' → Nams w') (hd : deep ≤ 4611686018427387900) (hc : 0 ≤ cnt ∧ cnt ≤ 4611686018427387900) :
    Calls Tryd.prog 109 #[.pointer (some ⟨k, 0, none⟩), .bool oth, .int .i64 deep, .int .i64 cnt] w (Does k (.slice av len cap) w (.int .i64 (opR zs oth deep cnt s).1) (opR zs oth deep cnt s).2) := by
  have C1 := hid (one_any k av len cap zs s w h hg hlen hz)
  have c1 := h.c1
  obtain ⟨p, hp⟩ : ∃ p, s.1 = p := ⟨_, rfl⟩
  rw [hp] at c1
  unfold opR
  dsimp only
  rw [hp]
  have hyb : 0 ≤ (byteR zs s).1 ∧ (byteR zs s).1 < 256 := by
    unfold byteR
    split
    · split
      · simp
      · rename_i h0 h1
        have := hg h0
        simp only
        exact hz.get (by omega)
    · simp
  obtain ⟨y, hy⟩ : ∃ y, (byteR zs s).1 = y := ⟨_, rfl⟩
  obtain ⟨s1, hs1⟩ : ∃ s1, (byteR zs s).2 = s1 := ⟨_, rfl⟩
  rw [hy] at C1 hyb ⊢
  rw [hs1] at C1 ⊢
  obtain ⟨y0, y1⟩ := hyb
  clear h hg hlen hz hp hy hs1
  obtain ⟨c0, c9⟩ := hc
  have NM := hid (fun w' (hs : Save k w w') => Name_any y w' (hN w' hs))
  have HD : Hid (deep = deep) := hid rfl
  by_cases h11 : y = 11
  · subst h11
    rw [if_pos (.inl rfl)]
    clear NM hN
    go_enter Tryd.func109, Tryd.ntmps109
    go_wp2_with fail
    refine C1.out.mono ?_
    clear C1
    rintro e1 w1 ⟨rfl, h1, sv1⟩
    go_wp2
    go_ret
    exact ⟨rfl, h1, sv1⟩
  by_cases h5 : y = 5 ∧ oth = true
  · obtain ⟨rfl, rfl⟩ := h5
    rw [if_pos (.inr ⟨rfl, rfl⟩)]
    clear NM hN h11
    go_enter Tryd.func109, Tryd.ntmps109
    go_wp2_with fail
    refine C1.out.mono ?_
    clear C1
    rintro e1 w1 ⟨rfl, h1, sv1⟩
    go_wp2
    go_ret
    exact ⟨rfl, h1, sv1⟩
  rw [if_neg (fun h => h.elim h11 h5)]
  have hsp : y = 5 ∧ oth = false ∨ ¬ y = 5 := by
    by_cases h : y = 5
    · refine .inl ⟨h, ?_⟩
      cases oth
      · rfl
      · exact absurd ⟨h, rfl⟩ h5
    · exact .inr h
  clear h5
  by_cases hn : nameL y = []
  · rw [if_pos hn]
    have hs : strOfNums (nameL y) = ⟨#[]⟩ := by rw [hn]; rfl
    rw [hs] at NM
    rcases hsp with ⟨rfl, rfl⟩ | hsp
    all_goals
      clear hn hs hN
      go_enter Tryd.func109, Tryd.ntmps109
      go_wp2_with fail
      refine C1.out.mono ?_
      clear C1
      rintro e1 w1 ⟨rfl, h1, sv1⟩
      go_wp2_with fail
      refine (NM.out _ sv1).mono ?_
      clear NM
      rintro e1 w2 ⟨rfl, rfl⟩
      go_wp2_with fail
      refine (refuse_any k _ s1 160 p _ h1).mono ?_
      rintro e2 w2 ⟨rfl, h2, sv2⟩
      go_wp2
      go_ret
      exact ⟨rfl, h2, sv1.trans sv2⟩
  · rw [if_neg hn]
    have h55 : ¬ y = 5 := by rintro rfl; exact hn (by decide)
    have hs : (strOfNums (nameL y)).toList.isEmpty = false := by
      rw [← Bool.not_eq_true]; intro h; exact hn (isSome_name.1 h)
    obtain ⟨nm, hnm⟩ : ∃ nm, strOfNums (nameL y) = nm := ⟨_, rfl⟩
    rw [hnm] at NM hs
    clear hn hnm hN hsp
    by_cases hm : 900 < deep
    · have hm' : (900 : Int) < (deep : Int) := by omega
      rw [if_pos (.inl hm)]
      clear hm
      go_enter Tryd.func109, Tryd.ntmps109
      go_wp2_with fail
      refine C1.out.mono ?_
      clear C1
      rintro e1 w1 ⟨rfl, h1, sv1⟩
      go_wp2_with fail
      refine (NM.out _ sv1).mono ?_
      clear NM
      rintro e1 w2 ⟨rfl, rfl⟩
      go_wp2_with fail
      refine (refuse_any k _ s1 141 p _ h1).mono ?_
      rintro e2 w2 ⟨rfl, h2, sv2⟩
      go_wp2
      go_ret
      exact ⟨rfl, h2, sv1.trans sv2⟩
    · have hm' : ¬ (900 : Int) < (deep : Int) := by omega
      by_cases hc2 : 262144 ≤ cnt
      · rw [if_pos (.inr hc2)]
        clear hm
        go_enter Tryd.func109, Tryd.ntmps109
        go_wp2_with fail
        refine C1.out.mono ?_
        clear C1
        rintro e1 w1 ⟨rfl, h1, sv1⟩
        go_wp2_with fail
        refine (NM.out _ sv1).mono ?_
        clear NM
        rintro e1 w2 ⟨rfl, rfl⟩
        go_wp2_with fail
        refine (refuse_any k _ s1 141 p _ h1).mono ?_
        rintro e2 w2 ⟨rfl, h2, sv2⟩
        go_wp2
        go_ret
        exact ⟨rfl, h2, sv1.trans sv2⟩
      · rw [if_neg (fun h => h.elim hm hc2)]
        clear hm
        go_enter Tryd.func109, Tryd.ntmps109
        go_wp2_with fail
        refine C1.out.mono ?_
        clear C1
        rintro e1 w1 ⟨rfl, h1, sv1⟩
        go_wp2_with fail
        refine (NM.out _ sv1).mono ?_
        clear NM
        rintro e1 w2 ⟨rfl, rfl⟩
        go_wp2
        go_ret
        exact ⟨rfl, h1, sv1⟩
end Go.Proofs.YtlfflomeaplidaaDoor.Body

/-
  BODY: the reader's labels, by contract: new memory that holds them.
-/
namespace Go.Proofs.YtlfflomeaplidaaDoor.Body
open Go.RowKit Go.Proofs.YtlfflomeaplidaaDoor.Instr
open Go.Proofs.YtlfflomeaplidaaDoor.Kind (Rd numR refuseR startR numR_good numR_bounds refuseR_good getL_next)

theorem infoU32 : (Tryd.prog.info? 42).map (fun i => (i.zero, i.size, i.bytes)) = some (some (.int .u32 0), 1, 4) := by kernel_rfl
/-- One label more is read behind so many. -/
theorem tagsR_snoc {zs : List Int} : ∀ (k : Nat) (s : Rd), (tagsR zs (k + 1) s).1 = (tagsR zs k s).1 ++ (if (tagsR zs k s).2.2.1 = 0 then [(numR zs (tagsR zs k s).2).1] else []) ∧
    (tagsR zs (k + 1) s).2 = (if (tagsR zs k s).2.2.1 = 0 then (numR zs (tagsR zs k s).2).2 else (tagsR zs k s).2)
  | 0, s => by
    unfold tagsR
    split <;> simp [tagsR]
  | k + 1, s => by
    by_cases h : s.2.1 = 0
    · have e : ∀ j, tagsR zs (j + 1) s = ((numR zs s).1 :: (tagsR zs j (numR zs s).2).1, (tagsR zs j (numR zs s).2).2) := fun j => by rw [tagsR, if_pos h]
      obtain ⟨a, b⟩ := tagsR_snoc k (numR zs s).2
      rw [e (k + 1), e k]
      dsimp only
      rw [a, b]
      exact ⟨by simp, rfl⟩
    · have e : ∀ j, tagsR zs (j + 1) s = ([], s) := fun j => by rw [tagsR, if_neg h]
      rw [e (k + 1), e k]
      simp [h]
theorem tagsR_stop {zs : List Int} {s : Rd} : ∀ (j k : Nat), k ≤ j → (tagsR zs k s).2.2.1 ≠ 0 → tagsR zs j s = tagsR zs k s := by
  intro j k hk h
  induction j with
  | zero =>
    obtain rfl : k = 0 := by omega
    rfl
  | succ j ih =>
    by_cases h1 : k = j + 1
    · rw [h1]
    · have e := ih (by omega)
      obtain ⟨a, b⟩ := tagsR_snoc (zs := zs) j s
      rw [e] at a b
      rw [if_neg h] at a b
      rw [List.append_nil] at a
      exact Prod.ext a b
theorem tagsR_len {zs : List Int} : ∀ (k : Nat) (s : Rd), (tagsR zs k s).1.length ≤ k
  | 0, s => Nat.le_refl _
  | k + 1, s => by
    unfold tagsR
    split
    · simp [tagsR_len k]
    · simp
theorem tagsR_words {zs : List Int} (hz : ∀ c ∈ zs, 0 ≤ c ∧ c < 256) : ∀ (k : Nat) (s : Rd), ∀ z ∈ (tagsR zs k s).1, 0 ≤ z ∧ z < 4294967296
  | 0, s, z, h => by simp [tagsR] at h
  | k + 1, s, z, h => by
    unfold tagsR at h
    split at h
    · rcases List.mem_cons.1 h with rfl | h
      · exact numR_bounds hz
      · exact tagsR_words hz k _ z h
    · simp at h
theorem labelsR_few {zs : List Int} {s : Rd} (hz : ∀ c ∈ zs, 0 ≤ c ∧ c < 256) : (labelsR zs s).1.length ≤ 16384 ∧ ∀ z ∈ (labelsR zs s).1, 0 ≤ z ∧ z < 4294967296 := by
  have hb := numR_bounds (s := s) hz
  refine ⟨?_, tagsR_words hz _ _⟩
  unfold labelsR
  split
  · have hbad : (refuseR (numR zs s).2 141 s.1).2.1 ≠ 0 := by
      unfold refuseR; split
      · simp
      · assumption
    have := tagsR_stop (zs := zs) (s := refuseR (numR zs s).2 141 s.1) (numR zs s).1.toNat 0 (Nat.zero_le _) hbad
    rw [this]
    simp [tagsR]
  · have := tagsR_len (zs := zs) (numR zs s).1.toNat (numR zs s).2
    omega

/-- A method that hands back labels of its own. -/
def DoesTags (k : Nat) (v : Value) (w : World) (zs : List Int) (s : Rd) (e : Ending) (w' : World) : Prop := ∃ r, e = .returned r ∧ OwnK 42 .u32 w.heap.size w' r zs ∧ RdIs w' k v s ∧ Save k w w'

theorem ownK_save {e : TypeId} {kd : IntKind} {base k : Nat} {w w' : World} {v : Value} {zs : List Int} (h : OwnK e kd base w v zs) (hs : Save k w w') (hk : k < base) : OwnK e kd base w' v zs := by
  refine ⟨h.1, ?_⟩
  rcases h.2 with h0 | ⟨g, cap, cur, hv, hg, hh, rest⟩
  · exact .inl h0
  · exact .inr ⟨g, cap, cur, hv, hg, (hs.block g (Array.getElem?_eq_some_iff.1 hh).1 (by omega)).trans hh, rest⟩

theorem RdIs.belowB {B : Nat} {w w' : World} {k : Nat} {v : Value} {s : Rd} (h : RdIs w k v s) (hb : Below B w w') (hk : k < B) : RdIs w' k v s :=
  ⟨(hb.cell hk).trans h.c0, (hb.cell hk).trans h.c1, (hb.cell hk).trans h.c2, (hb.cell hk).trans h.c3, (hb.frozen hk).trans h.f0, (hb.frozen hk).trans h.f1, (hb.frozen hk).trans h.f2, (hb.frozen hk).trans h.f3⟩
theorem save_under {k : Nat} {a b c : World} (h : Save k a b) (g : Below a.heap.size b c) : Save k a c :=
  ⟨g.os.trans h.os, g.tape.trans h.tape, g.output.trans h.output, Nat.le_trans h.size g.size, fun j hj hk => (g.block j hj).trans (h.block j hj hk)⟩

set_option maxRecDepth 100000 in
set_option maxHeartbeats 3200000 in
theorem labels_any (k : Nat) (av : Option Addr) (len cap : Nat) (zs : List Int) (s : Rd) (w : World) (h : RdIs w k (.slice av len cap) s) (hg : Kind.Good zs s) (hlen : zs.length = len) (hz : Bytes w av zs) (ha : ∀ b off, av = some ⟨b, off, none⟩ → zs ≠ [] → b ≠ k) :
    Calls Tryd.prog 126 #[.pointer (some ⟨k, 0, none⟩)] w (DoesTags k (.slice av len cap) w (labelsR zs s).1 (labelsR zs s).2) := by
  have hkw : k < w.heap.size := World.block_lt_of_cell? w _ h.c0
  have hN := unsigned_any k av len cap zs s w h hg hlen hz
  obtain ⟨b0, b1⟩ := numR_bounds (s := s) hz.byte
  have hfew := labelsR_few (s := s) hz.byte
  have c1 := h.c1
  have hg1 := numR_good hg
  obtain ⟨p, hp⟩ : ∃ p, s.1 = p := ⟨_, rfl⟩
  rw [hp] at c1
  unfold labelsR at hfew ⊢
  rw [hp] at hfew ⊢
  obtain ⟨n, hn⟩ : ∃ n, (numR zs s).1 = n := ⟨_, rfl⟩
  obtain ⟨s1, hs1⟩ : ∃ s1, (numR zs s).2 = s1 := ⟨_, rfl⟩
  rw [hn] at hN b0 b1 hfew ⊢
  rw [hs1] at hN hg1 hfew ⊢
  clear hn hs1 hp h hg
  have HZ := hid hz
  have HL := hid hlen
  have HA := hid ha
  have C := hid hN
  clear hz hlen ha hN
  obtain ⟨s2, hs2⟩ : ∃ s2, (if 16384 < n then refuseR s1 141 p else s1) = s2 := ⟨_, rfl⟩
  rw [hs2] at hfew ⊢
  have hg2 : Kind.Good zs s2 := by
    rw [← hs2]; split
    · exact refuseR_good (by decide) hg1
    · exact hg1
  have HG := hid hg2
  have HF := hid hfew
  clear hg1 hg2 hfew
  by_cases hgt : 16384 < n
  · rw [if_pos hgt] at hs2
    have HS2 := hid hs2
    have hbad : s2.2.1 ≠ 0 := by rw [← hs2]; exact refuse_is_bad (by decide)
    have HT : Hid (tagsR zs n.toNat s2 = ([], s2)) := by
      show _ = _
      rw [tagsR_stop (zs := zs) (s := s2) n.toNat 0 (Nat.zero_le _) hbad]; rfl
    have FB := hid (fun w' (hr : RdIs w' k (.slice av len cap) s2) => faulty_yes k _ s2 w' hr hbad)
    rw [HT.out]
    clear hs2 hbad HG HF HT
    go_enter Tryd.func126, Tryd.ntmps126
    go_wp2_with fail
    refine C.out.mono ?_
    clear C
    rintro e w1 ⟨rfl, h1, sv1⟩
    go_wp2_with fail
    refine (refuse_any k _ s1 141 p _ h1).mono ?_
    rintro e2 w2 ⟨rfl, h2, sv2⟩
    have h2' : RdIs w2 k (.slice av len cap) s2 := by rw [← HS2.out]; exact h2
    have sv3 := sv1.trans sv2
    clear h2 sv1 sv2
    go_wp2
    go_loopw [5, 18] (fun st sj wr => st = .slice none 0 0 ∧ sj = .int .u32 0 ∧ wr = w2) (fun _ _ _ => 0)
    case atStart => exact ⟨rfl, rfl, rfl⟩
    case round =>
      obtain ⟨rfl, rfl, rfl⟩ := hrel
      go_wp2_with fail
      refine (FB.out _ h2').mono ?_
      clear FB
      rintro e3 w3 ⟨rfl, rfl⟩
      go_wp2
      go_ret
      exact ⟨_, rfl, ⟨rfl, .inl ⟨rfl, rfl⟩⟩, h2', sv3⟩
  · rw [if_neg hgt] at hs2
    subst hs2
    have hm : n ≤ 16384 := by omega
    clear hgt
    go_enter Tryd.func126, Tryd.ntmps126
    go_wp2_with fail
    refine C.out.mono ?_
    clear C
    rintro e w1 ⟨rfl, h1, sv1⟩
    have hbw : w.heap.size ≤ w1.heap.size := sv1.size
    go_wp2
    go_loopw [5, 18] (fun st sj wr => ∃ j : Int, 0 ≤ j ∧ j ≤ n ∧ sj = .int .u32 j ∧ RdIs wr k (.slice av len cap) (tagsR zs j.toNat s1).2 ∧ OwnK 42 .u32 w.heap.size wr st (tagsR zs j.toNat s1).1 ∧ Save k w wr ∧ w.heap.size ≤ wr.heap.size) (fun _ sj _ => (n - intOf sj).toNat)
    case atStart => exact ⟨0, by omega, by omega, rfl, h1, ⟨rfl, .inl ⟨rfl, rfl⟩⟩, sv1, hbw⟩
    case round =>
      obtain ⟨j, hj0, hj, rfl, hr, ho, svr, hsz⟩ := hrel
      have hgj := tagsR_good (zs := zs) j.toNat HG.out
      have hsn := tagsR_snoc (zs := zs) j.toNat s1
      have hst := fun h => tagsR_stop (zs := zs) (s := s1) n.toNat j.toNat (by omega) h
      have htl := tagsR_len (zs := zs) j.toNat s1
      obtain ⟨tg, htg⟩ : ∃ tg, (tagsR zs j.toNat s1).1 = tg := ⟨_, rfl⟩
      obtain ⟨sj, hsj⟩ : ∃ sj, (tagsR zs j.toNat s1).2 = sj := ⟨_, rfl⟩
      have heq : tagsR zs j.toNat s1 = (tg, sj) := Prod.ext htg hsj
      rw [htg] at ho hsn htl
      rw [hsj] at hr hgj hsn
      rw [heq] at hst
      dsimp only at hst
      have htl' : tg.length ≤ 16384 := by omega
      have HE := hid heq
      clear htg hsj heq htl
      by_cases hlt : j < n
      · by_cases hb : sj.2.1 = 0
        · have FB := hid (faulty_no k _ sj wr hr hb)
          rw [if_pos hb, if_pos hb] at hsn
          have UN := hid (unsigned_any k av len cap zs sj wr hr hgj HL.out (HZ.out.save svr HA.out))
          obtain ⟨x, hx⟩ : ∃ x, (numR zs sj).1 = x := ⟨_, rfl⟩
          obtain ⟨s3, hs3⟩ : ∃ s3, (numR zs sj).2 = s3 := ⟨_, rfl⟩
          rw [hx, hs3] at hsn UN
          have HSN := hid hsn
          have HJ : Hid ((j + 1).toNat = j.toNat + 1) := by show _ = _; omega
          clear hsn hst hx hs3 hb HE
          go_wp2_with fail
          refine FB.out.mono ?_
          clear FB
          rintro e3 w3 ⟨rfl, rfl⟩
          go_wp2_with fail
          refine UN.out.mono ?_
          clear UN
          rintro e4 w4 ⟨rfl, h4, sv4⟩
          have ho4 := ownK_save ho sv4 hkw
          have sv5 := svr.trans sv4
          have hs5 : w.heap.size ≤ w4.heap.size := Nat.le_trans hsz sv4.size
          have hb0 : Below w.heap.size w4 w4 := Below.refl _ _
          have HO4 := hid ho4
          have T1 := hid (show (tg.length + 1) * 4 ≤ 140737488355328 by omega)
          have T2 := hid (show tg.length ≤ 140737488351232 by omega)
          clear ho4 htl' ho
          go_wp2_with (first
            | (at_builtin; refine append_num infoU32 Tryd.underlying59 rfl (.tmp 22) (.tmp 25) rfl x rfl HO4.out hb0 hs5 rfl T1.out T2.out ?_; intro v6 w6 ho6 hb6 hs6 _; refine Hid.out ?_))
          refine hid ?_
          go_wp2
          go_roundw
          case rel =>
            refine ⟨j + 1, by omega, by omega, by simp, ?_, ?_, ?_, hs6⟩
            · rw [HJ.out, HSN.out.2]; exact h4.belowB hb6 hkw
            · rw [HJ.out, HSN.out.1]; exact ho6
            · exact save_under sv5 hb6
          case measure => simp [intOf]; omega
        · have FB := hid (faulty_yes k _ sj wr hr hb)
          have HST := hid (hst hb)
          clear hst hsn hb htl'
          go_wp2_with fail
          refine FB.out.mono ?_
          clear FB
          rintro e3 w3 ⟨rfl, rfl⟩
          go_wp2
          go_ret
          rw [HST.out]
          exact ⟨_, rfl, ho, hr, svr⟩
      · obtain rfl : j = n := by omega
        go_wp2
        go_ret
        rw [HE.out]
        exact ⟨_, rfl, ho, hr, svr⟩
end Go.Proofs.YtlfflomeaplidaaDoor.Body
