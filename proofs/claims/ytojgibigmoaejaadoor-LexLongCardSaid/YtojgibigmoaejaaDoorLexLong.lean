/-
  THE STATEMENT LexLong: the walk.
-/
import Derived.Test.YtojgibigmoaejaaDoorLexLongP
import Derived.Test.YtojgibigmoaejaaDoorLexRefC
import Derived.Test.YtojgibigmoaejaaDoorStrs
namespace Go.Proofs.YtojgibigmoaejaaDoor.Lex
open Go.RowKit Go.Proofs.YtojgibigmoaejaaDoor.Utf
set_option linter.unusedSimpArgs false
set_option linter.unusedVariables false

theorem pick_any (x : Int) (w : World) : Calls Tryd.prog 9 #[.int .i64 x, .int .i64 5] w fun e w' => (∃ m : Int, e = .returned (.int .i64 m) ∧ 0 ≤ m ∧ m < 5) ∧ w' = w := by
  have hb1 : -5 < x.tmod 5 ∧ x.tmod 5 < 5 := ⟨Int.lt_tmod_of_pos x (by omega), Int.tmod_lt_of_pos x (by omega)⟩
  obtain ⟨q, hq⟩ : ∃ q, x.tmod 5 = q := ⟨_, rfl⟩
  rw [hq] at hb1
  obtain ⟨b0, b1⟩ := hb1
  by_cases hs : q < 0
  · go_enter Tryd.func9, Tryd.ntmps9
    go_wp2
    go_ret
    exact ⟨⟨q + 5, rfl, by omega, by omega⟩, rfl⟩
  · have hs' : 0 ≤ q := by omega
    go_enter Tryd.func9, Tryd.ntmps9
    go_wp2
    go_ret
    exact ⟨⟨q, rfl, by omega, by omega⟩, rfl⟩
/-- A text, so often. -/
def rep (n : Nat) (zs : List Int) : List Int := (List.replicate n zs).flatten
theorem rep_succ (n : Nat) (zs : List Int) : rep (n + 1) zs = rep n zs ++ zs := by
  unfold rep; rw [List.replicate_succ', List.flatten_append]; simp
theorem rep_len (n : Nat) (zs : List Int) : (rep n zs).length = n * zs.length := by
  induction n with
  | zero => simp [rep]
  | succ n ih => rw [rep_succ, List.length_append, ih, Nat.succ_mul]
theorem rep_one (n : Nat) (x : Int) : rep n [x] = List.replicate n x := by
  induction n with
  | zero => rfl
  | succ n ih => rw [rep_succ, ih, List.replicate_succ']
theorem rep_bytes {zs : List Int} (h : ∀ z ∈ zs, 0 ≤ z ∧ z < 256) (n : Nat) : ∀ z ∈ rep n zs, 0 ≤ z ∧ z < 256 := fun z hz => by
  unfold rep at hz
  obtain ⟨l, hl, hz⟩ := List.mem_flatten.1 hz
  rw [(List.mem_replicate.1 hl).2] at hz
  exact h z hz
set_option maxHeartbeats 1000000 in
theorem repeat_any (zs : List Int) (hb : ∀ z ∈ zs, 0 ≤ z ∧ z < 256) (h4 : zs.length ≤ 4) (k : Int) (n : Nat) (hk : k = n) (hn : n ≤ 100000) (w : World) :
    Calls Tryd.prog 10 #[.string (strOfNums zs), .int .i64 k] w fun e w' => e = .returned (.string (strOfNums (rep n zs))) ∧ Below w.heap.size w w' := by
  subst hk
  have HS := hid (fun i => rep_succ i zs)
  have HL := hid (fun i => rep_len i zs)
  have HBY := hid (fun i => rep_bytes hb i)
  have HB := hid hb
  have H0 : Hid (rep 0 zs = []) := hid rfl
  have H4 := hid h4
  obtain ⟨r, hr⟩ : ∃ r, r = strOfNums (rep n zs) := ⟨_, rfl⟩
  rw [← hr]
  have HR := hid hr
  clear hb h4 hr
  go_enter Tryd.func10, Tryd.ntmps10
  go_wp2
  go_loopw [5, 6] (fun bv iv wr => ∃ i : Nat, iv = .int .i64 i ∧ i ≤ n ∧ Hid (Own w.heap.size wr bv (rep i zs)) ∧ Hid (Below w.heap.size w wr) ∧ w.heap.size ≤ wr.heap.size) (fun _ iv _ => n - (intOf iv).toNat)
  case atStart => exact ⟨0, rfl, Nat.zero_le _, hid (by rw [H0.out]; exact ⟨rfl, .inl ⟨rfl, rfl⟩⟩), hid (Below.refl _ _), Nat.le_refl _⟩
  case round =>
    obtain ⟨i, rfl, hi, HO, HBw, hsz⟩ := hrel
    obtain ⟨ba, bc, hov⟩ := HO.out.slice
    by_cases hlt : i < n
    · have hii : (i : Int) < (n : Int) := by omega
      have hlen : (rep i zs).length + zs.length ≤ 140737488355328 := by
        rw [HL.out]
        have h1 : i * zs.length ≤ i * 4 := Nat.mul_le_mul_left i H4.out
        have := H4.out
        omega
      subst hov
      have HLN := hid hlen
      clear hlen
      generalize hrl : (rep i zs).length = rl at *
      go_wp2_with (at_builtin; refine append_str rfl (.tmp 12) (.tmp 13) rfl rfl HO.out HBw.out hsz rfl HB.out (by rw [hrl]; exact HLN.out) ?_; intro v' w6 hown6 hb6 hs6)
      rw [← HS.out] at hown6
      have O6 := hid hown6
      have B6 := hid hb6
      clear hown6 hb6 HO HBw HLN
      go_wp2
      go_roundw
      case rel => exact ⟨i + 1, by go_num, by omega, O6, B6, hs6⟩
      case measure => simp [intOf]; omega
    · obtain rfl : i = n := by omega
      subst hov
      have hcv := str_of (HO.out.bytes (HBY.out i) (by
        rw [HL.out]
        have h1 : i * zs.length ≤ i * 4 := Nat.mul_le_mul_left i H4.out
        omega)) (rep i zs).length bc rfl
      rw [← HR.out] at hcv
      generalize (rep i zs).length = rl at *
      go_wp2
      go_ret
      exact ⟨rfl, HBw.out⟩
set_option maxHeartbeats 8000000 in
set_option maxRecDepth 10000 in
theorem long_walk (w : World) (m0 k0 : Int) (h8 : Tabs8 w) (hT : Words w) :
    Calls Tryd.prog 4 #[.int .i64 m0, .int .i64 k0] w fun e w' => e = .returned (.bool true) ∧ Below w.heap.size w w' := by
  have A := hid (fun W h1 h2 => awake_any W h1 h2)
  have H8 := hid h8
  have HT := hid hT
  have LX := hid (fun zs hb W h1 h2 => Lex_any zs hb W h1 h2)
  have RX := hid (fun zs hb W => LexR_any zs hb W)
  have RP := hid (fun zs hb h4 k n hk hn W => repeat_any zs hb h4 k n hk hn W)
  have P1 := hid (fun x W => pick_any x W)
  have HFW := hid (fun zs => told_few zs)
  have q1 := eqFault
  have q2 := guardFault
  have z1 : strOfNums [32] = ⟨#[32]⟩ := rfl
  have z2 : strOfNums [97] = ⟨#[97]⟩ := rfl
  have z3 : strOfNums [65] = ⟨#[65]⟩ := rfl
  have z4 : strOfNums [39] = ⟨#[39]⟩ := rfl
  have z5 : strOfNums [34] = ⟨#[34]⟩ := rfl
  have z6 : strOfNums [92, 48, 48, 49] = ⟨#[92, 48, 48, 49]⟩ := rfl
  have Z2 := hid z2
  have Z4 := hid z4
  have Z5 := hid z5
  have R0 := hid (RP.out [32] (by decide) (by decide))
  have R1 := hid (RP.out [97] (by decide) (by decide))
  have R2 := hid (RP.out [65] (by decide) (by decide))
  have R4 := hid (RP.out [92, 48, 48, 49] (by decide) (by decide))
  rw [z1] at R0
  rw [z2] at R1
  rw [z3] at R2
  rw [z6] at R4
  clear z1 z2 z3 z4 z5 z6 h8 hT RP
  go_enter Tryd.func4, Tryd.ntmps4
  go_wp2_with fail
  refine (P1.out _ _).mono ?_
  rintro o w' ⟨⟨m, rfl, hm0, hm1⟩, rfl⟩
  go_wp2_with fail
  refine (P1.out _ _).mono ?_
  rintro o w' ⟨⟨k, rfl, hk0, hk1⟩, rfl⟩
  clear P1
  have hkk : k = 0 ∨ k = 1 ∨ k = 2 ∨ k = 3 ∨ k = 4 := by omega
  rcases hkk with rfl | rfl | rfl | rfl | rfl
  · obtain ⟨n, hn⟩ : ∃ n : Nat, 65536 + (m - 2) - 1 = n := ⟨(65536 + (m - 2) - 1).toNat, by omega⟩
    have e1 : IntKind.i64.wrap (m - 2) = m - 2 := by rw [IntKind.wrap_i64]; omega
    have RR := hid (fun W => R0.out (n : Int) n rfl (by omega) W)
    obtain ⟨zs, hzs⟩ : ∃ zs : List Int, zs = List.replicate n 32 ++ [97] := ⟨_, rfl⟩
    have hb : ∀ z ∈ zs, 0 ≤ z ∧ z < 256 := fun z hz => by
      rw [hzs] at hz
      rcases List.mem_append.1 hz with hz | hz
      · rw [(List.mem_replicate.1 hz).2]; omega
      · rw [List.mem_singleton.1 hz]; omega
    have hE : (m - 2 > 0 → (lexP zs).e ≠ 0) ∧ (¬ m - 2 > 0 → (lexP zs).e = 0) := by
      rw [hzs]
      have := tlong_0 n
      constructor
      · intro h; rw [this.1 (by omega)]; decide
      · intro h; exact this.2 (by omega)
    have hse : strOfNums (rep n [32]) ++ (⟨#[97]⟩ : ByteArray) = strOfNums zs := by rw [← Z2.out, str_append, hzs, rep_one]
    have LX1 := hid (fun W h1 h2 => LX.out zs hb W h1 h2)
    have RX1 := hid (fun W => RX.out zs hb W)
    have HF1 := hid (HFW.out zs)
    have HE := hid hE
    have HSE := hid hse
    generalize lexP zs = g at *
    clear hzs hb hE hse LX RX HFW R0 R1 R2 R4
    go_wp2_with fail
    refine (RR.out _).mono ?_
    rintro o w1 ⟨rfl, hb1⟩
    have B1 := hid hb1
    clear hb1 RR
    have hse := HSE.out
    obtain ⟨zl, hzl, hzb⟩ : ∃ zl, (strOfNums (rep n [32])).size = zl ∧ zl ≤ 100000 := ⟨_, rfl, by rw [strOfNums_size, rep_len]; simp; omega⟩
    go_upto_region 14 with fail
    try rw [hse]
    clear hse
    generalize strOfNums zs = s at *
    obtain ⟨l, hl⟩ : ∃ l, g.ws.length = l := ⟨_, rfl⟩
    obtain ⟨x, hx⟩ : ∃ x, g.e = x := ⟨_, rfl⟩
    obtain ⟨y, hy⟩ : ∃ y, g.p = y := ⟨_, rfl⟩
    have HN := hid hl
    have HX := hid hx
    have HY := hid hy
    have hnb : l ≤ 65536 := hl ▸ HF1.out
    have HE1 := HE.out
    rw [hx] at HE1
    clear hl hx hy HF1 HE hn e1
    go_wp2_with fail
    refine (LX1.out _ (H8.out.below B1.out) (HT.out.below B1.out)).mono ?_
    rintro o w2 ⟨v2, rfl, hv2, hb2⟩
    obtain ⟨a2, c2, rfl, ho2⟩ := told_form hv2
    rw [HN.out] at ho2 ⊢
    rw [HX.out, HY.out]
    have O2 := hid ho2
    have B2 := hid (B1.out.trans (hb2.mono B1.out.size))
    clear hv2 ho2 hb2 B1 LX1
    obtain ⟨j1, hj1⟩ : ∃ j1, j1 = w2.heap.size := ⟨_, rfl⟩
    obtain ⟨W2, hW2⟩ : ∃ W2, W2 = w2.alloc (.cells #[.int .i64 x, .int .i64 y] 26) := ⟨_, rfl⟩
    have P2 : Hid (W2.heap[j1]? = some (.cells #[.int .i64 x, .int .i64 y] 26 (0, 0))) := by rw [hW2, hj1]; exact hid (heap_alloc_new w2 _)
    have BW2 : Hid (Below w2.heap.size w2 W2) := by rw [hW2]; exact hid (thenA (Below.refl _ _) _)
    have B3 := hid (B2.out.trans (BW2.out.mono B2.out.size))
    have O3 := hid (Stk.OwnR.below O2.out BW2.out)
    have hj1W : j1 < W2.heap.size := (Array.getElem?_eq_some_iff.1 P2.out).1
    clear O2 B2 BW2
    go_upto_region 15 with fail
    rw [← hj1, ← hW2]
    clear hj1 hW2
    go_wp2_with fail
    refine (RX1.out _).mono ?_
    rintro o w3 ⟨v3, rfl, hv3, hb3⟩
    obtain ⟨a3, c3, rfl, ho3⟩ := told_form hv3
    rw [HN.out] at ho3 ⊢
    rw [HX.out, HY.out]
    have O4 := hid (Stk.OwnR.below O3.out hb3)
    have Q4 := hid ho3
    have P4 := hid ((hb3.block _ hj1W).trans P2.out)
    have B4 := hid (B3.out.trans (hb3.mono B3.out.size))
    have hszW := hb3.size
    clear hv3 ho3 hb3 O3 P2 B3 RX1
    obtain ⟨j2, hj2⟩ : ∃ j2, j2 = w3.heap.size := ⟨_, rfl⟩
    obtain ⟨W3, hW3⟩ : ∃ W3, W3 = w3.alloc (.cells #[.int .i64 x, .int .i64 y] 26) := ⟨_, rfl⟩
    have P5 : Hid (W3.heap[j2]? = some (.cells #[.int .i64 x, .int .i64 y] 26 (0, 0))) := by rw [hW3, hj2]; exact hid (heap_alloc_new w3 _)
    have BW3 : Hid (Below w3.heap.size w3 W3) := by rw [hW3]; exact hid (thenA (Below.refl _ _) _)
    have hj1w3 : j1 < w3.heap.size := by omega
    have P4' := hid ((BW3.out.block _ hj1w3).trans P4.out)
    obtain ⟨A5, -⟩ := OwnW.at (Stk.OwnR.below O4.out BW3.out)
    obtain ⟨C5, -⟩ := OwnW.at (Stk.OwnR.below Q4.out BW3.out)
    have B5 := hid (B4.out.trans (BW3.out.mono B4.out.size))
    have S1 := hid (sameTok_yes a2 a3 l c2 c3 g.ws W3 HN.out (by omega) A5 C5)
    have hsz3 := BW3.out.size
    clear O4 Q4 P4 B4 BW3 A5 C5
    go_upto_region 16 with fail
    rw [← hj2, ← hW3]
    clear hj2 hW3
    go_wp2_with fail
    refine S1.out.mono ?_
    rintro o w4 ⟨rfl, hb4⟩
    have P6 := hid ((hb4.block _ (Nat.lt_of_lt_of_le hj1w3 hsz3)).trans P4'.out)
    have P7 := hid ((hb4.block _ (Array.getElem?_eq_some_iff.1 P5.out).1).trans P5.out)
    have B6 := hid (B5.out.trans (hb4.mono B5.out.size))
    obtain ⟨⟨f0, f1⟩, ⟨g0, g1⟩, _⟩ := row2 P6.out
    obtain ⟨⟨d0, d1⟩, ⟨e0, e1⟩, _⟩ := row2 P7.out
    have A1 := hid (A.out _ (H8.out.below B6.out) (HT.out.below B6.out))
    clear hb4 P4' P5 P6 P7 B5 S1 hsz3 hj1w3 hszW hj1W
    by_cases hm : m - 2 > 0
    · have hx0 : (x == 0) = false := by simpa using HE1.1 hm
      have hx1 : (x != 0) = true := by simpa using HE1.1 hm
      clear HE1
      go_wp2_with fail
      refine A1.out.mono ?_
      rintro o w8 ⟨rfl, hb8⟩
      have B8 := hid (B6.out.trans (hb8.mono B6.out.size))
      clear hb8 A1
      go_wp2
      go_ret
      exact ⟨rfl, B8.out⟩
    · have hx0 : x = 0 := HE1.2 (by omega)
      have hm2 : (m - 2 > 0) = False := by simp; omega
      have hm3 : (0 < m - 2) = False := by simp; omega
      clear HE1
      subst hx0
      go_wp2_with fail
      refine A1.out.mono ?_
      rintro o w8 ⟨rfl, hb8⟩
      have B8 := hid (B6.out.trans (hb8.mono B6.out.size))
      clear hb8 A1
      go_wp2
      go_ret
      exact ⟨ret_bool (by simp; omega), B8.out⟩
  · obtain ⟨n, hn⟩ : ∃ n : Nat, 64 + (m - 2) = n := ⟨(64 + (m - 2)).toNat, by omega⟩
    have e1 : IntKind.i64.wrap (m - 2) = m - 2 := by rw [IntKind.wrap_i64]; omega
    have RR := hid (fun W => R1.out (n : Int) n rfl (by omega) W)
    obtain ⟨zs, hzs⟩ : ∃ zs : List Int, zs = List.replicate n 97 := ⟨_, rfl⟩
    have hb : ∀ z ∈ zs, 0 ≤ z ∧ z < 256 := fun z hz => by
      rw [hzs] at hz
      rw [(List.mem_replicate.1 hz).2]; omega
    have hE : (m - 2 > 0 → (lexP zs).e ≠ 0) ∧ (¬ m - 2 > 0 → (lexP zs).e = 0) := by
      rw [hzs]
      obtain ⟨j, rfl⟩ : ∃ j : Fin 5, n = 62 + j.val := ⟨⟨n - 62, by omega⟩, by simp; omega⟩
      have := tlong_1 j
      rw [this]
      constructor
      · intro h; rw [if_pos (by omega)]; decide
      · intro h; rw [if_neg (by omega)]
    have hse : strOfNums (rep n [97]) = strOfNums zs := by rw [hzs, rep_one]
    have LX1 := hid (fun W h1 h2 => LX.out zs hb W h1 h2)
    have RX1 := hid (fun W => RX.out zs hb W)
    have HF1 := hid (HFW.out zs)
    have HE := hid hE
    have HSE := hid hse
    generalize lexP zs = g at *
    clear hzs hb hE hse LX RX HFW R0 R1 R2 R4
    go_wp2_with fail
    refine (RR.out _).mono ?_
    rintro o w1 ⟨rfl, hb1⟩
    have B1 := hid hb1
    clear hb1 RR
    have hse := HSE.out
    obtain ⟨zl, hzl, hzb⟩ : ∃ zl, (strOfNums (rep n [97])).size = zl ∧ zl ≤ 100000 := ⟨_, rfl, by rw [strOfNums_size, rep_len]; simp; omega⟩
    go_upto_region 14 with fail
    try rw [hse]
    clear hse
    generalize strOfNums zs = s at *
    obtain ⟨l, hl⟩ : ∃ l, g.ws.length = l := ⟨_, rfl⟩
    obtain ⟨x, hx⟩ : ∃ x, g.e = x := ⟨_, rfl⟩
    obtain ⟨y, hy⟩ : ∃ y, g.p = y := ⟨_, rfl⟩
    have HN := hid hl
    have HX := hid hx
    have HY := hid hy
    have hnb : l ≤ 65536 := hl ▸ HF1.out
    have HE1 := HE.out
    rw [hx] at HE1
    clear hl hx hy HF1 HE hn e1
    go_wp2_with fail
    refine (LX1.out _ (H8.out.below B1.out) (HT.out.below B1.out)).mono ?_
    rintro o w2 ⟨v2, rfl, hv2, hb2⟩
    obtain ⟨a2, c2, rfl, ho2⟩ := told_form hv2
    rw [HN.out] at ho2 ⊢
    rw [HX.out, HY.out]
    have O2 := hid ho2
    have B2 := hid (B1.out.trans (hb2.mono B1.out.size))
    clear hv2 ho2 hb2 B1 LX1
    obtain ⟨j1, hj1⟩ : ∃ j1, j1 = w2.heap.size := ⟨_, rfl⟩
    obtain ⟨W2, hW2⟩ : ∃ W2, W2 = w2.alloc (.cells #[.int .i64 x, .int .i64 y] 26) := ⟨_, rfl⟩
    have P2 : Hid (W2.heap[j1]? = some (.cells #[.int .i64 x, .int .i64 y] 26 (0, 0))) := by rw [hW2, hj1]; exact hid (heap_alloc_new w2 _)
    have BW2 : Hid (Below w2.heap.size w2 W2) := by rw [hW2]; exact hid (thenA (Below.refl _ _) _)
    have B3 := hid (B2.out.trans (BW2.out.mono B2.out.size))
    have O3 := hid (Stk.OwnR.below O2.out BW2.out)
    have hj1W : j1 < W2.heap.size := (Array.getElem?_eq_some_iff.1 P2.out).1
    clear O2 B2 BW2
    go_upto_region 15 with fail
    rw [← hj1, ← hW2]
    clear hj1 hW2
    go_wp2_with fail
    refine (RX1.out _).mono ?_
    rintro o w3 ⟨v3, rfl, hv3, hb3⟩
    obtain ⟨a3, c3, rfl, ho3⟩ := told_form hv3
    rw [HN.out] at ho3 ⊢
    rw [HX.out, HY.out]
    have O4 := hid (Stk.OwnR.below O3.out hb3)
    have Q4 := hid ho3
    have P4 := hid ((hb3.block _ hj1W).trans P2.out)
    have B4 := hid (B3.out.trans (hb3.mono B3.out.size))
    have hszW := hb3.size
    clear hv3 ho3 hb3 O3 P2 B3 RX1
    obtain ⟨j2, hj2⟩ : ∃ j2, j2 = w3.heap.size := ⟨_, rfl⟩
    obtain ⟨W3, hW3⟩ : ∃ W3, W3 = w3.alloc (.cells #[.int .i64 x, .int .i64 y] 26) := ⟨_, rfl⟩
    have P5 : Hid (W3.heap[j2]? = some (.cells #[.int .i64 x, .int .i64 y] 26 (0, 0))) := by rw [hW3, hj2]; exact hid (heap_alloc_new w3 _)
    have BW3 : Hid (Below w3.heap.size w3 W3) := by rw [hW3]; exact hid (thenA (Below.refl _ _) _)
    have hj1w3 : j1 < w3.heap.size := by omega
    have P4' := hid ((BW3.out.block _ hj1w3).trans P4.out)
    obtain ⟨A5, -⟩ := OwnW.at (Stk.OwnR.below O4.out BW3.out)
    obtain ⟨C5, -⟩ := OwnW.at (Stk.OwnR.below Q4.out BW3.out)
    have B5 := hid (B4.out.trans (BW3.out.mono B4.out.size))
    have S1 := hid (sameTok_yes a2 a3 l c2 c3 g.ws W3 HN.out (by omega) A5 C5)
    have hsz3 := BW3.out.size
    clear O4 Q4 P4 B4 BW3 A5 C5
    go_upto_region 16 with fail
    rw [← hj2, ← hW3]
    clear hj2 hW3
    go_wp2_with fail
    refine S1.out.mono ?_
    rintro o w4 ⟨rfl, hb4⟩
    have P6 := hid ((hb4.block _ (Nat.lt_of_lt_of_le hj1w3 hsz3)).trans P4'.out)
    have P7 := hid ((hb4.block _ (Array.getElem?_eq_some_iff.1 P5.out).1).trans P5.out)
    have B6 := hid (B5.out.trans (hb4.mono B5.out.size))
    obtain ⟨⟨f0, f1⟩, ⟨g0, g1⟩, _⟩ := row2 P6.out
    obtain ⟨⟨d0, d1⟩, ⟨e0, e1⟩, _⟩ := row2 P7.out
    have A1 := hid (A.out _ (H8.out.below B6.out) (HT.out.below B6.out))
    clear hb4 P4' P5 P6 P7 B5 S1 hsz3 hj1w3 hszW hj1W
    by_cases hm : m - 2 > 0
    · have hx0 : (x == 0) = false := by simpa using HE1.1 hm
      have hx1 : (x != 0) = true := by simpa using HE1.1 hm
      clear HE1
      go_wp2_with fail
      refine A1.out.mono ?_
      rintro o w8 ⟨rfl, hb8⟩
      have B8 := hid (B6.out.trans (hb8.mono B6.out.size))
      clear hb8 A1
      go_wp2
      go_ret
      exact ⟨rfl, B8.out⟩
    · have hx0 : x = 0 := HE1.2 (by omega)
      have hm2 : (m - 2 > 0) = False := by simp; omega
      have hm3 : (0 < m - 2) = False := by simp; omega
      clear HE1
      subst hx0
      go_wp2_with fail
      refine A1.out.mono ?_
      rintro o w8 ⟨rfl, hb8⟩
      have B8 := hid (B6.out.trans (hb8.mono B6.out.size))
      clear hb8 A1
      go_wp2
      go_ret
      exact ⟨ret_bool (by simp; omega), B8.out⟩
  · obtain ⟨n, hn⟩ : ∃ n : Nat, 64 + (m - 2) = n := ⟨(64 + (m - 2)).toNat, by omega⟩
    have e1 : IntKind.i64.wrap (m - 2) = m - 2 := by rw [IntKind.wrap_i64]; omega
    have RR := hid (fun W => R2.out (n : Int) n rfl (by omega) W)
    obtain ⟨zs, hzs⟩ : ∃ zs : List Int, zs = List.replicate n 65 := ⟨_, rfl⟩
    have hb : ∀ z ∈ zs, 0 ≤ z ∧ z < 256 := fun z hz => by
      rw [hzs] at hz
      rw [(List.mem_replicate.1 hz).2]; omega
    have hE : (m - 2 > 0 → (lexP zs).e ≠ 0) ∧ (¬ m - 2 > 0 → (lexP zs).e = 0) := by
      rw [hzs]
      obtain ⟨j, rfl⟩ : ∃ j : Fin 5, n = 62 + j.val := ⟨⟨n - 62, by omega⟩, by simp; omega⟩
      have := tlong_2 j
      rw [this]
      constructor
      · intro h; rw [if_pos (by omega)]; decide
      · intro h; rw [if_neg (by omega)]
    have hse : strOfNums (rep n [65]) = strOfNums zs := by rw [hzs, rep_one]
    have LX1 := hid (fun W h1 h2 => LX.out zs hb W h1 h2)
    have RX1 := hid (fun W => RX.out zs hb W)
    have HF1 := hid (HFW.out zs)
    have HE := hid hE
    have HSE := hid hse
    generalize lexP zs = g at *
    clear hzs hb hE hse LX RX HFW R0 R1 R2 R4
    go_wp2_with fail
    refine (RR.out _).mono ?_
    rintro o w1 ⟨rfl, hb1⟩
    have B1 := hid hb1
    clear hb1 RR
    have hse := HSE.out
    obtain ⟨zl, hzl, hzb⟩ : ∃ zl, (strOfNums (rep n [65])).size = zl ∧ zl ≤ 100000 := ⟨_, rfl, by rw [strOfNums_size, rep_len]; simp; omega⟩
    go_upto_region 14 with fail
    try rw [hse]
    clear hse
    generalize strOfNums zs = s at *
    obtain ⟨l, hl⟩ : ∃ l, g.ws.length = l := ⟨_, rfl⟩
    obtain ⟨x, hx⟩ : ∃ x, g.e = x := ⟨_, rfl⟩
    obtain ⟨y, hy⟩ : ∃ y, g.p = y := ⟨_, rfl⟩
    have HN := hid hl
    have HX := hid hx
    have HY := hid hy
    have hnb : l ≤ 65536 := hl ▸ HF1.out
    have HE1 := HE.out
    rw [hx] at HE1
    clear hl hx hy HF1 HE hn e1
    go_wp2_with fail
    refine (LX1.out _ (H8.out.below B1.out) (HT.out.below B1.out)).mono ?_
    rintro o w2 ⟨v2, rfl, hv2, hb2⟩
    obtain ⟨a2, c2, rfl, ho2⟩ := told_form hv2
    rw [HN.out] at ho2 ⊢
    rw [HX.out, HY.out]
    have O2 := hid ho2
    have B2 := hid (B1.out.trans (hb2.mono B1.out.size))
    clear hv2 ho2 hb2 B1 LX1
    obtain ⟨j1, hj1⟩ : ∃ j1, j1 = w2.heap.size := ⟨_, rfl⟩
    obtain ⟨W2, hW2⟩ : ∃ W2, W2 = w2.alloc (.cells #[.int .i64 x, .int .i64 y] 26) := ⟨_, rfl⟩
    have P2 : Hid (W2.heap[j1]? = some (.cells #[.int .i64 x, .int .i64 y] 26 (0, 0))) := by rw [hW2, hj1]; exact hid (heap_alloc_new w2 _)
    have BW2 : Hid (Below w2.heap.size w2 W2) := by rw [hW2]; exact hid (thenA (Below.refl _ _) _)
    have B3 := hid (B2.out.trans (BW2.out.mono B2.out.size))
    have O3 := hid (Stk.OwnR.below O2.out BW2.out)
    have hj1W : j1 < W2.heap.size := (Array.getElem?_eq_some_iff.1 P2.out).1
    clear O2 B2 BW2
    go_upto_region 15 with fail
    rw [← hj1, ← hW2]
    clear hj1 hW2
    go_wp2_with fail
    refine (RX1.out _).mono ?_
    rintro o w3 ⟨v3, rfl, hv3, hb3⟩
    obtain ⟨a3, c3, rfl, ho3⟩ := told_form hv3
    rw [HN.out] at ho3 ⊢
    rw [HX.out, HY.out]
    have O4 := hid (Stk.OwnR.below O3.out hb3)
    have Q4 := hid ho3
    have P4 := hid ((hb3.block _ hj1W).trans P2.out)
    have B4 := hid (B3.out.trans (hb3.mono B3.out.size))
    have hszW := hb3.size
    clear hv3 ho3 hb3 O3 P2 B3 RX1
    obtain ⟨j2, hj2⟩ : ∃ j2, j2 = w3.heap.size := ⟨_, rfl⟩
    obtain ⟨W3, hW3⟩ : ∃ W3, W3 = w3.alloc (.cells #[.int .i64 x, .int .i64 y] 26) := ⟨_, rfl⟩
    have P5 : Hid (W3.heap[j2]? = some (.cells #[.int .i64 x, .int .i64 y] 26 (0, 0))) := by rw [hW3, hj2]; exact hid (heap_alloc_new w3 _)
    have BW3 : Hid (Below w3.heap.size w3 W3) := by rw [hW3]; exact hid (thenA (Below.refl _ _) _)
    have hj1w3 : j1 < w3.heap.size := by omega
    have P4' := hid ((BW3.out.block _ hj1w3).trans P4.out)
    obtain ⟨A5, -⟩ := OwnW.at (Stk.OwnR.below O4.out BW3.out)
    obtain ⟨C5, -⟩ := OwnW.at (Stk.OwnR.below Q4.out BW3.out)
    have B5 := hid (B4.out.trans (BW3.out.mono B4.out.size))
    have S1 := hid (sameTok_yes a2 a3 l c2 c3 g.ws W3 HN.out (by omega) A5 C5)
    have hsz3 := BW3.out.size
    clear O4 Q4 P4 B4 BW3 A5 C5
    go_upto_region 16 with fail
    rw [← hj2, ← hW3]
    clear hj2 hW3
    go_wp2_with fail
    refine S1.out.mono ?_
    rintro o w4 ⟨rfl, hb4⟩
    have P6 := hid ((hb4.block _ (Nat.lt_of_lt_of_le hj1w3 hsz3)).trans P4'.out)
    have P7 := hid ((hb4.block _ (Array.getElem?_eq_some_iff.1 P5.out).1).trans P5.out)
    have B6 := hid (B5.out.trans (hb4.mono B5.out.size))
    obtain ⟨⟨f0, f1⟩, ⟨g0, g1⟩, _⟩ := row2 P6.out
    obtain ⟨⟨d0, d1⟩, ⟨e0, e1⟩, _⟩ := row2 P7.out
    have A1 := hid (A.out _ (H8.out.below B6.out) (HT.out.below B6.out))
    clear hb4 P4' P5 P6 P7 B5 S1 hsz3 hj1w3 hszW hj1W
    by_cases hm : m - 2 > 0
    · have hx0 : (x == 0) = false := by simpa using HE1.1 hm
      have hx1 : (x != 0) = true := by simpa using HE1.1 hm
      clear HE1
      go_wp2_with fail
      refine A1.out.mono ?_
      rintro o w8 ⟨rfl, hb8⟩
      have B8 := hid (B6.out.trans (hb8.mono B6.out.size))
      clear hb8 A1
      go_wp2
      go_ret
      exact ⟨rfl, B8.out⟩
    · have hx0 : x = 0 := HE1.2 (by omega)
      have hm2 : (m - 2 > 0) = False := by simp; omega
      have hm3 : (0 < m - 2) = False := by simp; omega
      clear HE1
      subst hx0
      go_wp2_with fail
      refine A1.out.mono ?_
      rintro o w8 ⟨rfl, hb8⟩
      have B8 := hid (B6.out.trans (hb8.mono B6.out.size))
      clear hb8 A1
      go_wp2
      go_ret
      exact ⟨ret_bool (by simp; omega), B8.out⟩
  · obtain ⟨n, hn⟩ : ∃ n : Nat, 64 + (m - 2) = n := ⟨(64 + (m - 2)).toNat, by omega⟩
    have e1 : IntKind.i64.wrap (m - 2) = m - 2 := by rw [IntKind.wrap_i64]; omega
    have RR := hid (fun W => R1.out (n : Int) n rfl (by omega) W)
    obtain ⟨zs, hzs⟩ : ∃ zs : List Int, zs = 39 :: List.replicate n 97 := ⟨_, rfl⟩
    have hb : ∀ z ∈ zs, 0 ≤ z ∧ z < 256 := fun z hz => by
      rw [hzs] at hz
      rcases List.mem_cons.1 hz with rfl | hz
      · omega
      · rw [(List.mem_replicate.1 hz).2]; omega
    have hE : (m - 2 > 0 → (lexP zs).e ≠ 0) ∧ (¬ m - 2 > 0 → (lexP zs).e = 0) := by
      rw [hzs]
      obtain ⟨j, rfl⟩ : ∃ j : Fin 5, n = 62 + j.val := ⟨⟨n - 62, by omega⟩, by simp; omega⟩
      have := tlong_3 j
      rw [this]
      constructor
      · intro h; rw [if_pos (by omega)]; decide
      · intro h; rw [if_neg (by omega)]
    have hse : (⟨#[39]⟩ : ByteArray) ++ strOfNums (rep n [97]) = strOfNums zs := by rw [← Z4.out, str_append, hzs, rep_one]; rfl
    have LX1 := hid (fun W h1 h2 => LX.out zs hb W h1 h2)
    have RX1 := hid (fun W => RX.out zs hb W)
    have HF1 := hid (HFW.out zs)
    have HE := hid hE
    have HSE := hid hse
    generalize lexP zs = g at *
    clear hzs hb hE hse LX RX HFW R0 R1 R2 R4
    go_wp2_with fail
    refine (RR.out _).mono ?_
    rintro o w1 ⟨rfl, hb1⟩
    have B1 := hid hb1
    clear hb1 RR
    have hse := HSE.out
    obtain ⟨zl, hzl, hzb⟩ : ∃ zl, (strOfNums (rep n [97])).size = zl ∧ zl ≤ 100000 := ⟨_, rfl, by rw [strOfNums_size, rep_len]; simp; omega⟩
    go_upto_region 14 with fail
    try rw [hse]
    clear hse
    generalize strOfNums zs = s at *
    obtain ⟨l, hl⟩ : ∃ l, g.ws.length = l := ⟨_, rfl⟩
    obtain ⟨x, hx⟩ : ∃ x, g.e = x := ⟨_, rfl⟩
    obtain ⟨y, hy⟩ : ∃ y, g.p = y := ⟨_, rfl⟩
    have HN := hid hl
    have HX := hid hx
    have HY := hid hy
    have hnb : l ≤ 65536 := hl ▸ HF1.out
    have HE1 := HE.out
    rw [hx] at HE1
    clear hl hx hy HF1 HE hn e1
    go_wp2_with fail
    refine (LX1.out _ (H8.out.below B1.out) (HT.out.below B1.out)).mono ?_
    rintro o w2 ⟨v2, rfl, hv2, hb2⟩
    obtain ⟨a2, c2, rfl, ho2⟩ := told_form hv2
    rw [HN.out] at ho2 ⊢
    rw [HX.out, HY.out]
    have O2 := hid ho2
    have B2 := hid (B1.out.trans (hb2.mono B1.out.size))
    clear hv2 ho2 hb2 B1 LX1
    obtain ⟨j1, hj1⟩ : ∃ j1, j1 = w2.heap.size := ⟨_, rfl⟩
    obtain ⟨W2, hW2⟩ : ∃ W2, W2 = w2.alloc (.cells #[.int .i64 x, .int .i64 y] 26) := ⟨_, rfl⟩
    have P2 : Hid (W2.heap[j1]? = some (.cells #[.int .i64 x, .int .i64 y] 26 (0, 0))) := by rw [hW2, hj1]; exact hid (heap_alloc_new w2 _)
    have BW2 : Hid (Below w2.heap.size w2 W2) := by rw [hW2]; exact hid (thenA (Below.refl _ _) _)
    have B3 := hid (B2.out.trans (BW2.out.mono B2.out.size))
    have O3 := hid (Stk.OwnR.below O2.out BW2.out)
    have hj1W : j1 < W2.heap.size := (Array.getElem?_eq_some_iff.1 P2.out).1
    clear O2 B2 BW2
    go_upto_region 15 with fail
    rw [← hj1, ← hW2]
    clear hj1 hW2
    go_wp2_with fail
    refine (RX1.out _).mono ?_
    rintro o w3 ⟨v3, rfl, hv3, hb3⟩
    obtain ⟨a3, c3, rfl, ho3⟩ := told_form hv3
    rw [HN.out] at ho3 ⊢
    rw [HX.out, HY.out]
    have O4 := hid (Stk.OwnR.below O3.out hb3)
    have Q4 := hid ho3
    have P4 := hid ((hb3.block _ hj1W).trans P2.out)
    have B4 := hid (B3.out.trans (hb3.mono B3.out.size))
    have hszW := hb3.size
    clear hv3 ho3 hb3 O3 P2 B3 RX1
    obtain ⟨j2, hj2⟩ : ∃ j2, j2 = w3.heap.size := ⟨_, rfl⟩
    obtain ⟨W3, hW3⟩ : ∃ W3, W3 = w3.alloc (.cells #[.int .i64 x, .int .i64 y] 26) := ⟨_, rfl⟩
    have P5 : Hid (W3.heap[j2]? = some (.cells #[.int .i64 x, .int .i64 y] 26 (0, 0))) := by rw [hW3, hj2]; exact hid (heap_alloc_new w3 _)
    have BW3 : Hid (Below w3.heap.size w3 W3) := by rw [hW3]; exact hid (thenA (Below.refl _ _) _)
    have hj1w3 : j1 < w3.heap.size := by omega
    have P4' := hid ((BW3.out.block _ hj1w3).trans P4.out)
    obtain ⟨A5, -⟩ := OwnW.at (Stk.OwnR.below O4.out BW3.out)
    obtain ⟨C5, -⟩ := OwnW.at (Stk.OwnR.below Q4.out BW3.out)
    have B5 := hid (B4.out.trans (BW3.out.mono B4.out.size))
    have S1 := hid (sameTok_yes a2 a3 l c2 c3 g.ws W3 HN.out (by omega) A5 C5)
    have hsz3 := BW3.out.size
    clear O4 Q4 P4 B4 BW3 A5 C5
    go_upto_region 16 with fail
    rw [← hj2, ← hW3]
    clear hj2 hW3
    go_wp2_with fail
    refine S1.out.mono ?_
    rintro o w4 ⟨rfl, hb4⟩
    have P6 := hid ((hb4.block _ (Nat.lt_of_lt_of_le hj1w3 hsz3)).trans P4'.out)
    have P7 := hid ((hb4.block _ (Array.getElem?_eq_some_iff.1 P5.out).1).trans P5.out)
    have B6 := hid (B5.out.trans (hb4.mono B5.out.size))
    obtain ⟨⟨f0, f1⟩, ⟨g0, g1⟩, _⟩ := row2 P6.out
    obtain ⟨⟨d0, d1⟩, ⟨e0, e1⟩, _⟩ := row2 P7.out
    have A1 := hid (A.out _ (H8.out.below B6.out) (HT.out.below B6.out))
    clear hb4 P4' P5 P6 P7 B5 S1 hsz3 hj1w3 hszW hj1W
    by_cases hm : m - 2 > 0
    · have hx0 : (x == 0) = false := by simpa using HE1.1 hm
      have hx1 : (x != 0) = true := by simpa using HE1.1 hm
      clear HE1
      go_wp2_with fail
      refine A1.out.mono ?_
      rintro o w8 ⟨rfl, hb8⟩
      have B8 := hid (B6.out.trans (hb8.mono B6.out.size))
      clear hb8 A1
      go_wp2
      go_ret
      exact ⟨rfl, B8.out⟩
    · have hx0 : x = 0 := HE1.2 (by omega)
      have hm2 : (m - 2 > 0) = False := by simp; omega
      have hm3 : (0 < m - 2) = False := by simp; omega
      clear HE1
      subst hx0
      go_wp2_with fail
      refine A1.out.mono ?_
      rintro o w8 ⟨rfl, hb8⟩
      have B8 := hid (B6.out.trans (hb8.mono B6.out.size))
      clear hb8 A1
      go_wp2
      go_ret
      exact ⟨ret_bool (by simp; omega), B8.out⟩
  · obtain ⟨n, hn⟩ : ∃ n : Nat, 4096 + (m - 2) = n := ⟨(4096 + (m - 2)).toNat, by omega⟩
    have e1 : IntKind.i64.wrap (m - 2) = m - 2 := by rw [IntKind.wrap_i64]; omega
    have RR := hid (fun W => R4.out (n : Int) n rfl (by omega) W)
    obtain ⟨zs, hzs⟩ : ∃ zs : List Int, zs = 34 :: ((List.replicate n ([92, 48, 48, 49] : List Int)).flatten ++ [34]) := ⟨_, rfl⟩
    have hb : ∀ z ∈ zs, 0 ≤ z ∧ z < 256 := fun z hz => by
      rw [hzs] at hz
      simp only [List.mem_cons, List.mem_append, List.mem_flatten, List.mem_replicate, List.not_mem_nil, or_false] at hz
      rcases hz with rfl | ⟨l, ⟨_, rfl⟩, hz⟩ | rfl
      · omega
      · simp at hz; omega
      · omega
    have hE : (m - 2 > 0 → (lexP zs).e ≠ 0) ∧ (¬ m - 2 > 0 → (lexP zs).e = 0) := by
      rw [hzs]
      have := tlong_4 n (by omega)
      rw [this]
      constructor
      · intro h; rw [if_pos (by omega)]; decide
      · intro h; rw [if_neg (by omega)]
    have hse : ((⟨#[34]⟩ : ByteArray) ++ strOfNums (rep n [92, 48, 48, 49])) ++ (⟨#[34]⟩ : ByteArray) = strOfNums zs := by rw [← Z5.out, str_append, str_append, hzs]; rfl
    have LX1 := hid (fun W h1 h2 => LX.out zs hb W h1 h2)
    have RX1 := hid (fun W => RX.out zs hb W)
    have HF1 := hid (HFW.out zs)
    have HE := hid hE
    have HSE := hid hse
    generalize lexP zs = g at *
    clear hzs hb hE hse LX RX HFW R0 R1 R2 R4
    go_wp2_with fail
    refine (RR.out _).mono ?_
    rintro o w1 ⟨rfl, hb1⟩
    have B1 := hid hb1
    clear hb1 RR
    have hse := HSE.out
    obtain ⟨zl, hzl, hzb⟩ : ∃ zl, (strOfNums (rep n [92, 48, 48, 49])).size = zl ∧ zl ≤ 100000 := ⟨_, rfl, by rw [strOfNums_size, rep_len]; simp; omega⟩
    go_upto_region 14 with fail
    try rw [hse]
    clear hse
    generalize strOfNums zs = s at *
    obtain ⟨l, hl⟩ : ∃ l, g.ws.length = l := ⟨_, rfl⟩
    obtain ⟨x, hx⟩ : ∃ x, g.e = x := ⟨_, rfl⟩
    obtain ⟨y, hy⟩ : ∃ y, g.p = y := ⟨_, rfl⟩
    have HN := hid hl
    have HX := hid hx
    have HY := hid hy
    have hnb : l ≤ 65536 := hl ▸ HF1.out
    have HE1 := HE.out
    rw [hx] at HE1
    clear hl hx hy HF1 HE hn e1
    go_wp2_with fail
    refine (LX1.out _ (H8.out.below B1.out) (HT.out.below B1.out)).mono ?_
    rintro o w2 ⟨v2, rfl, hv2, hb2⟩
    obtain ⟨a2, c2, rfl, ho2⟩ := told_form hv2
    rw [HN.out] at ho2 ⊢
    rw [HX.out, HY.out]
    have O2 := hid ho2
    have B2 := hid (B1.out.trans (hb2.mono B1.out.size))
    clear hv2 ho2 hb2 B1 LX1
    obtain ⟨j1, hj1⟩ : ∃ j1, j1 = w2.heap.size := ⟨_, rfl⟩
    obtain ⟨W2, hW2⟩ : ∃ W2, W2 = w2.alloc (.cells #[.int .i64 x, .int .i64 y] 26) := ⟨_, rfl⟩
    have P2 : Hid (W2.heap[j1]? = some (.cells #[.int .i64 x, .int .i64 y] 26 (0, 0))) := by rw [hW2, hj1]; exact hid (heap_alloc_new w2 _)
    have BW2 : Hid (Below w2.heap.size w2 W2) := by rw [hW2]; exact hid (thenA (Below.refl _ _) _)
    have B3 := hid (B2.out.trans (BW2.out.mono B2.out.size))
    have O3 := hid (Stk.OwnR.below O2.out BW2.out)
    have hj1W : j1 < W2.heap.size := (Array.getElem?_eq_some_iff.1 P2.out).1
    clear O2 B2 BW2
    go_upto_region 15 with fail
    rw [← hj1, ← hW2]
    clear hj1 hW2
    go_wp2_with fail
    refine (RX1.out _).mono ?_
    rintro o w3 ⟨v3, rfl, hv3, hb3⟩
    obtain ⟨a3, c3, rfl, ho3⟩ := told_form hv3
    rw [HN.out] at ho3 ⊢
    rw [HX.out, HY.out]
    have O4 := hid (Stk.OwnR.below O3.out hb3)
    have Q4 := hid ho3
    have P4 := hid ((hb3.block _ hj1W).trans P2.out)
    have B4 := hid (B3.out.trans (hb3.mono B3.out.size))
    have hszW := hb3.size
    clear hv3 ho3 hb3 O3 P2 B3 RX1
    obtain ⟨j2, hj2⟩ : ∃ j2, j2 = w3.heap.size := ⟨_, rfl⟩
    obtain ⟨W3, hW3⟩ : ∃ W3, W3 = w3.alloc (.cells #[.int .i64 x, .int .i64 y] 26) := ⟨_, rfl⟩
    have P5 : Hid (W3.heap[j2]? = some (.cells #[.int .i64 x, .int .i64 y] 26 (0, 0))) := by rw [hW3, hj2]; exact hid (heap_alloc_new w3 _)
    have BW3 : Hid (Below w3.heap.size w3 W3) := by rw [hW3]; exact hid (thenA (Below.refl _ _) _)
    have hj1w3 : j1 < w3.heap.size := by omega
    have P4' := hid ((BW3.out.block _ hj1w3).trans P4.out)
    obtain ⟨A5, -⟩ := OwnW.at (Stk.OwnR.below O4.out BW3.out)
    obtain ⟨C5, -⟩ := OwnW.at (Stk.OwnR.below Q4.out BW3.out)
    have B5 := hid (B4.out.trans (BW3.out.mono B4.out.size))
    have S1 := hid (sameTok_yes a2 a3 l c2 c3 g.ws W3 HN.out (by omega) A5 C5)
    have hsz3 := BW3.out.size
    clear O4 Q4 P4 B4 BW3 A5 C5
    go_upto_region 16 with fail
    rw [← hj2, ← hW3]
    clear hj2 hW3
    go_wp2_with fail
    refine S1.out.mono ?_
    rintro o w4 ⟨rfl, hb4⟩
    have P6 := hid ((hb4.block _ (Nat.lt_of_lt_of_le hj1w3 hsz3)).trans P4'.out)
    have P7 := hid ((hb4.block _ (Array.getElem?_eq_some_iff.1 P5.out).1).trans P5.out)
    have B6 := hid (B5.out.trans (hb4.mono B5.out.size))
    obtain ⟨⟨f0, f1⟩, ⟨g0, g1⟩, _⟩ := row2 P6.out
    obtain ⟨⟨d0, d1⟩, ⟨e0, e1⟩, _⟩ := row2 P7.out
    have A1 := hid (A.out _ (H8.out.below B6.out) (HT.out.below B6.out))
    clear hb4 P4' P5 P6 P7 B5 S1 hsz3 hj1w3 hszW hj1W
    by_cases hm : m - 2 > 0
    · have hx0 : (x == 0) = false := by simpa using HE1.1 hm
      have hx1 : (x != 0) = true := by simpa using HE1.1 hm
      clear HE1
      go_wp2_with fail
      refine A1.out.mono ?_
      rintro o w8 ⟨rfl, hb8⟩
      have B8 := hid (B6.out.trans (hb8.mono B6.out.size))
      clear hb8 A1
      go_wp2
      go_ret
      exact ⟨rfl, B8.out⟩
    · have hx0 : x = 0 := HE1.2 (by omega)
      have hm2 : (m - 2 > 0) = False := by simp; omega
      have hm3 : (0 < m - 2) = False := by simp; omega
      clear HE1
      subst hx0
      go_wp2_with fail
      refine A1.out.mono ?_
      rintro o w8 ⟨rfl, hb8⟩
      have B8 := hid (B6.out.trans (hb8.mono B6.out.size))
      clear hb8 A1
      go_wp2
      go_ret
      exact ⟨ret_bool (by simp; omega), B8.out⟩
end Go.Proofs.YtojgibigmoaejaaDoor.Lex
namespace Go.Proofs.YtojgibigmoaejaaDoor
theorem lexLong_walk (w : World) (m : Int) (_ : -9223372036854775808 ≤ m ∧ m ≤ 9223372036854775807) (k : Int) (_ : -9223372036854775808 ≤ k ∧ k ≤ 9223372036854775807) (hT : Lex.Tabs8 w ∧ Lex.Words w) :
    Calls Tryd.prog 4 #[.int .i64 m, .int .i64 k] w fun e w' => e = .returned (.bool true) ∧ RowKit.Below w.heap.size w w' := Lex.long_walk w m k hT.1 hT.2
end Go.Proofs.YtojgibigmoaejaaDoor
