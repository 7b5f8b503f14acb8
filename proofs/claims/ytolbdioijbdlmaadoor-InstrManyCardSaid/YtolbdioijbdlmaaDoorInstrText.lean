/-
  INSTR: Text by contract; the examples' If; the statements' short test of the examples.
-/
import Derived.Test.YtolbdioijbdlmaaDoorInstrOne
import Derived.Test.YtolbdioijbdlmaaDoorInstrShape
import Derived.Test.YtolbdioijbdlmaaDoorInstrCheck
namespace Go.Proofs.YtolbdioijbdlmaaDoor.Instr
open Go.RowKit

theorem fields_bytes (x : Ix) (u : Int) : ∀ z ∈ fieldsL x u, 0 ≤ z ∧ z < 256 := by
  intro z hz
  unfold fieldsL at hz
  simp only [List.mem_append] at hz
  rcases hz with (((h | h) | h) | h) | h
  · split at h
    · revert z; decide
    · simp at h
  · split at h
    · obtain ⟨n, _, hn⟩ := List.mem_flatMap.1 h
      exact numT_bytes n z hn
    · simp at h
  all_goals
    split at h
    · exact numT_bytes _ z h
    · simp at h
theorem b_semi : ∀ z ∈ ([59] : List Int), 0 ≤ z ∧ z < 256 := by decide
theorem b_else : ∀ z ∈ ([101, 108, 115, 101, 59] : List Int), 0 ≤ z ∧ z < 256 := by decide
theorem b_end : ∀ z ∈ ([101, 110, 100, 59] : List Int), 0 ≤ z ∧ z < 256 := by decide
theorem text_bytes : ∀ (t : Il), ∀ z ∈ t.text, 0 ≤ z ∧ z < 256
  | .nil => by simp [Il.text]
  | .cons x l e r => by
    have hl := text_bytes l
    have he := text_bytes e
    have hr := text_bytes r
    intro z hz
    rw [text_cons] at hz
    rcases List.mem_append.1 hz with h | h
    · unfold oneT at h
      simp only [List.mem_append] at h
      rcases h with ((h | h) | h) | h
      · exact nameL_bytes _ z h
      · exact fields_bytes _ _ z h
      · exact b_semi z h
      · split at h
        · simp only [List.mem_append] at h
          rcases h with (h | h) | h
          · exact hl z h
          · split at h
            · rcases List.mem_append.1 h with h | h
              · exact b_else z h
              · exact he z h
            · simp at h
          · exact b_end z h
        · simp at h
    · exact hr z h

set_option maxHeartbeats 1000000 in
theorem Text_any (a : Option Addr) (n c : Nat) (t : Il) (w : World) (hL : ListAt w.heap.size w a n t) (hl : t.text.length ≤ 70368744177664) (hn : n ≤ 140737488351232) (hT : PowTab w.heap.size w) (hN : Nams w) :
    Calls Tryd.prog 20 #[.slice a n c] w fun e w' => e = .returned (.string (strOfNums t.text)) ∧ Below w.heap.size w w' := by
  have CL := list_any w.heap.size t.count t (Nat.le_refl _) w (.slice none 0 0) [] a n c (Nat.le_refl _) hL (World.ownsRow_nil _ _ _ _) (by simpa using hl) hn hT hN.base
  rw [List.nil_append] at CL
  have HB := hid (text_bytes t)
  obtain ⟨zs, hzs⟩ : ∃ zs, t.text = zs := ⟨_, rfl⟩
  rw [hzs] at CL HB hl ⊢
  have C := hid CL
  have HL := hid hl
  clear CL hzs hL hT hN hn hl
  go_enter Tryd.func20, Tryd.ntmps20
  go_wp2_with fail
  refine C.out.mono ?_
  clear C
  rintro e w1 ⟨v1, rfl, ho, hu, hz⟩
  obtain ⟨a1, c1, rfl⟩ := ho.slice
  have hby := ho.bytes HB.out (by have := HL.out; omega)
  have hcv := str_of hby zs.length c1 rfl
  go_wp2
  go_ret
  exact ⟨rfl, hu.below⟩

/-- The examples' If, and where it lies when it is built in a world of so many blocks. -/
def ix (op res a n : Int) : Ix := ⟨op, res, a, 0, n, [], none, 0, none, 0, 0, none, 0, 0⟩
def smallT (g : Nat) : Il := .cons ⟨4, 0, 0, 0, 0, [], none, 0, some ⟨g, 0, none⟩, 1, 1, some ⟨g + 1, 0, none⟩, 1, 1⟩ (.cons (ix 32 0 3 0) .nil .nil .nil) (.cons (ix 1 0 0 0) .nil .nil .nil) .nil
set_option maxHeartbeats 1000000 in
theorem small_any (w : World) : Calls Tryd.prog 25 #[] w fun e w' => e = .returned (.slice (some ⟨w.heap.size + 1 + 1, 0, none⟩) 1 1) ∧ Below w.heap.size w w' ∧ ListAt w'.heap.size w' (some ⟨w.heap.size + 1 + 1, 0, none⟩) 1 (smallT w.heap.size) := by
  go_enter Tryd.func25, Tryd.ntmps25
  go_wp2
  go_ret
  refine ⟨rfl, thenA (thenA (thenA (Below.refl _ _) _) _) _, rfl, .inr ⟨_, 0, rfl, ?_⟩⟩
  have o0 : Ix.ok ⟨4, 0, 0, 0, 0, [], none, 0, some ⟨w.heap.size, 0, none⟩, 1, 1, some ⟨w.heap.size + 1, 0, none⟩, 1, 1⟩ := by constructor <;> simp
  have o1 : Ix.ok (ix 32 0 3 0) := by constructor <;> simp [ix]
  have o2 : Ix.ok (ix 1 0 0 0) := by constructor <;> simp [ix]
  unfold ix at o1 o2
  simp [smallT, ix, Items, Il.len, TagsAt, o0, o1, o2, go_sem]
  refine ⟨⟨w.heap.size, 0, ⟨rfl, rfl⟩, ?_⟩, ⟨w.heap.size + 1, 0, ⟨rfl, rfl⟩, ?_⟩⟩ <;> simp [go_sem] <;> omega
theorem uses97 : uses 97 32 = true ∧ uses 97 64 = true := by decide
theorem uses33 : uses 33 32 = true ∧ uses 33 64 = false := by decide
theorem uses_no : uses 0 32 = false ∧ uses 2 32 = false ∧ uses 8 32 = false ∧ uses 18 32 = false := by decide
theorem dec3 : decL 3 = [51] := by simp [decL, Lib.itoa, Lib.decDigits_one]
theorem small_text (g : Nat) : (smallT g).text = [105, 102, 59, 108, 111, 99, 97, 108, 46, 103, 101, 116, 32, 51, 59, 101, 108, 115, 101, 59, 110, 111, 112, 59, 101, 110, 100, 59] := by
  have n0 : nameL 4 = [105, 102] := by decide
  have n1 : nameL 32 = [108, 111, 99, 97, 108, 46, 103, 101, 116] := by decide
  have n2 : nameL 1 = [110, 111, 112] := by decide
  have u0 : usedP 4 = 97 := by decide
  have u1 : usedP 32 = 2 := by decide
  have u2 : usedP 1 = 0 := by decide
  simp [smallT, ix, text_cons, oneT, Il.text, n0, n1, n2, u0, u1, u2, fields_97, fields_2, fields_0, uses97, uses_no, numT, dec3]
theorem small_check (g : Nat) : checkP (smallT g) = 0 := by
  have n0 : nameL 4 = [105, 102] := by decide
  have n1 : nameL 32 = [108, 111, 99, 97, 108, 46, 103, 101, 116] := by decide
  have n2 : nameL 1 = [110, 111, 112] := by decide
  have u0 : usedP 4 = 97 := by decide
  have u1 : usedP 32 = 2 := by decide
  have u2 : usedP 1 = 0 := by decide
  have a0 : bits .andNot .u8 96 97 = 0 := by decide
  have a1 : bits .andNot .u8 2 2 = 0 := by decide
  have a2 : bits .andNot .u8 0 0 = 0 := by decide
  simp [smallT, ix, checkP, Il.all, Il.count, Il.deep, Il.tags, lawfulP, overP, filledP, bit, n0, n1, n2, u0, u1, u2, a0, a1, a2]
theorem small_deep (g : Nat) : (smallT g).count = 3 := by simp [smallT, ix, Il.count]
/-- A list of one, in new memory. -/
theorem list_new (W : World) (x : Ix) (l e : Il) (hx : x.ok) (ht : TagsAt W.heap.size W x.ta x.tags) (hl : ListAt W.heap.size W x.la x.ln l) (he : ListAt W.heap.size W x.ea x.en e) :
    ListAt (W.alloc (.cells x.vals 34)).heap.size (W.alloc (.cells x.vals 34)) (some ⟨W.heap.size, 0, none⟩) 1 (.cons x l e .nil) := by
  have hb : Below W.heap.size W (W.alloc (.cells x.vals 34)) := thenA (Below.refl _ _) _
  have h := At.made x W
  refine ⟨rfl, .inr ⟨_, 0, rfl, by simp, hx, ⟨h.c0, h.c1, h.c2, h.c3, h.c4, h.c5, h.c6, h.c7⟩, (ht.below hb).more hb.size, hl.on hb, he.on hb, trivial⟩⟩
/-- A list of two without lists, in new memory. -/
theorem list_two (W : World) (x y : Ix) (hx : x.ok) (hy : y.ok) (hx1 : x.tags = []) (hy1 : y.tags = []) (hx2 : x.ln = 0) (hx3 : x.en = 0) (hy2 : y.ln = 0) (hy3 : y.en = 0) :
    ListAt (W.alloc (.cells (x.vals ++ y.vals) 34)).heap.size (W.alloc (.cells (x.vals ++ y.vals) 34)) (some ⟨W.heap.size, 0, none⟩) 2 (.cons x .nil .nil (.cons y .nil .nil .nil)) := by
  refine ⟨rfl, .inr ⟨_, 0, rfl, ?_⟩⟩
  refine ⟨by simp, hx, ?_, .inl hx1, ⟨hx2.symm, .inl rfl⟩, ⟨hx3.symm, .inl rfl⟩, by simp, hy, ?_, .inl hy1, ⟨hy2.symm, .inl rfl⟩, ⟨hy3.symm, .inl rfl⟩, trivial⟩
  · simp [Ix.vals, go_sem]
  · simp [Ix.vals, go_sem]
theorem ok_ix (op res a n : Int) (h0 : -9223372036854775808 ≤ op ∧ op ≤ 9223372036854775807) (h1 : -9223372036854775808 ≤ res ∧ res ≤ 9223372036854775807) (h2 : 0 ≤ a ∧ a < 4294967296) (h3 : -2147483648 ≤ n ∧ n < 2147483648) : (ix op res a n).ok := by
  constructor <;> simp [ix] <;> omega
theorem no_list (n₀ : Nat) (w : World) (a : Option Addr) : ListAt n₀ w a 0 .nil := ⟨rfl, .inl rfl⟩
/-- The tables lie as they were laid. -/
structure Tabs (w : World) : Prop where
  ar : Num.Arit w
  nm : Nams w
  pw : Lib.TabIs Tryd.prog w "internal/strconv.uint64pow10" .u64 Lib.pow10Tab
theorem Tabs.below {w w' : World} (h : Tabs w) (hb : Below w.heap.size w w') : Tabs w' := ⟨h.ar.below hb, h.nm.below hb, Lib.tabBelow_of_tabIs h.pw w' hb⟩
theorem Tabs.pow {w : World} (h : Tabs w) : PowTab w.heap.size w := Lib.tabBelow_of_tabIs h.pw
theorem name17 : strOfNums (nameL 17) = ⟨#[99, 97, 108, 108, 95, 105, 110, 100, 105, 114, 101, 99, 116]⟩ := by rw [show nameL 17 = [99, 97, 108, 108, 95, 105, 110, 100, 105, 114, 101, 99, 116] by decide]; rfl

set_option maxHeartbeats 2000000 in
theorem awake_any (w : World) (hT : Tabs w) : Calls Tryd.prog 13 #[] w fun e w' => e = .returned (.bool true) ∧ Below w.heap.size w w' := by
  have C1 := Shape_any 27 w hT.ar
  rw [show takesP 27 = 3 by decide, show leavesP 27 = 1 by decide, show knownP 27 = true by decide] at C1
  have D1 := hid C1
  clear C1
  go_enter Tryd.func13, Tryd.ntmps13
  go_wp2_with fail
  refine D1.out.mono ?_
  clear D1
  rintro e w1 ⟨rfl, hb1⟩
  have hT1 := hT.below hb1
  go_wp2_with fail
  refine (Name_any 17 w1 hT1.nm).mono ?_
  rintro e w2 ⟨rfl, rfl⟩
  rw [name17]
  go_wp2_with fail
  refine (small_any w1).mono ?_
  rintro e w2 ⟨rfl, hb2, hl2⟩
  have hT2 := hT1.below hb2
  go_wp2_with fail
  refine (Text_any _ 1 1 _ w2 hl2 (by rw [small_text]; decide) (by omega) hT2.pow hT2.nm).mono ?_
  rintro e w3 ⟨rfl, hb3⟩
  have hT3 := hT2.below hb3
  rw [small_text, show strOfNums [105, 102, 59, 108, 111, 99, 97, 108, 46, 103, 101, 116, 32, 51, 59, 101, 108, 115, 101, 59, 110, 111, 112, 59, 101, 110, 100, 59] = ⟨#[105, 102, 59, 108, 111, 99, 97, 108, 46, 103, 101, 116, 32, 51, 59, 101, 108, 115, 101, 59, 110, 111, 112, 59, 101, 110, 100, 59]⟩ from rfl]
  go_wp2_with fail
  refine (small_any w3).mono ?_
  rintro e w4 ⟨rfl, hb4, hl4⟩
  have hT4 := hT3.below hb4
  go_wp2_with fail
  refine (Check_any _ 1 1 _ w4 hT4.nm hl4 (by rw [small_deep]; omega) (by omega)).mono ?_
  rintro e w5 ⟨rfl, hb5⟩
  rw [small_check]
  go_wp2
  go_ret
  exact ⟨rfl, thenB (thenB (thenB (thenB hb1 hb2) hb3) hb4) hb5⟩
end Go.Proofs.YtolbdioijbdlmaaDoor.Instr
