/-
  BODY: the reader's instruction, by contract, kind by kind.
-/
import Derived.Test.YtlfflomeaplidaaDoorBodyTags
import Derived.Test.YtlfflomeaplidaaDoorBodyPlain
namespace Go.Proofs.YtlfflomeaplidaaDoor.Body
open Go.RowKit Go.Proofs.YtlfflomeaplidaaDoor.Instr
open Go.Proofs.YtlfflomeaplidaaDoor.Kind (Rd numR refuseR startR numR_good numR_bounds refuseR_good getL_next)

theorem band (a b : Int) (c : Int) (h : bits .and .u8 a b = c) : bits .and .u8 a b = c := h
def inTags (x : Ix) (ta : Option Addr) (tc : Nat) : Ix := ⟨x.op, x.res, x.a, x.b, x.n, x.tags, ta, tc, x.la, x.ln, x.lc, x.ea, x.en, x.ec⟩
/-- An instruction without its lists, its labels in memory of their own. -/
def DoesIx (k : Nat) (v : Value) (w : World) (x : Ix) (s : Rd) (e : Ending) (w' : World) : Prop :=
  ∃ ta tc, e = .returned (.agg (inTags x ta tc).vals) ∧ OwnK 42 .u32 w.heap.size w' (.slice ta x.tags.length tc) x.tags ∧ RdIs w' k v s ∧ Save k w w'

/-- An instruction in a block of its own, that can be written. -/
structure Bx (g : Nat) (x : Ix) (w : World) : Prop where
  at_ : At x g w
  f0 : w.frozen? ⟨g, 0, none⟩ = false
  f1 : w.frozen? ⟨g, 1, none⟩ = false
  f2 : w.frozen? ⟨g, 2, none⟩ = false
  f3 : w.frozen? ⟨g, 3, none⟩ = false
  f4 : w.frozen? ⟨g, 4, none⟩ = false
  f5 : w.frozen? ⟨g, 5, none⟩ = false
  f6 : w.frozen? ⟨g, 6, none⟩ = false
  f7 : w.frozen? ⟨g, 7, none⟩ = false
theorem Bx.save {g k : Nat} {x : Ix} {w w' : World} (h : Bx g x w) (hs : Save k w w') (hk : g ≠ k) : Bx g x w' := by
  have hl : g < w.heap.size := World.block_lt_of_cell? w _ h.at_.c0
  exact ⟨h.at_.save hs hk, hs.frozen hl hk h.f0, hs.frozen hl hk h.f1, hs.frozen hl hk h.f2, hs.frozen hl hk h.f3, hs.frozen hl hk h.f4, hs.frozen hl hk h.f5, hs.frozen hl hk h.f6, hs.frozen hl hk h.f7⟩
theorem bx_made (x : Ix) (w : World) : Bx w.heap.size x (w.alloc (.cells x.vals 61)) := by
  refine ⟨At.made x w, ?_, ?_, ?_, ?_, ?_, ?_, ?_, ?_⟩ <;> go_simp
theorem Bx.alloc {g : Nat} {x : Ix} {w : World} (h : Bx g x w) (o : Obj) : Bx g x (w.alloc o) := by
  have hb : Below w.heap.size w (w.alloc o) := (Below.refl _ _).alloc (Nat.le_refl _) o
  have hl : g < w.heap.size := World.block_lt_of_cell? w _ h.at_.c0
  exact ⟨h.at_.below hb, (hb.frozen (p := ⟨g, 0, none⟩) hl).trans h.f0, (hb.frozen (p := ⟨g, 1, none⟩) hl).trans h.f1, (hb.frozen (p := ⟨g, 2, none⟩) hl).trans h.f2, (hb.frozen (p := ⟨g, 3, none⟩) hl).trans h.f3, (hb.frozen (p := ⟨g, 4, none⟩) hl).trans h.f4, (hb.frozen (p := ⟨g, 5, none⟩) hl).trans h.f5, (hb.frozen (p := ⟨g, 6, none⟩) hl).trans h.f6, (hb.frozen (p := ⟨g, 7, none⟩) hl).trans h.f7⟩
def zeroX : Ix := plainX 0 0 0 0 0 []
/-- The world in which the reading begins: the result's block, and that of the instruction. -/
theorem ins_start (op : Int) (w : World) : Bx w.heap.size zeroX ((w.alloc (.cells zeroX.vals 61)).alloc (.cells (plainX op 0 0 0 0 []).vals 61)) ∧
    Bx (w.heap.size + 1) (plainX op 0 0 0 0 []) ((w.alloc (.cells zeroX.vals 61)).alloc (.cells (plainX op 0 0 0 0 []).vals 61)) := by
  refine ⟨(bx_made _ _).alloc _, ?_⟩
  have := bx_made (plainX op 0 0 0 0 []) (w.alloc (.cells zeroX.vals 61))
  simpa using this
theorem Bx.other {g : Nat} {x : Ix} {w : World} (h : Bx g x w) {p : Addr} (hp : p.block ≠ g) (v : Value) : Bx g x (w.setCell p v) := by
  have hl : g < w.heap.size := World.block_lt_of_cell? w _ h.at_.c0
  have hs : Save p.block w (w.setCell p v) := (Save.refl _ _).setCell (.inl rfl) _
  exact h.save hs (fun e => hp e.symm)
theorem Bx.setRes {g : Nat} {x : Ix} {w : World} (h : Bx g x w) (n : Int) : Bx g ⟨x.op, n, x.a, x.b, x.n, x.tags, x.ta, x.tc, x.la, x.ln, x.lc, x.ea, x.en, x.ec⟩ (w.setCell ⟨g, 1, none⟩ (.int .i64 n)) := by
  obtain ⟨⟨c0, c1, c2, c3, c4, c5, c6, c7⟩, f0, f1, f2, f3, f4, f5, f6, f7⟩ := h
  refine ⟨⟨?_, ?_, ?_, ?_, ?_, ?_, ?_, ?_⟩, ?_, ?_, ?_, ?_, ?_, ?_, ?_, ?_⟩ <;> simp [go_sem, *]
theorem Bx.setA {g : Nat} {x : Ix} {w : World} (h : Bx g x w) (n : Int) : Bx g ⟨x.op, x.res, n, x.b, x.n, x.tags, x.ta, x.tc, x.la, x.ln, x.lc, x.ea, x.en, x.ec⟩ (w.setCell ⟨g, 2, none⟩ (.int .u32 n)) := by
  obtain ⟨⟨c0, c1, c2, c3, c4, c5, c6, c7⟩, f0, f1, f2, f3, f4, f5, f6, f7⟩ := h
  refine ⟨⟨?_, ?_, ?_, ?_, ?_, ?_, ?_, ?_⟩, ?_, ?_, ?_, ?_, ?_, ?_, ?_, ?_⟩ <;> simp [go_sem, *]
theorem Bx.setT {g : Nat} {x : Ix} {w : World} (h : Bx g x w) (l : List Int) (ta : Option Addr) (tc : Nat) : Bx g ⟨x.op, x.res, x.a, x.b, x.n, l, ta, tc, x.la, x.ln, x.lc, x.ea, x.en, x.ec⟩ (w.setCell ⟨g, 5, none⟩ (.slice ta l.length tc)) := by
  obtain ⟨⟨c0, c1, c2, c3, c4, c5, c6, c7⟩, f0, f1, f2, f3, f4, f5, f6, f7⟩ := h
  refine ⟨⟨?_, ?_, ?_, ?_, ?_, ?_, ?_, ?_⟩, ?_, ?_, ?_, ?_, ?_, ?_, ?_, ?_⟩ <;> simp [go_sem, *]
theorem bytes_one (w : World) (c : Int) (h : 0 ≤ c ∧ c < 256) : Bytes (w.alloc (.cells #[.int .u8 c] 5)) (some ⟨w.heap.size, 0, none⟩) [c] := ⟨by simpa using h, by simp, .inr ⟨_, 0, rfl, fun i hi => by
  match i, hi with
  | 0, _ => go_simp⟩⟩
theorem bytes_two (w : World) (c d : Int) (h : 0 ≤ c ∧ c < 256) (h' : 0 ≤ d ∧ d < 256) : Bytes (w.alloc (.cells #[.int .u8 c, .int .u8 d] 5)) (some ⟨w.heap.size, 0, none⟩) [c, d] := ⟨by simp; omega, by simp, .inr ⟨_, 0, rfl, fun i hi => by
  match i, hi with
  | 0, _ => go_simp
  | 1, _ => go_simp⟩⟩
theorem isRes_in (x : Int) : isRes x = [64, 127].contains x := by simp [isRes, Bool.decide_or]
theorem isNone_in (x : Int) : isNone x = [0].contains x := by simp [isNone]

set_option maxHeartbeats 3200000 in
theorem ins0 (k : Nat) (av : Option Addr) (len cap : Nat) (zs : List Int) (s : Rd) (op : Int) (w : World) (h : RdIs w k (.slice av len cap) s) (_hg : Kind.Good zs s) (_hlen : zs.length = len) (_hz : Bytes w av zs) (_ha : ∀ b off, av = some ⟨b, off, none⟩ → zs ≠ [] → b ≠ k)
    (hk : kindP op = 0) (hp : partsP op = 0) :
    Calls Tryd.prog 113 #[.pointer (some ⟨k, 0, none⟩), .int .i64 op] w (DoesIx k (.slice av len cap) w (restR zs op s).x (restR zs op s).s) := by
  have hkw : k < w.heap.size := World.block_lt_of_cell? w _ h.c0
  rw [restR0 hk]
  have F := hid (fun w' => follows_any op w')
  rw [hp] at F
  have b1 : bits .and .u8 0 1 = 0 := by decide
  have b2 : bits .and .u8 0 2 = 0 := by decide
  have b4 : bits .and .u8 0 4 = 0 := by decide
  have b8 : bits .and .u8 0 8 = 0 := by decide
  have b16 : bits .and .u8 0 16 = 0 := by decide
  have b32 : bits .and .u8 0 32 = 0 := by decide
  clear hk hp
  have X0 : Bx w.heap.size zeroX ((w.alloc (.cells #[.int .i64 0, .int .i64 0, .int .u32 0, .int .u32 0, .int .i32 0, .slice none 0 0, .slice none 0 0, .slice none 0 0] 61)).alloc (.cells #[.int .i64 op, .int .i64 0, .int .u32 0, .int .u32 0, .int .i32 0, .slice none 0 0, .slice none 0 0, .slice none 0 0] 61)) := (ins_start op w).1
  have Y0 : Bx (w.heap.size + 1) (plainX op 0 0 0 0 []) ((w.alloc (.cells #[.int .i64 0, .int .i64 0, .int .u32 0, .int .u32 0, .int .i32 0, .slice none 0 0, .slice none 0 0, .slice none 0 0] 61)).alloc (.cells #[.int .i64 op, .int .i64 0, .int .u32 0, .int .u32 0, .int .i32 0, .slice none 0 0, .slice none 0 0, .slice none 0 0] 61)) := (ins_start op w).2
  have B0 : Below w.heap.size w ((w.alloc (.cells #[.int .i64 0, .int .i64 0, .int .u32 0, .int .u32 0, .int .i32 0, .slice none 0 0, .slice none 0 0, .slice none 0 0] 61)).alloc (.cells #[.int .i64 op, .int .i64 0, .int .u32 0, .int .u32 0, .int .i32 0, .slice none 0 0, .slice none 0 0, .slice none 0 0] 61)) := thenA (thenA (Below.refl _ _) _) _
  have R0 := hid (h.below B0)
  have V0 : Hid (Save k w ((w.alloc (.cells #[.int .i64 0, .int .i64 0, .int .u32 0, .int .u32 0, .int .i32 0, .slice none 0 0, .slice none 0 0, .slice none 0 0] 61)).alloc (.cells #[.int .i64 op, .int .i64 0, .int .u32 0, .int .u32 0, .int .i32 0, .slice none 0 0, .slice none 0 0, .slice none 0 0] 61))) := hid (Save.of_below B0)
  have HH := hid h
  have X := hid X0
  have Y := hid Y0
  clear X0 Y0 B0 h
  go_enter Tryd.func113, Tryd.ntmps113
  go_wp2_with fail
  refine (F.out _).mono ?_
  rintro e w' ⟨rfl, rfl⟩
  go_wp2
  refine bodyPost_ret (v := .agg #[.int .i64 op, .int .i64 0, .int .u32 0, .int .u32 0, .int .i32 0, .slice none 0 0, .slice none 0 0, .slice none 0 0]) (by simp [results, Tryd.results113, go_sem]) rfl ?_
  exact ⟨none, 0, rfl, ⟨rfl, .inl ⟨rfl, rfl⟩⟩, HH.out.below (thenA (thenA (Below.refl _ _) _) _), Save.of_below (thenA (thenA (Below.refl _ _) _) _)⟩

set_option maxHeartbeats 3200000 in
theorem ins1 (k : Nat) (av : Option Addr) (len cap : Nat) (zs : List Int) (s : Rd) (op : Int) (w : World) (h : RdIs w k (.slice av len cap) s) (hg : Kind.Good zs s) (hlen : zs.length = len) (hz : Bytes w av zs) (ha : ∀ b off, av = some ⟨b, off, none⟩ → zs ≠ [] → b ≠ k)
    (hk : kindP op = 1) (hp : partsP op = 65) :
    Calls Tryd.prog 113 #[.pointer (some ⟨k, 0, none⟩), .int .i64 op] w (DoesIx k (.slice av len cap) w (restR zs op s).x (restR zs op s).s) := by
  have hkw : k < w.heap.size := World.block_lt_of_cell? w _ h.c0
  rw [restR1 hk]
  have F := hid (fun w' => follows_any op w')
  rw [hp] at F
  have b1 : bits .and .u8 65 1 = 1 := by decide
  have b2 : bits .and .u8 65 2 = 0 := by decide
  have b4 : bits .and .u8 65 4 = 0 := by decide
  have b8 : bits .and .u8 65 8 = 0 := by decide
  have b16 : bits .and .u8 65 16 = 0 := by decide
  have b32 : bits .and .u8 65 32 = 0 := by decide
  clear hk hp
  have X0 : Bx w.heap.size zeroX ((w.alloc (.cells #[.int .i64 0, .int .i64 0, .int .u32 0, .int .u32 0, .int .i32 0, .slice none 0 0, .slice none 0 0, .slice none 0 0] 61)).alloc (.cells #[.int .i64 op, .int .i64 0, .int .u32 0, .int .u32 0, .int .i32 0, .slice none 0 0, .slice none 0 0, .slice none 0 0] 61)) := (ins_start op w).1
  have Y0 : Bx (w.heap.size + 1) (plainX op 0 0 0 0 []) ((w.alloc (.cells #[.int .i64 0, .int .i64 0, .int .u32 0, .int .u32 0, .int .i32 0, .slice none 0 0, .slice none 0 0, .slice none 0 0] 61)).alloc (.cells #[.int .i64 op, .int .i64 0, .int .u32 0, .int .u32 0, .int .i32 0, .slice none 0 0, .slice none 0 0, .slice none 0 0] 61)) := (ins_start op w).2
  have B0 : Below w.heap.size w ((w.alloc (.cells #[.int .i64 0, .int .i64 0, .int .u32 0, .int .u32 0, .int .i32 0, .slice none 0 0, .slice none 0 0, .slice none 0 0] 61)).alloc (.cells #[.int .i64 op, .int .i64 0, .int .u32 0, .int .u32 0, .int .i32 0, .slice none 0 0, .slice none 0 0, .slice none 0 0] 61)) := thenA (thenA (Below.refl _ _) _) _
  have R0 := hid (h.below B0)
  have V0 : Hid (Save k w ((w.alloc (.cells #[.int .i64 0, .int .i64 0, .int .u32 0, .int .u32 0, .int .i32 0, .slice none 0 0, .slice none 0 0, .slice none 0 0] 61)).alloc (.cells #[.int .i64 op, .int .i64 0, .int .u32 0, .int .u32 0, .int .i32 0, .slice none 0 0, .slice none 0 0, .slice none 0 0] 61))) := hid (Save.of_below B0)
  have X := hid X0
  have Y := hid Y0
  have C1 := hid (fun w' g (hr : RdIs w' k (.slice av len cap) s) (hs : Save k w w') (hl : Bytes w' (some ⟨g, 0, none⟩) [64, 127]) (hgk : g ≠ k) => oneOf_any k av len cap zs s (some ⟨g, 0, none⟩) 2 2 [64, 127] isRes w' hr hg hlen (hz.save hs ha) rfl hl (fun b off e _ => by cases e; exact hgk) isRes_in)
  have g1 := tagR_good (ok := isRes) hg
  obtain ⟨n1, hn1⟩ : ∃ n, (tagR zs isRes s).1 = n := ⟨_, rfl⟩
  obtain ⟨s1, hs1⟩ : ∃ t, (tagR zs isRes s).2 = t := ⟨_, rfl⟩
  rw [hn1, hs1] at C1
  rw [hs1] at g1
  rw [hs1]
  rw [hn1]
  clear X0 Y0 B0 hn1 hs1 h hg hlen hz ha g1
  by_cases h7 : n1 = 127
  · subst h7
    rw [if_pos rfl]
    go_enter Tryd.func113, Tryd.ntmps113
    go_wp2_with fail
    refine (F.out _).mono ?_
    rintro e w' ⟨rfl, rfl⟩
    have BB1 : Bytes (((w.alloc (.cells #[.int .i64 0, .int .i64 0, .int .u32 0, .int .u32 0, .int .i32 0, .slice none 0 0, .slice none 0 0, .slice none 0 0] 61)).alloc (.cells #[.int .i64 op, .int .i64 0, .int .u32 0, .int .u32 0, .int .i32 0, .slice none 0 0, .slice none 0 0, .slice none 0 0] 61)).alloc (.cells #[.int .u8 64, .int .u8 127] 5)) (some ⟨(w.heap.size + 1 + 1), 0, none⟩) [64, 127] := by have := bytes_two (((w.alloc (.cells #[.int .i64 0, .int .i64 0, .int .u32 0, .int .u32 0, .int .i32 0, .slice none 0 0, .slice none 0 0, .slice none 0 0] 61)).alloc (.cells #[.int .i64 op, .int .i64 0, .int .u32 0, .int .u32 0, .int .i32 0, .slice none 0 0, .slice none 0 0, .slice none 0 0] 61))) 64 127 (by omega) (by omega); simpa using this
    have RR1 : RdIs (((w.alloc (.cells #[.int .i64 0, .int .i64 0, .int .u32 0, .int .u32 0, .int .i32 0, .slice none 0 0, .slice none 0 0, .slice none 0 0] 61)).alloc (.cells #[.int .i64 op, .int .i64 0, .int .u32 0, .int .u32 0, .int .i32 0, .slice none 0 0, .slice none 0 0, .slice none 0 0] 61)).alloc (.cells #[.int .u8 64, .int .u8 127] 5)) k (.slice av len cap) s := (R0.out).below ((Below.refl _ _).alloc (Nat.le_refl _) _)
    have VV1 : Save k w (((w.alloc (.cells #[.int .i64 0, .int .i64 0, .int .u32 0, .int .u32 0, .int .i32 0, .slice none 0 0, .slice none 0 0, .slice none 0 0] 61)).alloc (.cells #[.int .i64 op, .int .i64 0, .int .u32 0, .int .u32 0, .int .i32 0, .slice none 0 0, .slice none 0 0, .slice none 0 0] 61)).alloc (.cells #[.int .u8 64, .int .u8 127] 5)) := Save.alloc (V0.out) _
    have KB1 : (w.heap.size + 1 + 1) ≠ k := by have := (V0.out).size; simp at this ⊢; omega
    have BH1 := hid BB1
    have RG1 := hid RR1
    have VG1 := hid VV1
    have KG1 := hid KB1
    clear BB1 RR1 VV1 KB1
    go_wp2_with fail
    refine (C1.out _ _ RG1.out VG1.out BH1.out KG1.out).mono ?_
    rintro e1 w1 ⟨rfl, R1, sv1⟩
    have V1 := (Save.alloc (V0.out) _).trans sv1
    have X1 := (X.out.alloc _).save sv1 (by omega)
    have Y1 := (Y.out.alloc _).save sv1 (by omega)
    obtain ⟨⟨x0, x1, x2, x3, x4, x5, x6, x7⟩, f0, f1, f2, f3, f4, f5, f6, f7⟩ := X1
    obtain ⟨⟨y0, y1, y2, y3, y4, y5, y6, y7⟩, e0, e1, e2, e3, e4, e5, e6, e7⟩ := Y1
    simp only [zeroX, plainX] at x0 x1 x2 x3 x4 x5 x6 x7 y0 y1 y2 y3 y4 y5 y6 y7
    go_wp2
    refine bodyPost_ret (v := .agg #[.int .i64 op, .int .i64 1, .int .u32 0, .int .u32 0, .int .i32 0, .slice none 0 0, .slice none 0 0, .slice none 0 0]) (by simp [results, Tryd.results113, go_sem, x0, x1, x2, x3, x4, x5, x6, x7]) rfl ?_
    have hB : Below w.heap.size w1 (((((((((w1.setCell ⟨w.heap.size + 1, 1, none⟩ (.int .i64 1)).setCell ⟨w.heap.size, 0, none⟩ (.int .i64 op)).setCell ⟨w.heap.size, 1, none⟩ (.int .i64 1)).setCell ⟨w.heap.size, 2, none⟩ (.int .u32 0)).setCell ⟨w.heap.size, 3, none⟩ (.int .u32 0)).setCell ⟨w.heap.size, 4, none⟩ (.int .i32 0)).setCell ⟨w.heap.size, 5, none⟩ (.slice none 0 0)).setCell ⟨w.heap.size, 6, none⟩ (.slice none 0 0)).setCell ⟨w.heap.size, 7, none⟩ (.slice none 0 0)) := by
      repeat' (refine Below.setCell ?_ (by simp) _)
      exact Below.refl _ _
    exact ⟨none, 0, rfl, ⟨rfl, .inl ⟨rfl, rfl⟩⟩, R1.belowB hB hkw, save_under V1 hB⟩
  · rw [if_neg h7]
    go_enter Tryd.func113, Tryd.ntmps113
    go_wp2_with fail
    refine (F.out _).mono ?_
    rintro e w' ⟨rfl, rfl⟩
    have BB1 : Bytes (((w.alloc (.cells #[.int .i64 0, .int .i64 0, .int .u32 0, .int .u32 0, .int .i32 0, .slice none 0 0, .slice none 0 0, .slice none 0 0] 61)).alloc (.cells #[.int .i64 op, .int .i64 0, .int .u32 0, .int .u32 0, .int .i32 0, .slice none 0 0, .slice none 0 0, .slice none 0 0] 61)).alloc (.cells #[.int .u8 64, .int .u8 127] 5)) (some ⟨(w.heap.size + 1 + 1), 0, none⟩) [64, 127] := by have := bytes_two (((w.alloc (.cells #[.int .i64 0, .int .i64 0, .int .u32 0, .int .u32 0, .int .i32 0, .slice none 0 0, .slice none 0 0, .slice none 0 0] 61)).alloc (.cells #[.int .i64 op, .int .i64 0, .int .u32 0, .int .u32 0, .int .i32 0, .slice none 0 0, .slice none 0 0, .slice none 0 0] 61))) 64 127 (by omega) (by omega); simpa using this
    have RR1 : RdIs (((w.alloc (.cells #[.int .i64 0, .int .i64 0, .int .u32 0, .int .u32 0, .int .i32 0, .slice none 0 0, .slice none 0 0, .slice none 0 0] 61)).alloc (.cells #[.int .i64 op, .int .i64 0, .int .u32 0, .int .u32 0, .int .i32 0, .slice none 0 0, .slice none 0 0, .slice none 0 0] 61)).alloc (.cells #[.int .u8 64, .int .u8 127] 5)) k (.slice av len cap) s := (R0.out).below ((Below.refl _ _).alloc (Nat.le_refl _) _)
    have VV1 : Save k w (((w.alloc (.cells #[.int .i64 0, .int .i64 0, .int .u32 0, .int .u32 0, .int .i32 0, .slice none 0 0, .slice none 0 0, .slice none 0 0] 61)).alloc (.cells #[.int .i64 op, .int .i64 0, .int .u32 0, .int .u32 0, .int .i32 0, .slice none 0 0, .slice none 0 0, .slice none 0 0] 61)).alloc (.cells #[.int .u8 64, .int .u8 127] 5)) := Save.alloc (V0.out) _
    have KB1 : (w.heap.size + 1 + 1) ≠ k := by have := (V0.out).size; simp at this ⊢; omega
    have BH1 := hid BB1
    have RG1 := hid RR1
    have VG1 := hid VV1
    have KG1 := hid KB1
    clear BB1 RR1 VV1 KB1
    go_wp2_with fail
    refine (C1.out _ _ RG1.out VG1.out BH1.out KG1.out).mono ?_
    rintro e1 w1 ⟨rfl, R1, sv1⟩
    have V1 := (Save.alloc (V0.out) _).trans sv1
    have X1 := (X.out.alloc _).save sv1 (by omega)
    have Y1 := (Y.out.alloc _).save sv1 (by omega)
    obtain ⟨⟨x0, x1, x2, x3, x4, x5, x6, x7⟩, f0, f1, f2, f3, f4, f5, f6, f7⟩ := X1
    obtain ⟨⟨y0, y1, y2, y3, y4, y5, y6, y7⟩, e0, e1, e2, e3, e4, e5, e6, e7⟩ := Y1
    simp only [zeroX, plainX] at x0 x1 x2 x3 x4 x5 x6 x7 y0 y1 y2 y3 y4 y5 y6 y7
    go_wp2
    refine bodyPost_ret (v := .agg #[.int .i64 op, .int .i64 0, .int .u32 0, .int .u32 0, .int .i32 0, .slice none 0 0, .slice none 0 0, .slice none 0 0]) (by simp [results, Tryd.results113, go_sem, x0, x1, x2, x3, x4, x5, x6, x7]) rfl ?_
    have hB : Below w.heap.size w1 ((((((((w1.setCell ⟨w.heap.size, 0, none⟩ (.int .i64 op)).setCell ⟨w.heap.size, 1, none⟩ (.int .i64 0)).setCell ⟨w.heap.size, 2, none⟩ (.int .u32 0)).setCell ⟨w.heap.size, 3, none⟩ (.int .u32 0)).setCell ⟨w.heap.size, 4, none⟩ (.int .i32 0)).setCell ⟨w.heap.size, 5, none⟩ (.slice none 0 0)).setCell ⟨w.heap.size, 6, none⟩ (.slice none 0 0)).setCell ⟨w.heap.size, 7, none⟩ (.slice none 0 0)) := by
      repeat' (refine Below.setCell ?_ (by simp) _)
      exact Below.refl _ _
    exact ⟨none, 0, rfl, ⟨rfl, .inl ⟨rfl, rfl⟩⟩, R1.belowB hB hkw, save_under V1 hB⟩

set_option maxHeartbeats 3200000 in
theorem ins2 (k : Nat) (av : Option Addr) (len cap : Nat) (zs : List Int) (s : Rd) (op : Int) (w : World) (h : RdIs w k (.slice av len cap) s) (hg : Kind.Good zs s) (hlen : zs.length = len) (hz : Bytes w av zs) (ha : ∀ b off, av = some ⟨b, off, none⟩ → zs ≠ [] → b ≠ k)
    (hk : kindP op = 2) (hp : partsP op = 4) :
    Calls Tryd.prog 113 #[.pointer (some ⟨k, 0, none⟩), .int .i64 op] w (DoesIx k (.slice av len cap) w (restR zs op s).x (restR zs op s).s) := by
  have hkw : k < w.heap.size := World.block_lt_of_cell? w _ h.c0
  rw [restR2 hk]
  have F := hid (fun w' => follows_any op w')
  rw [hp] at F
  have b1 : bits .and .u8 4 1 = 0 := by decide
  have b2 : bits .and .u8 4 2 = 0 := by decide
  have b4 : bits .and .u8 4 4 = 4 := by decide
  have b8 : bits .and .u8 4 8 = 0 := by decide
  have b16 : bits .and .u8 4 16 = 0 := by decide
  have b32 : bits .and .u8 4 32 = 0 := by decide
  clear hk hp
  have X0 : Bx w.heap.size zeroX ((w.alloc (.cells #[.int .i64 0, .int .i64 0, .int .u32 0, .int .u32 0, .int .i32 0, .slice none 0 0, .slice none 0 0, .slice none 0 0] 61)).alloc (.cells #[.int .i64 op, .int .i64 0, .int .u32 0, .int .u32 0, .int .i32 0, .slice none 0 0, .slice none 0 0, .slice none 0 0] 61)) := (ins_start op w).1
  have Y0 : Bx (w.heap.size + 1) (plainX op 0 0 0 0 []) ((w.alloc (.cells #[.int .i64 0, .int .i64 0, .int .u32 0, .int .u32 0, .int .i32 0, .slice none 0 0, .slice none 0 0, .slice none 0 0] 61)).alloc (.cells #[.int .i64 op, .int .i64 0, .int .u32 0, .int .u32 0, .int .i32 0, .slice none 0 0, .slice none 0 0, .slice none 0 0] 61)) := (ins_start op w).2
  have B0 : Below w.heap.size w ((w.alloc (.cells #[.int .i64 0, .int .i64 0, .int .u32 0, .int .u32 0, .int .i32 0, .slice none 0 0, .slice none 0 0, .slice none 0 0] 61)).alloc (.cells #[.int .i64 op, .int .i64 0, .int .u32 0, .int .u32 0, .int .i32 0, .slice none 0 0, .slice none 0 0, .slice none 0 0] 61)) := thenA (thenA (Below.refl _ _) _) _
  have R0 := hid (h.below B0)
  have V0 : Hid (Save k w ((w.alloc (.cells #[.int .i64 0, .int .i64 0, .int .u32 0, .int .u32 0, .int .i32 0, .slice none 0 0, .slice none 0 0, .slice none 0 0] 61)).alloc (.cells #[.int .i64 op, .int .i64 0, .int .u32 0, .int .u32 0, .int .i32 0, .slice none 0 0, .slice none 0 0, .slice none 0 0] 61))) := hid (Save.of_below B0)
  have X := hid X0
  have Y := hid Y0
  have C1 := hid (fun w' (hr : RdIs w' k (.slice av len cap) s) (hs : Save k w w') => unsigned_any k av len cap zs s w' hr hg hlen (hz.save hs ha))
  have g1 := numR_good hg
  obtain ⟨n1, hn1⟩ : ∃ n, (numR zs s).1 = n := ⟨_, rfl⟩
  obtain ⟨s1, hs1⟩ : ∃ t, (numR zs s).2 = t := ⟨_, rfl⟩
  rw [hn1, hs1] at C1
  rw [hs1] at g1
  rw [hs1]
  rw [hn1]
  clear X0 Y0 B0 hn1 hs1 h hg hlen hz ha g1
  go_enter Tryd.func113, Tryd.ntmps113
  go_wp2_with fail
  refine (F.out _).mono ?_
  rintro e w' ⟨rfl, rfl⟩
  go_wp2_with fail
  refine (C1.out _ R0.out V0.out).mono ?_
  rintro e1 w1 ⟨rfl, R1, sv1⟩
  have V1 := Save.trans (V0.out) sv1
  have X1 := X.out.save sv1 (by omega)
  have Y1 := Y.out.save sv1 (by omega)
  obtain ⟨⟨x0, x1, x2, x3, x4, x5, x6, x7⟩, f0, f1, f2, f3, f4, f5, f6, f7⟩ := X1
  obtain ⟨⟨y0, y1, y2, y3, y4, y5, y6, y7⟩, e0, e1, e2, e3, e4, e5, e6, e7⟩ := Y1
  simp only [zeroX, plainX] at x0 x1 x2 x3 x4 x5 x6 x7 y0 y1 y2 y3 y4 y5 y6 y7
  go_wp2
  refine bodyPost_ret (v := .agg #[.int .i64 op, .int .i64 0, .int .u32 n1, .int .u32 0, .int .i32 0, .slice none 0 0, .slice none 0 0, .slice none 0 0]) (by simp [results, Tryd.results113, go_sem, x0, x1, x2, x3, x4, x5, x6, x7]) rfl ?_
  have hB : Below w.heap.size w1 (((((((((w1.setCell ⟨w.heap.size + 1, 2, none⟩ (.int .u32 n1)).setCell ⟨w.heap.size, 0, none⟩ (.int .i64 op)).setCell ⟨w.heap.size, 1, none⟩ (.int .i64 0)).setCell ⟨w.heap.size, 2, none⟩ (.int .u32 n1)).setCell ⟨w.heap.size, 3, none⟩ (.int .u32 0)).setCell ⟨w.heap.size, 4, none⟩ (.int .i32 0)).setCell ⟨w.heap.size, 5, none⟩ (.slice none 0 0)).setCell ⟨w.heap.size, 6, none⟩ (.slice none 0 0)).setCell ⟨w.heap.size, 7, none⟩ (.slice none 0 0)) := by
    repeat' (refine Below.setCell ?_ (by simp) _)
    exact Below.refl _ _
  exact ⟨none, 0, rfl, ⟨rfl, .inl ⟨rfl, rfl⟩⟩, R1.belowB hB hkw, save_under V1 hB⟩

set_option maxHeartbeats 3200000 in
theorem ins3 (k : Nat) (av : Option Addr) (len cap : Nat) (zs : List Int) (s : Rd) (op : Int) (w : World) (h : RdIs w k (.slice av len cap) s) (hg : Kind.Good zs s) (hlen : zs.length = len) (hz : Bytes w av zs) (ha : ∀ b off, av = some ⟨b, off, none⟩ → zs ≠ [] → b ≠ k)
    (hk : kindP op = 3) (hp : partsP op = 36) :
    Calls Tryd.prog 113 #[.pointer (some ⟨k, 0, none⟩), .int .i64 op] w (DoesIx k (.slice av len cap) w (restR zs op s).x (restR zs op s).s) := by
  have hkw : k < w.heap.size := World.block_lt_of_cell? w _ h.c0
  rw [restR3 hk]
  have F := hid (fun w' => follows_any op w')
  rw [hp] at F
  have b1 : bits .and .u8 36 1 = 0 := by decide
  have b2 : bits .and .u8 36 2 = 0 := by decide
  have b4 : bits .and .u8 36 4 = 4 := by decide
  have b8 : bits .and .u8 36 8 = 0 := by decide
  have b16 : bits .and .u8 36 16 = 0 := by decide
  have b32 : bits .and .u8 36 32 = 32 := by decide
  clear hk hp
  have X0 : Bx w.heap.size zeroX ((w.alloc (.cells #[.int .i64 0, .int .i64 0, .int .u32 0, .int .u32 0, .int .i32 0, .slice none 0 0, .slice none 0 0, .slice none 0 0] 61)).alloc (.cells #[.int .i64 op, .int .i64 0, .int .u32 0, .int .u32 0, .int .i32 0, .slice none 0 0, .slice none 0 0, .slice none 0 0] 61)) := (ins_start op w).1
  have Y0 : Bx (w.heap.size + 1) (plainX op 0 0 0 0 []) ((w.alloc (.cells #[.int .i64 0, .int .i64 0, .int .u32 0, .int .u32 0, .int .i32 0, .slice none 0 0, .slice none 0 0, .slice none 0 0] 61)).alloc (.cells #[.int .i64 op, .int .i64 0, .int .u32 0, .int .u32 0, .int .i32 0, .slice none 0 0, .slice none 0 0, .slice none 0 0] 61)) := (ins_start op w).2
  have B0 : Below w.heap.size w ((w.alloc (.cells #[.int .i64 0, .int .i64 0, .int .u32 0, .int .u32 0, .int .i32 0, .slice none 0 0, .slice none 0 0, .slice none 0 0] 61)).alloc (.cells #[.int .i64 op, .int .i64 0, .int .u32 0, .int .u32 0, .int .i32 0, .slice none 0 0, .slice none 0 0, .slice none 0 0] 61)) := thenA (thenA (Below.refl _ _) _) _
  have R0 := hid (h.below B0)
  have V0 : Hid (Save k w ((w.alloc (.cells #[.int .i64 0, .int .i64 0, .int .u32 0, .int .u32 0, .int .i32 0, .slice none 0 0, .slice none 0 0, .slice none 0 0] 61)).alloc (.cells #[.int .i64 op, .int .i64 0, .int .u32 0, .int .u32 0, .int .i32 0, .slice none 0 0, .slice none 0 0, .slice none 0 0] 61))) := hid (Save.of_below B0)
  have X := hid X0
  have Y := hid Y0
  have C1 := hid (fun w' (hr : RdIs w' k (.slice av len cap) s) (hs : Save k w w') => unsigned_any k av len cap zs s w' hr hg hlen (hz.save hs ha))
  have g1 := numR_good hg
  obtain ⟨n1, hn1⟩ : ∃ n, (numR zs s).1 = n := ⟨_, rfl⟩
  obtain ⟨s1, hs1⟩ : ∃ t, (numR zs s).2 = t := ⟨_, rfl⟩
  rw [hn1, hs1] at C1
  rw [hs1] at g1
  rw [hs1]
  rw [hn1]
  have C2 := hid (fun w' g (hr : RdIs w' k (.slice av len cap) s1) (hs : Save k w w') (hl : Bytes w' (some ⟨g, 0, none⟩) [0]) (hgk : g ≠ k) => oneOf_any k av len cap zs s1 (some ⟨g, 0, none⟩) 1 1 [0] isNone w' hr g1 hlen (hz.save hs ha) rfl hl (fun b off e _ => by cases e; exact hgk) isNone_in)
  have g2 := tagR_good (ok := isNone) g1
  obtain ⟨n2, hn2⟩ : ∃ n, (tagR zs isNone s1).1 = n := ⟨_, rfl⟩
  obtain ⟨s2, hs2⟩ : ∃ t, (tagR zs isNone s1).2 = t := ⟨_, rfl⟩
  rw [hn2, hs2] at C2
  rw [hs2] at g2
  rw [hs2]
  clear X0 Y0 B0 hn1 hs1 hn2 hs2 h hg hlen hz ha g1 g2
  go_enter Tryd.func113, Tryd.ntmps113
  go_wp2_with fail
  refine (F.out _).mono ?_
  rintro e w' ⟨rfl, rfl⟩
  go_wp2_with fail
  refine (C1.out _ R0.out V0.out).mono ?_
  rintro e1 w1 ⟨rfl, R1, sv1⟩
  have V1 := Save.trans (V0.out) sv1
  have X1 := X.out.save sv1 (by omega)
  have Y1 := Y.out.save sv1 (by omega)
  have hB1 : Below w.heap.size w1 (w1.setCell ⟨w.heap.size + 1, 2, none⟩ (.int .u32 n1)) := (Below.refl _ _).setCell (by simp) _
  have R1c := R1.belowB hB1 hkw
  have V1c := save_under V1 hB1
  have X1c := X1.other (p := ⟨w.heap.size + 1, 2, none⟩) (by simp) (.int .u32 n1)
  have Y1c := Y1.setA n1
  have RH1 := hid R1c
  have VH1 := hid V1c
  have XH1 := hid X1c
  have YH1 := hid Y1c
  have y1_c := Y1.at_.c2
  have y1_f := Y1.f2
  clear R1 V1 X1 Y1 R1c V1c X1c Y1c
  have BB2 : Bytes ((w1.setCell ⟨w.heap.size + 1, 2, none⟩ (.int .u32 n1)).alloc (.cells #[.int .u8 0] 5)) (some ⟨w1.heap.size, 0, none⟩) [0] := by have := bytes_one ((w1.setCell ⟨w.heap.size + 1, 2, none⟩ (.int .u32 n1))) 0 (by omega); simpa using this
  have RR2 : RdIs ((w1.setCell ⟨w.heap.size + 1, 2, none⟩ (.int .u32 n1)).alloc (.cells #[.int .u8 0] 5)) k (.slice av len cap) s1 := (RH1.out).below ((Below.refl _ _).alloc (Nat.le_refl _) _)
  have VV2 : Save k w ((w1.setCell ⟨w.heap.size + 1, 2, none⟩ (.int .u32 n1)).alloc (.cells #[.int .u8 0] 5)) := Save.alloc (VH1.out) _
  have KB2 : w1.heap.size ≠ k := by have := (VH1.out).size; simp at this ⊢; omega
  have BH2 := hid BB2
  have RG2 := hid RR2
  have VG2 := hid VV2
  have KG2 := hid KB2
  clear BB2 RR2 VV2 KB2
  go_wp2_with fail
  refine (C2.out _ _ RG2.out VG2.out BH2.out KG2.out).mono ?_
  rintro e2 w2 ⟨rfl, R2, sv2⟩
  have V2 := (Save.alloc (VH1.out) _).trans sv2
  have X2 := (XH1.out.alloc _).save sv2 (by omega)
  have Y2 := (YH1.out.alloc _).save sv2 (by omega)
  obtain ⟨⟨x0, x1, x2, x3, x4, x5, x6, x7⟩, f0, f1, f2, f3, f4, f5, f6, f7⟩ := X2
  obtain ⟨⟨y0, y1, y2, y3, y4, y5, y6, y7⟩, e0, e1, e2, e3, e4, e5, e6, e7⟩ := Y2
  simp only [zeroX, plainX] at x0 x1 x2 x3 x4 x5 x6 x7 y0 y1 y2 y3 y4 y5 y6 y7
  go_wp2
  refine bodyPost_ret (v := .agg #[.int .i64 op, .int .i64 0, .int .u32 n1, .int .u32 0, .int .i32 0, .slice none 0 0, .slice none 0 0, .slice none 0 0]) (by simp [results, Tryd.results113, go_sem, x0, x1, x2, x3, x4, x5, x6, x7]) rfl ?_
  have hB : Below w.heap.size w2 ((((((((w2.setCell ⟨w.heap.size, 0, none⟩ (.int .i64 op)).setCell ⟨w.heap.size, 1, none⟩ (.int .i64 0)).setCell ⟨w.heap.size, 2, none⟩ (.int .u32 n1)).setCell ⟨w.heap.size, 3, none⟩ (.int .u32 0)).setCell ⟨w.heap.size, 4, none⟩ (.int .i32 0)).setCell ⟨w.heap.size, 5, none⟩ (.slice none 0 0)).setCell ⟨w.heap.size, 6, none⟩ (.slice none 0 0)).setCell ⟨w.heap.size, 7, none⟩ (.slice none 0 0)) := by
    repeat' (refine Below.setCell ?_ (by simp) _)
    exact Below.refl _ _
  exact ⟨none, 0, rfl, ⟨rfl, .inl ⟨rfl, rfl⟩⟩, R2.belowB hB hkw, save_under V2 hB⟩

set_option maxHeartbeats 3200000 in
theorem ins4 (k : Nat) (av : Option Addr) (len cap : Nat) (zs : List Int) (s : Rd) (op : Int) (w : World) (h : RdIs w k (.slice av len cap) s) (hg : Kind.Good zs s) (hlen : zs.length = len) (hz : Bytes w av zs) (ha : ∀ b off, av = some ⟨b, off, none⟩ → zs ≠ [] → b ≠ k)
    (hk : kindP op = 4) (hp : partsP op = 6) :
    Calls Tryd.prog 113 #[.pointer (some ⟨k, 0, none⟩), .int .i64 op] w (DoesIx k (.slice av len cap) w (restR zs op s).x (restR zs op s).s) := by
  have hkw : k < w.heap.size := World.block_lt_of_cell? w _ h.c0
  rw [restR4 hk]
  have F := hid (fun w' => follows_any op w')
  rw [hp] at F
  have b1 : bits .and .u8 6 1 = 0 := by decide
  have b2 : bits .and .u8 6 2 = 2 := by decide
  have b4 : bits .and .u8 6 4 = 4 := by decide
  have b8 : bits .and .u8 6 8 = 0 := by decide
  have b16 : bits .and .u8 6 16 = 0 := by decide
  have b32 : bits .and .u8 6 32 = 0 := by decide
  clear hk hp
  have X0 : Bx w.heap.size zeroX ((w.alloc (.cells #[.int .i64 0, .int .i64 0, .int .u32 0, .int .u32 0, .int .i32 0, .slice none 0 0, .slice none 0 0, .slice none 0 0] 61)).alloc (.cells #[.int .i64 op, .int .i64 0, .int .u32 0, .int .u32 0, .int .i32 0, .slice none 0 0, .slice none 0 0, .slice none 0 0] 61)) := (ins_start op w).1
  have Y0 : Bx (w.heap.size + 1) (plainX op 0 0 0 0 []) ((w.alloc (.cells #[.int .i64 0, .int .i64 0, .int .u32 0, .int .u32 0, .int .i32 0, .slice none 0 0, .slice none 0 0, .slice none 0 0] 61)).alloc (.cells #[.int .i64 op, .int .i64 0, .int .u32 0, .int .u32 0, .int .i32 0, .slice none 0 0, .slice none 0 0, .slice none 0 0] 61)) := (ins_start op w).2
  have B0 : Below w.heap.size w ((w.alloc (.cells #[.int .i64 0, .int .i64 0, .int .u32 0, .int .u32 0, .int .i32 0, .slice none 0 0, .slice none 0 0, .slice none 0 0] 61)).alloc (.cells #[.int .i64 op, .int .i64 0, .int .u32 0, .int .u32 0, .int .i32 0, .slice none 0 0, .slice none 0 0, .slice none 0 0] 61)) := thenA (thenA (Below.refl _ _) _) _
  have R0 := hid (h.below B0)
  have V0 : Hid (Save k w ((w.alloc (.cells #[.int .i64 0, .int .i64 0, .int .u32 0, .int .u32 0, .int .i32 0, .slice none 0 0, .slice none 0 0, .slice none 0 0] 61)).alloc (.cells #[.int .i64 op, .int .i64 0, .int .u32 0, .int .u32 0, .int .i32 0, .slice none 0 0, .slice none 0 0, .slice none 0 0] 61))) := hid (Save.of_below B0)
  have X := hid X0
  have Y := hid Y0
  have C1 := hid (fun w' (hr : RdIs w' k (.slice av len cap) s) (hs : Save k w w') => labels_any k av len cap zs s w' hr hg hlen (hz.save hs ha) ha)
  have g1 := labelsR_good hg
  obtain ⟨n1, hn1⟩ : ∃ n, (labelsR zs s).1 = n := ⟨_, rfl⟩
  obtain ⟨s1, hs1⟩ : ∃ t, (labelsR zs s).2 = t := ⟨_, rfl⟩
  rw [hn1, hs1] at C1
  rw [hs1] at g1
  rw [hs1]
  rw [hn1]
  have C2 := hid (fun w' (hr : RdIs w' k (.slice av len cap) s1) (hs : Save k w w') => unsigned_any k av len cap zs s1 w' hr g1 hlen (hz.save hs ha))
  have g2 := numR_good g1
  obtain ⟨n2, hn2⟩ : ∃ n, (numR zs s1).1 = n := ⟨_, rfl⟩
  obtain ⟨s2, hs2⟩ : ∃ t, (numR zs s1).2 = t := ⟨_, rfl⟩
  rw [hn2, hs2] at C2
  rw [hs2] at g2
  rw [hs2]
  rw [hn2]
  clear X0 Y0 B0 hn1 hs1 hn2 hs2 h hg hlen hz ha g1 g2
  go_enter Tryd.func113, Tryd.ntmps113
  go_wp2_with fail
  refine (F.out _).mono ?_
  rintro e w' ⟨rfl, rfl⟩
  go_wp2_with fail
  refine (C1.out _ R0.out V0.out).mono ?_
  rintro e1 w1 ⟨rv, rfl, TO0, R1, sv1⟩
  obtain ⟨ta, tc, rfl⟩ := TO0.sliceN rfl
  have TO1 := hid (TO0.mono (base' := w.heap.size + 2) (by simp))
  clear TO0
  have V1 := Save.trans (V0.out) sv1
  have X1 := X.out.save sv1 (by omega)
  have Y1 := Y.out.save sv1 (by omega)
  have hB1 : Below w.heap.size w1 (w1.setCell ⟨w.heap.size + 1, 5, none⟩ (.slice ta n1.length tc)) := (Below.refl _ _).setCell (by simp) _
  have R1c := R1.belowB hB1 hkw
  have V1c := save_under V1 hB1
  have X1c := X1.other (p := ⟨w.heap.size + 1, 5, none⟩) (by simp) (.slice ta n1.length tc)
  have Y1c := Y1.setT n1 ta tc
  have TO1c := hid (TO1.out.setCell (p := ⟨w.heap.size + 1, 5, none⟩) (by simp) (.slice ta n1.length tc))
  have RH1 := hid R1c
  have VH1 := hid V1c
  have XH1 := hid X1c
  have YH1 := hid Y1c
  have y1_c := Y1.at_.c5
  have y1_f := Y1.f5
  clear R1 V1 X1 Y1 R1c V1c X1c Y1c
  go_wp2_with fail
  refine (C2.out _ RH1.out VH1.out).mono ?_
  rintro e2 w2 ⟨rfl, R2, sv2⟩
  have V2 := Save.trans (VH1.out) sv2
  have X2 := XH1.out.save sv2 (by omega)
  have Y2 := YH1.out.save sv2 (by omega)
  have TO2 := hid (ownK_save TO1c.out sv2 (by omega))
  obtain ⟨⟨x0, x1, x2, x3, x4, x5, x6, x7⟩, f0, f1, f2, f3, f4, f5, f6, f7⟩ := X2
  obtain ⟨⟨y0, y1, y2, y3, y4, y5, y6, y7⟩, e0, e1, e2, e3, e4, e5, e6, e7⟩ := Y2
  simp only [zeroX, plainX] at x0 x1 x2 x3 x4 x5 x6 x7 y0 y1 y2 y3 y4 y5 y6 y7
  go_wp2
  refine bodyPost_ret (v := .agg #[.int .i64 op, .int .i64 0, .int .u32 n2, .int .u32 0, .int .i32 0, .slice ta n1.length tc, .slice none 0 0, .slice none 0 0]) (by simp [results, Tryd.results113, go_sem, x0, x1, x2, x3, x4, x5, x6, x7]) rfl ?_
  have hB : Below w.heap.size w2 (((((((((w2.setCell ⟨w.heap.size + 1, 2, none⟩ (.int .u32 n2)).setCell ⟨w.heap.size, 0, none⟩ (.int .i64 op)).setCell ⟨w.heap.size, 1, none⟩ (.int .i64 0)).setCell ⟨w.heap.size, 2, none⟩ (.int .u32 n2)).setCell ⟨w.heap.size, 3, none⟩ (.int .u32 0)).setCell ⟨w.heap.size, 4, none⟩ (.int .i32 0)).setCell ⟨w.heap.size, 5, none⟩ (.slice ta n1.length tc)).setCell ⟨w.heap.size, 6, none⟩ (.slice none 0 0)).setCell ⟨w.heap.size, 7, none⟩ (.slice none 0 0)) := by
    repeat' (refine Below.setCell ?_ (by simp) _)
    exact Below.refl _ _
  exact ⟨ta, tc, rfl, OwnK.mono (base := w.heap.size + 2) (by
      repeat' (refine OwnK.setCell ?_ (by simp <;> omega) _)
      exact TO2.out) (by omega), R2.belowB hB hkw, save_under V2 hB⟩

set_option maxHeartbeats 3200000 in
theorem ins5 (k : Nat) (av : Option Addr) (len cap : Nat) (zs : List Int) (s : Rd) (op : Int) (w : World) (h : RdIs w k (.slice av len cap) s) (hg : Kind.Good zs s) (hlen : zs.length = len) (hz : Bytes w av zs) (ha : ∀ b off, av = some ⟨b, off, none⟩ → zs ≠ [] → b ≠ k)
    (hk : kindP op = 5) (hp : partsP op = 12) :
    Calls Tryd.prog 113 #[.pointer (some ⟨k, 0, none⟩), .int .i64 op] w (DoesIx k (.slice av len cap) w (restR zs op s).x (restR zs op s).s) := by
  have hkw : k < w.heap.size := World.block_lt_of_cell? w _ h.c0
  rw [restR5 hk]
  have F := hid (fun w' => follows_any op w')
  rw [hp] at F
  have b1 : bits .and .u8 12 1 = 0 := by decide
  have b2 : bits .and .u8 12 2 = 0 := by decide
  have b4 : bits .and .u8 12 4 = 4 := by decide
  have b8 : bits .and .u8 12 8 = 8 := by decide
  have b16 : bits .and .u8 12 16 = 0 := by decide
  have b32 : bits .and .u8 12 32 = 0 := by decide
  clear hk hp
  have X0 : Bx w.heap.size zeroX ((w.alloc (.cells #[.int .i64 0, .int .i64 0, .int .u32 0, .int .u32 0, .int .i32 0, .slice none 0 0, .slice none 0 0, .slice none 0 0] 61)).alloc (.cells #[.int .i64 op, .int .i64 0, .int .u32 0, .int .u32 0, .int .i32 0, .slice none 0 0, .slice none 0 0, .slice none 0 0] 61)) := (ins_start op w).1
  have Y0 : Bx (w.heap.size + 1) (plainX op 0 0 0 0 []) ((w.alloc (.cells #[.int .i64 0, .int .i64 0, .int .u32 0, .int .u32 0, .int .i32 0, .slice none 0 0, .slice none 0 0, .slice none 0 0] 61)).alloc (.cells #[.int .i64 op, .int .i64 0, .int .u32 0, .int .u32 0, .int .i32 0, .slice none 0 0, .slice none 0 0, .slice none 0 0] 61)) := (ins_start op w).2
  have B0 : Below w.heap.size w ((w.alloc (.cells #[.int .i64 0, .int .i64 0, .int .u32 0, .int .u32 0, .int .i32 0, .slice none 0 0, .slice none 0 0, .slice none 0 0] 61)).alloc (.cells #[.int .i64 op, .int .i64 0, .int .u32 0, .int .u32 0, .int .i32 0, .slice none 0 0, .slice none 0 0, .slice none 0 0] 61)) := thenA (thenA (Below.refl _ _) _) _
  have R0 := hid (h.below B0)
  have V0 : Hid (Save k w ((w.alloc (.cells #[.int .i64 0, .int .i64 0, .int .u32 0, .int .u32 0, .int .i32 0, .slice none 0 0, .slice none 0 0, .slice none 0 0] 61)).alloc (.cells #[.int .i64 op, .int .i64 0, .int .u32 0, .int .u32 0, .int .i32 0, .slice none 0 0, .slice none 0 0, .slice none 0 0] 61))) := hid (Save.of_below B0)
  have X := hid X0
  have Y := hid Y0
  have C1 := hid (fun w' (hr : RdIs w' k (.slice av len cap) s) (hs : Save k w w') => unsigned_any k av len cap zs s w' hr hg hlen (hz.save hs ha))
  have g1 := numR_good hg
  obtain ⟨n1, hn1⟩ : ∃ n, (numR zs s).1 = n := ⟨_, rfl⟩
  obtain ⟨s1, hs1⟩ : ∃ t, (numR zs s).2 = t := ⟨_, rfl⟩
  rw [hn1, hs1] at C1
  rw [hs1] at g1
  rw [hs1]
  rw [hn1]
  have C2 := hid (fun w' (hr : RdIs w' k (.slice av len cap) s1) (hs : Save k w w') => unsigned_any k av len cap zs s1 w' hr g1 hlen (hz.save hs ha))
  have g2 := numR_good g1
  obtain ⟨n2, hn2⟩ : ∃ n, (numR zs s1).1 = n := ⟨_, rfl⟩
  obtain ⟨s2, hs2⟩ : ∃ t, (numR zs s1).2 = t := ⟨_, rfl⟩
  rw [hn2, hs2] at C2
  rw [hs2] at g2
  rw [hs2]
  rw [hn2]
  clear X0 Y0 B0 hn1 hs1 hn2 hs2 h hg hlen hz ha g1 g2
  go_enter Tryd.func113, Tryd.ntmps113
  go_wp2_with fail
  refine (F.out _).mono ?_
  rintro e w' ⟨rfl, rfl⟩
  go_wp2_with fail
  refine (C1.out _ R0.out V0.out).mono ?_
  rintro e1 w1 ⟨rfl, R1, sv1⟩
  have V1 := Save.trans (V0.out) sv1
  have X1 := X.out.save sv1 (by omega)
  have Y1 := Y.out.save sv1 (by omega)
  have hB1 : Below w.heap.size w1 (w1.setCell ⟨w.heap.size + 1, 2, none⟩ (.int .u32 n1)) := (Below.refl _ _).setCell (by simp) _
  have R1c := R1.belowB hB1 hkw
  have V1c := save_under V1 hB1
  have X1c := X1.other (p := ⟨w.heap.size + 1, 2, none⟩) (by simp) (.int .u32 n1)
  have Y1c := Y1.setA n1
  have RH1 := hid R1c
  have VH1 := hid V1c
  have XH1 := hid X1c
  have YH1 := hid Y1c
  have y1_c := Y1.at_.c2
  have y1_f := Y1.f2
  clear R1 V1 X1 Y1 R1c V1c X1c Y1c
  go_wp2_with fail
  refine (C2.out _ RH1.out VH1.out).mono ?_
  rintro e2 w2 ⟨rfl, R2, sv2⟩
  have V2 := Save.trans (VH1.out) sv2
  have X2 := XH1.out.save sv2 (by omega)
  have Y2 := YH1.out.save sv2 (by omega)
  obtain ⟨⟨x0, x1, x2, x3, x4, x5, x6, x7⟩, f0, f1, f2, f3, f4, f5, f6, f7⟩ := X2
  obtain ⟨⟨y0, y1, y2, y3, y4, y5, y6, y7⟩, e0, e1, e2, e3, e4, e5, e6, e7⟩ := Y2
  simp only [zeroX, plainX] at x0 x1 x2 x3 x4 x5 x6 x7 y0 y1 y2 y3 y4 y5 y6 y7
  go_wp2
  refine bodyPost_ret (v := .agg #[.int .i64 op, .int .i64 0, .int .u32 n1, .int .u32 n2, .int .i32 0, .slice none 0 0, .slice none 0 0, .slice none 0 0]) (by simp [results, Tryd.results113, go_sem, x0, x1, x2, x3, x4, x5, x6, x7]) rfl ?_
  have hB : Below w.heap.size w2 (((((((((w2.setCell ⟨w.heap.size + 1, 3, none⟩ (.int .u32 n2)).setCell ⟨w.heap.size, 0, none⟩ (.int .i64 op)).setCell ⟨w.heap.size, 1, none⟩ (.int .i64 0)).setCell ⟨w.heap.size, 2, none⟩ (.int .u32 n1)).setCell ⟨w.heap.size, 3, none⟩ (.int .u32 n2)).setCell ⟨w.heap.size, 4, none⟩ (.int .i32 0)).setCell ⟨w.heap.size, 5, none⟩ (.slice none 0 0)).setCell ⟨w.heap.size, 6, none⟩ (.slice none 0 0)).setCell ⟨w.heap.size, 7, none⟩ (.slice none 0 0)) := by
    repeat' (refine Below.setCell ?_ (by simp) _)
    exact Below.refl _ _
  exact ⟨none, 0, rfl, ⟨rfl, .inl ⟨rfl, rfl⟩⟩, R2.belowB hB hkw, save_under V2 hB⟩

set_option maxHeartbeats 3200000 in
theorem ins6 (k : Nat) (av : Option Addr) (len cap : Nat) (zs : List Int) (s : Rd) (op : Int) (w : World) (h : RdIs w k (.slice av len cap) s) (hg : Kind.Good zs s) (hlen : zs.length = len) (hz : Bytes w av zs) (ha : ∀ b off, av = some ⟨b, off, none⟩ → zs ≠ [] → b ≠ k)
    (hk : kindP op = 6) (hp : partsP op = 32) :
    Calls Tryd.prog 113 #[.pointer (some ⟨k, 0, none⟩), .int .i64 op] w (DoesIx k (.slice av len cap) w (restR zs op s).x (restR zs op s).s) := by
  have hkw : k < w.heap.size := World.block_lt_of_cell? w _ h.c0
  rw [restR6 hk]
  have F := hid (fun w' => follows_any op w')
  rw [hp] at F
  have b1 : bits .and .u8 32 1 = 0 := by decide
  have b2 : bits .and .u8 32 2 = 0 := by decide
  have b4 : bits .and .u8 32 4 = 0 := by decide
  have b8 : bits .and .u8 32 8 = 0 := by decide
  have b16 : bits .and .u8 32 16 = 0 := by decide
  have b32 : bits .and .u8 32 32 = 32 := by decide
  clear hk hp
  have X0 : Bx w.heap.size zeroX ((w.alloc (.cells #[.int .i64 0, .int .i64 0, .int .u32 0, .int .u32 0, .int .i32 0, .slice none 0 0, .slice none 0 0, .slice none 0 0] 61)).alloc (.cells #[.int .i64 op, .int .i64 0, .int .u32 0, .int .u32 0, .int .i32 0, .slice none 0 0, .slice none 0 0, .slice none 0 0] 61)) := (ins_start op w).1
  have Y0 : Bx (w.heap.size + 1) (plainX op 0 0 0 0 []) ((w.alloc (.cells #[.int .i64 0, .int .i64 0, .int .u32 0, .int .u32 0, .int .i32 0, .slice none 0 0, .slice none 0 0, .slice none 0 0] 61)).alloc (.cells #[.int .i64 op, .int .i64 0, .int .u32 0, .int .u32 0, .int .i32 0, .slice none 0 0, .slice none 0 0, .slice none 0 0] 61)) := (ins_start op w).2
  have B0 : Below w.heap.size w ((w.alloc (.cells #[.int .i64 0, .int .i64 0, .int .u32 0, .int .u32 0, .int .i32 0, .slice none 0 0, .slice none 0 0, .slice none 0 0] 61)).alloc (.cells #[.int .i64 op, .int .i64 0, .int .u32 0, .int .u32 0, .int .i32 0, .slice none 0 0, .slice none 0 0, .slice none 0 0] 61)) := thenA (thenA (Below.refl _ _) _) _
  have R0 := hid (h.below B0)
  have V0 : Hid (Save k w ((w.alloc (.cells #[.int .i64 0, .int .i64 0, .int .u32 0, .int .u32 0, .int .i32 0, .slice none 0 0, .slice none 0 0, .slice none 0 0] 61)).alloc (.cells #[.int .i64 op, .int .i64 0, .int .u32 0, .int .u32 0, .int .i32 0, .slice none 0 0, .slice none 0 0, .slice none 0 0] 61))) := hid (Save.of_below B0)
  have X := hid X0
  have Y := hid Y0
  have C1 := hid (fun w' g (hr : RdIs w' k (.slice av len cap) s) (hs : Save k w w') (hl : Bytes w' (some ⟨g, 0, none⟩) [0]) (hgk : g ≠ k) => oneOf_any k av len cap zs s (some ⟨g, 0, none⟩) 1 1 [0] isNone w' hr hg hlen (hz.save hs ha) rfl hl (fun b off e _ => by cases e; exact hgk) isNone_in)
  have g1 := tagR_good (ok := isNone) hg
  obtain ⟨n1, hn1⟩ : ∃ n, (tagR zs isNone s).1 = n := ⟨_, rfl⟩
  obtain ⟨s1, hs1⟩ : ∃ t, (tagR zs isNone s).2 = t := ⟨_, rfl⟩
  rw [hn1, hs1] at C1
  rw [hs1] at g1
  rw [hs1]
  clear X0 Y0 B0 hn1 hs1 h hg hlen hz ha g1
  go_enter Tryd.func113, Tryd.ntmps113
  go_wp2_with fail
  refine (F.out _).mono ?_
  rintro e w' ⟨rfl, rfl⟩
  have BB1 : Bytes (((w.alloc (.cells #[.int .i64 0, .int .i64 0, .int .u32 0, .int .u32 0, .int .i32 0, .slice none 0 0, .slice none 0 0, .slice none 0 0] 61)).alloc (.cells #[.int .i64 op, .int .i64 0, .int .u32 0, .int .u32 0, .int .i32 0, .slice none 0 0, .slice none 0 0, .slice none 0 0] 61)).alloc (.cells #[.int .u8 0] 5)) (some ⟨(w.heap.size + 1 + 1), 0, none⟩) [0] := by have := bytes_one (((w.alloc (.cells #[.int .i64 0, .int .i64 0, .int .u32 0, .int .u32 0, .int .i32 0, .slice none 0 0, .slice none 0 0, .slice none 0 0] 61)).alloc (.cells #[.int .i64 op, .int .i64 0, .int .u32 0, .int .u32 0, .int .i32 0, .slice none 0 0, .slice none 0 0, .slice none 0 0] 61))) 0 (by omega); simpa using this
  have RR1 : RdIs (((w.alloc (.cells #[.int .i64 0, .int .i64 0, .int .u32 0, .int .u32 0, .int .i32 0, .slice none 0 0, .slice none 0 0, .slice none 0 0] 61)).alloc (.cells #[.int .i64 op, .int .i64 0, .int .u32 0, .int .u32 0, .int .i32 0, .slice none 0 0, .slice none 0 0, .slice none 0 0] 61)).alloc (.cells #[.int .u8 0] 5)) k (.slice av len cap) s := (R0.out).below ((Below.refl _ _).alloc (Nat.le_refl _) _)
  have VV1 : Save k w (((w.alloc (.cells #[.int .i64 0, .int .i64 0, .int .u32 0, .int .u32 0, .int .i32 0, .slice none 0 0, .slice none 0 0, .slice none 0 0] 61)).alloc (.cells #[.int .i64 op, .int .i64 0, .int .u32 0, .int .u32 0, .int .i32 0, .slice none 0 0, .slice none 0 0, .slice none 0 0] 61)).alloc (.cells #[.int .u8 0] 5)) := Save.alloc (V0.out) _
  have KB1 : (w.heap.size + 1 + 1) ≠ k := by have := (V0.out).size; simp at this ⊢; omega
  have BH1 := hid BB1
  have RG1 := hid RR1
  have VG1 := hid VV1
  have KG1 := hid KB1
  clear BB1 RR1 VV1 KB1
  go_wp2_with fail
  refine (C1.out _ _ RG1.out VG1.out BH1.out KG1.out).mono ?_
  rintro e1 w1 ⟨rfl, R1, sv1⟩
  have V1 := (Save.alloc (V0.out) _).trans sv1
  have X1 := (X.out.alloc _).save sv1 (by omega)
  have Y1 := (Y.out.alloc _).save sv1 (by omega)
  obtain ⟨⟨x0, x1, x2, x3, x4, x5, x6, x7⟩, f0, f1, f2, f3, f4, f5, f6, f7⟩ := X1
  obtain ⟨⟨y0, y1, y2, y3, y4, y5, y6, y7⟩, e0, e1, e2, e3, e4, e5, e6, e7⟩ := Y1
  simp only [zeroX, plainX] at x0 x1 x2 x3 x4 x5 x6 x7 y0 y1 y2 y3 y4 y5 y6 y7
  go_wp2
  refine bodyPost_ret (v := .agg #[.int .i64 op, .int .i64 0, .int .u32 0, .int .u32 0, .int .i32 0, .slice none 0 0, .slice none 0 0, .slice none 0 0]) (by simp [results, Tryd.results113, go_sem, x0, x1, x2, x3, x4, x5, x6, x7]) rfl ?_
  have hB : Below w.heap.size w1 ((((((((w1.setCell ⟨w.heap.size, 0, none⟩ (.int .i64 op)).setCell ⟨w.heap.size, 1, none⟩ (.int .i64 0)).setCell ⟨w.heap.size, 2, none⟩ (.int .u32 0)).setCell ⟨w.heap.size, 3, none⟩ (.int .u32 0)).setCell ⟨w.heap.size, 4, none⟩ (.int .i32 0)).setCell ⟨w.heap.size, 5, none⟩ (.slice none 0 0)).setCell ⟨w.heap.size, 6, none⟩ (.slice none 0 0)).setCell ⟨w.heap.size, 7, none⟩ (.slice none 0 0)) := by
    repeat' (refine Below.setCell ?_ (by simp) _)
    exact Below.refl _ _
  exact ⟨none, 0, rfl, ⟨rfl, .inl ⟨rfl, rfl⟩⟩, R1.belowB hB hkw, save_under V1 hB⟩

set_option maxHeartbeats 3200000 in
theorem ins7 (k : Nat) (av : Option Addr) (len cap : Nat) (zs : List Int) (s : Rd) (op : Int) (w : World) (h : RdIs w k (.slice av len cap) s) (hg : Kind.Good zs s) (hlen : zs.length = len) (hz : Bytes w av zs) (ha : ∀ b off, av = some ⟨b, off, none⟩ → zs ≠ [] → b ≠ k)
    (hk : kindP op = 7) (hp : partsP op = 16) :
    Calls Tryd.prog 113 #[.pointer (some ⟨k, 0, none⟩), .int .i64 op] w (DoesIx k (.slice av len cap) w (restR zs op s).x (restR zs op s).s) := by
  have hkw : k < w.heap.size := World.block_lt_of_cell? w _ h.c0
  rw [restR7 hk]
  have F := hid (fun w' => follows_any op w')
  rw [hp] at F
  have b1 : bits .and .u8 16 1 = 0 := by decide
  have b2 : bits .and .u8 16 2 = 0 := by decide
  have b4 : bits .and .u8 16 4 = 0 := by decide
  have b8 : bits .and .u8 16 8 = 0 := by decide
  have b16 : bits .and .u8 16 16 = 16 := by decide
  have b32 : bits .and .u8 16 32 = 0 := by decide
  clear hk hp
  have X0 : Bx w.heap.size zeroX ((w.alloc (.cells #[.int .i64 0, .int .i64 0, .int .u32 0, .int .u32 0, .int .i32 0, .slice none 0 0, .slice none 0 0, .slice none 0 0] 61)).alloc (.cells #[.int .i64 op, .int .i64 0, .int .u32 0, .int .u32 0, .int .i32 0, .slice none 0 0, .slice none 0 0, .slice none 0 0] 61)) := (ins_start op w).1
  have Y0 : Bx (w.heap.size + 1) (plainX op 0 0 0 0 []) ((w.alloc (.cells #[.int .i64 0, .int .i64 0, .int .u32 0, .int .u32 0, .int .i32 0, .slice none 0 0, .slice none 0 0, .slice none 0 0] 61)).alloc (.cells #[.int .i64 op, .int .i64 0, .int .u32 0, .int .u32 0, .int .i32 0, .slice none 0 0, .slice none 0 0, .slice none 0 0] 61)) := (ins_start op w).2
  have B0 : Below w.heap.size w ((w.alloc (.cells #[.int .i64 0, .int .i64 0, .int .u32 0, .int .u32 0, .int .i32 0, .slice none 0 0, .slice none 0 0, .slice none 0 0] 61)).alloc (.cells #[.int .i64 op, .int .i64 0, .int .u32 0, .int .u32 0, .int .i32 0, .slice none 0 0, .slice none 0 0, .slice none 0 0] 61)) := thenA (thenA (Below.refl _ _) _) _
  have R0 := hid (h.below B0)
  have V0 : Hid (Save k w ((w.alloc (.cells #[.int .i64 0, .int .i64 0, .int .u32 0, .int .u32 0, .int .i32 0, .slice none 0 0, .slice none 0 0, .slice none 0 0] 61)).alloc (.cells #[.int .i64 op, .int .i64 0, .int .u32 0, .int .u32 0, .int .i32 0, .slice none 0 0, .slice none 0 0, .slice none 0 0] 61))) := hid (Save.of_below B0)
  have X := hid X0
  have Y := hid Y0
  have C1 := hid (fun w' (hr : RdIs w' k (.slice av len cap) s) (hs : Save k w w') => signed_any k av len cap zs s w' hr hg hlen (hz.save hs ha))
  have g1 := sgnR_good hg
  obtain ⟨n1, hn1⟩ : ∃ n, (sgnR zs s).1 = n := ⟨_, rfl⟩
  obtain ⟨s1, hs1⟩ : ∃ t, (sgnR zs s).2 = t := ⟨_, rfl⟩
  rw [hn1, hs1] at C1
  rw [hs1] at g1
  rw [hs1]
  rw [hn1]
  clear X0 Y0 B0 hn1 hs1 h hg hlen hz ha g1
  go_enter Tryd.func113, Tryd.ntmps113
  go_wp2_with fail
  refine (F.out _).mono ?_
  rintro e w' ⟨rfl, rfl⟩
  go_wp2_with fail
  refine (C1.out _ R0.out V0.out).mono ?_
  rintro e1 w1 ⟨rfl, R1, sv1⟩
  have V1 := Save.trans (V0.out) sv1
  have X1 := X.out.save sv1 (by omega)
  have Y1 := Y.out.save sv1 (by omega)
  obtain ⟨⟨x0, x1, x2, x3, x4, x5, x6, x7⟩, f0, f1, f2, f3, f4, f5, f6, f7⟩ := X1
  obtain ⟨⟨y0, y1, y2, y3, y4, y5, y6, y7⟩, e0, e1, e2, e3, e4, e5, e6, e7⟩ := Y1
  simp only [zeroX, plainX] at x0 x1 x2 x3 x4 x5 x6 x7 y0 y1 y2 y3 y4 y5 y6 y7
  go_wp2
  refine bodyPost_ret (v := .agg #[.int .i64 op, .int .i64 0, .int .u32 0, .int .u32 0, .int .i32 n1, .slice none 0 0, .slice none 0 0, .slice none 0 0]) (by simp [results, Tryd.results113, go_sem, x0, x1, x2, x3, x4, x5, x6, x7]) rfl ?_
  have hB : Below w.heap.size w1 (((((((((w1.setCell ⟨w.heap.size + 1, 4, none⟩ (.int .i32 n1)).setCell ⟨w.heap.size, 0, none⟩ (.int .i64 op)).setCell ⟨w.heap.size, 1, none⟩ (.int .i64 0)).setCell ⟨w.heap.size, 2, none⟩ (.int .u32 0)).setCell ⟨w.heap.size, 3, none⟩ (.int .u32 0)).setCell ⟨w.heap.size, 4, none⟩ (.int .i32 n1)).setCell ⟨w.heap.size, 5, none⟩ (.slice none 0 0)).setCell ⟨w.heap.size, 6, none⟩ (.slice none 0 0)).setCell ⟨w.heap.size, 7, none⟩ (.slice none 0 0)) := by
    repeat' (refine Below.setCell ?_ (by simp) _)
    exact Below.refl _ _
  exact ⟨none, 0, rfl, ⟨rfl, .inl ⟨rfl, rfl⟩⟩, R1.belowB hB hkw, save_under V1 hB⟩

theorem instruction_any (k : Nat) (av : Option Addr) (len cap : Nat) (zs : List Int) (s : Rd) (op : Int) (w : World) (h : RdIs w k (.slice av len cap) s) (hg : Kind.Good zs s) (hlen : zs.length = len) (hz : Bytes w av zs) (ha : ∀ b off, av = some ⟨b, off, none⟩ → zs ≠ [] → b ≠ k) :
    Calls Tryd.prog 113 #[.pointer (some ⟨k, 0, none⟩), .int .i64 op] w (DoesIx k (.slice av len cap) w (restR zs op s).x (restR zs op s).s) := by
  rcases parts_kind op with ⟨a, b⟩ | ⟨a, b⟩ | ⟨a, b⟩ | ⟨a, b⟩ | ⟨a, b⟩ | ⟨a, b⟩ | ⟨a, b⟩ | ⟨a, b⟩
  · exact ins0 k av len cap zs s op w h hg hlen hz ha a b
  · exact ins1 k av len cap zs s op w h hg hlen hz ha a b
  · exact ins2 k av len cap zs s op w h hg hlen hz ha a b
  · exact ins3 k av len cap zs s op w h hg hlen hz ha a b
  · exact ins4 k av len cap zs s op w h hg hlen hz ha a b
  · exact ins5 k av len cap zs s op w h hg hlen hz ha a b
  · exact ins6 k av len cap zs s op w h hg hlen hz ha a b
  · exact ins7 k av len cap zs s op w h hg hlen hz ha a b
end Go.Proofs.YtlfflomeaplidaaDoor.Body
