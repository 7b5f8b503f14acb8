import Derived.Test.YtckdnhafookcgaaGreatDoorPr11
import Derived.Test.YtckdnhafookcgaaGreatDoorPr06
import Derived.Test.YtckdnhafookcgaaGreatDoorPr01
import Derived.Test.YtckdnhafookcgaaGreatDoorPr04
import Derived.Test.YtckdnhafookcgaaGreatDoorPr08
import Derived.Laws.AppendOwn
import Derived.Laws.AppendOwnNone
import Derived.Deep.AppendLies
import Derived.Laws.OwnMore
import Derived.WalkSmall
import Derived.BigQuiet
import Derived.Deep.QuietTactic
import Derived.Deep.RegionHeld3
import Derived.RegionTactic
import Derived.ChangeAlike
import Derived.Deep.RegionWith
import Derived.Deep.RegionHeldLaw
import Derived.Deep.RegionLaw
import Derived.Laws.Tables
import Derived.Deep.WholeRow
import Derived.Laws.Rows
import Derived.Laws.IdiomCopy
namespace Go.Proofs.YtckdnhafookcgaaGreatDoor.Instr
end Go.Proofs.YtckdnhafookcgaaGreatDoor.Instr
namespace Go.Proofs.YtckdnhafookcgaaGreatDoor.Num
end Go.Proofs.YtckdnhafookcgaaGreatDoor.Num
namespace Go.Proofs.YtckdnhafookcgaaGreatDoor.Kind
end Go.Proofs.YtckdnhafookcgaaGreatDoor.Kind
namespace Go.Proofs.YtckdnhafookcgaaGreatDoor.Leb
end Go.Proofs.YtckdnhafookcgaaGreatDoor.Leb
namespace Go.Proofs.YtckdnhafookcgaaGreatDoor.Mem
open Go.RowKit Go.Proofs.YtckdnhafookcgaaGreatDoor.Instr Go.Proofs.YtckdnhafookcgaaGreatDoor.Num Go.Proofs.YtckdnhafookcgaaGreatDoor.Kind
open Go.Maps (Keyed int_keyed IsMap)
set_option linter.unusedVariables false

/-- make([]byte, n), n a word. -/
theorem make_word (w : World) (n : Nat) (hl : n ≤ 140737488355328) :
    ∃ w', (∀ x : Int, x = n → (Instr.makeSlice 73 (.int .u32 x) (.int .u32 x)).run Tryz.prog w = .ok (.slice (some ⟨w.heap.size, 0, none⟩) n n) w') ∧ w'.heap[w.heap.size]? = some (.cells ((List.replicate n (0 : Int)).map (Value.int .u8)).toArray 5 (0, 0)) ∧ Below w.heap.size w w' := by
  obtain ⟨i0, hi, hz0, hz1, hz2⟩ := info_parts infoByte
  obtain ⟨w', h1, h2, h3⟩ := run_make_full w w.heap.size 73 5 i0 (.int .u8 0) 1 Tryz.underlying73 hi hz0 hz1 .u32 .u32 n (by rw [hz2]; omega) (by unfold maxLen; omega) (Nat.le_refl _)
  refine ⟨w', fun x hx => by rw [hx]; exact h1, ?_, (Below.refl _ _).grown h3 (Nat.le_refl _) (fun k h => by cases h)⟩
  have hcells : (Value.int .u8 0).cells = #[Value.int .u8 0] := rfl
  rw [hcells, toList_madeCells_one] at h2
  have h4 : OwnK 5 .u8 w.heap.size w' (.slice (some ⟨w.heap.size, 0, none⟩) n n) (List.replicate n 0) := by
    unfold OwnK
    simpa using h2
  exact (h4.heap (by simp)).2
theorem over_all (R xs : List Int) (h : R.length = xs.length) : over R xs 0 = xs := by
  simp [over, List.drop_of_length_le (Nat.le_of_eq h)]
def Mm.read (m : Mm) (s n : Nat) : List Int × Int := if m.has s n then (if n ≤ 1048576 then (rowF m.f s n, 0) else ([], 2)) else ([], 220)
/-- A list of bytes that a call made: all of its block. -/
def GotB (w : World) (zs : List Int) (e : Int) (en : Ending) (w' : World) : Prop :=
  (∃ g, en = .returned (.tuple #[.slice (some ⟨g, 0, none⟩) zs.length zs.length, .int .i64 e]) ∧ w.heap.size ≤ g ∧ w'.heap[g]? = some (.cells (zs.map (Value.int .u8)).toArray 5 (0, 0))) ∨ (en = .returned (.tuple #[.slice none 0 0, .int .i64 e]) ∧ zs = [])
set_option maxRecDepth 100000 in
set_option maxHeartbeats 1000000 in
theorem Read_any {B : Nat} {W : World} {p K : Nat} {m : Mm} (hM : MemIs B W p K m) (s n : Nat) (hs : s ≤ 4294967295) (hn : n ≤ 4294967295) :
    Calls Tryz.prog 27 #[.pointer (some ⟨p, 0, none⟩), .int .u32 s, .int .u32 n] W fun e w' => GotB W (m.read s n).1 (m.read s n).2 e w' ∧ Below W.heap.size W w' := by
  have hnp : m.n ≤ 65536 := Nat.le_trans hM.ok.n hM.ok.most
  have C1 := hid (made_yes p W hM.cells.1)
  have C2 := has_any p m.n s n W hM.cells.2.1 ⟨by omega, by omega⟩ ⟨by omega, by omega⟩ ⟨by omega, by omega⟩
  have he : m.has s n = decide ((s : Int) + (n : Int) ≤ (m.n : Int) * 65536) := by
    unfold Mm.has
    rw [decide_eq_decide]; constructor <;> intro h <;> omega
  unfold Mm.read
  rw [he]
  obtain ⟨S, hS⟩ : ∃ S : Int, (s : Int) = S := ⟨_, rfl⟩
  obtain ⟨N, hN⟩ : ∃ N : Int, (n : Int) = N := ⟨_, rfl⟩
  have hS0 : 0 ≤ S ∧ S ≤ 4294967295 := by omega
  obtain ⟨hS0, hS1⟩ := hS0
  have hN0 : 0 ≤ N ∧ N ≤ 4294967295 := by omega
  obtain ⟨hN0, hN1⟩ := hN0
  by_cases hin : (s : Int) + (n : Int) ≤ (m.n : Int) * 65536
  · rw [decide_eq_true hin] at C2 ⊢
    by_cases hbig : n ≤ 1048576
    · obtain ⟨w1, hmk, hh1, hb1⟩ := make_word W n (by omega)
      have hmk := hmk N (by omega)
      have CG := hid (show Calls Tryz.prog 69 #[.pointer (some ⟨p, 0, none⟩), .int .u64 s, .slice (some ⟨W.heap.size, 0, none⟩) n n] w1 fun e W' => e = .returned (.tuple #[]) ∧ GotTo w1 m W.heap.size 5 (List.replicate n 0) 0 s n W' from by
        obtain ⟨mb, D, K', hK', hm⟩ := hM.below hb1
        exact get_any hm W.heap.size 5 (List.replicate n 0) (some ⟨W.heap.size, 0, none⟩) 0 n n s hh1 rfl (by simp) (Nat.le_refl _) (by omega) (fun _ => rfl) (by omega) (fun i hi => by
          rw [List.getD_eq_getElem?_getD, List.getElem?_replicate]
          split <;> rfl))
      have HL := rowF_length m.f n s
      have HE := hid (show ∀ w3, GotTo w1 m W.heap.size 5 (List.replicate n 0) 0 s n w3 → GotB W (rowF m.f s n) 0 (.returned (.tuple #[.slice (some ⟨W.heap.size, 0, none⟩) n n, .int .i64 0])) w3 ∧ Below W.heap.size W w3 from fun w3 hG => by
        have h1 := hG.heap
        rw [over_all _ _ (by rw [HL, List.length_replicate])] at h1
        exact ⟨.inl ⟨W.heap.size, by rw [HL], Nat.le_refl _, h1⟩, hb1.trans (hG.save.below hb1.size (Nat.le_refl _))⟩)
      rw [if_pos rfl, if_pos hbig]
      have hb2 : N ≤ 1048576 := by omega
      rw [hS, hN] at C2
      rw [hS] at CG
      have C2 := hid C2
      have HEN := hid hN
      rw [hS, hN]
      clear hM hnp he hin hh1 hb1 HL hbig hS hN hs hn
      go_enter Tryz.func27, Tryz.ntmps27
      go_wp2_with fail
      refine C1.out.mono ?_
      rintro e wx ⟨rfl, rfl⟩
      go_wp2_with fail
      refine C2.out.mono ?_
      rintro e wx ⟨rfl, rfl⟩
      go_wp2_with fail
      refine CG.out.mono ?_
      rintro e w3 ⟨rfl, hG⟩
      have hE := hid (HE.out w3 hG)
      clear HE hG CG
      go_wp2
      go_ret2
      exact hE.out
    · rw [if_pos rfl, if_neg hbig]
      have hb2 : 1048576 < N := by omega
      rw [hS, hN] at C2 ⊢
      have C2 := hid C2
      clear hM hnp he hin hbig hS hN hs hn
      go_enter Tryz.func27, Tryz.ntmps27
      go_wp2_with fail
      refine C1.out.mono ?_
      rintro e wx ⟨rfl, rfl⟩
      go_wp2_with fail
      refine C2.out.mono ?_
      rintro e wx ⟨rfl, rfl⟩
      go_wp2
      go_ret2
      exact ⟨.inr ⟨rfl, rfl⟩, Below.refl _ _⟩
  · rw [decide_eq_false hin] at C2 ⊢
    rw [if_neg (by simp)]
    rw [hS, hN] at C2 ⊢
    have C2 := hid C2
    clear hM hnp he hin hS hN hs hn
    go_enter Tryz.func27, Tryz.ntmps27
    go_wp2_with fail
    refine C1.out.mono ?_
    rintro e wx ⟨rfl, rfl⟩
    go_wp2_with fail
    refine C2.out.mono ?_
    rintro e wx ⟨rfl, rfl⟩
    go_wp2
    go_ret2
    exact ⟨.inr ⟨rfl, rfl⟩, Below.refl _ _⟩
end Go.Proofs.YtckdnhafookcgaaGreatDoor.Mem

namespace Go.Proofs.YtckdnhafookcgaaGreatDoor.Mod
open Go.RowKit Go.Proofs.YtckdnhafookcgaaGreatDoor.Instr

/-- A block of a copy: from lo on, below hi, none of its cells frozen. -/
def Blk (lo hi : Nat) (w : World) (b : Nat) : Prop := lo ≤ b ∧ b < hi ∧ ∃ cs e, w.heap[b]? = some (.cells cs e (0, 0))
def TagsO (lo hi : Nat) (w : World) (a : Option Addr) (zs : List Int) : Prop :=
  zs = [] ∨ ∃ b off, a = some ⟨b, off, none⟩ ∧ Blk lo hi w b ∧ ∀ i, i < zs.length → w.cell? ⟨b, off + i, none⟩ = some (.int .u32 (zs.getD i 0))
def ItemsO (lo hi : Nat) (w : World) : Nat → Nat → Il → Prop
  | _, _, .nil => True
  | b, off, .cons x l e r =>
    Blk lo hi w b ∧ x.ok ∧
    (∀ j v, x.vals[j]? = some v → w.cell? ⟨b, off + j, none⟩ = some v) ∧
    TagsO lo hi w x.ta x.tags ∧
    (l.len = x.ln ∧ (l = .nil ∨ ∃ b' o', x.la = some ⟨b', o', none⟩ ∧ ItemsO lo hi w b' o' l)) ∧
    (e.len = x.en ∧ (e = .nil ∨ ∃ b' o', x.ea = some ⟨b', o', none⟩ ∧ ItemsO lo hi w b' o' e)) ∧
    ItemsO lo hi w b (off + 8) r
def ListO (lo hi : Nat) (w : World) (a : Option Addr) (n : Nat) (t : Il) : Prop := t.len = n ∧ (t = .nil ∨ ∃ b off, a = some ⟨b, off, none⟩ ∧ ItemsO lo hi w b off t)
theorem TagsO.at {lo hi : Nat} {w : World} {a : Option Addr} {zs : List Int} (h : TagsO lo hi w a zs) : TagsAt hi w a zs := by
  rcases h with h | ⟨b, off, ha, hb, hc⟩
  · exact .inl h
  · exact .inr ⟨b, off, ha, hb.2.1, hc⟩
theorem ItemsO.at {lo hi : Nat} {w : World} : ∀ {t : Il} {b off : Nat}, ItemsO lo hi w b off t → Items hi w b off t
  | .nil, _, _, _ => trivial
  | .cons x l e r, b, off, ⟨hb, hx, hc, ht, ⟨l1, l2⟩, ⟨e1, e2⟩, hr⟩ => by
    refine ⟨hb.2.1, hx, ⟨hc 0 _ rfl, hc 1 _ rfl, hc 2 _ rfl, hc 3 _ rfl, hc 4 _ rfl, hc 5 _ rfl, hc 6 _ rfl, hc 7 _ rfl⟩, ht.at, ⟨l1, ?_⟩, ⟨e1, ?_⟩, ItemsO.at hr⟩
    · rcases l2 with h | ⟨b', o', h1, h2⟩
      · exact .inl h
      · exact .inr ⟨b', o', h1, ItemsO.at h2⟩
    · rcases e2 with h | ⟨b', o', h1, h2⟩
      · exact .inl h
      · exact .inr ⟨b', o', h1, ItemsO.at h2⟩
theorem ListO.at {lo hi : Nat} {w : World} {a : Option Addr} {n : Nat} {t : Il} (h : ListO lo hi w a n t) : ListAt hi w a n t := by
  refine ⟨h.1, ?_⟩
  rcases h.2 with h | ⟨b, off, h1, h2⟩
  · exact .inl h
  · exact .inr ⟨b, off, h1, h2.at⟩

/-- What a cell may be written over with. -/
inductive KRel : Value → Value → Prop
  | same (v : Value) : KRel v v
  | i64 (x y : Int) : 0 ≤ y → y < 1000 → KRel (.int .i64 x) (.int .i64 y)
  | u32 (x y : Int) : 0 ≤ y → y < 1000 → KRel (.int .u32 x) (.int .u32 y)
  | i32 (x y : Int) : 0 ≤ y → y < 1000 → KRel (.int .i32 x) (.int .i32 y)
  | u8 (x y : Int) : KRel (.int .u8 x) (.int .u8 y)
  | slice (a : Option Addr) (n c : Nat) : KRel (.slice a n c) (.slice none 0 0)
  | str (s t : ByteArray) : t.size ≤ 4 → KRel (.string s) (.string t)
  | bool (b : Bool) : KRel (.bool b) (.bool false)
theorem KRel.trans {u v z : Value} (h : KRel u v) (g : KRel v z) : KRel u z := by
  cases g with
  | same => exact h
  | i64 x y h1 h2 => cases h with
    | same => exact .i64 _ _ h1 h2
    | i64 => exact .i64 _ _ h1 h2
  | u32 x y h1 h2 => cases h with
    | same => exact .u32 _ _ h1 h2
    | u32 => exact .u32 _ _ h1 h2
  | i32 x y h1 h2 => cases h with
    | same => exact .i32 _ _ h1 h2
    | i32 => exact .i32 _ _ h1 h2
  | u8 x y => cases h with
    | same => exact .u8 _ _
    | u8 => exact .u8 _ _
  | slice a n c => cases h with
    | same => exact .slice _ _ _
    | slice => exact .slice _ _ _
  | str s t h1 => cases h with
    | same => exact .str _ _ h1
    | str => exact .str _ _ h1
  | bool b => cases h with
    | same => exact .bool _
    | bool => exact .bool _
/-- Writes of the same kind, in the blocks from lo on and below hi. -/
structure Ov (lo hi : Nat) (w w' : World) : Prop where
  kept : Kept lo hi w w'
  cells : ∀ (b o : Nat) (v : Value), w.cell? ⟨b, o, none⟩ = some v → ∃ v', w'.cell? ⟨b, o, none⟩ = some v' ∧ KRel v v'
  soft : ∀ b : Nat, (∃ cs e, w.heap[b]? = some (Obj.cells cs e (0, 0))) → ∃ cs e, w'.heap[b]? = some (Obj.cells cs e (0, 0))
theorem Ov.refl (lo hi : Nat) (w : World) : Ov lo hi w w := ⟨Kept.refl _ _ _, fun _ _ v h => ⟨v, h, .same v⟩, fun _ h => h⟩
theorem Ov.trans {lo hi : Nat} {a b c : World} (h : Ov lo hi a b) (g : Ov lo hi b c) : Ov lo hi a c :=
  ⟨h.kept.trans g.kept, fun q o v hv => by
    obtain ⟨v1, h1, r1⟩ := h.cells q o v hv
    obtain ⟨v2, h2, r2⟩ := g.cells q o v1 h1
    exact ⟨v2, h2, r1.trans r2⟩, fun q hq => g.soft q (h.soft q hq)⟩
/-- A slice whose cells, up to its capacity, are bytes. -/
def RoomO (lo hi : Nat) (w : World) (a : Option Addr) (n c : Nat) : Prop := n ≤ c ∧ c ≤ 9223372036854775807 ∧ (a = none ∧ c = 0 ∨ ∃ b off, a = some ⟨b, off, none⟩ ∧ Blk lo hi w b ∧ ∀ i, i < c → ∃ z, w.cell? ⟨b, off + i, none⟩ = some (.int .u8 z))
end Go.Proofs.YtckdnhafookcgaaGreatDoor.Mod

namespace Go.Proofs.YtckdnhafookcgaaGreatDoor.Instr

/-- Whatever lists and labels lie elsewhere, it is this instruction. -/
def Ix.bare (x : Ix) : Ix := ⟨x.op, x.res, x.a, x.b, x.n, x.tags, none, 0, none, x.ln, 0, none, x.en, 0⟩
def Il.bare : Il → Il
  | .nil => .nil
  | .cons x l e r => .cons x.bare l.bare e.bare r.bare
def Il.app : Il → Il → Il
  | .nil, t => t
  | .cons x l e r, t => .cons x l e (r.app t)
/-- The lists of each have as many as it says. -/
def Il.fit : Il → Prop
  | .nil => True
  | .cons x l e r => l.len = x.ln ∧ e.len = x.en ∧ l.fit ∧ e.fit ∧ r.fit
theorem app_len : ∀ t u : Il, (t.app u).len = t.len + u.len
  | .nil, u => by simp [Il.app, Il.len]
  | .cons x l e r, u => by simp only [Il.app, Il.len, app_len r]; omega
theorem bare_len : ∀ t : Il, t.bare.len = t.len
  | .nil => rfl
  | .cons x l e r => by simp only [Il.bare, Il.len, bare_len r]
end Go.Proofs.YtckdnhafookcgaaGreatDoor.Instr
namespace Go.Proofs.YtckdnhafookcgaaGreatDoor.Body
open Go.Proofs.YtckdnhafookcgaaGreatDoor.Leb Go.Proofs.YtckdnhafookcgaaGreatDoor.Kind Go.Proofs.YtckdnhafookcgaaGreatDoor.Instr

def plainX (op res a b n : Int) (tags : List Int) : Ix := ⟨op, res, a, b, n, tags, none, 0, none, 0, 0, none, 0, 0⟩
/-- What reading a list gives: instructions, what ended them, how many there have been, the state. -/
structure Lr where
  t : Il
  q : Int
  n : Int
  s : Rd
/-- What a reader does never goes back. -/
def On (s s' : Rd) : Prop := s'.2.1 = 0 → s.2.1 = 0 ∧ s.1 ≤ s'.1
theorem On.refl (s : Rd) : On s s := fun h => ⟨h, Int.le_refl _⟩
theorem On.trans {a b c : Rd} (h : On a b) (g : On b c) : On a c := fun hc => ⟨(h (g hc).1).1, Int.le_trans (h (g hc).1).2 (g hc).2⟩
end Go.Proofs.YtckdnhafookcgaaGreatDoor.Body

/-
  BODY: reading by a stack of open lists, as a plain function; it gives what reading list by list gives.
-/
namespace Go.Proofs.YtckdnhafookcgaaGreatDoor.Body
open Go.Proofs.YtckdnhafookcgaaGreatDoor.Leb Go.Proofs.YtckdnhafookcgaaGreatDoor.Kind Go.Proofs.YtckdnhafookcgaaGreatDoor.Instr

/-- A list whose end has not been read: its owner, the owner's first list if this is its second, what has been read of it. -/
structure Fr where
  x : Ix
  fl : Il
  t : Il
  oth : Bool
end Go.Proofs.YtckdnhafookcgaaGreatDoor.Body

/-
  BODY: what is put is got: an instruction's fields by its operation; its bytes read; a list's bytes read, whatever follows.
-/
namespace Go.Proofs.YtckdnhafookcgaaGreatDoor.Body
open Go.RowKit Go.Proofs.YtckdnhafookcgaaGreatDoor.Leb Go.Proofs.YtckdnhafookcgaaGreatDoor.Instr
open Go.Proofs.YtckdnhafookcgaaGreatDoor.Kind (Rd)

section
variable {zs : List Int} {op : Int} {s : Rd}
end
def Lr.pre (t : Il) (r : Lr) : Lr := ⟨t.app r.t, r.q, r.n, r.s⟩
end Go.Proofs.YtckdnhafookcgaaGreatDoor.Body

/-
  BODY: bytes that end too early: the fault is told where they end.
-/
namespace Go.Proofs.YtckdnhafookcgaaGreatDoor.Body
open Go.Proofs.YtckdnhafookcgaaGreatDoor.Leb Go.Proofs.YtckdnhafookcgaaGreatDoor.Instr
open Go.Proofs.YtckdnhafookcgaaGreatDoor.Kind (Rd)

end Go.Proofs.YtckdnhafookcgaaGreatDoor.Body

/-
  BODY: what is got may be, and is put in no more bytes.
-/
namespace Go.Proofs.YtckdnhafookcgaaGreatDoor.Body
open Go.Proofs.YtckdnhafookcgaaGreatDoor.Leb Go.Proofs.YtckdnhafookcgaaGreatDoor.Instr
open Go.Proofs.YtckdnhafookcgaaGreatDoor.Kind (Rd)

section
variable {zs : List Int} (hz : ∀ c ∈ zs, 0 ≤ c ∧ c < 256)
include hz
end
end Go.Proofs.YtckdnhafookcgaaGreatDoor.Body

namespace Go.Proofs.YtckdnhafookcgaaGreatDoor.Mod
open Go.RowKit Go.Proofs.YtckdnhafookcgaaGreatDoor.Instr

def Lst.bare (l : Lst) : Lst := ⟨none, 0, l.t.bare⟩
def Fn.bare (f : Fn) : Fn := ⟨f.ty, f.lo, f.l.bare⟩
def Gl.bare (g : Gl) : Gl := ⟨g.mu, g.l.bare⟩
def El.bare (e : El) : El := ⟨e.l.bare, none, 0, e.fs⟩
def Da.bare (d : Da) : Da := ⟨d.l.bare, none, 0, d.bs⟩
/-- A module, but for where its parts lie. -/
def Md.bare (m : Md) : Md :=
  ⟨m.ty, m.im, m.fu.map Fn.bare, m.tb, m.me, m.gl.map Gl.bare, m.ex, m.st, m.sn, m.el.map El.bare, m.da.map Da.bare, ⟨none, 0⟩, ⟨none, 0⟩, ⟨none, 0⟩, ⟨none, 0⟩, ⟨none, 0⟩, ⟨none, 0⟩, ⟨none, 0⟩, ⟨none, 0⟩, ⟨none, 0⟩⟩
theorem bare_codes (m : Md) : m.bare.codes = m.codes.map Lst.bare := by
  unfold Md.codes Md.bare
  simp only [List.map_append, List.map_map]
  rfl
/-- Whether a statement holds, as a bool. -/
noncomputable def is (p : Prop) : Bool := @decide p (Classical.propDecidable p)
/-- The parts that make two modules the same. -/
structure Same (a b : Md) : Prop where
  ty : a.ty = b.ty
  im : a.im = b.im
  fu : a.fu.map Fn.bare = b.fu.map Fn.bare
  tb : a.tb = b.tb
  me : a.me = b.me
  gl : a.gl.map Gl.bare = b.gl.map Gl.bare
  ex : a.ex = b.ex
  st : a.st = b.st
  sn : a.sn = b.sn
  el : a.el.map El.bare = b.el.map El.bare
  da : a.da.map Da.bare = b.da.map Da.bare
theorem same_iff {a b : Md} : a.bare = b.bare ↔ Same a b := by
  constructor
  · intro h
    unfold Md.bare at h
    simp only [Md.mk.injEq] at h
    obtain ⟨h1, h2, h3, h4, h5, h6, h7, h8, h9, h10, h11, _⟩ := h
    exact ⟨h1, h2, h3, h4, h5, h6, h7, h8, h9, h10, h11⟩
  · rintro ⟨h1, h2, h3, h4, h5, h6, h7, h8, h9, h10, h11⟩
    unfold Md.bare
    rw [h1, h2, h3, h4, h5, h6, h7, h8, h9, h10, h11]
end Go.Proofs.YtckdnhafookcgaaGreatDoor.Mod

namespace Go.Proofs.YtckdnhafookcgaaGreatDoor.Mod
open Go.RowKit Go.Proofs.YtckdnhafookcgaaGreatDoor.Instr

theorem flat_length {α : Type} {sz : Nat} : ∀ (rs : List (List α)) (_ : ∀ r ∈ rs, r.length = sz), rs.flatten.length = rs.length * sz
  | [], _ => by simp
  | r :: rs, h => by
    rw [List.flatten_cons, List.length_append, h r (by simp), flat_length rs (fun x hx => h x (by simp [hx])), List.length_cons, Nat.succ_mul]
    omega
theorem flat_get {α : Type} {sz : Nat} : ∀ (rs : List (List α)) (_ : ∀ r ∈ rs, r.length = sz) (i j : Nat) (_ : i < rs.length) (_ : j < sz), rs.flatten[i * sz + j]? = (rs.getD i [])[j]?
  | [], _, i, _, hi, _ => by simp at hi
  | r :: rs, h, 0, j, _, hj => by
    rw [List.flatten_cons, Nat.zero_mul, Nat.zero_add, List.getElem?_append_left (by rw [h r (by simp)]; exact hj)]
    rfl
  | r :: rs, h, i + 1, j, hi, hj => by
    have hr := h r (by simp)
    have e : (i + 1) * sz = i * sz + sz := Nat.succ_mul i sz
    rw [List.flatten_cons, List.getElem?_append_right (by rw [hr, e]; omega), hr]
    have e2 : (i + 1) * sz + j - sz = i * sz + j := by rw [e]; omega
    rw [e2, flat_get rs (fun x hx => h x (by simp [hx])) i j (by simpa using hi) hj]
    rfl
/-- Rows that a call made itself, each of sz cells. -/
structure OwnR (e : TypeId) (sz base : Nat) (w : World) (v : Value) (rs : List (List Value)) : Prop where
  row : w.ownsRow base e sz v rs.length rs.flatten
  len : ∀ r ∈ rs, r.length = sz
theorem OwnR.start (e : TypeId) (sz base : Nat) (w : World) : OwnR e sz base w (.slice none 0 0) [] := ⟨World.ownsRow_nil _ _ _ _, by simp⟩
theorem OwnR.made (e : TypeId) (sz : Nat) (w : World) : OwnR e sz w.heap.size (w.alloc (.cells #[] e)) (.slice (some ⟨w.heap.size, 0, none⟩) 0 0) [] := ⟨World.ownsRow_made w #[] 0 (Nat.le_refl _) (by unfold maxLen; omega) (by simp), by simp⟩
theorem OwnR.below {e : TypeId} {sz base : Nat} {w w' : World} {v : Value} {rs : List (List Value)} (h : OwnR e sz base w v rs) (hb : Below w.heap.size w w') : OwnR e sz base w' v rs := by
  refine ⟨⟨h.row.1, ?_⟩, h.len⟩
  rcases h.row.2 with h0 | ⟨g, cap, cur, hv, hg, hh, rest⟩
  · exact .inl h0
  · exact .inr ⟨g, cap, cur, hv, hg, (hb.block g (Array.getElem?_eq_some_iff.1 hh).1).trans hh, rest⟩
theorem OwnR.mono {e : TypeId} {sz base base' : Nat} {w : World} {v : Value} {rs : List (List Value)} (h : OwnR e sz base w v rs) (hb : base' ≤ base) : OwnR e sz base' w v rs := by
  refine ⟨⟨h.row.1, ?_⟩, h.len⟩
  rcases h.row.2 with h0 | ⟨g, cap, cur, hv, hg, rest⟩
  · exact .inl h0
  · exact .inr ⟨g, cap, cur, hv, Nat.le_trans hb hg, rest⟩
/-- As a slice in memory. -/
theorem OwnR.rows {e : TypeId} {sz base : Nat} {w : World} {v : Value} {rs : List (List Value)} (h : OwnR e sz base w v rs) : ∃ a c, v = .slice a rs.length c ∧ Rows w.heap.size w a sz rs ∧ ∀ g, v.ownBlock = some g → base ≤ g := by
  have hl := World.ownsRow.lt h.row
  rcases h.row.2 with ⟨rfl, h0⟩ | ⟨g, cap, cur, rfl, hg, hh, h2, h3, h4, h5⟩
  · exact ⟨none, 0, by rw [h0], .inl (List.eq_nil_of_length_eq_zero h0), fun g hg => (hl g hg).1⟩
  · refine ⟨_, cap, rfl, .inr ⟨g, 0, rfl, (hl g rfl).2, fun i hi j hj u hu => ?_⟩, fun g hg => (hl g hg).1⟩
    have hf := flat_get rs h.len i j hi hj
    rw [hu] at hf
    have := World.ownsRow.cells h.row (g := g) rfl (i * sz + j) u hf
    have hplain : (⟨g, 0, none⟩ : Addr).add (i * sz + j) = ⟨g, 0 + i * sz + j, none⟩ := by unfold Addr.add; split <;> simp_all <;> omega
    rw [hplain] at this
    exact this

section
variable {ops : Array Oper} {rest : List Oper} {o : Oper} {act : Act} {Q : Exit → Act → World → Prop}
/-- Rows that lie somewhere are appended. -/
theorem append_rows {e ts : TypeId} {sz nb : Nat} {z : Value} (inf : (Tryz.prog.info? e).map (fun i => (i.zero, i.size, i.bytes)) = some (some z, sz, nb)) (hz : z.cells.size = sz) (h0 : 0 < sz) (hnb : nb ≤ 1000) (ut : Tryz.prog.underlying ts = some (.slice e))
    (hgd : o.guard = none) (s x : Operand) (ho : o.op = .call { callee := .builtin .append, args := #[s, x], argTypes := #[ts, ts] })
    {base : Nat} {w0 wr : World} {v : Value} {xs : List (List Value)} (ys : List (List Value)) (hs : act.eval s = v) (hown : OwnR e sz base wr v xs) (hb : Below base w0 wr) (hbase : base ≤ wr.heap.size)
    (ad : Addr) (m c : Nat) (hm : ys.length = m) (hx : act.eval x = .slice (some ad) m c) (hy : ∀ r ∈ ys, r.length = sz) (hnews : ∀ j u, ys.flatten[j]? = some u → wr.cell? (ad.add j) = some u) (h1 : ∀ r ∈ ys, ∀ u ∈ r, u.oneCell' = true)
    (hl : xs.length + m ≤ 1000000000)
    (h : ∀ v' w', OwnR e sz base w' v' (xs ++ ys) → Below base w0 w' → base ≤ w'.heap.size → wr.grownBy w' v.ownBlock → wpList Tryz.prog ops Q rest (act.put o.dst v') w') :
    wpList Tryz.prog ops Q (o :: rest) act wr := by
  obtain ⟨i0, hi, hz0, hz1, hz2⟩ := info_parts inf
  subst hm
  refine wpList_append_own _ hgd s x ts ho base e i0 z sz nb ut hi hz0 hz1 hz2 hz h0 v xs.length _ hs hown.row ad ys.length c ys.flatten hx (flat_length ys hy)
    hnews (fun u hu => ?_) (by unfold maxLen; omega) ?_ hbase (fun v' w' hown' hgrow _ => ?_)
  · obtain ⟨r, hr, hur⟩ := List.mem_flatten.1 hu
    exact h1 r hr u hur
  · calc (xs.length + ys.length) * nb ≤ 1000000000 * 1000 := Nat.mul_le_mul hl hnb
      _ ≤ _ := by omega
  · refine h v' w' ⟨?_, ?_⟩ (hb.grown hgrow hbase (fun k hk => (World.ownsRow.lt hown.row k hk).1)) (by have := hgrow.size; omega) hgrow
    · rw [List.length_append, List.flatten_append]; exact hown'
    · intro r hr
      rcases List.mem_append.1 hr with hr | hr
      · exact hown.len r hr
      · exact hy r hr
end
end Go.Proofs.YtckdnhafookcgaaGreatDoor.Mod

namespace Go.Proofs.YtckdnhafookcgaaGreatDoor
open Go.RowKit

/-- Of what was there only blocks of S have turned. -/
structure Touch (S : Nat → Prop) (w w' : World) : Prop where
  os : w'.os = w.os
  tape : w'.tape = w.tape
  output : w'.output = w.output
  size : w.heap.size ≤ w'.heap.size
  block : ∀ j, j < w.heap.size → ¬ S j → w'.heap[j]? = w.heap[j]?
theorem Touch.refl (S : Nat → Prop) (w : World) : Touch S w w := ⟨rfl, rfl, rfl, Nat.le_refl _, fun _ _ _ => rfl⟩
theorem Touch.trans {S : Nat → Prop} {a b c : World} (h : Touch S a b) (g : Touch S b c) : Touch S a c :=
  ⟨g.os.trans h.os, g.tape.trans h.tape, g.output.trans h.output, Nat.le_trans h.size g.size, fun j hj hk => (g.block j (Nat.lt_of_lt_of_le hj h.size) hk).trans (h.block j hj hk)⟩
theorem Touch.mono {S T : Nat → Prop} {a b : World} (h : Touch S a b) (hs : ∀ j, S j → T j) : Touch T a b := ⟨h.os, h.tape, h.output, h.size, fun j hj hk => h.block j hj (fun hs' => hk (hs j hs'))⟩
theorem Touch.of_save {k : Nat} {w w' : World} (h : Save k w w') : Touch (fun j => j = k) w w' := ⟨h.os, h.tape, h.output, h.size, fun j hj hk => h.block j hj hk⟩
theorem Touch.of_below {S : Nat → Prop} {w w' : World} (h : Below w.heap.size w w') : Touch S w w' := ⟨h.os, h.tape, h.output, h.size, fun j hj _ => h.block j hj⟩
theorem Touch.of_grown {w w' : World} {row : Option Nat} (h : w.grownBy w' row) : Touch (fun j => row = some j) w w' := ⟨h.os, h.tape, h.output, h.size, fun j hj hk => h.block j hj (fun e => hk e.symm)⟩
theorem Touch.alloc {S : Nat → Prop} {a b : World} (h : Touch S a b) (o : Obj) : Touch S a (b.alloc o) := h.trans (.of_below ((Below.refl _ _).alloc (Nat.le_refl _) o))
theorem Touch.setCell {S : Nat → Prop} {a b : World} (h : Touch S a b) {p : Addr} (hp : S p.block ∨ a.heap.size ≤ p.block) (v : Value) : Touch S a (b.setCell p v) :=
  ⟨h.os, h.tape, h.output, by have := h.size; simpa [World.setCell] using this, fun j hj hk => (Below.heap_setCell _ _ _ _ (by rcases hp with hp | hp; rintro rfl; exact hk hp; omega)).trans (h.block j hj hk)⟩
theorem Touch.below {S : Nat → Prop} {B : Nat} {a b : World} (h : Touch S a b) (hB : B ≤ a.heap.size) (hs : ∀ j, S j → B ≤ j) : Below B a b :=
  ⟨h.os, h.tape, h.output, h.size, fun j hj => h.block j (by omega) (fun hj' => by have := hs j hj'; omega)⟩
theorem Touch.cell {S : Nat → Prop} {w w' : World} (h : Touch S w w') {p : Addr} {v : Value} (hk : ¬ S p.block) (hc : w.cell? p = some v) : w'.cell? p = some v :=
  (World.cell?_of_block (w := w) (h.block p.block (World.block_lt_of_cell? w _ hc) hk)).trans hc
theorem touch_row {S : Nat → Prop} {w w' : World} {base size n : Nat} {e : TypeId} {v : Value} {xs : List Value} (h : w.ownsRow base e size v n xs) (ht : Touch S w w') (hk : ∀ g, v.ownBlock = some g → ¬ S g) : w'.ownsRow base e size v n xs := by
  refine ⟨h.1, ?_⟩
  rcases h.2 with h0 | ⟨g, cap, cur, rfl, hg, hh, rest⟩
  · exact .inl h0
  · exact .inr ⟨g, cap, cur, rfl, hg, (ht.block g (Array.getElem?_eq_some_iff.1 hh).1 (hk g rfl)).trans hh, rest⟩
/-- A block that can be written. -/
def Soft (w : World) (q : Nat) : Prop := ∃ cs e, w.heap[q]? = some (.cells cs e (0, 0))
theorem Soft.touch {S : Nat → Prop} {w w' : World} {q : Nat} (h : Soft w q) (ht : Touch S w w') (hk : ¬ S q) : Soft w' q := by
  obtain ⟨cs, e, h⟩ := h
  exact ⟨cs, e, (ht.block q (Array.getElem?_eq_some_iff.1 h).1 hk).trans h⟩
theorem Soft.frozen {w : World} {q : Nat} (h : Soft w q) (i : Nat) : w.frozen? ⟨q, i, none⟩ = false := by
  obtain ⟨cs, e, h⟩ := h
  simp [World.frozen?, h]
theorem Soft.lt {w : World} {q : Nat} (h : Soft w q) : q < w.heap.size := by
  obtain ⟨cs, e, h⟩ := h
  exact (Array.getElem?_eq_some_iff.1 h).1
theorem soft_row {w : World} {base size n : Nat} {e : TypeId} {v : Value} {xs : List Value} (h : w.ownsRow base e size v n xs) {g : Nat} (hg : v.ownBlock = some g) : Soft w g := by
  rcases h.2 with ⟨rfl, _⟩ | ⟨g', cap, cur, rfl, _, hh, _⟩
  · simp [Value.ownBlock] at hg
  · simp only [Value.ownBlock, Option.some.injEq] at hg
    subst hg
    exact ⟨_, _, hh⟩

namespace Instr
def blkOf (n : Nat) (a : Option Addr) : List Nat := if n = 0 then [] else match a with
  | some p => [p.block]
  | none => []
/-- The blocks that hold what is in these instructions: labels, lists. -/
def Il.foot : Il → List Nat
  | .nil => []
  | .cons x l e r => (blkOf x.tags.length x.ta ++ (blkOf x.ln x.la ++ l.foot) ++ (blkOf x.en x.ea ++ e.foot)) ++ r.foot
def Il.cells : Il → List Value
  | .nil => []
  | .cons x _ _ r => x.vals.toList ++ r.cells
/-- What is in these instructions lies as it should; the row that holds themselves may move. -/
def Il.kids (w : World) : Il → Prop
  | .nil => True
  | .cons x l e r => x.ok ∧ TagsAt w.heap.size w x.ta x.tags ∧ ListAt w.heap.size w x.la x.ln l ∧ ListAt w.heap.size w x.ea x.en e ∧ r.kids w
theorem foot_app : ∀ t u : Il, (t.app u).foot = t.foot ++ u.foot
  | .nil, _ => rfl
  | .cons x l e r, u => by simp only [Il.app, Il.foot, foot_app r, List.append_assoc]
theorem cells_app : ∀ t u : Il, (t.app u).cells = t.cells ++ u.cells
  | .nil, _ => rfl
  | .cons x l e r, u => by simp only [Il.app, Il.cells, cells_app r, List.append_assoc]
theorem kids_app {w : World} : ∀ t u : Il, t.kids w → u.kids w → (t.app u).kids w
  | .nil, _, _, h => h
  | .cons _ _ _ r, u, ⟨h1, h2, h3, h4, h5⟩, h => ⟨h1, h2, h3, h4, kids_app r u h5 h⟩

theorem TagsAt.touch {S : Nat → Prop} {n₀ : Nat} {w w' : World} {a : Option Addr} {zs : List Int} (h : TagsAt n₀ w a zs) (ht : Touch S w w') (hk : ∀ q ∈ blkOf zs.length a, ¬ S q) : TagsAt n₀ w' a zs := by
  rcases h with h | ⟨b, off, rfl, hl, hc⟩
  · exact .inl h
  · by_cases h0 : zs = []
    · exact .inl h0
    · have hne : zs.length ≠ 0 := fun h => h0 (List.eq_nil_of_length_eq_zero h)
      exact .inr ⟨b, off, rfl, hl, fun i hi => ht.cell (p := ⟨b, off + i, none⟩) (hk b (by simp [blkOf, hne])) (hc i hi)⟩
theorem Items.touch {S : Nat → Prop} {n₀ : Nat} {w w' : World} (ht : Touch S w w') : ∀ {t : Il} {b off : Nat}, Items n₀ w b off t → ¬ S b → (∀ q ∈ t.foot, ¬ S q) → Items n₀ w' b off t
  | .nil, _, _, _, _, _ => trivial
  | .cons x l e r, b, off, ⟨hl, hx, ⟨c0, c1, c2, c3, c4, c5, c6, c7⟩, htg, ⟨l1, l2⟩, ⟨e1, e2⟩, hr⟩, hb, hf => by
    have k : ∀ j v, w.cell? ⟨b, off + j, none⟩ = some v → w'.cell? ⟨b, off + j, none⟩ = some v := fun j v h => ht.cell (p := ⟨b, off + j, none⟩) hb h
    simp only [Il.foot, List.mem_append] at hf
    refine ⟨hl, hx, ⟨k 0 _ c0, k 1 _ c1, k 2 _ c2, k 3 _ c3, k 4 _ c4, k 5 _ c5, k 6 _ c6, k 7 _ c7⟩, htg.touch ht (fun q hq => hf q (.inl (.inl (.inl hq)))), ⟨l1, ?_⟩, ⟨e1, ?_⟩, Items.touch ht hr hb (fun q hq => hf q (.inr hq))⟩
    · rcases l2 with h | ⟨b', o', ha, hi⟩
      · exact .inl h
      · cases l with
        | nil => exact .inl rfl
        | cons y m f s =>
          have hne : x.ln ≠ 0 := by rw [← l1]; simp [Il.len]
          exact .inr ⟨b', o', ha, Items.touch ht hi (hf b' (.inl (.inl (.inr (.inl (by simp [blkOf, hne, ha])))))) (fun q hq => hf q (.inl (.inl (.inr (.inr hq)))))⟩
    · rcases e2 with h | ⟨b', o', ha, hi⟩
      · exact .inl h
      · cases e with
        | nil => exact .inl rfl
        | cons y m f s =>
          have hne : x.en ≠ 0 := by rw [← e1]; simp [Il.len]
          exact .inr ⟨b', o', ha, Items.touch ht hi (hf b' (.inl (.inr (.inl (by simp [blkOf, hne, ha]))))) (fun q hq => hf q (.inl (.inr (.inr hq))))⟩
theorem ListAt.touch {S : Nat → Prop} {n₀ : Nat} {w w' : World} {a : Option Addr} {n : Nat} {t : Il} (h : ListAt n₀ w a n t) (ht : Touch S w w') (hk : ∀ q ∈ blkOf n a ++ t.foot, ¬ S q) : ListAt n₀ w' a n t := by
  obtain ⟨h1, h2⟩ := h
  refine ⟨h1, ?_⟩
  rcases h2 with h | ⟨b', o', ha, hi⟩
  · exact .inl h
  · cases t with
    | nil => exact .inl rfl
    | cons y m f s =>
      have hne : n ≠ 0 := by rw [← h1]; simp [Il.len]
      exact .inr ⟨b', o', ha, Items.touch ht hi (hk b' (by simp [blkOf, hne, ha])) (fun q hq => hk q (by simp [hq]))⟩
theorem kids_touch {S : Nat → Prop} {w w' : World} (ht : Touch S w w') : ∀ {t : Il}, t.kids w → (∀ q ∈ t.foot, ¬ S q) → t.kids w'
  | .nil, _, _ => trivial
  | .cons x l e r, ⟨h1, h2, h3, h4, h5⟩, hf => by
    simp only [Il.foot, List.mem_append] at hf
    exact ⟨h1, (h2.touch ht (fun q hq => hf q (.inl (.inl (.inl hq))))).more ht.size, ListAt.more ht.size (h3.touch ht (fun q hq => hf q (.inl (.inl (.inr (List.mem_append.1 hq)))))),
      ListAt.more ht.size (h4.touch ht (fun q hq => hf q (.inl (.inr (List.mem_append.1 hq))))), kids_touch ht h5 (fun q hq => hf q (.inr hq))⟩
theorem tags_lt {n₀ : Nat} {w : World} {a : Option Addr} {zs : List Int} (h : TagsAt n₀ w a zs) : ∀ q ∈ blkOf zs.length a, q < n₀ := by
  intro q hq
  rcases h with rfl | ⟨b, off, rfl, hl, _⟩
  · simp [blkOf] at hq
  · unfold blkOf at hq
    split at hq
    · simp at hq
    · simp at hq; omega
mutual
theorem items_lt {n₀ : Nat} {w : World} : ∀ {t : Il} {b off : Nat}, Items n₀ w b off t → ∀ q ∈ t.foot, q < n₀
  | .nil, _, _, _, q, hq => by simp [Il.foot] at hq
  | .cons x l e r, b, off, ⟨_, _, _, ht, hl, he, hr⟩, q, hq => by
    simp only [Il.foot, List.mem_append] at hq
    rcases hq with ((hq | hq) | hq) | hq
    · exact tags_lt ht q hq
    · exact list_lt (t := l) hl q (List.mem_append.2 hq)
    · exact list_lt (t := e) he q (List.mem_append.2 hq)
    · exact items_lt hr q hq
theorem list_lt {n₀ : Nat} {w : World} {a : Option Addr} {n : Nat} : ∀ {t : Il}, ListAt n₀ w a n t → ∀ q ∈ blkOf n a ++ t.foot, q < n₀
  | .nil, ⟨h1, _⟩, q, hq => by simp [← h1, blkOf, Il.len, Il.foot] at hq
  | .cons x l e r, ⟨h1, h2⟩, q, hq => by
    rcases h2 with h | ⟨b, off, rfl, hb, hx, hc, ht, hl, he, hr⟩
    · cases h
    · rcases List.mem_append.1 hq with hq | hq
      · unfold blkOf at hq
        split at hq
        · simp at hq
        · simp at hq; omega
      · simp only [Il.foot, List.mem_append] at hq
        rcases hq with ((hq | hq) | hq) | hq
        · exact tags_lt ht q hq
        · exact list_lt (t := l) hl q (List.mem_append.2 hq)
        · exact list_lt (t := e) he q (List.mem_append.2 hq)
        · exact items_lt hr q hq
end
theorem kids_lt {w : World} : ∀ {t : Il}, t.kids w → ∀ q ∈ t.foot, q < w.heap.size
  | .nil, _, q, hq => by simp [Il.foot] at hq
  | .cons x l e r, ⟨_, ht, hl, he, hr⟩, q, hq => by
    simp only [Il.foot, List.mem_append] at hq
    rcases hq with ((hq | hq) | hq) | hq
    · exact tags_lt ht q hq
    · exact list_lt hl q (List.mem_append.2 hq)
    · exact list_lt he q (List.mem_append.2 hq)
    · exact kids_lt hr q hq
end Instr
end Go.Proofs.YtckdnhafookcgaaGreatDoor

/-
  BODY: the open lists in memory: a row of them, each with a row of its instructions; how a top one turns.
-/
namespace Go.Proofs.YtckdnhafookcgaaGreatDoor.Body
open Go.RowKit Go.Proofs.YtckdnhafookcgaaGreatDoor.Instr
open Go.Proofs.YtckdnhafookcgaaGreatDoor.Kind (Rd)

/-- Eight cells of a row are written over. -/
def store8 (w : World) (g off : Nat) (x : Ix) : World :=
  (((((((w.setCell ⟨g, off, none⟩ (.int .i64 x.op)).setCell ⟨g, off + 1, none⟩ (.int .i64 x.res)).setCell ⟨g, off + 2, none⟩ (.int .u32 x.a)).setCell ⟨g, off + 3, none⟩ (.int .u32 x.b)).setCell ⟨g, off + 4, none⟩ (.int .i32 x.n)).setCell
    ⟨g, off + 5, none⟩ (.slice x.ta x.tags.length x.tc)).setCell ⟨g, off + 6, none⟩ (.slice x.la x.ln x.lc)).setCell ⟨g, off + 7, none⟩ (.slice x.ea x.en x.ec)
theorem store8_touch (w : World) (g off : Nat) (x : Ix) : Touch (fun j => j = g) w (store8 w g off x) := by
  have step : ∀ (a b : World) (q : Addr) (v : Value), q.block = g → Touch (fun j => j = g) a b → Touch (fun j => j = g) a (b.setCell q v) := fun a b q v hq h => h.setCell (.inl hq) v
  unfold store8
  exact step _ _ _ _ rfl (step _ _ _ _ rfl (step _ _ _ _ rfl (step _ _ _ _ rfl (step _ _ _ _ rfl (step _ _ _ _ rfl (step _ _ _ _ rfl (step _ _ _ _ rfl (Touch.refl _ w))))))))
end Go.Proofs.YtckdnhafookcgaaGreatDoor.Body

namespace Go.Proofs.YtckdnhafookcgaaGreatDoor.Mod
open Go.RowKit Go.Proofs.YtckdnhafookcgaaGreatDoor.Instr
set_option linter.unusedVariables false

/-- What an item holds besides its own cells. -/
structure Part where
  l : Lst
  ta : Option Addr
  ts : List Int
  ba : Option Addr
  bs : List Int
def Part.lies (p : Part) (w : World) : Prop := ListAt w.heap.size w p.l.a p.l.t.len p.l.t ∧ TagsAt w.heap.size w p.ta p.ts ∧ BytesAt w.heap.size w p.ba p.bs
def Part.foot (p : Part) : List Nat := (blkOf p.l.t.len p.l.a ++ p.l.t.foot) ++ (blkOf p.ts.length p.ta ++ blkOf p.bs.length p.ba)
theorem BytesAt.touch {S : Nat → Prop} {n₀ : Nat} {w w' : World} {a : Option Addr} {zs : List Int} (h : BytesAt n₀ w a zs) (ht : Touch S w w') (hk : ∀ q ∈ blkOf zs.length a, ¬ S q) : BytesAt n₀ w' a zs := by
  rcases h with h | ⟨b, off, rfl, hl, hc⟩
  · exact .inl h
  · by_cases h0 : zs = []
    · exact .inl h0
    · have hne : zs.length ≠ 0 := fun h => h0 (List.eq_nil_of_length_eq_zero h)
      exact .inr ⟨b, off, rfl, hl, fun i hi => ht.cell (p := ⟨b, off + i, none⟩) (hk b (by simp [blkOf, hne])) (hc i hi)⟩
theorem Part.touch {S : Nat → Prop} {p : Part} {w w' : World} (h : p.lies w) (ht : Touch S w w') (hk : ∀ q ∈ p.foot, ¬ S q) : p.lies w' := by
  obtain ⟨h1, h2, h3⟩ := h
  have k1 : ∀ q ∈ blkOf p.l.t.len p.l.a ++ p.l.t.foot, ¬ S q := fun q hq => hk q (List.mem_append_left _ hq)
  have k2 : ∀ q ∈ blkOf p.ts.length p.ta, ¬ S q := fun q hq => hk q (List.mem_append_right _ (List.mem_append_left _ hq))
  have k3 : ∀ q ∈ blkOf p.bs.length p.ba, ¬ S q := fun q hq => hk q (List.mem_append_right _ (List.mem_append_right _ hq))
  exact ⟨(h1.touch ht k1).more ht.size, (h2.touch ht k2).more ht.size, (h3.touch ht k3).more ht.size⟩

section
variable {α : Type}
/-- Items that have been copied so far, in memory of their own. -/
structure Got (e : TypeId) (sz base : Nat) (f : α → List Value) (p : α → Part) (W : World) (v : Value) (us : List α) : Prop where
  row : OwnR e sz base W v (us.map f)
  kids : ∀ x ∈ us, (p x).lies W
  low : ∀ x ∈ us, ∀ q ∈ (p x).foot, base ≤ q
  lt : ∀ x ∈ us, ∀ q ∈ (p x).foot, q < W.heap.size
  apart : ∀ x ∈ us, ∀ q ∈ (p x).foot, v.ownBlock ≠ some q
theorem OwnR.touch {e : TypeId} {sz base : Nat} {S : Nat → Prop} {w w' : World} {v : Value} {rs : List (List Value)} (h : OwnR e sz base w v rs) (ht : Touch S w w') (hk : ∀ g, v.ownBlock = some g → ¬ S g) : OwnR e sz base w' v rs :=
  ⟨touch_row h.row ht hk, h.len⟩
theorem Got.touch {e : TypeId} {sz base : Nat} {f : α → List Value} {p : α → Part} {S : Nat → Prop} {W W' : World} {v : Value} {us : List α} (h : Got e sz base f p W v us) (ht : Touch S W W') (hs : ∀ q, base ≤ q → q < W.heap.size → ¬ S q) : Got e sz base f p W' v us :=
  ⟨h.row.touch ht (fun g hg => hs g (World.ownsRow.lt h.row.row g hg).1 (World.ownsRow.lt h.row.row g hg).2), fun x hx => Part.touch (h.kids x hx) ht (fun q hq => hs q (h.low x hx q hq) (h.lt x hx q hq)), h.low, fun x hx q hq => Nat.lt_of_lt_of_le (h.lt x hx q hq) ht.size, h.apart⟩
/-- Behind what turns one block, that lies below them. -/
theorem Got.save {e : TypeId} {sz base k : Nat} {f : α → List Value} {p : α → Part} {W W' : World} {v : Value} {us : List α} (h : Got e sz base f p W v us) (hs : Save k W W') (hk : k < base) : Got e sz base f p W' v us :=
  h.touch (.of_save hs) (fun q hq _ e => by omega)
theorem Got.below {e : TypeId} {sz base : Nat} {f : α → List Value} {p : α → Part} {W W' : World} {v : Value} {us : List α} (h : Got e sz base f p W v us) (hb : Below W.heap.size W W') : Got e sz base f p W' v us :=
  h.touch (S := fun _ => False) (.of_below hb) (fun _ _ _ h => h)
/-- One more. -/
theorem Got.snoc {e : TypeId} {sz base : Nat} {f : α → List Value} {p : α → Part} {W W3 : World} {v v' : Value} {us : List α} {x : α} {n0 : Nat} (h : Got e sz base f p W v us) (hx : (p x).lies W) (hlo : ∀ q ∈ (p x).foot, n0 ≤ q) (hlt : ∀ q ∈ (p x).foot, q < W.heap.size) (hb : base ≤ n0) (hv : ∀ g, v.ownBlock = some g → g < n0)
    (hown : OwnR e sz base W3 v' (us.map f ++ [f x])) (hg : W.grownBy W3 v.ownBlock) (hat : ∀ g, v'.ownBlock = some g → v.ownBlock = some g ∨ W.heap.size ≤ g) : Got e sz base f p W3 v' (us ++ [x]) := by
  have ht : Touch (fun j => v.ownBlock = some j) W W3 := Touch.of_grown hg
  have hne : ∀ q ∈ (p x).foot, v.ownBlock ≠ some q := fun q hq e => by
    have h1 := hlo q hq
    have h2 := hv q e
    omega
  refine ⟨by rw [List.map_append]; exact hown, ?_, ?_, ?_, ?_⟩
  · intro y hy
    rcases List.mem_append.1 hy with hy | hy
    · exact Part.touch (h.kids y hy) ht (h.apart y hy)
    · rw [List.mem_singleton] at hy; subst hy
      exact Part.touch hx ht hne
  · intro y hy q hq
    rcases List.mem_append.1 hy with hy | hy
    · exact h.low y hy q hq
    · rw [List.mem_singleton] at hy; subst hy
      exact Nat.le_trans hb (hlo q hq)
  · intro y hy q hq
    rcases List.mem_append.1 hy with hy | hy
    · exact Nat.lt_of_lt_of_le (h.lt y hy q hq) ht.size
    · rw [List.mem_singleton] at hy; subst hy
      exact Nat.lt_of_lt_of_le (hlt q hq) ht.size
  · intro y hy q hq e
    rcases List.mem_append.1 hy with hy | hy
    · rcases hat q e with e2 | e2
      · exact h.apart y hy q hq e2
      · have := h.lt y hy q hq; omega
    · rw [List.mem_singleton] at hy; subst hy
      rcases hat q e with e2 | e2
      · exact hne q hq e2
      · have := hlt q hq; omega
end
/-- The tags' blocks. -/
theorem foot_lt {p : Part} {w : World} (h : p.lies w) : ∀ q ∈ p.foot, q < w.heap.size := by
  obtain ⟨h1, h2, h3⟩ := h
  intro q hq
  rcases List.mem_append.1 hq with hq | hq
  · exact list_lt h1 q hq
  · rcases List.mem_append.1 hq with hq | hq
    · rcases h2 with h2 | ⟨b, off, ha, hl, _⟩
      · rw [h2] at hq; simp [blkOf] at hq
      · rw [ha] at hq
        unfold blkOf at hq
        split at hq
        · simp at hq
        · simp at hq; subst hq; exact hl
    · rcases h3 with h3 | ⟨b, off, ha, hl, _⟩
      · rw [h3] at hq; simp [blkOf] at hq
      · rw [ha] at hq
        unfold blkOf at hq
        split at hq
        · simp at hq
        · simp at hq; subst hq; exact hl
end Go.Proofs.YtckdnhafookcgaaGreatDoor.Mod

namespace Go.Proofs.YtckdnhafookcgaaGreatDoor.Body
open Go.RowKit
open Go.Proofs.YtckdnhafookcgaaGreatDoor.Kind (Rd)

/-- The reader in block k: over the bytes of v, in the state s. -/
structure RdIs (w : World) (k : Nat) (v : Value) (s : Rd) : Prop where
  c0 : w.cell? ⟨k, 0, none⟩ = some v
  c1 : w.cell? ⟨k, 1, none⟩ = some (.int .i64 s.1)
  c2 : w.cell? ⟨k, 2, none⟩ = some (.int .i64 s.2.1)
  c3 : w.cell? ⟨k, 3, none⟩ = some (.int .i64 s.2.2)
  f0 : w.frozen? ⟨k, 0, none⟩ = false
  f1 : w.frozen? ⟨k, 1, none⟩ = false
  f2 : w.frozen? ⟨k, 2, none⟩ = false
  f3 : w.frozen? ⟨k, 3, none⟩ = false
theorem RdIs.below {w w' : World} {k : Nat} {v : Value} {s : Rd} (h : RdIs w k v s) (hb : Below w.heap.size w w') : RdIs w' k v s := by
  have hk := World.block_lt_of_cell? w _ h.c0
  exact ⟨keep hb h.c0, keep hb h.c1, keep hb h.c2, keep hb h.c3, (hb.frozen (p := ⟨k, 0, none⟩) hk).trans h.f0, (hb.frozen (p := ⟨k, 1, none⟩) hk).trans h.f1, (hb.frozen (p := ⟨k, 2, none⟩) hk).trans h.f2, (hb.frozen (p := ⟨k, 3, none⟩) hk).trans h.f3⟩
theorem RdIs.save {w w' : World} {k j : Nat} {v : Value} {s : Rd} (h : RdIs w k v s) (hb : Save j w w') (hj : k ≠ j) : RdIs w' k v s := by
  have hk := World.block_lt_of_cell? w _ h.c0
  exact ⟨hb.cell hj h.c0, hb.cell hj h.c1, hb.cell hj h.c2, hb.cell hj h.c3, hb.frozen hk hj h.f0, hb.frozen hk hj h.f1, hb.frozen hk hj h.f2, hb.frozen hk hj h.f3⟩

/-- What a method does: this it hands back, in this state it leaves the reader; nothing else turns. -/
def Does (k : Nat) (v : Value) (w : World) (r : Value) (s : Rd) (e : Ending) (w' : World) : Prop := e = .returned r ∧ RdIs w' k v s ∧ Save k w w'

end Go.Proofs.YtckdnhafookcgaaGreatDoor.Body

/-
  BODY: the reader's one, oneOf, newReader, by contract.
-/
namespace Go.Proofs.YtckdnhafookcgaaGreatDoor.Body
open Go.RowKit
open Go.Proofs.YtckdnhafookcgaaGreatDoor.Kind (Rd)

theorem Does.of_save {k : Nat} {v r : Value} {w w0 w' : World} {s : Rd} {e : Ending} (h0 : Save k w w0) (h : Does k v w0 r s e w') : Does k v w r s e w' := ⟨h.1, h.2.1, h0.trans h.2.2⟩

end Go.Proofs.YtckdnhafookcgaaGreatDoor.Body

namespace Go.Proofs.YtckdnhafookcgaaGreatDoor.Body
open Go.RowKit Go.Proofs.YtckdnhafookcgaaGreatDoor.Leb
open Go.Proofs.YtckdnhafookcgaaGreatDoor.Kind (Rd)

theorem Does.alloc {k : Nat} {v r : Value} {w w' : World} {s : Rd} {e : Ending} (h : Does k v w r s e w') (o : Obj) : Does k v w r s e (w'.alloc o) :=
  ⟨h.1, h.2.1.below ((Below.refl _ _).alloc (Nat.le_refl _) o), h.2.2.alloc o⟩

end Go.Proofs.YtckdnhafookcgaaGreatDoor.Body

namespace Go.Proofs.YtckdnhafookcgaaGreatDoor.Body
open Go.RowKit
open Go.Proofs.YtckdnhafookcgaaGreatDoor.Kind (Rd)

/-- The document's own reader in block k: over the bytes of v, in the state s, behind n instructions. -/
structure RcIs (w : World) (k : Nat) (v : Value) (s : Rd) (n : Int) : Prop extends RdIs w k v s where
  c4 : w.cell? ⟨k, 4, none⟩ = some (.int .i64 n)
  f4 : w.frozen? ⟨k, 4, none⟩ = false
theorem RcIs.below {w w' : World} {k : Nat} {v : Value} {s : Rd} {n : Int} (h : RcIs w k v s n) (hb : Below w.heap.size w w') : RcIs w' k v s n :=
  ⟨h.toRdIs.below hb, keep hb h.c4, (hb.frozen (p := ⟨k, 4, none⟩) (World.block_lt_of_cell? w _ h.c4)).trans h.f4⟩
theorem RcIs.save {w w' : World} {k j : Nat} {v : Value} {s : Rd} {n : Int} (h : RcIs w k v s n) (hb : Save j w w') (hj : k ≠ j) : RcIs w' k v s n :=
  ⟨h.toRdIs.save hb hj, hb.cell hj h.c4, hb.frozen (World.block_lt_of_cell? w _ h.c4) hj h.f4⟩
/-- One more. -/
theorem RcIs.count {w : World} {k : Nat} {v : Value} {s : Rd} {n : Int} (h : RcIs w k v s n) (m : Int) : RcIs (w.setCell ⟨k, 4, none⟩ (.int .i64 m)) k v s m := by
  refine ⟨⟨?_, ?_, ?_, ?_, ?_, ?_, ?_, ?_⟩, ?_, ?_⟩ <;> simp [go_sem, h.c0, h.c1, h.c2, h.c3, h.c4, h.f0, h.f1, h.f2, h.f3, h.f4]
end Go.Proofs.YtckdnhafookcgaaGreatDoor.Body

/-
  BODY: the document's own reader's next, number, signed, is, by contract. (tools/gen_bodyrefn.py)
-/
namespace Go.Proofs.YtckdnhafookcgaaGreatDoor.Body
open Go.RowKit Go.Proofs.YtckdnhafookcgaaGreatDoor.Leb
open Go.Proofs.YtckdnhafookcgaaGreatDoor.Kind (Rd)

end Go.Proofs.YtckdnhafookcgaaGreatDoor.Body

namespace Go.Proofs.YtckdnhafookcgaaGreatDoor.Body
open Go.RowKit Go.Proofs.YtckdnhafookcgaaGreatDoor.Instr
open Go.Proofs.YtckdnhafookcgaaGreatDoor.Kind (Rd)

end Go.Proofs.YtckdnhafookcgaaGreatDoor.Body

/-
  BODY: the reader's labels, by contract: new memory that holds them.
-/
namespace Go.Proofs.YtckdnhafookcgaaGreatDoor.Body
open Go.RowKit Go.Proofs.YtckdnhafookcgaaGreatDoor.Instr
open Go.Proofs.YtckdnhafookcgaaGreatDoor.Kind (Rd)

theorem RdIs.belowB {B : Nat} {w w' : World} {k : Nat} {v : Value} {s : Rd} (h : RdIs w k v s) (hb : Below B w w') (hk : k < B) : RdIs w' k v s :=
  ⟨(hb.cell hk).trans h.c0, (hb.cell hk).trans h.c1, (hb.cell hk).trans h.c2, (hb.cell hk).trans h.c3, (hb.frozen hk).trans h.f0, (hb.frozen hk).trans h.f1, (hb.frozen hk).trans h.f2, (hb.frozen hk).trans h.f3⟩
theorem save_under {k : Nat} {a b c : World} (h : Save k a b) (g : Below a.heap.size b c) : Save k a c :=
  ⟨g.os.trans h.os, g.tape.trans h.tape, g.output.trans h.output, Nat.le_trans h.size g.size, fun j hj hk => (g.block j hj).trans (h.block j hj hk)⟩

end Go.Proofs.YtckdnhafookcgaaGreatDoor.Body

namespace Go.Proofs.YtckdnhafookcgaaGreatDoor.Body
open Go.RowKit Go.Proofs.YtckdnhafookcgaaGreatDoor.Instr
open Go.Proofs.YtckdnhafookcgaaGreatDoor.Kind (Rd)

/-- An instruction in a block of its own, that can be written. -/
structure Bx (g : Nat) (x : Ix) (w : World) : Prop where
  at_ : At x g w
  f0 : w.frozen? ⟨g, 0, none⟩ = false
  f1 : w.frozen? ⟨g, 1, none⟩ = false
  f2 : w.frozen? ⟨g, 2, none⟩ = false
  f3 : w.frozen? ⟨g, 3, none⟩ = false
  f4 : w.frozen? ⟨g, 4, none⟩ = false
  f5 : w.frozen? ⟨g, 5, none⟩ = false
  f6 : w.frozen? ⟨g, 6, none⟩ = false
  f7 : w.frozen? ⟨g, 7, none⟩ = false
theorem Bx.save {g k : Nat} {x : Ix} {w w' : World} (h : Bx g x w) (hs : Save k w w') (hk : g ≠ k) : Bx g x w' := by
  have hl : g < w.heap.size := World.block_lt_of_cell? w _ h.at_.c0
  exact ⟨h.at_.save hs hk, hs.frozen hl hk h.f0, hs.frozen hl hk h.f1, hs.frozen hl hk h.f2, hs.frozen hl hk h.f3, hs.frozen hl hk h.f4, hs.frozen hl hk h.f5, hs.frozen hl hk h.f6, hs.frozen hl hk h.f7⟩
theorem Bx.alloc {g : Nat} {x : Ix} {w : World} (h : Bx g x w) (o : Obj) : Bx g x (w.alloc o) := by
  have hb : Below w.heap.size w (w.alloc o) := (Below.refl _ _).alloc (Nat.le_refl _) o
  have hl : g < w.heap.size := World.block_lt_of_cell? w _ h.at_.c0
  exact ⟨h.at_.below hb, (hb.frozen (p := ⟨g, 0, none⟩) hl).trans h.f0, (hb.frozen (p := ⟨g, 1, none⟩) hl).trans h.f1, (hb.frozen (p := ⟨g, 2, none⟩) hl).trans h.f2, (hb.frozen (p := ⟨g, 3, none⟩) hl).trans h.f3, (hb.frozen (p := ⟨g, 4, none⟩) hl).trans h.f4, (hb.frozen (p := ⟨g, 5, none⟩) hl).trans h.f5, (hb.frozen (p := ⟨g, 6, none⟩) hl).trans h.f6, (hb.frozen (p := ⟨g, 7, none⟩) hl).trans h.f7⟩
def zeroX : Ix := plainX 0 0 0 0 0 []
theorem Bx.other {g : Nat} {x : Ix} {w : World} (h : Bx g x w) {p : Addr} (hp : p.block ≠ g) (v : Value) : Bx g x (w.setCell p v) := by
  have hl : g < w.heap.size := World.block_lt_of_cell? w _ h.at_.c0
  have hs : Save p.block w (w.setCell p v) := (Save.refl _ _).setCell (.inl rfl) _
  exact h.save hs (fun e => hp e.symm)
end Go.Proofs.YtckdnhafookcgaaGreatDoor.Body

namespace Go.Proofs.YtckdnhafookcgaaGreatDoor.Body
open Go.RowKit Go.Proofs.YtckdnhafookcgaaGreatDoor.Instr
open Go.Proofs.YtckdnhafookcgaaGreatDoor.Kind (Rd)
/-- An open list: its owner, the owner's first list if this is its second, what has been read, the slice that holds that. -/
structure Og where
  x : Ix
  fl : Il
  t : Il
  v : Value
  oth : Bool
def Og.cells (o : Og) : List Value := o.x.vals.toList ++ [o.v, .bool o.oth]
def rowBlk (v : Value) : List Nat := match v.ownBlock with
  | some g => [g]
  | none => []
/-- Its blocks, but for that of its row. -/
def Og.inner (o : Og) : List Nat := o.t.foot ++ (blkOf o.x.ln o.x.la ++ o.fl.foot)
def Og.foot (o : Og) : List Nat := rowBlk o.v ++ o.inner
/-- What the plain reading knows of it. -/
def Og.fr (o : Og) : Fr := ⟨plainX o.x.op o.x.res 0 0 0 [], o.fl.bare, o.t.bare, o.oth⟩
/-- All but the row of what has been read. -/
structure Half (base : Nat) (w : World) (o : Og) : Prop where
  kids : o.t.kids w
  own : ListAt w.heap.size w o.x.la o.x.ln o.fl
  tags : o.x.tags = []
  zero : o.x.a = 0 ∧ o.x.b = 0 ∧ o.x.n = 0
  ok : o.x.ok
  en : o.x.ea = none ∧ o.x.en = 0 ∧ o.x.ec = 0
  first : o.oth = false → o.x.la = none ∧ o.x.ln = 0 ∧ o.x.lc = 0
  low : ∀ q ∈ o.inner, base ≤ q
  few : o.t.len ≤ 4000000
  soft : ∀ q ∈ o.inner, Soft w q
structure OpenOk (base : Nat) (w : World) (o : Og) : Prop where
  half : Half base w o
  row : w.ownsRow base 105 8 o.v o.t.len o.t.cells
theorem Half.touch {base : Nat} {S : Nat → Prop} {w w' : World} {o : Og} (h : Half base w o) (ht : Touch S w w') (hk : ∀ q ∈ o.inner, ¬ S q) : Half base w' o := by
  obtain ⟨h1, h2, h3, h4, h5, h6, h7, h8, h9, h10⟩ := h
  have hs : ∀ q ∈ o.inner, Soft w' q := fun q hq => (h10 q hq).touch ht (hk q hq)
  unfold Og.inner at hk
  exact ⟨kids_touch ht h1 (fun q hq => hk q (List.mem_append_left _ hq)), ListAt.more ht.size (h2.touch ht (fun q hq => hk q (List.mem_append_right _ hq))), h3, h4, h5, h6, h7, h8, h9, hs⟩
theorem OpenOk.touch {base : Nat} {S : Nat → Prop} {w w' : World} {o : Og} (h : OpenOk base w o) (ht : Touch S w w') (hk : ∀ q ∈ o.foot, ¬ S q) : OpenOk base w' o :=
  ⟨h.half.touch ht (fun q hq => hk q (List.mem_append_right _ hq)), touch_row h.row ht (fun g hg => hk g (List.mem_append_left _ (by simp [rowBlk, hg])))⟩
theorem OpenOk.low {base : Nat} {w : World} {o : Og} (h : OpenOk base w o) : ∀ q ∈ o.foot, base ≤ q := by
  intro q hq
  rcases List.mem_append.1 hq with hq | hq
  · unfold rowBlk at hq
    split at hq
    · rename_i g hg
      simp at hq
      subst hq
      exact (World.ownsRow.lt h.row q hg).1
    · simp at hq
  · exact h.half.low q hq
theorem OpenOk.soft {base : Nat} {w : World} {o : Og} (h : OpenOk base w o) : ∀ q ∈ o.foot, Soft w q := by
  intro q hq
  rcases List.mem_append.1 hq with hq | hq
  · unfold rowBlk at hq
    split at hq
    · rename_i g hg
      simp at hq
      subst hq
      exact soft_row h.row hg
    · simp at hq
  · exact h.half.soft q hq
theorem Half.lt {base : Nat} {w : World} {o : Og} (h : Half base w o) : ∀ q ∈ o.inner, q < w.heap.size := by
  intro q hq
  rcases List.mem_append.1 hq with hq | hq
  · exact kids_lt h.kids q hq
  · exact list_lt h.own q hq
theorem OpenOk.lt {base : Nat} {w : World} {o : Og} (h : OpenOk base w o) : ∀ q ∈ o.foot, q < w.heap.size := by
  intro q hq
  rcases List.mem_append.1 hq with hq | hq
  · unfold rowBlk at hq
    split at hq
    · rename_i g hg
      simp at hq
      subst hq
      exact (World.ownsRow.lt h.row q hg).2
    · simp at hq
  · exact h.half.lt q hq

end Go.Proofs.YtckdnhafookcgaaGreatDoor.Body

namespace Go.Proofs.YtckdnhafookcgaaGreatDoor.Body
open Go.RowKit Go.Proofs.YtckdnhafookcgaaGreatDoor.Instr
open Go.Proofs.YtckdnhafookcgaaGreatDoor.Kind (Rd)

def zeroI : Value := .agg #[.int .i64 0, .int .i64 0, .int .u32 0, .int .u32 0, .int .i32 0, .slice none 0 0, .slice none 0 0, .slice none 0 0]
theorem infoI : (Tryz.prog.info? 105).map (fun i => (i.zero, i.size, i.bytes)) = some (some zeroI, 8, 104) := by kernel_rfl

section
variable {ops : Array Oper} {o : Oper} {act : Act} {K : Act → World → Prop} {Q : Exit → Act → World → Prop} {E : Prop}
end
end Go.Proofs.YtckdnhafookcgaaGreatDoor.Body

/-
  BODY: closeTop, by contract.
-/
namespace Go.Proofs.YtckdnhafookcgaaGreatDoor.Body
open Go.RowKit Go.Proofs.YtckdnhafookcgaaGreatDoor.Instr
open Go.Proofs.YtckdnhafookcgaaGreatDoor.Kind (Rd)

/-- The cells that an append to an open list's slice reads: that slice, and the instruction. -/
def Tops (gs p T : Nat) (gv : Value) (y : Ix) (w : World) : Prop := w.cell? ⟨gs, p, none⟩ = some gv ∧ At y T w
theorem Tops.touch {gs p T : Nat} {gv : Value} {y : Ix} {S : Nat → Prop} {w w' : World} (h : Tops gs p T gv y w) (ht : Touch S w w') (h1 : ¬ S gs) (h2 : ¬ S T) : w'.cell? ⟨gs, p, none⟩ = some gv ∧ w'.cell? ⟨T, 0, none⟩ = some (.int .i64 y.op) ∧ w'.cell? ⟨T, 1, none⟩ = some (.int .i64 y.res) ∧
    w'.cell? ⟨T, 2, none⟩ = some (.int .u32 y.a) ∧ w'.cell? ⟨T, 3, none⟩ = some (.int .u32 y.b) ∧ w'.cell? ⟨T, 4, none⟩ = some (.int .i32 y.n) ∧ w'.cell? ⟨T, 5, none⟩ = some (.slice y.ta y.tags.length y.tc) ∧ w'.cell? ⟨T, 6, none⟩ = some (.slice y.la y.ln y.lc) ∧ w'.cell? ⟨T, 7, none⟩ = some (.slice y.ea y.en y.ec) := by
  obtain ⟨h0, ⟨c0, c1, c2, c3, c4, c5, c6, c7⟩⟩ := h
  exact ⟨ht.cell h1 h0, ht.cell h2 c0, ht.cell h2 c1, ht.cell h2 c2, ht.cell h2 c3, ht.cell h2 c4, ht.cell h2 c5, ht.cell h2 c6, ht.cell h2 c7⟩
theorem Tops.keep {gs p T : Nat} {gv : Value} {y : Ix} {w w' : World} (h : Tops gs p T gv y w) (ht : Touch (fun j => j ≠ T) w w') : w'.cell? ⟨T, 0, none⟩ = some (.int .i64 y.op) ∧ w'.cell? ⟨T, 1, none⟩ = some (.int .i64 y.res) ∧
    w'.cell? ⟨T, 2, none⟩ = some (.int .u32 y.a) ∧ w'.cell? ⟨T, 3, none⟩ = some (.int .u32 y.b) ∧ w'.cell? ⟨T, 4, none⟩ = some (.int .i32 y.n) ∧ w'.cell? ⟨T, 5, none⟩ = some (.slice y.ta y.tags.length y.tc) ∧ w'.cell? ⟨T, 6, none⟩ = some (.slice y.la y.ln y.lc) ∧ w'.cell? ⟨T, 7, none⟩ = some (.slice y.ea y.en y.ec) := by
  obtain ⟨_, ⟨c0, c1, c2, c3, c4, c5, c6, c7⟩⟩ := h
  have n : ¬ T ≠ T := fun h => h rfl
  exact ⟨ht.cell n c0, ht.cell n c1, ht.cell n c2, ht.cell n c3, ht.cell n c4, ht.cell n c5, ht.cell n c6, ht.cell n c7⟩
/-- What an item more leaves: the top list's slice, its cells, and the stack's cell. -/
def Itemed (base gs p : Nat) (y : Ix) (ga : Option Addr) (gc : Nat) (gt : Il) (w w' : World) : Prop :=
  ∃ w1 g' cap', Touch (fun j => Value.ownBlock (.slice ga gt.len gc) = some j) w w1 ∧ w1.ownsRow base 105 8 (.slice (some ⟨g', 0, none⟩) (gt.len + 1) cap') (gt.len + 1) (gt.cells ++ zeroX.vals.toList) ∧ (Value.ownBlock (.slice ga gt.len gc) = some g' ∨ w.heap.size ≤ g') ∧
    w' = (store8 w1 g' (gt.len * 8) y).setCell ⟨gs, p, none⟩ (.slice (some ⟨g', 0, none⟩) (gt.len + 1) cap')
end Go.Proofs.YtckdnhafookcgaaGreatDoor.Body

/-
  BODY: closeTop, by contract, on the stack of open lists.
-/
namespace Go.Proofs.YtckdnhafookcgaaGreatDoor.Body
open Go.RowKit Go.Proofs.YtckdnhafookcgaaGreatDoor.Instr
open Go.Proofs.YtckdnhafookcgaaGreatDoor.Kind (Rd)

end Go.Proofs.YtckdnhafookcgaaGreatDoor.Body

namespace Go.Proofs.YtckdnhafookcgaaGreatDoor.Body
open Go.RowKit Go.Proofs.YtckdnhafookcgaaGreatDoor.Instr
open Go.Proofs.YtckdnhafookcgaaGreatDoor.Kind (Rd)

section
variable {zs : List Int} {m : Nat} {f : Fr} {fs : List Fr} {cnt : Int} {s s1 : Rd} {y : Int}
end

theorem Itemed.below {base gs p : Nat} {y : Ix} {ga : Option Addr} {gc : Nat} {gt : Il} {w w' : World} (h : Itemed base gs p y ga gc gt w w') (hb : base ≤ w.heap.size) (hlow : ∀ q, Value.ownBlock (.slice ga gt.len gc) = some q → base ≤ q) (hgs : base ≤ gs) : Below base w w' := by
  obtain ⟨w1, g', cap', ht, _, hat, rfl⟩ := h
  have h1 : Below base w w1 := ht.below hb (fun j hj => hlow j hj)
  have hg' : base ≤ g' := by
    rcases hat with h | h
    · exact hlow g' h
    · omega
  exact (h1.trans ((store8_touch w1 g' (gt.len * 8) y).below (Nat.le_trans hb ht.size) (fun j hj => by have hj' : j = g' := hj; omega))).setCell hgs _
end Go.Proofs.YtckdnhafookcgaaGreatDoor.Body

/-
  BODY: the reader's list, by contract.
-/
namespace Go.Proofs.YtckdnhafookcgaaGreatDoor.Body
open Go.RowKit Go.Proofs.YtckdnhafookcgaaGreatDoor.Instr
open Go.Proofs.YtckdnhafookcgaaGreatDoor.Kind (Rd)

end Go.Proofs.YtckdnhafookcgaaGreatDoor.Body

namespace Go.Proofs.YtckdnhafookcgaaGreatDoor.Body
open Go.RowKit Go.Proofs.YtckdnhafookcgaaGreatDoor.Instr
open Go.Proofs.YtckdnhafookcgaaGreatDoor.Kind (Rd)

/-- Instructions in memory of their own. -/
structure Fresh (B : Nat) (w : World) (a : Option Addr) (n : Nat) (t : Il) : Prop where
  lst : ListAt w.heap.size w a n t
  nodup : (blkOf n a ++ t.foot).Nodup
  low : ∀ q ∈ blkOf n a ++ t.foot, B ≤ q
  soft : ∀ q ∈ blkOf n a ++ t.foot, Soft w q
theorem Fresh.nil (B : Nat) (w : World) : Fresh B w none 0 .nil := ⟨⟨rfl, .inl rfl⟩, by simp [blkOf, Il.foot], fun q hq => by simp [blkOf, Il.foot] at hq, fun q hq => by simp [blkOf, Il.foot] at hq⟩
theorem Fresh.touch {B : Nat} {S : Nat → Prop} {w w' : World} {a : Option Addr} {n : Nat} {t : Il} (h : Fresh B w a n t) (ht : Touch S w w') (hs : ∀ q ∈ blkOf n a ++ t.foot, ¬ S q) : Fresh B w' a n t := ⟨ListAt.more ht.size (h.lst.touch ht hs), h.nodup, h.low, fun q hq => (h.soft q hq).touch ht (hs q hq)⟩
theorem Fresh.mono {B B' : Nat} {w : World} {a : Option Addr} {n : Nat} {t : Il} (h : Fresh B w a n t) (hb : B' ≤ B) : Fresh B' w a n t := ⟨h.lst, h.nodup, fun q hq => Nat.le_trans hb (h.low q hq), h.soft⟩
theorem Fresh.below {B : Nat} {w w' : World} {a : Option Addr} {n : Nat} {t : Il} (h : Fresh B w a n t) (hb : Below w.heap.size w w') : Fresh B w' a n t := h.touch (S := fun _ => False) (.of_below hb) (fun _ _ h => h)
end Go.Proofs.YtckdnhafookcgaaGreatDoor.Body

namespace Go.Proofs.YtckdnhafookcgaaGreatDoor.Body
set_option linter.unusedVariables false
open Go.RowKit Go.Proofs.YtckdnhafookcgaaGreatDoor.Instr
open Go.Proofs.YtckdnhafookcgaaGreatDoor.Kind (Rd)

theorem RcIs.belowB {B : Nat} {w w' : World} {k : Nat} {v : Value} {s : Rd} {n : Int} (h : RcIs w k v s n) (hb : Below B w w') (hk : k < B) : RcIs w' k v s n :=
  ⟨h.toRdIs.belowB hb hk, (hb.cell hk).trans h.c4, (hb.frozen hk).trans h.f4⟩
theorem Bx.belowB {B : Nat} {w w' : World} {g : Nat} {x : Ix} (h : Bx g x w) (hb : Below B w w') (hg : g < B) : Bx g x w' :=
  ⟨⟨(hb.cell hg).trans h.at_.c0, (hb.cell hg).trans h.at_.c1, (hb.cell hg).trans h.at_.c2, (hb.cell hg).trans h.at_.c3, (hb.cell hg).trans h.at_.c4, (hb.cell hg).trans h.at_.c5, (hb.cell hg).trans h.at_.c6, (hb.cell hg).trans h.at_.c7⟩,
    (hb.frozen hg).trans h.f0, (hb.frozen hg).trans h.f1, (hb.frozen hg).trans h.f2, (hb.frozen hg).trans h.f3, (hb.frozen hg).trans h.f4, (hb.frozen hg).trans h.f5, (hb.frozen hg).trans h.f6, (hb.frozen hg).trans h.f7⟩
theorem below_put (W : World) (b o : Nat) (u : Value) : Below b W (W.setCell ⟨b, o, none⟩ u) := (Below.refl b W).setCell (p := ⟨b, o, none⟩) (Nat.le_refl _) u
/-- While an instruction is read: the reader, the result's block, the instruction's block behind it. -/
structure Mid (w : World) (k : Nat) (v : Value) (n : Int) (s : Rd) (x : Ix) (W : World) : Prop where
  r : RcIs W k v s n
  sv : Save k w W
  res : Bx w.heap.size zeroX W
  box : Bx (w.heap.size + 1) x W
  lt : k < w.heap.size
section
variable {w W W' : World} {k : Nat} {v : Value} {n : Int} {s s' : Rd} {x : Ix}
theorem Mid.call {n' : Int} (M : Mid w k v n s x W) (h : RcIs W' k v s' n') (hs : Save k W W') : Mid w k v n' s' x W' := ⟨h, M.sv.trans hs, M.res.save hs (by have := M.lt; omega), M.box.save hs (by have := M.lt; omega), M.lt⟩
end
end Go.Proofs.YtckdnhafookcgaaGreatDoor.Body

/-
  BODY: the document's own reading of an instruction with labels, by contract.
-/
namespace Go.Proofs.YtckdnhafookcgaaGreatDoor.Body
set_option linter.unusedVariables false
open Go.RowKit Go.Proofs.YtckdnhafookcgaaGreatDoor.Instr
open Go.Proofs.YtckdnhafookcgaaGreatDoor.Kind (Rd)

theorem Mid.more {w W W' : World} {k : Nat} {v : Value} {n : Int} {s : Rd} {x : Ix} (M : Mid w k v n s x W) (hB : Below (w.heap.size + 2) W W') : Mid w k v n s x W' :=
  ⟨M.r.belowB hB (by have := M.lt; omega), save_under M.sv (hB.mono (by omega)), M.res.belowB hB (by omega), M.box.belowB hB (by omega), M.lt⟩
end Go.Proofs.YtckdnhafookcgaaGreatDoor.Body

/-
  BODY: the document's own reading of lists: what a list, and an instruction with lists, give; the list that is read so far (plain, and in memory).
-/
namespace Go.Proofs.YtckdnhafookcgaaGreatDoor.Body
set_option linter.unusedVariables false
open Go.RowKit Go.Proofs.YtckdnhafookcgaaGreatDoor.Instr
open Go.Proofs.YtckdnhafookcgaaGreatDoor.Kind (Rd)

/-- The list that has been read so far, in memory of its own. -/
structure LOk (w : World) (out : Value) (t : Il) (W : World) : Prop where
  row : W.ownsRow w.heap.size 105 8 out t.len t.cells
  kids : t.kids W
  low : ∀ q ∈ t.foot, w.heap.size ≤ q
  apart : ∀ q ∈ t.foot, out.ownBlock ≠ some q
theorem LOk.touch {S : Nat → Prop} {w W W' : World} {out : Value} {t : Il} (h : LOk w out t W) (ht : Touch S W W') (hs : ∀ q, w.heap.size ≤ q → ¬ S q) : LOk w out t W' :=
  ⟨touch_row h.row ht (fun g hg => hs g (World.ownsRow.lt h.row g hg).1), kids_touch ht h.kids (fun q hq => hs q (h.low q hq)), h.low, h.apart⟩
theorem LOk.save {k : Nat} {w W W' : World} {out : Value} {t : Il} (h : LOk w out t W) (hs : Save k W W') (hk : k < w.heap.size) : LOk w out t W' :=
  h.touch (.of_save hs) (fun q hq e => by omega)
theorem LOk.snoc {w W W2 W3 : World} {out : Value} {t : Il} {y : Ix} {l f : Il} {g cap : Nat} {o : Obj} (h : LOk w out t W) (h2 : LOk w out t W2) (hk : (Il.cons y l f .nil).kids W2) (hlo : ∀ q ∈ (Il.cons y l f .nil).foot, W.heap.size ≤ q) (hw : w.heap.size ≤ W.heap.size)
    (hown : W3.ownsRow w.heap.size 105 8 (.slice (some ⟨g, 0, none⟩) (t.len + 1) cap) (t.len + 1) (t.cells ++ y.vals.toList)) (hg : (W2.alloc o).grownBy W3 out.ownBlock) (hat : out.ownBlock = some g ∨ g = (W2.alloc o).heap.size) :
    LOk w (.slice (some ⟨g, 0, none⟩) (t.len + 1) cap) (t.app (.cons y l f .nil)) W3 := by
  have ht : Touch (fun j => out.ownBlock = some j) W2 W3 := (Touch.of_below (thenA (Below.refl _ _) o)).trans (Touch.of_grown hg)
  have hne : ∀ q ∈ (Il.cons y l f .nil).foot, out.ownBlock ≠ some q := fun q hq e => by
    have h1 := hlo q hq
    have h3 := (World.ownsRow.lt h.row q e).2
    omega
  have hlt : ∀ q ∈ t.foot, q < W2.heap.size := kids_lt h2.kids
  have hlt2 : ∀ q ∈ (Il.cons y l f .nil).foot, q < W2.heap.size := kids_lt hk
  have hsz : (W2.alloc o).heap.size = W2.heap.size + 1 := by simp
  refine ⟨?_, kids_app _ _ (kids_touch ht h2.kids h2.apart) (kids_touch ht hk hne), ?_, ?_⟩
  · rw [app_len, cells_app]
    simp only [Il.len, Il.cells, List.append_nil, Nat.zero_add]
    exact hown
  · intro q hq
    rw [foot_app] at hq
    rcases List.mem_append.1 hq with hq | hq
    · exact h2.low q hq
    · exact Nat.le_trans hw (hlo q hq)
  · intro q hq e
    simp only [Value.ownBlock, Option.some.injEq] at e
    subst e
    rw [foot_app] at hq
    rcases hat with hat | hat
    · rcases List.mem_append.1 hq with hq | hq
      · exact h2.apart g hq hat
      · exact hne g hq hat
    · rcases List.mem_append.1 hq with hq | hq
      · have := hlt g hq; omega
      · have := hlt2 g hq; omega
section
variable {ops : Array Oper} {rest : List Oper} {o : Oper} {act : Act} {Q : Exit → Act → World → Prop}
end
end Go.Proofs.YtckdnhafookcgaaGreatDoor.Body

/-
  BODY: the document's own reading of an instruction that has lists, by contract. (tools/gen_bodyrefb.py)
-/
namespace Go.Proofs.YtckdnhafookcgaaGreatDoor.Body
set_option linter.unusedVariables false
open Go.RowKit Go.Proofs.YtckdnhafookcgaaGreatDoor.Instr
open Go.Proofs.YtckdnhafookcgaaGreatDoor.Kind (Rd)

/-- While an instruction with lists is read: the reader, the instruction's block, the result's behind it. -/
structure Blk (w : World) (k : Nat) (v : Value) (n : Int) (s : Rd) (x : Ix) (W : World) : Prop where
  r : RcIs W k v s n
  sv : Save k w W
  box : Bx w.heap.size x W
  res : Bx (w.heap.size + 1) zeroX W
  lt : k < w.heap.size
section
variable {w W W' : World} {k : Nat} {v : Value} {n : Int} {s s' : Rd} {x : Ix}
theorem Blk.call {n' : Int} (M : Blk w k v n s x W) (h : RcIs W' k v s' n') (hs : Save k W W') : Blk w k v n' s' x W' := ⟨h, M.sv.trans hs, M.box.save hs (by have := M.lt; omega), M.res.save hs (by have := M.lt; omega), M.lt⟩
theorem Blk.put {x' : Ix} (M : Blk w k v n s x W) (o : Nat) (u : Value) (hbox : Bx w.heap.size x' (W.setCell ⟨w.heap.size, o, none⟩ u)) : Blk w k v n s x' (W.setCell ⟨w.heap.size, o, none⟩ u) :=
  ⟨M.r.belowB (below_put W _ _ _) M.lt, save_under M.sv (below_put W _ _ _), hbox, M.res.other (by simp) _, M.lt⟩
theorem Blk.size (M : Blk w k v n s x W) : w.heap.size + 2 ≤ W.heap.size := by
  have := World.block_lt_of_cell? W _ M.res.at_.c0
  simp only at this
  omega
end
end Go.Proofs.YtckdnhafookcgaaGreatDoor.Body

/-
  BODY: the document's own one and list, by contract. (tools/gen_bodyrefl.py)
-/
namespace Go.Proofs.YtckdnhafookcgaaGreatDoor.Body
set_option linter.unusedVariables false
open Go.RowKit Go.Proofs.YtckdnhafookcgaaGreatDoor.Instr
open Go.Proofs.YtckdnhafookcgaaGreatDoor.Kind (Rd)

theorem Mid.size {w W : World} {k : Nat} {v : Value} {n : Int} {s : Rd} {x : Ix} (M : Mid w k v n s x W) : w.heap.size + 2 ≤ W.heap.size := by
  have := World.block_lt_of_cell? W _ M.box.at_.c0
  simp only at this
  omega
end Go.Proofs.YtckdnhafookcgaaGreatDoor.Body

/-
  BODY: the document's own list, by contract. (tools/gen_bodyrefm.py)
-/
namespace Go.Proofs.YtckdnhafookcgaaGreatDoor.Body
set_option linter.unusedVariables false
open Go.RowKit Go.Proofs.YtckdnhafookcgaaGreatDoor.Instr
open Go.Proofs.YtckdnhafookcgaaGreatDoor.Kind (Rd)

end Go.Proofs.YtckdnhafookcgaaGreatDoor.Body

/-
  BODY: the document's own Get, by contract.
-/
namespace Go.Proofs.YtckdnhafookcgaaGreatDoor.Body
set_option linter.unusedVariables false
open Go.RowKit Go.Proofs.YtckdnhafookcgaaGreatDoor.Instr
open Go.Proofs.YtckdnhafookcgaaGreatDoor.Kind (Rd)

/-- Two cells that are there. -/
structure Duq (T : Nat) (x y : Value) (w : World) : Prop where
  c0 : w.cell? ⟨T, 0, none⟩ = some x
  c1 : w.cell? ⟨T, 1, none⟩ = some y
  f0 : w.frozen? ⟨T, 0, none⟩ = false
  f1 : w.frozen? ⟨T, 1, none⟩ = false
theorem Duq.save {k T : Nat} {x y : Value} {w w' : World} (h : Duq T x y w) (hs : Save k w w') (hk : T ≠ k) : Duq T x y w' :=
  have hl := World.block_lt_of_cell? w _ h.c0
  ⟨hs.cell hk h.c0, hs.cell hk h.c1, hs.frozen hl hk h.f0, hs.frozen hl hk h.f1⟩
theorem Duq.below {T : Nat} {x y : Value} {w w' : World} (h : Duq T x y w) (hb : Below w.heap.size w w') : Duq T x y w' :=
  h.save (k := w.heap.size) (Save.of_below hb) (by have := World.block_lt_of_cell? w _ h.c0; simp at this; omega)
end Go.Proofs.YtckdnhafookcgaaGreatDoor.Body

namespace Go.Proofs.YtckdnhafookcgaaGreatDoor.Instr
open Go.RowKit

def Il.weight : Il → Nat
  | .nil => 0
  | .cons x l e r => 1 + x.tags.length + l.weight + e.weight + r.weight
def tagsMin (x : Ix) (most : Int) : Int := min (x.tags.length : Int) most
/-- Counted on from n, no further than beyond 'most'. -/
def Il.go : Il → Int → Int → Int
  | .nil, n, _ => n
  | .cons x l e r, n, most =>
    if n ≤ most then
      r.go (if (if n + 1 + tagsMin x most ≤ most then n + 1 + tagsMin x most + l.go 0 (most - (n + 1 + tagsMin x most)) else n + 1 + tagsMin x most) ≤ most
        then (if n + 1 + tagsMin x most ≤ most then n + 1 + tagsMin x most + l.go 0 (most - (n + 1 + tagsMin x most)) else n + 1 + tagsMin x most) + e.go 0 (most - (if n + 1 + tagsMin x most ≤ most then n + 1 + tagsMin x most + l.go 0 (most - (n + 1 + tagsMin x most)) else n + 1 + tagsMin x most))
        else (if n + 1 + tagsMin x most ≤ most then n + 1 + tagsMin x most + l.go 0 (most - (n + 1 + tagsMin x most)) else n + 1 + tagsMin x most)) most
    else n
/-- Behind one of them. -/
def next1 (n m : Int) (most : Int) : Int := if n ≤ most then n + m else n
theorem next1_pos {n m most : Int} (h : n ≤ most) : next1 n m most = n + m := if_pos h
theorem next1_neg {n m most : Int} (h : ¬ n ≤ most) : next1 n m most = n := if_neg h
theorem go_cons (x : Ix) (l e r : Il) (n most : Int) (h : n ≤ most) : (Il.cons x l e r).go n most =
    r.go (next1 (next1 (n + 1 + tagsMin x most) (l.go 0 (most - (n + 1 + tagsMin x most))) most) (e.go 0 (most - next1 (n + 1 + tagsMin x most) (l.go 0 (most - (n + 1 + tagsMin x most))) most)) most) most := by
  rw [Il.go, if_pos h]; rfl
theorem go_over (t : Il) (n most : Int) (h : most < n) : t.go n most = n := by
  cases t with
  | nil => rfl
  | cons x l e r => rw [Il.go, if_neg (by omega)]
theorem tagsMin_bounds (x : Ix) (most : Int) (h : 0 ≤ most) : 0 ≤ tagsMin x most ∧ tagsMin x most ≤ most ∧ tagsMin x most ≤ x.tags.length := by unfold tagsMin; omega
theorem go_bounds : ∀ (t : Il) (n most : Int), 0 ≤ n → 0 ≤ most → n ≤ 2 * most + 1 → n ≤ t.go n most ∧ t.go n most ≤ 2 * most + 1 ∧ (t.go n most ≤ most → n + t.weight ≤ t.go n most)
  | .nil, n, most, h0, h1, h2 => by simp [Il.go, Il.weight, h2]
  | .cons x l e r, n, most, h0, h1, h2 => by
    by_cases h : n ≤ most
    · rw [go_cons x l e r n most h]
      have hT := tagsMin_bounds x most h1
      obtain ⟨T, hTT⟩ : ∃ T, tagsMin x most = T := ⟨_, rfl⟩
      have hx : T = most ∨ T = x.tags.length := by rw [← hTT]; unfold tagsMin; omega
      rw [hTT] at hT ⊢
      have A : ∀ (N2 : Int), next1 (n + 1 + T) (l.go 0 (most - (n + 1 + T))) most = N2 → n + 1 + T ≤ N2 ∧ N2 ≤ 2 * most + 1 ∧ (N2 ≤ most → n + 1 + T + l.weight ≤ N2 ∧ n + 1 + T ≤ most) := by
        intro N2 h
        subst h
        unfold next1
        split
        · have := go_bounds l 0 (most - (n + 1 + T)) (by omega) (by omega) (by omega)
          refine ⟨by omega, by omega, fun hh => ⟨?_, by omega⟩⟩
          have := this.2.2 (by omega)
          omega
        · exact ⟨by omega, by omega, fun hh => by omega⟩
      obtain ⟨N2, h2'⟩ : ∃ N2, next1 (n + 1 + T) (l.go 0 (most - (n + 1 + T))) most = N2 := ⟨_, rfl⟩
      have a := A N2 h2'
      rw [h2']
      have B : ∀ (N3 : Int), next1 N2 (e.go 0 (most - N2)) most = N3 → N2 ≤ N3 ∧ N3 ≤ 2 * most + 1 ∧ (N3 ≤ most → N2 + e.weight ≤ N3 ∧ N2 ≤ most) := by
        intro N3 h
        subst h
        unfold next1
        split
        · have := go_bounds e 0 (most - N2) (by omega) (by omega) (by omega)
          refine ⟨by omega, by omega, fun hh => ⟨?_, by omega⟩⟩
          have := this.2.2 (by omega)
          omega
        · exact ⟨by omega, by omega, fun hh => by omega⟩
      obtain ⟨N3, h3'⟩ : ∃ N3, next1 N2 (e.go 0 (most - N2)) most = N3 := ⟨_, rfl⟩
      have b := B N3 h3'
      rw [h3']
      have c := go_bounds r N3 most (by omega) h1 (by omega)
      refine ⟨by omega, c.2.1, fun hh => ?_⟩
      have c3 := c.2.2 hh
      have b3 := b.2.2 (by omega)
      have a3 := a.2.2 (by omega)
      simp only [Il.weight]
      omega
    · rw [go_over _ _ _ (by omega)]
      exact ⟨by omega, by omega, fun hh => by omega⟩
set_option maxRecDepth 100000 in
set_option maxHeartbeats 1600000 in
theorem Instrs_any : ∀ (m : Nat) (t : Il) (a : Option Addr) (len c : Nat) (most : Int) (w : World), t.count ≤ m → ListAt w.heap.size w a len t → len ≤ 140737488351232 → 0 ≤ most → most ≤ 5000 →
    Calls Tryz.prog 34 #[.slice a len c, .int .i64 most] w fun e w' => e = .returned (.int .i64 (t.go 0 most)) ∧ w = w' := by
  intro m
  induction m with
  | zero =>
    intro t a len c most w hm hL hlen hm0 hm1
    cases t with
    | cons x l e r => simp only [Il.count] at hm; omega
    | nil =>
      have h0 : len = 0 := hL.1.symm
      subst h0
      clear hm hL
      go_enter Tryz.func34, Tryz.ntmps34
      go_wp2
      go_loopw [5, 6] (fun sn si wr => si = .int .i64 0 ∧ sn = .int .i64 0 ∧ wr = w) (fun _ _ _ => 0)
      case atStart => exact ⟨rfl, rfl, rfl⟩
      case round =>
        obtain ⟨rfl, rfl, rfl⟩ := hrel
        go_wp2
        go_ret
        exact ⟨rfl, rfl⟩
  | succ m ih =>
    intro t a len c most w hm hL hlen hm0 hm1
    obtain ⟨hL1, hL2⟩ := hL
    have HM := hid hm
    have HL1 := hid hL1
    have HG : Hid (t.go 0 most = t.go 0 most) := hid rfl
    clear hm hL1
    rcases hL2 with rfl | ⟨b, off, rfl, hi⟩
    · have h0 : len = 0 := HL1.out.symm
      subst h0
      clear ih
      go_enter Tryz.func34, Tryz.ntmps34
      go_wp2
      go_loopw [5, 6] (fun sn si wr => si = .int .i64 0 ∧ sn = .int .i64 0 ∧ wr = w) (fun _ _ _ => 0)
      case atStart => exact ⟨rfl, rfl, rfl⟩
      case round =>
        obtain ⟨rfl, rfl, rfl⟩ := hrel
        go_wp2
        go_ret
        exact ⟨rfl, rfl⟩
    · go_enter Tryz.func34, Tryz.ntmps34
      go_wp2
      go_loopw [5, 6] (fun sn si wr => ∃ (k : Nat) (n : Int) (rest : Il), si = .int .i64 k ∧ sn = .int .i64 n ∧ k ≤ len ∧ 0 ≤ n ∧ n ≤ 2 * most + 1 ∧ Hid (k + rest.len = len ∧ rest.go n most = t.go 0 most ∧ rest.count ≤ t.count) ∧ Items w.heap.size w b (off + k * 8) rest ∧ wr = w)
        (fun _ si _ => len - (intOf si).toNat)
      case atStart => exact ⟨0, 0, t, rfl, rfl, Nat.zero_le _, by omega, by omega, ⟨by have := HL1.out; omega, rfl, Nat.le_refl _⟩, by simpa using hi, rfl⟩
      case round =>
        obtain ⟨k, n, rest, rfl, rfl, hk, hn0, hn1, HR, hir, rfl⟩ := hrel
        cases rest with
        | nil =>
          obtain ⟨r1, r2, _⟩ := HR.out
          have hkl : k = len := by simpa [Il.len] using r1
          subst hkl
          have R2 : Hid (n = t.go 0 most) := by show _ = _; rw [← r2]; rfl
          clear r2
          go_wp2
          go_ret
          exact ⟨ret_int R2.out, rfl⟩
        | cons x tl te r =>
          obtain ⟨hbn, hx, ⟨c0, c1, c2, c3, c4, c5, c6, c7⟩, ht, hLl, hLe, hir'⟩ := hir
          have hlt : k < len := by have := HR.out.1; simp only [Il.len] at this; omega
          by_cases hnm : n ≤ most
          · have hcnt : tl.count + te.count + 1 ≤ m + 1 := by have h1 := HR.out.2.2; have h2 := HM.out; simp only [Il.count] at h1; omega
            have htn := hx.tn
            have hLn := hx.ln
            have hEn := hx.en
            have hTb := tagsMin_bounds x most hm0
            rcases (Int.lt_or_le most (x.tags.length : Int)).symm with hle | hle
            · have hT : min (x.tags.length : Int) most = (x.tags.length : Int) := by omega
              have HT : Hid (tagsMin x most = (x.tags.length : Int)) := hid (show tagsMin x most = _ from hT)
              rw [HT.out] at hTb
              obtain ⟨tb0, tb1, _⟩ := hTb
              by_cases c1 : n + 1 + (x.tags.length : Int) ≤ most
              · have ih1 := ih tl x.la x.ln x.lc (most - (n + 1 + (x.tags.length : Int))) wr (by omega) hLl hLn (by omega) (by omega)
                have b1 := go_bounds tl 0 (most - (n + 1 + (x.tags.length : Int))) (by omega) (by omega) (by omega)
                obtain ⟨g1, hg1⟩ : ∃ g1, tl.go 0 (most - (n + 1 + (x.tags.length : Int))) = g1 := ⟨_, rfl⟩
                rw [hg1] at ih1 b1
                obtain ⟨b10, b11, _⟩ := b1
                have G1 := hid hg1
                have I1 := hid ih1
                clear hg1 ih1
                by_cases c2 : n + 1 + (x.tags.length : Int) + g1 ≤ most
                · have ih2 := ih te x.ea x.en x.ec (most - (n + 1 + (x.tags.length : Int) + g1)) wr (by omega) hLe hEn (by omega) (by omega)
                  have b2 := go_bounds te 0 (most - (n + 1 + (x.tags.length : Int) + g1)) (by omega) (by omega) (by omega)
                  obtain ⟨g2, hg2⟩ : ∃ g2, te.go 0 (most - (n + 1 + (x.tags.length : Int) + g1)) = g2 := ⟨_, rfl⟩
                  rw [hg2] at ih2 b2
                  obtain ⟨b20, b21, _⟩ := b2
                  have G2 := hid hg2
                  have I2 := hid ih2
                  clear hg2 ih2
                  go_wp2_with fail
                  refine I1.out.mono ?_
                  clear I1
                  rintro e1 w1 ⟨rfl, rfl⟩
                  go_wp2_with fail
                  refine I2.out.mono ?_
                  clear I2
                  rintro e1 w1 ⟨rfl, rfl⟩
                  go_wp2
                  go_roundw
                  case rel =>
                    refine ⟨k + 1, n + 1 + (x.tags.length : Int) + g1 + g2, r, by simp, by first | rfl | simp, by omega, by omega, by omega, ⟨by have := HR.out.1; simp only [Il.len] at this; omega, ?_, by have := HR.out.2.2; simp only [Il.count] at this; omega⟩, by rw [show off + (k + 1) * 8 = off + k * 8 + 8 by omega]; exact hir', by first | rfl | trivial⟩
                    rw [← HR.out.2.1, go_cons x tl te r n most hnm]
                    rw [HT.out, G1.out, next1_pos c1, G2.out, next1_pos c2]
                  case measure => simp [intOf]; omega

                · have c2' : most < n + 1 + (x.tags.length : Int) + g1 := by omega
                  clear ih
                  go_wp2_with fail
                  refine I1.out.mono ?_
                  clear I1
                  rintro e1 w1 ⟨rfl, rfl⟩
                  go_wp2
                  go_roundw
                  case rel =>
                    refine ⟨k + 1, n + 1 + (x.tags.length : Int) + g1, r, by simp, by first | rfl | simp, by omega, by omega, by omega, ⟨by have := HR.out.1; simp only [Il.len] at this; omega, ?_, by have := HR.out.2.2; simp only [Il.count] at this; omega⟩, by rw [show off + (k + 1) * 8 = off + k * 8 + 8 by omega]; exact hir', by first | rfl | trivial⟩
                    rw [← HR.out.2.1, go_cons x tl te r n most hnm]
                    rw [HT.out, G1.out, next1_pos c1, next1_neg (n := n + 1 + (x.tags.length : Int) + g1) (by omega)]
                  case measure => simp [intOf]; omega

              · have c1' : most < n + 1 + (x.tags.length : Int) := by omega
                clear ih
                go_wp2
                go_roundw
                case rel =>
                  refine ⟨k + 1, n + 1 + (x.tags.length : Int), r, by simp, by first | rfl | simp, by omega, by omega, by omega, ⟨by have := HR.out.1; simp only [Il.len] at this; omega, ?_, by have := HR.out.2.2; simp only [Il.count] at this; omega⟩, by rw [show off + (k + 1) * 8 = off + k * 8 + 8 by omega]; exact hir', by first | rfl | trivial⟩
                  rw [← HR.out.2.1, go_cons x tl te r n most hnm]
                  rw [HT.out, next1_neg (n := n + 1 + (x.tags.length : Int)) (by omega), next1_neg (n := n + 1 + (x.tags.length : Int)) (by omega)]
                case measure => simp [intOf]; omega
            · have hT : min (x.tags.length : Int) most = most := by omega
              have HT : Hid (tagsMin x most = most) := hid (show tagsMin x most = _ from hT)
              rw [HT.out] at hTb
              obtain ⟨tb0, tb1, _⟩ := hTb
              have c1 : ¬ n + 1 + most ≤ most := by omega
              have c1' : most < n + 1 + most := by omega
              clear ih
              go_wp2
              go_roundw
              case rel =>
                refine ⟨k + 1, n + 1 + most, r, by simp, by first | rfl | simp, by omega, by omega, by omega, ⟨by have := HR.out.1; simp only [Il.len] at this; omega, ?_, by have := HR.out.2.2; simp only [Il.count] at this; omega⟩, by rw [show off + (k + 1) * 8 = off + k * 8 + 8 by omega]; exact hir', by first | rfl | trivial⟩
                rw [← HR.out.2.1, go_cons x tl te r n most hnm]
                rw [HT.out, next1_neg (n := n + 1 + most) (by omega), next1_neg (n := n + 1 + most) (by omega)]
              case measure => simp [intOf]; omega
          · have R2 : Hid (n = t.go 0 most) := by show _ = _; rw [← HR.out.2.1, go_over _ _ _ (by omega)]
            have hnm' : most < n := by omega
            go_wp2
            go_ret
            exact ⟨ret_int R2.out, rfl⟩
end Go.Proofs.YtckdnhafookcgaaGreatDoor.Instr

namespace Go.Proofs.YtckdnhafookcgaaGreatDoor.Body
set_option linter.unusedVariables false
open Go.RowKit Go.Proofs.YtckdnhafookcgaaGreatDoor.Instr

theorem run_append_none (w : World) (base : Nat) (t ty e : TypeId) (i : TypeInfo) (size c : Nat) (ht : Tryz.prog.underlying t = some (.slice e)) (hi : Tryz.prog.info? e = some i)
    (v : Value) (n : Nat) (xs : List Value) (hown : w.ownsRow base e size v n xs) :
    (Builtin.append_ #[t, t] ty #[v, .slice none 0 c]).run Tryz.prog w = .ok v w := by
  rcases hown.2 with ⟨rfl, rfl⟩ | ⟨g, cap, cur, rfl, _, _, hnc, _⟩
  · simp [Builtin.append_, run_underlying ht, sizeOf, typeInfo, hi, Builtin.lenOf, Builtin.firstCells]
  · simp [Builtin.append_, run_underlying ht, sizeOf, typeInfo, hi, Builtin.lenOf, Builtin.firstCells, hnc, storeCells]
section
variable {ops : Array Oper} {rest : List Oper} {o : Oper} {act : Act} {Q : Exit → Act → World → Prop}
theorem append_none (hgd : o.guard = none) (s x : Operand) (t : TypeId) (ho : o.op = .call { callee := .builtin .append, args := #[s, x], argTypes := #[t, t] })
    {w : World} (base : Nat) (e : TypeId) (i : TypeInfo) (size c : Nat) (ht : Tryz.prog.underlying t = some (.slice e)) (hi : Tryz.prog.info? e = some i)
    (v : Value) (n : Nat) (xs : List Value) (hs : act.eval s = v) (hown : w.ownsRow base e size v n xs) (hx : act.eval x = .slice none 0 c)
    (h : wpList Tryz.prog ops Q rest (act.put o.dst v) w) : wpList Tryz.prog ops Q (o :: rest) act w := by
  refine wpList_plain hgd fun K hK => ?_
  have hrun := run_append_none w base t o.type e i size c ht hi v n xs hown
  unfold Oper.wp
  simp [execOp, ho, resolve, invoke, builtin, hs, hx, hrun, Result.andThen]
  exact hK _ _ h
end
section
variable {ops : Array Oper} {rest : List Oper} {o : Oper} {act : Act} {Q : Exit → Act → World → Prop}
end
end Go.Proofs.YtckdnhafookcgaaGreatDoor.Body

namespace Go.Proofs.YtckdnhafookcgaaGreatDoor
open Go

section
variable {P : Program} {md : Region.Mode} {ops : Array Oper} {Q : Exit → Act → World → Prop} {S : World → Prop} {L : Nat}

def Till (P : Program) (md : Region.Mode) (ops : Array Oper) (Q : Exit → Act → World → Prop) (S : World → Prop) (L : Nat) : Nat → Array Bool → Act → World → Prop
  | 0, l, a, w => Region.ready md ops l = [] ∧ Q .normal a w
  | n + 1, l, a, w => (Region.ready md ops l = [] → Q .normal a w) ∧ ∀ i ∈ Region.ready md ops l, wpOp P ops Q i (fun a' w' => (i ≠ L → S w') ∧ Till P md ops Q S L n (l.setIfInBounds i true) a' w') a w

theorem Till.any : ∀ (n : Nat) (l : Array Bool) (a : Act) (w : World), Till P md ops Q S L n l a w → wpAny P md ops Q n l a w
  | 0, _, _, _, h => h
  | n + 1, _, _, _, h => ⟨h.1, fun i hi => wpOp_mono (fun a' w' k => Till.any n _ a' w' k.2) (h.2 i hi)⟩
/-- An operation that waits for i is not ready as long as i has not come up. -/
theorem not_ahead {l : Array Bool} {i j : Nat} {oj : Oper} (hj : ops[j]? = some oj) (hw : (oj.after.any fun e => Region.binds md e && e.on == i) = true) (hi : i ∈ Region.ready md ops l) : j ∉ Region.ready md ops l := by
  intro h
  obtain ⟨_, o, ho, hall⟩ := mem_ready.1 h
  rw [hj] at ho
  obtain rfl := Option.some.inj ho
  obtain ⟨e, he, hb⟩ := Array.any_eq_true'.1 hw
  simp only [Bool.and_eq_true, beq_iff_eq] at hb
  have h1 := hall e he hb.1
  rw [hb.2] at h1
  have h0 := (mem_ready.1 hi).1
  rw [Array.getD_eq_getD_getElem?] at h0 h1
  cases hl : l[i]? with
  | none => rw [hl] at h1; simp at h1
  | some b => rw [hl] at h0 h1; simp at h0 h1; rw [h0] at h1; cases h1
theorem Till.first {i : Nat} {oi oL : Oper} {v : Value} (hi : ops[i]? = some oi) (hsel : ∀ (j : Nat) (o : Oper) cs b, ops[j]? = some o → o.op ≠ .select cs b)
    (hL : ops[L]? = some oL) (hw : (oL.after.any fun e => Region.binds md e && e.on == i) = true) (hQ : ∀ c a w, Q (.panic c) (a.put oi.dst v) w → Q (.panic c) a w) :
    ∀ (n : Nat) (l : Array Bool) (a : Act) (w : World),
      (∀ j oj, ops[j]? = some oj → j ≠ i → l.getD j true = false → (∀ e ∈ oj.after, Region.binds md e = true → e.on ≠ i) → oi.apart ops oj = true) →
      i ∈ Region.ready md ops l → YieldsIf P ops S oi v a → S w → Till P md ops Q S L n (l.setIfInBounds i true) (a.put oi.dst v) w → Till P md ops Q S L (n + 1) l a w
  | n, l, a, w, hfree, hr, hy, hS, H => by
    refine ⟨fun h => (by rw [h] at hr; cases hr), fun j hj => ?_⟩
    rcases Nat.decEq j i with hji | hji
    rotate_left
    · subst hji; exact hy.wpOp hi hS ⟨fun _ => hS, H⟩
    have hjL : j ≠ L := fun e => not_ahead hL hw hr (e ▸ hj)
    have hj2 := ready_mono hj hji
    cases n with
    | zero => rw [H.1] at hj2; cases hj2
    | succ n =>
      have h1 := H.2 j hj2
      obtain ⟨hjun, oj, hoj, hall⟩ := mem_ready.1 hj
      have hno : ∀ e ∈ oj.after, Region.binds md e = true → e.on ≠ i := fun e he hb heq => by
        refine not_ahead hoj ?_ hr hj
        exact Array.any_eq_true'.2 ⟨e, he, by simp [hb, heq]⟩
      have h2 := wpOp_putIf hoj (hfree j oj hoj hji hjun hno) (fun cs b => hsel i oi cs b hi) (fun cs b => hsel j oj cs b hoj) hQ hy h1
      refine wpOp_mono (fun a' w' k => ⟨fun h => k.2.1 h, Till.first hi hsel hL hw hQ n (l.setIfInBounds j true) a' w' (fun q oq hq hqi hun hn => ?_) (ready_mono hr (Ne.symm hji)) k.1 (k.2.1 hjL) ?_⟩) h2
      · refine hfree q oq hq hqi ?_ hn
        by_cases e : j = q
        · subst e; exact hjun
        · rwa [getD_set_ne true e] at hun
      · rw [Array.setIfInBounds_comm _ _ hji]; exact k.2.2
theorem Till.done {l : Array Bool} {a : Act} {w : World} (hr : Region.ready md ops l = []) (h : Q .normal a w) : ∀ n, Till P md ops Q S L n l a w
  | 0 => ⟨hr, h⟩
  | _ + 1 => ⟨fun _ => h, by rw [hr]; simp⟩
end
end Go.Proofs.YtckdnhafookcgaaGreatDoor

namespace Go.Proofs.YtckdnhafookcgaaGreatDoor.Body
open Go.RowKit Go.Proofs.YtckdnhafookcgaaGreatDoor.Instr

/-- What two equal lists have ahead, from the k-th on. -/
def Pair (n₀ n k m : Nat) (a1 a2 : Option Addr) (w : World) : Prop :=
  k = n ∨ ∃ b1 o1 b2 o2 r s, a1 = some ⟨b1, o1, none⟩ ∧ a2 = some ⟨b2, o2, none⟩ ∧ Items n₀ w b1 (o1 + k * 8) r ∧ Items n₀ w b2 (o2 + k * 8) s ∧ Il.bare r = Il.bare s ∧ r.len + k = n ∧ r.count ≤ m + 1
theorem Pair.below {n₀ n k m : Nat} {a1 a2 : Option Addr} {w w' : World} (h : Pair n₀ n k m a1 a2 w) (hb : Below n₀ w w') : Pair n₀ n k m a1 a2 w' := by
  rcases h with h | ⟨b1, o1, b2, o2, r, s, h1, h2, h3, h4, h5⟩
  · exact .inl h
  · exact .inr ⟨b1, o1, b2, o2, r, s, h1, h2, h3.below hb, h4.below hb, h5⟩
end Go.Proofs.YtckdnhafookcgaaGreatDoor.Body

namespace Go.Proofs.YtckdnhafookcgaaGreatDoor.Mod
open Go.RowKit Go.Proofs.YtckdnhafookcgaaGreatDoor.Instr

theorem Blk.frozen {lo hi : Nat} {w : World} {b : Nat} (h : Blk lo hi w b) (j : Nat) : w.frozen? ⟨b, j, none⟩ = false := by
  obtain ⟨_, _, cs, e, h⟩ := h
  exact frozen_of_row w b j cs e h
end Go.Proofs.YtckdnhafookcgaaGreatDoor.Mod

namespace Go.Proofs.YtckdnhafookcgaaGreatDoor.Mod
open Go.RowKit Go.Proofs.YtckdnhafookcgaaGreatDoor.Instr

/-- What a cell of a row holds. -/
inductive Kd where
  | i64 | u32 | bool | str | lst | tags | room
def CellO (lo hi : Nat) (w : World) : Kd → Value → Prop
  | .i64, v => ∃ x, v = .int .i64 x
  | .u32, v => ∃ x, v = .int .u32 x
  | .bool, v => ∃ x, v = .bool x
  | .str, v => ∃ x, v = .string x
  | .lst, v => ∃ a n c t, v = .slice a n c ∧ ListO lo hi w a n t ∧ n ≤ 140737488351232
  | .tags, v => ∃ a n c zs, v = .slice a n c ∧ zs.length = n ∧ TagsO lo hi w a zs ∧ (∀ z ∈ zs, 0 ≤ z ∧ z < 4294967296) ∧ n ≤ 140737488351232
  | .room, v => ∃ a n c, v = .slice a n c ∧ RoomO lo hi w a n c
/-- This many rows of such cells. -/
def RowO (lo hi : Nat) (w : World) (ks : List Kd) (a : Option Addr) (n : Nat) : Prop :=
  n = 0 ∨ ∃ b off, a = some ⟨b, off, none⟩ ∧ Blk lo hi w b ∧ ∀ i, i < n → ∀ j k, ks[j]? = some k → ∃ v, w.cell? ⟨b, off + i * ks.length + j, none⟩ = some v ∧ CellO lo hi w k v
/-- A module in blocks of its own. -/
structure ModO (lo hi : Nat) (w : World) (m : Md) : Prop where
  ty : RowO lo hi w [.i64, .i64] m.ty'.a m.ty.length
  im : RowO lo hi w [.str, .str, .i64] m.im'.a m.im.length
  fu : RowO lo hi w [.i64, .i64, .lst] m.fu'.a m.fu.length
  gl : RowO lo hi w [.bool, .lst] m.gl'.a m.gl.length
  ex : RowO lo hi w [.str, .i64, .u32] m.ex'.a m.ex.length
  el : RowO lo hi w [.lst, .tags] m.el'.a m.el.length
  da : RowO lo hi w [.lst, .room] m.da'.a m.da.length
end Go.Proofs.YtckdnhafookcgaaGreatDoor.Mod

namespace Go.Proofs.YtckdnhafookcgaaGreatDoor.Body
set_option linter.unusedVariables false
open Go.RowKit Go.Proofs.YtckdnhafookcgaaGreatDoor.Instr

theorem Soft.save {k q : Nat} {w w' : World} (h : Soft w q) (hs : Save k w w') (hk : q ≠ k) : Soft w' q := h.touch (S := fun j => j = k) (.of_save hs) (fun e => hk e)
theorem Soft.below {q : Nat} {w w' : World} (h : Soft w q) (hb : Below w.heap.size w w') : Soft w' q := h.touch (S := fun _ => False) (.of_below hb) (fun h => h)
theorem Soft.grown {q : Nat} {w w' : World} {row : Option Nat} (h : Soft w q) (hg : w.grownBy w' row) (hk : row ≠ some q) : Soft w' q := h.touch (S := fun j => row = some j) (.of_grown hg) (fun e => hk e)

end Go.Proofs.YtckdnhafookcgaaGreatDoor.Body
