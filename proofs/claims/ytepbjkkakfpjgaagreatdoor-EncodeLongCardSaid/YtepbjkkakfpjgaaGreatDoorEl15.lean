import Derived.Test.YtepbjkkakfpjgaaGreatDoorEl14
import Derived.Test.YtepbjkkakfpjgaaGreatDoorEl03
import Derived.Test.YtepbjkkakfpjgaaGreatDoorEl09
import Derived.Test.YtepbjkkakfpjgaaGreatDoorEl07
import Derived.Test.YtepbjkkakfpjgaaGreatDoorEl04
import Derived.Test.YtepbjkkakfpjgaaGreatDoorEl10
import Derived.Test.YtepbjkkakfpjgaaGreatDoorEl11
import Derived.Test.YtepbjkkakfpjgaaGreatDoorEl12
import Derived.Test.YtepbjkkakfpjgaaGreatDoorEl01
import Derived.Laws.EntriesVeiled
namespace Go.Proofs.YtepbjkkakfpjgaaGreatDoor.Enc
open Go.RowKit Go.Shelf Go.Proofs.YtepbjkkakfpjgaaGreatDoor.Leb Go.Proofs.YtepbjkkakfpjgaaGreatDoor.Instr Go.Proofs.YtepbjkkakfpjgaaGreatDoor.Mod
open Go.Proofs.YtepbjkkakfpjgaaGreatDoor.Body (encL codeL)

def secF (k : Nat) : Nat := [99, 100, 101, 102, 103, 104, 105, 106, 107, 108, 109].getD k 0
theorem sec_enters (k : Nat) (hk : k < 11) : ∀ args w, (callFunc (secF k) args).run Tryz.prog w = .ok (.enter (secF k) args) w := by
  match k, hk with
  | 0, _ => exact enters_of Tryz.func99 (by kernel_rfl) rfl
  | 1, _ => exact enters_of Tryz.func100 (by kernel_rfl) rfl
  | 2, _ => exact enters_of Tryz.func101 (by kernel_rfl) rfl
  | 3, _ => exact enters_of Tryz.func102 (by kernel_rfl) rfl
  | 4, _ => exact enters_of Tryz.func103 (by kernel_rfl) rfl
  | 5, _ => exact enters_of Tryz.func104 (by kernel_rfl) rfl
  | 6, _ => exact enters_of Tryz.func105 (by kernel_rfl) rfl
  | 7, _ => exact enters_of Tryz.func106 (by kernel_rfl) rfl
  | 8, _ => exact enters_of Tryz.func107 (by kernel_rfl) rfl
  | 9, _ => exact enters_of Tryz.func108 (by kernel_rfl) rfl
  | 10, _ => exact enters_of Tryz.func109 (by kernel_rfl) rfl
/-- Each section's bytes are no more than a machine holds. -/
structure FitAll (m : Md) (most : Int) : Prop where
  ty : FitP tyB m.ty most
  im : FitP impB m.im most
  fn : FitP fnB m.fu most
  tb : FitP tbB m.tb most
  me : FitP meB m.me most
  gl : FitP glB m.gl most
  ex : FitP exB m.ex most
  el : FitP elB m.el most
  co : FitP coB m.fu most
  da : FitP daB m.da most
theorem sec_any (k : Nat) (hk : k < 11) (w0 W : World) (m : Md) (g B : Nat) (v : Value) (most : Int) (FI : Fine w0 m) (H : Wr w0 m g B most v [] W) (hf : FitAll m most) :
    Calls Tryz.prog (secF k) #[.pointer (some ⟨g, 0, none⟩)] W (PutsC most g B v W (secB m k)) := by
  match k, hk with
  | 0, _ => have := sec_types w0 W m g B v most FI H hf.ty; simp only [secB]; exact this
  | 1, _ => have := sec_imports w0 W m g B v most FI H hf.im; simp only [secB]; exact this
  | 2, _ => have := sec_funcs w0 W m g B v most FI H hf.fn; simp only [secB]; exact this
  | 3, _ => have := sec_tables w0 W m g B v most FI H hf.tb; simp only [secB]; exact this
  | 4, _ => have := sec_memories w0 W m g B v most FI H hf.me; simp only [secB]; exact this
  | 5, _ => have := sec_globals w0 W m g B v most FI H hf.gl; simp only [secB]; exact this
  | 6, _ => have := sec_exports w0 W m g B v most FI H hf.ex; simp only [secB]; exact this
  | 7, _ => exact (sec_start w0 W m g B v most FI H).mono fun e w' h => ⟨_, cut_all _ _, h⟩
  | 8, _ => have := sec_elems w0 W m g B v most FI H hf.el; simp only [secB]; exact this
  | 9, _ => have := sec_codes w0 W m g B v most FI H hf.co; simp only [secB]; exact this
  | 10, _ => have := sec_datas w0 W m g B v most FI H hf.da; simp only [secB]; exact this
theorem secB_few {m : Md} {most : Int} {k : Nat} (h : FitAll m most) (hk : k < 11) : (secB m k).length ≤ 1000000000 := by
  have lst : ∀ {α : Type} (f : α → List Int) (l : List α), FitP f l most → (lstB f l).length ≤ 1000000000 := by
    intro α f l hf
    unfold lstB
    split
    · simp
    · exact hf
  match k, hk with
  | 0, _ => simp only [secB]; exact lst _ _ h.ty
  | 1, _ => simp only [secB]; exact lst _ _ h.im
  | 2, _ => simp only [secB]; exact lst _ _ h.fn
  | 3, _ => simp only [secB]; exact lst _ _ h.tb
  | 4, _ => simp only [secB]; exact lst _ _ h.me
  | 5, _ => simp only [secB]; exact lst _ _ h.gl
  | 6, _ => simp only [secB]; exact lst _ _ h.ex
  | 7, _ =>
    simp only [secB]
    split
    · rw [encU_length]; have := (sizeU_pos m.sn).2; omega
    · simp
  | 8, _ => simp only [secB]; exact lst _ _ h.el
  | 9, _ => simp only [secB]; exact lst _ _ h.co
  | 10, _ => simp only [secB]; exact lst _ _ h.da
/-- The list of the methods. -/
def secsV (g : Nat) : Array Value := #[.func (.func 99) #[.pointer (some ⟨g, 0, none⟩)] #[], .func (.func 100) #[.pointer (some ⟨g, 0, none⟩)] #[], .func (.func 101) #[.pointer (some ⟨g, 0, none⟩)] #[], .func (.func 102) #[.pointer (some ⟨g, 0, none⟩)] #[], .func (.func 103) #[.pointer (some ⟨g, 0, none⟩)] #[], .func (.func 104) #[.pointer (some ⟨g, 0, none⟩)] #[], .func (.func 105) #[.pointer (some ⟨g, 0, none⟩)] #[], .func (.func 106) #[.pointer (some ⟨g, 0, none⟩)] #[], .func (.func 107) #[.pointer (some ⟨g, 0, none⟩)] #[], .func (.func 108) #[.pointer (some ⟨g, 0, none⟩)] #[], .func (.func 109) #[.pointer (some ⟨g, 0, none⟩)] #[]]
set_option maxHeartbeats 1000000 in
theorem sections_any (g : Nat) (w : World) : Calls Tryz.prog 33 #[.pointer (some ⟨g, 0, none⟩)] w fun e w' => e = .returned (.slice (some ⟨w.heap.size, 0, none⟩) 11 11) ∧ w' = w.alloc (.cells (secsV g) 1) := by
  unfold secsV
  go_enter Tryz.func33, Tryz.ntmps33
  go_wp2
  go_ret
  exact ⟨rfl, rfl⟩
theorem secs_at (g : Nat) (w : World) (t : TypeId) (j : Nat) (hj : j < 11) : (w.alloc (.cells (secsV g) t)).cell? ⟨w.heap.size, j, none⟩ = some (.func (.func (secF j)) #[.pointer (some ⟨g, 0, none⟩)] #[]) := by
  unfold secsV
  match j, hj with
  | 0, _ | 1, _ | 2, _ | 3, _ | 4, _ | 5, _ | 6, _ | 7, _ | 8, _ | 9, _ | 10, _ => simp [go_sem, secF]
/-- One buffer stays behind what is appended to another one. -/
theorem Buf.past {g B g2 B2 : Nat} {v u u' : Value} {zs ys : List Int} {w w' : World} (h : Buf g B v w v zs w) (k : Buf g2 B2 u w u' ys w') (a1 : g ≠ g2) (a2 : u.ownBlock ≠ some g) (a3 : v.ownBlock ≠ some g2) (a4 : ∀ q, v.ownBlock = some q → u.ownBlock ≠ some q) : Buf g B v w' v zs w' := by
  have hg : ¬ (g = g2 ∨ u.ownBlock = some g) := by rintro (e | e); exact a1 e; exact a2 e
  refine Buf.start (k.touch.cell hg h.c) ?_ (touch_row h.own k.touch (fun q hq => ?_)) h.sep h.low (Nat.le_trans h.lowB k.touch.size)
  · exact (World.frozen?_of_block (w := w) (k.touch.block g h.lt hg)).trans h.f
  · rintro (e | e)
    · exact a3 (by rw [hq, e])
    · exact a4 q hq e
theorem Buf.far {g B : Nat} {v v' : Value} {zs : List Int} {w w' : World} (h : Buf g B v w v' zs w') {p : Addr} {x : Value} (a1 : p.block ≠ g) (a2 : v.ownBlock ≠ some p.block) (hc : w.cell? p = some x) : w'.cell? p = some x :=
  h.touch.cell (by rintro (e | e); exact a1 e; exact a2 e) hc
/-- The buffer is emptied. -/
theorem Buf.clear {g B : Nat} {a : Option Addr} {n c : Nat} {zs : List Int} {w : World} (h : Buf g B (.slice a n c) w (.slice a n c) zs w) : Buf g B (.slice a 0 c) (w.setCell ⟨g, 0, none⟩ (.slice a 0 c)) (.slice a 0 c) [] (w.setCell ⟨g, 0, none⟩ (.slice a 0 c)) := by
  have hs : (Value.slice a 0 c).ownBlock ≠ some g := by have := h.sep; cases a <;> exact this
  refine Buf.start (World.cell?_setCell_same' _ _ _ (by rw [h.c]; rfl)) (by rw [World.frozen?_setCell]; exact h.f) ?_ hs h.low (by have := h.lowB; simpa [World.setCell] using this)
  refine touch_row ?_ ((Touch.refl (fun j => j = g) w).setCell (.inl rfl) _) (fun q hq e => hs (by rw [hq, e]))
  refine ⟨rfl, ?_⟩
  rcases h.own.2 with ⟨h0, _⟩ | ⟨q, cap, cur, hv, hq, hh, h1, h2, h3, h4⟩
  · obtain ⟨rfl, rfl, rfl⟩ : a = none ∧ n = 0 ∧ c = 0 := by simpa using h0
    exact .inl ⟨rfl, rfl⟩
  · obtain ⟨rfl, rfl, rfl⟩ : a = some ⟨q, 0, none⟩ ∧ n = zs.length ∧ c = cap := by simpa using hv
    exact .inr ⟨q, c, cur, rfl, hq, hh, Nat.zero_le _, h2, h3, by simp⟩
end Go.Proofs.YtepbjkkakfpjgaaGreatDoor.Enc

namespace Go.Proofs.YtepbjkkakfpjgaaGreatDoor.Enc
open Go.RowKit Go.Shelf Go.Proofs.YtepbjkkakfpjgaaGreatDoor.Leb Go.Proofs.YtepbjkkakfpjgaaGreatDoor.Instr Go.Proofs.YtepbjkkakfpjgaaGreatDoor.Mod
open Go.Proofs.YtepbjkkakfpjgaaGreatDoor.Body (encL codeL PutP)

/-- A section's bytes, and the error. -/
def secR (m : Md) (id : Int) : List Int × Int := if m.check ≠ 0 then ([], m.check) else if id < 1 ∨ 11 < id then ([], 5) else (secB m (id - 1).toNat, 0)
/-- What is asked of a module so that its bytes can be told. -/
structure Ready (w : World) (m : Md) : Prop where
  nam : Nams w
  tab : Utf.Tabs w
  at_ : ModAt w.heap.size w m
  few : m.few
  siz : Sized m
  enc : ∀ l ∈ m.codes, (encL l.t).length ≤ 90000
theorem Ready.fine {w : World} {m : Md} (h : Ready w m) (hc : m.check = 0) : Fine w m := ⟨h.at_, h.few, h.nam, h.tab, hc, h.enc, h.siz⟩
theorem Ready.on {w w' : World} {m : Md} (h : Ready w m) (hb : Below w.heap.size w w') : Ready w' m := ⟨h.nam.below hb, h.tab.below hb, h.at_.on hb, h.few, h.siz, h.enc⟩
theorem putP_none {w w' : World} {er : Int} (hb : Below w.heap.size w w') : PutP w [] er (.returned (.tuple #[.slice none 0 0, .int .i64 er])) w' := ⟨_, rfl, ⟨rfl, .inl ⟨rfl, rfl⟩⟩, hb⟩
/-- A new writer. -/
def wrV (m : Md) (most : Int) : Array Value := #[.slice none 0 0, .slice m.ty'.a m.ty.length m.ty'.c, .slice m.im'.a m.im.length m.im'.c, .slice m.fu'.a m.fu.length m.fu'.c, .slice m.tb'.a m.tb.length m.tb'.c, .slice m.me'.a m.me.length m.me'.c,
  .slice m.gl'.a m.gl.length m.gl'.c, .slice m.ex'.a m.ex.length m.ex'.c, .bool m.st, .int .u32 m.sn, .slice m.el'.a m.el.length m.el'.c, .slice m.da'.a m.da.length m.da'.c, .int .i64 most]
theorem wr_new (w0 W : World) (m : Md) (most : Int) (t : TypeId) (hB : Below w0.heap.size w0 W) (hl : w0.heap.size < W.heap.size) : Wr w0 m W.heap.size (W.heap.size + 1) most (.slice none 0 0) [] (W.alloc (.cells (wrV m most) t)) := by
  refine ⟨Buf.start (by simp [go_sem, wrV]) (by simp [go_sem]) ⟨rfl, .inl ⟨rfl, rfl⟩⟩ (by simp [Value.ownBlock]) (by omega) (by simp), hB.trans (((Below.refl W.heap.size W).alloc (Nat.le_refl _) _).mono hB.size), hl, fun j x hx => ?_, by simp [go_sem, wrV]⟩
  have hj : j < 11 := by
    rcases Nat.lt_or_ge j 11 with h | h
    · exact h
    · rw [Array.getElem?_eq_none (by simpa [Md.v] using h)] at hx; cases hx
  match j, hj with
  | 0, _ | 1, _ | 2, _ | 3, _ | 4, _ | 5, _ | 6, _ | 7, _ | 8, _ | 9, _ | 10, _ => simp [Md.v] at hx; simp [go_sem, wrV, hx]
theorem Wr.on {w0 W W' : World} {m : Md} {g B : Nat} {most : Int} {v : Value} {zs : List Int} (h : Wr w0 m g B most v zs W) (hb : Below W.heap.size W W') : Wr w0 m g B most v zs W' :=
  ⟨(h.buf.on hb).again, h.low.trans (hb.mono h.low.size), h.hg, fun j x hx => Go.Proofs.YtepbjkkakfpjgaaGreatDoor.keep hb (h.box j x hx), Go.Proofs.YtepbjkkakfpjgaaGreatDoor.keep hb h.most⟩
end Go.Proofs.YtepbjkkakfpjgaaGreatDoor.Enc

namespace Go.Proofs.YtepbjkkakfpjgaaGreatDoor.Body
set_option linter.unusedVariables false
open Go.RowKit Go.Proofs.YtepbjkkakfpjgaaGreatDoor.Instr Go.Proofs.YtepbjkkakfpjgaaGreatDoor.Leb

theorem at_belowB {B : Nat} {w w' : World} {g : Nat} {x : Ix} (h : At x g w) (hb : Below B w w') (hg : g < B) : At x g w' :=
  ⟨(hb.cell hg).trans h.c0, (hb.cell hg).trans h.c1, (hb.cell hg).trans h.c2, (hb.cell hg).trans h.c3, (hb.cell hg).trans h.c4, (hb.cell hg).trans h.c5, (hb.cell hg).trans h.c6, (hb.cell hg).trans h.c7⟩
/-- Bytes that grow, behind the box of an instruction: at most so many. -/
structure OW (w : World) (x : Ix) (v : Value) (zs : List Int) (N : Nat) (W : World) : Prop where
  own : Own (w.heap.size + 1) W v zs
  bel : Below (w.heap.size + 1) (w.alloc (.cells x.vals 126)) W
  few : zs.length ≤ N
section
variable {w W W' : World} {x : Ix} {v : Value} {zs : List Int} {N : Nat}
theorem OW.size (O : OW w x v zs N W) : w.heap.size + 1 ≤ W.heap.size := by have := O.bel.size; simpa using this
theorem OW.box (O : OW w x v zs N W) : At x w.heap.size W := at_belowB (At.made x w) O.bel (Nat.lt_succ_self _)
theorem OW.on (O : OW w x v zs N W) (hb : Below W.heap.size W W') : OW w x v zs N W' := ⟨O.own.below hb, O.bel.trans (hb.mono O.size), O.few⟩
theorem OW.all (O : OW w x v zs N W) : Below w.heap.size w W := ((Below.refl w.heap.size w).alloc (Nat.le_refl _) _).trans (O.bel.mono (Nat.le_succ _))
theorem OW.gives (O : OW w x v zs N W) : Gives w zs (.returned v) W := ⟨v, rfl, O.own.mono (Nat.le_succ _), O.all⟩
theorem OW.gives' {ys : List Int} (O : OW w x v zs N W) (h : zs = ys) : Gives w ys (.returned v) W := by subst h; exact O.gives
theorem OW.mkN {v' : Value} {ys : List Int} {M : Nat} (O : OW w x v zs N W) (h1 : Own (w.heap.size + 1) W' v' (zs ++ ys)) (h2 : Below (w.heap.size + 1) (w.alloc (.cells x.vals 126)) W') (hm : ys.length ≤ M) : ∃ n q k y, y = zs ++ ys ∧ y.length = n ∧ v' = .slice q n k ∧ Hid (OW w x v' y (N + M) W') := by
  obtain ⟨q, k, hv⟩ := h1.slice
  exact ⟨_, q, k, _, rfl, rfl, hv, ⟨h1, h2, by rw [List.length_append]; have := O.few; omega⟩⟩
end
theorem own_op (w : World) (x : Ix) (z : Int) : OW w x (.slice (some ⟨w.heap.size + 1, 0, none⟩) 1 1) [z] 1 ((w.alloc (.cells x.vals 126)).alloc (.cells #[.int .u8 z] 5)) := by
  have h := World.ownsRow_lit (base := w.heap.size + 1) (e := 5) (size := 1) (w.alloc (.cells x.vals 126)) #[.int .u8 z] 1 (by simp) (by decide) rfl
  rw [show (w.alloc (.cells x.vals 126)).heap.size = w.heap.size + 1 by simp] at h
  exact ⟨h, (Below.refl _ _).alloc (by simp) _, Nat.le_refl _⟩
theorem type_cell (W : World) (res : Int) (h : res = 0 ∨ res = 1) : (W.alloc (.cells #[.int .u8 64, .int .u8 127] 5)).cell? ⟨W.heap.size, res.toNat, none⟩ = some (.int .u8 (if res = 0 then 64 else 127)) := by
  rcases h with rfl | rfl <;> simp
/-- Lists, by the contract that is handed in. -/
def PutH (m : Nat) : Prop := ∀ (t : Il) (a : Option Addr) (n c : Nat) (w : World), t.count < m → ListAt w.heap.size w a n t → MayT t → (encL t).length ≤ 90000 → Calls Tryz.prog 202 #[.slice a n c] w (Gives w (encL t))

set_option maxRecDepth 100000 in
set_option maxHeartbeats 6400000 in
theorem enc0 (x : Ix) (l e : Il) (m : Nat) (w : World) (hx : May x) (hk : kindP x.op = 0) (ht : TagsAt w.heap.size w x.ta x.tags) (hl : ListAt w.heap.size w x.la x.ln l) (he : ListAt w.heap.size w x.ea x.en e) (hml : MayT l) (hme : MayT e)
    (hcl : l.count < m) (hce : e.count < m) (hfl : (encL l).length ≤ 90000) (hfe : (encL e).length ≤ 90000) (LH : PutH m) :
    Calls Tryz.prog 219 #[.agg x.vals] w (Gives w (encOne x l e)) := by
  obtain ⟨op, res, a, b, n, tags, ta, tc, la, ln, lc, ea, en, ec⟩ := x
  have hnm := ((lawful_iff _).1 hx.law).1
  have hrs := ((lawful_iff _).1 hx.law).2.1
  obtain ⟨ha, hb, hn, htg, hfw⟩ : (0 ≤ a ∧ a < 4294967296) ∧ (0 ≤ b ∧ b < 4294967296) ∧ (-2147483648 ≤ n ∧ n < 2147483648) ∧ (∀ z ∈ tags, 0 ≤ z ∧ z < 4294967296) ∧ tags.length ≤ 16384 := ⟨hx.a, hx.b, hx.n, hx.tags, hx.few⟩
  have hrg := name_range hnm
  dsimp only at hk ht hl he hrg hrs
  obtain ⟨o0, o1, -, -⟩ := hrg
  have hL : listsP op = false := by rw [lists_kind, hk]; rfl
  have hW : whichP op = false := by rw [which_kind, hk]; rfl
  have hS : storedP op = false := by rw [stored_kind, hk]; rfl
  have n17 : ¬ op = 17 := by rintro rfl; revert hk; decide
  have n14 : ¬ op = 14 := by rintro rfl; revert hk; decide
  have n65 : ¬ op = 65 := by rintro rfl; revert hk; decide
  have n63 : ¬ op = 63 := by rintro rfl; revert hk; decide
  have n64 : ¬ op = 64 := by rintro rfl; revert hk; decide
  have m63 : (op == 63) = false := by simp [n63]
  have m64 : (op == 64) = false := by simp [n64]
  have FA := hid (fun W => refAlign_any (op) W)
  have FL := hid (fun W => refLists_any (op) W)
  have FW := hid (fun W => refWhich_any (op) W)
  rw [hS] at FA
  rw [hL] at FL
  rw [hW] at FW
  obtain ⟨al, hal⟩ : ∃ al, alignP (op) = al := ⟨_, rfl⟩
  rw [hal] at FA
  have O0 := hid (own_op w ⟨op, res, a, b, n, tags, ta, tc, la, ln, lc, ea, en, ec⟩ (op))
  have hE : encOne (⟨op, res, a, b, n, tags, ta, tc, la, ln, lc, ea, en, ec⟩ : Ix) l e = [op] := by unfold encOne; rw [encRest0 hk, if_neg (by dsimp only; rw [hk]; decide)]; simp
  rw [hE]
  have u8o : IntKind.u8.wrap (op) = op := by rw [IntKind.wrap_u8]; omega
  clear hnm hL hW hS hal LH hcl hce hfl hfe hl he hml hme ht hx hk hrs hE
  simp only [Ix.vals]
  go_enter Tryz.func219, Tryz.ntmps219
  go_wp2_with (first | (go_at_call 231; refine (FA.out _).mono ?_; rintro e0 w0 ⟨rfl, rfl⟩) | (go_at_call 232; refine (FL.out _).mono ?_; rintro e0 w0 ⟨rfl, rfl⟩) | (go_at_call 233; refine (FW.out _).mono ?_; rintro e0 w0 ⟨rfl, rfl⟩))
  go_ret
  exact O0.out.gives' (ys := [op]) (by simp [*])

set_option maxRecDepth 100000 in
set_option maxHeartbeats 6400000 in
theorem enc1 (x : Ix) (l e : Il) (m : Nat) (w : World) (hx : May x) (hk : kindP x.op = 1) (ht : TagsAt w.heap.size w x.ta x.tags) (hl : ListAt w.heap.size w x.la x.ln l) (he : ListAt w.heap.size w x.ea x.en e) (hml : MayT l) (hme : MayT e)
    (hcl : l.count < m) (hce : e.count < m) (hfl : (encL l).length ≤ 90000) (hfe : (encL e).length ≤ 90000) (LH : PutH m) :
    Calls Tryz.prog 219 #[.agg x.vals] w (Gives w (encOne x l e)) := by
  obtain ⟨op, res, a, b, n, tags, ta, tc, la, ln, lc, ea, en, ec⟩ := x
  have hnm := ((lawful_iff _).1 hx.law).1
  have hrs := ((lawful_iff _).1 hx.law).2.1
  obtain ⟨ha, hb, hn, htg, hfw⟩ : (0 ≤ a ∧ a < 4294967296) ∧ (0 ≤ b ∧ b < 4294967296) ∧ (-2147483648 ≤ n ∧ n < 2147483648) ∧ (∀ z ∈ tags, 0 ≤ z ∧ z < 4294967296) ∧ tags.length ≤ 16384 := ⟨hx.a, hx.b, hx.n, hx.tags, hx.few⟩
  have hrg := name_range hnm
  dsimp only at hk ht hl he hrg hrs
  obtain ⟨o0, o1, -, -⟩ := hrg
  have hL : listsP op = true := by rw [lists_kind, hk]; rfl
  have hW : whichP op = false := by rw [which_kind, hk]; rfl
  have hS : storedP op = false := by rw [stored_kind, hk]; rfl
  have n17 : ¬ op = 17 := by rintro rfl; revert hk; decide
  have n14 : ¬ op = 14 := by rintro rfl; revert hk; decide
  have n65 : ¬ op = 65 := by rintro rfl; revert hk; decide
  have n63 : ¬ op = 63 := by rintro rfl; revert hk; decide
  have n64 : ¬ op = 64 := by rintro rfl; revert hk; decide
  have m63 : (op == 63) = false := by simp [n63]
  have m64 : (op == 64) = false := by simp [n64]
  have FA := hid (fun W => refAlign_any (op) W)
  have FL := hid (fun W => refLists_any (op) W)
  have FW := hid (fun W => refWhich_any (op) W)
  rw [hS] at FA
  rw [hL] at FL
  rw [hW] at FW
  obtain ⟨al, hal⟩ : ∃ al, alignP (op) = al := ⟨_, rfl⟩
  rw [hal] at FA
  have O0 := hid (own_op w ⟨op, res, a, b, n, tags, ta, tc, la, ln, lc, ea, en, ec⟩ (op))
  have u8o : IntKind.u8.wrap (op) = op := by rw [IntKind.wrap_u8]; omega
  obtain ⟨rr, hrr⟩ : ∃ r, (if res = 0 then (64 : Int) else 127) = r := ⟨_, rfl⟩
  have PL := hid (fun W (hb : Below w.heap.size w W) => LH l la ln lc W hcl (hl.on hb) hml hfl)
  have PE := hid (fun W (hb : Below w.heap.size w W) => LH e ea en ec W hce (he.on hb) hme hfe)
  have BL := hid (encL_bytesC l hml)
  have BE := hid (encL_bytesC e hme)
  have hE : encOne ⟨op, res, a, b, n, tags, ta, tc, la, ln, lc, ea, en, ec⟩ l e = op :: (rr :: (encL l ++ ((if en = 0 then [] else 5 :: encL e) ++ [11]))) := by unfold encOne; rw [encRest1 hk]; dsimp only; rw [hrr, if_pos hk]; rfl
  rw [hE]
  clear hE
  obtain ⟨zl, hzl⟩ : ∃ z, encL l = z := ⟨_, rfl⟩
  obtain ⟨ze, hze⟩ : ∃ z, encL e = z := ⟨_, rfl⟩
  rw [hzl] at PL BL hfl ⊢
  rw [hze] at PE BE hfe ⊢
  have LL := hid hfl
  have LE := hid hfe
  clear hnm hL hW hS hal LH hcl hce hfl hfe hl he hml hme ht hx hk hzl hze
  simp only [Ix.vals]
  go_enter Tryz.func219, Tryz.ntmps219
  by_cases hen : en = 0
  · subst hen
    rw [if_pos rfl]
    go_wp2_with (first | (go_at_call 231; refine (FA.out _).mono ?_; rintro e0 wA ⟨rfl, hwA⟩; have OA := hid (hwA ▸ O0.out); clear hwA; obtain ⟨c0, c1, c2, c3, c4, c5, c6, c7⟩ := OA.out.box; dsimp only at c0 c1 c2 c3 c4 c5 c6 c7; have hsA : w.heap.size < wA.heap.size := OA.out.size; have dB := hid (OA.out.on (alloc_below' wA (.cells #[.int .u8 64, .int .u8 127] 5))); obtain ⟨d0, d1, d2, d3, d4, d5, d6, d7⟩ := dB.out.box; dsimp only at d0 d1 d2 d3 d4 d5 d6 d7; have dR := type_cell wA res hrs; rw [hrr] at dR) | (go_at_call 232; refine (FL.out _).mono ?_; rintro e0 w0 ⟨rfl, rfl⟩) | (go_at_call 233; refine (FW.out _).mono ?_; rintro e0 w0 ⟨rfl, rfl⟩) | (at_builtin; refine append_byte rfl _ _ rfl (rr) rfl dB.out.own dB.out.bel dB.out.size ?_ (by have := dB.out.few; omega) ?_; (show Value.slice (some ⟨wA.heap.size + 1, 0, none⟩) 1 1 = _; simp); intro v9 z9 ho hb hs; obtain ⟨nbO1, qbO1, kbO1, ybO1, hybO1, hnbO1, rfl, O1⟩ := dB.out.mkN (ys := [rr]) (M := 1) ho hb (by simp); clear ho hb hs; clear c0 c1 c2 c3 c4 c5 c6 c7; obtain ⟨c0, c1, c2, c3, c4, c5, c6, c7⟩ := O1.out.box; dsimp only at c0 c1 c2 c3 c4 c5 c6 c7))
    refine (PL.out _ O1.out.all).mono ?_
    rintro e1 w1 ⟨r1, rfl, ro1, rb1⟩
    obtain ⟨q1, k1, rfl⟩ := ro1.slice
    have RN1 := ro1.nil
    have RY1 := hid (ro1.bytes BL.out (by have := LL.out; omega))
    have Q1 := hid (O1.out.on rb1)
    obtain ⟨c0, c1, c2, c3, c4, c5, c6, c7⟩ := Q1.out.box
    dsimp only at c0 c1 c2 c3 c4 c5 c6 c7
    clear ro1 rb1
    go_wp2_with (first | (at_builtin; refine append_bytes rfl _ _ rfl rfl Q1.out.own Q1.out.bel Q1.out.size q1 _ k1 rfl RN1.out rfl RY1.out (by have := Q1.out.few; have := LL.out; omega) ?_; intro v1 z1 ho hb hs; obtain ⟨nn1, qq1, kk1, yy1, hy1, hn1, rfl, O2⟩ := Q1.out.mkN ho hb LL.out; clear ho hb hs Q1 RY1 RN1 c0 c1 c2 c3 c4 c5 c6 c7; obtain ⟨c0, c1, c2, c3, c4, c5, c6, c7⟩ := O2.out.box; dsimp only at c0 c1 c2 c3 c4 c5 c6 c7) | (at_builtin; refine append_byte rfl _ _ rfl (11) rfl O2.out.own O2.out.bel O2.out.size ?_ (by have := O2.out.few; omega) ?_; rfl; intro v9 z9 ho hb hs; obtain ⟨nbO3, qbO3, kbO3, ybO3, hybO3, hnbO3, rfl, O3⟩ := O2.out.mkN (ys := [11]) (M := 1) ho hb (by simp); clear ho hb hs))
    go_wp2
    go_ret
    exact O3.out.gives' (ys := op :: (rr :: (zl ++ ([] ++ [11])))) (by simp [*])
  · have hen1 : (0 : Int) < (en : Int) := by omega
    rw [if_neg hen]
    go_wp2_with (first | (go_at_call 231; refine (FA.out _).mono ?_; rintro e0 wA ⟨rfl, hwA⟩; have OA := hid (hwA ▸ O0.out); clear hwA; obtain ⟨c0, c1, c2, c3, c4, c5, c6, c7⟩ := OA.out.box; dsimp only at c0 c1 c2 c3 c4 c5 c6 c7; have hsA : w.heap.size < wA.heap.size := OA.out.size; have dB := hid (OA.out.on (alloc_below' wA (.cells #[.int .u8 64, .int .u8 127] 5))); obtain ⟨d0, d1, d2, d3, d4, d5, d6, d7⟩ := dB.out.box; dsimp only at d0 d1 d2 d3 d4 d5 d6 d7; have dR := type_cell wA res hrs; rw [hrr] at dR) | (go_at_call 232; refine (FL.out _).mono ?_; rintro e0 w0 ⟨rfl, rfl⟩) | (go_at_call 233; refine (FW.out _).mono ?_; rintro e0 w0 ⟨rfl, rfl⟩) | (at_builtin; refine append_byte rfl _ _ rfl (rr) rfl dB.out.own dB.out.bel dB.out.size ?_ (by have := dB.out.few; omega) ?_; (show Value.slice (some ⟨wA.heap.size + 1, 0, none⟩) 1 1 = _; simp); intro v9 z9 ho hb hs; obtain ⟨nbO1, qbO1, kbO1, ybO1, hybO1, hnbO1, rfl, O1⟩ := dB.out.mkN (ys := [rr]) (M := 1) ho hb (by simp); clear ho hb hs; clear c0 c1 c2 c3 c4 c5 c6 c7; obtain ⟨c0, c1, c2, c3, c4, c5, c6, c7⟩ := O1.out.box; dsimp only at c0 c1 c2 c3 c4 c5 c6 c7))
    refine (PL.out _ O1.out.all).mono ?_
    rintro e1 w1 ⟨r1, rfl, ro1, rb1⟩
    obtain ⟨q1, k1, rfl⟩ := ro1.slice
    have RN1 := ro1.nil
    have RY1 := hid (ro1.bytes BL.out (by have := LL.out; omega))
    have Q1 := hid (O1.out.on rb1)
    obtain ⟨c0, c1, c2, c3, c4, c5, c6, c7⟩ := Q1.out.box
    dsimp only at c0 c1 c2 c3 c4 c5 c6 c7
    clear ro1 rb1
    go_wp2_with (first | (at_builtin; refine append_bytes rfl _ _ rfl rfl Q1.out.own Q1.out.bel Q1.out.size q1 _ k1 rfl RN1.out rfl RY1.out (by have := Q1.out.few; have := LL.out; omega) ?_; intro v1 z1 ho hb hs; obtain ⟨nn1, qq1, kk1, yy1, hy1, hn1, rfl, O2⟩ := Q1.out.mkN ho hb LL.out; clear ho hb hs Q1 RY1 RN1 c0 c1 c2 c3 c4 c5 c6 c7; obtain ⟨c0, c1, c2, c3, c4, c5, c6, c7⟩ := O2.out.box; dsimp only at c0 c1 c2 c3 c4 c5 c6 c7) | (at_builtin; refine append_byte rfl _ _ rfl (5) rfl O2.out.own O2.out.bel O2.out.size ?_ (by have := O2.out.few; omega) ?_; rfl; intro v9 z9 ho hb hs; obtain ⟨nbO3, qbO3, kbO3, ybO3, hybO3, hnbO3, rfl, O3⟩ := O2.out.mkN (ys := [5]) (M := 1) ho hb (by simp); clear ho hb hs; clear c0 c1 c2 c3 c4 c5 c6 c7; obtain ⟨c0, c1, c2, c3, c4, c5, c6, c7⟩ := O3.out.box; dsimp only at c0 c1 c2 c3 c4 c5 c6 c7))
    refine (PE.out _ O3.out.all).mono ?_
    rintro e2 w2 ⟨r2, rfl, ro2, rb2⟩
    obtain ⟨q2, k2, rfl⟩ := ro2.slice
    have RN2 := ro2.nil
    have RY2 := hid (ro2.bytes BE.out (by have := LE.out; omega))
    have Q2 := hid (O3.out.on rb2)
    obtain ⟨c0, c1, c2, c3, c4, c5, c6, c7⟩ := Q2.out.box
    dsimp only at c0 c1 c2 c3 c4 c5 c6 c7
    clear ro2 rb2
    go_wp2_with (first | (at_builtin; refine append_bytes rfl _ _ rfl rfl Q2.out.own Q2.out.bel Q2.out.size q2 _ k2 rfl RN2.out rfl RY2.out (by have := Q2.out.few; have := LE.out; omega) ?_; intro v2 z2 ho hb hs; obtain ⟨nn2, qq2, kk2, yy2, hy2, hn2, rfl, O4⟩ := Q2.out.mkN ho hb LE.out; clear ho hb hs Q2 RY2 RN2 c0 c1 c2 c3 c4 c5 c6 c7; obtain ⟨c0, c1, c2, c3, c4, c5, c6, c7⟩ := O4.out.box; dsimp only at c0 c1 c2 c3 c4 c5 c6 c7) | (at_builtin; refine append_byte rfl _ _ rfl (11) rfl O4.out.own O4.out.bel O4.out.size ?_ (by have := O4.out.few; omega) ?_; rfl; intro v9 z9 ho hb hs; obtain ⟨nbO5, qbO5, kbO5, ybO5, hybO5, hnbO5, rfl, O5⟩ := O4.out.mkN (ys := [11]) (M := 1) ho hb (by simp); clear ho hb hs))
    go_wp2
    go_ret
    exact O5.out.gives' (ys := op :: (rr :: (zl ++ (5 :: ze ++ [11])))) (by simp [*])

set_option maxRecDepth 100000 in
set_option maxHeartbeats 6400000 in
theorem enc2 (x : Ix) (l e : Il) (m : Nat) (w : World) (hx : May x) (hk : kindP x.op = 2) (ht : TagsAt w.heap.size w x.ta x.tags) (hl : ListAt w.heap.size w x.la x.ln l) (he : ListAt w.heap.size w x.ea x.en e) (hml : MayT l) (hme : MayT e)
    (hcl : l.count < m) (hce : e.count < m) (hfl : (encL l).length ≤ 90000) (hfe : (encL e).length ≤ 90000) (LH : PutH m) :
    Calls Tryz.prog 219 #[.agg x.vals] w (Gives w (encOne x l e)) := by
  obtain ⟨op, res, a, b, n, tags, ta, tc, la, ln, lc, ea, en, ec⟩ := x
  have hnm := ((lawful_iff _).1 hx.law).1
  have hrs := ((lawful_iff _).1 hx.law).2.1
  obtain ⟨ha, hb, hn, htg, hfw⟩ : (0 ≤ a ∧ a < 4294967296) ∧ (0 ≤ b ∧ b < 4294967296) ∧ (-2147483648 ≤ n ∧ n < 2147483648) ∧ (∀ z ∈ tags, 0 ≤ z ∧ z < 4294967296) ∧ tags.length ≤ 16384 := ⟨hx.a, hx.b, hx.n, hx.tags, hx.few⟩
  have hrg := name_range hnm
  dsimp only at hk ht hl he hrg hrs
  obtain ⟨o0, o1, -, -⟩ := hrg
  have hL : listsP op = false := by rw [lists_kind, hk]; rfl
  have hW : whichP op = true := by rw [which_kind, hk]; rfl
  have hS : storedP op = false := by rw [stored_kind, hk]; rfl
  have n17 : ¬ op = 17 := by rintro rfl; revert hk; decide
  have n14 : ¬ op = 14 := by rintro rfl; revert hk; decide
  have n65 : ¬ op = 65 := by rintro rfl; revert hk; decide
  have n63 : ¬ op = 63 := by rintro rfl; revert hk; decide
  have n64 : ¬ op = 64 := by rintro rfl; revert hk; decide
  have m63 : (op == 63) = false := by simp [n63]
  have m64 : (op == 64) = false := by simp [n64]
  have FA := hid (fun W => refAlign_any (op) W)
  have FL := hid (fun W => refLists_any (op) W)
  have FW := hid (fun W => refWhich_any (op) W)
  rw [hS] at FA
  rw [hL] at FL
  rw [hW] at FW
  obtain ⟨al, hal⟩ : ∃ al, alignP (op) = al := ⟨_, rfl⟩
  rw [hal] at FA
  have O0 := hid (own_op w ⟨op, res, a, b, n, tags, ta, tc, la, ln, lc, ea, en, ec⟩ (op))
  have hE : encOne (⟨op, res, a, b, n, tags, ta, tc, la, ln, lc, ea, en, ec⟩ : Ix) l e = [op] ++ encU a := by unfold encOne; rw [encRest2 hk, if_neg (by dsimp only; rw [hk]; decide)]; simp
  rw [hE]
  have u8o : IntKind.u8.wrap (op) = op := by rw [IntKind.wrap_u8]; omega
  obtain ⟨za, hza⟩ : ∃ z, encU a = z := ⟨_, rfl⟩
  have PA := hid (fun W => refU_any a W ha.1 ha.2)
  have LA := hid (encU_lens a).1
  have BA := hid (encU_bytes a)
  rw [hza] at PA LA BA ⊢
  clear hnm hL hW hS hal LH hcl hce hfl hfe hl he hml hme ht hx hk hrs hE
  simp only [Ix.vals]
  go_enter Tryz.func219, Tryz.ntmps219
  go_wp2_with (first | (go_at_call 231; refine (FA.out _).mono ?_; rintro e0 w0 ⟨rfl, rfl⟩) | (go_at_call 232; refine (FL.out _).mono ?_; rintro e0 w0 ⟨rfl, rfl⟩) | (go_at_call 233; refine (FW.out _).mono ?_; rintro e0 w0 ⟨rfl, rfl⟩))
  refine (PA.out _).mono ?_
  rintro e1 w1 ⟨r1, rfl, ro1, rb1⟩
  obtain ⟨q1, k1, rfl⟩ := ro1.slice
  have RN1 := ro1.nil
  have RY1 := hid (ro1.bytes BA.out (by have := LA.out; omega))
  have Q1 := hid (O0.out.on rb1)
  obtain ⟨c0, c1, c2, c3, c4, c5, c6, c7⟩ := Q1.out.box
  dsimp only at c0 c1 c2 c3 c4 c5 c6 c7
  clear ro1 rb1
  go_wp2_with (first | (at_builtin; refine append_bytes rfl _ _ rfl rfl Q1.out.own Q1.out.bel Q1.out.size q1 _ k1 rfl RN1.out rfl RY1.out (by have := Q1.out.few; have := LA.out; omega) ?_; intro v1 z1 ho hb hs; obtain ⟨nn1, qq1, kk1, yy1, hy1, hn1, rfl, O1⟩ := Q1.out.mkN ho hb LA.out; clear ho hb hs Q1 RY1 RN1 c0 c1 c2 c3 c4 c5 c6 c7; obtain ⟨c0, c1, c2, c3, c4, c5, c6, c7⟩ := O1.out.box; dsimp only at c0 c1 c2 c3 c4 c5 c6 c7))
  go_wp2
  go_ret
  exact O1.out.gives' (ys := op :: za) (by simp [*])

set_option maxRecDepth 100000 in
set_option maxHeartbeats 6400000 in
theorem enc3 (x : Ix) (l e : Il) (m : Nat) (w : World) (hx : May x) (hk : kindP x.op = 3) (ht : TagsAt w.heap.size w x.ta x.tags) (hl : ListAt w.heap.size w x.la x.ln l) (he : ListAt w.heap.size w x.ea x.en e) (hml : MayT l) (hme : MayT e)
    (hcl : l.count < m) (hce : e.count < m) (hfl : (encL l).length ≤ 90000) (hfe : (encL e).length ≤ 90000) (LH : PutH m) :
    Calls Tryz.prog 219 #[.agg x.vals] w (Gives w (encOne x l e)) := by
  obtain ⟨op, res, a, b, n, tags, ta, tc, la, ln, lc, ea, en, ec⟩ := x
  have hnm := ((lawful_iff _).1 hx.law).1
  have hrs := ((lawful_iff _).1 hx.law).2.1
  obtain ⟨ha, hb, hn, htg, hfw⟩ : (0 ≤ a ∧ a < 4294967296) ∧ (0 ≤ b ∧ b < 4294967296) ∧ (-2147483648 ≤ n ∧ n < 2147483648) ∧ (∀ z ∈ tags, 0 ≤ z ∧ z < 4294967296) ∧ tags.length ≤ 16384 := ⟨hx.a, hx.b, hx.n, hx.tags, hx.few⟩
  have hrg := name_range hnm
  dsimp only at hk ht hl he hrg hrs
  obtain ⟨o0, o1, -, -⟩ := hrg
  have hL : listsP op = false := by rw [lists_kind, hk]; rfl
  have hW : whichP op = true := by rw [which_kind, hk]; rfl
  have hS : storedP op = false := by rw [stored_kind, hk]; rfl
  obtain rfl : op = 17 := by unfold kindP at hk; (repeat' split at hk) <;> omega
  have FA := hid (fun W => refAlign_any (17) W)
  have FL := hid (fun W => refLists_any (17) W)
  have FW := hid (fun W => refWhich_any (17) W)
  rw [hS] at FA
  rw [hL] at FL
  rw [hW] at FW
  obtain ⟨al, hal⟩ : ∃ al, alignP (17) = al := ⟨_, rfl⟩
  rw [hal] at FA
  have O0 := hid (own_op w ⟨17, res, a, b, n, tags, ta, tc, la, ln, lc, ea, en, ec⟩ (17))
  have hE : encOne (⟨17, res, a, b, n, tags, ta, tc, la, ln, lc, ea, en, ec⟩ : Ix) l e = [17] ++ encU a ++ [0] := by unfold encOne; rw [encRest3 hk, if_neg (by dsimp only; rw [hk]; decide)]; simp
  rw [hE]
  obtain ⟨za, hza⟩ : ∃ z, encU a = z := ⟨_, rfl⟩
  have PA := hid (fun W => refU_any a W ha.1 ha.2)
  have LA := hid (encU_lens a).1
  have BA := hid (encU_bytes a)
  rw [hza] at PA LA BA ⊢
  clear hnm hL hW hS hal LH hcl hce hfl hfe hl he hml hme ht hx hk hrs hE
  simp only [Ix.vals]
  go_enter Tryz.func219, Tryz.ntmps219
  go_wp2_with (first | (go_at_call 231; refine (FA.out _).mono ?_; rintro e0 w0 ⟨rfl, rfl⟩) | (go_at_call 232; refine (FL.out _).mono ?_; rintro e0 w0 ⟨rfl, rfl⟩) | (go_at_call 233; refine (FW.out _).mono ?_; rintro e0 w0 ⟨rfl, rfl⟩))
  refine (PA.out _).mono ?_
  rintro e1 w1 ⟨r1, rfl, ro1, rb1⟩
  obtain ⟨q1, k1, rfl⟩ := ro1.slice
  have RN1 := ro1.nil
  have RY1 := hid (ro1.bytes BA.out (by have := LA.out; omega))
  have Q1 := hid (O0.out.on rb1)
  obtain ⟨c0, c1, c2, c3, c4, c5, c6, c7⟩ := Q1.out.box
  dsimp only at c0 c1 c2 c3 c4 c5 c6 c7
  clear ro1 rb1
  go_wp2_with (first | (at_builtin; refine append_bytes rfl _ _ rfl rfl Q1.out.own Q1.out.bel Q1.out.size q1 _ k1 rfl RN1.out rfl RY1.out (by have := Q1.out.few; have := LA.out; omega) ?_; intro v1 z1 ho hb hs; obtain ⟨nn1, qq1, kk1, yy1, hy1, hn1, rfl, O1⟩ := Q1.out.mkN ho hb LA.out; clear ho hb hs Q1 RY1 RN1 c0 c1 c2 c3 c4 c5 c6 c7; obtain ⟨c0, c1, c2, c3, c4, c5, c6, c7⟩ := O1.out.box; dsimp only at c0 c1 c2 c3 c4 c5 c6 c7) | (at_builtin; refine append_byte rfl _ _ rfl (0) rfl O1.out.own O1.out.bel O1.out.size ?_ (by have := O1.out.few; omega) ?_; rfl; intro v9 z9 ho hb hs; obtain ⟨nbO2, qbO2, kbO2, ybO2, hybO2, hnbO2, rfl, O2⟩ := O1.out.mkN (ys := [0]) (M := 1) ho hb (by simp); clear ho hb hs))
  go_wp2
  go_ret
  exact O2.out.gives' (ys := 17 :: (za ++ [0])) (by simp [*])

set_option maxRecDepth 100000 in
set_option maxHeartbeats 6400000 in
theorem enc4 (x : Ix) (l e : Il) (m : Nat) (w : World) (hx : May x) (hk : kindP x.op = 4) (ht : TagsAt w.heap.size w x.ta x.tags) (hl : ListAt w.heap.size w x.la x.ln l) (he : ListAt w.heap.size w x.ea x.en e) (hml : MayT l) (hme : MayT e)
    (hcl : l.count < m) (hce : e.count < m) (hfl : (encL l).length ≤ 90000) (hfe : (encL e).length ≤ 90000) (LH : PutH m) :
    Calls Tryz.prog 219 #[.agg x.vals] w (Gives w (encOne x l e)) := by
  obtain ⟨op, res, a, b, n, tags, ta, tc, la, ln, lc, ea, en, ec⟩ := x
  have hnm := ((lawful_iff _).1 hx.law).1
  have hrs := ((lawful_iff _).1 hx.law).2.1
  obtain ⟨ha, hb, hn, htg, hfw⟩ : (0 ≤ a ∧ a < 4294967296) ∧ (0 ≤ b ∧ b < 4294967296) ∧ (-2147483648 ≤ n ∧ n < 2147483648) ∧ (∀ z ∈ tags, 0 ≤ z ∧ z < 4294967296) ∧ tags.length ≤ 16384 := ⟨hx.a, hx.b, hx.n, hx.tags, hx.few⟩
  have hrg := name_range hnm
  dsimp only at hk ht hl he hrg hrs
  obtain ⟨o0, o1, -, -⟩ := hrg
  have hL : listsP op = false := by rw [lists_kind, hk]; rfl
  have hW : whichP op = false := by rw [which_kind, hk]; rfl
  have hS : storedP op = false := by rw [stored_kind, hk]; rfl
  obtain rfl : op = 14 := four_kind.2 hk
  have FA := hid (fun W => refAlign_any (14) W)
  have FL := hid (fun W => refLists_any (14) W)
  have FW := hid (fun W => refWhich_any (14) W)
  rw [hS] at FA
  rw [hL] at FL
  rw [hW] at FW
  obtain ⟨al, hal⟩ : ∃ al, alignP (14) = al := ⟨_, rfl⟩
  rw [hal] at FA
  have O0 := hid (own_op w ⟨14, res, a, b, n, tags, ta, tc, la, ln, lc, ea, en, ec⟩ (14))
  have hE : encOne (⟨14, res, a, b, n, tags, ta, tc, la, ln, lc, ea, en, ec⟩ : Ix) l e = [14] ++ (encTags tags ++ encU a) := by unfold encOne; rw [encRest4 hk, if_neg (by dsimp only; rw [hk]; decide)]; simp
  rw [hE]
  obtain ⟨za, hza⟩ : ∃ z, encU a = z := ⟨_, rfl⟩
  have PA := hid (fun W => refU_any a W ha.1 ha.2)
  have LA := hid (encU_lens a).1
  have BA := hid (encU_bytes a)
  rw [hza] at PA LA BA ⊢
  obtain ⟨zt, hzt⟩ : ∃ z, encTags tags = z := ⟨_, rfl⟩
  obtain ⟨z0, hz0⟩ : ∃ z, encU (tags.length : Int) = z := ⟨_, rfl⟩
  have PT := hid (fun W => refU_any (tags.length : Int) W (by omega) (by omega))
  have LT := hid (encU_lens (tags.length : Int)).1
  have BT := hid (encU_bytes (tags.length : Int))
  have HT := hid ht
  have HZ := hid htg
  have HEt := hid (show z0 ++ tags.flatMap encU = zt by rw [← hzt, ← hz0]; rfl)
  rw [hzt]
  rw [hz0] at PT LT BT
  clear htg hzt hz0
  clear hnm hL hW hS hal LH hcl hce hfl hfe hl he hml hme ht hx hk hrs hE
  simp only [Ix.vals]
  go_enter Tryz.func219, Tryz.ntmps219
  go_wp2_with (first | (go_at_call 231; refine (FA.out _).mono ?_; rintro e0 wA ⟨rfl, hwA⟩; have OA := hid (hwA ▸ O0.out); clear hwA; obtain ⟨c0, c1, c2, c3, c4, c5, c6, c7⟩ := OA.out.box; dsimp only at c0 c1 c2 c3 c4 c5 c6 c7) | (go_at_call 232; refine (FL.out _).mono ?_; rintro e0 w0 ⟨rfl, rfl⟩) | (go_at_call 233; refine (FW.out _).mono ?_; rintro e0 w0 ⟨rfl, rfl⟩))
  refine (PT.out _).mono ?_
  rintro e1 w1 ⟨r1, rfl, ro1, rb1⟩
  obtain ⟨q1, k1, rfl⟩ := ro1.slice
  have RN1 := ro1.nil
  have RY1 := hid (ro1.bytes BT.out (by have := LT.out; omega))
  have Q1 := hid (OA.out.on rb1)
  obtain ⟨c0, c1, c2, c3, c4, c5, c6, c7⟩ := Q1.out.box
  dsimp only at c0 c1 c2 c3 c4 c5 c6 c7
  clear ro1 rb1
  go_wp2_with (first | (at_builtin; refine append_bytes rfl _ _ rfl rfl Q1.out.own Q1.out.bel Q1.out.size q1 _ k1 rfl RN1.out rfl RY1.out (by have := Q1.out.few; have := LT.out; omega) ?_; intro v1 z1 ho hb hs; obtain ⟨nn1, qq1, kk1, yy1, hy1, hn1, rfl, O1⟩ := Q1.out.mkN ho hb LT.out; clear ho hb hs Q1 RY1 RN1 c0 c1 c2 c3 c4 c5 c6 c7; obtain ⟨c0, c1, c2, c3, c4, c5, c6, c7⟩ := O1.out.box; dsimp only at c0 c1 c2 c3 c4 c5 c6 c7))
  go_wp2
  clear c0 c1 c2 c3 c4 c5 c6 c7 PT LT BT OA
  go_loopw [3, 6] (fun s3 s6 wr => ∃ (j nj : Nat) (qj : Option Addr) (kj : Nat), j ≤ tags.length ∧ s6 = .int .i64 j ∧ s3 = .slice qj nj kj ∧ Hid (OW w (⟨14, res, a, b, n, tags, ta, tc, la, ln, lc, ea, en, ec⟩ : Ix) (.slice qj nj kj) (yy1 ++ (tags.take j).flatMap encU) (6 + 5 * j) wr)) (fun _ s6 _ => tags.length - (intOf s6).toNat)
  case atStart => exact ⟨0, nn1, qq1, kk1, by omega, rfl, rfl, hid (by have := O1.out; simpa using this)⟩
  case round =>
    obtain ⟨j, nj, qj, kj, hj, rfl, rfl, HJ⟩ := hrel
    clear O1
    obtain ⟨c0, c1, c2, c3, c4, c5, c6, c7⟩ := HJ.out.box
    dsimp only at c0 c1 c2 c3 c4 c5 c6 c7
    by_cases hlt : j < tags.length
    · have hz' := HZ.out _ (List.getElem_mem hlt)
      rw [← getD_lt hlt] at hz'
      have hd : (tags.take (j + 1)).flatMap encU = (tags.take j).flatMap encU ++ encU (tags.getD j 0) := by rw [List.take_succ_eq_append_getElem hlt, flatMap_snoc, getD_lt hlt]
      rcases HT.out with h0 | ⟨tb, off, rfl, hbl, hc⟩
      · rw [h0] at hlt; simp at hlt
      have hcj := (HJ.out.all.cell (p := ⟨tb, off + j, none⟩) hbl).trans (hc j hlt)
      obtain ⟨z, hz⟩ : ∃ z, tags.getD j 0 = z := ⟨_, rfl⟩
      rw [hz] at hz' hd hcj
      have P2 := hid (fun w' => refU_any z w' hz'.1 hz'.2)
      have L2 := hid (encU_lens z).1
      have B2 := hid (encU_bytes z)
      obtain ⟨e2, he2⟩ : ∃ e, encU z = e := ⟨_, rfl⟩
      rw [he2] at P2 L2 B2 hd
      obtain ⟨zs, hzs⟩ : ∃ zs, yy1 ++ (tags.take j).flatMap encU = zs := ⟨_, rfl⟩
      rw [hzs] at HJ
      have hd2 : Hid (yy1 ++ (tags.take (j + 1)).flatMap encU = zs ++ e2) := by show _ = _; rw [hd, ← List.append_assoc, hzs]
      clear hd hzs he2 hz hz' hc
      go_wp2_with fail
      refine (P2.out _).mono ?_
      rintro e2 w2 ⟨r2, rfl, ro2, rb2⟩
      obtain ⟨q2, k2, rfl⟩ := ro2.slice
      have RN2 := ro2.nil
      have RY2 := hid (ro2.bytes B2.out (by have := L2.out; omega))
      have Q2 := hid (HJ.out.on rb2)
      obtain ⟨c0, c1, c2, c3, c4, c5, c6, c7⟩ := Q2.out.box
      dsimp only at c0 c1 c2 c3 c4 c5 c6 c7
      clear ro2 rb2
      go_wp2_with (first | (at_builtin; refine append_bytes rfl _ _ rfl rfl Q2.out.own Q2.out.bel Q2.out.size q2 _ k2 rfl RN2.out rfl RY2.out (by have := Q2.out.few; have := L2.out; omega) ?_; intro v2 z2 ho hb hs; obtain ⟨nn2, qq2, kk2, yy2, hy2, hn2, rfl, O2⟩ := Q2.out.mkN ho hb L2.out; clear ho hb hs Q2 RY2 RN2 c0 c1 c2 c3 c4 c5 c6 c7; obtain ⟨c0, c1, c2, c3, c4, c5, c6, c7⟩ := O2.out.box; dsimp only at c0 c1 c2 c3 c4 c5 c6 c7))
      go_wp2
      go_roundw
      case rel =>
        refine ⟨j + 1, nn2, qq2, kk2, by omega, by simp, rfl, hid ?_⟩
        have h9 := O2.out
        rw [hy2, ← hd2.out] at h9
        rw [show 6 + 5 * (j + 1) = 6 + 5 * j + 5 by omega]
        exact h9
      case measure => simp [intOf]; omega
    · obtain rfl : j = tags.length := by omega
      rw [List.take_length] at HJ
      go_wp2_with fail
      refine (PA.out _).mono ?_
      rintro e3 w3 ⟨r3, rfl, ro3, rb3⟩
      obtain ⟨q3, k3, rfl⟩ := ro3.slice
      have RN3 := ro3.nil
      have RY3 := hid (ro3.bytes BA.out (by have := LA.out; omega))
      have Q3 := hid (HJ.out.on rb3)
      obtain ⟨c0, c1, c2, c3, c4, c5, c6, c7⟩ := Q3.out.box
      dsimp only at c0 c1 c2 c3 c4 c5 c6 c7
      clear ro3 rb3
      go_wp2_with (first | (at_builtin; refine append_bytes rfl _ _ rfl rfl Q3.out.own Q3.out.bel Q3.out.size q3 _ k3 rfl RN3.out rfl RY3.out (by have := Q3.out.few; have := LA.out; omega) ?_; intro v3 z3 ho hb hs; obtain ⟨nn3, qq3, kk3, yy3, hy3, hn3, rfl, O3⟩ := Q3.out.mkN ho hb LA.out; clear ho hb hs Q3 RY3 RN3 c0 c1 c2 c3 c4 c5 c6 c7; obtain ⟨c0, c1, c2, c3, c4, c5, c6, c7⟩ := O3.out.box; dsimp only at c0 c1 c2 c3 c4 c5 c6 c7))
      go_wp2
      go_ret
      exact O3.out.gives' (ys := 14 :: (zt ++ za)) (by rw [hy3, hy1, ← HEt.out]; simp)

set_option maxRecDepth 100000 in
set_option maxHeartbeats 6400000 in
theorem enc5 (x : Ix) (l e : Il) (m : Nat) (w : World) (hx : May x) (hk : kindP x.op = 5) (ht : TagsAt w.heap.size w x.ta x.tags) (hl : ListAt w.heap.size w x.la x.ln l) (he : ListAt w.heap.size w x.ea x.en e) (hml : MayT l) (hme : MayT e)
    (hcl : l.count < m) (hce : e.count < m) (hfl : (encL l).length ≤ 90000) (hfe : (encL e).length ≤ 90000) (LH : PutH m) :
    Calls Tryz.prog 219 #[.agg x.vals] w (Gives w (encOne x l e)) := by
  obtain ⟨op, res, a, b, n, tags, ta, tc, la, ln, lc, ea, en, ec⟩ := x
  have hnm := ((lawful_iff _).1 hx.law).1
  have hrs := ((lawful_iff _).1 hx.law).2.1
  obtain ⟨ha, hb, hn, htg, hfw⟩ : (0 ≤ a ∧ a < 4294967296) ∧ (0 ≤ b ∧ b < 4294967296) ∧ (-2147483648 ≤ n ∧ n < 2147483648) ∧ (∀ z ∈ tags, 0 ≤ z ∧ z < 4294967296) ∧ tags.length ≤ 16384 := ⟨hx.a, hx.b, hx.n, hx.tags, hx.few⟩
  have hrg := name_range hnm
  dsimp only at hk ht hl he hrg hrs
  obtain ⟨o0, o1, -, -⟩ := hrg
  have hL : listsP op = false := by rw [lists_kind, hk]; rfl
  have hW : whichP op = false := by rw [which_kind, hk]; rfl
  have hS : storedP op = true := by rw [stored_kind, hk]; rfl
  have n17 : ¬ op = 17 := by rintro rfl; revert hk; decide
  have n14 : ¬ op = 14 := by rintro rfl; revert hk; decide
  have n65 : ¬ op = 65 := by rintro rfl; revert hk; decide
  have n63 : ¬ op = 63 := by rintro rfl; revert hk; decide
  have n64 : ¬ op = 64 := by rintro rfl; revert hk; decide
  have m63 : (op == 63) = false := by simp [n63]
  have m64 : (op == 64) = false := by simp [n64]
  have FA := hid (fun W => refAlign_any (op) W)
  have FL := hid (fun W => refLists_any (op) W)
  have FW := hid (fun W => refWhich_any (op) W)
  rw [hS] at FA
  rw [hL] at FL
  rw [hW] at FW
  obtain ⟨al, hal⟩ : ∃ al, alignP (op) = al := ⟨_, rfl⟩
  rw [hal] at FA
  have O0 := hid (own_op w ⟨op, res, a, b, n, tags, ta, tc, la, ln, lc, ea, en, ec⟩ (op))
  have hE : encOne (⟨op, res, a, b, n, tags, ta, tc, la, ln, lc, ea, en, ec⟩ : Ix) l e = [op] ++ encU a ++ encU b := by unfold encOne; rw [encRest5 hk, if_neg (by dsimp only; rw [hk]; decide)]; simp
  rw [hE]
  have u8o : IntKind.u8.wrap (op) = op := by rw [IntKind.wrap_u8]; omega
  obtain ⟨za, hza⟩ : ∃ z, encU a = z := ⟨_, rfl⟩
  have PA := hid (fun W => refU_any a W ha.1 ha.2)
  have LA := hid (encU_lens a).1
  have BA := hid (encU_bytes a)
  rw [hza] at PA LA BA ⊢
  obtain ⟨zb, hzb⟩ : ∃ z, encU b = z := ⟨_, rfl⟩
  have PB := hid (fun W => refU_any b W hb.1 hb.2)
  have LB := hid (encU_lens b).1
  have BB := hid (encU_bytes b)
  rw [hzb] at PB LB BB ⊢
  clear hnm hL hW hS hal LH hcl hce hfl hfe hl he hml hme ht hx hk hrs hE
  simp only [Ix.vals]
  go_enter Tryz.func219, Tryz.ntmps219
  go_wp2_with (first | (go_at_call 231; refine (FA.out _).mono ?_; rintro e0 w0 ⟨rfl, rfl⟩) | (go_at_call 232; refine (FL.out _).mono ?_; rintro e0 w0 ⟨rfl, rfl⟩) | (go_at_call 233; refine (FW.out _).mono ?_; rintro e0 w0 ⟨rfl, rfl⟩))
  refine (PA.out _).mono ?_
  rintro e1 w1 ⟨r1, rfl, ro1, rb1⟩
  obtain ⟨q1, k1, rfl⟩ := ro1.slice
  have RN1 := ro1.nil
  have RY1 := hid (ro1.bytes BA.out (by have := LA.out; omega))
  have Q1 := hid (O0.out.on rb1)
  obtain ⟨c0, c1, c2, c3, c4, c5, c6, c7⟩ := Q1.out.box
  dsimp only at c0 c1 c2 c3 c4 c5 c6 c7
  clear ro1 rb1
  go_wp2_with (first | (at_builtin; refine append_bytes rfl _ _ rfl rfl Q1.out.own Q1.out.bel Q1.out.size q1 _ k1 rfl RN1.out rfl RY1.out (by have := Q1.out.few; have := LA.out; omega) ?_; intro v1 z1 ho hb hs; obtain ⟨nn1, qq1, kk1, yy1, hy1, hn1, rfl, O1⟩ := Q1.out.mkN ho hb LA.out; clear ho hb hs Q1 RY1 RN1 c0 c1 c2 c3 c4 c5 c6 c7; obtain ⟨c0, c1, c2, c3, c4, c5, c6, c7⟩ := O1.out.box; dsimp only at c0 c1 c2 c3 c4 c5 c6 c7))
  go_wp2_with fail
  refine (PB.out _).mono ?_
  rintro e2 w2 ⟨r2, rfl, ro2, rb2⟩
  obtain ⟨q2, k2, rfl⟩ := ro2.slice
  have RN2 := ro2.nil
  have RY2 := hid (ro2.bytes BB.out (by have := LB.out; omega))
  have Q2 := hid (O1.out.on rb2)
  obtain ⟨c0, c1, c2, c3, c4, c5, c6, c7⟩ := Q2.out.box
  dsimp only at c0 c1 c2 c3 c4 c5 c6 c7
  clear ro2 rb2
  go_wp2_with (first | (at_builtin; refine append_bytes rfl _ _ rfl rfl Q2.out.own Q2.out.bel Q2.out.size q2 _ k2 rfl RN2.out rfl RY2.out (by have := Q2.out.few; have := LB.out; omega) ?_; intro v2 z2 ho hb hs; obtain ⟨nn2, qq2, kk2, yy2, hy2, hn2, rfl, O2⟩ := Q2.out.mkN ho hb LB.out; clear ho hb hs Q2 RY2 RN2 c0 c1 c2 c3 c4 c5 c6 c7; obtain ⟨c0, c1, c2, c3, c4, c5, c6, c7⟩ := O2.out.box; dsimp only at c0 c1 c2 c3 c4 c5 c6 c7))
  go_wp2
  go_ret
  exact O2.out.gives' (ys := op :: (za ++ zb)) (by simp [*])

set_option maxRecDepth 100000 in
set_option maxHeartbeats 6400000 in
theorem enc6 (x : Ix) (l e : Il) (m : Nat) (w : World) (hx : May x) (hk : kindP x.op = 6) (ht : TagsAt w.heap.size w x.ta x.tags) (hl : ListAt w.heap.size w x.la x.ln l) (he : ListAt w.heap.size w x.ea x.en e) (hml : MayT l) (hme : MayT e)
    (hcl : l.count < m) (hce : e.count < m) (hfl : (encL l).length ≤ 90000) (hfe : (encL e).length ≤ 90000) (LH : PutH m) :
    Calls Tryz.prog 219 #[.agg x.vals] w (Gives w (encOne x l e)) := by
  obtain ⟨op, res, a, b, n, tags, ta, tc, la, ln, lc, ea, en, ec⟩ := x
  have hnm := ((lawful_iff _).1 hx.law).1
  have hrs := ((lawful_iff _).1 hx.law).2.1
  obtain ⟨ha, hb, hn, htg, hfw⟩ : (0 ≤ a ∧ a < 4294967296) ∧ (0 ≤ b ∧ b < 4294967296) ∧ (-2147483648 ≤ n ∧ n < 2147483648) ∧ (∀ z ∈ tags, 0 ≤ z ∧ z < 4294967296) ∧ tags.length ≤ 16384 := ⟨hx.a, hx.b, hx.n, hx.tags, hx.few⟩
  have hrg := name_range hnm
  dsimp only at hk ht hl he hrg hrs
  obtain ⟨o0, o1, -, -⟩ := hrg
  have hL : listsP op = false := by rw [lists_kind, hk]; rfl
  have hW : whichP op = false := by rw [which_kind, hk]; rfl
  have hS : storedP op = false := by rw [stored_kind, hk]; rfl
  have n17 : ¬ op = 17 := by rintro rfl; revert hk; decide
  have n14 : ¬ op = 14 := by rintro rfl; revert hk; decide
  have n65 : ¬ op = 65 := by rintro rfl; revert hk; decide
  have cc : op = 63 ∨ op = 64 := by unfold kindP at hk; (repeat' split at hk) <;> omega
  have FA := hid (fun W => refAlign_any (op) W)
  have FL := hid (fun W => refLists_any (op) W)
  have FW := hid (fun W => refWhich_any (op) W)
  rw [hS] at FA
  rw [hL] at FL
  rw [hW] at FW
  obtain ⟨al, hal⟩ : ∃ al, alignP (op) = al := ⟨_, rfl⟩
  rw [hal] at FA
  have O0 := hid (own_op w ⟨op, res, a, b, n, tags, ta, tc, la, ln, lc, ea, en, ec⟩ (op))
  have hE : encOne (⟨op, res, a, b, n, tags, ta, tc, la, ln, lc, ea, en, ec⟩ : Ix) l e = [op] ++ [0] := by unfold encOne; rw [encRest6 hk, if_neg (by dsimp only; rw [hk]; decide)]; simp
  rw [hE]
  have u8o : IntKind.u8.wrap (op) = op := by rw [IntKind.wrap_u8]; omega
  clear hnm hL hW hS hal LH hcl hce hfl hfe hl he hml hme ht hx hk hrs hE
  simp only [Ix.vals]
  go_enter Tryz.func219, Tryz.ntmps219
  rcases cc with rfl | rfl
  · go_wp2_with (first | (go_at_call 231; refine (FA.out _).mono ?_; rintro e0 wA ⟨rfl, hwA⟩; have OA := hid (hwA ▸ O0.out); clear hwA; obtain ⟨c0, c1, c2, c3, c4, c5, c6, c7⟩ := OA.out.box; dsimp only at c0 c1 c2 c3 c4 c5 c6 c7) | (go_at_call 232; refine (FL.out _).mono ?_; rintro e0 w0 ⟨rfl, rfl⟩) | (go_at_call 233; refine (FW.out _).mono ?_; rintro e0 w0 ⟨rfl, rfl⟩) | (at_builtin; refine append_byte rfl _ _ rfl (0) rfl OA.out.own OA.out.bel OA.out.size ?_ (by have := OA.out.few; omega) ?_; rfl; intro v9 z9 ho hb hs; obtain ⟨nbO1, qbO1, kbO1, ybO1, hybO1, hnbO1, rfl, O1⟩ := OA.out.mkN (ys := [0]) (M := 1) ho hb (by simp); clear ho hb hs))
    go_wp2
    go_ret
    exact O1.out.gives' (ys := [63, 0]) (by simp [*])
  · go_wp2_with (first | (go_at_call 231; refine (FA.out _).mono ?_; rintro e0 wA ⟨rfl, hwA⟩; have OA := hid (hwA ▸ O0.out); clear hwA; obtain ⟨c0, c1, c2, c3, c4, c5, c6, c7⟩ := OA.out.box; dsimp only at c0 c1 c2 c3 c4 c5 c6 c7) | (go_at_call 232; refine (FL.out _).mono ?_; rintro e0 w0 ⟨rfl, rfl⟩) | (go_at_call 233; refine (FW.out _).mono ?_; rintro e0 w0 ⟨rfl, rfl⟩) | (at_builtin; refine append_byte rfl _ _ rfl (0) rfl OA.out.own OA.out.bel OA.out.size ?_ (by have := OA.out.few; omega) ?_; rfl; intro v9 z9 ho hb hs; obtain ⟨nbO1, qbO1, kbO1, ybO1, hybO1, hnbO1, rfl, O1⟩ := OA.out.mkN (ys := [0]) (M := 1) ho hb (by simp); clear ho hb hs))
    go_wp2
    go_ret
    exact O1.out.gives' (ys := [64, 0]) (by simp [*])

set_option maxRecDepth 100000 in
set_option maxHeartbeats 6400000 in
theorem enc7 (x : Ix) (l e : Il) (m : Nat) (w : World) (hx : May x) (hk : kindP x.op = 7) (ht : TagsAt w.heap.size w x.ta x.tags) (hl : ListAt w.heap.size w x.la x.ln l) (he : ListAt w.heap.size w x.ea x.en e) (hml : MayT l) (hme : MayT e)
    (hcl : l.count < m) (hce : e.count < m) (hfl : (encL l).length ≤ 90000) (hfe : (encL e).length ≤ 90000) (LH : PutH m) :
    Calls Tryz.prog 219 #[.agg x.vals] w (Gives w (encOne x l e)) := by
  obtain ⟨op, res, a, b, n, tags, ta, tc, la, ln, lc, ea, en, ec⟩ := x
  have hnm := ((lawful_iff _).1 hx.law).1
  have hrs := ((lawful_iff _).1 hx.law).2.1
  obtain ⟨ha, hb, hn, htg, hfw⟩ : (0 ≤ a ∧ a < 4294967296) ∧ (0 ≤ b ∧ b < 4294967296) ∧ (-2147483648 ≤ n ∧ n < 2147483648) ∧ (∀ z ∈ tags, 0 ≤ z ∧ z < 4294967296) ∧ tags.length ≤ 16384 := ⟨hx.a, hx.b, hx.n, hx.tags, hx.few⟩
  have hrg := name_range hnm
  dsimp only at hk ht hl he hrg hrs
  obtain ⟨o0, o1, -, -⟩ := hrg
  have hL : listsP op = false := by rw [lists_kind, hk]; rfl
  have hW : whichP op = false := by rw [which_kind, hk]; rfl
  have hS : storedP op = false := by rw [stored_kind, hk]; rfl
  obtain rfl : op = 65 := seven_kind.2 hk
  have FA := hid (fun W => refAlign_any (65) W)
  have FL := hid (fun W => refLists_any (65) W)
  have FW := hid (fun W => refWhich_any (65) W)
  rw [hS] at FA
  rw [hL] at FL
  rw [hW] at FW
  obtain ⟨al, hal⟩ : ∃ al, alignP (65) = al := ⟨_, rfl⟩
  rw [hal] at FA
  have O0 := hid (own_op w ⟨65, res, a, b, n, tags, ta, tc, la, ln, lc, ea, en, ec⟩ (65))
  have hE : encOne (⟨65, res, a, b, n, tags, ta, tc, la, ln, lc, ea, en, ec⟩ : Ix) l e = [65] ++ encS n := by unfold encOne; rw [encRest7 hk, if_neg (by dsimp only; rw [hk]; decide)]; simp
  rw [hE]
  obtain ⟨zn, hzn⟩ : ∃ z, encS n = z := ⟨_, rfl⟩
  have PN := hid (fun W => refS_any n W hn.1 hn.2)
  have LN := hid (encS_lens n).1
  have BN := hid (encS_bytes n)
  rw [hzn] at PN LN BN ⊢
  clear hnm hL hW hS hal LH hcl hce hfl hfe hl he hml hme ht hx hk hrs hE
  simp only [Ix.vals]
  go_enter Tryz.func219, Tryz.ntmps219
  go_wp2_with (first | (go_at_call 231; refine (FA.out _).mono ?_; rintro e0 w0 ⟨rfl, rfl⟩) | (go_at_call 232; refine (FL.out _).mono ?_; rintro e0 w0 ⟨rfl, rfl⟩) | (go_at_call 233; refine (FW.out _).mono ?_; rintro e0 w0 ⟨rfl, rfl⟩))
  refine (PN.out _).mono ?_
  rintro e1 w1 ⟨r1, rfl, ro1, rb1⟩
  obtain ⟨q1, k1, rfl⟩ := ro1.slice
  have RN1 := ro1.nil
  have RY1 := hid (ro1.bytes BN.out (by have := LN.out; omega))
  have Q1 := hid (O0.out.on rb1)
  obtain ⟨c0, c1, c2, c3, c4, c5, c6, c7⟩ := Q1.out.box
  dsimp only at c0 c1 c2 c3 c4 c5 c6 c7
  clear ro1 rb1
  go_wp2_with (first | (at_builtin; refine append_bytes rfl _ _ rfl rfl Q1.out.own Q1.out.bel Q1.out.size q1 _ k1 rfl RN1.out rfl RY1.out (by have := Q1.out.few; have := LN.out; omega) ?_; intro v1 z1 ho hb hs; obtain ⟨nn1, qq1, kk1, yy1, hy1, hn1, rfl, O1⟩ := Q1.out.mkN ho hb LN.out; clear ho hb hs Q1 RY1 RN1 c0 c1 c2 c3 c4 c5 c6 c7; obtain ⟨c0, c1, c2, c3, c4, c5, c6, c7⟩ := O1.out.box; dsimp only at c0 c1 c2 c3 c4 c5 c6 c7))
  go_wp2
  go_ret
  exact O1.out.gives' (ys := 65 :: zn) (by simp [*])
end Go.Proofs.YtepbjkkakfpjgaaGreatDoor.Body

namespace Go.Proofs.YtepbjkkakfpjgaaGreatDoor.Instr
open Go.RowKit

theorem held_out2 {w w1 : World} {p q : Addr} {x y : Value} (h : Below w.heap.size w w1 ∧ w1.cell? p = some x ∧ w1.cell? q = some y) : Below w.heap.size w w1 := h.1
theorem held_keep2 {w w1 w2 : World} {p q : Addr} {x y : Value} (h : Below w.heap.size w w1 ∧ w1.cell? p = some x ∧ w1.cell? q = some y) (hb : Below w1.heap.size w1 w2) :
    Below w.heap.size w w2 ∧ w2.cell? p = some x ∧ w2.cell? q = some y := ⟨thenB h.1 hb, keep hb h.2.1, keep hb h.2.2⟩

set_option maxHeartbeats 1600000 in
theorem refCount_any : ∀ (m : Nat) (t : Il) (a : Option Addr) (len c : Nat) (w : World), t.count ≤ m → ListAt w.heap.size w a len t → len ≤ 140737488351232 → t.count ≤ 4611686018427387900 →
    Calls Tryz.prog 83 #[.slice a len c] w fun e w' => e = .returned (.int .i64 t.count) ∧ Below w.heap.size w w' := by
  intro m
  induction m with
  | zero =>
    intro t a len c w hm hL hlen hbig
    cases t with
    | cons x l e r => simp only [Il.count] at hm; omega
    | nil =>
      have h0 : len = 0 := hL.1.symm
      subst h0
      clear hm hL hlen hbig
      go_enter Tryz.func83, Tryz.ntmps83
      go_wp2
      go_loopw [3, 4] (fun sn si wr => sn = .int .i64 0 ∧ si = .int .i64 0 ∧ wr = w) (fun _ _ _ => 0)
      case atStart => exact ⟨rfl, rfl, rfl⟩
      case round =>
        obtain ⟨rfl, rfl, rfl⟩ := hrel
        go_wp2
        go_ret
        exact ⟨rfl, Below.refl _ _⟩
  | succ m ih =>
    intro t a len c w hm hL hlen hbig
    obtain ⟨hL1, hL2⟩ := hL
    rcases hL2 with rfl | ⟨b, off, rfl, hi⟩
    · have h0 : len = 0 := hL1.symm
      subst h0
      clear ih hm hL1 hlen hbig
      go_enter Tryz.func83, Tryz.ntmps83
      go_wp2
      go_loopw [3, 4] (fun sn si wr => sn = .int .i64 0 ∧ si = .int .i64 0 ∧ wr = w) (fun _ _ _ => 0)
      case atStart => exact ⟨rfl, rfl, rfl⟩
      case round =>
        obtain ⟨rfl, rfl, rfl⟩ := hrel
        go_wp2
        go_ret
        exact ⟨rfl, Below.refl _ _⟩
    · have HM := hid hm
      have HB := hid hbig
      have HL1 := hid hL1
      have HI := hid hi
      clear hm hbig hL1 hi
      go_enter Tryz.func83, Tryz.ntmps83
      go_wp2
      go_loopw [3, 4] (fun sn si wr => ∃ (k : Nat) (n : Int) (rest : Il), si = .int .i64 k ∧ sn = .int .i64 n ∧ k ≤ len ∧ 0 ≤ n ∧ n ≤ 4611686018427387900 ∧ Hid (k + rest.len = len ∧ rest.count ≤ t.count ∧ n + (rest.count - rest.len : Int) = t.count) ∧ Hid (Items w.heap.size w b (off + k * 8) rest) ∧ Below w.heap.size w wr)
        (fun _ si _ => len - (intOf si).toNat)
      case atStart => exact ⟨0, len, t, rfl, rfl, Nat.zero_le _, by omega, by omega, ⟨by have := HL1.out; omega, Nat.le_refl _, by have := HL1.out; omega⟩, by simpa using HI, Below.refl _ _⟩
      case round =>
        obtain ⟨k, n, rest, rfl, rfl, hk, hn0, hn1, HR, HIR, hb⟩ := hrel
        cases rest with
        | nil =>
          obtain ⟨r1, _, r3⟩ := HR.out
          have hkl : k = len := by simpa [Il.len] using r1
          subst hkl
          have R3 : Hid (n = t.count) := by show _ = _; simp only [Il.count, Il.len] at r3; omega
          clear r3
          go_wp2
          go_ret
          exact ⟨ret_int R3.out, hb⟩
        | cons x tl te r =>
          have hir := Items.below hb HIR.out
          obtain ⟨hbn, hx, ⟨c0, c1, c2, c3, c4, c5, c6, c7⟩, _⟩ := hir
          have hir0 := HIR.out
          obtain ⟨_, _, _, ht, hLl, hLe, hir'⟩ := hir0
          have hlt : k < len := by have := HR.out.1; simp only [Il.len] at this; omega
          have hLn := hx.ln
          have hEn := hx.en
          have hcnt : tl.count + te.count + 1 ≤ m + 1 ∧ tl.count ≤ 4611686018427387900 ∧ te.count ≤ 4611686018427387900 := by
            have h1 := HR.out.2.1
            have h2 := HM.out
            have h3 := HB.out
            simp only [Il.count] at h1
            omega
          obtain ⟨k1, k2, k3⟩ := hcnt
          have N2 := fun w' (hb' : Below w.heap.size w w') => ih tl x.la x.ln x.lc w' (by omega) (ListAt.on hLl hb') hLn k2
          have N3 := fun w' (hb' : Below w.heap.size w w') => ih te x.ea x.en x.ec w' (by omega) (ListAt.on hLe hb') hEn k3
          have hq : n + tl.count + te.count ≤ 4611686018427387900 := by
            have h1 := HR.out.2.2
            have h2 := HB.out
            have h3 := len_le_count r
            simp only [Il.count, Il.len] at h1
            omega
          obtain ⟨q2, hq2⟩ : ∃ q : Int, (tl.count : Int) = q := ⟨_, rfl⟩
          obtain ⟨q3, hq3⟩ : ∃ q : Int, (te.count : Int) = q := ⟨_, rfl⟩
          have y1 : 0 ≤ q2 := by omega
          have y2 : 0 ≤ q3 := by omega
          rw [hq2, hq3] at hq
          simp only [hq2, hq3] at N2 N3
          have Q2 := hid hq2
          have Q3 := hid hq3
          have H2 := hid N2
          have H3 := hid N3
          have hv1 : IntKind.i64.wrap (n + q2) = n + q2 := by rw [IntKind.wrap_i64]; omega
          have hv2 : IntKind.i64.wrap (n + q2 + q3) = n + q2 + q3 := by rw [IntKind.wrap_i64]; omega
          clear N2 N3 hq2 hq3 ih k1 k2 k3 hLl hLe
          have hS0 : Below w.heap.size w wr.drew ∧ wr.drew.cell? ⟨b, off + k * 8 + 6, none⟩ = some (.slice x.la x.ln x.lc) ∧ wr.drew.cell? ⟨b, off + k * 8 + 7, none⟩ = some (.slice x.ea x.en x.ec) := ⟨hb.drew, c6, c7⟩
          go_wp2
          (first
            | go_loud (go_region_held3 (fun w' => Below w.heap.size w w' ∧ w'.cell? ⟨b, off + k * 8 + 6, none⟩ = some (.slice x.la x.ln x.lc) ∧ w'.cell? ⟨b, off + k * 8 + 7, none⟩ = some (.slice x.ea x.en x.ec))
                (first | assumption | exact held_keep2 (by assumption) (by assumption))
                (first
                  | (go_at_call 83; (with_reducible refine (H2.out _ (held_out2 (by assumption))).mono ?_); rintro e w7 ⟨rfl, hb7⟩)
                  | (go_at_call 83; (with_reducible refine (H3.out _ (held_out2 (by assumption))).mono ?_); rintro e w8 ⟨rfl, hb8⟩)))
            | fail)
          go_wp2
          have hbE := held_out2 (by assumption)
          have g2 := Q2.out
          have g3 := Q3.out
          refine ⟨⟨k + 1, n + q2 + q3, r, by simp, rfl, by omega, by omega, by omega, ⟨by have := HR.out.1; simp only [Il.len] at this; omega, by have := HR.out.2.1; simp only [Il.count] at this; omega, ?_⟩, by rw [show off + (k + 1) * 8 = off + k * 8 + 8 by omega]; exact hir', hbE⟩, by simp [intOf]; omega⟩
          have h1 := HR.out.2.2
          simp only [Il.count, Il.len] at h1
          omega

set_option maxHeartbeats 1600000 in
theorem refDeep_any : ∀ (m : Nat) (t : Il) (a : Option Addr) (len c : Nat) (w : World), t.count ≤ m → ListAt w.heap.size w a len t → len ≤ 140737488351232 → t.count ≤ 4611686018427387900 →
    Calls Tryz.prog 217 #[.slice a len c] w fun e w' => e = .returned (.int .i64 t.deep) ∧ Below w.heap.size w w' := by
  intro m
  induction m with
  | zero =>
    intro t a len c w hm hL hlen hbig
    cases t with
    | cons x l e r => simp only [Il.count] at hm; omega
    | nil =>
      have h0 : len = 0 := hL.1.symm
      subst h0
      clear hm hL hlen hbig
      go_enter Tryz.func217, Tryz.ntmps217
      go_wp2
      go_loopw [3, 4] (fun sn si wr => sn = .int .i64 0 ∧ si = .int .i64 0 ∧ wr = w) (fun _ _ _ => 0)
      case atStart => exact ⟨rfl, rfl, rfl⟩
      case round =>
        obtain ⟨rfl, rfl, rfl⟩ := hrel
        go_wp2
        go_ret
        exact ⟨rfl, Below.refl _ _⟩
  | succ m ih =>
    intro t a len c w hm hL hlen hbig
    obtain ⟨hL1, hL2⟩ := hL
    rcases hL2 with rfl | ⟨b, off, rfl, hi⟩
    · have h0 : len = 0 := hL1.symm
      subst h0
      clear ih hm hL1 hlen hbig
      go_enter Tryz.func217, Tryz.ntmps217
      go_wp2
      go_loopw [3, 4] (fun sn si wr => sn = .int .i64 0 ∧ si = .int .i64 0 ∧ wr = w) (fun _ _ _ => 0)
      case atStart => exact ⟨rfl, rfl, rfl⟩
      case round =>
        obtain ⟨rfl, rfl, rfl⟩ := hrel
        go_wp2
        go_ret
        exact ⟨rfl, Below.refl _ _⟩
    · have HM := hid hm
      have HB := hid hbig
      have HL1 := hid hL1
      have HI := hid hi
      clear hm hbig hL1 hi
      go_enter Tryz.func217, Tryz.ntmps217
      go_wp2
      go_loopw [3, 4] (fun sn si wr => ∃ (k : Nat) (n : Int) (rest : Il), si = .int .i64 k ∧ sn = .int .i64 n ∧ k ≤ len ∧ 0 ≤ n ∧ n ≤ 4611686018427387900 ∧ Hid (k + rest.len = len ∧ rest.count ≤ t.count ∧ max n rest.deep = t.deep) ∧ Hid (Items w.heap.size w b (off + k * 8) rest) ∧ Below w.heap.size w wr)
        (fun _ si _ => len - (intOf si).toNat)
      case atStart => exact ⟨0, 0, t, rfl, rfl, Nat.zero_le _, by omega, by omega, ⟨by have := HL1.out; omega, Nat.le_refl _, by omega⟩, by simpa using HI, Below.refl _ _⟩
      case round =>
        obtain ⟨k, n, rest, rfl, rfl, hk, hn0, hn1, HR, HIR, hb⟩ := hrel
        cases rest with
        | nil =>
          obtain ⟨r1, _, r3⟩ := HR.out
          have hkl : k = len := by simpa [Il.len] using r1
          subst hkl
          have R3 : Hid (n = t.deep) := by show _ = _; simp only [Il.deep] at r3; omega
          clear r3
          go_wp2
          go_ret
          exact ⟨ret_int R3.out, hb⟩
        | cons x tl te r =>
          have hir := Items.below hb HIR.out
          obtain ⟨hbn, hx, ⟨c0, c1, c2, c3, c4, c5, c6, c7⟩, _⟩ := hir
          have hir0 := HIR.out
          obtain ⟨_, _, _, ht, hLl, hLe, hir'⟩ := hir0
          have hlt : k < len := by have := HR.out.1; simp only [Il.len] at this; omega
          have hLn := hx.ln
          have hEn := hx.en
          have hcnt : tl.count + te.count + 1 ≤ m + 1 ∧ tl.count ≤ 4611686018427387900 ∧ te.count ≤ 4611686018427387900 := by
            have h1 := HR.out.2.1
            have h2 := HM.out
            have h3 := HB.out
            simp only [Il.count] at h1
            omega
          obtain ⟨k1, k2, k3⟩ := hcnt
          have N2 := fun w' (hb' : Below w.heap.size w w') => ih tl x.la x.ln x.lc w' (by omega) (ListAt.on hLl hb') hLn k2
          have N3 := fun w' (hb' : Below w.heap.size w w') => ih te x.ea x.en x.ec w' (by omega) (ListAt.on hLe hb') hEn k3
          have d2 := deep_le_count tl
          have d3 := deep_le_count te
          have hq : (tl.deep : Int) ≤ 4611686018427387899 ∧ (te.deep : Int) ≤ 4611686018427387899 := by
            have h1 := HR.out.2.1
            have h2 := HB.out
            simp only [Il.count] at h1
            omega
          obtain ⟨q2, hq2⟩ : ∃ q : Int, (tl.deep : Int) = q := ⟨_, rfl⟩
          obtain ⟨q3, hq3⟩ : ∃ q : Int, (te.deep : Int) = q := ⟨_, rfl⟩
          have y1 : 0 ≤ q2 := by omega
          have y2 : 0 ≤ q3 := by omega
          rw [hq2, hq3] at hq
          obtain ⟨y3, y4⟩ := hq
          simp only [hq2, hq3] at N2 N3
          have Q2 := hid hq2
          have Q3 := hid hq3
          have H2 := hid N2
          have H3 := hid N3
          have hv1 : IntKind.i64.wrap (1 + max q2 q3) = 1 + max q2 q3 := by rw [IntKind.wrap_i64]; omega
          clear N2 N3 hq2 hq3 ih k1 k2 k3 hLl hLe d2 d3
          have hS0 : Below w.heap.size w wr.drew ∧ wr.drew.cell? ⟨b, off + k * 8 + 6, none⟩ = some (.slice x.la x.ln x.lc) ∧ wr.drew.cell? ⟨b, off + k * 8 + 7, none⟩ = some (.slice x.ea x.en x.ec) := ⟨hb.drew, c6, c7⟩
          go_wp2
          (first
            | go_loud (go_region_held3 (fun w' => Below w.heap.size w w' ∧ w'.cell? ⟨b, off + k * 8 + 6, none⟩ = some (.slice x.la x.ln x.lc) ∧ w'.cell? ⟨b, off + k * 8 + 7, none⟩ = some (.slice x.ea x.en x.ec))
                (first | assumption | exact held_keep2 (by assumption) (by assumption))
                (first
                  | (go_at_call 217; (with_reducible refine (H2.out _ (held_out2 (by assumption))).mono ?_); rintro e w7 ⟨rfl, hb7⟩)
                  | (go_at_call 217; (with_reducible refine (H3.out _ (held_out2 (by assumption))).mono ?_); rintro e w8 ⟨rfl, hb8⟩)))
            | fail)
          go_wp2
          have hbE := held_out2 (by assumption)
          have g2 := Q2.out
          have g3 := Q3.out
          refine ⟨⟨k + 1, max n (1 + max q2 q3), r, by simp, rfl, by omega, by omega, by omega, ⟨by have := HR.out.1; simp only [Il.len] at this; omega, by have := HR.out.2.1; simp only [Il.count] at this; omega, ?_⟩, by rw [show off + (k + 1) * 8 = off + k * 8 + 8 by omega]; exact hir', hbE⟩, by simp [intOf]; omega⟩
          have h1 := HR.out.2.2
          simp only [Il.deep] at h1
          omega

set_option maxHeartbeats 1600000 in
theorem refTags_any : ∀ (m : Nat) (t : Il) (a : Option Addr) (len c : Nat) (w : World), t.count ≤ m → ListAt w.heap.size w a len t → len ≤ 140737488351232 → t.count ≤ 4611686018427387900 →
    Calls Tryz.prog 218 #[.slice a len c] w fun e w' => e = .returned (.bool t.tags) ∧ Below w.heap.size w w' := by
  intro m
  induction m with
  | zero =>
    intro t a len c w hm hL hlen hbig
    cases t with
    | cons x l e r => simp only [Il.count] at hm; omega
    | nil =>
      have h0 : len = 0 := hL.1.symm
      subst h0
      clear hm hL hlen hbig
      go_enter Tryz.func218, Tryz.ntmps218
      go_wp2
      go_loopw [3] (fun si wr => si = .int .i64 0 ∧ wr = w) (fun _ _ => 0)
      case atStart => exact ⟨rfl, rfl⟩
      case round =>
        obtain ⟨rfl, rfl⟩ := hrel
        go_wp2
        go_ret
        exact ⟨rfl, Below.refl _ _⟩
  | succ m ih =>
    intro t a len c w hm hL hlen hbig
    obtain ⟨hL1, hL2⟩ := hL
    rcases hL2 with rfl | ⟨b, off, rfl, hi⟩
    · have h0 : len = 0 := hL1.symm
      subst h0
      clear ih hm hL1 hlen hbig
      go_enter Tryz.func218, Tryz.ntmps218
      go_wp2
      go_loopw [3] (fun si wr => si = .int .i64 0 ∧ wr = w) (fun _ _ => 0)
      case atStart => exact ⟨rfl, rfl⟩
      case round =>
        obtain ⟨rfl, rfl⟩ := hrel
        go_wp2
        go_ret
        exact ⟨rfl, Below.refl _ _⟩
    · have HM := hid hm
      have HB := hid hbig
      have HL1 := hid hL1
      have HI := hid hi
      clear hm hbig hL1 hi
      go_enter Tryz.func218, Tryz.ntmps218
      go_wp2
      go_loopw [3] (fun si wr => ∃ (k : Nat) (rest : Il), si = .int .i64 k ∧ k ≤ len ∧ Hid (k + rest.len = len ∧ rest.count ≤ t.count ∧ rest.tags = t.tags) ∧ Hid (Items w.heap.size w b (off + k * 8) rest) ∧ Below w.heap.size w wr)
        (fun si _ => len - (intOf si).toNat)
      case atStart => exact ⟨0, t, rfl, Nat.zero_le _, ⟨by have := HL1.out; omega, Nat.le_refl _, rfl⟩, by simpa using HI, Below.refl _ _⟩
      case round =>
        obtain ⟨k, rest, rfl, hk, HR, HIR, hb⟩ := hrel
        cases rest with
        | nil =>
          obtain ⟨r1, _, r3⟩ := HR.out
          have hkl : k = len := by simpa [Il.len] using r1
          subst hkl
          have R3 : Hid (t.tags = false) := by show _ = _; rw [← r3]; rfl
          clear r3
          go_wp2
          go_ret
          exact ⟨ret_bool R3.out.symm, hb⟩
        | cons x tl te r =>
          have hir := Items.below hb HIR.out
          obtain ⟨hbn, hx, ⟨c0, c1, c2, c3, c4, c5, c6, c7⟩, _⟩ := hir
          have hir0 := HIR.out
          obtain ⟨_, _, _, ht, hLl, hLe, hir'⟩ := hir0
          have hlt : k < len := by have := HR.out.1; simp only [Il.len] at this; omega
          have hLn := hx.ln
          have hEn := hx.en
          have hcnt : tl.count + te.count + 1 ≤ m + 1 ∧ tl.count ≤ 4611686018427387900 ∧ te.count ≤ 4611686018427387900 := by
            have h1 := HR.out.2.1
            have h2 := HM.out
            have h3 := HB.out
            simp only [Il.count] at h1
            omega
          obtain ⟨k1, k2, k3⟩ := hcnt
          have N2 := fun w' (hb' : Below w.heap.size w w') => ih tl x.la x.ln x.lc w' (by omega) (ListAt.on hLl hb') hLn k2
          have N3 := fun w' (hb' : Below w.heap.size w w') => ih te x.ea x.en x.ec w' (by omega) (ListAt.on hLe hb') hEn k3
          have HE : Hid (t.tags = (decide (16384 < x.tags.length) || tl.tags || te.tags || r.tags)) := by show _ = _; rw [← HR.out.2.2]; rfl
          have htn := hx.tn
          have H2 := hid N2
          have H3 := hid N3
          clear N2 N3 ih k1 k2 k3 hLl hLe
          by_cases hbig : 16384 < x.tags.length
          · have R : Hid (t.tags = true) := by show _ = _; rw [HE.out]; simp [hbig]
            have hbig' : (16384 : Int) < (x.tags.length : Int) := by omega
            clear H2 H3
            go_wp2
            go_ret
            exact ⟨ret_bool R.out.symm, hb⟩
          · have hbig' : ¬ (16384 : Int) < (x.tags.length : Int) := by omega
            obtain ⟨g1, hg1⟩ : ∃ g, tl.tags = g := ⟨_, rfl⟩
            obtain ⟨g2, hg2⟩ : ∃ g, te.tags = g := ⟨_, rfl⟩
            simp only [hg1] at H2
            simp only [hg2] at H3
            have HE2 : Hid (t.tags = (g1 || g2 || r.tags)) := by show _ = _; rw [HE.out, hg1, hg2]; simp [hbig]
            clear hg1 hg2 HE
            go_wp2_with fail
            refine (H2.out _ hb).mono ?_
            clear H2
            rintro e1 w3 ⟨rfl, hb3⟩
            have hbW := thenB hb hb3
            have d6 := keep hb3 c6
            have d7 := keep hb3 c7
            cases g1
            · go_wp2_with fail
              refine (H3.out _ hbW).mono ?_
              clear H3
              rintro e1 w4 ⟨rfl, hb4⟩
              have hbX := thenB hbW hb4
              cases g2
              · go_wp2
                go_roundw
                case rel =>
                  refine ⟨k + 1, r, by simp, by omega, ⟨by have := HR.out.1; simp only [Il.len] at this; omega, by have := HR.out.2.1; simp only [Il.count] at this; omega, ?_⟩, by rw [show off + (k + 1) * 8 = off + k * 8 + 8 by omega]; exact hir', hbX⟩
                  rw [HE2.out]; rfl
                case measure => simp [intOf]; omega
              · have R : Hid (t.tags = true) := by show _ = _; rw [HE2.out]; rfl
                go_wp2
                go_ret
                exact ⟨ret_bool R.out.symm, hbX⟩
            · have R : Hid (t.tags = true) := by show _ = _; rw [HE2.out]; simp
              clear H3
              go_wp2
              go_ret
              exact ⟨ret_bool R.out.symm, hbW⟩

end Go.Proofs.YtepbjkkakfpjgaaGreatDoor.Instr

namespace Go.Proofs.YtepbjkkakfpjgaaGreatDoor.Body
open Go.RowKit Go.Proofs.YtepbjkkakfpjgaaGreatDoor.Instr

theorem rightDoc_any (x : Ix) (w : World) : Calls Tryz.prog 230 #[.agg x.vals] w fun e w' => e = .returned (.bool (lawfulP x)) ∧ Below w.heap.size w w' := by
  by_cases hn : nameL x.op = []
  · have h0 : lawfulP x = false := by
      rw [← Bool.not_eq_true]; intro h; exact ((lawful_iff x).1 h).1 hn
    rw [h0]
    exact right_none x.op x.res x.a x.b x.n x.tags.length x.ln x.en x.ta x.la x.ea x.tc x.lc x.ec w hn
  · rcases kind_cases x.op with h | h | h | h | h | h | h | h
    · exact right_0 x w hn h
    · by_cases h4 : x.op = 4
      · exact right_1a x w hn h h4
      · exact right_1b x w hn h h4
    · exact right_2 x w hn h
    · exact right_3 x w hn h
    · exact right_4 x w hn h
    · exact right_5 x w hn h
    · exact right_6 x w hn h
    · exact right_7 x w hn h
set_option maxHeartbeats 1600000 in
theorem allDoc_any : ∀ (m : Nat) (t : Il) (a : Option Addr) (len c : Nat) (w : World), t.count ≤ m → ListAt w.heap.size w a len t → len ≤ 140737488351232 → t.count ≤ 4611686018427387900 →
    Calls Tryz.prog 216 #[.slice a len c] w fun e w' => e = .returned (.bool t.all) ∧ Below w.heap.size w w' := by
  intro m
  induction m with
  | zero =>
    intro t a len c w hm hL hlen hbig
    cases t with
    | cons x l e r => simp only [Il.count] at hm; omega
    | nil =>
      have h0 : len = 0 := hL.1.symm
      subst h0
      clear hm hL hlen hbig
      go_enter Tryz.func216, Tryz.ntmps216
      go_wp2
      go_loopw [3] (fun si wr => si = .int .i64 0 ∧ wr = w) (fun _ _ => 0)
      case atStart => exact ⟨rfl, rfl⟩
      case round =>
        obtain ⟨rfl, rfl⟩ := hrel
        go_wp2
        go_ret
        exact ⟨rfl, Below.refl _ _⟩
  | succ m ih =>
    intro t a len c w hm hL hlen hbig
    obtain ⟨hL1, hL2⟩ := hL
    rcases hL2 with rfl | ⟨b, off, rfl, hi⟩
    · have h0 : len = 0 := hL1.symm
      subst h0
      clear ih hm hL1 hlen hbig
      go_enter Tryz.func216, Tryz.ntmps216
      go_wp2
      go_loopw [3] (fun si wr => si = .int .i64 0 ∧ wr = w) (fun _ _ => 0)
      case atStart => exact ⟨rfl, rfl⟩
      case round =>
        obtain ⟨rfl, rfl⟩ := hrel
        go_wp2
        go_ret
        exact ⟨rfl, Below.refl _ _⟩
    · have HM := hid hm
      have HB := hid hbig
      have HL1 := hid hL1
      have HI := hid hi
      clear hm hbig hL1 hi
      go_enter Tryz.func216, Tryz.ntmps216
      go_wp2
      go_loopw [3] (fun si wr => ∃ (k : Nat) (rest : Il), si = .int .i64 k ∧ k ≤ len ∧ Hid (k + rest.len = len ∧ rest.count ≤ t.count ∧ rest.all = t.all) ∧ Hid (Items w.heap.size w b (off + k * 8) rest) ∧ Below w.heap.size w wr)
        (fun si _ => len - (intOf si).toNat)
      case atStart => exact ⟨0, t, rfl, Nat.zero_le _, ⟨by have := HL1.out; omega, Nat.le_refl _, rfl⟩, by simpa using HI, Below.refl _ _⟩
      case round =>
        obtain ⟨k, rest, rfl, hk, HR, HIR, hb⟩ := hrel
        cases rest with
        | nil =>
          obtain ⟨r1, _, r3⟩ := HR.out
          have hkl : k = len := by simpa [Il.len] using r1
          subst hkl
          have R3 : Hid (t.all = true) := by show _ = _; rw [← r3]; rfl
          clear r3
          go_wp2
          go_ret
          exact ⟨ret_bool R3.out.symm, hb⟩
        | cons x tl te r =>
          have hir := Items.below hb HIR.out
          obtain ⟨hbn, hx, ⟨c0, c1, c2, c3, c4, c5, c6, c7⟩, _⟩ := hir
          have hir0 := HIR.out
          obtain ⟨_, _, _, ht, hLl, hLe, hir'⟩ := hir0
          have hlt : k < len := by have := HR.out.1; simp only [Il.len] at this; omega
          have hLn := hx.ln
          have hEn := hx.en
          have hcnt : tl.count + te.count + 1 ≤ m + 1 ∧ tl.count ≤ 4611686018427387900 ∧ te.count ≤ 4611686018427387900 := by
            have h1 := HR.out.2.1
            have h2 := HM.out
            have h3 := HB.out
            simp only [Il.count] at h1
            omega
          obtain ⟨k1, k2, k3⟩ := hcnt
          have N1 := fun w' => rightDoc_any x w'
          have N2 := fun w' (hb' : Below w.heap.size w w') => ih tl x.la x.ln x.lc w' (by omega) (ListAt.on hLl hb') hLn k2
          have N3 := fun w' (hb' : Below w.heap.size w w') => ih te x.ea x.en x.ec w' (by omega) (ListAt.on hLe hb') hEn k3
          have HE : Hid (t.all = (lawfulP x && tl.all && te.all && r.all)) := by show _ = _; rw [← HR.out.2.2]; rfl
          have H1 := hid N1
          have H2 := hid N2
          have H3 := hid N3
          unfold Ix.vals at H1
          clear N1 N2 N3 ih k1 k2 k3 hLl hLe
          obtain ⟨g0, hg0⟩ : ∃ g, lawfulP x = g := ⟨_, rfl⟩
          obtain ⟨g1, hg1⟩ : ∃ g, tl.all = g := ⟨_, rfl⟩
          obtain ⟨g2, hg2⟩ : ∃ g, te.all = g := ⟨_, rfl⟩
          simp only [hg0] at H1
          simp only [hg1] at H2
          simp only [hg2] at H3
          have HE2 : Hid (t.all = (g0 && g1 && g2 && r.all)) := by show _ = _; rw [HE.out, hg0, hg1, hg2]
          clear hg0 hg1 hg2 HE
          go_wp2_with fail
          refine (H1.out _).mono ?_
          clear H1
          rintro e1 w3 ⟨rfl, hb3⟩
          have hbW := thenB hb hb3
          have d6 := keep (w1 := w3) hb3 c6
          have d7 := keep (w1 := w3) hb3 c7
          cases g0
          · have R : Hid (t.all = false) := by show _ = _; rw [HE2.out]; rfl
            clear H2 H3
            go_wp2
            go_ret
            exact ⟨ret_bool R.out.symm, hbW⟩
          go_wp2_with fail
          refine (H2.out _ hbW).mono ?_
          clear H2
          rintro e1 w4 ⟨rfl, hb4⟩
          have hbX := thenB hbW hb4
          have e7 := keep (w1 := w4) hb4 d7
          cases g1
          · have R : Hid (t.all = false) := by show _ = _; rw [HE2.out]; rfl
            clear H3
            go_wp2
            go_ret
            exact ⟨ret_bool R.out.symm, hbX⟩
          go_wp2_with fail
          refine (H3.out _ hbX).mono ?_
          clear H3
          rintro e1 w5 ⟨rfl, hb5⟩
          have hbY := thenB hbX hb5
          cases g2
          · have R : Hid (t.all = false) := by show _ = _; rw [HE2.out]; rfl
            go_wp2
            go_ret
            exact ⟨ret_bool R.out.symm, hbY⟩
          go_wp2
          go_roundw
          case rel =>
            refine ⟨k + 1, r, by simp, by omega, ⟨by have := HR.out.1; simp only [Il.len] at this; omega, by have := HR.out.2.1; simp only [Il.count] at this; omega, ?_⟩, by rw [show off + (k + 1) * 8 = off + k * 8 + 8 by omega]; exact hir', hbY⟩
            rw [HE2.out]; rfl
          case measure => simp [intOf]; omega

set_option maxHeartbeats 1600000 in
theorem checkDoc_any (t : Il) (a : Option Addr) (len c : Nat) (w : World) (hL : ListAt w.heap.size w a len t) (hlen : len ≤ 140737488351232) (hbig : t.count ≤ 4611686018427387900) :
    Calls Tryz.prog 201 #[.slice a len c] w fun e w' => e = .returned (.int .i64 (checkP t)) ∧ Below w.heap.size w w' := by
  have CA := fun w' (h : ListAt w'.heap.size w' a len t) => allDoc_any t.count t a len c w' (Nat.le_refl _) h hlen hbig
  have CN := fun w' (h : ListAt w'.heap.size w' a len t) => refCount_any t.count t a len c w' (Nat.le_refl _) h hlen hbig
  have CD := fun w' (h : ListAt w'.heap.size w' a len t) => refDeep_any t.count t a len c w' (Nat.le_refl _) h hlen hbig
  have CT := fun w' (h : ListAt w'.heap.size w' a len t) => refTags_any t.count t a len c w' (Nat.le_refl _) h hlen hbig
  unfold checkP
  obtain ⟨ga, hga⟩ : ∃ g, t.all = g := ⟨_, rfl⟩
  simp only [hga] at CA ⊢
  cases ga
  · have C1 := hid CA
    clear CA CN CD CT hga hbig hlen
    rw [if_neg (by decide)]
    go_enter Tryz.func201, Tryz.ntmps201
    go_wp2_with fail
    refine (C1.out _ hL).mono ?_
    rintro e w1 ⟨rfl, hb1⟩
    go_wp2
    go_ret
    exact ⟨rfl, hb1⟩
  rw [if_pos rfl]
  obtain ⟨n, hn⟩ : ∃ n : Int, (t.count : Int) = n := ⟨_, rfl⟩
  obtain ⟨d, hd⟩ : ∃ d : Int, (t.deep : Int) = d := ⟨_, rfl⟩
  obtain ⟨g, hgt⟩ : ∃ g, t.tags = g := ⟨_, rfl⟩
  simp only [hn] at CN
  simp only [hd] at CD
  simp only [hgt] at CT
  have hR : (if 262144 < t.count ∨ 900 < t.deep ∨ t.tags = true then (141 : Int) else 0) = if 262144 < n ∨ 900 < d ∨ g = true then 141 else 0 := by
    rw [hgt, ← hn, ← hd]
    congr 1
    simp only [eq_iff_iff]
    constructor <;> (rintro (h | h | h)) <;> first | exact .inl (by omega) | exact .inr (.inl (by omega)) | exact .inr (.inr h)
  rw [hR]
  clear hR hn hd hgt hga hbig hlen
  have C1 := hid CA
  have C2 := hid CN
  have C3 := hid CD
  have C4 := hid CT
  clear CA CN CD CT
  by_cases h1 : 262144 < n
  · rw [if_pos (.inl h1)]
    go_enter Tryz.func201, Tryz.ntmps201
    go_wp2_with fail
    refine (C1.out _ hL).mono ?_
    rintro e w1 ⟨rfl, hb1⟩
    go_wp2_with fail
    refine (C2.out _ (hL.on hb1)).mono ?_
    rintro e w2 ⟨rfl, hb2⟩
    go_wp2
    go_ret
    exact ⟨rfl, thenB hb1 hb2⟩
  · have h1' : n ≤ 262144 := by omega
    by_cases h2 : 900 < d
    · rw [if_pos (.inr (.inl h2))]
      go_enter Tryz.func201, Tryz.ntmps201
      go_wp2_with fail
      refine (C1.out _ hL).mono ?_
      rintro e w1 ⟨rfl, hb1⟩
      go_wp2_with fail
      refine (C2.out _ (hL.on hb1)).mono ?_
      rintro e w2 ⟨rfl, hb2⟩
      go_wp2_with fail
      refine (C3.out _ ((hL.on hb1).on hb2)).mono ?_
      rintro e w3 ⟨rfl, hb3⟩
      go_wp2
      go_ret
      exact ⟨rfl, thenB (thenB hb1 hb2) hb3⟩
    · have h2' : d ≤ 900 := by omega
      have hR : (if 262144 < n ∨ 900 < d ∨ g = true then (141 : Int) else 0) = if g then 141 else 0 := by simp [h1, h2]
      rw [hR]
      clear hR
      cases g
      all_goals
        go_enter Tryz.func201, Tryz.ntmps201
        go_wp2_with fail
        refine (C1.out _ hL).mono ?_
        rintro e w1 ⟨rfl, hb1⟩
        go_wp2_with fail
        refine (C2.out _ (hL.on hb1)).mono ?_
        rintro e w2 ⟨rfl, hb2⟩
        go_wp2_with fail
        refine (C3.out _ ((hL.on hb1).on hb2)).mono ?_
        rintro e w3 ⟨rfl, hb3⟩
        go_wp2_with fail
        refine (C4.out _ (((hL.on hb1).on hb2).on hb3)).mono ?_
        rintro e w4 ⟨rfl, hb4⟩
        go_wp2
        go_ret
        exact ⟨rfl, thenB (thenB (thenB hb1 hb2) hb3) hb4⟩
end Go.Proofs.YtepbjkkakfpjgaaGreatDoor.Body

namespace Go.Proofs.YtepbjkkakfpjgaaGreatDoor.Utf
open Go.RowKit

theorem Rune_any (n : Int) (w : World) : Calls Tryz.prog 225 #[.int .i64 n] w fun e w' => e = .returned (.bool (decide (Rune n))) ∧ w' = w := by
  by_cases h : Rune n
  · have hd : decide (Rune n) = true := decide_eq_true h
    rw [hd]
    obtain ⟨h0, h1, h2⟩ := h
    by_cases h3 : n < 55296
    · go_enter Tryz.func225, Tryz.ntmps225
      go_wp2
      go_ret
      exact ⟨rfl, rfl⟩
    · have h4 : 57343 < n := by omega
      go_enter Tryz.func225, Tryz.ntmps225
      go_wp2
      go_ret
      exact ⟨rfl, rfl⟩
  · have hd : decide (Rune n) = false := decide_eq_false h
    rw [hd]
    unfold Rune at h
    by_cases h0 : n < 0
    · clear h hd
      go_enter Tryz.func225, Tryz.ntmps225
      go_wp2
      go_ret
      exact ⟨rfl, rfl⟩
    by_cases h1 : 1114111 < n
    · clear h hd
      go_enter Tryz.func225, Tryz.ntmps225
      go_wp2
      go_ret
      exact ⟨rfl, rfl⟩
    · have h2 : ¬ n < 55296 := by omega
      have h3 : ¬ 57343 < n := by omega
      clear h hd
      go_enter Tryz.func225, Tryz.ntmps225
      go_wp2
      go_ret
      exact ⟨rfl, rfl⟩

/-- A list written out, in new memory. -/
theorem own_made (w : World) (zs : List Int) (hl : zs.length ≤ 140737488355328) : Own w.heap.size (w.alloc (.cells (zs.map (Value.int .u8)).toArray 5)) (.slice (some ⟨w.heap.size, 0, none⟩) zs.length zs.length) zs := by
  refine ⟨by simp, .inr ⟨w.heap.size, zs.length, (zs.map (Value.int .u8)).toArray, rfl, Nat.le_refl _, ?_, Nat.le_refl _, by unfold maxLen; omega, by simp, ?_⟩⟩
  · simp [World.alloc, -World.alloc_eq]
  · rw [List.take_of_length_le (by simp)]
theorem gives_made (w : World) (zs : List Int) (n : Nat) (hn : zs.length = n) (hl : n ≤ 1000) (cs : Array Value) (hc : cs = (zs.map (Value.int .u8)).toArray) : Gives w zs (.returned (.slice (some ⟨w.heap.size, 0, none⟩) n n)) (w.alloc (.cells cs 5)) := by
  subst hn; subst hc
  exact ⟨_, rfl, own_made w zs (by omega), (Below.refl _ _).alloc (Nat.le_refl _) _⟩

theorem one_any (n : Int) (w : World) (h : Rune n) : Calls Tryz.prog 226 #[.int .i64 n] w (Gives w (oneL n)) := by
  obtain ⟨h0, h1, _⟩ := h
  have e1 : Int.tdiv n 64 = n / 64 := Int.tdiv_eq_ediv_of_nonneg h0
  have e2 : Int.tdiv n 4096 = n / 4096 := Int.tdiv_eq_ediv_of_nonneg h0
  have e3 : Int.tdiv n 262144 = n / 262144 := Int.tdiv_eq_ediv_of_nonneg h0
  have e4 : Int.tmod n 64 = n % 64 := Int.tmod_eq_emod_of_nonneg h0
  have e5 : Int.tmod (n / 64) 64 = n / 64 % 64 := Int.tmod_eq_emod_of_nonneg (by omega)
  have e6 : Int.tmod (n / 4096) 64 = n / 4096 % 64 := Int.tmod_eq_emod_of_nonneg (by omega)
  by_cases a : n < 128
  · have e : oneL n = [n] := by simp [oneL, a]
    rw [e]
    clear e
    go_enter Tryz.func226, Tryz.ntmps226
    go_wp2
    go_ret
    exact gives_made w [n] 1 rfl (by omega) _ rfl
  by_cases b : n < 2048
  · have e : oneL n = [192 + n / 64, 128 + n % 64] := by simp [oneL, a, b]
    rw [e]
    clear e
    go_enter Tryz.func226, Tryz.ntmps226
    go_wp2
    go_ret
    exact gives_made w [192 + n / 64, 128 + n % 64] 2 rfl (by omega) _ rfl
  by_cases d : n < 65536
  · have e : oneL n = [224 + n / 4096, 128 + n / 64 % 64, 128 + n % 64] := by simp [oneL, a, b, d]
    rw [e]
    clear e
    go_enter Tryz.func226, Tryz.ntmps226
    go_wp2
    go_ret
    exact gives_made w [224 + n / 4096, 128 + n / 64 % 64, 128 + n % 64] 3 rfl (by omega) _ rfl
  · have e : oneL n = [240 + n / 262144, 128 + n / 4096 % 64, 128 + n / 64 % 64, 128 + n % 64] := by simp [oneL, a, b, d]
    rw [e]
    clear e
    go_enter Tryz.func226, Tryz.ntmps226
    go_wp2
    go_ret
    exact gives_made w [240 + n / 262144, 128 + n / 4096 % 64, 128 + n / 64 % 64, 128 + n % 64] 4 rfl (by omega) _ rfl

/-- The part of a byte that goes on. -/
def tailR : List Int → Int × Bool
  | [] => (0, false)
  | c :: _ => if 128 ≤ c ∧ c < 192 then (c - 128, true) else (0, false)

set_option maxHeartbeats 800000 in
theorem tail_any (a : Option Addr) (len cap : Nat) (zs : List Int) (p : Int) (w : World) (hlen : zs.length = len) (hz : Bytes w a zs) (hp : 0 ≤ p) :
    Calls Tryz.prog 224 #[.slice a len cap, .int .i64 p] w fun e w' => e = .returned (.tuple #[.int .i64 (tailR (zs.drop p.toNat)).1, .bool (tailR (zs.drop p.toNat)).2]) ∧ Below w.heap.size w w' := by
  by_cases hl : (len : Int) ≤ p
  · have : zs.drop p.toNat = [] := List.drop_eq_nil_of_le (by omega)
    rw [this]
    clear hlen this hz
    go_enter Tryz.func224, Tryz.ntmps224
    go_wp2
    exact bodyPost_ret (v := .tuple #[.int .i64 0, .bool false]) (by simp [results, Tryz.results224, go_sem]) rfl ⟨rfl, Below.refl _ _⟩
  obtain ⟨i, rfl⟩ := Int.eq_ofNat_of_zero_le hp
  have hi : i < zs.length := by omega
  obtain ⟨b, off, rfl, hcell⟩ := hz.at (by omega)
  have hc := hcell i hi
  obtain ⟨c0, c1⟩ := hz.get hi
  rw [Int.toNat_natCast, drop_at hi]
  generalize zs.getD i 0 = c at *
  have hil : i < len := by omega
  clear hcell hlen hi hz hp
  by_cases h1 : 128 ≤ c
  · by_cases h2 : c < 192
    · have e : tailR (c :: zs.drop (i + 1)) = (c - 128, true) := if_pos ⟨h1, h2⟩
      rw [e]
      clear e
      go_enter Tryz.func224, Tryz.ntmps224
      go_wp2
      exact bodyPost_ret (v := .tuple #[.int .i64 (c - 128), .bool true]) (by simp [results, Tryz.results224, go_sem]) rfl ⟨rfl, Below.refl _ _⟩
    · have e : tailR (c :: zs.drop (i + 1)) = (0, false) := if_neg (by omega)
      rw [e]
      clear e
      go_enter Tryz.func224, Tryz.ntmps224
      go_wp2
      exact bodyPost_ret (v := .tuple #[.int .i64 0, .bool false]) (by simp [results, Tryz.results224, go_sem]) rfl ⟨rfl, Below.refl _ _⟩
  · have e : tailR (c :: zs.drop (i + 1)) = (0, false) := if_neg (by omega)
    rw [e]
    clear e
    go_enter Tryz.func224, Tryz.ntmps224
    go_wp2
    exact bodyPost_ret (v := .tuple #[.int .i64 0, .bool false]) (by simp [results, Tryz.results224, go_sem]) rfl ⟨rfl, Below.refl _ _⟩

/-- The part of a first byte, how many go on, and whether it is one. -/
def firstR (c : Int) : Int × Int × Bool := match firstL c with
  | some (n, k) => (n, k, true)
  | none => (0, 0, false)
theorem first_any (c : Int) (w : World) (c0 : 0 ≤ c) (c1 : c < 256) :
    Calls Tryz.prog 223 #[.int .u8 c] w fun e w' => e = .returned (.tuple #[.int .i64 (firstR c).1, .int .i64 (firstR c).2.1, .bool (firstR c).2.2]) ∧ w' = w := by
  by_cases h1 : c < 128
  · have e : firstR c = (c, 0, true) := by unfold firstR firstL; rw [if_pos h1]; rfl
    rw [e]; clear e
    go_enter Tryz.func223, Tryz.ntmps223
    go_wp2
    exact bodyPost_ret (v := .tuple #[.int .i64 (c), .int .i64 0, .bool true]) (by simp [results, Tryz.results223, go_sem]) rfl ⟨rfl, rfl⟩
  by_cases h2 : c < 192
  · have e : firstR c = (0, 0, false) := by unfold firstR firstL; rw [if_neg h1, if_neg (by omega), if_neg (by omega), if_neg (by omega)]
    rw [e]; clear e
    go_enter Tryz.func223, Tryz.ntmps223
    go_wp2
    exact bodyPost_ret (v := .tuple #[.int .i64 (0), .int .i64 0, .bool false]) (by simp [results, Tryz.results223, go_sem]) rfl ⟨rfl, rfl⟩
  by_cases h3 : c < 224
  · have e : firstR c = (c - 192, 1, true) := by unfold firstR firstL; rw [if_neg h1, if_pos (by omega)]; rfl
    rw [e]; clear e
    go_enter Tryz.func223, Tryz.ntmps223
    go_wp2
    exact bodyPost_ret (v := .tuple #[.int .i64 (c - 192), .int .i64 1, .bool true]) (by simp [results, Tryz.results223, go_sem]) rfl ⟨rfl, rfl⟩
  by_cases h4 : c < 240
  · have e : firstR c = (c - 224, 2, true) := by unfold firstR firstL; rw [if_neg h1, if_neg (by omega), if_pos (by omega)]; rfl
    rw [e]; clear e
    go_enter Tryz.func223, Tryz.ntmps223
    go_wp2
    exact bodyPost_ret (v := .tuple #[.int .i64 (c - 224), .int .i64 2, .bool true]) (by simp [results, Tryz.results223, go_sem]) rfl ⟨rfl, rfl⟩
  by_cases h5 : c < 248
  · have e : firstR c = (c - 240, 3, true) := by unfold firstR firstL; rw [if_neg h1, if_neg (by omega), if_neg (by omega), if_pos (by omega)]; rfl
    rw [e]; clear e
    go_enter Tryz.func223, Tryz.ntmps223
    go_wp2
    exact bodyPost_ret (v := .tuple #[.int .i64 (c - 240), .int .i64 3, .bool true]) (by simp [results, Tryz.results223, go_sem]) rfl ⟨rfl, rfl⟩
  · have e : firstR c = (0, 0, false) := by unfold firstR firstL; rw [if_neg h1, if_neg (by omega), if_neg (by omega), if_neg (by omega)]
    rw [e]; clear e
    go_enter Tryz.func223, Tryz.ntmps223
    go_wp2
    exact bodyPost_ret (v := .tuple #[.int .i64 (0), .int .i64 0, .bool false]) (by simp [results, Tryz.results223, go_sem]) rfl ⟨rfl, rfl⟩
end Go.Proofs.YtepbjkkakfpjgaaGreatDoor.Utf
