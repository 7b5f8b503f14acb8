import Derived.Test.YtepbjkkakfpjgaaGreatDoorEt15
import Derived.Test.YtepbjkkakfpjgaaGreatDoorEt04
import Derived.Test.YtepbjkkakfpjgaaGreatDoorEt09
import Derived.Test.YtepbjkkakfpjgaaGreatDoorEt08
import Derived.Test.YtepbjkkakfpjgaaGreatDoorEt01
import Derived.Test.YtepbjkkakfpjgaaGreatDoorEt14
import Derived.Test.YtepbjkkakfpjgaaGreatDoorEt05
import Derived.Test.YtepbjkkakfpjgaaGreatDoorEt06
import Derived.Laws.EntriesVeiled
import Derived.Laws.AppendOwnNone
import Derived.Deep.RegionHeld3
import Derived.RegionTactic
import Derived.ChangeAlike
import Derived.Deep.RegionWith
namespace Go.Proofs.YtepbjkkakfpjgaaGreatDoor.Enc
open Go.RowKit Go.Shelf Leb Go.Proofs.YtepbjkkakfpjgaaGreatDoor.Instr Go.Proofs.YtepbjkkakfpjgaaGreatDoor.Mod
open Go.Proofs.YtepbjkkakfpjgaaGreatDoor.Body (encL codeL)
def secF (k : Nat) : Nat := [99, 100, 101, 102, 103, 104, 105, 106, 107, 108, 109].getD k 0
theorem sec_enters (k : Nat) (hk : k < 11) : ∀ args w, (callFunc (secF k) args).run Tryz.prog w = .ok (.enter (secF k) args) w := by
 match k, hk with
 | 0, _ => exact enters_of Tryz.func99 (by kernel_rfl) rfl
 | 1, _ => exact enters_of Tryz.func100 (by kernel_rfl) rfl
 | 2, _ => exact enters_of Tryz.func101 (by kernel_rfl) rfl
 | 3, _ => exact enters_of Tryz.func102 (by kernel_rfl) rfl
 | 4, _ => exact enters_of Tryz.func103 (by kernel_rfl) rfl
 | 5, _ => exact enters_of Tryz.func104 (by kernel_rfl) rfl
 | 6, _ => exact enters_of Tryz.func105 (by kernel_rfl) rfl
 | 7, _ => exact enters_of Tryz.func106 (by kernel_rfl) rfl
 | 8, _ => exact enters_of Tryz.func107 (by kernel_rfl) rfl
 | 9, _ => exact enters_of Tryz.func108 (by kernel_rfl) rfl
 | 10, _ => exact enters_of Tryz.func109 (by kernel_rfl) rfl
structure FitAll (m : Md) (most : Int) : Prop where
 ty : FitP tyB m.ty most
 im : FitP impB m.im most
 fn : FitP fnB m.fu most
 tb : FitP tbB m.tb most
 me : FitP meB m.me most
 gl : FitP glB m.gl most
 ex : FitP exB m.ex most
 el : FitP elB m.el most
 co : FitP coB m.fu most
 da : FitP daB m.da most
theorem sec_any (k : Nat) (hk : k < 11) (w0 W : World) (m : Md) (g B : Nat) (v : Value) (most : Int) (FI : Fine w0 m) (H : Wr w0 m g B most v [] W) (hf : FitAll m most) :
  Calls Tryz.prog (secF k) #[.pointer (some ⟨g, 0, none⟩)] W (PutsC most g B v W (secB m k)) := by
 match k, hk with
 | 0, _ => have := sec_types w0 W m g B v most FI H hf.ty; simp only [secB]; exact this
 | 1, _ => have := sec_imports w0 W m g B v most FI H hf.im; simp only [secB]; exact this
 | 2, _ => have := sec_funcs w0 W m g B v most FI H hf.fn; simp only [secB]; exact this
 | 3, _ => have := sec_tables w0 W m g B v most FI H hf.tb; simp only [secB]; exact this
 | 4, _ => have := sec_memories w0 W m g B v most FI H hf.me; simp only [secB]; exact this
 | 5, _ => have := sec_globals w0 W m g B v most FI H hf.gl; simp only [secB]; exact this
 | 6, _ => have := sec_exports w0 W m g B v most FI H hf.ex; simp only [secB]; exact this
 | 7, _ => exact (sec_start w0 W m g B v most FI H).mono fun e w' h => ⟨_, cut_all _ _, h⟩
 | 8, _ => have := sec_elems w0 W m g B v most FI H hf.el; simp only [secB]; exact this
 | 9, _ => have := sec_codes w0 W m g B v most FI H hf.co; simp only [secB]; exact this
 | 10, _ => have := sec_datas w0 W m g B v most FI H hf.da; simp only [secB]; exact this
theorem secB_few {m : Md} {most : Int} {k : Nat} (h : FitAll m most) (hk : k < 11) : (secB m k).length ≤ 1000000000 := by
 have lst : ∀ {α : Type} (f : α → List Int) (l : List α), FitP f l most → (lstB f l).length ≤ 1000000000 := by
  intro α f l hf
  unfold lstB
  split
  ·simp
  ·exact hf
 match k, hk with
 | 0, _ => simp only [secB]; exact lst _ _ h.ty
 | 1, _ => simp only [secB]; exact lst _ _ h.im
 | 2, _ => simp only [secB]; exact lst _ _ h.fn
 | 3, _ => simp only [secB]; exact lst _ _ h.tb
 | 4, _ => simp only [secB]; exact lst _ _ h.me
 | 5, _ => simp only [secB]; exact lst _ _ h.gl
 | 6, _ => simp only [secB]; exact lst _ _ h.ex
 | 7, _ =>
  simp only [secB]
  split
  ·rw [encU_length]; have := (sizeU_pos m.sn).2; omega
  ·simp
 | 8, _ => simp only [secB]; exact lst _ _ h.el
 | 9, _ => simp only [secB]; exact lst _ _ h.co
 | 10, _ => simp only [secB]; exact lst _ _ h.da
theorem sec_whole (k : Nat) (hk : k < 11) (w0 W : World) (m : Md) (g B : Nat) (v : Value) (FI : Fine w0 m) (H : Wr w0 m g B 9223372036854775807 v [] W) (hf : FitAll m 9223372036854775807) :
  Calls Tryz.prog (secF k) #[.pointer (some ⟨g, 0, none⟩)] W (Puts g B v W (secB m k)) :=
 (sec_any k hk w0 W m g B v 9223372036854775807 FI H hf).mono fun e w' ⟨zs, hz, h⟩ => by
  have hl := secB_few (k := k) hf hk
  rw [hz.whole (by omega)] at h
  exact h
def secsV (g : Nat) : Array Value := #[.func (.func 99) #[.pointer (some ⟨g, 0, none⟩)] #[], .func (.func 100) #[.pointer (some ⟨g, 0, none⟩)] #[], .func (.func 101) #[.pointer (some ⟨g, 0, none⟩)] #[], .func (.func 102) #[.pointer (some ⟨g, 0, none⟩)] #[], .func (.func 103) #[.pointer (some ⟨g, 0, none⟩)] #[], .func (.func 104) #[.pointer (some ⟨g, 0, none⟩)] #[], .func (.func 105) #[.pointer (some ⟨g, 0, none⟩)] #[], .func (.func 106) #[.pointer (some ⟨g, 0, none⟩)] #[], .func (.func 107) #[.pointer (some ⟨g, 0, none⟩)] #[], .func (.func 108) #[.pointer (some ⟨g, 0, none⟩)] #[], .func (.func 109) #[.pointer (some ⟨g, 0, none⟩)] #[]]
set_option maxHeartbeats 1000000 in
theorem sections_any (g : Nat) (w : World) : Calls Tryz.prog 33 #[.pointer (some ⟨g, 0, none⟩)] w fun e w' => e = .returned (.slice (some ⟨w.heap.size, 0, none⟩) 11 11) ∧ w' = w.alloc (.cells (secsV g) 1) := by
 unfold secsV
 go_enter Tryz.func33, Tryz.ntmps33
 go_wp2
 go_ret
 exact ⟨rfl, rfl⟩
theorem secs_at (g : Nat) (w : World) (t : TypeId) (j : Nat) (hj : j < 11) : (w.alloc (.cells (secsV g) t)).cell? ⟨w.heap.size, j, none⟩ = some (.func (.func (secF j)) #[.pointer (some ⟨g, 0, none⟩)] #[]) := by
 unfold secsV
 match j, hj with
 | 0, _ | 1, _ | 2, _ | 3, _ | 4, _ | 5, _ | 6, _ | 7, _ | 8, _ | 9, _ | 10, _ => simp [go_sem, secF]
theorem Buf.past {g B g2 B2 : Nat} {v u u' : Value} {zs ys : List Int} {w w' : World} (h : Buf g B v w v zs w) (k : Buf g2 B2 u w u' ys w') (a1 : g ≠ g2) (a2 : u.ownBlock ≠ some g) (a3 : v.ownBlock ≠ some g2) (a4 : ∀ q, v.ownBlock = some q → u.ownBlock ≠ some q) : Buf g B v w' v zs w' := by
 have hg : ¬ (g = g2 ∨ u.ownBlock = some g) := by rintro (e | e); exact a1 e; exact a2 e
 refine Buf.start (k.touch.cell hg h.c) ?_ (touch_row h.own k.touch (fun q hq => ?_)) h.sep h.low (Nat.le_trans h.lowB k.touch.size)
 ·exact (World.frozen?_of_block (w := w) (k.touch.block g h.lt hg)).trans h.f
 ·rintro (e | e)
  ·exact a3 (by rw [hq, e])
  ·exact a4 q hq e
theorem Buf.far {g B : Nat} {v v' : Value} {zs : List Int} {w w' : World} (h : Buf g B v w v' zs w') {p : Addr} {x : Value} (a1 : p.block ≠ g) (a2 : v.ownBlock ≠ some p.block) (hc : w.cell? p = some x) : w'.cell? p = some x :=
 h.touch.cell (by rintro (e | e); exact a1 e; exact a2 e) hc
theorem Buf.clear {g B : Nat} {a : Option Addr} {n c : Nat} {zs : List Int} {w : World} (h : Buf g B (.slice a n c) w (.slice a n c) zs w) : Buf g B (.slice a 0 c) (w.setCell ⟨g, 0, none⟩ (.slice a 0 c)) (.slice a 0 c) [] (w.setCell ⟨g, 0, none⟩ (.slice a 0 c)) := by
 have hs : (Value.slice a 0 c).ownBlock ≠ some g := by have := h.sep; cases a <;> exact this
 refine Buf.start (World.cell?_setCell_same' _ _ _ (by rw [h.c]; rfl)) (by rw [World.frozen?_setCell]; exact h.f) ?_ hs h.low (by have := h.lowB; simpa [World.setCell] using this)
 refine touch_row ?_ ((Touch.refl (fun j => j = g) w).setCell (.inl rfl) _) (fun q hq e => hs (by rw [hq, e]))
 refine ⟨rfl, ?_⟩
 rcases h.own.2 with ⟨h0, _⟩ | ⟨q, cap, cur, hv, hq, hh, h1, h2, h3, h4⟩
 ·obtain ⟨rfl, rfl, rfl⟩ : a = none ∧ n = 0 ∧ c = 0 := by simpa using h0
  exact .inl ⟨rfl, rfl⟩
 ·obtain ⟨rfl, rfl, rfl⟩ : a = some ⟨q, 0, none⟩ ∧ n = zs.length ∧ c = cap := by simpa using hv
  exact .inr ⟨q, c, cur, rfl, hq, hh, Nat.zero_le _, h2, h3, by simp⟩
end Go.Proofs.YtepbjkkakfpjgaaGreatDoor.Enc
namespace Go.Proofs.YtepbjkkakfpjgaaGreatDoor.Enc
open Go.RowKit Go.Shelf Leb Go.Proofs.YtepbjkkakfpjgaaGreatDoor.Instr Go.Proofs.YtepbjkkakfpjgaaGreatDoor.Mod
open Go.Proofs.YtepbjkkakfpjgaaGreatDoor.Body (encL codeL PutP)
def secR (m : Md) (id : Int) : List Int × Int := if m.check ≠ 0 then ([], m.check) else if id < 1 ∨ 11 < id then ([], 5) else (secB m (id - 1).toNat, 0)
structure Ready (w : World) (m : Md) : Prop where
 nam : Nams w
 tab : Utf.Tabs w
 at_ : ModAt w.heap.size w m
 few : m.few
 siz : Sized m
 enc : ∀ l ∈ m.codes, (encL l.t).length ≤ 90000
theorem Ready.fine {w : World} {m : Md} (h : Ready w m) (hc : m.check = 0) : Fine w m := ⟨h.at_, h.few, h.nam, h.tab, hc, h.enc, h.siz⟩
theorem Ready.on {w w' : World} {m : Md} (h : Ready w m) (hb : Below w.heap.size w w') : Ready w' m := ⟨h.nam.below hb, h.tab.below hb, h.at_.on hb, h.few, h.siz, h.enc⟩
theorem putP_none {w w' : World} {er : Int} (hb : Below w.heap.size w w') : PutP w [] er (.returned (.tuple #[.slice none 0 0, .int .i64 er])) w' := ⟨_, rfl, ⟨rfl, .inl ⟨rfl, rfl⟩⟩, hb⟩
def wrV (m : Md) (most : Int) : Array Value := #[.slice none 0 0, .slice m.ty'.a m.ty.length m.ty'.c, .slice m.im'.a m.im.length m.im'.c, .slice m.fu'.a m.fu.length m.fu'.c, .slice m.tb'.a m.tb.length m.tb'.c, .slice m.me'.a m.me.length m.me'.c,
  .slice m.gl'.a m.gl.length m.gl'.c, .slice m.ex'.a m.ex.length m.ex'.c, .bool m.st, .int .u32 m.sn, .slice m.el'.a m.el.length m.el'.c, .slice m.da'.a m.da.length m.da'.c, .int .i64 most]
theorem wr_new (w0 W : World) (m : Md) (most : Int) (t : TypeId) (hB : Below w0.heap.size w0 W) (hl : w0.heap.size < W.heap.size) : Wr w0 m W.heap.size (W.heap.size + 1) most (.slice none 0 0) [] (W.alloc (.cells (wrV m most) t)) := by
 refine ⟨Buf.start (by simp [go_sem, wrV]) (by simp [go_sem]) ⟨rfl, .inl ⟨rfl, rfl⟩⟩ (by simp [Value.ownBlock]) (by omega) (by simp), hB.trans (((Below.refl W.heap.size W).alloc (Nat.le_refl _) _).mono hB.size), hl, fun j x hx => ?_, by simp [go_sem, wrV]⟩
 have hj : j < 11 := by
  rcases Nat.lt_or_ge j 11 with h | h
  ·exact h
  ·rw [Array.getElem?_eq_none (by simpa [Md.v] using h)] at hx; cases hx
 match j, hj with
 | 0, _ | 1, _ | 2, _ | 3, _ | 4, _ | 5, _ | 6, _ | 7, _ | 8, _ | 9, _ | 10, _ => simp [Md.v] at hx; simp [go_sem, wrV, hx]
theorem Wr.on {w0 W W' : World} {m : Md} {g B : Nat} {most : Int} {v : Value} {zs : List Int} (h : Wr w0 m g B most v zs W) (hb : Below W.heap.size W W') : Wr w0 m g B most v zs W' :=
 ⟨(h.buf.on hb).again, h.low.trans (hb.mono h.low.size), h.hg, fun j x hx => Go.Proofs.YtepbjkkakfpjgaaGreatDoor.keep hb (h.box j x hx), Go.Proofs.YtepbjkkakfpjgaaGreatDoor.keep hb h.most⟩
def PutF (w : World) (zs : List Int) (er : Int) (e : Ending) (w' : World) : Prop := ∃ v, e = .returned (.tuple #[v, .int .i64 er]) ∧ Own w.heap.size w' v zs ∧ Below w.heap.size w w' ∧ Full v w'
theorem putF_none {w w' : World} {er : Int} (hb : Below w.heap.size w w') : PutF w [] er (.returned (.tuple #[.slice none 0 0, .int .i64 er])) w' := ⟨_, rfl, ⟨rfl, .inl ⟨rfl, rfl⟩⟩, hb, Full.none 0 0 _⟩
set_option maxRecDepth 100000 in
set_option maxHeartbeats 4000000 in
theorem Section_full (m : Md) (id : Int) (w : World) (h : Ready w m) (hi : -9223372036854775808 ≤ id ∧ id ≤ 9223372036854775807) (ht : m.check = 0 → FitAll m 9223372036854775807) :
  Calls Tryz.prog 15 #[.agg m.v, .int .i64 id] w (PutF w (secR m id).1 (secR m id).2) := by
 have hb0 := (Below.refl w.heap.size w).alloc (Nat.le_refl _) (.cells m.v 32)
 have CK := hid (ModCheck_any m _ (h.nam.below hb0) (h.tab.below hb0) (h.at_.on hb0) h.few)
 have HB := hid hb0
 have X0 := BoxAt.made w m.v 32
 have HX := hid X0
 by_cases hc : m.check = 0
 ·rw [hc] at CK
  have FI := hid (h.fine hc)
  have FA := hid (ht hc)
  by_cases h1 : id < 1
  ·have HE : Hid (secR m id = ([], 5)) := by show _ = _; unfold secR; rw [if_neg (by simpa using hc), if_pos (.inl h1)]
   rw [HE.out]
   clear h ht hc HE FI FA hb0
   unfold Md.v at CK HB HX X0 ⊢
   obtain ⟨x0, x1, x2, x3, x4, x5, x6, x7, x8, x9, x10⟩ := Mod.cells11 X0
   clear X0
   go_enter Tryz.func15, Tryz.ntmps15
   go_wp2_with fail
   refine CK.out.mono ?_
   rintro e1 w1 ⟨rfl, hb⟩
   have HB1 := hid (HB.out.trans (hb.mono HB.out.size))
   have HX1 := hid (HX.out.keep hb)
   have SA := hid (fun g w => sections_any g w)
   clear CK hb x0 x1 x2 x3 x4 x5 x6 x7 x8 x9 x10
   obtain ⟨x0, x1, x2, x3, x4, x5, x6, x7, x8, x9, x10⟩ := Mod.cells11 HX1.out
   go_wp2_with fail
   refine (SA.out _ _).mono ?_
   rintro e2 w2 ⟨rfl, rfl⟩
   have HB2 := hid (thenA (thenA HB1.out (.cells (wrV m 9223372036854775807) 79)) (.cells (secsV (w1.heap.size)) 1))
   unfold wrV at HB2
   go_wp2
   exact bodyPost_ret (v := .tuple #[.slice none 0 0, .int .i64 5]) (by simp [results, Tryz.results15, go_sem]) rfl (putF_none HB2.out)
  ·by_cases h2 : 11 < id
   ·have HE : Hid (secR m id = ([], 5)) := by show _ = _; unfold secR; rw [if_neg (by simpa using hc), if_pos (.inr h2)]
    rw [HE.out]
    clear h ht hc HE FI FA hb0
    unfold Md.v at CK HB HX X0 ⊢
    obtain ⟨x0, x1, x2, x3, x4, x5, x6, x7, x8, x9, x10⟩ := Mod.cells11 X0
    clear X0
    go_enter Tryz.func15, Tryz.ntmps15
    go_wp2_with fail
    refine CK.out.mono ?_
    rintro e1 w1 ⟨rfl, hb⟩
    have HB1 := hid (HB.out.trans (hb.mono HB.out.size))
    have HX1 := hid (HX.out.keep hb)
    have SA := hid (fun g w => sections_any g w)
    clear CK hb x0 x1 x2 x3 x4 x5 x6 x7 x8 x9 x10
    obtain ⟨x0, x1, x2, x3, x4, x5, x6, x7, x8, x9, x10⟩ := Mod.cells11 HX1.out
    go_wp2_with fail
    refine (SA.out _ _).mono ?_
    rintro e2 w2 ⟨rfl, rfl⟩
    have HB2 := hid (thenA (thenA HB1.out (.cells (wrV m 9223372036854775807) 79)) (.cells (secsV (w1.heap.size)) 1))
    unfold wrV at HB2
    go_wp2
    exact bodyPost_ret (v := .tuple #[.slice none 0 0, .int .i64 5]) (by simp [results, Tryz.results15, go_sem]) rfl (putF_none HB2.out)
   ·obtain ⟨k, hk, rfl⟩ : ∃ k : Nat, k < 11 ∧ id = (k : Int) + 1 := ⟨(id - 1).toNat, by omega, by omega⟩
    have HE : Hid (secR m ((k : Int) + 1) = (secB m k, 0)) := by show _ = _; unfold secR; rw [if_neg (by simpa using hc), if_neg (by omega)]; simp
    rw [HE.out]
    have HW := hid (fun (W : World) (hb : Below w.heap.size w W) (hl : w.heap.size < W.heap.size) => wr_new w W m 9223372036854775807 79 hb hl)
    have HLT := hid (show w.heap.size < (w.alloc (.cells m.v 32)).heap.size by simp)
    have SK := hid (fun (W : World) (g B : Nat) (v : Value) (H : Wr w m g B 9223372036854775807 v [] W) => sec_whole k hk w W m g B v FI.out H FA.out)
    have eg := sec_enters k hk
    have hki : (k : Int) < 11 := by omega
    have HAT := hid (fun g w t => secs_at g w t k hk)
    clear h ht hc HE FI FA hb0 hi h1 h2
    obtain ⟨G, hG⟩ : ∃ G, secF k = G := ⟨_, rfl⟩
    rw [hG] at SK eg HAT
    clear hG
    unfold Md.v at CK HB HX X0 ⊢
    obtain ⟨x0, x1, x2, x3, x4, x5, x6, x7, x8, x9, x10⟩ := Mod.cells11 X0
    clear X0
    go_enter Tryz.func15, Tryz.ntmps15
    go_wp2_with fail
    refine CK.out.mono ?_
    rintro e1 w1 ⟨rfl, hb⟩
    have HB1 := hid (HB.out.trans (hb.mono HB.out.size))
    have HX1 := hid (HX.out.keep hb)
    have SA := hid (fun g w => sections_any g w)
    have HW1 := hid (HW.out w1 HB1.out (Nat.lt_of_lt_of_le (by simp) hb.size))
    unfold wrV at HW1
    clear CK hb HW x0 x1 x2 x3 x4 x5 x6 x7 x8 x9 x10
    obtain ⟨x0, x1, x2, x3, x4, x5, x6, x7, x8, x9, x10⟩ := Mod.cells11 HX1.out
    go_wp2_with fail
    refine (SA.out _ _).mono ?_
    rintro e2 w2 ⟨rfl, rfl⟩
    have c := HAT.out w1.heap.size (w1.alloc (.cells (wrV m 9223372036854775807) 79)) 1
    unfold wrV at c
    simp only [World.size_alloc] at c
    have HW2 := hid (HW1.out.on ((Below.refl _ _).alloc (Nat.le_refl _) (.cells (secsV w1.heap.size) 1)))
    have CS := hid (SK.out _ _ _ _ HW2.out)
    clear HW1 SK HAT SA x0 x1 x2 x3 x4 x5 x6 x7 x8 x9 x10
    go_wp2_with fail
    refine CS.out.mono ?_
    rintro e3 w3 ⟨rfl, v3, hb3⟩
    have HOW := hid (hb3.own.mono (base' := w.heap.size) (by have := HB1.out.size; omega))
    have HZ := hid (hb3.deep HW2.out.buf.own HW2.out.low HW2.out.hg)
    have HFU := hid (hb3.full (Full.none 0 0 _))
    have d := hb3.c
    clear CS hb3 HW2 c
    go_wp2
    exact bodyPost_ret (v := .tuple #[v3, .int .i64 0]) (by simp [results, Tryz.results15, go_sem]) rfl ⟨v3, rfl, HOW.out, HZ.out, HFU.out⟩
 ·have HE : Hid (secR m id = ([], m.check)) := by show _ = _; unfold secR; rw [if_pos hc]
  rw [HE.out]
  obtain ⟨q, hq⟩ : ∃ q, m.check = q := ⟨_, rfl⟩
  rw [hq] at CK hc ⊢
  have hq1 : (q == 0) = false := by simpa using hc
  have hq2 : (q != 0) = true := by simpa using hc
  clear h ht HE hb0 hq
  unfold Md.v at CK HB HX X0 ⊢
  obtain ⟨x0, x1, x2, x3, x4, x5, x6, x7, x8, x9, x10⟩ := Mod.cells11 X0
  clear X0
  go_enter Tryz.func15, Tryz.ntmps15
  go_wp2_with fail
  refine CK.out.mono ?_
  rintro e1 w1 ⟨rfl, hb⟩
  have HB1 := hid (HB.out.trans (hb.mono HB.out.size))
  clear CK hb x0 x1 x2 x3 x4 x5 x6 x7 x8 x9 x10
  go_wp2
  exact bodyPost_ret (v := .tuple #[.slice none 0 0, .int .i64 q]) (by simp [results, Tryz.results15, go_sem]) rfl (putF_none HB1.out)
end Go.Proofs.YtepbjkkakfpjgaaGreatDoor.Enc
namespace Go.Proofs.YtepbjkkakfpjgaaGreatDoor.Body
set_option linter.unusedVariables false
open Go.RowKit Go.Proofs.YtepbjkkakfpjgaaGreatDoor.Instr Leb
theorem at_belowB {B : Nat} {w w' : World} {g : Nat} {x : Ix} (h : At x g w) (hb : Below B w w') (hg : g < B) : At x g w' :=
 ⟨(hb.cell hg).trans h.c0, (hb.cell hg).trans h.c1, (hb.cell hg).trans h.c2, (hb.cell hg).trans h.c3, (hb.cell hg).trans h.c4, (hb.cell hg).trans h.c5, (hb.cell hg).trans h.c6, (hb.cell hg).trans h.c7⟩
structure OW (w : World) (x : Ix) (v : Value) (zs : List Int) (N : Nat) (W : World) : Prop where
 own : Own (w.heap.size + 1) W v zs
 bel : Below (w.heap.size + 1) (w.alloc (.cells x.vals 126)) W
 few : zs.length ≤ N
section
variable {w W W' : World} {x : Ix} {v : Value} {zs : List Int} {N : Nat}
theorem OW.size (O : OW w x v zs N W) : w.heap.size + 1 ≤ W.heap.size := by have := O.bel.size; simpa using this
theorem OW.box (O : OW w x v zs N W) : At x w.heap.size W := at_belowB (At.made x w) O.bel (Nat.lt_succ_self _)
theorem OW.on (O : OW w x v zs N W) (hb : Below W.heap.size W W') : OW w x v zs N W' := ⟨O.own.below hb, O.bel.trans (hb.mono O.size), O.few⟩
theorem OW.all (O : OW w x v zs N W) : Below w.heap.size w W := ((Below.refl w.heap.size w).alloc (Nat.le_refl _) _).trans (O.bel.mono (Nat.le_succ _))
theorem OW.gives (O : OW w x v zs N W) : Gives w zs (.returned v) W := ⟨v, rfl, O.own.mono (Nat.le_succ _), O.all⟩
theorem OW.gives' {ys : List Int} (O : OW w x v zs N W) (h : zs = ys) : Gives w ys (.returned v) W := by subst h; exact O.gives
theorem OW.mkN {v' : Value} {ys : List Int} {M : Nat} (O : OW w x v zs N W) (h1 : Own (w.heap.size + 1) W' v' (zs ++ ys)) (h2 : Below (w.heap.size + 1) (w.alloc (.cells x.vals 126)) W') (hm : ys.length ≤ M) : ∃ n q k y, y = zs ++ ys ∧ y.length = n ∧ v' = .slice q n k ∧ Hid (OW w x v' y (N + M) W') := by
 obtain ⟨q, k, hv⟩ := h1.slice
 exact ⟨_, q, k, _, rfl, rfl, hv, ⟨h1, h2, by rw [List.length_append]; have := O.few; omega⟩⟩
end
theorem own_op (w : World) (x : Ix) (z : Int) : OW w x (.slice (some ⟨w.heap.size + 1, 0, none⟩) 1 1) [z] 1 ((w.alloc (.cells x.vals 126)).alloc (.cells #[.int .u8 z] 5)) := by
 have h := World.ownsRow_lit (base := w.heap.size + 1) (e := 5) (size := 1) (w.alloc (.cells x.vals 126)) #[.int .u8 z] 1 (by simp) (by decide) rfl
 rw [show (w.alloc (.cells x.vals 126)).heap.size = w.heap.size + 1 by simp] at h
 exact ⟨h, (Below.refl _ _).alloc (by simp) _, Nat.le_refl _⟩
theorem type_cell (W : World) (res : Int) (h : res = 0 ∨ res = 1) : (W.alloc (.cells #[.int .u8 64, .int .u8 127] 5)).cell? ⟨W.heap.size, res.toNat, none⟩ = some (.int .u8 (if res = 0 then 64 else 127)) := by
 rcases h with rfl | rfl <;> simp
def PutH (m : Nat) : Prop := ∀ (t : Il) (a : Option Addr) (n c : Nat) (w : World), t.count < m → ListAt w.heap.size w a n t → MayT t → (encL t).length ≤ 90000 → Calls Tryz.prog 202 #[.slice a n c] w (Gives w (encL t))
set_option maxRecDepth 100000 in
set_option maxHeartbeats 6400000 in
theorem enc0 (x : Ix) (l e : Il) (m : Nat) (w : World) (hx : May x) (hk : kindP x.op = 0) (ht : TagsAt w.heap.size w x.ta x.tags) (hl : ListAt w.heap.size w x.la x.ln l) (he : ListAt w.heap.size w x.ea x.en e) (hml : MayT l) (hme : MayT e)
  (hcl : l.count < m) (hce : e.count < m) (hfl : (encL l).length ≤ 90000) (hfe : (encL e).length ≤ 90000) (LH : PutH m) :
  Calls Tryz.prog 219 #[.agg x.vals] w (Gives w (encOne x l e)) := by
 obtain ⟨op, res, a, b, n, tags, ta, tc, la, ln, lc, ea, en, ec⟩ := x
 have hnm := ((lawful_iff _).1 hx.law).1
 have hrs := ((lawful_iff _).1 hx.law).2.1
 obtain ⟨ha, hb, hn, htg, hfw⟩ : (0 ≤ a ∧ a < 4294967296) ∧ (0 ≤ b ∧ b < 4294967296) ∧ (-2147483648 ≤ n ∧ n < 2147483648) ∧ (∀ z ∈ tags, 0 ≤ z ∧ z < 4294967296) ∧ tags.length ≤ 16384 := ⟨hx.a, hx.b, hx.n, hx.tags, hx.few⟩
 have hrg := name_range hnm
 dsimp only at hk ht hl he hrg hrs
 obtain ⟨o0, o1, -, -⟩ := hrg
 have hL : listsP op = false := by rw [lists_kind, hk]; rfl
 have hW : whichP op = false := by rw [which_kind, hk]; rfl
 have hS : storedP op = false := by rw [stored_kind, hk]; rfl
 have n17 : ¬ op = 17 := by rintro rfl; revert hk; decide
 have n14 : ¬ op = 14 := by rintro rfl; revert hk; decide
 have n65 : ¬ op = 65 := by rintro rfl; revert hk; decide
 have n63 : ¬ op = 63 := by rintro rfl; revert hk; decide
 have n64 : ¬ op = 64 := by rintro rfl; revert hk; decide
 have m63 : (op == 63) = false := by simp [n63]
 have m64 : (op == 64) = false := by simp [n64]
 have FA := hid (fun W => refAlign_any (op) W)
 have FL := hid (fun W => refLists_any (op) W)
 have FW := hid (fun W => refWhich_any (op) W)
 rw [hS] at FA
 rw [hL] at FL
 rw [hW] at FW
 obtain ⟨al, hal⟩ : ∃ al, alignP (op) = al := ⟨_, rfl⟩
 rw [hal] at FA
 have O0 := hid (own_op w ⟨op, res, a, b, n, tags, ta, tc, la, ln, lc, ea, en, ec⟩ (op))
 have hE : encOne (⟨op, res, a, b, n, tags, ta, tc, la, ln, lc, ea, en, ec⟩ : Ix) l e = [op] := by unfold encOne; rw [encRest0 hk, if_neg (by dsimp only; rw [hk]; decide)]; simp
 rw [hE]
 have u8o : IntKind.u8.wrap (op) = op := by rw [IntKind.wrap_u8]; omega
 clear hnm hL hW hS hal LH hcl hce hfl hfe hl he hml hme ht hx hk hrs hE
 simp only [Ix.vals]
 go_enter Tryz.func219, Tryz.ntmps219
 go_wp2_with (first | (go_at_call 231; refine (FA.out _).mono ?_; rintro e0 w0 ⟨rfl, rfl⟩) | (go_at_call 232; refine (FL.out _).mono ?_; rintro e0 w0 ⟨rfl, rfl⟩) | (go_at_call 233; refine (FW.out _).mono ?_; rintro e0 w0 ⟨rfl, rfl⟩))
 go_ret
 exact O0.out.gives' (ys := [op]) (by simp [*])
set_option maxRecDepth 100000 in
set_option maxHeartbeats 6400000 in
theorem enc1 (x : Ix) (l e : Il) (m : Nat) (w : World) (hx : May x) (hk : kindP x.op = 1) (ht : TagsAt w.heap.size w x.ta x.tags) (hl : ListAt w.heap.size w x.la x.ln l) (he : ListAt w.heap.size w x.ea x.en e) (hml : MayT l) (hme : MayT e)
  (hcl : l.count < m) (hce : e.count < m) (hfl : (encL l).length ≤ 90000) (hfe : (encL e).length ≤ 90000) (LH : PutH m) :
  Calls Tryz.prog 219 #[.agg x.vals] w (Gives w (encOne x l e)) := by
 obtain ⟨op, res, a, b, n, tags, ta, tc, la, ln, lc, ea, en, ec⟩ := x
 have hnm := ((lawful_iff _).1 hx.law).1
 have hrs := ((lawful_iff _).1 hx.law).2.1
 obtain ⟨ha, hb, hn, htg, hfw⟩ : (0 ≤ a ∧ a < 4294967296) ∧ (0 ≤ b ∧ b < 4294967296) ∧ (-2147483648 ≤ n ∧ n < 2147483648) ∧ (∀ z ∈ tags, 0 ≤ z ∧ z < 4294967296) ∧ tags.length ≤ 16384 := ⟨hx.a, hx.b, hx.n, hx.tags, hx.few⟩
 have hrg := name_range hnm
 dsimp only at hk ht hl he hrg hrs
 obtain ⟨o0, o1, -, -⟩ := hrg
 have hL : listsP op = true := by rw [lists_kind, hk]; rfl
 have hW : whichP op = false := by rw [which_kind, hk]; rfl
 have hS : storedP op = false := by rw [stored_kind, hk]; rfl
 have n17 : ¬ op = 17 := by rintro rfl; revert hk; decide
 have n14 : ¬ op = 14 := by rintro rfl; revert hk; decide
 have n65 : ¬ op = 65 := by rintro rfl; revert hk; decide
 have n63 : ¬ op = 63 := by rintro rfl; revert hk; decide
 have n64 : ¬ op = 64 := by rintro rfl; revert hk; decide
 have m63 : (op == 63) = false := by simp [n63]
 have m64 : (op == 64) = false := by simp [n64]
 have FA := hid (fun W => refAlign_any (op) W)
 have FL := hid (fun W => refLists_any (op) W)
 have FW := hid (fun W => refWhich_any (op) W)
 rw [hS] at FA
 rw [hL] at FL
 rw [hW] at FW
 obtain ⟨al, hal⟩ : ∃ al, alignP (op) = al := ⟨_, rfl⟩
 rw [hal] at FA
 have O0 := hid (own_op w ⟨op, res, a, b, n, tags, ta, tc, la, ln, lc, ea, en, ec⟩ (op))
 have u8o : IntKind.u8.wrap (op) = op := by rw [IntKind.wrap_u8]; omega
 obtain ⟨rr, hrr⟩ : ∃ r, (if res = 0 then (64 : Int) else 127) = r := ⟨_, rfl⟩
 have PL := hid (fun W (hb : Below w.heap.size w W) => LH l la ln lc W hcl (hl.on hb) hml hfl)
 have PE := hid (fun W (hb : Below w.heap.size w W) => LH e ea en ec W hce (he.on hb) hme hfe)
 have BL := hid (encL_bytesC l hml)
 have BE := hid (encL_bytesC e hme)
 have hE : encOne ⟨op, res, a, b, n, tags, ta, tc, la, ln, lc, ea, en, ec⟩ l e = op :: (rr :: (encL l ++ ((if en = 0 then [] else 5 :: encL e) ++ [11]))) := by unfold encOne; rw [encRest1 hk]; dsimp only; rw [hrr, if_pos hk]; rfl
 rw [hE]
 clear hE
 obtain ⟨zl, hzl⟩ : ∃ z, encL l = z := ⟨_, rfl⟩
 obtain ⟨ze, hze⟩ : ∃ z, encL e = z := ⟨_, rfl⟩
 rw [hzl] at PL BL hfl ⊢
 rw [hze] at PE BE hfe ⊢
 have LL := hid hfl
 have LE := hid hfe
 clear hnm hL hW hS hal LH hcl hce hfl hfe hl he hml hme ht hx hk hzl hze
 simp only [Ix.vals]
 go_enter Tryz.func219, Tryz.ntmps219
 by_cases hen : en = 0
 ·subst hen
  rw [if_pos rfl]
  go_wp2_with (first | (go_at_call 231; refine (FA.out _).mono ?_; rintro e0 wA ⟨rfl, hwA⟩; have OA := hid (hwA ▸ O0.out); clear hwA; obtain ⟨c0, c1, c2, c3, c4, c5, c6, c7⟩ := OA.out.box; dsimp only at c0 c1 c2 c3 c4 c5 c6 c7; have hsA : w.heap.size < wA.heap.size := OA.out.size; have dB := hid (OA.out.on (alloc_below' wA (.cells #[.int .u8 64, .int .u8 127] 5))); obtain ⟨d0, d1, d2, d3, d4, d5, d6, d7⟩ := dB.out.box; dsimp only at d0 d1 d2 d3 d4 d5 d6 d7; have dR := type_cell wA res hrs; rw [hrr] at dR) | (go_at_call 232; refine (FL.out _).mono ?_; rintro e0 w0 ⟨rfl, rfl⟩) | (go_at_call 233; refine (FW.out _).mono ?_; rintro e0 w0 ⟨rfl, rfl⟩) | (at_builtin; refine append_byte rfl _ _ rfl (rr) rfl dB.out.own dB.out.bel dB.out.size ?_ (by have := dB.out.few; omega) ?_; (show Value.slice (some ⟨wA.heap.size + 1, 0, none⟩) 1 1 = _; simp); intro v9 z9 ho hb hs; obtain ⟨nbO1, qbO1, kbO1, ybO1, hybO1, hnbO1, rfl, O1⟩ := dB.out.mkN (ys := [rr]) (M := 1) ho hb (by simp); clear ho hb hs; clear c0 c1 c2 c3 c4 c5 c6 c7; obtain ⟨c0, c1, c2, c3, c4, c5, c6, c7⟩ := O1.out.box; dsimp only at c0 c1 c2 c3 c4 c5 c6 c7))
  refine (PL.out _ O1.out.all).mono ?_
  rintro e1 w1 ⟨r1, rfl, ro1, rb1⟩
  obtain ⟨q1, k1, rfl⟩ := ro1.slice
  have RN1 := ro1.nil
  have RY1 := hid (ro1.bytes BL.out (by have := LL.out; omega))
  have Q1 := hid (O1.out.on rb1)
  obtain ⟨c0, c1, c2, c3, c4, c5, c6, c7⟩ := Q1.out.box
  dsimp only at c0 c1 c2 c3 c4 c5 c6 c7
  clear ro1 rb1
  go_wp2_with (first | (at_builtin; refine append_bytes rfl _ _ rfl rfl Q1.out.own Q1.out.bel Q1.out.size q1 _ k1 rfl RN1.out rfl RY1.out (by have := Q1.out.few; have := LL.out; omega) ?_; intro v1 z1 ho hb hs; obtain ⟨nn1, qq1, kk1, yy1, hy1, hn1, rfl, O2⟩ := Q1.out.mkN ho hb LL.out; clear ho hb hs Q1 RY1 RN1 c0 c1 c2 c3 c4 c5 c6 c7; obtain ⟨c0, c1, c2, c3, c4, c5, c6, c7⟩ := O2.out.box; dsimp only at c0 c1 c2 c3 c4 c5 c6 c7) | (at_builtin; refine append_byte rfl _ _ rfl (11) rfl O2.out.own O2.out.bel O2.out.size ?_ (by have := O2.out.few; omega) ?_; rfl; intro v9 z9 ho hb hs; obtain ⟨nbO3, qbO3, kbO3, ybO3, hybO3, hnbO3, rfl, O3⟩ := O2.out.mkN (ys := [11]) (M := 1) ho hb (by simp); clear ho hb hs))
  go_wp2
  go_ret
  exact O3.out.gives' (ys := op :: (rr :: (zl ++ ([] ++ [11])))) (by simp [*])
 ·have hen1 : (0 : Int) < (en : Int) := by omega
  rw [if_neg hen]
  go_wp2_with (first | (go_at_call 231; refine (FA.out _).mono ?_; rintro e0 wA ⟨rfl, hwA⟩; have OA := hid (hwA ▸ O0.out); clear hwA; obtain ⟨c0, c1, c2, c3, c4, c5, c6, c7⟩ := OA.out.box; dsimp only at c0 c1 c2 c3 c4 c5 c6 c7; have hsA : w.heap.size < wA.heap.size := OA.out.size; have dB := hid (OA.out.on (alloc_below' wA (.cells #[.int .u8 64, .int .u8 127] 5))); obtain ⟨d0, d1, d2, d3, d4, d5, d6, d7⟩ := dB.out.box; dsimp only at d0 d1 d2 d3 d4 d5 d6 d7; have dR := type_cell wA res hrs; rw [hrr] at dR) | (go_at_call 232; refine (FL.out _).mono ?_; rintro e0 w0 ⟨rfl, rfl⟩) | (go_at_call 233; refine (FW.out _).mono ?_; rintro e0 w0 ⟨rfl, rfl⟩) | (at_builtin; refine append_byte rfl _ _ rfl (rr) rfl dB.out.own dB.out.bel dB.out.size ?_ (by have := dB.out.few; omega) ?_; (show Value.slice (some ⟨wA.heap.size + 1, 0, none⟩) 1 1 = _; simp); intro v9 z9 ho hb hs; obtain ⟨nbO1, qbO1, kbO1, ybO1, hybO1, hnbO1, rfl, O1⟩ := dB.out.mkN (ys := [rr]) (M := 1) ho hb (by simp); clear ho hb hs; clear c0 c1 c2 c3 c4 c5 c6 c7; obtain ⟨c0, c1, c2, c3, c4, c5, c6, c7⟩ := O1.out.box; dsimp only at c0 c1 c2 c3 c4 c5 c6 c7))
  refine (PL.out _ O1.out.all).mono ?_
  rintro e1 w1 ⟨r1, rfl, ro1, rb1⟩
  obtain ⟨q1, k1, rfl⟩ := ro1.slice
  have RN1 := ro1.nil
  have RY1 := hid (ro1.bytes BL.out (by have := LL.out; omega))
  have Q1 := hid (O1.out.on rb1)
  obtain ⟨c0, c1, c2, c3, c4, c5, c6, c7⟩ := Q1.out.box
  dsimp only at c0 c1 c2 c3 c4 c5 c6 c7
  clear ro1 rb1
  go_wp2_with (first | (at_builtin; refine append_bytes rfl _ _ rfl rfl Q1.out.own Q1.out.bel Q1.out.size q1 _ k1 rfl RN1.out rfl RY1.out (by have := Q1.out.few; have := LL.out; omega) ?_; intro v1 z1 ho hb hs; obtain ⟨nn1, qq1, kk1, yy1, hy1, hn1, rfl, O2⟩ := Q1.out.mkN ho hb LL.out; clear ho hb hs Q1 RY1 RN1 c0 c1 c2 c3 c4 c5 c6 c7; obtain ⟨c0, c1, c2, c3, c4, c5, c6, c7⟩ := O2.out.box; dsimp only at c0 c1 c2 c3 c4 c5 c6 c7) | (at_builtin; refine append_byte rfl _ _ rfl (5) rfl O2.out.own O2.out.bel O2.out.size ?_ (by have := O2.out.few; omega) ?_; rfl; intro v9 z9 ho hb hs; obtain ⟨nbO3, qbO3, kbO3, ybO3, hybO3, hnbO3, rfl, O3⟩ := O2.out.mkN (ys := [5]) (M := 1) ho hb (by simp); clear ho hb hs; clear c0 c1 c2 c3 c4 c5 c6 c7; obtain ⟨c0, c1, c2, c3, c4, c5, c6, c7⟩ := O3.out.box; dsimp only at c0 c1 c2 c3 c4 c5 c6 c7))
  refine (PE.out _ O3.out.all).mono ?_
  rintro e2 w2 ⟨r2, rfl, ro2, rb2⟩
  obtain ⟨q2, k2, rfl⟩ := ro2.slice
  have RN2 := ro2.nil
  have RY2 := hid (ro2.bytes BE.out (by have := LE.out; omega))
  have Q2 := hid (O3.out.on rb2)
  obtain ⟨c0, c1, c2, c3, c4, c5, c6, c7⟩ := Q2.out.box
  dsimp only at c0 c1 c2 c3 c4 c5 c6 c7
  clear ro2 rb2
  go_wp2_with (first | (at_builtin; refine append_bytes rfl _ _ rfl rfl Q2.out.own Q2.out.bel Q2.out.size q2 _ k2 rfl RN2.out rfl RY2.out (by have := Q2.out.few; have := LE.out; omega) ?_; intro v2 z2 ho hb hs; obtain ⟨nn2, qq2, kk2, yy2, hy2, hn2, rfl, O4⟩ := Q2.out.mkN ho hb LE.out; clear ho hb hs Q2 RY2 RN2 c0 c1 c2 c3 c4 c5 c6 c7; obtain ⟨c0, c1, c2, c3, c4, c5, c6, c7⟩ := O4.out.box; dsimp only at c0 c1 c2 c3 c4 c5 c6 c7) | (at_builtin; refine append_byte rfl _ _ rfl (11) rfl O4.out.own O4.out.bel O4.out.size ?_ (by have := O4.out.few; omega) ?_; rfl; intro v9 z9 ho hb hs; obtain ⟨nbO5, qbO5, kbO5, ybO5, hybO5, hnbO5, rfl, O5⟩ := O4.out.mkN (ys := [11]) (M := 1) ho hb (by simp); clear ho hb hs))
  go_wp2
  go_ret
  exact O5.out.gives' (ys := op :: (rr :: (zl ++ (5 :: ze ++ [11])))) (by simp [*])
set_option maxRecDepth 100000 in
set_option maxHeartbeats 6400000 in
theorem enc2 (x : Ix) (l e : Il) (m : Nat) (w : World) (hx : May x) (hk : kindP x.op = 2) (ht : TagsAt w.heap.size w x.ta x.tags) (hl : ListAt w.heap.size w x.la x.ln l) (he : ListAt w.heap.size w x.ea x.en e) (hml : MayT l) (hme : MayT e)
  (hcl : l.count < m) (hce : e.count < m) (hfl : (encL l).length ≤ 90000) (hfe : (encL e).length ≤ 90000) (LH : PutH m) :
  Calls Tryz.prog 219 #[.agg x.vals] w (Gives w (encOne x l e)) := by
 obtain ⟨op, res, a, b, n, tags, ta, tc, la, ln, lc, ea, en, ec⟩ := x
 have hnm := ((lawful_iff _).1 hx.law).1
 have hrs := ((lawful_iff _).1 hx.law).2.1
 obtain ⟨ha, hb, hn, htg, hfw⟩ : (0 ≤ a ∧ a < 4294967296) ∧ (0 ≤ b ∧ b < 4294967296) ∧ (-2147483648 ≤ n ∧ n < 2147483648) ∧ (∀ z ∈ tags, 0 ≤ z ∧ z < 4294967296) ∧ tags.length ≤ 16384 := ⟨hx.a, hx.b, hx.n, hx.tags, hx.few⟩
 have hrg := name_range hnm
 dsimp only at hk ht hl he hrg hrs
 obtain ⟨o0, o1, -, -⟩ := hrg
 have hL : listsP op = false := by rw [lists_kind, hk]; rfl
 have hW : whichP op = true := by rw [which_kind, hk]; rfl
 have hS : storedP op = false := by rw [stored_kind, hk]; rfl
 have n17 : ¬ op = 17 := by rintro rfl; revert hk; decide
 have n14 : ¬ op = 14 := by rintro rfl; revert hk; decide
 have n65 : ¬ op = 65 := by rintro rfl; revert hk; decide
 have n63 : ¬ op = 63 := by rintro rfl; revert hk; decide
 have n64 : ¬ op = 64 := by rintro rfl; revert hk; decide
 have m63 : (op == 63) = false := by simp [n63]
 have m64 : (op == 64) = false := by simp [n64]
 have FA := hid (fun W => refAlign_any (op) W)
 have FL := hid (fun W => refLists_any (op) W)
 have FW := hid (fun W => refWhich_any (op) W)
 rw [hS] at FA
 rw [hL] at FL
 rw [hW] at FW
 obtain ⟨al, hal⟩ : ∃ al, alignP (op) = al := ⟨_, rfl⟩
 rw [hal] at FA
 have O0 := hid (own_op w ⟨op, res, a, b, n, tags, ta, tc, la, ln, lc, ea, en, ec⟩ (op))
 have hE : encOne (⟨op, res, a, b, n, tags, ta, tc, la, ln, lc, ea, en, ec⟩ : Ix) l e = [op] ++ encU a := by unfold encOne; rw [encRest2 hk, if_neg (by dsimp only; rw [hk]; decide)]; simp
 rw [hE]
 have u8o : IntKind.u8.wrap (op) = op := by rw [IntKind.wrap_u8]; omega
 obtain ⟨za, hza⟩ : ∃ z, encU a = z := ⟨_, rfl⟩
 have PA := hid (fun W => refU_any a W ha.1 ha.2)
 have LA := hid (encU_lens a).1
 have BA := hid (encU_bytes a)
 rw [hza] at PA LA BA ⊢
 clear hnm hL hW hS hal LH hcl hce hfl hfe hl he hml hme ht hx hk hrs hE
 simp only [Ix.vals]
 go_enter Tryz.func219, Tryz.ntmps219
 go_wp2_with (first | (go_at_call 231; refine (FA.out _).mono ?_; rintro e0 w0 ⟨rfl, rfl⟩) | (go_at_call 232; refine (FL.out _).mono ?_; rintro e0 w0 ⟨rfl, rfl⟩) | (go_at_call 233; refine (FW.out _).mono ?_; rintro e0 w0 ⟨rfl, rfl⟩))
 refine (PA.out _).mono ?_
 rintro e1 w1 ⟨r1, rfl, ro1, rb1⟩
 obtain ⟨q1, k1, rfl⟩ := ro1.slice
 have RN1 := ro1.nil
 have RY1 := hid (ro1.bytes BA.out (by have := LA.out; omega))
 have Q1 := hid (O0.out.on rb1)
 obtain ⟨c0, c1, c2, c3, c4, c5, c6, c7⟩ := Q1.out.box
 dsimp only at c0 c1 c2 c3 c4 c5 c6 c7
 clear ro1 rb1
 go_wp2_with (first | (at_builtin; refine append_bytes rfl _ _ rfl rfl Q1.out.own Q1.out.bel Q1.out.size q1 _ k1 rfl RN1.out rfl RY1.out (by have := Q1.out.few; have := LA.out; omega) ?_; intro v1 z1 ho hb hs; obtain ⟨nn1, qq1, kk1, yy1, hy1, hn1, rfl, O1⟩ := Q1.out.mkN ho hb LA.out; clear ho hb hs Q1 RY1 RN1 c0 c1 c2 c3 c4 c5 c6 c7; obtain ⟨c0, c1, c2, c3, c4, c5, c6, c7⟩ := O1.out.box; dsimp only at c0 c1 c2 c3 c4 c5 c6 c7))
 go_wp2
 go_ret
 exact O1.out.gives' (ys := op :: za) (by simp [*])
set_option maxRecDepth 100000 in
set_option maxHeartbeats 6400000 in
theorem enc3 (x : Ix) (l e : Il) (m : Nat) (w : World) (hx : May x) (hk : kindP x.op = 3) (ht : TagsAt w.heap.size w x.ta x.tags) (hl : ListAt w.heap.size w x.la x.ln l) (he : ListAt w.heap.size w x.ea x.en e) (hml : MayT l) (hme : MayT e)
  (hcl : l.count < m) (hce : e.count < m) (hfl : (encL l).length ≤ 90000) (hfe : (encL e).length ≤ 90000) (LH : PutH m) :
  Calls Tryz.prog 219 #[.agg x.vals] w (Gives w (encOne x l e)) := by
 obtain ⟨op, res, a, b, n, tags, ta, tc, la, ln, lc, ea, en, ec⟩ := x
 have hnm := ((lawful_iff _).1 hx.law).1
 have hrs := ((lawful_iff _).1 hx.law).2.1
 obtain ⟨ha, hb, hn, htg, hfw⟩ : (0 ≤ a ∧ a < 4294967296) ∧ (0 ≤ b ∧ b < 4294967296) ∧ (-2147483648 ≤ n ∧ n < 2147483648) ∧ (∀ z ∈ tags, 0 ≤ z ∧ z < 4294967296) ∧ tags.length ≤ 16384 := ⟨hx.a, hx.b, hx.n, hx.tags, hx.few⟩
 have hrg := name_range hnm
 dsimp only at hk ht hl he hrg hrs
 obtain ⟨o0, o1, -, -⟩ := hrg
 have hL : listsP op = false := by rw [lists_kind, hk]; rfl
 have hW : whichP op = true := by rw [which_kind, hk]; rfl
 have hS : storedP op = false := by rw [stored_kind, hk]; rfl
 obtain rfl : op = 17 := by unfold kindP at hk; (repeat' split at hk) <;> omega
 have FA := hid (fun W => refAlign_any (17) W)
 have FL := hid (fun W => refLists_any (17) W)
 have FW := hid (fun W => refWhich_any (17) W)
 rw [hS] at FA
 rw [hL] at FL
 rw [hW] at FW
 obtain ⟨al, hal⟩ : ∃ al, alignP (17) = al := ⟨_, rfl⟩
 rw [hal] at FA
 have O0 := hid (own_op w ⟨17, res, a, b, n, tags, ta, tc, la, ln, lc, ea, en, ec⟩ (17))
 have hE : encOne (⟨17, res, a, b, n, tags, ta, tc, la, ln, lc, ea, en, ec⟩ : Ix) l e = [17] ++ encU a ++ [0] := by unfold encOne; rw [encRest3 hk, if_neg (by dsimp only; rw [hk]; decide)]; simp
 rw [hE]
 obtain ⟨za, hza⟩ : ∃ z, encU a = z := ⟨_, rfl⟩
 have PA := hid (fun W => refU_any a W ha.1 ha.2)
 have LA := hid (encU_lens a).1
 have BA := hid (encU_bytes a)
 rw [hza] at PA LA BA ⊢
 clear hnm hL hW hS hal LH hcl hce hfl hfe hl he hml hme ht hx hk hrs hE
 simp only [Ix.vals]
 go_enter Tryz.func219, Tryz.ntmps219
 go_wp2_with (first | (go_at_call 231; refine (FA.out _).mono ?_; rintro e0 w0 ⟨rfl, rfl⟩) | (go_at_call 232; refine (FL.out _).mono ?_; rintro e0 w0 ⟨rfl, rfl⟩) | (go_at_call 233; refine (FW.out _).mono ?_; rintro e0 w0 ⟨rfl, rfl⟩))
 refine (PA.out _).mono ?_
 rintro e1 w1 ⟨r1, rfl, ro1, rb1⟩
 obtain ⟨q1, k1, rfl⟩ := ro1.slice
 have RN1 := ro1.nil
 have RY1 := hid (ro1.bytes BA.out (by have := LA.out; omega))
 have Q1 := hid (O0.out.on rb1)
 obtain ⟨c0, c1, c2, c3, c4, c5, c6, c7⟩ := Q1.out.box
 dsimp only at c0 c1 c2 c3 c4 c5 c6 c7
 clear ro1 rb1
 go_wp2_with (first | (at_builtin; refine append_bytes rfl _ _ rfl rfl Q1.out.own Q1.out.bel Q1.out.size q1 _ k1 rfl RN1.out rfl RY1.out (by have := Q1.out.few; have := LA.out; omega) ?_; intro v1 z1 ho hb hs; obtain ⟨nn1, qq1, kk1, yy1, hy1, hn1, rfl, O1⟩ := Q1.out.mkN ho hb LA.out; clear ho hb hs Q1 RY1 RN1 c0 c1 c2 c3 c4 c5 c6 c7; obtain ⟨c0, c1, c2, c3, c4, c5, c6, c7⟩ := O1.out.box; dsimp only at c0 c1 c2 c3 c4 c5 c6 c7) | (at_builtin; refine append_byte rfl _ _ rfl (0) rfl O1.out.own O1.out.bel O1.out.size ?_ (by have := O1.out.few; omega) ?_; rfl; intro v9 z9 ho hb hs; obtain ⟨nbO2, qbO2, kbO2, ybO2, hybO2, hnbO2, rfl, O2⟩ := O1.out.mkN (ys := [0]) (M := 1) ho hb (by simp); clear ho hb hs))
 go_wp2
 go_ret
 exact O2.out.gives' (ys := 17 :: (za ++ [0])) (by simp [*])
set_option maxRecDepth 100000 in
set_option maxHeartbeats 6400000 in
theorem enc4 (x : Ix) (l e : Il) (m : Nat) (w : World) (hx : May x) (hk : kindP x.op = 4) (ht : TagsAt w.heap.size w x.ta x.tags) (hl : ListAt w.heap.size w x.la x.ln l) (he : ListAt w.heap.size w x.ea x.en e) (hml : MayT l) (hme : MayT e)
  (hcl : l.count < m) (hce : e.count < m) (hfl : (encL l).length ≤ 90000) (hfe : (encL e).length ≤ 90000) (LH : PutH m) :
  Calls Tryz.prog 219 #[.agg x.vals] w (Gives w (encOne x l e)) := by
 obtain ⟨op, res, a, b, n, tags, ta, tc, la, ln, lc, ea, en, ec⟩ := x
 have hnm := ((lawful_iff _).1 hx.law).1
 have hrs := ((lawful_iff _).1 hx.law).2.1
 obtain ⟨ha, hb, hn, htg, hfw⟩ : (0 ≤ a ∧ a < 4294967296) ∧ (0 ≤ b ∧ b < 4294967296) ∧ (-2147483648 ≤ n ∧ n < 2147483648) ∧ (∀ z ∈ tags, 0 ≤ z ∧ z < 4294967296) ∧ tags.length ≤ 16384 := ⟨hx.a, hx.b, hx.n, hx.tags, hx.few⟩
 have hrg := name_range hnm
 dsimp only at hk ht hl he hrg hrs
 obtain ⟨o0, o1, -, -⟩ := hrg
 have hL : listsP op = false := by rw [lists_kind, hk]; rfl
 have hW : whichP op = false := by rw [which_kind, hk]; rfl
 have hS : storedP op = false := by rw [stored_kind, hk]; rfl
 obtain rfl : op = 14 := four_kind.2 hk
 have FA := hid (fun W => refAlign_any (14) W)
 have FL := hid (fun W => refLists_any (14) W)
 have FW := hid (fun W => refWhich_any (14) W)
 rw [hS] at FA
 rw [hL] at FL
 rw [hW] at FW
 obtain ⟨al, hal⟩ : ∃ al, alignP (14) = al := ⟨_, rfl⟩
 rw [hal] at FA
 have O0 := hid (own_op w ⟨14, res, a, b, n, tags, ta, tc, la, ln, lc, ea, en, ec⟩ (14))
 have hE : encOne (⟨14, res, a, b, n, tags, ta, tc, la, ln, lc, ea, en, ec⟩ : Ix) l e = [14] ++ (encTags tags ++ encU a) := by unfold encOne; rw [encRest4 hk, if_neg (by dsimp only; rw [hk]; decide)]; simp
 rw [hE]
 obtain ⟨za, hza⟩ : ∃ z, encU a = z := ⟨_, rfl⟩
 have PA := hid (fun W => refU_any a W ha.1 ha.2)
 have LA := hid (encU_lens a).1
 have BA := hid (encU_bytes a)
 rw [hza] at PA LA BA ⊢
 obtain ⟨zt, hzt⟩ : ∃ z, encTags tags = z := ⟨_, rfl⟩
 obtain ⟨z0, hz0⟩ : ∃ z, encU (tags.length : Int) = z := ⟨_, rfl⟩
 have PT := hid (fun W => refU_any (tags.length : Int) W (by omega) (by omega))
 have LT := hid (encU_lens (tags.length : Int)).1
 have BT := hid (encU_bytes (tags.length : Int))
 have HT := hid ht
 have HZ := hid htg
 have HEt := hid (show z0 ++ tags.flatMap encU = zt by rw [← hzt, ← hz0]; rfl)
 rw [hzt]
 rw [hz0] at PT LT BT
 clear htg hzt hz0
 clear hnm hL hW hS hal LH hcl hce hfl hfe hl he hml hme ht hx hk hrs hE
 simp only [Ix.vals]
 go_enter Tryz.func219, Tryz.ntmps219
 go_wp2_with (first | (go_at_call 231; refine (FA.out _).mono ?_; rintro e0 wA ⟨rfl, hwA⟩; have OA := hid (hwA ▸ O0.out); clear hwA; obtain ⟨c0, c1, c2, c3, c4, c5, c6, c7⟩ := OA.out.box; dsimp only at c0 c1 c2 c3 c4 c5 c6 c7) | (go_at_call 232; refine (FL.out _).mono ?_; rintro e0 w0 ⟨rfl, rfl⟩) | (go_at_call 233; refine (FW.out _).mono ?_; rintro e0 w0 ⟨rfl, rfl⟩))
 refine (PT.out _).mono ?_
 rintro e1 w1 ⟨r1, rfl, ro1, rb1⟩
 obtain ⟨q1, k1, rfl⟩ := ro1.slice
 have RN1 := ro1.nil
 have RY1 := hid (ro1.bytes BT.out (by have := LT.out; omega))
 have Q1 := hid (OA.out.on rb1)
 obtain ⟨c0, c1, c2, c3, c4, c5, c6, c7⟩ := Q1.out.box
 dsimp only at c0 c1 c2 c3 c4 c5 c6 c7
 clear ro1 rb1
 go_wp2_with (first | (at_builtin; refine append_bytes rfl _ _ rfl rfl Q1.out.own Q1.out.bel Q1.out.size q1 _ k1 rfl RN1.out rfl RY1.out (by have := Q1.out.few; have := LT.out; omega) ?_; intro v1 z1 ho hb hs; obtain ⟨nn1, qq1, kk1, yy1, hy1, hn1, rfl, O1⟩ := Q1.out.mkN ho hb LT.out; clear ho hb hs Q1 RY1 RN1 c0 c1 c2 c3 c4 c5 c6 c7; obtain ⟨c0, c1, c2, c3, c4, c5, c6, c7⟩ := O1.out.box; dsimp only at c0 c1 c2 c3 c4 c5 c6 c7))
 go_wp2
 clear c0 c1 c2 c3 c4 c5 c6 c7 PT LT BT OA
 go_loopw [3, 6] (fun s3 s6 wr => ∃ (j nj : Nat) (qj : Option Addr) (kj : Nat), j ≤ tags.length ∧ s6 = .int .i64 j ∧ s3 = .slice qj nj kj ∧ Hid (OW w (⟨14, res, a, b, n, tags, ta, tc, la, ln, lc, ea, en, ec⟩ : Ix) (.slice qj nj kj) (yy1 ++ (tags.take j).flatMap encU) (6 + 5 * j) wr)) (fun _ s6 _ => tags.length - (intOf s6).toNat)
 case atStart => exact ⟨0, nn1, qq1, kk1, by omega, rfl, rfl, hid (by have := O1.out; simpa using this)⟩
 case round =>
  obtain ⟨j, nj, qj, kj, hj, rfl, rfl, HJ⟩ := hrel
  clear O1
  obtain ⟨c0, c1, c2, c3, c4, c5, c6, c7⟩ := HJ.out.box
  dsimp only at c0 c1 c2 c3 c4 c5 c6 c7
  by_cases hlt : j < tags.length
  ·have hz' := HZ.out _ (List.getElem_mem hlt)
   rw [← getD_lt hlt] at hz'
   have hd : (tags.take (j + 1)).flatMap encU = (tags.take j).flatMap encU ++ encU (tags.getD j 0) := by rw [List.take_succ_eq_append_getElem hlt, flatMap_snoc, getD_lt hlt]
   rcases HT.out with h0 | ⟨tb, off, rfl, hbl, hc⟩
   ·rw [h0] at hlt; simp at hlt
   have hcj := (HJ.out.all.cell (p := ⟨tb, off + j, none⟩) hbl).trans (hc j hlt)
   obtain ⟨z, hz⟩ : ∃ z, tags.getD j 0 = z := ⟨_, rfl⟩
   rw [hz] at hz' hd hcj
   have P2 := hid (fun w' => refU_any z w' hz'.1 hz'.2)
   have L2 := hid (encU_lens z).1
   have B2 := hid (encU_bytes z)
   obtain ⟨e2, he2⟩ : ∃ e, encU z = e := ⟨_, rfl⟩
   rw [he2] at P2 L2 B2 hd
   obtain ⟨zs, hzs⟩ : ∃ zs, yy1 ++ (tags.take j).flatMap encU = zs := ⟨_, rfl⟩
   rw [hzs] at HJ
   have hd2 : Hid (yy1 ++ (tags.take (j + 1)).flatMap encU = zs ++ e2) := by show _ = _; rw [hd, ← List.append_assoc, hzs]
   clear hd hzs he2 hz hz' hc
   go_wp2_with fail
   refine (P2.out _).mono ?_
   rintro e2 w2 ⟨r2, rfl, ro2, rb2⟩
   obtain ⟨q2, k2, rfl⟩ := ro2.slice
   have RN2 := ro2.nil
   have RY2 := hid (ro2.bytes B2.out (by have := L2.out; omega))
   have Q2 := hid (HJ.out.on rb2)
   obtain ⟨c0, c1, c2, c3, c4, c5, c6, c7⟩ := Q2.out.box
   dsimp only at c0 c1 c2 c3 c4 c5 c6 c7
   clear ro2 rb2
   go_wp2_with (first | (at_builtin; refine append_bytes rfl _ _ rfl rfl Q2.out.own Q2.out.bel Q2.out.size q2 _ k2 rfl RN2.out rfl RY2.out (by have := Q2.out.few; have := L2.out; omega) ?_; intro v2 z2 ho hb hs; obtain ⟨nn2, qq2, kk2, yy2, hy2, hn2, rfl, O2⟩ := Q2.out.mkN ho hb L2.out; clear ho hb hs Q2 RY2 RN2 c0 c1 c2 c3 c4 c5 c6 c7; obtain ⟨c0, c1, c2, c3, c4, c5, c6, c7⟩ := O2.out.box; dsimp only at c0 c1 c2 c3 c4 c5 c6 c7))
   go_wp2
   go_roundw
   case rel =>
    refine ⟨j + 1, nn2, qq2, kk2, by omega, by simp, rfl, hid ?_⟩
    have h9 := O2.out
    rw [hy2, ← hd2.out] at h9
    rw [show 6 + 5 * (j + 1) = 6 + 5 * j + 5 by omega]
    exact h9
   case measure => simp [intOf]; omega
  ·obtain rfl : j = tags.length := by omega
   rw [List.take_length] at HJ
   go_wp2_with fail
   refine (PA.out _).mono ?_
   rintro e3 w3 ⟨r3, rfl, ro3, rb3⟩
   obtain ⟨q3, k3, rfl⟩ := ro3.slice
   have RN3 := ro3.nil
   have RY3 := hid (ro3.bytes BA.out (by have := LA.out; omega))
   have Q3 := hid (HJ.out.on rb3)
   obtain ⟨c0, c1, c2, c3, c4, c5, c6, c7⟩ := Q3.out.box
   dsimp only at c0 c1 c2 c3 c4 c5 c6 c7
   clear ro3 rb3
   go_wp2_with (first | (at_builtin; refine append_bytes rfl _ _ rfl rfl Q3.out.own Q3.out.bel Q3.out.size q3 _ k3 rfl RN3.out rfl RY3.out (by have := Q3.out.few; have := LA.out; omega) ?_; intro v3 z3 ho hb hs; obtain ⟨nn3, qq3, kk3, yy3, hy3, hn3, rfl, O3⟩ := Q3.out.mkN ho hb LA.out; clear ho hb hs Q3 RY3 RN3 c0 c1 c2 c3 c4 c5 c6 c7; obtain ⟨c0, c1, c2, c3, c4, c5, c6, c7⟩ := O3.out.box; dsimp only at c0 c1 c2 c3 c4 c5 c6 c7))
   go_wp2
   go_ret
   exact O3.out.gives' (ys := 14 :: (zt ++ za)) (by rw [hy3, hy1, ← HEt.out]; simp)
set_option maxRecDepth 100000 in
set_option maxHeartbeats 6400000 in
theorem enc5 (x : Ix) (l e : Il) (m : Nat) (w : World) (hx : May x) (hk : kindP x.op = 5) (ht : TagsAt w.heap.size w x.ta x.tags) (hl : ListAt w.heap.size w x.la x.ln l) (he : ListAt w.heap.size w x.ea x.en e) (hml : MayT l) (hme : MayT e)
  (hcl : l.count < m) (hce : e.count < m) (hfl : (encL l).length ≤ 90000) (hfe : (encL e).length ≤ 90000) (LH : PutH m) :
  Calls Tryz.prog 219 #[.agg x.vals] w (Gives w (encOne x l e)) := by
 obtain ⟨op, res, a, b, n, tags, ta, tc, la, ln, lc, ea, en, ec⟩ := x
 have hnm := ((lawful_iff _).1 hx.law).1
 have hrs := ((lawful_iff _).1 hx.law).2.1
 obtain ⟨ha, hb, hn, htg, hfw⟩ : (0 ≤ a ∧ a < 4294967296) ∧ (0 ≤ b ∧ b < 4294967296) ∧ (-2147483648 ≤ n ∧ n < 2147483648) ∧ (∀ z ∈ tags, 0 ≤ z ∧ z < 4294967296) ∧ tags.length ≤ 16384 := ⟨hx.a, hx.b, hx.n, hx.tags, hx.few⟩
 have hrg := name_range hnm
 dsimp only at hk ht hl he hrg hrs
 obtain ⟨o0, o1, -, -⟩ := hrg
 have hL : listsP op = false := by rw [lists_kind, hk]; rfl
 have hW : whichP op = false := by rw [which_kind, hk]; rfl
 have hS : storedP op = true := by rw [stored_kind, hk]; rfl
 have n17 : ¬ op = 17 := by rintro rfl; revert hk; decide
 have n14 : ¬ op = 14 := by rintro rfl; revert hk; decide
 have n65 : ¬ op = 65 := by rintro rfl; revert hk; decide
 have n63 : ¬ op = 63 := by rintro rfl; revert hk; decide
 have n64 : ¬ op = 64 := by rintro rfl; revert hk; decide
 have m63 : (op == 63) = false := by simp [n63]
 have m64 : (op == 64) = false := by simp [n64]
 have FA := hid (fun W => refAlign_any (op) W)
 have FL := hid (fun W => refLists_any (op) W)
 have FW := hid (fun W => refWhich_any (op) W)
 rw [hS] at FA
 rw [hL] at FL
 rw [hW] at FW
 obtain ⟨al, hal⟩ : ∃ al, alignP (op) = al := ⟨_, rfl⟩
 rw [hal] at FA
 have O0 := hid (own_op w ⟨op, res, a, b, n, tags, ta, tc, la, ln, lc, ea, en, ec⟩ (op))
 have hE : encOne (⟨op, res, a, b, n, tags, ta, tc, la, ln, lc, ea, en, ec⟩ : Ix) l e = [op] ++ encU a ++ encU b := by unfold encOne; rw [encRest5 hk, if_neg (by dsimp only; rw [hk]; decide)]; simp
 rw [hE]
 have u8o : IntKind.u8.wrap (op) = op := by rw [IntKind.wrap_u8]; omega
 obtain ⟨za, hza⟩ : ∃ z, encU a = z := ⟨_, rfl⟩
 have PA := hid (fun W => refU_any a W ha.1 ha.2)
 have LA := hid (encU_lens a).1
 have BA := hid (encU_bytes a)
 rw [hza] at PA LA BA ⊢
 obtain ⟨zb, hzb⟩ : ∃ z, encU b = z := ⟨_, rfl⟩
 have PB := hid (fun W => refU_any b W hb.1 hb.2)
 have LB := hid (encU_lens b).1
 have BB := hid (encU_bytes b)
 rw [hzb] at PB LB BB ⊢
 clear hnm hL hW hS hal LH hcl hce hfl hfe hl he hml hme ht hx hk hrs hE
 simp only [Ix.vals]
 go_enter Tryz.func219, Tryz.ntmps219
 go_wp2_with (first | (go_at_call 231; refine (FA.out _).mono ?_; rintro e0 w0 ⟨rfl, rfl⟩) | (go_at_call 232; refine (FL.out _).mono ?_; rintro e0 w0 ⟨rfl, rfl⟩) | (go_at_call 233; refine (FW.out _).mono ?_; rintro e0 w0 ⟨rfl, rfl⟩))
 refine (PA.out _).mono ?_
 rintro e1 w1 ⟨r1, rfl, ro1, rb1⟩
 obtain ⟨q1, k1, rfl⟩ := ro1.slice
 have RN1 := ro1.nil
 have RY1 := hid (ro1.bytes BA.out (by have := LA.out; omega))
 have Q1 := hid (O0.out.on rb1)
 obtain ⟨c0, c1, c2, c3, c4, c5, c6, c7⟩ := Q1.out.box
 dsimp only at c0 c1 c2 c3 c4 c5 c6 c7
 clear ro1 rb1
 go_wp2_with (first | (at_builtin; refine append_bytes rfl _ _ rfl rfl Q1.out.own Q1.out.bel Q1.out.size q1 _ k1 rfl RN1.out rfl RY1.out (by have := Q1.out.few; have := LA.out; omega) ?_; intro v1 z1 ho hb hs; obtain ⟨nn1, qq1, kk1, yy1, hy1, hn1, rfl, O1⟩ := Q1.out.mkN ho hb LA.out; clear ho hb hs Q1 RY1 RN1 c0 c1 c2 c3 c4 c5 c6 c7; obtain ⟨c0, c1, c2, c3, c4, c5, c6, c7⟩ := O1.out.box; dsimp only at c0 c1 c2 c3 c4 c5 c6 c7))
 go_wp2_with fail
 refine (PB.out _).mono ?_
 rintro e2 w2 ⟨r2, rfl, ro2, rb2⟩
 obtain ⟨q2, k2, rfl⟩ := ro2.slice
 have RN2 := ro2.nil
 have RY2 := hid (ro2.bytes BB.out (by have := LB.out; omega))
 have Q2 := hid (O1.out.on rb2)
 obtain ⟨c0, c1, c2, c3, c4, c5, c6, c7⟩ := Q2.out.box
 dsimp only at c0 c1 c2 c3 c4 c5 c6 c7
 clear ro2 rb2
 go_wp2_with (first | (at_builtin; refine append_bytes rfl _ _ rfl rfl Q2.out.own Q2.out.bel Q2.out.size q2 _ k2 rfl RN2.out rfl RY2.out (by have := Q2.out.few; have := LB.out; omega) ?_; intro v2 z2 ho hb hs; obtain ⟨nn2, qq2, kk2, yy2, hy2, hn2, rfl, O2⟩ := Q2.out.mkN ho hb LB.out; clear ho hb hs Q2 RY2 RN2 c0 c1 c2 c3 c4 c5 c6 c7; obtain ⟨c0, c1, c2, c3, c4, c5, c6, c7⟩ := O2.out.box; dsimp only at c0 c1 c2 c3 c4 c5 c6 c7))
 go_wp2
 go_ret
 exact O2.out.gives' (ys := op :: (za ++ zb)) (by simp [*])
set_option maxRecDepth 100000 in
set_option maxHeartbeats 6400000 in
theorem enc6 (x : Ix) (l e : Il) (m : Nat) (w : World) (hx : May x) (hk : kindP x.op = 6) (ht : TagsAt w.heap.size w x.ta x.tags) (hl : ListAt w.heap.size w x.la x.ln l) (he : ListAt w.heap.size w x.ea x.en e) (hml : MayT l) (hme : MayT e)
  (hcl : l.count < m) (hce : e.count < m) (hfl : (encL l).length ≤ 90000) (hfe : (encL e).length ≤ 90000) (LH : PutH m) :
  Calls Tryz.prog 219 #[.agg x.vals] w (Gives w (encOne x l e)) := by
 obtain ⟨op, res, a, b, n, tags, ta, tc, la, ln, lc, ea, en, ec⟩ := x
 have hnm := ((lawful_iff _).1 hx.law).1
 have hrs := ((lawful_iff _).1 hx.law).2.1
 obtain ⟨ha, hb, hn, htg, hfw⟩ : (0 ≤ a ∧ a < 4294967296) ∧ (0 ≤ b ∧ b < 4294967296) ∧ (-2147483648 ≤ n ∧ n < 2147483648) ∧ (∀ z ∈ tags, 0 ≤ z ∧ z < 4294967296) ∧ tags.length ≤ 16384 := ⟨hx.a, hx.b, hx.n, hx.tags, hx.few⟩
 have hrg := name_range hnm
 dsimp only at hk ht hl he hrg hrs
 obtain ⟨o0, o1, -, -⟩ := hrg
 have hL : listsP op = false := by rw [lists_kind, hk]; rfl
 have hW : whichP op = false := by rw [which_kind, hk]; rfl
 have hS : storedP op = false := by rw [stored_kind, hk]; rfl
 have n17 : ¬ op = 17 := by rintro rfl; revert hk; decide
 have n14 : ¬ op = 14 := by rintro rfl; revert hk; decide
 have n65 : ¬ op = 65 := by rintro rfl; revert hk; decide
 have cc : op = 63 ∨ op = 64 := by unfold kindP at hk; (repeat' split at hk) <;> omega
 have FA := hid (fun W => refAlign_any (op) W)
 have FL := hid (fun W => refLists_any (op) W)
 have FW := hid (fun W => refWhich_any (op) W)
 rw [hS] at FA
 rw [hL] at FL
 rw [hW] at FW
 obtain ⟨al, hal⟩ : ∃ al, alignP (op) = al := ⟨_, rfl⟩
 rw [hal] at FA
 have O0 := hid (own_op w ⟨op, res, a, b, n, tags, ta, tc, la, ln, lc, ea, en, ec⟩ (op))
 have hE : encOne (⟨op, res, a, b, n, tags, ta, tc, la, ln, lc, ea, en, ec⟩ : Ix) l e = [op] ++ [0] := by unfold encOne; rw [encRest6 hk, if_neg (by dsimp only; rw [hk]; decide)]; simp
 rw [hE]
 have u8o : IntKind.u8.wrap (op) = op := by rw [IntKind.wrap_u8]; omega
 clear hnm hL hW hS hal LH hcl hce hfl hfe hl he hml hme ht hx hk hrs hE
 simp only [Ix.vals]
 go_enter Tryz.func219, Tryz.ntmps219
 rcases cc with rfl | rfl
 ·go_wp2_with (first | (go_at_call 231; refine (FA.out _).mono ?_; rintro e0 wA ⟨rfl, hwA⟩; have OA := hid (hwA ▸ O0.out); clear hwA; obtain ⟨c0, c1, c2, c3, c4, c5, c6, c7⟩ := OA.out.box; dsimp only at c0 c1 c2 c3 c4 c5 c6 c7) | (go_at_call 232; refine (FL.out _).mono ?_; rintro e0 w0 ⟨rfl, rfl⟩) | (go_at_call 233; refine (FW.out _).mono ?_; rintro e0 w0 ⟨rfl, rfl⟩) | (at_builtin; refine append_byte rfl _ _ rfl (0) rfl OA.out.own OA.out.bel OA.out.size ?_ (by have := OA.out.few; omega) ?_; rfl; intro v9 z9 ho hb hs; obtain ⟨nbO1, qbO1, kbO1, ybO1, hybO1, hnbO1, rfl, O1⟩ := OA.out.mkN (ys := [0]) (M := 1) ho hb (by simp); clear ho hb hs))
  go_wp2
  go_ret
  exact O1.out.gives' (ys := [63, 0]) (by simp [*])
 ·go_wp2_with (first | (go_at_call 231; refine (FA.out _).mono ?_; rintro e0 wA ⟨rfl, hwA⟩; have OA := hid (hwA ▸ O0.out); clear hwA; obtain ⟨c0, c1, c2, c3, c4, c5, c6, c7⟩ := OA.out.box; dsimp only at c0 c1 c2 c3 c4 c5 c6 c7) | (go_at_call 232; refine (FL.out _).mono ?_; rintro e0 w0 ⟨rfl, rfl⟩) | (go_at_call 233; refine (FW.out _).mono ?_; rintro e0 w0 ⟨rfl, rfl⟩) | (at_builtin; refine append_byte rfl _ _ rfl (0) rfl OA.out.own OA.out.bel OA.out.size ?_ (by have := OA.out.few; omega) ?_; rfl; intro v9 z9 ho hb hs; obtain ⟨nbO1, qbO1, kbO1, ybO1, hybO1, hnbO1, rfl, O1⟩ := OA.out.mkN (ys := [0]) (M := 1) ho hb (by simp); clear ho hb hs))
  go_wp2
  go_ret
  exact O1.out.gives' (ys := [64, 0]) (by simp [*])
set_option maxRecDepth 100000 in
set_option maxHeartbeats 6400000 in
theorem enc7 (x : Ix) (l e : Il) (m : Nat) (w : World) (hx : May x) (hk : kindP x.op = 7) (ht : TagsAt w.heap.size w x.ta x.tags) (hl : ListAt w.heap.size w x.la x.ln l) (he : ListAt w.heap.size w x.ea x.en e) (hml : MayT l) (hme : MayT e)
  (hcl : l.count < m) (hce : e.count < m) (hfl : (encL l).length ≤ 90000) (hfe : (encL e).length ≤ 90000) (LH : PutH m) :
  Calls Tryz.prog 219 #[.agg x.vals] w (Gives w (encOne x l e)) := by
 obtain ⟨op, res, a, b, n, tags, ta, tc, la, ln, lc, ea, en, ec⟩ := x
 have hnm := ((lawful_iff _).1 hx.law).1
 have hrs := ((lawful_iff _).1 hx.law).2.1
 obtain ⟨ha, hb, hn, htg, hfw⟩ : (0 ≤ a ∧ a < 4294967296) ∧ (0 ≤ b ∧ b < 4294967296) ∧ (-2147483648 ≤ n ∧ n < 2147483648) ∧ (∀ z ∈ tags, 0 ≤ z ∧ z < 4294967296) ∧ tags.length ≤ 16384 := ⟨hx.a, hx.b, hx.n, hx.tags, hx.few⟩
 have hrg := name_range hnm
 dsimp only at hk ht hl he hrg hrs
 obtain ⟨o0, o1, -, -⟩ := hrg
 have hL : listsP op = false := by rw [lists_kind, hk]; rfl
 have hW : whichP op = false := by rw [which_kind, hk]; rfl
 have hS : storedP op = false := by rw [stored_kind, hk]; rfl
 obtain rfl : op = 65 := seven_kind.2 hk
 have FA := hid (fun W => refAlign_any (65) W)
 have FL := hid (fun W => refLists_any (65) W)
 have FW := hid (fun W => refWhich_any (65) W)
 rw [hS] at FA
 rw [hL] at FL
 rw [hW] at FW
 obtain ⟨al, hal⟩ : ∃ al, alignP (65) = al := ⟨_, rfl⟩
 rw [hal] at FA
 have O0 := hid (own_op w ⟨65, res, a, b, n, tags, ta, tc, la, ln, lc, ea, en, ec⟩ (65))
 have hE : encOne (⟨65, res, a, b, n, tags, ta, tc, la, ln, lc, ea, en, ec⟩ : Ix) l e = [65] ++ encS n := by unfold encOne; rw [encRest7 hk, if_neg (by dsimp only; rw [hk]; decide)]; simp
 rw [hE]
 obtain ⟨zn, hzn⟩ : ∃ z, encS n = z := ⟨_, rfl⟩
 have PN := hid (fun W => refS_any n W hn.1 hn.2)
 have LN := hid (encS_lens n).1
 have BN := hid (encS_bytes n)
 rw [hzn] at PN LN BN ⊢
 clear hnm hL hW hS hal LH hcl hce hfl hfe hl he hml hme ht hx hk hrs hE
 simp only [Ix.vals]
 go_enter Tryz.func219, Tryz.ntmps219
 go_wp2_with (first | (go_at_call 231; refine (FA.out _).mono ?_; rintro e0 w0 ⟨rfl, rfl⟩) | (go_at_call 232; refine (FL.out _).mono ?_; rintro e0 w0 ⟨rfl, rfl⟩) | (go_at_call 233; refine (FW.out _).mono ?_; rintro e0 w0 ⟨rfl, rfl⟩))
 refine (PN.out _).mono ?_
 rintro e1 w1 ⟨r1, rfl, ro1, rb1⟩
 obtain ⟨q1, k1, rfl⟩ := ro1.slice
 have RN1 := ro1.nil
 have RY1 := hid (ro1.bytes BN.out (by have := LN.out; omega))
 have Q1 := hid (O0.out.on rb1)
 obtain ⟨c0, c1, c2, c3, c4, c5, c6, c7⟩ := Q1.out.box
 dsimp only at c0 c1 c2 c3 c4 c5 c6 c7
 clear ro1 rb1
 go_wp2_with (first | (at_builtin; refine append_bytes rfl _ _ rfl rfl Q1.out.own Q1.out.bel Q1.out.size q1 _ k1 rfl RN1.out rfl RY1.out (by have := Q1.out.few; have := LN.out; omega) ?_; intro v1 z1 ho hb hs; obtain ⟨nn1, qq1, kk1, yy1, hy1, hn1, rfl, O1⟩ := Q1.out.mkN ho hb LN.out; clear ho hb hs Q1 RY1 RN1 c0 c1 c2 c3 c4 c5 c6 c7; obtain ⟨c0, c1, c2, c3, c4, c5, c6, c7⟩ := O1.out.box; dsimp only at c0 c1 c2 c3 c4 c5 c6 c7))
 go_wp2
 go_ret
 exact O1.out.gives' (ys := 65 :: zn) (by simp [*])
end Go.Proofs.YtepbjkkakfpjgaaGreatDoor.Body
namespace Go.Proofs.YtepbjkkakfpjgaaGreatDoor.Body
set_option linter.unusedVariables false
open Go.RowKit Go.Proofs.YtepbjkkakfpjgaaGreatDoor.Instr Leb
theorem one06_any (x : Ix) (l e : Il) (m : Nat) (w : World) (hx : May x) (ht : TagsAt w.heap.size w x.ta x.tags) (hl : ListAt w.heap.size w x.la x.ln l) (he : ListAt w.heap.size w x.ea x.en e) (hml : MayT l) (hme : MayT e)
  (hcl : l.count < m) (hce : e.count < m) (hfl : (encL l).length ≤ 90000) (hfe : (encL e).length ≤ 90000) (LH : PutH m) :
  Calls Tryz.prog 219 #[.agg x.vals] w (Gives w (encOne x l e)) := by
 rcases kind_cases x.op with h | h | h | h | h | h | h | h
 ·exact enc0 x l e m w hx h ht hl he hml hme hcl hce hfl hfe LH
 ·exact enc1 x l e m w hx h ht hl he hml hme hcl hce hfl hfe LH
 ·exact enc2 x l e m w hx h ht hl he hml hme hcl hce hfl hfe LH
 ·exact enc3 x l e m w hx h ht hl he hml hme hcl hce hfl hfe LH
 ·exact enc4 x l e m w hx h ht hl he hml hme hcl hce hfl hfe LH
 ·exact enc5 x l e m w hx h ht hl he hml hme hcl hce hfl hfe LH
 ·exact enc6 x l e m w hx h ht hl he hml hme hcl hce hfl hfe LH
 ·exact enc7 x l e m w hx h ht hl he hml hme hcl hce hfl hfe LH
theorem len_le_enc : ∀ t : Il, t.len ≤ (encL t).length
 | .nil => by simp [Il.len]
 | .cons x l e r => by
  have h1 := len_le_enc r
  have h2 : 1 ≤ (encOne x l e).length := by unfold encOne; simp
  rw [encL_cons, List.length_append]
  simp only [Il.len]
  omega
theorem nil_of_len {t : Il} (h : t.len = 0) : t = .nil := by
 cases t with
 | nil => rfl
 | cons x l e r => simp [Il.len] at h
theorem sub_len {x : Ix} {l e : Il} (hx : May x) (hl : l.len = x.ln) (he : e.len = x.en) : (encL l).length ≤ (encOne x l e).length ∧ (encL e).length ≤ (encOne x l e).length := by
 by_cases hk : kindP x.op = 1
 ·have h := encOne_len (l := l) (e := e) hk (fun h0 => nil_of_len (by omega))
  omega
 ·have law := (lawful_iff x).1 hx.law
  have h1 : l = .nil := nil_of_len (by have := law.2.2.2.2.2.2.2.1; omega)
  have h2 : e = .nil := nil_of_len (by have := law.2.2.2.2.2.2.2.2; omega)
  rw [h1, h2]
  simp [encL]
theorem own_gives {w W : World} {v : Value} {ys : List Int} (h : Own w.heap.size W v ys) (hb : Below w.heap.size w W) : Gives w ys (.returned v) W := ⟨v, rfl, h, hb⟩
set_option maxRecDepth 100000 in
set_option maxHeartbeats 3200000 in
theorem list06 : ∀ m, PutH m := by
 intro m
 induction m with
 | zero => intro t a n c w hm; omega
 | succ m ih =>
  intro t a len c w hm hL hM hf
  obtain ⟨hL1, hL2⟩ := hL
  rcases hL2 with rfl | ⟨b, off, rfl, hi⟩
  ·have h0 : len = 0 := hL1.symm
   subst h0
   clear ih hm hL1 hM hf
   go_enter Tryz.func202, Tryz.ntmps202
   go_wp2
   go_loopw [3, 4] (fun so si wr => so = .slice none 0 0 ∧ si = .int .i64 0 ∧ wr = w) (fun _ _ _ => 0)
   case atStart => exact ⟨rfl, rfl, rfl⟩
   case round =>
    obtain ⟨rfl, rfl, rfl⟩ := hrel
    go_wp2
    go_ret
    exact own_gives (World.ownsRow_nil _ _ _ _) (Below.refl _ _)
  ·have hlen : len ≤ 90000 := by have := len_le_enc t; omega
   have HM := hid hm
   have HF := hid hf
   have HL1 := hid hL1
   have HI := hid hi
   have HMAY := hid hM
   have HIH := hid ih
   clear hm hf hL1 hi hM ih
   go_enter Tryz.func202, Tryz.ntmps202
   go_wp2
   go_loopw [3, 4] (fun so si wr => ∃ (k n3 k3 : Nat) (q3 : Option Addr) (ys : List Int) (rest : Il), si = .int .i64 k ∧ so = .slice q3 n3 k3 ∧ k ≤ len ∧ Hid (k + rest.len = len ∧ rest.count ≤ t.count ∧ MayT rest ∧ ys ++ encL rest = encL t) ∧ Hid (Items w.heap.size w b (off + k * 8) rest) ∧ Hid (Own w.heap.size wr (.slice q3 n3 k3) ys) ∧ Below w.heap.size w wr)
    (fun _ si _ => len - (intOf si).toNat)
   case atStart => exact ⟨0, 0, 0, none, [], t, rfl, rfl, Nat.zero_le _, ⟨by have := HL1.out; omega, Nat.le_refl _, HMAY.out, rfl⟩, by simpa using HI, World.ownsRow_nil _ _ _ _, Below.refl _ _⟩
   case round =>
    obtain ⟨k, n3, k3, q3, ys, rest, rfl, rfl, hk, HR, HIR, HO, hb⟩ := hrel
    cases rest with
    | nil =>
     obtain ⟨r1, _, _, r4⟩ := HR.out
     have hkl : k = len := by simpa [Il.len] using r1
     have HE : Hid (ys = encL t) := by show _ = _; rw [← r4]; simp [encL]
     clear r4
     subst hkl
     rw [HE.out] at HO
     go_wp2
     go_ret
     exact own_gives HO.out hb
    | cons x tl te r =>
     have hir := Items.below hb HIR.out
     obtain ⟨hbn, hxk, ⟨c0, c1, c2, c3, c4, c5, c6, c7⟩, _⟩ := hir
     obtain ⟨_, _, _, ht, hLl, hLe, hir'⟩ := HIR.out
     obtain ⟨r1, r2, r3, r4⟩ := HR.out
     obtain ⟨mx, mfl, mfe, mtl, mte, mr⟩ := r3
     have hlt : k < len := by simp only [Il.len] at r1; omega
     have hcnt : tl.count < m ∧ te.count < m := by have := HM.out; simp only [Il.count] at r2; omega
     rw [encL_cons] at r4
     have hone : ys.length + (encOne x tl te).length ≤ 90000 := by
      have h1 := congrArg List.length r4
      have h2 := HF.out
      simp only [List.length_append] at h1
      omega
     have hsub := sub_len mx mfl mfe
     have PO := hid (fun (W : World) (hb' : Below w.heap.size w W) => one06_any x tl te m W mx ((ht.below hb').more hb'.size) (ListAt.on hLl hb') (ListAt.on hLe hb') mtl mte hcnt.1 hcnt.2 (by omega) (by omega) HIH.out)
     have HNX : Hid (Items w.heap.size w b (off + (k + 1) * 8) r) := by
      rw [show off + (k + 1) * 8 = off + k * 8 + 8 by omega]
      exact hid hir'
     have HR2 : Hid ((k + 1) + r.len = len ∧ r.count ≤ t.count ∧ MayT r ∧ (ys ++ encOne x tl te) ++ encL r = encL t) := hid ⟨by simp only [Il.len] at r1; omega, by simp only [Il.count] at r2; omega, mr, by rw [List.append_assoc]; exact r4⟩
     have BE : Hid (∀ z ∈ encOne x tl te, 0 ≤ z ∧ z < 256) := hid (fun z hz => encL_bytesC t HMAY.out z (by rw [← r4]; simp [hz]))
     obtain ⟨eo, heo⟩ : ∃ r, encOne x tl te = r := ⟨_, rfl⟩
     rw [heo] at PO HR2 BE hone
     have HN := hid hone
     clear r1 r2 r4 hcnt hone hsub heo mx mfl mfe mtl mte mr ht hLl hLe hxk
     unfold Ix.vals at PO
     go_wp2_with fail
     refine (PO.out _ hb).mono ?_
     clear PO
     rintro e3 w3 ⟨r3, rfl, ro3, rb3⟩
     obtain ⟨q4, k4, rfl⟩ := ro3.slice
     have RN := ro3.nil
     have RY := hid (ro3.bytes BE.out (by have := HN.out; omega))
     have O3 := hid (HO.out.below rb3)
     have hb3 := thenB hb rb3
     clear ro3
     go_wp2_with (first | (at_builtin; refine append_bytes rfl _ _ rfl rfl O3.out hb3 hb3.size q4 _ k4 rfl RN.out rfl RY.out (by have := HN.out; omega) ?_; intro v5 w5 ho5 hb5 hs5; obtain ⟨q5, k5, rfl⟩ := ho5.sliceN (n := ys.length + eo.length) (by rw [List.length_append])))
     obtain ⟨n5, hn5⟩ : ∃ n, ys.length + eo.length = n := ⟨_, rfl⟩
     rw [hn5] at ho5
     have HO5 := hid ho5
     clear ho5
     go_roundw
     case rel => exact ⟨k + 1, n5, k5, q5, ys ++ eo, r, by simp, by simp [hn5], by omega, HR2, HNX, HO5, hb5⟩
     case measure => simp [intOf]; omega
theorem own_lit1 (B : Nat) (W : World) (hB : B ≤ W.heap.size) (z : Int) : Own B (W.alloc (.cells #[.int .u8 z] 5)) (.slice (some ⟨W.heap.size, 0, none⟩) 1 1) [z] :=
 World.ownsRow_lit (base := B) (e := 5) (size := 1) W #[.int .u8 z] 1 (by simpa using hB) (by decide) rfl
set_option maxRecDepth 100000 in
set_option maxHeartbeats 1600000 in
theorem Put06_any (t : Il) (a : Option Addr) (len c : Nat) (w : World) (hL : ListAt w.heap.size w a len t) (hn : len ≤ 140737488351232) (hc : t.count ≤ 4611686018427387900) (hx : (encL t).length ≤ 90000) :
  Calls Tryz.prog 178 #[.slice a len c] w (PutP w (putB t) (checkP t)) := by
 have CK := hid (checkDoc_any t a len c w hL hn hc)
 by_cases h0 : checkP t = 0
 ·have hm := mayT_list hL h0
  have LS := hid (fun (W : World) (hb : Below w.heap.size w W) => list06 (t.count + 1) t a len c W (Nat.lt_succ_self _) (hL.on hb) hm hx)
  unfold putB
  rw [if_pos h0]
  rw [h0] at CK ⊢
  unfold encP
  obtain ⟨zl, hzl⟩ : ∃ z, encL t = z := ⟨_, rfl⟩
  rw [hzl] at LS hx ⊢
  obtain ⟨m1, hm1⟩ : ∃ n, zl.length = n := ⟨_, rfl⟩
  have HX := hid hx
  have HM1 := hid hm1
  clear hzl hm h0 hx hc hn hL hm1
  go_enter Tryz.func178, Tryz.ntmps178
  go_wp2_with fail
  refine CK.out.mono ?_
  clear CK
  rintro e w1 ⟨rfl, hb1⟩
  go_wp2_with fail
  refine (LS.out _ hb1).mono ?_
  clear LS
  rintro e w2 ⟨v, rfl, ho, hb2⟩
  obtain ⟨q2, k2, rfl⟩ := ho.sliceN HM1.out
  have O2 := hid (ho.mono (base' := w.heap.size) hb1.size)
  have B2 := thenB hb1 hb2
  clear ho hb2
  go_wp2_with (first | (at_builtin; refine append_byte rfl _ _ rfl 11 rfl O2.out B2 B2.size rfl (by have := HX.out; omega) ?_; intro v3 w3 ho3 hb3 hs3; obtain ⟨q3, k3, rfl⟩ := ho3.sliceN (n := m1 + 1) (by rw [List.length_append, HM1.out]; rfl); have HO3 := hid ho3; clear ho3))
  go_ret2
  exact ⟨_, rfl, HO3.out, hb3⟩
 ·unfold putB
  rw [if_neg h0]
  obtain ⟨q, hq⟩ : ∃ q, checkP t = q := ⟨_, rfl⟩
  rw [hq] at CK h0 ⊢
  have h1 : (q != 0) = true := by simp [h0]
  clear hq hx hc hn hL
  go_enter Tryz.func178, Tryz.ntmps178
  go_wp2_with fail
  refine CK.out.mono ?_
  clear CK
  rintro e w1 ⟨rfl, hb1⟩
  go_wp2
  go_ret2
  exact ⟨_, rfl, ⟨rfl, .inl ⟨rfl, rfl⟩⟩, hb1⟩
set_option maxRecDepth 100000 in
set_option maxHeartbeats 3200000 in
theorem PutCode06_any (n : Int) (t : Il) (a : Option Addr) (len c : Nat) (w : World) (hL : ListAt w.heap.size w a len t) (hn : len ≤ 140737488351232) (hc : t.count ≤ 4611686018427387900) (hx : (encL t).length ≤ 90000) :
  Calls Tryz.prog 118 #[.agg #[.int .i64 n, .slice a len c]] w (PutP w (putC n t) (checkC n t)) := by
 by_cases hr : n < 0 ∨ 50000 < n
 ·have hce : checkC n t = 2 := if_pos hr
  have hpe : putC n t = [] := by unfold putC; rw [hce, if_neg (by decide)]
  rw [hce, hpe]
  clear hce hpe hL hn hc hx
  rcases hr with hr | hr
  ·go_enter Tryz.func118, Tryz.ntmps118
   go_wp2
   go_ret2
   exact ⟨_, rfl, ⟨rfl, .inl ⟨rfl, rfl⟩⟩, thenA (Below.refl _ _) _⟩
  ·have hr0 : ¬ n < 0 := by omega
   go_enter Tryz.func118, Tryz.ntmps118
   go_wp2
   go_ret2
   exact ⟨_, rfl, ⟨rfl, .inl ⟨rfl, rfl⟩⟩, thenA (Below.refl _ _) _⟩
 ·have hr0 : 0 ≤ n := by omega
  have hr1 : n ≤ 50000 := by omega
  have hr2 : ¬ n < 0 := by omega
  have hr3 : ¬ 50000 < n := by omega
  have hce : checkC n t = checkP t := if_neg hr
  have hpe : putC n t = if checkP t = 0 then codeL n t else [] := by unfold putC; rw [hce]
  rw [hce, hpe]
  have hb0 := alloc_below' w (.cells #[.int .i64 n, .slice a len c] 64)
  have PC := hid (Put06_any t a len c _ (hL.on hb0) hn hc hx)
  obtain ⟨x0, x1⟩ := box_at w n a len c 64
  have X0 := hid x0
  have HB0 := hid hb0
  by_cases h0 : checkP t = 0
  ·have hm := mayT_list hL h0
   rw [if_pos h0]
   have hput : putB t = encP t := by unfold putB; rw [if_pos h0]
   rw [hput, h0] at PC
   rw [h0]
   have hlen : (encP t).length = (encL t).length + 1 := by simp [encP]
   have HBY := hid (encP_bytesC hm)
   obtain ⟨zs, hzs⟩ : ∃ zs, encP t = zs := ⟨_, rfl⟩
   have hcode : codeL n t = locL n ++ zs := by unfold codeL; rw [hzs]
   rw [hcode]
   rw [hzs] at PC hlen HBY
   obtain ⟨L, hLn⟩ : ∃ L, zs.length = L := ⟨_, rfl⟩
   have HL := hid hLn
   have HLEN := hid (show 1 ≤ L ∧ L ≤ 90001 by omega)
   clear hr hce hpe hput h0 hm hlen hzs hcode hLn hx hc hL x0 x1 hb0
   by_cases hz : n = 0
   ·subst hz
    have hloc : locL 0 = [0] := rfl
    rw [hloc]
    clear hloc
    go_enter Tryz.func118, Tryz.ntmps118
    go_wp2_with fail
    refine PC.out.mono ?_
    clear PC
    rintro e w1 ⟨v, rfl, ho, hb1⟩
    obtain ⟨a1, c1, rfl⟩ := ho.sliceN (n := L) HL.out
    have HY1 := hid (ho.bytes HBY.out (by have := HL.out; have := HLEN.out; omega))
    have HN1 := ho.nil
    have x0 := keep hb1 X0.out
    have HB1 := HB0.out.trans (hb1.mono HB0.out.size)
    have OL := hid (own_lit1 w.heap.size w1 HB1.size 0)
    have HB2 := thenA HB1 (.cells #[.int .u8 0] 5)
    have HY2 := hid (HY1.out.alloc (.cells #[.int .u8 0] 5))
    clear ho hb1 X0 HB0 HBY HY1
    go_wp2_with (first | (at_builtin; refine append_bytes rfl _ _ rfl rfl OL.out HB2 HB2.size a1 _ c1 rfl HN1.out HL.out HY2.out (by have := HL.out; have := HLEN.out; simp; omega) ?_; intro v3 w3 ho3 hb3 hs3; obtain ⟨q3, k3, rfl⟩ := ho3.sliceN (n := 1 + L) (by rw [List.length_append, HL.out]; rfl); have HO3 := hid ho3; clear ho3))
    go_ret2
    exact ⟨_, rfl, HO3.out, hb3⟩
   ·have hloc : locL n = [1] ++ encU n ++ [127] := by unfold locL; rw [if_neg hz]; rfl
    rw [hloc]
    have PU := hid (fun W => refU_any n W hr0 (by omega))
    have LU := hid (encU_lens n).1
    have BU := hid (encU_bytes n)
    obtain ⟨eu, heu⟩ : ∃ e, encU n = e := ⟨_, rfl⟩
    rw [heu] at PU LU BU ⊢
    obtain ⟨m2, hm2⟩ : ∃ m, eu.length = m := ⟨_, rfl⟩
    have HM2 := hid hm2
    have hw : IntKind.u32.wrap n = n := by rw [IntKind.wrap_u32]; omega
    clear hloc heu hm2
    go_enter Tryz.func118, Tryz.ntmps118
    go_wp2_with fail
    refine PC.out.mono ?_
    clear PC
    rintro e w1 ⟨v, rfl, ho, hb1⟩
    obtain ⟨a1, c1, rfl⟩ := ho.sliceN (n := L) HL.out
    have HY1 := hid (ho.bytes HBY.out (by have := HL.out; have := HLEN.out; omega))
    have HN1 := ho.nil
    have x0 := keep hb1 X0.out
    have HB1 := HB0.out.trans (hb1.mono HB0.out.size)
    have HB1' := hid HB1
    have OL := hid (own_lit1 w1.heap.size w1 (Nat.le_refl _) 1)
    have HB2 := hid (alloc_below' w1 (.cells #[.int .u8 1] 5))
    have x2 := keep (alloc_below' w1 (.cells #[.int .u8 1] 5)) x0
    clear ho hb1 X0 HB0 HBY HB1
    go_wp2_with fail
    refine (PU.out _).mono ?_
    clear PU
    rintro e w3 ⟨v3, rfl, ho3, hb3⟩
    obtain ⟨q3, k3, rfl⟩ := ho3.sliceN HM2.out
    have RN := ho3.nil
    have RY := hid (ho3.bytes BU.out (by have := LU.out; omega))
    have O3 := hid (OL.out.below hb3)
    have B3 := HB2.out.trans (hb3.mono HB2.out.size)
    clear ho3 hb3 OL
    go_wp2_with (first
      | (at_builtin; refine append_bytes rfl _ _ rfl rfl O3.out B3 B3.size q3 _ k3 rfl RN.out HM2.out RY.out (by have := LU.out; simp; omega) ?_; intro v4 w4 ho4 hb4 hs4; obtain ⟨q4, k4, rfl⟩ := ho4.sliceN (n := 1 + m2) (by rw [List.length_append, HM2.out]; rfl); have HO4 := hid ho4; clear ho4)
      | (at_builtin; refine append_byte rfl _ _ rfl 127 rfl HO4.out hb4 hb4.size rfl (by have := LU.out; simp; omega) ?_; intro v5 w5 ho5 hb5 hs5; obtain ⟨q5, k5, rfl⟩ := ho5.sliceN (n := 1 + m2 + 1) (by rw [List.length_append, List.length_append, HM2.out]; rfl); have HO5 := hid ho5; clear ho5)
      | (at_builtin; refine append_bytes rfl _ _ rfl rfl HO5.out hb5 hb5.size a1 _ c1 rfl HN1.out HL.out (HY1.out.below hb5) (by have := LU.out; have := HL.out; have := HLEN.out; simp; omega) ?_; intro v6 w6 ho6 hb6 hs6; obtain ⟨q6, k6, rfl⟩ := ho6.sliceN (n := 1 + m2 + 1 + L) (by simp [HM2.out, HL.out]; omega); have HO6 := hid ho6; clear ho6))
    go_ret2
    exact ⟨_, rfl, HO6.out.mono HB1'.out.size, thenB HB1'.out hb6⟩
  ·rw [if_neg h0]
   have hput : putB t = [] := by unfold putB; rw [if_neg h0]
   rw [hput] at PC
   obtain ⟨q, hq⟩ : ∃ q, checkP t = q := ⟨_, rfl⟩
   rw [hq] at PC h0 ⊢
   have h1 : (q != 0) = true := by simp [h0]
   clear hr hce hpe hput hq hx hc hL x0 x1 hb0 X0
   go_enter Tryz.func118, Tryz.ntmps118
   go_wp2_with fail
   refine PC.out.mono ?_
   clear PC
   rintro e w1 ⟨v, rfl, ho, hb1⟩
   have HB1 := hid (HB0.out.trans (hb1.mono HB0.out.size))
   clear ho hb1
   go_wp2
   go_ret2
   exact ⟨_, rfl, ⟨rfl, .inl ⟨rfl, rfl⟩⟩, HB1.out⟩
end Go.Proofs.YtepbjkkakfpjgaaGreatDoor.Body
namespace Go.Proofs.YtepbjkkakfpjgaaGreatDoor.Enc
open Go.RowKit Leb Go.Proofs.YtepbjkkakfpjgaaGreatDoor.Instr Go.Proofs.YtepbjkkakfpjgaaGreatDoor.Mod
open Go.Proofs.YtepbjkkakfpjgaaGreatDoor.Body (encL codeL PutP)
set_option linter.unusedVariables false
def Tl (w : World) (ys : List Int) (e : Ending) (w' : World) : Prop := ∃ a n c, e = .returned (.slice a n c) ∧ ys.length = n ∧ Bytes w' a ys ∧ (a = none → c = 0) ∧ Below w.heap.size w w'
def TlT (w : World) (ys : List Int) (e : Ending) (w' : World) : Prop := ∃ a n c, e = .returned (.tuple #[.slice a n c, .int .i64 0]) ∧ ys.length = n ∧ Bytes w' a ys ∧ (a = none → c = 0) ∧ Below w.heap.size w w'
theorem tl_own {w w' : World} {ys : List Int} {e : Ending} (hz : ∀ z ∈ ys, 0 ≤ z ∧ z < 256) (hl : ys.length ≤ 140737488351232) (h : Gives w ys e w') : Tl w ys e w' := by
 obtain ⟨v, rfl, ho, hb⟩ := h
 obtain ⟨a, c, rfl⟩ := ho.slice
 exact ⟨a, _, c, rfl, rfl, ho.bytes hz hl, ho.nil.out, hb⟩
theorem u32_all (n : Int) (h0 : 0 ≤ n) (h1 : n < 4294967296) : IntKind.u32.wrap n = n := by rw [IntKind.wrap_u32]; omega
theorem encU_few (n : Int) : (encU n).length ≤ 5 := by rw [encU_length]; exact (sizeU_pos n).2
theorem u8_gives (n : Int) (w : World) (h0 : 0 ≤ n) (h1 : n < 4294967296) : Calls Tryz.prog 40 #[.int .i64 n] w (Gives w (encU n)) := by
 have hw := u32_all n h0 h1
 have C := hid (refU_any n w h0 h1)
 clear h0 h1
 go_enter Tryz.func40, Tryz.ntmps40
 go_wp2_with fail
 refine C.out.mono ?_
 rintro e w1 ⟨v, rfl, ho, hb⟩
 go_wp2
 go_ret
 exact ⟨v, rfl, ho, hb⟩
theorem u8_tl (n : Int) (w : World) (h0 : 0 ≤ n) (h1 : n < 4294967296) : Calls Tryz.prog 40 #[.int .i64 n] w (Tl w (encU n)) :=
 (u8_gives n w h0 h1).mono fun e w' h => tl_own (encU_bytes n) (by have := encU_few n; omega) h
theorem U8_tl (n : Int) (w : World) (h0 : 0 ≤ n) (h1 : n < 4294967296) : Calls Tryz.prog 113 #[.int .u32 n] w (Tl w (encU n)) :=
 (refU_any n w h0 h1).mono fun e w' h => tl_own (encU_bytes n) (by have := encU_few n; omega) h
theorem name8_tl (s : ByteArray) (w : World) (hs : s.size ≤ 1048576) (ht : noText s = false) : Calls Tryz.prog 115 #[.string s] w (Tl w (nameB s)) := by
 have hb : (Utf.scan (numsOf s)).2 = (numsOf s).length := (Utf.badL_neg _).1 (by
   unfold noText at ht
   have := of_decide_eq_false ht
   omega)
 have C := hid (Utf.refPut_good (numsOf s) (numsOf_bytes s) w (by rw [numsOf_length]; exact hs) hb)
 rw [str_numsOf, numsOf_length] at C
 have hl := nameB_len s
 have HZ := hid (fun W' v (ho : Own w.heap.size W' v (encU s.size ++ numsOf s)) hb => tl_own (w := w) (ys := nameB s) (nameB_bytes s) (by omega) ⟨v, rfl, ho, hb⟩)
 clear hb hl hs ht
 go_enter Tryz.func115, Tryz.ntmps115
 go_wp2_with fail
 refine C.out.mono ?_
 rintro e w1 ⟨v, rfl, ho, hb⟩
 go_wp2
 go_ret
 exact HZ.out _ _ ho hb
theorem code8_tl (l : Lst) (w : World) (hL : ListAt w.heap.size w l.a l.t.len l.t) (hl : l.t.len ≤ 140737488351232) (hc : l.t.count ≤ 1000000) (hx : (encL l.t).length ≤ 90000) (h : checkP l.t = 0) :
  Calls Tryz.prog 117 #[.slice l.a l.t.len l.c] w (Tl w (insB l)) := by
 have e : Body.putB l.t = insB l := by unfold Body.putB insB; rw [if_pos h]
 have C := hid (Body.Put06_any l.t l.a l.t.len l.c w hL hl (by omega) hx)
 rw [e, h] at C
 have hle : (insB l).length ≤ 140737488351232 := by
  show (encL l.t ++ [11]).length ≤ _
  simp; omega
 have HZ := hid (fun W' v (ho : Own w.heap.size W' v (insB l)) hb => tl_own (w := w) (ys := insB l) (insB_bytes hL h) hle ⟨v, rfl, ho, hb⟩)
 obtain ⟨n, hn⟩ : ∃ n, l.t.len = n := ⟨_, rfl⟩
 rw [hn] at C ⊢
 obtain ⟨a, c, t⟩ := l
 clear hL hl hc hx h e hle hn
 dsimp only at C ⊢
 go_enter Tryz.func117, Tryz.ntmps117
 go_wp2_with fail
 refine C.out.mono ?_
 rintro e w1 ⟨v, rfl, ho, hb⟩
 go_wp2
 go_ret
 exact HZ.out _ _ ho hb
theorem type8_tl (x : Int × Int) (h : Kind.okType x.1 x.2 = true) (w : World) : Calls Tryz.prog 114 #[.agg #[.int .i64 x.1, .int .i64 x.2]] w (TlT w (tyB x)) := by
 have e1 : Kind.putZ x.1 x.2 = tyB x := by unfold Kind.putZ tyB; rw [if_pos h]
 have e2 : Kind.codeType x.1 x.2 = 0 := by unfold Kind.codeType; rw [if_pos h]
 have := Kind.refPut_any x.1 x.2 _ rfl w
 rw [e1, e2] at this
 exact this.mono fun e w' ⟨a, q, he, hb, hz, hB⟩ => ⟨a, _, q, he, rfl, hb, hz.out, hB⟩
theorem lim8_tl (l : Li) (most : Int) (h : Kind.okLim l.n l.x l.c most = true) (h0 : 0 ≤ l.n ∧ l.n ≤ 4294967295) (h1 : 0 ≤ l.x ∧ l.x ≤ 4294967295) (w : World) :
  Calls Tryz.prog 116 #[.agg #[.int .u32 l.n, .int .u32 l.x, .bool l.c], .int .u32 most] w (TlT w (meB l)) := by
 have e1 : Kind.limZ l.n l.x l.c most = meB l := by unfold Kind.limZ meB; rw [if_pos h]
 have e2 : Kind.codeLim l.n l.x l.c most = 0 := by unfold Kind.codeLim; rw [if_pos h]
 have := Kind.refPutLim_any l.n l.x l.c most _ rfl h0 h1 w
 rw [e1, e2] at this
 exact this.mono fun e w' ⟨a, q, he, hb, hz, hB⟩ => ⟨a, _, q, he, rfl, hb, hz.out, hB⟩
theorem fcode8_new (f : Mod.Fn) (w : World) (hL : ListAt w.heap.size w f.l.a f.l.t.len f.l.t) (hl : f.l.t.len ≤ 140737488351232) (hc : f.l.t.count ≤ 1000000) (hx : (encL f.l.t).length ≤ 90000) (h : checkP f.l.t = 0) (h0 : 0 ≤ f.lo) (h1 : f.lo ≤ 50000) :
  Calls Tryz.prog 118 #[.agg #[.int .i64 f.lo, .slice f.l.a f.l.t.len f.l.c]] w (fun e w' => ∃ a n c, e = .returned (.tuple #[.slice a n c, .int .i64 0]) ∧ (codeL f.lo f.l.t).length = n ∧ Bytes w' a (codeL f.lo f.l.t) ∧ (∀ b off, a = some ⟨b, off, none⟩ → w.heap.size ≤ b) ∧ Below w.heap.size w w') := by
 have := Body.PutCode06_any f.lo f.l.t f.l.a f.l.t.len f.l.c w hL hl (by omega) hx
 have e0 : Body.checkC f.lo f.l.t = 0 := by unfold Body.checkC; rw [if_neg (by omega)]; exact h
 have e : Body.putC f.lo f.l.t = codeL f.lo f.l.t := by unfold Body.putC; rw [if_pos e0]
 rw [e, e0] at this
 refine this.mono fun e w' h' => ?_
 obtain ⟨v, rfl, ho, hb⟩ := h'
 obtain ⟨a, c, rfl⟩ := ho.slice
 refine ⟨a, _, c, rfl, rfl, ho.bytes (fun z hz => ?_) ?_, fun b off ha => ?_, hb⟩
 ·rcases List.mem_append.1 hz with hz | hz
  ·exact Body.loc_bytes f.lo z hz
  ·exact Body.encP_bytesC (Body.mayT_list hL h) z hz
 ·have := (Body.loc_len f.lo).1
  unfold codeL
  rw [List.length_append]
  show _ + (encL f.l.t ++ [11]).length ≤ _
  simp; omega
 ·subst ha
  exact (World.ownsRow.lt ho b rfl).1
structure Acc (W0 : World) (v : Value) (xs : List Int) (W : World) : Prop where
 own : Own W0.heap.size W v xs
 bel : Below W0.heap.size W0 W
 base : W0.heap.size ≤ W.heap.size
theorem Acc.call {W0 W W' : World} {v : Value} {xs : List Int} (h : Acc W0 v xs W) (hb : Below W.heap.size W W') : Acc W0 v xs W' := ⟨h.own.below hb, h.bel.trans (hb.mono h.base), Nat.le_trans h.base hb.size⟩
theorem Acc.start (W0 : World) : Acc W0 (.slice none 0 0) [] W0 := ⟨World.ownsRow_nil _ _ _ _, Below.refl _ _, Nat.le_refl _⟩
theorem Acc.of {W0 W : World} {xs : List Int} {e : Ending} (h : Gives W0 xs e W) : ∃ v, e = .returned v ∧ Acc W0 v xs W := by
 obtain ⟨v, he, ho, hb⟩ := h
 exact ⟨v, he, ho, hb, hb.size⟩
theorem Acc.gives {w W0 W : World} {v : Value} {xs ys : List Int} (hb : Below w.heap.size w W0) (h : Acc W0 v xs W) (e : xs = ys) : Gives w ys (.returned v) W := by
 subst e
 exact ⟨v, rfl, h.own.mono hb.size, hb.trans (h.bel.mono hb.size)⟩
theorem lit_two (W : World) (x y : Int) (hx : 0 ≤ x ∧ x < 256) (hy : 0 ≤ y ∧ y < 256) (t : TypeId) : Bytes (W.alloc (.cells #[.int .u8 x, .int .u8 y] t)) (some ⟨W.heap.size, 0, none⟩) [x, y] := by
 refine ⟨fun z hz => ?_, by simp, .inr ⟨W.heap.size, 0, rfl, fun i hi => ?_⟩⟩
 ·simp only [List.mem_cons, List.not_mem_nil, or_false] at hz
  rcases hz with rfl | rfl <;> assumption
 ·have hi2 : i < 2 := by simpa using hi
  match i, hi2 with
  | 0, _ => simp [go_sem]
  | 1, _ => simp [go_sem]
section
variable {ops : Array Oper} {rest : List Oper} {o : Oper} {act : Act} {Q : Exit → Act → World → Prop}
theorem none_run (w : World) (base : Nat) (t ty e : TypeId) (i : TypeInfo) (size c : Nat) (ht : Tryz.prog.underlying t = some (.slice e)) (hi : Tryz.prog.info? e = some i)
  (v : Value) (n : Nat) (xs : List Value) (hown : w.ownsRow base e size v n xs) : (Builtin.append_ #[t, t] ty #[v, .slice none 0 c]).run Tryz.prog w = .ok v w := by
 rcases hown.2 with ⟨rfl, rfl⟩ | ⟨g, cap, cur, rfl, _, _, hnc, _⟩
 ·simp [Builtin.append_, run_underlying ht, sizeOf, typeInfo, hi, Builtin.lenOf, Builtin.firstCells]
 ·simp [Builtin.append_, run_underlying ht, sizeOf, typeInfo, hi, Builtin.lenOf, Builtin.firstCells, hnc, storeCells]
theorem none_append (hgd : o.guard = none) (s x : Operand) (t : TypeId) (ho : o.op = .call { callee := .builtin .append, args := #[s, x], argTypes := #[t, t] })
  {w : World} (base : Nat) (e : TypeId) (i : TypeInfo) (size c : Nat) (ht : Tryz.prog.underlying t = some (.slice e)) (hi : Tryz.prog.info? e = some i)
  (v : Value) (n : Nat) (xs : List Value) (hs : act.eval s = v) (hown : w.ownsRow base e size v n xs) (hx : act.eval x = .slice none 0 c)
  (h : wpList Tryz.prog ops Q rest (act.put o.dst v) w) : wpList Tryz.prog ops Q (o :: rest) act w := by
 refine wpList_plain hgd fun K hK => ?_
 have hrun := none_run w base t o.type e i size c ht hi v n xs hown
 unfold Oper.wp
 simp [execOp, ho, resolve, invoke, builtin, hs, hx, hrun, Result.andThen]
 exact hK _ _ h
theorem append_tch (hgd : o.guard = none) (s x : Operand) (ho : o.op = .call { callee := .builtin .append, args := #[s, x], argTypes := #[35, 35] })
  {W0 wr : World} {v : Value} {xs ys : List Int} (hs : act.eval s = v) (hA : Acc W0 v xs wr)
  (a2 : Option Addr) (n c : Nat) (hx : act.eval x = .slice a2 n c) (hn : ys.length = n) (hy : Bytes wr a2 ys) (hl : xs.length + ys.length ≤ 140737488355328)
  (h : ∀ v' w', Acc W0 v' (xs ++ ys) w' → Touch (fun j => v.ownBlock = some j) wr w' → wpList Tryz.prog ops Q rest (act.put o.dst v') w') :
  wpList Tryz.prog ops Q (o :: rest) act wr := by
 obtain ⟨i0, hi, hz0, hz1, hz2⟩ := info_parts infoByte
 subst hn
 have fin : ∀ v' w', w'.ownsRow W0.heap.size 5 1 v' (xs.length + ys.length) (xs.map (Value.int .u8) ++ ys.map (Value.int .u8)) → wr.grownBy w' v.ownBlock → wpList Tryz.prog ops Q rest (act.put o.dst v') w' := by
  intro v' w' hown' hgrow
  refine h v' w' ⟨?_, hA.bel.grown hgrow hA.base (fun k hk => (World.ownsRow.lt hA.own k hk).1), ?_⟩ (Touch.of_grown hgrow)
  ·unfold Own; rw [List.length_append, List.map_append]; exact hown'
  ·have := hgrow.size; have := hA.base; omega
 rcases hy.at_ with h0 | ⟨b, off, rfl, hc⟩
 ·subst h0
  cases a2 with
  | none => exact none_append hgd s x 35 ho W0.heap.size 5 i0 1 c Tryz.underlying35 hi v xs.length _ hs hA.own hx (h v wr (by rw [List.append_nil]; exact hA) (Touch.refl _ _))
  | some ad =>
   refine wpList_append_own _ hgd s x 35 ho W0.heap.size 5 i0 (.int .u8 0) 1 1 Tryz.underlying35 hi hz0 hz1 hz2 rfl (by decide) v xs.length _ hs hA.own ad 0 c [] hx rfl
    (by simp) (by simp) ?_ ?_ hA.base (fun v' w' hown' hgrow _ => fin v' w' (by simpa using hown') hgrow)
   ·unfold maxLen; simp at hl; omega
   ·simp at hl; omega
 ·refine wpList_append_own _ hgd s x 35 ho W0.heap.size 5 i0 (.int .u8 0) 1 1 Tryz.underlying35 hi hz0 hz1 hz2 rfl (by decide) v xs.length _ hs hA.own ⟨b, off, none⟩ ys.length c (ys.map (Value.int .u8)) hx (by simp)
   ?_ ?_ ?_ ?_ hA.base (fun v' w' hown' hgrow _ => fin v' w' hown' hgrow)
  ·intro j u hj
   have hjl : j < ys.length := by
    rcases Nat.lt_or_ge j ys.length with h | h
    ·exact h
    ·rw [List.getElem?_eq_none (by simpa using h)] at hj; cases hj
   have hplain : (⟨b, off, none⟩ : Addr).add j = ⟨b, off + j, none⟩ := by unfold Addr.add; split <;> simp_all
   rw [hplain, hc j hjl]
   rw [← hj, getD_lt hjl]; simp [hjl]
  ·intro u hu
   obtain ⟨n, _, rfl⟩ := List.mem_map.1 hu
   rfl
  ·unfold maxLen; omega
  ·omega
theorem append_lie (hgd : o.guard = none) (s x : Operand) (ho : o.op = .call { callee := .builtin .append, args := #[s, x], argTypes := #[35, 35] })
  {W0 W : World} {v : Value} {xs ys : List Int} (hs : act.eval s = v) (h : Acc W0 v xs W) (a2 : Option Addr) (n c : Nat) (hx : act.eval x = .slice a2 n c) (hn : ys.length = n) (hy : Bytes W a2 ys) (hl : xs.length + ys.length ≤ 140737488355328)
  (hk : ∀ v' w', Acc W0 v' (xs ++ ys) w' → wpList Tryz.prog ops Q rest (act.put o.dst v') w') : wpList Tryz.prog ops Q (o :: rest) act W := by
 obtain ⟨i0, hi, _, _, _⟩ := info_parts infoByte
 cases a2 with
 | none =>
  have h0 : ys = [] := by
   rcases hy.at_ with h0 | ⟨b, off, hb, _⟩
   ·exact h0
   ·cases hb
  subst h0
  subst hn
  exact none_append hgd s x 35 ho W0.heap.size 5 i0 1 c Tryz.underlying35 hi v xs.length _ hs h.own hx (hk v W (by rw [List.append_nil]; exact h))
 | some ad => exact append_bytes hgd s x ho hs h.own h.bel h.base (some ad) n c hx (fun k => by cases k) hn hy hl (fun v' w' h1 h2 h3 => hk v' w' ⟨h1, h2, h3⟩)
end
end Go.Proofs.YtepbjkkakfpjgaaGreatDoor.Enc
namespace Go.Proofs.YtepbjkkakfpjgaaGreatDoor.Body
open Go.RowKit Go.Proofs.YtepbjkkakfpjgaaGreatDoor.Instr
open Kind (Rd numR refuseR)
theorem tags_of {w : World} {B : Nat} {ta : Option Addr} {tc : Nat} {tags : List Int} (h : OwnK 28 .u32 B w (.slice ta tags.length tc) tags) : TagsAt w.heap.size w ta tags ∧ (∀ q ∈ blkOf tags.length ta, B ≤ q) ∧ (blkOf tags.length ta).Nodup := by
 refine ⟨?_, ?_, ?_⟩
 ·rcases (OwnK.nums h).at_ with h0 | ⟨b, off, rfl, hc⟩
  ·exact .inl h0
  ·by_cases h0 : tags = []
   ·exact .inl h0
   ·exact .inr ⟨b, off, rfl, World.block_lt_of_cell? w _ (hc 0 (List.length_pos_iff.2 h0)), hc⟩
 ·intro q hq
  rcases h.2 with ⟨h0, _⟩ | ⟨g, cap, cur, hv, hg, _⟩
  ·simp only [Value.slice.injEq] at h0
   simp [h0.1, blkOf] at hq
  ·simp only [Value.slice.injEq] at hv
   obtain ⟨rfl, _, _⟩ := hv
   unfold blkOf at hq
   split at hq
   ·simp at hq
   ·simp at hq; omega
 ·unfold blkOf
  split
  ·exact List.nodup_nil
  ·split <;> simp
end Go.Proofs.YtepbjkkakfpjgaaGreatDoor.Body
namespace Go.Proofs.YtepbjkkakfpjgaaGreatDoor.Body
open Go.RowKit Go.Proofs.YtepbjkkakfpjgaaGreatDoor.Instr
open Kind (Rd numR refuseR)
structure Fresh (B : Nat) (w : World) (a : Option Addr) (n : Nat) (t : Il) : Prop where
 lst : ListAt w.heap.size w a n t
 nodup : (blkOf n a ++ t.foot).Nodup
 low : ∀ q ∈ blkOf n a ++ t.foot, B ≤ q
 soft : ∀ q ∈ blkOf n a ++ t.foot, Soft w q
theorem Fresh.nil (B : Nat) (w : World) : Fresh B w none 0 .nil := ⟨⟨rfl, .inl rfl⟩, by simp [blkOf, Il.foot], fun q hq => by simp [blkOf, Il.foot] at hq, fun q hq => by simp [blkOf, Il.foot] at hq⟩
end Go.Proofs.YtepbjkkakfpjgaaGreatDoor.Body
namespace Go.Proofs.YtepbjkkakfpjgaaGreatDoor.Body
open Go.RowKit
open Kind (Rd numR refuseR)
structure RcIs (w : World) (k : Nat) (v : Value) (s : Rd) (n : Int) : Prop extends RdIs w k v s where
 c4 : w.cell? ⟨k, 4, none⟩ = some (.int .i64 n)
 f4 : w.frozen? ⟨k, 4, none⟩ = false
theorem RcIs.count {w : World} {k : Nat} {v : Value} {s : Rd} {n : Int} (h : RcIs w k v s n) (m : Int) : RcIs (w.setCell ⟨k, 4, none⟩ (.int .i64 m)) k v s m := by
 refine ⟨⟨?_, ?_, ?_, ?_, ?_, ?_, ?_, ?_⟩, ?_, ?_⟩ <;> simp [go_sem, h.c0, h.c1, h.c2, h.c3, h.c4, h.f0, h.f1, h.f2, h.f3, h.f4]
end Go.Proofs.YtepbjkkakfpjgaaGreatDoor.Body
/-
  BODY: the document's own reader's next, number, signed, is, by contract. (tools/gen_bodyrefn.py)
-/
namespace Go.Proofs.YtepbjkkakfpjgaaGreatDoor.Body
open Go.RowKit Leb
open Kind (Rd numR refuseR)
end Go.Proofs.YtepbjkkakfpjgaaGreatDoor.Body
