import Derived.Test.YtepbjkkakfpjgaaGreatDoorBun19
import Derived.Test.YtepbjkkakfpjgaaGreatDoorBun02
import Derived.Test.YtepbjkkakfpjgaaGreatDoorBun11
import Derived.Test.YtepbjkkakfpjgaaGreatDoorBun15
import Derived.Test.YtepbjkkakfpjgaaGreatDoorBun18
import Derived.Test.YtepbjkkakfpjgaaGreatDoorBun12
import Derived.Laws.EntriesVeiled
import Derived.Lib.SlBytesConst
import Derived.KernelRfl
/-
  ENCODE: the list of the sections' methods; a section by its number, by contract; two buffers beside one another.
-/
namespace Go.Proofs.YtepbjkkakfpjgaaGreatDoor.Enc
open Go.RowKit Go.Shelf Go.Proofs.YtepbjkkakfpjgaaGreatDoor.Leb Go.Proofs.YtepbjkkakfpjgaaGreatDoor.Instr Go.Proofs.YtepbjkkakfpjgaaGreatDoor.Mod
open Go.Proofs.YtepbjkkakfpjgaaGreatDoor.Body (encL codeL)

def secF (k : Nat) : Nat := [99, 100, 101, 102, 103, 104, 105, 106, 107, 108, 109].getD k 0
theorem sec_enters (k : Nat) (hk : k < 11) : ∀ args w, (callFunc (secF k) args).run Tryz.prog w = .ok (.enter (secF k) args) w := by
  match k, hk with
  | 0, _ => exact enters_of Tryz.func99 (by kernel_rfl) rfl
  | 1, _ => exact enters_of Tryz.func100 (by kernel_rfl) rfl
  | 2, _ => exact enters_of Tryz.func101 (by kernel_rfl) rfl
  | 3, _ => exact enters_of Tryz.func102 (by kernel_rfl) rfl
  | 4, _ => exact enters_of Tryz.func103 (by kernel_rfl) rfl
  | 5, _ => exact enters_of Tryz.func104 (by kernel_rfl) rfl
  | 6, _ => exact enters_of Tryz.func105 (by kernel_rfl) rfl
  | 7, _ => exact enters_of Tryz.func106 (by kernel_rfl) rfl
  | 8, _ => exact enters_of Tryz.func107 (by kernel_rfl) rfl
  | 9, _ => exact enters_of Tryz.func108 (by kernel_rfl) rfl
  | 10, _ => exact enters_of Tryz.func109 (by kernel_rfl) rfl
/-- Each section's bytes are no more than a machine holds. -/
structure FitAll (m : Md) (most : Int) : Prop where
  ty : FitP tyB m.ty most
  im : FitP impB m.im most
  fn : FitP fnB m.fu most
  tb : FitP tbB m.tb most
  me : FitP meB m.me most
  gl : FitP glB m.gl most
  ex : FitP exB m.ex most
  el : FitP elB m.el most
  co : FitP coB m.fu most
  da : FitP daB m.da most
theorem sec_any (k : Nat) (hk : k < 11) (w0 W : World) (m : Md) (g B : Nat) (v : Value) (most : Int) (FI : Fine w0 m) (H : Wr w0 m g B most v [] W) (hf : FitAll m most) :
    Calls Tryz.prog (secF k) #[.pointer (some ⟨g, 0, none⟩)] W (PutsC most g B v W (secB m k)) := by
  match k, hk with
  | 0, _ => have := sec_types w0 W m g B v most FI H hf.ty; simp only [secB]; exact this
  | 1, _ => have := sec_imports w0 W m g B v most FI H hf.im; simp only [secB]; exact this
  | 2, _ => have := sec_funcs w0 W m g B v most FI H hf.fn; simp only [secB]; exact this
  | 3, _ => have := sec_tables w0 W m g B v most FI H hf.tb; simp only [secB]; exact this
  | 4, _ => have := sec_memories w0 W m g B v most FI H hf.me; simp only [secB]; exact this
  | 5, _ => have := sec_globals w0 W m g B v most FI H hf.gl; simp only [secB]; exact this
  | 6, _ => have := sec_exports w0 W m g B v most FI H hf.ex; simp only [secB]; exact this
  | 7, _ => exact (sec_start w0 W m g B v most FI H).mono fun e w' h => ⟨_, cut_all _ _, h⟩
  | 8, _ => have := sec_elems w0 W m g B v most FI H hf.el; simp only [secB]; exact this
  | 9, _ => have := sec_codes w0 W m g B v most FI H hf.co; simp only [secB]; exact this
  | 10, _ => have := sec_datas w0 W m g B v most FI H hf.da; simp only [secB]; exact this
theorem secB_few {m : Md} {most : Int} {k : Nat} (h : FitAll m most) (hk : k < 11) : (secB m k).length ≤ 1000000000 := by
  have lst : ∀ {α : Type} (f : α → List Int) (l : List α), FitP f l most → (lstB f l).length ≤ 1000000000 := by
    intro α f l hf
    unfold lstB
    split
    · simp
    · exact hf
  match k, hk with
  | 0, _ => simp only [secB]; exact lst _ _ h.ty
  | 1, _ => simp only [secB]; exact lst _ _ h.im
  | 2, _ => simp only [secB]; exact lst _ _ h.fn
  | 3, _ => simp only [secB]; exact lst _ _ h.tb
  | 4, _ => simp only [secB]; exact lst _ _ h.me
  | 5, _ => simp only [secB]; exact lst _ _ h.gl
  | 6, _ => simp only [secB]; exact lst _ _ h.ex
  | 7, _ =>
    simp only [secB]
    split
    · rw [encU_length]; have := (sizeU_pos m.sn).2; omega
    · simp
  | 8, _ => simp only [secB]; exact lst _ _ h.el
  | 9, _ => simp only [secB]; exact lst _ _ h.co
  | 10, _ => simp only [secB]; exact lst _ _ h.da
/-- Where the machine's largest number is the bound, all bytes are told. -/
theorem sec_whole (k : Nat) (hk : k < 11) (w0 W : World) (m : Md) (g B : Nat) (v : Value) (FI : Fine w0 m) (H : Wr w0 m g B 9223372036854775807 v [] W) (hf : FitAll m 9223372036854775807) :
    Calls Tryz.prog (secF k) #[.pointer (some ⟨g, 0, none⟩)] W (Puts g B v W (secB m k)) :=
  (sec_any k hk w0 W m g B v 9223372036854775807 FI H hf).mono fun e w' ⟨zs, hz, h⟩ => by
    have hl := secB_few (k := k) hf hk
    rw [hz.whole (by omega)] at h
    exact h
/-- The list of the methods. -/
def secsV (g : Nat) : Array Value := #[.func (.func 99) #[.pointer (some ⟨g, 0, none⟩)] #[], .func (.func 100) #[.pointer (some ⟨g, 0, none⟩)] #[], .func (.func 101) #[.pointer (some ⟨g, 0, none⟩)] #[], .func (.func 102) #[.pointer (some ⟨g, 0, none⟩)] #[], .func (.func 103) #[.pointer (some ⟨g, 0, none⟩)] #[], .func (.func 104) #[.pointer (some ⟨g, 0, none⟩)] #[], .func (.func 105) #[.pointer (some ⟨g, 0, none⟩)] #[], .func (.func 106) #[.pointer (some ⟨g, 0, none⟩)] #[], .func (.func 107) #[.pointer (some ⟨g, 0, none⟩)] #[], .func (.func 108) #[.pointer (some ⟨g, 0, none⟩)] #[], .func (.func 109) #[.pointer (some ⟨g, 0, none⟩)] #[]]
set_option maxHeartbeats 1000000 in
theorem sections_any (g : Nat) (w : World) : Calls Tryz.prog 33 #[.pointer (some ⟨g, 0, none⟩)] w fun e w' => e = .returned (.slice (some ⟨w.heap.size, 0, none⟩) 11 11) ∧ w' = w.alloc (.cells (secsV g) 1) := by
  unfold secsV
  go_enter Tryz.func33, Tryz.ntmps33
  go_wp2
  go_ret
  exact ⟨rfl, rfl⟩
theorem secs_at (g : Nat) (w : World) (t : TypeId) (j : Nat) (hj : j < 11) : (w.alloc (.cells (secsV g) t)).cell? ⟨w.heap.size, j, none⟩ = some (.func (.func (secF j)) #[.pointer (some ⟨g, 0, none⟩)] #[]) := by
  unfold secsV
  match j, hj with
  | 0, _ | 1, _ | 2, _ | 3, _ | 4, _ | 5, _ | 6, _ | 7, _ | 8, _ | 9, _ | 10, _ => simp [go_sem, secF]
/-- One buffer stays behind what is appended to another one. -/
theorem Buf.past {g B g2 B2 : Nat} {v u u' : Value} {zs ys : List Int} {w w' : World} (h : Buf g B v w v zs w) (k : Buf g2 B2 u w u' ys w') (a1 : g ≠ g2) (a2 : u.ownBlock ≠ some g) (a3 : v.ownBlock ≠ some g2) (a4 : ∀ q, v.ownBlock = some q → u.ownBlock ≠ some q) : Buf g B v w' v zs w' := by
  have hg : ¬ (g = g2 ∨ u.ownBlock = some g) := by rintro (e | e); exact a1 e; exact a2 e
  refine Buf.start (k.touch.cell hg h.c) ?_ (touch_row h.own k.touch (fun q hq => ?_)) h.sep h.low (Nat.le_trans h.lowB k.touch.size)
  · exact (World.frozen?_of_block (w := w) (k.touch.block g h.lt hg)).trans h.f
  · rintro (e | e)
    · exact a3 (by rw [hq, e])
    · exact a4 q hq e
theorem Buf.far {g B : Nat} {v v' : Value} {zs : List Int} {w w' : World} (h : Buf g B v w v' zs w') {p : Addr} {x : Value} (a1 : p.block ≠ g) (a2 : v.ownBlock ≠ some p.block) (hc : w.cell? p = some x) : w'.cell? p = some x :=
  h.touch.cell (by rintro (e | e); exact a1 e; exact a2 e) hc
/-- The buffer is emptied. -/
theorem Buf.clear {g B : Nat} {a : Option Addr} {n c : Nat} {zs : List Int} {w : World} (h : Buf g B (.slice a n c) w (.slice a n c) zs w) : Buf g B (.slice a 0 c) (w.setCell ⟨g, 0, none⟩ (.slice a 0 c)) (.slice a 0 c) [] (w.setCell ⟨g, 0, none⟩ (.slice a 0 c)) := by
  have hs : (Value.slice a 0 c).ownBlock ≠ some g := by have := h.sep; cases a <;> exact this
  refine Buf.start (World.cell?_setCell_same' _ _ _ (by rw [h.c]; rfl)) (by rw [World.frozen?_setCell]; exact h.f) ?_ hs h.low (by have := h.lowB; simpa [World.setCell] using this)
  refine touch_row ?_ ((Touch.refl (fun j => j = g) w).setCell (.inl rfl) _) (fun q hq e => hs (by rw [hq, e]))
  refine ⟨rfl, ?_⟩
  rcases h.own.2 with ⟨h0, _⟩ | ⟨q, cap, cur, hv, hq, hh, h1, h2, h3, h4⟩
  · obtain ⟨rfl, rfl, rfl⟩ : a = none ∧ n = 0 ∧ c = 0 := by simpa using h0
    exact .inl ⟨rfl, rfl⟩
  · obtain ⟨rfl, rfl, rfl⟩ : a = some ⟨q, 0, none⟩ ∧ n = zs.length ∧ c = cap := by simpa using hv
    exact .inr ⟨q, c, cur, rfl, hq, hh, Nat.zero_le _, h2, h3, by simp⟩
end Go.Proofs.YtepbjkkakfpjgaaGreatDoor.Enc

/-
  ENCODE: Section, by contract.
-/
namespace Go.Proofs.YtepbjkkakfpjgaaGreatDoor.Enc
open Go.RowKit Go.Shelf Go.Proofs.YtepbjkkakfpjgaaGreatDoor.Leb Go.Proofs.YtepbjkkakfpjgaaGreatDoor.Instr Go.Proofs.YtepbjkkakfpjgaaGreatDoor.Mod
open Go.Proofs.YtepbjkkakfpjgaaGreatDoor.Body (encL codeL PutP)

/-- A section's bytes, and the error. -/
def secR (m : Md) (id : Int) : List Int × Int := if m.check ≠ 0 then ([], m.check) else if id < 1 ∨ 11 < id then ([], 5) else (secB m (id - 1).toNat, 0)
/-- What is asked of a module so that its bytes can be told. -/
structure Ready (w : World) (m : Md) : Prop where
  nam : Nams w
  tab : Utf.Tabs w
  at_ : ModAt w.heap.size w m
  few : m.few
  siz : Sized m
  enc : ∀ l ∈ m.codes, (encL l.t).length ≤ 90000
theorem Ready.fine {w : World} {m : Md} (h : Ready w m) (hc : m.check = 0) : Fine w m := ⟨h.at_, h.few, h.nam, h.tab, hc, h.enc, h.siz⟩
theorem Ready.on {w w' : World} {m : Md} (h : Ready w m) (hb : Below w.heap.size w w') : Ready w' m := ⟨h.nam.below hb, h.tab.below hb, h.at_.on hb, h.few, h.siz, h.enc⟩
theorem putP_none {w w' : World} {er : Int} (hb : Below w.heap.size w w') : PutP w [] er (.returned (.tuple #[.slice none 0 0, .int .i64 er])) w' := ⟨_, rfl, ⟨rfl, .inl ⟨rfl, rfl⟩⟩, hb⟩
/-- A new writer. -/
def wrV (m : Md) (most : Int) : Array Value := #[.slice none 0 0, .slice m.ty'.a m.ty.length m.ty'.c, .slice m.im'.a m.im.length m.im'.c, .slice m.fu'.a m.fu.length m.fu'.c, .slice m.tb'.a m.tb.length m.tb'.c, .slice m.me'.a m.me.length m.me'.c,
  .slice m.gl'.a m.gl.length m.gl'.c, .slice m.ex'.a m.ex.length m.ex'.c, .bool m.st, .int .u32 m.sn, .slice m.el'.a m.el.length m.el'.c, .slice m.da'.a m.da.length m.da'.c, .int .i64 most]
theorem wr_new (w0 W : World) (m : Md) (most : Int) (t : TypeId) (hB : Below w0.heap.size w0 W) (hl : w0.heap.size < W.heap.size) : Wr w0 m W.heap.size (W.heap.size + 1) most (.slice none 0 0) [] (W.alloc (.cells (wrV m most) t)) := by
  refine ⟨Buf.start (by simp [go_sem, wrV]) (by simp [go_sem]) ⟨rfl, .inl ⟨rfl, rfl⟩⟩ (by simp [Value.ownBlock]) (by omega) (by simp), hB.trans (((Below.refl W.heap.size W).alloc (Nat.le_refl _) _).mono hB.size), hl, fun j x hx => ?_, by simp [go_sem, wrV]⟩
  have hj : j < 11 := by
    rcases Nat.lt_or_ge j 11 with h | h
    · exact h
    · rw [Array.getElem?_eq_none (by simpa [Md.v] using h)] at hx; cases hx
  match j, hj with
  | 0, _ | 1, _ | 2, _ | 3, _ | 4, _ | 5, _ | 6, _ | 7, _ | 8, _ | 9, _ | 10, _ => simp [Md.v] at hx; simp [go_sem, wrV, hx]
theorem Wr.on {w0 W W' : World} {m : Md} {g B : Nat} {most : Int} {v : Value} {zs : List Int} (h : Wr w0 m g B most v zs W) (hb : Below W.heap.size W W') : Wr w0 m g B most v zs W' :=
  ⟨(h.buf.on hb).again, h.low.trans (hb.mono h.low.size), h.hg, fun j x hx => Go.Proofs.YtepbjkkakfpjgaaGreatDoor.keep hb (h.box j x hx), Go.Proofs.YtepbjkkakfpjgaaGreatDoor.keep hb h.most⟩
set_option maxRecDepth 100000 in
set_option maxHeartbeats 4000000 in
theorem Section_any (m : Md) (id : Int) (w : World) (h : Ready w m) (hi : -9223372036854775808 ≤ id ∧ id ≤ 9223372036854775807) (ht : m.check = 0 → FitAll m 9223372036854775807) :
    Calls Tryz.prog 15 #[.agg m.v, .int .i64 id] w (PutP w (secR m id).1 (secR m id).2) := by
  have hb0 := (Below.refl w.heap.size w).alloc (Nat.le_refl _) (.cells m.v 32)
  have CK := hid (ModCheck_any m _ (h.nam.below hb0) (h.tab.below hb0) (h.at_.on hb0) h.few)
  have HB := hid hb0
  have X0 := BoxAt.made w m.v 32
  have HX := hid X0
  by_cases hc : m.check = 0
  · rw [hc] at CK
    have FI := hid (h.fine hc)
    have FA := hid (ht hc)
    by_cases h1 : id < 1
    · have HE : Hid (secR m id = ([], 5)) := by show _ = _; unfold secR; rw [if_neg (by simpa using hc), if_pos (.inl h1)]
      rw [HE.out]
      clear h ht hc HE FI FA hb0
      unfold Md.v at CK HB HX X0 ⊢
      have x0 := X0 0 _ rfl
      have x1 := X0 1 _ rfl
      have x2 := X0 2 _ rfl
      have x3 := X0 3 _ rfl
      have x4 := X0 4 _ rfl
      have x5 := X0 5 _ rfl
      have x6 := X0 6 _ rfl
      have x7 := X0 7 _ rfl
      have x8 := X0 8 _ rfl
      have x9 := X0 9 _ rfl
      have x10 := X0 10 _ rfl
      clear X0
      go_enter Tryz.func15, Tryz.ntmps15
      go_wp2_with fail
      refine CK.out.mono ?_
      rintro e1 w1 ⟨rfl, hb⟩
      have HB1 := hid (HB.out.trans (hb.mono HB.out.size))
      have HX1 := hid (HX.out.keep hb)
      have SA := hid (fun g w => sections_any g w)
      clear CK hb x0 x1 x2 x3 x4 x5 x6 x7 x8 x9 x10
      have x0 := HX1.out 0 _ rfl
      have x1 := HX1.out 1 _ rfl
      have x2 := HX1.out 2 _ rfl
      have x3 := HX1.out 3 _ rfl
      have x4 := HX1.out 4 _ rfl
      have x5 := HX1.out 5 _ rfl
      have x6 := HX1.out 6 _ rfl
      have x7 := HX1.out 7 _ rfl
      have x8 := HX1.out 8 _ rfl
      have x9 := HX1.out 9 _ rfl
      have x10 := HX1.out 10 _ rfl
      go_wp2_with fail
      refine (SA.out _ _).mono ?_
      rintro e2 w2 ⟨rfl, rfl⟩
      have HB2 := hid (thenA (thenA HB1.out (.cells (wrV m 9223372036854775807) 79)) (.cells (secsV (w1.heap.size)) 1))
      unfold wrV at HB2
      go_wp2
      exact bodyPost_ret (v := .tuple #[.slice none 0 0, .int .i64 5]) (by simp [results, Tryz.results15, go_sem]) rfl (putP_none HB2.out)
    · by_cases h2 : 11 < id
      · have HE : Hid (secR m id = ([], 5)) := by show _ = _; unfold secR; rw [if_neg (by simpa using hc), if_pos (.inr h2)]
        rw [HE.out]
        clear h ht hc HE FI FA hb0
        unfold Md.v at CK HB HX X0 ⊢
        have x0 := X0 0 _ rfl
        have x1 := X0 1 _ rfl
        have x2 := X0 2 _ rfl
        have x3 := X0 3 _ rfl
        have x4 := X0 4 _ rfl
        have x5 := X0 5 _ rfl
        have x6 := X0 6 _ rfl
        have x7 := X0 7 _ rfl
        have x8 := X0 8 _ rfl
        have x9 := X0 9 _ rfl
        have x10 := X0 10 _ rfl
        clear X0
        go_enter Tryz.func15, Tryz.ntmps15
        go_wp2_with fail
        refine CK.out.mono ?_
        rintro e1 w1 ⟨rfl, hb⟩
        have HB1 := hid (HB.out.trans (hb.mono HB.out.size))
        have HX1 := hid (HX.out.keep hb)
        have SA := hid (fun g w => sections_any g w)
        clear CK hb x0 x1 x2 x3 x4 x5 x6 x7 x8 x9 x10
        have x0 := HX1.out 0 _ rfl
        have x1 := HX1.out 1 _ rfl
        have x2 := HX1.out 2 _ rfl
        have x3 := HX1.out 3 _ rfl
        have x4 := HX1.out 4 _ rfl
        have x5 := HX1.out 5 _ rfl
        have x6 := HX1.out 6 _ rfl
        have x7 := HX1.out 7 _ rfl
        have x8 := HX1.out 8 _ rfl
        have x9 := HX1.out 9 _ rfl
        have x10 := HX1.out 10 _ rfl
        go_wp2_with fail
        refine (SA.out _ _).mono ?_
        rintro e2 w2 ⟨rfl, rfl⟩
        have HB2 := hid (thenA (thenA HB1.out (.cells (wrV m 9223372036854775807) 79)) (.cells (secsV (w1.heap.size)) 1))
        unfold wrV at HB2
        go_wp2
        exact bodyPost_ret (v := .tuple #[.slice none 0 0, .int .i64 5]) (by simp [results, Tryz.results15, go_sem]) rfl (putP_none HB2.out)
      · obtain ⟨k, hk, rfl⟩ : ∃ k : Nat, k < 11 ∧ id = (k : Int) + 1 := ⟨(id - 1).toNat, by omega, by omega⟩
        have HE : Hid (secR m ((k : Int) + 1) = (secB m k, 0)) := by show _ = _; unfold secR; rw [if_neg (by simpa using hc), if_neg (by omega)]; simp
        rw [HE.out]
        have HW := hid (fun (W : World) (hb : Below w.heap.size w W) (hl : w.heap.size < W.heap.size) => wr_new w W m 9223372036854775807 79 hb hl)
        have HLT := hid (show w.heap.size < (w.alloc (.cells m.v 32)).heap.size by simp)
        have SK := hid (fun (W : World) (g B : Nat) (v : Value) (H : Wr w m g B 9223372036854775807 v [] W) => sec_whole k hk w W m g B v FI.out H FA.out)
        have eg := sec_enters k hk
        have hki : (k : Int) < 11 := by omega
        have HAT := hid (fun g w t => secs_at g w t k hk)
        clear h ht hc HE FI FA hb0 hi h1 h2
        obtain ⟨G, hG⟩ : ∃ G, secF k = G := ⟨_, rfl⟩
        rw [hG] at SK eg HAT
        clear hG
        unfold Md.v at CK HB HX X0 ⊢
        have x0 := X0 0 _ rfl
        have x1 := X0 1 _ rfl
        have x2 := X0 2 _ rfl
        have x3 := X0 3 _ rfl
        have x4 := X0 4 _ rfl
        have x5 := X0 5 _ rfl
        have x6 := X0 6 _ rfl
        have x7 := X0 7 _ rfl
        have x8 := X0 8 _ rfl
        have x9 := X0 9 _ rfl
        have x10 := X0 10 _ rfl
        clear X0
        go_enter Tryz.func15, Tryz.ntmps15
        go_wp2_with fail
        refine CK.out.mono ?_
        rintro e1 w1 ⟨rfl, hb⟩
        have HB1 := hid (HB.out.trans (hb.mono HB.out.size))
        have HX1 := hid (HX.out.keep hb)
        have SA := hid (fun g w => sections_any g w)
        have HW1 := hid (HW.out w1 HB1.out (Nat.lt_of_lt_of_le (by simp) hb.size))
        unfold wrV at HW1
        clear CK hb HW x0 x1 x2 x3 x4 x5 x6 x7 x8 x9 x10
        have x0 := HX1.out 0 _ rfl
        have x1 := HX1.out 1 _ rfl
        have x2 := HX1.out 2 _ rfl
        have x3 := HX1.out 3 _ rfl
        have x4 := HX1.out 4 _ rfl
        have x5 := HX1.out 5 _ rfl
        have x6 := HX1.out 6 _ rfl
        have x7 := HX1.out 7 _ rfl
        have x8 := HX1.out 8 _ rfl
        have x9 := HX1.out 9 _ rfl
        have x10 := HX1.out 10 _ rfl
        go_wp2_with fail
        refine (SA.out _ _).mono ?_
        rintro e2 w2 ⟨rfl, rfl⟩
        have c := HAT.out w1.heap.size (w1.alloc (.cells (wrV m 9223372036854775807) 79)) 1
        unfold wrV at c
        simp only [World.size_alloc] at c
        have HW2 := hid (HW1.out.on ((Below.refl _ _).alloc (Nat.le_refl _) (.cells (secsV w1.heap.size) 1)))
        have CS := hid (SK.out _ _ _ _ HW2.out)
        clear HW1 SK HAT SA x0 x1 x2 x3 x4 x5 x6 x7 x8 x9 x10
        go_wp2_with fail
        refine CS.out.mono ?_
        rintro e3 w3 ⟨rfl, v3, hb3⟩
        have HOW := hid (hb3.own.mono (base' := w.heap.size) (by have := HB1.out.size; omega))
        have HZ := hid (hb3.deep HW2.out.buf.own HW2.out.low HW2.out.hg)
        have d := hb3.c
        clear CS hb3 HW2 c
        go_wp2
        exact bodyPost_ret (v := .tuple #[v3, .int .i64 0]) (by simp [results, Tryz.results15, go_sem]) rfl ⟨v3, rfl, HOW.out, HZ.out⟩
  · have HE : Hid (secR m id = ([], m.check)) := by show _ = _; unfold secR; rw [if_pos hc]
    rw [HE.out]
    obtain ⟨q, hq⟩ : ∃ q, m.check = q := ⟨_, rfl⟩
    rw [hq] at CK hc ⊢
    have hq1 : (q == 0) = false := by simpa using hc
    have hq2 : (q != 0) = true := by simpa using hc
    clear h ht HE hb0 hq
    unfold Md.v at CK HB HX X0 ⊢
    have x0 := X0 0 _ rfl
    have x1 := X0 1 _ rfl
    have x2 := X0 2 _ rfl
    have x3 := X0 3 _ rfl
    have x4 := X0 4 _ rfl
    have x5 := X0 5 _ rfl
    have x6 := X0 6 _ rfl
    have x7 := X0 7 _ rfl
    have x8 := X0 8 _ rfl
    have x9 := X0 9 _ rfl
    have x10 := X0 10 _ rfl
    clear X0
    go_enter Tryz.func15, Tryz.ntmps15
    go_wp2_with fail
    refine CK.out.mono ?_
    rintro e1 w1 ⟨rfl, hb⟩
    have HB1 := hid (HB.out.trans (hb.mono HB.out.size))
    clear CK hb x0 x1 x2 x3 x4 x5 x6 x7 x8 x9 x10
    go_wp2
    exact bodyPost_ret (v := .tuple #[.slice none 0 0, .int .i64 q]) (by simp [results, Tryz.results15, go_sem]) rfl (putP_none HB1.out)
end Go.Proofs.YtepbjkkakfpjgaaGreatDoor.Enc

/-
  ENCODE: bytes that are told: their own, or such as a constant has, which are never written over; the bytes of sections are bytes.
-/
namespace Go.Proofs.YtepbjkkakfpjgaaGreatDoor.Enc
open Go.RowKit Go.Shelf Go.Proofs.YtepbjkkakfpjgaaGreatDoor.Leb Go.Proofs.YtepbjkkakfpjgaaGreatDoor.Instr Go.Proofs.YtepbjkkakfpjgaaGreatDoor.Mod
open Go.Proofs.YtepbjkkakfpjgaaGreatDoor.Body (encL codeL PutP Grew)

/-- The bytes that cell g tells: a row of its own, or a full one. -/
structure Out (g B : Nat) (v : Value) (xs : List Int) (w : World) : Prop where
  c : w.cell? ⟨g, 0, none⟩ = some v
  f : w.frozen? ⟨g, 0, none⟩ = false
  sep : v.ownBlock ≠ some g
  low : g ≤ B + 1
  lowB : B ≤ w.heap.size
  lt : ∀ q, v.ownBlock = some q → B ≤ q ∧ q < w.heap.size
  byt : ∃ a n c, v = .slice a n c ∧ xs.length = n ∧ Bytes w a xs ∧ (a = none → c = 0)
  kind : Own B w v xs ∨ ∃ q, v = .slice (some ⟨q, 0, none⟩) xs.length xs.length
theorem Out.of {g B : Nat} {v0 v : Value} {xs : List Int} {w0 w : World} (h : Buf g B v0 w0 v xs w) (hz : ∀ z ∈ xs, 0 ≤ z ∧ z < 256) (hl : xs.length ≤ 2000000000) : Out g B v xs w := by
  refine ⟨h.c, h.f, h.sep, h.low, Nat.le_trans h.lowB h.touch.size, World.ownsRow.lt h.own, ?_, .inl h.own⟩
  have ho := h.own
  obtain ⟨a, c, rfl⟩ := ho.sliceN rfl
  exact ⟨a, _, c, rfl, rfl, ho.bytes hz (by omega), ho.nil.out⟩
theorem Out.past {g B g2 B2 : Nat} {v u u' : Value} {zs ys : List Int} {w w' : World} (h : Out g B v zs w) (k : Buf g2 B2 u w u' ys w') (a1 : g ≠ g2) (a2 : u.ownBlock ≠ some g) (a3 : v.ownBlock ≠ some g2) (a4 : ∀ q, v.ownBlock = some q → u.ownBlock ≠ some q) : Out g B v zs w' := by
  have hg : ¬ (g = g2 ∨ u.ownBlock = some g) := by rintro (e | e); exact a1 e; exact a2 e
  have hgl : g < w.heap.size := World.block_lt_of_cell? w _ h.c
  refine ⟨k.touch.cell hg h.c, (World.frozen?_of_block (w := w) (k.touch.block g hgl hg)).trans h.f, h.sep, h.low, Nat.le_trans h.lowB k.touch.size, fun q hq => ⟨(h.lt q hq).1, Nat.lt_of_lt_of_le (h.lt q hq).2 k.touch.size⟩, ?_, ?_⟩
  · obtain ⟨a, n, c, rfl, hn, hb, h0⟩ := h.byt
    refine ⟨a, n, c, rfl, hn, Bytes.touchE hb k.touch (fun b off ha _ => ?_), h0⟩
    subst ha
    rintro (e | e)
    · exact a3 (by rw [← e]; rfl)
    · exact a4 b rfl e
  · rcases h.kind with h1 | h1
    · exact .inl (touch_row h1 k.touch (fun q hq => by rintro (e | e); exact a3 (by rw [hq, e]); exact a4 q hq e))
    · exact .inr h1
/-- An append to a full row makes a new one. -/
theorem run_full {B : Nat} {wr : World} {q : Nat} {xs : List Int} (z : Int) (hx : Bytes wr (some ⟨q, 0, none⟩) xs) (hB : B ≤ wr.heap.size) (b : Nat) (hc : wr.cell? ⟨b, 0, none⟩ = some (.int .u8 z)) (hl : xs.length ≤ 2000000000) (ty : TypeId) :
    ∃ v' w', (Builtin.append_ #[76, 76] ty #[.slice (some ⟨q, 0, none⟩) xs.length xs.length, .slice (some ⟨b, 0, none⟩) 1 1]).run Tryz.prog wr = .ok v' w' ∧ Own B w' v' (xs ++ [z]) ∧ Below wr.heap.size wr w' ∧ v'.ownBlock = some wr.heap.size := by
  obtain ⟨i0, hi, hz0, hz1, hz2⟩ := info_parts infoByte
  have hadd : ∀ (b j : Nat), (⟨b, 0, none⟩ : Addr).add j = ⟨b, j, none⟩ := plain_add
  have holds : ∀ (j : Nat) (v : Value), (xs.map (Value.int .u8))[j]? = some v → wr.cell? ((⟨q, 0, none⟩ : Addr).add j) = some v := by
    intro j v hj
    have hjl : j < xs.length := by
      rcases Nat.lt_or_ge j xs.length with h | h
      · exact h
      · rw [List.getElem?_eq_none (by simpa using h)] at hj; cases hj
    obtain ⟨b', off', he, hcc⟩ := hx.at (by omega)
    simp only [Option.some.injEq, Addr.mk.injEq] at he
    obtain ⟨rfl, rfl, _⟩ := he
    rw [hadd, ← Nat.zero_add j, hcc j hjl]
    rw [← hj, getD_lt hjl]; simp [hjl]
  have hnews : ∀ (j : Nat) (v : Value), ([Value.int .u8 z])[j]? = some v → wr.cell? ((⟨b, 0, none⟩ : Addr).add j) = some v := by
    intro j v hj
    match j, hj with
    | 0, hj => simp at hj; subst hj; rw [hadd]; exact hc
  have hr := run_append_grow (P := Tryz.prog) wr 76 ty 5 i0 (.int .u8 0) Tryz.underlying76 hi hz0 ⟨q, 0, none⟩ xs.length xs.length (xs.map (Value.int .u8)) (by rw [hz1]; simp) holds ⟨b, 0, none⟩ 1 1 [.int .u8 z] (by rw [hz1]; rfl) hnews (by omega) (by omega) (growslice_fits (by omega) (by rw [hz2]; omega))
  refine ⟨_, _, hr, ?_, ((Below.refl _ _).drew.alloc (Nat.le_refl _) _), rfl⟩
  have hge := grownCap_ge wr (xs.length + 1) xs.length 5
  have hcm : grownCap wr (xs.length + 1) xs.length 5 ≤ maxLen := grownCap_le_maxLen wr (xs.length + 1) xs.length 5 (by unfold maxLen; omega)
  unfold Own
  refine ⟨by simp, .inr ⟨wr.heap.size, _, _, by rw [List.length_append]; rfl, hB, heap_alloc_new wr.drew _, by rw [List.length_append]; exact hge, hcm, ?_, ?_⟩⟩
  · simp only [Array.size_append, List.size_toArray, size_zeroCells, List.length_map, List.length_cons, List.length_nil]
    have : (Value.int .u8 0).cells.size = 1 := rfl
    rw [this]
    omega
  · rw [List.map_append]
    simp only [Array.toList_append]
    rw [List.take_append_of_le_length (by simp)]
    simp [List.take_of_length_le]
section
variable {ops : Array Oper} {rest : List Oper} {o : Oper} {act : Act} {Q : Exit → Act → World → Prop}
theorem run_wp {t1 t2 : TypeId} (hgd : o.guard = none) (s x : Operand) (ho : o.op = .call { callee := .builtin .append, args := #[s, x], argTypes := #[t1, t2] })
    {wr w' : World} {v u v' : Value} (hs : act.eval s = v) (hx : act.eval x = u) (hr : (Builtin.append_ #[t1, t2] o.type #[v, u]).run Tryz.prog wr = .ok v' w')
    (h : wpList Tryz.prog ops Q rest (act.put o.dst v') w') : wpList Tryz.prog ops Q (o :: rest) act wr := by
  refine wpList_plain hgd fun K hK => ?_
  unfold Oper.wp
  simp [execOp, ho, resolve, invoke, builtin, hs, hx, hr, Result.andThen]
  exact hK _ _ h
end
set_option maxRecDepth 100000 in
set_option maxHeartbeats 1000000 in
theorem byte_out (g B : Nat) (v : Value) (xs : List Int) (z : Int) (w : World) (h : Out g B v xs w) (hz : 0 ≤ z ∧ z < 256) (hl : xs.length ≤ 1000000000) :
    Calls Tryz.prog 34 #[.pointer (some ⟨g, 0, none⟩), .int .u8 z] w (Puts g B v w (xs ++ [z])) := by
  rcases h.kind with hk | ⟨q, rfl⟩
  · exact byte_any g B v xs z w (Buf.start h.c h.f hk h.sep h.low h.lowB) hz (by omega)
  · have hbt : Bytes w (some ⟨q, 0, none⟩) xs := by
      obtain ⟨a, n, c, he, hn, hb, _⟩ := h.byt
      simp only [Value.slice.injEq] at he
      obtain ⟨rfl, _, _⟩ := he
      exact hb
    have hb1 := (Below.refl w.heap.size w).alloc (Nat.le_refl _) (.cells #[.int .u8 z] 5)
    obtain ⟨v', w', hr, ho, hb2, hv⟩ := run_full (B := B) (wr := w.alloc (.cells #[.int .u8 z] 5)) z (hbt.below hb1) (by have := h.lowB; simp; omega) w.heap.size (by simp [go_sem]) (by omega) 76
    have hb3 := thenB hb1 hb2
    have c0 := h.c
    have f0 := h.f
    have hgl : g < w.heap.size := World.block_lt_of_cell? w _ h.c
    obtain ⟨N, hN⟩ : ∃ N, (xs ++ [z]).length = N := ⟨_, rfl⟩
    have ho2 := ho
    obtain ⟨a1, q1, rfl⟩ := ho2.sliceN hN
    have hsep : (Value.slice a1 N q1).ownBlock ≠ some g := by rw [hv]; simp; omega
    have c1 := Go.Proofs.YtepbjkkakfpjgaaGreatDoor.keep hb3 c0
    have f1 : w'.frozen? ⟨g, 0, none⟩ = false := (hb3.frozen (p := ⟨g, 0, none⟩) hgl).trans f0
    have HZ : Hid (Buf g B (.slice (some ⟨q, 0, none⟩) xs.length xs.length) w (.slice a1 N q1) (xs ++ [z]) (w'.setCell ⟨g, 0, none⟩ (.slice a1 N q1))) := by
      refine hid ⟨World.cell?_setCell_same' _ _ _ (by rw [c1]; rfl), by rw [World.frozen?_setCell]; exact f1, touch_row ho ((Touch.refl (fun j => j = g) w').setCell (.inl rfl) _) (fun q hq e => hsep (by rw [hq, e])), ((Touch.of_below hb3).mono (fun j hj => hj)).setCell (.inl (.inl rfl)) _, fun j hj => ?_, fun q hq => ?_, hsep, h.low, h.lowB, hgl⟩
      · refine Eq.trans ?_ (hb3.cell (p := ⟨g, j, none⟩) hgl)
        exact World.cell?_setCell_other _ _ _ _ (by intro e; simp only [Addr.mk.injEq, true_and, and_true] at e; exact hj e.symm)
      · rw [hv] at hq; simp at hq; exact .inr (by omega)
    have HR := hid hr
    clear h hbt hb1 ho hb2 hb3 ho2 hv hsep hN hz hr
    go_enter Tryz.func34, Tryz.ntmps34
    go_wp2_with (first
      | (at_builtin; refine run_wp rfl (.tmp 7) (.tmp 9) rfl rfl rfl HR.out ?_))
    go_end0
    exact ⟨rfl, _, HZ.out⟩
end Go.Proofs.YtepbjkkakfpjgaaGreatDoor.Enc

/-
  ENCODE: Module, by contract.
-/
namespace Go.Proofs.YtepbjkkakfpjgaaGreatDoor.Enc
open Go.RowKit Go.Shelf Go.Proofs.YtepbjkkakfpjgaaGreatDoor.Leb Go.Proofs.YtepbjkkakfpjgaaGreatDoor.Instr Go.Proofs.YtepbjkkakfpjgaaGreatDoor.Mod
open Go.Proofs.YtepbjkkakfpjgaaGreatDoor.Body (encL codeL PutP)

/-- All bytes, and the error. -/
def modR (m : Md) : List Int × Int := if m.check ≠ 0 then ([], m.check) else if 1048576 < (modB m).length then ([], 3) else (modB m, 0)
theorem upto_mono (m : Md) : ∀ (j k : Nat), (uptoB m k).length ≤ (uptoB m (k + j)).length
  | 0, _ => Nat.le_refl _
  | j + 1, k => by
    have := upto_mono m j k
    rw [show k + (j + 1) = (k + j) + 1 by omega, upto_succ, List.length_append]
    omega
theorem upto_long {m : Md} {k : Nat} (hk : k ≤ 11) (h : 1048576 < (uptoB m k).length) : 1048576 < (modB m).length := by
  have := upto_mono m (11 - k) k
  rw [show k + (11 - k) = 11 by omega] at this
  exact Nat.lt_of_lt_of_le h this
/-- What holds between two sections. -/
structure St (w : World) (m : Md) (go Bo gw Bw s : Nat) (vo : Value) (os : List Int) (vw : Value) (zs : List Int) (W : World) : Prop where
  o : Out go Bo vo os W
  wr : Wr w m gw Bw 1048576 vw zs W
  arr : ∀ j, j < 11 → W.cell? ⟨s, j, none⟩ = some (.func (.func (secF j)) #[.pointer (some ⟨gw, 0, none⟩)] #[])
  d1 : go ≠ gw
  d2 : s ≠ go
  d3 : s ≠ gw
  a1 : vo.ownBlock ≠ some gw
  a2 : vw.ownBlock ≠ some go
  a3 : ∀ q, vo.ownBlock = some q → vw.ownBlock ≠ some q
  a4 : vo.ownBlock ≠ some s
  a5 : vw.ownBlock ≠ some s
  hgo : w.heap.size < go
theorem St.s_lt {w : World} {m : Md} {go Bo gw Bw s : Nat} {vo vw : Value} {os zs : List Int} {W : World} (h : St w m go Bo gw Bw s vo os vw zs W) : s < W.heap.size := World.block_lt_of_cell? W _ (h.arr 0 (by omega))
theorem St.write {w : World} {m : Md} {go Bo gw Bw s : Nat} {vo vw v' : Value} {os zs ys : List Int} {W W' : World} (h : St w m go Bo gw Bw s vo os vw zs W) (hb : Buf gw Bw vw W v' ys W') : St w m go Bo gw Bw s vo os v' ys W' := by
  refine ⟨h.o.past hb h.d1 h.a2 h.a1 h.a3, ⟨hb.again, hb.deep h.wr.buf.own h.wr.low h.wr.hg, h.wr.hg, fun j x hx => (hb.rest (1 + j) (by omega)).trans (h.wr.box j x hx), (hb.rest 12 (by omega)).trans h.wr.most⟩,
    fun j hj => hb.far (p := ⟨s, j, none⟩) h.d3 h.a5 (h.arr j hj), h.d1, h.d2, h.d3, h.a1, fun e => ?_, fun q hq e => ?_, h.a4, fun e => ?_, h.hgo⟩
  · rcases hb.new _ e with e | e
    · exact h.a2 e
    · have := World.block_lt_of_cell? W _ h.o.c; simp at this; omega
  · rcases hb.new _ e with e | e
    · exact h.a3 q hq e
    · have := (h.o.lt q hq).2; omega
  · rcases hb.new _ e with e | e
    · exact h.a5 e
    · have := h.s_lt; omega
theorem St.out {w : World} {m : Md} {go Bo gw Bw s : Nat} {vo vw v' : Value} {os zs ys : List Int} {W W' : World} (h : St w m go Bo gw Bw s vo os vw zs W) (hb : Buf go Bo vo W v' ys W') (hz : ∀ z ∈ ys, 0 ≤ z ∧ z < 256) (hl : ys.length ≤ 2000000000) : St w m go Bo gw Bw s v' ys vw zs W' := by
  have far : ∀ {p : Addr} {x : Value}, p.block = gw → W.cell? p = some x → W'.cell? p = some x := fun {p x} hp hc => hb.far (by rw [hp]; exact fun e => h.d1 e.symm) (by rw [hp]; exact h.a1) hc
  refine ⟨Out.of hb hz hl, ⟨h.wr.buf.past hb (fun e => h.d1 e.symm) h.a1 h.a2 (fun q hq e => h.a3 q e hq), h.wr.low.trans (hb.below (Nat.le_of_lt h.hgo) (fun q hq => by have := (h.o.lt q hq).1; have := h.o.low; have := h.hgo; omega)), h.wr.hg, fun j x hx => far rfl (h.wr.box j x hx), far rfl h.wr.most⟩,
    fun j hj => hb.far (p := ⟨s, j, none⟩) h.d2 h.a4 (h.arr j hj), h.d1, h.d2, h.d3, fun e => ?_, h.a2, fun q hq e => ?_, fun e => ?_, h.a5, h.hgo⟩
  · rcases hb.new _ e with e | e
    · exact h.a1 e
    · have := h.wr.buf.lt; omega
  · rcases hb.new _ hq with e2 | e2
    · exact h.a3 q e2 e
    · have := (World.ownsRow.lt h.wr.buf.own q e).2; omega
  · rcases hb.new _ e with e | e
    · exact h.a4 e
    · have := h.s_lt; omega
theorem St.clear {w : World} {m : Md} {go Bo gw Bw s : Nat} {vo : Value} {os zs : List Int} {W : World} {a : Option Addr} {n c : Nat} (h : St w m go Bo gw Bw s vo os (.slice a n c) zs W) : St w m go Bo gw Bw s vo os (.slice a 0 c) [] (W.setCell ⟨gw, 0, none⟩ (.slice a 0 c)) := by
  have hf : ∀ {p : Addr} {x : Value}, p ≠ ⟨gw, 0, none⟩ → W.cell? p = some x → (W.setCell ⟨gw, 0, none⟩ (.slice a 0 c)).cell? p = some x := fun {p x} hp hc => (World.cell?_setCell_other _ _ _ _ (fun e => hp e.symm)).trans hc
  have ht : Touch (fun j => j = gw) W (W.setCell ⟨gw, 0, none⟩ (.slice a 0 c)) := (Touch.refl (fun j => j = gw) W).setCell (.inl rfl) _
  have hs : (Value.slice a 0 c).ownBlock = (Value.slice a n c).ownBlock := by cases a <;> rfl
  refine ⟨?_, ⟨h.wr.buf.clear, h.wr.low.setCell (Nat.le_of_lt h.wr.hg) _, h.wr.hg, fun j x hx => hf (by intro e; simp only [Addr.mk.injEq, true_and, and_true] at e; omega) (h.wr.box j x hx), hf (by simp) h.wr.most⟩,
    fun j hj => hf (by intro e; simp only [Addr.mk.injEq] at e; exact h.d3 e.1) (h.arr j hj), h.d1, h.d2, h.d3, h.a1, by rw [hs]; exact h.a2, fun q hq => by rw [hs]; exact h.a3 q hq, h.a4, by rw [hs]; exact h.a5, h.hgo⟩
  have ho := h.o
  refine ⟨hf (by intro e; simp only [Addr.mk.injEq] at e; exact h.d1 e.1) ho.c, by rw [World.frozen?_setCell]; exact ho.f, ho.sep, ho.low, by have := ho.lowB; simpa [World.setCell] using this, fun q hq => by have := ho.lt q hq; simpa [World.setCell] using this, ?_, ?_⟩
  · obtain ⟨a, n, c, he, hn, hb, h0⟩ := ho.byt
    refine ⟨a, n, c, he, hn, Bytes.touchE hb ht (fun b off ha _ e => ?_), h0⟩
    subst ha
    exact h.a1 (by rw [he, ← e]; rfl)
  · rcases ho.kind with h1 | h1
    · exact .inl (touch_row h1 ht (fun q hq e => h.a1 (by rw [hq, e])))
    · exact .inr h1
/-- Bytes that a call told, and an error. -/
def ModP (w : World) (zs : List Int) (er : Int) (e : Ending) (w' : World) : Prop := ∃ a n c, e = .returned (.tuple #[.slice a n c, .int .i64 er]) ∧ zs.length = n ∧ Bytes w' a zs ∧ (a = none → c = 0) ∧ Below w.heap.size w w'
theorem modP_none {w w' : World} {er : Int} (hb : Below w.heap.size w w') : ModP w [] er (.returned (.tuple #[.slice none 0 0, .int .i64 er])) w' := ⟨none, 0, 0, rfl, rfl, ⟨by simp, by simp, .inl rfl⟩, fun _ => rfl, hb⟩
theorem piece_none {m : Md} {k : Nat} (h : secB m k = []) : uptoB m (k + 1) = uptoB m k := by rw [upto_succ]; unfold pieceB; rw [if_pos h, List.append_nil]
theorem piece_some {m : Md} {k : Nat} (h : secB m k ≠ []) : uptoB m (k + 1) = (uptoB m k ++ [((k + 1 : Nat) : Int)]) ++ (encU (secB m k).length ++ secB m k) := by rw [upto_succ]; unfold pieceB; rw [if_neg h]; simp
theorem new_at (W : World) (C : Array Value) (t : TypeId) (m : Nat × Nat) (i : Nat) (x : Value) (h : C[i]? = some x) : (W.alloc (.cells C t m)).cell? ⟨W.heap.size, i, none⟩ = some x := by
  have hh : (W.alloc (.cells C t m)).heap[W.heap.size]? = some (.cells C t m) := heap_alloc_new W _
  unfold World.cell?
  rw [hh]
  exact h
theorem St.start {w W : World} {m : Md} (t1 t2 t3 : TypeId) (hB : Below w.heap.size w W) (hl : w.heap.size < W.heap.size) :
    St w m (W.heap.size + 1) W.heap.size (W.heap.size + 2) (W.heap.size + 3) (W.heap.size + 3) (.slice (some ⟨W.heap.size, 0, none⟩) 8 8) headB (.slice none 0 0) []
      ((((W.alloc (.cells #[.int .u8 0, .int .u8 97, .int .u8 115, .int .u8 109, .int .u8 1, .int .u8 0, .int .u8 0, .int .u8 0] 5 (8, 9))).alloc (.cells #[.slice (some ⟨W.heap.size, 0, none⟩) 8 8] t1)).alloc (.cells (wrV m 1048576) t2)).alloc (.cells (secsV (W.heap.size + 2)) t3)) := by
  have by1 : Bytes (W.alloc (.cells #[.int .u8 0, .int .u8 97, .int .u8 115, .int .u8 109, .int .u8 1, .int .u8 0, .int .u8 0, .int .u8 0] 5 (8, 9))) (some ⟨W.heap.size, 0, none⟩) headB := by
    refine ⟨by unfold headB; intro z hz; simp at hz; omega, by simp [headB], .inr ⟨_, 0, rfl, fun i hi => ?_⟩⟩
    have hi8 : i < 8 := hi
    match i, hi8 with
    | 0, _ | 1, _ | 2, _ | 3, _ | 4, _ | 5, _ | 6, _ | 7, _ => exact new_at W _ _ _ _ _ rfl
  obtain ⟨W1, hW1⟩ : ∃ W1, W1 = W.alloc (.cells #[.int .u8 0, .int .u8 97, .int .u8 115, .int .u8 109, .int .u8 1, .int .u8 0, .int .u8 0, .int .u8 0] 5 (8, 9)) := ⟨_, rfl⟩
  have s1 : W1.heap.size = W.heap.size + 1 := by rw [hW1]; simp
  have b1 : Below W.heap.size W W1 := by rw [hW1]; exact (Below.refl _ _).alloc (Nat.le_refl _) _
  rw [← hW1] at by1 ⊢
  clear hW1
  have hal : ∀ (w : World) (o : Obj), Below w.heap.size w (w.alloc o) := fun w o => (Below.refl _ _).alloc (Nat.le_refl _) o
  have s2 : (W1.alloc (.cells #[.slice (some ⟨W.heap.size, 0, none⟩) 8 8] t1)).heap.size = W.heap.size + 2 := by simp [s1]
  have b2 : Below W.heap.size W (W1.alloc (.cells #[.slice (some ⟨W.heap.size, 0, none⟩) 8 8] t1)) := b1.alloc b1.size _
  obtain ⟨W2, hW2⟩ : ∃ W2, W2 = W1.alloc (.cells #[.slice (some ⟨W.heap.size, 0, none⟩) 8 8] t1) := ⟨_, rfl⟩
  have by2 := by1.below (hal W1 (.cells #[.slice (some ⟨W.heap.size, 0, none⟩) 8 8] t1))
  have c2 : (W1.alloc (.cells #[.slice (some ⟨W.heap.size, 0, none⟩) 8 8] t1)).cell? ⟨W.heap.size + 1, 0, none⟩ = some (.slice (some ⟨W.heap.size, 0, none⟩) 8 8) := by rw [← s1]; simp [go_sem]
  have f2 : (W1.alloc (.cells #[.slice (some ⟨W.heap.size, 0, none⟩) 8 8] t1)).frozen? ⟨W.heap.size + 1, 0, none⟩ = false := by rw [← s1]; simp [go_sem]
  rw [← hW2] at s2 b2 by2 c2 f2 ⊢
  clear hW2
  have r3 := wr_new w W2 m 1048576 t2 (hB.trans (b2.mono hB.size)) (by have := hl; omega)
  rw [s2] at r3
  have b3 := hal W2 (.cells (wrV m 1048576) t2)
  have s3 : (W2.alloc (.cells (wrV m 1048576) t2)).heap.size = W.heap.size + 3 := by simp [s2]
  obtain ⟨W3, hW3⟩ : ∃ W3, W3 = W2.alloc (.cells (wrV m 1048576) t2) := ⟨_, rfl⟩
  rw [← hW3] at b3 r3 s3 ⊢
  clear hW3
  have r4 := r3.on ((Below.refl W3.heap.size W3).alloc (Nat.le_refl _) (.cells (secsV (W.heap.size + 2)) t3))
  have b4 := thenB b3 (hal W3 (.cells (secsV (W.heap.size + 2)) t3))
  have o4 : Out (W.heap.size + 1) W.heap.size (.slice (some ⟨W.heap.size, 0, none⟩) 8 8) headB (W3.alloc (.cells (secsV (W.heap.size + 2)) t3)) :=
    ⟨Go.Proofs.YtepbjkkakfpjgaaGreatDoor.keep b4 c2, (b4.frozen (p := ⟨W.heap.size + 1, 0, none⟩) (by show W.heap.size + 1 < W2.heap.size; omega)).trans f2, by simp [Value.ownBlock], Nat.le_refl _, by simp; omega, fun q hq => by simp [Value.ownBlock] at hq; subst hq; simp; omega, ⟨_, 8, 8, rfl, rfl, by2.below b4, fun e => by cases e⟩, .inr ⟨_, rfl⟩⟩
  have a4 := fun j hj => secs_at (W.heap.size + 2) W3 t3 j hj
  rw [s3] at a4
  exact ⟨o4, r4, a4, by omega, by omega, by omega, by simp [Value.ownBlock], by simp [Value.ownBlock], fun _ _ => by simp [Value.ownBlock], by simp [Value.ownBlock], by simp [Value.ownBlock], by omega⟩
theorem St.begin {w W : World} {m : Md} (t1 t2 t3 : TypeId) (hB : Below w.heap.size w W) (hl : w.heap.size < W.heap.size) :
    St w m (W.heap.size + 1) W.heap.size (W.heap.size + 1 + 1) (W.heap.size + 1 + 1 + 1) (W.heap.size + 1 + 1 + 1) (.slice (some ⟨W.heap.size, 0, none⟩) 8 8) headB (.slice none 0 0) []
      ((((W.alloc (.cells #[.int .u8 0, .int .u8 97, .int .u8 115, .int .u8 109, .int .u8 1, .int .u8 0, .int .u8 0, .int .u8 0] 5 (8, 9))).alloc (.cells #[.slice (some ⟨W.heap.size, 0, none⟩) 8 8] t1)).alloc (.cells (wrV m 1048576) t2)).alloc (.cells (secsV (W.heap.size + 1 + 1)) t3)) := St.start t1 t2 t3 hB hl
theorem St.full {w : World} {m : Md} {go Bo gw Bw s : Nat} {vo vw : Value} {os zs : List Int} {W : World} (h : St w m go Bo gw Bw s vo os vw zs W) : ∃ a n c, vo = .slice a n c ∧ os.length = n ∧ Bytes W a os ∧ (a = none → c = 0) := h.o.byt
theorem secB_bytes {w0 : World} {m : Md} (FI : Fine w0 m) (k : Nat) : ∀ z ∈ secB m k, 0 ≤ z ∧ z < 256 := by
  have F := facts_of FI.chk
  have lst : ∀ {α : Type} (f : α → List Int) (l : List α), (∀ x ∈ l, ∀ z ∈ f x, 0 ≤ z ∧ z < 256) → ∀ z ∈ lstB f l, 0 ≤ z ∧ z < 256 := by
    intro α f l hf z hz
    unfold lstB at hz
    split at hz
    · simp at hz
    · rcases List.mem_append.1 hz with h | h
      · exact encU_bytes _ z h
      · obtain ⟨x, hx, hzx⟩ := List.mem_flatMap.1 h
        exact hf x hx z hzx
  have app : ∀ (a b : List Int), (∀ z ∈ a, 0 ≤ z ∧ z < 256) → (∀ z ∈ b, 0 ≤ z ∧ z < 256) → ∀ z ∈ a ++ b, 0 ≤ z ∧ z < 256 := fun a b ha hb z hz => (List.mem_append.1 hz).elim (ha z) (hb z)
  have cns : ∀ (a : Int) (b : List Int), (0 ≤ a ∧ a < 256) → (∀ z ∈ b, 0 ≤ z ∧ z < 256) → ∀ z ∈ a :: b, 0 ≤ z ∧ z < 256 := fun a b ha hb z hz => by
    rcases List.mem_cons.1 hz with rfl | h
    · exact ha
    · exact hb z h
  have ins : ∀ l ∈ m.codes, ∀ z ∈ insB l, 0 ≤ z ∧ z < 256 := fun l hl => insB_bytes (FI.at_.ls l hl) (F.ck l hl)
  match k with
  | 0 => simp only [secB]; exact lst tyB m.ty (fun x _ => Kind.typeL_bytes _ _)
  | 1 => simp only [secB]; exact lst impB m.im (fun x _ => app _ _ (nameB_bytes _) (app _ _ (nameB_bytes _) (cns _ _ (by omega) (encU_bytes _))))
  | 2 => simp only [secB]; exact lst fnB m.fu (fun x _ => encU_bytes _)
  | 3 => simp only [secB]; exact lst tbB m.tb (fun x _ => cns _ _ (by omega) (Kind.limL_bytes _ _ _))
  | 4 => simp only [secB]; exact lst meB m.me (fun x _ => Kind.limL_bytes _ _ _)
  | 5 => simp only [secB]; exact lst glB m.gl (fun x hx => cns _ _ (by omega) (cns _ _ (by split <;> omega) (ins _ (mem_gl hx))))
  | 6 => simp only [secB]; exact lst exB m.ex (fun x hx => app _ _ (nameB_bytes _) (cns _ _ (by have := F.ex x hx; omega) (encU_bytes _)))
  | 7 =>
    simp only [secB]
    split
    · exact encU_bytes _
    · simp
  | 8 => simp only [secB]; exact lst elB m.el (fun x hx => cns _ _ (by omega) (app _ _ (ins _ (mem_el hx)) (app _ _ (encU_bytes _) (fun z hz => by obtain ⟨y, _, hy⟩ := List.mem_flatMap.1 hz; exact encU_bytes _ z hy))))
  | 9 => simp only [secB]; exact lst coB m.fu (fun x hx => app _ _ (encU_bytes _) (app _ _ (Go.Proofs.YtepbjkkakfpjgaaGreatDoor.Body.loc_bytes _) (ins _ (mem_fu hx))))
  | 10 => simp only [secB]; exact lst daB m.da (fun x hx => cns _ _ (by omega) (app _ _ (ins _ (mem_da hx)) (app _ _ (encU_bytes _) (FI.siz.db x hx))))
  | n + 11 => simp [secB]
theorem upto_bytes {w0 : World} {m : Md} (FI : Fine w0 m) : ∀ (k : Nat), k ≤ 11 → ∀ z ∈ uptoB m k, 0 ≤ z ∧ z < 256
  | 0, _ => by
    intro z hz
    unfold uptoB headB at hz
    simp at hz
    omega
  | k + 1, hk => by
    intro z hz
    rw [upto_succ] at hz
    rcases List.mem_append.1 hz with h | h
    · exact upto_bytes FI k (by omega) z h
    · unfold pieceB at h
      split at h
      · simp at h
      · rcases List.mem_cons.1 h with rfl | h
        · omega
        · rcases List.mem_append.1 h with h | h
          · exact encU_bytes _ z h
          · exact secB_bytes FI k z h
theorem cut_nil {k : Nat} {m : Md} {ys : List Int} (h : Cut 1048576 (secB m k) ys) (hl : ys.length = 0) : secB m k = [] := by
  rcases h.2 with e | e
  · rw [← e]; exact List.eq_nil_of_length_eq_zero hl
  · omega
theorem upto_cut {m : Md} {k q : Nat} {ys : List Int} (hU : uptoB m (k + 1) = (uptoB m k ++ [((k + 1 : Nat) : Int)]) ++ (encU (secB m k).length ++ secB m k)) (hc : Cut 1048576 (secB m k) ys) (hq : ys.length = q) :
    (1048576 < (uptoB m k ++ [(k : Int) + 1] ++ (encU q ++ ys)).length → 1048576 < (uptoB m (k + 1)).length) ∧ ((uptoB m k ++ [(k : Int) + 1] ++ (encU q ++ ys)).length ≤ 1048576 → uptoB m k ++ [(k : Int) + 1] ++ (encU q ++ ys) = uptoB m (k + 1)) := by
  rcases hc.2 with e | e
  · have h : uptoB m k ++ [(k : Int) + 1] ++ (encU q ++ ys) = uptoB m (k + 1) := by rw [hU, ← e, hq]; simp
    exact ⟨fun g => by rw [← h]; exact g, fun _ => h⟩
  · have h1 := hc.1.length_le
    have h2 := congrArg List.length hU
    simp only [List.length_append, List.length_cons, List.length_nil] at h2 ⊢
    exact ⟨fun _ => by omega, fun g => by omega⟩
set_option maxRecDepth 100000 in
set_option maxHeartbeats 8000000 in
theorem Module_any (m : Md) (w : World) (h : Ready w m) (ht : m.check = 0 → FitAll m 1048576) :
    Calls Tryz.prog 10 #[.agg m.v] w (ModP w (modR m).1 (modR m).2) := by
  have hb0 := (Below.refl w.heap.size w).alloc (Nat.le_refl _) (.cells m.v 32)
  have CK := hid (ModCheck_any m _ (h.nam.below hb0) (h.tab.below hb0) (h.at_.on hb0) h.few)
  have HB := hid hb0
  have X0 := BoxAt.made w m.v 32
  have HX := hid X0
  by_cases hc : m.check = 0
  · rw [hc] at CK
    have FI := hid (h.fine hc)
    have FA := hid (ht hc)
    have EL := hid (fun (k : Nat) (hk : k ≤ 11) (hl : 1048576 < (uptoB m k).length) => show modR m = ([], 3) by unfold modR; rw [if_neg (by simpa using hc), if_pos (upto_long hk hl)])
    have EN := hid (fun (hl : (uptoB m 11).length ≤ 1048576) => show modR m = (uptoB m 11, 0) by unfold modR modB; rw [if_neg (by simpa using hc), if_neg (by omega)])
    have SK := hid (fun (k : Nat) (hk : k < 11) (W : World) (g B : Nat) (v : Value) (H : Wr w m g B 1048576 v [] W) => sec_any k hk w W m g B v 1048576 FI.out H FA.out)
    have ST := hid (fun (W : World) (hb : Below w.heap.size w W) (hl : w.heap.size < W.heap.size) => St.begin (m := m) 76 79 1 hb hl)
    have HLT := hid (show w.heap.size < (w.alloc (.cells m.v 32)).heap.size by simp)
    have SA := hid (fun g w => sections_any g w)
    have PN := hid (fun k => piece_none (m := m) (k := k))
    have PS := hid (fun k => piece_some (m := m) (k := k))
    have UB := hid (fun k hk => upto_bytes FI.out k hk)
    have SB := hid (fun k => secB_bytes FI.out k)
    have SF := hid (fun (k : Nat) (hk : k < 11) => secB_few (k := k) FA.out hk)
    have UM := hid (fun (k : Nat) => show (uptoB m k).length ≤ (uptoB m (k + 1)).length from upto_mono m 1 k)
    clear h ht hc FI FA hb0
    unfold Md.v at CK HB HX X0 HLT ⊢
    have x0 := X0 0 _ rfl
    have x1 := X0 1 _ rfl
    have x2 := X0 2 _ rfl
    have x3 := X0 3 _ rfl
    have x4 := X0 4 _ rfl
    have x5 := X0 5 _ rfl
    have x6 := X0 6 _ rfl
    have x7 := X0 7 _ rfl
    have x8 := X0 8 _ rfl
    have x9 := X0 9 _ rfl
    have x10 := X0 10 _ rfl
    clear X0
    go_enter Tryz.func10, Tryz.ntmps10
    go_wp2_with fail
    refine CK.out.mono ?_
    rintro e1 w1 ⟨rfl, hb⟩
    have HB1 := hid (HB.out.trans (hb.mono HB.out.size))
    have HX1 := hid (HX.out.keep hb)
    have HS := hid (ST.out w1 HB1.out (Nat.lt_of_lt_of_le HLT.out hb.size))
    clear CK hb ST HLT HB HX x0 x1 x2 x3 x4 x5 x6 x7 x8 x9 x10
    have x0 := HX1.out 0 _ rfl
    have x1 := HX1.out 1 _ rfl
    have x2 := HX1.out 2 _ rfl
    have x3 := HX1.out 3 _ rfl
    have x4 := HX1.out 4 _ rfl
    have x5 := HX1.out 5 _ rfl
    have x6 := HX1.out 6 _ rfl
    have x7 := HX1.out 7 _ rfl
    have x8 := HX1.out 8 _ rfl
    have x9 := HX1.out 9 _ rfl
    have x10 := HX1.out 10 _ rfl
    have y0 := Lib.cell?_alloc_marked (.cells #[.int .u8 0, .int .u8 97, .int .u8 115, .int .u8 109, .int .u8 1, .int .u8 0, .int .u8 0, .int .u8 0] 5 (8, 9)) x0
    have z0 := keepA y0 (.cells #[.slice (some ⟨w1.heap.size, 0, none⟩) 8 8] 76)
    have y1 := Lib.cell?_alloc_marked (.cells #[.int .u8 0, .int .u8 97, .int .u8 115, .int .u8 109, .int .u8 1, .int .u8 0, .int .u8 0, .int .u8 0] 5 (8, 9)) x1
    have z1 := keepA y1 (.cells #[.slice (some ⟨w1.heap.size, 0, none⟩) 8 8] 76)
    have y2 := Lib.cell?_alloc_marked (.cells #[.int .u8 0, .int .u8 97, .int .u8 115, .int .u8 109, .int .u8 1, .int .u8 0, .int .u8 0, .int .u8 0] 5 (8, 9)) x2
    have z2 := keepA y2 (.cells #[.slice (some ⟨w1.heap.size, 0, none⟩) 8 8] 76)
    have y3 := Lib.cell?_alloc_marked (.cells #[.int .u8 0, .int .u8 97, .int .u8 115, .int .u8 109, .int .u8 1, .int .u8 0, .int .u8 0, .int .u8 0] 5 (8, 9)) x3
    have z3 := keepA y3 (.cells #[.slice (some ⟨w1.heap.size, 0, none⟩) 8 8] 76)
    have y4 := Lib.cell?_alloc_marked (.cells #[.int .u8 0, .int .u8 97, .int .u8 115, .int .u8 109, .int .u8 1, .int .u8 0, .int .u8 0, .int .u8 0] 5 (8, 9)) x4
    have z4 := keepA y4 (.cells #[.slice (some ⟨w1.heap.size, 0, none⟩) 8 8] 76)
    have y5 := Lib.cell?_alloc_marked (.cells #[.int .u8 0, .int .u8 97, .int .u8 115, .int .u8 109, .int .u8 1, .int .u8 0, .int .u8 0, .int .u8 0] 5 (8, 9)) x5
    have z5 := keepA y5 (.cells #[.slice (some ⟨w1.heap.size, 0, none⟩) 8 8] 76)
    have y6 := Lib.cell?_alloc_marked (.cells #[.int .u8 0, .int .u8 97, .int .u8 115, .int .u8 109, .int .u8 1, .int .u8 0, .int .u8 0, .int .u8 0] 5 (8, 9)) x6
    have z6 := keepA y6 (.cells #[.slice (some ⟨w1.heap.size, 0, none⟩) 8 8] 76)
    have y7 := Lib.cell?_alloc_marked (.cells #[.int .u8 0, .int .u8 97, .int .u8 115, .int .u8 109, .int .u8 1, .int .u8 0, .int .u8 0, .int .u8 0] 5 (8, 9)) x7
    have z7 := keepA y7 (.cells #[.slice (some ⟨w1.heap.size, 0, none⟩) 8 8] 76)
    have y8 := Lib.cell?_alloc_marked (.cells #[.int .u8 0, .int .u8 97, .int .u8 115, .int .u8 109, .int .u8 1, .int .u8 0, .int .u8 0, .int .u8 0] 5 (8, 9)) x8
    have z8 := keepA y8 (.cells #[.slice (some ⟨w1.heap.size, 0, none⟩) 8 8] 76)
    have y9 := Lib.cell?_alloc_marked (.cells #[.int .u8 0, .int .u8 97, .int .u8 115, .int .u8 109, .int .u8 1, .int .u8 0, .int .u8 0, .int .u8 0] 5 (8, 9)) x9
    have z9 := keepA y9 (.cells #[.slice (some ⟨w1.heap.size, 0, none⟩) 8 8] 76)
    have y10 := Lib.cell?_alloc_marked (.cells #[.int .u8 0, .int .u8 97, .int .u8 115, .int .u8 109, .int .u8 1, .int .u8 0, .int .u8 0, .int .u8 0] 5 (8, 9)) x10
    have z10 := keepA y10 (.cells #[.slice (some ⟨w1.heap.size, 0, none⟩) 8 8] 76)
    have hcv : _ = Result.ok _ (w1.alloc (.cells #[.int .u8 0, .int .u8 97, .int .u8 115, .int .u8 109, .int .u8 1, .int .u8 0, .int .u8 0, .int .u8 0] 5 (8, 9))) := Lib.run_convert_bytes_const w1 76 5 #[.int .u8 0, .int .u8 97, .int .u8 115, .int .u8 109, .int .u8 1, .int .u8 0, .int .u8 0, .int .u8 0] 8 8 Tryz.underlying76 Tryz.underlying5
    go_wp2_with fail
    refine (SA.out _ _).mono ?_
    rintro e2 w2 ⟨rfl, rfl⟩
    unfold wrV at HS
    clear SA hcv x0 x1 x2 x3 x4 x5 x6 x7 x8 x9 x10 y0 z0 y1 z1 y2 z2 y3 z3 y4 z4 y5 z5 y6 z6 y7 z7 y8 z8 y9 z9 y10 z10
    go_wp2
    go_loopw [22] (fun vi wr => ∃ (k : Nat) (vo vw : Value) (zs : List Int), vi = .int .i64 k ∧ k ≤ 11 ∧ Hid ((uptoB m k).length ≤ 1048576) ∧ Hid (St w m (w1.heap.size + 1) w1.heap.size (w1.heap.size + 1 + 1) (w1.heap.size + 1 + 1 + 1) (w1.heap.size + 1 + 1 + 1) vo (uptoB m k) vw zs wr)) (fun vi _ => 11 - (intOf vi).toNat)
    case atStart => exact ⟨0, _, _, _, rfl, Nat.zero_le _, hid (show (8 : Nat) ≤ 1048576 by omega), HS⟩
    case round =>
      clear HS
      obtain ⟨k, vo, vw, zs, rfl, hk, HL, HT⟩ := hrel
      by_cases hlt : k < 11
      · have hki : (k : Int) < 11 := by omega
        have eg := sec_enters k hlt
        have c := HT.out.arr k hlt
        obtain ⟨G, hG⟩ : ∃ G, secF k = G := ⟨_, rfl⟩
        have SK1 := hid (SK.out k hlt)
        rw [hG] at eg c SK1
        clear hG
        obtain ⟨nz, hnz⟩ : ∃ n, zs.length = n := ⟨_, rfl⟩
        have ho := HT.out.wr.buf.own
        obtain ⟨aw, cw, rfl⟩ := ho.sliceN hnz
        have d := HT.out.wr.buf.c
        have f := HT.out.wr.buf.f
        have HC := hid HT.out.clear
        have CS := hid (SK1.out _ _ _ _ HC.out.wr)
        clear ho hnz HT SK1
        go_wp2_with fail
        refine CS.out.mono ?_
        rintro e3 w3 ⟨ys, hys, rfl, v3, hb3⟩
        have HYS := hid hys
        have H3 := hid (HC.out.write hb3)
        have hn3 := hb3.own
        obtain ⟨q, hq⟩ : ∃ n, ys.length = n := ⟨_, rfl⟩
        have HQ := hid hq
        have HYB := hid (fun z (hz : z ∈ ys) => SB.out k z (hys.1.subset hz))
        have HYL := hid (show q ≤ 1000000000 by have h1 := hys.1.length_le; have h2 := SF.out k hlt; omega)
        obtain ⟨a3, c3, rfl⟩ := hn3.sliceN hq
        have d3 := H3.out.wr.buf.c
        clear CS HC hb3 hn3 hq c d f hys
        by_cases hq0 : q = 0
        · subst hq0
          have HU := hid (PN.out k (cut_nil HYS.out HQ.out))
          obtain ⟨ao, no, co, rfl, hno, hbo, _⟩ := H3.out.o.byt
          have c0 := H3.out.o.c
          have hno2 : no ≤ 1048576 := by have := HL.out; omega
          have hni : ¬ (1048576 : Int) < (no : Int) := by omega
          clear hno hbo
          go_wp2
          go_roundw
          case rel => exact ⟨k + 1, _, _, _, by go_num, by omega, hid (by rw [HU.out]; exact HL.out), hid (by rw [HU.out]; exact H3.out)⟩
          case measure => simp [intOf]; omega
        · have hqi : (0 : Int) < (q : Int) := by omega
          have HU := hid (PS.out k (fun e => hq0 (by have h1 := HYS.out.1.length_le; rw [e, List.length_nil] at h1; have h2 := HQ.out; omega)))
          have hw : IntKind.u8.wrap ((k : Int) + 1) = (k : Int) + 1 := by rw [IntKind.wrap_u8]; omega
          have HUK := hid (UB.out k hk)
          have CB := hid (byte_out _ _ vo (uptoB m k) ((k : Int) + 1) w3 H3.out.o (by omega) (by have := HL.out; omega))
          go_wp2_with fail
          refine CB.out.mono ?_
          rintro e4 w4 ⟨rfl, v4, hb4⟩
          have HB4 := hid hb4
          have H4 := hid (H3.out.out hb4 (fun z hz => by
            rcases List.mem_append.1 hz with h | h
            · exact HUK.out z h
            · simp at h; omega) (by rw [List.length_append]; have := HL.out; simp; omega))
          have d4 := H4.out.wr.buf.c
          have CZ := hid (sized_any _ _ v4 (uptoB m k ++ [(k : Int) + 1]) ys a3 q c3 w4 hb4.again HQ.out (H4.out.wr.buf.own.bytes HYB.out (by have := HYL.out; have := HQ.out; omega)) (by rw [List.length_append]; have := HL.out; have := HYL.out; have := HQ.out; simp; omega) (fun b off ha _ hs => by
            subst ha
            rcases hs with e | e
            · exact H4.out.a2 (by rw [← e]; rfl)
            · exact H4.out.a3 b e rfl))
          clear CB hb4 d3 hw
          go_wp2_with fail
          refine CZ.out.mono ?_
          rintro e5 w5 ⟨rfl, v5, hb5⟩
          have HX5 := hid (fun z (hz : z ∈ uptoB m k ++ [(k : Int) + 1] ++ (encU q ++ ys)) => show 0 ≤ z ∧ z < 256 by
            rcases List.mem_append.1 hz with h | h
            · rcases List.mem_append.1 h with h | h
              · exact HUK.out z h
              · simp at h; omega
            · rcases List.mem_append.1 h with h | h
              · exact encU_bytes _ z h
              · exact HYB.out z h)
          have HXB := hid (upto_cut HU.out HYS.out HQ.out).1
          have HXE := hid (upto_cut HU.out HYS.out HQ.out).2
          obtain ⟨X, hX⟩ : ∃ X, uptoB m k ++ [(k : Int) + 1] ++ (encU q ++ ys) = X := ⟨_, rfl⟩
          have hXL := congrArg List.length hX
          rw [hX] at hb5 HX5 HXB HXE
          obtain ⟨N, hN⟩ : ∃ n, X.length = n := ⟨_, rfl⟩
          have HN := hid hN
          have HLT5 := hid (show N ≤ 1100000000 by
            simp only [List.length_append, List.length_cons, List.length_nil] at hXL
            have h1 := HL.out
            have h2 := HYL.out
            have h3 := HQ.out
            have h4 : (encU q).length ≤ 5 := by rw [encU_length]; exact (sizeU_pos q).2
            omega)
          have H5 := hid (H4.out.out hb5 HX5.out (by have := HLT5.out; have := HN.out; omega))
          have ho5 := hb5.own
          obtain ⟨a5, c5, rfl⟩ := ho5.sliceN hN
          have c0 := H5.out.o.c
          clear CZ hb5 ho5 hN d4 H4 H3 hX hXL HYS HYB HYL HU
          by_cases hbig : 1048576 < N
          · have hbi : (1048576 : Int) < (N : Int) := by omega
            have HR := hid (EL.out (k + 1) (by omega) (HXB.out (by rw [HN.out]; exact hbig)))
            go_wp2
            exact bodyPost_ret (v := .tuple #[.slice none 0 0, .int .i64 3]) (by simp [results, Tryz.results10, go_sem]) rfl (by rw [HR.out]; exact modP_none H5.out.wr.low)
          · have hbi : ¬ (1048576 : Int) < (N : Int) := by omega
            go_wp2
            go_roundw
            case rel => exact ⟨k + 1, _, _, _, by go_num, by omega, hid (by rw [← HXE.out (by rw [HN.out]; omega), HN.out]; omega), hid (by rw [← HXE.out (by rw [HN.out]; omega)]; exact H5.out)⟩
            case measure => simp [intOf]; omega
      · obtain rfl : k = 11 := by omega
        have HR := hid (EN.out HL.out)
        obtain ⟨ao, no, co, rfl, hno, hbo, h0⟩ := HT.out.o.byt
        have c0 := HT.out.o.c
        have HN := hid hno
        have HBO := hid hbo
        have H0 := hid h0
        clear hno hbo h0
        go_wp2
        exact bodyPost_ret (v := .tuple #[.slice ao no co, .int .i64 0]) (by simp [results, Tryz.results10, go_sem]) rfl (by rw [HR.out]; exact ⟨ao, no, co, rfl, HN.out, HBO.out, H0.out, HT.out.wr.low⟩)
  · have HE : Hid (modR m = ([], m.check)) := by show _ = _; unfold modR; rw [if_pos hc]
    rw [HE.out]
    obtain ⟨q, hq⟩ : ∃ q, m.check = q := ⟨_, rfl⟩
    rw [hq] at CK hc ⊢
    have hq1 : (q == 0) = false := by simpa using hc
    have hq2 : (q != 0) = true := by simpa using hc
    clear h ht HE hb0 hq
    unfold Md.v at CK HB HX X0 ⊢
    have x0 := X0 0 _ rfl
    have x1 := X0 1 _ rfl
    have x2 := X0 2 _ rfl
    have x3 := X0 3 _ rfl
    have x4 := X0 4 _ rfl
    have x5 := X0 5 _ rfl
    have x6 := X0 6 _ rfl
    have x7 := X0 7 _ rfl
    have x8 := X0 8 _ rfl
    have x9 := X0 9 _ rfl
    have x10 := X0 10 _ rfl
    clear X0
    go_enter Tryz.func10, Tryz.ntmps10
    go_wp2_with fail
    refine CK.out.mono ?_
    rintro e1 w1 ⟨rfl, hb⟩
    have HB1 := hid (HB.out.trans (hb.mono HB.out.size))
    clear CK hb x0 x1 x2 x3 x4 x5 x6 x7 x8 x9 x10
    go_wp2
    exact bodyPost_ret (v := .tuple #[.slice none 0 0, .int .i64 q]) (by simp [results, Tryz.results10, go_sem]) rfl (modP_none HB1.out)
end Go.Proofs.YtepbjkkakfpjgaaGreatDoor.Enc

/-
  ENCODE: what the statements ask first: awake; the chapter's examples.
-/
namespace Go.Proofs.YtepbjkkakfpjgaaGreatDoor.Enc
open Go.RowKit Go.Shelf Go.Proofs.YtepbjkkakfpjgaaGreatDoor.Leb Go.Proofs.YtepbjkkakfpjgaaGreatDoor.Instr Go.Proofs.YtepbjkkakfpjgaaGreatDoor.Mod
open Go.Proofs.YtepbjkkakfpjgaaGreatDoor.Body (encL codeL PutP)

def noneM : Md where
  ty := []
  im := []
  fu := []
  tb := []
  me := []
  gl := []
  ex := []
  st := false
  sn := 0
  el := []
  da := []
  ty' := ⟨none, 0⟩
  im' := ⟨none, 0⟩
  fu' := ⟨none, 0⟩
  tb' := ⟨none, 0⟩
  me' := ⟨none, 0⟩
  gl' := ⟨none, 0⟩
  ex' := ⟨none, 0⟩
  el' := ⟨none, 0⟩
  da' := ⟨none, 0⟩
theorem noneM_few : noneM.few := ⟨⟨by simp [noneM], by simp [noneM], by simp [noneM], by simp [noneM], by simp [noneM], by simp [noneM], by simp [noneM], by simp [noneM], by simp [noneM], by simp [noneM, Md.codes], by simp [noneM], by simp [noneM], by simp [noneM], by simp [noneM]⟩, by simp [noneM, Md.codes], by simp [noneM]⟩
theorem noneM_at (w : World) : ModAt w.heap.size w noneM := ⟨.inl rfl, .inl rfl, .inl rfl, .inl rfl, .inl rfl, .inl rfl, .inl rfl, .inl rfl, .inl rfl, by simp [noneM, Md.codes], by simp [noneM], by simp [noneM]⟩
theorem noneM_ready (w : World) (hT : Nams w) (hU : Utf.Tabs w) : Ready w noneM := ⟨hT, hU, noneM_at w, noneM_few, ⟨by simp [noneM], by simp [noneM], by simp [noneM], by simp [noneM], by simp [noneM]⟩, by simp [noneM, Md.codes]⟩
theorem fit_nil {α : Type} (f : α → List Int) (most : Int) : FitP f [] most := by
  unfold FitP
  rw [List.flatMap_nil, List.append_nil, encU_length]
  have := (sizeU_pos (([] : List α).length : Int)).2
  omega
theorem fit_small {α : Type} (f : α → List Int) (l : List α) (most : Int) (_hm : ((encU l.length ++ l.flatMap f).length : Int) ≤ most) (h : (encU l.length ++ l.flatMap f).length ≤ 1000000000) : FitP f l most := h
theorem noneM_fit (most : Int) : FitAll noneM most := ⟨fit_nil _ _, fit_nil _ _, fit_nil _ _, fit_nil _ _, fit_nil _ _, fit_nil _ _, fit_nil _ _, fit_nil _ _, fit_nil _ _, fit_nil _ _⟩
theorem noneM_mod : modR noneM = (headB, 0) := by kernel_rfl
theorem noneM_sec : secR noneM 12 = ([], 5) := by kernel_rfl
theorem mod_none (w : World) (hT : Nams w) (hU : Utf.Tabs w) :
    Calls Tryz.prog 10 #[.agg #[.slice none 0 0, .slice none 0 0, .slice none 0 0, .slice none 0 0, .slice none 0 0, .slice none 0 0, .slice none 0 0, .bool false, .int .u32 0, .slice none 0 0, .slice none 0 0]] w (ModP w headB 0) := by
  have := Module_any noneM w (noneM_ready w hT hU) (fun _ => noneM_fit _)
  rw [noneM_mod] at this
  exact this
theorem sec_none (w : World) (hT : Nams w) (hU : Utf.Tabs w) :
    Calls Tryz.prog 15 #[.agg #[.slice none 0 0, .slice none 0 0, .slice none 0 0, .slice none 0 0, .slice none 0 0, .slice none 0 0, .slice none 0 0, .bool false, .int .u32 0, .slice none 0 0, .slice none 0 0], .int .i64 12] w (PutP w [] 5) := by
  have := Section_any noneM 12 w (noneM_ready w hT hU) (by omega) (fun _ => noneM_fit _)
  rw [noneM_sec] at this
  exact this
/-- A module of these memories alone. -/
def memsM (b : Nat) (l : List Li) : Md := { noneM with me := l, me' := ⟨some ⟨b, 0, none⟩, l.length⟩ }
theorem memsM_ready (b : Nat) (l : List Li) (w : World) (hT : Nams w) (hU : Utf.Tabs w) (hr : Mod.Rows w.heap.size w (some ⟨b, 0, none⟩) 3 (l.map Li.v)) (hl : l.length ≤ 1000) (h0 : ∀ x ∈ l, 0 ≤ x.n) : Ready w (memsM b l) := by
  have A := noneM_at w
  have F := noneM_few
  refine ⟨hT, hU, ⟨A.ty, A.im, A.fu, A.tb, hr, A.gl, A.ex, A.el, A.da, A.ls, A.fs, A.bs⟩, ⟨⟨F.fit.ty, F.fit.im, F.fit.fu, F.fit.tb, by simp [memsM]; omega, F.fit.gl, F.fit.ex, F.fit.el, F.fit.da, F.fit.ls, F.fit.fs, F.fit.bs, F.fit.iS, F.fit.eS⟩, F.cs, by simp [memsM, noneM]; omega⟩, ⟨?_, by simp [memsM, noneM], by simp [memsM, noneM], by simp [memsM, noneM], by simp [memsM, noneM]⟩, by simp [memsM, noneM, Md.codes]⟩
  intro x hx
  have : x ∈ l := by simpa [memsM, noneM] using hx
  exact h0 x this
theorem rows_one (w : World) (b : Nat) (x : Li) (h : BoxAt w b #[.int .u32 x.n, .int .u32 x.x, .bool x.c]) : Mod.Rows w.heap.size w (some ⟨b, 0, none⟩) 3 ([x].map Li.v) := by
  have hb := World.block_lt_of_cell? w _ (h 0 _ rfl)
  refine .inr ⟨b, 0, rfl, hb, fun i hi j hj v hv => ?_⟩
  have hi' : i = 0 := by simpa using hi
  subst hi'
  have hj' : j = 0 ∨ j = 1 ∨ j = 2 := by omega
  rcases hj' with rfl | rfl | rfl <;> simp [Li.v] at hv <;> subst hv
  · exact h 0 _ rfl
  · exact h 1 _ rfl
  · exact h 2 _ rfl
def oneMem : List Int := [0, 97, 115, 109, 1, 0, 0, 0, 5, 4, 1, 1, 1, 2]
theorem oneMem_mod (b : Nat) : modR (memsM b [⟨1, 2, true⟩]) = (oneMem, 0) := by kernel_rfl
theorem oneMem_fit (b : Nat) : FitAll (memsM b [⟨1, 2, true⟩]) 1048576 := ⟨fit_nil _ _, fit_nil _ _, fit_nil _ _, fit_nil _ _, fit_small meB [⟨1, 2, true⟩] _ (by decide +kernel) (by decide +kernel), fit_nil _ _, fit_nil _ _, fit_nil _ _, fit_nil _ _, fit_nil _ _⟩
theorem mod_mem (b : Nat) (w : World) (hT : Nams w) (hU : Utf.Tabs w) (h : BoxAt w b #[.int .u32 1, .int .u32 2, .bool true]) :
    Calls Tryz.prog 10 #[.agg #[.slice none 0 0, .slice none 0 0, .slice none 0 0, .slice none 0 0, .slice (some ⟨b, 0, none⟩) 1 1, .slice none 0 0, .slice none 0 0, .bool false, .int .u32 0, .slice none 0 0, .slice none 0 0]] w (ModP w oneMem 0) := by
  have := Module_any (memsM b [⟨1, 2, true⟩]) w (memsM_ready b _ w hT hU (rows_one w b ⟨1, 2, true⟩ h) (by simp) (by simp)) (fun _ => oneMem_fit b)
  rw [oneMem_mod] at this
  exact this
set_option maxHeartbeats 1000000 in
theorem first_any (w : World) : Calls Tryz.prog 31 #[] w fun e w' => e = .returned (.slice (some ⟨w.heap.size, 0, none⟩) 8 8) ∧ Own w.heap.size w' (.slice (some ⟨w.heap.size, 0, none⟩) 8 8) headB ∧ Below w.heap.size w w' := by
  go_enter Tryz.func31, Tryz.ntmps31
  go_wp2
  go_ret
  exact ⟨rfl, World.ownsRow_lit (base := w.heap.size) (e := 5) (size := 1) w #[.int .u8 0, .int .u8 97, .int .u8 115, .int .u8 109, .int .u8 1, .int .u8 0, .int .u8 0, .int .u8 0] 8 (Nat.le_refl _) (by decide) rfl, (Below.refl _ _).alloc (Nat.le_refl _) _⟩
section
variable {ops : Array Oper} {rest : List Oper} {o : Oper} {act : Act} {Q : Exit → Act → World → Prop}
/-- An append of bytes whose guard says yes. -/
theorem bytes_wanted (hw : Region.wanted o (yielded ops act.tmps) = true) (s x : Operand) (ho : o.op = .call { callee := .builtin .append, args := #[s, x], argTypes := #[35, 35] })
    {base : Nat} {w0 wr : World} {v : Value} {xs ys : List Int} (hs : act.eval s = v) (hown : Own base wr v xs) (hb : Below base w0 wr) (hbase : base ≤ wr.heap.size)
    (ad : Addr) (n c : Nat) (hx : act.eval x = .slice (some ad) n c) (hn : ys.length = n) (hy : Bytes wr (some ad) ys) (hl : xs.length + ys.length ≤ 140737488351232)
    (h : ∀ v' w', Own base w' v' (xs ++ ys) → Below base w0 w' → base ≤ w'.heap.size → wpList Tryz.prog ops Q rest (act.put o.dst v') w') :
    wpList Tryz.prog ops Q (o :: rest) act wr := by
  obtain ⟨i0, hi, hz0, hz1, hz2⟩ := info_parts infoByte
  subst hn
  refine BigFrame.wpList_want hw fun K hK => ?_
  refine wp_append_own _ s x 35 ho base 5 i0 (.int .u8 0) 1 1 Tryz.underlying35 hi hz0 hz1 hz2 rfl (by decide) v xs.length _ hs hown ad ys.length c (ys.map (Value.int .u8)) hx (by simp)
    (fun j u hj => ?_) (fun u hu => by obtain ⟨n, _, rfl⟩ := List.mem_map.1 hu; rfl) (by unfold maxLen; omega) (by omega) hbase (fun v' w' hown' hgrow _ => hK _ _ (h v' w' ?_ (hb.grown hgrow hbase (fun k hk => (World.ownsRow.lt hown k hk).1)) (by have := hgrow.size; omega)))
  · have hjl : j < ys.length := by
      rcases Nat.lt_or_ge j ys.length with h | h
      · exact h
      · rw [List.getElem?_eq_none (by simpa using h)] at hj; cases hj
    obtain ⟨b, off, he, hc⟩ := hy.at (by omega)
    obtain rfl := Option.some.inj he
    have hplain : (⟨b, off, none⟩ : Addr).add j = ⟨b, off + j, none⟩ := by unfold Addr.add; split <;> simp_all
    rw [hplain, hc j hjl]
    rw [← hj, getD_lt hjl]; simp [hjl]
  · unfold Own; rw [List.length_append, List.map_append]; exact hown'
end
theorem headB_bytes : ∀ z ∈ headB, 0 ≤ z ∧ z < 256 := by intro z hz; unfold headB at hz; simp at hz; omega
set_option maxRecDepth 100000 in
set_option maxHeartbeats 4000000 in
theorem awake8 (w : World) (hT : Nams w) (hU : Utf.Tabs w) : Calls Tryz.prog 8 #[] w fun e w' => e = .returned (.bool true) ∧ Below w.heap.size w w' := by
  have HT := hid hT
  have HU := hid hU
  have C := hid (mod_none w hT hU)
  clear hT hU
  go_enter Tryz.func8, Tryz.ntmps8
  go_wp2_with fail
  refine C.out.mono ?_
  rintro e w1 ⟨a1, n1, c1, rfl, hn1, hy1, _, hb1⟩
  have HY1 := hid hy1
  have HN1 := hid hn1
  have HB1 := hid hb1
  clear C hn1 hy1 hb1
  have hb2 := (Below.refl w1.heap.size w1).alloc (Nat.le_refl _) (.cells #[.int .u32 1, .int .u32 2, .bool true] 60)
  have HB2 := hid (thenB HB1.out hb2)
  have HY2 := hid (HY1.out.below hb2)
  have C := hid (mod_mem w1.heap.size _ (HT.out.below HB2.out) (HU.out.below HB2.out) (BoxAt.made w1 #[.int .u32 1, .int .u32 2, .bool true] 60))
  clear hb2 HB1 HY1
  go_wp2_with fail
  refine C.out.mono ?_
  rintro e w2 ⟨a2, n2, c2, rfl, hn2, hy2, _, hb3⟩
  have HZ2 := hid hy2
  have HN2 := hid hn2
  have HB3 := hid (thenB HB2.out hb3)
  have HY3 := hid (HY2.out.below hb3)
  clear C hn2 hy2 hb3 HB2 HY2
  have C := hid (first_any w2)
  go_wp2_with fail
  refine C.out.mono ?_
  rintro e w3 ⟨rfl, ho3, hb4⟩
  have HB4 := hid (thenB HB3.out hb4)
  have HY4 := hid (HY3.out.below hb4)
  have HZ4 := hid (HZ2.out.below hb4)
  have C2 := hid (SameBytes_any a1 _ n1 c1 8 8 headB headB w3 HN1.out rfl HY4.out (ho3.bytes headB_bytes (by decide)))
  clear C ho3 hb4 HB3 HY3 HZ2
  go_wp2_with fail
  refine C2.out.mono ?_
  rintro e w4 ⟨rfl, rfl⟩
  clear C2
  have C := hid (first_any w3)
  go_wp2_with fail
  refine C.out.mono ?_
  rintro e w5 ⟨rfl, ho5, hb5⟩
  have HB5 := hid (thenB HB4.out hb5)
  have hb6 := (Below.refl w5.heap.size w5).alloc (Nat.le_refl _) (.cells #[.int .u8 5, .int .u8 4, .int .u8 1, .int .u8 1, .int .u8 1, .int .u8 2] 5)
  have HO6 := hid (ho5.alloc (.cells #[.int .u8 5, .int .u8 4, .int .u8 1, .int .u8 1, .int .u8 1, .int .u8 2] 5))
  have HS6 := hid (show w3.heap.size ≤ (w5.alloc (.cells #[.int .u8 5, .int .u8 4, .int .u8 1, .int .u8 1, .int .u8 1, .int .u8 2] 5)).heap.size by have := hb5.size; simp; omega)
  have HR6 := hid (hb5.trans (hb6.mono hb5.size))
  have HL6 := hid (show Bytes (w5.alloc (.cells #[.int .u8 5, .int .u8 4, .int .u8 1, .int .u8 1, .int .u8 1, .int .u8 2] 5)) (some ⟨w5.heap.size, 0, none⟩) [5, 4, 1, 1, 1, 2] from ⟨by intro z hz; simp at hz; omega, by simp, .inr ⟨_, 0, rfl, fun i hi => by
    have hi6 : i < 6 := hi
    match i, hi6 with
    | 0, _ | 1, _ | 2, _ | 3, _ | 4, _ | 5, _ => simp [go_sem]⟩⟩)
  clear C ho5 hb5 hb6 HY4
  have C2 := hid (fun (a7 : Option Addr) (c7 : Nat) (w7 : World) (h1 : Own w3.heap.size w7 (.slice a7 14 c7) oneMem) (h2 : Below w3.heap.size w3 w7) => SameBytes_any a2 a7 n2 c2 14 c7 oneMem oneMem w7 HN2.out rfl (HZ4.out.below h2) (h1.bytes (by intro z hz; unfold oneMem at hz; simp at hz; omega) (by decide)))
  clear HZ4
  go_wp2_with (first
    | (at_builtin; refine bytes_wanted (ys := [5, 4, 1, 1, 1, 2]) (by first | rfl | simp [Region.wanted, yielded]) (.tmp 30) (.tmp 31) rfl rfl HO6.out HR6.out HS6.out _ 6 6 rfl rfl HL6.out (by decide) ?_; intro v7 w7 ho7 hb7 hs7; have HO7 := hid ho7; have HB7 := hid hb7; clear ho7 hb7 hs7; obtain ⟨a7, c7, rfl⟩ := HO7.out.sliceN (n := 14) rfl; have C3 := hid (C2.out a7 c7 w7 HO7.out HB7.out))
    | (go_at_call 11; refine C3.out.mono ?_; rintro e w8 ⟨rfl, rfl⟩))
  go_ret
  exact ⟨by simp, HB4.out.trans (HB7.out.mono HB4.out.size)⟩
end Go.Proofs.YtepbjkkakfpjgaaGreatDoor.Enc

/-
  ENCODE: how many bytes a module of no more than 5000 parts can have (plain).
-/
namespace Go.Proofs.YtepbjkkakfpjgaaGreatDoor.Enc
open Go.RowKit Go.Proofs.YtepbjkkakfpjgaaGreatDoor.Leb Go.Proofs.YtepbjkkakfpjgaaGreatDoor.Instr Go.Proofs.YtepbjkkakfpjgaaGreatDoor.Mod
open Go.Proofs.YtepbjkkakfpjgaaGreatDoor.Body (encL codeL encP encRest encTags locL)

theorem tags_lenE : ∀ l : List Int, (l.flatMap encU).length ≤ 5 * l.length
  | [] => by simp
  | a :: r => by
    have h := tags_lenE r
    have h1 := (sizeU_pos a).2
    rw [List.flatMap_cons, List.length_append, encU_length, List.length_cons]
    omega
theorem flat_le {α : Type} (f : α → List Int) (C : Nat) : ∀ l : List α, (∀ x ∈ l, (f x).length ≤ C) → (l.flatMap f).length ≤ l.length * C
  | [], _ => by simp
  | a :: r, h => by
    have h1 := flat_le f C r (fun x hx => h x (List.mem_cons_of_mem _ hx))
    have h2 := h a (List.mem_cons_self ..)
    rw [List.flatMap_cons, List.length_append, List.length_cons, Nat.add_mul]
    omega
theorem fit_le {α : Type} (f : α → List Int) (l : List α) (most : Int) (hl : l.length ≤ 5000) (h : ∀ x ∈ l, (f x).length ≤ 150000) : FitP f l most := by
  unfold FitP
  have h1 := flat_le f 150000 l h
  have h2 := (sizeU_pos (l.length : Int)).2
  have h3 : l.length * 150000 ≤ 5000 * 150000 := Nat.mul_le_mul_right _ hl
  rw [List.length_append, encU_length]
  omega
theorem name_le {s : ByteArray} (h : s.size ≤ 1000) : (nameB s).length ≤ 1005 := by
  have := (sizeU_pos (s.size : Int)).2
  unfold nameB
  rw [List.length_append, encU_length, numsOf_length]
  omega
theorem words_le {n : Int} (h : n ≤ 255) : (Kind.wordsL n).length ≤ 260 := by
  have := (sizeU_pos n).2
  unfold Kind.wordsL
  rw [List.length_append, encU_length, List.length_replicate]
  omega
theorem ins_le {l : Lst} (h : (encL l.t).length ≤ 90000) : (insB l).length ≤ 90001 := by
  unfold insB Go.Proofs.YtepbjkkakfpjgaaGreatDoor.Body.encP
  rw [List.length_append, List.length_singleton]
  omega
theorem lim_le (n x : Int) (c : Bool) : (Kind.limL n x c).length ≤ 11 := by
  have h1 := (sizeU_pos n).2
  have h2 := (sizeU_pos x).2
  unfold Kind.limL
  split <;> simp only [List.length_cons, List.length_append, encU_length] <;> omega
theorem code_le {n : Int} {t : Il} (h : (encL t).length ≤ 90000) : (codeL n t).length ≤ 90020 := by
  have h1 := (sizeU_pos n).2
  unfold codeL Go.Proofs.YtepbjkkakfpjgaaGreatDoor.Body.encP
  rw [List.length_append, List.length_append, List.length_singleton]
  have h2 : (locL n).length ≤ 12 := by
    unfold locL
    split <;> simp only [List.length_cons, List.length_append, List.length_nil, encU_length] <;> omega
  omega
/-- Each section of a module of few parts is no more than a machine holds. -/
theorem fit_of {m : Md} (most : Int) (hc : m.check = 0) (hs : m.small 5000) (he : ∀ l ∈ m.codes, (encL l.t).length ≤ 90000) : FitAll m most := by
  have F := facts_of hc
  have hl := hs.lens
  refine ⟨fit_le _ _ _ (by omega) fun x hx => ?_, fit_le _ _ _ (by omega) fun x hx => ?_, fit_le _ _ _ (by omega) fun x hx => ?_, fit_le _ _ _ (by omega) fun x hx => ?_, fit_le _ _ _ (by omega) fun x hx => ?_, fit_le _ _ _ (by omega) fun x hx => ?_, fit_le _ _ _ (by omega) fun x hx => ?_, fit_le _ _ _ (by omega) fun x hx => ?_, fit_le _ _ _ (by omega) fun x hx => ?_, fit_le _ _ _ (by omega) fun x hx => ?_⟩
  · have h := F.ty x hx
    unfold Kind.okType at h
    simp only [Bool.and_eq_true, decide_eq_true_eq] at h
    have h1 := words_le (n := x.1) (by omega)
    have h2 := words_le (n := x.2) (by omega)
    unfold tyB Kind.typeL
    rw [List.length_cons, List.length_append]
    omega
  · have h := F.im x hx
    have h1 := name_le h.1
    have h2 := name_le h.2.1
    have h3 := (sizeU_pos x.ty).2
    unfold impB
    simp only [List.length_cons, List.length_append, encU_length]
    omega
  · have h3 := (sizeU_pos x.ty).2
    unfold fnB
    rw [encU_length]
    omega
  · have h := lim_le x.n x.x x.c
    unfold tbB
    rw [List.length_cons]
    omega
  · have h := lim_le x.n x.x x.c
    unfold meB
    omega
  · have h := ins_le (he _ (mem_gl hx))
    unfold glB
    simp only [List.length_cons]
    omega
  · have h1 := name_le (F.ex x hx).1
    have h3 := (sizeU_pos x.i).2
    unfold exB
    simp only [List.length_cons, List.length_append, encU_length]
    omega
  · have h := ins_le (he _ (mem_el hx))
    have h1 := hs.fs x hx
    have h2 := tags_lenE x.fs
    have h3 := (sizeU_pos (x.fs.length : Int)).2
    unfold elB
    simp only [List.length_cons, List.length_append, encU_length]
    omega
  · have h := code_le (n := x.lo) (he _ (mem_fu hx))
    have h3 := (sizeU_pos ((codeL x.lo x.l.t).length : Int)).2
    unfold coB
    rw [List.length_append, encU_length]
    omega
  · have h := ins_le (he _ (mem_da hx))
    have h1 := hs.bs x hx
    have h3 := (sizeU_pos (x.bs.length : Int)).2
    unfold daB
    simp only [List.length_cons, List.length_append, encU_length]
    omega
end Go.Proofs.YtepbjkkakfpjgaaGreatDoor.Enc

/-
  ENCODE: unlike modules have unlike bytes: what the guard gives (plain).
-/
namespace Go.Proofs.YtepbjkkakfpjgaaGreatDoor.Enc
open Go.RowKit Go.Proofs.YtepbjkkakfpjgaaGreatDoor.Leb Go.Proofs.YtepbjkkakfpjgaaGreatDoor.Instr Go.Proofs.YtepbjkkakfpjgaaGreatDoor.Mod
open Go.Proofs.YtepbjkkakfpjgaaGreatDoor.Body (encL codeL encRest encTags encU_lens encS_lens)

theorem rest_lenE (x : Ix) : (encRest x).length ≤ 10 + 5 * x.tags.length := by
  have ha := (encU_lens x.a).1
  have hb := (encU_lens x.b).1
  have hn := (encS_lens x.n).1
  have ht := (encU_lens (x.tags.length : Int)).1
  have hl := tags_lenE x.tags
  unfold encRest encTags
  split <;> (try simp only [List.length_append, List.length_cons, List.length_nil]) <;> omega
theorem encL_lenE : ∀ t : Il, (encL t).length ≤ 13 * t.weight
  | .nil => by simp [encL]
  | .cons x l e r => by
    have h0 := rest_lenE x
    have h1 := encL_lenE l
    have h2 := encL_lenE e
    have h3 := encL_lenE r
    simp only [encL, Il.weight]
    split <;> (try split) <;> simp only [List.length_append, List.length_cons, List.length_nil] <;> omega
theorem enc_few {m : Md} (hs : m.small 5000) : ∀ l ∈ m.codes, (encL l.t).length ≤ 90000 := fun l hl => by
  have h1 := encL_lenE l.t
  have h2 := hs.ls l hl
  omega
theorem ready_of {w : World} {m : Md} (hT : Nams w) (hU : Utf.Tabs w) (hm : ModAt w.heap.size w m) (hf : m.fits) (hr : m.ranged) (hs : m.small 5000) : Ready w m := by
  have hl := hs.lens
  refine ⟨hT, hU, hm, ⟨hf, fun l h => ?_, by omega, by omega, by omega, by omega, by omega, by omega, by omega, by omega, by omega⟩, ⟨hr.n0, hr.ei, hr.ef, hr.db, hr.sn⟩, enc_few hs⟩
  have h1 := weight_count l.t
  have h2 := hs.ls l h
  omega
theorem modR_zero {m : Md} (h : (modR m).2 = 0) : m.check = 0 ∧ (modR m).1 = modB m := by
  unfold modR at h ⊢
  split at h
  · rename_i hc; exact absurd h hc
  · rename_i hc
    split at h
    · simp at h
    · rename_i hl
      rw [if_neg hc, if_neg hl]
      exact ⟨by simpa using hc, rfl⟩
theorem apart_is {w : World} {a b : Md} (Ra : Ready w a) (Rb : Ready w b) (sa : a.small 5000) (sb : b.small 5000) (ha : (modR a).2 = 0) (hb : (modR b).2 = 0) : is ((modR a).1 = (modR b).1) = is (Same a b) := by
  obtain ⟨ca, ea⟩ := modR_zero ha
  obtain ⟨cb, eb⟩ := modR_zero hb
  have la : ∀ k, k < 11 → (secB a k).length < 4294967296 := fun k hk => by have := secB_few (k := k) (fit_of 0 ca sa (enc_few sa)) hk; omega
  have lb : ∀ k, k < 11 → (secB b k).length < 4294967296 := fun k hk => by have := secB_few (k := k) (fit_of 0 cb sb (enc_few sb)) hk; omega
  have h := mod_apart (Ra.fine ca).clear (Rb.fine cb).clear la lb
  rw [ea, eb]
  by_cases g : modB a = modB b
  · rw [is_yes g, is_yes (same_iff.1 (h.1 g))]
  · rw [is_no g, is_no (fun k => g (h.2 (same_iff.2 k)))]
end Go.Proofs.YtepbjkkakfpjgaaGreatDoor.Enc
