import Derived.Test.YtepbjkkakfpjgaaGreatDoorEt14
import Derived.BigRegion
import Derived.RegionTactic
namespace Go.Proofs.YtepbjkkakfpjgaaGreatDoor.Enc
open Go.RowKit Go.Shelf Leb Go.Proofs.YtepbjkkakfpjgaaGreatDoor.Instr Go.Proofs.YtepbjkkakfpjgaaGreatDoor.Mod
open Go.Proofs.YtepbjkkakfpjgaaGreatDoor.Body (encL codeL)
def FitP {α : Type} (f : α → List Int) (l : List α) (_most : Int) : Prop := (encU l.length ++ l.flatMap f).length ≤ 1000000000
theorem glAny (g B : Nat) (v : Value) (xs : List Int) (x : Gl) (w0 w : World) (h : Buf g B v w v xs w) (hB : Below w0.heap.size w0 w) (hg : w0.heap.size < g) (hl : xs.length ≤ 1000000000)
  (hLs : ListAt w0.heap.size w0 x.l.a x.l.t.len x.l.t) (hT : Nams w0) (hck : checkP x.l.t = 0) (hln : x.l.t.len ≤ 140737488351232) (hct : x.l.t.count ≤ 1000000) (hel : (encL x.l.t).length ≤ 90000) :
  Calls Tryz.prog 167 #[.pointer (some ⟨g, 0, none⟩), .agg #[.bool x.mu, .slice x.l.a x.l.t.len x.l.c]] w (Puts g B v w (xs ++ glB x)) := by
 unfold glB
 obtain ⟨mu, l⟩ := x
 cases mu with
 | true => exact global1_any g B v xs ⟨true, l⟩ w0 w h hB hg hl hLs hT hck hln hct hel
 | false => exact global0_any g B v xs ⟨false, l⟩ w0 w h hB hg hl hLs hT hck hln hct hel
set_option maxRecDepth 100000 in
set_option maxHeartbeats 1000000 in
theorem sec_types (w0 W : World) (m : Md) (g B : Nat) (v : Value) (most : Int) (FI : Fine w0 m) (H : Wr w0 m g B most v [] W) (hf : FitP tyB m.ty most) :
  Calls Tryz.prog 99 #[.pointer (some ⟨g, 0, none⟩)] W (PutsC most g B v W (lstB tyB m.ty)) := by
 have F := facts_of FI.chk
 have C0 := hid (list_ty g B v m.ty m.ty'.a m.ty.length m.ty'.c most w0 (W.drew) (H.buf.on (Below.refl W.heap.size W).drew).again H.low.drew H.hg (by exact H.most) rfl FI.at_.ty F.lens.1 158 (enters_of Tryz.func158 (by kernel_rfl) rfl) tyB
   (fun W v xs x hx hB hb hl => funcType_any g B v xs x w0 W hb hB H.hg hl (F.ty x hx)) hf)
 have HB := hid (H.buf.on (Below.refl W.heap.size W).drew)
 have c := show W.cell? ⟨g, 1 + 0, none⟩ = some (.slice m.ty'.a m.ty.length m.ty'.c) from H.box 0 _ rfl
 simp only [Nat.reduceAdd] at c
 obtain ⟨n, hn⟩ : ∃ n, m.ty.length = n := ⟨_, rfl⟩
 rw [hn] at c C0
 clear FI H hf F hn
 go_enter Tryz.func99, Tryz.ntmps99
 go_wp2
 go_region_with (go_at_call 157; refine C0.out.mono ?_; rintro e1 w1 ⟨z1, hz, rfl, v1, hb⟩)
 all_goals
  go_end0
  exact ⟨z1, hz, rfl, v1, HB.out.trans hb⟩
set_option maxRecDepth 100000 in
set_option maxHeartbeats 1000000 in
theorem sec_imports (w0 W : World) (m : Md) (g B : Nat) (v : Value) (most : Int) (FI : Fine w0 m) (H : Wr w0 m g B most v [] W) (hf : FitP impB m.im most) :
  Calls Tryz.prog 100 #[.pointer (some ⟨g, 0, none⟩)] W (PutsC most g B v W (lstB impB m.im)) := by
 have F := facts_of FI.chk
 have C0 := hid (list_im g B v m.im m.im'.a m.im.length m.im'.c most w0 (W.drew) (H.buf.on (Below.refl W.heap.size W).drew).again H.low.drew H.hg (by exact H.most) rfl FI.at_.im F.lens.2.1 160 (enters_of Tryz.func160 (by kernel_rfl) rfl) impB
   (fun W v xs x hx hB hb hl => imported_any g B v xs x w0 W hb hB H.hg hl FI.tab (by have := (F.im x hx).1; omega) (by have := (F.im x hx).2.1; omega) (F.im x hx).2.2.1 (F.im x hx).2.2.2.1 (F.im x hx).2.2.2.2.1 (F.im x hx).2.2.2.2.2) hf)
 have HB := hid (H.buf.on (Below.refl W.heap.size W).drew)
 have c := show W.cell? ⟨g, 1 + 1, none⟩ = some (.slice m.im'.a m.im.length m.im'.c) from H.box 1 _ rfl
 simp only [Nat.reduceAdd] at c
 obtain ⟨n, hn⟩ : ∃ n, m.im.length = n := ⟨_, rfl⟩
 rw [hn] at c C0
 clear FI H hf F hn
 go_enter Tryz.func100, Tryz.ntmps100
 go_wp2
 go_region_with (go_at_call 159; refine C0.out.mono ?_; rintro e1 w1 ⟨z1, hz, rfl, v1, hb⟩)
 all_goals
  go_end0
  exact ⟨z1, hz, rfl, v1, HB.out.trans hb⟩
set_option maxRecDepth 100000 in
set_option maxHeartbeats 1000000 in
theorem sec_funcs (w0 W : World) (m : Md) (g B : Nat) (v : Value) (most : Int) (FI : Fine w0 m) (H : Wr w0 m g B most v [] W) (hf : FitP fnB m.fu most) :
  Calls Tryz.prog 101 #[.pointer (some ⟨g, 0, none⟩)] W (PutsC most g B v W (lstB fnB m.fu)) := by
 have F := facts_of FI.chk
 have C0 := hid (list_fu g B v m.fu m.fu'.a m.fu.length m.fu'.c most w0 (W.drew) (H.buf.on (Below.refl W.heap.size W).drew).again H.low.drew H.hg (by exact H.most) rfl FI.at_.fu F.lens.2.2.1 162 (enters_of Tryz.func162 (by kernel_rfl) rfl) fnB
   (fun W v xs x hx hB hb hl => typeOf_any g B v xs x w0 W hb hB H.hg hl (F.fu x hx).1 (F.fu x hx).2.1) hf)
 have HB := hid (H.buf.on (Below.refl W.heap.size W).drew)
 have c := show W.cell? ⟨g, 1 + 2, none⟩ = some (.slice m.fu'.a m.fu.length m.fu'.c) from H.box 2 _ rfl
 simp only [Nat.reduceAdd] at c
 obtain ⟨n, hn⟩ : ∃ n, m.fu.length = n := ⟨_, rfl⟩
 rw [hn] at c C0
 clear FI H hf F hn
 go_enter Tryz.func101, Tryz.ntmps101
 go_wp2
 go_region_with (go_at_call 161; refine C0.out.mono ?_; rintro e1 w1 ⟨z1, hz, rfl, v1, hb⟩)
 all_goals
  go_end0
  exact ⟨z1, hz, rfl, v1, HB.out.trans hb⟩
set_option maxRecDepth 100000 in
set_option maxHeartbeats 1000000 in
theorem sec_tables (w0 W : World) (m : Md) (g B : Nat) (v : Value) (most : Int) (FI : Fine w0 m) (H : Wr w0 m g B most v [] W) (hf : FitP tbB m.tb most) :
  Calls Tryz.prog 102 #[.pointer (some ⟨g, 0, none⟩)] W (PutsC most g B v W (lstB tbB m.tb)) := by
 have F := facts_of FI.chk
 have C0 := hid (list_li g B v m.tb m.tb'.a m.tb.length m.tb'.c most w0 (W.drew) (H.buf.on (Below.refl W.heap.size W).drew).again H.low.drew H.hg (by exact H.most) rfl FI.at_.tb (by have := F.lens.2.2.2.1; omega) 164 (enters_of Tryz.func164 (by kernel_rfl) rfl) tbB
   (fun W v xs x hx hB hb hl => table_any g B v xs x w0 W hb hB H.hg hl (F.tb x hx) (okLim_le (F.tb x hx) (FI.siz.n0 x (List.mem_append_left _ hx)) (by omega)).1 (okLim_le (F.tb x hx) (FI.siz.n0 x (List.mem_append_left _ hx)) (by omega)).2) hf)
 have HB := hid (H.buf.on (Below.refl W.heap.size W).drew)
 have c := show W.cell? ⟨g, 1 + 3, none⟩ = some (.slice m.tb'.a m.tb.length m.tb'.c) from H.box 3 _ rfl
 simp only [Nat.reduceAdd] at c
 obtain ⟨n, hn⟩ : ∃ n, m.tb.length = n := ⟨_, rfl⟩
 rw [hn] at c C0
 clear FI H hf F hn
 go_enter Tryz.func102, Tryz.ntmps102
 go_wp2
 go_region_with (go_at_call 163; refine C0.out.mono ?_; rintro e1 w1 ⟨z1, hz, rfl, v1, hb⟩)
 all_goals
  go_end0
  exact ⟨z1, hz, rfl, v1, HB.out.trans hb⟩
set_option maxRecDepth 100000 in
set_option maxHeartbeats 1000000 in
theorem sec_memories (w0 W : World) (m : Md) (g B : Nat) (v : Value) (most : Int) (FI : Fine w0 m) (H : Wr w0 m g B most v [] W) (hf : FitP meB m.me most) :
  Calls Tryz.prog 103 #[.pointer (some ⟨g, 0, none⟩)] W (PutsC most g B v W (lstB meB m.me)) := by
 have F := facts_of FI.chk
 have C0 := hid (list_li g B v m.me m.me'.a m.me.length m.me'.c most w0 (W.drew) (H.buf.on (Below.refl W.heap.size W).drew).again H.low.drew H.hg (by exact H.most) rfl FI.at_.me (by have := F.lens.2.2.2.2.1; omega) 165 (enters_of Tryz.func165 (by kernel_rfl) rfl) meB
   (fun W v xs x hx hB hb hl => memory_any g B v xs x w0 W hb hB H.hg hl (F.me x hx) (okLim_le (F.me x hx) (FI.siz.n0 x (List.mem_append_right _ hx)) (by omega)).1 (okLim_le (F.me x hx) (FI.siz.n0 x (List.mem_append_right _ hx)) (by omega)).2) hf)
 have HB := hid (H.buf.on (Below.refl W.heap.size W).drew)
 have c := show W.cell? ⟨g, 1 + 4, none⟩ = some (.slice m.me'.a m.me.length m.me'.c) from H.box 4 _ rfl
 simp only [Nat.reduceAdd] at c
 obtain ⟨n, hn⟩ : ∃ n, m.me.length = n := ⟨_, rfl⟩
 rw [hn] at c C0
 clear FI H hf F hn
 go_enter Tryz.func103, Tryz.ntmps103
 go_wp2
 go_region_with (go_at_call 163; refine C0.out.mono ?_; rintro e1 w1 ⟨z1, hz, rfl, v1, hb⟩)
 all_goals
  go_end0
  exact ⟨z1, hz, rfl, v1, HB.out.trans hb⟩
set_option maxRecDepth 100000 in
set_option maxHeartbeats 1000000 in
theorem sec_globals (w0 W : World) (m : Md) (g B : Nat) (v : Value) (most : Int) (FI : Fine w0 m) (H : Wr w0 m g B most v [] W) (hf : FitP glB m.gl most) :
  Calls Tryz.prog 104 #[.pointer (some ⟨g, 0, none⟩)] W (PutsC most g B v W (lstB glB m.gl)) := by
 have F := facts_of FI.chk
 have C0 := hid (list_gl g B v m.gl m.gl'.a m.gl.length m.gl'.c most w0 (W.drew) (H.buf.on (Below.refl W.heap.size W).drew).again H.low.drew H.hg (by exact H.most) rfl FI.at_.gl F.lens.2.2.2.2.2.1 167 (enters_of Tryz.func167 (by kernel_rfl) rfl) glB
   (fun W v xs x hx hB hb hl => glAny g B v xs x w0 W hb hB H.hg hl (FI.at_.ls _ (mem_gl hx)) FI.nam (F.ck _ (mem_gl hx)) (FI.few.fit.ls _ (mem_gl hx)) (FI.few.cs _ (mem_gl hx)) (FI.enc _ (mem_gl hx))) hf)
 have HB := hid (H.buf.on (Below.refl W.heap.size W).drew)
 have c := show W.cell? ⟨g, 1 + 5, none⟩ = some (.slice m.gl'.a m.gl.length m.gl'.c) from H.box 5 _ rfl
 simp only [Nat.reduceAdd] at c
 obtain ⟨n, hn⟩ : ∃ n, m.gl.length = n := ⟨_, rfl⟩
 rw [hn] at c C0
 clear FI H hf F hn
 go_enter Tryz.func104, Tryz.ntmps104
 go_wp2
 go_region_with (go_at_call 166; refine C0.out.mono ?_; rintro e1 w1 ⟨z1, hz, rfl, v1, hb⟩)
 all_goals
  go_end0
  exact ⟨z1, hz, rfl, v1, HB.out.trans hb⟩
set_option maxRecDepth 100000 in
set_option maxHeartbeats 1000000 in
theorem sec_exports (w0 W : World) (m : Md) (g B : Nat) (v : Value) (most : Int) (FI : Fine w0 m) (H : Wr w0 m g B most v [] W) (hf : FitP exB m.ex most) :
  Calls Tryz.prog 105 #[.pointer (some ⟨g, 0, none⟩)] W (PutsC most g B v W (lstB exB m.ex)) := by
 have F := facts_of FI.chk
 have C0 := hid (list_ex g B v m.ex m.ex'.a m.ex.length m.ex'.c most w0 (W.drew) (H.buf.on (Below.refl W.heap.size W).drew).again H.low.drew H.hg (by exact H.most) rfl FI.at_.ex F.lens.2.2.2.2.2.2.1 169 (enters_of Tryz.func169 (by kernel_rfl) rfl) exB
   (fun W v xs x hx hB hb hl => exported_any g B v xs x w0 W hb hB H.hg hl FI.tab (by have := (F.ex x hx).1; omega) (F.ex x hx).2.1 (F.ex x hx).2.2.1 (F.ex x hx).2.2.2 (FI.siz.ei x hx).1 (FI.siz.ei x hx).2) hf)
 have HB := hid (H.buf.on (Below.refl W.heap.size W).drew)
 have c := show W.cell? ⟨g, 1 + 6, none⟩ = some (.slice m.ex'.a m.ex.length m.ex'.c) from H.box 6 _ rfl
 simp only [Nat.reduceAdd] at c
 obtain ⟨n, hn⟩ : ∃ n, m.ex.length = n := ⟨_, rfl⟩
 rw [hn] at c C0
 clear FI H hf F hn
 go_enter Tryz.func105, Tryz.ntmps105
 go_wp2
 go_region_with (go_at_call 168; refine C0.out.mono ?_; rintro e1 w1 ⟨z1, hz, rfl, v1, hb⟩)
 all_goals
  go_end0
  exact ⟨z1, hz, rfl, v1, HB.out.trans hb⟩
set_option maxRecDepth 100000 in
set_option maxHeartbeats 1000000 in
theorem sec_elems (w0 W : World) (m : Md) (g B : Nat) (v : Value) (most : Int) (FI : Fine w0 m) (H : Wr w0 m g B most v [] W) (hf : FitP elB m.el most) :
  Calls Tryz.prog 107 #[.pointer (some ⟨g, 0, none⟩)] W (PutsC most g B v W (lstB elB m.el)) := by
 have F := facts_of FI.chk
 have C0 := hid (list_el g B v m.el m.el'.a m.el.length m.el'.c most w0 (W.drew) (H.buf.on (Below.refl W.heap.size W).drew).again H.low.drew H.hg (by exact H.most) rfl FI.at_.el F.lens.2.2.2.2.2.2.2.1 171 (enters_of Tryz.func171 (by kernel_rfl) rfl) elB
   (fun W v xs x hx hB hb hl => elem_any g B v xs x w0 W hb hB H.hg hl (FI.at_.ls _ (mem_el hx)) FI.nam (F.ck _ (mem_el hx)) (FI.few.fit.ls _ (mem_el hx)) (FI.few.cs _ (mem_el hx)) (FI.enc _ (mem_el hx)) (FI.at_.fs x hx) (FI.siz.ef x hx) (F.el x hx)) hf)
 have HB := hid (H.buf.on (Below.refl W.heap.size W).drew)
 have c := show W.cell? ⟨g, 1 + 9, none⟩ = some (.slice m.el'.a m.el.length m.el'.c) from H.box 9 _ rfl
 simp only [Nat.reduceAdd] at c
 obtain ⟨n, hn⟩ : ∃ n, m.el.length = n := ⟨_, rfl⟩
 rw [hn] at c C0
 clear FI H hf F hn
 go_enter Tryz.func107, Tryz.ntmps107
 go_wp2
 go_region_with (go_at_call 170; refine C0.out.mono ?_; rintro e1 w1 ⟨z1, hz, rfl, v1, hb⟩)
 all_goals
  go_end0
  exact ⟨z1, hz, rfl, v1, HB.out.trans hb⟩
set_option maxRecDepth 100000 in
set_option maxHeartbeats 1000000 in
theorem sec_codes (w0 W : World) (m : Md) (g B : Nat) (v : Value) (most : Int) (FI : Fine w0 m) (H : Wr w0 m g B most v [] W) (hf : FitP coB m.fu most) :
  Calls Tryz.prog 108 #[.pointer (some ⟨g, 0, none⟩)] W (PutsC most g B v W (lstB coB m.fu)) := by
 have F := facts_of FI.chk
 have C0 := hid (list_fu g B v m.fu m.fu'.a m.fu.length m.fu'.c most w0 (W.drew) (H.buf.on (Below.refl W.heap.size W).drew).again H.low.drew H.hg (by exact H.most) rfl FI.at_.fu F.lens.2.2.1 172 (enters_of Tryz.func172 (by kernel_rfl) rfl) coB
   (fun W v xs x hx hB hb hl => code_any g B v xs x w0 W hb hB H.hg hl (FI.at_.ls _ (mem_fu hx)) FI.nam (F.ck _ (mem_fu hx)) (FI.few.fit.ls _ (mem_fu hx)) (FI.few.cs _ (mem_fu hx)) (FI.enc _ (mem_fu hx)) (F.fu x hx).2.2) hf)
 have HB := hid (H.buf.on (Below.refl W.heap.size W).drew)
 have c := show W.cell? ⟨g, 1 + 2, none⟩ = some (.slice m.fu'.a m.fu.length m.fu'.c) from H.box 2 _ rfl
 simp only [Nat.reduceAdd] at c
 obtain ⟨n, hn⟩ : ∃ n, m.fu.length = n := ⟨_, rfl⟩
 rw [hn] at c C0
 clear FI H hf F hn
 go_enter Tryz.func108, Tryz.ntmps108
 go_wp2
 go_region_with (go_at_call 161; refine C0.out.mono ?_; rintro e1 w1 ⟨z1, hz, rfl, v1, hb⟩)
 all_goals
  go_end0
  exact ⟨z1, hz, rfl, v1, HB.out.trans hb⟩
set_option maxRecDepth 100000 in
set_option maxHeartbeats 1000000 in
theorem sec_datas (w0 W : World) (m : Md) (g B : Nat) (v : Value) (most : Int) (FI : Fine w0 m) (H : Wr w0 m g B most v [] W) (hf : FitP daB m.da most) :
  Calls Tryz.prog 109 #[.pointer (some ⟨g, 0, none⟩)] W (PutsC most g B v W (lstB daB m.da)) := by
 have F := facts_of FI.chk
 have C0 := hid (list_da g B v m.da m.da'.a m.da.length m.da'.c most w0 (W.drew) (H.buf.on (Below.refl W.heap.size W).drew).again H.low.drew H.hg (by exact H.most) rfl FI.at_.da F.lens.2.2.2.2.2.2.2.2 174 (enters_of Tryz.func174 (by kernel_rfl) rfl) daB
   (fun W v xs x hx hB hb hl => data_any g B v xs x w0 W hb hB H.hg hl (FI.at_.ls _ (mem_da hx)) FI.nam (F.ck _ (mem_da hx)) (FI.few.fit.ls _ (mem_da hx)) (FI.few.cs _ (mem_da hx)) (FI.enc _ (mem_da hx)) (FI.at_.bs x hx) (FI.siz.db x hx) (by have := bytes_few hx; have := F.da; omega)) hf)
 have HB := hid (H.buf.on (Below.refl W.heap.size W).drew)
 have c := show W.cell? ⟨g, 1 + 10, none⟩ = some (.slice m.da'.a m.da.length m.da'.c) from H.box 10 _ rfl
 simp only [Nat.reduceAdd] at c
 obtain ⟨n, hn⟩ : ∃ n, m.da.length = n := ⟨_, rfl⟩
 rw [hn] at c C0
 clear FI H hf F hn
 go_enter Tryz.func109, Tryz.ntmps109
 go_wp2
 go_region_with (go_at_call 173; refine C0.out.mono ?_; rintro e1 w1 ⟨z1, hz, rfl, v1, hb⟩)
 all_goals
  go_end0
  exact ⟨z1, hz, rfl, v1, HB.out.trans hb⟩
theorem startB_not {m : Md} (h : m.st = false) : secB m 7 = [] := by simp [secB, h]
theorem startB_yes {m : Md} (h : m.st = true) : secB m 7 = encU m.sn := by simp [secB, h]
set_option maxRecDepth 100000 in
set_option maxHeartbeats 1000000 in
theorem sec_start (w0 W : World) (m : Md) (g B : Nat) (v : Value) (most : Int) (FI : Fine w0 m) (H : Wr w0 m g B most v [] W) :
  Calls Tryz.prog 106 #[.pointer (some ⟨g, 0, none⟩)] W (Puts g B v W (secB m 7)) := by
 have c7 := show W.cell? ⟨g, 1 + 7, none⟩ = some (.bool m.st) from H.box 7 _ rfl
 have c8 := show W.cell? ⟨g, 1 + 8, none⟩ = some (.int .u32 m.sn) from H.box 8 _ rfl
 simp only [Nat.reduceAdd] at c7 c8
 have HH := hid H.buf
 have HS := hid FI.siz.sn
 have E0 := hid (fun h => startB_not (m := m) h)
 have E1 := hid (fun h => startB_yes (m := m) h)
 obtain ⟨st, hst⟩ : ∃ b, m.st = b := ⟨_, rfl⟩
 obtain ⟨sn, hsn⟩ : ∃ b, m.sn = b := ⟨_, rfl⟩
 rw [hst] at c7 E0 E1
 rw [hsn] at c8 HS E1
 cases st with
 | false =>
  have HE := hid (E0.out rfl)
  clear FI H E0 E1 hst hsn
  go_enter Tryz.func106, Tryz.ntmps106
  go_wp2
  go_end0
  exact ⟨rfl, v, by rw [HE.out]; exact HH.out⟩
 | true =>
  have HE := hid (E1.out rfl)
  have HB := hid (HH.out.on (Below.refl W.heap.size W).drew)
  have C0 := hid (number_any g B v [] sn W.drew HB.out.again HS.out.1 HS.out.2 (by simp))
  rw [List.nil_append, ← HE.out] at C0
  clear FI H E0 E1 hst hsn
  go_enter Tryz.func106, Tryz.ntmps106
  go_wp2
  go_region_with (go_at_call 110; refine C0.out.mono ?_; rintro e1 w1 ⟨rfl, v1, hb⟩)
  all_goals
   go_end0
   exact ⟨rfl, v1, HB.out.trans hb⟩
end Go.Proofs.YtepbjkkakfpjgaaGreatDoor.Enc
