/-
  BODY: one open list more; the first one; the instruction's contract, its value written out.
-/
import Derived.Test.YtlfflomeaplidaaDoorBodyCloseM
namespace Go.Proofs.YtlfflomeaplidaaDoor.Body
open Go.RowKit Go.Proofs.YtlfflomeaplidaaDoor.Instr
open Go.Proofs.YtlfflomeaplidaaDoor.Kind (Rd numR refuseR startR numR_good numR_bounds refuseR_good getL_next)

def zeroO : Value := .agg #[.int .i64 0, .int .i64 0, .int .u32 0, .int .u32 0, .int .i32 0, .slice none 0 0, .slice none 0 0, .slice none 0 0, .slice none 0 0, .bool false]
theorem infoO : (Tryd.prog.info? 148).map (fun i => (i.zero, i.size, i.bytes)) = some (some zeroO, 10, 136) := by kernel_rfl
def newOg (x : Ix) : Og := ⟨x, .nil, .nil, .slice none 0 0, false⟩
theorem restR_plain {zs : List Int} {op : Int} {s : Rd} : (restR zs op s).x = plainX (restR zs op s).x.op (restR zs op s).x.res (restR zs op s).x.a (restR zs op s).x.b (restR zs op s).x.n (restR zs op s).x.tags := by
  unfold restR
  split <;> rfl
theorem restR_kind1 {zs : List Int} {op : Int} {s : Rd} (h : kindP op = 1) : (restR zs op s).x.a = 0 ∧ (restR zs op s).x.b = 0 ∧ (restR zs op s).x.n = 0 ∧ (restR zs op s).x.tags = [] ∧ ((restR zs op s).x.res = 0 ∨ (restR zs op s).x.res = 1) := by
  rw [restR1 h]
  refine ⟨rfl, rfl, rfl, rfl, ?_⟩
  dsimp only [plainX]
  split <;> simp
theorem sgnR_bounds {zs : List Int} {s : Rd} (hz : ∀ c ∈ zs, 0 ≤ c ∧ c < 256) : -2147483648 ≤ (sgnR zs s).1 ∧ (sgnR zs s).1 < 2147483648 := by
  unfold sgnR
  split
  · split
    · rename_i he
      have := Leb.getL_shortS hz (x := (Leb.getL true zs s.1).1) (q := (Leb.getL true zs s.1).2.1) (e := (Leb.getL true zs s.1).2.2.1) (f := (Leb.getL true zs s.1).2.2.2) rfl he
      exact ⟨this.1, this.2.1⟩
    · simp
  · simp
theorem restR_ok {zs : List Int} {op : Int} {s : Rd} (hz : ∀ c ∈ zs, 0 ≤ c ∧ c < 256) (h0 : -9223372036854775808 ≤ op ∧ op ≤ 9223372036854775807) : (restR zs op s).x.ok ∧ (restR zs op s).x.tags.length ≤ 16384 := by
  have u : ∀ t : Rd, 0 ≤ (numR zs t).1 ∧ (numR zs t).1 < 4294967296 := fun t => numR_bounds hz
  have v := sgnR_bounds (s := s) hz
  have l := labelsR_few (s := s) hz
  rcases kind_cases op with hk | hk | hk | hk | hk | hk | hk | hk
  · rw [restR0 hk]; exact ⟨⟨h0, by simp [plainX], by simp [plainX], by simp [plainX], by simp [plainX], by simp [plainX], by simp [plainX], by simp [plainX], by simp [plainX]⟩, by simp [plainX]⟩
  · rw [restR1 hk]
    refine ⟨⟨h0, ?_, by simp [plainX], by simp [plainX], by simp [plainX], by simp [plainX], by simp [plainX], by simp [plainX], by simp [plainX]⟩, by simp [plainX]⟩
    dsimp only [plainX]
    split <;> simp
  · rw [restR2 hk]; exact ⟨⟨h0, by simp [plainX], u _, by simp [plainX], by simp [plainX], by simp [plainX], by simp [plainX], by simp [plainX], by simp [plainX]⟩, by simp [plainX]⟩
  · rw [restR3 hk]; exact ⟨⟨h0, by simp [plainX], u _, by simp [plainX], by simp [plainX], by simp [plainX], by simp [plainX], by simp [plainX], by simp [plainX]⟩, by simp [plainX]⟩
  · rw [restR4 hk]; exact ⟨⟨h0, by simp [plainX], u _, by simp [plainX], by simp [plainX], l.2, by simp only [plainX]; omega, by simp [plainX], by simp [plainX]⟩, l.1⟩
  · rw [restR5 hk]; exact ⟨⟨h0, by simp [plainX], u _, u _, by simp [plainX], by simp [plainX], by simp [plainX], by simp [plainX], by simp [plainX]⟩, by simp [plainX]⟩
  · rw [restR6 hk]; exact ⟨⟨h0, by simp [plainX], by simp [plainX], by simp [plainX], by simp [plainX], by simp [plainX], by simp [plainX], by simp [plainX], by simp [plainX]⟩, by simp [plainX]⟩
  · rw [restR7 hk]; exact ⟨⟨h0, by simp [plainX], by simp [plainX], by simp [plainX], v, by simp [plainX], by simp [plainX], by simp [plainX], by simp [plainX]⟩, by simp [plainX]⟩

theorem newOg_half {base : Nat} {w : World} {x : Ix} (h1 : x.tags = []) (h2 : x.a = 0 ∧ x.b = 0 ∧ x.n = 0) (h3 : x.ok) (h4 : x.la = none ∧ x.ln = 0 ∧ x.lc = 0) (h5 : x.ea = none ∧ x.en = 0 ∧ x.ec = 0) : OpenOk base w (newOg x) :=
  ⟨⟨trivial, ⟨h4.2.1.symm, .inl rfl⟩, h1, h2, h3, h5, fun _ => h4, fun q hq => by simp [newOg, Og.inner, Il.foot, blkOf, h4.2.1] at hq, by simp [newOg, Il.len], fun q hq => by simp [newOg, Og.inner, Il.foot, blkOf, h4.2.1] at hq⟩, rfl, .inl ⟨rfl, rfl⟩⟩
theorem newOg_foot {x : Ix} (h : x.ln = 0) : (newOg x).foot = [] := by simp [newOg, Og.foot, Og.inner, rowBlk, Value.ownBlock, Il.foot, blkOf, h]
theorem StackOk.push {base : Nat} {w w' : World} {gs cap g' cap' : Nat} {os : List Og} {x : Ix} (h : StackOk base w gs cap os) (hown : w'.ownsRow base 148 10 (.slice (some ⟨g', 0, none⟩) (os.length + 1) cap') (os.length + 1) (os.flatMap Og.cells ++ (newOg x).cells))
    (hgrow : w.grownBy w' (Value.ownBlock (.slice (some ⟨gs, 0, none⟩) os.length cap))) (hat : Value.ownBlock (.slice (some ⟨gs, 0, none⟩) os.length cap) = some g' ∨ w.heap.size ≤ g') (hx : ∀ w, OpenOk base w (newOg x)) (hln : x.ln = 0) : StackOk base w' g' cap' (os ++ [newOg x]) := by
  have hap := List.nodup_cons.1 h.apart
  refine ⟨by rw [flat_snoc, List.length_append]; exact hown, fun o ho => ?_, ?_⟩
  · rcases List.mem_append.1 ho with ho | ho
    · refine (h.each o ho).touch (Touch.of_grown hgrow) (fun q hq hj => hap.1 ?_)
      simp [Value.ownBlock] at hj
      subst hj
      exact List.mem_flatMap.2 ⟨o, ho, hq⟩
    · simp at ho; subst ho; exact hx w'
  · rw [List.flatMap_append, List.flatMap_cons, List.flatMap_nil, List.append_nil, newOg_foot hln, List.append_nil]
    refine List.nodup_cons.2 ⟨fun hm => ?_, hap.2⟩
    rcases hat with hq | hq
    · simp [Value.ownBlock] at hq; subst hq; exact hap.1 hm
    · obtain ⟨o, ho, hq2⟩ := List.mem_flatMap.1 hm
      have := (h.each o ho).lt _ hq2
      omega
theorem StackOk.first {base : Nat} (w : World) (hb : base ≤ w.heap.size) : StackOk base (w.alloc (.cells #[.int .i64 0, .int .i64 0, .int .u32 0, .int .u32 0, .int .i32 0, .slice none 0 0, .slice none 0 0, .slice none 0 0, .slice none 0 0, .bool false] 148)) w.heap.size 1 [newOg zeroX] := by
  have hr := World.ownsRow_lit (base := base) (e := 148) (size := 10) w #[.int .i64 0, .int .i64 0, .int .u32 0, .int .u32 0, .int .i32 0, .slice none 0 0, .slice none 0 0, .slice none 0 0, .slice none 0 0, .bool false] 1 hb (by decide) rfl
  refine ⟨by simpa [newOg, Og.cells, zeroX, plainX, Ix.vals] using hr, fun o ho => ?_, ?_⟩
  · simp at ho; subst ho
    exact newOg_half rfl ⟨rfl, rfl, rfl⟩ (by constructor <;> simp [zeroX, plainX]) ⟨rfl, rfl, rfl⟩ ⟨rfl, rfl, rfl⟩
  · simp [newOg_foot (x := zeroX) rfl]

/-- An instruction without its lists, its value written out. -/
def DoesV (k : Nat) (v : Value) (w : World) (op res a b n : Int) (tags : List Int) (s : Rd) (e : Ending) (w' : World) : Prop :=
  ∃ ta tc, e = .returned (.agg #[.int .i64 op, .int .i64 res, .int .u32 a, .int .u32 b, .int .i32 n, .slice ta tags.length tc, .slice none 0 0, .slice none 0 0]) ∧ OwnK 42 .u32 w.heap.size w' (.slice ta tags.length tc) tags ∧ RdIs w' k v s ∧ Save k w w'
theorem instruction_v (k : Nat) (av : Option Addr) (len cap : Nat) (zs : List Int) (s : Rd) (op : Int) (w : World) (h : RdIs w k (.slice av len cap) s) (hg : Kind.Good zs s) (hlen : zs.length = len) (hz : Bytes w av zs) (ha : ∀ b off, av = some ⟨b, off, none⟩ → zs ≠ [] → b ≠ k) :
    Calls Tryd.prog 113 #[.pointer (some ⟨k, 0, none⟩), .int .i64 op] w (DoesV k (.slice av len cap) w (restR zs op s).x.op (restR zs op s).x.res (restR zs op s).x.a (restR zs op s).x.b (restR zs op s).x.n (restR zs op s).x.tags (restR zs op s).s) := by
  refine (instruction_any k av len cap zs s op w h hg hlen hz ha).mono ?_
  rintro e w' ⟨ta, tc, he, h1, h2, h3⟩
  refine ⟨ta, tc, ?_, h1, h2, h3⟩
  rw [he]
  have := restR_plain (zs := zs) (op := op) (s := s)
  generalize (restR zs op s).x = x at *
  rw [this]
  rfl
theorem tags_soft {w : World} {B : Nat} {ta : Option Addr} {tc : Nat} {tags : List Int} (h : OwnK 42 .u32 B w (.slice ta tags.length tc) tags) : ∀ q ∈ blkOf tags.length ta, Soft w q := by
  intro q hq
  unfold blkOf at hq
  split at hq
  · simp at hq
  · cases ta with
    | none => simp at hq
    | some p =>
      simp at hq
      subst hq
      exact soft_row h rfl
theorem tags_of {w : World} {B : Nat} {ta : Option Addr} {tc : Nat} {tags : List Int} (h : OwnK 42 .u32 B w (.slice ta tags.length tc) tags) : TagsAt w.heap.size w ta tags ∧ (∀ q ∈ blkOf tags.length ta, B ≤ q) ∧ (blkOf tags.length ta).Nodup := by
  refine ⟨?_, ?_, ?_⟩
  · rcases (OwnK.nums h).at_ with h0 | ⟨b, off, rfl, hc⟩
    · exact .inl h0
    · by_cases h0 : tags = []
      · exact .inl h0
      · exact .inr ⟨b, off, rfl, World.block_lt_of_cell? w _ (hc 0 (List.length_pos_iff.2 h0)), hc⟩
  · intro q hq
    rcases h.2 with ⟨h0, _⟩ | ⟨g, cap, cur, hv, hg, _⟩
    · simp only [Value.slice.injEq] at h0
      simp [h0.1, blkOf] at hq
    · simp only [Value.slice.injEq] at hv
      obtain ⟨rfl, _, _⟩ := hv
      unfold blkOf at hq
      split at hq
      · simp at hq
      · simp at hq; omega
  · unfold blkOf
    split
    · exact List.nodup_nil
    · split <;> simp
end Go.Proofs.YtlfflomeaplidaaDoor.Body
