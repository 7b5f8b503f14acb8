import Derived.Test.YtckdnhafookcgaaGreatDoorVp11
import Derived.Test.YtckdnhafookcgaaGreatDoorVp08
import Derived.Test.YtckdnhafookcgaaGreatDoorVp06
import Derived.Test.YtckdnhafookcgaaGreatDoorVp01
import Derived.Test.YtckdnhafookcgaaGreatDoorCards
import Derived.Test.YtckdnhafookcgaaGreatDoorTie
namespace Go.Proofs.YtckdnhafookcgaaGreatDoor.Instr
end Go.Proofs.YtckdnhafookcgaaGreatDoor.Instr
namespace Go.Proofs.YtckdnhafookcgaaGreatDoor.Mod
end Go.Proofs.YtckdnhafookcgaaGreatDoor.Mod
namespace Go.Proofs.YtckdnhafookcgaaGreatDoor.Val
end Go.Proofs.YtckdnhafookcgaaGreatDoor.Val
namespace Go.Proofs.YtckdnhafookcgaaGreatDoor.Val
open Go.RowKit Go.Proofs.YtckdnhafookcgaaGreatDoor.Instr Go.Proofs.YtckdnhafookcgaaGreatDoor.Mod
set_option linter.unusedVariables false

def partM (g : Nat) (sty sfu : Sl) (r lo : Int) (a : Option Addr) (c : Nat) (t : Il) : Md := { richM g with ty := [(1, 1), (0, 0), (0, r)], fu := [⟨1, 0, ⟨none, 0, .nil⟩⟩, ⟨2, lo, ⟨a, c, t⟩⟩], ty' := sty, fu' := sfu }
theorem part_codes (g : Nat) (sty sfu : Sl) (r lo : Int) (a : Option Addr) (c : Nat) (t : Il) : codeP (partM g sty sfu r lo a c t).codes = checkP t := by
  have e : (partM g sty sfu r lo a c t).codes = [⟨none, 0, .nil⟩, ⟨a, c, t⟩, richL g, richL g] := rfl
  have h0 : checkP (.nil : Il) = 0 := by decide
  have h1 : checkP (richL g).t = 0 := by
    show checkP (mkIl [(constI, .nil, .nil)]) = 0
    kernel_rfl
  rw [e]
  simp only [codeP, h0, h1]
  rcases checkP_cases t with h | h | h <;> rw [h] <;> decide
theorem part_check {g : Nat} {sty sfu : Sl} {r lo : Int} {a : Option Addr} {c : Nat} {t : Il} (hr : r = 0 ∨ r = 1) (hlo : 0 ≤ lo ∧ lo ≤ 1000) : (partM g sty sfu r lo a c t).check = checkP t := by
  have h1 : (partM g sty sfu r lo a c t).crowded = false := by kernel_rfl
  have h2 : (partM g sty sfu r lo a c t).anyName longS = false := by kernel_rfl
  have h3 : (partM g sty sfu r lo a c t).heavy = false := by kernel_rfl
  have h4 : (partM g sty sfu r lo a c t).wrong = false := by
    have e : (partM g sty sfu r lo a c t).wrong = ((partM g sty sfu r lo a c t).anyName noText || [(1, 1), (0, 0), (0, r)].any wrongT || (richM g).im.any wrongI || [(⟨1, 0, ⟨none, 0, .nil⟩⟩ : Mod.Fn), ⟨2, lo, ⟨a, c, t⟩⟩].any wrongF || (richM g).ex.any wrongE || (richM g).tb.any (beyond 1048576) || (richM g).me.any (beyond 65536) || (!(richM g).st && decide ((richM g).sn ≠ 0))) := rfl
    have e1 : (partM g sty sfu r lo a c t).anyName noText = false := by kernel_rfl
    have e2 : [(1, 1), (0, 0), (0, r)].any wrongT = false := by rcases hr with rfl | rfl <;> kernel_rfl
    have e3 : (richM g).im.any wrongI = false := by kernel_rfl
    have e4 : [(⟨1, 0, ⟨none, 0, .nil⟩⟩ : Mod.Fn), ⟨2, lo, ⟨a, c, t⟩⟩].any wrongF = false := by
      simp only [List.any_cons, List.any_nil, Bool.or_false, wrongF, wrongN]
      simp
      omega
    have e5 : (richM g).ex.any wrongE = false := by kernel_rfl
    have e6 : (richM g).tb.any (beyond 1048576) = false := by kernel_rfl
    have e7 : (richM g).me.any (beyond 65536) = false := by kernel_rfl
    have e8 : (!(richM g).st && decide ((richM g).sn ≠ 0)) = false := by kernel_rfl
    rw [e, e1, e2, e3, e4, e5, e6, e7, e8]; rfl
  unfold Md.check
  rw [h1, h2, h3, h4, part_codes]
  rcases checkP_cases t with h | h | h <;> rw [h] <;> decide
/-- What is told of the function. -/
theorem part_body {g : Nat} {sty sfu : Sl} {r lo : Int} {a : Option Addr} {c : Nat} {t : Il} (hr : r = 0 ∨ r = 1) (hlo : 0 ≤ lo ∧ lo ≤ 1000) : (Md.body (partM g sty sfu r lo a c t) 1).1 = 0 ↔ checkP t = 0 ∧ (listS (partM g sty sfu r lo a c t) lo r t (startS r)).er = 0 := by
  unfold Md.body
  rw [part_check hr hlo]
  by_cases h : checkP t = 0
  · rw [if_neg (by omega), if_neg (by show ¬ ((1 : Int) < 0 ∨ ((2 : Nat) : Int) ≤ 1); omega)]
    have e : Md.bodyP (partM g sty sfu r lo a c t) (1 : Int).toNat = ((listS (partM g sty sfu r lo a c t) (0 + lo) r t (startS r)).er, (listS (partM g sty sfu r lo a c t) (0 + lo) r t (startS r)).at_) := rfl
    rw [e, Int.zero_add]
    exact ⟨fun h1 => ⟨h, h1⟩, fun h1 => h1.2⟩
  · rw [if_pos h]
    exact ⟨fun h1 => absurd h1 h, fun h1 => absurd h1.1 h⟩
theorem part_lacks (g : Nat) (s1 s2 s3 s4 : Sl) (r lo lo2 : Int) (a a' : Option Addr) (c c' : Nat) (t t' : Il) (k : Int) (x : Ix) : lacksP (partM g s1 s2 r lo a c t) k x = lacksP (partM g s3 s4 r lo2 a' c' t') k x := rfl
theorem part_callee (g : Nat) (s1 s2 s3 s4 : Sl) (r lo lo2 : Int) (a a' : Option Addr) (c c' : Nat) (t t' : Il) (x : Ix) : calleeP (partM g s1 s2 r lo a c t) x = calleeP (partM g s3 s4 r lo2 a' c' t') x := rfl
def blockI (r : Int) (la : Option Addr) (ln lc : Nat) : Ix := ⟨2, r, 0, 0, 0, [], none, 0, la, ln, lc, none, 0, 0⟩
theorem block_lawful {r : Int} (hr : r = 0 ∨ r = 1) (la : Option Addr) (ln lc : Nat) : lawfulP (blockI r la ln lc) = true := by
  have e1 : decide (nameL (2 : Int) ≠ []) = true := by decide
  have e2 : overP (blockI r la ln lc) = 0 := by
    have e : overP (blockI r la ln lc) = bits .andNot .u8 (bit (r != 0) 1 + bit false 2 + bit false 4 + bit false 8 + bit false 16 + bit (decide (0 < ln)) 32 + bit false 64) 33 := rfl
    rw [e]
    generalize decide (0 < ln) = q
    rcases hr with rfl | rfl <;> cases q
    all_goals first | decide +kernel | rfl
  unfold lawfulP
  rw [e2]
  show (decide (nameL (2 : Int) ≠ []) && decide ((0 : Int) = 0) && (decide (r = 0) || decide (r = 1))) = true
  rw [e1]
  rcases hr with rfl | rfl <;> decide
theorem check_zero {t : Il} : checkP t = 0 ↔ t.all = true ∧ t.count ≤ 262144 ∧ t.deep ≤ 900 ∧ t.tags = false := by
  unfold checkP
  by_cases h : t.all = true
  · rw [if_pos h]
    by_cases h1 : 262144 < t.count ∨ 900 < t.deep ∨ t.tags = true
    · rw [if_pos h1]
      refine ⟨fun h => absurd h (by decide), fun h2 => ?_⟩
      rcases h1 with h1 | h1 | h1
      · omega
      · omega
      · rw [h2.2.2.2] at h1; cases h1
    · rw [if_neg h1]
      refine ⟨fun _ => ⟨h, by omega, by omega, ?_⟩, fun _ => rfl⟩
      cases ht : t.tags
      · rfl
      · exact absurd (.inr (.inr ht)) h1
  · rw [if_neg h]
    exact ⟨fun h => absurd h (by decide), fun h2 => absurd h2.1 h⟩
theorem join_all : ∀ t u : Il, (t.join u).all = (t.all && u.all)
  | .nil, u => by simp [Il.join, Il.all]
  | .cons x l e r, u => by simp [Il.join, Il.all, join_all r u, Bool.and_assoc]
theorem join_tags : ∀ t u : Il, (t.join u).tags = (t.tags || u.tags)
  | .nil, u => by simp [Il.join, Il.tags]
  | .cons x l e r, u => by simp [Il.join, Il.tags, join_tags r u, Bool.or_assoc]
theorem join_count : ∀ t u : Il, (t.join u).count = t.count + u.count
  | .nil, u => by simp [Il.join, Il.count]
  | .cons x l e r, u => by simp [Il.join, Il.count, join_count r u]; omega
theorem join_deep : ∀ t u : Il, (t.join u).deep = max t.deep u.deep
  | .nil, u => by simp [Il.join, Il.deep]
  | .cons x l e r, u => by simp only [Il.join, Il.deep, join_deep r u]; omega
theorem join_len : ∀ t u : Il, (t.join u).len = t.len + u.len
  | .nil, u => by simp [Il.join, Il.len]
  | .cons x l e r, u => by simp [Il.join, Il.len, join_len r u]; omega
theorem join_rows : ∀ t u : Il, (t.join u).rows = t.rows ++ u.rows
  | .nil, u => by simp [Il.join, Il.rows]
  | .cons x l e r, u => by simp [Il.join, Il.rows, join_rows r u]
theorem nest_join {n₀ : Nat} {w : World} : ∀ {t u : Il}, Nest n₀ w t → Nest n₀ w u → Nest n₀ w (t.join u)
  | .nil, u, _, h => h
  | .cons x l e r, u, ⟨hx, ht, hl, he, hr⟩, h => ⟨hx, ht, hl, he, nest_join hr h⟩
/-- A block in a function's place. -/
theorem part_block {g : Nat} {s1 s2 s3 s4 : Sl} {r lo : Int} {a a' la : Option Addr} {c c' ln lc : Nat} {t : Il} (hr : r = 0 ∨ r = 1) (hlo : 0 ≤ lo ∧ lo ≤ 1000) (hd : t.deep ≤ 300) (hc : t.count ≤ 2000)
    (h : (Md.body (partM g s1 s2 r lo a c t) 1).1 = 0) : (Md.body (partM g s3 s4 r lo a' c' (.cons (blockI r la ln lc) t .nil .nil)) 1).1 = 0 := by
  rw [part_body hr hlo] at h ⊢
  obtain ⟨h1, h2⟩ := h
  rw [check_zero] at h1 ⊢
  refine ⟨⟨?_, ?_, ?_, ?_⟩, parts_block hr rfl rfl rfl (fun x => part_lacks ..) (fun x => part_callee ..) (by omega) h2⟩
  · simp [Il.all, block_lawful hr, h1.1]
  · simp only [Il.count]; omega
  · simp only [Il.deep]; omega
  · simp [Il.tags, blockI, h1.2.2.2]
/-- One list behind another. -/
theorem part_join {g : Nat} {s1 s2 s3 s4 s5 s6 : Sl} {lo : Int} {a a' a'' : Option Addr} {c c' c'' : Nat} {t u : Il} (hlo : 0 ≤ lo ∧ lo ≤ 1000) (hc : t.count ≤ 2000) (hc2 : u.count ≤ 2000)
    (h : (Md.body (partM g s1 s2 0 lo a c t) 1).1 = 0) (h' : (Md.body (partM g s3 s4 0 lo a' c' u) 1).1 = 0) : (Md.body (partM g s5 s6 0 lo a'' c'' (t.join u)) 1).1 = 0 := by
  rw [part_body (.inl rfl) hlo] at h h' ⊢
  obtain ⟨h1, h2⟩ := h
  obtain ⟨h3, h4⟩ := h'
  rw [check_zero] at h1 h3 ⊢
  refine ⟨⟨?_, ?_, ?_, ?_⟩, parts_join (fun x => part_lacks ..) (fun x => part_callee ..) (fun x => part_lacks ..) (fun x => part_callee ..) (by omega) (by omega) h2 h4⟩
  · rw [join_all, h1.1, h3.1]; rfl
  · rw [join_count]; omega
  · rw [join_deep]; omega
  · rw [join_tags, h1.2.2.2, h3.2.2.2]; rfl
end Go.Proofs.YtckdnhafookcgaaGreatDoor.Val

namespace Go.Proofs.YtckdnhafookcgaaGreatDoor.Val
open Go.RowKit Go.Shelf Go.Proofs.YtckdnhafookcgaaGreatDoor.Instr Go.Proofs.YtckdnhafookcgaaGreatDoor.Mod
set_option linter.unusedVariables false

/-- A cell of a row of one's own is set. -/
theorem own_set {e : TypeId} {sz base k n c q : Nat} {w : World} {rs rs' : List (List Value)} (h : Stk.OwnR e sz base w (.slice (some ⟨k, 0, none⟩) n c) rs) (u : Value) (hl : rs'.length = rs.length) (hlen : ∀ r ∈ rs', r.length = sz) (hf : rs'.flatten = rs.flatten.set q u) :
    Stk.OwnR e sz base (w.setCell ⟨k, q, none⟩ u) (.slice (some ⟨k, 0, none⟩) n c) rs' := by
  refine ⟨⟨by rw [hf, hl, List.length_set]; exact h.row.1, ?_⟩, hlen⟩
  rcases h.row.2 with ⟨h1, _⟩ | ⟨b, cap, cur, h1, h2, h3, h4, h5, h6, h7⟩
  · cases h1
  · simp only [Value.slice.injEq, Option.some.injEq, Addr.mk.injEq, and_true] at h1
    obtain ⟨rfl, rfl, rfl⟩ := h1
    refine .inr ⟨k, c, cur.setIfInBounds q u, by rw [hl], h2, heap_setCell_same w k q cur e u h3, by rw [hl]; exact h4, h5, by simpa using h6, ?_⟩
    rw [hl, hf, ← h7, Array.toList_setIfInBounds, List.take_set]
theorem own_cell {e : TypeId} {sz base k n c q : Nat} {w : World} {rs : List (List Value)} {v : Value} (h : Stk.OwnR e sz base w (.slice (some ⟨k, 0, none⟩) n c) rs) (hv : rs.flatten[q]? = some v) : w.cell? ⟨k, q, none⟩ = some v ∧ w.frozen? ⟨k, q, none⟩ = false := by
  rcases h.row.2 with ⟨h1, _⟩ | ⟨b, cap, cur, h1, h2, h3, h4, h5, h6, h7⟩
  · cases h1
  · simp only [Value.slice.injEq, Option.some.injEq, Addr.mk.injEq, and_true] at h1
    obtain ⟨rfl, -, rfl⟩ := h1
    refine ⟨?_, frozen_of_row w k q cur e h3⟩
    rw [cell_of_row w k q cur e _ h3, ← Array.getElem?_toList]
    rw [← h7] at hv
    rw [List.getElem?_take] at hv
    split at hv
    · exact hv
    · cases hv
/-- A whole list that lies somewhere is appended to rows of one's own. -/
theorem step_more {ops : Array Oper} {o : Oper} {act : Act} {Q : Exit → Act → World → Prop} {e ts : TypeId} {sz nb : Nat} {z : Value} {E : Prop} {K : Act → World → Prop} (inf : (Tryz.prog.info? e).map (fun i => (i.zero, i.size, i.bytes)) = some (some z, sz, nb)) (hz : z.cells.size = sz) (h0 : 0 < sz) (hnb : nb ≤ 1000) (ut : Tryz.prog.underlying ts = some (.slice e))
    (hgd : o.guard = none) (s x : Operand) (ho : o.op = .call { callee := .builtin .append, args := #[s, x], argTypes := #[ts, ts] })
    {base : Nat} {wr : World} {v : Value} {xs : List (List Value)} (hs : act.eval s = v) (hown : Stk.OwnR e sz base wr v xs) (hbase : base ≤ wr.heap.size)
    (a2 : Option Addr) (n c : Nat) (hx : act.eval x = .slice a2 n c) (ys : List (List Value)) (hn : ys.length = n) (hy : Stk.Rows wr.heap.size wr a2 sz ys) (hlen : ∀ r ∈ ys, r.length = sz) (h1 : ∀ r ∈ ys, ∀ u ∈ r, u.oneCell' = true)
    (hl : xs.length + ys.length ≤ 1000000000)
    (h : ∀ v' w', Stk.OwnR e sz base w' v' (xs ++ ys) → Below base wr w' → K (act.put o.dst v') w') :
    if Region.wanted o (yielded ops act.tmps) = true then Oper.wp Tryz.prog o act wr K Q else E := by
  obtain ⟨i0, hi, hz0, hz1, hz2⟩ := info_parts inf
  subst hn
  have hb0 := Below.refl base wr
  rcases hy with h2 | ⟨b, off, rfl, hlt, hc⟩
  · subst h2
    cases a2 with
    | none => exact Stk.step_none hgd s x ts ho base e i0 sz c ut hi v _ _ hs hown.row hx (h v wr (by simpa using hown) hb0)
    | some ad =>
      refine Stk.step_rows inf hz h0 hnb ut hgd s x ho (xs := xs) [] hs hown hb0 hbase ad 0 c rfl hx (by simp) (by simp) (by simp) (by simpa using hl) (fun v' w' h3 h4 h5 h6 => h v' w' h3 h4)
  · refine Stk.step_rows inf hz h0 hnb ut hgd s x ho (xs := xs) ys hs hown hb0 hbase ⟨b, off, none⟩ ys.length c rfl hx hlen (fun j u hj => ?_) h1 hl (fun v' w' h3 h4 h5 h6 => h v' w' h3 h4)
    have hfl := Stk.flat_length ys hlen
    have hjl : j < ys.length * sz := by
      rcases Nat.lt_or_ge j (ys.length * sz) with h | h
      · exact h
      · rw [List.getElem?_eq_none (by omega)] at hj; cases hj
    have hq : j / sz < ys.length := (Nat.div_lt_iff_lt_mul h0).2 hjl
    have hr : j % sz < sz := Nat.mod_lt _ h0
    have hjj : j / sz * sz + j % sz = j := by rw [Nat.mul_comm]; exact Nat.div_add_mod j sz
    have hg := Stk.flat_get ys hlen (j / sz) (j % sz) hq hr
    rw [hjj, hj] at hg
    have := hc (j / sz) hq (j % sz) hr u hg.symm
    rw [Nat.add_assoc, hjj] at this
    have hplain : (⟨b, off, none⟩ : Addr).add j = ⟨b, off + j, none⟩ := by unfold Addr.add; split <;> simp_all
    rw [hplain]
    exact this
theorem infoIn : (Tryz.prog.info? 105).map (fun i => (i.zero, i.size, i.bytes)) = some (some (.agg #[.int .i64 0, .int .i64 0, .int .u32 0, .int .u32 0, .int .i32 0, .slice none 0 0, .slice none 0 0, .slice none 0 0]), 8, 104) := by kernel_rfl
/-- The box's cells. -/
def partV (g a3 c3 a4 c4 : Nat) : Array Value := #[.slice (some ⟨a3, 0, none⟩) 3 c3, .slice (some ⟨g + 1 + 1 + 1, 0, none⟩) 1 1, .slice (some ⟨a4, 0, none⟩) 2 c4, .slice (some ⟨g + 1 + 1 + 1 + 1 + 1, 0, none⟩) 1 1, .slice (some ⟨g + 1 + 1 + 1 + 1 + 1 + 1, 0, none⟩) 1 1, .slice (some ⟨g + 1 + 1 + 1 + 1 + 1 + 1 + 1, 0, none⟩) 2 2, .slice none 0 0, .bool false, .int .u32 0, .slice none 0 0, .slice none 0 0]
theorem own_some {e : TypeId} {sz base n : Nat} {w : World} {v : Value} {rs : List (List Value)} (h : Stk.OwnR e sz base w v rs) (hn : rs.length = n) (h0 : n ≠ 0) : ∃ k c, v = .slice (some ⟨k, 0, none⟩) n c ∧ base ≤ k := by
  rcases h.row.2 with ⟨_, h1⟩ | ⟨b, cap, cur, h1, h2, _⟩
  · omega
  · exact ⟨b, cap, by rw [h1, hn], h2⟩
/-- The module in memory: its box in block gb, its types' and functions' rows its own. -/
structure PM (n₀ : Nat) (w0 : World) (g gb a3 c3 a4 c4 : Nat) (r lo : Int) (la : Option Addr) (ln lc : Nat) (W : World) : Prop where
  box : NB W gb (partV g a3 c3 a4 c4)
  rich : RichB g W
  ty : Stk.OwnR 92 2 g W (.slice (some ⟨a3, 0, none⟩) 3 c3) [[.int .i64 1, .int .i64 1], [.int .i64 0, .int .i64 0], [.int .i64 0, .int .i64 r]]
  fu : Stk.OwnR 101 3 g W (.slice (some ⟨a4, 0, none⟩) 2 c4) [[.int .i64 1, .int .i64 0, .slice none 0 0], [.int .i64 2, .int .i64 lo, .slice la ln lc]]
  bel : Below n₀ w0 W
  hg : n₀ ≤ g
  hgb : g + 1 + 1 + 1 + 1 + 1 + 1 + 1 < gb
  sz : n₀ ≤ W.heap.size
theorem PM.below {n₀ g gb a3 c3 a4 c4 ln lc : Nat} {w0 W W' : World} {r lo : Int} {la : Option Addr} (h : PM n₀ w0 g gb a3 c3 a4 c4 r lo la ln lc W) (hb : Below W.heap.size W W') : PM n₀ w0 g gb a3 c3 a4 c4 r lo la ln lc W' :=
  ⟨h.box.below hb, h.rich.below hb, h.ty.below hb, h.fu.below hb, h.bel.trans (hb.mono h.sz), h.hg, h.hgb, Nat.le_trans h.sz hb.size⟩
theorem own_blk {e : TypeId} {sz base k n c : Nat} {w : World} {rs : List (List Value)} (h : Stk.OwnR e sz base w (.slice (some ⟨k, 0, none⟩) n c) rs) : base ≤ k ∧ ∃ cs, w.heap[k]? = some (.cells cs e (0, 0)) := by
  rcases h.row.2 with ⟨h1, _⟩ | ⟨b, cap, cur, h1, h2, h3, h4, h5, h6, h7⟩
  · cases h1
  · simp only [Value.slice.injEq, Option.some.injEq, Addr.mk.injEq, and_true] at h1
    obtain ⟨rfl, -, rfl⟩ := h1
    exact ⟨h2, cur, h3⟩
section
variable {n₀ g gb a3 c3 a4 c4 ln lc : Nat} {w0 W : World} {r lo : Int} {la : Option Addr}
/-- The rows' blocks are none of the module's others. -/
structure Apart (g gb a3 a4 : Nat) : Prop where
  r3 : ∀ b ∈ [g + 1, g + 1 + 1 + 1, g + 1 + 1 + 1 + 1 + 1, g + 1 + 1 + 1 + 1 + 1 + 1, g + 1 + 1 + 1 + 1 + 1 + 1 + 1], b ≠ a3
  r4 : ∀ b ∈ [g + 1, g + 1 + 1 + 1, g + 1 + 1 + 1 + 1 + 1, g + 1 + 1 + 1 + 1 + 1 + 1, g + 1 + 1 + 1 + 1 + 1 + 1 + 1], b ≠ a4
theorem PM.b4 (h : PM n₀ w0 g gb a3 c3 a4 c4 r lo la ln lc W) : gb ≠ a4 := by
  obtain ⟨_, cs, h4⟩ := own_blk h.fu
  intro e
  have h5 := h.box
  unfold NB at h5
  rw [e, h4] at h5
  simp at h5
theorem PM.b3 (h : PM n₀ w0 g gb a3 c3 a4 c4 r lo la ln lc W) : gb ≠ a3 := by
  obtain ⟨_, cs, h4⟩ := own_blk h.ty
  intro e
  have h5 := h.box
  unfold NB at h5
  rw [e, h4] at h5
  simp at h5
theorem PM.apart (h : PM n₀ w0 g gb a3 c3 a4 c4 r lo la ln lc W) : Apart g gb a3 a4 := by
  have e3 := (own_cell (q := 0) h.ty rfl).1
  have e4 := (own_cell (q := 0) h.fu rfl).1
  have f1 : W.cell? ⟨g + 1, 0, none⟩ = some (.int .i64 65) := h.rich.b1 0 _ rfl
  have f3 : W.cell? ⟨g + 1 + 1 + 1, 0, none⟩ = some (.string sHost) := h.rich.b3 0 _ rfl
  have f5 : W.cell? ⟨g + 1 + 1 + 1 + 1 + 1, 0, none⟩ = some (.int .u32 1) := h.rich.b5 0 _ rfl
  have f6 : W.cell? ⟨g + 1 + 1 + 1 + 1 + 1 + 1, 0, none⟩ = some (.int .u32 1) := h.rich.b6 0 _ rfl
  have f7 : W.cell? ⟨g + 1 + 1 + 1 + 1 + 1 + 1 + 1, 0, none⟩ = some (.bool true) := h.rich.b7 0 _ rfl
  refine ⟨fun b hb e => ?_, fun b hb e => ?_⟩
  · simp only [List.mem_cons, List.not_mem_nil, or_false] at hb
    rcases hb with h | h | h | h | h
    · rw [← e, h, f1] at e3; simp at e3
    · rw [← e, h, f3] at e3; simp at e3
    · rw [← e, h, f5] at e3; simp at e3
    · rw [← e, h, f6] at e3; simp at e3
    · rw [← e, h, f7] at e3; simp at e3
  · simp only [List.mem_cons, List.not_mem_nil, or_false] at hb
    rcases hb with h | h | h | h | h
    · rw [← e, h, f1] at e4; simp at e4
    · rw [← e, h, f3] at e4; simp at e4
    · rw [← e, h, f5] at e4; simp at e4
    · rw [← e, h, f6] at e4; simp at e4
    · rw [← e, h, f7] at e4; simp at e4
/-- The function's list is another one. -/
theorem PM.setL (h : PM n₀ w0 g gb a3 c3 a4 c4 r lo la ln lc W) (la' : Option Addr) (ln' lc' : Nat) : PM n₀ w0 g gb a3 c3 a4 c4 r lo la' ln' lc' (W.setCell ⟨a4, 5, none⟩ (.slice la' ln' lc')) := by
  have hs : Save a4 W (W.setCell ⟨a4, 5, none⟩ (.slice la' ln' lc')) := Save.setCell (p := ⟨a4, 5, none⟩) (Save.refl a4 W) (.inl rfl) _
  obtain ⟨h4, cs, hc⟩ := own_blk h.fu
  refine ⟨(hs.block gb h.box.lt h.b4).trans h.box, h.rich.save hs (h.apart.r4 _ (by simp)) (h.apart.r4 _ (by simp)) (h.apart.r4 _ (by simp)) (h.apart.r4 _ (by simp)) (h.apart.r4 _ (by simp)), own_save h.ty hs (own_ne h.ty hc (by decide)), own_set h.fu _ rfl (by simp) rfl, h.bel.setCell (by show n₀ ≤ a4; have := h.hg; omega) _, h.hg, h.hgb, by have := h.sz; simpa [World.setCell] using this⟩
/-- Its type has no result. -/
theorem PM.setR (h : PM n₀ w0 g gb a3 c3 a4 c4 r lo la ln lc W) (r' : Int) : PM n₀ w0 g gb a3 c3 a4 c4 r' lo la ln lc (W.setCell ⟨a3, 5, none⟩ (.int .i64 r')) := by
  have hs : Save a3 W (W.setCell ⟨a3, 5, none⟩ (.int .i64 r')) := Save.setCell (p := ⟨a3, 5, none⟩) (Save.refl a3 W) (.inl rfl) _
  obtain ⟨h4, cs, hc⟩ := own_blk h.ty
  refine ⟨(hs.block gb h.box.lt h.b3).trans h.box, h.rich.save hs (h.apart.r3 _ (by simp)) (h.apart.r3 _ (by simp)) (h.apart.r3 _ (by simp)) (h.apart.r3 _ (by simp)) (h.apart.r3 _ (by simp)), own_set h.ty _ rfl (by simp) rfl, own_save h.fu hs (own_ne h.fu hc (by decide)), h.bel.setCell (by show n₀ ≤ a3; have := h.hg; omega) _, h.hg, h.hgb, by have := h.sz; simpa [World.setCell] using this⟩
theorem PM.c5 (h : PM n₀ w0 g gb a3 c3 a4 c4 r lo la ln lc W) : W.cell? ⟨a4, 5, none⟩ = some (.slice la ln lc) ∧ W.frozen? ⟨a4, 5, none⟩ = false := own_cell h.fu rfl
theorem PM.r5 (h : PM n₀ w0 g gb a3 c3 a4 c4 r lo la ln lc W) : W.cell? ⟨a3, 5, none⟩ = some (.int .i64 r) ∧ W.frozen? ⟨a3, 5, none⟩ = false := own_cell h.ty rfl
theorem PM.cs (h : PM n₀ w0 g gb a3 c3 a4 c4 r lo la ln lc W) : W.cell? ⟨gb, 0, none⟩ = some (.slice (some ⟨a3, 0, none⟩) 3 c3) ∧ W.cell? ⟨gb, 1, none⟩ = some (.slice (some ⟨g + 1 + 1 + 1, 0, none⟩) 1 1) ∧ W.cell? ⟨gb, 2, none⟩ = some (.slice (some ⟨a4, 0, none⟩) 2 c4) ∧ W.cell? ⟨gb, 3, none⟩ = some (.slice (some ⟨g + 1 + 1 + 1 + 1 + 1, 0, none⟩) 1 1) ∧ W.cell? ⟨gb, 4, none⟩ = some (.slice (some ⟨g + 1 + 1 + 1 + 1 + 1 + 1, 0, none⟩) 1 1) ∧ W.cell? ⟨gb, 5, none⟩ = some (.slice (some ⟨g + 1 + 1 + 1 + 1 + 1 + 1 + 1, 0, none⟩) 2 2) ∧ W.cell? ⟨gb, 6, none⟩ = some (.slice none 0 0) ∧ W.cell? ⟨gb, 7, none⟩ = some (.bool false) ∧ W.cell? ⟨gb, 8, none⟩ = some (.int .u32 0) ∧ W.cell? ⟨gb, 9, none⟩ = some (.slice none 0 0) ∧ W.cell? ⟨gb, 10, none⟩ = some (.slice none 0 0) := NB.cs h.box
theorem PM.at_ (h : PM n₀ w0 g gb a3 c3 a4 c4 r lo la ln lc W) {t : Il} (hl : ListAt W.heap.size W la ln t) : ModAt W.heap.size W (partM g ⟨some ⟨a3, 0, none⟩, c3⟩ ⟨some ⟨a4, 0, none⟩, c4⟩ r lo la lc t) := by
  have hB := h.rich
  have l : ∀ {b v}, BoxAt W b v → v[0]?.isSome → b < W.heap.size := fun {b v} h h0 => by
    obtain ⟨x, hx⟩ := Option.isSome_iff_exists.1 h0
    exact World.block_lt_of_cell? W ⟨b, 0, none⟩ (h 0 x hx)
  obtain ⟨a3', c3', e3, r3, -⟩ := Stk.OwnR.rows h.ty
  obtain ⟨a4', c4', e4, r4, -⟩ := Stk.OwnR.rows h.fu
  simp only [List.length_cons, List.length_nil, Value.slice.injEq] at e3 e4
  obtain ⟨rfl, -, rfl⟩ := e3
  obtain ⟨rfl, -, rfl⟩ := e4
  have hln : t.len = ln := hl.1
  have r4' : Stk.Rows W.heap.size W (some ⟨a4, 0, none⟩) 3 [[.int .i64 1, .int .i64 0, .slice none 0 0], [.int .i64 2, .int .i64 lo, .slice la t.len lc]] := by rw [hln]; exact r4
  refine ⟨r3, rows_box (l hB.b3 rfl) (by simp [partM, richM, Imp.v]) hB.b3, r4', rows_box (l hB.b5 rfl) (by simp [partM, richM, Li.v]) hB.b5, rows_box (l hB.b6 rfl) (by simp [partM, richM, Li.v]) hB.b6, rows_box (l hB.b7 rfl) (by simp [partM, richM, Gl.v]) hB.b7, .inl rfl, .inl rfl, .inl rfl, fun y hy => ?_, by simp [partM, richM], by simp [partM, richM]⟩
  simp [partM, richM, Md.codes] at hy
  rcases hy with rfl | rfl | rfl
  · exact ⟨rfl, .inl rfl⟩
  · show ListAt W.heap.size W la t.len t
    rw [hln]; exact hl
  · exact list_box (l := [(constI, .nil, .nil)]) (l hB.b1 rfl) hB.b1 (fun x hx => by
      obtain rfl := List.mem_singleton.1 hx
      exact ⟨constI_ok, .inl rfl, ⟨rfl, .inl rfl⟩, ⟨rfl, .inl rfl⟩⟩)
end
theorem part_few (g : Nat) (sty sfu : Sl) (r lo : Int) (a : Option Addr) (c : Nat) (t : Il) (hn : t.len ≤ 140737488351232) (hc : t.count ≤ 1000000) : (partM g sty sfu r lo a c t).few := by
  have hR := rich_few g
  have hmem : ∀ l ∈ (partM g sty sfu r lo a c t).codes, l ∈ (richM g).codes ∨ l = ⟨a, c, t⟩ := by
    intro l hl
    simp only [partM, richM, Md.codes, List.map_cons, List.map_nil, List.append_nil, List.cons_append, List.nil_append, List.mem_cons, List.not_mem_nil, or_false] at hl ⊢
    rcases hl with h | h | h | h
    · exact .inl (.inl h)
    · exact .inr h
    · exact .inl (.inr (.inl h))
    · exact .inl (.inr (.inr h))
  refine ⟨⟨by simp [partM], hR.fit.im, by simp [partM], hR.fit.tb, hR.fit.me, hR.fit.gl, hR.fit.ex, hR.fit.el, hR.fit.da, fun l hl => ?_, hR.fit.fs, hR.fit.bs, hR.fit.iS, hR.fit.eS⟩, fun l hl => ?_, by simp [partM], hR.lens.2.1, by simp [partM], hR.lens.2.2.2.1, hR.lens.2.2.2.2.1, hR.lens.2.2.2.2.2.1, hR.lens.2.2.2.2.2.2.1, hR.lens.2.2.2.2.2.2.2.1, hR.lens.2.2.2.2.2.2.2.2⟩
  · rcases hmem l hl with h | rfl
    · exact hR.fit.ls l h
    · exact hn
  · rcases hmem l hl with h | rfl
    · exact hR.cs l h
    · exact hc
end Go.Proofs.YtckdnhafookcgaaGreatDoor.Val

namespace Go.Proofs.YtckdnhafookcgaaGreatDoor.Val
open Go.RowKit Go.Shelf Go.Proofs.YtckdnhafookcgaaGreatDoor.Instr Go.Proofs.YtckdnhafookcgaaGreatDoor.Mod
set_option linter.unusedVariables false

theorem go_count {t : Il} (h : t.go 0 2000 ≤ 2000) : t.count ≤ 2000 := by
  have h1 := (go_bounds t 0 2000 (by omega) (by omega) (by omega)).2.2 h
  have h2 := count_le_weight t
  have : t.weight ≤ 2000 := by omega
  omega
theorem join_nest {n₀ : Nat} {w : World} {a : Option Addr} {n : Nat} {t : Il} (h : ListAt n₀ w a n t) : Nest n₀ w t := (rows_list h).2.1
theorem len_cnt : ∀ t : Il, t.len ≤ t.count
  | .nil => by simp [Il.len]
  | .cons x l e r => by
    have := len_cnt r
    simp only [Il.len, Il.count]; omega
theorem rows_ones : ∀ t : Il, ∀ r ∈ t.rows, ∀ u ∈ r, u.oneCell' = true
  | .nil => by simp [Il.rows]
  | .cons x l e r => by
    intro s hs u hu
    simp only [Il.rows, List.mem_cons] at hs
    rcases hs with rfl | hs
    · simp [Ix.vals] at hu
      rcases hu with rfl | rfl | rfl | rfl | rfl | rfl | rfl | rfl <;> rfl
    · exact rows_ones r s hs u hu
theorem made0D (e : TypeId) (sz : Nat) (w : World) : Stk.OwnR e sz w.heap.size (w.alloc (.cells #[] e)).drew (.slice (some ⟨w.heap.size, 0, none⟩) 0 0) [] := ⟨(Stk.OwnR.made e sz w).row, by simp⟩
theorem PM.run {n₀ g gb a3 c3 a4 c4 ln lc : Nat} {w0 W : World} {r lo : Int} {la : Option Addr} (h : PM n₀ w0 g gb a3 c3 a4 c4 r lo la ln lc W) {t : Il} (hT : Tb W) (hl : ListAt W.heap.size W la ln t) (hn : ln ≤ 140737488351232) (hc : t.count ≤ 1000000) :
    Calls Tryz.prog 38 #[.agg (partM g ⟨some ⟨a3, 0, none⟩, c3⟩ ⟨some ⟨a4, 0, none⟩, c4⟩ r lo la lc t).v, .int .i64 1] W (BodyQ (partM g ⟨some ⟨a3, 0, none⟩, c3⟩ ⟨some ⟨a4, 0, none⟩, c4⟩ r lo la lc t) 1 W) :=
  Body_m _ 1 W (h.at_ hl) (part_few _ _ _ _ _ _ _ _ (by rw [hl.1]; exact hn) hc) hT.nt hT.ut hT.ar
/-- The parts' bodies in memory: what is told of a list in the function's place. -/
def tells (g : Nat) (a3 c3 a4 c4 : Nat) (r lo : Int) (la : Option Addr) (lc : Nat) (t : Il) : Int × Int := Md.body (partM g ⟨some ⟨a3, 0, none⟩, c3⟩ ⟨some ⟨a4, 0, none⟩, c4⟩ r lo la lc t) 1
theorem PM.run' {n₀ g gb a3 c3 a4 c4 ln lc : Nat} {w0 W : World} {r lo : Int} {la : Option Addr} (h : PM n₀ w0 g gb a3 c3 a4 c4 r lo la ln lc W) {t : Il} (hT : Tb W) (hl : ListAt W.heap.size W la ln t) (hn : ln ≤ 140737488351232) (hc : t.count ≤ 1000000) :
    Calls Tryz.prog 38 #[.agg #[.slice (some ⟨a3, 0, none⟩) 3 c3, .slice (some ⟨g + 1 + 1 + 1, 0, none⟩) 1 1, .slice (some ⟨a4, 0, none⟩) 2 c4, .slice (some ⟨g + 1 + 1 + 1 + 1 + 1, 0, none⟩) 1 1, .slice (some ⟨g + 1 + 1 + 1 + 1 + 1 + 1, 0, none⟩) 1 1, .slice (some ⟨g + 1 + 1 + 1 + 1 + 1 + 1 + 1, 0, none⟩) 2 2, .slice none 0 0, .bool false, .int .u32 0, .slice none 0 0, .slice none 0 0], .int .i64 1] W fun e w' =>
      e = .returned (.tuple #[.int .i64 (tells g a3 c3 a4 c4 r lo la lc t).1, .int .i64 (tells g a3 c3 a4 c4 r lo la lc t).2]) ∧ Below W.heap.size W w' ∧ PM n₀ w0 g gb a3 c3 a4 c4 r lo la ln lc w' :=
  (h.run hT hl hn hc).mono fun e w' hq => ⟨hq.1, hq.2, h.below hq.2⟩
theorem PM.blk {n₀ g gb a3 c3 a4 c4 ln lc : Nat} {w0 W : World} {r lo : Int} {la : Option Addr} (h : PM n₀ w0 g gb a3 c3 a4 c4 r lo la ln lc W) {al : Option Addr} {nl cl : Nat} {tl : Il} (hr : r = 0 ∨ r = 1) (hnl : nl ≤ 140737488351232) (hl : ListAt n₀ w0 al nl tl) :
    ∀ W', W' = (W.alloc (.cells #[.int .i64 2, .int .i64 r, .int .u32 0, .int .u32 0, .int .i32 0, .slice none 0 0, .slice al nl cl, .slice none 0 0] 105)).setCell ⟨a4, 5, none⟩ (.slice (some ⟨W.heap.size, 0, none⟩) 1 1) →
    PM n₀ w0 g gb a3 c3 a4 c4 r lo (some ⟨W.heap.size, 0, none⟩) 1 1 W' ∧ ListAt W'.heap.size W' (some ⟨W.heap.size, 0, none⟩) 1 (.cons (blockI r al nl cl) tl .nil .nil) := by
  intro W' e
  subst e
  obtain ⟨V, hV⟩ : ∃ V, V = W.alloc (.cells #[.int .i64 2, .int .i64 r, .int .u32 0, .int .u32 0, .int .i32 0, .slice none 0 0, .slice al nl cl, .slice none 0 0] 105) := ⟨_, rfl⟩
  have hB : Below W.heap.size W V := by rw [hV]; exact belowAlloc _ _
  have hx : BoxAt V W.heap.size (blockI r al nl cl).vals := by rw [hV]; exact BoxAt.made W (blockI r al nl cl).vals 105
  have hsz : V.heap.size = W.heap.size + 1 := by rw [hV]; simp
  rw [← hV]
  clear hV
  have p1 := h.below hB
  have p2 := p1.setL (some ⟨W.heap.size, 0, none⟩) 1 1
  refine ⟨p2, ?_⟩
  have hs : Save a4 V (V.setCell ⟨a4, 5, none⟩ (.slice (some ⟨W.heap.size, 0, none⟩) 1 1)) := Save.setCell (p := ⟨a4, 5, none⟩) (Save.refl a4 V) (.inl rfl) _
  have ha : a4 < W.heap.size := World.block_lt_of_cell? W _ h.c5.1
  obtain ⟨U, hU⟩ : ∃ U, U = V.setCell ⟨a4, 5, none⟩ (.slice (some ⟨W.heap.size, 0, none⟩) 1 1) := ⟨_, rfl⟩
  have hUV : V.heap.size ≤ U.heap.size := by rw [hU]; simp [World.setCell]
  rw [← hU] at hs p2 ⊢
  exact list_box (l := [(blockI r al nl cl, tl, .nil)]) (by omega) (by simpa using box_save hx hs (by omega)) (fun y hy => by
    obtain rfl := List.mem_singleton.1 hy
    refine ⟨?_, .inl rfl, (hl.below p2.bel).more p2.sz, ⟨rfl, .inl rfl⟩⟩
    constructor <;> simp [blockI]
    all_goals first | omega | skip)
set_option maxRecDepth 100000 in
set_option maxHeartbeats 8000000 in
theorem parts_go (al ak : Option Addr) (nl cl nk ck : Nat) (tl tk : Il) (res lo : Int) (w : World) (hl : ListAt w.heap.size w al nl tl) (hk : ListAt w.heap.size w ak nk tk) (hnl : nl ≤ 140737488351232) (hnk : nk ≤ 140737488351232) (hT : Tb w) :
    Calls Tryz.prog 8 #[.slice al nl cl, .slice ak nk ck, .int .i64 res, .int .i64 lo] w fun e w' => e = .returned (.bool true) ∧ Below w.heap.size w w' := by
  have HL := hid hl
  have HK := hid hk
  have HT := hid hT
  have HNL := hid hnl
  have HNK := hid hnk
  have CI1 := hid (fun W (hb : Below w.heap.size w W) => Instrs_any tl.count tl al nl cl 2000 W (Nat.le_refl _) ((hl.below hb).more hb.size) hnl (by omega) (by omega))
  have CI2 := hid (fun W (hb : Below w.heap.size w W) => Instrs_any tk.count tk ak nk ck 2000 W (Nat.le_refl _) ((hk.below hb).more hb.size) hnk (by omega) (by omega))
  have CD := hid (fun W (hb : Below w.heap.size w W) (hc : tl.count ≤ 2000) => Deep_any al nl cl tl W ((hl.below hb).more hb.size) (by omega) hnl)
  have HA := hid (fun h => go_count (t := tl) h)
  have HB := hid (fun h => go_count (t := tk) h)
  obtain ⟨A, hA⟩ : ∃ A, tl.go 0 2000 = A := ⟨_, rfl⟩
  obtain ⟨B, hB⟩ : ∃ B, tk.go 0 2000 = B := ⟨_, rfl⟩
  obtain ⟨D, hD⟩ : ∃ D : Nat, tl.deep = D := ⟨_, rfl⟩
  rw [hA] at CI1 HA
  rw [hB] at CI2 HB
  have HD := hid hD
  rw [hD] at CD
  have CA := hid (awake_m w hT)
  clear hA hB hD hl hk hT hnl hnk
  go_enter Tryz.func8, Tryz.ntmps8
  go_wp2_with fail
  refine CA.out.mono ?_
  rintro e w1 ⟨rfl, hb1⟩
  have HB1 := hid hb1
  have C1 := hid (CI1.out w1 hb1)
  have C2 := hid (CI2.out w1 hb1)
  clear CA hb1 CI1 CI2
  go_wp2_with fail
  refine C1.out.mono ?_
  rintro e w2 ⟨rfl, rfl⟩
  by_cases h1 : A ≤ 2000
  · have h1' : ¬ 2000 < A := by omega
    have HCL := hid (HA.out h1)
    have C3 := hid (CD.out w1 HB1.out HCL.out)
    clear h1 C1 CD HA
    go_wp2_with fail
    refine C2.out.mono ?_
    rintro e w2 ⟨rfl, rfl⟩
    by_cases h2 : B ≤ 2000
    · have h2' : ¬ 2000 < B := by omega
      have HCK := hid (HB.out h2)
      clear h2 C2 HB
      go_wp2_with fail
      refine C3.out.mono ?_
      rintro e w2 ⟨rfl, hb2⟩
      have HB2 := hid (thenB HB1.out hb2)
      clear C3 hb2 HB1
      by_cases h3 : D ≤ 300
      · have h3' : ¬ (300 : Int) < (D : Int) := by omega
        have HD3 := hid (show tl.deep ≤ 300 by rw [HD.out]; exact h3)
        clear h3
        by_cases h4 : 0 ≤ lo ∧ lo ≤ 1000
        · have HLO := hid h4
          have h4' : ¬ lo < 0 := by omega
          have h4'' : ¬ 1000 < lo := by omega
          clear h4
          go_wp2_with fail
          refine (Pick_any res 2 (by omega) (by omega) w2).mono ?_
          rintro e w3 ⟨⟨r, rfl, hr0, hr2⟩, rfl⟩
          have HR := hid (show r = 0 ∨ r = 1 by omega)
          clear h1' h2' h3' h4' h4'' hr0 hr2
          go_wp2_with fail
          refine (rich_o w2).mono ?_
          rintro e w3 ⟨rfl, hm, hb, o2, o4⟩
          have HB3 := hid (thenB HB2.out hb)
          have HW2 := hid HB2.out.size
          obtain ⟨g, hg⟩ : ∃ g, w2.heap.size = g := ⟨_, rfl⟩
          rw [hg] at hm o2 o4 HW2
          rw [hg]
          have M2 := hid hm
          have O2 := hid o2
          have O4 := hid o4
          clear hm hb o2 o4 HB2 hg
          unfold richM Md.v
          dsimp only
          go_upto_region 6 with fail
          have hg2 : g + 1 + 1 + 1 + 1 + 1 + 1 + 1 < w3.heap.size := World.block_lt_of_cell? w3 _ (M2.out.b7 0 _ rfl)
          have HG2 := hid hg2
          have T1 := hid (NB.made w3 #[.slice (some ⟨g + 1 + 1, 0, none⟩) 2 2, .slice (some ⟨g + 1 + 1 + 1, 0, none⟩) 1 1, .slice (some ⟨g + 1 + 1 + 1 + 1, 0, none⟩) 1 1, .slice (some ⟨g + 1 + 1 + 1 + 1 + 1, 0, none⟩) 1 1, .slice (some ⟨g + 1 + 1 + 1 + 1 + 1 + 1, 0, none⟩) 1 1, .slice (some ⟨g + 1 + 1 + 1 + 1 + 1 + 1 + 1, 0, none⟩) 2 2, .slice none 0 0, .bool false, .int .u32 0, .slice none 0 0, .slice none 0 0])
          have HB1 := hid (thenB HB3.out (belowAlloc w3 (.cells #[.slice (some ⟨g + 1 + 1, 0, none⟩) 2 2, .slice (some ⟨g + 1 + 1 + 1, 0, none⟩) 1 1, .slice (some ⟨g + 1 + 1 + 1 + 1, 0, none⟩) 1 1, .slice (some ⟨g + 1 + 1 + 1 + 1 + 1, 0, none⟩) 1 1, .slice (some ⟨g + 1 + 1 + 1 + 1 + 1 + 1, 0, none⟩) 1 1, .slice (some ⟨g + 1 + 1 + 1 + 1 + 1 + 1 + 1, 0, none⟩) 2 2, .slice none 0 0, .bool false, .int .u32 0, .slice none 0 0, .slice none 0 0] 32)))
          clear hg2
          go_cut [] from 21 (fun wx => ∃ a3 c3, NB wx w3.heap.size #[.slice (some ⟨a3, 0, none⟩) 3 c3, .slice (some ⟨g + 1 + 1 + 1, 0, none⟩) 1 1, .slice (some ⟨g + 1 + 1 + 1 + 1, 0, none⟩) 1 1, .slice (some ⟨g + 1 + 1 + 1 + 1 + 1, 0, none⟩) 1 1, .slice (some ⟨g + 1 + 1 + 1 + 1 + 1 + 1, 0, none⟩) 1 1, .slice (some ⟨g + 1 + 1 + 1 + 1 + 1 + 1 + 1, 0, none⟩) 2 2, .slice none 0 0, .bool false, .int .u32 0, .slice none 0 0, .slice none 0 0] ∧ RichB g wx ∧ Stk.OwnR 92 2 g wx (.slice (some ⟨a3, 0, none⟩) 3 c3) [[.int .i64 1, .int .i64 1], [.int .i64 0, .int .i64 0], [.int .i64 0, .int .i64 r]] ∧ Stk.OwnR 101 3 g wx (.slice (some ⟨g + 1 + 1 + 1 + 1, 0, none⟩) 1 1) [[.int .i64 1, .int .i64 0, .slice none 0 0]] ∧ Below w.heap.size w wx)
          case first =>
            have HNW := hid (World.news_of_block (heap_alloc_new (w3.alloc (.cells #[.slice (some ⟨g + 1 + 1, 0, none⟩) 2 2, .slice (some ⟨g + 1 + 1 + 1, 0, none⟩) 1 1, .slice (some ⟨g + 1 + 1 + 1 + 1, 0, none⟩) 1 1, .slice (some ⟨g + 1 + 1 + 1 + 1 + 1, 0, none⟩) 1 1, .slice (some ⟨g + 1 + 1 + 1 + 1 + 1 + 1, 0, none⟩) 1 1, .slice (some ⟨g + 1 + 1 + 1 + 1 + 1 + 1 + 1, 0, none⟩) 2 2, .slice none 0 0, .bool false, .int .u32 0, .slice none 0 0, .slice none 0 0] 32)) (.cells #[.int .i64 0, .int .i64 r] 92)))
            have HB2 := hid (thenB HB1.out (belowAlloc (w3.alloc (.cells #[.slice (some ⟨g + 1 + 1, 0, none⟩) 2 2, .slice (some ⟨g + 1 + 1 + 1, 0, none⟩) 1 1, .slice (some ⟨g + 1 + 1 + 1 + 1, 0, none⟩) 1 1, .slice (some ⟨g + 1 + 1 + 1 + 1 + 1, 0, none⟩) 1 1, .slice (some ⟨g + 1 + 1 + 1 + 1 + 1 + 1, 0, none⟩) 1 1, .slice (some ⟨g + 1 + 1 + 1 + 1 + 1 + 1 + 1, 0, none⟩) 2 2, .slice none 0 0, .bool false, .int .u32 0, .slice none 0 0, .slice none 0 0] 32)) (.cells #[.int .i64 0, .int .i64 r] 92)))
            go_wp2_with (first
              | (at_builtin; refine Stk.append_rows infoFt rfl (by omega) (by omega) Tryz.underlying22 rfl (.tmp 48) (.tmp 51) rfl (base := g) (w0 := w3) (xs := [[.int .i64 1, .int .i64 1], [.int .i64 0, .int .i64 0]]) [[.int .i64 0, .int .i64 r]] rfl ((O2.out.alloc _).alloc _) (((Below.refl _ _).alloc (by have := HG2.out; omega) _).alloc (by have := HG2.out; simp; omega) _) (by have := HG2.out; simp; omega) ⟨w3.heap.size + 1, 0, none⟩ 1 1 rfl rfl (by simp) (by simpa using HNW.out) (by simp [Value.oneCell']) (by simp) ?_
                 intro v3 u3 ho hb hsz hgrow
                 obtain ⟨a3, c3, hv3, ha3⟩ := own_some (n := 3) ho rfl (by omega)
                 have hs3 : Save (g + 1 + 1) _ u3 := save_grown hgrow
                 have hG2 := HG2.out
                 have ht3 : NB u3 w3.heap.size #[.slice (some ⟨g + 1 + 1, 0, none⟩) 2 2, .slice (some ⟨g + 1 + 1 + 1, 0, none⟩) 1 1, .slice (some ⟨g + 1 + 1 + 1 + 1, 0, none⟩) 1 1, .slice (some ⟨g + 1 + 1 + 1 + 1 + 1, 0, none⟩) 1 1, .slice (some ⟨g + 1 + 1 + 1 + 1 + 1 + 1, 0, none⟩) 1 1, .slice (some ⟨g + 1 + 1 + 1 + 1 + 1 + 1 + 1, 0, none⟩) 2 2, .slice none 0 0, .bool false, .int .u32 0, .slice none 0 0, .slice none 0 0] := (hs3.block _ (by simp; omega) (by omega)).trans (T1.out.below (belowAlloc _ (.cells #[.int .i64 0, .int .i64 r] 92)))
                 have hr3 := (((M2.out.below (belowAlloc _ _)).below (belowAlloc _ _))).save hs3 (by omega) (by omega) (by omega) (by omega) (by omega)
                 have ho4 := own_save ((O4.out.alloc _).alloc _) hs3 (fun b hb => by simp only [Value.ownBlock, Option.some.injEq] at hb; omega)
                 have hbl : Below w.heap.size w u3 := HB2.out.trans (hs3.below HB2.out.size (by have := HW2.out; omega))
                 have HT3 := hid ht3
                 have HR3 := hid hr3
                 have HO4 := hid ho4
                 have HO3 := hid ho
                 have HBL := hid hbl
                 subst hv3
                 have f0 := ht3.f 0
                 have k0 := ht3.cs.1
                 clear ho hb hsz hgrow hs3 ht3 hr3 ho4 hbl hG2))
            go_meet
            case rel =>
              have hsv : Save w3.heap.size u3 (u3.setCell ⟨w3.heap.size, 0, none⟩ (.slice (some ⟨a3, 0, none⟩) 3 c3)) := Save.setCell (p := ⟨w3.heap.size, 0, none⟩) (Save.refl w3.heap.size u3) (.inl rfl) _
              have hG2 := HG2.out
              have hW2 := HW2.out
              exact ⟨a3, c3, HT3.out.set 0 (.slice (some ⟨a3, 0, none⟩) 3 c3), HR3.out.save hsv (by omega) (by omega) (by omega) (by omega) (by omega), own_save HO3.out hsv (own_ne HO3.out HT3.out (by decide)), own_save HO4.out hsv (own_ne HO4.out HT3.out (by decide)), HBL.out.setCell (by show w.heap.size ≤ w3.heap.size; omega) _⟩
          case rest =>
            obtain ⟨a3, c3, ht, hrb, ho3, ho4, hbl⟩ := hcut
            have T5 := hid ht
            have R5 := hid hrb
            have P3 := hid ho3
            have P4 := hid ho4
            have BL := hid hbl
            obtain ⟨c0, c1, c2, c3', e4, c5, c6, c7, c8, c9, c10⟩ := ht.cs
            obtain ⟨f0, f1, f2, f3, f4, f5, f6, f7, f8, f9, f10⟩ := ht.fs
            have HLT := hid ht.lt
            clear ht hrb ho3 ho4 hbl T1 O2 O4 M2 HB1
            go_upto_region 7 with fail
            go_cut [] from 21 (fun wx => ∃ a4 c4, PM w.heap.size w g w3.heap.size a3 c3 a4 c4 r lo al nl cl wx)
            case first =>
              have HNW := hid (World.news_of_block (heap_alloc_new wc (.cells #[.int .i64 2, .int .i64 lo, .slice al nl cl] 101)))
              have HB2 := hid (thenB BL.out (belowAlloc wc (.cells #[.int .i64 2, .int .i64 lo, .slice al nl cl] 101)))
              go_wp2_with (first
                | (at_builtin; refine Stk.append_rows infoFn rfl (by omega) (by omega) Tryz.underlying24 rfl (.tmp 55) (.tmp 60) rfl (base := g) (w0 := wc) (xs := [[.int .i64 1, .int .i64 0, .slice none 0 0]]) [[.int .i64 2, .int .i64 lo, .slice al nl cl]] rfl (P4.out.alloc _) ((Below.refl _ _).alloc (by have := HG2.out; have := HLT.out; omega) _) (by have := HG2.out; have := HLT.out; simp; omega) ⟨wc.heap.size, 0, none⟩ 1 1 rfl rfl (by simp) (by simpa using HNW.out) (by simp [Value.oneCell']) (by simp) ?_
                   intro v4 u4 ho hb hsz hgrow
                   obtain ⟨a4, c4, hv4, ha4⟩ := own_some (n := 2) ho rfl (by omega)
                   have hs4 : Save (g + 1 + 1 + 1 + 1) _ u4 := save_grown hgrow
                   obtain ⟨-, cs4, hcs4⟩ := own_blk (P4.out.below (belowAlloc _ (.cells #[.int .i64 2, .int .i64 lo, .slice al nl cl] 101)))
                   have hG2 := HG2.out
                   have hlo := HLT.out
                   have ht4 : NB u4 w3.heap.size _ := (hs4.block _ (by simp; omega) (by omega)).trans (T5.out.below (belowAlloc _ (.cells #[.int .i64 2, .int .i64 lo, .slice al nl cl] 101)))
                   have hr4 := (R5.out.below (belowAlloc _ (.cells #[.int .i64 2, .int .i64 lo, .slice al nl cl] 101))).save hs4 (by omega) (by omega) (by omega) (by omega) (by omega)
                   have hp3 := own_save (P3.out.below (belowAlloc _ (.cells #[.int .i64 2, .int .i64 lo, .slice al nl cl] 101))) hs4 (own_ne (P3.out.below (belowAlloc _ (.cells #[.int .i64 2, .int .i64 lo, .slice al nl cl] 101))) hcs4 (by decide))
                   have hbl : Below w.heap.size w u4 := HB2.out.trans (hs4.below HB2.out.size (by have := HW2.out; omega))
                   have HT4 := hid ht4
                   have HR4 := hid hr4
                   have HP3 := hid hp3
                   have HO4 := hid ho
                   have HBL := hid hbl
                   subst hv4
                   have f2' := ht4.f 2
                   have k2 := ht4.cs.2.2.1
                   clear ho hb hsz hgrow hs4 ht4 hr4 hp3 hbl hcs4 hG2 hlo))
              go_meet
              case rel =>
                have hsv : Save w3.heap.size u4 (u4.setCell ⟨w3.heap.size, 2, none⟩ (.slice (some ⟨a4, 0, none⟩) 2 c4)) := Save.setCell (p := ⟨w3.heap.size, 2, none⟩) (Save.refl w3.heap.size u4) (.inl rfl) _
                have hG2 := HG2.out
                have hW2 := HW2.out
                have hbb := HBL.out.setCell (p := ⟨w3.heap.size, 2, none⟩) (by show w.heap.size ≤ w3.heap.size; omega) (.slice (some ⟨a4, 0, none⟩) 2 c4)
                exact ⟨a4, c4, HT4.out.set 2 (.slice (some ⟨a4, 0, none⟩) 2 c4), HR4.out.save hsv (by omega) (by omega) (by omega) (by omega) (by omega), own_save HP3.out hsv (own_ne HP3.out HT4.out (by decide)), own_save HO4.out hsv (own_ne HO4.out HT4.out (by decide)), hbb, HW2.out, hG2, hbb.size⟩
            case rest =>
              obtain ⟨a4, c4, hpm⟩ := hcut
              have PM8 := hid hpm
              clear hpm T5 R5 P3 P4 BL c0 c1 c2 c3' e4 c5 c6 c7 c8 c9 c10 f0 f1 f2 f3 f4 f5 f6 f7 f8 f9 f10
              obtain ⟨gb, hgb⟩ : ∃ gb, w3.heap.size = gb := ⟨_, rfl⟩
              rw [hgb] at PM8 ⊢
              obtain ⟨c0, c1, c2, c3', e4, c5, c6, c7, c8, c9, c10⟩ := PM8.out.cs
              have BM8 := hid (PM8.out.run' (t := tl) (HT.out.on PM8.out.bel) ((HL.out.below PM8.out.bel).more PM8.out.sz) HNL.out (by have := HCL.out; omega))
              clear PM8 HB3 HW2 HG2 HLT
              go_wp2_with fail
              refine BM8.out.mono ?_
              rintro e w8 ⟨rfl, hb8, hp8⟩
              have PM9 := hid hp8
              clear BM8 hb8 hp8 c0 c1 c2 c3' e4 c5 c6 c7 c8 c9 c10
              obtain ⟨E1, hE1⟩ : ∃ E, tells g a3 c3 a4 c4 r lo al cl tl = E := ⟨_, rfl⟩
              rw [hE1]
              have HE1 := hid hE1
              clear hE1
              go_upto_region 9 with fail
              go_cut [] from 21 (fun wx => PM w.heap.size w g gb a3 c3 a4 c4 r lo (some ⟨w8.heap.size, 0, none⟩) 1 1 wx ∧ ListAt wx.heap.size wx (some ⟨w8.heap.size, 0, none⟩) 1 (.cons (blockI r al nl cl) tl .nil .nil))
              case first =>
                have PA := hid (PM9.out.below (belowAlloc w8 (.cells #[.int .i64 2, .int .i64 r, .int .u32 0, .int .u32 0, .int .i32 0, .slice none 0 0, .slice al nl cl, .slice none 0 0] 105)))
                obtain ⟨d5, f5⟩ := PA.out.c5
                have c2 := PM9.out.cs.2.2.1
                go_wp2_with fail
                go_meet
                case rel => exact PM9.out.blk HR.out HNL.out HL.out _ rfl
              case rest =>
                have P10 := hid hcut.1
                have L10 := hid hcut.2
                clear hcut PM9
                obtain ⟨c0, c1, c2, c3', e4, c5, c6, c7, c8, c9, c10⟩ := P10.out.cs
                have BM := hid (P10.out.run' (t := .cons (blockI r al nl cl) tl .nil .nil) (HT.out.on P10.out.bel) L10.out (by omega) (by simp only [Il.count]; have := HCL.out; omega))
                clear P10 L10
                go_wp2_with fail
                refine BM.out.mono ?_
                rintro e w10 ⟨rfl, hb8, hp8⟩
                have PM11 := hid hp8
                clear BM hb8 hp8 c0 c1 c2 c3' e4 c5 c6 c7 c8 c9 c10
                obtain ⟨F1, hF1⟩ : ∃ F, tells g a3 c3 a4 c4 r lo (some ⟨w8.heap.size, 0, none⟩) 1 (.cons (blockI r al nl cl) tl .nil .nil) = F := ⟨_, rfl⟩
                rw [hF1]
                have HEF : E1.1 ≠ 0 ∨ F1.1 = 0 := by
                  rcases Decidable.em (E1.1 = 0) with h0 | h0
                  · right
                    rw [← hF1]
                    exact part_block HR.out HLO.out HD3.out HCL.out (by show (tells g a3 c3 a4 c4 r lo al cl tl).1 = 0; rw [HE1.out]; exact h0)
                  · exact .inl h0
                clear hF1
                obtain ⟨e1, e2⟩ := E1
                obtain ⟨f1, f2⟩ := F1
                dsimp only at HEF ⊢
                go_upto_region 11 with fail
                rcases Decidable.em (e1 = 0) with h0 | h0
                · obtain h1 : f1 = 0 := HEF.resolve_left (by simpa using h0)
                  subst h0 h1
                  clear HEF HE1
                  go_upto_region 13 with fail
                  go_cut [] from 21 (fun wx => PM w.heap.size w g gb a3 c3 a4 c4 0 lo (some ⟨w8.heap.size, 0, none⟩) 1 1 wx)
                  case first =>
                    obtain ⟨d5, f5⟩ := PM11.out.r5
                    have c0 := PM11.out.cs.1
                    go_wp2_with fail
                    go_meet
                    case rel => exact PM11.out.setR 0
                  case rest =>
                    have P14 := hid hcut
                    clear hcut PM11
                    go_upto_region 14 with fail
                    go_cut [] from 21 (fun wx => PM w.heap.size w g gb a3 c3 a4 c4 0 lo al nl cl wx)
                    case first =>
                      obtain ⟨d5, f5⟩ := P14.out.c5
                      have c2 := P14.out.cs.2.2.1
                      go_wp2_with fail
                      go_meet
                      case rel => exact P14.out.setL al nl cl
                    case rest =>
                      have P15 := hid hcut
                      clear hcut P14
                      obtain ⟨c0, c1, c2, c3', e4, c5, c6, c7, c8, c9, c10⟩ := P15.out.cs
                      have BM := hid (P15.out.run' (t := tl) (HT.out.on P15.out.bel) ((HL.out.below P15.out.bel).more P15.out.sz) HNL.out (by have := HCL.out; omega))
                      clear P15
                      go_wp2_with fail
                      refine BM.out.mono ?_
                      rintro e w15 ⟨rfl, hb8, hp8⟩
                      have P16 := hid hp8
                      clear BM hb8 hp8 c0 c1 c2 c3' e4 c5 c6 c7 c8 c9 c10
                      obtain ⟨A1, hA1⟩ : ∃ E, tells g a3 c3 a4 c4 0 lo al cl tl = E := ⟨_, rfl⟩
                      rw [hA1]
                      have HA1 := hid hA1
                      clear hA1
                      go_upto_region 16 with fail
                      go_cut [] from 21 (fun wx => PM w.heap.size w g gb a3 c3 a4 c4 0 lo ak nk ck wx)
                      case first =>
                        obtain ⟨d5, f5⟩ := P16.out.c5
                        have c2 := P16.out.cs.2.2.1
                        go_wp2_with fail
                        go_meet
                        case rel => exact P16.out.setL ak nk ck
                      case rest =>
                        have P17 := hid hcut
                        clear hcut P16
                        obtain ⟨c0, c1, c2, c3', e4, c5, c6, c7, c8, c9, c10⟩ := P17.out.cs
                        have BM := hid (P17.out.run' (t := tk) (HT.out.on P17.out.bel) ((HK.out.below P17.out.bel).more P17.out.sz) HNK.out (by have := HCK.out; omega))
                        clear P17
                        go_wp2_with fail
                        refine BM.out.mono ?_
                        rintro e w17 ⟨rfl, hb8, hp8⟩
                        have P18 := hid hp8
                        clear BM hb8 hp8 c0 c1 c2 c3' e4 c5 c6 c7 c8 c9 c10
                        obtain ⟨B1, hB1⟩ : ∃ E, tells g a3 c3 a4 c4 0 lo ak ck tk = E := ⟨_, rfl⟩
                        rw [hB1]
                        have HB1 := hid hB1
                        clear hB1
                        go_upto_region 18 with fail
                        obtain ⟨j, hj⟩ : ∃ j, nl + nk = j := ⟨_, rfl⟩
                        have HJ := hid hj
                        go_cut [] from 21 (fun wx => ∃ a5 c5, PM w.heap.size w g gb a3 c3 a4 c4 0 lo a5 j c5 wx ∧ ListAt wx.heap.size wx a5 j (tl.join tk))
                        case first =>
                          have HK18 := hid (fun (W' : World) (h : Below w17.heap.size w17 W') => (⟨(P18.out.below h).bel, (P18.out.below h).cs.2.2.1⟩ : Below w.heap.size w W' ∧ W'.cell? ⟨gb, 2, none⟩ = some (.slice (some ⟨a4, 0, none⟩) 2 c4)))
                          have c2 := P18.out.cs.2.2.1
                          obtain ⟨ys, hys⟩ : ∃ ys, tl.rows = ys := ⟨_, rfl⟩
                          obtain ⟨zs, hzs⟩ : ∃ zs, tk.rows = zs := ⟨_, rfl⟩
                          have HYN := hid (show ys.length = nl by rw [← hys, rows_len]; exact HL.out.1)
                          have HZN := hid (show zs.length = nk by rw [← hzs, rows_len]; exact HK.out.1)
                          have HY8 := hid (show ∀ r ∈ ys, r.length = 8 by rw [← hys]; exact rows_eight tl)
                          have HZ8 := hid (show ∀ r ∈ zs, r.length = 8 by rw [← hzs]; exact rows_eight tk)
                          have HY1 := hid (show ∀ r ∈ ys, ∀ u ∈ r, u.oneCell' = true by rw [← hys]; exact rows_ones tl)
                          have HZ1 := hid (show ∀ r ∈ zs, ∀ u ∈ r, u.oneCell' = true by rw [← hzs]; exact rows_ones tk)
                          have HYM := hid (show ys.length ≤ 1000000000 by have := len_cnt tl; have := HCL.out; have := HL.out.1; have := HYN.out; omega)
                          have HZM := hid (show ys.length + zs.length ≤ 1000000000 by have := len_cnt tl; have := HCL.out; have := HL.out.1; have := HYN.out; have := len_cnt tk; have := HCK.out; have := HK.out.1; have := HZN.out; omega)
                          have HYR := hid (fun (W' : World) (h : Below w17.heap.size w17 W') => (show Stk.Rows W'.heap.size W' al 8 ys by rw [← hys]; exact (Go.Proofs.YtckdnhafookcgaaGreatDoor.Instr.rows_list ((HL.out.below (P18.out.below h).bel).more (P18.out.below h).sz)).1))
                          have HZR := hid (fun (W' : World) (h : Below w17.heap.size w17 W') => (show Stk.Rows W'.heap.size W' ak 8 zs by rw [← hzs]; exact (Go.Proofs.YtckdnhafookcgaaGreatDoor.Instr.rows_list ((HK.out.below (P18.out.below h).bel).more (P18.out.below h).sz)).1))
                          have HYZ := hid (show (tl.join tk).rows = ys ++ zs by rw [join_rows, hys, hzs])
                          clear hys hzs hj
                          go_region_held_law (fun w' => Below w.heap.size w w' ∧ w'.cell? ⟨gb, 2, none⟩ = some (.slice (some ⟨a4, 0, none⟩) 2 c4))
                            (first
                              | (with_reducible assumption)
                              | (with_reducible exact HK18.out _ (Below.refl _ _))
                              | (with_reducible exact HK18.out _ ((Below.refl _ _).drew))
                              | (with_reducible exact HK18.out _ ((Below.refl _ _).alloc (Nat.le_refl _) _))
                              | (with_reducible exact HK18.out _ (((Below.refl _ _).drew).alloc (Nat.le_refl _) _))
                              | (with_reducible exact HK18.out _ (((Below.refl _ _).alloc (Nat.le_refl _) _).drew))
                              | (with_reducible exact HK18.out _ (hB1.drew))
                              | (with_reducible exact HK18.out _ (hB2.drew)))
                            (first
                              | (have hq : Below w17.heap.size w17 (w17.alloc (.cells #[] 105)).drew := ((Below.refl _ _).alloc (Nat.le_refl _) _).drew
                                 refine Stk.step_list infoIn rfl (by omega) (by omega) Tryz.underlying85 rfl (.tmp 116) (.tmp 117) rfl rfl (made0D 105 8 w17) hq.size al nl cl rfl ys HYN.out (HYR.out _ hq) HY8.out HY1.out HYM.out ?_
                                 intro v1 u1 ho hb
                                 have hB1 : Below w17.heap.size w17 u1 := hq.trans hb
                                 have hS1 := HK18.out u1 hB1
                                 clear hb hq)
                              | (refine step_more infoIn rfl (by omega) (by omega) Tryz.underlying85 rfl (.tmp 118) (.tmp 119) rfl rfl ho hB1.size ak nk ck rfl zs HZN.out (HZR.out _ hB1) HZ8.out HZ1.out HZM.out ?_
                                 intro v2 u2 ho2 hb2
                                 have hB2 : Below w17.heap.size w17 u2 := hB1.trans hb2
                                 have hS2 := HK18.out u2 hB2
                                 obtain ⟨d5, f5⟩ := (P18.out.below hB2).c5
                                 obtain ⟨a5, c5, hv2, -, -⟩ := Stk.OwnR.rows ho2
                                 rw [List.length_append, HYN.out, HZN.out, HJ.out] at hv2
                                 subst hv2
                                 have hSt : Below w.heap.size w (u2.setCell ⟨a4, 5, none⟩ (.slice a5 j c5)) ∧ (u2.setCell ⟨a4, 5, none⟩ (.slice a5 j c5)).cell? ⟨gb, 2, none⟩ = some (.slice (some ⟨a4, 0, none⟩) 2 c4) := ⟨((P18.out.below hB2).setL a5 j c5).bel, ((P18.out.below hB2).setL a5 j c5).cs.2.2.1⟩
                                 clear hb2))
                          go_wp2_with fail
                          go_meet
                          case rel =>
                            have hp := (P18.out.below hB2).setL a5 j c5
                            have ho3 := Stk.OwnR.setCell ho2 (p := ⟨a4, 5, none⟩) (World.block_lt_of_cell? w17 _ P18.out.c5.1) (.slice a5 j c5)
                            refine ⟨a5, c5, hp, ?_⟩
                            obtain ⟨U, hU⟩ : ∃ U, U = u2.setCell ⟨a4, 5, none⟩ (.slice a5 j c5) := ⟨_, rfl⟩
                            rw [← hU] at hp ho3 ⊢
                            obtain ⟨a', c', e', hr, -⟩ := Stk.OwnR.rows ho3
                            simp only [Value.slice.injEq] at e'
                            obtain ⟨rfl, -, rfl⟩ := e'
                            rw [← HYZ.out] at hr
                            have hlist := list_rows hr (nest_join (join_nest ((HL.out.below hp.bel).more hp.sz)) (join_nest ((HK.out.below hp.bel).more hp.sz)))
                            rw [join_len, HL.out.1, HK.out.1, HJ.out] at hlist
                            exact hlist
                        case rest =>
                          obtain ⟨a5, c5', hpm, hls⟩ := hcut
                          have P20 := hid hpm
                          have L20 := hid hls
                          clear hpm hls P18
                          obtain ⟨c0, c1, c2, c3', e4, c5, c6, c7, c8, c9, c10⟩ := P20.out.cs
                          have BM := hid (P20.out.run' (t := tl.join tk) (HT.out.on P20.out.bel) L20.out (by have := len_cnt tl; have := HCL.out; have := HL.out.1; have := len_cnt tk; have := HCK.out; have := HK.out.1; have := HJ.out; omega) (by rw [join_count]; have := HCL.out; have := HCK.out; omega))
                          clear P20 L20
                          go_wp2_with fail
                          refine BM.out.mono ?_
                          rintro e w20 ⟨rfl, hb8, hp8⟩
                          have HBE := hid hp8.bel
                          clear BM hb8 hp8 c0 c1 c2 c3' e4 c5 c6 c7 c8 c9 c10
                          obtain ⟨C1, hC1⟩ : ∃ E, tells g a3 c3 a4 c4 0 lo a5 c5' (tl.join tk) = E := ⟨_, rfl⟩
                          rw [hC1]
                          have HABC := hid (show A1.1 = 0 → B1.1 = 0 → C1.1 = 0 by
                            rw [← HA1.out, ← HB1.out, ← hC1]
                            exact fun h1 h2 => part_join HLO.out HCL.out HCK.out h1 h2)
                          clear hC1 HA1 HB1
                          obtain ⟨x1, x2⟩ := A1
                          obtain ⟨y1, y2⟩ := B1
                          obtain ⟨z1, z2⟩ := C1
                          have hd := HABC.out
                          dsimp only at hd ⊢
                          clear HABC
                          rcases Decidable.em (x1 = 0) with h1 | h1
                          · rcases Decidable.em (y1 = 0) with h2 | h2
                            · obtain rfl := hd h1 h2
                              subst h1 h2
                              clear hd
                              go_wp2
                              go_ret
                              exact ⟨rfl, HBE.out⟩
                            · subst h1
                              clear hd
                              go_wp2
                              go_ret
                              exact ⟨rfl, HBE.out⟩
                          · clear hd
                            go_wp2
                            go_ret
                            exact ⟨rfl, HBE.out⟩
                · clear HEF HE1
                  go_upto_region 13 with fail
                  go_cut [] from 21 (fun wx => PM w.heap.size w g gb a3 c3 a4 c4 0 lo (some ⟨w8.heap.size, 0, none⟩) 1 1 wx)
                  case first =>
                    obtain ⟨d5, f5⟩ := PM11.out.r5
                    have c0 := PM11.out.cs.1
                    go_wp2_with fail
                    go_meet
                    case rel => exact PM11.out.setR 0
                  case rest =>
                    have P14 := hid hcut
                    clear hcut PM11
                    go_upto_region 14 with fail
                    go_cut [] from 21 (fun wx => PM w.heap.size w g gb a3 c3 a4 c4 0 lo al nl cl wx)
                    case first =>
                      obtain ⟨d5, f5⟩ := P14.out.c5
                      have c2 := P14.out.cs.2.2.1
                      go_wp2_with fail
                      go_meet
                      case rel => exact P14.out.setL al nl cl
                    case rest =>
                      have P15 := hid hcut
                      clear hcut P14
                      obtain ⟨c0, c1, c2, c3', e4, c5, c6, c7, c8, c9, c10⟩ := P15.out.cs
                      have BM := hid (P15.out.run' (t := tl) (HT.out.on P15.out.bel) ((HL.out.below P15.out.bel).more P15.out.sz) HNL.out (by have := HCL.out; omega))
                      clear P15
                      go_wp2_with fail
                      refine BM.out.mono ?_
                      rintro e w15 ⟨rfl, hb8, hp8⟩
                      have P16 := hid hp8
                      clear BM hb8 hp8 c0 c1 c2 c3' e4 c5 c6 c7 c8 c9 c10
                      obtain ⟨A1, hA1⟩ : ∃ E, tells g a3 c3 a4 c4 0 lo al cl tl = E := ⟨_, rfl⟩
                      rw [hA1]
                      have HA1 := hid hA1
                      clear hA1
                      go_upto_region 16 with fail
                      go_cut [] from 21 (fun wx => PM w.heap.size w g gb a3 c3 a4 c4 0 lo ak nk ck wx)
                      case first =>
                        obtain ⟨d5, f5⟩ := P16.out.c5
                        have c2 := P16.out.cs.2.2.1
                        go_wp2_with fail
                        go_meet
                        case rel => exact P16.out.setL ak nk ck
                      case rest =>
                        have P17 := hid hcut
                        clear hcut P16
                        obtain ⟨c0, c1, c2, c3', e4, c5, c6, c7, c8, c9, c10⟩ := P17.out.cs
                        have BM := hid (P17.out.run' (t := tk) (HT.out.on P17.out.bel) ((HK.out.below P17.out.bel).more P17.out.sz) HNK.out (by have := HCK.out; omega))
                        clear P17
                        go_wp2_with fail
                        refine BM.out.mono ?_
                        rintro e w17 ⟨rfl, hb8, hp8⟩
                        have P18 := hid hp8
                        clear BM hb8 hp8 c0 c1 c2 c3' e4 c5 c6 c7 c8 c9 c10
                        obtain ⟨B1, hB1⟩ : ∃ E, tells g a3 c3 a4 c4 0 lo ak ck tk = E := ⟨_, rfl⟩
                        rw [hB1]
                        have HB1 := hid hB1
                        clear hB1
                        go_upto_region 18 with fail
                        obtain ⟨j, hj⟩ : ∃ j, nl + nk = j := ⟨_, rfl⟩
                        have HJ := hid hj
                        go_cut [] from 21 (fun wx => ∃ a5 c5, PM w.heap.size w g gb a3 c3 a4 c4 0 lo a5 j c5 wx ∧ ListAt wx.heap.size wx a5 j (tl.join tk))
                        case first =>
                          have HK18 := hid (fun (W' : World) (h : Below w17.heap.size w17 W') => (⟨(P18.out.below h).bel, (P18.out.below h).cs.2.2.1⟩ : Below w.heap.size w W' ∧ W'.cell? ⟨gb, 2, none⟩ = some (.slice (some ⟨a4, 0, none⟩) 2 c4)))
                          have c2 := P18.out.cs.2.2.1
                          obtain ⟨ys, hys⟩ : ∃ ys, tl.rows = ys := ⟨_, rfl⟩
                          obtain ⟨zs, hzs⟩ : ∃ zs, tk.rows = zs := ⟨_, rfl⟩
                          have HYN := hid (show ys.length = nl by rw [← hys, rows_len]; exact HL.out.1)
                          have HZN := hid (show zs.length = nk by rw [← hzs, rows_len]; exact HK.out.1)
                          have HY8 := hid (show ∀ r ∈ ys, r.length = 8 by rw [← hys]; exact rows_eight tl)
                          have HZ8 := hid (show ∀ r ∈ zs, r.length = 8 by rw [← hzs]; exact rows_eight tk)
                          have HY1 := hid (show ∀ r ∈ ys, ∀ u ∈ r, u.oneCell' = true by rw [← hys]; exact rows_ones tl)
                          have HZ1 := hid (show ∀ r ∈ zs, ∀ u ∈ r, u.oneCell' = true by rw [← hzs]; exact rows_ones tk)
                          have HYM := hid (show ys.length ≤ 1000000000 by have := len_cnt tl; have := HCL.out; have := HL.out.1; have := HYN.out; omega)
                          have HZM := hid (show ys.length + zs.length ≤ 1000000000 by have := len_cnt tl; have := HCL.out; have := HL.out.1; have := HYN.out; have := len_cnt tk; have := HCK.out; have := HK.out.1; have := HZN.out; omega)
                          have HYR := hid (fun (W' : World) (h : Below w17.heap.size w17 W') => (show Stk.Rows W'.heap.size W' al 8 ys by rw [← hys]; exact (Go.Proofs.YtckdnhafookcgaaGreatDoor.Instr.rows_list ((HL.out.below (P18.out.below h).bel).more (P18.out.below h).sz)).1))
                          have HZR := hid (fun (W' : World) (h : Below w17.heap.size w17 W') => (show Stk.Rows W'.heap.size W' ak 8 zs by rw [← hzs]; exact (Go.Proofs.YtckdnhafookcgaaGreatDoor.Instr.rows_list ((HK.out.below (P18.out.below h).bel).more (P18.out.below h).sz)).1))
                          have HYZ := hid (show (tl.join tk).rows = ys ++ zs by rw [join_rows, hys, hzs])
                          clear hys hzs hj
                          go_region_held_law (fun w' => Below w.heap.size w w' ∧ w'.cell? ⟨gb, 2, none⟩ = some (.slice (some ⟨a4, 0, none⟩) 2 c4))
                            (first
                              | (with_reducible assumption)
                              | (with_reducible exact HK18.out _ (Below.refl _ _))
                              | (with_reducible exact HK18.out _ ((Below.refl _ _).drew))
                              | (with_reducible exact HK18.out _ ((Below.refl _ _).alloc (Nat.le_refl _) _))
                              | (with_reducible exact HK18.out _ (((Below.refl _ _).drew).alloc (Nat.le_refl _) _))
                              | (with_reducible exact HK18.out _ (((Below.refl _ _).alloc (Nat.le_refl _) _).drew))
                              | (with_reducible exact HK18.out _ (hB1.drew))
                              | (with_reducible exact HK18.out _ (hB2.drew)))
                            (first
                              | (have hq : Below w17.heap.size w17 (w17.alloc (.cells #[] 105)).drew := ((Below.refl _ _).alloc (Nat.le_refl _) _).drew
                                 refine Stk.step_list infoIn rfl (by omega) (by omega) Tryz.underlying85 rfl (.tmp 116) (.tmp 117) rfl rfl (made0D 105 8 w17) hq.size al nl cl rfl ys HYN.out (HYR.out _ hq) HY8.out HY1.out HYM.out ?_
                                 intro v1 u1 ho hb
                                 have hB1 : Below w17.heap.size w17 u1 := hq.trans hb
                                 have hS1 := HK18.out u1 hB1
                                 clear hb hq)
                              | (refine step_more infoIn rfl (by omega) (by omega) Tryz.underlying85 rfl (.tmp 118) (.tmp 119) rfl rfl ho hB1.size ak nk ck rfl zs HZN.out (HZR.out _ hB1) HZ8.out HZ1.out HZM.out ?_
                                 intro v2 u2 ho2 hb2
                                 have hB2 : Below w17.heap.size w17 u2 := hB1.trans hb2
                                 have hS2 := HK18.out u2 hB2
                                 obtain ⟨d5, f5⟩ := (P18.out.below hB2).c5
                                 obtain ⟨a5, c5, hv2, -, -⟩ := Stk.OwnR.rows ho2
                                 rw [List.length_append, HYN.out, HZN.out, HJ.out] at hv2
                                 subst hv2
                                 have hSt : Below w.heap.size w (u2.setCell ⟨a4, 5, none⟩ (.slice a5 j c5)) ∧ (u2.setCell ⟨a4, 5, none⟩ (.slice a5 j c5)).cell? ⟨gb, 2, none⟩ = some (.slice (some ⟨a4, 0, none⟩) 2 c4) := ⟨((P18.out.below hB2).setL a5 j c5).bel, ((P18.out.below hB2).setL a5 j c5).cs.2.2.1⟩
                                 clear hb2))
                          go_wp2_with fail
                          go_meet
                          case rel =>
                            have hp := (P18.out.below hB2).setL a5 j c5
                            have ho3 := Stk.OwnR.setCell ho2 (p := ⟨a4, 5, none⟩) (World.block_lt_of_cell? w17 _ P18.out.c5.1) (.slice a5 j c5)
                            refine ⟨a5, c5, hp, ?_⟩
                            obtain ⟨U, hU⟩ : ∃ U, U = u2.setCell ⟨a4, 5, none⟩ (.slice a5 j c5) := ⟨_, rfl⟩
                            rw [← hU] at hp ho3 ⊢
                            obtain ⟨a', c', e', hr, -⟩ := Stk.OwnR.rows ho3
                            simp only [Value.slice.injEq] at e'
                            obtain ⟨rfl, -, rfl⟩ := e'
                            rw [← HYZ.out] at hr
                            have hlist := list_rows hr (nest_join (join_nest ((HL.out.below hp.bel).more hp.sz)) (join_nest ((HK.out.below hp.bel).more hp.sz)))
                            rw [join_len, HL.out.1, HK.out.1, HJ.out] at hlist
                            exact hlist
                        case rest =>
                          obtain ⟨a5, c5', hpm, hls⟩ := hcut
                          have P20 := hid hpm
                          have L20 := hid hls
                          clear hpm hls P18
                          obtain ⟨c0, c1, c2, c3', e4, c5, c6, c7, c8, c9, c10⟩ := P20.out.cs
                          have BM := hid (P20.out.run' (t := tl.join tk) (HT.out.on P20.out.bel) L20.out (by have := len_cnt tl; have := HCL.out; have := HL.out.1; have := len_cnt tk; have := HCK.out; have := HK.out.1; have := HJ.out; omega) (by rw [join_count]; have := HCL.out; have := HCK.out; omega))
                          clear P20 L20
                          go_wp2_with fail
                          refine BM.out.mono ?_
                          rintro e w20 ⟨rfl, hb8, hp8⟩
                          have HBE := hid hp8.bel
                          clear BM hb8 hp8 c0 c1 c2 c3' e4 c5 c6 c7 c8 c9 c10
                          obtain ⟨C1, hC1⟩ : ∃ E, tells g a3 c3 a4 c4 0 lo a5 c5' (tl.join tk) = E := ⟨_, rfl⟩
                          rw [hC1]
                          have HABC := hid (show A1.1 = 0 → B1.1 = 0 → C1.1 = 0 by
                            rw [← HA1.out, ← HB1.out, ← hC1]
                            exact fun h1 h2 => part_join HLO.out HCL.out HCK.out h1 h2)
                          clear hC1 HA1 HB1
                          obtain ⟨x1, x2⟩ := A1
                          obtain ⟨y1, y2⟩ := B1
                          obtain ⟨z1, z2⟩ := C1
                          have hd := HABC.out
                          dsimp only at hd ⊢
                          clear HABC
                          rcases Decidable.em (x1 = 0) with h1 | h1
                          · rcases Decidable.em (y1 = 0) with h2 | h2
                            · obtain rfl := hd h1 h2
                              subst h1 h2
                              clear hd
                              go_wp2
                              go_ret
                              exact ⟨rfl, HBE.out⟩
                            · subst h1
                              clear hd
                              go_wp2
                              go_ret
                              exact ⟨rfl, HBE.out⟩
                          · clear hd
                            go_wp2
                            go_ret
                            exact ⟨rfl, HBE.out⟩
        · have h4' : lo < 0 ∨ 1000 < lo := by omega
          clear h4
          rcases h4' with h4' | h4'
          · go_wp2
            go_ret
            exact ⟨rfl, HB2.out⟩
          · have h4'' : ¬ lo < 0 := by omega
            go_wp2
            go_ret
            exact ⟨rfl, HB2.out⟩
      · have h3' : (300 : Int) < (D : Int) := by omega
        clear h3
        go_wp2
        go_ret
        exact ⟨rfl, HB2.out⟩
    · have h2' : 2000 < B := by omega
      clear h2 C2 HB
      go_wp2
      go_ret
      exact ⟨rfl, HB1.out⟩
  · have h1' : 2000 < A := by omega
    clear h1 C1 CD HA
    go_wp2
    go_ret
    exact ⟨rfl, HB1.out⟩
end Go.Proofs.YtckdnhafookcgaaGreatDoor.Val
namespace Go.Proofs.YtckdnhafookcgaaGreatDoor
open Go.RowKit Go.Proofs.YtckdnhafookcgaaGreatDoor.Instr Go.Proofs.YtckdnhafookcgaaGreatDoor.Val
theorem validParts_walk (W : World) (a0 : Option Addr) (len0 cap0 : Nat) (t0 : Il) (hl0 : ListAt W.heap.size W a0 len0 t0) (_hc0 : len0 ≤ cap0) (hx0 : len0 ≤ 140737488351232)
    (a1 : Option Addr) (len1 cap1 : Nat) (t1 : Il) (hl1 : ListAt W.heap.size W a1 len1 t1) (_hc1 : len1 ≤ cap1) (hx1 : len1 ≤ 140737488351232)
    (r : Int) (_hr : -9223372036854775808 ≤ r ∧ r ≤ 9223372036854775807) (lo : Int) (_hlo : -9223372036854775808 ≤ lo ∧ lo ≤ 9223372036854775807) (hT : Instr.Nams W ∧ Utf.Tabs W ∧ Num.Arit W) :
    Calls Tryz.prog 8 #[.slice a0 len0 cap0, .slice a1 len1 cap1, .int .i64 r, .int .i64 lo] W fun e w' => e = .returned (.bool true) ∧ Below W.heap.size W w' :=
  parts_go a0 a1 len0 cap0 len1 cap1 t0 t1 r lo W hl0 hl1 hx0 hx1 ⟨hT.1, hT.2.1, hT.2.2⟩
end Go.Proofs.YtckdnhafookcgaaGreatDoor

namespace Go.Proofs.YtckdnhafookcgaaGreatDoor.validParts
open Go.ChangeShapes Go.WideShapes Go.ChangeAt Go.RowKit
open Go.ChangeMaps (open_string shut_string)
set_option linter.unusedVariables false

set_option maxRecDepth 100000 in
theorem lifted (os : Os) (started : os.Started) (H : Type) (enc : TypeId × Value → H) :
    ReturnsInHanded {} Tryz.checked os 8 .any (fun w args => (Rows.validPartsSpec.pre enc Tryz.prog Tryz.f8 [] false w args ∧ laidMetH Tryz.prog laid4 w) ∧ sizedMet enc Tryz.prog Tryz.f8 (OpenSpec.ofChange Rows.validPartsSpec) false w args)
      (Rows.validPartsSpec.post enc Tryz.prog Tryz.f8 false true false false) := by
  refine returnsInHanded_of_change_and (C := Tryz.checked) (X := fun w _ => laidMetH Tryz.prog laid4 w) (fun _ _ _ hh h => h.of_heap hh) ownK started (by kernel_rfl) Tryz.func8
    (ChangeSpec.witness_shaped (enc := enc) (C := Tryz.checked) (os := os) (X := fun w _ => laidMetH Tryz.prog laid4 w) false (World.laidAll Tryz.prog os laid4) #[.slice none 0 0, .slice none 0 0, .int .i64 0, .int .i64 0] 8 (World.laidAll_os _ _ _)
      (World.shaped_of_ZipB (by kernel_rfl) (by kernel_rfl)) (by kernel_rfl) (by kernel_rfl) (by kernel_rfl)
      (by rw [MakeChecks.laidMetH_plain _ _ _ (by kernel_rfl)]; exact laidMet_laidAll _ (by kernel_rfl) (by kernel_rfl))) ?_
  intro W base args ds gs before hval0 hW _ hsz0 hL _
  have hval : ∀ (j : Nat) t v, Tryz.f8.params[j]? = some t → args[j]? = some v → Value.okWide Tryz.prog W .any base t v := hval0
  have hW' := hW
  obtain ⟨p, q, hA0, hV, rfl, hfz, hnd⟩ := hW
  have hA : DataW.TrodAll enc Tryz.prog W 0 (fun _ => true) true Tryz.f8.params.toList args.toList ds p := hA0
  have hsz : (DataW.weightsEach Tryz.prog (Tryz.f8.params.toList ++ Rows.validPartsSpec.plain.varTypes Tryz.prog) (ds ++ gs)).all (· ≤ reachBytes) = true := hsz0
  rw [Tryz.params8] at hA hval hsz
  obtain ⟨v0, vs0, d0, ds0, p0, q0, hargs, rfl, rfl, h0, r0⟩ := trodAll_cons hA
  obtain ⟨v1, vs1, d1, ds1, p1, q1, rfl, rfl, rfl, h1, r1⟩ := trodAll_cons r0
  obtain ⟨v2, vs2, d2, ds2, p2, q2, rfl, rfl, rfl, h2, r2⟩ := trodAll_cons r1
  obtain ⟨v3, vs3, d3, ds3, p3, q3, rfl, rfl, rfl, h3, r3⟩ := trodAll_cons r2
  obtain ⟨rfl, rfl, rfl⟩ := trodAll_nil r3
  obtain rfl : args = #[v0, v1, v2, v3] := by cases args; simp_all
  obtain ⟨rfl, rfl⟩ := trodVars_none hV
  obtain ⟨a0, len0, cap0, rfl⟩ := okWide_slice Tryz.underlying85 (hval 0 85 v0 rfl rfl)
  have k0 := h0
  have lt0 : ∀ x ∈ p0, x.block < W.heap.size := by obtain ⟨m, hm⟩ := k0; exact DataW.trod_lt m _ _ _ hm
  obtain ⟨t0, hl0, hc0, hx0⟩ := Instr.open_instrs hsz 0 rfl rfl k0
  obtain ⟨a1, len1, cap1, rfl⟩ := okWide_slice Tryz.underlying85 (hval 1 85 v1 rfl rfl)
  have k1 := h1
  have lt1 : ∀ x ∈ p1, x.block < W.heap.size := by obtain ⟨m, hm⟩ := k1; exact DataW.trod_lt m _ _ _ hm
  obtain ⟨t1, hl1, hc1, hx1⟩ := Instr.open_instrs hsz 1 rfl rfl k1
  obtain ⟨a2, rfl, rfl, rfl, w2⟩ := open_int Tryz.underlying3 (hval 2 3 v2 rfl rfl) h2
  have b2 := bounds_i64 w2
  obtain ⟨a3, rfl, rfl, rfl, w3⟩ := open_int Tryz.underlying3 (hval 3 3 v3 rfl rfl) h3
  have b3 := bounds_i64 w3
  rw [MakeChecks.laidMetH_plain _ _ _ (by kernel_rfl)] at hL
  have hT := tabs_4 hL
  clear hA0 hval0
  refine (validParts_walk W a0 len0 cap0 t0 hl0 hc0 hx0 a1 len1 cap1 t1 hl1 hc1 hx1 a2 b2 a3 b3 hT).mono fun e W' ⟨he, bel⟩ => ?_
  subst he
  exact ⟨_, rfl, _, _, _, [], _, [], hW', trodAll_mk1 (shut_bool Tryz.underlying4 _), (trodAll_cons_mk (Below.trod laidOutK (by kernel_rfl) (of_decide_eq_true (by kernel_rfl)) k0 bel lt0) (trodAll_cons_mk (Below.trod laidOutK (by kernel_rfl) (of_decide_eq_true (by kernel_rfl)) k1 bel lt1) (trodAll_cons_mk (shut_int Tryz.underlying3 w2) (trodAll_cons_mk (shut_int Tryz.underlying3 w3) trodAll_mk0)))), rfl, bel.frame _, fun h => by cases h⟩
end Go.Proofs.YtckdnhafookcgaaGreatDoor.validParts
