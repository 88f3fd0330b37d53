import Derived.Test.YtklooieghlnblaaRsq
import Derived.Test.YtklooieghlnblaaByt
import Derived.Stop.BytesEq
/-
  skip's entries: is it?
-/
namespace Go.Proofs.Ytklooieghlnblaa
open Go.RowKit

section
variable {P : Program} {ops : Array Oper} {l : List Sp} {a : Act} {w : World}
theorem owes_field (i : Nat) (dst : Option Tmp) (anc : List Nat) (r : Value) (t : TypeId) (x : Operand) (k : Nat) (vx : Value) (hop : ∀ v, ops[i]?.map (fun o => (o.op, Region.wanted o (yielded ops (fr l anc a v).tmps))) = some (.fieldAddr t x k, true))
    (hx : ∀ v, (fr l anc a v).eval x = vx) (he : ∀ w, (Instr.fieldAt t vx k).run P w = .ok r w) : Owes P ops l a w (Sp.k i dst anc r) :=
  owes_pure i dst anc r _ hop fun v w' _ _ o ho => by unfold execOp; simp only [ho, hx v, Sem.run_bind, he w']; rfl
end
def cellB (b : UInt8) : Value := .int .u8 (b.toNat : Int)
/-- an entry's cells -/
def ceT (d k : List UInt8) (n : Int) : List Value := d.map cellB ++ (k.map cellB ++ [.int .u32 n])
theorem rangeAt_below {w w' : World} {g o : Nat} {cs : List Value} (h : w.rangeAt g o cs) (hb : Below w.heap.size w w') (hg : g < w.heap.size) : w'.rangeAt g o cs := fun j v hv => (hb.cell (p := ⟨g, o + j, none⟩) hg).trans (h j v hv)
theorem ld_u32 (b o : Nat) (v : Value) (w : World) (h : w.cell? ⟨b, o, none⟩ = some v) : (Instr.loadAt 36 (.pointer (some ⟨b, o, none⟩))).run Try.prog w = .ok v w := by
  have h2 := Try.underlying36
  go_simp
theorem eq_u32 (t : TypeId) (x y : Operand) (a : Int) (w : World) : (do eqGuard .eql t x y (.int .u32 a) (.int .u32 a); binOp .eql t (.int .u32 a) (.int .u32 a) : Sem Value).run Try.prog w = .ok (.bool true) w := by
  simp [eqGuard, binOp, Op.intCmp]
theorem ne_u32 (t : TypeId) (x y : Operand) {a b : Int} (h : ¬ a = b) (w : World) : (do eqGuard .eql t x y (.int .u32 a) (.int .u32 b); binOp .eql t (.int .u32 a) (.int .u32 b) : Sem Value).run Try.prog w = .ok (.bool false) w := by
  simp [eqGuard, binOp, Op.intCmp, h]
theorem size_u8 (w : World) : (sizeOf 5).run Try.prog w = .ok 1 w := by
  obtain ⟨i, hi, hz⟩ := Option.map_eq_some_iff.1 (show (Try.prog.info? 5).map (·.size) = some 1 by kernel_rfl)
  simp [sizeOf, typeInfo, hi, hz, Result.andThen]
theorem eq_key (w : World) (d q : List UInt8) (hd : d.length = 32) (hq : q.length = 32) (b : Bool) (h : (d == q) = b) : (Op.equalIn 10000 31 (.agg (d.map cellB).toArray) (.agg (q.map cellB).toArray)).run Try.prog w = .ok b w := by
  rw [← h]
  exact run_equalIn_bytes w 9998 31 5 32 Try.underlying31 Try.underlying5 size_u8 d q hd hq
theorem range_new {W : World} {g : Nat} {cs : List Value} {t : TypeId} {fr : Nat × Nat} (h : W.heap[g]? = some (.cells cs.toArray t fr)) : W.rangeAt g 0 cs := fun j v hv => by
  unfold World.cell?
  simp [h, hv]
theorem heap2_0 (w : World) (a b : Obj) : ((w.alloc a).alloc b).heap[w.heap.size]? = some a := by
  show ((w.heap.push a).push b)[w.heap.size]? = some a
  simp [Array.getElem?_push]
theorem heap2_1 (w : World) (a b : Obj) : ((w.alloc a).alloc b).heap[w.heap.size + 1]? = some b := by
  show ((w.heap.push a).push b)[w.heap.size + 1]? = some b
  rw [Array.getElem?_push, if_pos (by simp)]
set_option maxRecDepth 100000 in
set_option maxHeartbeats 800000 in
theorem is_any (d k q : List UInt8) (n m : Int) (hd : d.length = 32) (hk : k.length = 32) (hq : q.length = 32) (w : World) : Calls Try.prog 24 #[.agg (ceT d k n).toArray, .agg (q.map cellB).toArray, .int .u32 m] w fun e w' => e = .returned (.bool (decide (n = m) && (d == q))) ∧ Below w.heap.size w w' := by
  go_enter Try.func24, Try.ntmps24
  go_upto_region 1 with (fail)
  have hr0 : ((w.alloc (Obj.cells (ceT d k n).toArray 46)).alloc (Obj.cells (q.map cellB).toArray 31)).rangeAt w.heap.size 0 (ceT d k n) := range_new (heap2_0 _ _ _)
  have hr1 : ((w.alloc (Obj.cells (ceT d k n).toArray 46)).alloc (Obj.cells (q.map cellB).toArray 31)).rangeAt (w.heap.size + 1) 0 (q.map cellB) := range_new (heap2_1 _ _ _)
  refine wp_world (fun W => W.rangeAt w.heap.size 0 (ceT d k n) ∧ W.rangeAt (w.heap.size + 1) 0 (q.map cellB) ∧ w.heap.size + 1 < W.heap.size ∧ Below w.heap.size w W) ⟨hr0, hr1, by simp, ((Below.refl _ _).alloc (Nat.le_refl _) _).alloc (by simp) _⟩ ?_
  clear hr0 hr1
  rintro W ⟨hr, hrq, hlt1, hB⟩
  have hn : W.cell? ⟨w.heap.size, 64, none⟩ = some (.int .u32 n) := by
    have := hr 64 (.int .u32 n) (by simp [ceT, hd, hk])
    simpa using this
  have hrd : W.rangeAt w.heap.size 0 (d.map cellB) := fun j v hv => hr j v (by
    have hj := (List.getElem?_eq_some_iff.1 hv).1
    unfold ceT
    rw [List.getElem?_append_left hj]
    exact hv)
  clear hr
  have HB := Lib.hid hB
  clear hB
  generalize hS : w.heap.size = B at *
  have HS := Lib.hid hS
  clear hS
  have hlt : B < W.heap.size := by omega
  by_cases hnm : n = m
  · subst hnm
    cases hdq : (d == q) with
    | true =>
      refine wp_region_text [Sp.k 0 (some 7) [] (.pointer (some ⟨B, 64, none⟩)),
        Sp.k 1 (some 8) [0] (.int .u32 n),
        Sp.k 2 (some 9) [] (.int .u32 n),
        Sp.k 3 (some 10) [1, 2] (.bool true),
        Sp.k 4 (some 11) [3] (.bool true),
        Sp.k 5 (some 12) [4] (.pointer (some ⟨B, 0, none⟩)),
        Sp.k 6 (some 13) [4, 5] (.agg (d.map cellB).toArray),
        Sp.k 7 (some 14) [4] (.agg (q.map cellB).toArray),
        Sp.k 8 (some 15) [4, 6, 7] (.bool true),
        Sp.k 9 (some 16) [4, 8] (.bool true),
        Sp.k 10 (some 6) [9] (.bool true)] (by kernel_rfl)
        ⟨owes_field 0 (some 7) [] (.pointer (some ⟨B, 64, none⟩)) 46 (Go.Operand.tmp 3) 2 (.pointer (some ⟨B, 0, none⟩)) (fun v => by kernel_rfl) (fun v => by kernel_rfl) (fun w => by kernel_rfl),
        owes_load 1 (some 8) [0] (.int .u32 n) 36 (Go.Operand.tmp 7) (.pointer (some ⟨B, 64, none⟩)) (fun v => by kernel_rfl) (fun v => by kernel_rfl) (fun w' hb => ld_u32 _ _ _ w' ((hb.cell (p := ⟨B, 64, none⟩) hlt).trans hn)),
        owes_move 2 (some 9) [] (.int .u32 n) (Go.Operand.tmp 2) (fun v => by kernel_rfl) (fun v => by kernel_rfl),
        owes_bin 3 (some 10) [1, 2] (.bool true) Go.BinOp.eql 36 (Go.Operand.tmp 8) (Go.Operand.tmp 9) 36 (.int .u32 n) (.int .u32 n) (fun v => by kernel_rfl) (fun v => by kernel_rfl) (eq_u32 _ _ _ _),
        owes_move 4 (some 11) [3] (.bool true) (Go.Operand.tmp 10) (fun v => by kernel_rfl) (fun v => by kernel_rfl),
        owes_field 5 (some 12) [4] (.pointer (some ⟨B, 0, none⟩)) 46 (Go.Operand.tmp 3) 0 (.pointer (some ⟨B, 0, none⟩)) (fun v => by kernel_rfl) (fun v => by kernel_rfl) (fun w => by kernel_rfl),
        owes_load 6 (some 13) [4, 5] (.agg (d.map cellB).toArray) 31 (Go.Operand.tmp 12) (.pointer (some ⟨B, 0, none⟩)) (fun v => by kernel_rfl) (fun v => by kernel_rfl) (fun w' hb => load_row 31 B 0 (d.map cellB) _ Try.underlying31 rfl (by rw [List.length_map, hd]; kernel_rfl) w' (rangeAt_below hrd hb hlt)),
        owes_load 7 (some 14) [4] (.agg (q.map cellB).toArray) 31 (Go.Operand.tmp 4) (.pointer (some ⟨B + 1, 0, none⟩)) (fun v => by kernel_rfl) (fun v => by kernel_rfl) (fun w' hb => load_row 31 (B + 1) 0 (q.map cellB) _ Try.underlying31 rfl (by rw [List.length_map, hq]; kernel_rfl) w' (rangeAt_below hrq hb hlt1)),
        owes_eql 8 (some 15) [4, 6, 7] 31 (Go.Operand.tmp 13) (Go.Operand.tmp 14) 31 ((d.map cellB).toArray) ((q.map cellB).toArray) true (fun v => by kernel_rfl) (fun v => by kernel_rfl) (by kernel_rfl) (fun w => eq_key w d q hd hq true hdq),
        owes_pick 9 (some 16) [4, 8] (.bool true) (Go.Operand.tmp 11) (Go.Operand.tmp 15) (Go.Operand.const (Go.Value.bool false)) true (fun v => by kernel_rfl) (fun v => by kernel_rfl) (fun v => by kernel_rfl),
        owes_assign 10 (some 6) [9] (.bool true) (Go.Operand.tmp 16) (fun v => by kernel_rfl) (fun v => by kernel_rfl), trivial⟩ ?_
      intro v w1 hb1 hall
      clear hall
      simp only [putsL_k, putsL_nil, List.set_cons_zero, List.set_cons_succ]
      go_wp2_with fail
      go_ret
      refine ⟨rfl, ?_⟩
      rw [HS.out]
      exact HB.out.trans (hb1.mono (Nat.le_of_lt hlt))
    | false =>
      refine wp_region_text [Sp.k 0 (some 7) [] (.pointer (some ⟨B, 64, none⟩)),
        Sp.k 1 (some 8) [0] (.int .u32 n),
        Sp.k 2 (some 9) [] (.int .u32 n),
        Sp.k 3 (some 10) [1, 2] (.bool true),
        Sp.k 4 (some 11) [3] (.bool true),
        Sp.k 5 (some 12) [4] (.pointer (some ⟨B, 0, none⟩)),
        Sp.k 6 (some 13) [4, 5] (.agg (d.map cellB).toArray),
        Sp.k 7 (some 14) [4] (.agg (q.map cellB).toArray),
        Sp.k 8 (some 15) [4, 6, 7] (.bool false),
        Sp.k 9 (some 16) [4, 8] (.bool false),
        Sp.k 10 (some 6) [9] (.bool false)] (by kernel_rfl)
        ⟨owes_field 0 (some 7) [] (.pointer (some ⟨B, 64, none⟩)) 46 (Go.Operand.tmp 3) 2 (.pointer (some ⟨B, 0, none⟩)) (fun v => by kernel_rfl) (fun v => by kernel_rfl) (fun w => by kernel_rfl),
        owes_load 1 (some 8) [0] (.int .u32 n) 36 (Go.Operand.tmp 7) (.pointer (some ⟨B, 64, none⟩)) (fun v => by kernel_rfl) (fun v => by kernel_rfl) (fun w' hb => ld_u32 _ _ _ w' ((hb.cell (p := ⟨B, 64, none⟩) hlt).trans hn)),
        owes_move 2 (some 9) [] (.int .u32 n) (Go.Operand.tmp 2) (fun v => by kernel_rfl) (fun v => by kernel_rfl),
        owes_bin 3 (some 10) [1, 2] (.bool true) Go.BinOp.eql 36 (Go.Operand.tmp 8) (Go.Operand.tmp 9) 36 (.int .u32 n) (.int .u32 n) (fun v => by kernel_rfl) (fun v => by kernel_rfl) (eq_u32 _ _ _ _),
        owes_move 4 (some 11) [3] (.bool true) (Go.Operand.tmp 10) (fun v => by kernel_rfl) (fun v => by kernel_rfl),
        owes_field 5 (some 12) [4] (.pointer (some ⟨B, 0, none⟩)) 46 (Go.Operand.tmp 3) 0 (.pointer (some ⟨B, 0, none⟩)) (fun v => by kernel_rfl) (fun v => by kernel_rfl) (fun w => by kernel_rfl),
        owes_load 6 (some 13) [4, 5] (.agg (d.map cellB).toArray) 31 (Go.Operand.tmp 12) (.pointer (some ⟨B, 0, none⟩)) (fun v => by kernel_rfl) (fun v => by kernel_rfl) (fun w' hb => load_row 31 B 0 (d.map cellB) _ Try.underlying31 rfl (by rw [List.length_map, hd]; kernel_rfl) w' (rangeAt_below hrd hb hlt)),
        owes_load 7 (some 14) [4] (.agg (q.map cellB).toArray) 31 (Go.Operand.tmp 4) (.pointer (some ⟨B + 1, 0, none⟩)) (fun v => by kernel_rfl) (fun v => by kernel_rfl) (fun w' hb => load_row 31 (B + 1) 0 (q.map cellB) _ Try.underlying31 rfl (by rw [List.length_map, hq]; kernel_rfl) w' (rangeAt_below hrq hb hlt1)),
        owes_eql 8 (some 15) [4, 6, 7] 31 (Go.Operand.tmp 13) (Go.Operand.tmp 14) 31 ((d.map cellB).toArray) ((q.map cellB).toArray) false (fun v => by kernel_rfl) (fun v => by kernel_rfl) (by kernel_rfl) (fun w => eq_key w d q hd hq false hdq),
        owes_pick 9 (some 16) [4, 8] (.bool false) (Go.Operand.tmp 11) (Go.Operand.tmp 15) (Go.Operand.const (Go.Value.bool false)) true (fun v => by kernel_rfl) (fun v => by kernel_rfl) (fun v => by kernel_rfl),
        owes_assign 10 (some 6) [9] (.bool false) (Go.Operand.tmp 16) (fun v => by kernel_rfl) (fun v => by kernel_rfl), trivial⟩ ?_
      intro v w1 hb1 hall
      clear hall
      simp only [putsL_k, putsL_nil, List.set_cons_zero, List.set_cons_succ]
      go_wp2_with fail
      go_ret
      refine ⟨rfl, ?_⟩
      rw [HS.out]
      exact HB.out.trans (hb1.mono (Nat.le_of_lt hlt))
  · have hne := hnm
    refine wp_region_text [Sp.k 0 (some 7) [] (.pointer (some ⟨B, 64, none⟩)),
      Sp.k 1 (some 8) [0] (.int .u32 n),
      Sp.k 2 (some 9) [] (.int .u32 m),
      Sp.k 3 (some 10) [1, 2] (.bool false),
      Sp.k 4 (some 11) [3] (.bool false),
      Sp.k 5 (some 12) [4] (undef),
      Sp.k 6 (some 13) [4, 5] (undef),
      Sp.k 7 (some 14) [4] (undef),
      Sp.k 8 (some 15) [4, 6, 7] (undef),
      Sp.k 9 (some 16) [4, 8] (Go.Value.bool false),
      Sp.k 10 (some 6) [9] (Go.Value.bool false)] (by kernel_rfl)
      ⟨owes_field 0 (some 7) [] (.pointer (some ⟨B, 64, none⟩)) 46 (Go.Operand.tmp 3) 2 (.pointer (some ⟨B, 0, none⟩)) (fun v => by kernel_rfl) (fun v => by kernel_rfl) (fun w => by kernel_rfl),
      owes_load 1 (some 8) [0] (.int .u32 n) 36 (Go.Operand.tmp 7) (.pointer (some ⟨B, 64, none⟩)) (fun v => by kernel_rfl) (fun v => by kernel_rfl) (fun w' hb => ld_u32 _ _ _ w' ((hb.cell (p := ⟨B, 64, none⟩) hlt).trans hn)),
      owes_move 2 (some 9) [] (.int .u32 m) (Go.Operand.tmp 2) (fun v => by kernel_rfl) (fun v => by kernel_rfl),
      owes_bin 3 (some 10) [1, 2] (.bool false) Go.BinOp.eql 36 (Go.Operand.tmp 8) (Go.Operand.tmp 9) 36 (.int .u32 n) (.int .u32 m) (fun v => by kernel_rfl) (fun v => by kernel_rfl) (ne_u32 _ _ _ hne),
      owes_move 4 (some 11) [3] (.bool false) (Go.Operand.tmp 10) (fun v => by kernel_rfl) (fun v => by kernel_rfl),
      owes_skip 5 (some 12) [4] (fun v => by kernel_rfl),
      owes_skip 6 (some 13) [4, 5] (fun v => by kernel_rfl),
      owes_skip 7 (some 14) [4] (fun v => by kernel_rfl),
      owes_skip 8 (some 15) [4, 6, 7] (fun v => by kernel_rfl),
      owes_pick 9 (some 16) [4, 8] (Go.Value.bool false) (Go.Operand.tmp 11) (Go.Operand.tmp 15) (Go.Operand.const (Go.Value.bool false)) false (fun v => by kernel_rfl) (fun v => by kernel_rfl) (fun v => by kernel_rfl),
      owes_assign 10 (some 6) [9] (Go.Value.bool false) (Go.Operand.tmp 16) (fun v => by kernel_rfl) (fun v => by kernel_rfl), trivial⟩ ?_
    intro v w1 hb1 hall
    clear hall
    simp only [putsL_k, putsL_nil, List.set_cons_zero, List.set_cons_succ]
    go_wp2_with fail
    go_ret
    refine ⟨by simp [hne], ?_⟩
    rw [HS.out]
    exact HB.out.trans (hb1.mono (Nat.le_of_lt hlt))
end Go.Proofs.Ytklooieghlnblaa
