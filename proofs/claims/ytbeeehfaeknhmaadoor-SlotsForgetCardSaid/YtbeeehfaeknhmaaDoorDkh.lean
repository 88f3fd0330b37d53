import Derived.Test.YtbeeehfaeknhmaaDoorDkg
/-
  disk: Write.
-/
namespace Go.Proofs.YtbeeehfaeknhmaaDoor
open Go.RowKit

theorem field_D0 (D : Nat) (w : World) : (Instr.fieldAt 72 (.pointer (some ⟨D, 0, none⟩)) 0).run Tryd.prog w = .ok (.pointer (some ⟨D, 0, none⟩)) w := by go_simp
theorem field_S1 (R o : Nat) (w : World) : (Instr.fieldAt 93 (.pointer (some ⟨R, o, none⟩)) 1).run Tryd.prog w = .ok (.pointer (some ⟨R, o + 128, none⟩)) w := by go_simp
theorem own_shape0C {w : World} {base n : Nat} {v : Value} {xs : List Value} (h : w.ownsRow base 90 128 v n xs) : ∃ A n c, v = .slice A n c := by
  obtain ⟨A, c, e⟩ := own_shapeC h
  exact ⟨A, n, c, e⟩
theorem alc_newC (W : World) (B : List UInt8) : ∀ j u, (bcells B)[j]? = some u → (W.drew.alloc (.cells (bcells B).toArray 90)).cell? ((⟨W.heap.size, 0, none⟩ : Addr).add j) = some u := by
  intro j u hu
  rw [Addr.add_lit]
  exact range_new (heap1_0 W.drew _) j u hu
theorem WrS.grown {D R o len gb ob : Nat} {v : Value} {B : List UInt8} {w w' : World} {row : Option Nat} (h : WrS D R o len gb ob v B w) (hg : w.grownBy w' row) (h1 : some D ≠ row) (h2 : some R ≠ row) (h3 : some gb ≠ row) (hB : B.length = 128) : WrS D R o len gb ob v B w' :=
  ⟨(World.cell?_of_block (hg.block D (cell_lt h.1) h1)).trans h.1, (World.cell?_of_block (hg.block R (cell_lt h.2.1) h2)).trans h.2.1, fun j u hu => (World.cell?_of_block (hg.block gb (range_lt h.2.2 (by rw [bcells_len]; omega)) h3)).trans (h.2.2 j u hu)⟩
section
variable {w : World} {n D R : Nat} {ss : List Sec} {off : Bool} {fuse : Int} {pv : Nat → Value}
set_option maxRecDepth 100000 in
set_option maxHeartbeats 800000 in
theorem write_off (E : Nat → Addr) (hE : ErrD E w) (h : DkS w n D R ss true fuse pv) (i : Int) (v : Value) : Calls Tryd.prog 32 #[.pointer (some ⟨D, 0, none⟩), .int .i64 i, v] w fun e w' => e = .returned (errV (E 0)) ∧ Below w.heap.size w w' := by
  have hc := h.offc
  have he : w.cell? ⟨2, 0, none⟩ = some (errV (E 0)) := hE.c 0 (by decide)
  have hb := Below.refl w.heap.size w
  clear h hE
  go_enter Tryd.func32, Tryd.ntmps32
  go_wp2_with fail
  go_ret
  exact ⟨rfl, hb⟩
set_option maxRecDepth 100000 in
set_option maxHeartbeats 800000 in
theorem write_out (E : Nat → Addr) (hE : ErrD E w) (h : DkS w n D R ss false fuse pv) (i : Int) (A : Option Addr) (m c : Nat) (hi : (decide (0 ≤ i) && decide (i < (ss.length : Int))) = false ∨ m ≠ 128) : Calls Tryd.prog 32 #[.pointer (some ⟨D, 0, none⟩), .int .i64 i, .slice A m c] w fun e w' => e = .returned (errV (E 1)) ∧ Below w.heap.size w w' := by
  have hc := h.offc
  have hh := has_any h i
  have hE' := Lib.hid hE
  cases hq : (decide (0 ≤ i) && decide (i < (ss.length : Int))) with
  | false =>
    rw [hq] at hh
    clear h hi hE hq
    go_enter Tryd.func32, Tryd.ntmps32
    go_wp2_with (go_at_call 54; refine hh.mono ?_; rintro e w1 ⟨rfl, hb⟩; have he : w1.cell? ⟨3, 0, none⟩ = some (errV (E 1)) := (hE'.out.below hb).c 1 (by decide))
    go_ret
    exact ⟨rfl, hb⟩
  | true =>
    rw [hq] at hh hi
    have hm : ¬ m = 128 := hi.resolve_left (by simp)
    have hm2 : ((m : Int) == 128) = false := by simp; omega
    clear h hi hE hq
    go_enter Tryd.func32, Tryd.ntmps32
    go_wp2_with (go_at_call 54; refine hh.mono ?_; rintro e w1 ⟨rfl, hb⟩; have he : w1.cell? ⟨3, 0, none⟩ = some (errV (E 1)) := (hE'.out.below hb).c 1 (by decide))
    go_ret
    exact ⟨rfl, hb⟩
def Sec.add (s : Sec) (B : List UInt8) (hB : B.length = 128) : Sec := ⟨s.dur, s.pend ++ [B], s.hd, by intro p hp; rcases List.mem_append.1 hp with h1 | h1; exact s.hp p h1; rw [List.mem_singleton.1 h1]; exact hB⟩
/-- the sectors' rows are the old ones, or new -/
def Fresh (w : World) (pv pv' : Nat → Value) : Prop := ∀ j q, (pv' j).ownBlock = some q → (pv j).ownBlock = some q ∨ w.heap.size ≤ q
def WrPost (E : Nat → Addr) (w w0 : World) (D R : Nat) (ss : List Sec) (fuse : Int) (pv : Nat → Value) (ss' : List Sec) (e : Ending) (w' : World) : Prop :=
  e = .returned (drawV E fuse) ∧ ∃ pv', DkS w' w0.heap.size D R ss' (drawO false fuse) (drawF fuse) pv' ∧ Turn (DFoot D R ss pv) w w' ∧ Fresh w pv pv'
set_option maxRecDepth 100000 in
set_option maxHeartbeats 1600000 in
theorem write_in (E : Nat → Addr) (w0 : World) (hE : ErrD E w0) (hb : Below w0.heap.size w0 w) (h : DkS w w0.heap.size D R ss false fuse pv) (i : Nat) (s : Sec) (hs : ss[i]? = some s) (B : List UInt8) (hB : B.length = 128) (gb ob cb : Nat)
    (hr : w.rangeAt gb ob (bcells B)) (hgb : (pv i).ownBlock ≠ some gb) (hn : s.pend.length ≤ 2000) :
    Calls Tryd.prog 32 #[.pointer (some ⟨D, 0, none⟩), .int .i64 (i : Int), .slice (some ⟨gb, ob, none⟩) 128 cb] w (WrPost E w w0 D R ss fuse pv (ss.set i (s.add B hB))) := by
  have hc := h.offc
  have hi := (List.getElem?_eq_some_iff.1 hs).1
  have hh := has_any h (i : Int)
  rw [decide_eq_true (by omega), decide_eq_true (by omega), Bool.and_self] at hh
  have hx := idx_S R ss.length ss.length i hi
  have H := Lib.hid h
  have HI := Lib.hid hi
  have HR := Lib.hid hr
  have HB0 := Lib.hid hb
  have HN := Lib.hid hn
  have h1 := agg_secs
  have h2 := one_pend
  clear h hi hr hb hn
  go_enter Tryd.func32, Tryd.ntmps32
  go_upto_region 5 with (go_at_call 54; refine hh.mono ?_; rintro e w1 ⟨rfl, hb1⟩; have HB1 := Lib.hid hb1; clear hb1)
  have hi := HI.out
  have hn := HN.out
  have hd1 := H.out.below HB1.out
  have hb1 : Below w0.heap.size w0 w1 := HB0.out.trans (HB1.out.mono HB0.out.size)
  have h16 : DkS (w1.drew.alloc (.cells (bcells B).toArray 90)) w0.heap.size D R ss false fuse pv := (hd1.same (w' := w1.drew) (fun _ _ => rfl)).below (below_alc _ _)
  have hbd : Below w.heap.size w w1.drew := ⟨HB1.out.os, HB1.out.tape, HB1.out.output, HB1.out.size, HB1.out.block⟩
  have hS : WrS D R (i * 129 + 128) ss.length gb ob (pv i) B w1.drew := ⟨hd1.hdr, hd1.pnd i s hs, range_b HR.out hbd (range_lt HR.out (by rw [bcells_len]; omega))⟩
  have rD : some D ≠ (pv i).ownBlock := fun e => (hd1.sep i hi D e.symm).1 rfl
  have rR : some R ≠ (pv i).ownBlock := fun e => (hd1.sep i hi R e.symm).2.1 rfl
  have rb : some gb ≠ (pv i).ownBlock := fun e => hgb e.symm
  refine wp_region_held_cut (S := WrS D R (i * 129 + 128) ss.length gb ob (pv i) B) 18 (by kernel_rfl) (by kernel_rfl) (hS) (fun hHeld => ?_)
  refine held_move 0 (Go.Operand.tmp 0) (some 22) (.pointer (some ⟨D, 0, none⟩)) (by kernel_rfl) (by kernel_rfl) (by kernel_rfl) (by kernel_rfl) (by kernel_rfl) (fun _ _ _ _ _ h => h) hHeld ?_
  refine held_nil 1 (Go.Operand.tmp 22) (some 23) ⟨D, 0, none⟩ (by kernel_rfl) (by kernel_rfl) (by kernel_rfl) (by kernel_rfl) (by kernel_rfl) (fun _ _ _ _ _ h => h) hHeld ?_
  refine held_field 2 72 (Go.Operand.tmp 23) 0 (some 24) (.pointer (some ⟨D, 0, none⟩)) (.pointer (some ⟨D, 0, none⟩)) (by kernel_rfl) (by kernel_rfl) (field_D0 D) (by kernel_rfl) (by kernel_rfl) (by kernel_rfl) (fun _ _ _ _ _ h => h) hHeld ?_
  refine held_cell 3 70 (Go.Operand.tmp 24) (some 25) (.pointer (some ⟨D, 0, none⟩)) (.slice (some ⟨R, 0, none⟩) ss.length ss.length) (by kernel_rfl) (by kernel_rfl) (fun w h => load_slice D 0 w 70 agg_secs _ h.1) (by kernel_rfl) (by kernel_rfl) (by kernel_rfl) (fun _ _ _ _ _ h => h) hHeld ?_
  refine held_move 4 (Go.Operand.tmp 1) (some 26) (.int .i64 (i : Int)) (by kernel_rfl) (by kernel_rfl) (by kernel_rfl) (by kernel_rfl) (by kernel_rfl) (fun _ _ _ _ _ h => h) hHeld ?_
  refine held_move 5 (Go.Operand.tmp 0) (some 27) (.pointer (some ⟨D, 0, none⟩)) (by kernel_rfl) (by kernel_rfl) (by kernel_rfl) (by kernel_rfl) (by kernel_rfl) (fun _ _ _ _ _ h => h) hHeld ?_
  refine held_nil 6 (Go.Operand.tmp 27) (some 28) ⟨D, 0, none⟩ (by kernel_rfl) (by kernel_rfl) (by kernel_rfl) (by kernel_rfl) (by kernel_rfl) (fun _ _ _ _ _ h => h) hHeld ?_
  refine held_field 7 72 (Go.Operand.tmp 28) 0 (some 29) (.pointer (some ⟨D, 0, none⟩)) (.pointer (some ⟨D, 0, none⟩)) (by kernel_rfl) (by kernel_rfl) (field_D0 D) (by kernel_rfl) (by kernel_rfl) (by kernel_rfl) (fun _ _ _ _ _ h => h) hHeld ?_
  refine held_cell 8 70 (Go.Operand.tmp 29) (some 30) (.pointer (some ⟨D, 0, none⟩)) (.slice (some ⟨R, 0, none⟩) ss.length ss.length) (by kernel_rfl) (by kernel_rfl) (fun w h => load_slice D 0 w 70 agg_secs _ h.1) (by kernel_rfl) (by kernel_rfl) (by kernel_rfl) (fun _ _ _ _ _ h => h) hHeld ?_
  refine held_move 9 (Go.Operand.tmp 1) (some 31) (.int .i64 (i : Int)) (by kernel_rfl) (by kernel_rfl) (by kernel_rfl) (by kernel_rfl) (by kernel_rfl) (fun _ _ _ _ _ h => h) hHeld ?_
  refine held_index 10 70 (Go.Operand.tmp 30) (Go.Operand.tmp 31) (some 32) (.slice (some ⟨R, 0, none⟩) ss.length ss.length) (.int .i64 (i : Int)) (.pointer (some ⟨R, i * 129, none⟩)) (by kernel_rfl) (by kernel_rfl) (idx_S R ss.length ss.length i hi) (by kernel_rfl) (by kernel_rfl) (by kernel_rfl) (fun _ _ _ _ _ h => h) hHeld ?_
  refine held_field 11 93 (Go.Operand.tmp 32) 1 (some 33) (.pointer (some ⟨R, i * 129, none⟩)) (.pointer (some ⟨R, i * 129 + 128, none⟩)) (by kernel_rfl) (by kernel_rfl) (field_S1 R (i * 129)) (by kernel_rfl) (by kernel_rfl) (by kernel_rfl) (fun _ _ _ _ _ h => h) hHeld ?_
  refine held_cell 12 91 (Go.Operand.tmp 33) (some 34) (.pointer (some ⟨R, i * 129 + 128, none⟩)) (pv i) (by kernel_rfl) (by kernel_rfl) (fun w h => load_slice R (i * 129 + 128) w 91 agg_pend _ h.2.1) (by kernel_rfl) (by kernel_rfl) (by kernel_rfl) (fun _ _ _ _ _ h => h) hHeld ?_
  refine held_move 13 (Go.Operand.tmp 2) (some 35) (.slice (some ⟨gb, ob, none⟩) 128 cb) (by kernel_rfl) (by kernel_rfl) (by kernel_rfl) (by kernel_rfl) (by kernel_rfl) (fun _ _ _ _ _ h => h) hHeld ?_
  refine held_any 14 (Go.Op.sliceToArrayPointer 90 (Go.Operand.tmp 35)) (some 36) (.pointer (some ⟨gb, ob, none⟩)) (by kernel_rfl) (by kernel_rfl) (by kernel_rfl) (by kernel_rfl) (fun _ _ _ _ _ h => h) hHeld (fun o ho w h => exec_arr (vx := .slice (some ⟨gb, ob, none⟩) 128 cb) ho (by kernel_rfl) (arr_C gb ob cb w)) ?_
  refine held_load 15 90 (Go.Operand.tmp 36) (some 37) (gb) (ob) (bcells B) _ (by kernel_rfl) (by kernel_rfl) (fun w h => h.2.2) Tryd.underlying90 rfl (by rw [bcells_len, hB]; exact info_C) (by kernel_rfl) (by kernel_rfl) (by kernel_rfl) (fun _ _ _ _ _ h => h) hHeld ?_
  refine held_run 16 (Go.Op.buildSlice 91 1 #[(0, Go.Operand.tmp 37)]) 91 (some 38) (.slice (some ⟨w1.heap.size, 0, none⟩) 1 1) ((w1.drew.alloc (.cells (bcells B).toArray 90))) (by kernel_rfl) (by kernel_rfl) (by kernel_rfl) (fun o ho ht => exec_bsl (vs := #[(0, .agg (bcells B).toArray)]) ho (by kernel_rfl) (bsl_C B hB _)) (WrS.alc hHeld hB _) ?_
  intro hHeld
  obtain ⟨v3, w3, hr3, ho3, hg3, hk3⟩ := run_app_C 91 (w1.drew.alloc (.cells (bcells B).toArray 90)) w0.heap.size (pv i) s.pend s.pend.length rfl (h16.own i s hs) B hB ⟨w1.heap.size, 0, none⟩ 1 (alc_newC w1 B) hn (Nat.le_trans hb1.size (by simp))
  refine held_run 17 (Go.Op.call { callee := Go.Callee.builtin Go.Builtin.append, args := #[Go.Operand.tmp 34, Go.Operand.tmp 38], argTypes := #[91, 91] }) 91 (some 39) (v3) (w3) (by kernel_rfl) (by kernel_rfl) (by kernel_rfl) (fun o ho ht => exec_append ho ht (vs := pv i) (vx := .slice (some ⟨w1.heap.size, 0, none⟩) 1 1) (by kernel_rfl) (hr3)) (hHeld.grown hg3 rD rR rb hB) ?_
  intro hHeld
  refine wpAnyH_done (by kernel_rfl) ?_ _
  show wpList _ _ _ _ _ _
  simp only [Act.put, List.setIfInBounds_toArray, List.set_cons_zero, List.set_cons_succ, List.drop_succ_cons, List.drop_zero]
  obtain ⟨A3, n3, c3, rfl⟩ := own_shape0C ho3
  have hcB := hHeld.2.1
  have hfB : w3.frozen? ⟨R, i * 129 + 128, none⟩ = false := (World.frozen?_of_block (hg3.block R h16.ltR rR)).trans (h16.frz _).2
  have HW := Lib.hid (h16.wrote i s hs B hB hg3 ho3 hk3)
  have HK := Lib.hid hk3
  have hT1 : Turn (DFoot D R ss pv) w (w3.setCell ⟨R, i * 129 + 128, none⟩ (.slice A3 n3 c3)) := by
    have a1 : Turn (DFoot D R ss pv) w (w1.drew.alloc (.cells (bcells B).toArray 90)) := Turn.of_below ((HB1.out.trans (Below.drewNr (w := w1) 1)).trans ((below_alc w1.drew _).mono HB1.out.size))
    exact a1.trans HW.out.2 (fun q hq => .inl (hq.elim (fun e => .inr (.inl e)) (fun e => .inr (.inr ⟨i, hi, e⟩))))
  have HT1 := Lib.hid hT1
  have hE4 : ErrD E (w3.setCell ⟨R, i * 129 + 128, none⟩ (.slice A3 n3 c3)) := hE.below (hT1.below HB0.out HB0.out.size (fun q hq => H.out.lowF hq))
  have hdr := draw_any E hE4 HW.out.1
  clear hHeld hr3 ho3 hg3 hk3 hT1 hE4 hd1 hb1 h16 hS rD rR rb hn hi hgb
  go_wp2_with (go_at_call 55; refine hdr.mono ?_; rintro e w5 ⟨rfl, hd5, ht5⟩; have HD5 := Lib.hid hd5; have HT5 := Lib.hid ht5; clear hd5 ht5)
  go_ret
  refine ⟨rfl, _, HD5.out, HT1.out.trans HT5.out (fun q hq => .inl (.inl hq)), fun j q hq => ?_⟩
  unfold pvSet at hq
  split at hq
  · rename_i e
    subst e
    exact (HK.out q hq).imp id (fun h => by have h' : w1.heap.size ≤ q := by { have h' := h; simp at h'; omega }; have := HB1.out.size; omega)
  · exact .inl hq
end
end Go.Proofs.YtbeeehfaeknhmaaDoor
