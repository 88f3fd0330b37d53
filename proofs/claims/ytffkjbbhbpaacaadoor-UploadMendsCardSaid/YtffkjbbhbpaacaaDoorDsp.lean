import Derived.Test.YtffkjbbhbpaacaaDoorDsd
/-
  The document's store: Delete; what is told.
  The document's store: Spoil.
-/
namespace Go.Proofs.YtffkjbbhbpaacaaDoor
open Go.RowKit

theorem dcel_take (es : List Ds) (k : Nat) : dcel (es.take k) = (dcel es).take (36 * k) := by
  by_cases h : k ≤ es.length
  · have e : dcel es = dcel (es.take k) ++ dcel (es.drop k) := by rw [← dcel_app, List.take_append_drop]
    rw [e, List.take_left' (by rw [dcel_len, List.length_take]; omega)]
  · rw [List.take_of_length_le (by omega), List.take_of_length_le (by rw [dcel_len]; omega)]
theorem dcel_drop (es : List Ds) (k : Nat) : dcel (es.drop k) = (dcel es).drop (36 * k) := by
  by_cases h : k ≤ es.length
  · have e : dcel es = dcel (es.take k) ++ dcel (es.drop k) := by rw [← dcel_app, List.take_append_drop]
    rw [e, List.drop_left' (by rw [dcel_len, List.length_take]; omega)]
  · rw [List.drop_of_length_le (by omega), List.drop_of_length_le (by rw [dcel_len]; omega)]
    rfl
def frD (g c k : Nat) : Addr := if c = k then ⟨g, 0, none⟩ else ⟨g, 36 * k, none⟩
theorem slD_to (g n c k : Nat) (hk : k ≤ c) (w : World) : (Instr.sliceAt 88 (.slice (some ⟨g, 0, none⟩) n c) none (some (.int .i64 (k : Int))) none).run Tryd.prog w = .ok (.slice (some ⟨g, 0, none⟩) k c) w := by
  have hu := Tryd.underlying88
  have e2 : Tryd.prog.elem 88 = 92 := by simp [Program.elem, hu]
  rw [run_sliceAt_slice w _ _ _ _ _ (by rw [e2]; exact hu), run_slice_h w _ _ _ _ (by rw [e2]; exact hu) _ _ (by omega) (by omega)]
  simp only [e2, size_D, Result.andThen, sliced, Int.toNat_natCast, Nat.sub_zero]
  by_cases h0 : c = 0
  · simp [h0]
  · simp [h0, Addr.add_lit]
theorem slD_from (g n c k : Nat) (hk : k ≤ n) (w : World) : (Instr.sliceAt 88 (.slice (some ⟨g, 0, none⟩) n c) (some (.int .i64 (k : Int))) none none).run Tryd.prog w = .ok (.slice (some (frD g c k)) (n - k) (c - k)) w := by
  have hu := Tryd.underlying88
  have e2 : Tryd.prog.elem 88 = 92 := by simp [Program.elem, hu]
  rw [run_sliceAt_slice w _ _ _ _ _ (by rw [e2]; exact hu), run_slice_l w _ _ _ _ (by rw [e2]; exact hu) _ _ (by omega) (by omega)]
  simp only [e2, size_D, Result.andThen, sliced, Int.toNat_natCast, frD]
  by_cases h0 : c = k
  · simp [h0]
  · simp [h0, Addr.add_lit, Nat.mul_comm]
theorem dsl_made (w : World) : (Instr.buildSlice 88 0 #[]).run Tryd.prog w = .ok (.slice (some ⟨w.heap.size, 0, none⟩) 0 0) (w.alloc (.cells #[] 92)) := by kernel_rfl
theorem store_dslD (b o : Nat) (v : Value) (w : World) {u : Value} (h : w.cell? ⟨b, o, none⟩ = some u) (hf : w.frozen? ⟨b, o, none⟩ = false) {A : Option Addr} {n c : Nat} (hv : v = .slice A n c := by rfl) : (Instr.storeAt 88 (.pointer (some ⟨b, o, none⟩)) v).run Tryd.prog w = .ok () (w.setCell ⟨b, o, none⟩ v) := by
  subst hv
  have h2 := Tryd.underlying88
  go_simp
section
variable {w : World} {S B : Nat} {q l : Int} {V : Value} {es : List Ds}
theorem DsS.sliceD (h : DsS w S B q l V es) {e : Ds} (he : e ∈ es) : ∃ A l c, e.D = .slice A l c := by
  obtain ⟨A, c, hD, _⟩ := own_slice (h.byt e he)
  exact ⟨A, _, c, hD⟩
set_option maxRecDepth 100000 in
set_option maxHeartbeats 1600000 in
theorem dput_none (h : DsS w S B q l V es) (hn : es.length ≤ 1000) (k : Nat → BitVec 8) (hf : es.findIdx? (Ds.is k) = none) (off : Int) (A : Option Addr) (m cb : Nat) :
    Calls Tryd.prog 22 #[.pointer (some ⟨S, 0, none⟩), .agg (arr8 32 k), .int .i64 off, .slice A m cb] w fun r w' => r = .returned (.tuple #[.int .i64 0, .int .i64 114]) ∧ DsS w' S B q l V es ∧ Turn (dsG S V) w w' := by
  have HP := Lib.hid (dplace_none (h.below (below_alc w (.cells (arr8 32 k) 37))) hn k hf)
  clear h hf
  go_enter Tryd.func22, Tryd.ntmps22
  go_wp2_with (first | (refine wpList_load_row rfl 37 _ rfl w.heap.size rfl _ _ _ _ (heap_alloc_new _ _) Tryd.underlying37 rfl (by rw [arr8_size]; kernel_rfl) ?_) | (go_at_call 41; refine HP.out.mono ?_; rintro r w1 ⟨rfl, hs1, ht1⟩; have HS := Lib.hid (And.intro hs1 ht1); clear hs1 ht1))
  go_ret2
  exact ⟨rfl, HS.out.1, turn_box HS.out.2⟩
set_option maxRecDepth 100000 in
set_option maxHeartbeats 1600000 in
theorem dcommit_none (h : DsS w S B q l V es) (hn : es.length ≤ 1000) (k : Nat → BitVec 8) (hf : es.findIdx? (Ds.is k) = none) :
    Calls Tryd.prog 23 #[.pointer (some ⟨S, 0, none⟩), .agg (arr8 32 k)] w fun r w' => r = .returned (.int .i64 114) ∧ DsS w' S B q l V es ∧ Turn (dsG S V) w w' := by
  have HP := Lib.hid (dplace_none (h.below (below_alc w (.cells (arr8 32 k) 37))) hn k hf)
  clear h hf
  go_enter Tryd.func23, Tryd.ntmps23
  go_wp2_with (first | (refine wpList_load_row rfl 37 _ rfl w.heap.size rfl _ _ _ _ (heap_alloc_new _ _) Tryd.underlying37 rfl (by rw [arr8_size]; kernel_rfl) ?_) | (go_at_call 41; refine HP.out.mono ?_; rintro r w1 ⟨rfl, hs1, ht1⟩; have HS := Lib.hid (And.intro hs1 ht1); clear hs1 ht1))
  go_ret
  exact ⟨rfl, HS.out.1, turn_box HS.out.2⟩
set_option maxRecDepth 100000 in
set_option maxHeartbeats 1600000 in
theorem ddelete_none (h : DsS w S B q l V es) (hn : es.length ≤ 1000) (k : Nat → BitVec 8) (hf : es.findIdx? (Ds.is k) = none) :
    Calls Tryd.prog 19 #[.pointer (some ⟨S, 0, none⟩), .agg (arr8 32 k)] w fun r w' => r = .returned (.int .i64 114) ∧ DsS w' S B q l V es ∧ Turn (dsG S V) w w' := by
  have HP := Lib.hid (dplace_none (h.below (below_alc w (.cells (arr8 32 k) 37))) hn k hf)
  clear h hf
  go_enter Tryd.func19, Tryd.ntmps19
  go_wp2_with (first | (refine wpList_load_row rfl 37 _ rfl w.heap.size rfl _ _ _ _ (heap_alloc_new _ _) Tryd.underlying37 rfl (by rw [arr8_size]; kernel_rfl) ?_) | (go_at_call 41; refine HP.out.mono ?_; rintro r w1 ⟨rfl, hs1, ht1⟩; have HS := Lib.hid (And.intro hs1 ht1); clear hs1 ht1))
  go_ret
  exact ⟨rfl, HS.out.1, turn_box HS.out.2⟩
set_option maxRecDepth 100000 in
set_option maxHeartbeats 1600000 in
theorem dcommit_digest (h : DsS w S B q l V es) (hn : es.length ≤ 1000) (k : Nat → BitVec 8) {i : Nat} {e : Ds} (hf : es.findIdx? (Ds.is k) = some i) (he : es[i]? = some e) (hd : e.done = false) (zs : List (BitVec 8)) (hys : e.bs = bys zs) (hbn : (e.bs.length : Int) = e.n) (hl : e.bs.length ≤ 100000) (hid : (idk (shaOf zs) == idk k) = false) :
    Calls Tryd.prog 23 #[.pointer (some ⟨S, 0, none⟩), .agg (arr8 32 k)] w fun r w' => r = .returned (.int .i64 116) ∧ DsS w' S B q l V (es.set i e.used) ∧ Turn (dsG S V) w w' := by
  have hb0 := below_alc w (.cells (arr8 32 k) 37)
  have HP := Lib.hid (dplace_some (h.below hb0) hn k hf he)
  have hlt : i < es.length := (List.getElem?_eq_some_iff.1 he).1
  obtain ⟨g, c, rfl⟩ := h.form (by omega)
  obtain ⟨A, cA, hD, _⟩ := own_slice (h.byt e (List.mem_of_getElem? he))
  have he2 : (es.set i e.used)[i]? = some e.used := by rw [List.getElem?_set_self hlt]
  have HF : Hid (∀ W, DsS W S B q l (.slice (some ⟨g, 0, none⟩) es.length c) (es.set i e.used) → W.cell? ⟨S, 2, none⟩ = some (.slice (some ⟨g, 0, none⟩) es.length c) ∧ W.cell? ⟨g, 36 * i + 32, none⟩ = some (.int .i64 e.n) ∧ W.cell? ⟨g, 36 * i + 33, none⟩ = some (.slice A e.bs.length cA) ∧ W.cell? ⟨g, 36 * i + 34, none⟩ = some (.bool e.done) ∧ W.frozen? ⟨g, 36 * i + 34, none⟩ = false) := Lib.hid fun W hW => by
    have h2 := hW
    rw [show es.length = (es.set i e.used).length by simp] at h2
    exact ⟨hW.cell2, h2.row he2 (by decide) (ce_32 e.used), by rw [← hD]; exact h2.row he2 (by decide) (ce_33 e.used), h2.row he2 (by decide) (ce_34 e.used), h2.own.frozenAt _⟩
  have HB : Hid (∀ W, DsS W S B q l (.slice (some ⟨g, 0, none⟩) es.length c) (es.set i e.used) → SlRead W A (ints .u8 (bys zs)) ∧ W.ownsRow B 5 1 e.D e.bs.length (ints .u8 e.bs)) := Lib.hid fun W hW => by
    have h2 := hW.byt e.used (List.mem_of_getElem? he2)
    refine ⟨?_, h2⟩
    have h3 : W.ownsRow B 5 1 e.D e.bs.length (ints .u8 e.bs) := h2
    rw [hD, hys] at h3
    exact own_read h3
  have hxb : (w.alloc (.cells (arr8 32 k) 37)).heap[w.heap.size]? = some (.cells (arr8 32 k) 37 (0, 0)) := heap1_0 w _
  have HX : Hid (∀ W1, Turn (fun x => (Value.slice (some ⟨g, 0, none⟩) es.length c).ownBlock = some x) (w.alloc (.cells (arr8 32 k) 37)) W1 → W1.heap[w.heap.size]? = some (.cells (arr8 32 k) 37 (0, 0))) := Lib.hid fun W1 hT => (hT.block _ (lt_heapD hxb) (fun y => ownD_ne ((h.below hb0).own) hxb (by decide) y.symm)).trans hxb
  have hzl : zs.length = e.bs.length := by rw [hys, bys_length]
  obtain ⟨len, hlen⟩ : ∃ x, x = es.length := ⟨_, rfl⟩
  obtain ⟨L, hL⟩ : ∃ x, x = e.bs.length := ⟨_, rfl⟩
  rw [← hlen] at hlt HF HP HB HX ⊢
  rw [← hbn, hd, ← hL] at HF
  rw [← hL] at hzl hl
  have HH := Lib.hid (And.intro he2 hlen)
  have hneg : ¬ (i : Int) < 0 := by omega
  clear h hf he he2 hD hlen hb0 hd hbn hys hxb hL
  go_enter Tryd.func23, Tryd.ntmps23
  go_upto_region 4 with (first | (refine wpList_load_row rfl 37 _ rfl w.heap.size rfl _ _ _ _ (heap_alloc_new _ _) Tryd.underlying37 rfl (by rw [arr8_size]; kernel_rfl) ?_) | (go_at_call 41; refine HP.out.mono ?_; rintro r w1 ⟨rfl, hs1, ht1⟩; have HS := Lib.hid (And.intro hs1 ht1); clear hs1 ht1))
  obtain ⟨hc2, hc32, hc33, hc34, _⟩ := HF.out w1 HS.out.1
  obtain ⟨dn, hdn⟩ : ∃ x, x = false := ⟨_, rfl⟩
  rw [← hdn] at hc34
  refine wp_region_lit ?_
  try simp only [put_list, List.set_cons_zero, List.set_cons_succ]
  refine wpList_run (by kernel_rfl) (.pointer (some ⟨S, 0, none⟩)) (w1) (exec_move rfl (by kernel_rfl)) ?_
  try simp only [put_list, List.set_cons_zero, List.set_cons_succ]
  refine wpList_run (by kernel_rfl) (.pointer (some ⟨S, 0, none⟩)) (w1) (exec_nil rfl (by kernel_rfl)) ?_
  try simp only [put_list, List.set_cons_zero, List.set_cons_succ]
  refine wpList_run (by kernel_rfl) (.pointer (some ⟨S, 2, none⟩)) (w1) (exec_field (vx := .pointer (some ⟨S, 0, none⟩)) rfl (by kernel_rfl) (by kernel_rfl)) ?_
  try simp only [put_list, List.set_cons_zero, List.set_cons_succ]
  refine wpList_run (by kernel_rfl) (.slice (some ⟨g, 0, none⟩) len c) (w1) (exec_load (vx := .pointer (some ⟨S, 2, none⟩)) rfl (by kernel_rfl) (load_dsl _ _ w1 hc2)) ?_
  try simp only [put_list, List.set_cons_zero, List.set_cons_succ]
  refine wpList_run (by kernel_rfl) (.int .i64 (i : Int)) (w1) (exec_move rfl (by kernel_rfl)) ?_
  try simp only [put_list, List.set_cons_zero, List.set_cons_succ]
  refine wpList_run (by kernel_rfl) (.pointer (some ⟨g, 36 * i, none⟩)) (w1) (exec_index (vx := .slice (some ⟨g, 0, none⟩) len c) (vy := .int .i64 (i : Int)) rfl (by kernel_rfl) (idx_D g len c i hlt w1)) ?_
  try simp only [put_list, List.set_cons_zero, List.set_cons_succ]
  refine wpList_run (by kernel_rfl) (.pointer (some ⟨g, 36 * i + 34, none⟩)) (w1) (exec_field (vx := .pointer (some ⟨g, 36 * i, none⟩)) rfl (by kernel_rfl) (field_D3 g _ w1)) ?_
  try simp only [put_list, List.set_cons_zero, List.set_cons_succ]
  refine wpList_run (by kernel_rfl) (.bool dn) (w1) (exec_load (vx := .pointer (some ⟨g, 36 * i + 34, none⟩)) rfl (by kernel_rfl) (load_bool g _ w1 _ hc34)) ?_
  try simp only [put_list, List.set_cons_zero, List.set_cons_succ]
  refine wpList_run (by kernel_rfl) (.bool dn) (w1) (exec_assign rfl (by kernel_rfl)) ?_
  refine wpList_nil ?_
  simp only [put_list, List.set_cons_zero, List.set_cons_succ]
  rw [hdn]
  replace hc2 : w1.drew.cell? ⟨S, 2, none⟩ = some (.slice (some ⟨g, 0, none⟩) len c) := hc2
  replace hc32 : w1.drew.cell? ⟨g, 36 * i + 32, none⟩ = some (.int .i64 (L : Int)) := hc32
  replace hc33 : w1.drew.cell? ⟨g, 36 * i + 33, none⟩ = some (.slice A L cA) := hc33
  clear hc34
  go_upto_region 6 with (fail)
  refine wp_region_noPanic ?_
  refine wp_region_held_drew (S := fun V => V = w1.drew) (by kernel_rfl) (rfl) (fun hHeld => ?_)
  refine held_move 0 (Go.Operand.tmp 0) (some 22) (.pointer (some ⟨S, 0, none⟩)) (by kernel_rfl) (by kernel_rfl) (by kernel_rfl) (by kernel_rfl) (by kernel_rfl) (fun _ _ _ _ _ h => h) hHeld ?_
  refine held_nil 1 (Go.Operand.tmp 22) (some 23) ⟨S, 0, none⟩ (by kernel_rfl) (by kernel_rfl) (by kernel_rfl) (by kernel_rfl) (by kernel_rfl) (fun _ _ _ _ _ h => h) hHeld ?_
  refine held_field 2 90 (Go.Operand.tmp 23) 2 (some 24) (.pointer (some ⟨S, 0, none⟩)) (.pointer (some ⟨S, 2, none⟩)) (by kernel_rfl) (by kernel_rfl) (fun w => by kernel_rfl) (by kernel_rfl) (by kernel_rfl) (by kernel_rfl) (fun _ _ _ _ _ h => h) hHeld ?_
  refine held_cell 3 88 (Go.Operand.tmp 24) (some 25) (.pointer (some ⟨S, 2, none⟩)) (.slice (some ⟨g, 0, none⟩) len c) (by kernel_rfl) (by kernel_rfl) (fun V hV => by rw [hV]; exact load_dsl _ _ w1.drew hc2) (by kernel_rfl) (by kernel_rfl) (by kernel_rfl) (fun _ _ _ _ _ h => h) hHeld ?_
  refine held_move 4 (Go.Operand.tmp 5) (some 26) (.int .i64 (i : Int)) (by kernel_rfl) (by kernel_rfl) (by kernel_rfl) (by kernel_rfl) (by kernel_rfl) (fun _ _ _ _ _ h => h) hHeld ?_
  refine held_index 5 88 (Go.Operand.tmp 25) (Go.Operand.tmp 26) (some 27) (.slice (some ⟨g, 0, none⟩) len c) (.int .i64 (i : Int)) (.pointer (some ⟨g, 36 * i, none⟩)) (by kernel_rfl) (by kernel_rfl) (idx_D g len c i hlt) (by kernel_rfl) (by kernel_rfl) (by kernel_rfl) (fun _ _ _ _ _ h => h) hHeld ?_
  refine held_field 6 92 (Go.Operand.tmp 27) 2 (some 28) (.pointer (some ⟨g, 36 * i, none⟩)) (.pointer (some ⟨g, 36 * i + 33, none⟩)) (by kernel_rfl) (by kernel_rfl) (field_D2 g _) (by kernel_rfl) (by kernel_rfl) (by kernel_rfl) (fun _ _ _ _ _ h => h) hHeld ?_
  refine held_cell 7 25 (Go.Operand.tmp 28) (some 29) (.pointer (some ⟨g, 36 * i + 33, none⟩)) (.slice A L cA) (by kernel_rfl) (by kernel_rfl) (fun V hV => by rw [hV]; exact load_slice g _ w1.drew 25 (fun w => by kernel_rfl) _ hc33) (by kernel_rfl) (by kernel_rfl) (by kernel_rfl) (fun _ _ _ _ _ h => h) hHeld ?_
  refine held_any 8 (Go.Op.call { callee := Go.Callee.builtin Go.Builtin.len, args := #[Go.Operand.tmp 29], argTypes := #[25] }) (some 30) (.int .i64 (L : Int)) (by kernel_rfl) (by kernel_rfl) (by kernel_rfl) (by kernel_rfl) (fun _ _ _ _ _ h => h) hHeld (fun o ho w _ => exec_lenD (vx := .slice A L cA) ho (by kernel_rfl) (fun _ => len_slice _ 5 _ Tryd.underlying25 A L cA _)) ?_
  refine held_move 9 (Go.Operand.tmp 0) (some 31) (.pointer (some ⟨S, 0, none⟩)) (by kernel_rfl) (by kernel_rfl) (by kernel_rfl) (by kernel_rfl) (by kernel_rfl) (fun _ _ _ _ _ h => h) hHeld ?_
  refine held_nil 10 (Go.Operand.tmp 31) (some 32) ⟨S, 0, none⟩ (by kernel_rfl) (by kernel_rfl) (by kernel_rfl) (by kernel_rfl) (by kernel_rfl) (fun _ _ _ _ _ h => h) hHeld ?_
  refine held_field 11 90 (Go.Operand.tmp 32) 2 (some 33) (.pointer (some ⟨S, 0, none⟩)) (.pointer (some ⟨S, 2, none⟩)) (by kernel_rfl) (by kernel_rfl) (fun w => by kernel_rfl) (by kernel_rfl) (by kernel_rfl) (by kernel_rfl) (fun _ _ _ _ _ h => h) hHeld ?_
  refine held_cell 12 88 (Go.Operand.tmp 33) (some 34) (.pointer (some ⟨S, 2, none⟩)) (.slice (some ⟨g, 0, none⟩) len c) (by kernel_rfl) (by kernel_rfl) (fun V hV => by rw [hV]; exact load_dsl _ _ w1.drew hc2) (by kernel_rfl) (by kernel_rfl) (by kernel_rfl) (fun _ _ _ _ _ h => h) hHeld ?_
  refine held_move 13 (Go.Operand.tmp 5) (some 35) (.int .i64 (i : Int)) (by kernel_rfl) (by kernel_rfl) (by kernel_rfl) (by kernel_rfl) (by kernel_rfl) (fun _ _ _ _ _ h => h) hHeld ?_
  refine held_index 14 88 (Go.Operand.tmp 34) (Go.Operand.tmp 35) (some 36) (.slice (some ⟨g, 0, none⟩) len c) (.int .i64 (i : Int)) (.pointer (some ⟨g, 36 * i, none⟩)) (by kernel_rfl) (by kernel_rfl) (idx_D g len c i hlt) (by kernel_rfl) (by kernel_rfl) (by kernel_rfl) (fun _ _ _ _ _ h => h) hHeld ?_
  refine held_field 15 92 (Go.Operand.tmp 36) 1 (some 37) (.pointer (some ⟨g, 36 * i, none⟩)) (.pointer (some ⟨g, 36 * i + 32, none⟩)) (by kernel_rfl) (by kernel_rfl) (field_D1 g _) (by kernel_rfl) (by kernel_rfl) (by kernel_rfl) (fun _ _ _ _ _ h => h) hHeld ?_
  refine held_cell 16 3 (Go.Operand.tmp 37) (some 38) (.pointer (some ⟨g, 36 * i + 32, none⟩)) (.int .i64 (L : Int)) (by kernel_rfl) (by kernel_rfl) (fun V hV => by rw [hV]; exact load_i64 g _ w1.drew _ hc32) (by kernel_rfl) (by kernel_rfl) (by kernel_rfl) (fun _ _ _ _ _ h => h) hHeld ?_
  refine held_bin 17 Go.BinOp.lss 3 (Go.Operand.tmp 30) (Go.Operand.tmp 38) 3 (some 39) (.int .i64 (L : Int)) (.int .i64 (L : Int)) (.bool false) (by kernel_rfl) (by kernel_rfl) (fun w => by rw [lss_i64 _ _ _ w _ _, decide_eq_false (Int.lt_irrefl _)]) (by kernel_rfl) (by kernel_rfl) (by kernel_rfl) (fun _ _ _ _ _ h => h) hHeld ?_
  refine held_assign 18 (Go.Operand.tmp 39) (some 21) (.bool false) (by kernel_rfl) (by kernel_rfl) (by kernel_rfl) (by kernel_rfl) (by kernel_rfl) (fun _ _ _ _ _ h => h) hHeld ?_
  refine wpAnyH_done (by kernel_rfl) ?_ _
  refine NoPanic.normal ?_
  try simp only [Act.put, List.setIfInBounds_toArray, List.set_cons_zero, List.set_cons_succ]
  clear hc2 hc32 hc33 hHeld
  go_upto_region 8 with (fail)
  obtain ⟨bx, hbx⟩ : ∃ b, b = w.heap.size := ⟨_, rfl⟩
  obtain ⟨w2, hw2⟩ : ∃ W, W = w1.drew := ⟨_, rfl⟩
  have hT2 : Turn (dsG S (.slice (some ⟨g, 0, none⟩) len c)) w w2.drew := by rw [hw2]; exact (turn_box HS.out.2).trans (Turn.of_below (F := fun _ => False) (Below.drew (Below.drew (Below.refl _ _)))) (fun _ y => y.elim)
  have hbx2 : w2.drew.heap[bx]? = some (.cells (arr8 32 k) 37 (0, 0)) := by rw [hw2, hbx]; exact HX.out w1 HS.out.2
  replace HS : Hid (DsS w2.drew S B q l (.slice (some ⟨g, 0, none⟩) len c) (es.set i e.used)) := by rw [hw2]; exact Lib.hid (HS.out.1.below (Below.drew (Below.drew (Below.refl _ _))))
  rw [← hbx, ← hw2]
  obtain ⟨d2, _, d33, _, _⟩ := HF.out _ HS.out
  have lS := lt_heapD HS.out.st
  have lg := World.block_lt_of_cell? _ _ d33
  have lX := lt_heapD hbx2
  have dx : w2.drew.rangeAt bx 0 (arr8 32 k).toList := range_new (cs := (arr8 32 k).toList) (by simpa using hbx2)
  have HSM : Hid (∀ V, Below w2.drew.heap.size w2.drew V → Calls Tryd.prog 17 #[.slice A L cA] V fun e w' => e = .returned (.agg (arr8 32 (shaOf zs))) ∧ Below V.heap.size V w') := Lib.hid fun V hV => by
    have := dsum_any A zs cA V ((HB.out _ HS.out).1.below hV) (by omega)
    rwa [hzl] at this
  have HT2 := Lib.hid hT2
  clear hbx hw2 hT2 hbx2 HX
  refine wp_region_noPanic ?_
  refine wp_region_held_drew (S := fun V => Below w2.drew.heap.size w2.drew V) (by kernel_rfl) (Below.refl _ _) (fun hHeld => ?_)
  refine held_move 0 (Go.Operand.tmp 0) (some 41) (.pointer (some ⟨S, 0, none⟩)) (by kernel_rfl) (by kernel_rfl) (by kernel_rfl) (by kernel_rfl) (by kernel_rfl) (fun _ _ _ _ _ h => h) hHeld ?_
  refine held_nil 1 (Go.Operand.tmp 41) (some 42) ⟨S, 0, none⟩ (by kernel_rfl) (by kernel_rfl) (by kernel_rfl) (by kernel_rfl) (by kernel_rfl) (fun _ _ _ _ _ h => h) hHeld ?_
  refine held_field 2 90 (Go.Operand.tmp 42) 2 (some 43) (.pointer (some ⟨S, 0, none⟩)) (.pointer (some ⟨S, 2, none⟩)) (by kernel_rfl) (by kernel_rfl) (fun w => by kernel_rfl) (by kernel_rfl) (by kernel_rfl) (by kernel_rfl) (fun _ _ _ _ _ h => h) hHeld ?_
  refine held_cell 3 88 (Go.Operand.tmp 43) (some 44) (.pointer (some ⟨S, 2, none⟩)) (.slice (some ⟨g, 0, none⟩) len c) (by kernel_rfl) (by kernel_rfl) (fun V hV => load_dsl _ _ V ((hV.cell (p := ⟨S, 2, none⟩) lS).trans d2)) (by kernel_rfl) (by kernel_rfl) (by kernel_rfl) (fun _ _ _ _ _ h => h) hHeld ?_
  refine held_move 4 (Go.Operand.tmp 5) (some 45) (.int .i64 (i : Int)) (by kernel_rfl) (by kernel_rfl) (by kernel_rfl) (by kernel_rfl) (by kernel_rfl) (fun _ _ _ _ _ h => h) hHeld ?_
  refine held_index 5 88 (Go.Operand.tmp 44) (Go.Operand.tmp 45) (some 46) (.slice (some ⟨g, 0, none⟩) len c) (.int .i64 (i : Int)) (.pointer (some ⟨g, 36 * i, none⟩)) (by kernel_rfl) (by kernel_rfl) (idx_D g len c i hlt) (by kernel_rfl) (by kernel_rfl) (by kernel_rfl) (fun _ _ _ _ _ h => h) hHeld ?_
  refine held_field 6 92 (Go.Operand.tmp 46) 2 (some 47) (.pointer (some ⟨g, 36 * i, none⟩)) (.pointer (some ⟨g, 36 * i + 33, none⟩)) (by kernel_rfl) (by kernel_rfl) (field_D2 g _) (by kernel_rfl) (by kernel_rfl) (by kernel_rfl) (fun _ _ _ _ _ h => h) hHeld ?_
  refine held_cell 7 25 (Go.Operand.tmp 47) (some 48) (.pointer (some ⟨g, 36 * i + 33, none⟩)) (.slice A L cA) (by kernel_rfl) (by kernel_rfl) (fun V hV => load_slice g _ V 25 (fun w => by kernel_rfl) _ ((hV.cell (p := ⟨g, 36 * i + 33, none⟩) lg).trans d33)) (by kernel_rfl) (by kernel_rfl) (by kernel_rfl) (fun _ _ _ _ _ h => h) hHeld ?_
  refine held_cell 9 37 (Go.Operand.tmp 3) (some 50) (.pointer (some ⟨bx, 0, none⟩)) (.agg (arr8 32 k)) (by kernel_rfl) (by kernel_rfl) (fun V hV => load_idD bx 0 k V (rangeAt_below dx hV lX)) (by kernel_rfl) (by kernel_rfl) (by kernel_rfl) (fun _ _ _ _ _ h => h) hHeld ?_
  refine held_call 8 17 #[Go.Operand.tmp 48] #[25] (some 49) #[.slice A L cA] _ (by kernel_rfl) (by kernel_rfl) (by kernel_rfl) (by kernel_rfl) (HSM.out _ hHeld) ?_
  rintro r Y ⟨rfl, hbY⟩
  refine ⟨_, rfl, hHeld.trans (hbY.mono hHeld.size), fun hHeld => ?_⟩
  refine held_any 10 (Go.Op.binOp Go.BinOp.neq 37 (Go.Operand.tmp 49) (Go.Operand.tmp 50) 37) (some 51) (.bool true) (by kernel_rfl) (by kernel_rfl) (by kernel_rfl) (by kernel_rfl) (fun _ _ _ _ _ h => h) hHeld (fun o ho w hw => exec_eqrow (k := .neq) (cx := arr8 32 (shaOf zs)) (cy := arr8 32 k) (b := false) (.inr rfl) ho (by kernel_rfl) (by kernel_rfl) (by rw [← hid]; exact eq_idsD (shaOf zs) k w)) ?_
  refine held_assign 11 (Go.Operand.tmp 51) (some 40) (.bool true) (by kernel_rfl) (by kernel_rfl) (by kernel_rfl) (by kernel_rfl) (by kernel_rfl) (fun _ _ _ _ _ h => h) hHeld ?_
  refine wpAnyH_done (by kernel_rfl) ?_ _
  refine NoPanic.normal ?_
  try simp only [Act.put, List.setIfInBounds_toArray, List.set_cons_zero, List.set_cons_succ]
  have HV := Lib.hid (And.intro (HS.out.below hHeld) hHeld)
  clear d2 d33 lS lg lX dx hHeld
  go_wp2_with fail
  go_ret
  exact ⟨rfl, HV.out.1, HT2.out.trans (Turn.of_below (F := fun _ => False) HV.out.2) (fun _ y => y.elim)⟩
set_option maxRecDepth 100000 in
set_option maxHeartbeats 1600000 in
theorem dput_done (h : DsS w S B q l V es) (hn : es.length ≤ 1000) (k : Nat → BitVec 8) {i : Nat} {e : Ds} (hf : es.findIdx? (Ds.is k) = some i) (he : es[i]? = some e) (hd : e.done = true) (off : Int) (A : Option Addr) (m cb : Nat) :
    Calls Tryd.prog 22 #[.pointer (some ⟨S, 0, none⟩), .agg (arr8 32 k), .int .i64 off, .slice A m cb] w fun r w' => r = .returned (.tuple #[.int .i64 0, .int .i64 117]) ∧ DsS w' S B q l V (es.set i e.used) ∧ Turn (dsG S V) w w' := by
  have hb0 := below_alc w (.cells (arr8 32 k) 37)
  have HP := Lib.hid (dplace_some (h.below hb0) hn k hf he)
  have hlt : i < es.length := (List.getElem?_eq_some_iff.1 he).1
  obtain ⟨g, c, rfl⟩ := h.form (by omega)
  obtain ⟨Bx, cx, hD, hcx, _, hBx⟩ := own_slice (h.byt e (List.mem_of_getElem? he))
  have he2 : (es.set i e.used)[i]? = some e.used := by rw [List.getElem?_set_self hlt]
  obtain ⟨ceR, hceR⟩ : ∃ x, x = e.used.ce.toArray := ⟨_, rfl⟩
  have hcl : ceR.size = 36 := by rw [hceR]; simp [Ds.ce_len]
  have hone : ceR.all (·.oneCell') = true := by rw [hceR]; exact ce_one _ ⟨_, _, _, hD⟩
  have hcsz : zeroD.toArray.size = ceR.size := by rw [hcl]; rfl
  have HF : Hid (∀ W, DsS W S B q l (.slice (some ⟨g, 0, none⟩) es.length c) (es.set i e.used) → W.cell? ⟨S, 2, none⟩ = some (.slice (some ⟨g, 0, none⟩) es.length c) ∧ W.rangeAt g (36 * i) ceR.toList) := Lib.hid fun W hW => by
    have h2 := hW
    rw [show es.length = (es.set i e.used).length by simp] at h2
    refine ⟨hW.cell2, fun j v hv => ?_⟩
    rw [hceR] at hv
    exact h2.row he2 (by have := (List.getElem?_eq_some_iff.1 hv).1; rw [Ds.ce_len] at this; exact this) hv
  have hx34 : ceR[34]? = some (.bool true) := by rw [hceR, List.getElem?_toArray, ← hd]; exact ce_34 e.used
  obtain ⟨len, hlen⟩ : ∃ x, x = es.length := ⟨_, rfl⟩
  rw [← hlen] at hlt HF HP ⊢
  have hneg : ¬ (i : Int) < 0 := by omega
  clear h hf he he2 hD hlen hb0 hceR hcx hBx hd
  go_enter Tryd.func22, Tryd.ntmps22
  go_upto_region 4 with (first | (refine wpList_load_row rfl 37 _ rfl w.heap.size rfl _ _ _ _ (heap_alloc_new _ _) Tryd.underlying37 rfl (by rw [arr8_size]; kernel_rfl) ?_) | (go_at_call 41; refine HP.out.mono ?_; rintro r w1 ⟨rfl, hs1, ht1⟩; have HS := Lib.hid (And.intro hs1 ht1); clear hs1 ht1))
  obtain ⟨hc2, hce⟩ := HF.out w1 HS.out.1
  refine wp_region_lit ?_
  try simp only [put_list, List.set_cons_zero, List.set_cons_succ]
  refine wpList_run (by kernel_rfl) (.pointer (some ⟨S, 0, none⟩)) (w1) (exec_move rfl (by kernel_rfl)) ?_
  try simp only [put_list, List.set_cons_zero, List.set_cons_succ]
  refine wpList_run (by kernel_rfl) (.pointer (some ⟨S, 0, none⟩)) (w1) (exec_nil rfl (by kernel_rfl)) ?_
  try simp only [put_list, List.set_cons_zero, List.set_cons_succ]
  refine wpList_run (by kernel_rfl) (.pointer (some ⟨S, 2, none⟩)) (w1) (exec_field (vx := .pointer (some ⟨S, 0, none⟩)) rfl (by kernel_rfl) (by kernel_rfl)) ?_
  try simp only [put_list, List.set_cons_zero, List.set_cons_succ]
  refine wpList_run (by kernel_rfl) (.slice (some ⟨g, 0, none⟩) len c) (w1) (exec_load (vx := .pointer (some ⟨S, 2, none⟩)) rfl (by kernel_rfl) (load_dsl _ _ w1 hc2)) ?_
  try simp only [put_list, List.set_cons_zero, List.set_cons_succ]
  refine wpList_run (by kernel_rfl) (.int .i64 (i : Int)) (w1) (exec_move rfl (by kernel_rfl)) ?_
  try simp only [put_list, List.set_cons_zero, List.set_cons_succ]
  refine wpList_run (by kernel_rfl) (.pointer (some ⟨g, 36 * i, none⟩)) (w1) (exec_index (vx := .slice (some ⟨g, 0, none⟩) len c) (vy := .int .i64 (i : Int)) rfl (by kernel_rfl) (idx_D g len c i hlt w1)) ?_
  try simp only [put_list, List.set_cons_zero, List.set_cons_succ]
  refine wpList_run (by kernel_rfl) (.agg ceR) (w1) (exec_load (vx := .pointer (some ⟨g, 36 * i, none⟩)) rfl (by kernel_rfl) (load_ceD g _ _ w1 hce hcl)) ?_
  try simp only [put_list, List.set_cons_zero, List.set_cons_succ]
  refine wpList_allocV (by kernel_rfl) 92 (by kernel_rfl) (zeroD.toArray) (fun _ => by kernel_rfl) ?_
  refine wpList_store_row (by kernel_rfl) 92 (Go.Operand.tmp 11) (Go.Operand.tmp 24) (by kernel_rfl) w1.heap.size (ceR) (by kernel_rfl) (by kernel_rfl) _ _ (heap_alloc_new _ _) (ce_infoR hcl) (hcsz) (hone) ?_
  rw [alloc_setRow]
  refine wpList_nil ?_
  try simp only [put_list, put_none, List.set_cons_zero, List.set_cons_succ]
  go_upto_region 5 with (fail)
  obtain ⟨X, hX⟩ : ∃ x, x = w1.heap.size := ⟨_, rfl⟩
  refine wp_world (fun W => Below w1.heap.size w1 W ∧ W.heap[X]? = some (.cells ceR 92 (0, 0))) ⟨below_alc w1 _, by rw [hX]; exact heap1_0 w1 _⟩ ?_
  rw [← hX]
  have HX := Lib.hid hX
  clear hX hc2 hce
  rintro w2 ⟨hb12, hX2⟩
  have x34 := cell_heapD hX2 hx34
  have HBT : Hid (Below w1.heap.size w1 w2) := Lib.hid (by rw [← HX.out]; exact hb12)
  clear hb12 hX2
  try simp only [put_none]
  go_wp2_with fail
  go_ret2
  exact ⟨rfl, HS.out.1.below HBT.out, (turn_box HS.out.2).trans (Turn.of_below (F := fun _ => False) HBT.out) (fun _ y => y.elim)⟩
set_option maxRecDepth 100000 in
set_option maxHeartbeats 1600000 in
theorem ddelete (h : DsS w S B q l V es) (hn : es.length ≤ 1000) (k : Nat → BitVec 8) {i : Nat} (hf : es.findIdx? (Ds.is k) = some i) :
    Calls Tryd.prog 19 #[.pointer (some ⟨S, 0, none⟩), .agg (arr8 32 k)] w fun r w' => r = .returned (.int .i64 0) ∧ ∃ V', DsS w' S B q l V' (es.eraseIdx i) ∧ Turn (dsG S V) w w' := by
  obtain ⟨hlt, _⟩ := List.findIdx?_eq_some_iff_getElem.1 hf
  obtain ⟨e, he⟩ : ∃ e, es[i]? = some e := ⟨es[i], List.getElem?_eq_getElem hlt⟩
  have HP := Lib.hid (dplace_some (h.below (below_alc w (.cells (arr8 32 k) 37))) hn k hf he)
  obtain ⟨g, c, rfl⟩ := h.form (by omega)
  have hBw : B ≤ w.heap.size := by have := h.lt (.inl rfl); omega
  obtain ⟨_, _, hV, hlc, _, _⟩ := own_slice h.own
  simp only [Value.slice.injEq, true_and] at hV
  obtain ⟨_, rfl⟩ := hV
  obtain ⟨fs, hfs⟩ : ∃ x, x = es.set i e.used := ⟨_, rfl⟩
  have hfl : fs.length = es.length := by rw [hfs]; simp
  have hfe : fs.eraseIdx i = es.eraseIdx i := by rw [hfs]; exact List.eraseIdx_set_eq
  rw [← hfs] at HP
  rw [← hfl] at HP hlc hlt hn ⊢
  rw [← hfe]
  have hneg : ¬ (i : Int) < 0 := by omega
  obtain ⟨len, hlen⟩ : ∃ x, x = fs.length := ⟨_, rfl⟩
  rw [← hlen] at HP hlc hlt hn ⊢
  have HLN := Lib.hid hlen
  clear h hf he hfs hfl hfe hlen
  go_enter Tryd.func19, Tryd.ntmps19
  go_upto_region 4 with (first | (refine wpList_load_row rfl 37 _ rfl w.heap.size rfl _ _ _ _ (heap_alloc_new _ _) Tryd.underlying37 rfl (by rw [arr8_size]; kernel_rfl) ?_) | (go_at_call 41; refine HP.out.mono ?_; rintro r w1 ⟨rfl, hs1, ht1⟩; have HS := Lib.hid (And.intro hs1 ht1); clear hs1 ht1))
  have hT1 := turn_box (S := S) HS.out.2
  obtain ⟨w2, hw2⟩ : ∃ W, W = w1.alloc (.cells #[] 92) := ⟨_, rfl⟩
  have hbs := dsl_made w1
  rw [← hw2] at hbs
  have hb2 : Below w1.heap.size w1 w2 := by rw [hw2]; exact below_alc w1 _
  have hs2 := HS.out.1.below hb2
  have hc2 := hs2.cell2
  have hown := hs2.own
  rw [← HLN.out] at hown
  have hrd : SlRead w2 (some ⟨g, 0, none⟩) (dcel fs) := own_read hown
  have hB1 : B ≤ w1.heap.size := Nat.le_trans hBw hT1.size
  obtain ⟨v3, w3, hr3, ho3, hg3⟩ := app_D 88 w2 w1.heap.size (.slice (some ⟨w1.heap.size, 0, none⟩) 0 0) [] (fs.take i) (by rw [hw2]; exact World.ownsRow_made w1 #[] 0 (Nat.le_refl _) (by unfold maxLen; omega) (by simp)) (some ⟨g, 0, none⟩) c (by rw [dcel_take]; exact hrd.takeD _) (by simp; omega) hb2.size (fun e => by cases e) (fun e he => hs2.sliceD (List.mem_of_mem_take he))
  rw [List.length_take, ← HLN.out, Nat.min_eq_left (Nat.le_of_lt hlt)] at hr3
  have hw1s : w1.heap.size < w2.heap.size := by rw [hw2]; simp
  have hb3 : Below w1.heap.size w1 w3 := hb2.grown hg3 hb2.size (fun x hx => by simp [Value.ownBlock] at hx; omega)
  have hs3 := HS.out.1.below hb3
  have hc3 := hs3.cell2
  have hown3 := hs3.own
  rw [← HLN.out] at hown3
  have hrd3 : SlRead w3 (some ⟨g, 0, none⟩) (dcel fs) := own_read hown3
  simp only [List.nil_append] at ho3
  have hfrom : SlRead w3 (some (frD g c (i + 1))) (dcel (fs.drop (i + 1))) := by
    intro hx
    rw [dcel_len, List.length_drop, ← HLN.out] at hx
    obtain ⟨b, o, e1, hl, hr⟩ := hrd3 (by rw [dcel_len, ← HLN.out]; omega)
    cases e1
    refine ⟨g, 36 * (i + 1), by unfold frD; rw [if_neg (by omega)], hl, fun j u hu => ?_⟩
    rw [dcel_drop, List.getElem?_drop] at hu
    have := hr _ u hu
    rwa [Nat.zero_add] at this
  obtain ⟨v4, w4, hr4, ho4, hg4⟩ := app_D 88 w3 w1.heap.size v3 (fs.take i) (fs.drop (i + 1)) ho3 (some (frD g c (i + 1))) (c - (i + 1)) hfrom (by rw [List.length_take, List.length_drop, ← HLN.out]; omega) hb3.size (fun e => by cases e) (fun e he => hs3.sliceD (List.mem_of_mem_drop he))
  rw [List.length_drop, ← HLN.out] at hr4
  rw [← List.eraseIdx_eq_take_drop_succ] at ho4
  have hb4 : Below w1.heap.size w1 w4 := hb3.grown hg4 hb3.size (fun x hx => (ho3.lt x hx).1)
  have hs4 := HS.out.1.below hb4
  have hc4 := hs4.cell2
  have hf4 := thaw_heapD hs4.st 2
  obtain ⟨A4, c4, hv4, _⟩ := own_slice ho4
  obtain ⟨n4, hn4⟩ : ∃ x, x = (fs.eraseIdx i).length := ⟨_, rfl⟩
  rw [← hn4] at hv4
  subst hv4
  have hSl := (HS.out.1.lt (.inl rfl)).2
  have HH := Lib.hid (And.intro hs4 (And.intro ho4 (And.intro hn4 (And.intro hSl (And.intro hb4 hT1)))))
  clear hs2 hown hrd hs3 hown3 hrd3 hfrom ho3 hg3 ho4 hg4 hb4 hs4 hn4 hSl hT1 hw2 hb2 hb3
  refine wp_region_lit ?_
  try simp only [put_list, List.set_cons_zero, List.set_cons_succ]
  refine wpList_run (by kernel_rfl) (.slice (some ⟨w1.heap.size, 0, none⟩) 0 0) (w2) (exec_bsl (vs := #[]) rfl (by kernel_rfl) (hbs)) ?_
  try simp only [put_list, List.set_cons_zero, List.set_cons_succ]
  refine wpList_run (by kernel_rfl) (.pointer (some ⟨S, 0, none⟩)) (w2) (exec_move rfl (by kernel_rfl)) ?_
  try simp only [put_list, List.set_cons_zero, List.set_cons_succ]
  refine wpList_run (by kernel_rfl) (.pointer (some ⟨S, 0, none⟩)) (w2) (exec_nil rfl (by kernel_rfl)) ?_
  try simp only [put_list, List.set_cons_zero, List.set_cons_succ]
  refine wpList_run (by kernel_rfl) (.pointer (some ⟨S, 2, none⟩)) (w2) (exec_field (vx := .pointer (some ⟨S, 0, none⟩)) rfl (by kernel_rfl) (by kernel_rfl)) ?_
  try simp only [put_list, List.set_cons_zero, List.set_cons_succ]
  refine wpList_run (by kernel_rfl) (.slice (some ⟨g, 0, none⟩) len c) (w2) (exec_load (vx := .pointer (some ⟨S, 2, none⟩)) rfl (by kernel_rfl) (load_dsl _ _ w2 hc2)) ?_
  try simp only [put_list, List.set_cons_zero, List.set_cons_succ]
  refine wpList_run (by kernel_rfl) (.int .i64 (i : Int)) (w2) (exec_move rfl (by kernel_rfl)) ?_
  try simp only [put_list, List.set_cons_zero, List.set_cons_succ]
  refine wpList_run (by kernel_rfl) (.slice (some ⟨g, 0, none⟩) i c) (w2) (exec_slice (vx := .slice (some ⟨g, 0, none⟩) len c) (l := none) (h := some (.int .i64 (i : Int))) (m := none) rfl (by kernel_rfl) (slD_to g len c i (by omega) w2)) ?_
  try simp only [put_list, List.set_cons_zero, List.set_cons_succ]
  refine wpList_run (by kernel_rfl) (v3) (w3) (exec_append rfl rfl (vs := .slice (some ⟨w1.heap.size, 0, none⟩) 0 0) (vx := .slice (some ⟨g, 0, none⟩) i c) (by kernel_rfl) (hr3)) ?_
  try simp only [put_list, List.set_cons_zero, List.set_cons_succ]
  refine wpList_run (by kernel_rfl) (v3) (w3) (exec_assign rfl (by kernel_rfl)) ?_
  refine wpList_nil ?_
  simp only [put_list, List.set_cons_zero, List.set_cons_succ]
  go_upto_region 5 with (fail)
  refine wp_region_lit ?_
  try simp only [put_list, List.set_cons_zero, List.set_cons_succ]
  refine wpList_run (by kernel_rfl) (.pointer (some ⟨S, 0, none⟩)) (w3) (exec_move rfl (by kernel_rfl)) ?_
  try simp only [put_list, List.set_cons_zero, List.set_cons_succ]
  refine wpList_run (by kernel_rfl) (v3) (w3) (exec_move rfl (by kernel_rfl)) ?_
  try simp only [put_list, List.set_cons_zero, List.set_cons_succ]
  refine wpList_run (by kernel_rfl) (.pointer (some ⟨S, 0, none⟩)) (w3) (exec_move rfl (by kernel_rfl)) ?_
  try simp only [put_list, List.set_cons_zero, List.set_cons_succ]
  refine wpList_run (by kernel_rfl) (.pointer (some ⟨S, 0, none⟩)) (w3) (exec_nil rfl (by kernel_rfl)) ?_
  try simp only [put_list, List.set_cons_zero, List.set_cons_succ]
  refine wpList_run (by kernel_rfl) (.pointer (some ⟨S, 2, none⟩)) (w3) (exec_field (vx := .pointer (some ⟨S, 0, none⟩)) rfl (by kernel_rfl) (by kernel_rfl)) ?_
  try simp only [put_list, List.set_cons_zero, List.set_cons_succ]
  refine wpList_run (by kernel_rfl) (.slice (some ⟨g, 0, none⟩) len c) (w3) (exec_load (vx := .pointer (some ⟨S, 2, none⟩)) rfl (by kernel_rfl) (load_dsl _ _ w3 hc3)) ?_
  try simp only [put_list, List.set_cons_zero, List.set_cons_succ]
  refine wpList_run (by kernel_rfl) (.int .i64 (i : Int)) (w3) (exec_move rfl (by kernel_rfl)) ?_
  try simp only [put_list, List.set_cons_zero, List.set_cons_succ]
  refine wpList_run (by kernel_rfl) (.int .i64 ((i : Int) + 1)) (w3) (exec_bin (vx := .int .i64 (i : Int)) (vy := Go.Value.int Go.IntKind.i64 1) rfl (by kernel_rfl) (add_int _ _ _ w3 _ _ _ rfl (by omega) (by omega))) ?_
  try simp only [put_list, List.set_cons_zero, List.set_cons_succ]
  refine wpList_run (by kernel_rfl) (.slice (some (frD g c (i + 1))) (len - (i + 1)) (c - (i + 1))) (w3) (exec_slice (vx := .slice (some ⟨g, 0, none⟩) len c) (l := some (.int .i64 ((i : Int) + 1))) (h := none) (m := none) rfl (by kernel_rfl) (slD_from g len c (i + 1) (by omega) w3)) ?_
  try simp only [put_list, List.set_cons_zero, List.set_cons_succ]
  refine wpList_run (by kernel_rfl) (.slice A4 n4 c4) (w4) (exec_append rfl rfl (vs := v3) (vx := .slice (some (frD g c (i + 1))) (len - (i + 1)) (c - (i + 1))) (by kernel_rfl) (hr4)) ?_
  try simp only [put_list, List.set_cons_zero, List.set_cons_succ]
  refine wpList_run (by kernel_rfl) (.pointer (some ⟨S, 0, none⟩)) (w4) (exec_nil rfl (by kernel_rfl)) ?_
  try simp only [put_list, List.set_cons_zero, List.set_cons_succ]
  refine wpList_run (by kernel_rfl) (.pointer (some ⟨S, 2, none⟩)) (w4) (exec_field (vx := .pointer (some ⟨S, 0, none⟩)) rfl (by kernel_rfl) (by kernel_rfl)) ?_
  refine wpList_skip rfl ((w4.setCell ⟨S, 2, none⟩ (.slice A4 n4 c4))) (exec_store (vx := .pointer (some ⟨S, 2, none⟩)) (vy := .slice A4 n4 c4) rfl (by kernel_rfl) (store_dslD _ _ _ w4 hc4 hf4)) ?_
  refine wpList_nil ?_
  try simp only [put_list, put_none, List.set_cons_zero, List.set_cons_succ]
  go_wp2_with fail
  go_ret
  obtain ⟨hs4, ho4, hn4, hSl, hb4, hT1⟩ := HH.out
  have hset : Turn (· = S) w4 (w4.setCell ⟨S, 2, none⟩ (.slice A4 n4 c4)) := Turn.of_grown (row := some S) ⟨rfl, rfl, rfl, by simp [World.setCell], fun x _ hx => Below.heap_setCell _ _ _ _ (fun e => hx (by rw [e]))⟩ (fun x hx => (Option.some.inj hx).symm)
  rw [← hn4] at ho4
  have hds : DsS (w4.setCell ⟨S, 2, none⟩ (.slice A4 n4 c4)) S B q l (.slice A4 n4 c4) (fs.eraseIdx i) := by
    refine ⟨heap_setCell_same w4 S 2 _ _ _ hs4.st, ?_, fun x hx => ?_, hs4.lo⟩
    · rw [← hn4]
      exact ownsRow_lower (own_keepD ho4 fun x hx => hset.block x (ho4.lt x hx).2 (fun y => by have h9 := (ho4.lt x hx).1; have y : x = S := y; omega)) hB1
    · have h9 := hs4.byt x (List.mem_of_mem_eraseIdx hx)
      exact own_keepD h9 fun y hy => hset.block y (h9.lt y hy).2 (fun z => ownD_ne h9 hs4.st (by decide) (by rw [← show y = S from z]; exact hy.symm))
  have htt := (hT1.trans (Turn.of_below (F := fun _ => False) hb4) (fun _ y => y.elim)).trans hset (fun x hx => .inl (.inl hx))
  refine ⟨rfl, ?_⟩
  first | exact ⟨_, hds, htt⟩ | exact ⟨⟨_, hds⟩, htt⟩
end
theorem idx_u8D (g n c i : Nat) (hi : i < n) (w : World) : (Instr.indexAt 25 (.slice (some ⟨g, 0, none⟩) n c) (.int .i64 (i : Int))).run Tryd.prog w = .ok (.pointer (some ⟨g, i, none⟩)) w := by
  have hu := Tryd.underlying25
  have e2 : Tryd.prog.elem 25 = 5 := by simp [Program.elem, hu]
  have hsz : ∀ w, (sizeOf 5).run Tryd.prog w = .ok 1 w := fun w => by kernel_rfl
  rw [run_indexAt_slice (h := by rw [e2]; exact hu), if_pos (by omega)]
  simp only [e2, hsz, Result.andThen, Int.toNat_natCast, Addr.add_lit, Nat.mul_one, Nat.zero_add]
theorem load_u8D (g o : Nat) {v : Value} (w : World) (h : w.cell? ⟨g, o, none⟩ = some v) : (Instr.loadAt 5 (.pointer (some ⟨g, o, none⟩))).run Tryd.prog w = .ok v w := by
  have h2 := Tryd.underlying5
  go_simp
theorem store_u8D (g o : Nat) (z : Int) (w : World) {u : Value} (h : w.cell? ⟨g, o, none⟩ = some u) (hf : w.frozen? ⟨g, o, none⟩ = false) : (Instr.storeAt 5 (.pointer (some ⟨g, o, none⟩)) (.int .u8 z)).run Tryd.prog w = .ok () (w.setCell ⟨g, o, none⟩ (.int .u8 z)) := by
  have h2 := Tryd.underlying5
  go_simp
theorem xor_u8D (t : TypeId) (x y : Operand) (z : BitVec 8) (w : World) : (do eqGuard .xor t x y (.int .u8 (n8 z)) (.int .u8 1); binOp .xor t (.int .u8 (n8 z)) (.int .u8 1) : Sem Value).run Tryd.prog w = .ok (.int .u8 (n8 (z ^^^ 1#8))) w := by
  simp [eqGuard, binOp, Op.intBits]
  revert z
  decide +kernel
theorem rem_D (t : TypeId) (x y : Operand) (a L : Nat) (hL : 0 < L) (hl : L ≤ 100000) (w : World) : (do eqGuard .rem t x y (.int .i64 (a : Int)) (.int .i64 (L : Int)); binOp .rem t (.int .i64 (a : Int)) (.int .i64 (L : Int)) : Sem Value).run Tryd.prog w = .ok (.int .i64 ((a % L : Nat) : Int)) w := by
  have h1 : Int.tmod (a : Int) (L : Int) = ((a % L : Nat) : Int) := rfl
  have h2 := Nat.mod_lt a hL
  simp only [eqGuard, binOp]
  simp [Op.intDiv, h1]
  intro h4
  omega
section
variable {w : World} {S B : Nat} {q l : Int} {V : Value}
set_option maxRecDepth 100000 in
set_option maxHeartbeats 1600000 in
theorem dspoil_none (h : DsS w S B q l V []) (k : Nat → BitVec 8) (at' : Int) :
    Calls Tryd.prog 20 #[.pointer (some ⟨S, 0, none⟩), .agg (arr8 32 k), .int .i64 at'] w fun r w' => r = .returned (.bool false) ∧ DsS w' S B q l V [] ∧ Turn (dsG S V) w w' := by
  have hb0 := below_alc w (.cells (arr8 32 k) 37)
  have h0 := h.below hb0
  have hc2 := h0.cell2
  obtain ⟨A, c, rfl, _⟩ := own_slice h0.own
  have H := Lib.hid h0
  clear h h0
  go_enter Tryd.func20, Tryd.ntmps20
  go_wp2_with fail
  go_loopw [7] (fun x wr => x = .int .i64 0 ∧ wr = w.alloc (.cells (arr8 32 k) 37)) (fun x _ => 0)
  case atStart => exact ⟨rfl, rfl⟩
  case round =>
    obtain ⟨rfl, rfl⟩ := hrel
    go_wp2_with fail
    go_ret
    exact ⟨rfl, H.out, Turn.of_below hb0⟩
set_option maxRecDepth 100000 in
set_option maxHeartbeats 1600000 in
theorem dspoil_one {e : Ds} (h : DsS w S B q l V [e]) (k : Nat → BitVec 8) (his : (idk e.f == idk k) = true) (a : Nat) (zs : List (BitVec 8)) (hzs : e.bs = bys zs) (hl : zs.length ≤ 100000) :
    Calls Tryd.prog 20 #[.pointer (some ⟨S, 0, none⟩), .agg (arr8 32 k), .int .i64 (a : Int)] w fun r w' => ∃ b, r = .returned (.bool b) ∧ (∃ D ws, ws.length = zs.length ∧ DsS w' S B q l V [⟨e.f, e.n, D, bys ws, e.done, e.age⟩]) ∧ Turn (dsG S V) w w' := by
  have hb0 := below_alc w (.cells (arr8 32 k) 37)
  have h0 := h.below hb0
  obtain ⟨g, c, rfl⟩ := h.form (by simp)
  obtain ⟨A, cA, hD, _⟩ := own_slice (h.byt e (by simp))
  obtain ⟨bx, hbx⟩ : ∃ x, x = w.heap.size := ⟨_, rfl⟩
  have hrx : (w.alloc (.cells (arr8 32 k) 37)).rangeAt bx 0 (arr8 32 k).toList := by rw [hbx]; exact range_new (by simpa using heap1_0 _ _)
  have hlx : bx < (w.alloc (.cells (arr8 32 k) 37)).heap.size := by rw [hbx]; simp
  go_enter Tryd.func20, Tryd.ntmps20
  go_upto_region 1 with (fail)
  refine wp_world (fun W => W.rangeAt bx 0 (arr8 32 k).toList ∧ DsS W S B q l (.slice (some ⟨g, 0, none⟩) 1 c) [e] ∧ bx < W.heap.size ∧ Below w.heap.size w W) ⟨hrx, h0, hlx, hb0⟩ ?_
  rw [← hbx]
  clear hrx h0 hb0 hlx
  rintro w1 ⟨hrx, h1, hlx, hB1⟩
  have HB1 : Hid (Below w.heap.size w w1) := Lib.hid (by rw [← hbx]; exact hB1)
  clear hB1 h hbx
  obtain ⟨L, hL⟩ : ∃ x, x = e.bs.length := ⟨_, rfl⟩
  rw [← hL] at hD
  have hLz : zs.length = L := by rw [hL, hzs, bys_length]
  go_wp2_with fail
  go_loopw [7] (fun x wr => (x = .int .i64 ((0 : Nat) : Int) ∧ w1 = wr) ∨ (x = .int .i64 ((1 : Nat) : Int) ∧ L = 0 ∧ Below w1.heap.size w1 wr)) (fun x _ => 1 - (intOf x).toNat)
  case atStart => exact .inl ⟨rfl, rfl⟩
  case round =>
    rcases hrel with ⟨rfl, rfl⟩ | ⟨rfl, hL0, hbr⟩
    · have HC : ∀ V, Below w1.heap.size w1 V → V.cell? ⟨S, 2, none⟩ = some (.slice (some ⟨g, 0, none⟩) 1 c) := fun V hV => (h1.below hV).cell2
      have HD : ∀ V, Below w1.heap.size w1 V → V.rangeAt g (36 * 0) (arr8 32 e.f).toList := fun V hV => DsS.idr (es := [e]) (i := 0) (h1.below hV) rfl
      have HX : ∀ V, Below w1.heap.size w1 V → V.rangeAt bx 0 (arr8 32 k).toList := fun V hV => rangeAt_below hrx hV hlx
      have HB : ∀ V, Below w1.heap.size w1 V → V.cell? ⟨g, 36 * 0 + 33, none⟩ = some (.slice A L cA) := fun V hV => by rw [← hD]; exact DsS.row (es := [e]) (i := 0) (h1.below hV) rfl (by decide) (ce_33 e)
      have hcell := h1.cell2
      go_upto_region 4 with (fail)
      by_cases hL0 : (0 : Int) < (L : Int)
      · have hL0n : 0 < L := by omega
        refine wp_region_noPanic ?_
        refine wp_region_held_drew (S := fun V => Below w1.drew.heap.size w1.drew V) (by kernel_rfl) (Below.refl _ _) (fun hHeld => ?_)
        refine held_move 0 (Go.Operand.tmp 0) (some 19) (.pointer (some ⟨S, 0, none⟩)) (by kernel_rfl) (by kernel_rfl) (by kernel_rfl) (by kernel_rfl) (by kernel_rfl) (fun _ _ _ _ _ h => h) hHeld ?_
        refine held_nil 1 (Go.Operand.tmp 19) (some 20) ⟨S, 0, none⟩ (by kernel_rfl) (by kernel_rfl) (by kernel_rfl) (by kernel_rfl) (by kernel_rfl) (fun _ _ _ _ _ h => h) hHeld ?_
        refine held_field 2 90 (Go.Operand.tmp 20) 2 (some 21) (.pointer (some ⟨S, 0, none⟩)) (.pointer (some ⟨S, 2, none⟩)) (by kernel_rfl) (by kernel_rfl) (fun w => by kernel_rfl) (by kernel_rfl) (by kernel_rfl) (by kernel_rfl) (fun _ _ _ _ _ h => h) hHeld ?_
        refine held_cell 3 88 (Go.Operand.tmp 21) (some 22) (.pointer (some ⟨S, 2, none⟩)) (.slice (some ⟨g, 0, none⟩) 1 c) (by kernel_rfl) (by kernel_rfl) (fun V hV => load_dsl _ _ V (HC V (drB hV))) (by kernel_rfl) (by kernel_rfl) (by kernel_rfl) (fun _ _ _ _ _ h => h) hHeld ?_
        refine held_move 4 (Go.Operand.tmp 7) (some 23) (.int .i64 ((0 : Nat) : Int)) (by kernel_rfl) (by kernel_rfl) (by kernel_rfl) (by kernel_rfl) (by kernel_rfl) (fun _ _ _ _ _ h => h) hHeld ?_
        refine held_index 5 88 (Go.Operand.tmp 22) (Go.Operand.tmp 23) (some 24) (.slice (some ⟨g, 0, none⟩) 1 c) (.int .i64 ((0 : Nat) : Int)) (.pointer (some ⟨g, 36 * 0, none⟩)) (by kernel_rfl) (by kernel_rfl) (idx_D g 1 c 0 (by decide)) (by kernel_rfl) (by kernel_rfl) (by kernel_rfl) (fun _ _ _ _ _ h => h) hHeld ?_
        refine held_field 6 92 (Go.Operand.tmp 24) 0 (some 25) (.pointer (some ⟨g, 36 * 0, none⟩)) (.pointer (some ⟨g, 36 * 0, none⟩)) (by kernel_rfl) (by kernel_rfl) (field_D0 g _) (by kernel_rfl) (by kernel_rfl) (by kernel_rfl) (fun _ _ _ _ _ h => h) hHeld ?_
        refine held_cell 7 37 (Go.Operand.tmp 25) (some 26) (.pointer (some ⟨g, 36 * 0, none⟩)) (.agg (arr8 32 e.f)) (by kernel_rfl) (by kernel_rfl) (fun V hV => load_idD _ _ _ V (HD V (drB hV))) (by kernel_rfl) (by kernel_rfl) (by kernel_rfl) (fun _ _ _ _ _ h => h) hHeld ?_
        refine held_cell 8 37 (Go.Operand.tmp 4) (some 27) (.pointer (some ⟨bx, 0, none⟩)) (.agg (arr8 32 k)) (by kernel_rfl) (by kernel_rfl) (fun V hV => load_idD _ _ _ V (HX V (drB hV))) (by kernel_rfl) (by kernel_rfl) (by kernel_rfl) (fun _ _ _ _ _ h => h) hHeld ?_
        refine held_any 9 (Go.Op.binOp Go.BinOp.eql 37 (Go.Operand.tmp 26) (Go.Operand.tmp 27) 37) (some 28) (.bool true) (by kernel_rfl) (by kernel_rfl) (by kernel_rfl) (by kernel_rfl) (fun _ _ _ _ _ h => h) hHeld (fun o ho w hw => exec_eqrow (k := .eql) (cx := arr8 32 e.f) (cy := arr8 32 k) (b := true) (.inl rfl) ho (by kernel_rfl) (by kernel_rfl) (by rw [← his]; exact eq_idsD e.f k w)) ?_
        refine held_move 10 (Go.Operand.tmp 28) (some 29) (.bool true) (by kernel_rfl) (by kernel_rfl) (by kernel_rfl) (by kernel_rfl) (by kernel_rfl) (fun _ _ _ _ _ h => h) hHeld ?_
        refine held_move 11 (Go.Operand.tmp 0) (some 30) (.pointer (some ⟨S, 0, none⟩)) (by kernel_rfl) (by kernel_rfl) (by kernel_rfl) (by kernel_rfl) (by kernel_rfl) (fun _ _ _ _ _ h => h) hHeld ?_
        refine held_nil 12 (Go.Operand.tmp 30) (some 31) ⟨S, 0, none⟩ (by kernel_rfl) (by kernel_rfl) (by kernel_rfl) (by kernel_rfl) (by kernel_rfl) (fun _ _ _ _ _ h => h) hHeld ?_
        refine held_field 13 90 (Go.Operand.tmp 31) 2 (some 32) (.pointer (some ⟨S, 0, none⟩)) (.pointer (some ⟨S, 2, none⟩)) (by kernel_rfl) (by kernel_rfl) (fun w => by kernel_rfl) (by kernel_rfl) (by kernel_rfl) (by kernel_rfl) (fun _ _ _ _ _ h => h) hHeld ?_
        refine held_cell 14 88 (Go.Operand.tmp 32) (some 33) (.pointer (some ⟨S, 2, none⟩)) (.slice (some ⟨g, 0, none⟩) 1 c) (by kernel_rfl) (by kernel_rfl) (fun V hV => load_dsl _ _ V (HC V (drB hV))) (by kernel_rfl) (by kernel_rfl) (by kernel_rfl) (fun _ _ _ _ _ h => h) hHeld ?_
        refine held_move 15 (Go.Operand.tmp 7) (some 34) (.int .i64 ((0 : Nat) : Int)) (by kernel_rfl) (by kernel_rfl) (by kernel_rfl) (by kernel_rfl) (by kernel_rfl) (fun _ _ _ _ _ h => h) hHeld ?_
        refine held_index 16 88 (Go.Operand.tmp 33) (Go.Operand.tmp 34) (some 35) (.slice (some ⟨g, 0, none⟩) 1 c) (.int .i64 ((0 : Nat) : Int)) (.pointer (some ⟨g, 36 * 0, none⟩)) (by kernel_rfl) (by kernel_rfl) (idx_D g 1 c 0 (by decide)) (by kernel_rfl) (by kernel_rfl) (by kernel_rfl) (fun _ _ _ _ _ h => h) hHeld ?_
        refine held_field 17 92 (Go.Operand.tmp 35) 2 (some 36) (.pointer (some ⟨g, 36 * 0, none⟩)) (.pointer (some ⟨g, 36 * 0 + 33, none⟩)) (by kernel_rfl) (by kernel_rfl) (field_D2 g _) (by kernel_rfl) (by kernel_rfl) (by kernel_rfl) (fun _ _ _ _ _ h => h) hHeld ?_
        refine held_cell 18 25 (Go.Operand.tmp 36) (some 37) (.pointer (some ⟨g, 36 * 0 + 33, none⟩)) (.slice A L cA) (by kernel_rfl) (by kernel_rfl) (fun V hV => load_slice g _ V 25 (fun w => by kernel_rfl) _ (HB V (drB hV))) (by kernel_rfl) (by kernel_rfl) (by kernel_rfl) (fun _ _ _ _ _ h => h) hHeld ?_
        refine held_any 19 (Go.Op.call { callee := Go.Callee.builtin Go.Builtin.len, args := #[Go.Operand.tmp 37], argTypes := #[25] }) (some 38) (.int .i64 (L : Int)) (by kernel_rfl) (by kernel_rfl) (by kernel_rfl) (by kernel_rfl) (fun _ _ _ _ _ h => h) hHeld (fun o ho w _ => exec_lenD (vx := .slice A L cA) ho (by kernel_rfl) (fun _ => len_slice _ 5 _ Tryd.underlying25 A L cA _)) ?_
        refine held_bin 20 Go.BinOp.gtr 3 (Go.Operand.tmp 38) (Go.Operand.const (Go.Value.int Go.IntKind.i64 0)) 3 (some 39) (.int .i64 (L : Int)) (Go.Value.int Go.IntKind.i64 0) (.bool true) (by kernel_rfl) (by kernel_rfl) (fun w => by rw [gtr_i64 _ _ _ w _ _, decide_eq_true hL0]) (by kernel_rfl) (by kernel_rfl) (by kernel_rfl) (fun _ _ _ _ _ h => h) hHeld ?_
        refine held_pick 21 (Go.Operand.tmp 29) (Go.Operand.tmp 39) (Go.Operand.const (Go.Value.bool false)) (some 40) true (.bool true) (by kernel_rfl) (by kernel_rfl) (by kernel_rfl) (by kernel_rfl) (by kernel_rfl) (by kernel_rfl) (fun _ _ _ _ _ h => h) hHeld ?_
        refine wpAnyH_done (by kernel_rfl) ?_ _
        refine NoPanic.normal ?_
        try simp only [Act.put, List.setIfInBounds_toArray, List.set_cons_zero, List.set_cons_succ]
        have hb2 : Below w1.heap.size w1 w1.drew := drB (Below.refl _ _)
        have hpL : a % L < L := Nat.mod_lt a hL0n
        obtain ⟨p, hp⟩ : ∃ p, p = a % L := ⟨_, rfl⟩
        obtain ⟨w2, hw2⟩ : ∃ W, W = w1.drew := ⟨_, rfl⟩
        rw [← hw2] at hb2 ⊢
        have hs2 := h1.below hb2
        have hc2 : w2.cell? ⟨S, 2, none⟩ = some (.slice (some ⟨g, 0, none⟩) 1 c) := HC w2 hb2
        have hc33 : w2.cell? ⟨g, 36 * 0 + 33, none⟩ = some (.slice A L cA) := HB w2 hb2
        have hrd : SlRead w2 A (ints .u8 (bys zs)) := by
          have h3 := hs2.byt e (by simp)
          rw [hD, hzs, bys_length, hLz] at h3
          exact own_read h3
        have HBY := Lib.hid (bytes_any A (bys zs) cA w2 hrd (by rw [bys_length]; omega))
        rw [bys_length, hLz] at HBY
        have HS2 := Lib.hid (And.intro hb2 (And.intro hs2 hp))
        clear HC HD HX HB hHeld hw2 hs2 hb2 hrd
        go_upto_region 5 with (fail)
        refine wp_region_lit ?_
        try simp only [put_list, List.set_cons_zero, List.set_cons_succ]
        refine wpList_run (by kernel_rfl) (.pointer (some ⟨S, 0, none⟩)) (w2) (exec_move rfl (by kernel_rfl)) ?_
        try simp only [put_list, List.set_cons_zero, List.set_cons_succ]
        refine wpList_run (by kernel_rfl) (.pointer (some ⟨S, 0, none⟩)) (w2) (exec_nil rfl (by kernel_rfl)) ?_
        try simp only [put_list, List.set_cons_zero, List.set_cons_succ]
        refine wpList_run (by kernel_rfl) (.pointer (some ⟨S, 2, none⟩)) (w2) (exec_field (vx := .pointer (some ⟨S, 0, none⟩)) rfl (by kernel_rfl) (by kernel_rfl)) ?_
        try simp only [put_list, List.set_cons_zero, List.set_cons_succ]
        refine wpList_run (by kernel_rfl) (.slice (some ⟨g, 0, none⟩) 1 c) (w2) (exec_load (vx := .pointer (some ⟨S, 2, none⟩)) rfl (by kernel_rfl) (load_dsl _ _ w2 hc2)) ?_
        try simp only [put_list, List.set_cons_zero, List.set_cons_succ]
        refine wpList_run (by kernel_rfl) (.int .i64 ((0 : Nat) : Int)) (w2) (exec_move rfl (by kernel_rfl)) ?_
        try simp only [put_list, List.set_cons_zero, List.set_cons_succ]
        refine wpList_run (by kernel_rfl) (.pointer (some ⟨g, 36 * 0, none⟩)) (w2) (exec_index (vx := .slice (some ⟨g, 0, none⟩) 1 c) (vy := .int .i64 ((0 : Nat) : Int)) rfl (by kernel_rfl) (idx_D g 1 c 0 (by decide) w2)) ?_
        try simp only [put_list, List.set_cons_zero, List.set_cons_succ]
        refine wpList_run (by kernel_rfl) (.pointer (some ⟨g, 36 * 0 + 33, none⟩)) (w2) (exec_field (vx := .pointer (some ⟨g, 36 * 0, none⟩)) rfl (by kernel_rfl) (field_D2 g _ w2)) ?_
        try simp only [put_list, List.set_cons_zero, List.set_cons_succ]
        refine wpList_run (by kernel_rfl) (.slice A L cA) (w2) (exec_load (vx := .pointer (some ⟨g, 36 * 0 + 33, none⟩)) rfl (by kernel_rfl) (load_slice g _ w2 25 (fun w => by kernel_rfl) _ hc33)) ?_
        refine wpList_call (by kernel_rfl) 31 #[Go.Operand.tmp 48] #[25] #[.slice A L cA] _ rfl (by kernel_rfl) (by kernel_rfl) (HBY.out) ?_
        rintro r w3 ⟨v, rfl, hown, hb3⟩
        obtain ⟨go, co, rfl⟩ : ∃ go co, v = .slice (some ⟨go, 0, none⟩) L co := by
          rcases hown.2 with ⟨_, h0⟩ | ⟨g', c', _, h1, _⟩
          · omega
          · exact ⟨g', c', h1⟩
        refine ⟨_, rfl, ?_⟩
        try simp only [put_list, List.set_cons_zero, List.set_cons_succ]
        refine wpList_run (by kernel_rfl) (.slice (some ⟨go, 0, none⟩) L co) (w3) (exec_assign rfl (by kernel_rfl)) ?_
        refine wpList_nil ?_
        simp only [put_list, List.set_cons_zero, List.set_cons_succ]
        have hrm := fun w => rem_D 3 (Go.Operand.tmp 50) (Go.Operand.tmp 52) a L hL0n (by omega) w
        rw [← hp] at hpL hrm
        have HO := Lib.hid (And.intro hown hb3)
        obtain ⟨z, hz⟩ : ∃ z, zs[p]? = some z := ⟨zs[p]'(by omega), List.getElem?_eq_getElem _⟩
        have hcz : w3.cell? ⟨go, p, none⟩ = some (.int .u8 (n8 z)) := by
          rw [hown.cellAt p (by omega)]
          simp [ints, bys, hz]
        have hfz : w3.frozen? ⟨go, p, none⟩ = false := hown.frozenAt p
        have hp0 : ¬ (p : Int) < 0 := by omega
        clear hown hb3 hc2 hc33 HBY
        go_upto_region 6 with (fail)
        refine wp_region_lit ?_
        try simp only [put_list, List.set_cons_zero, List.set_cons_succ]
        refine wpList_run (by kernel_rfl) (.int .i64 (a : Int)) (w3) (exec_move rfl (by kernel_rfl)) ?_
        try simp only [put_list, List.set_cons_zero, List.set_cons_succ]
        refine wpList_run (by kernel_rfl) (.slice (some ⟨go, 0, none⟩) L co) (w3) (exec_move rfl (by kernel_rfl)) ?_
        try simp only [put_list, List.set_cons_zero, List.set_cons_succ]
        refine wpList_run (by kernel_rfl) (.int .i64 (L : Int)) (w3) (exec_len (x := Go.Operand.tmp 51) (t := 25) (ty := 3) (vx := .slice (some ⟨go, 0, none⟩) L co) (by kernel_rfl) (by kernel_rfl) (by kernel_rfl) (len_slice _ 5 _ Tryd.underlying25 (some ⟨go, 0, none⟩) L co _)) ?_
        try simp only [put_list, List.set_cons_zero, List.set_cons_succ]
        refine wpList_run (by kernel_rfl) (.int .i64 (p : Int)) (w3) (exec_bin (vx := .int .i64 (a : Int)) (vy := .int .i64 (L : Int)) rfl (by kernel_rfl) (hrm w3)) ?_
        try simp only [put_list, List.set_cons_zero, List.set_cons_succ]
        refine wpList_run (by kernel_rfl) (.int .i64 (p : Int)) (w3) (exec_assign rfl (by kernel_rfl)) ?_
        refine wpList_nil ?_
        simp only [put_list, List.set_cons_zero, List.set_cons_succ]
        go_upto_region 7 with (fail)
        refine wp_region_lit ?_
        try simp only [put_list, List.set_cons_zero, List.set_cons_succ]
        refine wpList_run (by kernel_rfl) (.int .i64 (p : Int)) (w3) (exec_move rfl (by kernel_rfl)) ?_
        try simp only [put_list, List.set_cons_zero, List.set_cons_succ]
        refine wpList_run (by kernel_rfl) (.bool false) (w3) (exec_bin (vx := .int .i64 (p : Int)) (vy := Go.Value.int Go.IntKind.i64 0) rfl (by kernel_rfl) (by rw [lss_i64 _ _ _ w3 _ _, decide_eq_false hp0])) ?_
        refine wpList_nil ?_
        simp only [put_list, List.set_cons_zero, List.set_cons_succ]
        go_upto_region 9 with (fail)
        refine wp_region_lit ?_
        try simp only [put_list, List.set_cons_zero, List.set_cons_succ]
        refine wpList_run (by kernel_rfl) (.slice (some ⟨go, 0, none⟩) L co) (w3) (exec_move rfl (by kernel_rfl)) ?_
        try simp only [put_list, List.set_cons_zero, List.set_cons_succ]
        refine wpList_run (by kernel_rfl) (.int .i64 (p : Int)) (w3) (exec_move rfl (by kernel_rfl)) ?_
        try simp only [put_list, List.set_cons_zero, List.set_cons_succ]
        refine wpList_run (by kernel_rfl) (.slice (some ⟨go, 0, none⟩) L co) (w3) (exec_move rfl (by kernel_rfl)) ?_
        try simp only [put_list, List.set_cons_zero, List.set_cons_succ]
        refine wpList_run (by kernel_rfl) (.int .i64 (p : Int)) (w3) (exec_move rfl (by kernel_rfl)) ?_
        try simp only [put_list, List.set_cons_zero, List.set_cons_succ]
        refine wpList_run (by kernel_rfl) (.pointer (some ⟨go, p, none⟩)) (w3) (exec_index (vx := .slice (some ⟨go, 0, none⟩) L co) (vy := .int .i64 (p : Int)) rfl (by kernel_rfl) (idx_u8D go L co p hpL w3)) ?_
        try simp only [put_list, List.set_cons_zero, List.set_cons_succ]
        refine wpList_run (by kernel_rfl) (.int .u8 (n8 z)) (w3) (exec_load (vx := .pointer (some ⟨go, p, none⟩)) rfl (by kernel_rfl) (load_u8D go p w3 hcz)) ?_
        try simp only [put_list, List.set_cons_zero, List.set_cons_succ]
        refine wpList_run (by kernel_rfl) (.int .u8 (n8 (z ^^^ 1#8))) (w3) (exec_bin (vx := .int .u8 (n8 z)) (vy := Go.Value.int Go.IntKind.u8 1) rfl (by kernel_rfl) (xor_u8D _ _ _ z w3)) ?_
        try simp only [put_list, List.set_cons_zero, List.set_cons_succ]
        refine wpList_run (by kernel_rfl) (.pointer (some ⟨go, p, none⟩)) (w3) (exec_index (vx := .slice (some ⟨go, 0, none⟩) L co) (vy := .int .i64 (p : Int)) rfl (by kernel_rfl) (idx_u8D go L co p hpL w3)) ?_
        refine wpList_skip rfl ((w3.setCell ⟨go, p, none⟩ (.int .u8 (n8 (z ^^^ 1#8))))) (exec_store (vx := .pointer (some ⟨go, p, none⟩)) (vy := .int .u8 (n8 (z ^^^ 1#8))) rfl (by kernel_rfl) (store_u8D go p _ w3 hcz hfz)) ?_
        refine wpList_nil ?_
        try simp only [put_list, put_none, List.set_cons_zero, List.set_cons_succ]
        clear hcz hfz hrm hp0
        go_upto_region 10 with (fail)
        obtain ⟨ho4, hg4⟩ := HO.out.1.stored p (.int .u8 (n8 (z ^^^ 1#8)))
        have hb4 := HO.out.2.grown hg4 HO.out.2.size (fun x hx => (HO.out.1.lt x hx).1)
        obtain ⟨w4, hw4⟩ : ∃ W, W = w3.setCell ⟨go, p, none⟩ (.int .u8 (n8 (z ^^^ 1#8))) := ⟨_, rfl⟩
        rw [← hw4] at ho4 hg4 hb4 ⊢
        obtain ⟨ws, hws⟩ : ∃ x, x = zs.set p (z ^^^ 1#8) := ⟨_, rfl⟩
        have hwl : ws.length = L := by rw [hws, List.length_set]; exact hLz
        have hcells : (ints .u8 (bys zs)).set p (.int .u8 (n8 (z ^^^ 1#8))) = ints .u8 (bys ws) := by
          rw [hws]
          simp [ints, bys, List.map_set]
        rw [hcells] at ho4
        have hs4 := HS2.out.2.1.below hb4
        have hc2 := hs4.cell2
        have hc33 : w4.cell? ⟨g, 36 * 0 + 33, none⟩ = some e.D := DsS.row (es := [e]) (i := 0) hs4 rfl (by decide) (ce_33 e)
        have hf33 : w4.frozen? ⟨g, 36 * 0 + 33, none⟩ = false := hs4.own.frozenAt _
        have hBw : B ≤ w2.heap.size := by have h9 := HS2.out.2.1.lt (.inl rfl); omega
        have H4 := Lib.hid (And.intro hs4 (And.intro (ownsRow_lower ho4 hBw) (And.intro hwl hb4)))
        clear ho4 hg4 hb4 hw4 hws hcells hs4 hwl
        refine wp_region_lit ?_
        try simp only [put_list, List.set_cons_zero, List.set_cons_succ]
        refine wpList_run (by kernel_rfl) (.pointer (some ⟨S, 0, none⟩)) (w4) (exec_move rfl (by kernel_rfl)) ?_
        try simp only [put_list, List.set_cons_zero, List.set_cons_succ]
        refine wpList_run (by kernel_rfl) (.pointer (some ⟨S, 0, none⟩)) (w4) (exec_nil rfl (by kernel_rfl)) ?_
        try simp only [put_list, List.set_cons_zero, List.set_cons_succ]
        refine wpList_run (by kernel_rfl) (.pointer (some ⟨S, 2, none⟩)) (w4) (exec_field (vx := .pointer (some ⟨S, 0, none⟩)) rfl (by kernel_rfl) (by kernel_rfl)) ?_
        try simp only [put_list, List.set_cons_zero, List.set_cons_succ]
        refine wpList_run (by kernel_rfl) (.slice (some ⟨g, 0, none⟩) 1 c) (w4) (exec_load (vx := .pointer (some ⟨S, 2, none⟩)) rfl (by kernel_rfl) (load_dsl _ _ w4 hc2)) ?_
        try simp only [put_list, List.set_cons_zero, List.set_cons_succ]
        refine wpList_run (by kernel_rfl) (.int .i64 ((0 : Nat) : Int)) (w4) (exec_move rfl (by kernel_rfl)) ?_
        try simp only [put_list, List.set_cons_zero, List.set_cons_succ]
        refine wpList_run (by kernel_rfl) (.slice (some ⟨go, 0, none⟩) L co) (w4) (exec_move rfl (by kernel_rfl)) ?_
        try simp only [put_list, List.set_cons_zero, List.set_cons_succ]
        refine wpList_run (by kernel_rfl) (.pointer (some ⟨g, 36 * 0, none⟩)) (w4) (exec_index (vx := .slice (some ⟨g, 0, none⟩) 1 c) (vy := .int .i64 ((0 : Nat) : Int)) rfl (by kernel_rfl) (idx_D g 1 c 0 (by decide) w4)) ?_
        try simp only [put_list, List.set_cons_zero, List.set_cons_succ]
        refine wpList_run (by kernel_rfl) (.pointer (some ⟨g, 36 * 0 + 33, none⟩)) (w4) (exec_field (vx := .pointer (some ⟨g, 36 * 0, none⟩)) rfl (by kernel_rfl) (field_D2 g _ w4)) ?_
        refine wpList_skip rfl ((w4.setCell ⟨g, 36 * 0 + 33, none⟩ (.slice (some ⟨go, 0, none⟩) L co))) (exec_store (vx := .pointer (some ⟨g, 36 * 0 + 33, none⟩)) (vy := .slice (some ⟨go, 0, none⟩) L co) rfl (by kernel_rfl) (store_slB g _ _ w4 hc33 hf33)) ?_
        refine wpList_nil ?_
        try simp only [put_list, put_none, List.set_cons_zero, List.set_cons_succ]
        go_wp2_with fail
        go_ret
        obtain ⟨hs4, ho4, hwl, hb4⟩ := H4.out
        obtain ⟨hw1, hw2⟩ := DsS.write (es := [e]) hs4 (i := 0) (e := e) (e' := ⟨e.f, e.n, .slice (some ⟨go, 0, none⟩) L co, bys ws, e.done, e.age⟩) (u := .slice (some ⟨go, 0, none⟩) L co) rfl (j := 33) (by decide) (ce_set33 e _ _) (by show w4.ownsRow B 5 1 _ (bys ws).length _; rw [bys_length, hwl]; exact ho4)
        refine ⟨true, rfl, ⟨.slice (some ⟨go, 0, none⟩) L co, ws, by rw [hwl, hLz], hw1⟩, ?_⟩
        exact ((Turn.of_below ((HB1.out.trans (HS2.out.1.mono HB1.out.size)).trans (hb4.mono (Nat.le_trans HB1.out.size HS2.out.1.size)))).trans hw2 (fun y hy => .inl (.inr (by rw [show y = g from hy]; rfl))))
      · have hLz0 : L = 0 := by omega
        refine wp_region_noPanic ?_
        refine wp_region_held_drew (S := fun V => Below w1.drew.heap.size w1.drew V) (by kernel_rfl) (Below.refl _ _) (fun hHeld => ?_)
        refine held_move 0 (Go.Operand.tmp 0) (some 19) (.pointer (some ⟨S, 0, none⟩)) (by kernel_rfl) (by kernel_rfl) (by kernel_rfl) (by kernel_rfl) (by kernel_rfl) (fun _ _ _ _ _ h => h) hHeld ?_
        refine held_nil 1 (Go.Operand.tmp 19) (some 20) ⟨S, 0, none⟩ (by kernel_rfl) (by kernel_rfl) (by kernel_rfl) (by kernel_rfl) (by kernel_rfl) (fun _ _ _ _ _ h => h) hHeld ?_
        refine held_field 2 90 (Go.Operand.tmp 20) 2 (some 21) (.pointer (some ⟨S, 0, none⟩)) (.pointer (some ⟨S, 2, none⟩)) (by kernel_rfl) (by kernel_rfl) (fun w => by kernel_rfl) (by kernel_rfl) (by kernel_rfl) (by kernel_rfl) (fun _ _ _ _ _ h => h) hHeld ?_
        refine held_cell 3 88 (Go.Operand.tmp 21) (some 22) (.pointer (some ⟨S, 2, none⟩)) (.slice (some ⟨g, 0, none⟩) 1 c) (by kernel_rfl) (by kernel_rfl) (fun V hV => load_dsl _ _ V (HC V (drB hV))) (by kernel_rfl) (by kernel_rfl) (by kernel_rfl) (fun _ _ _ _ _ h => h) hHeld ?_
        refine held_move 4 (Go.Operand.tmp 7) (some 23) (.int .i64 ((0 : Nat) : Int)) (by kernel_rfl) (by kernel_rfl) (by kernel_rfl) (by kernel_rfl) (by kernel_rfl) (fun _ _ _ _ _ h => h) hHeld ?_
        refine held_index 5 88 (Go.Operand.tmp 22) (Go.Operand.tmp 23) (some 24) (.slice (some ⟨g, 0, none⟩) 1 c) (.int .i64 ((0 : Nat) : Int)) (.pointer (some ⟨g, 36 * 0, none⟩)) (by kernel_rfl) (by kernel_rfl) (idx_D g 1 c 0 (by decide)) (by kernel_rfl) (by kernel_rfl) (by kernel_rfl) (fun _ _ _ _ _ h => h) hHeld ?_
        refine held_field 6 92 (Go.Operand.tmp 24) 0 (some 25) (.pointer (some ⟨g, 36 * 0, none⟩)) (.pointer (some ⟨g, 36 * 0, none⟩)) (by kernel_rfl) (by kernel_rfl) (field_D0 g _) (by kernel_rfl) (by kernel_rfl) (by kernel_rfl) (fun _ _ _ _ _ h => h) hHeld ?_
        refine held_cell 7 37 (Go.Operand.tmp 25) (some 26) (.pointer (some ⟨g, 36 * 0, none⟩)) (.agg (arr8 32 e.f)) (by kernel_rfl) (by kernel_rfl) (fun V hV => load_idD _ _ _ V (HD V (drB hV))) (by kernel_rfl) (by kernel_rfl) (by kernel_rfl) (fun _ _ _ _ _ h => h) hHeld ?_
        refine held_cell 8 37 (Go.Operand.tmp 4) (some 27) (.pointer (some ⟨bx, 0, none⟩)) (.agg (arr8 32 k)) (by kernel_rfl) (by kernel_rfl) (fun V hV => load_idD _ _ _ V (HX V (drB hV))) (by kernel_rfl) (by kernel_rfl) (by kernel_rfl) (fun _ _ _ _ _ h => h) hHeld ?_
        refine held_any 9 (Go.Op.binOp Go.BinOp.eql 37 (Go.Operand.tmp 26) (Go.Operand.tmp 27) 37) (some 28) (.bool true) (by kernel_rfl) (by kernel_rfl) (by kernel_rfl) (by kernel_rfl) (fun _ _ _ _ _ h => h) hHeld (fun o ho w hw => exec_eqrow (k := .eql) (cx := arr8 32 e.f) (cy := arr8 32 k) (b := true) (.inl rfl) ho (by kernel_rfl) (by kernel_rfl) (by rw [← his]; exact eq_idsD e.f k w)) ?_
        refine held_move 10 (Go.Operand.tmp 28) (some 29) (.bool true) (by kernel_rfl) (by kernel_rfl) (by kernel_rfl) (by kernel_rfl) (by kernel_rfl) (fun _ _ _ _ _ h => h) hHeld ?_
        refine held_move 11 (Go.Operand.tmp 0) (some 30) (.pointer (some ⟨S, 0, none⟩)) (by kernel_rfl) (by kernel_rfl) (by kernel_rfl) (by kernel_rfl) (by kernel_rfl) (fun _ _ _ _ _ h => h) hHeld ?_
        refine held_nil 12 (Go.Operand.tmp 30) (some 31) ⟨S, 0, none⟩ (by kernel_rfl) (by kernel_rfl) (by kernel_rfl) (by kernel_rfl) (by kernel_rfl) (fun _ _ _ _ _ h => h) hHeld ?_
        refine held_field 13 90 (Go.Operand.tmp 31) 2 (some 32) (.pointer (some ⟨S, 0, none⟩)) (.pointer (some ⟨S, 2, none⟩)) (by kernel_rfl) (by kernel_rfl) (fun w => by kernel_rfl) (by kernel_rfl) (by kernel_rfl) (by kernel_rfl) (fun _ _ _ _ _ h => h) hHeld ?_
        refine held_cell 14 88 (Go.Operand.tmp 32) (some 33) (.pointer (some ⟨S, 2, none⟩)) (.slice (some ⟨g, 0, none⟩) 1 c) (by kernel_rfl) (by kernel_rfl) (fun V hV => load_dsl _ _ V (HC V (drB hV))) (by kernel_rfl) (by kernel_rfl) (by kernel_rfl) (fun _ _ _ _ _ h => h) hHeld ?_
        refine held_move 15 (Go.Operand.tmp 7) (some 34) (.int .i64 ((0 : Nat) : Int)) (by kernel_rfl) (by kernel_rfl) (by kernel_rfl) (by kernel_rfl) (by kernel_rfl) (fun _ _ _ _ _ h => h) hHeld ?_
        refine held_index 16 88 (Go.Operand.tmp 33) (Go.Operand.tmp 34) (some 35) (.slice (some ⟨g, 0, none⟩) 1 c) (.int .i64 ((0 : Nat) : Int)) (.pointer (some ⟨g, 36 * 0, none⟩)) (by kernel_rfl) (by kernel_rfl) (idx_D g 1 c 0 (by decide)) (by kernel_rfl) (by kernel_rfl) (by kernel_rfl) (fun _ _ _ _ _ h => h) hHeld ?_
        refine held_field 17 92 (Go.Operand.tmp 35) 2 (some 36) (.pointer (some ⟨g, 36 * 0, none⟩)) (.pointer (some ⟨g, 36 * 0 + 33, none⟩)) (by kernel_rfl) (by kernel_rfl) (field_D2 g _) (by kernel_rfl) (by kernel_rfl) (by kernel_rfl) (fun _ _ _ _ _ h => h) hHeld ?_
        refine held_cell 18 25 (Go.Operand.tmp 36) (some 37) (.pointer (some ⟨g, 36 * 0 + 33, none⟩)) (.slice A L cA) (by kernel_rfl) (by kernel_rfl) (fun V hV => load_slice g _ V 25 (fun w => by kernel_rfl) _ (HB V (drB hV))) (by kernel_rfl) (by kernel_rfl) (by kernel_rfl) (fun _ _ _ _ _ h => h) hHeld ?_
        refine held_any 19 (Go.Op.call { callee := Go.Callee.builtin Go.Builtin.len, args := #[Go.Operand.tmp 37], argTypes := #[25] }) (some 38) (.int .i64 (L : Int)) (by kernel_rfl) (by kernel_rfl) (by kernel_rfl) (by kernel_rfl) (fun _ _ _ _ _ h => h) hHeld (fun o ho w _ => exec_lenD (vx := .slice A L cA) ho (by kernel_rfl) (fun _ => len_slice _ 5 _ Tryd.underlying25 A L cA _)) ?_
        refine held_bin 20 Go.BinOp.gtr 3 (Go.Operand.tmp 38) (Go.Operand.const (Go.Value.int Go.IntKind.i64 0)) 3 (some 39) (.int .i64 (L : Int)) (Go.Value.int Go.IntKind.i64 0) (.bool false) (by kernel_rfl) (by kernel_rfl) (fun w => by rw [gtr_i64 _ _ _ w _ _, decide_eq_false hL0]) (by kernel_rfl) (by kernel_rfl) (by kernel_rfl) (fun _ _ _ _ _ h => h) hHeld ?_
        refine held_pick 21 (Go.Operand.tmp 29) (Go.Operand.tmp 39) (Go.Operand.const (Go.Value.bool false)) (some 40) true (.bool false) (by kernel_rfl) (by kernel_rfl) (by kernel_rfl) (by kernel_rfl) (by kernel_rfl) (by kernel_rfl) (fun _ _ _ _ _ h => h) hHeld ?_
        refine wpAnyH_done (by kernel_rfl) ?_ _
        refine NoPanic.normal ?_
        try simp only [Act.put, List.setIfInBounds_toArray, List.set_cons_zero, List.set_cons_succ]
        have hbr : Below w1.heap.size w1 w1.drew := drB (Below.refl _ _)
        clear HC HD HX HB hHeld
        go_wp2_with fail
        go_roundw
        case rel => exact .inr ⟨by go_num, hLz0, hbr⟩
        case measure => simp [intOf]
    · have hcell := (h1.below hbr).cell2
      go_wp2_with fail
      go_ret
      have hz0 : zs = [] := List.eq_nil_of_length_eq_zero (by omega)
      have hs := h1.below hbr
      have he : (⟨e.f, e.n, e.D, bys zs, e.done, e.age⟩ : Ds) = e := by rw [← hzs]
      refine ⟨false, rfl, ⟨e.D, zs, rfl, by rw [he]; exact hs⟩, Turn.of_below (HB1.out.trans (hbr.mono HB1.out.size))⟩
end
end Go.Proofs.YtffkjbbhbpaacaaDoor
