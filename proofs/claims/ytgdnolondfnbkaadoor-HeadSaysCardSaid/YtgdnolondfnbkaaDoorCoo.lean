import Derived.Test.YtgdnolondfnbkaaDoorCos
/-
  The document's Reader: Over.
-/
namespace Go.Proofs.YtgdnolondfnbkaaDoor
open Go.RowKit

section
variable {w : World} {X : Nat} {A : Option Addr} {xs : List Int} {p c : Nat} {pl : Bool} {z : Int}
set_option maxRecDepth 100000 in
set_option maxHeartbeats 1600000 in
theorem over_bad {cc : Int} (h : DrS w X A xs p c cc pl z) (hc : cc ≠ 0) : Calls Tryd.prog 23 #[.pointer (some ⟨X, 0, none⟩)] w fun e w' => e = .returned (.agg (frow cc pl z)) ∧ Turn (· = X) w w' := by
  have hz := heap_alloc_new w (.cells #[.int .i64 0, .bool false, .int .i64 0] 34)
  have hb0 := below_alc w (.cells #[.int .i64 0, .bool false, .int .i64 0] 34)
  have hXw := h.r.lt
  go_enter Tryd.func23, Tryd.ntmps23
  go_upto_region 1 with (fail)
  refine wp_world (fun V => DrS V X A xs p c cc pl z ∧ V.heap[w.heap.size]? = some (.cells #[.int .i64 0, .bool false, .int .i64 0] 34 (0, 0)) ∧ Turn (· = X) w V ∧ V.heap.size = w.heap.size + 1) ⟨h.below hb0, hz, Turn.of_below hb0, by simp⟩ ?_
  rintro U ⟨hU, hzU, hTU, hsU⟩
  have u0 := hU.r.c0
  have u1 := hU.r.c1
  have hXl := hU.r.lt
  have hle := hU.r.le
  clear h hz hb0
  refine wp_region_noPanic ?_
  refine wp_region_held_drew (S := fun V => Below U.heap.size U V) (by kernel_rfl) (Below.drewNr (w := U) 1) (fun hHeld => ?_)
  refine held_move 0 (Go.Operand.tmp 0) (some 3) (.pointer (some ⟨X, 0, none⟩)) (by kernel_rfl) (by kernel_rfl) (by kernel_rfl) (by kernel_rfl) (by kernel_rfl) (fun _ _ _ _ _ h => h) hHeld ?_
  refine held_call 1 41 #[Go.Operand.tmp 3] #[54] (some 4) #[.pointer (some ⟨X, 0, none⟩)] _ (by kernel_rfl) (by kernel_rfl) (by kernel_rfl) (by kernel_rfl) (fine_no (hU.below hHeld) hc) ?_
  rintro e Y1 ⟨rfl, hbY⟩
  refine ⟨_, rfl, hHeld.trans (hbY.mono hHeld.size), fun hHeld => ?_⟩
  refine held_move 2 (Go.Operand.tmp 4) (some 5) (.bool false) (by kernel_rfl) (by kernel_rfl) (by kernel_rfl) (by kernel_rfl) (by kernel_rfl) (fun _ _ _ _ _ h => h) hHeld ?_
  refine held_off 3 (Go.Op.move (Go.Operand.tmp 0)) (some 6) (by kernel_rfl) (by kernel_rfl) (by kernel_rfl) (by kernel_rfl) (fun _ _ _ _ _ h => h) hHeld ?_
  refine held_off 4 (Go.Op.nilCheck (Go.Operand.tmp 6)) (some 7) (by kernel_rfl) (by kernel_rfl) (by kernel_rfl) (by kernel_rfl) (fun _ _ _ _ _ h => h) hHeld ?_
  refine held_off 5 (Go.Op.fieldAddr 56 (Go.Operand.tmp 7) 1) (some 8) (by kernel_rfl) (by kernel_rfl) (by kernel_rfl) (by kernel_rfl) (fun _ _ _ _ _ h => h) hHeld ?_
  refine held_off 6 (Go.Op.load 3 (Go.Operand.tmp 8)) (some 9) (by kernel_rfl) (by kernel_rfl) (by kernel_rfl) (by kernel_rfl) (fun _ _ _ _ _ h => h) hHeld ?_
  refine held_off 7 (Go.Op.move (Go.Operand.tmp 0)) (some 10) (by kernel_rfl) (by kernel_rfl) (by kernel_rfl) (by kernel_rfl) (fun _ _ _ _ _ h => h) hHeld ?_
  refine held_off 8 (Go.Op.nilCheck (Go.Operand.tmp 10)) (some 11) (by kernel_rfl) (by kernel_rfl) (by kernel_rfl) (by kernel_rfl) (fun _ _ _ _ _ h => h) hHeld ?_
  refine held_off 9 (Go.Op.fieldAddr 56 (Go.Operand.tmp 11) 0) (some 12) (by kernel_rfl) (by kernel_rfl) (by kernel_rfl) (by kernel_rfl) (fun _ _ _ _ _ h => h) hHeld ?_
  refine held_off 10 (Go.Op.load 27 (Go.Operand.tmp 12)) (some 13) (by kernel_rfl) (by kernel_rfl) (by kernel_rfl) (by kernel_rfl) (fun _ _ _ _ _ h => h) hHeld ?_
  refine held_off 11 (Go.Op.call { callee := Go.Callee.builtin Go.Builtin.len, args := #[Go.Operand.tmp 13], argTypes := #[27] }) (some 14) (by kernel_rfl) (by kernel_rfl) (by kernel_rfl) (by kernel_rfl) (fun _ _ _ _ _ h => h) hHeld ?_
  refine held_off 12 (Go.Op.binOp Go.BinOp.lss 3 (Go.Operand.tmp 9) (Go.Operand.tmp 14) 3) (some 15) (by kernel_rfl) (by kernel_rfl) (by kernel_rfl) (by kernel_rfl) (fun _ _ _ _ _ h => h) hHeld ?_
  refine held_pick 13 (Go.Operand.tmp 5) (Go.Operand.tmp 15) (Go.Operand.const (Go.Value.bool false)) (some 16) false (Go.Value.bool false) (by kernel_rfl) (by kernel_rfl) (by kernel_rfl) (by kernel_rfl) (by kernel_rfl) (by kernel_rfl) (fun _ _ _ _ _ h => h) hHeld ?_
  refine wpAnyH_done (by kernel_rfl) ?_ _
  refine NoPanic.normal ?_
  simp only [put_list, List.set_cons_zero, List.set_cons_succ]
  have h3 := hU.below hHeld
  have hz3 := (hHeld.block w.heap.size (by omega)).trans hzU
  have hT3 := hTU.trans (Turn.of_below (F := (· = X)) hHeld) (fun q hq => .inl hq)
  have hst : Turn (· = X) w (Y1.setRow w.heap.size (frow cc pl z)) := ⟨hT3.os, hT3.tape, hT3.output, by simpa [World.setRow] using hT3.size, fun q hq hF => (setRow_other Y1 w.heap.size q _ (by omega)).trans (hT3.block q hq hF)⟩
  have HF := Lib.hid hst
  clear hst hT3 hTU hzU hU u0 u1
  have hq := h3.b
  go_wp2_with (first | (refine wpList_load_mid rfl 34 _ rfl X 2 rfl _ _ hq Tryd.underlying34 rfl (info_F _ _ _) ?_) | (refine wpList_store_row rfl 34 _ _ rfl w.heap.size (frow cc pl z) rfl rfl _ _ hz3 (by kernel_rfl) rfl (frow_one _ _ _) ?_))
  refine bodyPost_ret (results_cell_row rfl _ _ _ _ _ _ _ rfl (setRow_heap _ _ _ _ _ _ hz3) Tryd.underlying34 rfl (by kernel_rfl)) rfl ?_
  exact ⟨rfl, HF.out⟩
set_option maxRecDepth 100000 in
set_option maxHeartbeats 1600000 in
theorem over_end (h : DrS w X A xs p c 0 pl z) (hp : xs.length ≤ p) : Calls Tryd.prog 23 #[.pointer (some ⟨X, 0, none⟩)] w fun e w' => e = .returned (.agg (frow 0 pl z)) ∧ Turn (· = X) w w' := by
  have hz := heap_alloc_new w (.cells #[.int .i64 0, .bool false, .int .i64 0] 34)
  have hb0 := below_alc w (.cells #[.int .i64 0, .bool false, .int .i64 0] 34)
  have hXw := h.r.lt
  go_enter Tryd.func23, Tryd.ntmps23
  go_upto_region 1 with (fail)
  refine wp_world (fun V => DrS V X A xs p c 0 pl z ∧ V.heap[w.heap.size]? = some (.cells #[.int .i64 0, .bool false, .int .i64 0] 34 (0, 0)) ∧ Turn (· = X) w V ∧ V.heap.size = w.heap.size + 1) ⟨h.below hb0, hz, Turn.of_below hb0, by simp⟩ ?_
  rintro U ⟨hU, hzU, hTU, hsU⟩
  have u0 := hU.r.c0
  have u1 := hU.r.c1
  have hXl := hU.r.lt
  have hle := hU.r.le
  clear h hz hb0
  have gtD : decide ((p : Int) < (xs.length : Int)) = false := decide_eq_false (by omega)
  refine wp_region_noPanic ?_
  refine wp_region_held_drew (S := fun V => Below U.heap.size U V) (by kernel_rfl) (Below.drewNr (w := U) 1) (fun hHeld => ?_)
  refine held_move 0 (Go.Operand.tmp 0) (some 3) (.pointer (some ⟨X, 0, none⟩)) (by kernel_rfl) (by kernel_rfl) (by kernel_rfl) (by kernel_rfl) (by kernel_rfl) (fun _ _ _ _ _ h => h) hHeld ?_
  refine held_call 1 41 #[Go.Operand.tmp 3] #[54] (some 4) #[.pointer (some ⟨X, 0, none⟩)] _ (by kernel_rfl) (by kernel_rfl) (by kernel_rfl) (by kernel_rfl) (fine_yes (hU.below hHeld) rfl) ?_
  rintro e Y1 ⟨rfl, hbY⟩
  refine ⟨_, rfl, hHeld.trans (hbY.mono hHeld.size), fun hHeld => ?_⟩
  refine held_move 2 (Go.Operand.tmp 4) (some 5) (.bool true) (by kernel_rfl) (by kernel_rfl) (by kernel_rfl) (by kernel_rfl) (by kernel_rfl) (fun _ _ _ _ _ h => h) hHeld ?_
  refine held_move 3 (Go.Operand.tmp 0) (some 6) (.pointer (some ⟨X, 0, none⟩)) (by kernel_rfl) (by kernel_rfl) (by kernel_rfl) (by kernel_rfl) (by kernel_rfl) (fun _ _ _ _ _ h => h) hHeld ?_
  refine held_nil 4 (Go.Operand.tmp 6) (some 7) ⟨X, 0, none⟩ (by kernel_rfl) (by kernel_rfl) (by kernel_rfl) (by kernel_rfl) (by kernel_rfl) (fun _ _ _ _ _ h => h) hHeld ?_
  refine held_field 5 56 (Go.Operand.tmp 7) 1 (some 8) (.pointer (some ⟨X, 0, none⟩)) (.pointer (some ⟨X, 1, none⟩)) (by kernel_rfl) (by kernel_rfl) (fun w => by kernel_rfl) (by kernel_rfl) (by kernel_rfl) (by kernel_rfl) (fun _ _ _ _ _ h => h) hHeld ?_
  refine held_cell 6 3 (Go.Operand.tmp 8) (some 9) (.pointer (some ⟨X, 1, none⟩)) (.int .i64 (p : Int)) (by kernel_rfl) (by kernel_rfl) (fun V hV => load_i64 X 1 V _ ((hV.cell (p := ⟨X, 1, none⟩) hXl).trans u1)) (by kernel_rfl) (by kernel_rfl) (by kernel_rfl) (fun _ _ _ _ _ h => h) hHeld ?_
  refine held_move 7 (Go.Operand.tmp 0) (some 10) (.pointer (some ⟨X, 0, none⟩)) (by kernel_rfl) (by kernel_rfl) (by kernel_rfl) (by kernel_rfl) (by kernel_rfl) (fun _ _ _ _ _ h => h) hHeld ?_
  refine held_nil 8 (Go.Operand.tmp 10) (some 11) ⟨X, 0, none⟩ (by kernel_rfl) (by kernel_rfl) (by kernel_rfl) (by kernel_rfl) (by kernel_rfl) (fun _ _ _ _ _ h => h) hHeld ?_
  refine held_field 9 56 (Go.Operand.tmp 11) 0 (some 12) (.pointer (some ⟨X, 0, none⟩)) (.pointer (some ⟨X, 0, none⟩)) (by kernel_rfl) (by kernel_rfl) (fun w => by kernel_rfl) (by kernel_rfl) (by kernel_rfl) (by kernel_rfl) (fun _ _ _ _ _ h => h) hHeld ?_
  refine held_cell 10 27 (Go.Operand.tmp 12) (some 13) (.pointer (some ⟨X, 0, none⟩)) (.slice A xs.length c) (by kernel_rfl) (by kernel_rfl) (fun V hV => load_slice X 0 V 27 (fun w => by kernel_rfl) _ ((hV.cell (p := ⟨X, 0, none⟩) hXl).trans u0)) (by kernel_rfl) (by kernel_rfl) (by kernel_rfl) (fun _ _ _ _ _ h => h) hHeld ?_
  refine held_any 11 (Go.Op.call { callee := Go.Callee.builtin Go.Builtin.len, args := #[Go.Operand.tmp 13], argTypes := #[27] }) (some 14) (.int .i64 (xs.length : Int)) (by kernel_rfl) (by kernel_rfl) (by kernel_rfl) (by kernel_rfl) (fun _ _ _ _ _ h => h) hHeld (fun o ho w _ => exec_lenA (vx := .slice A xs.length c) ho (by kernel_rfl) (fun _ => len_slice _ 5 _ Tryd.underlying27 A xs.length c _)) ?_
  refine held_bin 12 Go.BinOp.lss 3 (Go.Operand.tmp 9) (Go.Operand.tmp 14) 3 (some 15) (.int .i64 (p : Int)) (.int .i64 (xs.length : Int)) (.bool false) (by kernel_rfl) (by kernel_rfl) (fun w => by rw [lss_i64]; simp only [gtD]) (by kernel_rfl) (by kernel_rfl) (by kernel_rfl) (fun _ _ _ _ _ h => h) hHeld ?_
  refine held_pick 13 (Go.Operand.tmp 5) (Go.Operand.tmp 15) (Go.Operand.const (Go.Value.bool false)) (some 16) true (.bool false) (by kernel_rfl) (by kernel_rfl) (by kernel_rfl) (by kernel_rfl) (by kernel_rfl) (by kernel_rfl) (fun _ _ _ _ _ h => h) hHeld ?_
  refine wpAnyH_done (by kernel_rfl) ?_ _
  refine NoPanic.normal ?_
  simp only [put_list, List.set_cons_zero, List.set_cons_succ]
  have h3 := hU.below hHeld
  have hz3 := (hHeld.block w.heap.size (by omega)).trans hzU
  have hT3 := hTU.trans (Turn.of_below (F := (· = X)) hHeld) (fun q hq => .inl hq)
  have hst : Turn (· = X) w (Y1.setRow w.heap.size (frow 0 pl z)) := ⟨hT3.os, hT3.tape, hT3.output, by simpa [World.setRow] using hT3.size, fun q hq hF => (setRow_other Y1 w.heap.size q _ (by omega)).trans (hT3.block q hq hF)⟩
  have HF := Lib.hid hst
  clear hst hT3 hTU hzU hU u0 u1
  have hq := h3.b
  go_wp2_with (first | (refine wpList_load_mid rfl 34 _ rfl X 2 rfl _ _ hq Tryd.underlying34 rfl (info_F _ _ _) ?_) | (refine wpList_store_row rfl 34 _ _ rfl w.heap.size (frow 0 pl z) rfl rfl _ _ hz3 (by kernel_rfl) rfl (frow_one _ _ _) ?_))
  refine bodyPost_ret (results_cell_row rfl _ _ _ _ _ _ _ rfl (setRow_heap _ _ _ _ _ _ hz3) Tryd.underlying34 rfl (by kernel_rfl)) rfl ?_
  exact ⟨rfl, HF.out⟩
set_option maxRecDepth 100000 in
set_option maxHeartbeats 1600000 in
theorem over_trail (h : DrS w X A xs p c 0 pl z) (hp : p < xs.length) : Calls Tryd.prog 23 #[.pointer (some ⟨X, 0, none⟩)] w fun e w' => e = .returned (.agg (frow 104 true p)) ∧ Turn (· = X) w w' := by
  have hz := heap_alloc_new w (.cells #[.int .i64 0, .bool false, .int .i64 0] 34)
  have hb0 := below_alc w (.cells #[.int .i64 0, .bool false, .int .i64 0] 34)
  have hXw := h.r.lt
  go_enter Tryd.func23, Tryd.ntmps23
  go_upto_region 1 with (fail)
  refine wp_world (fun V => DrS V X A xs p c 0 pl z ∧ V.heap[w.heap.size]? = some (.cells #[.int .i64 0, .bool false, .int .i64 0] 34 (0, 0)) ∧ Turn (· = X) w V ∧ V.heap.size = w.heap.size + 1) ⟨h.below hb0, hz, Turn.of_below hb0, by simp⟩ ?_
  rintro U ⟨hU, hzU, hTU, hsU⟩
  have u0 := hU.r.c0
  have u1 := hU.r.c1
  have hXl := hU.r.lt
  have hle := hU.r.le
  clear h hz hb0
  have gtD : decide ((p : Int) < (xs.length : Int)) = true := decide_eq_true (by omega)
  refine wp_region_noPanic ?_
  refine wp_region_held_drew (S := fun V => Below U.heap.size U V) (by kernel_rfl) (Below.drewNr (w := U) 1) (fun hHeld => ?_)
  refine held_move 0 (Go.Operand.tmp 0) (some 3) (.pointer (some ⟨X, 0, none⟩)) (by kernel_rfl) (by kernel_rfl) (by kernel_rfl) (by kernel_rfl) (by kernel_rfl) (fun _ _ _ _ _ h => h) hHeld ?_
  refine held_call 1 41 #[Go.Operand.tmp 3] #[54] (some 4) #[.pointer (some ⟨X, 0, none⟩)] _ (by kernel_rfl) (by kernel_rfl) (by kernel_rfl) (by kernel_rfl) (fine_yes (hU.below hHeld) rfl) ?_
  rintro e Y1 ⟨rfl, hbY⟩
  refine ⟨_, rfl, hHeld.trans (hbY.mono hHeld.size), fun hHeld => ?_⟩
  refine held_move 2 (Go.Operand.tmp 4) (some 5) (.bool true) (by kernel_rfl) (by kernel_rfl) (by kernel_rfl) (by kernel_rfl) (by kernel_rfl) (fun _ _ _ _ _ h => h) hHeld ?_
  refine held_move 3 (Go.Operand.tmp 0) (some 6) (.pointer (some ⟨X, 0, none⟩)) (by kernel_rfl) (by kernel_rfl) (by kernel_rfl) (by kernel_rfl) (by kernel_rfl) (fun _ _ _ _ _ h => h) hHeld ?_
  refine held_nil 4 (Go.Operand.tmp 6) (some 7) ⟨X, 0, none⟩ (by kernel_rfl) (by kernel_rfl) (by kernel_rfl) (by kernel_rfl) (by kernel_rfl) (fun _ _ _ _ _ h => h) hHeld ?_
  refine held_field 5 56 (Go.Operand.tmp 7) 1 (some 8) (.pointer (some ⟨X, 0, none⟩)) (.pointer (some ⟨X, 1, none⟩)) (by kernel_rfl) (by kernel_rfl) (fun w => by kernel_rfl) (by kernel_rfl) (by kernel_rfl) (by kernel_rfl) (fun _ _ _ _ _ h => h) hHeld ?_
  refine held_cell 6 3 (Go.Operand.tmp 8) (some 9) (.pointer (some ⟨X, 1, none⟩)) (.int .i64 (p : Int)) (by kernel_rfl) (by kernel_rfl) (fun V hV => load_i64 X 1 V _ ((hV.cell (p := ⟨X, 1, none⟩) hXl).trans u1)) (by kernel_rfl) (by kernel_rfl) (by kernel_rfl) (fun _ _ _ _ _ h => h) hHeld ?_
  refine held_move 7 (Go.Operand.tmp 0) (some 10) (.pointer (some ⟨X, 0, none⟩)) (by kernel_rfl) (by kernel_rfl) (by kernel_rfl) (by kernel_rfl) (by kernel_rfl) (fun _ _ _ _ _ h => h) hHeld ?_
  refine held_nil 8 (Go.Operand.tmp 10) (some 11) ⟨X, 0, none⟩ (by kernel_rfl) (by kernel_rfl) (by kernel_rfl) (by kernel_rfl) (by kernel_rfl) (fun _ _ _ _ _ h => h) hHeld ?_
  refine held_field 9 56 (Go.Operand.tmp 11) 0 (some 12) (.pointer (some ⟨X, 0, none⟩)) (.pointer (some ⟨X, 0, none⟩)) (by kernel_rfl) (by kernel_rfl) (fun w => by kernel_rfl) (by kernel_rfl) (by kernel_rfl) (by kernel_rfl) (fun _ _ _ _ _ h => h) hHeld ?_
  refine held_cell 10 27 (Go.Operand.tmp 12) (some 13) (.pointer (some ⟨X, 0, none⟩)) (.slice A xs.length c) (by kernel_rfl) (by kernel_rfl) (fun V hV => load_slice X 0 V 27 (fun w => by kernel_rfl) _ ((hV.cell (p := ⟨X, 0, none⟩) hXl).trans u0)) (by kernel_rfl) (by kernel_rfl) (by kernel_rfl) (fun _ _ _ _ _ h => h) hHeld ?_
  refine held_any 11 (Go.Op.call { callee := Go.Callee.builtin Go.Builtin.len, args := #[Go.Operand.tmp 13], argTypes := #[27] }) (some 14) (.int .i64 (xs.length : Int)) (by kernel_rfl) (by kernel_rfl) (by kernel_rfl) (by kernel_rfl) (fun _ _ _ _ _ h => h) hHeld (fun o ho w _ => exec_lenA (vx := .slice A xs.length c) ho (by kernel_rfl) (fun _ => len_slice _ 5 _ Tryd.underlying27 A xs.length c _)) ?_
  refine held_bin 12 Go.BinOp.lss 3 (Go.Operand.tmp 9) (Go.Operand.tmp 14) 3 (some 15) (.int .i64 (p : Int)) (.int .i64 (xs.length : Int)) (.bool true) (by kernel_rfl) (by kernel_rfl) (fun w => by rw [lss_i64]; simp only [gtD]) (by kernel_rfl) (by kernel_rfl) (by kernel_rfl) (fun _ _ _ _ _ h => h) hHeld ?_
  refine held_pick 13 (Go.Operand.tmp 5) (Go.Operand.tmp 15) (Go.Operand.const (Go.Value.bool false)) (some 16) true (.bool true) (by kernel_rfl) (by kernel_rfl) (by kernel_rfl) (by kernel_rfl) (by kernel_rfl) (by kernel_rfl) (fun _ _ _ _ _ h => h) hHeld ?_
  refine wpAnyH_done (by kernel_rfl) ?_ _
  refine NoPanic.normal ?_
  simp only [put_list, List.set_cons_zero, List.set_cons_succ]
  have h2 := hU.below hHeld
  have u1 := h2.r.c1
  have hz2 := (hHeld.block w.heap.size (by omega)).trans hzU
  have hT2 := hTU.trans (Turn.of_below (F := (· = X)) hHeld) (fun q hq => .inl hq)
  have hY := hHeld.size
  clear hU u0 hzU hTU hHeld gtD
  go_wp2_with fail
  refine (fail_ok h2 104 p (by decide)).mono ?_
  rintro e W3 ⟨rfl, h3, ht3⟩
  have hz3 := (ht3.block w.heap.size (by omega) (by omega)).trans hz2
  have hT3 := hT2.trans ht3 (fun q hq => .inl hq)
  have hst : Turn (· = X) w (W3.setRow w.heap.size (frow 104 true p)) := ⟨hT3.os, hT3.tape, hT3.output, by simpa [World.setRow] using hT3.size, fun q hq hF => (setRow_other W3 w.heap.size q _ (by omega)).trans (hT3.block q hq hF)⟩
  have HF := Lib.hid hst
  clear hst hT3 hT2 hz2 h2 ht3 u1
  have hq := h3.b
  go_wp2_with (first | (refine wpList_load_mid rfl 34 _ rfl X 2 rfl _ _ hq Tryd.underlying34 rfl (info_F _ _ _) ?_) | (refine wpList_store_row rfl 34 _ _ rfl w.heap.size (frow 104 true p) rfl rfl _ _ hz3 (by kernel_rfl) rfl (frow_one _ _ _) ?_))
  refine bodyPost_ret (results_cell_row rfl _ _ _ _ _ _ _ rfl (setRow_heap _ _ _ _ _ _ hz3) Tryd.underlying34 rfl (by kernel_rfl)) rfl ?_
  exact ⟨rfl, HF.out⟩
end
end Go.Proofs.YtgdnolondfnbkaaDoor
