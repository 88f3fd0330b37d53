import Derived.Test.YtgdnolondfnbkaaDoorCor
/-
  The document's Reader: Raw, U8, U32.
-/
namespace Go.Proofs.YtgdnolondfnbkaaDoor
open Go.RowKit

section
variable {P : Program} {a : Act} {w : World} {o : Oper}
theorem exec_lenA {x : Operand} {t : TypeId} {vx v : Value} (ho : o.op = .call { callee := .builtin .len, args := #[x], argTypes := #[t] }) (hx : a.eval x = vx)
    (he : ∀ ty, (Builtin.len_ #[t] ty #[vx]).run P w = .ok v w) : (execOp a.eval o).run P w = .ok (.value v) w := exec_len ho rfl hx (he _)
end
section
variable {w : World} {X : Nat} {A : Option Addr} {xs : List Int} {p c : Nat} {pl : Bool} {z : Int}
set_option maxRecDepth 100000 in
set_option maxHeartbeats 1600000 in
theorem draw_neg (h : DrS w X A xs p c 0 pl z) (n : Int) (h0 : n < 0) : Calls Tryd.prog 39 #[.pointer (some ⟨X, 0, none⟩), .int .i64 n] w fun e w' => e = .returned (.slice none 0 0) ∧ DrS w' X A xs p c 102 true p ∧ Turn (· = X) w w' := by
  have c1 := h.r.c1
  go_enter Tryd.func39, Tryd.ntmps39
  go_wp2_with fail
  refine (fail_ok h 102 p (by decide)).mono ?_
  rintro e U ⟨rfl, hU, hT⟩
  have hXl := hU.r.lt
  have HT := Lib.hid hT
  clear h hT c1
  go_upto_region 3 with (fail)
  refine wp_region_noPanic ?_
  refine wp_region_held_drew (S := fun V => Below U.heap.size U V) (by kernel_rfl) (Below.drewNr (w := U) 1) (fun hHeld => ?_)
  refine held_move 0 (Go.Operand.tmp 0) (some 13) (.pointer (some ⟨X, 0, none⟩)) (by kernel_rfl) (by kernel_rfl) (by kernel_rfl) (by kernel_rfl) (by kernel_rfl) (fun _ _ _ _ _ h => h) hHeld ?_
  refine held_call 1 41 #[Go.Operand.tmp 13] #[54] (some 14) #[.pointer (some ⟨X, 0, none⟩)] _ (by kernel_rfl) (by kernel_rfl) (by kernel_rfl) (by kernel_rfl) (fine_no (hU.below hHeld) (by decide)) ?_
  rintro e Y1 ⟨rfl, hbY⟩
  refine ⟨_, rfl, hHeld.trans (hbY.mono hHeld.size), fun hHeld => ?_⟩
  refine held_move 2 (Go.Operand.tmp 14) (some 15) (.bool false) (by kernel_rfl) (by kernel_rfl) (by kernel_rfl) (by kernel_rfl) (by kernel_rfl) (fun _ _ _ _ _ h => h) hHeld ?_
  refine held_off 3 (Go.Op.move (Go.Operand.tmp 1)) (some 16) (by kernel_rfl) (by kernel_rfl) (by kernel_rfl) (by kernel_rfl) (fun _ _ _ _ _ h => h) hHeld ?_
  refine held_off 4 (Go.Op.move (Go.Operand.tmp 0)) (some 17) (by kernel_rfl) (by kernel_rfl) (by kernel_rfl) (by kernel_rfl) (fun _ _ _ _ _ h => h) hHeld ?_
  refine held_off 5 (Go.Op.nilCheck (Go.Operand.tmp 17)) (some 18) (by kernel_rfl) (by kernel_rfl) (by kernel_rfl) (by kernel_rfl) (fun _ _ _ _ _ h => h) hHeld ?_
  refine held_off 6 (Go.Op.fieldAddr 56 (Go.Operand.tmp 18) 0) (some 19) (by kernel_rfl) (by kernel_rfl) (by kernel_rfl) (by kernel_rfl) (fun _ _ _ _ _ h => h) hHeld ?_
  refine held_off 7 (Go.Op.load 27 (Go.Operand.tmp 19)) (some 20) (by kernel_rfl) (by kernel_rfl) (by kernel_rfl) (by kernel_rfl) (fun _ _ _ _ _ h => h) hHeld ?_
  refine held_off 8 (Go.Op.call { callee := Go.Callee.builtin Go.Builtin.len, args := #[Go.Operand.tmp 20], argTypes := #[27] }) (some 21) (by kernel_rfl) (by kernel_rfl) (by kernel_rfl) (by kernel_rfl) (fun _ _ _ _ _ h => h) hHeld ?_
  refine held_off 9 (Go.Op.move (Go.Operand.tmp 0)) (some 22) (by kernel_rfl) (by kernel_rfl) (by kernel_rfl) (by kernel_rfl) (fun _ _ _ _ _ h => h) hHeld ?_
  refine held_off 10 (Go.Op.nilCheck (Go.Operand.tmp 22)) (some 23) (by kernel_rfl) (by kernel_rfl) (by kernel_rfl) (by kernel_rfl) (fun _ _ _ _ _ h => h) hHeld ?_
  refine held_off 11 (Go.Op.fieldAddr 56 (Go.Operand.tmp 23) 1) (some 24) (by kernel_rfl) (by kernel_rfl) (by kernel_rfl) (by kernel_rfl) (fun _ _ _ _ _ h => h) hHeld ?_
  refine held_off 12 (Go.Op.load 3 (Go.Operand.tmp 24)) (some 25) (by kernel_rfl) (by kernel_rfl) (by kernel_rfl) (by kernel_rfl) (fun _ _ _ _ _ h => h) hHeld ?_
  refine held_off 13 (Go.Op.binOp Go.BinOp.sub 3 (Go.Operand.tmp 21) (Go.Operand.tmp 25) 3) (some 26) (by kernel_rfl) (by kernel_rfl) (by kernel_rfl) (by kernel_rfl) (fun _ _ _ _ _ h => h) hHeld ?_
  refine held_off 14 (Go.Op.binOp Go.BinOp.gtr 3 (Go.Operand.tmp 16) (Go.Operand.tmp 26) 3) (some 27) (by kernel_rfl) (by kernel_rfl) (by kernel_rfl) (by kernel_rfl) (fun _ _ _ _ _ h => h) hHeld ?_
  refine held_pick 15 (Go.Operand.tmp 15) (Go.Operand.tmp 27) (Go.Operand.const (Go.Value.bool false)) (some 28) false (Go.Value.bool false) (by kernel_rfl) (by kernel_rfl) (by kernel_rfl) (by kernel_rfl) (by kernel_rfl) (by kernel_rfl) (fun _ _ _ _ _ h => h) hHeld ?_
  refine wpAnyH_done (by kernel_rfl) ?_ _
  refine NoPanic.normal ?_
  simp only [put_list, List.set_cons_zero, List.set_cons_succ]
  have hU2 := hU.below hHeld
  go_wp2_with fail
  refine (fine_no hU2 (by decide)).mono ?_
  rintro e V ⟨rfl, hbV⟩
  have HF := Lib.hid (And.intro (hU2.below hbV) (HT.out.trans (Turn.of_below (F := (· = X)) (hHeld.trans (hbV.mono hHeld.size))) (fun q hq => .inl hq)))
  go_wp2_with fail
  go_ret
  exact ⟨rfl, HF.out⟩
set_option maxRecDepth 100000 in
set_option maxHeartbeats 1600000 in
theorem draw_no (h : DrS w X A xs p c 0 pl z) (hl : xs.length ≤ 100000) (n : Int) (h0 : 0 ≤ n) (hn : (xs.length : Int) - p < n) : Calls Tryd.prog 39 #[.pointer (some ⟨X, 0, none⟩), .int .i64 n] w fun e w' => e = .returned (.slice none 0 0) ∧ DrS w' X A xs p c 103 true p ∧ Turn (· = X) w w' := by
  have u0 := h.r.c0
  have u1 := h.r.c1
  have hXl := h.r.lt
  have hle := h.r.le
  have gtD : decide ((xs.length : Int) - p < n) = true := decide_eq_true hn
  go_enter Tryd.func39, Tryd.ntmps39
  go_upto_region 3 with (fail)
  refine wp_region_noPanic ?_
  refine wp_region_held_drew (S := fun V => Below w.heap.size w V) (by kernel_rfl) (Below.drewNr (w := w) 1) (fun hHeld => ?_)
  refine held_move 0 (Go.Operand.tmp 0) (some 13) (.pointer (some ⟨X, 0, none⟩)) (by kernel_rfl) (by kernel_rfl) (by kernel_rfl) (by kernel_rfl) (by kernel_rfl) (fun _ _ _ _ _ h => h) hHeld ?_
  refine held_call 1 41 #[Go.Operand.tmp 13] #[54] (some 14) #[.pointer (some ⟨X, 0, none⟩)] _ (by kernel_rfl) (by kernel_rfl) (by kernel_rfl) (by kernel_rfl) (fine_yes (h.below hHeld) rfl) ?_
  rintro e Y1 ⟨rfl, hbY⟩
  refine ⟨_, rfl, hHeld.trans (hbY.mono hHeld.size), fun hHeld => ?_⟩
  refine held_move 2 (Go.Operand.tmp 14) (some 15) (.bool true) (by kernel_rfl) (by kernel_rfl) (by kernel_rfl) (by kernel_rfl) (by kernel_rfl) (fun _ _ _ _ _ h => h) hHeld ?_
  refine held_move 3 (Go.Operand.tmp 1) (some 16) (.int .i64 n) (by kernel_rfl) (by kernel_rfl) (by kernel_rfl) (by kernel_rfl) (by kernel_rfl) (fun _ _ _ _ _ h => h) hHeld ?_
  refine held_move 4 (Go.Operand.tmp 0) (some 17) (.pointer (some ⟨X, 0, none⟩)) (by kernel_rfl) (by kernel_rfl) (by kernel_rfl) (by kernel_rfl) (by kernel_rfl) (fun _ _ _ _ _ h => h) hHeld ?_
  refine held_nil 5 (Go.Operand.tmp 17) (some 18) ⟨X, 0, none⟩ (by kernel_rfl) (by kernel_rfl) (by kernel_rfl) (by kernel_rfl) (by kernel_rfl) (fun _ _ _ _ _ h => h) hHeld ?_
  refine held_field 6 56 (Go.Operand.tmp 18) 0 (some 19) (.pointer (some ⟨X, 0, none⟩)) (.pointer (some ⟨X, 0, none⟩)) (by kernel_rfl) (by kernel_rfl) (fun w => by kernel_rfl) (by kernel_rfl) (by kernel_rfl) (by kernel_rfl) (fun _ _ _ _ _ h => h) hHeld ?_
  refine held_cell 7 27 (Go.Operand.tmp 19) (some 20) (.pointer (some ⟨X, 0, none⟩)) (.slice A xs.length c) (by kernel_rfl) (by kernel_rfl) (fun V hV => load_slice X 0 V 27 (fun w => by kernel_rfl) _ ((hV.cell (p := ⟨X, 0, none⟩) hXl).trans u0)) (by kernel_rfl) (by kernel_rfl) (by kernel_rfl) (fun _ _ _ _ _ h => h) hHeld ?_
  refine held_any 8 (Go.Op.call { callee := Go.Callee.builtin Go.Builtin.len, args := #[Go.Operand.tmp 20], argTypes := #[27] }) (some 21) (.int .i64 (xs.length : Int)) (by kernel_rfl) (by kernel_rfl) (by kernel_rfl) (by kernel_rfl) (fun _ _ _ _ _ h => h) hHeld (fun o ho w _ => exec_lenA (vx := .slice A xs.length c) ho (by kernel_rfl) (fun _ => len_slice _ 5 _ Tryd.underlying27 A xs.length c _)) ?_
  refine held_move 9 (Go.Operand.tmp 0) (some 22) (.pointer (some ⟨X, 0, none⟩)) (by kernel_rfl) (by kernel_rfl) (by kernel_rfl) (by kernel_rfl) (by kernel_rfl) (fun _ _ _ _ _ h => h) hHeld ?_
  refine held_nil 10 (Go.Operand.tmp 22) (some 23) ⟨X, 0, none⟩ (by kernel_rfl) (by kernel_rfl) (by kernel_rfl) (by kernel_rfl) (by kernel_rfl) (fun _ _ _ _ _ h => h) hHeld ?_
  refine held_field 11 56 (Go.Operand.tmp 23) 1 (some 24) (.pointer (some ⟨X, 0, none⟩)) (.pointer (some ⟨X, 1, none⟩)) (by kernel_rfl) (by kernel_rfl) (fun w => by kernel_rfl) (by kernel_rfl) (by kernel_rfl) (by kernel_rfl) (fun _ _ _ _ _ h => h) hHeld ?_
  refine held_cell 12 3 (Go.Operand.tmp 24) (some 25) (.pointer (some ⟨X, 1, none⟩)) (.int .i64 (p : Int)) (by kernel_rfl) (by kernel_rfl) (fun V hV => load_i64 X 1 V _ ((hV.cell (p := ⟨X, 1, none⟩) hXl).trans u1)) (by kernel_rfl) (by kernel_rfl) (by kernel_rfl) (fun _ _ _ _ _ h => h) hHeld ?_
  refine held_bin 13 Go.BinOp.sub 3 (Go.Operand.tmp 21) (Go.Operand.tmp 25) 3 (some 26) (.int .i64 (xs.length : Int)) (.int .i64 (p : Int)) (.int .i64 ((xs.length : Int) - p)) (by kernel_rfl) (by kernel_rfl) (fun w => sub_int _ _ _ w _ _ _ rfl (by omega) (by omega)) (by kernel_rfl) (by kernel_rfl) (by kernel_rfl) (fun _ _ _ _ _ h => h) hHeld ?_
  refine held_bin 14 Go.BinOp.gtr 3 (Go.Operand.tmp 16) (Go.Operand.tmp 26) 3 (some 27) (.int .i64 n) (.int .i64 ((xs.length : Int) - p)) (.bool true) (by kernel_rfl) (by kernel_rfl) (fun w => by rw [gtr_i64]; simp only [gtD]) (by kernel_rfl) (by kernel_rfl) (by kernel_rfl) (fun _ _ _ _ _ h => h) hHeld ?_
  refine held_pick 15 (Go.Operand.tmp 15) (Go.Operand.tmp 27) (Go.Operand.const (Go.Value.bool false)) (some 28) true (.bool true) (by kernel_rfl) (by kernel_rfl) (by kernel_rfl) (by kernel_rfl) (by kernel_rfl) (by kernel_rfl) (fun _ _ _ _ _ h => h) hHeld ?_
  refine wpAnyH_done (by kernel_rfl) ?_ _
  refine NoPanic.normal ?_
  simp only [put_list, List.set_cons_zero, List.set_cons_succ]
  have hU := h.below hHeld
  have u1 := hU.r.c1
  have HT := Lib.hid hHeld
  clear h hHeld u0
  go_wp2_with fail
  refine (fail_ok hU 103 p (by decide)).mono ?_
  rintro e U ⟨rfl, hU2, hT⟩
  go_wp2_with fail
  refine (fine_no hU2 (by decide)).mono ?_
  rintro e V ⟨rfl, hbV⟩
  have HF := Lib.hid (And.intro (hU2.below hbV) (((Turn.of_below (F := (· = X)) HT.out).trans hT (fun q hq => .inl hq)).trans (Turn.of_below (F := (· = X)) hbV) (fun q hq => .inl hq)))
  go_wp2_with fail
  go_ret
  exact ⟨rfl, HF.out⟩
set_option maxRecDepth 100000 in
set_option maxHeartbeats 1600000 in
theorem draw_ok (h : DrS w X A xs p c 0 pl z) (hl : xs.length ≤ 100000) (n : Nat) (hp : p + n ≤ xs.length) : Calls Tryd.prog 39 #[.pointer (some ⟨X, 0, none⟩), .int .i64 (n : Int)] w fun e w' => ∃ v, e = .returned v ∧ w'.ownsRow w.heap.size 5 1 v n (ints .u8 ((xs.drop p).take n)) ∧ DrS w' X A xs (p + n) c 0 pl z ∧ Turn (· = X) w w' := by
  have u0 := h.r.c0
  have u1 := h.r.c1
  have hXl := h.r.lt
  have hle := h.r.le
  have gtD : decide ((xs.length : Int) - p < (n : Int)) = false := decide_eq_false (by omega)
  go_enter Tryd.func39, Tryd.ntmps39
  go_upto_region 3 with (fail)
  refine wp_region_noPanic ?_
  refine wp_region_held_drew (S := fun V => Below w.heap.size w V) (by kernel_rfl) (Below.drewNr (w := w) 1) (fun hHeld => ?_)
  refine held_move 0 (Go.Operand.tmp 0) (some 13) (.pointer (some ⟨X, 0, none⟩)) (by kernel_rfl) (by kernel_rfl) (by kernel_rfl) (by kernel_rfl) (by kernel_rfl) (fun _ _ _ _ _ h => h) hHeld ?_
  refine held_call 1 41 #[Go.Operand.tmp 13] #[54] (some 14) #[.pointer (some ⟨X, 0, none⟩)] _ (by kernel_rfl) (by kernel_rfl) (by kernel_rfl) (by kernel_rfl) (fine_yes (h.below hHeld) rfl) ?_
  rintro e Y1 ⟨rfl, hbY⟩
  refine ⟨_, rfl, hHeld.trans (hbY.mono hHeld.size), fun hHeld => ?_⟩
  refine held_move 2 (Go.Operand.tmp 14) (some 15) (.bool true) (by kernel_rfl) (by kernel_rfl) (by kernel_rfl) (by kernel_rfl) (by kernel_rfl) (fun _ _ _ _ _ h => h) hHeld ?_
  refine held_move 3 (Go.Operand.tmp 1) (some 16) (.int .i64 (n : Int)) (by kernel_rfl) (by kernel_rfl) (by kernel_rfl) (by kernel_rfl) (by kernel_rfl) (fun _ _ _ _ _ h => h) hHeld ?_
  refine held_move 4 (Go.Operand.tmp 0) (some 17) (.pointer (some ⟨X, 0, none⟩)) (by kernel_rfl) (by kernel_rfl) (by kernel_rfl) (by kernel_rfl) (by kernel_rfl) (fun _ _ _ _ _ h => h) hHeld ?_
  refine held_nil 5 (Go.Operand.tmp 17) (some 18) ⟨X, 0, none⟩ (by kernel_rfl) (by kernel_rfl) (by kernel_rfl) (by kernel_rfl) (by kernel_rfl) (fun _ _ _ _ _ h => h) hHeld ?_
  refine held_field 6 56 (Go.Operand.tmp 18) 0 (some 19) (.pointer (some ⟨X, 0, none⟩)) (.pointer (some ⟨X, 0, none⟩)) (by kernel_rfl) (by kernel_rfl) (fun w => by kernel_rfl) (by kernel_rfl) (by kernel_rfl) (by kernel_rfl) (fun _ _ _ _ _ h => h) hHeld ?_
  refine held_cell 7 27 (Go.Operand.tmp 19) (some 20) (.pointer (some ⟨X, 0, none⟩)) (.slice A xs.length c) (by kernel_rfl) (by kernel_rfl) (fun V hV => load_slice X 0 V 27 (fun w => by kernel_rfl) _ ((hV.cell (p := ⟨X, 0, none⟩) hXl).trans u0)) (by kernel_rfl) (by kernel_rfl) (by kernel_rfl) (fun _ _ _ _ _ h => h) hHeld ?_
  refine held_any 8 (Go.Op.call { callee := Go.Callee.builtin Go.Builtin.len, args := #[Go.Operand.tmp 20], argTypes := #[27] }) (some 21) (.int .i64 (xs.length : Int)) (by kernel_rfl) (by kernel_rfl) (by kernel_rfl) (by kernel_rfl) (fun _ _ _ _ _ h => h) hHeld (fun o ho w _ => exec_lenA (vx := .slice A xs.length c) ho (by kernel_rfl) (fun _ => len_slice _ 5 _ Tryd.underlying27 A xs.length c _)) ?_
  refine held_move 9 (Go.Operand.tmp 0) (some 22) (.pointer (some ⟨X, 0, none⟩)) (by kernel_rfl) (by kernel_rfl) (by kernel_rfl) (by kernel_rfl) (by kernel_rfl) (fun _ _ _ _ _ h => h) hHeld ?_
  refine held_nil 10 (Go.Operand.tmp 22) (some 23) ⟨X, 0, none⟩ (by kernel_rfl) (by kernel_rfl) (by kernel_rfl) (by kernel_rfl) (by kernel_rfl) (fun _ _ _ _ _ h => h) hHeld ?_
  refine held_field 11 56 (Go.Operand.tmp 23) 1 (some 24) (.pointer (some ⟨X, 0, none⟩)) (.pointer (some ⟨X, 1, none⟩)) (by kernel_rfl) (by kernel_rfl) (fun w => by kernel_rfl) (by kernel_rfl) (by kernel_rfl) (by kernel_rfl) (fun _ _ _ _ _ h => h) hHeld ?_
  refine held_cell 12 3 (Go.Operand.tmp 24) (some 25) (.pointer (some ⟨X, 1, none⟩)) (.int .i64 (p : Int)) (by kernel_rfl) (by kernel_rfl) (fun V hV => load_i64 X 1 V _ ((hV.cell (p := ⟨X, 1, none⟩) hXl).trans u1)) (by kernel_rfl) (by kernel_rfl) (by kernel_rfl) (fun _ _ _ _ _ h => h) hHeld ?_
  refine held_bin 13 Go.BinOp.sub 3 (Go.Operand.tmp 21) (Go.Operand.tmp 25) 3 (some 26) (.int .i64 (xs.length : Int)) (.int .i64 (p : Int)) (.int .i64 ((xs.length : Int) - p)) (by kernel_rfl) (by kernel_rfl) (fun w => sub_int _ _ _ w _ _ _ rfl (by omega) (by omega)) (by kernel_rfl) (by kernel_rfl) (by kernel_rfl) (fun _ _ _ _ _ h => h) hHeld ?_
  refine held_bin 14 Go.BinOp.gtr 3 (Go.Operand.tmp 16) (Go.Operand.tmp 26) 3 (some 27) (.int .i64 (n : Int)) (.int .i64 ((xs.length : Int) - p)) (.bool false) (by kernel_rfl) (by kernel_rfl) (fun w => by rw [gtr_i64]; simp only [gtD]) (by kernel_rfl) (by kernel_rfl) (by kernel_rfl) (fun _ _ _ _ _ h => h) hHeld ?_
  refine held_pick 15 (Go.Operand.tmp 15) (Go.Operand.tmp 27) (Go.Operand.const (Go.Value.bool false)) (some 28) true (.bool false) (by kernel_rfl) (by kernel_rfl) (by kernel_rfl) (by kernel_rfl) (by kernel_rfl) (by kernel_rfl) (fun _ _ _ _ _ h => h) hHeld ?_
  refine wpAnyH_done (by kernel_rfl) ?_ _
  refine NoPanic.normal ?_
  simp only [put_list, List.set_cons_zero, List.set_cons_succ]
  have h1 := h.below hHeld
  have HT := Lib.hid hHeld
  clear h hHeld u0 u1 gtD
  go_wp2_with fail
  refine (fine_yes h1 rfl).mono ?_
  rintro e W1 ⟨rfl, hbV⟩
  have h2 := h1.below hbV
  have HB := Lib.hid (HT.out.trans (hbV.mono HT.out.size))
  have c0 := h2.r.c0
  have c1 := h2.r.c1
  have f1 := h2.r.f
  clear h1 hbV
  go_upto_region 8 with (fail)
  obtain ⟨hmv, hmt⟩ := h2.move (p + n) (by omega)
  rw [show ((p + n : Nat) : Int) = (p : Int) + n from Int.natCast_add p n] at hmv hmt
  refine wp_world (fun V => DrS V X A xs (p + n) c 0 pl z ∧ Turn (· = X) w V) ⟨hmv, (Turn.of_below HB.out).trans hmt (fun q hq => .inl hq)⟩ ?_
  rintro U ⟨hU, hT⟩
  obtain ⟨hsl, hys⟩ := cut_read hU.r.rd hU.r.cl p n hp
  generalize cutA A p c = A2 at *
  generalize c - p = c2 at *
  have hyl : ((xs.drop p).take n).length ≤ 140737488351232 := by simp; omega
  have hyn : ((xs.drop p).take n).length = n := by simp; omega
  obtain ⟨ys, hy0⟩ : ∃ ys, (xs.drop p).take n = ys := ⟨_, rfl⟩
  rw [hy0] at hyl hyn hys
  have HY := Lib.hid hy0
  clear hy0
  have u0 := hU.r.c0
  have u1 : U.cell? ⟨X, 1, none⟩ = some (.int .i64 ((p : Int) + n)) := hU.r.c1
  have hXl := hU.r.lt
  have HF := Lib.hid (And.intro hU hT)
  clear hU hT hmv hmt h2 c0 c1 f1
  subst hyn
  refine wp_region_noPanic ?_
  refine wp_region_held_drew (S := fun V => Below U.heap.size U V) (by kernel_rfl) (Below.drewNr (w := U) 1) (fun hHeld => ?_)
  refine held_move 0 (Go.Operand.tmp 0) (some 47) (.pointer (some ⟨X, 0, none⟩)) (by kernel_rfl) (by kernel_rfl) (by kernel_rfl) (by kernel_rfl) (by kernel_rfl) (fun _ _ _ _ _ h => h) hHeld ?_
  refine held_nil 1 (Go.Operand.tmp 47) (some 48) ⟨X, 0, none⟩ (by kernel_rfl) (by kernel_rfl) (by kernel_rfl) (by kernel_rfl) (by kernel_rfl) (fun _ _ _ _ _ h => h) hHeld ?_
  refine held_field 2 56 (Go.Operand.tmp 48) 0 (some 49) (.pointer (some ⟨X, 0, none⟩)) (.pointer (some ⟨X, 0, none⟩)) (by kernel_rfl) (by kernel_rfl) (fun w => by kernel_rfl) (by kernel_rfl) (by kernel_rfl) (by kernel_rfl) (fun _ _ _ _ _ h => h) hHeld ?_
  refine held_cell 3 27 (Go.Operand.tmp 49) (some 50) (.pointer (some ⟨X, 0, none⟩)) (.slice A xs.length c) (by kernel_rfl) (by kernel_rfl) (fun V hV => load_slice X 0 V 27 (fun w => by kernel_rfl) _ ((hV.cell (p := ⟨X, 0, none⟩) hXl).trans u0)) (by kernel_rfl) (by kernel_rfl) (by kernel_rfl) (fun _ _ _ _ _ h => h) hHeld ?_
  refine held_move 4 (Go.Operand.tmp 0) (some 51) (.pointer (some ⟨X, 0, none⟩)) (by kernel_rfl) (by kernel_rfl) (by kernel_rfl) (by kernel_rfl) (by kernel_rfl) (fun _ _ _ _ _ h => h) hHeld ?_
  refine held_nil 5 (Go.Operand.tmp 51) (some 52) ⟨X, 0, none⟩ (by kernel_rfl) (by kernel_rfl) (by kernel_rfl) (by kernel_rfl) (by kernel_rfl) (fun _ _ _ _ _ h => h) hHeld ?_
  refine held_field 6 56 (Go.Operand.tmp 52) 1 (some 53) (.pointer (some ⟨X, 0, none⟩)) (.pointer (some ⟨X, 1, none⟩)) (by kernel_rfl) (by kernel_rfl) (fun w => by kernel_rfl) (by kernel_rfl) (by kernel_rfl) (by kernel_rfl) (fun _ _ _ _ _ h => h) hHeld ?_
  refine held_cell 7 3 (Go.Operand.tmp 53) (some 54) (.pointer (some ⟨X, 1, none⟩)) (.int .i64 ((p : Int) + ys.length)) (by kernel_rfl) (by kernel_rfl) (fun V hV => load_i64 X 1 V _ ((hV.cell (p := ⟨X, 1, none⟩) hXl).trans u1)) (by kernel_rfl) (by kernel_rfl) (by kernel_rfl) (fun _ _ _ _ _ h => h) hHeld ?_
  refine held_move 8 (Go.Operand.tmp 1) (some 55) (.int .i64 (ys.length : Int)) (by kernel_rfl) (by kernel_rfl) (by kernel_rfl) (by kernel_rfl) (by kernel_rfl) (fun _ _ _ _ _ h => h) hHeld ?_
  refine held_bin 9 Go.BinOp.sub 3 (Go.Operand.tmp 54) (Go.Operand.tmp 55) 3 (some 56) (.int .i64 ((p : Int) + ys.length)) (.int .i64 (ys.length : Int)) (.int .i64 (p : Int)) (by kernel_rfl) (by kernel_rfl) (fun w => sub_int _ _ _ w _ _ _ (by omega) (by omega) (by omega)) (by kernel_rfl) (by kernel_rfl) (by kernel_rfl) (fun _ _ _ _ _ h => h) hHeld ?_
  refine held_move 10 (Go.Operand.tmp 0) (some 57) (.pointer (some ⟨X, 0, none⟩)) (by kernel_rfl) (by kernel_rfl) (by kernel_rfl) (by kernel_rfl) (by kernel_rfl) (fun _ _ _ _ _ h => h) hHeld ?_
  refine held_nil 11 (Go.Operand.tmp 57) (some 58) ⟨X, 0, none⟩ (by kernel_rfl) (by kernel_rfl) (by kernel_rfl) (by kernel_rfl) (by kernel_rfl) (fun _ _ _ _ _ h => h) hHeld ?_
  refine held_field 12 56 (Go.Operand.tmp 58) 1 (some 59) (.pointer (some ⟨X, 0, none⟩)) (.pointer (some ⟨X, 1, none⟩)) (by kernel_rfl) (by kernel_rfl) (fun w => by kernel_rfl) (by kernel_rfl) (by kernel_rfl) (by kernel_rfl) (fun _ _ _ _ _ h => h) hHeld ?_
  refine held_cell 13 3 (Go.Operand.tmp 59) (some 60) (.pointer (some ⟨X, 1, none⟩)) (.int .i64 ((p : Int) + ys.length)) (by kernel_rfl) (by kernel_rfl) (fun V hV => load_i64 X 1 V _ ((hV.cell (p := ⟨X, 1, none⟩) hXl).trans u1)) (by kernel_rfl) (by kernel_rfl) (by kernel_rfl) (fun _ _ _ _ _ h => h) hHeld ?_
  refine held_slice 14 27 (Go.Operand.tmp 50) (some (Go.Operand.tmp 56)) (some (Go.Operand.tmp 60)) none (some 61) (.slice A xs.length c) (some (.int .i64 (p : Int))) (some (.int .i64 ((p : Int) + ys.length))) none (.slice A2 ys.length c2) (by kernel_rfl) (by kernel_rfl) (hsl) (by kernel_rfl) (by kernel_rfl) (by kernel_rfl) (fun _ _ _ _ _ h => h) hHeld ?_
  refine held_call 15 26 #[Go.Operand.tmp 61] #[27] (some 62) #[.slice A2 ys.length c2] _ (by kernel_rfl) (by kernel_rfl) (by kernel_rfl) (by kernel_rfl) (bytes_any A2 ys c2 _ (hys.below hHeld) hyl) ?_
  rintro e Y1 ⟨v1, rfl, hown, hbY⟩
  obtain ⟨Av, cv, rfl, _⟩ := ownsRow_form hown
  refine ⟨_, rfl, hHeld.trans (hbY.mono hHeld.size), fun hHeld => ?_⟩
  refine held_assign 16 (Go.Operand.tmp 62) (some 4) (.slice Av ys.length cv) (by kernel_rfl) (by kernel_rfl) (by kernel_rfl) (by kernel_rfl) (by kernel_rfl) (fun _ _ _ _ _ h => h) hHeld ?_
  refine wpAnyH_done (by kernel_rfl) ?_ _
  refine NoPanic.normal ?_
  simp only [put_list, List.set_cons_zero, List.set_cons_succ]
  go_wp2_with fail
  go_ret
  refine ⟨.slice Av ys.length cv, rfl, ?_, HF.out.1.below hHeld, HF.out.2.trans (Turn.of_below (F := (· = X)) hHeld) (fun q hq => .inl hq)⟩
  rw [HY.out]
  exact ownsRow_lower hown HF.out.2.size
set_option maxRecDepth 100000 in
set_option maxHeartbeats 1600000 in
theorem du32_no (h : DrS w X A xs p c 0 pl z) (hl : xs.length ≤ 100000) (hp : xs.length < p + 4) : Calls Tryd.prog 22 #[.pointer (some ⟨X, 0, none⟩)] w fun e w' => e = .returned (.int .u32 0) ∧ DrS w' X A xs p c 103 true p ∧ Turn (· = X) w w' := by
  have H := draw_no h hl 4 (by omega) (by omega)
  clear h
  go_enter Tryd.func22, Tryd.ntmps22
  go_wp2_with fail
  refine H.mono ?_
  rintro e U ⟨rfl, hF⟩
  have hF := Lib.hid hF
  go_wp2_with fail
  go_ret
  exact ⟨rfl, hF.out⟩
set_option maxRecDepth 100000 in
set_option maxHeartbeats 1600000 in
theorem get32_any (B : Option Addr) (ys : List Int) (cb : Nat) (w : World) (hB : SlRead w B (ints .u8 ys)) (h4 : ys.length = 4) (hx : Byts ys) : Calls Tryd.prog 40 #[.slice B 4 cb] w fun e w' => e = .returned (.int .u32 (wordI ys 0)) ∧ Below w.heap.size w w' := by
  obtain ⟨b, o, rfl, hlt, hc⟩ := hB (by simp; omega)
  have k0 := hc 0 _ (ints_get .u8 ys 0 _ (byteI_get (by omega)))
  have k1 := hc 1 _ (ints_get .u8 ys 1 _ (byteI_get (by omega)))
  have k2 := hc 2 _ (ints_get .u8 ys 2 _ (byteI_get (by omega)))
  have k3 := hc 3 _ (ints_get .u8 ys 3 _ (byteI_get (by omega)))
  rw [Nat.add_zero] at k0
  have r0 := hx.at_ 0
  have r1 := hx.at_ 1
  have r2 := hx.at_ 2
  have r3 := hx.at_ 3
  have HV : Hid (wordI ys 0 = byteI ys 0 + byteI ys 1 * 256 + byteI ys 2 * 65536 + byteI ys 3 * 16777216) := Lib.hid rfl
  generalize byteI ys 0 = x0 at *
  generalize byteI ys 1 = x1 at *
  generalize byteI ys 2 = x2 at *
  generalize byteI ys 3 = x3 at *
  have hor := or4 x0 x1 x2 x3 r0 r1 r2 r3
  have m1 : x1 * 256 % 4294967296 = x1 * 256 := by omega
  have m2 : x2 * 65536 % 4294967296 = x2 * 65536 := by omega
  have m3 : x3 * 16777216 % 4294967296 = x3 * 16777216 := by omega
  clear hc h4
  go_enter Tryd.func40, Tryd.ntmps40
  go_wp2_with fail
  go_quiet (fail)
  go_wp2_with fail
  go_ret
  exact ⟨by rw [HV.out]; rfl, Below.drewNr _⟩
theorem byteI_cut (xs : List Int) (p n j : Nat) (hj : j < n) : byteI ((xs.drop p).take n) j = byteI xs (p + j) := by
  unfold byteI
  simp [List.getD, hj]
set_option maxRecDepth 100000 in
set_option maxHeartbeats 1600000 in
theorem du32_ok (h : DrS w X A xs p c 0 pl z) (hx : Byts xs) (hl : xs.length ≤ 100000) (hp : p + 4 ≤ xs.length) : Calls Tryd.prog 22 #[.pointer (some ⟨X, 0, none⟩)] w fun e w' => e = .returned (.int .u32 (wordI xs p)) ∧ DrS w' X A xs (p + 4) c 0 pl z ∧ Turn (· = X) w w' := by
  have H := draw_ok h hl 4 hp
  clear h
  have hw : wordI ((xs.drop p).take 4) 0 = wordI xs p := by
    unfold wordI
    rw [byteI_cut _ _ _ _ (by omega), byteI_cut _ _ _ _ (by omega), byteI_cut _ _ _ _ (by omega), byteI_cut _ _ _ _ (by omega)]
    rfl
  have hb : Byts ((xs.drop p).take 4) := fun x hxx => hx x (List.mem_of_mem_drop (List.mem_of_mem_take hxx))
  have hn : ((xs.drop p).take 4).length = 4 := by simp; omega
  generalize (xs.drop p).take 4 = ys at *
  have HW := Lib.hid (And.intro hw hn)
  clear hw hn
  go_enter Tryd.func22, Tryd.ntmps22
  go_wp2_with fail
  refine H.mono ?_
  rintro e U ⟨v, rfl, hown, hF⟩
  obtain ⟨A2, c2, rfl, _⟩ := ownsRow_form hown
  have hG := get32_any A2 ys c2 U (SlRead.of_own hown) HW.out.2 hb
  rw [HW.out.1] at hG
  clear hown H
  go_wp2_with fail
  refine hG.mono ?_
  rintro e V ⟨rfl, hbV⟩
  have hF := Lib.hid (And.intro (hF.1.below hbV) (hF.2.trans (Turn.of_below (F := (· = X)) hbV) (fun q hq => .inl hq)))
  go_wp2_with fail
  go_ret
  exact ⟨rfl, hF.out⟩
end
end Go.Proofs.YtgdnolondfnbkaaDoor
