import Derived.Test.YtjgjaefbbhffbaaDoorCos
/-
  The document's Reader: List, Bool, Over.
-/
namespace Go.Proofs.YtjgjaefbbhffbaaDoor
open Go.RowKit

theorem cvt_u32k (n : Int) (h : 0 ≤ n ∧ n < 4294967296) (w : World) : (convert 35 3 (.int .u32 n)).run Tryd.prog w = .ok (.int .i64 n) w := by
  have h1 := Tryd.underlying35
  have h2 := Tryd.underlying3
  have e : IntKind.i64.wrap n = n := IntWalk.i64_in _ (by omega)
  simp [convert, run_underlying h1, run_underlying h2, Conv.intToInt, e]
section
variable {w : World} {X : Nat} {A : Option Addr} {xs : List Int} {p c : Nat} {pl : Bool} {z : Int}
set_option maxRecDepth 100000 in
set_option maxHeartbeats 1600000 in
theorem dlist_no4 (h : DrS w X A xs p c 0 pl z) (hl : xs.length ≤ 100000) (m : Int) (hp : xs.length < p + 4) : Calls Tryd.prog 29 #[.pointer (some ⟨X, 0, none⟩), .int .i64 m] w fun e w' => e = .returned (.slice none 0 0) ∧ DrS w' X A xs p c 103 true p ∧ Turn (· = X) w w' := by
  have H := du32_no h hl hp
  have c1 := h.r.c1
  clear h
  go_enter Tryd.func29, Tryd.ntmps29
  go_wp2_with fail
  refine H.mono ?_
  rintro e W1 ⟨rfl, h1, ht1⟩
  go_wp2_with fail
  refine (fine_no h1 (by decide)).mono ?_
  rintro e W2 ⟨rfl, hb2⟩
  have h2 := h1.below hb2
  have HT := Lib.hid (ht1.trans (Turn.of_below (F := (· = X)) hb2) (fun q hq => .inl hq))
  clear h1 ht1 hb2
  go_upto_region 5 with (fail)
  have hwd : (0 : Int) ≤ 0 ∧ (0 : Int) < 4294967296 := by decide
  refine wp_region_noPanic ?_
  refine wp_region_held_drew (S := fun V => Below W2.heap.size W2 V) (by kernel_rfl) (Below.drewNr (w := W2) 1) (fun hHeld => ?_)
  refine held_move 0 (Go.Operand.tmp 0) (some 24) (.pointer (some ⟨X, 0, none⟩)) (by kernel_rfl) (by kernel_rfl) (by kernel_rfl) (by kernel_rfl) (by kernel_rfl) (fun _ _ _ _ _ h => h) hHeld ?_
  refine held_call 1 33 #[Go.Operand.tmp 24] #[40] (some 25) #[.pointer (some ⟨X, 0, none⟩)] _ (by kernel_rfl) (by kernel_rfl) (by kernel_rfl) (by kernel_rfl) (fine_no (h2.below hHeld) (by decide)) ?_
  rintro e Y1 ⟨rfl, hbY⟩
  refine ⟨_, rfl, hHeld.trans (hbY.mono hHeld.size), fun hHeld => ?_⟩
  refine held_move 2 (Go.Operand.tmp 25) (some 26) (.bool false) (by kernel_rfl) (by kernel_rfl) (by kernel_rfl) (by kernel_rfl) (by kernel_rfl) (fun _ _ _ _ _ h => h) hHeld ?_
  refine held_off 3 (Go.Op.move (Go.Operand.tmp 6)) (some 27) (by kernel_rfl) (by kernel_rfl) (by kernel_rfl) (by kernel_rfl) (fun _ _ _ _ _ h => h) hHeld ?_
  refine held_off 4 (Go.Op.convert 35 3 (Go.Operand.tmp 27)) (some 28) (by kernel_rfl) (by kernel_rfl) (by kernel_rfl) (by kernel_rfl) (fun _ _ _ _ _ h => h) hHeld ?_
  refine held_off 5 (Go.Op.move (Go.Operand.tmp 0)) (some 29) (by kernel_rfl) (by kernel_rfl) (by kernel_rfl) (by kernel_rfl) (fun _ _ _ _ _ h => h) hHeld ?_
  refine held_off 6 (Go.Op.nilCheck (Go.Operand.tmp 29)) (some 30) (by kernel_rfl) (by kernel_rfl) (by kernel_rfl) (by kernel_rfl) (fun _ _ _ _ _ h => h) hHeld ?_
  refine held_off 7 (Go.Op.fieldAddr 44 (Go.Operand.tmp 30) 0) (some 31) (by kernel_rfl) (by kernel_rfl) (by kernel_rfl) (by kernel_rfl) (fun _ _ _ _ _ h => h) hHeld ?_
  refine held_off 8 (Go.Op.load 23 (Go.Operand.tmp 31)) (some 32) (by kernel_rfl) (by kernel_rfl) (by kernel_rfl) (by kernel_rfl) (fun _ _ _ _ _ h => h) hHeld ?_
  refine held_off 9 (Go.Op.call { callee := Go.Callee.builtin Go.Builtin.len, args := #[Go.Operand.tmp 32], argTypes := #[23] }) (some 33) (by kernel_rfl) (by kernel_rfl) (by kernel_rfl) (by kernel_rfl) (fun _ _ _ _ _ h => h) hHeld ?_
  refine held_off 10 (Go.Op.move (Go.Operand.tmp 0)) (some 34) (by kernel_rfl) (by kernel_rfl) (by kernel_rfl) (by kernel_rfl) (fun _ _ _ _ _ h => h) hHeld ?_
  refine held_off 11 (Go.Op.nilCheck (Go.Operand.tmp 34)) (some 35) (by kernel_rfl) (by kernel_rfl) (by kernel_rfl) (by kernel_rfl) (fun _ _ _ _ _ h => h) hHeld ?_
  refine held_off 12 (Go.Op.fieldAddr 44 (Go.Operand.tmp 35) 1) (some 36) (by kernel_rfl) (by kernel_rfl) (by kernel_rfl) (by kernel_rfl) (fun _ _ _ _ _ h => h) hHeld ?_
  refine held_off 13 (Go.Op.load 3 (Go.Operand.tmp 36)) (some 37) (by kernel_rfl) (by kernel_rfl) (by kernel_rfl) (by kernel_rfl) (fun _ _ _ _ _ h => h) hHeld ?_
  refine held_off 14 (Go.Op.binOp Go.BinOp.sub 3 (Go.Operand.tmp 33) (Go.Operand.tmp 37) 3) (some 38) (by kernel_rfl) (by kernel_rfl) (by kernel_rfl) (by kernel_rfl) (fun _ _ _ _ _ h => h) hHeld ?_
  refine held_off 15 (Go.Op.binOp Go.BinOp.gtr 3 (Go.Operand.tmp 28) (Go.Operand.tmp 38) 3) (some 39) (by kernel_rfl) (by kernel_rfl) (by kernel_rfl) (by kernel_rfl) (fun _ _ _ _ _ h => h) hHeld ?_
  refine held_pick 16 (Go.Operand.tmp 26) (Go.Operand.tmp 39) (Go.Operand.const (Go.Value.bool false)) (some 40) false (Go.Value.bool false) (by kernel_rfl) (by kernel_rfl) (by kernel_rfl) (by kernel_rfl) (by kernel_rfl) (by kernel_rfl) (fun _ _ _ _ _ h => h) hHeld ?_
  refine wpAnyH_done (by kernel_rfl) ?_ _
  refine NoPanic.normal ?_
  simp only [put_list, List.set_cons_zero, List.set_cons_succ]
  have h3 := h2.below hHeld
  go_wp2_with fail
  refine (fine_no h3 (by decide)).mono ?_
  rintro e V ⟨rfl, hbV⟩
  have HF := Lib.hid (And.intro (h3.below hbV) (HT.out.trans (Turn.of_below (F := (· = X)) (hHeld.trans (hbV.mono hHeld.size))) (fun q hq => .inl hq)))
  go_wp2_with fail
  go_ret
  exact ⟨rfl, HF.out⟩
set_option maxRecDepth 100000 in
set_option maxHeartbeats 1600000 in
theorem dlist_big (h : DrS w X A xs p c 0 pl z) (hx : Byts xs) (hl : xs.length ≤ 100000) (m : Int) (hp : p + 4 ≤ xs.length) (hm : m < wordI xs p) : Calls Tryd.prog 29 #[.pointer (some ⟨X, 0, none⟩), .int .i64 m] w fun e w' => e = .returned (.slice none 0 0) ∧ DrS w' X A xs (p + 4) c 102 true p ∧ Turn (· = X) w w' := by
  have hwd := hx.word p
  have H := du32_ok h hx hl hp
  have c1 := h.r.c1
  obtain ⟨x, hx0⟩ : ∃ x, wordI xs p = x := ⟨_, rfl⟩
  rw [hx0] at H hwd hm
  have hwr : IntKind.i64.wrap x = x := IntWalk.i64_in _ (by omega)
  clear h hx0
  go_enter Tryd.func29, Tryd.ntmps29
  go_wp2_with fail
  refine H.mono ?_
  rintro e W1 ⟨rfl, h1, ht1⟩
  go_wp2_with fail
  refine (fine_yes h1 rfl).mono ?_
  rintro e W2 ⟨rfl, hb2⟩
  have h2 := h1.below hb2
  have HT := Lib.hid (ht1.trans (Turn.of_below (F := (· = X)) hb2) (fun q hq => .inl hq))
  clear h1 ht1 hb2 H
  go_wp2_with fail
  refine (fail_ok h2 102 p (by decide)).mono ?_
  rintro e W3 ⟨rfl, h3, ht3⟩
  have HT := Lib.hid (HT.out.trans ht3 (fun q hq => .inl hq))
  clear h2 ht3 hwr
  go_upto_region 5 with (fail)
  refine wp_region_noPanic ?_
  refine wp_region_held_drew (S := fun V => Below W3.heap.size W3 V) (by kernel_rfl) (Below.drewNr (w := W3) 1) (fun hHeld => ?_)
  refine held_move 0 (Go.Operand.tmp 0) (some 24) (.pointer (some ⟨X, 0, none⟩)) (by kernel_rfl) (by kernel_rfl) (by kernel_rfl) (by kernel_rfl) (by kernel_rfl) (fun _ _ _ _ _ h => h) hHeld ?_
  refine held_call 1 33 #[Go.Operand.tmp 24] #[40] (some 25) #[.pointer (some ⟨X, 0, none⟩)] _ (by kernel_rfl) (by kernel_rfl) (by kernel_rfl) (by kernel_rfl) (fine_no (h3.below hHeld) (by decide)) ?_
  rintro e Y1 ⟨rfl, hbY⟩
  refine ⟨_, rfl, hHeld.trans (hbY.mono hHeld.size), fun hHeld => ?_⟩
  refine held_move 2 (Go.Operand.tmp 25) (some 26) (.bool false) (by kernel_rfl) (by kernel_rfl) (by kernel_rfl) (by kernel_rfl) (by kernel_rfl) (fun _ _ _ _ _ h => h) hHeld ?_
  refine held_off 3 (Go.Op.move (Go.Operand.tmp 6)) (some 27) (by kernel_rfl) (by kernel_rfl) (by kernel_rfl) (by kernel_rfl) (fun _ _ _ _ _ h => h) hHeld ?_
  refine held_off 4 (Go.Op.convert 35 3 (Go.Operand.tmp 27)) (some 28) (by kernel_rfl) (by kernel_rfl) (by kernel_rfl) (by kernel_rfl) (fun _ _ _ _ _ h => h) hHeld ?_
  refine held_off 5 (Go.Op.move (Go.Operand.tmp 0)) (some 29) (by kernel_rfl) (by kernel_rfl) (by kernel_rfl) (by kernel_rfl) (fun _ _ _ _ _ h => h) hHeld ?_
  refine held_off 6 (Go.Op.nilCheck (Go.Operand.tmp 29)) (some 30) (by kernel_rfl) (by kernel_rfl) (by kernel_rfl) (by kernel_rfl) (fun _ _ _ _ _ h => h) hHeld ?_
  refine held_off 7 (Go.Op.fieldAddr 44 (Go.Operand.tmp 30) 0) (some 31) (by kernel_rfl) (by kernel_rfl) (by kernel_rfl) (by kernel_rfl) (fun _ _ _ _ _ h => h) hHeld ?_
  refine held_off 8 (Go.Op.load 23 (Go.Operand.tmp 31)) (some 32) (by kernel_rfl) (by kernel_rfl) (by kernel_rfl) (by kernel_rfl) (fun _ _ _ _ _ h => h) hHeld ?_
  refine held_off 9 (Go.Op.call { callee := Go.Callee.builtin Go.Builtin.len, args := #[Go.Operand.tmp 32], argTypes := #[23] }) (some 33) (by kernel_rfl) (by kernel_rfl) (by kernel_rfl) (by kernel_rfl) (fun _ _ _ _ _ h => h) hHeld ?_
  refine held_off 10 (Go.Op.move (Go.Operand.tmp 0)) (some 34) (by kernel_rfl) (by kernel_rfl) (by kernel_rfl) (by kernel_rfl) (fun _ _ _ _ _ h => h) hHeld ?_
  refine held_off 11 (Go.Op.nilCheck (Go.Operand.tmp 34)) (some 35) (by kernel_rfl) (by kernel_rfl) (by kernel_rfl) (by kernel_rfl) (fun _ _ _ _ _ h => h) hHeld ?_
  refine held_off 12 (Go.Op.fieldAddr 44 (Go.Operand.tmp 35) 1) (some 36) (by kernel_rfl) (by kernel_rfl) (by kernel_rfl) (by kernel_rfl) (fun _ _ _ _ _ h => h) hHeld ?_
  refine held_off 13 (Go.Op.load 3 (Go.Operand.tmp 36)) (some 37) (by kernel_rfl) (by kernel_rfl) (by kernel_rfl) (by kernel_rfl) (fun _ _ _ _ _ h => h) hHeld ?_
  refine held_off 14 (Go.Op.binOp Go.BinOp.sub 3 (Go.Operand.tmp 33) (Go.Operand.tmp 37) 3) (some 38) (by kernel_rfl) (by kernel_rfl) (by kernel_rfl) (by kernel_rfl) (fun _ _ _ _ _ h => h) hHeld ?_
  refine held_off 15 (Go.Op.binOp Go.BinOp.gtr 3 (Go.Operand.tmp 28) (Go.Operand.tmp 38) 3) (some 39) (by kernel_rfl) (by kernel_rfl) (by kernel_rfl) (by kernel_rfl) (fun _ _ _ _ _ h => h) hHeld ?_
  refine held_pick 16 (Go.Operand.tmp 26) (Go.Operand.tmp 39) (Go.Operand.const (Go.Value.bool false)) (some 40) false (Go.Value.bool false) (by kernel_rfl) (by kernel_rfl) (by kernel_rfl) (by kernel_rfl) (by kernel_rfl) (by kernel_rfl) (fun _ _ _ _ _ h => h) hHeld ?_
  refine wpAnyH_done (by kernel_rfl) ?_ _
  refine NoPanic.normal ?_
  simp only [put_list, List.set_cons_zero, List.set_cons_succ]
  have h4 := h3.below hHeld
  go_wp2_with fail
  refine (fine_no h4 (by decide)).mono ?_
  rintro e V ⟨rfl, hbV⟩
  have HF := Lib.hid (And.intro (h4.below hbV) (HT.out.trans (Turn.of_below (F := (· = X)) (hHeld.trans (hbV.mono hHeld.size))) (fun q hq => .inl hq)))
  go_wp2_with fail
  go_ret
  exact ⟨rfl, HF.out⟩
set_option maxRecDepth 100000 in
set_option maxHeartbeats 1600000 in
theorem dlist_long (h : DrS w X A xs p c 0 pl z) (hx : Byts xs) (hl : xs.length ≤ 100000) (m : Int) (hp : p + 4 ≤ xs.length) (hm : wordI xs p ≤ m ∧ (xs.length : Int) - p - 4 < wordI xs p) : Calls Tryd.prog 29 #[.pointer (some ⟨X, 0, none⟩), .int .i64 m] w fun e w' => e = .returned (.slice none 0 0) ∧ DrS w' X A xs (p + 4) c 103 true p ∧ Turn (· = X) w w' := by
  have hwd := hx.word p
  have H := du32_ok h hx hl hp
  have c1 := h.r.c1
  obtain ⟨x, hx0⟩ : ∃ x, wordI xs p = x := ⟨_, rfl⟩
  rw [hx0] at H hwd hm
  have hwr : IntKind.i64.wrap x = x := IntWalk.i64_in _ (by omega)
  clear h hx0
  go_enter Tryd.func29, Tryd.ntmps29
  go_wp2_with fail
  refine H.mono ?_
  rintro e W1 ⟨rfl, h1, ht1⟩
  go_wp2_with fail
  refine (fine_yes h1 rfl).mono ?_
  rintro e W2 ⟨rfl, hb2⟩
  have h2 := h1.below hb2
  have HT := Lib.hid (ht1.trans (Turn.of_below (F := (· = X)) hb2) (fun q hq => .inl hq))
  clear h1 ht1 hb2 H
  have u0 := h2.r.c0
  have u1 : W2.cell? ⟨X, 1, none⟩ = some (.int .i64 ((p : Int) + 4)) := h2.r.c1
  have hXl := h2.r.lt
  have gtD : decide ((xs.length : Int) - ((p : Int) + 4) < x) = true := decide_eq_true (by omega)
  have hmx := hm.1
  go_upto_region 5 with (fail)
  refine wp_region_noPanic ?_
  refine wp_region_held_drew (S := fun V => Below W2.heap.size W2 V) (by kernel_rfl) (Below.drewNr (w := W2) 1) (fun hHeld => ?_)
  refine held_move 0 (Go.Operand.tmp 0) (some 24) (.pointer (some ⟨X, 0, none⟩)) (by kernel_rfl) (by kernel_rfl) (by kernel_rfl) (by kernel_rfl) (by kernel_rfl) (fun _ _ _ _ _ h => h) hHeld ?_
  refine held_call 1 33 #[Go.Operand.tmp 24] #[40] (some 25) #[.pointer (some ⟨X, 0, none⟩)] _ (by kernel_rfl) (by kernel_rfl) (by kernel_rfl) (by kernel_rfl) (fine_yes (h2.below hHeld) rfl) ?_
  rintro e Y1 ⟨rfl, hbY⟩
  refine ⟨_, rfl, hHeld.trans (hbY.mono hHeld.size), fun hHeld => ?_⟩
  refine held_move 2 (Go.Operand.tmp 25) (some 26) (.bool true) (by kernel_rfl) (by kernel_rfl) (by kernel_rfl) (by kernel_rfl) (by kernel_rfl) (fun _ _ _ _ _ h => h) hHeld ?_
  refine held_move 3 (Go.Operand.tmp 6) (some 27) (.int .u32 x) (by kernel_rfl) (by kernel_rfl) (by kernel_rfl) (by kernel_rfl) (by kernel_rfl) (fun _ _ _ _ _ h => h) hHeld ?_
  refine held_any 4 (Go.Op.convert 35 3 (Go.Operand.tmp 27)) (some 28) (.int .i64 x) (by kernel_rfl) (by kernel_rfl) (by kernel_rfl) (by kernel_rfl) (fun _ _ _ _ _ h => h) hHeld (fun o ho w _ => exec_cvt (vx := .int .u32 x) ho (by kernel_rfl) (cvt_u32k _ hwd w)) ?_
  refine held_move 5 (Go.Operand.tmp 0) (some 29) (.pointer (some ⟨X, 0, none⟩)) (by kernel_rfl) (by kernel_rfl) (by kernel_rfl) (by kernel_rfl) (by kernel_rfl) (fun _ _ _ _ _ h => h) hHeld ?_
  refine held_nil 6 (Go.Operand.tmp 29) (some 30) ⟨X, 0, none⟩ (by kernel_rfl) (by kernel_rfl) (by kernel_rfl) (by kernel_rfl) (by kernel_rfl) (fun _ _ _ _ _ h => h) hHeld ?_
  refine held_field 7 44 (Go.Operand.tmp 30) 0 (some 31) (.pointer (some ⟨X, 0, none⟩)) (.pointer (some ⟨X, 0, none⟩)) (by kernel_rfl) (by kernel_rfl) (fun w => by kernel_rfl) (by kernel_rfl) (by kernel_rfl) (by kernel_rfl) (fun _ _ _ _ _ h => h) hHeld ?_
  refine held_cell 8 23 (Go.Operand.tmp 31) (some 32) (.pointer (some ⟨X, 0, none⟩)) (.slice A xs.length c) (by kernel_rfl) (by kernel_rfl) (fun V hV => load_slice X 0 V 23 (fun w => by kernel_rfl) _ ((hV.cell (p := ⟨X, 0, none⟩) hXl).trans u0)) (by kernel_rfl) (by kernel_rfl) (by kernel_rfl) (fun _ _ _ _ _ h => h) hHeld ?_
  refine held_any 9 (Go.Op.call { callee := Go.Callee.builtin Go.Builtin.len, args := #[Go.Operand.tmp 32], argTypes := #[23] }) (some 33) (.int .i64 (xs.length : Int)) (by kernel_rfl) (by kernel_rfl) (by kernel_rfl) (by kernel_rfl) (fun _ _ _ _ _ h => h) hHeld (fun o ho w _ => exec_lenA (vx := .slice A xs.length c) ho (by kernel_rfl) (fun _ => len_slice _ 5 _ Tryd.underlying23 A xs.length c _)) ?_
  refine held_move 10 (Go.Operand.tmp 0) (some 34) (.pointer (some ⟨X, 0, none⟩)) (by kernel_rfl) (by kernel_rfl) (by kernel_rfl) (by kernel_rfl) (by kernel_rfl) (fun _ _ _ _ _ h => h) hHeld ?_
  refine held_nil 11 (Go.Operand.tmp 34) (some 35) ⟨X, 0, none⟩ (by kernel_rfl) (by kernel_rfl) (by kernel_rfl) (by kernel_rfl) (by kernel_rfl) (fun _ _ _ _ _ h => h) hHeld ?_
  refine held_field 12 44 (Go.Operand.tmp 35) 1 (some 36) (.pointer (some ⟨X, 0, none⟩)) (.pointer (some ⟨X, 1, none⟩)) (by kernel_rfl) (by kernel_rfl) (fun w => by kernel_rfl) (by kernel_rfl) (by kernel_rfl) (by kernel_rfl) (fun _ _ _ _ _ h => h) hHeld ?_
  refine held_cell 13 3 (Go.Operand.tmp 36) (some 37) (.pointer (some ⟨X, 1, none⟩)) (.int .i64 ((p : Int) + 4)) (by kernel_rfl) (by kernel_rfl) (fun V hV => load_i64 X 1 V _ ((hV.cell (p := ⟨X, 1, none⟩) hXl).trans u1)) (by kernel_rfl) (by kernel_rfl) (by kernel_rfl) (fun _ _ _ _ _ h => h) hHeld ?_
  refine held_bin 14 Go.BinOp.sub 3 (Go.Operand.tmp 33) (Go.Operand.tmp 37) 3 (some 38) (.int .i64 (xs.length : Int)) (.int .i64 ((p : Int) + 4)) (.int .i64 ((xs.length : Int) - ((p : Int) + 4))) (by kernel_rfl) (by kernel_rfl) (fun w => sub_int _ _ _ w _ _ _ rfl (by omega) (by omega)) (by kernel_rfl) (by kernel_rfl) (by kernel_rfl) (fun _ _ _ _ _ h => h) hHeld ?_
  refine held_bin 15 Go.BinOp.gtr 3 (Go.Operand.tmp 28) (Go.Operand.tmp 38) 3 (some 39) (.int .i64 x) (.int .i64 ((xs.length : Int) - ((p : Int) + 4))) (.bool true) (by kernel_rfl) (by kernel_rfl) (fun w => by rw [gtr_i64]; simp only [gtD]) (by kernel_rfl) (by kernel_rfl) (by kernel_rfl) (fun _ _ _ _ _ h => h) hHeld ?_
  refine held_pick 16 (Go.Operand.tmp 26) (Go.Operand.tmp 39) (Go.Operand.const (Go.Value.bool false)) (some 40) true (.bool true) (by kernel_rfl) (by kernel_rfl) (by kernel_rfl) (by kernel_rfl) (by kernel_rfl) (by kernel_rfl) (fun _ _ _ _ _ h => h) hHeld ?_
  refine wpAnyH_done (by kernel_rfl) ?_ _
  refine NoPanic.normal ?_
  simp only [put_list, List.set_cons_zero, List.set_cons_succ]
  have h3 := h2.below hHeld
  clear hwr gtD u0 u1
  go_wp2_with fail
  refine (fail_ok h3 103 p (by decide)).mono ?_
  rintro e W4 ⟨rfl, h4, ht4⟩
  go_wp2_with fail
  refine (fine_no h4 (by decide)).mono ?_
  rintro e V ⟨rfl, hbV⟩
  have HF := Lib.hid (And.intro (h4.below hbV) (((HT.out.trans (Turn.of_below (F := (· = X)) hHeld) (fun q hq => .inl hq)).trans ht4 (fun q hq => .inl hq)).trans (Turn.of_below (F := (· = X)) hbV) (fun q hq => .inl hq)))
  go_wp2_with fail
  go_ret
  exact ⟨rfl, HF.out⟩
set_option maxRecDepth 100000 in
set_option maxHeartbeats 1600000 in
theorem dlist_ok (h : DrS w X A xs p c 0 pl z) (hx : Byts xs) (hl : xs.length ≤ 100000) (n : Nat) (hp : p + 4 + n ≤ xs.length) (m : Int) (hm : wordI xs p = n) (hn : (n : Int) ≤ m) : Calls Tryd.prog 29 #[.pointer (some ⟨X, 0, none⟩), .int .i64 m] w fun e w' => ∃ v, e = .returned v ∧ w'.ownsRow w.heap.size 5 1 v n (ints .u8 ((xs.drop (p + 4)).take n)) ∧ DrS w' X A xs (p + 4 + n) c 0 pl z ∧ Turn (· = X) w w' := by
  have hwd := hx.word p
  have H := du32_ok h hx hl (by omega)
  have c1 := h.r.c1
  obtain ⟨x, hx0⟩ : ∃ x, wordI xs p = x := ⟨_, rfl⟩
  rw [hx0] at H hwd hm
  have hwr : IntKind.i64.wrap x = x := IntWalk.i64_in _ (by omega)
  clear h hx0
  have gtD : decide ((xs.length : Int) - ((p : Int) + 4) < x) = false := decide_eq_false (by omega)
  have hmx : x ≤ m := by omega
  have HM := Lib.hid hm
  clear hm
  go_enter Tryd.func29, Tryd.ntmps29
  go_wp2_with fail
  refine H.mono ?_
  rintro e W1 ⟨rfl, h1, ht1⟩
  go_wp2_with fail
  refine (fine_yes h1 rfl).mono ?_
  rintro e W2 ⟨rfl, hb2⟩
  have h2 := h1.below hb2
  have HT := Lib.hid (ht1.trans (Turn.of_below (F := (· = X)) hb2) (fun q hq => .inl hq))
  clear h1 ht1 hb2 H
  have u0 := h2.r.c0
  have u1 : W2.cell? ⟨X, 1, none⟩ = some (.int .i64 ((p : Int) + 4)) := h2.r.c1
  have hXl := h2.r.lt
  go_upto_region 5 with (fail)
  refine wp_region_noPanic ?_
  refine wp_region_held_drew (S := fun V => Below W2.heap.size W2 V) (by kernel_rfl) (Below.drewNr (w := W2) 1) (fun hHeld => ?_)
  refine held_move 0 (Go.Operand.tmp 0) (some 24) (.pointer (some ⟨X, 0, none⟩)) (by kernel_rfl) (by kernel_rfl) (by kernel_rfl) (by kernel_rfl) (by kernel_rfl) (fun _ _ _ _ _ h => h) hHeld ?_
  refine held_call 1 33 #[Go.Operand.tmp 24] #[40] (some 25) #[.pointer (some ⟨X, 0, none⟩)] _ (by kernel_rfl) (by kernel_rfl) (by kernel_rfl) (by kernel_rfl) (fine_yes (h2.below hHeld) rfl) ?_
  rintro e Y1 ⟨rfl, hbY⟩
  refine ⟨_, rfl, hHeld.trans (hbY.mono hHeld.size), fun hHeld => ?_⟩
  refine held_move 2 (Go.Operand.tmp 25) (some 26) (.bool true) (by kernel_rfl) (by kernel_rfl) (by kernel_rfl) (by kernel_rfl) (by kernel_rfl) (fun _ _ _ _ _ h => h) hHeld ?_
  refine held_move 3 (Go.Operand.tmp 6) (some 27) (.int .u32 x) (by kernel_rfl) (by kernel_rfl) (by kernel_rfl) (by kernel_rfl) (by kernel_rfl) (fun _ _ _ _ _ h => h) hHeld ?_
  refine held_any 4 (Go.Op.convert 35 3 (Go.Operand.tmp 27)) (some 28) (.int .i64 x) (by kernel_rfl) (by kernel_rfl) (by kernel_rfl) (by kernel_rfl) (fun _ _ _ _ _ h => h) hHeld (fun o ho w _ => exec_cvt (vx := .int .u32 x) ho (by kernel_rfl) (cvt_u32k _ hwd w)) ?_
  refine held_move 5 (Go.Operand.tmp 0) (some 29) (.pointer (some ⟨X, 0, none⟩)) (by kernel_rfl) (by kernel_rfl) (by kernel_rfl) (by kernel_rfl) (by kernel_rfl) (fun _ _ _ _ _ h => h) hHeld ?_
  refine held_nil 6 (Go.Operand.tmp 29) (some 30) ⟨X, 0, none⟩ (by kernel_rfl) (by kernel_rfl) (by kernel_rfl) (by kernel_rfl) (by kernel_rfl) (fun _ _ _ _ _ h => h) hHeld ?_
  refine held_field 7 44 (Go.Operand.tmp 30) 0 (some 31) (.pointer (some ⟨X, 0, none⟩)) (.pointer (some ⟨X, 0, none⟩)) (by kernel_rfl) (by kernel_rfl) (fun w => by kernel_rfl) (by kernel_rfl) (by kernel_rfl) (by kernel_rfl) (fun _ _ _ _ _ h => h) hHeld ?_
  refine held_cell 8 23 (Go.Operand.tmp 31) (some 32) (.pointer (some ⟨X, 0, none⟩)) (.slice A xs.length c) (by kernel_rfl) (by kernel_rfl) (fun V hV => load_slice X 0 V 23 (fun w => by kernel_rfl) _ ((hV.cell (p := ⟨X, 0, none⟩) hXl).trans u0)) (by kernel_rfl) (by kernel_rfl) (by kernel_rfl) (fun _ _ _ _ _ h => h) hHeld ?_
  refine held_any 9 (Go.Op.call { callee := Go.Callee.builtin Go.Builtin.len, args := #[Go.Operand.tmp 32], argTypes := #[23] }) (some 33) (.int .i64 (xs.length : Int)) (by kernel_rfl) (by kernel_rfl) (by kernel_rfl) (by kernel_rfl) (fun _ _ _ _ _ h => h) hHeld (fun o ho w _ => exec_lenA (vx := .slice A xs.length c) ho (by kernel_rfl) (fun _ => len_slice _ 5 _ Tryd.underlying23 A xs.length c _)) ?_
  refine held_move 10 (Go.Operand.tmp 0) (some 34) (.pointer (some ⟨X, 0, none⟩)) (by kernel_rfl) (by kernel_rfl) (by kernel_rfl) (by kernel_rfl) (by kernel_rfl) (fun _ _ _ _ _ h => h) hHeld ?_
  refine held_nil 11 (Go.Operand.tmp 34) (some 35) ⟨X, 0, none⟩ (by kernel_rfl) (by kernel_rfl) (by kernel_rfl) (by kernel_rfl) (by kernel_rfl) (fun _ _ _ _ _ h => h) hHeld ?_
  refine held_field 12 44 (Go.Operand.tmp 35) 1 (some 36) (.pointer (some ⟨X, 0, none⟩)) (.pointer (some ⟨X, 1, none⟩)) (by kernel_rfl) (by kernel_rfl) (fun w => by kernel_rfl) (by kernel_rfl) (by kernel_rfl) (by kernel_rfl) (fun _ _ _ _ _ h => h) hHeld ?_
  refine held_cell 13 3 (Go.Operand.tmp 36) (some 37) (.pointer (some ⟨X, 1, none⟩)) (.int .i64 ((p : Int) + 4)) (by kernel_rfl) (by kernel_rfl) (fun V hV => load_i64 X 1 V _ ((hV.cell (p := ⟨X, 1, none⟩) hXl).trans u1)) (by kernel_rfl) (by kernel_rfl) (by kernel_rfl) (fun _ _ _ _ _ h => h) hHeld ?_
  refine held_bin 14 Go.BinOp.sub 3 (Go.Operand.tmp 33) (Go.Operand.tmp 37) 3 (some 38) (.int .i64 (xs.length : Int)) (.int .i64 ((p : Int) + 4)) (.int .i64 ((xs.length : Int) - ((p : Int) + 4))) (by kernel_rfl) (by kernel_rfl) (fun w => sub_int _ _ _ w _ _ _ rfl (by omega) (by omega)) (by kernel_rfl) (by kernel_rfl) (by kernel_rfl) (fun _ _ _ _ _ h => h) hHeld ?_
  refine held_bin 15 Go.BinOp.gtr 3 (Go.Operand.tmp 28) (Go.Operand.tmp 38) 3 (some 39) (.int .i64 x) (.int .i64 ((xs.length : Int) - ((p : Int) + 4))) (.bool false) (by kernel_rfl) (by kernel_rfl) (fun w => by rw [gtr_i64]; simp only [gtD]) (by kernel_rfl) (by kernel_rfl) (by kernel_rfl) (fun _ _ _ _ _ h => h) hHeld ?_
  refine held_pick 16 (Go.Operand.tmp 26) (Go.Operand.tmp 39) (Go.Operand.const (Go.Value.bool false)) (some 40) true (.bool false) (by kernel_rfl) (by kernel_rfl) (by kernel_rfl) (by kernel_rfl) (by kernel_rfl) (by kernel_rfl) (fun _ _ _ _ _ h => h) hHeld ?_
  refine wpAnyH_done (by kernel_rfl) ?_ _
  refine NoPanic.normal ?_
  simp only [put_list, List.set_cons_zero, List.set_cons_succ]
  have h3 := h2.below hHeld
  have HT := Lib.hid (HT.out.trans (Turn.of_below (F := (· = X)) hHeld) (fun q hq => .inl hq))
  clear gtD u0 u1 h2
  go_wp2_with fail
  refine (fine_yes h3 rfl).mono ?_
  rintro e W4 ⟨rfl, hb4⟩
  have h4 := h3.below hb4
  have HT := Lib.hid (HT.out.trans (Turn.of_below (F := (· = X)) hb4) (fun q hq => .inl hq))
  have H9 := draw_ok h4 hl n hp
  rw [← HM.out] at H9
  clear h3 hb4 h4 hn hp hHeld
  go_wp2_with fail
  refine H9.mono ?_
  rintro e V ⟨v, rfl, hown, hR, hT2⟩
  obtain ⟨Av, cv, rfl, _⟩ := ownsRow_form hown
  have HF := Lib.hid (And.intro (ownsRow_lower hown HT.out.size) (And.intro hR (HT.out.trans hT2 (fun q hq => .inl hq))))
  clear hown hR hT2 H9
  go_wp2_with fail
  go_ret
  exact ⟨.slice Av n cv, rfl, HF.out⟩
set_option maxRecDepth 100000 in
set_option maxHeartbeats 1600000 in
theorem dbool_no (h : DrS w X A xs p c 0 pl z) (hl : xs.length ≤ 100000) (hp : xs.length ≤ p) : Calls Tryd.prog 31 #[.pointer (some ⟨X, 0, none⟩)] w fun e w' => e = .returned (.bool false) ∧ DrS w' X A xs p c 103 true p ∧ Turn (· = X) w w' := by
  have H := du8_no h hl (by omega)
  have c1 := h.r.c1
  clear h
  go_enter Tryd.func31, Tryd.ntmps31
  go_wp2_with fail
  refine H.mono ?_
  rintro e W1 ⟨rfl, h1, ht1⟩
  go_wp2_with fail
  refine (fine_no h1 (by decide)).mono ?_
  rintro e W2 ⟨rfl, hb2⟩
  have HF := Lib.hid (And.intro (h1.below hb2) (ht1.trans (Turn.of_below (F := (· = X)) hb2) (fun q hq => .inl hq)))
  clear h1 ht1 hb2
  go_wp2_with fail
  go_ret
  exact ⟨rfl, HF.out⟩
set_option maxRecDepth 100000 in
set_option maxHeartbeats 1600000 in
theorem dbool_0 (h : DrS w X A xs p c 0 pl z) (hx : Byts xs) (hl : xs.length ≤ 100000) (hp : p < xs.length) (hv : byteI xs p = 0) : Calls Tryd.prog 31 #[.pointer (some ⟨X, 0, none⟩)] w fun e w' => e = .returned (.bool false) ∧ DrS w' X A xs (p + 1) c 0 pl z ∧ Turn (· = X) w w' := by
  have H := du8_ok h hx hl hp
  rw [hv] at H
  have c1 := h.r.c1
  clear h hv
  go_enter Tryd.func31, Tryd.ntmps31
  go_wp2_with fail
  refine H.mono ?_
  rintro e W1 ⟨rfl, h1, ht1⟩
  go_wp2_with fail
  refine (fine_yes h1 rfl).mono ?_
  rintro e W2 ⟨rfl, hb2⟩
  have HF := Lib.hid (And.intro (h1.below hb2) (ht1.trans (Turn.of_below (F := (· = X)) hb2) (fun q hq => .inl hq)))
  clear h1 ht1 hb2
  go_wp2_with fail
  go_ret
  exact ⟨rfl, HF.out⟩
set_option maxRecDepth 100000 in
set_option maxHeartbeats 1600000 in
theorem dbool_1 (h : DrS w X A xs p c 0 pl z) (hx : Byts xs) (hl : xs.length ≤ 100000) (hp : p < xs.length) (hv : byteI xs p = 1) : Calls Tryd.prog 31 #[.pointer (some ⟨X, 0, none⟩)] w fun e w' => e = .returned (.bool true) ∧ DrS w' X A xs (p + 1) c 0 pl z ∧ Turn (· = X) w w' := by
  have H := du8_ok h hx hl hp
  rw [hv] at H
  have c1 := h.r.c1
  clear h hv
  go_enter Tryd.func31, Tryd.ntmps31
  go_wp2_with fail
  refine H.mono ?_
  rintro e W1 ⟨rfl, h1, ht1⟩
  go_wp2_with fail
  refine (fine_yes h1 rfl).mono ?_
  rintro e W2 ⟨rfl, hb2⟩
  have HF := Lib.hid (And.intro (h1.below hb2) (ht1.trans (Turn.of_below (F := (· = X)) hb2) (fun q hq => .inl hq)))
  clear h1 ht1 hb2
  go_wp2_with fail
  go_ret
  exact ⟨rfl, HF.out⟩
set_option maxRecDepth 100000 in
set_option maxHeartbeats 1600000 in
theorem dbool_form (h : DrS w X A xs p c 0 pl z) (hx : Byts xs) (hl : xs.length ≤ 100000) (hp : p < xs.length) (hv : 2 ≤ byteI xs p) : Calls Tryd.prog 31 #[.pointer (some ⟨X, 0, none⟩)] w fun e w' => e = .returned (.bool false) ∧ DrS w' X A xs (p + 1) c 105 true p ∧ Turn (· = X) w w' := by
  have H := du8_ok h hx hl hp
  have c1 := h.r.c1
  generalize byteI xs p = x at *
  have q1 : (x == 1) = false := by simp; omega
  clear h
  go_enter Tryd.func31, Tryd.ntmps31
  go_wp2_with fail
  refine H.mono ?_
  rintro e W1 ⟨rfl, h1, ht1⟩
  go_wp2_with fail
  refine (fine_yes h1 rfl).mono ?_
  rintro e W2 ⟨rfl, hb2⟩
  have h2 := h1.below hb2
  have HT := Lib.hid (ht1.trans (Turn.of_below (F := (· = X)) hb2) (fun q hq => .inl hq))
  clear h1 ht1 hb2 H
  go_wp2_with fail
  refine (fail_ok h2 105 p (by decide)).mono ?_
  rintro e W3 ⟨rfl, h3, ht3⟩
  have HF := Lib.hid (And.intro h3 (HT.out.trans ht3 (fun q hq => .inl hq)))
  clear h2 h3 ht3
  go_wp2_with fail
  go_ret
  exact ⟨rfl, HF.out⟩
set_option maxRecDepth 100000 in
set_option maxHeartbeats 1600000 in
theorem over_bad {cc : Int} (h : DrS w X A xs p c cc pl z) (hc : cc ≠ 0) : Calls Tryd.prog 36 #[.pointer (some ⟨X, 0, none⟩)] w fun e w' => e = .returned (.agg (frow cc pl z)) ∧ Turn (· = X) w w' := by
  have hz := heap_alloc_new w (.cells #[.int .i64 0, .bool false, .int .i64 0] 42)
  have hb0 := below_alc w (.cells #[.int .i64 0, .bool false, .int .i64 0] 42)
  have hXw := h.r.lt
  go_enter Tryd.func36, Tryd.ntmps36
  go_upto_region 1 with (fail)
  refine wp_world (fun V => DrS V X A xs p c cc pl z ∧ V.heap[w.heap.size]? = some (.cells #[.int .i64 0, .bool false, .int .i64 0] 42 (0, 0)) ∧ Turn (· = X) w V ∧ V.heap.size = w.heap.size + 1) ⟨h.below hb0, hz, Turn.of_below hb0, by simp⟩ ?_
  rintro U ⟨hU, hzU, hTU, hsU⟩
  have u0 := hU.r.c0
  have u1 := hU.r.c1
  have hXl := hU.r.lt
  have hle := hU.r.le
  clear h hz hb0
  refine wp_region_noPanic ?_
  refine wp_region_held_drew (S := fun V => Below U.heap.size U V) (by kernel_rfl) (Below.drewNr (w := U) 1) (fun hHeld => ?_)
  refine held_move 0 (Go.Operand.tmp 0) (some 3) (.pointer (some ⟨X, 0, none⟩)) (by kernel_rfl) (by kernel_rfl) (by kernel_rfl) (by kernel_rfl) (by kernel_rfl) (fun _ _ _ _ _ h => h) hHeld ?_
  refine held_call 1 33 #[Go.Operand.tmp 3] #[40] (some 4) #[.pointer (some ⟨X, 0, none⟩)] _ (by kernel_rfl) (by kernel_rfl) (by kernel_rfl) (by kernel_rfl) (fine_no (hU.below hHeld) hc) ?_
  rintro e Y1 ⟨rfl, hbY⟩
  refine ⟨_, rfl, hHeld.trans (hbY.mono hHeld.size), fun hHeld => ?_⟩
  refine held_move 2 (Go.Operand.tmp 4) (some 5) (.bool false) (by kernel_rfl) (by kernel_rfl) (by kernel_rfl) (by kernel_rfl) (by kernel_rfl) (fun _ _ _ _ _ h => h) hHeld ?_
  refine held_off 3 (Go.Op.move (Go.Operand.tmp 0)) (some 6) (by kernel_rfl) (by kernel_rfl) (by kernel_rfl) (by kernel_rfl) (fun _ _ _ _ _ h => h) hHeld ?_
  refine held_off 4 (Go.Op.nilCheck (Go.Operand.tmp 6)) (some 7) (by kernel_rfl) (by kernel_rfl) (by kernel_rfl) (by kernel_rfl) (fun _ _ _ _ _ h => h) hHeld ?_
  refine held_off 5 (Go.Op.fieldAddr 44 (Go.Operand.tmp 7) 1) (some 8) (by kernel_rfl) (by kernel_rfl) (by kernel_rfl) (by kernel_rfl) (fun _ _ _ _ _ h => h) hHeld ?_
  refine held_off 6 (Go.Op.load 3 (Go.Operand.tmp 8)) (some 9) (by kernel_rfl) (by kernel_rfl) (by kernel_rfl) (by kernel_rfl) (fun _ _ _ _ _ h => h) hHeld ?_
  refine held_off 7 (Go.Op.move (Go.Operand.tmp 0)) (some 10) (by kernel_rfl) (by kernel_rfl) (by kernel_rfl) (by kernel_rfl) (fun _ _ _ _ _ h => h) hHeld ?_
  refine held_off 8 (Go.Op.nilCheck (Go.Operand.tmp 10)) (some 11) (by kernel_rfl) (by kernel_rfl) (by kernel_rfl) (by kernel_rfl) (fun _ _ _ _ _ h => h) hHeld ?_
  refine held_off 9 (Go.Op.fieldAddr 44 (Go.Operand.tmp 11) 0) (some 12) (by kernel_rfl) (by kernel_rfl) (by kernel_rfl) (by kernel_rfl) (fun _ _ _ _ _ h => h) hHeld ?_
  refine held_off 10 (Go.Op.load 23 (Go.Operand.tmp 12)) (some 13) (by kernel_rfl) (by kernel_rfl) (by kernel_rfl) (by kernel_rfl) (fun _ _ _ _ _ h => h) hHeld ?_
  refine held_off 11 (Go.Op.call { callee := Go.Callee.builtin Go.Builtin.len, args := #[Go.Operand.tmp 13], argTypes := #[23] }) (some 14) (by kernel_rfl) (by kernel_rfl) (by kernel_rfl) (by kernel_rfl) (fun _ _ _ _ _ h => h) hHeld ?_
  refine held_off 12 (Go.Op.binOp Go.BinOp.lss 3 (Go.Operand.tmp 9) (Go.Operand.tmp 14) 3) (some 15) (by kernel_rfl) (by kernel_rfl) (by kernel_rfl) (by kernel_rfl) (fun _ _ _ _ _ h => h) hHeld ?_
  refine held_pick 13 (Go.Operand.tmp 5) (Go.Operand.tmp 15) (Go.Operand.const (Go.Value.bool false)) (some 16) false (Go.Value.bool false) (by kernel_rfl) (by kernel_rfl) (by kernel_rfl) (by kernel_rfl) (by kernel_rfl) (by kernel_rfl) (fun _ _ _ _ _ h => h) hHeld ?_
  refine wpAnyH_done (by kernel_rfl) ?_ _
  refine NoPanic.normal ?_
  simp only [put_list, List.set_cons_zero, List.set_cons_succ]
  have h3 := hU.below hHeld
  have hz3 := (hHeld.block w.heap.size (by omega)).trans hzU
  have hT3 := hTU.trans (Turn.of_below (F := (· = X)) hHeld) (fun q hq => .inl hq)
  have hst : Turn (· = X) w (Y1.setRow w.heap.size (frow cc pl z)) := ⟨hT3.os, hT3.tape, hT3.output, by simpa [World.setRow] using hT3.size, fun q hq hF => (setRow_other Y1 w.heap.size q _ (by omega)).trans (hT3.block q hq hF)⟩
  have HF := Lib.hid hst
  clear hst hT3 hTU hzU hU u0 u1
  have hq := h3.b
  go_wp2_with (first | (refine wpList_load_mid rfl 42 _ rfl X 2 rfl _ _ hq Tryd.underlying42 rfl (info_F _ _ _) ?_) | (refine wpList_store_row rfl 42 _ _ rfl w.heap.size (frow cc pl z) rfl rfl _ _ hz3 (by kernel_rfl) rfl (frow_one _ _ _) ?_))
  refine bodyPost_ret (results_cell_row rfl _ _ _ _ _ _ _ rfl (setRow_heap _ _ _ _ _ _ hz3) Tryd.underlying42 rfl (by kernel_rfl)) rfl ?_
  exact ⟨rfl, HF.out⟩
set_option maxRecDepth 100000 in
set_option maxHeartbeats 1600000 in
theorem over_end (h : DrS w X A xs p c 0 pl z) (hp : xs.length ≤ p) : Calls Tryd.prog 36 #[.pointer (some ⟨X, 0, none⟩)] w fun e w' => e = .returned (.agg (frow 0 pl z)) ∧ Turn (· = X) w w' := by
  have hz := heap_alloc_new w (.cells #[.int .i64 0, .bool false, .int .i64 0] 42)
  have hb0 := below_alc w (.cells #[.int .i64 0, .bool false, .int .i64 0] 42)
  have hXw := h.r.lt
  go_enter Tryd.func36, Tryd.ntmps36
  go_upto_region 1 with (fail)
  refine wp_world (fun V => DrS V X A xs p c 0 pl z ∧ V.heap[w.heap.size]? = some (.cells #[.int .i64 0, .bool false, .int .i64 0] 42 (0, 0)) ∧ Turn (· = X) w V ∧ V.heap.size = w.heap.size + 1) ⟨h.below hb0, hz, Turn.of_below hb0, by simp⟩ ?_
  rintro U ⟨hU, hzU, hTU, hsU⟩
  have u0 := hU.r.c0
  have u1 := hU.r.c1
  have hXl := hU.r.lt
  have hle := hU.r.le
  clear h hz hb0
  have gtD : decide ((p : Int) < (xs.length : Int)) = false := decide_eq_false (by omega)
  refine wp_region_noPanic ?_
  refine wp_region_held_drew (S := fun V => Below U.heap.size U V) (by kernel_rfl) (Below.drewNr (w := U) 1) (fun hHeld => ?_)
  refine held_move 0 (Go.Operand.tmp 0) (some 3) (.pointer (some ⟨X, 0, none⟩)) (by kernel_rfl) (by kernel_rfl) (by kernel_rfl) (by kernel_rfl) (by kernel_rfl) (fun _ _ _ _ _ h => h) hHeld ?_
  refine held_call 1 33 #[Go.Operand.tmp 3] #[40] (some 4) #[.pointer (some ⟨X, 0, none⟩)] _ (by kernel_rfl) (by kernel_rfl) (by kernel_rfl) (by kernel_rfl) (fine_yes (hU.below hHeld) rfl) ?_
  rintro e Y1 ⟨rfl, hbY⟩
  refine ⟨_, rfl, hHeld.trans (hbY.mono hHeld.size), fun hHeld => ?_⟩
  refine held_move 2 (Go.Operand.tmp 4) (some 5) (.bool true) (by kernel_rfl) (by kernel_rfl) (by kernel_rfl) (by kernel_rfl) (by kernel_rfl) (fun _ _ _ _ _ h => h) hHeld ?_
  refine held_move 3 (Go.Operand.tmp 0) (some 6) (.pointer (some ⟨X, 0, none⟩)) (by kernel_rfl) (by kernel_rfl) (by kernel_rfl) (by kernel_rfl) (by kernel_rfl) (fun _ _ _ _ _ h => h) hHeld ?_
  refine held_nil 4 (Go.Operand.tmp 6) (some 7) ⟨X, 0, none⟩ (by kernel_rfl) (by kernel_rfl) (by kernel_rfl) (by kernel_rfl) (by kernel_rfl) (fun _ _ _ _ _ h => h) hHeld ?_
  refine held_field 5 44 (Go.Operand.tmp 7) 1 (some 8) (.pointer (some ⟨X, 0, none⟩)) (.pointer (some ⟨X, 1, none⟩)) (by kernel_rfl) (by kernel_rfl) (fun w => by kernel_rfl) (by kernel_rfl) (by kernel_rfl) (by kernel_rfl) (fun _ _ _ _ _ h => h) hHeld ?_
  refine held_cell 6 3 (Go.Operand.tmp 8) (some 9) (.pointer (some ⟨X, 1, none⟩)) (.int .i64 (p : Int)) (by kernel_rfl) (by kernel_rfl) (fun V hV => load_i64 X 1 V _ ((hV.cell (p := ⟨X, 1, none⟩) hXl).trans u1)) (by kernel_rfl) (by kernel_rfl) (by kernel_rfl) (fun _ _ _ _ _ h => h) hHeld ?_
  refine held_move 7 (Go.Operand.tmp 0) (some 10) (.pointer (some ⟨X, 0, none⟩)) (by kernel_rfl) (by kernel_rfl) (by kernel_rfl) (by kernel_rfl) (by kernel_rfl) (fun _ _ _ _ _ h => h) hHeld ?_
  refine held_nil 8 (Go.Operand.tmp 10) (some 11) ⟨X, 0, none⟩ (by kernel_rfl) (by kernel_rfl) (by kernel_rfl) (by kernel_rfl) (by kernel_rfl) (fun _ _ _ _ _ h => h) hHeld ?_
  refine held_field 9 44 (Go.Operand.tmp 11) 0 (some 12) (.pointer (some ⟨X, 0, none⟩)) (.pointer (some ⟨X, 0, none⟩)) (by kernel_rfl) (by kernel_rfl) (fun w => by kernel_rfl) (by kernel_rfl) (by kernel_rfl) (by kernel_rfl) (fun _ _ _ _ _ h => h) hHeld ?_
  refine held_cell 10 23 (Go.Operand.tmp 12) (some 13) (.pointer (some ⟨X, 0, none⟩)) (.slice A xs.length c) (by kernel_rfl) (by kernel_rfl) (fun V hV => load_slice X 0 V 23 (fun w => by kernel_rfl) _ ((hV.cell (p := ⟨X, 0, none⟩) hXl).trans u0)) (by kernel_rfl) (by kernel_rfl) (by kernel_rfl) (fun _ _ _ _ _ h => h) hHeld ?_
  refine held_any 11 (Go.Op.call { callee := Go.Callee.builtin Go.Builtin.len, args := #[Go.Operand.tmp 13], argTypes := #[23] }) (some 14) (.int .i64 (xs.length : Int)) (by kernel_rfl) (by kernel_rfl) (by kernel_rfl) (by kernel_rfl) (fun _ _ _ _ _ h => h) hHeld (fun o ho w _ => exec_lenA (vx := .slice A xs.length c) ho (by kernel_rfl) (fun _ => len_slice _ 5 _ Tryd.underlying23 A xs.length c _)) ?_
  refine held_bin 12 Go.BinOp.lss 3 (Go.Operand.tmp 9) (Go.Operand.tmp 14) 3 (some 15) (.int .i64 (p : Int)) (.int .i64 (xs.length : Int)) (.bool false) (by kernel_rfl) (by kernel_rfl) (fun w => by rw [lss_i64]; simp only [gtD]) (by kernel_rfl) (by kernel_rfl) (by kernel_rfl) (fun _ _ _ _ _ h => h) hHeld ?_
  refine held_pick 13 (Go.Operand.tmp 5) (Go.Operand.tmp 15) (Go.Operand.const (Go.Value.bool false)) (some 16) true (.bool false) (by kernel_rfl) (by kernel_rfl) (by kernel_rfl) (by kernel_rfl) (by kernel_rfl) (by kernel_rfl) (fun _ _ _ _ _ h => h) hHeld ?_
  refine wpAnyH_done (by kernel_rfl) ?_ _
  refine NoPanic.normal ?_
  simp only [put_list, List.set_cons_zero, List.set_cons_succ]
  have h3 := hU.below hHeld
  have hz3 := (hHeld.block w.heap.size (by omega)).trans hzU
  have hT3 := hTU.trans (Turn.of_below (F := (· = X)) hHeld) (fun q hq => .inl hq)
  have hst : Turn (· = X) w (Y1.setRow w.heap.size (frow 0 pl z)) := ⟨hT3.os, hT3.tape, hT3.output, by simpa [World.setRow] using hT3.size, fun q hq hF => (setRow_other Y1 w.heap.size q _ (by omega)).trans (hT3.block q hq hF)⟩
  have HF := Lib.hid hst
  clear hst hT3 hTU hzU hU u0 u1
  have hq := h3.b
  go_wp2_with (first | (refine wpList_load_mid rfl 42 _ rfl X 2 rfl _ _ hq Tryd.underlying42 rfl (info_F _ _ _) ?_) | (refine wpList_store_row rfl 42 _ _ rfl w.heap.size (frow 0 pl z) rfl rfl _ _ hz3 (by kernel_rfl) rfl (frow_one _ _ _) ?_))
  refine bodyPost_ret (results_cell_row rfl _ _ _ _ _ _ _ rfl (setRow_heap _ _ _ _ _ _ hz3) Tryd.underlying42 rfl (by kernel_rfl)) rfl ?_
  exact ⟨rfl, HF.out⟩
set_option maxRecDepth 100000 in
set_option maxHeartbeats 1600000 in
theorem over_trail (h : DrS w X A xs p c 0 pl z) (hp : p < xs.length) : Calls Tryd.prog 36 #[.pointer (some ⟨X, 0, none⟩)] w fun e w' => e = .returned (.agg (frow 104 true p)) ∧ Turn (· = X) w w' := by
  have hz := heap_alloc_new w (.cells #[.int .i64 0, .bool false, .int .i64 0] 42)
  have hb0 := below_alc w (.cells #[.int .i64 0, .bool false, .int .i64 0] 42)
  have hXw := h.r.lt
  go_enter Tryd.func36, Tryd.ntmps36
  go_upto_region 1 with (fail)
  refine wp_world (fun V => DrS V X A xs p c 0 pl z ∧ V.heap[w.heap.size]? = some (.cells #[.int .i64 0, .bool false, .int .i64 0] 42 (0, 0)) ∧ Turn (· = X) w V ∧ V.heap.size = w.heap.size + 1) ⟨h.below hb0, hz, Turn.of_below hb0, by simp⟩ ?_
  rintro U ⟨hU, hzU, hTU, hsU⟩
  have u0 := hU.r.c0
  have u1 := hU.r.c1
  have hXl := hU.r.lt
  have hle := hU.r.le
  clear h hz hb0
  have gtD : decide ((p : Int) < (xs.length : Int)) = true := decide_eq_true (by omega)
  refine wp_region_noPanic ?_
  refine wp_region_held_drew (S := fun V => Below U.heap.size U V) (by kernel_rfl) (Below.drewNr (w := U) 1) (fun hHeld => ?_)
  refine held_move 0 (Go.Operand.tmp 0) (some 3) (.pointer (some ⟨X, 0, none⟩)) (by kernel_rfl) (by kernel_rfl) (by kernel_rfl) (by kernel_rfl) (by kernel_rfl) (fun _ _ _ _ _ h => h) hHeld ?_
  refine held_call 1 33 #[Go.Operand.tmp 3] #[40] (some 4) #[.pointer (some ⟨X, 0, none⟩)] _ (by kernel_rfl) (by kernel_rfl) (by kernel_rfl) (by kernel_rfl) (fine_yes (hU.below hHeld) rfl) ?_
  rintro e Y1 ⟨rfl, hbY⟩
  refine ⟨_, rfl, hHeld.trans (hbY.mono hHeld.size), fun hHeld => ?_⟩
  refine held_move 2 (Go.Operand.tmp 4) (some 5) (.bool true) (by kernel_rfl) (by kernel_rfl) (by kernel_rfl) (by kernel_rfl) (by kernel_rfl) (fun _ _ _ _ _ h => h) hHeld ?_
  refine held_move 3 (Go.Operand.tmp 0) (some 6) (.pointer (some ⟨X, 0, none⟩)) (by kernel_rfl) (by kernel_rfl) (by kernel_rfl) (by kernel_rfl) (by kernel_rfl) (fun _ _ _ _ _ h => h) hHeld ?_
  refine held_nil 4 (Go.Operand.tmp 6) (some 7) ⟨X, 0, none⟩ (by kernel_rfl) (by kernel_rfl) (by kernel_rfl) (by kernel_rfl) (by kernel_rfl) (fun _ _ _ _ _ h => h) hHeld ?_
  refine held_field 5 44 (Go.Operand.tmp 7) 1 (some 8) (.pointer (some ⟨X, 0, none⟩)) (.pointer (some ⟨X, 1, none⟩)) (by kernel_rfl) (by kernel_rfl) (fun w => by kernel_rfl) (by kernel_rfl) (by kernel_rfl) (by kernel_rfl) (fun _ _ _ _ _ h => h) hHeld ?_
  refine held_cell 6 3 (Go.Operand.tmp 8) (some 9) (.pointer (some ⟨X, 1, none⟩)) (.int .i64 (p : Int)) (by kernel_rfl) (by kernel_rfl) (fun V hV => load_i64 X 1 V _ ((hV.cell (p := ⟨X, 1, none⟩) hXl).trans u1)) (by kernel_rfl) (by kernel_rfl) (by kernel_rfl) (fun _ _ _ _ _ h => h) hHeld ?_
  refine held_move 7 (Go.Operand.tmp 0) (some 10) (.pointer (some ⟨X, 0, none⟩)) (by kernel_rfl) (by kernel_rfl) (by kernel_rfl) (by kernel_rfl) (by kernel_rfl) (fun _ _ _ _ _ h => h) hHeld ?_
  refine held_nil 8 (Go.Operand.tmp 10) (some 11) ⟨X, 0, none⟩ (by kernel_rfl) (by kernel_rfl) (by kernel_rfl) (by kernel_rfl) (by kernel_rfl) (fun _ _ _ _ _ h => h) hHeld ?_
  refine held_field 9 44 (Go.Operand.tmp 11) 0 (some 12) (.pointer (some ⟨X, 0, none⟩)) (.pointer (some ⟨X, 0, none⟩)) (by kernel_rfl) (by kernel_rfl) (fun w => by kernel_rfl) (by kernel_rfl) (by kernel_rfl) (by kernel_rfl) (fun _ _ _ _ _ h => h) hHeld ?_
  refine held_cell 10 23 (Go.Operand.tmp 12) (some 13) (.pointer (some ⟨X, 0, none⟩)) (.slice A xs.length c) (by kernel_rfl) (by kernel_rfl) (fun V hV => load_slice X 0 V 23 (fun w => by kernel_rfl) _ ((hV.cell (p := ⟨X, 0, none⟩) hXl).trans u0)) (by kernel_rfl) (by kernel_rfl) (by kernel_rfl) (fun _ _ _ _ _ h => h) hHeld ?_
  refine held_any 11 (Go.Op.call { callee := Go.Callee.builtin Go.Builtin.len, args := #[Go.Operand.tmp 13], argTypes := #[23] }) (some 14) (.int .i64 (xs.length : Int)) (by kernel_rfl) (by kernel_rfl) (by kernel_rfl) (by kernel_rfl) (fun _ _ _ _ _ h => h) hHeld (fun o ho w _ => exec_lenA (vx := .slice A xs.length c) ho (by kernel_rfl) (fun _ => len_slice _ 5 _ Tryd.underlying23 A xs.length c _)) ?_
  refine held_bin 12 Go.BinOp.lss 3 (Go.Operand.tmp 9) (Go.Operand.tmp 14) 3 (some 15) (.int .i64 (p : Int)) (.int .i64 (xs.length : Int)) (.bool true) (by kernel_rfl) (by kernel_rfl) (fun w => by rw [lss_i64]; simp only [gtD]) (by kernel_rfl) (by kernel_rfl) (by kernel_rfl) (fun _ _ _ _ _ h => h) hHeld ?_
  refine held_pick 13 (Go.Operand.tmp 5) (Go.Operand.tmp 15) (Go.Operand.const (Go.Value.bool false)) (some 16) true (.bool true) (by kernel_rfl) (by kernel_rfl) (by kernel_rfl) (by kernel_rfl) (by kernel_rfl) (by kernel_rfl) (fun _ _ _ _ _ h => h) hHeld ?_
  refine wpAnyH_done (by kernel_rfl) ?_ _
  refine NoPanic.normal ?_
  simp only [put_list, List.set_cons_zero, List.set_cons_succ]
  have h2 := hU.below hHeld
  have u1 := h2.r.c1
  have hz2 := (hHeld.block w.heap.size (by omega)).trans hzU
  have hT2 := hTU.trans (Turn.of_below (F := (· = X)) hHeld) (fun q hq => .inl hq)
  have hY := hHeld.size
  clear hU u0 hzU hTU hHeld gtD
  go_wp2_with fail
  refine (fail_ok h2 104 p (by decide)).mono ?_
  rintro e W3 ⟨rfl, h3, ht3⟩
  have hz3 := (ht3.block w.heap.size (by omega) (by omega)).trans hz2
  have hT3 := hT2.trans ht3 (fun q hq => .inl hq)
  have hst : Turn (· = X) w (W3.setRow w.heap.size (frow 104 true p)) := ⟨hT3.os, hT3.tape, hT3.output, by simpa [World.setRow] using hT3.size, fun q hq hF => (setRow_other W3 w.heap.size q _ (by omega)).trans (hT3.block q hq hF)⟩
  have HF := Lib.hid hst
  clear hst hT3 hT2 hz2 h2 ht3 u1
  have hq := h3.b
  go_wp2_with (first | (refine wpList_load_mid rfl 42 _ rfl X 2 rfl _ _ hq Tryd.underlying42 rfl (info_F _ _ _) ?_) | (refine wpList_store_row rfl 42 _ _ rfl w.heap.size (frow 104 true p) rfl rfl _ _ hz3 (by kernel_rfl) rfl (frow_one _ _ _) ?_))
  refine bodyPost_ret (results_cell_row rfl _ _ _ _ _ _ _ rfl (setRow_heap _ _ _ _ _ _ hz3) Tryd.underlying42 rfl (by kernel_rfl)) rfl ?_
  exact ⟨rfl, HF.out⟩
end
end Go.Proofs.YtjgjaefbbhffbaaDoor
