import Derived.Test.YtffkjbbhbpaacaaDoorCok
import Derived.Test.YtffkjbbhbpaacaaDoorTrh
/-
  The document's Reader.
  The document's Reader: Raw, U8, U32.
  The document's Reader: List, Bool, Over.
-/
namespace Go.Proofs.YtffkjbbhbpaacaaDoor
open Go.RowKit

/-- the document's Reader as it lies -/
structure DrS (w : World) (X : Nat) (A : Option Addr) (xs : List Int) (p c : Nat) (cc : Int) (pl : Bool) (z : Int) : Prop where
  r : RdS w X A xs p c
  b : w.rangeAt X 2 (frow cc pl z).toList
  fz : ∀ o, w.frozen? ⟨X, o, none⟩ = false
theorem frow_len (cc : Int) (pl : Bool) (z : Int) : (frow cc pl z).toList.length = 3 := rfl
theorem info_F (cc : Int) (pl : Bool) (z : Int) : (Tryd.prog.info? 64).map (·.size) = some (frow cc pl z).toList.length := by kernel_rfl
section
variable {w : World} {X : Nat} {A : Option Addr} {xs : List Int} {p c : Nat} {cc : Int} {pl : Bool} {z : Int}
theorem DrS.turn {F : Nat → Prop} {w' : World} (h : DrS w X A xs p c cc pl z) (ht : Turn F w w') (hX : ¬ F X) (hA : ∀ a, A = some a → ¬ F a.block) : DrS w' X A xs p c cc pl z :=
  ⟨h.r.turn ht hX hA, ht.range h.b h.r.lt hX, fun o => (World.frozen?_of_block (ht.block X h.r.lt hX)).trans (h.fz o)⟩
theorem DrS.turn0 {F : Nat → Prop} {w' : World} (h : DrS w X A xs p c cc pl z) (ht : Turn F w w') (hX : ¬ F X) (hA : 0 < xs.length → ∀ a, A = some a → ¬ F a.block) : DrS w' X A xs p c cc pl z :=
  ⟨h.r.turn0 ht hX hA, ht.range h.b h.r.lt hX, fun o => (World.frozen?_of_block (ht.block X h.r.lt hX)).trans (h.fz o)⟩
theorem DrS.below {w' : World} (h : DrS w X A xs p c cc pl z) (hb : Below w.heap.size w w') : DrS w' X A xs p c cc pl z := h.turn (Turn.of_below (F := fun _ => False) hb) id (fun _ _ => id)
theorem DrS.move (h : DrS w X A xs p c cc pl z) (q : Nat) (hq : q ≤ xs.length) : DrS (w.setCell ⟨X, 1, none⟩ (.int .i64 (q : Int))) X A xs q c cc pl z ∧ Turn (· = X) w (w.setCell ⟨X, 1, none⟩ (.int .i64 (q : Int))) := by
  obtain ⟨h1, h2⟩ := h.r.move q hq
  refine ⟨⟨h1, fun j v hv => ?_, fun o => by rw [frozen_setCell]; exact h.fz o⟩, h2⟩
  rw [World.cell?_setCell_other _ _ _ _ (by intro e; have := congrArg Addr.off e; simp at this; omega)]
  exact h.b j v hv
theorem DrS.there (h : DrS w X A xs p c cc pl z) : w.there X 2 3 := fun j hj => by
  refine ⟨?_, h.fz _⟩
  have hl : j < (frow cc pl z).toList.length := hj
  rw [h.b j _ (List.getElem?_eq_getElem hl)]
  rfl
/-- it has failed -/
theorem DrS.bad (h : DrS w X A xs p c cc pl z) (cc' : Int) (pl' : Bool) (z' : Int) : DrS (w.setCells X 2 (frow cc' pl' z').toList) X A xs p c cc' pl' z' ∧ Turn (· = X) w (w.setCells X 2 (frow cc' pl' z').toList) := by
  have ht : Turn (· = X) w (w.setCells X 2 (frow cc' pl' z').toList) := Turn.of_grown (grown_setCells w X 2 _) (fun k hk => (Option.some.inj hk).symm)
  have hthere := h.there
  refine ⟨⟨⟨?_, ?_, by rw [World.frozen?_setCells]; exact h.r.f, h.r.rd.turn ht (fun h0 a ha => h.r.ap (by simpa using h0) a ha), h.r.ap, h.r.le, h.r.cl⟩, ?_, fun o => by rw [World.frozen?_setCells]; exact h.fz o⟩, ht⟩
  · rw [World.cell?_setCells_out X _ _ _ _ (fun _ _ => by left; show (0 : Nat) < 2; omega)]; exact h.r.c0
  · rw [World.cell?_setCells_out X _ _ _ _ (fun _ _ => by left; show (1 : Nat) < 2; omega)]; exact h.r.c1
  · exact World.rangeAt_setCells_same w X _ _ hthere
end
set_option maxRecDepth 100000 in
set_option maxHeartbeats 1600000 in
theorem bad_no (c : Int) (p : Bool) (z : Int) (w : World) (h : c = 0) : Calls Tryd.prog 28 #[.agg (frow c p z)] w fun e w' => e = .returned (.bool false) ∧ Below w.heap.size w w' := by
  subst h
  have hb := below_alc w (.cells (frow 0 p z) 64)
  go_enter Tryd.func28, Tryd.ntmps28
  unfold frow at *
  go_wp2_with fail
  go_ret
  exact ⟨rfl, hb⟩
set_option maxRecDepth 100000 in
set_option maxHeartbeats 1600000 in
theorem bad_yes (c : Int) (p : Bool) (z : Int) (w : World) (h : c ≠ 0) : Calls Tryd.prog 28 #[.agg (frow c p z)] w fun e w' => e = .returned (.bool true) ∧ Below w.heap.size w w' := by
  have q : (c != 0) = true := by simpa using h
  have hb := below_alc w (.cells (frow c p z) 64)
  go_enter Tryd.func28, Tryd.ntmps28
  unfold frow at *
  go_wp2_with fail
  go_ret
  exact ⟨rfl, hb⟩
section
variable {w : World} {X : Nat} {A : Option Addr} {xs : List Int} {p c : Nat} {cc : Int} {pl : Bool} {z : Int}
set_option maxRecDepth 100000 in
set_option maxHeartbeats 1600000 in
theorem fine_yes (h : DrS w X A xs p c cc pl z) (hc : cc = 0) : Calls Tryd.prog 68 #[.pointer (some ⟨X, 0, none⟩)] w fun e w' => e = .returned (.bool true) ∧ Below w.heap.size w w' := by
  have hr := h.b
  have H := bad_no cc pl z w hc
  clear h hc
  go_enter Tryd.func68, Tryd.ntmps68
  go_wp2_with (refine wpList_load_mid rfl 64 _ rfl X 2 rfl _ _ hr Tryd.underlying64 rfl (info_F _ _ _) ?_)
  refine H.mono ?_
  rintro e w1 ⟨rfl, hb⟩
  go_wp2_with fail
  go_ret
  exact ⟨rfl, hb⟩
set_option maxRecDepth 100000 in
set_option maxHeartbeats 1600000 in
theorem fine_no (h : DrS w X A xs p c cc pl z) (hc : cc ≠ 0) : Calls Tryd.prog 68 #[.pointer (some ⟨X, 0, none⟩)] w fun e w' => e = .returned (.bool false) ∧ Below w.heap.size w w' := by
  have hr := h.b
  have H := bad_yes cc pl z w hc
  clear h hc
  go_enter Tryd.func68, Tryd.ntmps68
  go_wp2_with (refine wpList_load_mid rfl 64 _ rfl X 2 rfl _ _ hr Tryd.underlying64 rfl (info_F _ _ _) ?_)
  refine H.mono ?_
  rintro e w1 ⟨rfl, hb⟩
  go_wp2_with fail
  go_ret
  exact ⟨rfl, hb⟩
set_option maxRecDepth 100000 in
set_option maxHeartbeats 1600000 in
theorem fail_ok (h : DrS w X A xs p c 0 pl z) (k q : Int) (hk : k ≠ 0) : Calls Tryd.prog 44 #[.pointer (some ⟨X, 0, none⟩), .int .i64 k, .int .i64 q] w fun e w' => e = .returned (.tuple #[]) ∧ DrS w' X A xs p c k true q ∧ Turn (· = X) w w' := by
  go_enter Tryd.func44, Tryd.ntmps44
  go_wp2_with fail
  refine (fine_yes h rfl).mono ?_
  rintro e w1 ⟨rfl, hb1⟩
  have h1 := h.below hb1
  go_wp2_with fail
  refine (placed_any k q w1 hk).mono ?_
  rintro e w2 ⟨rfl, hb2⟩
  have h2 := h1.below hb2
  have hst := h2.bad k true q
  have hthere : w2.there X 2 (frow k true q).size := h2.there
  have HF := Lib.hid (And.intro hst.1 (((Turn.of_below (hb1.trans (hb2.mono hb1.size))).trans hst.2 (fun q hq => .inl hq))))
  clear hst h h1 h2 hb1 hb2
  go_wp2_with (refine wpList_store_mid rfl 64 _ _ rfl X 2 (frow k true q) rfl rfl hthere (by kernel_rfl) (frow_one _ _ _) ?_)
  go_end0
  exact ⟨rfl, HF.out⟩
set_option maxRecDepth 100000 in
set_option maxHeartbeats 1600000 in
theorem fail_no (h : DrS w X A xs p c cc pl z) (hc : cc ≠ 0) (k q : Int) : Calls Tryd.prog 44 #[.pointer (some ⟨X, 0, none⟩), .int .i64 k, .int .i64 q] w fun e w' => e = .returned (.tuple #[]) ∧ Below w.heap.size w w' := by
  go_enter Tryd.func44, Tryd.ntmps44
  go_wp2_with fail
  refine (fine_no h hc).mono ?_
  rintro e w1 ⟨rfl, hb1⟩
  go_wp2_with fail
  go_end0
  exact ⟨rfl, hb1⟩
end
section
variable {P : Program} {a : Act} {w : World} {o : Oper}
theorem exec_lenA {x : Operand} {t : TypeId} {vx v : Value} (ho : o.op = .call { callee := .builtin .len, args := #[x], argTypes := #[t] }) (hx : a.eval x = vx)
    (he : ∀ ty, (Builtin.len_ #[t] ty #[vx]).run P w = .ok v w) : (execOp a.eval o).run P w = .ok (.value v) w := exec_len ho rfl hx (he _)
end
section
variable {w : World} {X : Nat} {A : Option Addr} {xs : List Int} {p c : Nat} {pl : Bool} {z : Int}
set_option maxRecDepth 100000 in
set_option maxHeartbeats 1600000 in
theorem draw_neg (h : DrS w X A xs p c 0 pl z) (n : Int) (h0 : n < 0) : Calls Tryd.prog 67 #[.pointer (some ⟨X, 0, none⟩), .int .i64 n] w fun e w' => e = .returned (.slice none 0 0) ∧ DrS w' X A xs p c 102 true p ∧ Turn (· = X) w w' := by
  have c1 := h.r.c1
  go_enter Tryd.func67, Tryd.ntmps67
  go_wp2_with fail
  refine (fail_ok h 102 p (by decide)).mono ?_
  rintro e U ⟨rfl, hU, hT⟩
  have hXl := hU.r.lt
  have HT := Lib.hid hT
  clear h hT c1
  go_upto_region 3 with (fail)
  refine wp_region_noPanic ?_
  refine wp_region_held_drew (S := fun V => Below U.heap.size U V) (by kernel_rfl) (Below.drewNr (w := U) 1) (fun hHeld => ?_)
  refine held_move 0 (Go.Operand.tmp 0) (some 13) (.pointer (some ⟨X, 0, none⟩)) (by kernel_rfl) (by kernel_rfl) (by kernel_rfl) (by kernel_rfl) (by kernel_rfl) (fun _ _ _ _ _ h => h) hHeld ?_
  refine held_call 1 68 #[Go.Operand.tmp 13] #[94] (some 14) #[.pointer (some ⟨X, 0, none⟩)] _ (by kernel_rfl) (by kernel_rfl) (by kernel_rfl) (by kernel_rfl) (fine_no (hU.below hHeld) (by decide)) ?_
  rintro e Y1 ⟨rfl, hbY⟩
  refine ⟨_, rfl, hHeld.trans (hbY.mono hHeld.size), fun hHeld => ?_⟩
  refine held_move 2 (Go.Operand.tmp 14) (some 15) (.bool false) (by kernel_rfl) (by kernel_rfl) (by kernel_rfl) (by kernel_rfl) (by kernel_rfl) (fun _ _ _ _ _ h => h) hHeld ?_
  refine held_off 3 (Go.Op.move (Go.Operand.tmp 1)) (some 16) (by kernel_rfl) (by kernel_rfl) (by kernel_rfl) (by kernel_rfl) (fun _ _ _ _ _ h => h) hHeld ?_
  refine held_off 4 (Go.Op.move (Go.Operand.tmp 0)) (some 17) (by kernel_rfl) (by kernel_rfl) (by kernel_rfl) (by kernel_rfl) (fun _ _ _ _ _ h => h) hHeld ?_
  refine held_off 5 (Go.Op.nilCheck (Go.Operand.tmp 17)) (some 18) (by kernel_rfl) (by kernel_rfl) (by kernel_rfl) (by kernel_rfl) (fun _ _ _ _ _ h => h) hHeld ?_
  refine held_off 6 (Go.Op.fieldAddr 96 (Go.Operand.tmp 18) 0) (some 19) (by kernel_rfl) (by kernel_rfl) (by kernel_rfl) (by kernel_rfl) (fun _ _ _ _ _ h => h) hHeld ?_
  refine held_off 7 (Go.Op.load 25 (Go.Operand.tmp 19)) (some 20) (by kernel_rfl) (by kernel_rfl) (by kernel_rfl) (by kernel_rfl) (fun _ _ _ _ _ h => h) hHeld ?_
  refine held_off 8 (Go.Op.call { callee := Go.Callee.builtin Go.Builtin.len, args := #[Go.Operand.tmp 20], argTypes := #[25] }) (some 21) (by kernel_rfl) (by kernel_rfl) (by kernel_rfl) (by kernel_rfl) (fun _ _ _ _ _ h => h) hHeld ?_
  refine held_off 9 (Go.Op.move (Go.Operand.tmp 0)) (some 22) (by kernel_rfl) (by kernel_rfl) (by kernel_rfl) (by kernel_rfl) (fun _ _ _ _ _ h => h) hHeld ?_
  refine held_off 10 (Go.Op.nilCheck (Go.Operand.tmp 22)) (some 23) (by kernel_rfl) (by kernel_rfl) (by kernel_rfl) (by kernel_rfl) (fun _ _ _ _ _ h => h) hHeld ?_
  refine held_off 11 (Go.Op.fieldAddr 96 (Go.Operand.tmp 23) 1) (some 24) (by kernel_rfl) (by kernel_rfl) (by kernel_rfl) (by kernel_rfl) (fun _ _ _ _ _ h => h) hHeld ?_
  refine held_off 12 (Go.Op.load 3 (Go.Operand.tmp 24)) (some 25) (by kernel_rfl) (by kernel_rfl) (by kernel_rfl) (by kernel_rfl) (fun _ _ _ _ _ h => h) hHeld ?_
  refine held_off 13 (Go.Op.binOp Go.BinOp.sub 3 (Go.Operand.tmp 21) (Go.Operand.tmp 25) 3) (some 26) (by kernel_rfl) (by kernel_rfl) (by kernel_rfl) (by kernel_rfl) (fun _ _ _ _ _ h => h) hHeld ?_
  refine held_off 14 (Go.Op.binOp Go.BinOp.gtr 3 (Go.Operand.tmp 16) (Go.Operand.tmp 26) 3) (some 27) (by kernel_rfl) (by kernel_rfl) (by kernel_rfl) (by kernel_rfl) (fun _ _ _ _ _ h => h) hHeld ?_
  refine held_pick 15 (Go.Operand.tmp 15) (Go.Operand.tmp 27) (Go.Operand.const (Go.Value.bool false)) (some 28) false (Go.Value.bool false) (by kernel_rfl) (by kernel_rfl) (by kernel_rfl) (by kernel_rfl) (by kernel_rfl) (by kernel_rfl) (fun _ _ _ _ _ h => h) hHeld ?_
  refine wpAnyH_done (by kernel_rfl) ?_ _
  refine NoPanic.normal ?_
  try simp only [Act.put, List.setIfInBounds_toArray, List.set_cons_zero, List.set_cons_succ]
  try simp only [put_list, List.set_cons_zero, List.set_cons_succ]
  have hU2 := hU.below hHeld
  go_wp2_with fail
  refine (fine_no hU2 (by decide)).mono ?_
  rintro e V ⟨rfl, hbV⟩
  have HF := Lib.hid (And.intro (hU2.below hbV) (HT.out.trans (Turn.of_below (F := (· = X)) (hHeld.trans (hbV.mono hHeld.size))) (fun q hq => .inl hq)))
  go_wp2_with fail
  go_ret
  exact ⟨rfl, HF.out⟩
set_option maxRecDepth 100000 in
set_option maxHeartbeats 1600000 in
theorem draw_no (h : DrS w X A xs p c 0 pl z) (hl : xs.length ≤ 100000) (n : Int) (h0 : 0 ≤ n) (hn : (xs.length : Int) - p < n) : Calls Tryd.prog 67 #[.pointer (some ⟨X, 0, none⟩), .int .i64 n] w fun e w' => e = .returned (.slice none 0 0) ∧ DrS w' X A xs p c 103 true p ∧ Turn (· = X) w w' := by
  have u0 := h.r.c0
  have u1 := h.r.c1
  have hXl := h.r.lt
  have hle := h.r.le
  have gtD : decide ((xs.length : Int) - p < n) = true := decide_eq_true hn
  go_enter Tryd.func67, Tryd.ntmps67
  go_upto_region 3 with (fail)
  refine wp_region_noPanic ?_
  refine wp_region_held_drew (S := fun V => Below w.heap.size w V) (by kernel_rfl) (Below.drewNr (w := w) 1) (fun hHeld => ?_)
  refine held_move 0 (Go.Operand.tmp 0) (some 13) (.pointer (some ⟨X, 0, none⟩)) (by kernel_rfl) (by kernel_rfl) (by kernel_rfl) (by kernel_rfl) (by kernel_rfl) (fun _ _ _ _ _ h => h) hHeld ?_
  refine held_call 1 68 #[Go.Operand.tmp 13] #[94] (some 14) #[.pointer (some ⟨X, 0, none⟩)] _ (by kernel_rfl) (by kernel_rfl) (by kernel_rfl) (by kernel_rfl) (fine_yes (h.below hHeld) rfl) ?_
  rintro e Y1 ⟨rfl, hbY⟩
  refine ⟨_, rfl, hHeld.trans (hbY.mono hHeld.size), fun hHeld => ?_⟩
  refine held_move 2 (Go.Operand.tmp 14) (some 15) (.bool true) (by kernel_rfl) (by kernel_rfl) (by kernel_rfl) (by kernel_rfl) (by kernel_rfl) (fun _ _ _ _ _ h => h) hHeld ?_
  refine held_move 3 (Go.Operand.tmp 1) (some 16) (.int .i64 n) (by kernel_rfl) (by kernel_rfl) (by kernel_rfl) (by kernel_rfl) (by kernel_rfl) (fun _ _ _ _ _ h => h) hHeld ?_
  refine held_move 4 (Go.Operand.tmp 0) (some 17) (.pointer (some ⟨X, 0, none⟩)) (by kernel_rfl) (by kernel_rfl) (by kernel_rfl) (by kernel_rfl) (by kernel_rfl) (fun _ _ _ _ _ h => h) hHeld ?_
  refine held_nil 5 (Go.Operand.tmp 17) (some 18) ⟨X, 0, none⟩ (by kernel_rfl) (by kernel_rfl) (by kernel_rfl) (by kernel_rfl) (by kernel_rfl) (fun _ _ _ _ _ h => h) hHeld ?_
  refine held_field 6 96 (Go.Operand.tmp 18) 0 (some 19) (.pointer (some ⟨X, 0, none⟩)) (.pointer (some ⟨X, 0, none⟩)) (by kernel_rfl) (by kernel_rfl) (fun w => by kernel_rfl) (by kernel_rfl) (by kernel_rfl) (by kernel_rfl) (fun _ _ _ _ _ h => h) hHeld ?_
  refine held_cell 7 25 (Go.Operand.tmp 19) (some 20) (.pointer (some ⟨X, 0, none⟩)) (.slice A xs.length c) (by kernel_rfl) (by kernel_rfl) (fun V hV => load_slice X 0 V 25 (fun w => by kernel_rfl) _ ((hV.cell (p := ⟨X, 0, none⟩) hXl).trans u0)) (by kernel_rfl) (by kernel_rfl) (by kernel_rfl) (fun _ _ _ _ _ h => h) hHeld ?_
  refine held_any 8 (Go.Op.call { callee := Go.Callee.builtin Go.Builtin.len, args := #[Go.Operand.tmp 20], argTypes := #[25] }) (some 21) (.int .i64 (xs.length : Int)) (by kernel_rfl) (by kernel_rfl) (by kernel_rfl) (by kernel_rfl) (fun _ _ _ _ _ h => h) hHeld (fun o ho w _ => exec_lenA (vx := .slice A xs.length c) ho (by kernel_rfl) (fun _ => len_slice _ 5 _ Tryd.underlying25 A xs.length c _)) ?_
  refine held_move 9 (Go.Operand.tmp 0) (some 22) (.pointer (some ⟨X, 0, none⟩)) (by kernel_rfl) (by kernel_rfl) (by kernel_rfl) (by kernel_rfl) (by kernel_rfl) (fun _ _ _ _ _ h => h) hHeld ?_
  refine held_nil 10 (Go.Operand.tmp 22) (some 23) ⟨X, 0, none⟩ (by kernel_rfl) (by kernel_rfl) (by kernel_rfl) (by kernel_rfl) (by kernel_rfl) (fun _ _ _ _ _ h => h) hHeld ?_
  refine held_field 11 96 (Go.Operand.tmp 23) 1 (some 24) (.pointer (some ⟨X, 0, none⟩)) (.pointer (some ⟨X, 1, none⟩)) (by kernel_rfl) (by kernel_rfl) (fun w => by kernel_rfl) (by kernel_rfl) (by kernel_rfl) (by kernel_rfl) (fun _ _ _ _ _ h => h) hHeld ?_
  refine held_cell 12 3 (Go.Operand.tmp 24) (some 25) (.pointer (some ⟨X, 1, none⟩)) (.int .i64 (p : Int)) (by kernel_rfl) (by kernel_rfl) (fun V hV => load_i64 X 1 V _ ((hV.cell (p := ⟨X, 1, none⟩) hXl).trans u1)) (by kernel_rfl) (by kernel_rfl) (by kernel_rfl) (fun _ _ _ _ _ h => h) hHeld ?_
  refine held_bin 13 Go.BinOp.sub 3 (Go.Operand.tmp 21) (Go.Operand.tmp 25) 3 (some 26) (.int .i64 (xs.length : Int)) (.int .i64 (p : Int)) (.int .i64 ((xs.length : Int) - p)) (by kernel_rfl) (by kernel_rfl) (fun w => sub_int _ _ _ w _ _ _ rfl (by omega) (by omega)) (by kernel_rfl) (by kernel_rfl) (by kernel_rfl) (fun _ _ _ _ _ h => h) hHeld ?_
  refine held_bin 14 Go.BinOp.gtr 3 (Go.Operand.tmp 16) (Go.Operand.tmp 26) 3 (some 27) (.int .i64 n) (.int .i64 ((xs.length : Int) - p)) (.bool true) (by kernel_rfl) (by kernel_rfl) (fun w => by rw [gtr_i64]; simp only [gtD]) (by kernel_rfl) (by kernel_rfl) (by kernel_rfl) (fun _ _ _ _ _ h => h) hHeld ?_
  refine held_pick 15 (Go.Operand.tmp 15) (Go.Operand.tmp 27) (Go.Operand.const (Go.Value.bool false)) (some 28) true (.bool true) (by kernel_rfl) (by kernel_rfl) (by kernel_rfl) (by kernel_rfl) (by kernel_rfl) (by kernel_rfl) (fun _ _ _ _ _ h => h) hHeld ?_
  refine wpAnyH_done (by kernel_rfl) ?_ _
  refine NoPanic.normal ?_
  try simp only [Act.put, List.setIfInBounds_toArray, List.set_cons_zero, List.set_cons_succ]
  try simp only [put_list, List.set_cons_zero, List.set_cons_succ]
  have hU := h.below hHeld
  have u1 := hU.r.c1
  have HT := Lib.hid hHeld
  clear h hHeld u0
  go_wp2_with fail
  refine (fail_ok hU 103 p (by decide)).mono ?_
  rintro e U ⟨rfl, hU2, hT⟩
  go_wp2_with fail
  refine (fine_no hU2 (by decide)).mono ?_
  rintro e V ⟨rfl, hbV⟩
  have HF := Lib.hid (And.intro (hU2.below hbV) (((Turn.of_below (F := (· = X)) HT.out).trans hT (fun q hq => .inl hq)).trans (Turn.of_below (F := (· = X)) hbV) (fun q hq => .inl hq)))
  go_wp2_with fail
  go_ret
  exact ⟨rfl, HF.out⟩
set_option maxRecDepth 100000 in
set_option maxHeartbeats 1600000 in
theorem draw_ok (h : DrS w X A xs p c 0 pl z) (hl : xs.length ≤ 100000) (n : Nat) (hp : p + n ≤ xs.length) : Calls Tryd.prog 67 #[.pointer (some ⟨X, 0, none⟩), .int .i64 (n : Int)] w fun e w' => ∃ v, e = .returned v ∧ w'.ownsRow w.heap.size 5 1 v n (ints .u8 ((xs.drop p).take n)) ∧ DrS w' X A xs (p + n) c 0 pl z ∧ Turn (· = X) w w' := by
  have u0 := h.r.c0
  have u1 := h.r.c1
  have hXl := h.r.lt
  have hle := h.r.le
  have gtD : decide ((xs.length : Int) - p < (n : Int)) = false := decide_eq_false (by omega)
  go_enter Tryd.func67, Tryd.ntmps67
  go_upto_region 3 with (fail)
  refine wp_region_noPanic ?_
  refine wp_region_held_drew (S := fun V => Below w.heap.size w V) (by kernel_rfl) (Below.drewNr (w := w) 1) (fun hHeld => ?_)
  refine held_move 0 (Go.Operand.tmp 0) (some 13) (.pointer (some ⟨X, 0, none⟩)) (by kernel_rfl) (by kernel_rfl) (by kernel_rfl) (by kernel_rfl) (by kernel_rfl) (fun _ _ _ _ _ h => h) hHeld ?_
  refine held_call 1 68 #[Go.Operand.tmp 13] #[94] (some 14) #[.pointer (some ⟨X, 0, none⟩)] _ (by kernel_rfl) (by kernel_rfl) (by kernel_rfl) (by kernel_rfl) (fine_yes (h.below hHeld) rfl) ?_
  rintro e Y1 ⟨rfl, hbY⟩
  refine ⟨_, rfl, hHeld.trans (hbY.mono hHeld.size), fun hHeld => ?_⟩
  refine held_move 2 (Go.Operand.tmp 14) (some 15) (.bool true) (by kernel_rfl) (by kernel_rfl) (by kernel_rfl) (by kernel_rfl) (by kernel_rfl) (fun _ _ _ _ _ h => h) hHeld ?_
  refine held_move 3 (Go.Operand.tmp 1) (some 16) (.int .i64 (n : Int)) (by kernel_rfl) (by kernel_rfl) (by kernel_rfl) (by kernel_rfl) (by kernel_rfl) (fun _ _ _ _ _ h => h) hHeld ?_
  refine held_move 4 (Go.Operand.tmp 0) (some 17) (.pointer (some ⟨X, 0, none⟩)) (by kernel_rfl) (by kernel_rfl) (by kernel_rfl) (by kernel_rfl) (by kernel_rfl) (fun _ _ _ _ _ h => h) hHeld ?_
  refine held_nil 5 (Go.Operand.tmp 17) (some 18) ⟨X, 0, none⟩ (by kernel_rfl) (by kernel_rfl) (by kernel_rfl) (by kernel_rfl) (by kernel_rfl) (fun _ _ _ _ _ h => h) hHeld ?_
  refine held_field 6 96 (Go.Operand.tmp 18) 0 (some 19) (.pointer (some ⟨X, 0, none⟩)) (.pointer (some ⟨X, 0, none⟩)) (by kernel_rfl) (by kernel_rfl) (fun w => by kernel_rfl) (by kernel_rfl) (by kernel_rfl) (by kernel_rfl) (fun _ _ _ _ _ h => h) hHeld ?_
  refine held_cell 7 25 (Go.Operand.tmp 19) (some 20) (.pointer (some ⟨X, 0, none⟩)) (.slice A xs.length c) (by kernel_rfl) (by kernel_rfl) (fun V hV => load_slice X 0 V 25 (fun w => by kernel_rfl) _ ((hV.cell (p := ⟨X, 0, none⟩) hXl).trans u0)) (by kernel_rfl) (by kernel_rfl) (by kernel_rfl) (fun _ _ _ _ _ h => h) hHeld ?_
  refine held_any 8 (Go.Op.call { callee := Go.Callee.builtin Go.Builtin.len, args := #[Go.Operand.tmp 20], argTypes := #[25] }) (some 21) (.int .i64 (xs.length : Int)) (by kernel_rfl) (by kernel_rfl) (by kernel_rfl) (by kernel_rfl) (fun _ _ _ _ _ h => h) hHeld (fun o ho w _ => exec_lenA (vx := .slice A xs.length c) ho (by kernel_rfl) (fun _ => len_slice _ 5 _ Tryd.underlying25 A xs.length c _)) ?_
  refine held_move 9 (Go.Operand.tmp 0) (some 22) (.pointer (some ⟨X, 0, none⟩)) (by kernel_rfl) (by kernel_rfl) (by kernel_rfl) (by kernel_rfl) (by kernel_rfl) (fun _ _ _ _ _ h => h) hHeld ?_
  refine held_nil 10 (Go.Operand.tmp 22) (some 23) ⟨X, 0, none⟩ (by kernel_rfl) (by kernel_rfl) (by kernel_rfl) (by kernel_rfl) (by kernel_rfl) (fun _ _ _ _ _ h => h) hHeld ?_
  refine held_field 11 96 (Go.Operand.tmp 23) 1 (some 24) (.pointer (some ⟨X, 0, none⟩)) (.pointer (some ⟨X, 1, none⟩)) (by kernel_rfl) (by kernel_rfl) (fun w => by kernel_rfl) (by kernel_rfl) (by kernel_rfl) (by kernel_rfl) (fun _ _ _ _ _ h => h) hHeld ?_
  refine held_cell 12 3 (Go.Operand.tmp 24) (some 25) (.pointer (some ⟨X, 1, none⟩)) (.int .i64 (p : Int)) (by kernel_rfl) (by kernel_rfl) (fun V hV => load_i64 X 1 V _ ((hV.cell (p := ⟨X, 1, none⟩) hXl).trans u1)) (by kernel_rfl) (by kernel_rfl) (by kernel_rfl) (fun _ _ _ _ _ h => h) hHeld ?_
  refine held_bin 13 Go.BinOp.sub 3 (Go.Operand.tmp 21) (Go.Operand.tmp 25) 3 (some 26) (.int .i64 (xs.length : Int)) (.int .i64 (p : Int)) (.int .i64 ((xs.length : Int) - p)) (by kernel_rfl) (by kernel_rfl) (fun w => sub_int _ _ _ w _ _ _ rfl (by omega) (by omega)) (by kernel_rfl) (by kernel_rfl) (by kernel_rfl) (fun _ _ _ _ _ h => h) hHeld ?_
  refine held_bin 14 Go.BinOp.gtr 3 (Go.Operand.tmp 16) (Go.Operand.tmp 26) 3 (some 27) (.int .i64 (n : Int)) (.int .i64 ((xs.length : Int) - p)) (.bool false) (by kernel_rfl) (by kernel_rfl) (fun w => by rw [gtr_i64]; simp only [gtD]) (by kernel_rfl) (by kernel_rfl) (by kernel_rfl) (fun _ _ _ _ _ h => h) hHeld ?_
  refine held_pick 15 (Go.Operand.tmp 15) (Go.Operand.tmp 27) (Go.Operand.const (Go.Value.bool false)) (some 28) true (.bool false) (by kernel_rfl) (by kernel_rfl) (by kernel_rfl) (by kernel_rfl) (by kernel_rfl) (by kernel_rfl) (fun _ _ _ _ _ h => h) hHeld ?_
  refine wpAnyH_done (by kernel_rfl) ?_ _
  refine NoPanic.normal ?_
  try simp only [Act.put, List.setIfInBounds_toArray, List.set_cons_zero, List.set_cons_succ]
  try simp only [put_list, List.set_cons_zero, List.set_cons_succ]
  have h1 := h.below hHeld
  have HT := Lib.hid hHeld
  clear h hHeld u0 u1 gtD
  go_wp2_with fail
  refine (fine_yes h1 rfl).mono ?_
  rintro e W1 ⟨rfl, hbV⟩
  have h2 := h1.below hbV
  have HB := Lib.hid (HT.out.trans (hbV.mono HT.out.size))
  have c0 := h2.r.c0
  have c1 := h2.r.c1
  have f1 := h2.r.f
  clear h1 hbV
  go_upto_region 8 with (fail)
  obtain ⟨hmv, hmt⟩ := h2.move (p + n) (by omega)
  rw [show ((p + n : Nat) : Int) = (p : Int) + n from Int.natCast_add p n] at hmv hmt
  refine wp_world (fun V => DrS V X A xs (p + n) c 0 pl z ∧ Turn (· = X) w V) ⟨hmv, (Turn.of_below HB.out).trans hmt (fun q hq => .inl hq)⟩ ?_
  rintro U ⟨hU, hT⟩
  obtain ⟨hsl, hys⟩ := cut_read hU.r.rd hU.r.cl p n hp
  generalize cutA A p c = A2 at *
  generalize c - p = c2 at *
  have hyl : ((xs.drop p).take n).length ≤ 140737488351232 := by simp; omega
  have hyn : ((xs.drop p).take n).length = n := by simp; omega
  obtain ⟨ys, hy0⟩ : ∃ ys, (xs.drop p).take n = ys := ⟨_, rfl⟩
  rw [hy0] at hyl hyn hys
  have HY := Lib.hid hy0
  clear hy0
  have u0 := hU.r.c0
  have u1 : U.cell? ⟨X, 1, none⟩ = some (.int .i64 ((p : Int) + n)) := hU.r.c1
  have hXl := hU.r.lt
  have HF := Lib.hid (And.intro hU hT)
  clear hU hT hmv hmt h2 c0 c1 f1
  subst hyn
  refine wp_region_noPanic ?_
  refine wp_region_held_drew (S := fun V => Below U.heap.size U V) (by kernel_rfl) (Below.drewNr (w := U) 1) (fun hHeld => ?_)
  refine held_move 0 (Go.Operand.tmp 0) (some 47) (.pointer (some ⟨X, 0, none⟩)) (by kernel_rfl) (by kernel_rfl) (by kernel_rfl) (by kernel_rfl) (by kernel_rfl) (fun _ _ _ _ _ h => h) hHeld ?_
  refine held_nil 1 (Go.Operand.tmp 47) (some 48) ⟨X, 0, none⟩ (by kernel_rfl) (by kernel_rfl) (by kernel_rfl) (by kernel_rfl) (by kernel_rfl) (fun _ _ _ _ _ h => h) hHeld ?_
  refine held_field 2 96 (Go.Operand.tmp 48) 0 (some 49) (.pointer (some ⟨X, 0, none⟩)) (.pointer (some ⟨X, 0, none⟩)) (by kernel_rfl) (by kernel_rfl) (fun w => by kernel_rfl) (by kernel_rfl) (by kernel_rfl) (by kernel_rfl) (fun _ _ _ _ _ h => h) hHeld ?_
  refine held_cell 3 25 (Go.Operand.tmp 49) (some 50) (.pointer (some ⟨X, 0, none⟩)) (.slice A xs.length c) (by kernel_rfl) (by kernel_rfl) (fun V hV => load_slice X 0 V 25 (fun w => by kernel_rfl) _ ((hV.cell (p := ⟨X, 0, none⟩) hXl).trans u0)) (by kernel_rfl) (by kernel_rfl) (by kernel_rfl) (fun _ _ _ _ _ h => h) hHeld ?_
  refine held_move 4 (Go.Operand.tmp 0) (some 51) (.pointer (some ⟨X, 0, none⟩)) (by kernel_rfl) (by kernel_rfl) (by kernel_rfl) (by kernel_rfl) (by kernel_rfl) (fun _ _ _ _ _ h => h) hHeld ?_
  refine held_nil 5 (Go.Operand.tmp 51) (some 52) ⟨X, 0, none⟩ (by kernel_rfl) (by kernel_rfl) (by kernel_rfl) (by kernel_rfl) (by kernel_rfl) (fun _ _ _ _ _ h => h) hHeld ?_
  refine held_field 6 96 (Go.Operand.tmp 52) 1 (some 53) (.pointer (some ⟨X, 0, none⟩)) (.pointer (some ⟨X, 1, none⟩)) (by kernel_rfl) (by kernel_rfl) (fun w => by kernel_rfl) (by kernel_rfl) (by kernel_rfl) (by kernel_rfl) (fun _ _ _ _ _ h => h) hHeld ?_
  refine held_cell 7 3 (Go.Operand.tmp 53) (some 54) (.pointer (some ⟨X, 1, none⟩)) (.int .i64 ((p : Int) + ys.length)) (by kernel_rfl) (by kernel_rfl) (fun V hV => load_i64 X 1 V _ ((hV.cell (p := ⟨X, 1, none⟩) hXl).trans u1)) (by kernel_rfl) (by kernel_rfl) (by kernel_rfl) (fun _ _ _ _ _ h => h) hHeld ?_
  refine held_move 8 (Go.Operand.tmp 1) (some 55) (.int .i64 (ys.length : Int)) (by kernel_rfl) (by kernel_rfl) (by kernel_rfl) (by kernel_rfl) (by kernel_rfl) (fun _ _ _ _ _ h => h) hHeld ?_
  refine held_bin 9 Go.BinOp.sub 3 (Go.Operand.tmp 54) (Go.Operand.tmp 55) 3 (some 56) (.int .i64 ((p : Int) + ys.length)) (.int .i64 (ys.length : Int)) (.int .i64 (p : Int)) (by kernel_rfl) (by kernel_rfl) (fun w => sub_int _ _ _ w _ _ _ (by omega) (by omega) (by omega)) (by kernel_rfl) (by kernel_rfl) (by kernel_rfl) (fun _ _ _ _ _ h => h) hHeld ?_
  refine held_move 10 (Go.Operand.tmp 0) (some 57) (.pointer (some ⟨X, 0, none⟩)) (by kernel_rfl) (by kernel_rfl) (by kernel_rfl) (by kernel_rfl) (by kernel_rfl) (fun _ _ _ _ _ h => h) hHeld ?_
  refine held_nil 11 (Go.Operand.tmp 57) (some 58) ⟨X, 0, none⟩ (by kernel_rfl) (by kernel_rfl) (by kernel_rfl) (by kernel_rfl) (by kernel_rfl) (fun _ _ _ _ _ h => h) hHeld ?_
  refine held_field 12 96 (Go.Operand.tmp 58) 1 (some 59) (.pointer (some ⟨X, 0, none⟩)) (.pointer (some ⟨X, 1, none⟩)) (by kernel_rfl) (by kernel_rfl) (fun w => by kernel_rfl) (by kernel_rfl) (by kernel_rfl) (by kernel_rfl) (fun _ _ _ _ _ h => h) hHeld ?_
  refine held_cell 13 3 (Go.Operand.tmp 59) (some 60) (.pointer (some ⟨X, 1, none⟩)) (.int .i64 ((p : Int) + ys.length)) (by kernel_rfl) (by kernel_rfl) (fun V hV => load_i64 X 1 V _ ((hV.cell (p := ⟨X, 1, none⟩) hXl).trans u1)) (by kernel_rfl) (by kernel_rfl) (by kernel_rfl) (fun _ _ _ _ _ h => h) hHeld ?_
  refine held_slice 14 25 (Go.Operand.tmp 50) (some (Go.Operand.tmp 56)) (some (Go.Operand.tmp 60)) none (some 61) (.slice A xs.length c) (some (.int .i64 (p : Int))) (some (.int .i64 ((p : Int) + ys.length))) none (.slice A2 ys.length c2) (by kernel_rfl) (by kernel_rfl) (hsl) (by kernel_rfl) (by kernel_rfl) (by kernel_rfl) (fun _ _ _ _ _ h => h) hHeld ?_
  refine held_call 15 31 #[Go.Operand.tmp 61] #[25] (some 62) #[.slice A2 ys.length c2] _ (by kernel_rfl) (by kernel_rfl) (by kernel_rfl) (by kernel_rfl) (bytes_any A2 ys c2 _ (hys.below hHeld) hyl) ?_
  rintro e Y1 ⟨v1, rfl, hown, hbY⟩
  obtain ⟨Av, cv, rfl, _⟩ := ownsRow_form hown
  refine ⟨_, rfl, hHeld.trans (hbY.mono hHeld.size), fun hHeld => ?_⟩
  refine held_assign 16 (Go.Operand.tmp 62) (some 4) (.slice Av ys.length cv) (by kernel_rfl) (by kernel_rfl) (by kernel_rfl) (by kernel_rfl) (by kernel_rfl) (fun _ _ _ _ _ h => h) hHeld ?_
  refine wpAnyH_done (by kernel_rfl) ?_ _
  refine NoPanic.normal ?_
  try simp only [Act.put, List.setIfInBounds_toArray, List.set_cons_zero, List.set_cons_succ]
  try simp only [put_list, List.set_cons_zero, List.set_cons_succ]
  go_wp2_with fail
  go_ret
  refine ⟨.slice Av ys.length cv, rfl, ?_, HF.out.1.below hHeld, HF.out.2.trans (Turn.of_below (F := (· = X)) hHeld) (fun q hq => .inl hq)⟩
  rw [HY.out]
  exact ownsRow_lower hown HF.out.2.size
set_option maxRecDepth 100000 in
set_option maxHeartbeats 1600000 in
theorem du8_no (h : DrS w X A xs p c 0 pl z) (hl : xs.length ≤ 100000) (hp : xs.length < p + 1) : Calls Tryd.prog 43 #[.pointer (some ⟨X, 0, none⟩)] w fun e w' => e = .returned (.int .i64 0) ∧ DrS w' X A xs p c 103 true p ∧ Turn (· = X) w w' := by
  have H := draw_no h hl 1 (by omega) (by omega)
  clear h
  go_enter Tryd.func43, Tryd.ntmps43
  go_wp2_with fail
  refine H.mono ?_
  rintro e U ⟨rfl, hF⟩
  have hF := Lib.hid hF
  go_wp2_with fail
  go_ret
  exact ⟨rfl, hF.out⟩
set_option maxRecDepth 100000 in
set_option maxHeartbeats 1600000 in
theorem du32_no (h : DrS w X A xs p c 0 pl z) (hl : xs.length ≤ 100000) (hp : xs.length < p + 4) : Calls Tryd.prog 45 #[.pointer (some ⟨X, 0, none⟩)] w fun e w' => e = .returned (.int .u32 0) ∧ DrS w' X A xs p c 103 true p ∧ Turn (· = X) w w' := by
  have H := draw_no h hl 4 (by omega) (by omega)
  clear h
  go_enter Tryd.func45, Tryd.ntmps45
  go_wp2_with fail
  refine H.mono ?_
  rintro e U ⟨rfl, hF⟩
  have hF := Lib.hid hF
  go_wp2_with fail
  go_ret
  exact ⟨rfl, hF.out⟩
set_option maxRecDepth 100000 in
set_option maxHeartbeats 1600000 in
theorem get32_any (B : Option Addr) (ys : List Int) (cb : Nat) (w : World) (hB : SlRead w B (ints .u8 ys)) (h4 : ys.length = 4) (hx : Byts ys) : Calls Tryd.prog 70 #[.slice B 4 cb] w fun e w' => e = .returned (.int .u32 (wordI ys 0)) ∧ Below w.heap.size w w' := by
  obtain ⟨b, o, rfl, hlt, hc⟩ := hB (by simp; omega)
  have k0 := hc 0 _ (ints_get .u8 ys 0 _ (byteI_get (by omega)))
  have k1 := hc 1 _ (ints_get .u8 ys 1 _ (byteI_get (by omega)))
  have k2 := hc 2 _ (ints_get .u8 ys 2 _ (byteI_get (by omega)))
  have k3 := hc 3 _ (ints_get .u8 ys 3 _ (byteI_get (by omega)))
  rw [Nat.add_zero] at k0
  have r0 := hx.at_ 0
  have r1 := hx.at_ 1
  have r2 := hx.at_ 2
  have r3 := hx.at_ 3
  have HV : Hid (wordI ys 0 = byteI ys 0 + byteI ys 1 * 256 + byteI ys 2 * 65536 + byteI ys 3 * 16777216) := Lib.hid rfl
  generalize byteI ys 0 = x0 at *
  generalize byteI ys 1 = x1 at *
  generalize byteI ys 2 = x2 at *
  generalize byteI ys 3 = x3 at *
  have hor := or4 x0 x1 x2 x3 r0 r1 r2 r3
  have m1 : x1 * 256 % 4294967296 = x1 * 256 := by omega
  have m2 : x2 * 65536 % 4294967296 = x2 * 65536 := by omega
  have m3 : x3 * 16777216 % 4294967296 = x3 * 16777216 := by omega
  clear hc h4
  go_enter Tryd.func70, Tryd.ntmps70
  go_wp2_with fail
  go_quiet (fail)
  go_wp2_with fail
  go_ret
  exact ⟨by rw [HV.out]; rfl, Below.drewNr _⟩
theorem byteI_cut (xs : List Int) (p n j : Nat) (hj : j < n) : byteI ((xs.drop p).take n) j = byteI xs (p + j) := by
  unfold byteI
  simp [List.getD, hj]
set_option maxRecDepth 100000 in
set_option maxHeartbeats 1600000 in
theorem du8_ok (h : DrS w X A xs p c 0 pl z) (hx : Byts xs) (hl : xs.length ≤ 100000) (hp : p < xs.length) : Calls Tryd.prog 43 #[.pointer (some ⟨X, 0, none⟩)] w fun e w' => e = .returned (.int .i64 (byteI xs p)) ∧ DrS w' X A xs (p + 1) c 0 pl z ∧ Turn (· = X) w w' := by
  have H := draw_ok h hl 1 (by omega)
  clear h
  obtain ⟨y, hy⟩ : ∃ y, byteI xs p = y := ⟨_, rfl⟩
  have hcut : (xs.drop p).take 1 = [y] := by
    rw [← hy]
    refine List.ext_getElem? fun j => ?_
    rcases j with _ | j
    · rw [List.getElem?_take, if_pos (by omega), List.getElem?_drop]; exact byteI_get hp
    · simp; omega
  rw [hcut] at H
  have hy0 := hx.at_ p
  rw [hy] at hy0
  have hwr : wrap64 y = y := by unfold wrap64; omega
  have HY := Lib.hid hy
  clear hy hcut
  go_enter Tryd.func43, Tryd.ntmps43
  go_wp2_with fail
  refine H.mono ?_
  rintro e U ⟨v, rfl, hown, hF⟩
  obtain ⟨A2, c2, rfl, _⟩ := ownsRow_form hown
  obtain ⟨b, o, rfl, _, hc⟩ := SlRead.of_own hown (by simp [ints])
  have k0 := hc 0 _ rfl
  rw [Nat.add_zero] at k0
  have hF := Lib.hid hF
  clear hown hc H
  go_wp2_with fail
  go_ret
  exact ⟨by rw [HY.out]; rfl, hF.out⟩
set_option maxRecDepth 100000 in
set_option maxHeartbeats 1600000 in
theorem du32_ok (h : DrS w X A xs p c 0 pl z) (hx : Byts xs) (hl : xs.length ≤ 100000) (hp : p + 4 ≤ xs.length) : Calls Tryd.prog 45 #[.pointer (some ⟨X, 0, none⟩)] w fun e w' => e = .returned (.int .u32 (wordI xs p)) ∧ DrS w' X A xs (p + 4) c 0 pl z ∧ Turn (· = X) w w' := by
  have H := draw_ok h hl 4 hp
  clear h
  have hw : wordI ((xs.drop p).take 4) 0 = wordI xs p := by
    unfold wordI
    rw [byteI_cut _ _ _ _ (by omega), byteI_cut _ _ _ _ (by omega), byteI_cut _ _ _ _ (by omega), byteI_cut _ _ _ _ (by omega)]
    rfl
  have hb : Byts ((xs.drop p).take 4) := fun x hxx => hx x (List.mem_of_mem_drop (List.mem_of_mem_take hxx))
  have hn : ((xs.drop p).take 4).length = 4 := by simp; omega
  generalize (xs.drop p).take 4 = ys at *
  have HW := Lib.hid (And.intro hw hn)
  clear hw hn
  go_enter Tryd.func45, Tryd.ntmps45
  go_wp2_with fail
  refine H.mono ?_
  rintro e U ⟨v, rfl, hown, hF⟩
  obtain ⟨A2, c2, rfl, _⟩ := ownsRow_form hown
  have hG := get32_any A2 ys c2 U (SlRead.of_own hown) HW.out.2 hb
  rw [HW.out.1] at hG
  clear hown H
  go_wp2_with fail
  refine hG.mono ?_
  rintro e V ⟨rfl, hbV⟩
  have hF := Lib.hid (And.intro (hF.1.below hbV) (hF.2.trans (Turn.of_below (F := (· = X)) hbV) (fun q hq => .inl hq)))
  go_wp2_with fail
  go_ret
  exact ⟨rfl, hF.out⟩
end
theorem cvt_u32k (n : Int) (h : 0 ≤ n ∧ n < 4294967296) (w : World) : (convert 38 3 (.int .u32 n)).run Tryd.prog w = .ok (.int .i64 n) w := by
  have h1 := Tryd.underlying38
  have h2 := Tryd.underlying3
  have e : IntKind.i64.wrap n = n := IntWalk.i64_in _ (by omega)
  simp [convert, run_underlying h1, run_underlying h2, Conv.intToInt, e]
section
variable {w : World} {X : Nat} {A : Option Addr} {xs : List Int} {p c : Nat} {pl : Bool} {z : Int}
set_option maxRecDepth 100000 in
set_option maxHeartbeats 1600000 in
theorem dlist_no4 (h : DrS w X A xs p c 0 pl z) (hl : xs.length ≤ 100000) (m : Int) (hp : xs.length < p + 4) : Calls Tryd.prog 46 #[.pointer (some ⟨X, 0, none⟩), .int .i64 m] w fun e w' => e = .returned (.slice none 0 0) ∧ DrS w' X A xs p c 103 true p ∧ Turn (· = X) w w' := by
  have H := du32_no h hl hp
  have c1 := h.r.c1
  clear h
  go_enter Tryd.func46, Tryd.ntmps46
  go_wp2_with fail
  refine H.mono ?_
  rintro e W1 ⟨rfl, h1, ht1⟩
  go_wp2_with fail
  refine (fine_no h1 (by decide)).mono ?_
  rintro e W2 ⟨rfl, hb2⟩
  have h2 := h1.below hb2
  have HT := Lib.hid (ht1.trans (Turn.of_below (F := (· = X)) hb2) (fun q hq => .inl hq))
  clear h1 ht1 hb2
  go_upto_region 5 with (fail)
  have hwd : (0 : Int) ≤ 0 ∧ (0 : Int) < 4294967296 := by decide
  refine wp_region_noPanic ?_
  refine wp_region_held_drew (S := fun V => Below W2.heap.size W2 V) (by kernel_rfl) (Below.drewNr (w := W2) 1) (fun hHeld => ?_)
  refine held_move 0 (Go.Operand.tmp 0) (some 24) (.pointer (some ⟨X, 0, none⟩)) (by kernel_rfl) (by kernel_rfl) (by kernel_rfl) (by kernel_rfl) (by kernel_rfl) (fun _ _ _ _ _ h => h) hHeld ?_
  refine held_call 1 68 #[Go.Operand.tmp 24] #[94] (some 25) #[.pointer (some ⟨X, 0, none⟩)] _ (by kernel_rfl) (by kernel_rfl) (by kernel_rfl) (by kernel_rfl) (fine_no (h2.below hHeld) (by decide)) ?_
  rintro e Y1 ⟨rfl, hbY⟩
  refine ⟨_, rfl, hHeld.trans (hbY.mono hHeld.size), fun hHeld => ?_⟩
  refine held_move 2 (Go.Operand.tmp 25) (some 26) (.bool false) (by kernel_rfl) (by kernel_rfl) (by kernel_rfl) (by kernel_rfl) (by kernel_rfl) (fun _ _ _ _ _ h => h) hHeld ?_
  refine held_off 3 (Go.Op.move (Go.Operand.tmp 6)) (some 27) (by kernel_rfl) (by kernel_rfl) (by kernel_rfl) (by kernel_rfl) (fun _ _ _ _ _ h => h) hHeld ?_
  refine held_off 4 (Go.Op.convert 38 3 (Go.Operand.tmp 27)) (some 28) (by kernel_rfl) (by kernel_rfl) (by kernel_rfl) (by kernel_rfl) (fun _ _ _ _ _ h => h) hHeld ?_
  refine held_off 5 (Go.Op.move (Go.Operand.tmp 0)) (some 29) (by kernel_rfl) (by kernel_rfl) (by kernel_rfl) (by kernel_rfl) (fun _ _ _ _ _ h => h) hHeld ?_
  refine held_off 6 (Go.Op.nilCheck (Go.Operand.tmp 29)) (some 30) (by kernel_rfl) (by kernel_rfl) (by kernel_rfl) (by kernel_rfl) (fun _ _ _ _ _ h => h) hHeld ?_
  refine held_off 7 (Go.Op.fieldAddr 96 (Go.Operand.tmp 30) 0) (some 31) (by kernel_rfl) (by kernel_rfl) (by kernel_rfl) (by kernel_rfl) (fun _ _ _ _ _ h => h) hHeld ?_
  refine held_off 8 (Go.Op.load 25 (Go.Operand.tmp 31)) (some 32) (by kernel_rfl) (by kernel_rfl) (by kernel_rfl) (by kernel_rfl) (fun _ _ _ _ _ h => h) hHeld ?_
  refine held_off 9 (Go.Op.call { callee := Go.Callee.builtin Go.Builtin.len, args := #[Go.Operand.tmp 32], argTypes := #[25] }) (some 33) (by kernel_rfl) (by kernel_rfl) (by kernel_rfl) (by kernel_rfl) (fun _ _ _ _ _ h => h) hHeld ?_
  refine held_off 10 (Go.Op.move (Go.Operand.tmp 0)) (some 34) (by kernel_rfl) (by kernel_rfl) (by kernel_rfl) (by kernel_rfl) (fun _ _ _ _ _ h => h) hHeld ?_
  refine held_off 11 (Go.Op.nilCheck (Go.Operand.tmp 34)) (some 35) (by kernel_rfl) (by kernel_rfl) (by kernel_rfl) (by kernel_rfl) (fun _ _ _ _ _ h => h) hHeld ?_
  refine held_off 12 (Go.Op.fieldAddr 96 (Go.Operand.tmp 35) 1) (some 36) (by kernel_rfl) (by kernel_rfl) (by kernel_rfl) (by kernel_rfl) (fun _ _ _ _ _ h => h) hHeld ?_
  refine held_off 13 (Go.Op.load 3 (Go.Operand.tmp 36)) (some 37) (by kernel_rfl) (by kernel_rfl) (by kernel_rfl) (by kernel_rfl) (fun _ _ _ _ _ h => h) hHeld ?_
  refine held_off 14 (Go.Op.binOp Go.BinOp.sub 3 (Go.Operand.tmp 33) (Go.Operand.tmp 37) 3) (some 38) (by kernel_rfl) (by kernel_rfl) (by kernel_rfl) (by kernel_rfl) (fun _ _ _ _ _ h => h) hHeld ?_
  refine held_off 15 (Go.Op.binOp Go.BinOp.gtr 3 (Go.Operand.tmp 28) (Go.Operand.tmp 38) 3) (some 39) (by kernel_rfl) (by kernel_rfl) (by kernel_rfl) (by kernel_rfl) (fun _ _ _ _ _ h => h) hHeld ?_
  refine held_pick 16 (Go.Operand.tmp 26) (Go.Operand.tmp 39) (Go.Operand.const (Go.Value.bool false)) (some 40) false (Go.Value.bool false) (by kernel_rfl) (by kernel_rfl) (by kernel_rfl) (by kernel_rfl) (by kernel_rfl) (by kernel_rfl) (fun _ _ _ _ _ h => h) hHeld ?_
  refine wpAnyH_done (by kernel_rfl) ?_ _
  refine NoPanic.normal ?_
  try simp only [Act.put, List.setIfInBounds_toArray, List.set_cons_zero, List.set_cons_succ]
  try simp only [put_list, List.set_cons_zero, List.set_cons_succ]
  have h3 := h2.below hHeld
  go_wp2_with fail
  refine (fine_no h3 (by decide)).mono ?_
  rintro e V ⟨rfl, hbV⟩
  have HF := Lib.hid (And.intro (h3.below hbV) (HT.out.trans (Turn.of_below (F := (· = X)) (hHeld.trans (hbV.mono hHeld.size))) (fun q hq => .inl hq)))
  go_wp2_with fail
  go_ret
  exact ⟨rfl, HF.out⟩
set_option maxRecDepth 100000 in
set_option maxHeartbeats 1600000 in
theorem dlist_big (h : DrS w X A xs p c 0 pl z) (hx : Byts xs) (hl : xs.length ≤ 100000) (m : Int) (hp : p + 4 ≤ xs.length) (hm : m < wordI xs p) : Calls Tryd.prog 46 #[.pointer (some ⟨X, 0, none⟩), .int .i64 m] w fun e w' => e = .returned (.slice none 0 0) ∧ DrS w' X A xs (p + 4) c 102 true p ∧ Turn (· = X) w w' := by
  have hwd := hx.word p
  have H := du32_ok h hx hl hp
  have c1 := h.r.c1
  obtain ⟨x, hx0⟩ : ∃ x, wordI xs p = x := ⟨_, rfl⟩
  rw [hx0] at H hwd hm
  have hwr : IntKind.i64.wrap x = x := IntWalk.i64_in _ (by omega)
  clear h hx0
  go_enter Tryd.func46, Tryd.ntmps46
  go_wp2_with fail
  refine H.mono ?_
  rintro e W1 ⟨rfl, h1, ht1⟩
  go_wp2_with fail
  refine (fine_yes h1 rfl).mono ?_
  rintro e W2 ⟨rfl, hb2⟩
  have h2 := h1.below hb2
  have HT := Lib.hid (ht1.trans (Turn.of_below (F := (· = X)) hb2) (fun q hq => .inl hq))
  clear h1 ht1 hb2 H
  go_wp2_with fail
  refine (fail_ok h2 102 p (by decide)).mono ?_
  rintro e W3 ⟨rfl, h3, ht3⟩
  have HT := Lib.hid (HT.out.trans ht3 (fun q hq => .inl hq))
  clear h2 ht3 hwr
  go_upto_region 5 with (fail)
  refine wp_region_noPanic ?_
  refine wp_region_held_drew (S := fun V => Below W3.heap.size W3 V) (by kernel_rfl) (Below.drewNr (w := W3) 1) (fun hHeld => ?_)
  refine held_move 0 (Go.Operand.tmp 0) (some 24) (.pointer (some ⟨X, 0, none⟩)) (by kernel_rfl) (by kernel_rfl) (by kernel_rfl) (by kernel_rfl) (by kernel_rfl) (fun _ _ _ _ _ h => h) hHeld ?_
  refine held_call 1 68 #[Go.Operand.tmp 24] #[94] (some 25) #[.pointer (some ⟨X, 0, none⟩)] _ (by kernel_rfl) (by kernel_rfl) (by kernel_rfl) (by kernel_rfl) (fine_no (h3.below hHeld) (by decide)) ?_
  rintro e Y1 ⟨rfl, hbY⟩
  refine ⟨_, rfl, hHeld.trans (hbY.mono hHeld.size), fun hHeld => ?_⟩
  refine held_move 2 (Go.Operand.tmp 25) (some 26) (.bool false) (by kernel_rfl) (by kernel_rfl) (by kernel_rfl) (by kernel_rfl) (by kernel_rfl) (fun _ _ _ _ _ h => h) hHeld ?_
  refine held_off 3 (Go.Op.move (Go.Operand.tmp 6)) (some 27) (by kernel_rfl) (by kernel_rfl) (by kernel_rfl) (by kernel_rfl) (fun _ _ _ _ _ h => h) hHeld ?_
  refine held_off 4 (Go.Op.convert 38 3 (Go.Operand.tmp 27)) (some 28) (by kernel_rfl) (by kernel_rfl) (by kernel_rfl) (by kernel_rfl) (fun _ _ _ _ _ h => h) hHeld ?_
  refine held_off 5 (Go.Op.move (Go.Operand.tmp 0)) (some 29) (by kernel_rfl) (by kernel_rfl) (by kernel_rfl) (by kernel_rfl) (fun _ _ _ _ _ h => h) hHeld ?_
  refine held_off 6 (Go.Op.nilCheck (Go.Operand.tmp 29)) (some 30) (by kernel_rfl) (by kernel_rfl) (by kernel_rfl) (by kernel_rfl) (fun _ _ _ _ _ h => h) hHeld ?_
  refine held_off 7 (Go.Op.fieldAddr 96 (Go.Operand.tmp 30) 0) (some 31) (by kernel_rfl) (by kernel_rfl) (by kernel_rfl) (by kernel_rfl) (fun _ _ _ _ _ h => h) hHeld ?_
  refine held_off 8 (Go.Op.load 25 (Go.Operand.tmp 31)) (some 32) (by kernel_rfl) (by kernel_rfl) (by kernel_rfl) (by kernel_rfl) (fun _ _ _ _ _ h => h) hHeld ?_
  refine held_off 9 (Go.Op.call { callee := Go.Callee.builtin Go.Builtin.len, args := #[Go.Operand.tmp 32], argTypes := #[25] }) (some 33) (by kernel_rfl) (by kernel_rfl) (by kernel_rfl) (by kernel_rfl) (fun _ _ _ _ _ h => h) hHeld ?_
  refine held_off 10 (Go.Op.move (Go.Operand.tmp 0)) (some 34) (by kernel_rfl) (by kernel_rfl) (by kernel_rfl) (by kernel_rfl) (fun _ _ _ _ _ h => h) hHeld ?_
  refine held_off 11 (Go.Op.nilCheck (Go.Operand.tmp 34)) (some 35) (by kernel_rfl) (by kernel_rfl) (by kernel_rfl) (by kernel_rfl) (fun _ _ _ _ _ h => h) hHeld ?_
  refine held_off 12 (Go.Op.fieldAddr 96 (Go.Operand.tmp 35) 1) (some 36) (by kernel_rfl) (by kernel_rfl) (by kernel_rfl) (by kernel_rfl) (fun _ _ _ _ _ h => h) hHeld ?_
  refine held_off 13 (Go.Op.load 3 (Go.Operand.tmp 36)) (some 37) (by kernel_rfl) (by kernel_rfl) (by kernel_rfl) (by kernel_rfl) (fun _ _ _ _ _ h => h) hHeld ?_
  refine held_off 14 (Go.Op.binOp Go.BinOp.sub 3 (Go.Operand.tmp 33) (Go.Operand.tmp 37) 3) (some 38) (by kernel_rfl) (by kernel_rfl) (by kernel_rfl) (by kernel_rfl) (fun _ _ _ _ _ h => h) hHeld ?_
  refine held_off 15 (Go.Op.binOp Go.BinOp.gtr 3 (Go.Operand.tmp 28) (Go.Operand.tmp 38) 3) (some 39) (by kernel_rfl) (by kernel_rfl) (by kernel_rfl) (by kernel_rfl) (fun _ _ _ _ _ h => h) hHeld ?_
  refine held_pick 16 (Go.Operand.tmp 26) (Go.Operand.tmp 39) (Go.Operand.const (Go.Value.bool false)) (some 40) false (Go.Value.bool false) (by kernel_rfl) (by kernel_rfl) (by kernel_rfl) (by kernel_rfl) (by kernel_rfl) (by kernel_rfl) (fun _ _ _ _ _ h => h) hHeld ?_
  refine wpAnyH_done (by kernel_rfl) ?_ _
  refine NoPanic.normal ?_
  try simp only [Act.put, List.setIfInBounds_toArray, List.set_cons_zero, List.set_cons_succ]
  try simp only [put_list, List.set_cons_zero, List.set_cons_succ]
  have h4 := h3.below hHeld
  go_wp2_with fail
  refine (fine_no h4 (by decide)).mono ?_
  rintro e V ⟨rfl, hbV⟩
  have HF := Lib.hid (And.intro (h4.below hbV) (HT.out.trans (Turn.of_below (F := (· = X)) (hHeld.trans (hbV.mono hHeld.size))) (fun q hq => .inl hq)))
  go_wp2_with fail
  go_ret
  exact ⟨rfl, HF.out⟩
set_option maxRecDepth 100000 in
set_option maxHeartbeats 1600000 in
theorem dlist_long (h : DrS w X A xs p c 0 pl z) (hx : Byts xs) (hl : xs.length ≤ 100000) (m : Int) (hp : p + 4 ≤ xs.length) (hm : wordI xs p ≤ m ∧ (xs.length : Int) - p - 4 < wordI xs p) : Calls Tryd.prog 46 #[.pointer (some ⟨X, 0, none⟩), .int .i64 m] w fun e w' => e = .returned (.slice none 0 0) ∧ DrS w' X A xs (p + 4) c 103 true p ∧ Turn (· = X) w w' := by
  have hwd := hx.word p
  have H := du32_ok h hx hl hp
  have c1 := h.r.c1
  obtain ⟨x, hx0⟩ : ∃ x, wordI xs p = x := ⟨_, rfl⟩
  rw [hx0] at H hwd hm
  have hwr : IntKind.i64.wrap x = x := IntWalk.i64_in _ (by omega)
  clear h hx0
  go_enter Tryd.func46, Tryd.ntmps46
  go_wp2_with fail
  refine H.mono ?_
  rintro e W1 ⟨rfl, h1, ht1⟩
  go_wp2_with fail
  refine (fine_yes h1 rfl).mono ?_
  rintro e W2 ⟨rfl, hb2⟩
  have h2 := h1.below hb2
  have HT := Lib.hid (ht1.trans (Turn.of_below (F := (· = X)) hb2) (fun q hq => .inl hq))
  clear h1 ht1 hb2 H
  have u0 := h2.r.c0
  have u1 : W2.cell? ⟨X, 1, none⟩ = some (.int .i64 ((p : Int) + 4)) := h2.r.c1
  have hXl := h2.r.lt
  have gtD : decide ((xs.length : Int) - ((p : Int) + 4) < x) = true := decide_eq_true (by omega)
  have hmx := hm.1
  go_upto_region 5 with (fail)
  refine wp_region_noPanic ?_
  refine wp_region_held_drew (S := fun V => Below W2.heap.size W2 V) (by kernel_rfl) (Below.drewNr (w := W2) 1) (fun hHeld => ?_)
  refine held_move 0 (Go.Operand.tmp 0) (some 24) (.pointer (some ⟨X, 0, none⟩)) (by kernel_rfl) (by kernel_rfl) (by kernel_rfl) (by kernel_rfl) (by kernel_rfl) (fun _ _ _ _ _ h => h) hHeld ?_
  refine held_call 1 68 #[Go.Operand.tmp 24] #[94] (some 25) #[.pointer (some ⟨X, 0, none⟩)] _ (by kernel_rfl) (by kernel_rfl) (by kernel_rfl) (by kernel_rfl) (fine_yes (h2.below hHeld) rfl) ?_
  rintro e Y1 ⟨rfl, hbY⟩
  refine ⟨_, rfl, hHeld.trans (hbY.mono hHeld.size), fun hHeld => ?_⟩
  refine held_move 2 (Go.Operand.tmp 25) (some 26) (.bool true) (by kernel_rfl) (by kernel_rfl) (by kernel_rfl) (by kernel_rfl) (by kernel_rfl) (fun _ _ _ _ _ h => h) hHeld ?_
  refine held_move 3 (Go.Operand.tmp 6) (some 27) (.int .u32 x) (by kernel_rfl) (by kernel_rfl) (by kernel_rfl) (by kernel_rfl) (by kernel_rfl) (fun _ _ _ _ _ h => h) hHeld ?_
  refine held_any 4 (Go.Op.convert 38 3 (Go.Operand.tmp 27)) (some 28) (.int .i64 x) (by kernel_rfl) (by kernel_rfl) (by kernel_rfl) (by kernel_rfl) (fun _ _ _ _ _ h => h) hHeld (fun o ho w _ => exec_cvt (vx := .int .u32 x) ho (by kernel_rfl) (cvt_u32k _ hwd w)) ?_
  refine held_move 5 (Go.Operand.tmp 0) (some 29) (.pointer (some ⟨X, 0, none⟩)) (by kernel_rfl) (by kernel_rfl) (by kernel_rfl) (by kernel_rfl) (by kernel_rfl) (fun _ _ _ _ _ h => h) hHeld ?_
  refine held_nil 6 (Go.Operand.tmp 29) (some 30) ⟨X, 0, none⟩ (by kernel_rfl) (by kernel_rfl) (by kernel_rfl) (by kernel_rfl) (by kernel_rfl) (fun _ _ _ _ _ h => h) hHeld ?_
  refine held_field 7 96 (Go.Operand.tmp 30) 0 (some 31) (.pointer (some ⟨X, 0, none⟩)) (.pointer (some ⟨X, 0, none⟩)) (by kernel_rfl) (by kernel_rfl) (fun w => by kernel_rfl) (by kernel_rfl) (by kernel_rfl) (by kernel_rfl) (fun _ _ _ _ _ h => h) hHeld ?_
  refine held_cell 8 25 (Go.Operand.tmp 31) (some 32) (.pointer (some ⟨X, 0, none⟩)) (.slice A xs.length c) (by kernel_rfl) (by kernel_rfl) (fun V hV => load_slice X 0 V 25 (fun w => by kernel_rfl) _ ((hV.cell (p := ⟨X, 0, none⟩) hXl).trans u0)) (by kernel_rfl) (by kernel_rfl) (by kernel_rfl) (fun _ _ _ _ _ h => h) hHeld ?_
  refine held_any 9 (Go.Op.call { callee := Go.Callee.builtin Go.Builtin.len, args := #[Go.Operand.tmp 32], argTypes := #[25] }) (some 33) (.int .i64 (xs.length : Int)) (by kernel_rfl) (by kernel_rfl) (by kernel_rfl) (by kernel_rfl) (fun _ _ _ _ _ h => h) hHeld (fun o ho w _ => exec_lenA (vx := .slice A xs.length c) ho (by kernel_rfl) (fun _ => len_slice _ 5 _ Tryd.underlying25 A xs.length c _)) ?_
  refine held_move 10 (Go.Operand.tmp 0) (some 34) (.pointer (some ⟨X, 0, none⟩)) (by kernel_rfl) (by kernel_rfl) (by kernel_rfl) (by kernel_rfl) (by kernel_rfl) (fun _ _ _ _ _ h => h) hHeld ?_
  refine held_nil 11 (Go.Operand.tmp 34) (some 35) ⟨X, 0, none⟩ (by kernel_rfl) (by kernel_rfl) (by kernel_rfl) (by kernel_rfl) (by kernel_rfl) (fun _ _ _ _ _ h => h) hHeld ?_
  refine held_field 12 96 (Go.Operand.tmp 35) 1 (some 36) (.pointer (some ⟨X, 0, none⟩)) (.pointer (some ⟨X, 1, none⟩)) (by kernel_rfl) (by kernel_rfl) (fun w => by kernel_rfl) (by kernel_rfl) (by kernel_rfl) (by kernel_rfl) (fun _ _ _ _ _ h => h) hHeld ?_
  refine held_cell 13 3 (Go.Operand.tmp 36) (some 37) (.pointer (some ⟨X, 1, none⟩)) (.int .i64 ((p : Int) + 4)) (by kernel_rfl) (by kernel_rfl) (fun V hV => load_i64 X 1 V _ ((hV.cell (p := ⟨X, 1, none⟩) hXl).trans u1)) (by kernel_rfl) (by kernel_rfl) (by kernel_rfl) (fun _ _ _ _ _ h => h) hHeld ?_
  refine held_bin 14 Go.BinOp.sub 3 (Go.Operand.tmp 33) (Go.Operand.tmp 37) 3 (some 38) (.int .i64 (xs.length : Int)) (.int .i64 ((p : Int) + 4)) (.int .i64 ((xs.length : Int) - ((p : Int) + 4))) (by kernel_rfl) (by kernel_rfl) (fun w => sub_int _ _ _ w _ _ _ rfl (by omega) (by omega)) (by kernel_rfl) (by kernel_rfl) (by kernel_rfl) (fun _ _ _ _ _ h => h) hHeld ?_
  refine held_bin 15 Go.BinOp.gtr 3 (Go.Operand.tmp 28) (Go.Operand.tmp 38) 3 (some 39) (.int .i64 x) (.int .i64 ((xs.length : Int) - ((p : Int) + 4))) (.bool true) (by kernel_rfl) (by kernel_rfl) (fun w => by rw [gtr_i64]; simp only [gtD]) (by kernel_rfl) (by kernel_rfl) (by kernel_rfl) (fun _ _ _ _ _ h => h) hHeld ?_
  refine held_pick 16 (Go.Operand.tmp 26) (Go.Operand.tmp 39) (Go.Operand.const (Go.Value.bool false)) (some 40) true (.bool true) (by kernel_rfl) (by kernel_rfl) (by kernel_rfl) (by kernel_rfl) (by kernel_rfl) (by kernel_rfl) (fun _ _ _ _ _ h => h) hHeld ?_
  refine wpAnyH_done (by kernel_rfl) ?_ _
  refine NoPanic.normal ?_
  try simp only [Act.put, List.setIfInBounds_toArray, List.set_cons_zero, List.set_cons_succ]
  try simp only [put_list, List.set_cons_zero, List.set_cons_succ]
  have h3 := h2.below hHeld
  clear hwr gtD u0 u1
  go_wp2_with fail
  refine (fail_ok h3 103 p (by decide)).mono ?_
  rintro e W4 ⟨rfl, h4, ht4⟩
  go_wp2_with fail
  refine (fine_no h4 (by decide)).mono ?_
  rintro e V ⟨rfl, hbV⟩
  have HF := Lib.hid (And.intro (h4.below hbV) (((HT.out.trans (Turn.of_below (F := (· = X)) hHeld) (fun q hq => .inl hq)).trans ht4 (fun q hq => .inl hq)).trans (Turn.of_below (F := (· = X)) hbV) (fun q hq => .inl hq)))
  go_wp2_with fail
  go_ret
  exact ⟨rfl, HF.out⟩
set_option maxRecDepth 100000 in
set_option maxHeartbeats 1600000 in
theorem dlist_ok (h : DrS w X A xs p c 0 pl z) (hx : Byts xs) (hl : xs.length ≤ 100000) (n : Nat) (hp : p + 4 + n ≤ xs.length) (m : Int) (hm : wordI xs p = n) (hn : (n : Int) ≤ m) : Calls Tryd.prog 46 #[.pointer (some ⟨X, 0, none⟩), .int .i64 m] w fun e w' => ∃ v, e = .returned v ∧ w'.ownsRow w.heap.size 5 1 v n (ints .u8 ((xs.drop (p + 4)).take n)) ∧ DrS w' X A xs (p + 4 + n) c 0 pl z ∧ Turn (· = X) w w' := by
  have hwd := hx.word p
  have H := du32_ok h hx hl (by omega)
  have c1 := h.r.c1
  obtain ⟨x, hx0⟩ : ∃ x, wordI xs p = x := ⟨_, rfl⟩
  rw [hx0] at H hwd hm
  have hwr : IntKind.i64.wrap x = x := IntWalk.i64_in _ (by omega)
  clear h hx0
  have gtD : decide ((xs.length : Int) - ((p : Int) + 4) < x) = false := decide_eq_false (by omega)
  have hmx : x ≤ m := by omega
  have HM := Lib.hid hm
  clear hm
  go_enter Tryd.func46, Tryd.ntmps46
  go_wp2_with fail
  refine H.mono ?_
  rintro e W1 ⟨rfl, h1, ht1⟩
  go_wp2_with fail
  refine (fine_yes h1 rfl).mono ?_
  rintro e W2 ⟨rfl, hb2⟩
  have h2 := h1.below hb2
  have HT := Lib.hid (ht1.trans (Turn.of_below (F := (· = X)) hb2) (fun q hq => .inl hq))
  clear h1 ht1 hb2 H
  have u0 := h2.r.c0
  have u1 : W2.cell? ⟨X, 1, none⟩ = some (.int .i64 ((p : Int) + 4)) := h2.r.c1
  have hXl := h2.r.lt
  go_upto_region 5 with (fail)
  refine wp_region_noPanic ?_
  refine wp_region_held_drew (S := fun V => Below W2.heap.size W2 V) (by kernel_rfl) (Below.drewNr (w := W2) 1) (fun hHeld => ?_)
  refine held_move 0 (Go.Operand.tmp 0) (some 24) (.pointer (some ⟨X, 0, none⟩)) (by kernel_rfl) (by kernel_rfl) (by kernel_rfl) (by kernel_rfl) (by kernel_rfl) (fun _ _ _ _ _ h => h) hHeld ?_
  refine held_call 1 68 #[Go.Operand.tmp 24] #[94] (some 25) #[.pointer (some ⟨X, 0, none⟩)] _ (by kernel_rfl) (by kernel_rfl) (by kernel_rfl) (by kernel_rfl) (fine_yes (h2.below hHeld) rfl) ?_
  rintro e Y1 ⟨rfl, hbY⟩
  refine ⟨_, rfl, hHeld.trans (hbY.mono hHeld.size), fun hHeld => ?_⟩
  refine held_move 2 (Go.Operand.tmp 25) (some 26) (.bool true) (by kernel_rfl) (by kernel_rfl) (by kernel_rfl) (by kernel_rfl) (by kernel_rfl) (fun _ _ _ _ _ h => h) hHeld ?_
  refine held_move 3 (Go.Operand.tmp 6) (some 27) (.int .u32 x) (by kernel_rfl) (by kernel_rfl) (by kernel_rfl) (by kernel_rfl) (by kernel_rfl) (fun _ _ _ _ _ h => h) hHeld ?_
  refine held_any 4 (Go.Op.convert 38 3 (Go.Operand.tmp 27)) (some 28) (.int .i64 x) (by kernel_rfl) (by kernel_rfl) (by kernel_rfl) (by kernel_rfl) (fun _ _ _ _ _ h => h) hHeld (fun o ho w _ => exec_cvt (vx := .int .u32 x) ho (by kernel_rfl) (cvt_u32k _ hwd w)) ?_
  refine held_move 5 (Go.Operand.tmp 0) (some 29) (.pointer (some ⟨X, 0, none⟩)) (by kernel_rfl) (by kernel_rfl) (by kernel_rfl) (by kernel_rfl) (by kernel_rfl) (fun _ _ _ _ _ h => h) hHeld ?_
  refine held_nil 6 (Go.Operand.tmp 29) (some 30) ⟨X, 0, none⟩ (by kernel_rfl) (by kernel_rfl) (by kernel_rfl) (by kernel_rfl) (by kernel_rfl) (fun _ _ _ _ _ h => h) hHeld ?_
  refine held_field 7 96 (Go.Operand.tmp 30) 0 (some 31) (.pointer (some ⟨X, 0, none⟩)) (.pointer (some ⟨X, 0, none⟩)) (by kernel_rfl) (by kernel_rfl) (fun w => by kernel_rfl) (by kernel_rfl) (by kernel_rfl) (by kernel_rfl) (fun _ _ _ _ _ h => h) hHeld ?_
  refine held_cell 8 25 (Go.Operand.tmp 31) (some 32) (.pointer (some ⟨X, 0, none⟩)) (.slice A xs.length c) (by kernel_rfl) (by kernel_rfl) (fun V hV => load_slice X 0 V 25 (fun w => by kernel_rfl) _ ((hV.cell (p := ⟨X, 0, none⟩) hXl).trans u0)) (by kernel_rfl) (by kernel_rfl) (by kernel_rfl) (fun _ _ _ _ _ h => h) hHeld ?_
  refine held_any 9 (Go.Op.call { callee := Go.Callee.builtin Go.Builtin.len, args := #[Go.Operand.tmp 32], argTypes := #[25] }) (some 33) (.int .i64 (xs.length : Int)) (by kernel_rfl) (by kernel_rfl) (by kernel_rfl) (by kernel_rfl) (fun _ _ _ _ _ h => h) hHeld (fun o ho w _ => exec_lenA (vx := .slice A xs.length c) ho (by kernel_rfl) (fun _ => len_slice _ 5 _ Tryd.underlying25 A xs.length c _)) ?_
  refine held_move 10 (Go.Operand.tmp 0) (some 34) (.pointer (some ⟨X, 0, none⟩)) (by kernel_rfl) (by kernel_rfl) (by kernel_rfl) (by kernel_rfl) (by kernel_rfl) (fun _ _ _ _ _ h => h) hHeld ?_
  refine held_nil 11 (Go.Operand.tmp 34) (some 35) ⟨X, 0, none⟩ (by kernel_rfl) (by kernel_rfl) (by kernel_rfl) (by kernel_rfl) (by kernel_rfl) (fun _ _ _ _ _ h => h) hHeld ?_
  refine held_field 12 96 (Go.Operand.tmp 35) 1 (some 36) (.pointer (some ⟨X, 0, none⟩)) (.pointer (some ⟨X, 1, none⟩)) (by kernel_rfl) (by kernel_rfl) (fun w => by kernel_rfl) (by kernel_rfl) (by kernel_rfl) (by kernel_rfl) (fun _ _ _ _ _ h => h) hHeld ?_
  refine held_cell 13 3 (Go.Operand.tmp 36) (some 37) (.pointer (some ⟨X, 1, none⟩)) (.int .i64 ((p : Int) + 4)) (by kernel_rfl) (by kernel_rfl) (fun V hV => load_i64 X 1 V _ ((hV.cell (p := ⟨X, 1, none⟩) hXl).trans u1)) (by kernel_rfl) (by kernel_rfl) (by kernel_rfl) (fun _ _ _ _ _ h => h) hHeld ?_
  refine held_bin 14 Go.BinOp.sub 3 (Go.Operand.tmp 33) (Go.Operand.tmp 37) 3 (some 38) (.int .i64 (xs.length : Int)) (.int .i64 ((p : Int) + 4)) (.int .i64 ((xs.length : Int) - ((p : Int) + 4))) (by kernel_rfl) (by kernel_rfl) (fun w => sub_int _ _ _ w _ _ _ rfl (by omega) (by omega)) (by kernel_rfl) (by kernel_rfl) (by kernel_rfl) (fun _ _ _ _ _ h => h) hHeld ?_
  refine held_bin 15 Go.BinOp.gtr 3 (Go.Operand.tmp 28) (Go.Operand.tmp 38) 3 (some 39) (.int .i64 x) (.int .i64 ((xs.length : Int) - ((p : Int) + 4))) (.bool false) (by kernel_rfl) (by kernel_rfl) (fun w => by rw [gtr_i64]; simp only [gtD]) (by kernel_rfl) (by kernel_rfl) (by kernel_rfl) (fun _ _ _ _ _ h => h) hHeld ?_
  refine held_pick 16 (Go.Operand.tmp 26) (Go.Operand.tmp 39) (Go.Operand.const (Go.Value.bool false)) (some 40) true (.bool false) (by kernel_rfl) (by kernel_rfl) (by kernel_rfl) (by kernel_rfl) (by kernel_rfl) (by kernel_rfl) (fun _ _ _ _ _ h => h) hHeld ?_
  refine wpAnyH_done (by kernel_rfl) ?_ _
  refine NoPanic.normal ?_
  try simp only [Act.put, List.setIfInBounds_toArray, List.set_cons_zero, List.set_cons_succ]
  try simp only [put_list, List.set_cons_zero, List.set_cons_succ]
  have h3 := h2.below hHeld
  have HT := Lib.hid (HT.out.trans (Turn.of_below (F := (· = X)) hHeld) (fun q hq => .inl hq))
  clear gtD u0 u1 h2
  go_wp2_with fail
  refine (fine_yes h3 rfl).mono ?_
  rintro e W4 ⟨rfl, hb4⟩
  have h4 := h3.below hb4
  have HT := Lib.hid (HT.out.trans (Turn.of_below (F := (· = X)) hb4) (fun q hq => .inl hq))
  have H9 := draw_ok h4 hl n hp
  rw [← HM.out] at H9
  clear h3 hb4 h4 hn hp hHeld
  go_wp2_with fail
  refine H9.mono ?_
  rintro e V ⟨v, rfl, hown, hR, hT2⟩
  obtain ⟨Av, cv, rfl, _⟩ := ownsRow_form hown
  have HF := Lib.hid (And.intro (ownsRow_lower hown HT.out.size) (And.intro hR (HT.out.trans hT2 (fun q hq => .inl hq))))
  clear hown hR hT2 H9
  go_wp2_with fail
  go_ret
  exact ⟨.slice Av n cv, rfl, HF.out⟩
set_option maxRecDepth 100000 in
set_option maxHeartbeats 1600000 in
theorem over_bad {cc : Int} (h : DrS w X A xs p c cc pl z) (hc : cc ≠ 0) : Calls Tryd.prog 47 #[.pointer (some ⟨X, 0, none⟩)] w fun e w' => e = .returned (.agg (frow cc pl z)) ∧ Turn (· = X) w w' := by
  have hz := heap_alloc_new w (.cells #[.int .i64 0, .bool false, .int .i64 0] 64)
  have hb0 := below_alc w (.cells #[.int .i64 0, .bool false, .int .i64 0] 64)
  have hXw := h.r.lt
  go_enter Tryd.func47, Tryd.ntmps47
  go_upto_region 1 with (fail)
  refine wp_world (fun V => DrS V X A xs p c cc pl z ∧ V.heap[w.heap.size]? = some (.cells #[.int .i64 0, .bool false, .int .i64 0] 64 (0, 0)) ∧ Turn (· = X) w V ∧ V.heap.size = w.heap.size + 1) ⟨h.below hb0, hz, Turn.of_below hb0, by simp⟩ ?_
  rintro U ⟨hU, hzU, hTU, hsU⟩
  have u0 := hU.r.c0
  have u1 := hU.r.c1
  have hXl := hU.r.lt
  have hle := hU.r.le
  clear h hz hb0
  refine wp_region_noPanic ?_
  refine wp_region_held_drew (S := fun V => Below U.heap.size U V) (by kernel_rfl) (Below.drewNr (w := U) 1) (fun hHeld => ?_)
  refine held_move 0 (Go.Operand.tmp 0) (some 3) (.pointer (some ⟨X, 0, none⟩)) (by kernel_rfl) (by kernel_rfl) (by kernel_rfl) (by kernel_rfl) (by kernel_rfl) (fun _ _ _ _ _ h => h) hHeld ?_
  refine held_call 1 68 #[Go.Operand.tmp 3] #[94] (some 4) #[.pointer (some ⟨X, 0, none⟩)] _ (by kernel_rfl) (by kernel_rfl) (by kernel_rfl) (by kernel_rfl) (fine_no (hU.below hHeld) hc) ?_
  rintro e Y1 ⟨rfl, hbY⟩
  refine ⟨_, rfl, hHeld.trans (hbY.mono hHeld.size), fun hHeld => ?_⟩
  refine held_move 2 (Go.Operand.tmp 4) (some 5) (.bool false) (by kernel_rfl) (by kernel_rfl) (by kernel_rfl) (by kernel_rfl) (by kernel_rfl) (fun _ _ _ _ _ h => h) hHeld ?_
  refine held_off 3 (Go.Op.move (Go.Operand.tmp 0)) (some 6) (by kernel_rfl) (by kernel_rfl) (by kernel_rfl) (by kernel_rfl) (fun _ _ _ _ _ h => h) hHeld ?_
  refine held_off 4 (Go.Op.nilCheck (Go.Operand.tmp 6)) (some 7) (by kernel_rfl) (by kernel_rfl) (by kernel_rfl) (by kernel_rfl) (fun _ _ _ _ _ h => h) hHeld ?_
  refine held_off 5 (Go.Op.fieldAddr 96 (Go.Operand.tmp 7) 1) (some 8) (by kernel_rfl) (by kernel_rfl) (by kernel_rfl) (by kernel_rfl) (fun _ _ _ _ _ h => h) hHeld ?_
  refine held_off 6 (Go.Op.load 3 (Go.Operand.tmp 8)) (some 9) (by kernel_rfl) (by kernel_rfl) (by kernel_rfl) (by kernel_rfl) (fun _ _ _ _ _ h => h) hHeld ?_
  refine held_off 7 (Go.Op.move (Go.Operand.tmp 0)) (some 10) (by kernel_rfl) (by kernel_rfl) (by kernel_rfl) (by kernel_rfl) (fun _ _ _ _ _ h => h) hHeld ?_
  refine held_off 8 (Go.Op.nilCheck (Go.Operand.tmp 10)) (some 11) (by kernel_rfl) (by kernel_rfl) (by kernel_rfl) (by kernel_rfl) (fun _ _ _ _ _ h => h) hHeld ?_
  refine held_off 9 (Go.Op.fieldAddr 96 (Go.Operand.tmp 11) 0) (some 12) (by kernel_rfl) (by kernel_rfl) (by kernel_rfl) (by kernel_rfl) (fun _ _ _ _ _ h => h) hHeld ?_
  refine held_off 10 (Go.Op.load 25 (Go.Operand.tmp 12)) (some 13) (by kernel_rfl) (by kernel_rfl) (by kernel_rfl) (by kernel_rfl) (fun _ _ _ _ _ h => h) hHeld ?_
  refine held_off 11 (Go.Op.call { callee := Go.Callee.builtin Go.Builtin.len, args := #[Go.Operand.tmp 13], argTypes := #[25] }) (some 14) (by kernel_rfl) (by kernel_rfl) (by kernel_rfl) (by kernel_rfl) (fun _ _ _ _ _ h => h) hHeld ?_
  refine held_off 12 (Go.Op.binOp Go.BinOp.lss 3 (Go.Operand.tmp 9) (Go.Operand.tmp 14) 3) (some 15) (by kernel_rfl) (by kernel_rfl) (by kernel_rfl) (by kernel_rfl) (fun _ _ _ _ _ h => h) hHeld ?_
  refine held_pick 13 (Go.Operand.tmp 5) (Go.Operand.tmp 15) (Go.Operand.const (Go.Value.bool false)) (some 16) false (Go.Value.bool false) (by kernel_rfl) (by kernel_rfl) (by kernel_rfl) (by kernel_rfl) (by kernel_rfl) (by kernel_rfl) (fun _ _ _ _ _ h => h) hHeld ?_
  refine wpAnyH_done (by kernel_rfl) ?_ _
  refine NoPanic.normal ?_
  try simp only [Act.put, List.setIfInBounds_toArray, List.set_cons_zero, List.set_cons_succ]
  try simp only [put_list, List.set_cons_zero, List.set_cons_succ]
  have h3 := hU.below hHeld
  have hz3 := (hHeld.block w.heap.size (by omega)).trans hzU
  have hT3 := hTU.trans (Turn.of_below (F := (· = X)) hHeld) (fun q hq => .inl hq)
  have hst : Turn (· = X) w (Y1.setRow w.heap.size (frow cc pl z)) := ⟨hT3.os, hT3.tape, hT3.output, by simpa [World.setRow] using hT3.size, fun q hq hF => (setRow_other Y1 w.heap.size q _ (by omega)).trans (hT3.block q hq hF)⟩
  have HF := Lib.hid hst
  clear hst hT3 hTU hzU hU u0 u1
  have hq := h3.b
  go_wp2_with (first | (refine wpList_load_mid rfl 64 _ rfl X 2 rfl _ _ hq Tryd.underlying64 rfl (info_F _ _ _) ?_) | (refine wpList_store_row rfl 64 _ _ rfl w.heap.size (frow cc pl z) rfl rfl _ _ hz3 (by kernel_rfl) rfl (frow_one _ _ _) ?_))
  refine bodyPost_ret (results_cell_row rfl _ _ _ _ _ _ _ rfl (setRow_heap _ _ _ _ _ _ hz3) Tryd.underlying64 rfl (by kernel_rfl)) rfl ?_
  exact ⟨rfl, HF.out⟩
set_option maxRecDepth 100000 in
set_option maxHeartbeats 1600000 in
theorem over_end (h : DrS w X A xs p c 0 pl z) (hp : xs.length ≤ p) : Calls Tryd.prog 47 #[.pointer (some ⟨X, 0, none⟩)] w fun e w' => e = .returned (.agg (frow 0 pl z)) ∧ Turn (· = X) w w' := by
  have hz := heap_alloc_new w (.cells #[.int .i64 0, .bool false, .int .i64 0] 64)
  have hb0 := below_alc w (.cells #[.int .i64 0, .bool false, .int .i64 0] 64)
  have hXw := h.r.lt
  go_enter Tryd.func47, Tryd.ntmps47
  go_upto_region 1 with (fail)
  refine wp_world (fun V => DrS V X A xs p c 0 pl z ∧ V.heap[w.heap.size]? = some (.cells #[.int .i64 0, .bool false, .int .i64 0] 64 (0, 0)) ∧ Turn (· = X) w V ∧ V.heap.size = w.heap.size + 1) ⟨h.below hb0, hz, Turn.of_below hb0, by simp⟩ ?_
  rintro U ⟨hU, hzU, hTU, hsU⟩
  have u0 := hU.r.c0
  have u1 := hU.r.c1
  have hXl := hU.r.lt
  have hle := hU.r.le
  clear h hz hb0
  have gtD : decide ((p : Int) < (xs.length : Int)) = false := decide_eq_false (by omega)
  refine wp_region_noPanic ?_
  refine wp_region_held_drew (S := fun V => Below U.heap.size U V) (by kernel_rfl) (Below.drewNr (w := U) 1) (fun hHeld => ?_)
  refine held_move 0 (Go.Operand.tmp 0) (some 3) (.pointer (some ⟨X, 0, none⟩)) (by kernel_rfl) (by kernel_rfl) (by kernel_rfl) (by kernel_rfl) (by kernel_rfl) (fun _ _ _ _ _ h => h) hHeld ?_
  refine held_call 1 68 #[Go.Operand.tmp 3] #[94] (some 4) #[.pointer (some ⟨X, 0, none⟩)] _ (by kernel_rfl) (by kernel_rfl) (by kernel_rfl) (by kernel_rfl) (fine_yes (hU.below hHeld) rfl) ?_
  rintro e Y1 ⟨rfl, hbY⟩
  refine ⟨_, rfl, hHeld.trans (hbY.mono hHeld.size), fun hHeld => ?_⟩
  refine held_move 2 (Go.Operand.tmp 4) (some 5) (.bool true) (by kernel_rfl) (by kernel_rfl) (by kernel_rfl) (by kernel_rfl) (by kernel_rfl) (fun _ _ _ _ _ h => h) hHeld ?_
  refine held_move 3 (Go.Operand.tmp 0) (some 6) (.pointer (some ⟨X, 0, none⟩)) (by kernel_rfl) (by kernel_rfl) (by kernel_rfl) (by kernel_rfl) (by kernel_rfl) (fun _ _ _ _ _ h => h) hHeld ?_
  refine held_nil 4 (Go.Operand.tmp 6) (some 7) ⟨X, 0, none⟩ (by kernel_rfl) (by kernel_rfl) (by kernel_rfl) (by kernel_rfl) (by kernel_rfl) (fun _ _ _ _ _ h => h) hHeld ?_
  refine held_field 5 96 (Go.Operand.tmp 7) 1 (some 8) (.pointer (some ⟨X, 0, none⟩)) (.pointer (some ⟨X, 1, none⟩)) (by kernel_rfl) (by kernel_rfl) (fun w => by kernel_rfl) (by kernel_rfl) (by kernel_rfl) (by kernel_rfl) (fun _ _ _ _ _ h => h) hHeld ?_
  refine held_cell 6 3 (Go.Operand.tmp 8) (some 9) (.pointer (some ⟨X, 1, none⟩)) (.int .i64 (p : Int)) (by kernel_rfl) (by kernel_rfl) (fun V hV => load_i64 X 1 V _ ((hV.cell (p := ⟨X, 1, none⟩) hXl).trans u1)) (by kernel_rfl) (by kernel_rfl) (by kernel_rfl) (fun _ _ _ _ _ h => h) hHeld ?_
  refine held_move 7 (Go.Operand.tmp 0) (some 10) (.pointer (some ⟨X, 0, none⟩)) (by kernel_rfl) (by kernel_rfl) (by kernel_rfl) (by kernel_rfl) (by kernel_rfl) (fun _ _ _ _ _ h => h) hHeld ?_
  refine held_nil 8 (Go.Operand.tmp 10) (some 11) ⟨X, 0, none⟩ (by kernel_rfl) (by kernel_rfl) (by kernel_rfl) (by kernel_rfl) (by kernel_rfl) (fun _ _ _ _ _ h => h) hHeld ?_
  refine held_field 9 96 (Go.Operand.tmp 11) 0 (some 12) (.pointer (some ⟨X, 0, none⟩)) (.pointer (some ⟨X, 0, none⟩)) (by kernel_rfl) (by kernel_rfl) (fun w => by kernel_rfl) (by kernel_rfl) (by kernel_rfl) (by kernel_rfl) (fun _ _ _ _ _ h => h) hHeld ?_
  refine held_cell 10 25 (Go.Operand.tmp 12) (some 13) (.pointer (some ⟨X, 0, none⟩)) (.slice A xs.length c) (by kernel_rfl) (by kernel_rfl) (fun V hV => load_slice X 0 V 25 (fun w => by kernel_rfl) _ ((hV.cell (p := ⟨X, 0, none⟩) hXl).trans u0)) (by kernel_rfl) (by kernel_rfl) (by kernel_rfl) (fun _ _ _ _ _ h => h) hHeld ?_
  refine held_any 11 (Go.Op.call { callee := Go.Callee.builtin Go.Builtin.len, args := #[Go.Operand.tmp 13], argTypes := #[25] }) (some 14) (.int .i64 (xs.length : Int)) (by kernel_rfl) (by kernel_rfl) (by kernel_rfl) (by kernel_rfl) (fun _ _ _ _ _ h => h) hHeld (fun o ho w _ => exec_lenA (vx := .slice A xs.length c) ho (by kernel_rfl) (fun _ => len_slice _ 5 _ Tryd.underlying25 A xs.length c _)) ?_
  refine held_bin 12 Go.BinOp.lss 3 (Go.Operand.tmp 9) (Go.Operand.tmp 14) 3 (some 15) (.int .i64 (p : Int)) (.int .i64 (xs.length : Int)) (.bool false) (by kernel_rfl) (by kernel_rfl) (fun w => by rw [lss_i64]; simp only [gtD]) (by kernel_rfl) (by kernel_rfl) (by kernel_rfl) (fun _ _ _ _ _ h => h) hHeld ?_
  refine held_pick 13 (Go.Operand.tmp 5) (Go.Operand.tmp 15) (Go.Operand.const (Go.Value.bool false)) (some 16) true (.bool false) (by kernel_rfl) (by kernel_rfl) (by kernel_rfl) (by kernel_rfl) (by kernel_rfl) (by kernel_rfl) (fun _ _ _ _ _ h => h) hHeld ?_
  refine wpAnyH_done (by kernel_rfl) ?_ _
  refine NoPanic.normal ?_
  try simp only [Act.put, List.setIfInBounds_toArray, List.set_cons_zero, List.set_cons_succ]
  try simp only [put_list, List.set_cons_zero, List.set_cons_succ]
  have h3 := hU.below hHeld
  have hz3 := (hHeld.block w.heap.size (by omega)).trans hzU
  have hT3 := hTU.trans (Turn.of_below (F := (· = X)) hHeld) (fun q hq => .inl hq)
  have hst : Turn (· = X) w (Y1.setRow w.heap.size (frow 0 pl z)) := ⟨hT3.os, hT3.tape, hT3.output, by simpa [World.setRow] using hT3.size, fun q hq hF => (setRow_other Y1 w.heap.size q _ (by omega)).trans (hT3.block q hq hF)⟩
  have HF := Lib.hid hst
  clear hst hT3 hTU hzU hU u0 u1
  have hq := h3.b
  go_wp2_with (first | (refine wpList_load_mid rfl 64 _ rfl X 2 rfl _ _ hq Tryd.underlying64 rfl (info_F _ _ _) ?_) | (refine wpList_store_row rfl 64 _ _ rfl w.heap.size (frow 0 pl z) rfl rfl _ _ hz3 (by kernel_rfl) rfl (frow_one _ _ _) ?_))
  refine bodyPost_ret (results_cell_row rfl _ _ _ _ _ _ _ rfl (setRow_heap _ _ _ _ _ _ hz3) Tryd.underlying64 rfl (by kernel_rfl)) rfl ?_
  exact ⟨rfl, HF.out⟩
set_option maxRecDepth 100000 in
set_option maxHeartbeats 1600000 in
theorem over_trail (h : DrS w X A xs p c 0 pl z) (hp : p < xs.length) : Calls Tryd.prog 47 #[.pointer (some ⟨X, 0, none⟩)] w fun e w' => e = .returned (.agg (frow 104 true p)) ∧ Turn (· = X) w w' := by
  have hz := heap_alloc_new w (.cells #[.int .i64 0, .bool false, .int .i64 0] 64)
  have hb0 := below_alc w (.cells #[.int .i64 0, .bool false, .int .i64 0] 64)
  have hXw := h.r.lt
  go_enter Tryd.func47, Tryd.ntmps47
  go_upto_region 1 with (fail)
  refine wp_world (fun V => DrS V X A xs p c 0 pl z ∧ V.heap[w.heap.size]? = some (.cells #[.int .i64 0, .bool false, .int .i64 0] 64 (0, 0)) ∧ Turn (· = X) w V ∧ V.heap.size = w.heap.size + 1) ⟨h.below hb0, hz, Turn.of_below hb0, by simp⟩ ?_
  rintro U ⟨hU, hzU, hTU, hsU⟩
  have u0 := hU.r.c0
  have u1 := hU.r.c1
  have hXl := hU.r.lt
  have hle := hU.r.le
  clear h hz hb0
  have gtD : decide ((p : Int) < (xs.length : Int)) = true := decide_eq_true (by omega)
  refine wp_region_noPanic ?_
  refine wp_region_held_drew (S := fun V => Below U.heap.size U V) (by kernel_rfl) (Below.drewNr (w := U) 1) (fun hHeld => ?_)
  refine held_move 0 (Go.Operand.tmp 0) (some 3) (.pointer (some ⟨X, 0, none⟩)) (by kernel_rfl) (by kernel_rfl) (by kernel_rfl) (by kernel_rfl) (by kernel_rfl) (fun _ _ _ _ _ h => h) hHeld ?_
  refine held_call 1 68 #[Go.Operand.tmp 3] #[94] (some 4) #[.pointer (some ⟨X, 0, none⟩)] _ (by kernel_rfl) (by kernel_rfl) (by kernel_rfl) (by kernel_rfl) (fine_yes (hU.below hHeld) rfl) ?_
  rintro e Y1 ⟨rfl, hbY⟩
  refine ⟨_, rfl, hHeld.trans (hbY.mono hHeld.size), fun hHeld => ?_⟩
  refine held_move 2 (Go.Operand.tmp 4) (some 5) (.bool true) (by kernel_rfl) (by kernel_rfl) (by kernel_rfl) (by kernel_rfl) (by kernel_rfl) (fun _ _ _ _ _ h => h) hHeld ?_
  refine held_move 3 (Go.Operand.tmp 0) (some 6) (.pointer (some ⟨X, 0, none⟩)) (by kernel_rfl) (by kernel_rfl) (by kernel_rfl) (by kernel_rfl) (by kernel_rfl) (fun _ _ _ _ _ h => h) hHeld ?_
  refine held_nil 4 (Go.Operand.tmp 6) (some 7) ⟨X, 0, none⟩ (by kernel_rfl) (by kernel_rfl) (by kernel_rfl) (by kernel_rfl) (by kernel_rfl) (fun _ _ _ _ _ h => h) hHeld ?_
  refine held_field 5 96 (Go.Operand.tmp 7) 1 (some 8) (.pointer (some ⟨X, 0, none⟩)) (.pointer (some ⟨X, 1, none⟩)) (by kernel_rfl) (by kernel_rfl) (fun w => by kernel_rfl) (by kernel_rfl) (by kernel_rfl) (by kernel_rfl) (fun _ _ _ _ _ h => h) hHeld ?_
  refine held_cell 6 3 (Go.Operand.tmp 8) (some 9) (.pointer (some ⟨X, 1, none⟩)) (.int .i64 (p : Int)) (by kernel_rfl) (by kernel_rfl) (fun V hV => load_i64 X 1 V _ ((hV.cell (p := ⟨X, 1, none⟩) hXl).trans u1)) (by kernel_rfl) (by kernel_rfl) (by kernel_rfl) (fun _ _ _ _ _ h => h) hHeld ?_
  refine held_move 7 (Go.Operand.tmp 0) (some 10) (.pointer (some ⟨X, 0, none⟩)) (by kernel_rfl) (by kernel_rfl) (by kernel_rfl) (by kernel_rfl) (by kernel_rfl) (fun _ _ _ _ _ h => h) hHeld ?_
  refine held_nil 8 (Go.Operand.tmp 10) (some 11) ⟨X, 0, none⟩ (by kernel_rfl) (by kernel_rfl) (by kernel_rfl) (by kernel_rfl) (by kernel_rfl) (fun _ _ _ _ _ h => h) hHeld ?_
  refine held_field 9 96 (Go.Operand.tmp 11) 0 (some 12) (.pointer (some ⟨X, 0, none⟩)) (.pointer (some ⟨X, 0, none⟩)) (by kernel_rfl) (by kernel_rfl) (fun w => by kernel_rfl) (by kernel_rfl) (by kernel_rfl) (by kernel_rfl) (fun _ _ _ _ _ h => h) hHeld ?_
  refine held_cell 10 25 (Go.Operand.tmp 12) (some 13) (.pointer (some ⟨X, 0, none⟩)) (.slice A xs.length c) (by kernel_rfl) (by kernel_rfl) (fun V hV => load_slice X 0 V 25 (fun w => by kernel_rfl) _ ((hV.cell (p := ⟨X, 0, none⟩) hXl).trans u0)) (by kernel_rfl) (by kernel_rfl) (by kernel_rfl) (fun _ _ _ _ _ h => h) hHeld ?_
  refine held_any 11 (Go.Op.call { callee := Go.Callee.builtin Go.Builtin.len, args := #[Go.Operand.tmp 13], argTypes := #[25] }) (some 14) (.int .i64 (xs.length : Int)) (by kernel_rfl) (by kernel_rfl) (by kernel_rfl) (by kernel_rfl) (fun _ _ _ _ _ h => h) hHeld (fun o ho w _ => exec_lenA (vx := .slice A xs.length c) ho (by kernel_rfl) (fun _ => len_slice _ 5 _ Tryd.underlying25 A xs.length c _)) ?_
  refine held_bin 12 Go.BinOp.lss 3 (Go.Operand.tmp 9) (Go.Operand.tmp 14) 3 (some 15) (.int .i64 (p : Int)) (.int .i64 (xs.length : Int)) (.bool true) (by kernel_rfl) (by kernel_rfl) (fun w => by rw [lss_i64]; simp only [gtD]) (by kernel_rfl) (by kernel_rfl) (by kernel_rfl) (fun _ _ _ _ _ h => h) hHeld ?_
  refine held_pick 13 (Go.Operand.tmp 5) (Go.Operand.tmp 15) (Go.Operand.const (Go.Value.bool false)) (some 16) true (.bool true) (by kernel_rfl) (by kernel_rfl) (by kernel_rfl) (by kernel_rfl) (by kernel_rfl) (by kernel_rfl) (fun _ _ _ _ _ h => h) hHeld ?_
  refine wpAnyH_done (by kernel_rfl) ?_ _
  refine NoPanic.normal ?_
  try simp only [Act.put, List.setIfInBounds_toArray, List.set_cons_zero, List.set_cons_succ]
  try simp only [put_list, List.set_cons_zero, List.set_cons_succ]
  have h2 := hU.below hHeld
  have u1 := h2.r.c1
  have hz2 := (hHeld.block w.heap.size (by omega)).trans hzU
  have hT2 := hTU.trans (Turn.of_below (F := (· = X)) hHeld) (fun q hq => .inl hq)
  have hY := hHeld.size
  clear hU u0 hzU hTU hHeld gtD
  go_wp2_with fail
  refine (fail_ok h2 104 p (by decide)).mono ?_
  rintro e W3 ⟨rfl, h3, ht3⟩
  have hz3 := (ht3.block w.heap.size (by omega) (by omega)).trans hz2
  have hT3 := hT2.trans ht3 (fun q hq => .inl hq)
  have hst : Turn (· = X) w (W3.setRow w.heap.size (frow 104 true p)) := ⟨hT3.os, hT3.tape, hT3.output, by simpa [World.setRow] using hT3.size, fun q hq hF => (setRow_other W3 w.heap.size q _ (by omega)).trans (hT3.block q hq hF)⟩
  have HF := Lib.hid hst
  clear hst hT3 hT2 hz2 h2 ht3 u1
  have hq := h3.b
  go_wp2_with (first | (refine wpList_load_mid rfl 64 _ rfl X 2 rfl _ _ hq Tryd.underlying64 rfl (info_F _ _ _) ?_) | (refine wpList_store_row rfl 64 _ _ rfl w.heap.size (frow 104 true p) rfl rfl _ _ hz3 (by kernel_rfl) rfl (frow_one _ _ _) ?_))
  refine bodyPost_ret (results_cell_row rfl _ _ _ _ _ _ _ rfl (setRow_heap _ _ _ _ _ _ hz3) Tryd.underlying64 rfl (by kernel_rfl)) rfl ?_
  exact ⟨rfl, HF.out⟩
end
end Go.Proofs.YtffkjbbhbpaacaaDoor
