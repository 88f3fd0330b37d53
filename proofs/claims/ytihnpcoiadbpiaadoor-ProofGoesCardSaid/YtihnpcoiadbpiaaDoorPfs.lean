import Derived.Test.YtihnpcoiadbpiaaDoorPsm
namespace Go.Proofs.YtihnpcoiadbpiaaDoor
open Go.RowKit

theorem wpList_build_as {P : Program} {ops : Array Oper} {rest : List Oper} {o : Oper} {a : Act} {w : World} {Q : Exit → Act → World → Prop} (hg : o.guard = none) (t : TypeId) (parts : Array (Nat × Operand)) (ho : o.op = .build t parts) (cs : Array Value)
    (hf : P.built t (parts.map fun (i, x) => (i, a.eval x)).toList = some cs) (h : wpList P ops Q rest (a.put o.dst (.agg cs)) w) : wpList P ops Q (o :: rest) a w :=
  _root_.Go.wpList_build hg t parts ho (by rw [hf]; rfl) (by rw [hf]; exact h)
def hone : Nat → BitVec 8 := fun i => if i = 0 then 1#8 else 0#8
def htwo : Nat → BitVec 8 := fun i => if i = 0 then 2#8 else 0#8
theorem path_two (a b : Nat → BitVec 8) : pathOf 0 [a, b] = [b] := by
  have hs : spl 2 = 1 := by decide
  rw [pathOf_left 0 [a, b] (by simp) (by show 0 < spl 2; rw [hs]; omega)]
  show pathOf 0 ([a, b].take (spl 2)) ++ [rootOf ([a, b].drop (spl 2))] = _
  rw [hs, pathOf_one _ _ (by simp)]
  rfl
theorem bsl_two (w : World) : (Instr.buildSlice 26 2 #[(0, .agg (arr8 32 hone)), (1, .agg (arr8 32 htwo))]).run Tryd.prog w = .ok (.slice (some ⟨w.heap.size, 0, none⟩) 2 2) (w.alloc (.cells (arr8 32 hone ++ arr8 32 htwo) 24)) := by kernel_rfl

set_option maxRecDepth 100000 in
set_option maxHeartbeats 1600000 in
theorem pfirst_any (E : Nat → Addr) (w : World) (hE : ErrsAt E w) (hk : KAt w) :
    Calls Tryd.prog 7 #[] w fun e w' => e = .returned (.bool true) ∧ Below w.heap.size w w' := by
  have hb0 : Below w.heap.size w (w.alloc (.cells (arr8 32 hone ++ arr8 32 htwo) 24)) := (Below.refl _ _).alloc (Nat.le_refl _) _
  have hp := path_any 0 [hone, htwo] (some ⟨w.heap.size, 0, none⟩) 2 (w.alloc (.cells (arr8 32 hone ++ arr8 32 htwo) 24)) (SlRead.new_row _ _ _ (by simp [hcells])) (by simp) (by simp) (by simp) (hk.below hb0)
  rw [path_two] at hp
  have hbs := bsl_two w
  go_enter Tryd.func7, Tryd.ntmps7
  go_wp2_with (first | (refine wpList_build_as rfl 24 #[(0, .const (.int .u8 1))] rfl (arr8 32 hone) (by kernel_rfl) ?_) | (refine wpList_build_as rfl 24 #[(0, .const (.int .u8 2))] rfl (arr8 32 htwo) (by kernel_rfl) ?_) | (refine wpList_bsl_run (by kernel_rfl) 26 2 _ rfl #[(0, .agg (arr8 32 hone)), (1, .agg (arr8 32 htwo))] (by kernel_rfl) _ _ hbs ?_))
  refine hp.mono ?_
  rintro e W ⟨v, rfl, hown, hb⟩
  obtain ⟨A, c, rfl, hc⟩ := ownsRow_form hown
  have hrd := SlRead.of_own32 hown
  have hbW := below_tr hb0 hb
  clear hp hbs hown hb0 hb
  have hbs := bsl_hash hone W
  have hb1 : Below W.heap.size W (W.alloc (.cells (arr8 32 hone) 24)) := (Below.refl _ _).alloc (Nat.le_refl _) _
  have hp := path_bad E 1 [hone] (some ⟨W.heap.size, 0, none⟩) 1 (W.alloc (.cells (arr8 32 hone) 24)) ((hE.below hbW).below hb1) (.inr (by simp))
  go_upto_region 2 with (fail)
  go_wp2_with (first | (refine wpList_build_as rfl 24 #[(0, .const (.int .u8 1))] rfl (arr8 32 hone) (by kernel_rfl) ?_) | (refine wpList_bsl_run (by kernel_rfl) 26 1 _ rfl #[(0, .agg (arr8 32 hone))] (by kernel_rfl) _ _ hbs ?_))
  refine hp.mono ?_
  rintro e W2 ⟨rfl, hb2⟩
  have hb12 := below_tr hb1 hb2
  have hbW2 := below_tr hbW hb12
  replace hrd := hrd.below hb12
  replace hE := hE.below hbW2
  clear hp hbs hb1 hb2 hb12 hbW hk
  obtain ⟨b, o, rfl, hbl, _⟩ := hrd (by simp [hcells])
  have hq := (hrange (k := 0) (f := htwo) hrd (by simp)).2
  have HQ : ∀ w', Below W2.heap.size W2 w' → w'.rangeAt b o (arr8 32 htwo).toList := fun w' hb' => rangeAt_below hq hb' hbl
  clear hq hrd
  go_upto_region 3 with (fail)
  refine wp_region_text [Sp.k 0 (some 18) [] (.nilIface),
    Sp.k 1 (some 19) [0] (.bool true),
    Sp.k 2 (some 20) [1] (.bool true),
    Sp.k 3 (some 21) [2] (.slice (some ⟨b, o, none⟩) 1 c),
    Sp.k 4 (some 22) [2, 3] (.int .i64 1),
    Sp.k 5 (some 23) [2, 4] (.bool true),
    Sp.k 6 (some 24) [2, 5] (.bool true),
    Sp.k 7 (some 25) [6] (.bool true),
    Sp.k 8 (some 26) [7] (.slice (some ⟨b, o, none⟩) 1 c),
    Sp.k 9 (some 27) [7, 8] (.pointer (some ⟨b, o, none⟩)),
    Sp.k 10 (some 28) [7, 9] (.agg (arr8 32 htwo)),
    Sp.k 11 (some 29) [7] (.agg (arr8 32 htwo)),
    Sp.k 12 (some 30) [7, 10, 11] (.bool true),
    Sp.k 13 (some 31) [7, 12] (.bool true),
    Sp.k 14 (some 32) [13] (.bool true),
    Sp.k 15 (some 33) [14] (errV (E 1)),
    Sp.k 16 (some 34) [14, 15] (.bool true),
    Sp.k 17 (some 35) [14, 16] (.bool true),
    Sp.k 18 (some 0) [17] (.bool true)] (by kernel_rfl)
    ⟨owes_move 0 (some 18) [] (.nilIface) (Go.Operand.tmp 2) (fun v => by kernel_rfl) (fun v => by kernel_rfl),
    owes_bin 1 (some 19) [0] (.bool true) Go.BinOp.eql 33 (Go.Operand.tmp 18) (Go.Operand.const Go.Value.nilIface) 33 (.nilIface) (Go.Value.nilIface) (fun v => by kernel_rfl) (fun v => by kernel_rfl) (fun w => by kernel_rfl),
    owes_move 2 (some 20) [1] (.bool true) (Go.Operand.tmp 19) (fun v => by kernel_rfl) (fun v => by kernel_rfl),
    owes_move 3 (some 21) [2] (.slice (some ⟨b, o, none⟩) 1 c) (Go.Operand.tmp 1) (fun v => by kernel_rfl) (fun v => by kernel_rfl),
    owes_lenS 4 (some 22) [2, 3] (.int .i64 1) (.tmp 21) 26 3 (.slice (some ⟨b, o, none⟩) 1 c) (fun v => by kernel_rfl) (by kernel_rfl) (fun v => by kernel_rfl) (fun w => by kernel_rfl),
    owes_bin 5 (some 23) [2, 4] (.bool true) Go.BinOp.eql 3 (Go.Operand.tmp 22) (Go.Operand.const (Go.Value.int Go.IntKind.i64 1)) 3 (.int .i64 1) (Go.Value.int Go.IntKind.i64 1) (fun v => by kernel_rfl) (fun v => by kernel_rfl) (fun w => by kernel_rfl),
    owes_pick 6 (some 24) [2, 5] (.bool true) (Go.Operand.tmp 20) (Go.Operand.tmp 23) (Go.Operand.const (Go.Value.bool false)) true (fun v => by kernel_rfl) (fun v => by kernel_rfl) (fun v => by kernel_rfl),
    owes_move 7 (some 25) [6] (.bool true) (Go.Operand.tmp 24) (fun v => by kernel_rfl) (fun v => by kernel_rfl),
    owes_move 8 (some 26) [7] (.slice (some ⟨b, o, none⟩) 1 c) (Go.Operand.tmp 1) (fun v => by kernel_rfl) (fun v => by kernel_rfl),
    owes_index 9 (some 27) [7, 8] (.pointer (some ⟨b, o, none⟩)) 26 (Go.Operand.tmp 26) (Go.Operand.const (Go.Value.int Go.IntKind.i64 0)) (.slice (some ⟨b, o, none⟩) 1 c) (Go.Value.int Go.IntKind.i64 0) (fun v => by kernel_rfl) (fun v => by kernel_rfl) (idx32_0 b o 1 c (by omega)),
    owes_load 10 (some 28) [7, 9] (.agg (arr8 32 htwo)) 24 (Go.Operand.tmp 27) (.pointer (some ⟨b, o, none⟩)) (fun v => by kernel_rfl) (fun v => by kernel_rfl) (fun w' hb => load_hash _ _ _ w' (HQ w' hb)),
    owes_build 11 (some 29) [7] (.agg (arr8 32 htwo)) 24 #[(0, Go.Operand.const (Go.Value.int Go.IntKind.u8 2))] (#[(0, Go.Value.int Go.IntKind.u8 2)]) (fun v => by kernel_rfl) (fun v => by kernel_rfl) (fun w => by kernel_rfl),
    owes_eql 12 (some 30) [7, 10, 11] 24 (Go.Operand.tmp 28) (Go.Operand.tmp 29) 24 (arr8 32 htwo) (arr8 32 htwo) true (fun v => by kernel_rfl) (fun v => by kernel_rfl) (by kernel_rfl) (hash_same htwo htwo rfl),
    owes_pick 13 (some 31) [7, 12] (.bool true) (Go.Operand.tmp 25) (Go.Operand.tmp 30) (Go.Operand.const (Go.Value.bool false)) true (fun v => by kernel_rfl) (fun v => by kernel_rfl) (fun v => by kernel_rfl),
    owes_move 14 (some 32) [13] (.bool true) (Go.Operand.tmp 31) (fun v => by kernel_rfl) (fun v => by kernel_rfl),
    owes_move 15 (some 33) [14] (errV (E 1)) (Go.Operand.tmp 4) (fun v => by kernel_rfl) (fun v => by kernel_rfl),
    owes_call 16 (some 34) [14, 15] (.bool true) 13 #[Go.Operand.tmp 33, Go.Operand.const (Go.Value.int Go.IntKind.i64 102)] #[33, 3] (fun v => by kernel_rfl) (fun _ _ => by kernel_rfl) (fun v w' hb ho => by
        exact ⟨#[errV (E 1), Go.Value.int Go.IntKind.i64 102], by kernel_rfl, (is_any E (errV (E 1)) 102 102 (.inr ⟨1, by decide, rfl, rfl⟩) w' (hE.below hb)).mono (fun _ _ h => h)⟩),
    owes_pick 17 (some 35) [14, 16] (.bool true) (Go.Operand.tmp 32) (Go.Operand.tmp 34) (Go.Operand.const (Go.Value.bool false)) true (fun v => by kernel_rfl) (fun v => by kernel_rfl) (fun v => by kernel_rfl),
    owes_assign 18 (some 0) [17] (.bool true) (Go.Operand.tmp 35) (fun v => by kernel_rfl) (fun v => by kernel_rfl), trivial⟩ ?_
  intro v w' hb' hall
  clear hall
  have hbb := below_tr hbW2 hb'
  clear hb' hbW2
  simp only [putsL_k, putsL_nil, List.set_cons_zero, List.set_cons_succ]
  go_wp2_with fail
  go_ret
  exact ⟨rfl, hbb⟩
end Go.Proofs.YtihnpcoiadbpiaaDoor
