import Derived.Test.YtffkjbbhbpaacaaUff
import Derived.Test.YtffkjbbhbpaacaaUph
import Derived.Test.YtffkjbbhbpaacaaFil
import Derived.Test.YtffkjbbhbpaacaaTky
import Derived.IntWalk
/-
  UploadAsks' walk.
-/
namespace Go.Proofs.Ytffkjbbhbpaacaa
open Go.RowKit
theorem bcells_intsQ (l : List UInt8) : bcells l = ints .u8 (l.map fun b => (b.toNat : Int)) := by simp [bcells, ints, cellB]
section
variable {P : Program} {ops : Array Oper} {l : List Sp} {a : Act} {w : World}
theorem owes_index_o (i : Nat) (dst : Option Tmp) (anc : List Nat) (says : Value → World → Prop) (t : TypeId) (x y : Operand) (vy : Value) (j : Nat) (hop : ∀ v, ops[i]?.map (fun o => (o.op, Region.wanted o (yielded ops (fr l anc a v).tmps))) = some (.indexAddr t x y, true))
    (hx : ∀ v, ((fr l anc a v).eval x, (fr l anc a v).eval y) = (v j, vy)) (hm : ∀ y w1 w2, says y w1 → Cells w1 w2 → says y w2)
    (he : ∀ (v : Nat → Value) (w' : World), Below w.heap.size w w' → Opens l anc v w' → ∃ r, (Instr.indexAt t (v j) vy).run P w' = .ok r w' ∧ says r w') : Owes P ops l a w (Sp.o i dst anc says) :=
  owes_pure_o i dst anc says _ hop hm fun v w' hb ho => by
    obtain ⟨r, h1, h2⟩ := he v w' hb ho
    refine ⟨r, w', fun o ho => ?_, Below.refl _ _, Cells.refl _, h2⟩
    have hx := hx v
    simp only [Prod.mk.injEq] at hx
    unfold execOp
    simp [ho, hx.1, hx.2, h1, Result.andThen]
theorem owes_load_o (i : Nat) (dst : Option Tmp) (anc : List Nat) (r : Value) (t : TypeId) (x : Operand) (j : Nat) (hop : ∀ v, ops[i]?.map (fun o => (o.op, Region.wanted o (yielded ops (fr l anc a v).tmps))) = some (.load t x, true))
    (hx : ∀ v, (fr l anc a v).eval x = v j) (he : ∀ (v : Nat → Value) (w' : World), Below w.heap.size w w' → Opens l anc v w' → (Instr.loadAt t (v j)).run P w' = .ok r w') : Owes P ops l a w (Sp.k i dst anc r) :=
  owes_pure i dst anc _ _ hop fun v w' hb ho o h => by
    unfold execOp
    simp [h, hx v, he v w' hb ho, Result.andThen]
theorem owes_field (i : Nat) (dst : Option Tmp) (anc : List Nat) (r : Value) (t : TypeId) (x : Operand) (k : Nat) (vx : Value) (hop : ∀ v, ops[i]?.map (fun o => (o.op, Region.wanted o (yielded ops (fr l anc a v).tmps))) = some (.fieldAddr t x k, true))
    (hx : ∀ v, (fr l anc a v).eval x = vx) (he : ∀ w, (Instr.fieldAt t vx k).run P w = .ok r w) : Owes P ops l a w (Sp.k i dst anc r) :=
  owes_pure i dst anc r _ hop fun v w' _ _ o ho => by unfold execOp; simp only [ho, hx v, Sem.run_bind, he w']; rfl
theorem owes_min (i : Nat) (dst : Option Tmp) (anc : List Nat) (r : Value) (x y : Operand) (t u ty : TypeId) (vx vy : Value) (hop : ∀ v, ops[i]?.map (fun o => (o.op, Region.wanted o (yielded ops (fr l anc a v).tmps))) = some (.call { callee := .builtin .min, args := #[x, y], argTypes := #[t, u] }, true)) (hty : ops[i]?.map (·.type) = some ty)
    (hx : ∀ v, ((fr l anc a v).eval x, (fr l anc a v).eval y) = (vx, vy)) (he : ∀ w, (Builtin.min_ #[t, u] ty #[vx, vy]).run P w = .ok r w) : Owes P ops l a w (Sp.k i dst anc r) :=
  .mk_k fun v w' hb ho o hi => by
    have h := hop v
    have hx := hx v
    simp only [Prod.mk.injEq] at hx
    rw [hi] at h hty
    simp only [Option.map_some, Option.some.injEq, Prod.mk.injEq] at h hty
    refine .value (v := r) (w' := w') h.2 ?_ ⟨Below.refl _ _, Cells.refl _, rfl⟩
    simp only [execOp, h.1, resolve, invoke, builtin, Sem.run_bind, Sem.run_pure, Result.andThen_ok, List.map_toArray, List.map_cons, List.map_nil, hx.1, hx.2, hty, he w']
end
def SlVq (v : Value) (w : World) : Prop := ∃ g, v = .slice (some ⟨g, 0, none⟩) 5 5 ∧ w.rangeAt g 0 (#[.int .i64 5, .int .i64 1, .int .i64 2, .int .i64 3, .int .i64 6] : Array Value).toList
theorem SlVq.mono : ∀ y w1 w2, SlVq y w1 → Cells w1 w2 → SlVq y w2 := fun _ _ _ ⟨g, e, r⟩ hc => ⟨g, e, fun j v hv => (hc.cell _ (cell_lt (r 0 _ rfl))).trans (r j v hv)⟩
def opN (p : Nat) : Int := [5, 1, 2, 3, 6].getD p 0
def PtQ (p : Nat) (z : Int) (v : Value) (w : World) : Prop := ∃ g, v = .pointer (some ⟨g, p, none⟩) ∧ w.cell? ⟨g, p, none⟩ = some (.int .i64 z)
theorem PtQ.mono {k : Nat} {z : Int} : ∀ y w1 w2, PtQ k z y w1 → Cells w1 w2 → PtQ k z y w2 := fun _ _ _ ⟨g, e, r⟩ hc => ⟨g, e, (hc.cell _ (cell_lt r)).trans r⟩
theorem idx_5 (g p : Nat) (h : p < 5) (w : World) : (Instr.indexAt 40 (.slice (some ⟨g, 0, none⟩) 5 5) (.int .i64 (p : Int))).run Try.prog w = .ok (.pointer (some ⟨g, p, none⟩)) w := by
  have e := idx_slice 40 3 1 Try.underlying40 (fun w => by kernel_rfl) g 0 5 5 p h w
  rw [Nat.zero_add, Nat.mul_one] at e
  exact e
theorem ptQ_of {p g : Nat} {x : Value} {w : World} (hp : p < 5) (e : x = .slice (some ⟨g, 0, none⟩) 5 5) (r : w.rangeAt g 0 (#[.int .i64 5, .int .i64 1, .int .i64 2, .int .i64 3, .int .i64 6] : Array Value).toList) (W : World) :
    ∃ y, (Instr.indexAt 40 x (.int .i64 (p : Int))).run Try.prog W = .ok y W ∧ PtQ p (opN p) y w := by
  rw [e]
  refine ⟨_, idx_5 g p hp W, g, rfl, ?_⟩
  have hr := fun v hv => r p v hv
  rw [Nat.zero_add] at hr
  obtain rfl | rfl | rfl | rfl | rfl : p = 0 ∨ p = 1 ∨ p = 2 ∨ p = 3 ∨ p = 4 := by omega
  all_goals exact hr _ rfl
theorem bsl_5 (w : World) : (Instr.buildSlice 40 5 #[(0, .int .i64 5), (1, .int .i64 1), (2, .int .i64 2), (3, .int .i64 3), (4, .int .i64 6)]).run Try.prog w = .ok (.slice (some ⟨w.heap.size, 0, none⟩) 5 5) (w.alloc (.cells #[.int .i64 5, .int .i64 1, .int .i64 2, .int .i64 3, .int .i64 6] 3)) := by kernel_rfl
theorem up_build2 (p a : Int) (w : World) : (Instr.build 30 #[(0, .int .i64 p), (1, .int .i64 a)]).run Try.prog w = .ok (.agg (uv p a 0 0)) w := by kernel_rfl
def LtA (A : Option Addr) (W : World) : Prop := ∀ x, A = some x → x.block < W.heap.size
theorem LtA.below {A : Option Addr} {W W' : World} (h : LtA A W) (hb : Below W.heap.size W W') : LtA A W' := fun x e => Nat.lt_of_lt_of_le (h x e) hb.size
theorem load_rowX (W : World) (g : Nat) (f : Nat → BitVec 8) (h : W.heap[g]? = some (.cells (arr8 32 f) 32 (0, 0))) : (Instr.loadAt 32 (.pointer (some ⟨g, 0, none⟩))).run Try.prog W = .ok (.agg (arr8 32 f)) W := by
  have := load_row (P := Try.prog) 32 g 0 (arr8 32 f).toList _ Try.underlying32 rfl (by simp only [Array.length_toList, arr8_size]; kernel_rfl) W (range_new (cs := (arr8 32 f).toList) (by simpa using h))
  simpa using this
theorem hs_one (f : Nat → BitVec 8) : (arr8 32 f).all (·.oneCell') = true := by kernel_rfl
def prt (xs : List Int) (a : Nat) : List Int := if xs.length < a then [] else (xs.drop a).take (min (xs.length - a) 200)
theorem prt_min (xs : List Int) (a S : Nat) (h : S = xs.length) : (xs.drop (min a S)).take (min (S - min a S) 200) = prt xs a := by
  subst h
  unfold prt
  by_cases h : xs.length < a
  · have e1 : min a xs.length = xs.length := Nat.min_eq_right (by omega)
    rw [if_pos h, e1]; simp
  · have e1 : min a xs.length = a := Nat.min_eq_left (by omega)
    rw [if_neg h, e1]
theorem part_any (A : Option Addr) (xs : List Int) (S cb a : Nat) (hS : S = xs.length) (hc : S ≤ cb) (h9 : S ≤ 900) (w : World) (hA : SlRead w A (ints .u8 xs)) : Calls Try.prog 11 #[.slice A S cb, .int .i64 (a : Int)] w fun e W' => ∃ A l c, e = .returned (.slice A l c) ∧ l = (prt xs a).length ∧ SlRead W' A (ints .u8 (prt xs a)) ∧ (∀ x, A = some x → w.heap.size ≤ x.block) ∧ Below w.heap.size w W' := by
  by_cases h : xs.length < a
  · refine (part_no A S cb (a : Int) (.inr (by omega)) w).mono ?_
    rintro e w' ⟨rfl, hb⟩
    have e : prt xs a = [] := if_pos h
    rw [e]
    exact ⟨none, 0, 0, rfl, rfl, fun h => absurd h (by simp [ints]), (fun x hx => by cases hx), hb⟩
  · refine (part_yes A xs S cb a hS (by omega) hc h9 w hA).mono ?_
    rintro e w' ⟨v, rfl, ho, hb⟩
    have e : prt xs a = (xs.drop a).take (min (S - a) 200) := by rw [hS]; exact if_neg h
    obtain ⟨A2, c, rfl, _, _, hlo⟩ := own_slice ho
    rw [e]
    refine ⟨A2, _, c, rfl, ?_, SlRead.of_own ho, fun x hx => (hlo x hx).1, hb⟩
    rw [List.length_take, List.length_drop, ← hS]
    omega
theorem min_nn (a b : Nat) (w : World) : (Builtin.min_ #[3, 3] 3 #[.int .i64 (a : Int), .int .i64 (b : Int)]).run Try.prog w = .ok (.int .i64 ((min a b : Nat) : Int)) w := by
  have h : (if (b : Int) < (a : Int) then (b : Int) else (a : Int)) = ((min a b : Nat) : Int) := by
    rcases Nat.lt_or_ge b a with h | h
    · rw [if_pos (by omega), Nat.min_eq_right (by omega)]
    · rw [if_neg (by omega), Nat.min_eq_left h]
  rw [run_min_int2, h]
theorem min_fm (fr S : Nat) (hf : fr ≤ S) (w : World) : (Builtin.min_ #[3, 3] 3 #[.int .i64 ((fr : Int) + 200), .int .i64 (S : Int)]).run Try.prog w = .ok (.int .i64 ((fr : Int) + ((min (S - fr) 200 : Nat) : Int))) w := by
  have h : (if (S : Int) < (fr : Int) + 200 then (S : Int) else (fr : Int) + 200) = (fr : Int) + ((min (S - fr) 200 : Nat) : Int) := by
    rcases Nat.lt_or_ge S (fr + 200) with h | h
    · rw [if_pos (by omega), Nat.min_eq_left (by omega)]; omega
    · rw [if_neg (by omega), Nat.min_eq_right (by omega)]; rfl
  rw [run_min_int2, h]
theorem load_u32Q (b o : Nat) (w : World) (z : Int) (h : w.cell? ⟨b, o, none⟩ = some (.int .u32 z)) : (Instr.loadAt 35 (.pointer (some ⟨b, o, none⟩))).run Try.prog w = .ok (.int .u32 z) w := load_slice b o w 35 (fun w => by kernel_rfl) _ h
theorem cvt_u32i (a : Nat) (h : a < 4294967296) (w : World) : (convert 35 3 (.int .u32 (a : Int))).run Try.prog w = .ok (.int .i64 (a : Int)) w := by
  have h1 := Try.underlying35
  have h2 := Try.underlying3
  have hw : IntKind.i64.wrap (a : Int) = (a : Int) := IntWalk.i64_in _ (by omega)
  simp [convert, run_underlying h1, run_underlying h2, Conv.intToInt, hw]
theorem eq_ii (t : TypeId) (x y : Operand) (a : Int) (w : World) : (do eqGuard .eql t x y (.int .i64 a) (.int .i64 a); binOp .eql t (.int .i64 a) (.int .i64 a) : Sem Value).run Try.prog w = .ok (.bool true) w := by
  simp [eqGuard, binOp, Op.intCmp]
theorem add_200 (fr : Nat) (h : fr < 600) (t : TypeId) (x y : Operand) (w : World) : (do eqGuard .add t x y (.int .i64 (fr : Int)) (.int .i64 200); binOp .add t (.int .i64 (fr : Int)) (.int .i64 200) : Sem Value).run Try.prog w = .ok (.int .i64 ((fr : Int) + 200)) w := by
  have hw : IntKind.i64.wrap ((fr : Int) + 200) = (fr : Int) + 200 := IntWalk.i64_in _ (by omega)
  simp [eqGuard, binOp, Op.intArith, hw]
set_option maxRecDepth 100000 in
set_option maxHeartbeats 3200000 in
theorem asks_walk (phase at0 size wait : Int) (w : World) :
    Calls Try.prog 3 #[.int .i64 phase, .int .i64 at0, .int .i64 size, .int .i64 wait] w fun e w' => e = .returned (.bool true) ∧ Below w.heap.size w w' := by
  have hfi := first_any w
  obtain ⟨S, hS, hS6⟩ := exists_mod size 600 (by omega)
  obtain ⟨p, hp, hp6⟩ := exists_mod phase 6 (by omega)
  obtain ⟨a, ha, ha6⟩ := exists_mod at0 ((S : Int) + 5) (by omega)
  obtain ⟨t, ht, ht3⟩ := exists_mod wait 3 (by omega)
  have hn1 := fun w => number_nat size 600 S w (by omega) hS
  have hn2 := fun w => number_nat phase 6 p w (by omega) hp
  have hn3 := fun w => number_nat at0 ((S : Int) + 5) a w (by omega) ha
  have hn4 := fun w => number_nat wait 3 t w (by omega) ht
  clear hS hp ha ht
  obtain ⟨n0, hn0⟩ : ∃ n, n = w.heap.size := ⟨_, rfl⟩
  try rw [← hn0]
  have hb : Below n0 w w := by rw [hn0]; exact Below.refl _ _
  have hs : n0 ≤ w.heap.size := by rw [hn0]; exact Nat.le_refl _
  clear hn0
  go_enter Try.func3, Try.ntmps3
  go_upto_region 4 with (go_at_call 4; refine hfi.mono ?_; rintro e Wa ⟨rfl, hba⟩; replace hb := hb.trans (hba.mono hs); replace hs := Nat.le_trans hs hba.size; clear hba hfi)
  go_upto_region 5 with (go_at_call 5; refine (hn1 _).mono ?_; rintro e Wbx ⟨rfl, qWb, rfl⟩; clear hn1)
  have hbV : Below Wa.heap.size Wa (Wa.drewN qWb) := Below.drewNr qWb
  replace hb := hb.trans (hbV.mono hs)
  replace hs := Nat.le_trans hs hbV.size
  clear hbV 
  generalize Wa.drewN qWb = Wb at *
  have hfl := file_any (S : Int) S (by omega) Wb
  go_upto_region 6 with (go_at_call 6; refine hfl.mono ?_; rintro e Wc ⟨Ab, cb, rfl, hob, hbc⟩; clear hfl)
  obtain ⟨A0, c0', he0, hcb, _, hlo⟩ := own_slice hob
  cases he0
  have hrb := SlRead.of_own hob
  rw [bcells_intsQ] at hrb
  obtain ⟨xs, hxs⟩ : ∃ xs, xs = (fileL (S : Int) S).map (fun b => (b.toNat : Int)) := ⟨_, rfl⟩
  rw [← hxs] at hrb
  have hxl : xs.length = S := by rw [hxs, List.length_map, fileL_len]
  have hlo2 : LtA Ab Wc := fun x e => (hlo x e).2
  clear hob hlo hxs
  replace hb := hb.trans (hbc.mono hs)
  replace hs := Nat.le_trans hs hbc.size
  clear hbc 
  have HX := Lib.hid (And.intro hxl hcb)
  clear hxl hcb
  go_upto_region 7 with (go_at_call 5; refine (hn2 _).mono ?_; rintro e Wdx ⟨rfl, qWd, rfl⟩; clear hn2)
  have hbV : Below Wc.heap.size Wc (Wc.drewN qWd) := Below.drewNr qWd
  replace hrb := hrb.below hbV
  replace hlo2 := hlo2.below hbV
  replace hb := hb.trans (hbV.mono hs)
  replace hs := Nat.le_trans hs hbV.size
  clear hbV 
  generalize Wc.drewN qWd = Wd at *
  go_upto_region 8 with (go_at_call 5; refine (hn3 _).mono ?_; rintro e Wex ⟨rfl, qWe, rfl⟩; clear hn3)
  have hbV : Below Wd.heap.size Wd (Wd.drewN qWe) := Below.drewNr qWe
  replace hrb := hrb.below hbV
  replace hlo2 := hlo2.below hbV
  replace hb := hb.trans (hbV.mono hs)
  replace hs := Nat.le_trans hs hbV.size
  clear hbV 
  generalize Wd.drewN qWe = We at *
  go_upto_region 9 with (go_at_call 5; refine (hn4 _).mono ?_; rintro e Wfx ⟨rfl, qWf, rfl⟩; clear hn4)
  have hbV : Below We.heap.size We (We.drewN qWf) := Below.drewNr qWf
  replace hrb := hrb.below hbV
  replace hlo2 := hlo2.below hbV
  replace hb := hb.trans (hbV.mono hs)
  replace hs := Nat.le_trans hs hbV.size
  clear hbV 
  generalize We.drewN qWf = Wf at *
  have hUb : ∀ x, Ab = some x → x.block < Wf.heap.size := hlo2
  go_upto_region 10 with (refine wpList_build rfl 30 _ rfl #[(0, .int .i64 (p : Int)), (1, .int .i64 (a : Int))] (by kernel_rfl) (.agg (uv (p : Int) (a : Int) 0 0)) (fun w => up_build2 _ _ w) ?_)
  have o_U : n0 ≤ Wf.heap.size := hs
  refine wp_world (fun W => Below n0 w W ∧ n0 ≤ W.heap.size ∧ W.heap[Wf.heap.size]? = some (.cells (uv (p : Int) (a : Int) 0 0) 30 (0, 0)) ∧ SlRead W Ab (ints .u8 xs) ∧ LtA Ab W) ⟨hb.trans ((below_alc Wf _).mono hs), Nat.le_trans hs (below_alc Wf _).size, heap1_0 _ _, hrb.below (below_alc Wf _), hlo2.below (below_alc Wf _)⟩ ?_
  clear hb hs  hrb hlo2
  rintro W1 ⟨hb, hs, h_U, hrb, hlo2⟩
  generalize Wf.heap.size = U at *
  have c3 : W1.cell? ⟨U, 3, none⟩ = some (.int .i64 0) := cell_heap h_U rfl
  have f3 := thaw_heap h_U 3
  go_upto_region 11 with (fail)
  refine wp_world (fun W => Below n0 w W ∧ n0 ≤ W.heap.size ∧ W.heap[U]? = some (.cells (uv (p : Int) (a : Int) 0 (t : Int)) 30 (0, 0)) ∧ SlRead W Ab (ints .u8 xs) ∧ LtA Ab W) ⟨(set_turnH W1 U 3 _).below hb hs (fun q e => by rw [e]; exact o_U), by rw [heap_size_setCellQ]; exact hs, heap_setCell_same W1 U 3 _ _ _ h_U, slread_turnQ hrb (set_turnH W1 U 3 _) (fun x e hx => by have h1 := hUb x e; have hx2 : x.block = U := hx; omega), (fun x e => by rw [heap_size_setCellQ]; exact hlo2 x e)⟩ ?_
  clear hb hs h_U c3 f3 hrb hlo2
  rintro W2 ⟨hb, hs, h_U, hrb, hlo2⟩
  have hky := key_any (S : Int) W2
  go_upto_region 12 with (first | (go_at_call 7; refine hky.mono ?_; rintro e Wk ⟨f, rfl, hbk⟩; clear hky; replace h_U := heap_below h_U hbk; replace hrb := hrb.below hbk; replace hlo2 := hlo2.below hbk; replace hb := hb.trans (hbk.mono hs); replace hs := Nat.le_trans hs hbk.size; clear hbk) | (refine wpList_store_row rfl 32 _ _ rfl Wk.heap.size (arr8 32 f) rfl rfl _ _ (heap1_0 _ _) (info_Hs f) (by kernel_rfl) (hs_one f) ?_; rw [alloc_setRow]))
  have l_U_X : U < Wk.heap.size := lt_heap h_U
  have o_X : n0 ≤ Wk.heap.size := hs
  refine wp_world (fun W => Below n0 w W ∧ n0 ≤ W.heap.size ∧ W.heap[U]? = some (.cells (uv (p : Int) (a : Int) 0 (t : Int)) 30 (0, 0)) ∧ W.heap[Wk.heap.size]? = some (.cells (arr8 32 f) 32 (0, 0)) ∧ SlRead W Ab (ints .u8 xs) ∧ LtA Ab W) ⟨hb.trans ((below_alc Wk _).mono hs), Nat.le_trans hs (below_alc Wk _).size, heap_below h_U (below_alc Wk _), heap1_0 _ _, hrb.below (below_alc Wk _), hlo2.below (below_alc Wk _)⟩ ?_
  clear hb hs h_U hrb hlo2
  rintro W3 ⟨hb, hs, h_U, h_X, hrb, hlo2⟩
  generalize Wk.heap.size = X at *
  by_cases ht0 : t = 0
  · obtain rfl : t = 0 := by omega
    replace h_U : W3.heap[U]? = some (.cells (uv (p : Int) (a : Int) 0 0) 30 (0, 0)) := h_U
    by_cases e0 : p = 0
    · subst e0
      replace h_U : W3.heap[U]? = some (.cells (uv 0 (a : Int) 0 0) 30 (0, 0)) := h_U
      have hak := ask_0 W3 h_U f Ab S cb rfl rfl
      go_upto_region 13 with (first | (refine wpList_load_row rfl 32 _ rfl X rfl _ _ _ _ h_X Try.underlying32 rfl (info_Hs f) ?_) | (go_at_call 8; refine hak.mono ?_; rintro e Wq ⟨rfl, hbq⟩; clear hak; replace h_U := heap_below h_U hbq; replace h_X := heap_below h_X hbq; replace hrb := hrb.below hbq; replace hlo2 := hlo2.below hbq; replace hb := hb.trans (hbq.mono hs); replace hs := Nat.le_trans hs hbq.size; clear hbq) | (refine wpList_store_row rfl 37 _ _ rfl Wq.heap.size (rqA 5 f 0 0 (.slice none 0 0)) rfl rfl _ _ (heap1_0 _ _) (rq_info _ _ _ _ _) (by kernel_rfl) (rq_one _ _ _ _ _ _ _) ?_; rw [alloc_setRow]))
      have l_U_R : U < Wq.heap.size := lt_heap h_U
      have l_X_R : X < Wq.heap.size := lt_heap h_X
      have o_R : n0 ≤ Wq.heap.size := hs
      refine wp_world (fun W => Below n0 w W ∧ n0 ≤ W.heap.size ∧ W.heap[U]? = some (.cells (uv 0 (a : Int) 0 0) 30 (0, 0)) ∧ W.heap[X]? = some (.cells (arr8 32 f) 32 (0, 0)) ∧ W.heap[Wq.heap.size]? = some (.cells (rqA 5 f 0 0 (.slice none 0 0)) 37 (0, 0)) ∧ SlRead W Ab (ints .u8 xs) ∧ LtA Ab W) ⟨hb.trans ((below_alc Wq _).mono hs), Nat.le_trans hs (below_alc Wq _).size, heap_below h_U (below_alc Wq _), heap_below h_X (below_alc Wq _), heap1_0 _ _, hrb.below (below_alc Wq _), hlo2.below (below_alc Wq _)⟩ ?_
      clear hb hs h_U h_X hrb hlo2
      rintro W4 ⟨hb, hs, h_U, h_X, h_R, hrb, hlo2⟩
      generalize Wq.heap.size = R at *
      go_upto_region 15 with (fail)
      refine wp_region_spec [Sp.k 0 (some 74) [] (.bool true),
        Sp.k 1 (some 75) [0] (.bool false),
        Sp.k 2 (some 76) [1] (.bool false),
        Sp.k 3 (some 77) [2] (.pointer (some ⟨R, 1, none⟩)),
        Sp.k 4 (some 78) [2, 3] (.agg (arr8 32 f)),
        Sp.k 5 (some 79) [2] (.agg (arr8 32 f)),
        Sp.k 6 (some 80) [2, 4, 5] (.bool false),
        Sp.k 7 (some 81) [2, 6] (.bool false),
        Sp.k 8 (some 82) [7] (.bool false),
        Sp.k 9 (some 83) [8] (.pointer (some ⟨R, 0, none⟩)),
        Sp.k 10 (some 84) [8, 9] (.int .i64 5),
        Sp.o 11 (some 85) [8] SlVq,
        Sp.k 12 (some 86) [8] (.int .i64 0),
        Sp.o 13 (some 87) [8, 11, 12] (PtQ 0 (opN 0)),
        Sp.k 14 (some 88) [8, 13] (.int .i64 (opN 0)),
        Sp.k 15 (some 89) [8, 10, 14] (.bool false),
        Sp.k 16 (some 90) [8, 15] (.bool false)] (by kernel_rfl) (by kernel_rfl)
        ⟨owes_move 0 (some 74) [] (.bool true) (Go.Operand.tmp 14) (fun v => by kernel_rfl) (fun v => by kernel_rfl),
        owes_un 1 (some 75) [0] (.bool false) Go.UnOp.not 4 (Go.Operand.tmp 74) (.bool true) (fun v => by kernel_rfl) (fun v => by kernel_rfl) (fun w => by kernel_rfl),
        owes_move 2 (some 76) [1] (.bool false) (Go.Operand.tmp 75) (fun v => by kernel_rfl) (fun v => by kernel_rfl),
        owes_field 3 (some 77) [2] (.pointer (some ⟨R, 1, none⟩)) 37 (Go.Operand.tmp 13) 1 (.pointer (some ⟨R, 0, none⟩)) (fun v => by kernel_rfl) (fun v => by kernel_rfl) (fun w => by kernel_rfl),
        owes_load 4 (some 78) [2, 3] (.agg (arr8 32 f)) 32 (Go.Operand.tmp 77) (.pointer (some ⟨R, 1, none⟩)) (fun v => by kernel_rfl) (fun v => by kernel_rfl) (fun w' hb' => load_rowQ w' R f (rq_blob (heap_below h_R ((Below.drewNr (w := W4) 1).trans hb')))),
        owes_load 5 (some 79) [2] (.agg (arr8 32 f)) 32 (Go.Operand.tmp 12) (.pointer (some ⟨X, 0, none⟩)) (fun v => by kernel_rfl) (fun v => by kernel_rfl) (fun w' hb' => load_rowX w' X f (heap_below h_X ((Below.drewNr (w := W4) 1).trans hb'))),
        owes_neq 6 (some 80) [2, 4, 5] 32 (Go.Operand.tmp 78) (Go.Operand.tmp 79) 32 (arr8 32 f) (arr8 32 f) true (fun v => by kernel_rfl) (fun v => by kernel_rfl) (by kernel_rfl) (equalHs f),
        owes_pick 7 (some 81) [2, 6] (.bool false) (Go.Operand.tmp 76) (Go.Operand.const (Go.Value.bool true)) (Go.Operand.tmp 80) false (fun v => by kernel_rfl) (fun v => by kernel_rfl) (fun v => by kernel_rfl),
        owes_move 8 (some 82) [7] (.bool false) (Go.Operand.tmp 81) (fun v => by kernel_rfl) (fun v => by kernel_rfl),
        owes_field 9 (some 83) [8] (.pointer (some ⟨R, 0, none⟩)) 37 (Go.Operand.tmp 13) 0 (.pointer (some ⟨R, 0, none⟩)) (fun v => by kernel_rfl) (fun v => by kernel_rfl) (fun w => by kernel_rfl),
        owes_load 10 (some 84) [8, 9] (.int .i64 5) 3 (Go.Operand.tmp 83) (.pointer (some ⟨R, 0, none⟩)) (fun v => by kernel_rfl) (fun v => by kernel_rfl) (fun w' hb' => load_i64 R 0 w' _ (cell_heap (heap_below h_R ((Below.drewNr (w := W4) 1).trans hb')) (rq_c0 _ _ _ _ _))),
        owes_bsl 11 (some 85) [8] SlVq 40 3 5 #[(0, Go.Operand.const (Go.Value.int Go.IntKind.i64 5)), (1, Go.Operand.const (Go.Value.int Go.IntKind.i64 1)), (2, Go.Operand.const (Go.Value.int Go.IntKind.i64 2)), (3, Go.Operand.const (Go.Value.int Go.IntKind.i64 3)), (4, Go.Operand.const (Go.Value.int Go.IntKind.i64 6))] (#[(0, Go.Value.int Go.IntKind.i64 5), (1, Go.Value.int Go.IntKind.i64 1), (2, Go.Value.int Go.IntKind.i64 2), (3, Go.Value.int Go.IntKind.i64 3), (4, Go.Value.int Go.IntKind.i64 6)]) (#[.int .i64 5, .int .i64 1, .int .i64 2, .int .i64 3, .int .i64 6]) (fun v => by kernel_rfl) (fun v => by kernel_rfl) (fun w => bsl_5 w) SlVq.mono (fun w' hb => ⟨_, rfl, range_new (heap1_0 w' _)⟩),
        owes_move 12 (some 86) [8] (.int .i64 0) (Go.Operand.tmp 0) (fun v => by kernel_rfl) (fun v => by kernel_rfl),
        owes_index_o 13 (some 87) [8, 11, 12] (PtQ 0 (opN 0)) 40 (Go.Operand.tmp 85) (Go.Operand.tmp 86) (.int .i64 0) 11 (fun v => by kernel_rfl) (fun v => by kernel_rfl) PtQ.mono (fun v w' hb ho => by
            obtain ⟨g11, e11, r11⟩ := ho.get 11 _ _ SlVq rfl rfl
            exact ptQ_of (p := 0) (by decide) e11 r11 w'),
        owes_load_o 14 (some 88) [8, 13] (.int .i64 (opN 0)) 3 (Go.Operand.tmp 87) 13 (fun v => by kernel_rfl) (fun v => by kernel_rfl) (fun v w' hb ho => by
            obtain ⟨g13, e13, r13⟩ := ho.get 13 _ _ (PtQ 0 (opN 0)) rfl rfl
            rw [e13]
            exact load_i64 g13 0 w' _ r13),
        owes_bin 15 (some 89) [8, 10, 14] (.bool false) Go.BinOp.neq 3 (Go.Operand.tmp 84) (Go.Operand.tmp 88) 3 (.int .i64 5) (.int .i64 (opN 0)) (fun v => by kernel_rfl) (fun v => by kernel_rfl) (fun w => by kernel_rfl),
        owes_pick 16 (some 90) [8, 15] (.bool false) (Go.Operand.tmp 82) (Go.Operand.const (Go.Value.bool true)) (Go.Operand.tmp 89) false (fun v => by kernel_rfl) (fun v => by kernel_rfl) (fun v => by kernel_rfl), trivial⟩ ?_
      intro v Wr hbr hall
      clear hall
      simp only [putsL_k, putsL_o, putsL_nil, List.set_cons_zero, List.set_cons_succ]
      replace hbr := (Below.drewNr (w := W4) 1).trans hbr
      replace h_U := heap_below h_U hbr
      replace h_X := heap_below h_X hbr
      replace h_R := heap_below h_R hbr
      replace hrb := hrb.below hbr
      replace hlo2 := hlo2.below hbr
      replace hb := hb.trans (hbr.mono hs)
      replace hs := Nat.le_trans hs hbr.size
      clear hbr 
      have r3 : Wr.cell? ⟨R, 33, none⟩ = some (.int .u32 (0)) := cell_heap h_R (rq_c33 _ _ _ _ _)
      have r4 : Wr.cell? ⟨R, 34, none⟩ = some (.int .u32 (0)) := cell_heap h_R (rq_c34 _ _ _ _ _)
      have r5 : Wr.cell? ⟨R, 35, none⟩ = some (.slice none 0 0) := cell_heap h_R (rq_c35 _ _ _ _ _)
      go_wp2_with fail
      go_ret
      exact ⟨rfl, hb⟩
    · by_cases e1 : p = 1
      · subst e1
        replace h_U : W3.heap[U]? = some (.cells (uv 1 (a : Int) 0 0) 30 (0, 0)) := h_U
        have hak := ask_1 W3 h_U f Ab S cb rfl rfl (by omega)
        go_upto_region 13 with (first | (refine wpList_load_row rfl 32 _ rfl X rfl _ _ _ _ h_X Try.underlying32 rfl (info_Hs f) ?_) | (go_at_call 8; refine hak.mono ?_; rintro e Wq ⟨rfl, hbq⟩; clear hak; replace h_U := heap_below h_U hbq; replace h_X := heap_below h_X hbq; replace hrb := hrb.below hbq; replace hlo2 := hlo2.below hbq; replace hb := hb.trans (hbq.mono hs); replace hs := Nat.le_trans hs hbq.size; clear hbq) | (refine wpList_store_row rfl 37 _ _ rfl Wq.heap.size (rqA 1 f 0 (S : Int) (.slice none 0 0)) rfl rfl _ _ (heap1_0 _ _) (rq_info _ _ _ _ _) (by kernel_rfl) (rq_one _ _ _ _ _ _ _) ?_; rw [alloc_setRow]))
        have l_U_R : U < Wq.heap.size := lt_heap h_U
        have l_X_R : X < Wq.heap.size := lt_heap h_X
        have o_R : n0 ≤ Wq.heap.size := hs
        refine wp_world (fun W => Below n0 w W ∧ n0 ≤ W.heap.size ∧ W.heap[U]? = some (.cells (uv 1 (a : Int) 0 0) 30 (0, 0)) ∧ W.heap[X]? = some (.cells (arr8 32 f) 32 (0, 0)) ∧ W.heap[Wq.heap.size]? = some (.cells (rqA 1 f 0 (S : Int) (.slice none 0 0)) 37 (0, 0)) ∧ SlRead W Ab (ints .u8 xs) ∧ LtA Ab W) ⟨hb.trans ((below_alc Wq _).mono hs), Nat.le_trans hs (below_alc Wq _).size, heap_below h_U (below_alc Wq _), heap_below h_X (below_alc Wq _), heap1_0 _ _, hrb.below (below_alc Wq _), hlo2.below (below_alc Wq _)⟩ ?_
        clear hb hs h_U h_X hrb hlo2
        rintro W4 ⟨hb, hs, h_U, h_X, h_R, hrb, hlo2⟩
        generalize Wq.heap.size = R at *
        go_upto_region 15 with (fail)
        refine wp_region_spec [Sp.k 0 (some 74) [] (.bool true),
          Sp.k 1 (some 75) [0] (.bool false),
          Sp.k 2 (some 76) [1] (.bool false),
          Sp.k 3 (some 77) [2] (.pointer (some ⟨R, 1, none⟩)),
          Sp.k 4 (some 78) [2, 3] (.agg (arr8 32 f)),
          Sp.k 5 (some 79) [2] (.agg (arr8 32 f)),
          Sp.k 6 (some 80) [2, 4, 5] (.bool false),
          Sp.k 7 (some 81) [2, 6] (.bool false),
          Sp.k 8 (some 82) [7] (.bool false),
          Sp.k 9 (some 83) [8] (.pointer (some ⟨R, 0, none⟩)),
          Sp.k 10 (some 84) [8, 9] (.int .i64 1),
          Sp.o 11 (some 85) [8] SlVq,
          Sp.k 12 (some 86) [8] (.int .i64 1),
          Sp.o 13 (some 87) [8, 11, 12] (PtQ 1 (opN 1)),
          Sp.k 14 (some 88) [8, 13] (.int .i64 (opN 1)),
          Sp.k 15 (some 89) [8, 10, 14] (.bool false),
          Sp.k 16 (some 90) [8, 15] (.bool false)] (by kernel_rfl) (by kernel_rfl)
          ⟨owes_move 0 (some 74) [] (.bool true) (Go.Operand.tmp 14) (fun v => by kernel_rfl) (fun v => by kernel_rfl),
          owes_un 1 (some 75) [0] (.bool false) Go.UnOp.not 4 (Go.Operand.tmp 74) (.bool true) (fun v => by kernel_rfl) (fun v => by kernel_rfl) (fun w => by kernel_rfl),
          owes_move 2 (some 76) [1] (.bool false) (Go.Operand.tmp 75) (fun v => by kernel_rfl) (fun v => by kernel_rfl),
          owes_field 3 (some 77) [2] (.pointer (some ⟨R, 1, none⟩)) 37 (Go.Operand.tmp 13) 1 (.pointer (some ⟨R, 0, none⟩)) (fun v => by kernel_rfl) (fun v => by kernel_rfl) (fun w => by kernel_rfl),
          owes_load 4 (some 78) [2, 3] (.agg (arr8 32 f)) 32 (Go.Operand.tmp 77) (.pointer (some ⟨R, 1, none⟩)) (fun v => by kernel_rfl) (fun v => by kernel_rfl) (fun w' hb' => load_rowQ w' R f (rq_blob (heap_below h_R ((Below.drewNr (w := W4) 1).trans hb')))),
          owes_load 5 (some 79) [2] (.agg (arr8 32 f)) 32 (Go.Operand.tmp 12) (.pointer (some ⟨X, 0, none⟩)) (fun v => by kernel_rfl) (fun v => by kernel_rfl) (fun w' hb' => load_rowX w' X f (heap_below h_X ((Below.drewNr (w := W4) 1).trans hb'))),
          owes_neq 6 (some 80) [2, 4, 5] 32 (Go.Operand.tmp 78) (Go.Operand.tmp 79) 32 (arr8 32 f) (arr8 32 f) true (fun v => by kernel_rfl) (fun v => by kernel_rfl) (by kernel_rfl) (equalHs f),
          owes_pick 7 (some 81) [2, 6] (.bool false) (Go.Operand.tmp 76) (Go.Operand.const (Go.Value.bool true)) (Go.Operand.tmp 80) false (fun v => by kernel_rfl) (fun v => by kernel_rfl) (fun v => by kernel_rfl),
          owes_move 8 (some 82) [7] (.bool false) (Go.Operand.tmp 81) (fun v => by kernel_rfl) (fun v => by kernel_rfl),
          owes_field 9 (some 83) [8] (.pointer (some ⟨R, 0, none⟩)) 37 (Go.Operand.tmp 13) 0 (.pointer (some ⟨R, 0, none⟩)) (fun v => by kernel_rfl) (fun v => by kernel_rfl) (fun w => by kernel_rfl),
          owes_load 10 (some 84) [8, 9] (.int .i64 1) 3 (Go.Operand.tmp 83) (.pointer (some ⟨R, 0, none⟩)) (fun v => by kernel_rfl) (fun v => by kernel_rfl) (fun w' hb' => load_i64 R 0 w' _ (cell_heap (heap_below h_R ((Below.drewNr (w := W4) 1).trans hb')) (rq_c0 _ _ _ _ _))),
          owes_bsl 11 (some 85) [8] SlVq 40 3 5 #[(0, Go.Operand.const (Go.Value.int Go.IntKind.i64 5)), (1, Go.Operand.const (Go.Value.int Go.IntKind.i64 1)), (2, Go.Operand.const (Go.Value.int Go.IntKind.i64 2)), (3, Go.Operand.const (Go.Value.int Go.IntKind.i64 3)), (4, Go.Operand.const (Go.Value.int Go.IntKind.i64 6))] (#[(0, Go.Value.int Go.IntKind.i64 5), (1, Go.Value.int Go.IntKind.i64 1), (2, Go.Value.int Go.IntKind.i64 2), (3, Go.Value.int Go.IntKind.i64 3), (4, Go.Value.int Go.IntKind.i64 6)]) (#[.int .i64 5, .int .i64 1, .int .i64 2, .int .i64 3, .int .i64 6]) (fun v => by kernel_rfl) (fun v => by kernel_rfl) (fun w => bsl_5 w) SlVq.mono (fun w' hb => ⟨_, rfl, range_new (heap1_0 w' _)⟩),
          owes_move 12 (some 86) [8] (.int .i64 1) (Go.Operand.tmp 0) (fun v => by kernel_rfl) (fun v => by kernel_rfl),
          owes_index_o 13 (some 87) [8, 11, 12] (PtQ 1 (opN 1)) 40 (Go.Operand.tmp 85) (Go.Operand.tmp 86) (.int .i64 1) 11 (fun v => by kernel_rfl) (fun v => by kernel_rfl) PtQ.mono (fun v w' hb ho => by
              obtain ⟨g11, e11, r11⟩ := ho.get 11 _ _ SlVq rfl rfl
              exact ptQ_of (p := 1) (by decide) e11 r11 w'),
          owes_load_o 14 (some 88) [8, 13] (.int .i64 (opN 1)) 3 (Go.Operand.tmp 87) 13 (fun v => by kernel_rfl) (fun v => by kernel_rfl) (fun v w' hb ho => by
              obtain ⟨g13, e13, r13⟩ := ho.get 13 _ _ (PtQ 1 (opN 1)) rfl rfl
              rw [e13]
              exact load_i64 g13 1 w' _ r13),
          owes_bin 15 (some 89) [8, 10, 14] (.bool false) Go.BinOp.neq 3 (Go.Operand.tmp 84) (Go.Operand.tmp 88) 3 (.int .i64 1) (.int .i64 (opN 1)) (fun v => by kernel_rfl) (fun v => by kernel_rfl) (fun w => by kernel_rfl),
          owes_pick 16 (some 90) [8, 15] (.bool false) (Go.Operand.tmp 82) (Go.Operand.const (Go.Value.bool true)) (Go.Operand.tmp 89) false (fun v => by kernel_rfl) (fun v => by kernel_rfl) (fun v => by kernel_rfl), trivial⟩ ?_
        intro v Wr hbr hall
        clear hall
        simp only [putsL_k, putsL_o, putsL_nil, List.set_cons_zero, List.set_cons_succ]
        replace hbr := (Below.drewNr (w := W4) 1).trans hbr
        replace h_U := heap_below h_U hbr
        replace h_X := heap_below h_X hbr
        replace h_R := heap_below h_R hbr
        replace hrb := hrb.below hbr
        replace hlo2 := hlo2.below hbr
        replace hb := hb.trans (hbr.mono hs)
        replace hs := Nat.le_trans hs hbr.size
        clear hbr 
        have r3 : Wr.cell? ⟨R, 33, none⟩ = some (.int .u32 (0)) := cell_heap h_R (rq_c33 _ _ _ _ _)
        have r4 : Wr.cell? ⟨R, 34, none⟩ = some (.int .u32 ((S : Int))) := cell_heap h_R (rq_c34 _ _ _ _ _)
        have r5 : Wr.cell? ⟨R, 35, none⟩ = some (.slice none 0 0) := cell_heap h_R (rq_c35 _ _ _ _ _)
        go_wp2_with fail
        go_ret
        exact ⟨rfl, hb⟩
      · by_cases e2 : p = 2
        · subst e2
          replace h_U : W3.heap[U]? = some (.cells (uv 2 (a : Int) 0 0) 30 (0, 0)) := h_U
          have hpt : ∀ W, Below W3.heap.size W3 W → Calls Try.prog 11 #[.slice Ab S cb, .int .i64 (a : Int)] W fun e W' => ∃ A l c, e = .returned (.slice A l c) ∧ l = (prt xs a).length ∧ SlRead W' A (ints .u8 (prt xs a)) ∧ (∀ x, A = some x → W.heap.size ≤ x.block) ∧ Below W.heap.size W W' := fun W hbW => part_any Ab xs S cb a HX.out.1.symm HX.out.2 (by omega) W (hrb.below hbW)
          obtain ⟨ys, hys⟩ : ∃ y, y = prt xs a := ⟨_, rfl⟩
          rw [← hys] at hpt
          have HYS := Lib.hid hys
          clear hys
          have hak := ask_2 W3 U (a : Int) 0 0 h_U f Ab S cb ys rfl (by omega) hpt
          go_upto_region 13 with (first | (refine wpList_load_row rfl 32 _ rfl X rfl _ _ _ _ h_X Try.underlying32 rfl (info_Hs f) ?_) | (go_at_call 8; refine hak.mono ?_; rintro e Wq ⟨A2, l2, c2, rfl, hl2, hr2, hbq⟩; have HL2 := Lib.hid hl2; clear hl2 hpt; clear hak; replace h_U := heap_below h_U hbq; replace h_X := heap_below h_X hbq; replace hrb := hrb.below hbq; replace hlo2 := hlo2.below hbq; replace hb := hb.trans (hbq.mono hs); replace hs := Nat.le_trans hs hbq.size; clear hbq) | (refine wpList_store_row rfl 37 _ _ rfl Wq.heap.size (rqA 2 f (a : Int) 0 (.slice A2 l2 c2)) rfl rfl _ _ (heap1_0 _ _) (rq_info _ _ _ _ _) (by kernel_rfl) (rq_one _ _ _ _ _ _ _) ?_; rw [alloc_setRow]))
          have l_U_R : U < Wq.heap.size := lt_heap h_U
          have l_X_R : X < Wq.heap.size := lt_heap h_X
          have o_R : n0 ≤ Wq.heap.size := hs
          refine wp_world (fun W => Below n0 w W ∧ n0 ≤ W.heap.size ∧ W.heap[U]? = some (.cells (uv 2 (a : Int) 0 0) 30 (0, 0)) ∧ W.heap[X]? = some (.cells (arr8 32 f) 32 (0, 0)) ∧ W.heap[Wq.heap.size]? = some (.cells (rqA 2 f (a : Int) 0 (.slice A2 l2 c2)) 37 (0, 0)) ∧ SlRead W Ab (ints .u8 xs) ∧ LtA Ab W ∧ SlRead W A2 (ints .u8 ys)) ⟨hb.trans ((below_alc Wq _).mono hs), Nat.le_trans hs (below_alc Wq _).size, heap_below h_U (below_alc Wq _), heap_below h_X (below_alc Wq _), heap1_0 _ _, hrb.below (below_alc Wq _), hlo2.below (below_alc Wq _), hr2.below (below_alc Wq _)⟩ ?_
          clear hb hs h_U h_X hrb hlo2 hr2
          rintro W4 ⟨hb, hs, h_U, h_X, h_R, hrb, hlo2, hr2⟩
          generalize Wq.heap.size = R at *
          go_upto_region 15 with (fail)
          refine wp_region_spec [Sp.k 0 (some 74) [] (.bool true),
            Sp.k 1 (some 75) [0] (.bool false),
            Sp.k 2 (some 76) [1] (.bool false),
            Sp.k 3 (some 77) [2] (.pointer (some ⟨R, 1, none⟩)),
            Sp.k 4 (some 78) [2, 3] (.agg (arr8 32 f)),
            Sp.k 5 (some 79) [2] (.agg (arr8 32 f)),
            Sp.k 6 (some 80) [2, 4, 5] (.bool false),
            Sp.k 7 (some 81) [2, 6] (.bool false),
            Sp.k 8 (some 82) [7] (.bool false),
            Sp.k 9 (some 83) [8] (.pointer (some ⟨R, 0, none⟩)),
            Sp.k 10 (some 84) [8, 9] (.int .i64 2),
            Sp.o 11 (some 85) [8] SlVq,
            Sp.k 12 (some 86) [8] (.int .i64 2),
            Sp.o 13 (some 87) [8, 11, 12] (PtQ 2 (opN 2)),
            Sp.k 14 (some 88) [8, 13] (.int .i64 (opN 2)),
            Sp.k 15 (some 89) [8, 10, 14] (.bool false),
            Sp.k 16 (some 90) [8, 15] (.bool false)] (by kernel_rfl) (by kernel_rfl)
            ⟨owes_move 0 (some 74) [] (.bool true) (Go.Operand.tmp 14) (fun v => by kernel_rfl) (fun v => by kernel_rfl),
            owes_un 1 (some 75) [0] (.bool false) Go.UnOp.not 4 (Go.Operand.tmp 74) (.bool true) (fun v => by kernel_rfl) (fun v => by kernel_rfl) (fun w => by kernel_rfl),
            owes_move 2 (some 76) [1] (.bool false) (Go.Operand.tmp 75) (fun v => by kernel_rfl) (fun v => by kernel_rfl),
            owes_field 3 (some 77) [2] (.pointer (some ⟨R, 1, none⟩)) 37 (Go.Operand.tmp 13) 1 (.pointer (some ⟨R, 0, none⟩)) (fun v => by kernel_rfl) (fun v => by kernel_rfl) (fun w => by kernel_rfl),
            owes_load 4 (some 78) [2, 3] (.agg (arr8 32 f)) 32 (Go.Operand.tmp 77) (.pointer (some ⟨R, 1, none⟩)) (fun v => by kernel_rfl) (fun v => by kernel_rfl) (fun w' hb' => load_rowQ w' R f (rq_blob (heap_below h_R ((Below.drewNr (w := W4) 1).trans hb')))),
            owes_load 5 (some 79) [2] (.agg (arr8 32 f)) 32 (Go.Operand.tmp 12) (.pointer (some ⟨X, 0, none⟩)) (fun v => by kernel_rfl) (fun v => by kernel_rfl) (fun w' hb' => load_rowX w' X f (heap_below h_X ((Below.drewNr (w := W4) 1).trans hb'))),
            owes_neq 6 (some 80) [2, 4, 5] 32 (Go.Operand.tmp 78) (Go.Operand.tmp 79) 32 (arr8 32 f) (arr8 32 f) true (fun v => by kernel_rfl) (fun v => by kernel_rfl) (by kernel_rfl) (equalHs f),
            owes_pick 7 (some 81) [2, 6] (.bool false) (Go.Operand.tmp 76) (Go.Operand.const (Go.Value.bool true)) (Go.Operand.tmp 80) false (fun v => by kernel_rfl) (fun v => by kernel_rfl) (fun v => by kernel_rfl),
            owes_move 8 (some 82) [7] (.bool false) (Go.Operand.tmp 81) (fun v => by kernel_rfl) (fun v => by kernel_rfl),
            owes_field 9 (some 83) [8] (.pointer (some ⟨R, 0, none⟩)) 37 (Go.Operand.tmp 13) 0 (.pointer (some ⟨R, 0, none⟩)) (fun v => by kernel_rfl) (fun v => by kernel_rfl) (fun w => by kernel_rfl),
            owes_load 10 (some 84) [8, 9] (.int .i64 2) 3 (Go.Operand.tmp 83) (.pointer (some ⟨R, 0, none⟩)) (fun v => by kernel_rfl) (fun v => by kernel_rfl) (fun w' hb' => load_i64 R 0 w' _ (cell_heap (heap_below h_R ((Below.drewNr (w := W4) 1).trans hb')) (rq_c0 _ _ _ _ _))),
            owes_bsl 11 (some 85) [8] SlVq 40 3 5 #[(0, Go.Operand.const (Go.Value.int Go.IntKind.i64 5)), (1, Go.Operand.const (Go.Value.int Go.IntKind.i64 1)), (2, Go.Operand.const (Go.Value.int Go.IntKind.i64 2)), (3, Go.Operand.const (Go.Value.int Go.IntKind.i64 3)), (4, Go.Operand.const (Go.Value.int Go.IntKind.i64 6))] (#[(0, Go.Value.int Go.IntKind.i64 5), (1, Go.Value.int Go.IntKind.i64 1), (2, Go.Value.int Go.IntKind.i64 2), (3, Go.Value.int Go.IntKind.i64 3), (4, Go.Value.int Go.IntKind.i64 6)]) (#[.int .i64 5, .int .i64 1, .int .i64 2, .int .i64 3, .int .i64 6]) (fun v => by kernel_rfl) (fun v => by kernel_rfl) (fun w => bsl_5 w) SlVq.mono (fun w' hb => ⟨_, rfl, range_new (heap1_0 w' _)⟩),
            owes_move 12 (some 86) [8] (.int .i64 2) (Go.Operand.tmp 0) (fun v => by kernel_rfl) (fun v => by kernel_rfl),
            owes_index_o 13 (some 87) [8, 11, 12] (PtQ 2 (opN 2)) 40 (Go.Operand.tmp 85) (Go.Operand.tmp 86) (.int .i64 2) 11 (fun v => by kernel_rfl) (fun v => by kernel_rfl) PtQ.mono (fun v w' hb ho => by
                obtain ⟨g11, e11, r11⟩ := ho.get 11 _ _ SlVq rfl rfl
                exact ptQ_of (p := 2) (by decide) e11 r11 w'),
            owes_load_o 14 (some 88) [8, 13] (.int .i64 (opN 2)) 3 (Go.Operand.tmp 87) 13 (fun v => by kernel_rfl) (fun v => by kernel_rfl) (fun v w' hb ho => by
                obtain ⟨g13, e13, r13⟩ := ho.get 13 _ _ (PtQ 2 (opN 2)) rfl rfl
                rw [e13]
                exact load_i64 g13 2 w' _ r13),
            owes_bin 15 (some 89) [8, 10, 14] (.bool false) Go.BinOp.neq 3 (Go.Operand.tmp 84) (Go.Operand.tmp 88) 3 (.int .i64 2) (.int .i64 (opN 2)) (fun v => by kernel_rfl) (fun v => by kernel_rfl) (fun w => by kernel_rfl),
            owes_pick 16 (some 90) [8, 15] (.bool false) (Go.Operand.tmp 82) (Go.Operand.const (Go.Value.bool true)) (Go.Operand.tmp 89) false (fun v => by kernel_rfl) (fun v => by kernel_rfl) (fun v => by kernel_rfl), trivial⟩ ?_
          intro v Wr hbr hall
          clear hall
          simp only [putsL_k, putsL_o, putsL_nil, List.set_cons_zero, List.set_cons_succ]
          replace hbr := (Below.drewNr (w := W4) 1).trans hbr
          replace h_U := heap_below h_U hbr
          replace h_X := heap_below h_X hbr
          replace h_R := heap_below h_R hbr
          replace hrb := hrb.below hbr
          replace hlo2 := hlo2.below hbr
          replace hr2 := hr2.below hbr
          replace hb := hb.trans (hbr.mono hs)
          replace hs := Nat.le_trans hs hbr.size
          clear hbr 
          have r3 : Wr.cell? ⟨R, 33, none⟩ = some (.int .u32 ((a : Int))) := cell_heap h_R (rq_c33 _ _ _ _ _)
          have r4 : Wr.cell? ⟨R, 34, none⟩ = some (.int .u32 (0)) := cell_heap h_R (rq_c34 _ _ _ _ _)
          have r5 : Wr.cell? ⟨R, 35, none⟩ = some (.slice A2 l2 c2) := cell_heap h_R (rq_c35 _ _ _ _ _)
          obtain ⟨fr, hfr⟩ : ∃ n, n = min a S := ⟨_, rfl⟩
          obtain ⟨mm, hmm⟩ : ∃ n, n = min (S - fr) 200 := ⟨_, rfl⟩
          have hmi : ∀ w, (Builtin.min_ #[3, 3] 3 #[.int .i64 (a : Int), .int .i64 (S : Int)]).run Try.prog w = .ok (.int .i64 (fr : Int)) w := fun w => by rw [hfr]; exact min_nn a S w
          have hmi2 : ∀ w, (Builtin.min_ #[3, 3] 3 #[.int .i64 ((fr : Int) + 200), .int .i64 (S : Int)]).run Try.prog w = .ok (.int .i64 ((fr : Int) + (mm : Int))) w := fun w => by rw [hmm]; exact min_fm fr S (by omega) w
          have HF := Lib.hid (And.intro hfr hmm)
          have hfS : fr + mm ≤ cb := by have := HX.out.2; omega
          have hf6 : fr < 600 := by omega
          clear hfr hmm
          go_upto_region 22 with (fail)
          have hsl := sliceAt_lhA (P := Try.prog) Try.underlying24 (show (Try.prog.info? 5).map (·.size) = some 1 by kernel_rfl) Ab S cb fr mm hfS
          have hyl : ((xs.drop fr).take mm).length = mm := by have h1 := HX.out.1; have h2 := HF.out.1; have h3 := HF.out.2; rw [List.length_take, List.length_drop]; omega
          have hye : (xs.drop fr).take mm = ys := by rw [HYS.out, HF.out.2, HF.out.1]; exact prt_min xs a S HX.out.1.symm
          have hsm : ∀ w', Below Wr.heap.size Wr w' → Calls Try.prog 9 #[.slice A2 l2 c2, .slice (cutA Ab fr cb) mm (cb - fr)] w' fun e w'' => e = .returned (.bool true) ∧ Below w'.heap.size w' w'' := fun w' hb' => by
            have q := sameBytes_any A2 (cutA Ab fr cb) ys ((xs.drop fr).take mm) c2 (cb - fr) w' (hr2.below hb') ((slread_dropQ (hrb.below hb') fr cb (by have := HX.out; omega)).take mm) (by rw [← hye, hyl]; have := hfS; have := HF.out; omega) (by rw [hyl]; have := HF.out; omega)
            rw [hyl, ← HL2.out, hye, decide_eq_true (rfl : ys = ys)] at q
            refine q.mono ?_
            rintro e w'' ⟨rfl, k', rfl⟩
            exact ⟨rfl, Below.drewNr k'⟩
          refine wp_region_spec [Sp.k 0 (some 113) [] (.bool true),
            Sp.k 1 (some 114) [0] (.bool true),
            Sp.k 2 (some 115) [1] (.pointer (some ⟨R, 33, none⟩)),
            Sp.k 3 (some 116) [1, 2] (.int .u32 (a : Int)),
            Sp.k 4 (some 117) [1, 3] (.int .i64 (a : Int)),
            Sp.k 5 (some 118) [1] (.int .i64 (a : Int)),
            Sp.k 6 (some 119) [1, 4, 5] (.bool true),
            Sp.k 7 (some 120) [1, 6] (.bool true),
            Sp.k 8 (some 121) [7] (.bool true),
            Sp.k 9 (some 122) [8] (.pointer (some ⟨R, 35, none⟩)),
            Sp.k 10 (some 123) [8, 9] (.slice A2 l2 c2),
            Sp.k 11 (some 124) [8] (.slice Ab S cb),
            Sp.k 12 (some 125) [8] (.int .i64 (fr : Int)),
            Sp.k 13 (some 126) [8] (.int .i64 (fr : Int)),
            Sp.k 14 (some 127) [8, 13] (.int .i64 ((fr : Int) + 200)),
            Sp.k 15 (some 128) [8] (.int .i64 (S : Int)),
            Sp.k 16 (some 129) [8, 14, 15] (.int .i64 ((fr : Int) + (mm : Int))),
            Sp.k 17 (some 130) [8, 11, 12, 16] (.slice (cutA Ab fr cb) mm (cb - fr)),
            Sp.k 18 (some 131) [8, 10, 17] (.bool true),
            Sp.k 19 (some 132) [8, 18] (.bool true),
            Sp.k 20 (some 8) [19] (.bool true)] (by kernel_rfl) (by kernel_rfl)
            ⟨owes_move 0 (some 113) [] (.bool true) (Go.Operand.tmp 9) (fun v => by kernel_rfl) (fun v => by kernel_rfl),
            owes_move 1 (some 114) [0] (.bool true) (Go.Operand.tmp 113) (fun v => by kernel_rfl) (fun v => by kernel_rfl),
            owes_field 2 (some 115) [1] (.pointer (some ⟨R, 33, none⟩)) 37 (Go.Operand.tmp 13) 2 (.pointer (some ⟨R, 0, none⟩)) (fun v => by kernel_rfl) (fun v => by kernel_rfl) (fun w => by kernel_rfl),
            owes_load 3 (some 116) [1, 2] (.int .u32 (a : Int)) 35 (Go.Operand.tmp 115) (.pointer (some ⟨R, 33, none⟩)) (fun v => by kernel_rfl) (fun v => by kernel_rfl) (fun w' hb' => load_u32Q R 33 w' _ ((((Below.drewNr (w := Wr) 1).trans hb').cell (p := ⟨R, 33, none⟩) (lt_heap h_R)).trans r3)),
            owes_cvt 4 (some 117) [1, 3] (.int .i64 (a : Int)) 35 3 (Go.Operand.tmp 116) (.int .u32 (a : Int)) (fun v => by kernel_rfl) (fun v => by kernel_rfl) (fun w => cvt_u32i a (by omega) w),
            owes_move 5 (some 118) [1] (.int .i64 (a : Int)) (Go.Operand.tmp 1) (fun v => by kernel_rfl) (fun v => by kernel_rfl),
            owes_bin 6 (some 119) [1, 4, 5] (.bool true) Go.BinOp.eql 3 (Go.Operand.tmp 117) (Go.Operand.tmp 118) 3 (.int .i64 (a : Int)) (.int .i64 (a : Int)) (fun v => by kernel_rfl) (fun v => by kernel_rfl) (fun w => eq_ii _ _ _ (a : Int) w),
            owes_pick 7 (some 120) [1, 6] (.bool true) (Go.Operand.tmp 114) (Go.Operand.tmp 119) (Go.Operand.const (Go.Value.bool false)) true (fun v => by kernel_rfl) (fun v => by kernel_rfl) (fun v => by kernel_rfl),
            owes_move 8 (some 121) [7] (.bool true) (Go.Operand.tmp 120) (fun v => by kernel_rfl) (fun v => by kernel_rfl),
            owes_field 9 (some 122) [8] (.pointer (some ⟨R, 35, none⟩)) 37 (Go.Operand.tmp 13) 4 (.pointer (some ⟨R, 0, none⟩)) (fun v => by kernel_rfl) (fun v => by kernel_rfl) (fun w => by kernel_rfl),
            owes_load 10 (some 123) [8, 9] (.slice A2 l2 c2) 24 (Go.Operand.tmp 122) (.pointer (some ⟨R, 35, none⟩)) (fun v => by kernel_rfl) (fun v => by kernel_rfl) (fun w' hb' => load_slice R 35 w' 24 (fun w => by kernel_rfl) _ ((((Below.drewNr (w := Wr) 1).trans hb').cell (p := ⟨R, 35, none⟩) (lt_heap h_R)).trans r5)),
            owes_move 11 (some 124) [8] (.slice Ab S cb) (Go.Operand.tmp 10) (fun v => by kernel_rfl) (fun v => by kernel_rfl),
            owes_move 12 (some 125) [8] (.int .i64 (fr : Int)) (Go.Operand.tmp 15) (fun v => by kernel_rfl) (fun v => by kernel_rfl),
            owes_move 13 (some 126) [8] (.int .i64 (fr : Int)) (Go.Operand.tmp 15) (fun v => by kernel_rfl) (fun v => by kernel_rfl),
            owes_bin 14 (some 127) [8, 13] (.int .i64 ((fr : Int) + 200)) Go.BinOp.add 3 (Go.Operand.tmp 126) (Go.Operand.const (Go.Value.int Go.IntKind.i64 200)) 3 (.int .i64 (fr : Int)) (Go.Value.int Go.IntKind.i64 200) (fun v => by kernel_rfl) (fun v => by kernel_rfl) (fun w => add_200 fr hf6 _ _ _ w),
            owes_move 15 (some 128) [8] (.int .i64 (S : Int)) (Go.Operand.tmp 2) (fun v => by kernel_rfl) (fun v => by kernel_rfl),
            owes_min 16 (some 129) [8, 14, 15] (.int .i64 ((fr : Int) + (mm : Int))) (.tmp 127) (.tmp 128) 3 3 3 (.int .i64 ((fr : Int) + 200)) (.int .i64 (S : Int)) (fun v => by kernel_rfl) (by kernel_rfl) (fun v => by kernel_rfl) hmi2,
            owes_slice 17 (some 130) [8, 11, 12, 16] (.slice (cutA Ab fr cb) mm (cb - fr)) 24 (Go.Operand.tmp 124) (some (Go.Operand.tmp 125)) (some (Go.Operand.tmp 129)) none (.slice Ab S cb) (some (.int .i64 (fr : Int))) (some (.int .i64 ((fr : Int) + (mm : Int)))) none (fun v => by kernel_rfl) (fun v => by kernel_rfl) (fun w => hsl w),
            owes_call 18 (some 131) [8, 10, 17] (.bool true) 9 #[Go.Operand.tmp 123, Go.Operand.tmp 130] #[24, 24] (fun v => by kernel_rfl) (fun _ _ => by kernel_rfl) (fun v w' hb ho => by
                exact ⟨#[.slice A2 l2 c2, .slice (cutA Ab fr cb) mm (cb - fr)], by kernel_rfl, (hsm w' ((Below.drewNr (w := Wr) 1).trans hb)).mono (fun _ _ h => h)⟩),
            owes_pick 19 (some 132) [8, 18] (.bool true) (Go.Operand.tmp 121) (Go.Operand.tmp 131) (Go.Operand.const (Go.Value.bool false)) true (fun v => by kernel_rfl) (fun v => by kernel_rfl) (fun v => by kernel_rfl),
            owes_assign 20 (some 8) [19] (.bool true) (Go.Operand.tmp 132) (fun v => by kernel_rfl) (fun v => by kernel_rfl), trivial⟩ ?_
          intro v Ws hbs hall
          clear hall
          simp only [putsL_k, putsL_o, putsL_nil, List.set_cons_zero, List.set_cons_succ]
          replace hb := hb.trans (((Below.drewNr (w := Wr) 1).trans hbs).mono hs)
          go_wp2_with fail
          go_ret
          exact ⟨rfl, hb⟩
        · by_cases e3 : p = 3
          · subst e3
            replace h_U : W3.heap[U]? = some (.cells (uv 3 (a : Int) 0 0) 30 (0, 0)) := h_U
            have hak := ask_3 W3 h_U f Ab S cb rfl rfl
            go_upto_region 13 with (first | (refine wpList_load_row rfl 32 _ rfl X rfl _ _ _ _ h_X Try.underlying32 rfl (info_Hs f) ?_) | (go_at_call 8; refine hak.mono ?_; rintro e Wq ⟨rfl, hbq⟩; clear hak; replace h_U := heap_below h_U hbq; replace h_X := heap_below h_X hbq; replace hrb := hrb.below hbq; replace hlo2 := hlo2.below hbq; replace hb := hb.trans (hbq.mono hs); replace hs := Nat.le_trans hs hbq.size; clear hbq) | (refine wpList_store_row rfl 37 _ _ rfl Wq.heap.size (rqA 3 f 0 0 (.slice none 0 0)) rfl rfl _ _ (heap1_0 _ _) (rq_info _ _ _ _ _) (by kernel_rfl) (rq_one _ _ _ _ _ _ _) ?_; rw [alloc_setRow]))
            have l_U_R : U < Wq.heap.size := lt_heap h_U
            have l_X_R : X < Wq.heap.size := lt_heap h_X
            have o_R : n0 ≤ Wq.heap.size := hs
            refine wp_world (fun W => Below n0 w W ∧ n0 ≤ W.heap.size ∧ W.heap[U]? = some (.cells (uv 3 (a : Int) 0 0) 30 (0, 0)) ∧ W.heap[X]? = some (.cells (arr8 32 f) 32 (0, 0)) ∧ W.heap[Wq.heap.size]? = some (.cells (rqA 3 f 0 0 (.slice none 0 0)) 37 (0, 0)) ∧ SlRead W Ab (ints .u8 xs) ∧ LtA Ab W) ⟨hb.trans ((below_alc Wq _).mono hs), Nat.le_trans hs (below_alc Wq _).size, heap_below h_U (below_alc Wq _), heap_below h_X (below_alc Wq _), heap1_0 _ _, hrb.below (below_alc Wq _), hlo2.below (below_alc Wq _)⟩ ?_
            clear hb hs h_U h_X hrb hlo2
            rintro W4 ⟨hb, hs, h_U, h_X, h_R, hrb, hlo2⟩
            generalize Wq.heap.size = R at *
            go_upto_region 15 with (fail)
            refine wp_region_spec [Sp.k 0 (some 74) [] (.bool true),
              Sp.k 1 (some 75) [0] (.bool false),
              Sp.k 2 (some 76) [1] (.bool false),
              Sp.k 3 (some 77) [2] (.pointer (some ⟨R, 1, none⟩)),
              Sp.k 4 (some 78) [2, 3] (.agg (arr8 32 f)),
              Sp.k 5 (some 79) [2] (.agg (arr8 32 f)),
              Sp.k 6 (some 80) [2, 4, 5] (.bool false),
              Sp.k 7 (some 81) [2, 6] (.bool false),
              Sp.k 8 (some 82) [7] (.bool false),
              Sp.k 9 (some 83) [8] (.pointer (some ⟨R, 0, none⟩)),
              Sp.k 10 (some 84) [8, 9] (.int .i64 3),
              Sp.o 11 (some 85) [8] SlVq,
              Sp.k 12 (some 86) [8] (.int .i64 3),
              Sp.o 13 (some 87) [8, 11, 12] (PtQ 3 (opN 3)),
              Sp.k 14 (some 88) [8, 13] (.int .i64 (opN 3)),
              Sp.k 15 (some 89) [8, 10, 14] (.bool false),
              Sp.k 16 (some 90) [8, 15] (.bool false)] (by kernel_rfl) (by kernel_rfl)
              ⟨owes_move 0 (some 74) [] (.bool true) (Go.Operand.tmp 14) (fun v => by kernel_rfl) (fun v => by kernel_rfl),
              owes_un 1 (some 75) [0] (.bool false) Go.UnOp.not 4 (Go.Operand.tmp 74) (.bool true) (fun v => by kernel_rfl) (fun v => by kernel_rfl) (fun w => by kernel_rfl),
              owes_move 2 (some 76) [1] (.bool false) (Go.Operand.tmp 75) (fun v => by kernel_rfl) (fun v => by kernel_rfl),
              owes_field 3 (some 77) [2] (.pointer (some ⟨R, 1, none⟩)) 37 (Go.Operand.tmp 13) 1 (.pointer (some ⟨R, 0, none⟩)) (fun v => by kernel_rfl) (fun v => by kernel_rfl) (fun w => by kernel_rfl),
              owes_load 4 (some 78) [2, 3] (.agg (arr8 32 f)) 32 (Go.Operand.tmp 77) (.pointer (some ⟨R, 1, none⟩)) (fun v => by kernel_rfl) (fun v => by kernel_rfl) (fun w' hb' => load_rowQ w' R f (rq_blob (heap_below h_R ((Below.drewNr (w := W4) 1).trans hb')))),
              owes_load 5 (some 79) [2] (.agg (arr8 32 f)) 32 (Go.Operand.tmp 12) (.pointer (some ⟨X, 0, none⟩)) (fun v => by kernel_rfl) (fun v => by kernel_rfl) (fun w' hb' => load_rowX w' X f (heap_below h_X ((Below.drewNr (w := W4) 1).trans hb'))),
              owes_neq 6 (some 80) [2, 4, 5] 32 (Go.Operand.tmp 78) (Go.Operand.tmp 79) 32 (arr8 32 f) (arr8 32 f) true (fun v => by kernel_rfl) (fun v => by kernel_rfl) (by kernel_rfl) (equalHs f),
              owes_pick 7 (some 81) [2, 6] (.bool false) (Go.Operand.tmp 76) (Go.Operand.const (Go.Value.bool true)) (Go.Operand.tmp 80) false (fun v => by kernel_rfl) (fun v => by kernel_rfl) (fun v => by kernel_rfl),
              owes_move 8 (some 82) [7] (.bool false) (Go.Operand.tmp 81) (fun v => by kernel_rfl) (fun v => by kernel_rfl),
              owes_field 9 (some 83) [8] (.pointer (some ⟨R, 0, none⟩)) 37 (Go.Operand.tmp 13) 0 (.pointer (some ⟨R, 0, none⟩)) (fun v => by kernel_rfl) (fun v => by kernel_rfl) (fun w => by kernel_rfl),
              owes_load 10 (some 84) [8, 9] (.int .i64 3) 3 (Go.Operand.tmp 83) (.pointer (some ⟨R, 0, none⟩)) (fun v => by kernel_rfl) (fun v => by kernel_rfl) (fun w' hb' => load_i64 R 0 w' _ (cell_heap (heap_below h_R ((Below.drewNr (w := W4) 1).trans hb')) (rq_c0 _ _ _ _ _))),
              owes_bsl 11 (some 85) [8] SlVq 40 3 5 #[(0, Go.Operand.const (Go.Value.int Go.IntKind.i64 5)), (1, Go.Operand.const (Go.Value.int Go.IntKind.i64 1)), (2, Go.Operand.const (Go.Value.int Go.IntKind.i64 2)), (3, Go.Operand.const (Go.Value.int Go.IntKind.i64 3)), (4, Go.Operand.const (Go.Value.int Go.IntKind.i64 6))] (#[(0, Go.Value.int Go.IntKind.i64 5), (1, Go.Value.int Go.IntKind.i64 1), (2, Go.Value.int Go.IntKind.i64 2), (3, Go.Value.int Go.IntKind.i64 3), (4, Go.Value.int Go.IntKind.i64 6)]) (#[.int .i64 5, .int .i64 1, .int .i64 2, .int .i64 3, .int .i64 6]) (fun v => by kernel_rfl) (fun v => by kernel_rfl) (fun w => bsl_5 w) SlVq.mono (fun w' hb => ⟨_, rfl, range_new (heap1_0 w' _)⟩),
              owes_move 12 (some 86) [8] (.int .i64 3) (Go.Operand.tmp 0) (fun v => by kernel_rfl) (fun v => by kernel_rfl),
              owes_index_o 13 (some 87) [8, 11, 12] (PtQ 3 (opN 3)) 40 (Go.Operand.tmp 85) (Go.Operand.tmp 86) (.int .i64 3) 11 (fun v => by kernel_rfl) (fun v => by kernel_rfl) PtQ.mono (fun v w' hb ho => by
                  obtain ⟨g11, e11, r11⟩ := ho.get 11 _ _ SlVq rfl rfl
                  exact ptQ_of (p := 3) (by decide) e11 r11 w'),
              owes_load_o 14 (some 88) [8, 13] (.int .i64 (opN 3)) 3 (Go.Operand.tmp 87) 13 (fun v => by kernel_rfl) (fun v => by kernel_rfl) (fun v w' hb ho => by
                  obtain ⟨g13, e13, r13⟩ := ho.get 13 _ _ (PtQ 3 (opN 3)) rfl rfl
                  rw [e13]
                  exact load_i64 g13 3 w' _ r13),
              owes_bin 15 (some 89) [8, 10, 14] (.bool false) Go.BinOp.neq 3 (Go.Operand.tmp 84) (Go.Operand.tmp 88) 3 (.int .i64 3) (.int .i64 (opN 3)) (fun v => by kernel_rfl) (fun v => by kernel_rfl) (fun w => by kernel_rfl),
              owes_pick 16 (some 90) [8, 15] (.bool false) (Go.Operand.tmp 82) (Go.Operand.const (Go.Value.bool true)) (Go.Operand.tmp 89) false (fun v => by kernel_rfl) (fun v => by kernel_rfl) (fun v => by kernel_rfl), trivial⟩ ?_
            intro v Wr hbr hall
            clear hall
            simp only [putsL_k, putsL_o, putsL_nil, List.set_cons_zero, List.set_cons_succ]
            replace hbr := (Below.drewNr (w := W4) 1).trans hbr
            replace h_U := heap_below h_U hbr
            replace h_X := heap_below h_X hbr
            replace h_R := heap_below h_R hbr
            replace hrb := hrb.below hbr
            replace hlo2 := hlo2.below hbr
            replace hb := hb.trans (hbr.mono hs)
            replace hs := Nat.le_trans hs hbr.size
            clear hbr 
            have r3 : Wr.cell? ⟨R, 33, none⟩ = some (.int .u32 (0)) := cell_heap h_R (rq_c33 _ _ _ _ _)
            have r4 : Wr.cell? ⟨R, 34, none⟩ = some (.int .u32 (0)) := cell_heap h_R (rq_c34 _ _ _ _ _)
            have r5 : Wr.cell? ⟨R, 35, none⟩ = some (.slice none 0 0) := cell_heap h_R (rq_c35 _ _ _ _ _)
            go_wp2_with fail
            go_ret
            exact ⟨rfl, hb⟩
          · by_cases e4 : p = 4
            · subst e4
              replace h_U : W3.heap[U]? = some (.cells (uv 4 (a : Int) 0 0) 30 (0, 0)) := h_U
              have hak := ask_4 W3 h_U f Ab S cb rfl rfl
              go_upto_region 13 with (first | (refine wpList_load_row rfl 32 _ rfl X rfl _ _ _ _ h_X Try.underlying32 rfl (info_Hs f) ?_) | (go_at_call 8; refine hak.mono ?_; rintro e Wq ⟨rfl, hbq⟩; clear hak; replace h_U := heap_below h_U hbq; replace h_X := heap_below h_X hbq; replace hrb := hrb.below hbq; replace hlo2 := hlo2.below hbq; replace hb := hb.trans (hbq.mono hs); replace hs := Nat.le_trans hs hbq.size; clear hbq) | (refine wpList_store_row rfl 37 _ _ rfl Wq.heap.size (rqA 6 f 0 0 (.slice none 0 0)) rfl rfl _ _ (heap1_0 _ _) (rq_info _ _ _ _ _) (by kernel_rfl) (rq_one _ _ _ _ _ _ _) ?_; rw [alloc_setRow]))
              have l_U_R : U < Wq.heap.size := lt_heap h_U
              have l_X_R : X < Wq.heap.size := lt_heap h_X
              have o_R : n0 ≤ Wq.heap.size := hs
              refine wp_world (fun W => Below n0 w W ∧ n0 ≤ W.heap.size ∧ W.heap[U]? = some (.cells (uv 4 (a : Int) 0 0) 30 (0, 0)) ∧ W.heap[X]? = some (.cells (arr8 32 f) 32 (0, 0)) ∧ W.heap[Wq.heap.size]? = some (.cells (rqA 6 f 0 0 (.slice none 0 0)) 37 (0, 0)) ∧ SlRead W Ab (ints .u8 xs) ∧ LtA Ab W) ⟨hb.trans ((below_alc Wq _).mono hs), Nat.le_trans hs (below_alc Wq _).size, heap_below h_U (below_alc Wq _), heap_below h_X (below_alc Wq _), heap1_0 _ _, hrb.below (below_alc Wq _), hlo2.below (below_alc Wq _)⟩ ?_
              clear hb hs h_U h_X hrb hlo2
              rintro W4 ⟨hb, hs, h_U, h_X, h_R, hrb, hlo2⟩
              generalize Wq.heap.size = R at *
              go_upto_region 15 with (fail)
              refine wp_region_spec [Sp.k 0 (some 74) [] (.bool true),
                Sp.k 1 (some 75) [0] (.bool false),
                Sp.k 2 (some 76) [1] (.bool false),
                Sp.k 3 (some 77) [2] (.pointer (some ⟨R, 1, none⟩)),
                Sp.k 4 (some 78) [2, 3] (.agg (arr8 32 f)),
                Sp.k 5 (some 79) [2] (.agg (arr8 32 f)),
                Sp.k 6 (some 80) [2, 4, 5] (.bool false),
                Sp.k 7 (some 81) [2, 6] (.bool false),
                Sp.k 8 (some 82) [7] (.bool false),
                Sp.k 9 (some 83) [8] (.pointer (some ⟨R, 0, none⟩)),
                Sp.k 10 (some 84) [8, 9] (.int .i64 6),
                Sp.o 11 (some 85) [8] SlVq,
                Sp.k 12 (some 86) [8] (.int .i64 4),
                Sp.o 13 (some 87) [8, 11, 12] (PtQ 4 (opN 4)),
                Sp.k 14 (some 88) [8, 13] (.int .i64 (opN 4)),
                Sp.k 15 (some 89) [8, 10, 14] (.bool false),
                Sp.k 16 (some 90) [8, 15] (.bool false)] (by kernel_rfl) (by kernel_rfl)
                ⟨owes_move 0 (some 74) [] (.bool true) (Go.Operand.tmp 14) (fun v => by kernel_rfl) (fun v => by kernel_rfl),
                owes_un 1 (some 75) [0] (.bool false) Go.UnOp.not 4 (Go.Operand.tmp 74) (.bool true) (fun v => by kernel_rfl) (fun v => by kernel_rfl) (fun w => by kernel_rfl),
                owes_move 2 (some 76) [1] (.bool false) (Go.Operand.tmp 75) (fun v => by kernel_rfl) (fun v => by kernel_rfl),
                owes_field 3 (some 77) [2] (.pointer (some ⟨R, 1, none⟩)) 37 (Go.Operand.tmp 13) 1 (.pointer (some ⟨R, 0, none⟩)) (fun v => by kernel_rfl) (fun v => by kernel_rfl) (fun w => by kernel_rfl),
                owes_load 4 (some 78) [2, 3] (.agg (arr8 32 f)) 32 (Go.Operand.tmp 77) (.pointer (some ⟨R, 1, none⟩)) (fun v => by kernel_rfl) (fun v => by kernel_rfl) (fun w' hb' => load_rowQ w' R f (rq_blob (heap_below h_R ((Below.drewNr (w := W4) 1).trans hb')))),
                owes_load 5 (some 79) [2] (.agg (arr8 32 f)) 32 (Go.Operand.tmp 12) (.pointer (some ⟨X, 0, none⟩)) (fun v => by kernel_rfl) (fun v => by kernel_rfl) (fun w' hb' => load_rowX w' X f (heap_below h_X ((Below.drewNr (w := W4) 1).trans hb'))),
                owes_neq 6 (some 80) [2, 4, 5] 32 (Go.Operand.tmp 78) (Go.Operand.tmp 79) 32 (arr8 32 f) (arr8 32 f) true (fun v => by kernel_rfl) (fun v => by kernel_rfl) (by kernel_rfl) (equalHs f),
                owes_pick 7 (some 81) [2, 6] (.bool false) (Go.Operand.tmp 76) (Go.Operand.const (Go.Value.bool true)) (Go.Operand.tmp 80) false (fun v => by kernel_rfl) (fun v => by kernel_rfl) (fun v => by kernel_rfl),
                owes_move 8 (some 82) [7] (.bool false) (Go.Operand.tmp 81) (fun v => by kernel_rfl) (fun v => by kernel_rfl),
                owes_field 9 (some 83) [8] (.pointer (some ⟨R, 0, none⟩)) 37 (Go.Operand.tmp 13) 0 (.pointer (some ⟨R, 0, none⟩)) (fun v => by kernel_rfl) (fun v => by kernel_rfl) (fun w => by kernel_rfl),
                owes_load 10 (some 84) [8, 9] (.int .i64 6) 3 (Go.Operand.tmp 83) (.pointer (some ⟨R, 0, none⟩)) (fun v => by kernel_rfl) (fun v => by kernel_rfl) (fun w' hb' => load_i64 R 0 w' _ (cell_heap (heap_below h_R ((Below.drewNr (w := W4) 1).trans hb')) (rq_c0 _ _ _ _ _))),
                owes_bsl 11 (some 85) [8] SlVq 40 3 5 #[(0, Go.Operand.const (Go.Value.int Go.IntKind.i64 5)), (1, Go.Operand.const (Go.Value.int Go.IntKind.i64 1)), (2, Go.Operand.const (Go.Value.int Go.IntKind.i64 2)), (3, Go.Operand.const (Go.Value.int Go.IntKind.i64 3)), (4, Go.Operand.const (Go.Value.int Go.IntKind.i64 6))] (#[(0, Go.Value.int Go.IntKind.i64 5), (1, Go.Value.int Go.IntKind.i64 1), (2, Go.Value.int Go.IntKind.i64 2), (3, Go.Value.int Go.IntKind.i64 3), (4, Go.Value.int Go.IntKind.i64 6)]) (#[.int .i64 5, .int .i64 1, .int .i64 2, .int .i64 3, .int .i64 6]) (fun v => by kernel_rfl) (fun v => by kernel_rfl) (fun w => bsl_5 w) SlVq.mono (fun w' hb => ⟨_, rfl, range_new (heap1_0 w' _)⟩),
                owes_move 12 (some 86) [8] (.int .i64 4) (Go.Operand.tmp 0) (fun v => by kernel_rfl) (fun v => by kernel_rfl),
                owes_index_o 13 (some 87) [8, 11, 12] (PtQ 4 (opN 4)) 40 (Go.Operand.tmp 85) (Go.Operand.tmp 86) (.int .i64 4) 11 (fun v => by kernel_rfl) (fun v => by kernel_rfl) PtQ.mono (fun v w' hb ho => by
                    obtain ⟨g11, e11, r11⟩ := ho.get 11 _ _ SlVq rfl rfl
                    exact ptQ_of (p := 4) (by decide) e11 r11 w'),
                owes_load_o 14 (some 88) [8, 13] (.int .i64 (opN 4)) 3 (Go.Operand.tmp 87) 13 (fun v => by kernel_rfl) (fun v => by kernel_rfl) (fun v w' hb ho => by
                    obtain ⟨g13, e13, r13⟩ := ho.get 13 _ _ (PtQ 4 (opN 4)) rfl rfl
                    rw [e13]
                    exact load_i64 g13 4 w' _ r13),
                owes_bin 15 (some 89) [8, 10, 14] (.bool false) Go.BinOp.neq 3 (Go.Operand.tmp 84) (Go.Operand.tmp 88) 3 (.int .i64 6) (.int .i64 (opN 4)) (fun v => by kernel_rfl) (fun v => by kernel_rfl) (fun w => by kernel_rfl),
                owes_pick 16 (some 90) [8, 15] (.bool false) (Go.Operand.tmp 82) (Go.Operand.const (Go.Value.bool true)) (Go.Operand.tmp 89) false (fun v => by kernel_rfl) (fun v => by kernel_rfl) (fun v => by kernel_rfl), trivial⟩ ?_
              intro v Wr hbr hall
              clear hall
              simp only [putsL_k, putsL_o, putsL_nil, List.set_cons_zero, List.set_cons_succ]
              replace hbr := (Below.drewNr (w := W4) 1).trans hbr
              replace h_U := heap_below h_U hbr
              replace h_X := heap_below h_X hbr
              replace h_R := heap_below h_R hbr
              replace hrb := hrb.below hbr
              replace hlo2 := hlo2.below hbr
              replace hb := hb.trans (hbr.mono hs)
              replace hs := Nat.le_trans hs hbr.size
              clear hbr 
              have r3 : Wr.cell? ⟨R, 33, none⟩ = some (.int .u32 (0)) := cell_heap h_R (rq_c33 _ _ _ _ _)
              have r4 : Wr.cell? ⟨R, 34, none⟩ = some (.int .u32 (0)) := cell_heap h_R (rq_c34 _ _ _ _ _)
              have r5 : Wr.cell? ⟨R, 35, none⟩ = some (.slice none 0 0) := cell_heap h_R (rq_c35 _ _ _ _ _)
              go_wp2_with fail
              go_ret
              exact ⟨rfl, hb⟩
            · obtain rfl : p = 5 := by omega
              replace h_U : W3.heap[U]? = some (.cells (uv 5 (a : Int) 0 0) 30 (0, 0)) := h_U
              have hak := ask_off W3 U 5 _ _ _ h_U f Ab S cb rfl (.inr (by decide))
              go_upto_region 13 with (first | (refine wpList_load_row rfl 32 _ rfl X rfl _ _ _ _ h_X Try.underlying32 rfl (info_Hs f) ?_) | (go_at_call 8; refine hak.mono ?_; rintro e Wq ⟨rfl, hbq⟩; clear hak; replace h_U := heap_below h_U hbq; replace h_X := heap_below h_X hbq; replace hrb := hrb.below hbq; replace hlo2 := hlo2.below hbq; replace hb := hb.trans (hbq.mono hs); replace hs := Nat.le_trans hs hbq.size; clear hbq) | (refine wpList_store_row rfl 37 _ _ rfl Wq.heap.size (rqA 0 zf 0 0 (.slice none 0 0)) rfl rfl _ _ (heap1_0 _ _) (rq_info _ _ _ _ _) (by kernel_rfl) (rq_one _ _ _ _ _ _ _) ?_; rw [alloc_setRow]))
              have l_U_R : U < Wq.heap.size := lt_heap h_U
              have l_X_R : X < Wq.heap.size := lt_heap h_X
              have o_R : n0 ≤ Wq.heap.size := hs
              refine wp_world (fun W => Below n0 w W ∧ n0 ≤ W.heap.size ∧ W.heap[U]? = some (.cells (uv 5 (a : Int) 0 0) 30 (0, 0)) ∧ W.heap[X]? = some (.cells (arr8 32 f) 32 (0, 0)) ∧ W.heap[Wq.heap.size]? = some (.cells (rqA 0 zf 0 0 (.slice none 0 0)) 37 (0, 0)) ∧ SlRead W Ab (ints .u8 xs) ∧ LtA Ab W) ⟨hb.trans ((below_alc Wq _).mono hs), Nat.le_trans hs (below_alc Wq _).size, heap_below h_U (below_alc Wq _), heap_below h_X (below_alc Wq _), heap1_0 _ _, hrb.below (below_alc Wq _), hlo2.below (below_alc Wq _)⟩ ?_
              clear hb hs h_U h_X hrb hlo2
              rintro W4 ⟨hb, hs, h_U, h_X, h_R, hrb, hlo2⟩
              generalize Wq.heap.size = R at *
              have r0 : W4.cell? ⟨R, 0, none⟩ = some (.int .i64 0) := cell_heap h_R (rq_c0 _ _ _ _ _)
              have u0 : W4.cell? ⟨U, 0, none⟩ = some (.int .i64 (5)) := cell_heap h_U rfl
              go_wp2_with fail
              go_ret
              exact ⟨rfl, hb⟩
  · have ht0 : (t : Int) ≠ 0 := by omega
    have ht1 : (0 : Int) < (t : Int) := by omega
    have hak := ask_wait W3 h_U f Ab S cb ht0
    go_upto_region 13 with (first | (refine wpList_load_row rfl 32 _ rfl X rfl _ _ _ _ h_X Try.underlying32 rfl (info_Hs f) ?_) | (go_at_call 8; refine hak.mono ?_; rintro e Wq ⟨rfl, hbq⟩; clear hak; replace h_U := heap_below h_U hbq; replace h_X := heap_below h_X hbq; replace hrb := hrb.below hbq; replace hlo2 := hlo2.below hbq; replace hb := hb.trans (hbq.mono hs); replace hs := Nat.le_trans hs hbq.size; clear hbq) | (refine wpList_store_row rfl 37 _ _ rfl Wq.heap.size (rqA 0 zf 0 0 (.slice none 0 0)) rfl rfl _ _ (heap1_0 _ _) (rq_info _ _ _ _ _) (by kernel_rfl) (rq_one _ _ _ _ _ _ _) ?_; rw [alloc_setRow]))
    have l_U_R : U < Wq.heap.size := lt_heap h_U
    have l_X_R : X < Wq.heap.size := lt_heap h_X
    have o_R : n0 ≤ Wq.heap.size := hs
    refine wp_world (fun W => Below n0 w W ∧ n0 ≤ W.heap.size ∧ W.heap[U]? = some (.cells (uv (p : Int) (a : Int) 0 (t : Int)) 30 (0, 0)) ∧ W.heap[X]? = some (.cells (arr8 32 f) 32 (0, 0)) ∧ W.heap[Wq.heap.size]? = some (.cells (rqA 0 zf 0 0 (.slice none 0 0)) 37 (0, 0)) ∧ SlRead W Ab (ints .u8 xs) ∧ LtA Ab W) ⟨hb.trans ((below_alc Wq _).mono hs), Nat.le_trans hs (below_alc Wq _).size, heap_below h_U (below_alc Wq _), heap_below h_X (below_alc Wq _), heap1_0 _ _, hrb.below (below_alc Wq _), hlo2.below (below_alc Wq _)⟩ ?_
    clear hb hs h_U h_X hrb hlo2
    rintro W4 ⟨hb, hs, h_U, h_X, h_R, hrb, hlo2⟩
    generalize Wq.heap.size = R at *
    by_cases hp5 : p = 5
    · have d5 : ((p : Int) == 5) = true := by simp; omega
      have r0 : W4.cell? ⟨R, 0, none⟩ = some (.int .i64 0) := cell_heap h_R (rq_c0 _ _ _ _ _)
      have u0 : W4.cell? ⟨U, 0, none⟩ = some (.int .i64 ((p : Int))) := cell_heap h_U rfl
      go_wp2_with fail
      go_ret
      exact ⟨rfl, hb⟩
    · have d5 : ((p : Int) == 5) = false := by simp; omega
      have r0 : W4.cell? ⟨R, 0, none⟩ = some (.int .i64 0) := cell_heap h_R (rq_c0 _ _ _ _ _)
      have u0 : W4.cell? ⟨U, 0, none⟩ = some (.int .i64 ((p : Int))) := cell_heap h_U rfl
      go_wp2_with fail
      go_ret
      exact ⟨rfl, hb⟩
end Go.Proofs.Ytffkjbbhbpaacaa
