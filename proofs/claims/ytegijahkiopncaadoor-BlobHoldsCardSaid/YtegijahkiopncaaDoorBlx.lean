import Derived.Test.YtegijahkiopncaaDoorBlu
import Derived.Test.YtegijahkiopncaaDoorNum
/-
  courierlaw20: BlobHolds.
-/
namespace Go.Proofs.YtegijahkiopncaaDoor
open Go.RowKit
theorem is_kid {e : Be} {k : Nat → BitVec 8} (h : e.f = k) : Be.is k e = true := by
  unfold Be.is
  rw [h]
  simp
theorem over_nil (l : List Int) : over [] 0 l = l := by simp [over]
theorem stF_one {S : Nat} {V : Value} {e : Be} {x : Nat} (h : stF S V [e] x) : x = S ∨ V.ownBlock = some x ∨ x = e.g ∨ e.D.ownBlock = some x := by
  rcases h with h | h | ⟨j, y, hy, h⟩
  · exact .inl h
  · exact .inr (.inl h)
  · rcases j with _ | j
    · obtain rfl := Option.some.inj hy
      exact .inr (.inr h)
    · simp at hy
theorem SlRead.turned {W W' : World} {bb o : Nat} {xs : List Value} {G : Nat → Prop} (h : SlRead W (some ⟨bb, o, none⟩) xs) (ht : Turn G W W') (hn : ¬ G bb) : SlRead W' (some ⟨bb, o, none⟩) xs := fun hp => by
  obtain ⟨b', o', e1, hlt, hc⟩ := h hp
  simp only [Option.some.injEq, Addr.mk.injEq, and_true] at e1
  obtain ⟨rfl, rfl⟩ := e1
  exact ⟨bb, o, rfl, Nat.lt_of_lt_of_le hlt ht.size, fun j u hu => (ht.cell hlt hn).trans (hc j u hu)⟩
theorem SlRead.set {W : World} {bb k : Nat} {xs : List Int} {z : Int} (h : SlRead W (some ⟨bb, 0, none⟩) (ints .u8 xs)) (hk : k < xs.length) : SlRead (W.setCell ⟨bb, k, none⟩ (.int .u8 z)) (some ⟨bb, 0, none⟩) (ints .u8 (xs.set k z)) := fun hp => by
  obtain ⟨b', o', e1, hlt, hc⟩ := h (by simp [ints]; omega)
  simp only [Option.some.injEq, Addr.mk.injEq, and_true] at e1
  obtain ⟨rfl, rfl⟩ := e1
  refine ⟨bb, 0, rfl, by have := (set_turnH W bb k (.int .u8 z)).size; omega, fun j u hu => ?_⟩
  rw [Nat.zero_add]
  have hck := hc k (.int .u8 xs[k]) (by simp [ints, hk])
  rw [Nat.zero_add] at hck
  have e2 : ints .u8 (xs.set k z) = (ints .u8 xs).set k (.int .u8 z) := by simp [ints, List.map_set]
  rw [e2, List.getElem?_set] at hu
  by_cases hj : k = j
  · subst hj
    rw [if_pos rfl, if_pos (by simpa [ints] using hk)] at hu
    obtain rfl := Option.some.inj hu
    exact World.cell?_setCell_same W _ _ hck
  · rw [if_neg hj] at hu
    have := hc j u hu
    rw [Nat.zero_add] at this
    exact (W.cell?_setCell_other ⟨bb, k, none⟩ ⟨bb, j, none⟩ _ (fun y => hj (congrArg Addr.off y))).trans this
theorem slice_hi {P : Program} {t e : TypeId} (hu : P.underlying t = some (.slice e)) (hs : (P.info? e).map (·.size) = some 1) (A : Option Addr) (n cap m : Nat) (hm : m ≤ cap) (w : World) :
    (Instr.slice t (.slice A n cap) none (some (.int .i64 (m : Int))) none).run P w = .ok (.slice A m cap) w := by
  have e2 : P.elem t = e := by simp [Program.elem, hu]
  rw [run_slice_h (P := P) w t A n cap (by rw [e2]; exact hu) .i64 (m : Int) (by omega) (by omega), e2]
  obtain ⟨i, hi, hz⟩ := Option.map_eq_some_iff.1 hs
  simp [sizeOf, typeInfo, hi, hz, Result.andThen, sliced]
  intro _
  cases A with
  | none => rfl
  | some ad => simp [Addr.add]
/-- what stands once a part of it all was put anew -/
theorem over_take (l : List Int) (hv f m : Nat) (h1 : f ≤ hv) (h2 : hv ≤ l.length) (h3 : f + m ≤ l.length) : over (l.take hv) f ((l.drop f).take m) = l.take (max hv (f + m)) := by
  unfold over
  have e1 : (l.take hv).take f = l.take f := by rw [List.take_take, Nat.min_eq_left h1]
  have e2 : ((l.drop f).take m).length = m := by rw [List.length_take, List.length_drop]; omega
  have e3 : l.take f ++ (l.drop f).take m = l.take (f + m) := (List.take_add ..).symm
  rw [e1, e2, e3, List.drop_take]
  rcases Nat.le_total hv (f + m) with h | h
  · rw [Nat.max_eq_right h, show hv - (f + m) = 0 by omega, List.take_zero, List.append_nil]
  · rw [Nat.max_eq_left h]
    have := (List.take_add (l := l) (i := f + m) (j := hv - (f + m))).symm
    rw [this, show f + m + (hv - (f + m)) = hv by omega]
theorem idx_c (bc oc L cc i : Nat) (h : i < L) (w : World) : (Instr.indexAt 22 (.slice (some ⟨bc, oc, none⟩) L cc) (.int .i64 (i : Int))).run Tryd.prog w = .ok (.pointer (some ⟨bc, oc + i, none⟩)) w := by
  have hu := Tryd.underlying22
  have e2 : Tryd.prog.elem 22 = 3 := by simp [Program.elem, hu]
  rw [run_indexAt_slice (h := by rw [e2]; exact hu), if_pos (by omega)]
  obtain ⟨j, hj, hz⟩ := Option.map_eq_some_iff.1 (show (Tryd.prog.info? 3).map (·.size) = some 1 by kernel_rfl)
  simp [e2, sizeOf, typeInfo, hj, hz, Result.andThen, add_eq]
theorem load_c {W : World} {b o : Nat} {x : Int} (h : W.cell? ⟨b, o, none⟩ = some (.int .i64 x)) : (Instr.loadAt 3 (.pointer (some ⟨b, o, none⟩))).run Tryd.prog W = .ok (.int .i64 x) W := by
  have h2 := Tryd.underlying3
  go_simp
theorem quo_3 (t : TypeId) (x y : Operand) (a : Int) (w : World) : (do eqGuard .quo t x y (.int .i64 a) (.int .i64 3); binOp .quo t (.int .i64 a) (.int .i64 3) : Sem Value).run Tryd.prog w = .ok (.int .i64 (IntKind.i64.wrap (Int.tdiv a 3))) w := by
  simp [eqGuard, binOp, Op.intDiv]
theorem neq_i (t : TypeId) (x y : Operand) (a : Int) (w : World) : (do eqGuard .neq t x y (.int .i64 a) (.int .i64 a); binOp .neq t (.int .i64 a) (.int .i64 a) : Sem Value).run Tryd.prog w = .ok (.bool false) w := by
  simp [eqGuard, binOp, Op.intCmp]
theorem exec_max {a : Act} {o : Oper} {x y : Operand} {t ty : TypeId} {va vb v : Value} {w : World} (ho : o.op = .call { callee := .builtin .max, args := #[x, y], argTypes := #[t, t] }) (hty : o.type = ty) (hx : (a.eval x, a.eval y) = (va, vb))
    (he : (Builtin.max_ #[t, t] ty #[va, vb]).run Tryd.prog w = .ok v w) : (execOp a.eval o).run Tryd.prog w = .ok (.value v) w := by
  simp only [Prod.mk.injEq] at hx
  simp only [execOp, ho, resolve, invoke, builtin, Sem.run_bind, Sem.run_pure, Result.andThen_ok, List.map_toArray, List.map_cons, List.map_nil, hx.1, hx.2, hty, he]
theorem sub_i (t : TypeId) (x y : Operand) (a b : Int) (h1 : -9223372036854775808 ≤ a - b) (h2 : a - b ≤ 9223372036854775807) (w : World) : (do eqGuard .sub t x y (.int .i64 a) (.int .i64 b); binOp .sub t (.int .i64 a) (.int .i64 b) : Sem Value).run Tryd.prog w = .ok (.int .i64 (a - b)) w := by
  have hw : IntKind.i64.wrap (a - b) = a - b := IntWalk.i64_in _ (by omega)
  simp [eqGuard, binOp, Op.intArith, hw]
theorem SlRead.turnedA {W W' : World} {A : Option Addr} {xs : List Value} {G : Nat → Prop} (h : SlRead W A xs) (ht : Turn G W W') (hn : ∀ b o, A = some ⟨b, o, none⟩ → ¬ G b) : SlRead W' A xs := fun hp => by
  obtain ⟨b', o', e1, hlt, hc⟩ := h hp
  exact ⟨b', o', e1, Nat.lt_of_lt_of_le hlt ht.size, fun j u hu => (ht.cell hlt (hn b' o' e1)).trans (hc j u hu)⟩
theorem exec_min {a : Act} {o : Oper} {x y : Operand} {t ty : TypeId} {va vb v : Value} {w : World} (ho : o.op = .call { callee := .builtin .min, args := #[x, y], argTypes := #[t, t] }) (hty : o.type = ty) (hx : (a.eval x, a.eval y) = (va, vb))
    (he : (Builtin.min_ #[t, t] ty #[va, vb]).run Tryd.prog w = .ok v w) : (execOp a.eval o).run Tryd.prog w = .ok (.value v) w := by
  simp only [Prod.mk.injEq] at hx
  simp only [execOp, ho, resolve, invoke, builtin, Sem.run_bind, Sem.run_pure, Result.andThen_ok, List.map_toArray, List.map_cons, List.map_nil, hx.1, hx.2, hty, he]
set_option maxRecDepth 100000 in
set_option maxHeartbeats 8000000 in
theorem holds_walk (E : Nat → Addr) (a : Int) (Ac : Option Addr) (xs : List Int) (cc : Nat) (off nn : Int) (w : World) (hE : ErrsAt E w) (hK : KAt w) (hrd : SlRead w Ac (ints .i64 xs)) : Calls Tryd.prog 3 #[.int .i64 a, .slice Ac xs.length cc, .int .i64 off, .int .i64 nn] w fun e w' => e = .returned (.bool true) ∧ Below w.heap.size w w' := by
  have hfi := first_b E w hE
  obtain ⟨aa, haa, ha6⟩ := exists_mod a 6 (by omega)
  have hnu := fun W => number_nat a 6 aa W (by omega) haa
  obtain ⟨n, hn⟩ : ∃ n, n = 20 + 40 * aa := ⟨_, rfl⟩
  obtain ⟨ys, hys⟩ : ∃ x, x = ysOf aa := ⟨_, rfl⟩
  obtain ⟨kid, hkid⟩ : ∃ x, x = shaOf ys := ⟨_, rfl⟩
  have hct := Lib.hid (fun W => content_any aa (by omega) W)
  rw [← hys, ← hkid, ← hn] at hct
  have HN : Hid (20 ≤ n ∧ n ≤ 300 ∧ ys.length = n ∧ kid = shaOf ys) := ⟨by omega, by omega, by rw [hys, ysOf_len, hn], hkid⟩
  obtain ⟨za, hza⟩ : ∃ z, z = a := ⟨_, rfl⟩
  rw [← hza] at hnu ⊢
  have HE := Lib.hid (And.intro hE hK)
  clear hE hK hn hys hkid haa ha6 hza
  have HRC := Lib.hid hrd
  obtain ⟨L, hL⟩ : ∃ L, L = xs.length := ⟨_, rfl⟩
  rw [← hL]
  have HL := Lib.hid hL
  clear hL hrd
  by_cases hL30 : L ≤ 30
  case neg =>
    have h1 : (30 : Int) < (L : Int) := by omega
    go_enter Tryd.func3, Tryd.ntmps3
    go_wp2_with (go_at_call 8; refine hfi.mono ?_; rintro e w1 ⟨rfl, hb1⟩; have HB1 := Lib.hid hb1; clear hb1 hfi)
    go_ret
    exact ⟨rfl, HB1.out⟩
  have h1 : ¬ (30 : Int) < (L : Int) := by omega
  go_enter Tryd.func3, Tryd.ntmps3
  go_upto_region 6 with (go_at_call 8; refine hfi.mono ?_; rintro e w1 ⟨rfl, hb1⟩; have HB1 := Lib.hid hb1; clear hb1 hfi)
  refine wp_region_lit ?_
  try simp only [put_list, List.set_cons_zero, List.set_cons_succ]
  refine wpList_run (by kernel_rfl) (.int .i64 za) (w1) (exec_move rfl (by kernel_rfl)) ?_
  refine wpList_call (by kernel_rfl) 10 #[Go.Operand.tmp 40, Go.Operand.const (Go.Value.int Go.IntKind.i64 6)] #[3, 3] #[.int .i64 za, Go.Value.int Go.IntKind.i64 6] _ rfl (by kernel_rfl) (by kernel_rfl) (hnu w1) ?_
  rintro r Y ⟨rfl, q1, rfl⟩
  refine ⟨_, rfl, ?_⟩
  refine wpList_call (by kernel_rfl) 9 #[Go.Operand.tmp 41] #[3] #[.int .i64 (aa : Int)] _ rfl (by kernel_rfl) (by kernel_rfl) (hct.out (w1.drewN q1)) ?_
  rintro r w2 ⟨A, c, rfl, hown, hb2⟩
  refine ⟨_, rfl, ?_⟩
  try simp only [put_list, List.set_cons_zero, List.set_cons_succ]
  refine wpList_run (by kernel_rfl) (.tuple #[.slice A n c, .agg (arr8 32 kid)]) (w2) (exec_move rfl (by kernel_rfl)) ?_
  try simp only [put_list, List.set_cons_zero, List.set_cons_succ]
  refine wpList_run (by kernel_rfl) (.slice A n c) (w2) (exec_extract (vx := .tuple #[.slice A n c, .agg (arr8 32 kid)]) rfl (by kernel_rfl) (by kernel_rfl)) ?_
  try simp only [put_list, List.set_cons_zero, List.set_cons_succ]
  refine wpList_run (by kernel_rfl) (.agg (arr8 32 kid)) (w2) (exec_extract (vx := .tuple #[.slice A n c, .agg (arr8 32 kid)]) rfl (by kernel_rfl) (by kernel_rfl)) ?_
  try simp only [put_list, List.set_cons_zero, List.set_cons_succ]
  refine wpList_allocV (by kernel_rfl) 26 (by kernel_rfl) (arr8 32 k0) (fun _ => by kernel_rfl) ?_
  try simp only [put_list, List.set_cons_zero, List.set_cons_succ]
  refine wpList_run (by kernel_rfl) (.slice A n c) ((w2.alloc (.cells (arr8 32 k0) 26))) (exec_assign rfl (by kernel_rfl)) ?_
  try simp only [put_list, List.set_cons_zero, List.set_cons_succ]
  refine wpList_store_row (by kernel_rfl) 26 (Go.Operand.tmp 11) (Go.Operand.tmp 44) (by kernel_rfl) w2.heap.size (arr8 32 kid) (by kernel_rfl) (by kernel_rfl) _ _ (heap_alloc_new _ _) (by rw [arr8_size]; kernel_rfl) (by rw [arr8_size, arr8_size]) arr8_all ?_
  rw [alloc_setRow]
  refine wpList_nil ?_
  simp only [put_none]
  go_upto_region 7 with (fail)
  obtain ⟨X, hXe⟩ : ∃ X, X = w2.heap.size := ⟨_, rfl⟩
  rw [← hXe]
  have hbw1 := HB1.out
  have hbq : Below w.heap.size w w2 := (below_drewN hbw1 q1).trans (hb2.mono hbw1.size)
  refine wp_world (fun W => Hid (Below w.heap.size w W ∧ W.ownsRow 0 5 1 (.slice A n c) n (ints .u8 (bys ys)) ∧ W.heap[X]? = some (.cells (arr8 32 kid) 26 (0, 0)))) ⟨hbq.trans ((below_alc w2 _).mono hbq.size), ownsRow_lower (own_keep hown fun k hk => (below_alc w2 _).block k (hown.lt k hk).2) (Nat.zero_le _), by rw [hXe]; exact heap1_0 w2 _⟩ ?_
  clear hbw1 hbq hXe hown hb2 HB1
  intro W0 HW
  obtain ⟨hb0, hown0, hX0⟩ := HW.out
  have HX := Lib.hid hX0
  have HB0 := Lib.hid hb0
  have HA : Hid (SlRead W0 A (ints .u8 (bys ys)) ∧ n ≤ c ∧ (∀ b o, A = some ⟨b, o, none⟩ → b < W0.heap.size)) := by
    obtain ⟨A', c', e1, h1, _, h2⟩ := own_slice hown0
    simp only [Value.slice.injEq, true_and] at e1
    obtain ⟨rfl, rfl⟩ := e1
    exact ⟨own_read1 hown0, h1, fun b o e => (h2 _ e).2⟩
  have hE0 := HE.out.1.below hb0
  have HK := Lib.hid (HE.out.2.below hb0)
  have hnew := Lib.hid (s_new (q := 1000) (l := 3) hE0 (by decide))
  obtain ⟨S, hSe⟩ : ∃ S, S = W0.heap.size := ⟨_, rfl⟩
  rw [← hSe] at hnew
  clear hSe hE0 hb0 hown0 hX0 HW w1 w2
  go_upto_region 8 with (go_at_call 11; refine hnew.out.mono ?_; rintro r W1 ⟨rfl, hS⟩; clear hnew)
  refine wp_region_lit ?_
  try simp only [put_list, List.set_cons_zero, List.set_cons_succ]
  refine wpList_run (by kernel_rfl) (.pointer (some ⟨S, 0, none⟩)) (W1) (exec_move rfl (by kernel_rfl)) ?_
  try simp only [put_list, List.set_cons_zero, List.set_cons_succ]
  refine wpList_run (by kernel_rfl) (.bool false) (W1) (exec_bin (vx := .pointer (some ⟨S, 0, none⟩)) (vy := Go.Value.pointer none) rfl (by kernel_rfl) (by kernel_rfl)) ?_
  try simp only [put_list, List.set_cons_zero, List.set_cons_succ]
  refine wpList_run (by kernel_rfl) (.bool false) (W1) (exec_move rfl (by kernel_rfl)) ?_
  try simp only [put_list, List.set_cons_zero, List.set_cons_succ]
  refine wpList_runG (by kernel_rfl) (.pointer (some ⟨S, 0, none⟩)) (W1) (exec_move rfl (by kernel_rfl)) ?_
  try simp only [put_list, List.set_cons_zero, List.set_cons_succ]
  refine wpList_runG (by kernel_rfl) (.agg (arr8 32 kid)) (W1) (exec_load (vx := .pointer (some ⟨X, 0, none⟩)) rfl (by kernel_rfl) (load_idB W1 X kid (range_new (cs := (arr8 32 kid).toList) (by simpa using heap_below HX.out hS.be)))) ?_
  try simp only [put_list, List.set_cons_zero, List.set_cons_succ]
  refine wpList_runG (by kernel_rfl) (.slice A n c) (W1) (exec_move rfl (by kernel_rfl)) ?_
  try simp only [put_list, List.set_cons_zero, List.set_cons_succ]
  refine wpList_runG (by kernel_rfl) (.int .i64 (n : Int)) (W1) (exec_len (x := Go.Operand.tmp 51) (t := 24) (ty := 3) (vx := .slice A n c) (by kernel_rfl) (by kernel_rfl) (by kernel_rfl) (by kernel_rfl)) ?_
  refine wpList_call (by kernel_rfl) 12 #[Go.Operand.tmp 49, Go.Operand.tmp 50, Go.Operand.tmp 52] #[30, 26, 3] #[.pointer (some ⟨S, 0, none⟩), .agg (arr8 32 kid), .int .i64 (n : Int)] _ rfl (by kernel_rfl) (by kernel_rfl) (s_ok hS kid (n : Int) (by have := HN.out; omega) (by have := HN.out; omega) (by simp) few_nil rfl (by have := HN.out; rw [sum_nil]; omega)) ?_
  rintro r W2 ⟨rfl, V, g, _, hS2, _, _⟩
  clear hS
  have hS : Sto E W0 W2 S 1000 3 V [⟨g, kid, (n : Int), (.slice none 0 0), [], false, 0⟩] := hS2
  clear hS2
  refine ⟨_, rfl, ?_⟩
  try simp only [put_list, List.set_cons_zero, List.set_cons_succ]
  refine wpList_runG (by kernel_rfl) (.bool false) (W2) (exec_bin (vx := .nilIface) (vy := Go.Value.nilIface) rfl (by kernel_rfl) (by kernel_rfl)) ?_
  try simp only [put_list, List.set_cons_zero, List.set_cons_succ]
  refine wpList_run (by kernel_rfl) (.bool false) (W2) (exec_pick (b := false) rfl (by kernel_rfl) (by kernel_rfl)) ?_
  try simp only [put_list, List.set_cons_zero, List.set_cons_succ]
  refine wpList_run (by kernel_rfl) (.bool false) (W2) (exec_move rfl (by kernel_rfl)) ?_
  try simp only [put_list, List.set_cons_zero, List.set_cons_succ]
  refine wpList_runG (by kernel_rfl) (.pointer (some ⟨S, 0, none⟩)) (W2) (exec_move rfl (by kernel_rfl)) ?_
  try simp only [put_list, List.set_cons_zero, List.set_cons_succ]
  refine wpList_runG (by kernel_rfl) (.agg (arr8 32 kid)) (W2) (exec_load (vx := .pointer (some ⟨X, 0, none⟩)) rfl (by kernel_rfl) (load_idB W2 X kid (range_new (cs := (arr8 32 kid).toList) (by simpa using heap_below HX.out hS.be)))) ?_
  try simp only [put_list, List.set_cons_zero, List.set_cons_succ]
  refine wpList_runG (by kernel_rfl) (.slice A n c) (W2) (exec_move rfl (by kernel_rfl)) ?_
  try simp only [put_list, List.set_cons_zero, List.set_cons_succ]
  refine wpList_runG (by kernel_rfl) (.int .i64 (n : Int)) (W2) (exec_len (x := Go.Operand.tmp 59) (t := 24) (ty := 3) (vx := .slice A n c) (by kernel_rfl) (by kernel_rfl) (by kernel_rfl) (by kernel_rfl)) ?_
  refine wpList_call (by kernel_rfl) 12 #[Go.Operand.tmp 57, Go.Operand.tmp 58, Go.Operand.tmp 60] #[30, 26, 3] #[.pointer (some ⟨S, 0, none⟩), .agg (arr8 32 kid), .int .i64 (n : Int)] _ rfl (by kernel_rfl) (by kernel_rfl) (s_open hS kid (n : Int) (by have := HN.out; omega) (by have := HN.out; omega) (by simp) (find_one _ _ (is_kid rfl)) rfl) ?_
  rintro r W3 ⟨rfl, hS2, _⟩
  clear hS
  have hS : Sto E W0 W3 S 1000 3 V [⟨g, kid, (n : Int), (.slice none 0 0), [], false, 0⟩] := hS2
  clear hS2
  refine ⟨_, rfl, ?_⟩
  refine wpList_call (by kernel_rfl) 13 #[Go.Operand.tmp 61, Go.Operand.const (Go.Value.int Go.IntKind.i64 115)] #[33, 3] #[errV (E 14), Go.Value.int Go.IntKind.i64 115] _ rfl (by kernel_rfl) (by kernel_rfl) (is_yes E 14 (by decide) W3 hS.errs) ?_
  rintro r W4 ⟨rfl, hb⟩
  have hS2 := hS.below hb
  clear hS hb
  have hS := hS2
  clear hS2
  refine ⟨_, rfl, ?_⟩
  try simp only [put_list, List.set_cons_zero, List.set_cons_succ]
  refine wpList_runG (by kernel_rfl) (.bool false) (W4) (exec_un (vx := .bool true) rfl (by kernel_rfl) (by kernel_rfl)) ?_
  try simp only [put_list, List.set_cons_zero, List.set_cons_succ]
  refine wpList_run (by kernel_rfl) (.bool false) (W4) (exec_pick (b := false) rfl (by kernel_rfl) (by kernel_rfl)) ?_
  refine wpList_nil ?_
  simp only [put_list, List.set_cons_zero, List.set_cons_succ]
  have HS4 := Lib.hid hS
  clear hS h1
  go_upto_region 12 with (fail)
  go_loopg [13, 14] L (fun gg s13 s14 wr => ∃ i hv : Nat, i ≤ L ∧ L - i ≤ gg ∧ s14 = .int .i64 (i : Int) ∧ s13 = .int .i64 (hv : Int) ∧ hv ≤ n ∧ ∃ D, Hid (Sto E W0 wr S 1000 3 V [⟨g, kid, (n : Int), D, (bys ys).take hv, false, 0⟩]))
  case atStart => exact ⟨0, 0, by omega, by omega, rfl, rfl, by omega, _, by rw [List.take_zero]; exact HS4.out⟩
  clear HS4
  case round =>
    obtain ⟨i, hv, hiL, hgg, rfl, rfl, hvn, D, hI⟩ := hrel
    have hS := hI.out
    by_cases hlt : i < L
    · have hk1 : (i : Int) < (L : Int) := by omega
      have HI := Lib.hid (And.intro hS (And.intro hlt (And.intro hvn hgg)))
      clear hS hI hgg hiL hlt hvn
      go_upto_region 14 with (fail)
      obtain ⟨hS, hlt, hvn, hgg⟩ := HI.out
      obtain ⟨x, hx⟩ : ∃ x, xs[i]? = some x := ⟨xs[i]'(by rw [← HL.out]; exact hlt), List.getElem?_eq_getElem _⟩
      obtain ⟨bc, oc, rfl, hltc, hcc⟩ := HRC.out (by simp [ints]; have := HL.out; omega)
      have hbW : Below w.heap.size w wr := HB0.out.trans (hS.be.mono HB0.out.size)
      have hcx : wr.cell? ⟨bc, oc + i, none⟩ = some (.int .i64 x) := (hbW.cell (p := ⟨bc, oc + i, none⟩) hltc).trans (hcc i _ (by simp [ints, hx]))
      obtain ⟨f, hf, hfh⟩ := exists_mod x ((hv : Int) + 1) (by omega)
      have hn300 := HN.out.2.1
      refine wp_region_lit ?_
      try simp only [put_list, List.set_cons_zero, List.set_cons_succ]
      refine wpList_run (by kernel_rfl) (.slice (some ⟨bc, oc, none⟩) L cc) (wr) (exec_move rfl (by kernel_rfl)) ?_
      try simp only [put_list, List.set_cons_zero, List.set_cons_succ]
      refine wpList_run (by kernel_rfl) (.int .i64 (i : Int)) (wr) (exec_move rfl (by kernel_rfl)) ?_
      try simp only [put_list, List.set_cons_zero, List.set_cons_succ]
      refine wpList_run (by kernel_rfl) (.pointer (some ⟨bc, oc + i, none⟩)) (wr) (exec_index (vx := .slice (some ⟨bc, oc, none⟩) L cc) (vy := .int .i64 (i : Int)) rfl (by kernel_rfl) (idx_c bc oc L cc i hlt _)) ?_
      try simp only [put_list, List.set_cons_zero, List.set_cons_succ]
      refine wpList_run (by kernel_rfl) (.int .i64 x) (wr) (exec_load (vx := .pointer (some ⟨bc, oc + i, none⟩)) rfl (by kernel_rfl) (load_c hcx)) ?_
      try simp only [put_list, List.set_cons_zero, List.set_cons_succ]
      refine wpList_run (by kernel_rfl) (.int .i64 (hv : Int)) (wr) (exec_move rfl (by kernel_rfl)) ?_
      try simp only [put_list, List.set_cons_zero, List.set_cons_succ]
      refine wpList_run (by kernel_rfl) (.int .i64 ((hv : Int) + 1)) (wr) (exec_bin (vx := .int .i64 (hv : Int)) (vy := Go.Value.int Go.IntKind.i64 1) rfl (by kernel_rfl) (add_i _ _ _ _ _ (by omega) (by omega) _)) ?_
      refine wpList_call (by kernel_rfl) 10 #[Go.Operand.tmp 74, Go.Operand.tmp 76] #[3, 3] #[.int .i64 x, .int .i64 ((hv : Int) + 1)] _ rfl (by kernel_rfl) (by kernel_rfl) (number_nat x ((hv : Int) + 1) f wr (by omega) hf) ?_
      rintro r Y ⟨rfl, qa, rfl⟩
      refine ⟨_, rfl, ?_⟩
      try simp only [put_list, List.set_cons_zero, List.set_cons_succ]
      refine wpList_run (by kernel_rfl) (.int .i64 (f : Int)) ((wr.drewN qa)) (exec_assign rfl (by kernel_rfl)) ?_
      refine wpList_nil ?_
      simp only [put_list, List.set_cons_zero, List.set_cons_succ]
      go_upto_region 15 with (fail)
      obtain ⟨d, hd, hd60⟩ := exists_mod (IntKind.i64.wrap (Int.tdiv x 3)) 60 (by omega)
      obtain ⟨t2, ht2⟩ : ∃ t2, t2 = min (f + d) n := ⟨_, rfl⟩
      refine wp_region_lit ?_
      try simp only [put_list, List.set_cons_zero, List.set_cons_succ]
      refine wpList_run (by kernel_rfl) (.int .i64 (f : Int)) ((wr.drewN qa)) (exec_move rfl (by kernel_rfl)) ?_
      try simp only [put_list, List.set_cons_zero, List.set_cons_succ]
      refine wpList_run (by kernel_rfl) (.slice (some ⟨bc, oc, none⟩) L cc) ((wr.drewN qa)) (exec_move rfl (by kernel_rfl)) ?_
      try simp only [put_list, List.set_cons_zero, List.set_cons_succ]
      refine wpList_run (by kernel_rfl) (.int .i64 (i : Int)) ((wr.drewN qa)) (exec_move rfl (by kernel_rfl)) ?_
      try simp only [put_list, List.set_cons_zero, List.set_cons_succ]
      refine wpList_run (by kernel_rfl) (.pointer (some ⟨bc, oc + i, none⟩)) ((wr.drewN qa)) (exec_index (vx := .slice (some ⟨bc, oc, none⟩) L cc) (vy := .int .i64 (i : Int)) rfl (by kernel_rfl) (idx_c bc oc L cc i hlt _)) ?_
      try simp only [put_list, List.set_cons_zero, List.set_cons_succ]
      refine wpList_run (by kernel_rfl) (.int .i64 x) ((wr.drewN qa)) (exec_load (vx := .pointer (some ⟨bc, oc + i, none⟩)) rfl (by kernel_rfl) (load_c (W := (wr.drewN qa)) hcx)) ?_
      try simp only [put_list, List.set_cons_zero, List.set_cons_succ]
      refine wpList_run (by kernel_rfl) (.int .i64 (IntKind.i64.wrap (Int.tdiv x 3))) ((wr.drewN qa)) (exec_bin (vx := .int .i64 x) (vy := Go.Value.int Go.IntKind.i64 3) rfl (by kernel_rfl) (quo_3 _ _ _ x _)) ?_
      refine wpList_call (by kernel_rfl) 10 #[Go.Operand.tmp 83, Go.Operand.const (Go.Value.int Go.IntKind.i64 60)] #[3, 3] #[.int .i64 (IntKind.i64.wrap (Int.tdiv x 3)), Go.Value.int Go.IntKind.i64 60] _ rfl (by kernel_rfl) (by kernel_rfl) (number_nat (IntKind.i64.wrap (Int.tdiv x 3)) 60 d (wr.drewN qa) (by omega) hd) ?_
      rintro r Y ⟨rfl, qb, rfl⟩
      refine ⟨_, rfl, ?_⟩
      try simp only [put_list, List.set_cons_zero, List.set_cons_succ]
      refine wpList_run (by kernel_rfl) (.int .i64 ((f : Int) + (d : Int))) (((wr.drewN qa).drewN qb)) (exec_bin (vx := .int .i64 (f : Int)) (vy := .int .i64 (d : Int)) rfl (by kernel_rfl) (add_i _ _ _ _ _ (by omega) (by omega) _)) ?_
      try simp only [put_list, List.set_cons_zero, List.set_cons_succ]
      refine wpList_run (by kernel_rfl) (.slice A n c) (((wr.drewN qa).drewN qb)) (exec_move rfl (by kernel_rfl)) ?_
      try simp only [put_list, List.set_cons_zero, List.set_cons_succ]
      refine wpList_run (by kernel_rfl) (.int .i64 (n : Int)) (((wr.drewN qa).drewN qb)) (exec_len (x := Go.Operand.tmp 86) (t := 24) (ty := 3) (vx := .slice A n c) (by kernel_rfl) (by kernel_rfl) (by kernel_rfl) (by kernel_rfl)) ?_
      try simp only [put_list, List.set_cons_zero, List.set_cons_succ]
      refine wpList_run (by kernel_rfl) (.int .i64 (t2 : Int)) (((wr.drewN qa).drewN qb)) (exec_min (x := .tmp 85) (y := .tmp 87) (t := 3) (ty := 3) (va := .int .i64 ((f : Int) + (d : Int))) (vb := .int .i64 (n : Int)) (by kernel_rfl) (by kernel_rfl) (by kernel_rfl) (by rw [run_min_int2]; congr 2; split <;> omega)) ?_
      try simp only [put_list, List.set_cons_zero, List.set_cons_succ]
      refine wpList_run (by kernel_rfl) (.int .i64 (t2 : Int)) (((wr.drewN qa).drewN qb)) (exec_assign rfl (by kernel_rfl)) ?_
      refine wpList_nil ?_
      simp only [put_list, List.set_cons_zero, List.set_cons_succ]
      go_upto_region 16 with (fail)
      obtain ⟨m, hm⟩ : ∃ m, t2 = f + m := ⟨t2 - f, by omega⟩
      have hti : (t2 : Int) = (f : Int) + (m : Int) := by omega
      have hfm : f + m ≤ n := by omega
      have hfv : f ≤ hv := by omega
      rw [hti]
      have hSq := (hS.drewN qa).drewN qb
      generalize ((wr.drewN qa).drewN qb) = Wm at *
      clear hS hti
      have hS := hSq
      obtain ⟨hv2, hv2e⟩ : ∃ x, x = max hv (f + m) := ⟨_, rfl⟩
      have hput : Calls Tryd.prog 14 #[.pointer (some ⟨S, 0, none⟩), .agg (arr8 32 kid), .int .i64 (f : Int), .slice (cutA A f c) m (c - f)] Wm.drew fun r W' => r = .returned (.tuple #[.int .i64 (hv2 : Int), .nilIface]) ∧ ∃ D', Sto E W0 W' S 1000 3 V [⟨g, kid, (n : Int), D', (bys ys).take hv2, false, 0⟩] := by
        have hbl : (bys ys).length = n := by rw [bys_length]; exact HN.out.2.2.1
        obtain ⟨gA, oA, hA, hltA, _⟩ := HA.out.1 (by simp [ints, hbl]; have := HN.out; omega)
        have hov := over_take (bys ys) hv f m hfv (by omega) (by omega)
        have hle : (((bys ys).drop f).take m).length = m := by rw [List.length_take, List.length_drop]; omega
        refine (s_put (e := ⟨g, kid, (n : Int), D, (bys ys).take hv, false, 0⟩) hS.drew kid (cutA A f c) (((bys ys).drop f).take m) m (c - f) f hle (by have := HA.out.2.1; omega) ?_ ?_ (by simp) (find_one _ _ (is_kid rfl)) rfl rfl (by show f ≤ ((bys ys).take hv).length; rw [List.length_take]; omega) (by show (f : Int) + m ≤ n; omega) (by have := HN.out; show 0 ≤ (n : Int) ∧ (n : Int) ≤ 30000; omega) (by show (((bys ys).take hv).length : Int) ≤ n; rw [List.length_take]; omega)).mono ?_
        · intro hp
          have hm0 : 0 < m := by
            have h9 : 0 < (((bys ys).drop f).take m).length := by simpa only [ints, List.length_map] using hp
            omega
          have h6 := (((HA.out.1.below hS.drew.be).cut f (cutA A f c) fun _ b o e1 => by rw [e1]; exact cutA_some (n := n) (by omega) HA.out.2.1)).take m
          rw [ints_take] at h6
          exact h6 hp
        · intro b o e1 hx
          have h2 := hS.drew.lo b hx
          have h3 : b = gA := by
            rw [hA] at e1
            unfold cutA at e1
            split at e1
            · simp only [Option.some.injEq, Addr.mk.injEq] at e1
              exact e1.1.symm
            · simp only [Option.map_some, Option.some.injEq] at e1
              have := congrArg Addr.block e1
              rw [block_of_add] at this
              exact this.symm
          omega
        · rintro r W' ⟨rfl, D', h1, _⟩
          refine ⟨?_, D', ?_⟩
          · show Ending.returned (Value.tuple #[.int .i64 ((over ((bys ys).take hv) f (((bys ys).drop f).take m)).length : Int), .nilIface]) = _
            rw [hov, List.length_take, hbl, show min (max hv (f + m)) n = hv2 by omega]
          · rw [hv2e, ← hov]
            exact h1
      refine wp_region_noPanic ?_
      refine wp_region_held_drew (S := fun W => W.heap[X]? = some (.cells (arr8 32 kid) 26 (0, 0))) (by kernel_rfl) ((heap_below HX.out hS.drew.be)) (fun hHeld => ?_)
      refine held_move 0 (Go.Operand.tmp 12) (some 90) (.pointer (some ⟨S, 0, none⟩)) (by kernel_rfl) (by kernel_rfl) (by kernel_rfl) (by kernel_rfl) (by kernel_rfl) (fun _ _ _ _ _ h => h) hHeld ?_
      refine held_cell 1 26 (Go.Operand.tmp 11) (some 91) (.pointer (some ⟨X, 0, none⟩)) (.agg (arr8 32 kid)) (by kernel_rfl) (by kernel_rfl) (fun W hw => load_idB W X kid (range_new (cs := (arr8 32 kid).toList) (by simpa using hw))) (by kernel_rfl) (by kernel_rfl) (by kernel_rfl) (fun _ _ _ _ _ h => h) hHeld ?_
      refine held_move 2 (Go.Operand.tmp 15) (some 92) (.int .i64 (f : Int)) (by kernel_rfl) (by kernel_rfl) (by kernel_rfl) (by kernel_rfl) (by kernel_rfl) (fun _ _ _ _ _ h => h) hHeld ?_
      refine held_move 3 (Go.Operand.tmp 10) (some 93) (.slice A n c) (by kernel_rfl) (by kernel_rfl) (by kernel_rfl) (by kernel_rfl) (by kernel_rfl) (fun _ _ _ _ _ h => h) hHeld ?_
      refine held_move 4 (Go.Operand.tmp 15) (some 94) (.int .i64 (f : Int)) (by kernel_rfl) (by kernel_rfl) (by kernel_rfl) (by kernel_rfl) (by kernel_rfl) (fun _ _ _ _ _ h => h) hHeld ?_
      refine held_move 5 (Go.Operand.tmp 16) (some 95) (.int .i64 ((f : Int) + (m : Int))) (by kernel_rfl) (by kernel_rfl) (by kernel_rfl) (by kernel_rfl) (by kernel_rfl) (fun _ _ _ _ _ h => h) hHeld ?_
      refine held_slice 6 24 (Go.Operand.tmp 93) (some (Go.Operand.tmp 94)) (some (Go.Operand.tmp 95)) none (some 96) (.slice A n c) (some (.int .i64 (f : Int))) (some (.int .i64 ((f : Int) + (m : Int)))) none (.slice (cutA A f c) m (c - f)) (by kernel_rfl) (by kernel_rfl) (fun w => slice_cut Tryd.underlying24 (by kernel_rfl) A n c f m (by have := HA.out.2.1; omega) w) (by kernel_rfl) (by kernel_rfl) (by kernel_rfl) (fun _ _ _ _ _ h => h) hHeld ?_
      refine held_call 7 14 #[Go.Operand.tmp 90, Go.Operand.tmp 91, Go.Operand.tmp 92, Go.Operand.tmp 96] #[30, 26, 3, 24] (some 97) #[.pointer (some ⟨S, 0, none⟩), .agg (arr8 32 kid), .int .i64 (f : Int), .slice (cutA A f c) m (c - f)] _ (by kernel_rfl) (by kernel_rfl) (by kernel_rfl) (by kernel_rfl) (hput) ?_
      rintro r Wp ⟨rfl, hq⟩
      obtain ⟨D2, hS2⟩ := hq
      refine ⟨_, rfl, heap_below HX.out hS2.be, fun hHeld => ?_⟩
      refine held_move 8 (Go.Operand.tmp 97) (some 89) (.tuple #[.int .i64 (hv2 : Int), .nilIface]) (by kernel_rfl) (by kernel_rfl) (by kernel_rfl) (by kernel_rfl) (by kernel_rfl) (fun _ _ _ _ _ h => h) hHeld ?_
      refine held_any 9 (Go.Op.extract (Go.Operand.tmp 89) 0) (some 98) (.int .i64 (hv2 : Int)) (by kernel_rfl) (by kernel_rfl) (by kernel_rfl) (by kernel_rfl) (fun _ _ _ _ _ h => h) hHeld (fun o ho w hw => exec_ext0 (v := .int .i64 (hv2 : Int)) (u := .nilIface) ho (by kernel_rfl)) ?_
      refine held_any 10 (Go.Op.extract (Go.Operand.tmp 89) 1) (some 99) (.nilIface) (by kernel_rfl) (by kernel_rfl) (by kernel_rfl) (by kernel_rfl) (fun _ _ _ _ _ h => h) hHeld (fun o ho w hw => exec_ext1 (v := .int .i64 (hv2 : Int)) (u := .nilIface) ho (by kernel_rfl)) ?_
      refine held_assign 11 (Go.Operand.tmp 98) (some 17) (.int .i64 (hv2 : Int)) (by kernel_rfl) (by kernel_rfl) (by kernel_rfl) (by kernel_rfl) (by kernel_rfl) (fun _ _ _ _ _ h => h) hHeld ?_
      refine held_assign 12 (Go.Operand.tmp 99) (some 18) (.nilIface) (by kernel_rfl) (by kernel_rfl) (by kernel_rfl) (by kernel_rfl) (by kernel_rfl) (fun _ _ _ _ _ h => h) hHeld ?_
      refine wpAnyH_done (by kernel_rfl) ?_ _
      refine NoPanic.normal ?_
      try simp only [Act.put, List.setIfInBounds_toArray, List.set_cons_zero, List.set_cons_succ]
      have hS := hS2
      clear hSq hput hf hfh hd hd60 ht2 hcx hcc hbW hltc hx hHeld
      have HH := Lib.hid (And.intro hS (And.intro hlt (And.intro hv2e (And.intro hfm (And.intro hvn hgg)))))
      clear hS hS2 hlt hgg hvn hfm hfv hm hn300 hv2e HI
      go_upto_region 17 with (fail)
      have hmx : (hv2 : Int) = max (hv : Int) ((f : Int) + (m : Int)) := by have := HH.out.2.2.1; omega
      refine wp_region_lit ?_
      try simp only [put_list, List.set_cons_zero, List.set_cons_succ]
      refine wpList_run (by kernel_rfl) (.int .i64 (hv : Int)) (Wp) (exec_move rfl (by kernel_rfl)) ?_
      try simp only [put_list, List.set_cons_zero, List.set_cons_succ]
      refine wpList_run (by kernel_rfl) (.int .i64 ((f : Int) + (m : Int))) (Wp) (exec_move rfl (by kernel_rfl)) ?_
      try simp only [put_list, List.set_cons_zero, List.set_cons_succ]
      refine wpList_run (by kernel_rfl) (.int .i64 (hv2 : Int)) (Wp) (exec_max (x := .tmp 100) (y := .tmp 101) (t := 3) (ty := 3) (va := .int .i64 (hv : Int)) (vb := .int .i64 ((f : Int) + (m : Int))) (by kernel_rfl) (by kernel_rfl) (by kernel_rfl) (by rw [run_max_int2]; congr 2; split <;> omega)) ?_
      try simp only [put_list, List.set_cons_zero, List.set_cons_succ]
      refine wpList_run (by kernel_rfl) (.int .i64 (hv2 : Int)) (Wp) (exec_assign rfl (by kernel_rfl)) ?_
      refine wpList_nil ?_
      simp only [put_list, List.set_cons_zero, List.set_cons_succ]
      clear hmx
      go_upto_region 18 with (fail)
      refine wp_region_lit ?_
      try simp only [put_list, List.set_cons_zero, List.set_cons_succ]
      refine wpList_run (by kernel_rfl) (.nilIface) (Wp) (exec_move rfl (by kernel_rfl)) ?_
      try simp only [put_list, List.set_cons_zero, List.set_cons_succ]
      refine wpList_run (by kernel_rfl) (.bool false) (Wp) (exec_bin (vx := .nilIface) (vy := Go.Value.nilIface) rfl (by kernel_rfl) (by kernel_rfl)) ?_
      try simp only [put_list, List.set_cons_zero, List.set_cons_succ]
      refine wpList_run (by kernel_rfl) (.bool false) (Wp) (exec_move rfl (by kernel_rfl)) ?_
      try simp only [put_list, List.set_cons_zero, List.set_cons_succ]
      refine wpList_runG (by kernel_rfl) (.int .i64 (hv2 : Int)) (Wp) (exec_move rfl (by kernel_rfl)) ?_
      try simp only [put_list, List.set_cons_zero, List.set_cons_succ]
      refine wpList_runG (by kernel_rfl) (.int .i64 (hv2 : Int)) (Wp) (exec_move rfl (by kernel_rfl)) ?_
      try simp only [put_list, List.set_cons_zero, List.set_cons_succ]
      refine wpList_runG (by kernel_rfl) (.bool false) (Wp) (exec_bin (vx := .int .i64 (hv2 : Int)) (vy := .int .i64 (hv2 : Int)) rfl (by kernel_rfl) (neq_i _ _ _ _ _)) ?_
      try simp only [put_list, List.set_cons_zero, List.set_cons_succ]
      refine wpList_run (by kernel_rfl) (.bool false) (Wp) (exec_pick (b := false) rfl (by kernel_rfl) (by kernel_rfl)) ?_
      refine wpList_nil ?_
      simp only [put_list, List.set_cons_zero, List.set_cons_succ]
      go_upto_region 20 with (fail)
      have hS := HH.out.1
      refine wp_region_lit ?_
      try simp only [put_list, List.set_cons_zero, List.set_cons_succ]
      refine wpList_run (by kernel_rfl) (.pointer (some ⟨S, 0, none⟩)) (Wp) (exec_move rfl (by kernel_rfl)) ?_
      try simp only [put_list, List.set_cons_zero, List.set_cons_succ]
      refine wpList_run (by kernel_rfl) (.agg (arr8 32 kid)) (Wp) (exec_load (vx := .pointer (some ⟨X, 0, none⟩)) rfl (by kernel_rfl) (load_idB Wp X kid (range_new (cs := (arr8 32 kid).toList) (by simpa using heap_below HX.out hS.be)))) ?_
      refine wpList_call (by kernel_rfl) 15 #[Go.Operand.tmp 111, Go.Operand.tmp 112, Go.Operand.const (Go.Value.int Go.IntKind.i64 0), Go.Operand.const (Go.Value.int Go.IntKind.i64 0)] #[30, 26, 3, 3] #[.pointer (some ⟨S, 0, none⟩), .agg (arr8 32 kid), Go.Value.int Go.IntKind.i64 0, Go.Value.int Go.IntKind.i64 0] _ rfl (by kernel_rfl) (by kernel_rfl) (s_getS hS kid (by simp) (find_one _ _ (is_kid rfl)) rfl rfl 0 0) ?_
      rintro r Wq ⟨rfl, hS2, _⟩
      clear hS
      have hS : Sto E W0 Wq S 1000 3 V [⟨g, kid, (n : Int), D2, (bys ys).take hv2, false, 0⟩] := hS2
      clear hS2
      refine ⟨_, rfl, ?_⟩
      try simp only [put_list, List.set_cons_zero, List.set_cons_succ]
      refine wpList_run (by kernel_rfl) (.tuple #[.slice none 0 0, errV (E 16)]) (Wq) (exec_move rfl (by kernel_rfl)) ?_
      try simp only [put_list, List.set_cons_zero, List.set_cons_succ]
      refine wpList_run (by kernel_rfl) (.slice none 0 0) (Wq) (exec_extract (vx := .tuple #[.slice none 0 0, errV (E 16)]) rfl (by kernel_rfl) (by kernel_rfl)) ?_
      try simp only [put_list, List.set_cons_zero, List.set_cons_succ]
      refine wpList_run (by kernel_rfl) (errV (E 16)) (Wq) (exec_extract (vx := .tuple #[.slice none 0 0, errV (E 16)]) rfl (by kernel_rfl) (by kernel_rfl)) ?_
      try simp only [put_list, List.set_cons_zero, List.set_cons_succ]
      refine wpList_run (by kernel_rfl) (.slice none 0 0) (Wq) (exec_assign rfl (by kernel_rfl)) ?_
      try simp only [put_list, List.set_cons_zero, List.set_cons_succ]
      refine wpList_run (by kernel_rfl) (errV (E 16)) (Wq) (exec_assign rfl (by kernel_rfl)) ?_
      refine wpList_nil ?_
      simp only [put_list, List.set_cons_zero, List.set_cons_succ]
      have HS := Lib.hid hS
      clear hS
      go_upto_region 21 with (fail)
      have hS := HS.out
      clear HS
      refine wp_region_lit ?_
      try simp only [put_list, List.set_cons_zero, List.set_cons_succ]
      refine wpList_run (by kernel_rfl) (errV (E 16)) (Wq) (exec_move rfl (by kernel_rfl)) ?_
      refine wpList_call (by kernel_rfl) 13 #[Go.Operand.tmp 116, Go.Operand.const (Go.Value.int Go.IntKind.i64 117)] #[33, 3] #[errV (E 16), Go.Value.int Go.IntKind.i64 117] _ rfl (by kernel_rfl) (by kernel_rfl) (is_yes E 16 (by decide) Wq hS.errs) ?_
      rintro r Wr ⟨rfl, hb⟩
      have hS2 := hS.below hb
      clear hS hb
      have hS := hS2
      clear hS2
      refine ⟨_, rfl, ?_⟩
      try simp only [put_list, List.set_cons_zero, List.set_cons_succ]
      refine wpList_run (by kernel_rfl) (.bool false) (Wr) (exec_un (vx := .bool true) rfl (by kernel_rfl) (by kernel_rfl)) ?_
      refine wpList_nil ?_
      simp only [put_list, List.set_cons_zero, List.set_cons_succ]
      have HS := Lib.hid hS
      clear hS
      go_upto_region 13 with (fail)
      have hiL := HH.out.2.1
      refine wp_region_lit ?_
      try simp only [put_list, List.set_cons_zero, List.set_cons_succ]
      refine wpList_run (by kernel_rfl) (.int .i64 (i : Int)) (Wr) (exec_move rfl (by kernel_rfl)) ?_
      try simp only [put_list, List.set_cons_zero, List.set_cons_succ]
      refine wpList_run (by kernel_rfl) (.int .i64 ((i : Int) + 1)) (Wr) (exec_bin (vx := .int .i64 (i : Int)) (vy := Go.Value.int Go.IntKind.i64 1) rfl (by kernel_rfl) (add_i _ _ _ _ _ (by omega) (by omega) _)) ?_
      try simp only [put_list, List.set_cons_zero, List.set_cons_succ]
      refine wpList_run (by kernel_rfl) (.int .i64 ((i : Int) + 1)) (Wr) (exec_assign rfl (by kernel_rfl)) ?_
      refine wpList_nil ?_
      simp only [put_list, List.set_cons_zero, List.set_cons_succ]
      go_wp2_with fail
      go_roundg (L - (i + 1))
      case measure => have := HH.out; omega
      case rel => exact ⟨i + 1, hv2, by omega, by omega, by first | rfl | go_num, rfl, by have := HH.out; omega, D2, HS.out⟩
    · have hk1 : ¬ (i : Int) < (L : Int) := by omega
      have HI := Lib.hid (And.intro hS hvn)
      clear hS hI hgg hiL hlt hvn
      go_upto_region 23 with (fail)
      by_cases hvn2 : hv < n
      · have h2 : (hv : Int) < (n : Int) := by omega
        go_upto_region 24 with (fail)
        obtain ⟨hS, hvn⟩ := HI.out
        refine wp_region_lit ?_
        try simp only [put_list, List.set_cons_zero, List.set_cons_succ]
        refine wpList_run (by kernel_rfl) (.pointer (some ⟨S, 0, none⟩)) (wr) (exec_move rfl (by kernel_rfl)) ?_
        try simp only [put_list, List.set_cons_zero, List.set_cons_succ]
        refine wpList_run (by kernel_rfl) (.agg (arr8 32 kid)) (wr) (exec_load (vx := .pointer (some ⟨X, 0, none⟩)) rfl (by kernel_rfl) (load_idB wr X kid (range_new (cs := (arr8 32 kid).toList) (by simpa using heap_below HX.out hS.be)))) ?_
        refine wpList_call (by kernel_rfl) 16 #[Go.Operand.tmp 123, Go.Operand.tmp 124] #[30, 26] #[.pointer (some ⟨S, 0, none⟩), .agg (arr8 32 kid)] _ rfl (by kernel_rfl) (by kernel_rfl) (s_commitS hS kid (by simp) (find_one _ _ (is_kid rfl)) rfl rfl (by show (((bys ys).take hv).length : Int) < n; rw [List.length_take, bys_length, HN.out.2.2.1]; omega)) ?_
        rintro r wb ⟨rfl, hS2, _⟩
        clear hS
        have hS : Sto E W0 wb S 1000 3 V [⟨g, kid, (n : Int), D, (bys ys).take hv, false, 0⟩] := hS2
        clear hS2
        refine ⟨_, rfl, ?_⟩
        refine wpList_call (by kernel_rfl) 13 #[Go.Operand.tmp 125, Go.Operand.const (Go.Value.int Go.IntKind.i64 117)] #[33, 3] #[errV (E 16), Go.Value.int Go.IntKind.i64 117] _ rfl (by kernel_rfl) (by kernel_rfl) (is_yes E 16 (by decide) wb hS.errs) ?_
        rintro r wc ⟨rfl, hb⟩
        have hS2 := hS.below hb
        clear hS hb
        have hS := hS2
        clear hS2
        refine ⟨_, rfl, ?_⟩
        try simp only [put_list, List.set_cons_zero, List.set_cons_succ]
        refine wpList_run (by kernel_rfl) (.bool false) (wc) (exec_un (vx := .bool true) rfl (by kernel_rfl) (by kernel_rfl)) ?_
        refine wpList_nil ?_
        simp only [put_list, List.set_cons_zero, List.set_cons_succ]
        have HS := Lib.hid hS
        clear hS
        go_upto_region 26 with (fail)
        have hS := HS.out
        clear HS
        have hbl : (bys ys).length = n := by rw [bys_length]; exact HN.out.2.2.1
        have hput : Calls Tryd.prog 14 #[.pointer (some ⟨S, 0, none⟩), .agg (arr8 32 kid), .int .i64 (hv : Int), .slice (cutA A hv c) (n - hv) (c - hv)] wc.drew fun r W' => r = .returned (.tuple #[.int .i64 (n : Int), .nilIface]) ∧ ∃ D', Sto E W0 W' S 1000 3 V [⟨g, kid, (n : Int), D', bys ys, false, 0⟩] := by
          obtain ⟨gA, oA, hA, hltA, _⟩ := HA.out.1 (by simp [ints, hbl]; have := HN.out; omega)
          have hov := over_take (bys ys) hv hv (n - hv) (Nat.le_refl _) (by omega) (by omega)
          have hle : (((bys ys).drop hv).take (n - hv)).length = n - hv := by rw [List.length_take, List.length_drop]; omega
          have hfull : (bys ys).take (max hv (hv + (n - hv))) = bys ys := List.take_of_length_le (by omega)
          rw [hfull] at hov
          refine (s_put (e := ⟨g, kid, (n : Int), D, (bys ys).take hv, false, 0⟩) hS.drew kid (cutA A hv c) (((bys ys).drop hv).take (n - hv)) (n - hv) (c - hv) hv hle (by have := HA.out.2.1; omega) ?_ ?_ (by simp) (find_one _ _ (is_kid rfl)) rfl rfl (by show hv ≤ ((bys ys).take hv).length; rw [List.length_take]; omega) (by show (hv : Int) + ((n - hv : Nat) : Int) ≤ n; omega) (by have := HN.out; show 0 ≤ (n : Int) ∧ (n : Int) ≤ 30000; omega) (by show (((bys ys).take hv).length : Int) ≤ n; rw [List.length_take]; omega)).mono ?_
          · intro hp
            have h6 := (((HA.out.1.below hS.drew.be).cut hv (cutA A hv c) fun _ b o e1 => by rw [e1]; exact cutA_some (n := n) (by omega) HA.out.2.1)).take (n - hv)
            rw [ints_take] at h6
            exact h6 hp
          · intro b o e1 hx
            have h2 := hS.drew.lo b hx
            have h3 : b = gA := by
              rw [hA] at e1
              unfold cutA at e1
              split at e1
              · simp only [Option.some.injEq, Addr.mk.injEq] at e1
                exact e1.1.symm
              · simp only [Option.map_some, Option.some.injEq] at e1
                have := congrArg Addr.block e1
                rw [block_of_add] at this
                exact this.symm
            omega
          · rintro r W' ⟨rfl, D', h1, _⟩
            refine ⟨?_, D', ?_⟩
            · show Ending.returned (Value.tuple #[.int .i64 ((over ((bys ys).take hv) hv (((bys ys).drop hv).take (n - hv))).length : Int), .nilIface]) = _
              rw [hov, hbl]
            · have h4 := h1
              simp only [List.set_cons_zero] at h4
              unfold putB at h4
              rw [show over (bys ys |>.take hv) hv (((bys ys).drop hv).take (n - hv)) = bys ys from hov] at h4
              exact h4
        refine wp_region_noPanic ?_
        refine wp_region_held_drew (S := fun W => W.heap[X]? = some (.cells (arr8 32 kid) 26 (0, 0))) (by kernel_rfl) ((heap_below HX.out hS.drew.be)) (fun hHeld => ?_)
        refine held_move 0 (Go.Operand.tmp 12) (some 129) (.pointer (some ⟨S, 0, none⟩)) (by kernel_rfl) (by kernel_rfl) (by kernel_rfl) (by kernel_rfl) (by kernel_rfl) (fun _ _ _ _ _ h => h) hHeld ?_
        refine held_cell 1 26 (Go.Operand.tmp 11) (some 130) (.pointer (some ⟨X, 0, none⟩)) (.agg (arr8 32 kid)) (by kernel_rfl) (by kernel_rfl) (fun W hw => load_idB W X kid (range_new (cs := (arr8 32 kid).toList) (by simpa using hw))) (by kernel_rfl) (by kernel_rfl) (by kernel_rfl) (fun _ _ _ _ _ h => h) hHeld ?_
        refine held_move 2 (Go.Operand.tmp 13) (some 131) (.int .i64 (hv : Int)) (by kernel_rfl) (by kernel_rfl) (by kernel_rfl) (by kernel_rfl) (by kernel_rfl) (fun _ _ _ _ _ h => h) hHeld ?_
        refine held_move 3 (Go.Operand.tmp 10) (some 132) (.slice A n c) (by kernel_rfl) (by kernel_rfl) (by kernel_rfl) (by kernel_rfl) (by kernel_rfl) (fun _ _ _ _ _ h => h) hHeld ?_
        refine held_move 4 (Go.Operand.tmp 13) (some 133) (.int .i64 (hv : Int)) (by kernel_rfl) (by kernel_rfl) (by kernel_rfl) (by kernel_rfl) (by kernel_rfl) (fun _ _ _ _ _ h => h) hHeld ?_
        refine held_slice 5 24 (Go.Operand.tmp 132) (some (Go.Operand.tmp 133)) none none (some 134) (.slice A n c) (some (.int .i64 (hv : Int))) none none (.slice (cutA A hv c) (n - hv) (c - hv)) (by kernel_rfl) (by kernel_rfl) (fun w => slice_sl_l Tryd.underlying24 (by kernel_rfl) A n c hv _ rfl (by omega) w) (by kernel_rfl) (by kernel_rfl) (by kernel_rfl) (fun _ _ _ _ _ h => h) hHeld ?_
        refine held_call 6 14 #[Go.Operand.tmp 129, Go.Operand.tmp 130, Go.Operand.tmp 131, Go.Operand.tmp 134] #[30, 26, 3, 24] (some 135) #[.pointer (some ⟨S, 0, none⟩), .agg (arr8 32 kid), .int .i64 (hv : Int), .slice (cutA A hv c) (n - hv) (c - hv)] _ (by kernel_rfl) (by kernel_rfl) (by kernel_rfl) (by kernel_rfl) (hput) ?_
        rintro r Wp ⟨rfl, hq⟩
        obtain ⟨D2, hS2⟩ := hq
        refine ⟨_, rfl, heap_below HX.out hS2.be, fun hHeld => ?_⟩
        refine held_move 7 (Go.Operand.tmp 135) (some 128) (.tuple #[.int .i64 (n : Int), .nilIface]) (by kernel_rfl) (by kernel_rfl) (by kernel_rfl) (by kernel_rfl) (by kernel_rfl) (fun _ _ _ _ _ h => h) hHeld ?_
        refine held_any 8 (Go.Op.extract (Go.Operand.tmp 128) 0) (some 136) (.int .i64 (n : Int)) (by kernel_rfl) (by kernel_rfl) (by kernel_rfl) (by kernel_rfl) (fun _ _ _ _ _ h => h) hHeld (fun o ho w hw => exec_ext0 (v := .int .i64 (n : Int)) (u := .nilIface) ho (by kernel_rfl)) ?_
        refine held_any 9 (Go.Op.extract (Go.Operand.tmp 128) 1) (some 137) (.nilIface) (by kernel_rfl) (by kernel_rfl) (by kernel_rfl) (by kernel_rfl) (fun _ _ _ _ _ h => h) hHeld (fun o ho w hw => exec_ext1 (v := .int .i64 (n : Int)) (u := .nilIface) ho (by kernel_rfl)) ?_
        refine held_assign 10 (Go.Operand.tmp 136) (some 21) (.int .i64 (n : Int)) (by kernel_rfl) (by kernel_rfl) (by kernel_rfl) (by kernel_rfl) (by kernel_rfl) (fun _ _ _ _ _ h => h) hHeld ?_
        refine held_assign 11 (Go.Operand.tmp 137) (some 22) (.nilIface) (by kernel_rfl) (by kernel_rfl) (by kernel_rfl) (by kernel_rfl) (by kernel_rfl) (fun _ _ _ _ _ h => h) hHeld ?_
        refine wpAnyH_done (by kernel_rfl) ?_ _
        refine NoPanic.normal ?_
        try simp only [Act.put, List.setIfInBounds_toArray, List.set_cons_zero, List.set_cons_succ]
        have hS := hS2
        clear hS2 hput hHeld hbl hvn h2 hvn2 HI
        have HS := Lib.hid hS
        clear hS
        go_upto_region 27 with (fail)
        have hS := HS.out
        clear HS
        refine wp_region_lit ?_
        try simp only [put_list, List.set_cons_zero, List.set_cons_succ]
        refine wpList_run (by kernel_rfl) (.int .i64 (n : Int)) (Wp) (exec_move rfl (by kernel_rfl)) ?_
        try simp only [put_list, List.set_cons_zero, List.set_cons_succ]
        refine wpList_run (by kernel_rfl) (.slice A n c) (Wp) (exec_move rfl (by kernel_rfl)) ?_
        try simp only [put_list, List.set_cons_zero, List.set_cons_succ]
        refine wpList_run (by kernel_rfl) (.int .i64 (n : Int)) (Wp) (exec_len (x := Go.Operand.tmp 139) (t := 24) (ty := 3) (vx := .slice A n c) (by kernel_rfl) (by kernel_rfl) (by kernel_rfl) (by kernel_rfl)) ?_
        try simp only [put_list, List.set_cons_zero, List.set_cons_succ]
        refine wpList_run (by kernel_rfl) (.bool false) (Wp) (exec_bin (vx := .int .i64 (n : Int)) (vy := .int .i64 (n : Int)) rfl (by kernel_rfl) (neq_i _ _ _ _ _)) ?_
        try simp only [put_list, List.set_cons_zero, List.set_cons_succ]
        refine wpList_run (by kernel_rfl) (.bool false) (Wp) (exec_move rfl (by kernel_rfl)) ?_
        try simp only [put_list, List.set_cons_zero, List.set_cons_succ]
        refine wpList_runG (by kernel_rfl) (.nilIface) (Wp) (exec_move rfl (by kernel_rfl)) ?_
        try simp only [put_list, List.set_cons_zero, List.set_cons_succ]
        refine wpList_runG (by kernel_rfl) (.bool false) (Wp) (exec_bin (vx := .nilIface) (vy := Go.Value.nilIface) rfl (by kernel_rfl) (by kernel_rfl)) ?_
        try simp only [put_list, List.set_cons_zero, List.set_cons_succ]
        refine wpList_run (by kernel_rfl) (.bool false) (Wp) (exec_pick (b := false) rfl (by kernel_rfl) (by kernel_rfl)) ?_
        refine wpList_nil ?_
        simp only [put_list, List.set_cons_zero, List.set_cons_succ]
        have HS := Lib.hid hS
        clear hS
        go_upto_region 29 with (fail)
        have hS := HS.out
        clear HS
        refine wp_region_lit ?_
        try simp only [put_list, List.set_cons_zero, List.set_cons_succ]
        refine wpList_run (by kernel_rfl) (.pointer (some ⟨S, 0, none⟩)) (Wp) (exec_move rfl (by kernel_rfl)) ?_
        try simp only [put_list, List.set_cons_zero, List.set_cons_succ]
        refine wpList_run (by kernel_rfl) (.agg (arr8 32 kid)) (Wp) (exec_load (vx := .pointer (some ⟨X, 0, none⟩)) rfl (by kernel_rfl) (load_idB Wp X kid (range_new (cs := (arr8 32 kid).toList) (by simpa using heap_below HX.out hS.be)))) ?_
        refine wpList_call (by kernel_rfl) 16 #[Go.Operand.tmp 146, Go.Operand.tmp 147] #[30, 26] #[.pointer (some ⟨S, 0, none⟩), .agg (arr8 32 kid)] _ rfl (by kernel_rfl) (by kernel_rfl) (s_commit hS HK.out kid (by simp) (find_one _ _ (is_kid rfl)) rfl rfl ys rfl (by simp [HN.out.2.2.1]) (by have := HN.out; show (n : Int) ≤ 30000; omega) (by rw [HN.out.2.2.2]; exact beq_self_eq_true _)) ?_
        rintro r Wq ⟨rfl, hS2, _⟩
        clear hS
        have hS : Sto E W0 Wq S 1000 3 V [⟨g, kid, (n : Int), D2, bys ys, true, 0⟩] := hS2
        clear hS2
        refine ⟨_, rfl, ?_⟩
        try simp only [put_list, List.set_cons_zero, List.set_cons_succ]
        refine wpList_run (by kernel_rfl) (.bool false) (Wq) (exec_bin (vx := .nilIface) (vy := Go.Value.nilIface) rfl (by kernel_rfl) (by kernel_rfl)) ?_
        try simp only [put_list, List.set_cons_zero, List.set_cons_succ]
        refine wpList_run (by kernel_rfl) (.bool false) (Wq) (exec_move rfl (by kernel_rfl)) ?_
        try simp only [put_list, List.set_cons_zero, List.set_cons_succ]
        refine wpList_runG (by kernel_rfl) (.pointer (some ⟨S, 0, none⟩)) (Wq) (exec_move rfl (by kernel_rfl)) ?_
        try simp only [put_list, List.set_cons_zero, List.set_cons_succ]
        refine wpList_runG (by kernel_rfl) (.agg (arr8 32 kid)) (Wq) (exec_load (vx := .pointer (some ⟨X, 0, none⟩)) rfl (by kernel_rfl) (load_idB Wq X kid (range_new (cs := (arr8 32 kid).toList) (by simpa using heap_below HX.out hS.be)))) ?_
        refine wpList_call (by kernel_rfl) 16 #[Go.Operand.tmp 151, Go.Operand.tmp 152] #[30, 26] #[.pointer (some ⟨S, 0, none⟩), .agg (arr8 32 kid)] _ rfl (by kernel_rfl) (by kernel_rfl) (s_commitD hS kid (by simp) (find_one _ _ (is_kid rfl)) rfl rfl) ?_
        rintro r Wr ⟨rfl, hS2, _⟩
        clear hS
        have hS : Sto E W0 Wr S 1000 3 V [⟨g, kid, (n : Int), D2, bys ys, true, 0⟩] := hS2
        clear hS2
        refine ⟨_, rfl, ?_⟩
        try simp only [put_list, List.set_cons_zero, List.set_cons_succ]
        refine wpList_runG (by kernel_rfl) (.bool false) (Wr) (exec_bin (vx := .nilIface) (vy := Go.Value.nilIface) rfl (by kernel_rfl) (by kernel_rfl)) ?_
        try simp only [put_list, List.set_cons_zero, List.set_cons_succ]
        refine wpList_run (by kernel_rfl) (.bool false) (Wr) (exec_pick (b := false) rfl (by kernel_rfl) (by kernel_rfl)) ?_
        refine wpList_nil ?_
        simp only [put_list, List.set_cons_zero, List.set_cons_succ]
        have HS := Lib.hid hS
        clear hS
        go_upto_region 31 with (fail)
        have hS := HS.out
        clear HS
        obtain ⟨hn20, hn300, _, _⟩ := HN.out
        obtain ⟨o, ho, hon⟩ := exists_mod off ((n : Int) + 1) (by omega)
        obtain ⟨t3, ht3, ht201⟩ := exists_mod nn 201 (by omega)
        obtain ⟨m3, hm3⟩ : ∃ m3, m3 = min t3 (n - o) := ⟨_, rfl⟩
        have HO := Lib.hid (And.intro hn20 (And.intro hn300 (And.intro ho (And.intro hon (And.intro ht3 (And.intro ht201 hm3))))))
        refine wp_region_lit ?_
        try simp only [put_list, List.set_cons_zero, List.set_cons_succ]
        refine wpList_run (by kernel_rfl) (.int .i64 off) (Wr) (exec_move rfl (by kernel_rfl)) ?_
        try simp only [put_list, List.set_cons_zero, List.set_cons_succ]
        refine wpList_run (by kernel_rfl) (.slice A n c) (Wr) (exec_move rfl (by kernel_rfl)) ?_
        try simp only [put_list, List.set_cons_zero, List.set_cons_succ]
        refine wpList_run (by kernel_rfl) (.int .i64 (n : Int)) (Wr) (exec_len (x := Go.Operand.tmp 157) (t := 24) (ty := 3) (vx := .slice A n c) (by kernel_rfl) (by kernel_rfl) (by kernel_rfl) (by kernel_rfl)) ?_
        try simp only [put_list, List.set_cons_zero, List.set_cons_succ]
        refine wpList_run (by kernel_rfl) (.int .i64 ((n : Int) + 1)) (Wr) (exec_bin (vx := .int .i64 (n : Int)) (vy := Go.Value.int Go.IntKind.i64 1) rfl (by kernel_rfl) (add_i _ _ _ _ _ (by omega) (by omega) _)) ?_
        refine wpList_call (by kernel_rfl) 10 #[Go.Operand.tmp 156, Go.Operand.tmp 159] #[3, 3] #[.int .i64 off, .int .i64 ((n : Int) + 1)] _ rfl (by kernel_rfl) (by kernel_rfl) (number_nat off ((n : Int) + 1) o Wr (by omega) ho) ?_
        rintro r Y ⟨rfl, q6, rfl⟩
        refine ⟨_, rfl, ?_⟩
        try simp only [put_list, List.set_cons_zero, List.set_cons_succ]
        refine wpList_run (by kernel_rfl) (.int .i64 (o : Int)) ((Wr.drewN q6)) (exec_assign rfl (by kernel_rfl)) ?_
        refine wpList_nil ?_
        simp only [put_list, List.set_cons_zero, List.set_cons_succ]
        clear hn20 hn300 ho hon ht3 ht201 hm3
        have HS := Lib.hid hS
        clear hS
        go_upto_region 32 with (fail)
        have hS := HS.out
        clear HS
        obtain ⟨hn20, hn300, ho, hon, ht3, ht201, hm3⟩ := HO.out
        refine wp_region_lit ?_
        try simp only [put_list, List.set_cons_zero, List.set_cons_succ]
        refine wpList_run (by kernel_rfl) (.int .i64 nn) ((Wr.drewN q6)) (exec_move rfl (by kernel_rfl)) ?_
        refine wpList_call (by kernel_rfl) 10 #[Go.Operand.tmp 161, Go.Operand.const (Go.Value.int Go.IntKind.i64 201)] #[3, 3] #[.int .i64 nn, Go.Value.int Go.IntKind.i64 201] _ rfl (by kernel_rfl) (by kernel_rfl) (number_nat nn 201 t3 (Wr.drewN q6) (by omega) ht3) ?_
        rintro r Y ⟨rfl, q7, rfl⟩
        refine ⟨_, rfl, ?_⟩
        try simp only [put_list, List.set_cons_zero, List.set_cons_succ]
        refine wpList_run (by kernel_rfl) (.slice A n c) (((Wr.drewN q6).drewN q7)) (exec_move rfl (by kernel_rfl)) ?_
        try simp only [put_list, List.set_cons_zero, List.set_cons_succ]
        refine wpList_run (by kernel_rfl) (.int .i64 (n : Int)) (((Wr.drewN q6).drewN q7)) (exec_len (x := Go.Operand.tmp 163) (t := 24) (ty := 3) (vx := .slice A n c) (by kernel_rfl) (by kernel_rfl) (by kernel_rfl) (by kernel_rfl)) ?_
        try simp only [put_list, List.set_cons_zero, List.set_cons_succ]
        refine wpList_run (by kernel_rfl) (.int .i64 (o : Int)) (((Wr.drewN q6).drewN q7)) (exec_move rfl (by kernel_rfl)) ?_
        try simp only [put_list, List.set_cons_zero, List.set_cons_succ]
        refine wpList_run (by kernel_rfl) (.int .i64 ((n : Int) - o)) (((Wr.drewN q6).drewN q7)) (exec_bin (vx := .int .i64 (n : Int)) (vy := .int .i64 (o : Int)) rfl (by kernel_rfl) (sub_i _ _ _ _ _ (by omega) (by omega) _)) ?_
        try simp only [put_list, List.set_cons_zero, List.set_cons_succ]
        refine wpList_run (by kernel_rfl) (.int .i64 (m3 : Int)) (((Wr.drewN q6).drewN q7)) (exec_min (x := .tmp 162) (y := .tmp 166) (t := 3) (ty := 3) (va := .int .i64 (t3 : Int)) (vb := .int .i64 ((n : Int) - o)) (by kernel_rfl) (by kernel_rfl) (by kernel_rfl) (by rw [run_min_int2]; congr 2; split <;> omega)) ?_
        try simp only [put_list, List.set_cons_zero, List.set_cons_succ]
        refine wpList_run (by kernel_rfl) (.int .i64 (m3 : Int)) (((Wr.drewN q6).drewN q7)) (exec_assign rfl (by kernel_rfl)) ?_
        refine wpList_nil ?_
        simp only [put_list, List.set_cons_zero, List.set_cons_succ]
        replace hS := (hS.drewN q6).drewN q7
        clear hn20 hn300 ho hon ht3 ht201 hm3
        have HS := Lib.hid hS
        clear hS
        go_upto_region 33 with (fail)
        have hS := HS.out
        clear HS
        obtain ⟨hn20, hn300, ho, hon, ht3, ht201, hm3⟩ := HO.out
        generalize ((Wr.drewN q6).drewN q7) = Ws at *
        refine wp_region_lit ?_
        try simp only [put_list, List.set_cons_zero, List.set_cons_succ]
        refine wpList_run (by kernel_rfl) (.pointer (some ⟨S, 0, none⟩)) (Ws) (exec_move rfl (by kernel_rfl)) ?_
        try simp only [put_list, List.set_cons_zero, List.set_cons_succ]
        refine wpList_run (by kernel_rfl) (.agg (arr8 32 kid)) (Ws) (exec_load (vx := .pointer (some ⟨X, 0, none⟩)) rfl (by kernel_rfl) (load_idB Ws X kid (range_new (cs := (arr8 32 kid).toList) (by simpa using heap_below HX.out hS.be)))) ?_
        try simp only [put_list, List.set_cons_zero, List.set_cons_succ]
        refine wpList_run (by kernel_rfl) (.int .i64 (o : Int)) (Ws) (exec_move rfl (by kernel_rfl)) ?_
        try simp only [put_list, List.set_cons_zero, List.set_cons_succ]
        refine wpList_run (by kernel_rfl) (.int .i64 (m3 : Int)) (Ws) (exec_move rfl (by kernel_rfl)) ?_
        refine wpList_call (by kernel_rfl) 15 #[Go.Operand.tmp 169, Go.Operand.tmp 170, Go.Operand.tmp 171, Go.Operand.tmp 172] #[30, 26, 3, 3] #[.pointer (some ⟨S, 0, none⟩), .agg (arr8 32 kid), .int .i64 (o : Int), .int .i64 (m3 : Int)] _ rfl (by kernel_rfl) (by kernel_rfl) (s_get hS kid (by simp) (find_one _ _ (is_kid rfl)) rfl rfl o m3 (by omega) (by show o + m3 ≤ (bys ys).length; rw [bys_length, HN.out.2.2.1]; omega) (by show ((bys ys).length : Int) = n; rw [bys_length, HN.out.2.2.1]) (by show (n : Int) ≤ 30000; omega)) ?_
        rintro r Wt ⟨Ag, cg, rfl, hS2, _, hog⟩
        have hltS := fun x (hx : stF S V [⟨g, kid, (n : Int), D2, bys ys, true, 0⟩] x) => hS.st.lt hx
        clear hS
        have hS : Sto E W0 Wt S 1000 3 V [⟨g, kid, (n : Int), D2, bys ys, true, 0⟩] := hS2
        clear hS2
        refine ⟨_, rfl, ?_⟩
        try simp only [put_list, List.set_cons_zero, List.set_cons_succ]
        refine wpList_run (by kernel_rfl) (.tuple #[.slice Ag m3 cg, .nilIface]) (Wt) (exec_move rfl (by kernel_rfl)) ?_
        try simp only [put_list, List.set_cons_zero, List.set_cons_succ]
        refine wpList_run (by kernel_rfl) (.slice Ag m3 cg) (Wt) (exec_extract (vx := .tuple #[.slice Ag m3 cg, .nilIface]) rfl (by kernel_rfl) (by kernel_rfl)) ?_
        try simp only [put_list, List.set_cons_zero, List.set_cons_succ]
        refine wpList_run (by kernel_rfl) (.nilIface) (Wt) (exec_extract (vx := .tuple #[.slice Ag m3 cg, .nilIface]) rfl (by kernel_rfl) (by kernel_rfl)) ?_
        try simp only [put_list, List.set_cons_zero, List.set_cons_succ]
        refine wpList_run (by kernel_rfl) (.slice Ag m3 cg) (Wt) (exec_assign rfl (by kernel_rfl)) ?_
        try simp only [put_list, List.set_cons_zero, List.set_cons_succ]
        refine wpList_run (by kernel_rfl) (.nilIface) (Wt) (exec_assign rfl (by kernel_rfl)) ?_
        refine wpList_nil ?_
        simp only [put_list, List.set_cons_zero, List.set_cons_succ]
        have hrg : SlRead Wt Ag (ints .u8 (((bys ys).drop o).take m3)) := own_read1 hog
        have HGA : Hid (∀ b o', Ag = some ⟨b, o', none⟩ → ¬ stF S V [⟨g, kid, (n : Int), D2, bys ys, true, 0⟩] b) := fun b o' e hx => by
          have h1 := hltS b hx
          have h2 := (hog.lt b (by rw [e]; rfl)).1
          omega
        clear hog hltS
        have HR := Lib.hid hrg
        clear hrg
        clear hn20 hn300 ho hon ht3 ht201 hm3
        have HS := Lib.hid hS
        clear hS
        go_upto_region 34 with (fail)
        have hS := HS.out
        clear HS
        obtain ⟨hn20, hn300, ho, hon, ht3, ht201, hm3⟩ := HO.out
        have hrg := HR.out
        clear HR
        refine wp_region_lit ?_
        try simp only [put_list, List.set_cons_zero, List.set_cons_succ]
        refine wpList_run (by kernel_rfl) (.pointer (some ⟨S, 0, none⟩)) (Wt) (exec_move rfl (by kernel_rfl)) ?_
        try simp only [put_list, List.set_cons_zero, List.set_cons_succ]
        refine wpList_run (by kernel_rfl) (.agg (arr8 32 kid)) (Wt) (exec_load (vx := .pointer (some ⟨X, 0, none⟩)) rfl (by kernel_rfl) (load_idB Wt X kid (range_new (cs := (arr8 32 kid).toList) (by simpa using heap_below HX.out hS.be)))) ?_
        try simp only [put_list, List.set_cons_zero, List.set_cons_succ]
        refine wpList_run (by kernel_rfl) (.slice A n c) (Wt) (exec_move rfl (by kernel_rfl)) ?_
        refine wpList_call (by kernel_rfl) 14 #[Go.Operand.tmp 177, Go.Operand.tmp 178, Go.Operand.const (Go.Value.int Go.IntKind.i64 0), Go.Operand.tmp 179] #[30, 26, 3, 24] #[.pointer (some ⟨S, 0, none⟩), .agg (arr8 32 kid), Go.Value.int Go.IntKind.i64 0, .slice A n c] _ rfl (by kernel_rfl) (by kernel_rfl) (s_putS hS kid 0 A n c (by simp) (find_one _ _ (is_kid rfl)) rfl rfl) ?_
        rintro r Wt2 ⟨rfl, hS2, ht⟩
        replace hrg := hrg.turnedA ht (fun b o e => HGA.out b o e)
        clear hS
        have hS : Sto E W0 Wt2 S 1000 3 V [⟨g, kid, (n : Int), D2, bys ys, true, 0⟩] := hS2
        clear hS2 ht
        refine ⟨_, rfl, ?_⟩
        try simp only [put_list, List.set_cons_zero, List.set_cons_succ]
        refine wpList_run (by kernel_rfl) (.tuple #[.int .i64 0, errV (E 16)]) (Wt2) (exec_move rfl (by kernel_rfl)) ?_
        try simp only [put_list, List.set_cons_zero, List.set_cons_succ]
        refine wpList_run (by kernel_rfl) (.int .i64 0) (Wt2) (exec_extract (vx := .tuple #[.int .i64 0, errV (E 16)]) rfl (by kernel_rfl) (by kernel_rfl)) ?_
        try simp only [put_list, List.set_cons_zero, List.set_cons_succ]
        refine wpList_run (by kernel_rfl) (errV (E 16)) (Wt2) (exec_extract (vx := .tuple #[.int .i64 0, errV (E 16)]) rfl (by kernel_rfl) (by kernel_rfl)) ?_
        try simp only [put_list, List.set_cons_zero, List.set_cons_succ]
        refine wpList_run (by kernel_rfl) (.int .i64 0) (Wt2) (exec_assign rfl (by kernel_rfl)) ?_
        try simp only [put_list, List.set_cons_zero, List.set_cons_succ]
        refine wpList_run (by kernel_rfl) (errV (E 16)) (Wt2) (exec_assign rfl (by kernel_rfl)) ?_
        refine wpList_nil ?_
        simp only [put_list, List.set_cons_zero, List.set_cons_succ]
        have HR := Lib.hid hrg
        clear hrg
        clear hn20 hn300 ho hon ht3 ht201 hm3
        have HS := Lib.hid hS
        clear hS
        go_upto_region 35 with (fail)
        have hS := HS.out
        clear HS
        obtain ⟨hn20, hn300, ho, hon, ht3, ht201, hm3⟩ := HO.out
        have hrg := HR.out
        clear HR
        refine wp_region_lit ?_
        try simp only [put_list, List.set_cons_zero, List.set_cons_succ]
        refine wpList_run (by kernel_rfl) (.pointer (some ⟨S, 0, none⟩)) (Wt2) (exec_move rfl (by kernel_rfl)) ?_
        try simp only [put_list, List.set_cons_zero, List.set_cons_succ]
        refine wpList_run (by kernel_rfl) (.agg (arr8 32 kid)) (Wt2) (exec_load (vx := .pointer (some ⟨X, 0, none⟩)) rfl (by kernel_rfl) (load_idB Wt2 X kid (range_new (cs := (arr8 32 kid).toList) (by simpa using heap_below HX.out hS.be)))) ?_
        try simp only [put_list, List.set_cons_zero, List.set_cons_succ]
        refine wpList_run (by kernel_rfl) (.int .i64 (o : Int)) (Wt2) (exec_move rfl (by kernel_rfl)) ?_
        try simp only [put_list, List.set_cons_zero, List.set_cons_succ]
        refine wpList_run (by kernel_rfl) (.slice A n c) (Wt2) (exec_move rfl (by kernel_rfl)) ?_
        try simp only [put_list, List.set_cons_zero, List.set_cons_succ]
        refine wpList_run (by kernel_rfl) (.int .i64 (n : Int)) (Wt2) (exec_len (x := Go.Operand.tmp 187) (t := 24) (ty := 3) (vx := .slice A n c) (by kernel_rfl) (by kernel_rfl) (by kernel_rfl) (by kernel_rfl)) ?_
        try simp only [put_list, List.set_cons_zero, List.set_cons_succ]
        refine wpList_run (by kernel_rfl) (.int .i64 (o : Int)) (Wt2) (exec_move rfl (by kernel_rfl)) ?_
        try simp only [put_list, List.set_cons_zero, List.set_cons_succ]
        refine wpList_run (by kernel_rfl) (.int .i64 ((n : Int) - o)) (Wt2) (exec_bin (vx := .int .i64 (n : Int)) (vy := .int .i64 (o : Int)) rfl (by kernel_rfl) (sub_i _ _ _ _ _ (by omega) (by omega) _)) ?_
        try simp only [put_list, List.set_cons_zero, List.set_cons_succ]
        refine wpList_run (by kernel_rfl) (.int .i64 ((n : Int) - o + 1)) (Wt2) (exec_bin (vx := .int .i64 ((n : Int) - o)) (vy := Go.Value.int Go.IntKind.i64 1) rfl (by kernel_rfl) (add_i _ _ _ _ _ (by omega) (by omega) _)) ?_
        refine wpList_call (by kernel_rfl) 15 #[Go.Operand.tmp 184, Go.Operand.tmp 185, Go.Operand.tmp 186, Go.Operand.tmp 191] #[30, 26, 3, 3] #[.pointer (some ⟨S, 0, none⟩), .agg (arr8 32 kid), .int .i64 (o : Int), .int .i64 ((n : Int) - o + 1)] _ rfl (by kernel_rfl) (by kernel_rfl) (s_getR hS kid (by simp) (find_one _ _ (is_kid rfl)) rfl rfl (o : Int) ((n : Int) - o + 1) (by omega) (by omega) (by have := HN.out; show 0 ≤ (n : Int) ∧ (n : Int) ≤ 30000; omega) (.inr (by show (n : Int) - ((n : Int) - o + 1) < o; omega))) ?_
        rintro r Wu ⟨rfl, hS2, ht⟩
        replace hrg := hrg.turnedA ht (fun b o e => HGA.out b o e)
        clear hS
        have hS : Sto E W0 Wu S 1000 3 V [⟨g, kid, (n : Int), D2, bys ys, true, 0⟩] := hS2
        clear hS2 ht
        refine ⟨_, rfl, ?_⟩
        try simp only [put_list, List.set_cons_zero, List.set_cons_succ]
        refine wpList_run (by kernel_rfl) (.tuple #[.slice none 0 0, errV (E 1)]) (Wu) (exec_move rfl (by kernel_rfl)) ?_
        try simp only [put_list, List.set_cons_zero, List.set_cons_succ]
        refine wpList_run (by kernel_rfl) (.slice none 0 0) (Wu) (exec_extract (vx := .tuple #[.slice none 0 0, errV (E 1)]) rfl (by kernel_rfl) (by kernel_rfl)) ?_
        try simp only [put_list, List.set_cons_zero, List.set_cons_succ]
        refine wpList_run (by kernel_rfl) (errV (E 1)) (Wu) (exec_extract (vx := .tuple #[.slice none 0 0, errV (E 1)]) rfl (by kernel_rfl) (by kernel_rfl)) ?_
        try simp only [put_list, List.set_cons_zero, List.set_cons_succ]
        refine wpList_run (by kernel_rfl) (.slice none 0 0) (Wu) (exec_assign rfl (by kernel_rfl)) ?_
        try simp only [put_list, List.set_cons_zero, List.set_cons_succ]
        refine wpList_run (by kernel_rfl) (errV (E 1)) (Wu) (exec_assign rfl (by kernel_rfl)) ?_
        refine wpList_nil ?_
        simp only [put_list, List.set_cons_zero, List.set_cons_succ]
        have HR := Lib.hid hrg
        clear hrg
        clear hn20 hn300 ho hon ht3 ht201 hm3
        have HS := Lib.hid hS
        clear hS
        go_upto_region 36 with (fail)
        have hS := HS.out
        clear HS
        obtain ⟨hn20, hn300, ho, hon, ht3, ht201, hm3⟩ := HO.out
        have hrg := HR.out
        clear HR
        refine wp_region_lit ?_
        try simp only [put_list, List.set_cons_zero, List.set_cons_succ]
        refine wpList_run (by kernel_rfl) (.pointer (some ⟨S, 0, none⟩)) (Wu) (exec_move rfl (by kernel_rfl)) ?_
        try simp only [put_list, List.set_cons_zero, List.set_cons_succ]
        refine wpList_run (by kernel_rfl) (.agg (arr8 32 kid)) (Wu) (exec_load (vx := .pointer (some ⟨X, 0, none⟩)) rfl (by kernel_rfl) (load_idB Wu X kid (range_new (cs := (arr8 32 kid).toList) (by simpa using heap_below HX.out hS.be)))) ?_
        refine wpList_call (by kernel_rfl) 17 #[Go.Operand.tmp 196, Go.Operand.tmp 197] #[30, 26] #[.pointer (some ⟨S, 0, none⟩), .agg (arr8 32 kid)] _ rfl (by kernel_rfl) (by kernel_rfl) ((s_stat hS kid (by simp) (find_one _ _ (is_kid rfl)) rfl).mono fun r W' h => (⟨h.1.trans (by show Ending.returned (Value.tuple #[.int .i64 ((bys ys).length : Int), .bool true, .nilIface]) = _; rw [bys_length, HN.out.2.2.1]), h.2⟩ : r = Ending.returned (Value.tuple #[.int .i64 (n : Int), .bool true, .nilIface]) ∧ _)) ?_
        rintro r Wv ⟨rfl, hS2, ht⟩
        replace hrg := hrg.turnedA ht (fun b o e => HGA.out b o e)
        clear hS
        have hS : Sto E W0 Wv S 1000 3 V [⟨g, kid, (n : Int), D2, bys ys, true, 0⟩] := hS2
        clear hS2 ht
        refine ⟨_, rfl, ?_⟩
        try simp only [put_list, List.set_cons_zero, List.set_cons_succ]
        refine wpList_run (by kernel_rfl) (.tuple #[.int .i64 (n : Int), .bool true, .nilIface]) (Wv) (exec_move rfl (by kernel_rfl)) ?_
        try simp only [put_list, List.set_cons_zero, List.set_cons_succ]
        refine wpList_run (by kernel_rfl) (.int .i64 (n : Int)) (Wv) (exec_extract (vx := .tuple #[.int .i64 (n : Int), .bool true, .nilIface]) rfl (by kernel_rfl) (by kernel_rfl)) ?_
        try simp only [put_list, List.set_cons_zero, List.set_cons_succ]
        refine wpList_run (by kernel_rfl) (.bool true) (Wv) (exec_extract (vx := .tuple #[.int .i64 (n : Int), .bool true, .nilIface]) rfl (by kernel_rfl) (by kernel_rfl)) ?_
        try simp only [put_list, List.set_cons_zero, List.set_cons_succ]
        refine wpList_run (by kernel_rfl) (.nilIface) (Wv) (exec_extract (vx := .tuple #[.int .i64 (n : Int), .bool true, .nilIface]) rfl (by kernel_rfl) (by kernel_rfl)) ?_
        try simp only [put_list, List.set_cons_zero, List.set_cons_succ]
        refine wpList_run (by kernel_rfl) (.int .i64 (n : Int)) (Wv) (exec_assign rfl (by kernel_rfl)) ?_
        try simp only [put_list, List.set_cons_zero, List.set_cons_succ]
        refine wpList_run (by kernel_rfl) (.bool true) (Wv) (exec_assign rfl (by kernel_rfl)) ?_
        try simp only [put_list, List.set_cons_zero, List.set_cons_succ]
        refine wpList_run (by kernel_rfl) (.nilIface) (Wv) (exec_assign rfl (by kernel_rfl)) ?_
        refine wpList_nil ?_
        simp only [put_list, List.set_cons_zero, List.set_cons_succ]
        have HR := Lib.hid hrg
        clear hrg
        clear hn20 hn300 ho hon ht3 ht201 hm3
        have HS := Lib.hid hS
        clear hS
        go_upto_region 37 with (fail)
        have hS := HS.out
        clear HS
        obtain ⟨hn20, hn300, ho, hon, ht3, ht201, hm3⟩ := HO.out
        have hrg := HR.out
        clear HR
        have hoc : o + m3 ≤ c := by have := HA.out.2.1; omega
        have hsame : Quiets Tryd.prog 18 #[.slice Ag m3 cg, .slice (cutA A o c) m3 (c - o)] Wv (.bool true) := by
          have hl1 : (((bys ys).drop o).take m3).length = m3 := by rw [List.length_take, List.length_drop, bys_length, HN.out.2.2.1]; omega
          have h2 : SlRead Wv (cutA A o c) (ints .u8 (((bys ys).drop o).take m3)) := fun hp => by
            have hm0 : 0 < m3 := by
              have h9 : 0 < (((bys ys).drop o).take m3).length := by simpa only [ints, List.length_map] using hp
              omega
            have h6 := (((HA.out.1.below hS.be).cut o (cutA A o c) fun _ b o' e1 => by rw [e1]; exact cutA_some (n := n) (by omega) HA.out.2.1)).take m3
            rw [ints_take] at h6
            exact h6 hp
          have h3 := sameBytes_any Ag (cutA A o c) _ _ cg (c - o) Wv hrg h2 (by rw [hl1]; omega) (by rw [hl1]; omega)
          rw [hl1, decide_eq_true rfl] at h3
          exact h3
        refine wp_region_lit ?_
        try simp only [put_list, List.set_cons_zero, List.set_cons_succ]
        refine wpList_run (by kernel_rfl) (.bool true) (Wv) (exec_move rfl (by kernel_rfl)) ?_
        try simp only [put_list, List.set_cons_zero, List.set_cons_succ]
        refine wpList_run (by kernel_rfl) (.bool true) (Wv) (exec_move rfl (by kernel_rfl)) ?_
        try simp only [put_list, List.set_cons_zero, List.set_cons_succ]
        refine wpList_runG (by kernel_rfl) (.nilIface) (Wv) (exec_move rfl (by kernel_rfl)) ?_
        try simp only [put_list, List.set_cons_zero, List.set_cons_succ]
        refine wpList_runG (by kernel_rfl) (.bool true) (Wv) (exec_bin (vx := .nilIface) (vy := Go.Value.nilIface) rfl (by kernel_rfl) (by kernel_rfl)) ?_
        try simp only [put_list, List.set_cons_zero, List.set_cons_succ]
        refine wpList_run (by kernel_rfl) (.bool true) (Wv) (exec_pick (b := true) rfl (by kernel_rfl) (by kernel_rfl)) ?_
        try simp only [put_list, List.set_cons_zero, List.set_cons_succ]
        refine wpList_run (by kernel_rfl) (.bool true) (Wv) (exec_move rfl (by kernel_rfl)) ?_
        try simp only [put_list, List.set_cons_zero, List.set_cons_succ]
        refine wpList_runG (by kernel_rfl) (.slice Ag m3 cg) (Wv) (exec_move rfl (by kernel_rfl)) ?_
        try simp only [put_list, List.set_cons_zero, List.set_cons_succ]
        refine wpList_runG (by kernel_rfl) (.slice A n c) (Wv) (exec_move rfl (by kernel_rfl)) ?_
        try simp only [put_list, List.set_cons_zero, List.set_cons_succ]
        refine wpList_runG (by kernel_rfl) (.int .i64 (o : Int)) (Wv) (exec_move rfl (by kernel_rfl)) ?_
        try simp only [put_list, List.set_cons_zero, List.set_cons_succ]
        refine wpList_runG (by kernel_rfl) (.int .i64 (o : Int)) (Wv) (exec_move rfl (by kernel_rfl)) ?_
        try simp only [put_list, List.set_cons_zero, List.set_cons_succ]
        refine wpList_runG (by kernel_rfl) (.int .i64 (m3 : Int)) (Wv) (exec_move rfl (by kernel_rfl)) ?_
        try simp only [put_list, List.set_cons_zero, List.set_cons_succ]
        refine wpList_runG (by kernel_rfl) (.int .i64 ((o : Int) + m3)) (Wv) (exec_bin (vx := .int .i64 (o : Int)) (vy := .int .i64 (m3 : Int)) rfl (by kernel_rfl) (add_i _ _ _ _ _ (by omega) (by omega) _)) ?_
        try simp only [put_list, List.set_cons_zero, List.set_cons_succ]
        refine wpList_runG (by kernel_rfl) (.slice (cutA A o c) m3 (c - o)) (Wv) (exec_slice (vx := .slice A n c) (l := some (.int .i64 (o : Int))) (h := some (.int .i64 ((o : Int) + m3))) (m := none) rfl (by kernel_rfl) (slice_cut Tryd.underlying24 (by kernel_rfl) A n c o m3 (by omega) _)) ?_
        refine wpList_call (by kernel_rfl) 18 #[Go.Operand.tmp 208, Go.Operand.tmp 214] #[24, 24] #[.slice Ag m3 cg, .slice (cutA A o c) m3 (c - o)] _ rfl (by kernel_rfl) (by kernel_rfl) (hsame) ?_
        rintro r Y ⟨rfl, q9, rfl⟩
        have hS2 := hS.drewN q9
        clear hS
        have hS := hS2
        clear hS2
        refine ⟨_, rfl, ?_⟩
        try simp only [put_list, List.set_cons_zero, List.set_cons_succ]
        refine wpList_run (by kernel_rfl) (.bool true) ((Wv.drewN q9)) (exec_pick (b := true) rfl (by kernel_rfl) (by kernel_rfl)) ?_
        try simp only [put_list, List.set_cons_zero, List.set_cons_succ]
        refine wpList_run (by kernel_rfl) (.bool true) ((Wv.drewN q9)) (exec_move rfl (by kernel_rfl)) ?_
        try simp only [put_list, List.set_cons_zero, List.set_cons_succ]
        refine wpList_runG (by kernel_rfl) (errV (E 16)) ((Wv.drewN q9)) (exec_move rfl (by kernel_rfl)) ?_
        refine wpList_call (by kernel_rfl) 13 #[Go.Operand.tmp 218, Go.Operand.const (Go.Value.int Go.IntKind.i64 117)] #[33, 3] #[errV (E 16), Go.Value.int Go.IntKind.i64 117] _ rfl (by kernel_rfl) (by kernel_rfl) (is_yes E 16 (by decide) (Wv.drewN q9) hS.errs) ?_
        rintro r Ww ⟨rfl, hb⟩
        have hS2 := hS.below hb
        clear hS hb
        have hS := hS2
        clear hS2
        refine ⟨_, rfl, ?_⟩
        try simp only [put_list, List.set_cons_zero, List.set_cons_succ]
        refine wpList_run (by kernel_rfl) (.bool true) (Ww) (exec_pick (b := true) rfl (by kernel_rfl) (by kernel_rfl)) ?_
        try simp only [put_list, List.set_cons_zero, List.set_cons_succ]
        refine wpList_run (by kernel_rfl) (.bool true) (Ww) (exec_move rfl (by kernel_rfl)) ?_
        try simp only [put_list, List.set_cons_zero, List.set_cons_succ]
        refine wpList_runG (by kernel_rfl) (errV (E 1)) (Ww) (exec_move rfl (by kernel_rfl)) ?_
        refine wpList_call (by kernel_rfl) 13 #[Go.Operand.tmp 222, Go.Operand.const (Go.Value.int Go.IntKind.i64 102)] #[33, 3] #[errV (E 1), Go.Value.int Go.IntKind.i64 102] _ rfl (by kernel_rfl) (by kernel_rfl) (is_yes E 1 (by decide) Ww hS.errs) ?_
        rintro r Wx ⟨rfl, hb⟩
        have hS2 := hS.below hb
        clear hS hb
        have hS := hS2
        clear hS2
        refine ⟨_, rfl, ?_⟩
        try simp only [put_list, List.set_cons_zero, List.set_cons_succ]
        refine wpList_run (by kernel_rfl) (.bool true) (Wx) (exec_pick (b := true) rfl (by kernel_rfl) (by kernel_rfl)) ?_
        try simp only [put_list, List.set_cons_zero, List.set_cons_succ]
        refine wpList_run (by kernel_rfl) (.bool true) (Wx) (exec_move rfl (by kernel_rfl)) ?_
        try simp only [put_list, List.set_cons_zero, List.set_cons_succ]
        refine wpList_runG (by kernel_rfl) (.int .i64 (n : Int)) (Wx) (exec_move rfl (by kernel_rfl)) ?_
        try simp only [put_list, List.set_cons_zero, List.set_cons_succ]
        refine wpList_runG (by kernel_rfl) (.slice A n c) (Wx) (exec_move rfl (by kernel_rfl)) ?_
        try simp only [put_list, List.set_cons_zero, List.set_cons_succ]
        refine wpList_runG (by kernel_rfl) (.int .i64 (n : Int)) (Wx) (exec_len (x := Go.Operand.tmp 227) (t := 24) (ty := 3) (vx := .slice A n c) (by kernel_rfl) (by kernel_rfl) (by kernel_rfl) (by kernel_rfl)) ?_
        try simp only [put_list, List.set_cons_zero, List.set_cons_succ]
        refine wpList_runG (by kernel_rfl) (.bool true) (Wx) (exec_bin (vx := .int .i64 (n : Int)) (vy := .int .i64 (n : Int)) rfl (by kernel_rfl) (eql_i _ _ _ _ _)) ?_
        try simp only [put_list, List.set_cons_zero, List.set_cons_succ]
        refine wpList_run (by kernel_rfl) (.bool true) (Wx) (exec_pick (b := true) rfl (by kernel_rfl) (by kernel_rfl)) ?_
        try simp only [put_list, List.set_cons_zero, List.set_cons_succ]
        refine wpList_run (by kernel_rfl) (.bool true) (Wx) (exec_move rfl (by kernel_rfl)) ?_
        try simp only [put_list, List.set_cons_zero, List.set_cons_succ]
        refine wpList_runG (by kernel_rfl) (.bool true) (Wx) (exec_move rfl (by kernel_rfl)) ?_
        try simp only [put_list, List.set_cons_zero, List.set_cons_succ]
        refine wpList_run (by kernel_rfl) (.bool true) (Wx) (exec_pick (b := true) rfl (by kernel_rfl) (by kernel_rfl)) ?_
        try simp only [put_list, List.set_cons_zero, List.set_cons_succ]
        refine wpList_run (by kernel_rfl) (.bool true) (Wx) (exec_move rfl (by kernel_rfl)) ?_
        try simp only [put_list, List.set_cons_zero, List.set_cons_succ]
        refine wpList_runG (by kernel_rfl) (.nilIface) (Wx) (exec_move rfl (by kernel_rfl)) ?_
        try simp only [put_list, List.set_cons_zero, List.set_cons_succ]
        refine wpList_runG (by kernel_rfl) (.bool true) (Wx) (exec_bin (vx := .nilIface) (vy := Go.Value.nilIface) rfl (by kernel_rfl) (by kernel_rfl)) ?_
        try simp only [put_list, List.set_cons_zero, List.set_cons_succ]
        refine wpList_run (by kernel_rfl) (.bool true) (Wx) (exec_pick (b := true) rfl (by kernel_rfl) (by kernel_rfl)) ?_
        try simp only [put_list, List.set_cons_zero, List.set_cons_succ]
        refine wpList_run (by kernel_rfl) (.bool true) (Wx) (exec_assign rfl (by kernel_rfl)) ?_
        refine wpList_nil ?_
        simp only [put_list, List.set_cons_zero, List.set_cons_succ]
        have HF := Lib.hid (HB0.out.trans (hS.be.mono HB0.out.size))
        clear hS hrg hsame hoc hn20 hn300 ho hon ht3 ht201 hm3
        go_wp2_with fail
        go_ret
        exact ⟨rfl, HF.out⟩
      · obtain rfl : n = hv := by have := HI.out.2; omega
        have h2 : ¬ (n : Int) < (n : Int) := by omega
        have HS := Lib.hid (show Sto E W0 wr S 1000 3 V [⟨g, kid, (n : Int), D, bys ys, false, 0⟩] by
          have hS0 := HI.out.1
          have e : (bys ys).take n = bys ys := List.take_of_length_le (by rw [bys_length, HN.out.2.2.1]; exact Nat.le_refl _)
          rw [e] at hS0
          exact hS0)
        clear HI hvn2
        go_upto_region 29 with (fail)
        clear h2
        have hS := HS.out
        clear HS
        obtain ⟨Wp, hWp⟩ : ∃ W, W = wr := ⟨_, rfl⟩
        rw [← hWp] at hS ⊢
        clear hWp
        refine wp_region_lit ?_
        try simp only [put_list, List.set_cons_zero, List.set_cons_succ]
        refine wpList_run (by kernel_rfl) (.pointer (some ⟨S, 0, none⟩)) (Wp) (exec_move rfl (by kernel_rfl)) ?_
        try simp only [put_list, List.set_cons_zero, List.set_cons_succ]
        refine wpList_run (by kernel_rfl) (.agg (arr8 32 kid)) (Wp) (exec_load (vx := .pointer (some ⟨X, 0, none⟩)) rfl (by kernel_rfl) (load_idB Wp X kid (range_new (cs := (arr8 32 kid).toList) (by simpa using heap_below HX.out hS.be)))) ?_
        refine wpList_call (by kernel_rfl) 16 #[Go.Operand.tmp 146, Go.Operand.tmp 147] #[30, 26] #[.pointer (some ⟨S, 0, none⟩), .agg (arr8 32 kid)] _ rfl (by kernel_rfl) (by kernel_rfl) (s_commit hS HK.out kid (by simp) (find_one _ _ (is_kid rfl)) rfl rfl ys rfl (by simp [HN.out.2.2.1]) (by have := HN.out; show (n : Int) ≤ 30000; omega) (by rw [HN.out.2.2.2]; exact beq_self_eq_true _)) ?_
        rintro r Wq ⟨rfl, hS2, _⟩
        clear hS
        have hS : Sto E W0 Wq S 1000 3 V [⟨g, kid, (n : Int), D, bys ys, true, 0⟩] := hS2
        clear hS2
        refine ⟨_, rfl, ?_⟩
        try simp only [put_list, List.set_cons_zero, List.set_cons_succ]
        refine wpList_run (by kernel_rfl) (.bool false) (Wq) (exec_bin (vx := .nilIface) (vy := Go.Value.nilIface) rfl (by kernel_rfl) (by kernel_rfl)) ?_
        try simp only [put_list, List.set_cons_zero, List.set_cons_succ]
        refine wpList_run (by kernel_rfl) (.bool false) (Wq) (exec_move rfl (by kernel_rfl)) ?_
        try simp only [put_list, List.set_cons_zero, List.set_cons_succ]
        refine wpList_runG (by kernel_rfl) (.pointer (some ⟨S, 0, none⟩)) (Wq) (exec_move rfl (by kernel_rfl)) ?_
        try simp only [put_list, List.set_cons_zero, List.set_cons_succ]
        refine wpList_runG (by kernel_rfl) (.agg (arr8 32 kid)) (Wq) (exec_load (vx := .pointer (some ⟨X, 0, none⟩)) rfl (by kernel_rfl) (load_idB Wq X kid (range_new (cs := (arr8 32 kid).toList) (by simpa using heap_below HX.out hS.be)))) ?_
        refine wpList_call (by kernel_rfl) 16 #[Go.Operand.tmp 151, Go.Operand.tmp 152] #[30, 26] #[.pointer (some ⟨S, 0, none⟩), .agg (arr8 32 kid)] _ rfl (by kernel_rfl) (by kernel_rfl) (s_commitD hS kid (by simp) (find_one _ _ (is_kid rfl)) rfl rfl) ?_
        rintro r Wr ⟨rfl, hS2, _⟩
        clear hS
        have hS : Sto E W0 Wr S 1000 3 V [⟨g, kid, (n : Int), D, bys ys, true, 0⟩] := hS2
        clear hS2
        refine ⟨_, rfl, ?_⟩
        try simp only [put_list, List.set_cons_zero, List.set_cons_succ]
        refine wpList_runG (by kernel_rfl) (.bool false) (Wr) (exec_bin (vx := .nilIface) (vy := Go.Value.nilIface) rfl (by kernel_rfl) (by kernel_rfl)) ?_
        try simp only [put_list, List.set_cons_zero, List.set_cons_succ]
        refine wpList_run (by kernel_rfl) (.bool false) (Wr) (exec_pick (b := false) rfl (by kernel_rfl) (by kernel_rfl)) ?_
        refine wpList_nil ?_
        simp only [put_list, List.set_cons_zero, List.set_cons_succ]
        have HS := Lib.hid hS
        clear hS
        go_upto_region 31 with (fail)
        have hS := HS.out
        clear HS
        obtain ⟨hn20, hn300, _, _⟩ := HN.out
        obtain ⟨o, ho, hon⟩ := exists_mod off ((n : Int) + 1) (by omega)
        obtain ⟨t3, ht3, ht201⟩ := exists_mod nn 201 (by omega)
        obtain ⟨m3, hm3⟩ : ∃ m3, m3 = min t3 (n - o) := ⟨_, rfl⟩
        have HO := Lib.hid (And.intro hn20 (And.intro hn300 (And.intro ho (And.intro hon (And.intro ht3 (And.intro ht201 hm3))))))
        refine wp_region_lit ?_
        try simp only [put_list, List.set_cons_zero, List.set_cons_succ]
        refine wpList_run (by kernel_rfl) (.int .i64 off) (Wr) (exec_move rfl (by kernel_rfl)) ?_
        try simp only [put_list, List.set_cons_zero, List.set_cons_succ]
        refine wpList_run (by kernel_rfl) (.slice A n c) (Wr) (exec_move rfl (by kernel_rfl)) ?_
        try simp only [put_list, List.set_cons_zero, List.set_cons_succ]
        refine wpList_run (by kernel_rfl) (.int .i64 (n : Int)) (Wr) (exec_len (x := Go.Operand.tmp 157) (t := 24) (ty := 3) (vx := .slice A n c) (by kernel_rfl) (by kernel_rfl) (by kernel_rfl) (by kernel_rfl)) ?_
        try simp only [put_list, List.set_cons_zero, List.set_cons_succ]
        refine wpList_run (by kernel_rfl) (.int .i64 ((n : Int) + 1)) (Wr) (exec_bin (vx := .int .i64 (n : Int)) (vy := Go.Value.int Go.IntKind.i64 1) rfl (by kernel_rfl) (add_i _ _ _ _ _ (by omega) (by omega) _)) ?_
        refine wpList_call (by kernel_rfl) 10 #[Go.Operand.tmp 156, Go.Operand.tmp 159] #[3, 3] #[.int .i64 off, .int .i64 ((n : Int) + 1)] _ rfl (by kernel_rfl) (by kernel_rfl) (number_nat off ((n : Int) + 1) o Wr (by omega) ho) ?_
        rintro r Y ⟨rfl, q6, rfl⟩
        refine ⟨_, rfl, ?_⟩
        try simp only [put_list, List.set_cons_zero, List.set_cons_succ]
        refine wpList_run (by kernel_rfl) (.int .i64 (o : Int)) ((Wr.drewN q6)) (exec_assign rfl (by kernel_rfl)) ?_
        refine wpList_nil ?_
        simp only [put_list, List.set_cons_zero, List.set_cons_succ]
        clear hn20 hn300 ho hon ht3 ht201 hm3
        have HS := Lib.hid hS
        clear hS
        go_upto_region 32 with (fail)
        have hS := HS.out
        clear HS
        obtain ⟨hn20, hn300, ho, hon, ht3, ht201, hm3⟩ := HO.out
        refine wp_region_lit ?_
        try simp only [put_list, List.set_cons_zero, List.set_cons_succ]
        refine wpList_run (by kernel_rfl) (.int .i64 nn) ((Wr.drewN q6)) (exec_move rfl (by kernel_rfl)) ?_
        refine wpList_call (by kernel_rfl) 10 #[Go.Operand.tmp 161, Go.Operand.const (Go.Value.int Go.IntKind.i64 201)] #[3, 3] #[.int .i64 nn, Go.Value.int Go.IntKind.i64 201] _ rfl (by kernel_rfl) (by kernel_rfl) (number_nat nn 201 t3 (Wr.drewN q6) (by omega) ht3) ?_
        rintro r Y ⟨rfl, q7, rfl⟩
        refine ⟨_, rfl, ?_⟩
        try simp only [put_list, List.set_cons_zero, List.set_cons_succ]
        refine wpList_run (by kernel_rfl) (.slice A n c) (((Wr.drewN q6).drewN q7)) (exec_move rfl (by kernel_rfl)) ?_
        try simp only [put_list, List.set_cons_zero, List.set_cons_succ]
        refine wpList_run (by kernel_rfl) (.int .i64 (n : Int)) (((Wr.drewN q6).drewN q7)) (exec_len (x := Go.Operand.tmp 163) (t := 24) (ty := 3) (vx := .slice A n c) (by kernel_rfl) (by kernel_rfl) (by kernel_rfl) (by kernel_rfl)) ?_
        try simp only [put_list, List.set_cons_zero, List.set_cons_succ]
        refine wpList_run (by kernel_rfl) (.int .i64 (o : Int)) (((Wr.drewN q6).drewN q7)) (exec_move rfl (by kernel_rfl)) ?_
        try simp only [put_list, List.set_cons_zero, List.set_cons_succ]
        refine wpList_run (by kernel_rfl) (.int .i64 ((n : Int) - o)) (((Wr.drewN q6).drewN q7)) (exec_bin (vx := .int .i64 (n : Int)) (vy := .int .i64 (o : Int)) rfl (by kernel_rfl) (sub_i _ _ _ _ _ (by omega) (by omega) _)) ?_
        try simp only [put_list, List.set_cons_zero, List.set_cons_succ]
        refine wpList_run (by kernel_rfl) (.int .i64 (m3 : Int)) (((Wr.drewN q6).drewN q7)) (exec_min (x := .tmp 162) (y := .tmp 166) (t := 3) (ty := 3) (va := .int .i64 (t3 : Int)) (vb := .int .i64 ((n : Int) - o)) (by kernel_rfl) (by kernel_rfl) (by kernel_rfl) (by rw [run_min_int2]; congr 2; split <;> omega)) ?_
        try simp only [put_list, List.set_cons_zero, List.set_cons_succ]
        refine wpList_run (by kernel_rfl) (.int .i64 (m3 : Int)) (((Wr.drewN q6).drewN q7)) (exec_assign rfl (by kernel_rfl)) ?_
        refine wpList_nil ?_
        simp only [put_list, List.set_cons_zero, List.set_cons_succ]
        replace hS := (hS.drewN q6).drewN q7
        clear hn20 hn300 ho hon ht3 ht201 hm3
        have HS := Lib.hid hS
        clear hS
        go_upto_region 33 with (fail)
        have hS := HS.out
        clear HS
        obtain ⟨hn20, hn300, ho, hon, ht3, ht201, hm3⟩ := HO.out
        generalize ((Wr.drewN q6).drewN q7) = Ws at *
        refine wp_region_lit ?_
        try simp only [put_list, List.set_cons_zero, List.set_cons_succ]
        refine wpList_run (by kernel_rfl) (.pointer (some ⟨S, 0, none⟩)) (Ws) (exec_move rfl (by kernel_rfl)) ?_
        try simp only [put_list, List.set_cons_zero, List.set_cons_succ]
        refine wpList_run (by kernel_rfl) (.agg (arr8 32 kid)) (Ws) (exec_load (vx := .pointer (some ⟨X, 0, none⟩)) rfl (by kernel_rfl) (load_idB Ws X kid (range_new (cs := (arr8 32 kid).toList) (by simpa using heap_below HX.out hS.be)))) ?_
        try simp only [put_list, List.set_cons_zero, List.set_cons_succ]
        refine wpList_run (by kernel_rfl) (.int .i64 (o : Int)) (Ws) (exec_move rfl (by kernel_rfl)) ?_
        try simp only [put_list, List.set_cons_zero, List.set_cons_succ]
        refine wpList_run (by kernel_rfl) (.int .i64 (m3 : Int)) (Ws) (exec_move rfl (by kernel_rfl)) ?_
        refine wpList_call (by kernel_rfl) 15 #[Go.Operand.tmp 169, Go.Operand.tmp 170, Go.Operand.tmp 171, Go.Operand.tmp 172] #[30, 26, 3, 3] #[.pointer (some ⟨S, 0, none⟩), .agg (arr8 32 kid), .int .i64 (o : Int), .int .i64 (m3 : Int)] _ rfl (by kernel_rfl) (by kernel_rfl) (s_get hS kid (by simp) (find_one _ _ (is_kid rfl)) rfl rfl o m3 (by omega) (by show o + m3 ≤ (bys ys).length; rw [bys_length, HN.out.2.2.1]; omega) (by show ((bys ys).length : Int) = n; rw [bys_length, HN.out.2.2.1]) (by show (n : Int) ≤ 30000; omega)) ?_
        rintro r Wt ⟨Ag, cg, rfl, hS2, _, hog⟩
        have hltS := fun x (hx : stF S V [⟨g, kid, (n : Int), D, bys ys, true, 0⟩] x) => hS.st.lt hx
        clear hS
        have hS : Sto E W0 Wt S 1000 3 V [⟨g, kid, (n : Int), D, bys ys, true, 0⟩] := hS2
        clear hS2
        refine ⟨_, rfl, ?_⟩
        try simp only [put_list, List.set_cons_zero, List.set_cons_succ]
        refine wpList_run (by kernel_rfl) (.tuple #[.slice Ag m3 cg, .nilIface]) (Wt) (exec_move rfl (by kernel_rfl)) ?_
        try simp only [put_list, List.set_cons_zero, List.set_cons_succ]
        refine wpList_run (by kernel_rfl) (.slice Ag m3 cg) (Wt) (exec_extract (vx := .tuple #[.slice Ag m3 cg, .nilIface]) rfl (by kernel_rfl) (by kernel_rfl)) ?_
        try simp only [put_list, List.set_cons_zero, List.set_cons_succ]
        refine wpList_run (by kernel_rfl) (.nilIface) (Wt) (exec_extract (vx := .tuple #[.slice Ag m3 cg, .nilIface]) rfl (by kernel_rfl) (by kernel_rfl)) ?_
        try simp only [put_list, List.set_cons_zero, List.set_cons_succ]
        refine wpList_run (by kernel_rfl) (.slice Ag m3 cg) (Wt) (exec_assign rfl (by kernel_rfl)) ?_
        try simp only [put_list, List.set_cons_zero, List.set_cons_succ]
        refine wpList_run (by kernel_rfl) (.nilIface) (Wt) (exec_assign rfl (by kernel_rfl)) ?_
        refine wpList_nil ?_
        simp only [put_list, List.set_cons_zero, List.set_cons_succ]
        have hrg : SlRead Wt Ag (ints .u8 (((bys ys).drop o).take m3)) := own_read1 hog
        have HGA : Hid (∀ b o', Ag = some ⟨b, o', none⟩ → ¬ stF S V [⟨g, kid, (n : Int), D, bys ys, true, 0⟩] b) := fun b o' e hx => by
          have h1 := hltS b hx
          have h2 := (hog.lt b (by rw [e]; rfl)).1
          omega
        clear hog hltS
        have HR := Lib.hid hrg
        clear hrg
        clear hn20 hn300 ho hon ht3 ht201 hm3
        have HS := Lib.hid hS
        clear hS
        go_upto_region 34 with (fail)
        have hS := HS.out
        clear HS
        obtain ⟨hn20, hn300, ho, hon, ht3, ht201, hm3⟩ := HO.out
        have hrg := HR.out
        clear HR
        refine wp_region_lit ?_
        try simp only [put_list, List.set_cons_zero, List.set_cons_succ]
        refine wpList_run (by kernel_rfl) (.pointer (some ⟨S, 0, none⟩)) (Wt) (exec_move rfl (by kernel_rfl)) ?_
        try simp only [put_list, List.set_cons_zero, List.set_cons_succ]
        refine wpList_run (by kernel_rfl) (.agg (arr8 32 kid)) (Wt) (exec_load (vx := .pointer (some ⟨X, 0, none⟩)) rfl (by kernel_rfl) (load_idB Wt X kid (range_new (cs := (arr8 32 kid).toList) (by simpa using heap_below HX.out hS.be)))) ?_
        try simp only [put_list, List.set_cons_zero, List.set_cons_succ]
        refine wpList_run (by kernel_rfl) (.slice A n c) (Wt) (exec_move rfl (by kernel_rfl)) ?_
        refine wpList_call (by kernel_rfl) 14 #[Go.Operand.tmp 177, Go.Operand.tmp 178, Go.Operand.const (Go.Value.int Go.IntKind.i64 0), Go.Operand.tmp 179] #[30, 26, 3, 24] #[.pointer (some ⟨S, 0, none⟩), .agg (arr8 32 kid), Go.Value.int Go.IntKind.i64 0, .slice A n c] _ rfl (by kernel_rfl) (by kernel_rfl) (s_putS hS kid 0 A n c (by simp) (find_one _ _ (is_kid rfl)) rfl rfl) ?_
        rintro r Wt2 ⟨rfl, hS2, ht⟩
        replace hrg := hrg.turnedA ht (fun b o e => HGA.out b o e)
        clear hS
        have hS : Sto E W0 Wt2 S 1000 3 V [⟨g, kid, (n : Int), D, bys ys, true, 0⟩] := hS2
        clear hS2 ht
        refine ⟨_, rfl, ?_⟩
        try simp only [put_list, List.set_cons_zero, List.set_cons_succ]
        refine wpList_run (by kernel_rfl) (.tuple #[.int .i64 0, errV (E 16)]) (Wt2) (exec_move rfl (by kernel_rfl)) ?_
        try simp only [put_list, List.set_cons_zero, List.set_cons_succ]
        refine wpList_run (by kernel_rfl) (.int .i64 0) (Wt2) (exec_extract (vx := .tuple #[.int .i64 0, errV (E 16)]) rfl (by kernel_rfl) (by kernel_rfl)) ?_
        try simp only [put_list, List.set_cons_zero, List.set_cons_succ]
        refine wpList_run (by kernel_rfl) (errV (E 16)) (Wt2) (exec_extract (vx := .tuple #[.int .i64 0, errV (E 16)]) rfl (by kernel_rfl) (by kernel_rfl)) ?_
        try simp only [put_list, List.set_cons_zero, List.set_cons_succ]
        refine wpList_run (by kernel_rfl) (.int .i64 0) (Wt2) (exec_assign rfl (by kernel_rfl)) ?_
        try simp only [put_list, List.set_cons_zero, List.set_cons_succ]
        refine wpList_run (by kernel_rfl) (errV (E 16)) (Wt2) (exec_assign rfl (by kernel_rfl)) ?_
        refine wpList_nil ?_
        simp only [put_list, List.set_cons_zero, List.set_cons_succ]
        have HR := Lib.hid hrg
        clear hrg
        clear hn20 hn300 ho hon ht3 ht201 hm3
        have HS := Lib.hid hS
        clear hS
        go_upto_region 35 with (fail)
        have hS := HS.out
        clear HS
        obtain ⟨hn20, hn300, ho, hon, ht3, ht201, hm3⟩ := HO.out
        have hrg := HR.out
        clear HR
        refine wp_region_lit ?_
        try simp only [put_list, List.set_cons_zero, List.set_cons_succ]
        refine wpList_run (by kernel_rfl) (.pointer (some ⟨S, 0, none⟩)) (Wt2) (exec_move rfl (by kernel_rfl)) ?_
        try simp only [put_list, List.set_cons_zero, List.set_cons_succ]
        refine wpList_run (by kernel_rfl) (.agg (arr8 32 kid)) (Wt2) (exec_load (vx := .pointer (some ⟨X, 0, none⟩)) rfl (by kernel_rfl) (load_idB Wt2 X kid (range_new (cs := (arr8 32 kid).toList) (by simpa using heap_below HX.out hS.be)))) ?_
        try simp only [put_list, List.set_cons_zero, List.set_cons_succ]
        refine wpList_run (by kernel_rfl) (.int .i64 (o : Int)) (Wt2) (exec_move rfl (by kernel_rfl)) ?_
        try simp only [put_list, List.set_cons_zero, List.set_cons_succ]
        refine wpList_run (by kernel_rfl) (.slice A n c) (Wt2) (exec_move rfl (by kernel_rfl)) ?_
        try simp only [put_list, List.set_cons_zero, List.set_cons_succ]
        refine wpList_run (by kernel_rfl) (.int .i64 (n : Int)) (Wt2) (exec_len (x := Go.Operand.tmp 187) (t := 24) (ty := 3) (vx := .slice A n c) (by kernel_rfl) (by kernel_rfl) (by kernel_rfl) (by kernel_rfl)) ?_
        try simp only [put_list, List.set_cons_zero, List.set_cons_succ]
        refine wpList_run (by kernel_rfl) (.int .i64 (o : Int)) (Wt2) (exec_move rfl (by kernel_rfl)) ?_
        try simp only [put_list, List.set_cons_zero, List.set_cons_succ]
        refine wpList_run (by kernel_rfl) (.int .i64 ((n : Int) - o)) (Wt2) (exec_bin (vx := .int .i64 (n : Int)) (vy := .int .i64 (o : Int)) rfl (by kernel_rfl) (sub_i _ _ _ _ _ (by omega) (by omega) _)) ?_
        try simp only [put_list, List.set_cons_zero, List.set_cons_succ]
        refine wpList_run (by kernel_rfl) (.int .i64 ((n : Int) - o + 1)) (Wt2) (exec_bin (vx := .int .i64 ((n : Int) - o)) (vy := Go.Value.int Go.IntKind.i64 1) rfl (by kernel_rfl) (add_i _ _ _ _ _ (by omega) (by omega) _)) ?_
        refine wpList_call (by kernel_rfl) 15 #[Go.Operand.tmp 184, Go.Operand.tmp 185, Go.Operand.tmp 186, Go.Operand.tmp 191] #[30, 26, 3, 3] #[.pointer (some ⟨S, 0, none⟩), .agg (arr8 32 kid), .int .i64 (o : Int), .int .i64 ((n : Int) - o + 1)] _ rfl (by kernel_rfl) (by kernel_rfl) (s_getR hS kid (by simp) (find_one _ _ (is_kid rfl)) rfl rfl (o : Int) ((n : Int) - o + 1) (by omega) (by omega) (by have := HN.out; show 0 ≤ (n : Int) ∧ (n : Int) ≤ 30000; omega) (.inr (by show (n : Int) - ((n : Int) - o + 1) < o; omega))) ?_
        rintro r Wu ⟨rfl, hS2, ht⟩
        replace hrg := hrg.turnedA ht (fun b o e => HGA.out b o e)
        clear hS
        have hS : Sto E W0 Wu S 1000 3 V [⟨g, kid, (n : Int), D, bys ys, true, 0⟩] := hS2
        clear hS2 ht
        refine ⟨_, rfl, ?_⟩
        try simp only [put_list, List.set_cons_zero, List.set_cons_succ]
        refine wpList_run (by kernel_rfl) (.tuple #[.slice none 0 0, errV (E 1)]) (Wu) (exec_move rfl (by kernel_rfl)) ?_
        try simp only [put_list, List.set_cons_zero, List.set_cons_succ]
        refine wpList_run (by kernel_rfl) (.slice none 0 0) (Wu) (exec_extract (vx := .tuple #[.slice none 0 0, errV (E 1)]) rfl (by kernel_rfl) (by kernel_rfl)) ?_
        try simp only [put_list, List.set_cons_zero, List.set_cons_succ]
        refine wpList_run (by kernel_rfl) (errV (E 1)) (Wu) (exec_extract (vx := .tuple #[.slice none 0 0, errV (E 1)]) rfl (by kernel_rfl) (by kernel_rfl)) ?_
        try simp only [put_list, List.set_cons_zero, List.set_cons_succ]
        refine wpList_run (by kernel_rfl) (.slice none 0 0) (Wu) (exec_assign rfl (by kernel_rfl)) ?_
        try simp only [put_list, List.set_cons_zero, List.set_cons_succ]
        refine wpList_run (by kernel_rfl) (errV (E 1)) (Wu) (exec_assign rfl (by kernel_rfl)) ?_
        refine wpList_nil ?_
        simp only [put_list, List.set_cons_zero, List.set_cons_succ]
        have HR := Lib.hid hrg
        clear hrg
        clear hn20 hn300 ho hon ht3 ht201 hm3
        have HS := Lib.hid hS
        clear hS
        go_upto_region 36 with (fail)
        have hS := HS.out
        clear HS
        obtain ⟨hn20, hn300, ho, hon, ht3, ht201, hm3⟩ := HO.out
        have hrg := HR.out
        clear HR
        refine wp_region_lit ?_
        try simp only [put_list, List.set_cons_zero, List.set_cons_succ]
        refine wpList_run (by kernel_rfl) (.pointer (some ⟨S, 0, none⟩)) (Wu) (exec_move rfl (by kernel_rfl)) ?_
        try simp only [put_list, List.set_cons_zero, List.set_cons_succ]
        refine wpList_run (by kernel_rfl) (.agg (arr8 32 kid)) (Wu) (exec_load (vx := .pointer (some ⟨X, 0, none⟩)) rfl (by kernel_rfl) (load_idB Wu X kid (range_new (cs := (arr8 32 kid).toList) (by simpa using heap_below HX.out hS.be)))) ?_
        refine wpList_call (by kernel_rfl) 17 #[Go.Operand.tmp 196, Go.Operand.tmp 197] #[30, 26] #[.pointer (some ⟨S, 0, none⟩), .agg (arr8 32 kid)] _ rfl (by kernel_rfl) (by kernel_rfl) ((s_stat hS kid (by simp) (find_one _ _ (is_kid rfl)) rfl).mono fun r W' h => (⟨h.1.trans (by show Ending.returned (Value.tuple #[.int .i64 ((bys ys).length : Int), .bool true, .nilIface]) = _; rw [bys_length, HN.out.2.2.1]), h.2⟩ : r = Ending.returned (Value.tuple #[.int .i64 (n : Int), .bool true, .nilIface]) ∧ _)) ?_
        rintro r Wv ⟨rfl, hS2, ht⟩
        replace hrg := hrg.turnedA ht (fun b o e => HGA.out b o e)
        clear hS
        have hS : Sto E W0 Wv S 1000 3 V [⟨g, kid, (n : Int), D, bys ys, true, 0⟩] := hS2
        clear hS2 ht
        refine ⟨_, rfl, ?_⟩
        try simp only [put_list, List.set_cons_zero, List.set_cons_succ]
        refine wpList_run (by kernel_rfl) (.tuple #[.int .i64 (n : Int), .bool true, .nilIface]) (Wv) (exec_move rfl (by kernel_rfl)) ?_
        try simp only [put_list, List.set_cons_zero, List.set_cons_succ]
        refine wpList_run (by kernel_rfl) (.int .i64 (n : Int)) (Wv) (exec_extract (vx := .tuple #[.int .i64 (n : Int), .bool true, .nilIface]) rfl (by kernel_rfl) (by kernel_rfl)) ?_
        try simp only [put_list, List.set_cons_zero, List.set_cons_succ]
        refine wpList_run (by kernel_rfl) (.bool true) (Wv) (exec_extract (vx := .tuple #[.int .i64 (n : Int), .bool true, .nilIface]) rfl (by kernel_rfl) (by kernel_rfl)) ?_
        try simp only [put_list, List.set_cons_zero, List.set_cons_succ]
        refine wpList_run (by kernel_rfl) (.nilIface) (Wv) (exec_extract (vx := .tuple #[.int .i64 (n : Int), .bool true, .nilIface]) rfl (by kernel_rfl) (by kernel_rfl)) ?_
        try simp only [put_list, List.set_cons_zero, List.set_cons_succ]
        refine wpList_run (by kernel_rfl) (.int .i64 (n : Int)) (Wv) (exec_assign rfl (by kernel_rfl)) ?_
        try simp only [put_list, List.set_cons_zero, List.set_cons_succ]
        refine wpList_run (by kernel_rfl) (.bool true) (Wv) (exec_assign rfl (by kernel_rfl)) ?_
        try simp only [put_list, List.set_cons_zero, List.set_cons_succ]
        refine wpList_run (by kernel_rfl) (.nilIface) (Wv) (exec_assign rfl (by kernel_rfl)) ?_
        refine wpList_nil ?_
        simp only [put_list, List.set_cons_zero, List.set_cons_succ]
        have HR := Lib.hid hrg
        clear hrg
        clear hn20 hn300 ho hon ht3 ht201 hm3
        have HS := Lib.hid hS
        clear hS
        go_upto_region 37 with (fail)
        have hS := HS.out
        clear HS
        obtain ⟨hn20, hn300, ho, hon, ht3, ht201, hm3⟩ := HO.out
        have hrg := HR.out
        clear HR
        have hoc : o + m3 ≤ c := by have := HA.out.2.1; omega
        have hsame : Quiets Tryd.prog 18 #[.slice Ag m3 cg, .slice (cutA A o c) m3 (c - o)] Wv (.bool true) := by
          have hl1 : (((bys ys).drop o).take m3).length = m3 := by rw [List.length_take, List.length_drop, bys_length, HN.out.2.2.1]; omega
          have h2 : SlRead Wv (cutA A o c) (ints .u8 (((bys ys).drop o).take m3)) := fun hp => by
            have hm0 : 0 < m3 := by
              have h9 : 0 < (((bys ys).drop o).take m3).length := by simpa only [ints, List.length_map] using hp
              omega
            have h6 := (((HA.out.1.below hS.be).cut o (cutA A o c) fun _ b o' e1 => by rw [e1]; exact cutA_some (n := n) (by omega) HA.out.2.1)).take m3
            rw [ints_take] at h6
            exact h6 hp
          have h3 := sameBytes_any Ag (cutA A o c) _ _ cg (c - o) Wv hrg h2 (by rw [hl1]; omega) (by rw [hl1]; omega)
          rw [hl1, decide_eq_true rfl] at h3
          exact h3
        refine wp_region_lit ?_
        try simp only [put_list, List.set_cons_zero, List.set_cons_succ]
        refine wpList_run (by kernel_rfl) (.bool true) (Wv) (exec_move rfl (by kernel_rfl)) ?_
        try simp only [put_list, List.set_cons_zero, List.set_cons_succ]
        refine wpList_run (by kernel_rfl) (.bool true) (Wv) (exec_move rfl (by kernel_rfl)) ?_
        try simp only [put_list, List.set_cons_zero, List.set_cons_succ]
        refine wpList_runG (by kernel_rfl) (.nilIface) (Wv) (exec_move rfl (by kernel_rfl)) ?_
        try simp only [put_list, List.set_cons_zero, List.set_cons_succ]
        refine wpList_runG (by kernel_rfl) (.bool true) (Wv) (exec_bin (vx := .nilIface) (vy := Go.Value.nilIface) rfl (by kernel_rfl) (by kernel_rfl)) ?_
        try simp only [put_list, List.set_cons_zero, List.set_cons_succ]
        refine wpList_run (by kernel_rfl) (.bool true) (Wv) (exec_pick (b := true) rfl (by kernel_rfl) (by kernel_rfl)) ?_
        try simp only [put_list, List.set_cons_zero, List.set_cons_succ]
        refine wpList_run (by kernel_rfl) (.bool true) (Wv) (exec_move rfl (by kernel_rfl)) ?_
        try simp only [put_list, List.set_cons_zero, List.set_cons_succ]
        refine wpList_runG (by kernel_rfl) (.slice Ag m3 cg) (Wv) (exec_move rfl (by kernel_rfl)) ?_
        try simp only [put_list, List.set_cons_zero, List.set_cons_succ]
        refine wpList_runG (by kernel_rfl) (.slice A n c) (Wv) (exec_move rfl (by kernel_rfl)) ?_
        try simp only [put_list, List.set_cons_zero, List.set_cons_succ]
        refine wpList_runG (by kernel_rfl) (.int .i64 (o : Int)) (Wv) (exec_move rfl (by kernel_rfl)) ?_
        try simp only [put_list, List.set_cons_zero, List.set_cons_succ]
        refine wpList_runG (by kernel_rfl) (.int .i64 (o : Int)) (Wv) (exec_move rfl (by kernel_rfl)) ?_
        try simp only [put_list, List.set_cons_zero, List.set_cons_succ]
        refine wpList_runG (by kernel_rfl) (.int .i64 (m3 : Int)) (Wv) (exec_move rfl (by kernel_rfl)) ?_
        try simp only [put_list, List.set_cons_zero, List.set_cons_succ]
        refine wpList_runG (by kernel_rfl) (.int .i64 ((o : Int) + m3)) (Wv) (exec_bin (vx := .int .i64 (o : Int)) (vy := .int .i64 (m3 : Int)) rfl (by kernel_rfl) (add_i _ _ _ _ _ (by omega) (by omega) _)) ?_
        try simp only [put_list, List.set_cons_zero, List.set_cons_succ]
        refine wpList_runG (by kernel_rfl) (.slice (cutA A o c) m3 (c - o)) (Wv) (exec_slice (vx := .slice A n c) (l := some (.int .i64 (o : Int))) (h := some (.int .i64 ((o : Int) + m3))) (m := none) rfl (by kernel_rfl) (slice_cut Tryd.underlying24 (by kernel_rfl) A n c o m3 (by omega) _)) ?_
        refine wpList_call (by kernel_rfl) 18 #[Go.Operand.tmp 208, Go.Operand.tmp 214] #[24, 24] #[.slice Ag m3 cg, .slice (cutA A o c) m3 (c - o)] _ rfl (by kernel_rfl) (by kernel_rfl) (hsame) ?_
        rintro r Y ⟨rfl, q9, rfl⟩
        have hS2 := hS.drewN q9
        clear hS
        have hS := hS2
        clear hS2
        refine ⟨_, rfl, ?_⟩
        try simp only [put_list, List.set_cons_zero, List.set_cons_succ]
        refine wpList_run (by kernel_rfl) (.bool true) ((Wv.drewN q9)) (exec_pick (b := true) rfl (by kernel_rfl) (by kernel_rfl)) ?_
        try simp only [put_list, List.set_cons_zero, List.set_cons_succ]
        refine wpList_run (by kernel_rfl) (.bool true) ((Wv.drewN q9)) (exec_move rfl (by kernel_rfl)) ?_
        try simp only [put_list, List.set_cons_zero, List.set_cons_succ]
        refine wpList_runG (by kernel_rfl) (errV (E 16)) ((Wv.drewN q9)) (exec_move rfl (by kernel_rfl)) ?_
        refine wpList_call (by kernel_rfl) 13 #[Go.Operand.tmp 218, Go.Operand.const (Go.Value.int Go.IntKind.i64 117)] #[33, 3] #[errV (E 16), Go.Value.int Go.IntKind.i64 117] _ rfl (by kernel_rfl) (by kernel_rfl) (is_yes E 16 (by decide) (Wv.drewN q9) hS.errs) ?_
        rintro r Ww ⟨rfl, hb⟩
        have hS2 := hS.below hb
        clear hS hb
        have hS := hS2
        clear hS2
        refine ⟨_, rfl, ?_⟩
        try simp only [put_list, List.set_cons_zero, List.set_cons_succ]
        refine wpList_run (by kernel_rfl) (.bool true) (Ww) (exec_pick (b := true) rfl (by kernel_rfl) (by kernel_rfl)) ?_
        try simp only [put_list, List.set_cons_zero, List.set_cons_succ]
        refine wpList_run (by kernel_rfl) (.bool true) (Ww) (exec_move rfl (by kernel_rfl)) ?_
        try simp only [put_list, List.set_cons_zero, List.set_cons_succ]
        refine wpList_runG (by kernel_rfl) (errV (E 1)) (Ww) (exec_move rfl (by kernel_rfl)) ?_
        refine wpList_call (by kernel_rfl) 13 #[Go.Operand.tmp 222, Go.Operand.const (Go.Value.int Go.IntKind.i64 102)] #[33, 3] #[errV (E 1), Go.Value.int Go.IntKind.i64 102] _ rfl (by kernel_rfl) (by kernel_rfl) (is_yes E 1 (by decide) Ww hS.errs) ?_
        rintro r Wx ⟨rfl, hb⟩
        have hS2 := hS.below hb
        clear hS hb
        have hS := hS2
        clear hS2
        refine ⟨_, rfl, ?_⟩
        try simp only [put_list, List.set_cons_zero, List.set_cons_succ]
        refine wpList_run (by kernel_rfl) (.bool true) (Wx) (exec_pick (b := true) rfl (by kernel_rfl) (by kernel_rfl)) ?_
        try simp only [put_list, List.set_cons_zero, List.set_cons_succ]
        refine wpList_run (by kernel_rfl) (.bool true) (Wx) (exec_move rfl (by kernel_rfl)) ?_
        try simp only [put_list, List.set_cons_zero, List.set_cons_succ]
        refine wpList_runG (by kernel_rfl) (.int .i64 (n : Int)) (Wx) (exec_move rfl (by kernel_rfl)) ?_
        try simp only [put_list, List.set_cons_zero, List.set_cons_succ]
        refine wpList_runG (by kernel_rfl) (.slice A n c) (Wx) (exec_move rfl (by kernel_rfl)) ?_
        try simp only [put_list, List.set_cons_zero, List.set_cons_succ]
        refine wpList_runG (by kernel_rfl) (.int .i64 (n : Int)) (Wx) (exec_len (x := Go.Operand.tmp 227) (t := 24) (ty := 3) (vx := .slice A n c) (by kernel_rfl) (by kernel_rfl) (by kernel_rfl) (by kernel_rfl)) ?_
        try simp only [put_list, List.set_cons_zero, List.set_cons_succ]
        refine wpList_runG (by kernel_rfl) (.bool true) (Wx) (exec_bin (vx := .int .i64 (n : Int)) (vy := .int .i64 (n : Int)) rfl (by kernel_rfl) (eql_i _ _ _ _ _)) ?_
        try simp only [put_list, List.set_cons_zero, List.set_cons_succ]
        refine wpList_run (by kernel_rfl) (.bool true) (Wx) (exec_pick (b := true) rfl (by kernel_rfl) (by kernel_rfl)) ?_
        try simp only [put_list, List.set_cons_zero, List.set_cons_succ]
        refine wpList_run (by kernel_rfl) (.bool true) (Wx) (exec_move rfl (by kernel_rfl)) ?_
        try simp only [put_list, List.set_cons_zero, List.set_cons_succ]
        refine wpList_runG (by kernel_rfl) (.bool true) (Wx) (exec_move rfl (by kernel_rfl)) ?_
        try simp only [put_list, List.set_cons_zero, List.set_cons_succ]
        refine wpList_run (by kernel_rfl) (.bool true) (Wx) (exec_pick (b := true) rfl (by kernel_rfl) (by kernel_rfl)) ?_
        try simp only [put_list, List.set_cons_zero, List.set_cons_succ]
        refine wpList_run (by kernel_rfl) (.bool true) (Wx) (exec_move rfl (by kernel_rfl)) ?_
        try simp only [put_list, List.set_cons_zero, List.set_cons_succ]
        refine wpList_runG (by kernel_rfl) (.nilIface) (Wx) (exec_move rfl (by kernel_rfl)) ?_
        try simp only [put_list, List.set_cons_zero, List.set_cons_succ]
        refine wpList_runG (by kernel_rfl) (.bool true) (Wx) (exec_bin (vx := .nilIface) (vy := Go.Value.nilIface) rfl (by kernel_rfl) (by kernel_rfl)) ?_
        try simp only [put_list, List.set_cons_zero, List.set_cons_succ]
        refine wpList_run (by kernel_rfl) (.bool true) (Wx) (exec_pick (b := true) rfl (by kernel_rfl) (by kernel_rfl)) ?_
        try simp only [put_list, List.set_cons_zero, List.set_cons_succ]
        refine wpList_run (by kernel_rfl) (.bool true) (Wx) (exec_assign rfl (by kernel_rfl)) ?_
        refine wpList_nil ?_
        simp only [put_list, List.set_cons_zero, List.set_cons_succ]
        have HF := Lib.hid (HB0.out.trans (hS.be.mono HB0.out.size))
        clear hS hrg hsame hoc hn20 hn300 ho hon ht3 ht201 hm3
        go_wp2_with fail
        go_ret
        exact ⟨rfl, HF.out⟩
end Go.Proofs.YtegijahkiopncaaDoor
