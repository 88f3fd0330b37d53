import Derived.Test.YtklooieghlnblaaSky
/-
  SkipOrder: the walk.
-/
namespace Go.Proofs.Ytklooieghlnblaa
open Go.RowKit

def entOf (c : Nat) : Ent := ⟨key1 1, keyOf (c : Int), ((c % 100 : Nat) : Int), key1_len 1, keyOf_len _⟩
def DS (cs : List Nat) : Prop := cs.Pairwise fun a b => a % 100 ≠ b % 100
def wants (cs : List Nat) : List Value := cs.map fun (c : Nat) => Value.int .i64 (c : Int)
theorem wants_len (cs : List Nat) : (wants cs).length = cs.length := by simp [wants]
theorem wants_app (a b : List Nat) : wants (a ++ b) = wants a ++ wants b := by simp [wants]
theorem wants_one (cs : List Nat) : ∀ v ∈ wants cs, v.oneCell' = true := by
  intro v hv
  obtain ⟨c, _, rfl⟩ := List.mem_map.1 hv
  rfl
theorem entIs (n : Nat) (c : Nat) : (entOf c).is (key1 1) (n : Int) = decide (c % 100 = n) := by
  have : (((c % 100 : Nat) : Int) = (n : Int)) = (c % 100 = n) := propext ⟨by omega, by omega⟩
  simp only [Ent.is, entOf, this, beq_self_eq_true, Bool.and_true]
theorem erase_ds (n : Nat) : ∀ cs : List Nat, DS cs → (cs.map entOf).eraseP (Ent.is (key1 1) (n : Int)) = (cs.filter fun c => decide (c % 100 ≠ n)).map entOf
  | [], _ => rfl
  | c :: cs, h => by
    obtain ⟨h1, h2⟩ := List.pairwise_cons.1 h
    have ih := erase_ds n cs h2
    by_cases hc : c % 100 = n
    · have he : (entOf c).is (key1 1) (n : Int) = true := by rw [entIs]; simp [hc]
      rw [List.map_cons, List.eraseP_cons_of_pos he, List.filter_cons]
      simp only [hc, ne_eq, not_true, decide_false, Bool.false_eq_true, if_false]
      rw [List.filter_eq_self.2 (fun a ha => by have := h1 a ha; simp; omega)]
    · have he : ¬ (entOf c).is (key1 1) (n : Int) = true := by rw [entIs]; simp [hc]
      rw [List.map_cons, List.eraseP_cons_of_neg he, List.filter_cons]
      simp only [ne_eq, hc, not_false_iff, decide_true, if_true, List.map_cons]
      rw [← ih]
def nextC (cs : List Nat) (k n : Nat) : List Nat := (cs.filter fun c => decide (c % 100 ≠ n)) ++ [100 * k + n]
theorem next_put (cs : List Nat) (k n : Nat) (h : DS cs) (hn : n < 12) (hl : cs.length < 40) : putL (cs.map entOf) ⟨key1 1, keyOf ((100 * k + n : Nat) : Int), (n : Int), key1_len 1, keyOf_len _⟩ = (nextC cs k n).map entOf := by
  have hfl := List.length_filter_le (fun c => decide (c % 100 ≠ n)) cs
  have e : entOf (100 * k + n) = ⟨key1 1, keyOf ((100 * k + n : Nat) : Int), (n : Int), key1_len 1, keyOf_len _⟩ := by
    have : (100 * k + n) % 100 = n := by omega
    unfold entOf
    congr 1
    rw [this]
  unfold putL nextC
  rw [List.map_append, List.map_cons, List.map_nil, e]
  show (if ((cs.map entOf).eraseP (Ent.is (key1 1) (n : Int))).length = 40 then _ else _) ++ _ = _
  rw [erase_ds n cs h, if_neg (by rw [List.length_map]; omega)]
theorem next_ds (cs : List Nat) (k n : Nat) (h : DS cs) (hn : n < 12) : DS (nextC cs k n) := by
  refine List.pairwise_append.2 ⟨h.sublist List.filter_sublist, by simp, fun a ha b hb => ?_⟩
  obtain rfl := List.mem_singleton.1 hb
  have := (List.mem_filter.1 ha).2
  simp at this
  omega
theorem next_len (cs : List Nat) (k n : Nat) : (nextC cs k n).length ≤ cs.length + 1 := by
  have := List.length_filter_le (fun c => decide (c % 100 ≠ n)) cs
  simp only [nextC, List.length_append, List.length_singleton]
  omega
theorem add_i64 (t : TypeId) (x y : Operand) (a b : Nat) (h : a + b ≤ 9223372036854775807) (w : World) : (do eqGuard .add t x y (.int .i64 (a : Int)) (.int .i64 (b : Int)); binOp .add t (.int .i64 (a : Int)) (.int .i64 (b : Int)) : Sem Value).run Try.prog w = .ok (.int .i64 ((a + b : Nat) : Int)) w := by
  have e : IntKind.i64.wrap ((a : Int) + (b : Int)) = ((a + b : Nat) : Int) := by
    rw [show (a : Int) + (b : Int) = ((a + b : Nat) : Int) by omega]
    exact IntWalk.i64_in _ (by omega)
  simp only [eqGuard, binOp, Op.intArith]
  simp [e]
theorem idx_int (b o n c i : Nat) (hi : i < n) (w : World) : (Instr.indexAt 48 (.slice (some ⟨b, o, none⟩) n c) (.int .i64 (i : Int))).run Try.prog w = .ok (.pointer (some ⟨b, o + i, none⟩)) w := by
  have hu := Try.underlying48
  have e2 : Try.prog.elem 48 = 3 := by simp [Program.elem, hu]
  have hs : ∀ w, (sizeOf 3).run Try.prog w = .ok 1 w := fun _ => by kernel_rfl
  rw [run_indexAt_slice (h := by rw [e2]; exact hu), if_pos (by omega)]
  simp only [e2, hs, Result.andThen, Int.toNat_natCast, Addr.add_lit, Nat.mul_one]
theorem build_2 (w : World) : (Instr.build 31 #[(0, .int .u8 2)]).run Try.prog w = .ok (.agg ((key1 2).map cellB).toArray) w := by kernel_rfl
theorem bsl_int (x : Int) (w : World) : (Instr.buildSlice 48 1 #[(0, .int .i64 x)]).run Try.prog w = .ok (.slice (some ⟨w.heap.size, 0, none⟩) 1 1) (w.alloc (.cells #[.int .i64 x] 3)) := by kernel_rfl
theorem info_int : (Try.prog.info? 3).map (fun i => (i.zero, i.size, i.bytes)) = some (some (.int .i64 0), 1, 8) := by kernel_rfl
theorem run_app_int (W : World) (base : Nat) (v : Value) (cs : List Nat) (c : Nat) (hown : W.ownsRow base 3 1 v cs.length (wants cs)) (hn : cs.length ≤ 1000) (hbase : base ≤ W.heap.size) :
    ∃ v' w', (Builtin.append_ #[48, 48] 48 #[v, .slice (some ⟨W.heap.size, 0, none⟩) 1 1]).run Try.prog (W.alloc (.cells #[.int .i64 (c : Int)] 3)) = .ok v' w' ∧ w'.ownsRow base 3 1 v' (cs ++ [c]).length (wants (cs ++ [c])) ∧ Below base W w' := by
  obtain ⟨i, hi, hz⟩ := Option.map_eq_some_iff.1 info_int
  simp only [Prod.mk.injEq] at hz
  obtain ⟨v', w', h1, h2, h3, _⟩ := run_append_own (P := Try.prog) (W.alloc (.cells #[.int .i64 (c : Int)] 3)) base 48 48 3 i (.int .i64 0) 1 8 Try.underlying48 hi hz.1 hz.2.1 hz.2.2 rfl (by omega) v cs.length (wants cs) (hown.alloc _) ⟨W.heap.size, 0, none⟩ 1 1 (wants [c]) (by simp [wants]) (by
    intro j u hu
    rw [Addr.add_lit]
    exact range_new (heap1_0 W _) j u (by simpa [wants] using hu)) (wants_one _) (by unfold maxLen; omega) (by omega) (by simp; omega)
  refine ⟨v', w', h1, by rw [wants_app, List.length_append]; exact h2, ?_⟩
  exact ((Below.refl base W).alloc hbase _).grown h3 (by simp; omega) (fun k hk => (hown.lt k hk).1)
theorem no_2 (cs : List Nat) : (cs.map entOf).any (Ent.is (key1 2) 3) = false := by
  rw [List.any_eq_false]
  intro x hx
  obtain ⟨c, _, rfl⟩ := List.mem_map.1 hx
  have : (key1 1 == key1 2) = false := by decide
  simp [Ent.is, entOf, this]
theorem load_sx {w : World} {A : Option Addr} {xs : List Int} (h : SlRead w A (ints .i64 xs)) {k : Nat} (hk : k < xs.length) : ∃ b o x, A = some ⟨b, o, none⟩ ∧ w.cell? ⟨b, o + k, none⟩ = some (.int .i64 x) := by
  obtain ⟨b, o, e, _, hc⟩ := h (by simp [ints]; omega)
  exact ⟨b, o, xs[k], e, hc k _ (by simp [ints, hk])⟩
theorem wants_cell {w : World} {base gw cw : Nat} {cs : List Nat} (h : w.ownsRow base 3 1 (.slice (some ⟨gw, 0, none⟩) cs.length cw) cs.length (wants cs)) {j : Nat} (hj : j < cs.length) {c : Nat} (hc : c = cs[j]) : w.cell? ⟨gw, 0 + j, none⟩ = some (.int .i64 (c : Int)) := by
  have := h.cells (g := gw) rfl j (.int .i64 (c : Int)) (by simp [wants, hj, hc])
  rw [Addr.add_lit] at this
  exact this
theorem own_mod {w w' : World} {n Bs m size : Nat} {e : TypeId} {v : Value} {xs : List Value} {row : Option Nat} (h : w.ownsRow n e size v m xs) (hm : Mod Bs 0 row w w') (h1 : v.ownBlock ≠ some Bs) (h2 : ∀ q, v.ownBlock = some q → some q ≠ row) : w'.ownsRow n e size v m xs := by
  refine ⟨h.1, ?_⟩
  rcases h.2 with h3 | ⟨g, cap, cur, rfl, e2, e3, e4⟩
  · exact .inl h3
  · refine .inr ⟨g, cap, cur, rfl, e2, ?_, e4⟩
    rw [hm.block g (Array.getElem?_eq_some_iff.1 e3).1 (fun e => h1 (by rw [← e]; rfl)) (h2 g rfl)]
    exact e3
def FT (cs : List Nat) (n j : Nat) : List Nat := (cs.take j).filter fun c => decide (c % 100 ≠ n)
theorem FT_yes {cs : List Nat} {n j c : Nat} (hj : j < cs.length) (hc : c = cs[j]) (h : ¬ c % 100 = n) : FT cs n (j + 1) = FT cs n j ++ [c] := by
  unfold FT
  rw [List.take_succ_eq_append_getElem hj, List.filter_append, ← hc]
  simp [h]
theorem FT_no {cs : List Nat} {n j c : Nat} (hj : j < cs.length) (hc : c = cs[j]) (h : c % 100 = n) : FT cs n (j + 1) = FT cs n j := by
  unfold FT
  rw [List.take_succ_eq_append_getElem hj, List.filter_append, ← hc]
  simp [h]
theorem FT_all (cs : List Nat) (n k : Nat) : FT cs n cs.length ++ [100 * k + n] = nextC cs k n := by
  unfold FT nextC
  rw [List.take_length]
theorem FT_len (cs : List Nat) (n j : Nat) : (FT cs n j).length ≤ cs.length := by
  have := List.length_filter_le (fun c => decide (c % 100 ≠ n)) (cs.take j)
  have h2 : (cs.take j).length ≤ cs.length := by rw [List.length_take]; omega
  exact Nat.le_trans this h2
theorem nq_i64 (t : TypeId) (x y : Operand) (a b : Nat) (h : a = b) (w : World) : (do eqGuard .neq t x y (.int .i64 (a : Int)) (.int .i64 (b : Int)); binOp .neq t (.int .i64 (a : Int)) (.int .i64 (b : Int)) : Sem Value).run Try.prog w = .ok (.bool false) w := by
  subst h
  simp [eqGuard, binOp, Op.intCmp]
theorem nn_i64 (t : TypeId) (x y : Operand) (a b : Nat) (h : ¬ a = b) (w : World) : (do eqGuard .neq t x y (.int .i64 (a : Int)) (.int .i64 (b : Int)); binOp .neq t (.int .i64 (a : Int)) (.int .i64 (b : Int)) : Sem Value).run Try.prog w = .ok (.bool true) w := by
  have h' : ¬ (a : Int) = (b : Int) := by omega
  simp [eqGuard, binOp, Op.intCmp, h']
set_option maxRecDepth 100000 in
set_option maxHeartbeats 3200000 in
theorem order_walk (A0 : Option Addr) (xs : List Int) (cap : Nat) (w : World) (hX : SlRead w A0 (ints .i64 xs)) :
    Calls Try.prog 5 #[.slice A0 xs.length cap] w fun e w' => e = .returned (.bool true) ∧ Below w.heap.size w w' := by
  go_enter Try.func5, Try.ntmps5
  go_wp2_with fail
  refine (first_any w).mono ?_
  rintro e w0 ⟨rfl, hb0⟩
  by_cases h1 : 30 < xs.length
  · have d1 : decide ((30 : Int) < (xs.length : Int)) = true := by simp; omega
    go_wp2_with fail
    go_ret
    exact ⟨rfl, hb0⟩
  have d1 : decide ((30 : Int) < (xs.length : Int)) = false := by simp; omega
  have hll : xs.length ≤ 30 := by omega
  clear h1
  have HX := Lib.hid hX
  clear hX
  have hsz0 := hb0.size
  have hsn := sk_new w0 w.heap.size
  have hbn : Below w.heap.size w (w0.alloc (.cells #[.slice none 0 0] 26)) := hb0.alloc hsz0 _
  go_upto_region 8 with (fail)
  refine wp_world (fun W => SkAt W w.heap.size w0.heap.size 0 (.slice none 0 0) [] ∧ Below w.heap.size w W) ⟨hsn, hbn⟩ ?_
  clear hsn hbn hb0 d1
  rintro W ⟨hsn, hbn⟩
  go_wp2_with fail
  go_loopw [5, 6] (fun vw i wr => ∃ (k : Nat) (vs : Value) (cs : List Nat), i = .int .i64 k ∧ k ≤ xs.length ∧ cs.length ≤ k ∧ (∀ c ∈ cs, c ≤ 10000) ∧ DS cs ∧ SkAt wr w.heap.size w0.heap.size 0 vs (cs.map entOf) ∧ wr.ownsRow w.heap.size 3 1 vw cs.length (wants cs) ∧ vw.ownBlock ≠ some w0.heap.size ∧ (∀ q, vw.ownBlock = some q → vs.ownBlock ≠ some q) ∧ Below w.heap.size w wr) (fun _ i _ => xs.length - (intOf i).toNat)
  case atStart => exact ⟨0, _, [], rfl, by omega, by simp, by simp, List.Pairwise.nil, hsn, World.ownsRow_nil _ _ _ _, by simp [Value.ownBlock], by simp [Value.ownBlock], hbn⟩
  case round =>
    clear hsn hbn
    obtain ⟨k, vs, cs, rfl, hk, hcl, hcb, hds, hs, hw, hwB, hwv, hlow⟩ := hrel
    by_cases hlt : k < xs.length
    · have hlt' : decide (k < xs.length) = true := by simpa using hlt
      obtain ⟨gb, o, x, rfl, hcx0⟩ := load_sx HX.out hlt
      have hcx := (hlow.cell (p := ⟨gb, _, none⟩) (World.block_lt_of_cell? _ _ hcx0)).trans hcx0
      obtain ⟨N, hN, hNl⟩ := exists_mod x 12 (by omega)
      have HN := Lib.hid hN
      have HS := Lib.hid hs
      have HW := Lib.hid hw
      have HCB := Lib.hid hcb
      have HDS := Lib.hid hds
      have HWV := Lib.hid hwv
      have HWB := Lib.hid hwB
      have HL := Lib.hid hlow
      clear hcx0 hN hs hw hcb hds hwv hwB hlow
      go_upto_region 11 with (fail)
      refine wp_region_lit ?_
      refine wpList_run (by kernel_rfl) (.slice (some ⟨gb, o, none⟩) xs.length cap) (wr) (exec_move rfl (by kernel_rfl)) ?_
      refine wpList_run (by kernel_rfl) (.int .i64 (k : Int)) (wr) (exec_move rfl (by kernel_rfl)) ?_
      refine wpList_run (by kernel_rfl) (.pointer (some ⟨gb, o + k, none⟩)) (wr) (exec_index (vx := .slice (some ⟨gb, o, none⟩) xs.length cap) (vy := .int .i64 (k : Int)) rfl (by kernel_rfl) (idx_int gb o _ cap k hlt _)) ?_
      refine wpList_run (by kernel_rfl) (.int .i64 x) (wr) (exec_load (vx := .pointer (some ⟨gb, o + k, none⟩)) rfl (by kernel_rfl) (load_i64 _ _ _ _ hcx)) ?_
      refine wpList_call (by kernel_rfl) 8 #[Go.Operand.tmp 30, Go.Operand.const (Go.Value.int Go.IntKind.i64 12)] #[3, 3] #[.int .i64 x, Go.Value.int Go.IntKind.i64 12] _ rfl (by kernel_rfl) (by kernel_rfl) (num_B x 12 N wr (by omega) HN.out) ?_
      rintro e w1 ⟨rfl, hb1⟩
      refine ⟨_, rfl, ?_⟩
      simp only [put_list, List.set_cons_zero, List.set_cons_succ]
      refine wpList_run (by kernel_rfl) (.int .i64 (N : Int)) (w1) (exec_assign rfl (by kernel_rfl)) ?_
      refine wpList_nil ?_
      simp only [put_list, List.set_cons_zero, List.set_cons_succ]
      have hs1 := HS.out.below hb1
      have hnw1 : w.heap.size ≤ w1.heap.size := Nat.le_trans HL.out.size hb1.size
      clear hcx
      go_upto_region 12 with (fail)
      refine wp_region_lit ?_
      refine wpList_run (by kernel_rfl) (.agg ((key1 1).map cellB).toArray) (w1) (exec_build (vs := #[(0, Go.Value.int Go.IntKind.u8 1)]) rfl (by kernel_rfl) (build_1 _)) ?_
      refine wpList_run (by kernel_rfl) (.int .i64 (N : Int)) (w1) (exec_move rfl (by kernel_rfl)) ?_
      refine wpList_run (by kernel_rfl) (.int .u32 (N : Int)) (w1) (exec_cvt (vx := .int .i64 (N : Int)) rfl (by kernel_rfl) (cvt_u32 _ (by omega) _)) ?_
      refine wpList_run (by kernel_rfl) (.int .i64 (k : Int)) (w1) (exec_move rfl (by kernel_rfl)) ?_
      simp only [put_list, List.set_cons_zero, List.set_cons_succ]
      refine wpList_run (by kernel_rfl) (.int .i64 ((100 * k : Nat) : Int)) (w1) (exec_bin (vx := Go.Value.int Go.IntKind.i64 100) (vy := .int .i64 (k : Int)) rfl (by kernel_rfl) (mul_i64 _ _ _ _ _ _ (by omega) (by omega) (by omega) _)) ?_
      refine wpList_run (by kernel_rfl) (.int .i64 (N : Int)) (w1) (exec_move rfl (by kernel_rfl)) ?_
      refine wpList_run (by kernel_rfl) (.int .i64 ((100 * k + N : Nat) : Int)) (w1) (exec_bin (vx := .int .i64 ((100 * k : Nat) : Int)) (vy := .int .i64 (N : Int)) rfl (by kernel_rfl) (add_i64 _ _ _ (100 * k) N (by omega) _)) ?_
      refine wpList_call (by kernel_rfl) 7 #[Go.Operand.tmp 38] #[3] #[.int .i64 ((100 * k + N : Nat) : Int)] _ rfl (by kernel_rfl) (by kernel_rfl) (keyis_any ((100 * k + N : Nat) : Int) w1) ?_
      rintro e w2 ⟨rfl, hb2⟩
      refine ⟨_, rfl, ?_⟩
      have hs2 := hs1.below hb2
      have hnw2 : w.heap.size ≤ w2.heap.size := Nat.le_trans hnw1 hb2.size
      refine wpList_call (by kernel_rfl) 13 #[Go.Operand.tmp 4, Go.Operand.tmp 32, Go.Operand.tmp 34, Go.Operand.tmp 39] #[26, 31, 36, 31] #[.pointer (some ⟨w0.heap.size, 0, none⟩), .agg ((key1 1).map cellB).toArray, .int .u32 (N : Int), .agg ((keyOf ((100 * k + N : Nat) : Int)).map cellB).toArray] _ rfl (by kernel_rfl) (by kernel_rfl) (put_any (cs.map entOf) (key1 1) (keyOf ((100 * k + N : Nat) : Int)) (N : Int) (key1_len 1) (keyOf_len _) (by rw [List.length_map]; omega) w.heap.size w0.heap.size 0 vs w2 hnw2 hs2) ?_
      rintro e w3 ⟨rfl, vs3, hs3, hm3, hq3⟩
      refine ⟨_, rfl, ?_⟩
      refine wpList_nil ?_
      simp only [put_list, List.set_cons_zero, List.set_cons_succ]
      rw [next_put cs k N HDS.out (by omega) (by omega)] at hs3
      have hb02 := below_tr hb1 hb2
      have hbw3 : Below w.heap.size w w3 := hm3.below_of (HL.out.trans (hb02.mono HL.out.size)) hnw2 hsz0 (own_lt hs2)
      have hw2 := HW.out.kept (row := none) ⟨hb02.os, hb02.tape, hb02.output, hb02.size, fun q hq _ => hb02.block q hq⟩ (by cases hv : Value.ownBlock _ <;> simp)
      have hw3 := own_mod hw2 hm3 HWB.out (fun q hq e => HWV.out q hq e.symm)
      have hlen3 : (nextC cs k N).length ≤ k + 1 := Nat.le_trans (next_len cs k N) (by omega)
      have hcb3 : ∀ c ∈ nextC cs k N, c ≤ 10000 := by
        intro c hc
        rcases List.mem_append.1 hc with h | h
        · exact HCB.out c (List.mem_filter.1 h).1
        · have := List.mem_singleton.1 h
          omega
      have hds3 := next_ds cs k N HDS.out (by omega)
      obtain ⟨Aw, cw, rfl, _, _, _⟩ := own_slice hw3
      have HS3 := Lib.hid hs3
      have HW3 := Lib.hid hw3
      have HLEN := Lib.hid hlen3
      have HCB3 := Lib.hid hcb3
      have HDS3 := Lib.hid hds3
      have HBW := Lib.hid hbw3
      clear hs1 hnw1 hb1 hb2 hs2 hnw2 hq3 hm3 hb02 hw2 hw3 hs3 hlen3 hcb3 hds3 hbw3
      go_wp2_with fail
      obtain ⟨wo, hwo⟩ : ∃ wo, wo = w3 := ⟨_, rfl⟩
      go_loopw [8, 9] (fun vn i wj => ∃ j : Nat, i = .int .i64 j ∧ j ≤ cs.length ∧ wj.ownsRow w3.heap.size 3 1 vn (FT cs N j).length (wants (FT cs N j)) ∧ Below w3.heap.size w3 wj) (fun _ i _ => cs.length - (intOf i).toNat)
      case atStart => exact ⟨0, rfl, by omega, World.ownsRow_nil _ _ _ _, Below.refl _ _⟩
      case round =>
        obtain ⟨j, rfl, hj, hvn, hbj⟩ := hrel
        have h3r := hbj.size
        by_cases hjl : j < cs.length
        · have hjl' : decide (j < cs.length) = true := by simpa using hjl
          obtain ⟨c, hc⟩ : ∃ c, c = cs[j] := ⟨_, rfl⟩
          have hc10 := HCB.out c (by rw [hc]; exact List.getElem_mem hjl)
          obtain ⟨gw, rfl⟩ : ∃ gw, Aw = some ⟨gw, 0, none⟩ := by
            rcases HW3.out.2 with ⟨_, h0⟩ | ⟨g, _, _, hv, _⟩
            · omega
            · simp only [Value.slice.injEq] at hv
              exact ⟨g, hv.1⟩
          have hcc0 := wants_cell HW3.out hjl hc
          have hcc := (hbj.cell (p := ⟨gw, _, none⟩) (World.block_lt_of_cell? _ _ hcc0)).trans hcc0
          have hflen := FT_len cs N j
          have HVN := Lib.hid hvn
          have HBJ := Lib.hid hbj
          have HC := Lib.hid hc
          clear hcc0 hvn hbj hc
          by_cases hcn : c % 100 = N
          · go_upto_region 17 with (fail)
            refine wp_region_lit ?_
            refine wpList_run (by kernel_rfl) (.slice (some ⟨gw, 0, none⟩) cs.length cw) (wr) (exec_move rfl (by kernel_rfl)) ?_
            refine wpList_run (by kernel_rfl) (.int .i64 (j : Int)) (wr) (exec_move rfl (by kernel_rfl)) ?_
            refine wpList_run (by kernel_rfl) (.pointer (some ⟨gw, 0 + j, none⟩)) (wr) (exec_index (vx := .slice (some ⟨gw, 0, none⟩) cs.length cw) (vy := .int .i64 (j : Int)) rfl (by kernel_rfl) (idx_int gw 0 _ cw j hjl _)) ?_
            refine wpList_run (by kernel_rfl) (.int .i64 (c : Int)) (wr) (exec_load (vx := .pointer (some ⟨gw, 0 + j, none⟩)) rfl (by kernel_rfl) (load_i64 _ _ _ _ hcc)) ?_
            simp only [put_list, List.set_cons_zero, List.set_cons_succ]
            refine wpList_run (by kernel_rfl) (.int .i64 ((c % 100 : Nat) : Int)) (wr) (exec_bin (vx := .int .i64 (c : Int)) (vy := Go.Value.int Go.IntKind.i64 100) rfl (by kernel_rfl) (rem_i64 _ _ _ c 100 (by omega) (by omega) _)) ?_
            refine wpList_run (by kernel_rfl) (.int .i64 (N : Int)) (wr) (exec_move rfl (by kernel_rfl)) ?_
            refine wpList_run (by kernel_rfl) (.bool false) (wr) (exec_bin (vx := .int .i64 ((c % 100 : Nat) : Int)) (vy := .int .i64 (N : Int)) rfl (by kernel_rfl) (nq_i64 _ _ _ _ _ hcn _)) ?_
            refine wpList_nil ?_
            simp only [put_list, List.set_cons_zero, List.set_cons_succ]
            have hft := Lib.hid (FT_no (n := N) hjl HC.out hcn)
            clear hcc hflen hcn
            go_wp2_with fail
            go_roundw
            case rel => exact ⟨j + 1, by go_num, by omega, by rw [hft.out]; exact HVN.out, HBJ.out⟩
            case measure => simp [intOf]; omega
          · go_upto_region 17 with (fail)
            refine wp_region_lit ?_
            refine wpList_run (by kernel_rfl) (.slice (some ⟨gw, 0, none⟩) cs.length cw) (wr) (exec_move rfl (by kernel_rfl)) ?_
            refine wpList_run (by kernel_rfl) (.int .i64 (j : Int)) (wr) (exec_move rfl (by kernel_rfl)) ?_
            refine wpList_run (by kernel_rfl) (.pointer (some ⟨gw, 0 + j, none⟩)) (wr) (exec_index (vx := .slice (some ⟨gw, 0, none⟩) cs.length cw) (vy := .int .i64 (j : Int)) rfl (by kernel_rfl) (idx_int gw 0 _ cw j hjl _)) ?_
            refine wpList_run (by kernel_rfl) (.int .i64 (c : Int)) (wr) (exec_load (vx := .pointer (some ⟨gw, 0 + j, none⟩)) rfl (by kernel_rfl) (load_i64 _ _ _ _ hcc)) ?_
            simp only [put_list, List.set_cons_zero, List.set_cons_succ]
            refine wpList_run (by kernel_rfl) (.int .i64 ((c % 100 : Nat) : Int)) (wr) (exec_bin (vx := .int .i64 (c : Int)) (vy := Go.Value.int Go.IntKind.i64 100) rfl (by kernel_rfl) (rem_i64 _ _ _ c 100 (by omega) (by omega) _)) ?_
            refine wpList_run (by kernel_rfl) (.int .i64 (N : Int)) (wr) (exec_move rfl (by kernel_rfl)) ?_
            refine wpList_run (by kernel_rfl) (.bool true) (wr) (exec_bin (vx := .int .i64 ((c % 100 : Nat) : Int)) (vy := .int .i64 (N : Int)) rfl (by kernel_rfl) (nn_i64 _ _ _ _ _ hcn _)) ?_
            refine wpList_nil ?_
            simp only [put_list, List.set_cons_zero, List.set_cons_succ]
            have hft := Lib.hid (FT_yes (n := N) hjl HC.out hcn)
            obtain ⟨vn2, wl, hrn, hon, hbl⟩ := run_app_int wr w3.heap.size _ (FT cs N j) c HVN.out (by omega) h3r
            obtain ⟨wk, hwk⟩ : ∃ x, x = wr.alloc (.cells #[.int .i64 (c : Int)] 3) := ⟨_, rfl⟩
            have hbk := bsl_int (c : Int) wr
            rw [← hwk] at hrn hbk
            have HON := Lib.hid hon
            have HBL := Lib.hid (HBJ.out.trans hbl)
            clear hwk hon hbl hflen hcn
            go_upto_region 18 with (fail)
            refine wp_region_lit ?_
            refine wpList_run (by kernel_rfl) (u8) (wr) (exec_move rfl (by kernel_rfl)) ?_
            refine wpList_run (by kernel_rfl) (.slice (some ⟨gw, 0, none⟩) cs.length cw) (wr) (exec_move rfl (by kernel_rfl)) ?_
            refine wpList_run (by kernel_rfl) (.int .i64 (j : Int)) (wr) (exec_move rfl (by kernel_rfl)) ?_
            refine wpList_run (by kernel_rfl) (.pointer (some ⟨gw, 0 + j, none⟩)) (wr) (exec_index (vx := .slice (some ⟨gw, 0, none⟩) cs.length cw) (vy := .int .i64 (j : Int)) rfl (by kernel_rfl) (idx_int gw 0 _ cw j hjl _)) ?_
            simp only [put_list, List.set_cons_zero, List.set_cons_succ]
            refine wpList_run (by kernel_rfl) (.int .i64 (c : Int)) (wr) (exec_load (vx := .pointer (some ⟨gw, 0 + j, none⟩)) rfl (by kernel_rfl) (load_i64 _ _ _ _ hcc)) ?_
            refine wpList_run (by kernel_rfl) (.slice (some ⟨wr.heap.size, 0, none⟩) 1 1) (wk) (exec_bsl (vs := #[(0, .int .i64 (c : Int))]) rfl (by kernel_rfl) (hbk)) ?_
            refine wpList_run (by kernel_rfl) (vn2) (wl) (exec_append rfl rfl (vs := u8) (vx := .slice (some ⟨wr.heap.size, 0, none⟩) 1 1) (by kernel_rfl) (hrn)) ?_
            refine wpList_run (by kernel_rfl) (vn2) (wl) (exec_assign rfl (by kernel_rfl)) ?_
            refine wpList_nil ?_
            simp only [put_list, List.set_cons_zero, List.set_cons_succ]
            clear hcc hrn hbk
            go_wp2_with fail
            go_roundw
            case rel => exact ⟨j + 1, by go_num, by omega, by rw [hft.out]; exact HON.out, HBL.out⟩
            case measure => simp [intOf]; omega
        · have hjl' : decide (j < cs.length) = false := by simpa using hjl
          obtain rfl : j = cs.length := by omega
          have hflen := FT_len cs N cs.length
          obtain ⟨vn2, wl, hrn, hon, hbl⟩ := run_app_int wr w3.heap.size _ (FT cs N cs.length) (100 * k + N) hvn (by omega) h3r
          rw [FT_all] at hon
          obtain ⟨wk, hwk⟩ : ∃ x, x = wr.alloc (.cells #[.int .i64 ((100 * k + N : Nat) : Int)] 3) := ⟨_, rfl⟩
          have hbk := bsl_int ((100 * k + N : Nat) : Int) wr
          rw [← hwk] at hrn hbk
          have hb3l := hbj.trans hbl
          have hsl := HS3.out.below hb3l
          have hB3 := HS3.out.lt
          have hnew : ∀ q, vn2.ownBlock = some q → w3.heap.size ≤ q := fun q hq => (hon.lt q hq).1
          have hvs : ∀ q, vn2.ownBlock = some q → vs3.ownBlock ≠ some q := fun q hq e => by
            have h1 := hnew q hq
            have h2 := (HS3.out.own.lt q e).2
            omega
          have hvB : vn2.ownBlock ≠ some w0.heap.size := fun e => by
            have h1 := hnew _ e
            omega
          have hol := ownsRow_lower hon (show w.heap.size ≤ w3.heap.size by have := HBW.out.size; omega)
          have hlw := HBW.out.trans (hb3l.mono HBW.out.size)
          have P1 := Lib.hid (And.intro HLEN.out (And.intro HCB3.out (And.intro HDS3.out (And.intro hsl (And.intro hol (And.intro hvB (And.intro hvs hlw)))))))
          clear hwk hon hbl hflen hvn hbj h3r hb3l hsl hB3 hnew hvs hvB hol hlw
          go_upto_region 19 with (fail)
          refine wp_region_lit ?_
          refine wpList_run (by kernel_rfl) (u8) (wr) (exec_move rfl (by kernel_rfl)) ?_
          refine wpList_run (by kernel_rfl) (.int .i64 (k : Int)) (wr) (exec_move rfl (by kernel_rfl)) ?_
          refine wpList_run (by kernel_rfl) (.int .i64 ((100 * k : Nat) : Int)) (wr) (exec_bin (vx := Go.Value.int Go.IntKind.i64 100) (vy := .int .i64 (k : Int)) rfl (by kernel_rfl) (mul_i64 _ _ _ _ _ _ (by omega) (by omega) (by omega) _)) ?_
          refine wpList_run (by kernel_rfl) (.int .i64 (N : Int)) (wr) (exec_move rfl (by kernel_rfl)) ?_
          simp only [put_list, List.set_cons_zero, List.set_cons_succ]
          refine wpList_run (by kernel_rfl) (.int .i64 ((100 * k + N : Nat) : Int)) (wr) (exec_bin (vx := .int .i64 ((100 * k : Nat) : Int)) (vy := .int .i64 (N : Int)) rfl (by kernel_rfl) (add_i64 _ _ _ (100 * k) N (by omega) _)) ?_
          refine wpList_run (by kernel_rfl) (.slice (some ⟨wr.heap.size, 0, none⟩) 1 1) (wk) (exec_bsl (vs := #[(0, .int .i64 ((100 * k + N : Nat) : Int))]) rfl (by kernel_rfl) (hbk)) ?_
          refine wpList_run (by kernel_rfl) (vn2) (wl) (exec_append rfl rfl (vs := u8) (vx := .slice (some ⟨wr.heap.size, 0, none⟩) 1 1) (by kernel_rfl) (hrn)) ?_
          refine wpList_run (by kernel_rfl) (vn2) (wl) (exec_assign rfl (by kernel_rfl)) ?_
          refine wpList_nil ?_
          simp only [put_list, List.set_cons_zero, List.set_cons_succ]
          clear hrn hbk
          go_wp2_with fail
          go_roundw
          case rel =>
            obtain ⟨p1, p2, p3, p4, p5, p6, p7, p8⟩ := P1.out
            exact ⟨k + 1, vs3, nextC cs k N, by go_num, by omega, p1, p2, p3, p4, p5, p6, p7, p8⟩
          case measure => simp [intOf]; omega
    · have hlt' : decide (k < xs.length) = false := by simpa using hlt
      obtain rfl : k = xs.length := by omega
      obtain ⟨Aw, cw, rfl, _, _, _⟩ := own_slice hw
      have hal := all_any (cs.map entOf) (by rw [List.length_map]; omega) w.heap.size w0.heap.size 0 vs wr hs
      have HS := Lib.hid hs
      have HW := Lib.hid hw
      have HCB := Lib.hid hcb
      have HL := Lib.hid hlow
      clear hs hw hcb hds hwB hwv hlow
      go_upto_region 23 with (go_at_call 12; refine hal.mono ?_; rintro e w1 ⟨v1, rfl, ho1, hb1⟩; rw [List.length_map] at ho1; obtain ⟨Aa, ca, rfl⟩ := own_shape ho1; have HO1 := Lib.hid ho1; have HB1 := Lib.hid hb1; clear ho1 hb1)
      have hwk := HW.out.kept (row := none) ⟨HB1.out.os, HB1.out.tape, HB1.out.output, HB1.out.size, fun q hq _ => HB1.out.block q hq⟩ (by cases hv : Value.ownBlock _ <;> simp)
      have HWK := Lib.hid hwk
      have hs1 := HS.out.below HB1.out
      have HS1 := Lib.hid hs1
      have HL1 := Lib.hid (HL.out.trans (HB1.out.mono HL.out.size))
      clear hwk hs1 hal
      go_wp2_with fail
      obtain ⟨wo, hwo⟩ : ∃ wo, wo = wr := ⟨_, rfl⟩
      go_loopw [11] (fun i wj => ∃ j : Nat, i = .int .i64 j ∧ j ≤ cs.length ∧ Below w1.heap.size w1 wj) (fun i _ => cs.length - (intOf i).toNat)
      case atStart => exact ⟨0, rfl, by omega, Below.refl _ _⟩
      case round =>
        obtain ⟨j, rfl, hj, hbj⟩ := hrel
        by_cases hjl : j < cs.length
        · have hjl' : decide (j < cs.length) = true := by simpa using hjl
          obtain ⟨c, hc⟩ : ∃ c, c = cs[j] := ⟨_, rfl⟩
          have hc10 := HCB.out c (by rw [hc]; exact List.getElem_mem hjl)
          obtain ⟨ga, p, rfl, hga1, hrow⟩ := own_read HO1.out (by rw [cells_len, List.length_map]; omega)
          obtain ⟨rd0, rk0, rn0⟩ := ent_ranges hrow (k := j) (by rw [List.length_map]; exact hjl) (e := entOf c) (by simp [hjl, hc])
          obtain ⟨gw, rfl⟩ : ∃ gw, Aw = some ⟨gw, 0, none⟩ := by
            rcases HWK.out.2 with ⟨_, h0⟩ | ⟨g, _, _, hv, _⟩
            · omega
            · simp only [Value.slice.injEq] at hv
              exact ⟨g, hv.1⟩
          have hcc0 := wants_cell HWK.out hjl hc
          have hgw1 := World.block_lt_of_cell? _ _ hcc0
          have hcc := (hbj.cell (p := ⟨gw, _, none⟩) hgw1).trans hcc0
          have rd : wr.rangeAt ga (p + 65 * j) ((key1 1).map cellB) := rangeAt_below rd0 hbj hga1
          have rk : wr.rangeAt ga (p + 65 * j + 32) ((keyOf (c : Int)).map cellB) := rangeAt_below rk0 hbj hga1
          have rn : wr.cell? ⟨ga, p + 65 * j + 64, none⟩ = some (.int .u32 ((c % 100 : Nat) : Int)) := (hbj.cell (p := ⟨ga, _, none⟩) hga1).trans rn0
          have hga : ga < wr.heap.size := Nat.lt_of_lt_of_le hga1 hbj.size
          have hgw : gw < wr.heap.size := Nat.lt_of_lt_of_le hgw1 hbj.size
          clear hrow rd0 rk0 rn0 hcc0 hc
          go_upto_region 26 with (fail)
          refine wp_region_noPanic ?_
          refine wp_region_held_drew (S := fun w' => Below wr.drew.heap.size wr.drew w') (by kernel_rfl) (Below.refl _ _) (fun hHeld => ?_)
          refine held_move 0 (Go.Operand.tmp 10) (some 80) (.slice (some ⟨ga, p, none⟩) cs.length ca) (by kernel_rfl) (by kernel_rfl) (by kernel_rfl) (by kernel_rfl) (by kernel_rfl) (fun _ _ _ _ _ h => h) hHeld ?_
          refine held_move 1 (Go.Operand.tmp 11) (some 81) (.int .i64 (j : Int)) (by kernel_rfl) (by kernel_rfl) (by kernel_rfl) (by kernel_rfl) (by kernel_rfl) (fun _ _ _ _ _ h => h) hHeld ?_
          refine held_index 2 24 (Go.Operand.tmp 80) (Go.Operand.tmp 81) (some 82) (.slice (some ⟨ga, p, none⟩) cs.length ca) (.int .i64 (j : Int)) (.pointer (some ⟨ga, p + 65 * j, none⟩)) (by kernel_rfl) (by kernel_rfl) (idx_Ep ga p cs.length ca j hjl) (by kernel_rfl) (by kernel_rfl) (by kernel_rfl) (fun _ _ _ _ _ h => h) hHeld ?_
          refine held_field 3 46 (Go.Operand.tmp 82) 2 (some 83) (.pointer (some ⟨ga, p + 65 * j, none⟩)) (.pointer (some ⟨ga, p + 65 * j + 64, none⟩)) (by kernel_rfl) (by kernel_rfl) (field_S2 ga _) (by kernel_rfl) (by kernel_rfl) (by kernel_rfl) (fun _ _ _ _ _ h => h) hHeld ?_
          refine held_cell 4 36 (Go.Operand.tmp 83) (some 84) (.pointer (some ⟨ga, p + 65 * j + 64, none⟩)) (.int .u32 ((c % 100 : Nat) : Int)) (by kernel_rfl) (by kernel_rfl) (fun w h => ld_u32 _ _ _ w (((below_dr h).cell (p := ⟨ga, _, none⟩) hga).trans rn)) (by kernel_rfl) (by kernel_rfl) (by kernel_rfl) (fun _ _ _ _ _ h => h) hHeld ?_
          refine held_move 5 (Go.Operand.tmp 5) (some 85) (.slice (some ⟨gw, 0, none⟩) cs.length cw) (by kernel_rfl) (by kernel_rfl) (by kernel_rfl) (by kernel_rfl) (by kernel_rfl) (fun _ _ _ _ _ h => h) hHeld ?_
          refine held_move 6 (Go.Operand.tmp 11) (some 86) (.int .i64 (j : Int)) (by kernel_rfl) (by kernel_rfl) (by kernel_rfl) (by kernel_rfl) (by kernel_rfl) (fun _ _ _ _ _ h => h) hHeld ?_
          refine held_index 7 48 (Go.Operand.tmp 85) (Go.Operand.tmp 86) (some 87) (.slice (some ⟨gw, 0, none⟩) cs.length cw) (.int .i64 (j : Int)) (.pointer (some ⟨gw, 0 + j, none⟩)) (by kernel_rfl) (by kernel_rfl) (idx_int gw 0 _ cw j hjl) (by kernel_rfl) (by kernel_rfl) (by kernel_rfl) (fun _ _ _ _ _ h => h) hHeld ?_
          refine held_cell 8 3 (Go.Operand.tmp 87) (some 88) (.pointer (some ⟨gw, 0 + j, none⟩)) (.int .i64 (c : Int)) (by kernel_rfl) (by kernel_rfl) (fun w h => load_i64 _ _ _ w (((below_dr h).cell (p := ⟨gw, _, none⟩) hgw).trans hcc)) (by kernel_rfl) (by kernel_rfl) (by kernel_rfl) (fun _ _ _ _ _ h => h) hHeld ?_
          refine held_bin 9 Go.BinOp.rem 3 (Go.Operand.tmp 88) (Go.Operand.const (Go.Value.int Go.IntKind.i64 100)) 3 (some 89) (.int .i64 (c : Int)) (Go.Value.int Go.IntKind.i64 100) (.int .i64 ((c % 100 : Nat) : Int)) (by kernel_rfl) (by kernel_rfl) (rem_i64 _ _ _ c 100 (by omega) (by omega)) (by kernel_rfl) (by kernel_rfl) (by kernel_rfl) (fun _ _ _ _ _ h => h) hHeld ?_
          refine held_any 10 (Go.Op.convert 3 36 (Go.Operand.tmp 89)) (some 90) (.int .u32 ((c % 100 : Nat) : Int)) (by kernel_rfl) (by kernel_rfl) (by kernel_rfl) (by kernel_rfl) (fun _ _ _ _ _ h => h) hHeld (fun o ho w _ => exec_cvt ho (by kernel_rfl) (cvt_u32 _ (by omega) _)) ?_
          refine held_bin 11 Go.BinOp.neq 36 (Go.Operand.tmp 84) (Go.Operand.tmp 90) 36 (some 91) (.int .u32 ((c % 100 : Nat) : Int)) (.int .u32 ((c % 100 : Nat) : Int)) (.bool false) (by kernel_rfl) (by kernel_rfl) (fun w => nq_u32 _ _ _ _ w) (by kernel_rfl) (by kernel_rfl) (by kernel_rfl) (fun _ _ _ _ _ h => h) hHeld ?_
          refine held_move 12 (Go.Operand.tmp 91) (some 92) (.bool false) (by kernel_rfl) (by kernel_rfl) (by kernel_rfl) (by kernel_rfl) (by kernel_rfl) (fun _ _ _ _ _ h => h) hHeld ?_
          refine held_move 13 (Go.Operand.tmp 10) (some 93) (.slice (some ⟨ga, p, none⟩) cs.length ca) (by kernel_rfl) (by kernel_rfl) (by kernel_rfl) (by kernel_rfl) (by kernel_rfl) (fun _ _ _ _ _ h => h) hHeld ?_
          refine held_move 14 (Go.Operand.tmp 11) (some 94) (.int .i64 (j : Int)) (by kernel_rfl) (by kernel_rfl) (by kernel_rfl) (by kernel_rfl) (by kernel_rfl) (fun _ _ _ _ _ h => h) hHeld ?_
          refine held_index 15 24 (Go.Operand.tmp 93) (Go.Operand.tmp 94) (some 95) (.slice (some ⟨ga, p, none⟩) cs.length ca) (.int .i64 (j : Int)) (.pointer (some ⟨ga, p + 65 * j, none⟩)) (by kernel_rfl) (by kernel_rfl) (idx_Ep ga p cs.length ca j hjl) (by kernel_rfl) (by kernel_rfl) (by kernel_rfl) (fun _ _ _ _ _ h => h) hHeld ?_
          refine held_field 16 46 (Go.Operand.tmp 95) 0 (some 96) (.pointer (some ⟨ga, p + 65 * j, none⟩)) (.pointer (some ⟨ga, p + 65 * j, none⟩)) (by kernel_rfl) (by kernel_rfl) (field_S0 ga _) (by kernel_rfl) (by kernel_rfl) (by kernel_rfl) (fun _ _ _ _ _ h => h) hHeld ?_
          refine held_load 17 31 (Go.Operand.tmp 96) (some 97) (ga) (p + 65 * j) ((key1 1).map cellB) _ (by kernel_rfl) (by kernel_rfl) (fun w h => rangeAt_below rd (below_dr h) hga) Try.underlying31 rfl (by rw [List.length_map, key1_len]; exact info_key) (by kernel_rfl) (by kernel_rfl) (by kernel_rfl) (fun _ _ _ _ _ h => h) hHeld ?_
          refine held_build 18 31 #[(0, Go.Operand.const (Go.Value.int Go.IntKind.u8 1))] (some 98) #[(0, Go.Value.int Go.IntKind.u8 1)] (.agg ((key1 1).map cellB).toArray) (by kernel_rfl) (by kernel_rfl) (build_1) (by kernel_rfl) (by kernel_rfl) (by kernel_rfl) (fun _ _ _ _ _ h => h) hHeld ?_
          refine held_neq 19 31 (Go.Operand.tmp 97) (Go.Operand.tmp 98) 31 (some 99) (((key1 1).map cellB).toArray) (((key1 1).map cellB).toArray) true (by kernel_rfl) (by kernel_rfl) (by kernel_rfl) (by kernel_rfl) (fun w => eq_key w _ _ (key1_len 1) (key1_len 1) true (by simp)) (by kernel_rfl) (by kernel_rfl) (by kernel_rfl) (fun _ _ _ _ _ h => h) hHeld ?_
          refine held_pick 20 (Go.Operand.tmp 92) (Go.Operand.const (Go.Value.bool true)) (Go.Operand.tmp 99) (some 100) false (.bool false) (by kernel_rfl) (by kernel_rfl) (by kernel_rfl) (by kernel_rfl) (by kernel_rfl) (by kernel_rfl) (fun _ _ _ _ _ h => h) hHeld ?_
          refine held_move 21 (Go.Operand.tmp 100) (some 101) (.bool false) (by kernel_rfl) (by kernel_rfl) (by kernel_rfl) (by kernel_rfl) (by kernel_rfl) (fun _ _ _ _ _ h => h) hHeld ?_
          refine held_move 22 (Go.Operand.tmp 10) (some 102) (.slice (some ⟨ga, p, none⟩) cs.length ca) (by kernel_rfl) (by kernel_rfl) (by kernel_rfl) (by kernel_rfl) (by kernel_rfl) (fun _ _ _ _ _ h => h) hHeld ?_
          refine held_move 23 (Go.Operand.tmp 11) (some 103) (.int .i64 (j : Int)) (by kernel_rfl) (by kernel_rfl) (by kernel_rfl) (by kernel_rfl) (by kernel_rfl) (fun _ _ _ _ _ h => h) hHeld ?_
          refine held_index 24 24 (Go.Operand.tmp 102) (Go.Operand.tmp 103) (some 104) (.slice (some ⟨ga, p, none⟩) cs.length ca) (.int .i64 (j : Int)) (.pointer (some ⟨ga, p + 65 * j, none⟩)) (by kernel_rfl) (by kernel_rfl) (idx_Ep ga p cs.length ca j hjl) (by kernel_rfl) (by kernel_rfl) (by kernel_rfl) (fun _ _ _ _ _ h => h) hHeld ?_
          refine held_field 25 46 (Go.Operand.tmp 104) 1 (some 105) (.pointer (some ⟨ga, p + 65 * j, none⟩)) (.pointer (some ⟨ga, p + 65 * j + 32, none⟩)) (by kernel_rfl) (by kernel_rfl) (field_S1 ga _) (by kernel_rfl) (by kernel_rfl) (by kernel_rfl) (fun _ _ _ _ _ h => h) hHeld ?_
          refine held_load 26 31 (Go.Operand.tmp 105) (some 106) (ga) (p + 65 * j + 32) ((keyOf (c : Int)).map cellB) _ (by kernel_rfl) (by kernel_rfl) (fun w h => rangeAt_below rk (below_dr h) hga) Try.underlying31 rfl (by rw [List.length_map, keyOf_len]; exact info_key) (by kernel_rfl) (by kernel_rfl) (by kernel_rfl) (fun _ _ _ _ _ h => h) hHeld ?_
          refine held_move 27 (Go.Operand.tmp 5) (some 107) (.slice (some ⟨gw, 0, none⟩) cs.length cw) (by kernel_rfl) (by kernel_rfl) (by kernel_rfl) (by kernel_rfl) (by kernel_rfl) (fun _ _ _ _ _ h => h) hHeld ?_
          refine held_move 28 (Go.Operand.tmp 11) (some 108) (.int .i64 (j : Int)) (by kernel_rfl) (by kernel_rfl) (by kernel_rfl) (by kernel_rfl) (by kernel_rfl) (fun _ _ _ _ _ h => h) hHeld ?_
          refine held_index 29 48 (Go.Operand.tmp 107) (Go.Operand.tmp 108) (some 109) (.slice (some ⟨gw, 0, none⟩) cs.length cw) (.int .i64 (j : Int)) (.pointer (some ⟨gw, 0 + j, none⟩)) (by kernel_rfl) (by kernel_rfl) (idx_int gw 0 _ cw j hjl) (by kernel_rfl) (by kernel_rfl) (by kernel_rfl) (fun _ _ _ _ _ h => h) hHeld ?_
          refine held_cell 30 3 (Go.Operand.tmp 109) (some 110) (.pointer (some ⟨gw, 0 + j, none⟩)) (.int .i64 (c : Int)) (by kernel_rfl) (by kernel_rfl) (fun w h => load_i64 _ _ _ w (((below_dr h).cell (p := ⟨gw, _, none⟩) hgw).trans hcc)) (by kernel_rfl) (by kernel_rfl) (by kernel_rfl) (fun _ _ _ _ _ h => h) hHeld ?_
          refine held_call 31 7 #[Go.Operand.tmp 110] #[3] (some 111) #[.int .i64 (c : Int)] _ (by kernel_rfl) (by kernel_rfl) (by kernel_rfl) (by kernel_rfl) (keyis_any (c : Int) wr.drew) ?_
          rintro e wk ⟨rfl, hbk⟩
          refine ⟨_, rfl, below_tr hHeld hbk, fun hHeld => ?_⟩
          refine held_neq 32 31 (Go.Operand.tmp 106) (Go.Operand.tmp 111) 31 (some 112) (((keyOf (c : Int)).map cellB).toArray) (((keyOf (c : Int)).map cellB).toArray) true (by kernel_rfl) (by kernel_rfl) (by kernel_rfl) (by kernel_rfl) (fun w => eq_key w _ _ (keyOf_len _) (keyOf_len _) true (by simp)) (by kernel_rfl) (by kernel_rfl) (by kernel_rfl) (fun _ _ _ _ _ h => h) hHeld ?_
          refine held_pick 33 (Go.Operand.tmp 101) (Go.Operand.const (Go.Value.bool true)) (Go.Operand.tmp 112) (some 113) false (.bool false) (by kernel_rfl) (by kernel_rfl) (by kernel_rfl) (by kernel_rfl) (by kernel_rfl) (by kernel_rfl) (fun _ _ _ _ _ h => h) hHeld ?_
          refine wpAnyH_done (by kernel_rfl) ?_ _
          refine NoPanic.normal ?_
          have hbj2 := below_tr hbj (below_dr hHeld)
          clear hHeld hbk rd rk rn hga hgw hcc hbj
          simp only [put_list, List.set_cons_zero, List.set_cons_succ]
          go_wp2_with fail
          go_roundw
          case rel => exact ⟨j + 1, by go_num, by omega, hbj2⟩
          case measure => simp [intOf]; omega
        · have hjl' : decide (j < cs.length) = false := by simpa using hjl
          have hfind := find_any (cs.map entOf) (key1 2) 3 (key1_len 2) (by rw [List.length_map]; omega) w.heap.size w0.heap.size 0 vs wr (HS1.out.below hbj)
          rw [no_2] at hfind
          have HLZ := Lib.hid (HL1.out.trans (hbj.mono HL1.out.size))
          go_upto_region 28 with (fail)
          refine wp_region_lit ?_
          refine wpList_run (by kernel_rfl) (.agg ((key1 2).map cellB).toArray) (wr) (exec_build (vs := #[(0, Go.Value.int Go.IntKind.u8 2)]) rfl (by kernel_rfl) (build_2 _)) ?_
          refine wpList_call (by kernel_rfl) 15 #[Go.Operand.tmp 4, Go.Operand.tmp 115, Go.Operand.const (Go.Value.int Go.IntKind.u32 3)] #[26, 31, 36] #[.pointer (some ⟨w0.heap.size, 0, none⟩), .agg ((key1 2).map cellB).toArray, Go.Value.int Go.IntKind.u32 3] _ rfl (by kernel_rfl) (by kernel_rfl) (hfind) ?_
          rintro e wy ⟨rfl, hby⟩
          refine ⟨_, rfl, ?_⟩
          refine wpList_run (by kernel_rfl) (.tuple #[.agg ((findK (cs.map entOf) (Ent.is (key1 2) 3)).map cellB).toArray, .bool false]) (wy) (exec_move rfl (by kernel_rfl)) ?_
          refine wpList_run (by kernel_rfl) (.agg ((findK (cs.map entOf) (Ent.is (key1 2) 3)).map cellB).toArray) (wy) (exec_extract (vx := .tuple #[.agg ((findK (cs.map entOf) (Ent.is (key1 2) 3)).map cellB).toArray, .bool false]) rfl (by kernel_rfl) (by kernel_rfl)) ?_
          refine wpList_run (by kernel_rfl) (.bool false) (wy) (exec_extract (vx := .tuple #[.agg ((findK (cs.map entOf) (Ent.is (key1 2) 3)).map cellB).toArray, .bool false]) rfl (by kernel_rfl) (by kernel_rfl)) ?_
          simp only [put_list, List.set_cons_zero, List.set_cons_succ]
          refine wpList_allocV (by kernel_rfl) 31 (by kernel_rfl) ((zkey.map cellB).toArray) (fun _ => by kernel_rfl) ?_
          refine wpList_store_row (by kernel_rfl) 31 (Go.Operand.tmp 12) (Go.Operand.tmp 117) (by kernel_rfl) wy.heap.size (((findK (cs.map entOf) (Ent.is (key1 2) 3)).map cellB).toArray) (by kernel_rfl) (by kernel_rfl) _ _ (heap_alloc_new _ _) (by rw [key_size _ (findK_len _ _)]; exact info_key) (by rw [key_size _ (findK_len _ _), key_size zkey (by simp [zkey])]) (cellB_one _) ?_
          rw [alloc_setRow]
          simp only [put_list, List.set_cons_zero, List.set_cons_succ]
          refine wpList_run (by kernel_rfl) (.bool false) ((wy.alloc (.cells (((findK (cs.map entOf) (Ent.is (key1 2) 3)).map cellB).toArray) 31))) (exec_assign rfl (by kernel_rfl)) ?_
          refine wpList_nil ?_
          simp only [put_list, put_none, List.set_cons_zero, List.set_cons_succ]
          go_wp2_with fail
          go_ret
          exact ⟨rfl, (HLZ.out.trans (hby.mono HLZ.out.size)).alloc (Nat.le_trans HLZ.out.size hby.size) _⟩
end Go.Proofs.Ytklooieghlnblaa
