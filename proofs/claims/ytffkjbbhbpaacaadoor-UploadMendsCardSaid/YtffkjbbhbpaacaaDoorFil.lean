import Derived.Test.YtffkjbbhbpaacaaDoorTur
import Derived.Test.YtffkjbbhbpaacaaDoorSlB
import Derived.Maps.AppendAt
/-
  bytes appended; a copy.
  couriermake.File.
-/
namespace Go.Proofs.YtffkjbbhbpaacaaDoor
open Go.RowKit

theorem run_append_noneP {P : Program} (w : World) (base : Nat) (t ty e : TypeId) (i : TypeInfo) (size : Nat) (ht : P.underlying t = some (.slice e)) (hi : P.info? e = some i)
    (v : Value) (n : Nat) (xs : List Value) (hown : w.ownsRow base e size v n xs) (c : Nat) : (Builtin.append_ #[t, t] ty #[v, .slice none 0 c]).run P w = .ok v w := by
  rcases hown.2 with ⟨rfl, rfl⟩ | ⟨g, cap, cur, rfl, _, _, hnc, _⟩
  · simp [Builtin.append_, run_underlying ht, sizeOf, typeInfo, hi, Builtin.lenOf, Builtin.firstCells]
  · simp [Builtin.append_, run_underlying ht, sizeOf, typeInfo, hi, Builtin.lenOf, Builtin.firstCells, hnc, storeCells]
/-- numbers appended to a row of bytes of one's own -/
theorem push_intsP {ops : Array Oper} {rest : List Oper} {o : Oper} {a : Act} {Q : Exit → Act → World → Prop} (hgd : o.guard = none) (s x : Operand)
    (ho : o.op = .call { callee := .builtin .append, args := #[s, x], argTypes := #[25, 25] }) (W : World) (base : Nat) (v : Value) (xs : List Int) (B : Option Addr) (ys : List Int) (m cb : Nat)
    (hs : a.eval s = v) (hx : a.eval x = .slice B m cb) (hm : ys.length = m) (hown : W.ownsRow base 5 1 v xs.length (ints .u8 xs)) (hB : SlRead W B (ints .u8 ys)) (hbase : base ≤ W.heap.size) (hl : xs.length + ys.length ≤ 140737488352000)
    (h : ∀ v' w', w'.ownsRow base 5 1 v' (xs ++ ys).length (ints .u8 (xs ++ ys)) → W.grownBy w' v.ownBlock → (v'.ownBlock = v.ownBlock ∨ ∃ g, v'.ownBlock = some g ∧ W.heap.size ≤ g) → wpList Tryd.prog ops Q rest (a.put o.dst v') w') :
    wpList Tryd.prog ops Q (o :: rest) a W := by
  subst hm
  obtain ⟨i0, hi, hz0, hz1, hz2⟩ := info_parts Tryd.info5
  have e : ints .u8 xs ++ ints .u8 ys = ints .u8 (xs ++ ys) := by simp [ints]
  cases B with
  | none =>
    have hy : ys = [] := by
      rcases ys with _ | ⟨y, r⟩
      · rfl
      · obtain ⟨b, o', e1, _⟩ := hB (by simp)
        cases e1
    subst hy
    refine wpList_plain hgd fun K hK => ?_
    have hr := run_append_noneP W base 25 o.type 5 i0 1 Tryd.underlying25 hi v _ _ hown cb
    unfold Oper.wp execOp
    simp only [List.length_nil] at hx
    simp only [ho, resolve, invoke, builtin, Sem.run_bind, Sem.run_pure, Result.andThen_ok, List.map_toArray, List.map_cons, List.map_nil, hs, hx, hr]
    exact hK _ _ (h v W (by simpa using hown) ⟨rfl, rfl, rfl, Nat.le_refl _, fun _ _ _ => rfl⟩ (.inl rfl))
  | some ad =>
    refine wpList_append_own_at _ hgd s x 25 ho base 5 i0 (.int .u8 0) 1 1 Tryd.underlying25 hi hz0 hz1 hz2 rfl (by decide) v _ _ hs hown ad ys.length cb (ints .u8 ys) hx (by simp) ?_ (ints_one .u8 _) ?_ ?_ hbase ?_
    · intro j u hu
      have hn : 0 < (ints .u8 ys).length := by
        have := (List.getElem?_eq_some_iff.1 hu).1
        omega
      obtain ⟨b', o', e1, _, hc⟩ := hB hn
      obtain rfl : ad = ⟨b', o', none⟩ := by simpa using e1
      rw [add_eq]
      exact hc j u hu
    · unfold maxLen; omega
    · omega
    · intro v' w2 hown2 hgrow2 _ hat
      rw [e] at hown2
      refine h v' w2 (by simpa using hown2) hgrow2 ?_
      rcases hat with h1 | h1
      · exact .inl h1
      · exact .inr ⟨_, h1, Nat.le_refl _⟩

set_option maxRecDepth 100000 in
set_option maxHeartbeats 800000 in
/-- a copy: a row of its own -/
theorem cloneI_p (A : Option Addr) (xs : List Int) (ca : Nat) (w : World) (hA : SlRead w A (ints .u8 xs)) (hl : xs.length ≤ 100000000) :
    Calls Tryd.prog 56 #[.slice A xs.length ca] w fun e w' => ∃ v, e = .returned v ∧ w'.ownsRow w.heap.size 5 1 v xs.length (ints .u8 xs) ∧ Below w.heap.size w w' := by
  cases A with
  | none =>
    have hn : xs = [] := by
      cases xs with
      | nil => rfl
      | cons x r => obtain ⟨b, o, e, _⟩ := hA (by simp [ints]); cases e
    subst hn
    have hc0 : ∀ w : World, (binOp .eql 25 (.slice none 0 ca) (.slice none 0 0)).run Tryd.prog w = .ok (.bool true) w := fun w => Lib.run_eql_slice_nil w 25 5 none 0 ca 0 0 Tryd.underlying25
    go_enter Tryd.func56, Tryd.ntmps56
    go_wp2_with fail
    go_ret
    exact ⟨_, rfl, World.ownsRow_nil _ _ _ _, Below.refl _ _⟩
  | some ad =>
    have hown : (w.alloc (.cells #[] 5)).ownsRow w.heap.size 5 1 (.slice (some ⟨w.heap.size, 0, none⟩) 0 0) ([] : List Int).length (ints .u8 []) := ⟨rfl, .inr ⟨w.heap.size, 0, #[], rfl, Nat.le_refl _, heap_alloc_new _ _, Nat.le_refl _, by unfold maxLen; omega, rfl, rfl⟩⟩
    have hb0 : Below w.heap.size w (w.alloc (.cells #[] 5)) := below_alc w _
    have hA0 := hA.below hb0
    have hc0 : ∀ w : World, (binOp .eql 25 (.slice (some ad) xs.length ca) (.slice none 0 0)).run Tryd.prog w = .ok (.bool false) w := fun w => Lib.run_eql_slice_nil w 25 5 (some ad) xs.length ca 0 0 Tryd.underlying25
    go_enter Tryd.func56, Tryd.ntmps56
    go_wp2_with (at_builtin; refine push_intsP rfl _ _ rfl (w.alloc (.cells #[] 5)) w.heap.size (.slice (some ⟨w.heap.size, 0, none⟩) 0 0) [] (some ad) xs xs.length ca rfl rfl rfl hown hA0 hb0.size (by simp; omega) ?_; intro v' W1 hown1 hg1 hat1; rw [List.nil_append] at hown1; have hfin := Lib.hid (And.intro hown1 (hb0.grown hg1 hb0.size (fun j hj => by cases hj; exact Nat.le_refl _))); clear hown hb0 hA0 hown1 hg1 hat1 hA)
    go_ret
    exact ⟨_, rfl, hfin.out.1, hfin.out.2⟩
theorem info_U2 : (Tryd.prog.info? 5).map (fun i => (i.size, i.bytes)) = some (1, 1) := by kernel_rfl
theorem zero_U (i : TypeInfo) (h : Tryd.prog.info? 5 = some i) : i.zero = some (.int .u8 0) := by
  have : (Tryd.prog.info? 5).bind (·.zero) = some (.int .u8 0) := by kernel_rfl
  rw [h] at this
  exact this
theorem run_app_U (ty : TypeId) (W : World) (base : Nat) (v : Value) (n : Nat) (l : List UInt8) (hown : W.ownsRow base 5 1 v n (bcells l)) (B : List UInt8) (a : Addr) (m c : Nat) (hm : B.length = m)
    (hnews : ∀ j u, (bcells B)[j]? = some u → W.cell? (a.add j) = some u) (hn : n + m ≤ 100000) (hbase : base ≤ W.heap.size) :
    ∃ v' w', (Builtin.append_ #[25, 25] ty #[v, .slice (some a) m c]).run Tryd.prog W = .ok v' w' ∧ w'.ownsRow base 5 1 v' (n + m) (bcells (l ++ B)) ∧ W.grownBy w' v.ownBlock ∧ (∀ q, v'.ownBlock = some q → v.ownBlock = some q ∨ W.heap.size ≤ q) := by
  obtain ⟨i, hi, hz⟩ := Option.map_eq_some_iff.1 info_U2
  simp only [Prod.mk.injEq] at hz
  obtain ⟨v', w', h1, h2, h3, _, h4⟩ := run_append_own2 (P := Tryd.prog) W base 25 ty 5 i (.int .u8 0) 1 1 Tryd.underlying25 hi (zero_U i hi) hz.1 hz.2 rfl (by omega) v n (bcells l) hown a m c (bcells B) (by rw [bcells_len, hm, Nat.mul_one]) hnews (bcells_one B) (by unfold maxLen; omega) (by omega) hbase
  exact ⟨v', w', h1, by rw [bcells_app]; exact h2, h3, h4⟩
theorem addw (t : TypeId) (x y : Operand) (w : World) (a b : Int) : (do eqGuard .add t x y (.int .i64 a) (.int .i64 b); binOp .add t (.int .i64 a) (.int .i64 b) : Sem Value).run Tryd.prog w = .ok (.int .i64 (wrap64 (a + b))) w := by
  simp [eqGuard, binOp, Op.intArith, IntKind.wrap_i64]
  unfold wrap64
  omega
theorem quo_13 (t : TypeId) (x y : Operand) (s n : Int) (hn : s / 13 = n) (hs : 0 ≤ s ∧ s ≤ 2000000) (w : World) : (do eqGuard .quo t x y (.int .i64 s) (.int .i64 13); binOp .quo t (.int .i64 s) (.int .i64 13) : Sem Value).run Tryd.prog w = .ok (.int .i64 n) w := by
  have e : Int.tdiv s 13 = n := by rw [Int.tdiv_eq_ediv_of_nonneg hs.1]; exact hn
  have e2 : IntKind.i64.wrap (Int.tdiv s 13) = n := by rw [e]; exact IntWalk.i64_in _ (by omega)
  simp [eqGuard, binOp, Op.intDiv, e2]
theorem bsl_U (x : UInt8) (w : World) : (Instr.buildSlice 25 1 #[(0, cellB x)]).run Tryd.prog w = .ok (.slice (some ⟨w.heap.size, 0, none⟩) 1 1) (w.alloc (.cells #[cellB x] 5)) := by kernel_rfl
/-- a byte of a file -/
def fileB (z : Int) (i : Nat) : UInt8 := UInt8.ofNat (wrap64 (wrap64 (z + ((i * 7 : Nat) : Int)) + ((i / 13 : Nat) : Int)) % 256).toNat
def fileL (z : Int) (n : Nat) : List UInt8 := (List.range n).map (fileB z)
theorem fileL_len (z : Int) (n : Nat) : (fileL z n).length = n := by simp [fileL]
theorem fileL_succ (z : Int) (n : Nat) : fileL z (n + 1) = fileL z n ++ [fileB z n] := by simp [fileL, List.range_succ]
set_option maxRecDepth 100000 in
set_option maxHeartbeats 3200000 in
theorem file_any (z : Int) (n : Nat) (hn : n ≤ 90000) (w : World) : Calls Tryd.prog 8 #[.int .i64 z, .int .i64 (n : Int)] w fun e w' => ∃ A c, e = .returned (.slice A n c) ∧ w'.ownsRow w.heap.size 5 1 (.slice A n c) n (bcells (fileL z n)) ∧ Below w.heap.size w w' := by
  go_enter Tryd.func8, Tryd.ntmps8
  go_wp2_with fail
  go_loopw [5, 6] (fun x y wr => ∃ (k : Nat) (vo : Value), k ≤ n ∧ vo = x ∧ y = .int .i64 (k : Int) ∧ wr.ownsRow w.heap.size 5 1 vo k (bcells (fileL z k)) ∧ Below w.heap.size w wr) (fun _ y _ => n - (intOf y).toNat)
  case atStart => exact ⟨0, _, by omega, rfl, rfl, ⟨rfl, .inl ⟨rfl, rfl⟩⟩, Below.refl _ _⟩
  case round =>
    obtain ⟨k, vo, hk, rfl, rfl, hown, hb⟩ := hrel
    by_cases hlt : k < n
    · have hlt' : (k : Int) < (n : Int) := by omega
      have hbb := below_alc wr (.cells #[cellB (fileB z k)] 5)
      obtain ⟨v2, W4, hap, hown4, hg4, _⟩ := run_app_U 25 (wr.alloc (.cells #[cellB (fileB z k)] 5)) w.heap.size vo _ _ (hown.alloc _) [fileB z k] ⟨wr.heap.size, 0, none⟩ 1 1 rfl (fun j u hu => by rw [add_eq, Nat.zero_add]; have := range_new (heap1_0 wr (.cells #[cellB (fileB z k)] 5)) j u hu; rwa [Nat.zero_add] at this) (by omega) (Nat.le_trans hb.size hbb.size)
      have hb4 : Below w.heap.size w W4 := (hb.trans (hbb.mono hb.size)).trans ⟨hg4.os, hg4.tape, hg4.output, hg4.size, fun q hq => hg4.block q (by have h1 := hb.size; have h2 := hbb.size; omega) (fun e => by have h1 := (hown.lt q e.symm).1; omega)⟩
      rw [← fileL_succ] at hown4
      have H4 := Lib.hid (And.intro hown4 (And.intro hb4 hlt))
      obtain ⟨x, hx⟩ : ∃ x, x = fileB z k := ⟨_, rfl⟩
      rw [← hx] at hap
      obtain ⟨i, hi⟩ : ∃ i : Int, i = (k : Int) := ⟨_, rfl⟩
      obtain ⟨i7, h7'⟩ : ∃ i7 : Int, i7 = ((k * 7 : Nat) : Int) := ⟨_, rfl⟩
      obtain ⟨i13, h13'⟩ : ∃ i13 : Int, i13 = ((k / 13 : Nat) : Int) := ⟨_, rfl⟩
      have h7 : i * 7 = i7 := by rw [hi, h7']; omega
      have h13 : i / 13 = i13 := by rw [hi, h13']; omega
      have hcv : ∀ w, (convert 3 5 (.int .i64 (wrap64 (wrap64 (z + i7) + i13)))).run Tryd.prog w = .ok (cellB x) w := fun w => by rw [cvt_u8, hx, h7', h13']; rfl
      have hib : 0 ≤ i ∧ i ≤ 90000 := by omega
      rw [← hi]
      have HI := Lib.hid hi
      clear hown4 hg4 hb4 hown hb hbb hx h7' h13' hlt
      go_upto_region 5 with (fail)
      refine wp_region_lit ?_
      try simp only [put_list, List.set_cons_zero, List.set_cons_succ]
      refine wpList_run (by kernel_rfl) (vo) (wr) (exec_move rfl (by kernel_rfl)) ?_
      try simp only [put_list, List.set_cons_zero, List.set_cons_succ]
      refine wpList_run (by kernel_rfl) (.int .i64 z) (wr) (exec_move rfl (by kernel_rfl)) ?_
      try simp only [put_list, List.set_cons_zero, List.set_cons_succ]
      refine wpList_run (by kernel_rfl) (.int .i64 i) (wr) (exec_move rfl (by kernel_rfl)) ?_
      try simp only [put_list, List.set_cons_zero, List.set_cons_succ]
      refine wpList_run (by kernel_rfl) (.int .i64 i7) (wr) (exec_bin (vx := .int .i64 i) (vy := Go.Value.int Go.IntKind.i64 7) rfl (by kernel_rfl) (mul_int _ _ _ wr i 7 i7 h7 (by omega) (by omega))) ?_
      try simp only [put_list, List.set_cons_zero, List.set_cons_succ]
      refine wpList_run (by kernel_rfl) (.int .i64 (wrap64 (z + i7))) (wr) (exec_bin (vx := .int .i64 z) (vy := .int .i64 i7) rfl (by kernel_rfl) (addw _ _ _ wr _ _)) ?_
      try simp only [put_list, List.set_cons_zero, List.set_cons_succ]
      refine wpList_run (by kernel_rfl) (.int .i64 i) (wr) (exec_move rfl (by kernel_rfl)) ?_
      try simp only [put_list, List.set_cons_zero, List.set_cons_succ]
      refine wpList_run (by kernel_rfl) (.int .i64 i13) (wr) (exec_bin (vx := .int .i64 i) (vy := Go.Value.int Go.IntKind.i64 13) rfl (by kernel_rfl) (quo_13 _ _ _ i i13 h13 (by omega) wr)) ?_
      try simp only [put_list, List.set_cons_zero, List.set_cons_succ]
      refine wpList_run (by kernel_rfl) (.int .i64 (wrap64 (wrap64 (z + i7) + i13))) (wr) (exec_bin (vx := .int .i64 (wrap64 (z + i7))) (vy := .int .i64 i13) rfl (by kernel_rfl) (addw _ _ _ wr _ _)) ?_
      try simp only [put_list, List.set_cons_zero, List.set_cons_succ]
      refine wpList_run (by kernel_rfl) (cellB x) (wr) (exec_cvt (vx := .int .i64 (wrap64 (wrap64 (z + i7) + i13))) rfl (by kernel_rfl) (hcv wr)) ?_
      try simp only [put_list, List.set_cons_zero, List.set_cons_succ]
      refine wpList_run (by kernel_rfl) (.slice (some ⟨wr.heap.size, 0, none⟩) 1 1) ((wr.alloc (.cells #[cellB x] 5))) (exec_bsl (vs := #[(0, cellB x)]) rfl (by kernel_rfl) (bsl_U x wr)) ?_
      try simp only [put_list, List.set_cons_zero, List.set_cons_succ]
      refine wpList_run (by kernel_rfl) (v2) (W4) (exec_append rfl rfl (vs := vo) (vx := .slice (some ⟨wr.heap.size, 0, none⟩) 1 1) (by kernel_rfl) (hap)) ?_
      try simp only [put_list, List.set_cons_zero, List.set_cons_succ]
      refine wpList_run (by kernel_rfl) (v2) (W4) (exec_assign rfl (by kernel_rfl)) ?_
      refine wpList_nil ?_
      simp only [put_list, List.set_cons_zero, List.set_cons_succ]
      have hw1 : wrap64 (i + 1) = i + 1 := by unfold wrap64; omega
      clear h7 h13 hcv hap
      go_wp2_with fail
      go_roundw
      case rel => exact ⟨k + 1, v2, by have := H4.out.2.2; omega, rfl, by first | (rw [hw1, HI.out]; rfl) | (rw [HI.out]; rfl) | go_num, H4.out.1, H4.out.2.1⟩
      case measure => have h1 := HI.out; have h2 := H4.out.2.2; simp [intOf] <;> omega
    · obtain rfl : k = n := by omega
      obtain ⟨A, c, rfl, _⟩ := own_slice hown
      have HX := Lib.hid (And.intro hown hb)
      clear hown hb hlt
      go_wp2_with fail
      go_ret
      exact ⟨A, c, rfl, HX.out⟩
end Go.Proofs.YtffkjbbhbpaacaaDoor
