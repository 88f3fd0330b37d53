import Derived.Test.YtihnpcoiadbpiaaDoorPup
namespace Go.Proofs.YtihnpcoiadbpiaaDoor
open Go.RowKit

theorem owes_lenS {P : Program} {ops : Array Oper} {l : List Sp} {a : Act} {w : World} (i : Nat) (dst : Option Tmp) (anc : List Nat) (r : Value) (x : Operand) (t ty : TypeId) (vx : Value) (hop : ∀ v, ops[i]?.map (fun o => (o.op, Region.wanted o (yielded ops (fr l anc a v).tmps))) = some (.call { callee := .builtin .len, args := #[x], argTypes := #[t] }, true)) (hty : ops[i]?.map (·.type) = some ty)
    (hx : ∀ v, (fr l anc a v).eval x = vx) (he : ∀ w, (Builtin.len_ #[t] ty #[vx]).run P w = .ok r w) : Owes P ops l a w (Sp.k i dst anc r) :=
  .mk_k fun v w' hb ho o hi => by
    have h := hop v
    rw [hi] at h hty
    simp only [Option.map_some, Option.some.injEq, Prod.mk.injEq] at h hty
    refine .value (v := r) (w' := w') h.2 ?_ ⟨Below.refl _ _, Cells.refl _, rfl⟩
    simp only [execOp, h.1, resolve, invoke, builtin, Sem.run_bind, Sem.run_pure, Result.andThen_ok, List.map_toArray, List.map_cons, List.map_nil, hx v, hty, he w']
theorem load_boolS (b o : Nat) (v : Value) (w : World) (h : w.cell? ⟨b, o, none⟩ = some v) : (Instr.loadAt 4 (.pointer (some ⟨b, o, none⟩))).run Tryd.prog w = .ok v w := by
  have h2 := Tryd.underlying4
  go_simp

set_option maxRecDepth 100000 in
set_option maxHeartbeats 1600000 in
theorem dup_range (leaf : Nat → BitVec 8) (i n : Int) (ps : List (Nat → BitVec 8)) (A : Option Addr) (cap : Nat) (w : World) (hbad : i < 0 ∨ n ≤ i ∨ 1048576 < n) :
    Calls Tryd.prog 15 #[.agg (arr8 32 leaf), .int .i64 i, .int .i64 n, .slice A ps.length cap] w fun e w' => e = .returned (.tuple #[.agg (arr8 32 zz), .int .i64 102]) ∧ Below w.heap.size w w' := by
  go_enter Tryd.func15, Tryd.ntmps15
  go_upto_region 1 with (fail)
  refine wp_world (fun W => Below w.heap.size w W ∧ W.rowIs (w.heap.size + 1) 24 32 (fun i => v8 (zz i))) ?_ ?_
  · refine ⟨by go_grown, ?_⟩
    exact rowIs_new (w.alloc _) (Array.replicate 32 (.int .u8 0)) 24 (w.heap.size + 1) 32 (fun i => v8 (zz i)) (by simp) (by simp) (fun i hi => by simp [hi]; rfl)
  rintro W ⟨hb, hz⟩
  generalize hB : w.heap.size = B at *
  have HB := Lib.hid hB; clear hB
  by_cases h0 : i < 0
  · go_upto_region 2 with (fail)
    refine wp_region_text [Sp.k 0 (some 25) [] (.agg (arr8 32 zz)),
      Sp.k 1 none [0] (undef),
      Sp.k 2 (some 9) [] (Go.Value.int Go.IntKind.i64 102)] (by kernel_rfl)
      ⟨owes_build 0 (some 25) [] (.agg (arr8 32 zz)) 24 #[] (#[]) (fun v => by kernel_rfl) (fun v => by kernel_rfl) (fun w => by kernel_rfl),
      owes_store_same 1 [0] 24 (Go.Operand.tmp 8) (Go.Operand.tmp 25) (B + 1) (arr8 32 zz) 24 (fun v => by kernel_rfl) (fun v => by kernel_rfl) (fun v => by kernel_rfl) (by kernel_rfl) (arr8_one _ _) (fun w' hb => rowIs_heap8 (hz.of_block (hb.block _ hz.lt))),
      owes_assign 2 (some 9) [] (Go.Value.int Go.IntKind.i64 102) (Go.Operand.const (Go.Value.int Go.IntKind.i64 102)) (fun v => by kernel_rfl) (fun v => by kernel_rfl), trivial⟩ ?_
    intro v w' hb' hall
    clear hall
    have hbb : Below B w w' := hb.trans (hb'.mono (by have := hz.lt; omega))
    have hx2 := hz.of_block (hb'.block _ hz.lt)
    clear hb'
    simp only [putsL_k, putsL_n, putsL_nil, List.set_cons_zero, List.set_cons_succ]
    go_wp2_with fail
    refine bodyPost_ret (results_row_tmp rfl _ _ _ _ _ _ _ rfl (rowIs_heap8 hx2) Tryd.underlying24 rfl (by kernel_rfl)) rfl ?_
    rw [HB.out]
    exact ⟨rfl, hbb⟩
  · by_cases h1 : n ≤ i
    · have hd1 : decide (n ≤ i) = true := by simpa using h1
      go_upto_region 2 with (fail)
      refine wp_region_text [Sp.k 0 (some 25) [] (.agg (arr8 32 zz)),
        Sp.k 1 none [0] (undef),
        Sp.k 2 (some 9) [] (Go.Value.int Go.IntKind.i64 102)] (by kernel_rfl)
        ⟨owes_build 0 (some 25) [] (.agg (arr8 32 zz)) 24 #[] (#[]) (fun v => by kernel_rfl) (fun v => by kernel_rfl) (fun w => by kernel_rfl),
        owes_store_same 1 [0] 24 (Go.Operand.tmp 8) (Go.Operand.tmp 25) (B + 1) (arr8 32 zz) 24 (fun v => by kernel_rfl) (fun v => by kernel_rfl) (fun v => by kernel_rfl) (by kernel_rfl) (arr8_one _ _) (fun w' hb => rowIs_heap8 (hz.of_block (hb.block _ hz.lt))),
        owes_assign 2 (some 9) [] (Go.Value.int Go.IntKind.i64 102) (Go.Operand.const (Go.Value.int Go.IntKind.i64 102)) (fun v => by kernel_rfl) (fun v => by kernel_rfl), trivial⟩ ?_
      intro v w' hb' hall
      clear hall
      have hbb : Below B w w' := hb.trans (hb'.mono (by have := hz.lt; omega))
      have hx2 := hz.of_block (hb'.block _ hz.lt)
      clear hb'
      simp only [putsL_k, putsL_n, putsL_nil, List.set_cons_zero, List.set_cons_succ]
      go_wp2_with fail
      refine bodyPost_ret (results_row_tmp rfl _ _ _ _ _ _ _ rfl (rowIs_heap8 hx2) Tryd.underlying24 rfl (by kernel_rfl)) rfl ?_
      rw [HB.out]
      exact ⟨rfl, hbb⟩
    · have h2 : 1048576 < n := by omega
      have hd1 : decide (n ≤ i) = false := by simpa using h1
      have hd2 : decide (1048576 < n) = true := by simpa using h2
      go_upto_region 2 with (fail)
      refine wp_region_text [Sp.k 0 (some 25) [] (.agg (arr8 32 zz)),
        Sp.k 1 none [0] (undef),
        Sp.k 2 (some 9) [] (Go.Value.int Go.IntKind.i64 102)] (by kernel_rfl)
        ⟨owes_build 0 (some 25) [] (.agg (arr8 32 zz)) 24 #[] (#[]) (fun v => by kernel_rfl) (fun v => by kernel_rfl) (fun w => by kernel_rfl),
        owes_store_same 1 [0] 24 (Go.Operand.tmp 8) (Go.Operand.tmp 25) (B + 1) (arr8 32 zz) 24 (fun v => by kernel_rfl) (fun v => by kernel_rfl) (fun v => by kernel_rfl) (by kernel_rfl) (arr8_one _ _) (fun w' hb => rowIs_heap8 (hz.of_block (hb.block _ hz.lt))),
        owes_assign 2 (some 9) [] (Go.Value.int Go.IntKind.i64 102) (Go.Operand.const (Go.Value.int Go.IntKind.i64 102)) (fun v => by kernel_rfl) (fun v => by kernel_rfl), trivial⟩ ?_
      intro v w' hb' hall
      clear hall
      have hbb : Below B w w' := hb.trans (hb'.mono (by have := hz.lt; omega))
      have hx2 := hz.of_block (hb'.block _ hz.lt)
      clear hb'
      simp only [putsL_k, putsL_n, putsL_nil, List.set_cons_zero, List.set_cons_succ]
      go_wp2_with fail
      refine bodyPost_ret (results_row_tmp rfl _ _ _ _ _ _ _ rfl (rowIs_heap8 hx2) Tryd.underlying24 rfl (by kernel_rfl)) rfl ?_
      rw [HB.out]
      exact ⟨rfl, hbb⟩

theorem flip_get (acc T : List Bool) (h : T = (acc.map (!·)).reverse) (k : Nat) (t : Bool) (ht : T[k]? = some t) : acc[acc.length - 1 - k]? = some (!t) := by
  subst h
  have hk : k < acc.length := by
    have := (List.getElem?_eq_some_iff.1 ht).1
    simpa using this
  rw [List.getElem?_reverse (by simpa using hk)] at ht
  simp only [List.length_map, List.getElem?_map, Option.map_eq_some_iff] at ht
  obtain ⟨a, h1, h2⟩ := ht
  rw [h1, ← h2]
  simp

set_option maxRecDepth 100000 in
set_option maxHeartbeats 6400000 in
theorem dup_any (leaf : Nat → BitVec 8) (i n : Nat) (ps : List (Nat → BitVec 8)) (A : Option Addr) (cap : Nat) (w : World) (hA : SlRead w A (hcells ps)) (hin : i < n) (hn : n ≤ 1048576) :
    Calls Tryd.prog 15 #[.agg (arr8 32 leaf), .int .i64 (i : Int), .int .i64 (n : Int), .slice A ps.length cap] w fun e w' => Below w.heap.size w w' ∧
      e = .returned (.tuple (if ps.length < (turnsOf i n).length then #[.agg (arr8 32 zz), .int .i64 103] else if (turnsOf i n).length < ps.length then #[.agg (arr8 32 zz), .int .i64 104] else #[.agg (arr8 32 (upOf leaf (turnsOf i n) ps)), .int .i64 0])) := by
  have h0 : ¬ (i : Int) < 0 := by omega
  have h1 : ¬ (n : Int) ≤ (i : Int) := by omega
  have d1 : decide (n ≤ i) = false := by simp; omega
  have d2 : decide ((1048576 : Int) < (n : Int)) = false := by simp; omega
  have htl := turnsOf_short 20 i n hn
  obtain ⟨T, hT⟩ : ∃ T, T = turnsOf i n := ⟨_, rfl⟩
  rw [← hT] at htl ⊢
  have HT := Lib.hid hT; clear hT
  go_enter Tryd.func15, Tryd.ntmps15
  go_upto_region 1 with (fail)
  refine wp_world (fun W => UpS w w.heap.size leaf ps A W) ?_ ?_
  · refine ⟨by go_grown, ?_, ?_⟩
    · exact (rowIs_new w (arr8 32 leaf) 24 w.heap.size 32 _ rfl (by simp) (fun i hi => arr8_get 32 leaf i hi)).alloc _
    · exact rowIs_new (w.alloc _) (Array.replicate 32 (.int .u8 0)) 24 (w.heap.size + 1) 32 (fun i => v8 (zz i)) (by simp) (by simp) (fun i hi => by simp [hi]; rfl)
  intro W hW
  generalize hB : w.heap.size = B at *
  have HB := Lib.hid hB; clear hB
  have hat : TuAt W [] (.slice none 0 0) W := ⟨World.ownsRow_nil W _ _ _, Below.refl _ _⟩
  go_wp2_with fail
  go_loopw [1, 2, 10] (fun p q v wr => ∃ (i' n' : Nat) (acc : List Bool), p = .int .i64 i' ∧ q = .int .i64 n' ∧ i' < n' ∧ n' ≤ 1048576 ∧ Hid (T = turnsOf i' n' ++ (acc.map (!·)).reverse) ∧ acc.length ≤ 20 ∧ TuAt W acc v wr) (fun _ q _ _ => (intOf q).toNat)
  case atStart => exact ⟨i, n, [], rfl, rfl, hin, hn, Lib.hid (by rw [HT.out]; simp), by simp, hat⟩
  clear hat hin hn HT h0 h1 d1 d2
  case round =>
    obtain ⟨i', n', acc, rfl, rfl, hlt, hn', HQ, hal, hat⟩ := hrel
    by_cases h1 : (1 : Int) < (n' : Int)
    · go_wp2_with fail
      refine (dsplit_any (n' : Int) (by omega) _).mono ?_
      rintro e W2 ⟨rfl, hb⟩
      rw [Int.toNat_natCast]
      have hsp := spl_spec n' (by omega)
      have hsp0 := spl_pos n' (by omega)
      obtain ⟨k, hk'⟩ : ∃ k, k = spl n' := ⟨_, rfl⟩
      rw [← hk'] at hsp hsp0 ⊢
      by_cases hik : i' < k
      · have hd : decide (i' < k) = true := by simp; omega
        have ho2 : W2.ownsRow W.heap.size 4 1 _ acc.length (bools acc) := ownsRow_via hat.own (fun g _ hl => hb.block g hl)
        obtain ⟨v5, W5, hr5, hown5, hg5⟩ := run_bool 60 W2 W.heap.size _ acc true ho2 (Nat.le_trans hat.bel.size hb.size) (by omega)
        have hat5 := hat.step hb hown5 hg5
        have hbs := bsl_bool true W2
        clear hat ho2 hown5 hg5 hb
        have HK := Lib.hid hk'; clear hk'
        go_wp2_with (first | (refine wpList_bsl_run (by kernel_rfl) 60 1 _ rfl #[(0, .bool true)] (by kernel_rfl) _ _ hbs ?_) | (at_builtin; refine wpList_append_run_g (by kernel_rfl) _ _ _ _ rfl _ _ rfl rfl _ _ hr5 ?_))
        go_roundw
        case rel =>
          refine ⟨i', k, acc ++ [true], by go_num, by go_num, by omega, by omega, Lib.hid (by rw [HQ.out, turnsOf_left i' n' (by omega) (by rw [← HK.out]; exact hik), ← HK.out]; simp), ?_, hat5⟩
          have e := congrArg List.length HQ.out
          rw [turnsOf_left i' n' (by omega) (by rw [← HK.out]; exact hik)] at e
          simp at e ⊢; omega
        case measure => simp [intOf]; omega
      · have hd : decide (i' < k) = false := by simp; omega
        have ho2 : W2.ownsRow W.heap.size 4 1 _ acc.length (bools acc) := ownsRow_via hat.own (fun g _ hl => hb.block g hl)
        obtain ⟨v5, W5, hr5, hown5, hg5⟩ := run_bool 60 W2 W.heap.size _ acc false ho2 (Nat.le_trans hat.bel.size hb.size) (by omega)
        have hat5 := hat.step hb hown5 hg5
        have hbs := bsl_bool false W2
        clear hat ho2 hown5 hg5 hb
        have HK := Lib.hid hk'; clear hk'
        go_wp2_with (first | (refine wpList_bsl_run (by kernel_rfl) 60 1 _ rfl #[(0, .bool false)] (by kernel_rfl) _ _ hbs ?_) | (at_builtin; refine wpList_append_run_g (by kernel_rfl) _ _ _ _ rfl _ _ rfl rfl _ _ hr5 ?_))
        go_roundw
        case rel =>
          refine ⟨i' - k, n' - k, acc ++ [false], by go_num, by go_num, by omega, by omega, Lib.hid (by rw [HQ.out, turnsOf_right i' n' (by omega) (by rw [← HK.out]; exact hik), ← HK.out]; simp), ?_, hat5⟩
          have e := congrArg List.length HQ.out
          rw [turnsOf_right i' n' (by omega) (by rw [← HK.out]; exact hik)] at e
          simp at e ⊢; omega
        case measure => simp [intOf]; omega
    · have hn1 : n' ≤ 1 := by omega
      rw [turnsOf_one i' n' hn1] at HQ
      have hTe : T = (acc.map (!·)).reverse := by rw [HQ.out]; simp
      have hTl : acc.length = T.length := by rw [hTe]; simp
      have HTL := Lib.hid hTl
      have HTE := Lib.hid hTe
      clear HQ hTe hlt hn' hn1
      have hown := hat.own
      have hb2 := hat.bel
      clear hat
      refine wp_world (fun W2 => Below W.heap.size W W2 ∧ W2.ownsRow W.heap.size 4 1 _ acc.length (bools acc)) ⟨hb2, hown⟩ ?_
      clear hb2 hown
      rintro W2 ⟨hb2, hown⟩
      have hW2 := hW.below hb2
      obtain ⟨As, cs, rfl, hcs⟩ := ownsRow_form hown
      have hsd : SlRead W2 As (bools acc) := SlRead.of_own hown
      clear hW hown hb2
      have hz := hW2.r1
      have hb := hW2.bel
      by_cases hs : ps.length < T.length
      · have d3 : decide (ps.length < acc.length) = true := by rw [hTl]; simpa using hs
        clear hTl
        go_upto_region 12 with (fail)
        refine wp_region_text [Sp.k 0 (some 51) [] (.agg (arr8 32 zz)),
          Sp.k 1 none [0] (undef),
          Sp.k 2 (some 9) [] (Go.Value.int Go.IntKind.i64 103)] (by kernel_rfl)
          ⟨owes_build 0 (some 51) [] (.agg (arr8 32 zz)) 24 #[] (#[]) (fun v => by kernel_rfl) (fun v => by kernel_rfl) (fun w => by kernel_rfl),
          owes_store_same 1 [0] 24 (Go.Operand.tmp 8) (Go.Operand.tmp 51) (B + 1) (arr8 32 zz) 24 (fun v => by kernel_rfl) (fun v => by kernel_rfl) (fun v => by kernel_rfl) (by kernel_rfl) (arr8_one _ _) (fun w' hb => rowIs_heap8 (hz.of_block (hb.block _ hz.lt))),
          owes_assign 2 (some 9) [] (Go.Value.int Go.IntKind.i64 103) (Go.Operand.const (Go.Value.int Go.IntKind.i64 103)) (fun v => by kernel_rfl) (fun v => by kernel_rfl), trivial⟩ ?_
        intro v w' hb' hall
        clear hall
        have hbb : Below B w w' := hb.trans (hb'.mono (by have := hz.lt; omega))
        have hx2 := hz.of_block (hb'.block _ hz.lt)
        clear hb'
        simp only [putsL_k, putsL_n, putsL_nil, List.set_cons_zero, List.set_cons_succ]
        go_wp2_with fail
        refine bodyPost_ret (results_row_tmp rfl _ _ _ _ _ _ _ rfl (rowIs_heap8 hx2) Tryd.underlying24 rfl (by kernel_rfl)) rfl ?_
        rw [HB.out]
        exact ⟨hbb, rfl⟩
      · have d3 : decide (ps.length < acc.length) = false := by rw [hTl]; simpa using hs
        by_cases ht : T.length < ps.length
        · have d4 : decide (acc.length < ps.length) = true := by rw [hTl]; simpa using ht
          clear hTl
          go_upto_region 14 with (fail)
          refine wp_region_text [Sp.k 0 (some 57) [] (.agg (arr8 32 zz)),
            Sp.k 1 none [0] (undef),
            Sp.k 2 (some 9) [] (Go.Value.int Go.IntKind.i64 104)] (by kernel_rfl)
            ⟨owes_build 0 (some 57) [] (.agg (arr8 32 zz)) 24 #[] (#[]) (fun v => by kernel_rfl) (fun v => by kernel_rfl) (fun w => by kernel_rfl),
            owes_store_same 1 [0] 24 (Go.Operand.tmp 8) (Go.Operand.tmp 57) (B + 1) (arr8 32 zz) 24 (fun v => by kernel_rfl) (fun v => by kernel_rfl) (fun v => by kernel_rfl) (by kernel_rfl) (arr8_one _ _) (fun w' hb => rowIs_heap8 (hz.of_block (hb.block _ hz.lt))),
            owes_assign 2 (some 9) [] (Go.Value.int Go.IntKind.i64 104) (Go.Operand.const (Go.Value.int Go.IntKind.i64 104)) (fun v => by kernel_rfl) (fun v => by kernel_rfl), trivial⟩ ?_
          intro v w' hb' hall
          clear hall
          have hbb : Below B w w' := hb.trans (hb'.mono (by have := hz.lt; omega))
          have hx2 := hz.of_block (hb'.block _ hz.lt)
          clear hb'
          simp only [putsL_k, putsL_n, putsL_nil, List.set_cons_zero, List.set_cons_succ]
          go_wp2_with fail
          refine bodyPost_ret (results_row_tmp rfl _ _ _ _ _ _ _ rfl (rowIs_heap8 hx2) Tryd.underlying24 rfl (by kernel_rfl)) rfl ?_
          rw [HB.out]
          exact ⟨hbb, rfl⟩
        · have d4 : decide (acc.length < ps.length) = false := by rw [hTl]; simpa using ht
          have hl : T.length = ps.length := by omega
          clear hTl
          go_upto_region 15 with (fail)
          have hAW := hA.below (show Below w.heap.size w W2 by rw [HB.out]; exact hb)
          have hn1 := heap_alloc_new W2 (.cells (Array.replicate 32 (.int .u8 0)) 24)
          go_upto_region 16 with (first | (refine wpList_load_row rfl 24 _ rfl _ rfl _ _ _ _ (rowIs_heap8 hW2.r0) Tryd.underlying24 rfl (by kernel_rfl) ?_) | (refine wpList_alloc_z rfl 24 rfl (Array.replicate 32 (.int .u8 0)) (fun _ => by kernel_rfl) ?_) | (refine wpList_store_row rfl 24 _ _ rfl W2.heap.size (arr8 32 leaf) rfl rfl _ _ hn1 (by kernel_rfl) (by simp) (arr8_one _ _) ?_))
          rw [alloc_setRow]
          clear hn1
          have hR : B + 1 < W2.heap.size := hz.lt
          refine wp_world (fun W3 => Below W2.heap.size W2 W3 ∧ W3.rowIs W2.heap.size 24 32 (fun i => v8 (leaf i))) ?_ ?_
          · exact ⟨(Below.refl _ _).alloc (Nat.le_refl _) _, rowIs_new W2 (arr8 32 leaf) 24 W2.heap.size 32 _ rfl (by simp) (fun i hi => arr8_get 32 leaf i hi)⟩
          rintro W3 ⟨hb3, hx3⟩
          generalize hRR : W2.heap.size = R at *
          have HR := Lib.hid hRR; clear hRR
          go_wp2_with fail
          go_loopw [13] (fun p wr => ∃ k : Nat, p = .int .i64 k ∧ k ≤ ps.length ∧ Below R W2 wr ∧ wr.rowIs R 24 32 (fun i => v8 (upOf leaf (T.take k) (ps.take k) i))) (fun p _ => ps.length - (intOf p).toNat)
          case atStart => exact ⟨0, rfl, by omega, hb3, by simpa [upOf] using hx3⟩
          clear hb3 hx3
          case round =>
            obtain ⟨k, rfl, hkT, hbw, hx⟩ := hrel
            by_cases hlt : k < ps.length
            · have hlt' : decide (k < ps.length) = true := by simpa using hlt
              obtain ⟨t, ht⟩ : ∃ t, T[k]? = some t := ⟨T[k]'(by omega), by simp [show k < T.length by omega]⟩
              obtain ⟨q, hq⟩ : ∃ q, ps[k]? = some q := ⟨ps[k]'(by omega), by simp [show k < ps.length by omega]⟩
              have hst := upOf_step leaf T ps k t q hl ht hq
              generalize upOf leaf (T.take k) (ps.take k) = x at *
              have hstep := Lib.hid hst; clear hst
              obtain ⟨b, o, rfl, _, _⟩ := hAW (by rw [hcells_length]; omega)
              have hq2 := hrange hAW hq
              have hfl := flip_get acc T HTE.out k t ht
              obtain ⟨m, hm⟩ : ∃ m, m = acc.length - 1 - k := ⟨_, rfl⟩
              have hml : m < acc.length := by have := HTL.out; omega
              have hmk : m + k + 1 = acc.length := by have := HTL.out; omega
              have hal : acc.length ≤ 20 := hal
              rw [← hm] at hfl
              obtain ⟨b2, o2, rfl, hcell⟩ := (hsd.below (show Below W2.heap.size W2 wr by rw [HR.out]; exact hbw)).at_any (bools_get hfl)
              obtain ⟨b2', o2', e2, hb2l, _⟩ := (hsd.below (show Below W2.heap.size W2 wr by rw [HR.out]; exact hbw)) (by simp [bools]; omega)
              have hb2lt : b2 < wr.heap.size := by
                simp only [Option.some.injEq, Addr.mk.injEq, and_true] at e2
                rw [e2.1]; exact hb2l
              have HC : ∀ w', Below wr.heap.size wr w' → w'.cell? ⟨b2, o2 + m, none⟩ = some (.bool !t) := fun w' hb' => (hb'.cell (p := ⟨b2, o2 + m, none⟩) hb2lt).trans hcell
              have HQ : ∀ w', Below wr.heap.size wr w' → w'.rangeAt b (o + 32 * k) (arr8 32 q).toList := fun w' hb' =>
                rangeAt_below (rangeAt_below hq2.2 (show Below W2.heap.size W2 wr by rw [HR.out]; exact hbw) hq2.1) hb' (Nat.lt_of_lt_of_le hq2.1 hbw.size)
              have HX : ∀ w', Below wr.heap.size wr w' → w'.rangeAt R 0 (arr8 32 x).toList := fun w' hb' => rangeAt_row (hx.of_block (hb'.block _ hx.lt))
              clear hq2 hq ht hfl hm hcell hb2lt hb2l e2
              rcases t
              · go_upto_region 19 with (fail)
                refine wp_region_text [Sp.k 0 (some 65) [] (.slice (some ⟨b2, o2, none⟩) acc.length cs),
                  Sp.k 1 (some 66) [] (.slice (some ⟨b2, o2, none⟩) acc.length cs),
                  Sp.k 2 (some 67) [1] (.int .i64 acc.length),
                  Sp.k 3 (some 68) [2] (.int .i64 ((acc.length - 1 : Nat) : Int)),
                  Sp.k 4 (some 69) [] (.int .i64 k),
                  Sp.k 5 (some 70) [3, 4] (.int .i64 ((m : Nat) : Int)),
                  Sp.k 6 (some 71) [0, 5] (.pointer (some ⟨b2, o2 + m, none⟩)),
                  Sp.k 7 (some 72) [6] (.bool true)] (by kernel_rfl)
                  ⟨owes_move 0 (some 65) [] (.slice (some ⟨b2, o2, none⟩) acc.length cs) (Go.Operand.tmp 10) (fun v => by kernel_rfl) (fun v => by kernel_rfl),
                  owes_move 1 (some 66) [] (.slice (some ⟨b2, o2, none⟩) acc.length cs) (Go.Operand.tmp 10) (fun v => by kernel_rfl) (fun v => by kernel_rfl),
                  owes_lenS 2 (some 67) [1] (.int .i64 acc.length) (.tmp 66) 60 3 (.slice (some ⟨b2, o2, none⟩) acc.length cs) (fun v => by kernel_rfl) (by kernel_rfl) (fun v => by kernel_rfl) (fun w => by kernel_rfl),
                  owes_bin 3 (some 68) [2] (.int .i64 ((acc.length - 1 : Nat) : Int)) Go.BinOp.sub 3 (Go.Operand.tmp 67) (Go.Operand.const (Go.Value.int Go.IntKind.i64 1)) 3 (.int .i64 acc.length) (Go.Value.int Go.IntKind.i64 1) (fun v => by kernel_rfl) (fun v => by kernel_rfl) (sub_i64 _ _ _ _ _ _ (by omega) (by omega) (by omega)),
                  owes_move 4 (some 69) [] (.int .i64 k) (Go.Operand.tmp 13) (fun v => by kernel_rfl) (fun v => by kernel_rfl),
                  owes_bin 5 (some 70) [3, 4] (.int .i64 ((m : Nat) : Int)) Go.BinOp.sub 3 (Go.Operand.tmp 68) (Go.Operand.tmp 69) 3 (.int .i64 ((acc.length - 1 : Nat) : Int)) (.int .i64 k) (fun v => by kernel_rfl) (fun v => by kernel_rfl) (sub_i64 _ _ _ _ _ _ (by omega) (by omega) (by omega)),
                  owes_index 6 (some 71) [0, 5] (.pointer (some ⟨b2, o2 + m, none⟩)) 60 (Go.Operand.tmp 65) (Go.Operand.tmp 70) (.slice (some ⟨b2, o2, none⟩) acc.length cs) (.int .i64 ((m : Nat) : Int)) (fun v => by kernel_rfl) (fun v => by kernel_rfl) (idx_sl (P := Tryd.prog) Tryd.underlying60 (show (Tryd.prog.info? 4).map (·.size) = some 1 by kernel_rfl) b2 o2 _ cs m (by omega)),
                  owes_load 7 (some 72) [6] (.bool true) 4 (Go.Operand.tmp 71) (.pointer (some ⟨b2, o2 + m, none⟩)) (fun v => by kernel_rfl) (fun v => by kernel_rfl) (fun w' hb => load_boolS _ _ _ w' (HC w' hb)), trivial⟩ ?_
                intro v wq hbq hall
                clear hall
                simp only [putsL_k, putsL_nil, List.set_cons_zero, List.set_cons_succ]
                replace hx := hx.of_block (hbq.block _ hx.lt)
                replace hbw := hbw.trans (hbq.mono (by have := HR.out; have := hbw.size; omega))
                have HQ' := HQ; have HX' := HX
                replace HQ : ∀ w', Below wq.heap.size wq w' → w'.rangeAt b (o + 32 * k) (arr8 32 q).toList := fun w' hb' => HQ' w' (below_tr hbq hb')
                replace HX : ∀ w', Below wq.heap.size wq w' → w'.rangeAt R 0 (arr8 32 x).toList := fun w' hb' => HX' w' (below_tr hbq hb')
                clear HQ' HX' HC hbq
                go_upto_region 20 with (fail)
                refine wp_region_spec_tail 6 [Sp.k 0 (some 73) [] (.agg (arr8 32 x)),
                  Sp.k 1 (some 74) [] (.slice (some ⟨b, o, none⟩) ps.length cap),
                  Sp.k 2 (some 75) [] (.int .i64 k),
                  Sp.k 3 (some 76) [1, 2] (.pointer (some ⟨b, o + 32 * k, none⟩)),
                  Sp.k 4 (some 77) [3] (.agg (arr8 32 q)),
                  Sp.k 5 (some 78) [0, 4] (.agg (arr8 32 (nodeOf x q)))] (by kernel_rfl) (by kernel_rfl)
                  ⟨owes_load 0 (some 73) [] (.agg (arr8 32 x)) 24 (Go.Operand.tmp 12) (.pointer (some ⟨R, 0, none⟩)) (fun v => by kernel_rfl) (fun v => by kernel_rfl) (fun w' hb => load_hash _ _ _ w' (HX w' (drB hb))),
                  owes_move 1 (some 74) [] (.slice (some ⟨b, o, none⟩) ps.length cap) (Go.Operand.tmp 3) (fun v => by kernel_rfl) (fun v => by kernel_rfl),
                  owes_move 2 (some 75) [] (.int .i64 k) (Go.Operand.tmp 13) (fun v => by kernel_rfl) (fun v => by kernel_rfl),
                  owes_index 3 (some 76) [1, 2] (.pointer (some ⟨b, o + 32 * k, none⟩)) 26 (Go.Operand.tmp 74) (Go.Operand.tmp 75) (.slice (some ⟨b, o, none⟩) ps.length cap) (.int .i64 k) (fun v => by kernel_rfl) (fun v => by kernel_rfl) (idxH b o _ cap k (by omega)),
                  owes_load 4 (some 77) [3] (.agg (arr8 32 q)) 24 (Go.Operand.tmp 76) (.pointer (some ⟨b, o + 32 * k, none⟩)) (fun v => by kernel_rfl) (fun v => by kernel_rfl) (fun w' hb => load_hash _ _ _ w' (HQ w' (drB hb))),
                  owes_call 5 (some 78) [0, 4] (.agg (arr8 32 (nodeOf x q))) 29 #[Go.Operand.tmp 73, Go.Operand.tmp 77] #[24, 24] (fun v => by kernel_rfl) (fun _ _ => by kernel_rfl) (fun v w' hb ho => by
                      exact ⟨#[.agg (arr8 32 x), .agg (arr8 32 q)], by kernel_rfl, (dnode_any x q w').mono (fun _ _ h => h)⟩), trivial⟩ ?_
                intro v w' hb' hall
                clear hall
                replace hb' := drB hb'
                have hx2 := hx.of_block (hb'.block _ hx.lt)
                have hbb : Below R W2 w' := hbw.trans (hb'.mono (by have := hx.lt; omega))
                obtain ⟨ox, hx3, hx4, _⟩ := hx2
                have hbs := below_setRow (g := R) hbb (Nat.le_refl _) (arr8 32 (nodeOf x q))
                have hnx : (w'.setRow R (arr8 32 (nodeOf x q))).rowIs R 24 32 (fun i => v8 (nodeOf x q i)) := ⟨arr8 32 (nodeOf x q), setRow_heap _ _ _ _ _ _ hx3, by simp, fun i hi => arr8_get 32 _ i hi⟩
                clear hbb hb' hx hbw
                simp only [putsL_k, putsL_nil, List.set_cons_zero, List.set_cons_succ]
                simp only [List.drop_succ_cons, List.drop_zero]
                refine wpList_store_row rfl 24 _ _ rfl R (arr8 32 (nodeOf x q)) rfl rfl _ _ hx3 (by kernel_rfl) (by simpa using hx4) (arr8_one _ _) ?_
                simp only [Act.put]
                generalize w'.setRow R (arr8 32 (nodeOf x q)) = W4 at *
                go_wp2_with fail
                go_roundw
                case rel => exact ⟨k + 1, by go_num, by omega, hbs, by rw [hstep.out]; exact hnx⟩
                case measure => simp [intOf]; omega
              · go_upto_region 19 with (fail)
                refine wp_region_text [Sp.k 0 (some 65) [] (.slice (some ⟨b2, o2, none⟩) acc.length cs),
                  Sp.k 1 (some 66) [] (.slice (some ⟨b2, o2, none⟩) acc.length cs),
                  Sp.k 2 (some 67) [1] (.int .i64 acc.length),
                  Sp.k 3 (some 68) [2] (.int .i64 ((acc.length - 1 : Nat) : Int)),
                  Sp.k 4 (some 69) [] (.int .i64 k),
                  Sp.k 5 (some 70) [3, 4] (.int .i64 ((m : Nat) : Int)),
                  Sp.k 6 (some 71) [0, 5] (.pointer (some ⟨b2, o2 + m, none⟩)),
                  Sp.k 7 (some 72) [6] (.bool false)] (by kernel_rfl)
                  ⟨owes_move 0 (some 65) [] (.slice (some ⟨b2, o2, none⟩) acc.length cs) (Go.Operand.tmp 10) (fun v => by kernel_rfl) (fun v => by kernel_rfl),
                  owes_move 1 (some 66) [] (.slice (some ⟨b2, o2, none⟩) acc.length cs) (Go.Operand.tmp 10) (fun v => by kernel_rfl) (fun v => by kernel_rfl),
                  owes_lenS 2 (some 67) [1] (.int .i64 acc.length) (.tmp 66) 60 3 (.slice (some ⟨b2, o2, none⟩) acc.length cs) (fun v => by kernel_rfl) (by kernel_rfl) (fun v => by kernel_rfl) (fun w => by kernel_rfl),
                  owes_bin 3 (some 68) [2] (.int .i64 ((acc.length - 1 : Nat) : Int)) Go.BinOp.sub 3 (Go.Operand.tmp 67) (Go.Operand.const (Go.Value.int Go.IntKind.i64 1)) 3 (.int .i64 acc.length) (Go.Value.int Go.IntKind.i64 1) (fun v => by kernel_rfl) (fun v => by kernel_rfl) (sub_i64 _ _ _ _ _ _ (by omega) (by omega) (by omega)),
                  owes_move 4 (some 69) [] (.int .i64 k) (Go.Operand.tmp 13) (fun v => by kernel_rfl) (fun v => by kernel_rfl),
                  owes_bin 5 (some 70) [3, 4] (.int .i64 ((m : Nat) : Int)) Go.BinOp.sub 3 (Go.Operand.tmp 68) (Go.Operand.tmp 69) 3 (.int .i64 ((acc.length - 1 : Nat) : Int)) (.int .i64 k) (fun v => by kernel_rfl) (fun v => by kernel_rfl) (sub_i64 _ _ _ _ _ _ (by omega) (by omega) (by omega)),
                  owes_index 6 (some 71) [0, 5] (.pointer (some ⟨b2, o2 + m, none⟩)) 60 (Go.Operand.tmp 65) (Go.Operand.tmp 70) (.slice (some ⟨b2, o2, none⟩) acc.length cs) (.int .i64 ((m : Nat) : Int)) (fun v => by kernel_rfl) (fun v => by kernel_rfl) (idx_sl (P := Tryd.prog) Tryd.underlying60 (show (Tryd.prog.info? 4).map (·.size) = some 1 by kernel_rfl) b2 o2 _ cs m (by omega)),
                  owes_load 7 (some 72) [6] (.bool false) 4 (Go.Operand.tmp 71) (.pointer (some ⟨b2, o2 + m, none⟩)) (fun v => by kernel_rfl) (fun v => by kernel_rfl) (fun w' hb => load_boolS _ _ _ w' (HC w' hb)), trivial⟩ ?_
                intro v wq hbq hall
                clear hall
                simp only [putsL_k, putsL_nil, List.set_cons_zero, List.set_cons_succ]
                replace hx := hx.of_block (hbq.block _ hx.lt)
                replace hbw := hbw.trans (hbq.mono (by have := HR.out; have := hbw.size; omega))
                have HQ' := HQ; have HX' := HX
                replace HQ : ∀ w', Below wq.heap.size wq w' → w'.rangeAt b (o + 32 * k) (arr8 32 q).toList := fun w' hb' => HQ' w' (below_tr hbq hb')
                replace HX : ∀ w', Below wq.heap.size wq w' → w'.rangeAt R 0 (arr8 32 x).toList := fun w' hb' => HX' w' (below_tr hbq hb')
                clear HQ' HX' HC hbq
                go_upto_region 21 with (fail)
                refine wp_region_spec_tail 6 [Sp.k 0 (some 79) [] (.slice (some ⟨b, o, none⟩) ps.length cap),
                  Sp.k 1 (some 80) [] (.int .i64 k),
                  Sp.k 2 (some 81) [0, 1] (.pointer (some ⟨b, o + 32 * k, none⟩)),
                  Sp.k 3 (some 82) [2] (.agg (arr8 32 q)),
                  Sp.k 4 (some 83) [] (.agg (arr8 32 x)),
                  Sp.k 5 (some 84) [3, 4] (.agg (arr8 32 (nodeOf q x)))] (by kernel_rfl) (by kernel_rfl)
                  ⟨owes_move 0 (some 79) [] (.slice (some ⟨b, o, none⟩) ps.length cap) (Go.Operand.tmp 3) (fun v => by kernel_rfl) (fun v => by kernel_rfl),
                  owes_move 1 (some 80) [] (.int .i64 k) (Go.Operand.tmp 13) (fun v => by kernel_rfl) (fun v => by kernel_rfl),
                  owes_index 2 (some 81) [0, 1] (.pointer (some ⟨b, o + 32 * k, none⟩)) 26 (Go.Operand.tmp 79) (Go.Operand.tmp 80) (.slice (some ⟨b, o, none⟩) ps.length cap) (.int .i64 k) (fun v => by kernel_rfl) (fun v => by kernel_rfl) (idxH b o _ cap k (by omega)),
                  owes_load 3 (some 82) [2] (.agg (arr8 32 q)) 24 (Go.Operand.tmp 81) (.pointer (some ⟨b, o + 32 * k, none⟩)) (fun v => by kernel_rfl) (fun v => by kernel_rfl) (fun w' hb => load_hash _ _ _ w' (HQ w' (drB hb))),
                  owes_load 4 (some 83) [] (.agg (arr8 32 x)) 24 (Go.Operand.tmp 12) (.pointer (some ⟨R, 0, none⟩)) (fun v => by kernel_rfl) (fun v => by kernel_rfl) (fun w' hb => load_hash _ _ _ w' (HX w' (drB hb))),
                  owes_call 5 (some 84) [3, 4] (.agg (arr8 32 (nodeOf q x))) 29 #[Go.Operand.tmp 82, Go.Operand.tmp 83] #[24, 24] (fun v => by kernel_rfl) (fun _ _ => by kernel_rfl) (fun v w' hb ho => by
                      exact ⟨#[.agg (arr8 32 q), .agg (arr8 32 x)], by kernel_rfl, (dnode_any q x w').mono (fun _ _ h => h)⟩), trivial⟩ ?_
                intro v w' hb' hall
                clear hall
                replace hb' := drB hb'
                have hx2 := hx.of_block (hb'.block _ hx.lt)
                have hbb : Below R W2 w' := hbw.trans (hb'.mono (by have := hx.lt; omega))
                obtain ⟨ox, hx3, hx4, _⟩ := hx2
                have hbs := below_setRow (g := R) hbb (Nat.le_refl _) (arr8 32 (nodeOf q x))
                have hnx : (w'.setRow R (arr8 32 (nodeOf q x))).rowIs R 24 32 (fun i => v8 (nodeOf q x i)) := ⟨arr8 32 (nodeOf q x), setRow_heap _ _ _ _ _ _ hx3, by simp, fun i hi => arr8_get 32 _ i hi⟩
                clear hbb hb' hx hbw
                simp only [putsL_k, putsL_nil, List.set_cons_zero, List.set_cons_succ]
                simp only [List.drop_succ_cons, List.drop_zero]
                refine wpList_store_row rfl 24 _ _ rfl R (arr8 32 (nodeOf q x)) rfl rfl _ _ hx3 (by kernel_rfl) (by simpa using hx4) (arr8_one _ _) ?_
                simp only [Act.put]
                generalize w'.setRow R (arr8 32 (nodeOf q x)) = W4 at *
                go_wp2_with fail
                go_roundw
                case rel => exact ⟨k + 1, by go_num, by omega, hbs, by rw [hstep.out]; exact hnx⟩
                case measure => simp [intOf]; omega
            · have hlt' : decide (k < ps.length) = false := by simpa using hlt
              obtain rfl : k = ps.length := by omega
              rw [List.take_length, List.take_of_length_le (by omega)] at hx
              have hz2 : wr.rowIs (B + 1) 24 32 (fun i => v8 (zz i)) := hz.of_block (hbw.block _ hR)
              obtain ⟨oz, hz3, hz4, _⟩ := hz2
              have hbe : Below B w (wr.setRow (B + 1) (arr8 32 (upOf leaf T ps))) := below_setRow (hb.trans (hbw.mono (by omega))) (by omega) _
              have hxh := rowIs_heap8 hx
              clear hx hbw
              obtain ⟨x, hxx⟩ : ∃ x, x = upOf leaf T ps := ⟨_, rfl⟩
              rw [← hxx] at hbe hxh
              have HXX := Lib.hid hxx; clear hxx
              go_wp2_with (first | (refine wpList_load_row rfl 24 _ rfl _ rfl _ _ _ _ hxh Tryd.underlying24 rfl (by kernel_rfl) ?_) | (refine wpList_store_row rfl 24 _ _ rfl (B + 1) (arr8 32 x) rfl rfl _ _ hz3 (by kernel_rfl) (by simpa using hz4) (arr8_one _ _) ?_))
              refine bodyPost_ret (results_row_tmp rfl _ _ _ _ _ _ _ rfl (setRow_heap _ _ _ _ _ _ hz3) Tryd.underlying24 rfl (by kernel_rfl)) rfl ?_
              rw [HB.out, ← HXX.out]
              exact ⟨hbe, rfl⟩
end Go.Proofs.YtihnpcoiadbpiaaDoor
