import Derived.Test.YtihnpcoiadbpiaaDoorPpa
import Derived.Laws.CopyRow
namespace Go.Proofs.YtihnpcoiadbpiaaDoor
open Go.RowKit

theorem results_row_tmp {P : Program} {fn : Func} {p u : Tmp} {ty : TypeId} (h : fn.results = #[.cell p ty, .tmp u]) (tmps : Array Value) (w : World) (g : Nat) (t : TypeId) (cs : Array Value) (fr : Nat × Nat) (d : TypeDesc)
    (hp : tmps.getD p undef = .pointer (some ⟨g, 0, none⟩)) (hg : w.heap[g]? = some (.cells cs t fr))
    (hu : P.underlying ty = some d) (hd : (match d with | .struct _ | .array _ _ => true | _ => false) = true) (hi : (P.info? ty).map (·.size) = some cs.size) :
    (results fn tmps).run P w = .ok (.tuple #[.agg cs, tmps.getD u undef]) w := by
  have hp' : tmps[p]?.getD undef = .pointer (some ⟨g, 0, none⟩) := by simpa using hp
  simp [results, h, hp', asAddr, run_loadVar_row w g t ty cs fr d hg hu hd hi]
theorem putsL_n (v : Nat → Value) (i : Nat) (anc : List Nat) (x : Value) (l : List Sp) (t : List Value) (df : List Deferred) : putsK v (Sp.k i none anc x :: l) ⟨t.toArray, df⟩ = putsK v l ⟨t.toArray, df⟩ := by
  rw [putsK_k]; rfl
theorem owes_store_same {P : Program} {ops : Array Oper} {l : List Sp} {a : Act} {w : World} (i : Nat) (anc : List Nat) (t : TypeId) (x y : Operand) (g : Nat) (cs : Array Value) (ct : TypeId) (hop : ∀ v, ops[i]?.map (fun o => (o.op, Region.wanted o (yielded ops (fr l anc a v).tmps))) = some (.store t x y, true))
    (hx : ∀ v, (fr l anc a v).eval x = .pointer (some ⟨g, 0, none⟩)) (hy : ∀ v, (fr l anc a v).eval y = .agg cs) (hi : (P.info? t).map (·.size) = some cs.size) (h1 : cs.all (·.oneCell') = true)
    (h : ∀ w', Below w.heap.size w w' → w'.heap[g]? = some (.cells cs ct (0, 0))) : Owes P ops l a w (Sp.k i none anc undef) :=
  .mk_k fun v w' hb _ o hio => by
    have h2 := hop v
    rw [hio] at h2
    simp only [Option.map_some, Option.some.injEq, Prod.mk.injEq] at h2
    unfold opDoes
    rw [if_pos h2.2]
    have e : (execOp (fr l anc a v).eval o).run P w' = .ok .skip w' := by
      unfold execOp
      simp only [h2.1, hx v, hy v, Instr.storeAt, Instr.sureAddr, Sem.run_bind, Sem.run_pure, Result.andThen_ok, run_storeVar_row w' g ct t cs cs (h w' hb) hi rfl h1, setRow_self w' g cs ct (0, 0) (h w' hb)]
    rw [e]
    exact ⟨Below.refl _ _, Cells.refl _, rfl⟩
theorem drB {w w' : World} (h : Below w.drew.heap.size w.drew w') : Below w.heap.size w w' := (Below.drewNr (w := w) 1).trans h
theorem load_errv (g : Nat) (v : Value) (w : World) (h : w.cell? ⟨g, 0, none⟩ = some v) : (Instr.loadAt 33 (.pointer (some ⟨g, 0, none⟩))).run Tryd.prog w = .ok v w := by
  have hu := Tryd.underlying33
  go_simp

set_option maxRecDepth 100000 in
set_option maxHeartbeats 1600000 in
theorem up_range (E : Nat → Addr) (leaf : Nat → BitVec 8) (i n : Int) (ps : List (Nat → BitVec 8)) (A : Option Addr) (cap : Nat) (w : World) (hE : ErrsAt E w) (hbad : i < 0 ∨ n ≤ i ∨ 1048576 < n) :
    Calls Tryd.prog 14 #[.agg (arr8 32 leaf), .int .i64 i, .int .i64 n, .slice A ps.length cap] w fun e w' => e = .returned (.tuple #[.agg (arr8 32 zz), errV (E 1)]) ∧ Below w.heap.size w w' := by
  go_enter Tryd.func14, Tryd.ntmps14
  go_upto_region 1 with (fail)
  refine wp_world (fun W => Below w.heap.size w W ∧ W.rowIs (w.heap.size + 1) 24 32 (fun i => v8 (zz i))) ?_ ?_
  · refine ⟨by go_grown, ?_⟩
    exact rowIs_new (w.alloc _) (Array.replicate 32 (.int .u8 0)) 24 (w.heap.size + 1) 32 (fun i => v8 (zz i)) (by simp) (by simp) (fun i hi => by simp [hi]; rfl)
  rintro W ⟨hb, hz⟩
  replace hE := hE.below hb
  generalize hB : w.heap.size = B at *
  have HB := Lib.hid hB; clear hB
  by_cases h0 : i < 0
  · go_upto_region 2 with (fail)
    refine wp_region_spec [Sp.k 0 (some 25) [] (.agg (arr8 32 zz)),
      Sp.k 1 (some 26) [] (errV (E 1)),
      Sp.k 2 none [0] (undef),
      Sp.k 3 (some 9) [1] (errV (E 1))] (by kernel_rfl) (by kernel_rfl)
      ⟨owes_build 0 (some 25) [] (.agg (arr8 32 zz)) 24 #[] (#[]) (fun v => by kernel_rfl) (fun v => by kernel_rfl) (fun w => by kernel_rfl),
      owes_load 1 (some 26) [] (errV (E 1)) 33 (Go.Operand.global 0) (.pointer (some ⟨0, 0, none⟩)) (fun v => by kernel_rfl) (fun v => by kernel_rfl) (fun w' hb => load_errv _ _ w' ((hE.below (drB hb)).c 1 (by decide))),
      owes_store_same 2 [0] 24 (Go.Operand.tmp 8) (Go.Operand.tmp 25) (B + 1) (arr8 32 zz) 24 (fun v => by kernel_rfl) (fun v => by kernel_rfl) (fun v => by kernel_rfl) (by kernel_rfl) (arr8_one _ _) (fun w' hb => rowIs_heap8 (hz.of_block ((drB hb).block _ hz.lt))),
      owes_assign 3 (some 9) [1] (errV (E 1)) (Go.Operand.tmp 26) (fun v => by kernel_rfl) (fun v => by kernel_rfl), trivial⟩ ?_
    intro v w' hb' hall
    clear hall
    replace hb' := drB hb'
    have hbb : Below B w w' := hb.trans (hb'.mono (by have := hz.lt; omega))
    have hx2 := hz.of_block (hb'.block _ hz.lt)
    clear hb'
    simp only [putsL_k, putsL_n, putsL_nil, List.set_cons_zero, List.set_cons_succ]
    go_wp2_with fail
    refine bodyPost_ret (results_row_tmp rfl _ _ _ _ _ _ _ rfl (rowIs_heap8 hx2) Tryd.underlying24 rfl (by kernel_rfl)) rfl ?_
    rw [HB.out]
    exact ⟨rfl, hbb⟩
  · by_cases h1 : n ≤ i
    · have hd1 : decide (n ≤ i) = true := by simpa using h1
      go_upto_region 2 with (fail)
      refine wp_region_spec [Sp.k 0 (some 25) [] (.agg (arr8 32 zz)),
        Sp.k 1 (some 26) [] (errV (E 1)),
        Sp.k 2 none [0] (undef),
        Sp.k 3 (some 9) [1] (errV (E 1))] (by kernel_rfl) (by kernel_rfl)
        ⟨owes_build 0 (some 25) [] (.agg (arr8 32 zz)) 24 #[] (#[]) (fun v => by kernel_rfl) (fun v => by kernel_rfl) (fun w => by kernel_rfl),
        owes_load 1 (some 26) [] (errV (E 1)) 33 (Go.Operand.global 0) (.pointer (some ⟨0, 0, none⟩)) (fun v => by kernel_rfl) (fun v => by kernel_rfl) (fun w' hb => load_errv _ _ w' ((hE.below (drB hb)).c 1 (by decide))),
        owes_store_same 2 [0] 24 (Go.Operand.tmp 8) (Go.Operand.tmp 25) (B + 1) (arr8 32 zz) 24 (fun v => by kernel_rfl) (fun v => by kernel_rfl) (fun v => by kernel_rfl) (by kernel_rfl) (arr8_one _ _) (fun w' hb => rowIs_heap8 (hz.of_block ((drB hb).block _ hz.lt))),
        owes_assign 3 (some 9) [1] (errV (E 1)) (Go.Operand.tmp 26) (fun v => by kernel_rfl) (fun v => by kernel_rfl), trivial⟩ ?_
      intro v w' hb' hall
      clear hall
      replace hb' := drB hb'
      have hbb : Below B w w' := hb.trans (hb'.mono (by have := hz.lt; omega))
      have hx2 := hz.of_block (hb'.block _ hz.lt)
      clear hb'
      simp only [putsL_k, putsL_n, putsL_nil, List.set_cons_zero, List.set_cons_succ]
      go_wp2_with fail
      refine bodyPost_ret (results_row_tmp rfl _ _ _ _ _ _ _ rfl (rowIs_heap8 hx2) Tryd.underlying24 rfl (by kernel_rfl)) rfl ?_
      rw [HB.out]
      exact ⟨rfl, hbb⟩
    · have h2 : 1048576 < n := by omega
      have hd1 : decide (n ≤ i) = false := by simpa using h1
      have hd2 : decide (1048576 < n) = true := by simpa using h2
      go_upto_region 2 with (fail)
      refine wp_region_spec [Sp.k 0 (some 25) [] (.agg (arr8 32 zz)),
        Sp.k 1 (some 26) [] (errV (E 1)),
        Sp.k 2 none [0] (undef),
        Sp.k 3 (some 9) [1] (errV (E 1))] (by kernel_rfl) (by kernel_rfl)
        ⟨owes_build 0 (some 25) [] (.agg (arr8 32 zz)) 24 #[] (#[]) (fun v => by kernel_rfl) (fun v => by kernel_rfl) (fun w => by kernel_rfl),
        owes_load 1 (some 26) [] (errV (E 1)) 33 (Go.Operand.global 0) (.pointer (some ⟨0, 0, none⟩)) (fun v => by kernel_rfl) (fun v => by kernel_rfl) (fun w' hb => load_errv _ _ w' ((hE.below (drB hb)).c 1 (by decide))),
        owes_store_same 2 [0] 24 (Go.Operand.tmp 8) (Go.Operand.tmp 25) (B + 1) (arr8 32 zz) 24 (fun v => by kernel_rfl) (fun v => by kernel_rfl) (fun v => by kernel_rfl) (by kernel_rfl) (arr8_one _ _) (fun w' hb => rowIs_heap8 (hz.of_block ((drB hb).block _ hz.lt))),
        owes_assign 3 (some 9) [1] (errV (E 1)) (Go.Operand.tmp 26) (fun v => by kernel_rfl) (fun v => by kernel_rfl), trivial⟩ ?_
      intro v w' hb' hall
      clear hall
      replace hb' := drB hb'
      have hbb : Below B w w' := hb.trans (hb'.mono (by have := hz.lt; omega))
      have hx2 := hz.of_block (hb'.block _ hz.lt)
      clear hb'
      simp only [putsL_k, putsL_n, putsL_nil, List.set_cons_zero, List.set_cons_succ]
      go_wp2_with fail
      refine bodyPost_ret (results_row_tmp rfl _ _ _ _ _ _ _ rfl (rowIs_heap8 hx2) Tryd.underlying24 rfl (by kernel_rfl)) rfl ?_
      rw [HB.out]
      exact ⟨rfl, hbb⟩


/-- what a leaf and its path come to -/
structure UpS (w : World) (B : Nat) (leaf : Nat → BitVec 8) (ps : List (Nat → BitVec 8)) (A : Option Addr) (W : World) : Prop where
  bel : Below B w W
  r0 : W.rowIs B 24 32 (fun i => v8 (leaf i))
  r1 : W.rowIs (B + 1) 24 32 (fun i => v8 (zz i))
theorem UpS.below {w W W' : World} {B : Nat} {leaf : Nat → BitVec 8} {ps : List (Nat → BitVec 8)} {A : Option Addr} (x : UpS w B leaf ps A W) (hb : Below W.heap.size W W') : UpS w B leaf ps A W' :=
  ⟨x.bel.trans (hb.mono (by have := x.r1.lt; omega)), x.r0.of_block (hb.block _ x.r0.lt), x.r1.of_block (hb.block _ x.r1.lt)⟩
theorem upOf_step (leaf : Nat → BitVec 8) (T : List Bool) (ps : List (Nat → BitVec 8)) (k : Nat) (t : Bool) (q : Nat → BitVec 8) (hl : T.length = ps.length) (ht : T[k]? = some t) (hp : ps[k]? = some q) :
    upOf leaf (T.take (k + 1)) (ps.take (k + 1)) = if t then nodeOf q (upOf leaf (T.take k) (ps.take k)) else nodeOf (upOf leaf (T.take k) (ps.take k)) q := by
  rw [List.take_add_one, List.take_add_one, ht, hp]
  show upOf leaf (T.take k ++ [t]) (ps.take k ++ [q]) = _
  rw [upOf_append _ _ _ _ _ (by rw [List.length_take, List.length_take, hl])]
  rfl
theorem bools_get {T : List Bool} {k : Nat} {t : Bool} (h : T[k]? = some t) : (bools T)[k]? = some (.bool t) := by simp [bools, h]
theorem SlRead.at_any {w : World} {A : Option Addr} {xs : List Value} (h : SlRead w A xs) {j : Nat} {x : Value} (hj : xs[j]? = some x) : ∃ b o, A = some ⟨b, o, none⟩ ∧ w.cell? ⟨b, o + j, none⟩ = some x := by
  have hl : j < xs.length := (List.getElem?_eq_some_iff.1 hj).1
  obtain ⟨b, o, e, _, hc⟩ := h (by omega)
  exact ⟨b, o, e, hc j x hj⟩
theorem hrange {w : World} {b o : Nat} {hs : List (Nat → BitVec 8)} (h : SlRead w (some ⟨b, o, none⟩) (hcells hs)) {k : Nat} {f : Nat → BitVec 8} (hk : hs[k]? = some f) : b < w.heap.size ∧ w.rangeAt b (o + 32 * k) (arr8 32 f).toList := by
  have hlk : k < hs.length := (List.getElem?_eq_some_iff.1 hk).1
  obtain ⟨b', o', e, hlt, hc⟩ := h (by rw [hcells_length]; omega)
  simp only [Option.some.injEq, Addr.mk.injEq, and_true] at e
  obtain ⟨eb, eo⟩ := e
  subst eb; subst eo
  refine ⟨hlt, fun j u hj => ?_⟩
  have hj32 : j < 32 := by
    have := (List.getElem?_eq_some_iff.1 hj).1
    simpa using this
  have := hc (32 * k + j) u (by rw [hcells_nth hs k f hk j hj32]; exact hj)
  rwa [← Nat.add_assoc] at this
theorem load_hash (b o : Nat) (f : Nat → BitVec 8) (w : World) (h : w.rangeAt b o (arr8 32 f).toList) : (Instr.loadAt 24 (.pointer (some ⟨b, o, none⟩))).run Tryd.prog w = .ok (.agg (arr8 32 f)) w := by
  have := load_row (P := Tryd.prog) 24 b o (arr8 32 f).toList _ Tryd.underlying24 rfl (by kernel_rfl) w h
  simpa using this
theorem own_bools {w : World} {base n c : Nat} {e : TypeId} {A : Option Addr} {bs : List Bool} (h : w.ownsRow base e 1 (.slice A n c) n (bools bs)) : SlRead w A (bools bs) := SlRead.of_own h

set_option maxRecDepth 100000 in
set_option maxHeartbeats 3200000 in
theorem up_any (E : Nat → Addr) (leaf : Nat → BitVec 8) (i n : Nat) (ps : List (Nat → BitVec 8)) (A : Option Addr) (cap : Nat) (w : World) (hE : ErrsAt E w) (hA : SlRead w A (hcells ps)) (hin : i < n) (hn : n ≤ 1048576) (hk : KAt w) :
    Calls Tryd.prog 14 #[.agg (arr8 32 leaf), .int .i64 (i : Int), .int .i64 (n : Int), .slice A ps.length cap] w fun e w' => Below w.heap.size w w' ∧
      e = .returned (.tuple (if ps.length < (turnsOf i n).length then #[.agg (arr8 32 zz), errV (E 2)] else if (turnsOf i n).length < ps.length then #[.agg (arr8 32 zz), errV (E 3)] else #[.agg (arr8 32 (upOf leaf (turnsOf i n) ps)), .nilIface])) := by
  have h0 : ¬ (i : Int) < 0 := by omega
  have h1 : ¬ (n : Int) ≤ (i : Int) := by omega
  have d1 : decide (n ≤ i) = false := by simp; omega
  have d2 : decide ((1048576 : Int) < (n : Int)) = false := by simp; omega
  have htl := turnsOf_short 20 i n hn
  have htu := turns_any i n hin hn
  generalize turnsOf i n = T at *
  go_enter Tryd.func14, Tryd.ntmps14
  go_upto_region 1 with (fail)
  refine wp_world (fun W => UpS w w.heap.size leaf ps A W) ?_ ?_
  · refine ⟨by go_grown, ?_, ?_⟩
    · exact (rowIs_new w (arr8 32 leaf) 24 w.heap.size 32 _ rfl (by simp) (fun i hi => arr8_get 32 leaf i hi)).alloc _
    · exact rowIs_new (w.alloc _) (Array.replicate 32 (.int .u8 0)) 24 (w.heap.size + 1) 32 (fun i => v8 (zz i)) (by simp) (by simp) (fun i hi => by simp [hi]; rfl)
  intro W hW
  generalize hB : w.heap.size = B at *
  have HB := Lib.hid hB; clear hB
  go_upto_region 3 with (fail)
  go_wp2_with fail
  refine (htu W).mono ?_
  rintro e W2 ⟨v, rfl, hown, hb2⟩
  have hW2 := hW.below hb2
  obtain ⟨As, cs, rfl, hcs⟩ := ownsRow_form hown
  have hsd : SlRead W2 As (bools T) := SlRead.of_own hown
  clear hW hown hb2
  have hz := hW2.r1
  have hb := hW2.bel
  replace hE := hE.below (by rw [HB.out]; exact hb)
  by_cases hs : ps.length < T.length
  · have d3 : decide (ps.length < T.length) = true := by simpa using hs
    go_upto_region 5 with (fail)
    refine wp_region_spec [Sp.k 0 (some 36) [] (.agg (arr8 32 zz)),
      Sp.k 1 (some 37) [] (errV (E 2)),
      Sp.k 2 none [0] (undef),
      Sp.k 3 (some 9) [1] (errV (E 2))] (by kernel_rfl) (by kernel_rfl)
      ⟨owes_build 0 (some 36) [] (.agg (arr8 32 zz)) 24 #[] (#[]) (fun v => by kernel_rfl) (fun v => by kernel_rfl) (fun w => by kernel_rfl),
      owes_load 1 (some 37) [] (errV (E 2)) 33 (Go.Operand.global 1) (.pointer (some ⟨1, 0, none⟩)) (fun v => by kernel_rfl) (fun v => by kernel_rfl) (fun w' hb => load_errv _ _ w' ((hE.below (drB hb)).c 2 (by decide))),
      owes_store_same 2 [0] 24 (Go.Operand.tmp 8) (Go.Operand.tmp 36) (B + 1) (arr8 32 zz) 24 (fun v => by kernel_rfl) (fun v => by kernel_rfl) (fun v => by kernel_rfl) (by kernel_rfl) (arr8_one _ _) (fun w' hb => rowIs_heap8 (hz.of_block ((drB hb).block _ hz.lt))),
      owes_assign 3 (some 9) [1] (errV (E 2)) (Go.Operand.tmp 37) (fun v => by kernel_rfl) (fun v => by kernel_rfl), trivial⟩ ?_
    intro v w' hb' hall
    clear hall
    replace hb' := drB hb'
    have hbb : Below B w w' := hb.trans (hb'.mono (by have := hz.lt; omega))
    have hx2 := hz.of_block (hb'.block _ hz.lt)
    clear hb'
    simp only [putsL_k, putsL_n, putsL_nil, List.set_cons_zero, List.set_cons_succ]
    go_wp2_with fail
    refine bodyPost_ret (results_row_tmp rfl _ _ _ _ _ _ _ rfl (rowIs_heap8 hx2) Tryd.underlying24 rfl (by kernel_rfl)) rfl ?_
    rw [HB.out]
    exact ⟨hbb, rfl⟩
  · have d3 : decide (ps.length < T.length) = false := by simpa using hs
    by_cases ht : T.length < ps.length
    · have d4 : decide (T.length < ps.length) = true := by simpa using ht
      go_upto_region 7 with (fail)
      refine wp_region_spec [Sp.k 0 (some 44) [] (.agg (arr8 32 zz)),
        Sp.k 1 (some 45) [] (errV (E 3)),
        Sp.k 2 none [0] (undef),
        Sp.k 3 (some 9) [1] (errV (E 3))] (by kernel_rfl) (by kernel_rfl)
        ⟨owes_build 0 (some 44) [] (.agg (arr8 32 zz)) 24 #[] (#[]) (fun v => by kernel_rfl) (fun v => by kernel_rfl) (fun w => by kernel_rfl),
        owes_load 1 (some 45) [] (errV (E 3)) 33 (Go.Operand.global 2) (.pointer (some ⟨2, 0, none⟩)) (fun v => by kernel_rfl) (fun v => by kernel_rfl) (fun w' hb => load_errv _ _ w' ((hE.below (drB hb)).c 3 (by decide))),
        owes_store_same 2 [0] 24 (Go.Operand.tmp 8) (Go.Operand.tmp 44) (B + 1) (arr8 32 zz) 24 (fun v => by kernel_rfl) (fun v => by kernel_rfl) (fun v => by kernel_rfl) (by kernel_rfl) (arr8_one _ _) (fun w' hb => rowIs_heap8 (hz.of_block ((drB hb).block _ hz.lt))),
        owes_assign 3 (some 9) [1] (errV (E 3)) (Go.Operand.tmp 45) (fun v => by kernel_rfl) (fun v => by kernel_rfl), trivial⟩ ?_
      intro v w' hb' hall
      clear hall
      replace hb' := drB hb'
      have hbb : Below B w w' := hb.trans (hb'.mono (by have := hz.lt; omega))
      have hx2 := hz.of_block (hb'.block _ hz.lt)
      clear hb'
      simp only [putsL_k, putsL_n, putsL_nil, List.set_cons_zero, List.set_cons_succ]
      go_wp2_with fail
      refine bodyPost_ret (results_row_tmp rfl _ _ _ _ _ _ _ rfl (rowIs_heap8 hx2) Tryd.underlying24 rfl (by kernel_rfl)) rfl ?_
      rw [HB.out]
      exact ⟨hbb, rfl⟩
    · have d4 : decide (T.length < ps.length) = false := by simpa using ht
      have hl : T.length = ps.length := by omega
      go_upto_region 8 with (fail)
      have hAW := hA.below (show Below w.heap.size w W2 by rw [HB.out]; exact hb)
      have hkW := hk.below (show Below w.heap.size w W2 by rw [HB.out]; exact hb)
      have hn1 := heap_alloc_new W2 (.cells (Array.replicate 32 (.int .u8 0)) 24)
      go_upto_region 9 with (first | (refine wpList_load_row rfl 24 _ rfl _ rfl _ _ _ _ (rowIs_heap8 hW2.r0) Tryd.underlying24 rfl (by kernel_rfl) ?_) | (refine wpList_alloc_z rfl 24 rfl (Array.replicate 32 (.int .u8 0)) (fun _ => by kernel_rfl) ?_) | (refine wpList_store_row rfl 24 _ _ rfl W2.heap.size (arr8 32 leaf) rfl rfl _ _ hn1 (by kernel_rfl) (by simp) (arr8_one _ _) ?_))
      rw [alloc_setRow]
      clear hn1
      have hR : B + 1 < W2.heap.size := hz.lt
      refine wp_world (fun W3 => Below W2.heap.size W2 W3 ∧ W3.rowIs W2.heap.size 24 32 (fun i => v8 (leaf i))) ?_ ?_
      · exact ⟨(Below.refl _ _).alloc (Nat.le_refl _) _, rowIs_new W2 (arr8 32 leaf) 24 W2.heap.size 32 _ rfl (by simp) (fun i hi => arr8_get 32 leaf i hi)⟩
      rintro W3 ⟨hb3, hx3⟩
      generalize hRR : W2.heap.size = R at *
      have HR := Lib.hid hRR; clear hRR
      go_wp2_with fail
      go_loopw [49] (fun p wr => ∃ k : Nat, p = .int .i64 k ∧ k ≤ T.length ∧ Below R W2 wr ∧ wr.rowIs R 24 32 (fun i => v8 (upOf leaf (T.take k) (ps.take k) i))) (fun p _ => T.length - (intOf p).toNat)
      case atStart => exact ⟨0, rfl, by omega, hb3, by simpa [upOf] using hx3⟩
      clear hb3 hx3
      case round =>
        obtain ⟨k, rfl, hkT, hbw, hx⟩ := hrel
        by_cases hlt : k < T.length
        · have hlt' : decide (k < T.length) = true := by simpa using hlt
          obtain ⟨t, ht⟩ : ∃ t, T[k]? = some t := ⟨T[k], by simp [hlt]⟩
          obtain ⟨q, hq⟩ : ∃ q, ps[k]? = some q := ⟨ps[k]'(by omega), by simp [show k < ps.length by omega]⟩
          have hst := upOf_step leaf T ps k t q hl ht hq
          generalize upOf leaf (T.take k) (ps.take k) = x at *
          have hstep := Lib.hid hst; clear hst
          obtain ⟨b, o, rfl, _, _⟩ := hAW (by rw [hcells_length]; omega)
          have hq2 := hrange hAW hq
          have hsb := (hsd.below (show Below W2.heap.size W2 wr by rw [HR.out]; exact hbw)).at_any (bools_get ht)
          obtain ⟨b2, o2, rfl, hcell⟩ := hsb
          have HQ : ∀ w', Below wr.heap.size wr w' → w'.rangeAt b (o + 32 * k) (arr8 32 q).toList := fun w' hb' =>
            rangeAt_below (rangeAt_below hq2.2 (show Below W2.heap.size W2 wr by rw [HR.out]; exact hbw) hq2.1) hb' (Nat.lt_of_lt_of_le hq2.1 hbw.size)
          have HX : ∀ w', Below wr.heap.size wr w' → w'.rangeAt R 0 (arr8 32 x).toList := fun w' hb' => rangeAt_row (hx.of_block (hb'.block _ hx.lt))
          have HKA : ∀ w', Below wr.heap.size wr w' → KAt w' := fun w' hb' => (hkW.below (show Below W2.heap.size W2 wr by rw [HR.out]; exact hbw)).below hb'
          clear hq2 hq ht
          rcases t
          · go_upto_region 14 with (fail)
            refine wp_region_spec_tail 6 [Sp.k 0 (some 61) [] (.agg (arr8 32 x)),
              Sp.k 1 (some 62) [] (.slice (some ⟨b, o, none⟩) ps.length cap),
              Sp.k 2 (some 63) [] (.int .i64 k),
              Sp.k 3 (some 64) [1, 2] (.pointer (some ⟨b, o + 32 * k, none⟩)),
              Sp.k 4 (some 65) [3] (.agg (arr8 32 q)),
              Sp.k 5 (some 66) [0, 4] (.agg (arr8 32 (nodeOf x q)))] (by kernel_rfl) (by kernel_rfl)
              ⟨owes_load 0 (some 61) [] (.agg (arr8 32 x)) 24 (Go.Operand.tmp 11) (.pointer (some ⟨R, 0, none⟩)) (fun v => by kernel_rfl) (fun v => by kernel_rfl) (fun w' hb => load_hash _ _ _ w' (HX w' (drB hb))),
              owes_move 1 (some 62) [] (.slice (some ⟨b, o, none⟩) ps.length cap) (Go.Operand.tmp 3) (fun v => by kernel_rfl) (fun v => by kernel_rfl),
              owes_move 2 (some 63) [] (.int .i64 k) (Go.Operand.tmp 12) (fun v => by kernel_rfl) (fun v => by kernel_rfl),
              owes_index 3 (some 64) [1, 2] (.pointer (some ⟨b, o + 32 * k, none⟩)) 26 (Go.Operand.tmp 62) (Go.Operand.tmp 63) (.slice (some ⟨b, o, none⟩) ps.length cap) (.int .i64 k) (fun v => by kernel_rfl) (fun v => by kernel_rfl) (idxH b o _ cap k (by omega)),
              owes_load 4 (some 65) [3] (.agg (arr8 32 q)) 24 (Go.Operand.tmp 64) (.pointer (some ⟨b, o + 32 * k, none⟩)) (fun v => by kernel_rfl) (fun v => by kernel_rfl) (fun w' hb => load_hash _ _ _ w' (HQ w' (drB hb))),
              owes_call 5 (some 66) [0, 4] (.agg (arr8 32 (nodeOf x q))) 28 #[Go.Operand.tmp 61, Go.Operand.tmp 65] #[24, 24] (fun v => by kernel_rfl) (fun _ _ => by kernel_rfl) (fun v w' hb ho => by
                  exact ⟨#[.agg (arr8 32 x), .agg (arr8 32 q)], by kernel_rfl, (node_any x q w' (HKA w' (drB hb))).mono (fun _ _ h => h)⟩), trivial⟩ ?_
            intro v w' hb' hall
            clear hall
            replace hb' := drB hb'
            have hx2 := hx.of_block (hb'.block _ hx.lt)
            have hbb : Below R W2 w' := hbw.trans (hb'.mono (by have := hx.lt; omega))
            obtain ⟨ox, hx3, hx4, _⟩ := hx2
            have hbs := below_setRow (g := R) hbb (Nat.le_refl _) (arr8 32 (nodeOf x q))
            have hnx : (w'.setRow R (arr8 32 (nodeOf x q))).rowIs R 24 32 (fun i => v8 (nodeOf x q i)) := ⟨arr8 32 (nodeOf x q), setRow_heap _ _ _ _ _ _ hx3, by simp, fun i hi => arr8_get 32 _ i hi⟩
            clear hbb hb' hx hbw
            simp only [putsL_k, putsL_nil, List.set_cons_zero, List.set_cons_succ]
            simp only [List.drop_succ_cons, List.drop_zero]
            refine wpList_store_row rfl 24 _ _ rfl R (arr8 32 (nodeOf x q)) rfl rfl _ _ hx3 (by kernel_rfl) (by simpa using hx4) (arr8_one _ _) ?_
            simp only [Act.put]
            generalize w'.setRow R (arr8 32 (nodeOf x q)) = W4 at *
            go_wp2_with fail
            go_roundw
            case rel => exact ⟨k + 1, by go_num, by omega, hbs, by rw [hstep.out]; exact hnx⟩
            case measure => simp [intOf]; omega
          · go_upto_region 13 with (fail)
            refine wp_region_spec_tail 6 [Sp.k 0 (some 55) [] (.slice (some ⟨b, o, none⟩) ps.length cap),
              Sp.k 1 (some 56) [] (.int .i64 k),
              Sp.k 2 (some 57) [0, 1] (.pointer (some ⟨b, o + 32 * k, none⟩)),
              Sp.k 3 (some 58) [2] (.agg (arr8 32 q)),
              Sp.k 4 (some 59) [] (.agg (arr8 32 x)),
              Sp.k 5 (some 60) [3, 4] (.agg (arr8 32 (nodeOf q x)))] (by kernel_rfl) (by kernel_rfl)
              ⟨owes_move 0 (some 55) [] (.slice (some ⟨b, o, none⟩) ps.length cap) (Go.Operand.tmp 3) (fun v => by kernel_rfl) (fun v => by kernel_rfl),
              owes_move 1 (some 56) [] (.int .i64 k) (Go.Operand.tmp 12) (fun v => by kernel_rfl) (fun v => by kernel_rfl),
              owes_index 2 (some 57) [0, 1] (.pointer (some ⟨b, o + 32 * k, none⟩)) 26 (Go.Operand.tmp 55) (Go.Operand.tmp 56) (.slice (some ⟨b, o, none⟩) ps.length cap) (.int .i64 k) (fun v => by kernel_rfl) (fun v => by kernel_rfl) (idxH b o _ cap k (by omega)),
              owes_load 3 (some 58) [2] (.agg (arr8 32 q)) 24 (Go.Operand.tmp 57) (.pointer (some ⟨b, o + 32 * k, none⟩)) (fun v => by kernel_rfl) (fun v => by kernel_rfl) (fun w' hb => load_hash _ _ _ w' (HQ w' (drB hb))),
              owes_load 4 (some 59) [] (.agg (arr8 32 x)) 24 (Go.Operand.tmp 11) (.pointer (some ⟨R, 0, none⟩)) (fun v => by kernel_rfl) (fun v => by kernel_rfl) (fun w' hb => load_hash _ _ _ w' (HX w' (drB hb))),
              owes_call 5 (some 60) [3, 4] (.agg (arr8 32 (nodeOf q x))) 28 #[Go.Operand.tmp 58, Go.Operand.tmp 59] #[24, 24] (fun v => by kernel_rfl) (fun _ _ => by kernel_rfl) (fun v w' hb ho => by
                  exact ⟨#[.agg (arr8 32 q), .agg (arr8 32 x)], by kernel_rfl, (node_any q x w' (HKA w' (drB hb))).mono (fun _ _ h => h)⟩), trivial⟩ ?_
            intro v w' hb' hall
            clear hall
            replace hb' := drB hb'
            have hx2 := hx.of_block (hb'.block _ hx.lt)
            have hbb : Below R W2 w' := hbw.trans (hb'.mono (by have := hx.lt; omega))
            obtain ⟨ox, hx3, hx4, _⟩ := hx2
            have hbs := below_setRow (g := R) hbb (Nat.le_refl _) (arr8 32 (nodeOf q x))
            have hnx : (w'.setRow R (arr8 32 (nodeOf q x))).rowIs R 24 32 (fun i => v8 (nodeOf q x i)) := ⟨arr8 32 (nodeOf q x), setRow_heap _ _ _ _ _ _ hx3, by simp, fun i hi => arr8_get 32 _ i hi⟩
            clear hbb hb' hx hbw
            simp only [putsL_k, putsL_nil, List.set_cons_zero, List.set_cons_succ]
            simp only [List.drop_succ_cons, List.drop_zero]
            refine wpList_store_row rfl 24 _ _ rfl R (arr8 32 (nodeOf q x)) rfl rfl _ _ hx3 (by kernel_rfl) (by simpa using hx4) (arr8_one _ _) ?_
            simp only [Act.put]
            generalize w'.setRow R (arr8 32 (nodeOf q x)) = W4 at *
            go_wp2_with fail
            go_roundw
            case rel => exact ⟨k + 1, by go_num, by omega, hbs, by rw [hstep.out]; exact hnx⟩
            case measure => simp [intOf]; omega
        · have hlt' : decide (k < T.length) = false := by simpa using hlt
          obtain rfl : k = T.length := by omega
          rw [List.take_length, List.take_of_length_le (by omega)] at hx
          have hz2 : wr.rowIs (B + 1) 24 32 (fun i => v8 (zz i)) := hz.of_block (hbw.block _ hR)
          obtain ⟨oz, hz3, hz4, _⟩ := hz2
          have hbe : Below B w (wr.setRow (B + 1) (arr8 32 (upOf leaf T ps))) := below_setRow (hb.trans (hbw.mono (by omega))) (by omega) _
          have hxh := rowIs_heap8 hx
          clear hx hbw htu
          obtain ⟨x, hxx⟩ : ∃ x, x = upOf leaf T ps := ⟨_, rfl⟩
          rw [← hxx] at hbe hxh
          have HXX := Lib.hid hxx; clear hxx
          go_wp2_with (first | (refine wpList_load_row rfl 24 _ rfl _ rfl _ _ _ _ hxh Tryd.underlying24 rfl (by kernel_rfl) ?_) | (refine wpList_store_row rfl 24 _ _ rfl (B + 1) (arr8 32 x) rfl rfl _ _ hz3 (by kernel_rfl) (by simpa using hz4) (arr8_one _ _) ?_))
          refine bodyPost_ret (results_row_tmp rfl _ _ _ _ _ _ _ rfl (setRow_heap _ _ _ _ _ _ hz3) Tryd.underlying24 rfl (by kernel_rfl)) rfl ?_
          rw [HB.out, ← HXX.out]
          exact ⟨hbe, rfl⟩
end Go.Proofs.YtihnpcoiadbpiaaDoor
