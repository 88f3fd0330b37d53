import Derived.Test.YtpegihfocnchnaaDoorAee
/-
  courierref1: Seal, Open.
-/
namespace Go.Proofs.YtpegihfocnchnaaDoor
open Go.RowKit

theorem quietB {P : Program} {f : FuncId} {args : Array Value} {w : World} {v : Value} (h : Quiets P f args w v) : Calls P f args w fun e w' => e = .returned v ∧ Below w.heap.size w w' :=
  h.mono fun _ _ ⟨h1, m, h2⟩ => ⟨h1, by rw [h2]; exact Below.drewNr m⟩
theorem bys_inj {xs ys : List (BitVec 8)} : bys xs = bys ys ↔ xs = ys := by
  constructor
  · intro h
    unfold bys at h
    refine List.map_inj_right (fun x y e => ?_) |>.1 h
    rw [n8_nat, n8_nat] at e
    exact BitVec.eq_of_toNat_eq (by omega)
  · intro h; rw [h]
theorem drB {w w' : World} (h : Below w.drew.heap.size w.drew w') : Below w.heap.size w w' := (Below.drewNr (w := w) 1).trans h
theorem sub_i64A (t : TypeId) (x y : Operand) (a b c : Int) (h : a - b = c) (h1 : -9223372036854775808 ≤ c) (h2 : c ≤ 9223372036854775807) (w : World) : (do eqGuard .sub t x y (.int .i64 a) (.int .i64 b); binOp .sub t (.int .i64 a) (.int .i64 b) : Sem Value).run Tryd.prog w = .ok (.int .i64 c) w := by
  have hw : IntKind.i64.wrap (a - b) = c := by rw [h]; exact IntWalk.i64_in _ (by omega)
  simp [eqGuard, binOp, Op.intArith, hw]
theorem rxorb_any (key non : Nat → BitVec 8) (ct : BitVec 32) (A : Option Addr) (bs : List (BitVec 8)) (cap : Nat) (w : World) (hA : SlRead w A (ints .u8 (bys bs))) (hx : bs.length ≤ 1000) :
    Calls Tryd.prog 35 #[.agg (arr8 32 key), v32 ct, .agg (arr8 12 non), .slice A bs.length cap] w fun e w' => ∃ v, e = .returned v ∧ OwnB w w.heap.size (xorB key ct non bs) v w' := by
  have h := rxor_any key non ct A (bys bs) cap w hA (by simpa using hx)
  rw [bys_length] at h
  refine h.mono ?_
  rintro e w' ⟨v, rfl, hr, hb⟩
  refine ⟨v, rfl, ?_, hb, hb.size⟩
  rw [xorB_length, bys_xorB]
  exact hr
set_option maxRecDepth 100000 in
set_option maxHeartbeats 1600000 in
theorem dseal_any (key non : Nat → BitVec 8) (A X : Option Addr) (ad b : List (BitVec 8)) (ca cx : Nat) (w : World) (hA : SlRead w A (ints .u8 (bys ad))) (hX : SlRead w X (ints .u8 (bys b))) (hla : ad.length ≤ 1000) (hlx : b.length ≤ 1000) :
    Calls Tryd.prog 27 #[.agg (arr8 32 key), .agg (arr8 12 non), .slice A ad.length ca, .slice X b.length cx] w fun e w' => ∃ v, e = .returned v ∧ OwnB w w.heap.size (sealB key non ad b) v w' := by
  have hslT := sliceAt_all (P := Tryd.prog) 16 Tryd.underlying58 (show (Tryd.prog.info? 5).map (·.size) = some 1 by kernel_rfl)
  go_enter Tryd.func27, Tryd.ntmps27
  go_upto_region 1 with (fail)
  refine wp_world (fun W => W.rowIs w.heap.size 23 32 (fun i => v8 (key i)) ∧ W.rowIs (w.heap.size + 1) 48 12 (fun i => v8 (non i)) ∧ Below w.heap.size w W) ?_ ?_
  · refine ⟨?_, ?_, ?_⟩
    · exact (rowIs_new _ _ _ _ _ _ (by simp) (by simp) (fun i hi => arr8_get 32 key i hi)).alloc _
    · exact rowIs_new _ _ _ _ _ _ (by simp) (by simp) (fun i hi => arr8_get 12 non i hi)
    · go_grown
  rintro W0 ⟨h0, h1, h2⟩
  generalize hB : w.heap.size = B at h0 h1 h2 ⊢
  have HB := Lib.hid hB; clear hB
  have hk := rowIs_heap8 h0
  have hn := rowIs_heap8 h1
  have hX0 : SlRead W0 X (ints .u8 (bys b)) := hX.below (by rw [HB.out]; exact h2)
  go_wp2_with (first | (refine wpList_load_row rfl 23 _ rfl _ rfl _ _ _ _ hk Tryd.underlying23 rfl (by kernel_rfl) ?_) | (refine wpList_load_row rfl 48 _ rfl _ rfl _ _ _ _ hn Tryd.underlying48 rfl (by kernel_rfl) ?_))
  refine (rxorb_any key non 1#32 X b cx W0 hX0 hlx).mono ?_
  rintro e W1 ⟨v1, rfl, hw1⟩
  obtain ⟨Av, cv, rfl, hcv⟩ := ownsRow_form hw1.own
  have h01 := h0.of_block (hw1.b.block _ h0.lt)
  have h11 := h1.of_block (hw1.b.block _ h1.lt)
  have hb1 : Below B w W1 := h2.trans (hw1.b.mono (Nat.le_of_lt h0.lt))
  have hle : B + 1 < W0.heap.size := h1.lt
  have hown := own_mono hw1.own (Nat.le_of_lt h0.lt)
  have hB1 : B ≤ W1.heap.size := by rw [← HB.out]; exact hb1.size
  obtain ⟨c, hc⟩ : ∃ c, c = xorB key 1#32 non b := ⟨_, rfl⟩
  have hcl : c.length = b.length := by rw [hc]; simp
  rw [← hc] at hown ⊢
  have hc1 : c.length ≤ 1000 := by omega
  have HC := Lib.hid hc
  clear hc hcl hcv h0 h1 h2 hk hn hX0 hw1 hle W0
  have hk := rowIs_heap8 h01
  have hn := rowIs_heap8 h11
  have hA1 : SlRead W1 A (ints .u8 (bys ad)) := hA.below (by rw [HB.out]; exact hb1)
  have hS1 := SlRead.of_own hown
  go_upto_region 3 with (first | (refine wpList_load_row rfl 23 _ rfl _ rfl _ _ _ _ hk Tryd.underlying23 rfl (by kernel_rfl) ?_) | (refine wpList_load_row rfl 48 _ rfl _ rfl _ _ _ _ hn Tryd.underlying48 rfl (by kernel_rfl) ?_) | (go_at_call 36; refine (dtagged_any key non A Av ad c ca cv W1 hA1 hS1 hla hc1).mono ?_; rintro e W2 ⟨rfl, hb2⟩) | (refine wpList_store_row rfl 58 _ _ rfl _ _ rfl rfl _ _ (heap_alloc_new _ _) (by kernel_rfl) (by simp) (arr8_one _ _) ?_; rw [alloc_setRow]))
  obtain ⟨tg, htg⟩ : ∃ tg, tg = polyB (ckB key 0#32 non) (tagData ad c) := ⟨_, rfl⟩
  rw [← htg]
  have HT := Lib.hid htg
  refine wp_world (fun W => W.ownsRow B 5 1 (.slice Av c.length cv) c.length (ints .u8 (bys c)) ∧ SlRead W (some ⟨W2.heap.size, 0, none⟩) (ints .u8 (bys (lst 16 tg))) ∧ Below B w W ∧ B ≤ W.heap.size) ?_ ?_
  · have hb3 : Below W1.heap.size W1 (W2.alloc (.cells (arr8 16 tg) 58)) := hb2.alloc hb2.size _
    have hb4 : Below B w (W2.alloc (.cells (arr8 16 tg) 58)) := hb1.trans (hb3.mono hB1)
    exact ⟨ownsRow_via hown (fun g _ hlt => hb3.block g hlt), slread_row (t := 58) (rowIs_new _ _ _ _ _ _ rfl (by simp) (fun i hi => arr8_get 16 _ i hi)), hb4, by rw [← HB.out]; exact hb4.size⟩
  rintro W3 ⟨hown3, hS3, hb3, hB3⟩
  generalize W2.heap.size = g at hS3 ⊢
  clear hown h01 h11 hk hn hA1 hS1 hb1 hB1 hb2 htg W2 W1
  go_wp2_with (at_builtin; refine push_many rfl _ _ rfl W3 B (.slice Av c.length cv) c (some ⟨g, 0, none⟩) (lst 16 tg) 16 rfl rfl hown3 hS3 hB3 (by rw [lst_length]; omega) ?_; intro v' W4 hown4 hb4 hg1 hg2; clear hg1 hg2)
  go_wp2_with fail
  go_ret
  have e : c ++ lst 16 tg = sealB key non ad b := by rw [HT.out, HC.out]; rfl
  rw [e] at hown4
  rw [HB.out]
  exact ⟨v', rfl, hown4, hb3.trans hb4, by rw [← HB.out]; exact (hb3.trans hb4).size⟩
set_option maxRecDepth 100000 in
set_option maxHeartbeats 1600000 in
theorem dopen_any (key non : Nat → BitVec 8) (A X : Option Addr) (ad b : List (BitVec 8)) (ca cx : Nat) (w : World) (hA : SlRead w A (ints .u8 (bys ad))) (hX : SlRead w X (ints .u8 (bys b))) (hla : ad.length ≤ 1000) (hlx : b.length ≤ 1000) (hcx : b.length ≤ cx) :
    Calls Tryd.prog 30 #[.agg (arr8 32 key), .agg (arr8 12 non), .slice A ad.length ca, .slice X b.length cx] w fun e w' => ∃ v, e = .returned (.tuple #[v, .int .i64 ((openGot key non ad b).2 : Int)]) ∧ OwnB w w.heap.size (openGot key non ad b).1 v w' := by
  have hslT := sliceAt_all (P := Tryd.prog) 16 Tryd.underlying58 (show (Tryd.prog.info? 5).map (·.size) = some 1 by kernel_rfl)
  go_enter Tryd.func30, Tryd.ntmps30
  go_upto_region 1 with (fail)
  refine wp_world (fun W => W.rowIs w.heap.size 23 32 (fun i => v8 (key i)) ∧ W.rowIs (w.heap.size + 1) 48 12 (fun i => v8 (non i)) ∧ Below w.heap.size w W) ?_ ?_
  · refine ⟨?_, ?_, ?_⟩
    · exact (rowIs_new _ _ _ _ _ _ (by simp) (by simp) (fun i hi => arr8_get 32 key i hi)).alloc _
    · exact rowIs_new _ _ _ _ _ _ (by simp) (by simp) (fun i hi => arr8_get 12 non i hi)
    · go_grown
  rintro W0 ⟨h0, h1, h2⟩
  generalize hB : w.heap.size = B at h0 h1 h2 ⊢
  have HB := Lib.hid hB; clear hB
  by_cases hs : b.length < 16
  · have hd : decide ((b.length : Int) < 16) = true := by simp; omega
    go_wp2_with fail
    go_ret2
    have e : openGot key non ad b = ([], 103) := by unfold openGot; rw [if_pos hs]
    rw [e, HB.out]
    exact ⟨_, rfl, World.ownsRow_nil _ _ _ _, h2, by rw [← HB.out]; exact h2.size⟩
  · have hd : decide ((b.length : Int) < 16) = false := by simp; omega
    obtain ⟨m, hm⟩ : ∃ m, b.length = m + 16 := ⟨b.length - 16, by omega⟩
    have hsub : IntKind.i64.wrap ((b.length : Int) - 16) = (m : Int) := by rw [IntWalk.i64_in _ (by omega)]; omega
    have hs1 := slice_h0 (P := Tryd.prog) (t := 24) Tryd.underlying24 (show (Tryd.prog.info? 5).map (·.size) = some 1 by kernel_rfl) X b.length cx m (by omega)
    have hs2 := slice_sl_l (P := Tryd.prog) (t := 24) Tryd.underlying24 (show (Tryd.prog.info? 5).map (·.size) = some 1 by kernel_rfl) X b.length cx m (m : Int) rfl (by omega)
    have HM := Lib.hid hm; clear hm
    go_upto_region 4 with (fail)
    have hmr : b.length - 16 = m := by have := HM.out; omega
    obtain ⟨tx, htx⟩ : ∃ tx, tx = b.take m := ⟨_, rfl⟩
    obtain ⟨tt, htt⟩ : ∃ tt, tt = b.drop m := ⟨_, rfl⟩
    have htl : tx.length = m := by rw [htx, List.length_take]; omega
    have httl : tt.length = 16 := by rw [htt, List.length_drop]; omega
    have hX1 := hX.front m
    have hX2 := hX.cut m (cutA X m cx) (fun hlt b' o' e => by subst e; exact cutA_some (by simpa using hlt) hcx)
    rw [bys_drop, ← htt] at hX2
    rw [← htx] at hX1
    have hgot : openGot key non ad b = if lst 16 (polyB (ckB key 0#32 non) (tagData ad tx)) = tt then (xorB key 1#32 non tx, 0) else ([], 109) := by
      unfold openGot
      rw [if_neg hs, hmr, htx, htt]
    have hm1 : m ≤ 1000 := by omega
    have HG := Lib.hid hgot
    have HS2 := Lib.hid hs2
    clear hs1 hs2 hsub hgot hmr hd hs
    obtain ⟨Y, hY⟩ : ∃ Y, Y = cutA X m cx := ⟨_, rfl⟩
    rw [← hY] at hX2 HS2
    refine wp_world (fun W => W.rowIs B 23 32 (fun i => v8 (key i)) ∧ W.rowIs (B + 1) 48 12 (fun i => v8 (non i)) ∧ Below B w W) ⟨h0, h1, h2⟩ ?_
    clear h0 h1 h2 htx htt hX hY W0
    rintro W0 ⟨h0, h1, h2⟩
    have hk := rowIs_heap8 h0
    have hn := rowIs_heap8 h1
    have hA0 : SlRead W0 A (ints .u8 (bys ad)) := hA.below (by rw [HB.out]; exact h2)
    replace hX1 : SlRead W0 X (ints .u8 (bys tx)) := hX1.below (by rw [HB.out]; exact h2)
    replace hX2 : SlRead W0 Y (ints .u8 (bys tt)) := hX2.below (by rw [HB.out]; exact h2)
    have htag := dtagged_any key non A X ad tx ca cx W0 hA0 hX1 hla (by omega)
    rw [htl] at htag
    go_upto_region 5 with (first | (refine wpList_load_row rfl 23 _ rfl _ rfl _ _ _ _ hk Tryd.underlying23 rfl (by kernel_rfl) ?_) | (refine wpList_load_row rfl 48 _ rfl _ rfl _ _ _ _ hn Tryd.underlying48 rfl (by kernel_rfl) ?_) | (go_at_call 36; refine htag.mono ?_; rintro e W2 ⟨rfl, hb2⟩) | (refine wpList_store_row rfl 58 _ _ rfl _ _ rfl rfl _ _ (heap_alloc_new _ _) (by kernel_rfl) (by simp) (arr8_one _ _) ?_; rw [alloc_setRow]))
    obtain ⟨tg, htg⟩ : ∃ tg, tg = polyB (ckB key 0#32 non) (tagData ad tx) := ⟨_, rfl⟩
    rw [← htg] at HG ⊢
    have hb3 : Below W0.heap.size W0 (W2.alloc (.cells (arr8 16 tg) 58)) := hb2.alloc hb2.size _
    refine wp_world (fun W => Below W0.heap.size W0 W ∧ W.rowIs W2.heap.size 58 16 (fun i => v8 (tg i))) ⟨hb3, rowIs_new _ _ _ _ _ _ rfl (by simp) (fun i hi => arr8_get 16 _ i hi)⟩ ?_
    clear hb3
    rintro W3 ⟨hb3, hT3⟩
    generalize W2.heap.size = g at hT3 ⊢
    clear htag htg hb2 W2
    have h01 := h0.of_block (hb3.block _ h0.lt)
    have h11 := h1.of_block (hb3.block _ h1.lt)
    have hX13 := hX1.below hb3
    have hX23 := hX2.below hb3
    have hb := h2.trans (hb3.mono (Nat.le_of_lt h0.lt))
    clear h0 h1 h2 hk hn hA0 hX1 hX2 hb3 hA W0
    have hS := slread_row hT3
    have hbl : b.length = m + 16 := HM.out
    have heq : ∀ w', Below W3.heap.size W3 w' → Calls Tryd.prog 12 #[.slice (some ⟨g, 0, none⟩) 16 16, .slice Y 16 (cx - m)] w' fun e w'' => e = .returned (.bool (decide (lst 16 tg = tt))) ∧ Below w'.heap.size w' w'' := fun w' hb' => by
      have h := sameBytes_any (some ⟨g, 0, none⟩) Y (bys (lst 16 tg)) (bys tt) 16 (cx - m) w' (hS.below hb') (hX23.below hb') (by rw [bys_length, lst_length]; omega) (by rw [bys_length]; omega)
      rw [bys_length, bys_length, lst_length, httl, show decide (bys (lst 16 tg) = bys tt) = decide (lst 16 tg = tt) by simp only [bys_inj]] at h
      exact quietB h
    have HQ := Lib.hid heq
    have hl : ∀ w : World, (Builtin.len_ #[24] 3 #[.slice X b.length cx]).run Tryd.prog w = .ok (.int .i64 (b.length : Int)) w := fun w => by kernel_rfl
    have HS3 := HS2.out
    rw [show b.length - m = 16 by omega] at HS3
    by_cases ht : lst 16 tg = tt
    · rw [show decide (lst 16 tg = tt) = true by simp [ht]] at heq
      rw [if_pos ht] at HG
      go_upto_region 5 with (fail)
      simp only [Act.put]
      refine wp_region_spec [Sp.k 0 (some 25) [] (.slice (some ⟨g, 0, none⟩) 16 16),
        Sp.k 1 (some 26) [] (.slice X b.length cx),
        Sp.k 2 (some 27) [] (.slice X b.length cx),
        Sp.k 3 (some 28) [2] (.int .i64 (b.length : Int)),
        Sp.k 4 (some 29) [3] (.int .i64 (m : Int)),
        Sp.k 5 (some 30) [1, 4] (.slice Y 16 (cx - m)),
        Sp.k 6 (some 31) [0, 5] (.bool true),
        Sp.k 7 (some 32) [6] (.bool false)] (by kernel_rfl) (by kernel_rfl)
        ⟨owes_slice 0 (some 25) [] (.slice (some ⟨g, 0, none⟩) 16 16) 58 (Go.Operand.tmp 11) none none none (.pointer (some ⟨g, 0, none⟩)) none none none (fun v => by kernel_rfl) (fun v => by kernel_rfl) (fun w => hslT g (by omega) w),
        owes_move 1 (some 26) [] (.slice X b.length cx) (Go.Operand.tmp 3) (fun v => by kernel_rfl) (fun v => by kernel_rfl),
        owes_move 2 (some 27) [] (.slice X b.length cx) (Go.Operand.tmp 3) (fun v => by kernel_rfl) (fun v => by kernel_rfl),
        owes_lenB 3 (some 28) [2] (.int .i64 (b.length : Int)) (.tmp 27) 24 3 (.slice X b.length cx) (fun v => by kernel_rfl) (by kernel_rfl) (fun v => by kernel_rfl) (fun w => by kernel_rfl),
        owes_bin 4 (some 29) [3] (.int .i64 (m : Int)) Go.BinOp.sub 3 (Go.Operand.tmp 28) (Go.Operand.const (Go.Value.int Go.IntKind.i64 16)) 3 (.int .i64 (b.length : Int)) (Go.Value.int Go.IntKind.i64 16) (fun v => by kernel_rfl) (fun v => by kernel_rfl) (sub_i64A _ _ _ _ _ _ (by omega) (by omega) (by omega)),
        owes_slice 5 (some 30) [1, 4] (.slice Y 16 (cx - m)) 24 (Go.Operand.tmp 26) (some (Go.Operand.tmp 29)) none none (.slice X b.length cx) (some (.int .i64 (m : Int))) none none (fun v => by kernel_rfl) (fun v => by kernel_rfl) (fun w => HS3 w),
        owes_call 6 (some 31) [0, 5] (.bool true) 12 #[Go.Operand.tmp 25, Go.Operand.tmp 30] #[24, 24] (fun v => by kernel_rfl) (fun _ _ => by kernel_rfl) (fun v w' hb ho => by
            exact ⟨#[.slice (some ⟨g, 0, none⟩) 16 16, .slice Y 16 (cx - m)], by kernel_rfl, (heq w' (drB hb)).mono (fun _ _ h => h)⟩),
        owes_un 7 (some 32) [6] (.bool false) Go.UnOp.not 4 (Go.Operand.tmp 31) (.bool true) (fun v => by kernel_rfl) (fun v => by kernel_rfl) (fun w => by kernel_rfl), trivial⟩ ?_
      intro v W4 hb4 hall
      clear hall
      replace hb4 := drB hb4
      simp only [putsL_k, putsL_nil, List.set_cons_zero, List.set_cons_succ]
      have hbw := hb.trans (hb4.mono (Nat.le_of_lt h01.lt))
      have h04 := h01.of_block (hb4.block _ h01.lt)
      have h14 := h11.of_block (hb4.block _ h11.lt)
      have hX4 := hX13.below hb4
      have hk := rowIs_heap8 h04
      have hn := rowIs_heap8 h14
      have hBw : B ≤ W4.heap.size := Nat.le_of_lt h04.lt
      clear heq HQ hl HS3 HS2 hS hT3 h01 h11 hX13 hX23 hb4 hb W3
      have hxor := rxorb_any key non 1#32 X tx cx W4 hX4 (by omega)
      have hxl : (xorB key 1#32 non tx).length = m := by simpa using htl
      rw [htl] at hxor
      go_wp2_with (first | (refine wpList_load_row rfl 23 _ rfl _ rfl _ _ _ _ hk Tryd.underlying23 rfl (by kernel_rfl) ?_) | (refine wpList_load_row rfl 48 _ rfl _ rfl _ _ _ _ hn Tryd.underlying48 rfl (by kernel_rfl) ?_))
      refine hxor.mono ?_
      rintro e W5 ⟨v5, rfl, h5⟩
      go_wp2_with fail
      go_ret2
      rw [HG.out, HB.out]
      exact ⟨_, rfl, own_mono h5.own hBw, hbw.trans (h5.b.mono hBw), Nat.le_trans hBw h5.s⟩
    · rw [show decide (lst 16 tg = tt) = false by simp [ht]] at heq
      rw [if_neg ht] at HG
      go_upto_region 5 with (fail)
      simp only [Act.put]
      refine wp_region_spec [Sp.k 0 (some 25) [] (.slice (some ⟨g, 0, none⟩) 16 16),
        Sp.k 1 (some 26) [] (.slice X b.length cx),
        Sp.k 2 (some 27) [] (.slice X b.length cx),
        Sp.k 3 (some 28) [2] (.int .i64 (b.length : Int)),
        Sp.k 4 (some 29) [3] (.int .i64 (m : Int)),
        Sp.k 5 (some 30) [1, 4] (.slice Y 16 (cx - m)),
        Sp.k 6 (some 31) [0, 5] (.bool false),
        Sp.k 7 (some 32) [6] (.bool true)] (by kernel_rfl) (by kernel_rfl)
        ⟨owes_slice 0 (some 25) [] (.slice (some ⟨g, 0, none⟩) 16 16) 58 (Go.Operand.tmp 11) none none none (.pointer (some ⟨g, 0, none⟩)) none none none (fun v => by kernel_rfl) (fun v => by kernel_rfl) (fun w => hslT g (by omega) w),
        owes_move 1 (some 26) [] (.slice X b.length cx) (Go.Operand.tmp 3) (fun v => by kernel_rfl) (fun v => by kernel_rfl),
        owes_move 2 (some 27) [] (.slice X b.length cx) (Go.Operand.tmp 3) (fun v => by kernel_rfl) (fun v => by kernel_rfl),
        owes_lenB 3 (some 28) [2] (.int .i64 (b.length : Int)) (.tmp 27) 24 3 (.slice X b.length cx) (fun v => by kernel_rfl) (by kernel_rfl) (fun v => by kernel_rfl) (fun w => by kernel_rfl),
        owes_bin 4 (some 29) [3] (.int .i64 (m : Int)) Go.BinOp.sub 3 (Go.Operand.tmp 28) (Go.Operand.const (Go.Value.int Go.IntKind.i64 16)) 3 (.int .i64 (b.length : Int)) (Go.Value.int Go.IntKind.i64 16) (fun v => by kernel_rfl) (fun v => by kernel_rfl) (sub_i64A _ _ _ _ _ _ (by omega) (by omega) (by omega)),
        owes_slice 5 (some 30) [1, 4] (.slice Y 16 (cx - m)) 24 (Go.Operand.tmp 26) (some (Go.Operand.tmp 29)) none none (.slice X b.length cx) (some (.int .i64 (m : Int))) none none (fun v => by kernel_rfl) (fun v => by kernel_rfl) (fun w => HS3 w),
        owes_call 6 (some 31) [0, 5] (.bool false) 12 #[Go.Operand.tmp 25, Go.Operand.tmp 30] #[24, 24] (fun v => by kernel_rfl) (fun _ _ => by kernel_rfl) (fun v w' hb ho => by
            exact ⟨#[.slice (some ⟨g, 0, none⟩) 16 16, .slice Y 16 (cx - m)], by kernel_rfl, (heq w' (drB hb)).mono (fun _ _ h => h)⟩),
        owes_un 7 (some 32) [6] (.bool true) Go.UnOp.not 4 (Go.Operand.tmp 31) (.bool false) (fun v => by kernel_rfl) (fun v => by kernel_rfl) (fun w => by kernel_rfl), trivial⟩ ?_
      intro v W4 hb4 hall
      clear hall
      replace hb4 := drB hb4
      simp only [putsL_k, putsL_nil, List.set_cons_zero, List.set_cons_succ]
      have hbw := hb.trans (hb4.mono (Nat.le_of_lt h01.lt))
      have hBw : B ≤ W4.heap.size := Nat.le_trans (Nat.le_of_lt h01.lt) hb4.size
      clear heq HQ hl HS3 HS2 hS hT3 h01 h11 hX13 hX23 hb4 hb W3
      go_wp2_with fail
      go_ret2
      rw [HG.out, HB.out]
      exact ⟨_, rfl, World.ownsRow_nil _ _ _ _, hbw, hBw⟩
end Go.Proofs.YtpegihfocnchnaaDoor
