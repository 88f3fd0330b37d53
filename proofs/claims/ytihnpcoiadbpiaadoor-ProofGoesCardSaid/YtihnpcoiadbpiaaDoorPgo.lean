import Derived.Test.YtihnpcoiadbpiaaDoorPga
namespace Go.Proofs.YtihnpcoiadbpiaaDoor
open Go.RowKit

theorem wpl_load {P : Program} {w : World} {ops : Array Oper} {rest : List Oper} {o : Oper} {a : Act} {Q : Exit → Act → World → Prop} (hw : Region.wanted o (yielded ops a.tmps) = true) (t : TypeId) (x : Operand)
    (ho : o.op = .load t x) (vx : Value) (hx : a.eval x = vx) (v' : Value) (hr : (Instr.loadAt t vx).run P w = .ok v' w)
    (h : wpList P ops Q rest (a.put o.dst v') w) : wpList P ops Q (o :: rest) a w :=
  BigFrame.wpList_want hw fun _ hK => by
    unfold Oper.wp execOp
    simp only [ho, hx, Sem.run_bind, hr]
    exact hK _ _ h
theorem wpl_idx {P : Program} {w : World} {ops : Array Oper} {rest : List Oper} {o : Oper} {a : Act} {Q : Exit → Act → World → Prop} (hw : Region.wanted o (yielded ops a.tmps) = true) (t : TypeId) (x y : Operand)
    (ho : o.op = .indexAddr t x y) (vx vy : Value) (hx : (a.eval x, a.eval y) = (vx, vy)) (v' : Value) (hr : (Instr.indexAt t vx vy).run P w = .ok v' w)
    (h : wpList P ops Q rest (a.put o.dst v') w) : wpList P ops Q (o :: rest) a w :=
  BigFrame.wpList_want hw fun _ hK => by
    simp only [Prod.mk.injEq] at hx
    unfold Oper.wp execOp
    simp only [ho, hx.1, hx.2, Sem.run_bind, hr]
    exact hK _ _ h
/-- what is at hand throughout -/
structure GoS (w : World) (R : Nat) (rt : Nat → BitVec 8) (b o : Nat) (hs : List (Nat → BitVec 8)) (AP : Option Addr) (P : List (Nat → BitVec 8)) (W : World) : Prop where
  bel : Below w.heap.size w W
  row : W.rowIs R 24 32 (fun i => v8 (rt i))
  h : SlRead W (some ⟨b, o, none⟩) (hcells hs)
  p : SlRead W AP (hcells P)
theorem GoS.next {w : World} {R : Nat} {rt : Nat → BitVec 8} {b o : Nat} {hs : List (Nat → BitVec 8)} {AP : Option Addr} {P : List (Nat → BitVec 8)} {W W' : World} (x : GoS w R rt b o hs AP P W) (hb : Below W.heap.size W W') : GoS w R rt b o hs AP P W' :=
  ⟨below_tr x.bel hb, x.row.of_block (hb.block _ x.row.lt), x.h.below hb, x.p.below hb⟩
theorem upGot_own (leaf : Nat → BitVec 8) (j : Nat) (hs ps : List (Nat → BitVec 8)) (hj : j < hs.length) (hl : hs.length ≤ 1048576) (hp : ps.length = (pathOf j hs).length) : upGot leaf j hs.length ps = (upOf leaf (turnsOf j hs.length) ps, 0) := by
  have h := pathOf_length hs.length j hs (Nat.le_refl _)
  unfold upGot
  rw [if_neg (by omega)]
  simp only [Int.toNat_natCast]
  rw [if_neg (by omega), if_neg (by omega)]
theorem check_own (j : Nat) (hs : List (Nat → BitVec 8)) (lf : Nat → BitVec 8) (hj : hs[j]? = some lf) (hl : hs.length ≤ 1048576) : checkGot (rootOf hs) lf j hs.length (pathOf j hs) = 0 := by
  have hlt := (List.getElem?_eq_some_iff.1 hj).1
  unfold checkGot
  rw [upGot_own lf j hs _ hlt hl rfl, up_path hs.length j hs lf (Nat.le_refl _) hj]
  simp
theorem check_bad (j : Nat) (hs : List (Nat → BitVec 8)) (rt bad : Nat → BitVec 8) (hj : j < hs.length) (hl : hs.length ≤ 1048576) : checkGot rt bad j hs.length (pathOf j hs) = 0 ∨ checkGot rt bad j hs.length (pathOf j hs) = 113 := by
  unfold checkGot
  rw [upGot_own bad j hs _ hj hl rfl]
  simp only [if_true]
  split
  · exact .inl rfl
  · exact .inr rfl
theorem check_more (j : Nat) (hs : List (Nat → BitVec 8)) (rt lf q : Nat → BitVec 8) (hj : j < hs.length) (hl : hs.length ≤ 1048576) : checkGot rt lf j hs.length (pathOf j hs ++ [q]) = 104 := by
  have h := pathOf_length hs.length j hs (Nat.le_refl _)
  have e : upGot lf j hs.length (pathOf j hs ++ [q]) = (zz, 104) := by
    unfold upGot
    rw [if_neg (by omega)]
    simp only [Int.toNat_natCast, List.length_append, List.length_singleton]
    rw [if_neg (by omega), if_pos (by omega)]
  unfold checkGot
  rw [e]
  simp
theorem check_less (j : Nat) (hs : List (Nat → BitVec 8)) (rt lf : Nat → BitVec 8) (hj : j < hs.length) (hl : hs.length ≤ 1048576) (hp : pathOf j hs ≠ []) : checkGot rt lf j hs.length (pathOf j hs).tail = 103 := by
  have h := pathOf_length hs.length j hs (Nat.le_refl _)
  have h0 : 0 < (pathOf j hs).length := List.length_pos_iff.2 hp
  have e : upGot lf j hs.length (pathOf j hs).tail = (zz, 103) := by
    unfold upGot
    rw [if_neg (by omega)]
    simp only [Int.toNat_natCast, List.length_tail]
    rw [if_pos (by omega)]
  unfold checkGot
  rw [e]
  simp

set_option maxRecDepth 100000 in
set_option maxHeartbeats 25600000 in
theorem goes_walk (E : Nat → Addr) (A : Option Addr) (xs : List Int) (ca : Nat) (zi zo : Int) (w : World)
    (hA : SlRead w A (ints .i64 xs)) (hxs : ∀ x ∈ xs, -9223372036854775808 ≤ x ∧ x ≤ 9223372036854775807) (hE0 : ErrsAt E w) (hk0 : KAt w) :
    Calls Tryd.prog 4 #[.slice A xs.length ca, .int .i64 zi, .int .i64 zo] w fun e w' => e = .returned (.bool true) ∧ Below w.heap.size w w' := by
  go_enter Tryd.func4, Tryd.ntmps4
  go_wp2_with fail
  refine (pfirst_any E w hE0 hk0).mono ?_
  rintro e W1 ⟨rfl, hb1⟩
  by_cases h60 : 60 < xs.length
  · have d1 : decide ((60 : Int) < (xs.length : Int)) = true := by simp; omega
    go_wp2_with fail
    go_ret
    exact ⟨rfl, hb1⟩
  have d1 : decide ((60 : Int) < (xs.length : Int)) = false := by simp; omega
  have hsq := SeqAt.neuG (cap := ca) (hA.below hb1)
  have hh := hashes_any W1.heap.size 0 A xs ca 40 _ hsq (by omega) (by omega) hxs
  go_wp2_with fail
  refine hh.mono ?_
  rintro e W3 ⟨hs, O, c, rfl, hl1, hl2, hl3, hO, honly⟩
  have hb13 : Below W1.heap.size W1 W3 := ((Below.refl _ _).alloc (Nat.le_refl _) _).trans (honly.below (Nat.le_refl _) (by simp))
  replace hb1 := below_tr hb1 hb13
  clear hsq hh honly hb13
  by_cases h0 : hs.length = 0
  · have d0 : ((hs.length : Int) == 0) = true := by simp [h0]
    have d2 : decide (hs.length = 0) = true := by simp [h0]
    rw [h0]
    go_wp2_with fail
    go_ret
    exact ⟨rfl, hb1⟩
  have d0 : ((hs.length : Int) == 0) = false := by simpa using h0
  have d2 : decide (hs.length = 0) = false := by simpa using h0
  obtain ⟨j, hj1, hj2⟩ := exists_mod zi hs.length (by omega)
  obtain ⟨kk, hk1, hk2⟩ := exists_mod zo hs.length (by omega)
  have HJ := Lib.hid hj1; have HK := Lib.hid hk1
  clear hj1 hk1
  obtain ⟨b, o, rfl, _, _⟩ := hO (by rw [hcells_length]; omega)
  have hjl : j < hs.length := by omega
  obtain ⟨lf, hlf⟩ : ∃ lf, hs[j]? = some lf := ⟨hs[j], by simp [hjl]⟩
  have HLF := Lib.hid hlf; clear hlf
  go_wp2_with fail
  refine (number_nat zi hs.length j W3 (by omega) HJ.out).mono ?_
  rintro e W4 ⟨rfl, n4, rfl⟩
  have hb4 : Below W3.heap.size W3 (W3.drewN n4) := Below.drewNr n4
  replace hb1 := below_tr hb1 hb4
  replace hO := hO.below hb4
  clear hb4
  generalize W3.drewN n4 = W4 at *
  have hrt := drootn_any hs.length hs _ c W4 (Nat.le_refl _) hO hl2 (by omega)
  have hc0 := check_own j hs lf HLF.out (by omega)
  have hc1 := check_bad j hs (rootOf hs)
  have hup := upGot_own lf j hs (pathOf j hs) hjl (by omega) rfl
  rw [up_path hs.length j hs lf (Nat.le_refl _) HLF.out] at hup
  obtain ⟨rt, hrt'⟩ : ∃ rt, rt = rootOf hs := ⟨_, rfl⟩
  rw [← hrt'] at hrt hc0 hc1 hup
  have HC0' := Lib.hid hc0; have HCB := Lib.hid hc1; have HUP := Lib.hid hup
  clear hrt' hc0 hc1 hup
  go_wp2_with fail
  refine hrt.mono ?_
  rintro e W5 ⟨rfl, hb5⟩
  have hn1 := heap_alloc_new W5 (.cells (Array.replicate 32 (.int .u8 0)) 24)
  clear hrt
  go_upto_region 12 with (first | (refine wpList_alloc_z rfl 24 rfl (Array.replicate 32 (.int .u8 0)) (fun _ => by kernel_rfl) ?_) | (refine wpList_store_row rfl 24 _ _ rfl W5.heap.size (arr8 32 rt) rfl rfl _ _ hn1 (by kernel_rfl) (by simp) (arr8_one _ _) ?_))
  rw [alloc_setRow]
  clear hn1
  refine wp_world (fun V => GoS w W5.heap.size rt b o hs none [] V) ?_ ?_
  · exact ⟨below_tr (below_tr hb1 hb5) ((Below.refl _ _).alloc (Nat.le_refl _) _), rowIs_new W5 (arr8 32 rt) 24 W5.heap.size 32 _ rfl (by simp) (fun i hi => arr8_get 32 rt i hi), (hO.below hb5).below ((Below.refl _ _).alloc (Nat.le_refl _) _), SlRead.nil_⟩
  intro W6 x
  clear hb1 hb5 hO
  generalize W5.heap.size = R at *
  go_wp2_with fail
  refine (path_any j hs _ c W6 x.h hl2 hjl (by omega) (hk0.below x.bel)).mono ?_
  rintro e W ⟨v1, rfl, ho1, hb8⟩
  obtain ⟨AP, cP, rfl, hcP⟩ := ownsRow_form ho1
  have hPl : (pathOf j hs).length ≤ 20 := by rw [pathOf_length hs.length j hs (Nat.le_refl _)]; exact turnsOf_short 20 j hs.length (by omega)
  have x : GoS w R rt b o hs AP (pathOf j hs) W := ⟨(x.next hb8).bel, (x.next hb8).row, (x.next hb8).h, SlRead.of_own32 ho1⟩
  clear hb8 ho1
  have hcm := fun q => check_more j hs rt lf q hjl (by omega)
  have hcl := check_less j hs rt lf hjl (by omega)
  have hcc := HCB.out
  have hcp0 := HC0'.out
  have hup := HUP.out
  clear HC0' HCB HUP
  generalize pathOf j hs = P at *
  have HC0' := Lib.hid hcp0; have HCB := Lib.hid hcc; have HUP := Lib.hid hup; have HCM := Lib.hid hcm; have HCL := Lib.hid hcl
  clear hcp0 hcc hup hcm hcl
  have hr := x.row
  have hE := hE0.below x.bel
  have HQ : ∀ w', Below W.heap.size W w' → w'.rangeAt b (o + 32 * j) (arr8 32 lf).toList := fun w' hb => (hrange (x.next hb).h HLF.out).2
  have HC0 : ∀ w', Below W.heap.size W w' → Calls Tryd.prog 17 #[.agg (arr8 32 rt), .agg (arr8 32 lf), .int .i64 j, .int .i64 hs.length, .slice AP P.length cP] w' fun e w'' => e = .returned .nilIface ∧ Below w'.heap.size w' w'' := fun w' hb => by
    have h := check_all E rt lf j hs.length P AP cP w' (hE.below hb) (x.next hb).p (hk0.below (x.next hb).bel)
    rwa [HC0'.out] at h
  go_upto_region 13 with (fail)
  refine wp_region_spec [Sp.k 0 (some 45) [] (.nilIface),
    Sp.k 1 (some 46) [0] (.bool false),
    Sp.k 2 (some 47) [1] (.bool false),
    Sp.k 3 (some 48) [2] (.agg (arr8 32 rt)),
    Sp.k 4 (some 49) [2] (.slice (some ⟨b, o, none⟩) hs.length c),
    Sp.k 5 (some 50) [2] (.int .i64 j),
    Sp.k 6 (some 51) [2, 4, 5] (.pointer (some ⟨b, o + 32 * j, none⟩)),
    Sp.k 7 (some 52) [2, 6] (.agg (arr8 32 lf)),
    Sp.k 8 (some 53) [2] (.int .i64 j),
    Sp.k 9 (some 54) [2] (.int .i64 hs.length),
    Sp.k 10 (some 55) [2] (.slice AP P.length cP),
    Sp.k 11 (some 56) [2, 3, 7, 8, 9, 10] (.nilIface),
    Sp.k 12 (some 57) [2, 11] (.bool false),
    Sp.k 13 (some 58) [2, 12] (.bool false)] (by kernel_rfl) (by kernel_rfl)
    ⟨owes_move 0 (some 45) [] (.nilIface) (Go.Operand.tmp 12) (fun v => by kernel_rfl) (fun v => by kernel_rfl),
    owes_bin 1 (some 46) [0] (.bool false) Go.BinOp.neq 33 (Go.Operand.tmp 45) (Go.Operand.const Go.Value.nilIface) 33 (.nilIface) (Go.Value.nilIface) (fun v => by kernel_rfl) (fun v => by kernel_rfl) (fun w => by kernel_rfl),
    owes_move 2 (some 47) [1] (.bool false) (Go.Operand.tmp 46) (fun v => by kernel_rfl) (fun v => by kernel_rfl),
    owes_load 3 (some 48) [2] (.agg (arr8 32 rt)) 24 (Go.Operand.tmp 10) (.pointer (some ⟨R, 0, none⟩)) (fun v => by kernel_rfl) (fun v => by kernel_rfl) (fun w' hb => load_hash _ _ _ w' (rangeAt_row (hr.of_block ((drB hb).block _ hr.lt)))),
    owes_move 4 (some 49) [2] (.slice (some ⟨b, o, none⟩) hs.length c) (Go.Operand.tmp 8) (fun v => by kernel_rfl) (fun v => by kernel_rfl),
    owes_move 5 (some 50) [2] (.int .i64 j) (Go.Operand.tmp 1) (fun v => by kernel_rfl) (fun v => by kernel_rfl),
    owes_index 6 (some 51) [2, 4, 5] (.pointer (some ⟨b, o + 32 * j, none⟩)) 26 (Go.Operand.tmp 49) (Go.Operand.tmp 50) (.slice (some ⟨b, o, none⟩) hs.length c) (.int .i64 j) (fun v => by kernel_rfl) (fun v => by kernel_rfl) (idxH b o _ c j (by omega)),
    owes_load 7 (some 52) [2, 6] (.agg (arr8 32 lf)) 24 (Go.Operand.tmp 51) (.pointer (some ⟨b, o + 32 * j, none⟩)) (fun v => by kernel_rfl) (fun v => by kernel_rfl) (fun w' hb => load_hash _ _ _ w' (HQ w' (drB hb))),
    owes_move 8 (some 53) [2] (.int .i64 j) (Go.Operand.tmp 1) (fun v => by kernel_rfl) (fun v => by kernel_rfl),
    owes_move 9 (some 54) [2] (.int .i64 hs.length) (Go.Operand.tmp 9) (fun v => by kernel_rfl) (fun v => by kernel_rfl),
    owes_move 10 (some 55) [2] (.slice AP P.length cP) (Go.Operand.tmp 11) (fun v => by kernel_rfl) (fun v => by kernel_rfl),
    owes_call 11 (some 56) [2, 3, 7, 8, 9, 10] (.nilIface) 17 #[Go.Operand.tmp 48, Go.Operand.tmp 52, Go.Operand.tmp 53, Go.Operand.tmp 54, Go.Operand.tmp 55] #[24, 24, 3, 3, 26] (fun v => by kernel_rfl) (fun _ _ => by kernel_rfl) (fun v w' hb ho => by
        exact ⟨#[.agg (arr8 32 rt), .agg (arr8 32 lf), .int .i64 j, .int .i64 hs.length, .slice AP P.length cP], by kernel_rfl, (HC0 w' (drB hb)).mono (fun _ _ h => h)⟩),
    owes_bin 12 (some 57) [2, 11] (.bool false) Go.BinOp.neq 33 (Go.Operand.tmp 56) (Go.Operand.const Go.Value.nilIface) 33 (.nilIface) (Go.Value.nilIface) (fun v => by kernel_rfl) (fun v => by kernel_rfl) (fun w => by kernel_rfl),
    owes_pick 13 (some 58) [2, 12] (.bool false) (Go.Operand.tmp 47) (Go.Operand.const (Go.Value.bool true)) (Go.Operand.tmp 57) false (fun v => by kernel_rfl) (fun v => by kernel_rfl) (fun v => by kernel_rfl), trivial⟩ ?_
  intro v Wn hb' hall
  clear hall HQ HC0 hr
  simp only [putsL_k, putsL_nil, List.set_cons_zero, List.set_cons_succ]
  replace x := x.next (drB hb')
  clear hb' hE
  have hup := up_all E lf j hs.length P AP cP Wn (hE0.below x.bel) x.p (hk0.below x.bel)
  rw [HUP.out] at hup
  have hld := load_hash b (o + 32 * j) lf Wn (hrange x.h HLF.out).2
  have hidx := idxH b o hs.length c j hjl Wn
  go_wp2_with (first | (refine wpl_idx (by kernel_rfl) 26 _ _ rfl _ _ rfl _ hidx ?_) | (refine wpl_load (by kernel_rfl) 24 _ rfl _ rfl _ hld ?_))
  refine hup.mono ?_
  rintro e V1 ⟨rfl, hb1⟩
  have hn1 := heap_alloc_new V1 (.cells (Array.replicate 32 (.int .u8 0)) 24)
  clear hup hld hidx
  rw [show errOf E 0 = .nilIface from rfl]
  go_upto_region 16 with (first | (refine wpList_alloc_z rfl 24 rfl (Array.replicate 32 (.int .u8 0)) (fun _ => by kernel_rfl) ?_) | (refine wpList_store_row rfl 24 _ _ rfl V1.heap.size (arr8 32 rt) rfl rfl _ _ hn1 (by kernel_rfl) (by simp) (arr8_one _ _) ?_))
  rw [alloc_setRow]
  clear hn1
  refine wp_world (fun V => GoS w R rt b o hs AP P V ∧ V.rowIs V1.heap.size 24 32 (fun i => v8 (rt i))) ?_ ?_
  · exact ⟨x.next (hb1.alloc hb1.size _), rowIs_new V1 (arr8 32 rt) 24 V1.heap.size 32 _ rfl (by simp) (fun i hi => arr8_get 32 rt i hi)⟩
  clear hb1 x
  rintro W ⟨x, h2⟩
  generalize V1.heap.size = R2 at *
  try simp only [Act.put, List.setIfInBounds_toArray, List.set_cons_zero, List.set_cons_succ]
  have hr : W.drew.rowIs R 24 32 (fun i => v8 (rt i)) := x.row
  replace h2 : W.drew.rowIs R2 24 32 (fun i => v8 (rt i)) := h2
  have hp : SlRead W.drew AP (hcells P) := x.p
  have hE : ErrsAt E W.drew := (hE0.below x.bel).of_heap rfl
  have HQ : ∀ w', Below W.drew.heap.size W.drew w' → w'.rangeAt b (o + 32 * j) (arr8 32 lf).toList := fun w' hb => (hrange (x.next (drB hb)).h HLF.out).2
  have HC1 : ∀ (A9 : Option Addr) (c9 : Nat) (w' : World), Below W.drew.heap.size W.drew w' → SlRead w' A9 (hcells (P ++ [rt])) → Calls Tryd.prog 17 #[.agg (arr8 32 rt).toList.toArray, .agg (arr8 32 lf).toList.toArray, .int .i64 j, .int .i64 hs.length, .slice A9 (P ++ [rt]).length c9] w' fun e w'' => e = .returned (errV (E 3)) ∧ Below w'.heap.size w' w'' := fun A9 c9 w' hb h9 => by
    have h := check_all E rt lf j hs.length (P ++ [rt]) A9 c9 w' (hE.below hb) h9 (hk0.below (x.next (drB hb)).bel)
    rw [HCM.out] at h
    exact h
  refine region_cutG (fun a a' w' => ∃ v85 v89 v87 v90, a' = (((((((((((((((((((((((((a.put (some 70) (.nilIface)).put (some 71) (.bool false)).put (some 72) (.bool false)).put (some 73) (.agg (arr8 32 rt).toList.toArray)).put (some 74) (.agg (arr8 32 rt).toList.toArray)).put (some 75) (.bool false)).put (some 76) (.bool false)).put (some 77) (.bool false)).put (some 78) (.agg (arr8 32 rt).toList.toArray)).put (some 79) (.slice (some ⟨b, o, none⟩) hs.length c)).put (some 80) (.int .i64 j)).put (some 81) (.pointer (some ⟨b, o + 32 * j, none⟩))).put (some 82) (.agg (arr8 32 lf).toList.toArray)).put (some 83) (.int .i64 j)).put (some 84) (.int .i64 hs.length)).put (some 86) (.slice AP P.length cP)).put (some 88) (.agg (arr8 32 rt).toList.toArray)).put (some 85) (v85)).put (some 89) (v89)).put (some 87) (v87)).put (some 90) (v90)).put (some 91) (errV (E 3))).put (some 92) (.bool true)).put (some 93) (.bool false)).put (some 94) (.bool false)) ∧ Below W.drew.heap.size W.drew w') ?_ ?_
  · refine wp_region_noPanic ?_
    refine wp_region_held_drew (S := fun W' => Below W.drew.heap.size W.drew W') (by kernel_rfl) (Below.refl _ _) (fun hHeld => ?_)
    generalize W.drew = WD at *
    refine held_move 0 (Go.Operand.tmp 14) (some 70) (.nilIface) (by kernel_rfl) (by kernel_rfl) (by kernel_rfl) (by kernel_rfl) (by kernel_rfl) (fun _ _ _ _ _ h => h) hHeld ?_
    refine held_bin 1 Go.BinOp.neq 33 (Go.Operand.tmp 70) (Go.Operand.const Go.Value.nilIface) 33 (some 71) (.nilIface) (Go.Value.nilIface) (.bool false) (by kernel_rfl) (by kernel_rfl) (fun w => by kernel_rfl) (by kernel_rfl) (by kernel_rfl) (by kernel_rfl) (fun _ _ _ _ _ h => h) hHeld ?_
    refine held_move 2 (Go.Operand.tmp 71) (some 72) (.bool false) (by kernel_rfl) (by kernel_rfl) (by kernel_rfl) (by kernel_rfl) (by kernel_rfl) (fun _ _ _ _ _ h => h) hHeld ?_
    refine held_load 3 24 (Go.Operand.tmp 13) (some 73) R2 (0) (arr8 32 rt).toList _ (by kernel_rfl) (by kernel_rfl) (fun w h => (rangeAt_row (h2.of_block (h.block _ h2.lt)))) Tryd.underlying24 rfl (by kernel_rfl) (by kernel_rfl) (by kernel_rfl) (by kernel_rfl) (fun _ _ _ _ _ h => h) hHeld ?_
    refine held_load 4 24 (Go.Operand.tmp 10) (some 74) R (0) (arr8 32 rt).toList _ (by kernel_rfl) (by kernel_rfl) (fun w h => (rangeAt_row (hr.of_block (h.block _ hr.lt)))) Tryd.underlying24 rfl (by kernel_rfl) (by kernel_rfl) (by kernel_rfl) (by kernel_rfl) (fun _ _ _ _ _ h => h) hHeld ?_
    refine held_neqG 5 24 (Go.Operand.tmp 73) (Go.Operand.tmp 74) 24 (some 75) (arr8 32 rt) (arr8 32 rt) true (by kernel_rfl) (by kernel_rfl) (by kernel_rfl) (by kernel_rfl) (hash_same rt rt rfl) (by kernel_rfl) (by kernel_rfl) (by kernel_rfl) (fun _ _ _ _ _ h => h) hHeld ?_
    refine held_pick 6 (Go.Operand.tmp 72) (Go.Operand.const (Go.Value.bool true)) (Go.Operand.tmp 75) (some 76) false (.bool false) (by kernel_rfl) (by kernel_rfl) (by kernel_rfl) (by kernel_rfl) (by kernel_rfl) (by kernel_rfl) (fun _ _ _ _ _ h => h) hHeld ?_
    refine held_move 7 (Go.Operand.tmp 76) (some 77) (.bool false) (by kernel_rfl) (by kernel_rfl) (by kernel_rfl) (by kernel_rfl) (by kernel_rfl) (fun _ _ _ _ _ h => h) hHeld ?_
    refine held_load 8 24 (Go.Operand.tmp 10) (some 78) R (0) (arr8 32 rt).toList _ (by kernel_rfl) (by kernel_rfl) (fun w h => (rangeAt_row (hr.of_block (h.block _ hr.lt)))) Tryd.underlying24 rfl (by kernel_rfl) (by kernel_rfl) (by kernel_rfl) (by kernel_rfl) (fun _ _ _ _ _ h => h) hHeld ?_
    refine held_move 9 (Go.Operand.tmp 8) (some 79) (.slice (some ⟨b, o, none⟩) hs.length c) (by kernel_rfl) (by kernel_rfl) (by kernel_rfl) (by kernel_rfl) (by kernel_rfl) (fun _ _ _ _ _ h => h) hHeld ?_
    refine held_move 10 (Go.Operand.tmp 1) (some 80) (.int .i64 j) (by kernel_rfl) (by kernel_rfl) (by kernel_rfl) (by kernel_rfl) (by kernel_rfl) (fun _ _ _ _ _ h => h) hHeld ?_
    refine held_index 11 26 (Go.Operand.tmp 79) (Go.Operand.tmp 80) (some 81) (.slice (some ⟨b, o, none⟩) hs.length c) (.int .i64 j) (.pointer (some ⟨b, o + 32 * j, none⟩)) (by kernel_rfl) (by kernel_rfl) (idxH b o _ c j (by omega)) (by kernel_rfl) (by kernel_rfl) (by kernel_rfl) (fun _ _ _ _ _ h => h) hHeld ?_
    refine held_load 12 24 (Go.Operand.tmp 81) (some 82) b (o + 32 * j) (arr8 32 lf).toList _ (by kernel_rfl) (by kernel_rfl) (fun w h => HQ w h) Tryd.underlying24 rfl (by kernel_rfl) (by kernel_rfl) (by kernel_rfl) (by kernel_rfl) (fun _ _ _ _ _ h => h) hHeld ?_
    refine held_move 13 (Go.Operand.tmp 1) (some 83) (.int .i64 j) (by kernel_rfl) (by kernel_rfl) (by kernel_rfl) (by kernel_rfl) (by kernel_rfl) (fun _ _ _ _ _ h => h) hHeld ?_
    refine held_move 14 (Go.Operand.tmp 9) (some 84) (.int .i64 hs.length) (by kernel_rfl) (by kernel_rfl) (by kernel_rfl) (by kernel_rfl) (by kernel_rfl) (fun _ _ _ _ _ h => h) hHeld ?_
    refine held_move 16 (Go.Operand.tmp 11) (some 86) (.slice AP P.length cP) (by kernel_rfl) (by kernel_rfl) (by kernel_rfl) (by kernel_rfl) (by kernel_rfl) (fun _ _ _ _ _ h => h) hHeld ?_
    refine held_load 18 24 (Go.Operand.tmp 10) (some 88) R (0) (arr8 32 rt).toList _ (by kernel_rfl) (by kernel_rfl) (fun w h => (rangeAt_row (hr.of_block (h.block _ hr.lt)))) Tryd.underlying24 rfl (by kernel_rfl) (by kernel_rfl) (by kernel_rfl) (by kernel_rfl) (fun _ _ _ _ _ h => h) hHeld ?_
    refine held_ready [15, 19] (by kernel_rfl) (by simp) (rdy_bslR 15 26 0 #[] (some 85) #[] (.slice (some ⟨WD.heap.size, 0, none⟩) 0 0) (WD.alloc (.cells #[] 24)) (by kernel_rfl) (by kernel_rfl) (bslr_zero WD) (below_tr hHeld (alcB WD _)) ?_ (rdy_bslR 19 26 1 #[(0, .tmp 88)] (some 89) #[(0, .agg (arr8 32 rt).toList.toArray)] (.slice (some ⟨WD.heap.size, 0, none⟩) 1 1) (WD.alloc (.cells (arr8 32 rt) 24)) (by kernel_rfl) (by kernel_rfl) (bslr_one rt WD) (below_tr hHeld (alcB WD _)) ?_ AllReadyH.nil))
    · intro hHeld
      have ho15 := own_zeroG WD
      have hnb : some (WD.heap.size + 1) ≠ (Value.slice (some ⟨WD.heap.size, 0, none⟩) 0 0).ownBlock := by simp [Value.ownBlock]
      obtain ⟨v85, hv85⟩ : ∃ v, v = Value.slice (some ⟨WD.heap.size, 0, none⟩) 0 0 := ⟨_, rfl⟩
      rw [← hv85] at ho15 hnb ⊢
      clear hv85
      obtain ⟨v87, W17, hr17, ho17, hb17, hg17⟩ := run_hmany 26 (WD.alloc (.cells #[] 24)) WD.heap.size v85 [] AP P cP ho15 (hp.below hHeld) hHeld.size (by simp; omega)
      rw [List.nil_append] at ho17
      refine held_ready [17, 19] (by kernel_rfl) (by simp) (rdy_app 17 (.tmp 85) (.tmp 86) 26 26 26 (some 87) v85 (.slice AP P.length cP) v87 W17 (by kernel_rfl) (by kernel_rfl) (by kernel_rfl) hr17 (hHeld.trans hb17) ?_ (rdy_bslR 19 26 1 #[(0, .tmp 88)] (some 89) #[(0, .agg (arr8 32 rt).toList.toArray)] (.slice (some ⟨(WD.alloc (.cells #[] 24)).heap.size, 0, none⟩) 1 1) ((WD.alloc (.cells #[] 24)).alloc (.cells (arr8 32 rt) 24)) (by kernel_rfl) (by kernel_rfl) (bslr_one rt (WD.alloc (.cells #[] 24))) (below_tr hHeld (alcB (WD.alloc (.cells #[] 24)) _)) ?_ AllReadyH.nil))
      · intro hHeld
        refine held_ready [19] (by kernel_rfl) (by simp) (rdy_bslR 19 26 1 #[(0, .tmp 88)] (some 89) #[(0, .agg (arr8 32 rt).toList.toArray)] (.slice (some ⟨W17.heap.size, 0, none⟩) 1 1) (W17.alloc (.cells (arr8 32 rt) 24)) (by kernel_rfl) (by kernel_rfl) (bslr_one rt W17) (below_tr hHeld (alcB W17 _)) ?_ AllReadyH.nil)
        intro hHeld
        have hc19 := heap_alloc_new W17 (.cells (arr8 32 rt) 24)
        have ho17' := ho17.alloc (.cells (arr8 32 rt) 24)
        obtain ⟨g19, hg⟩ : ∃ g, g = W17.heap.size := ⟨_, rfl⟩
        rw [← hg] at hc19 ⊢
        clear ho17 hr17 hb17 hg17
        have ho17 := ho17'
        have h19 := slread_heap hc19 (vs := hcells [rt]) (by simp [hcells])
        obtain ⟨v90, W20, hr20, ho20, hb20, _⟩ := run_hmany 26 (W17.alloc (.cells (arr8 32 rt) 24)) WD.heap.size v87 P (some ⟨g19, 0, none⟩) [rt] 1 ho17 h19 hHeld.size (by simp; omega)
        refine held_ready [20] (by kernel_rfl) (by simp) (rdy_app 20 (.tmp 87) (.tmp 89) 26 26 26 (some 90) v87 (.slice (some ⟨g19, 0, none⟩) 1 1) v90 W20 (by kernel_rfl) (by kernel_rfl) (by kernel_rfl) hr20 (hHeld.trans hb20) ?_ AllReadyH.nil)
        clear hb20 hr20 h19 hc19 ho17
        intro hHeld
        obtain ⟨A9, c9, rfl, _⟩ := ownsRow_form ho20
        have h9 := SlRead.of_own32 ho20
        have hck := HC1 A9 c9 W20 hHeld h9
        refine held_call 21 17 #[.tmp 78, .tmp 82, .tmp 83, .tmp 84, .tmp 90] #[24, 24, 3, 3, 26] (some 91) _ _ (by kernel_rfl) (by kernel_rfl) (by kernel_rfl) (by kernel_rfl) hck ?_
        rintro e W21 ⟨rfl, hb21⟩
        refine ⟨_, rfl, below_tr hHeld hb21, fun hHeld => ?_⟩
        refine held_call 22 13 #[.tmp 91, .const (.int .i64 104)] #[33, 3] (some 92) _ _ (by kernel_rfl) (by kernel_rfl) (by kernel_rfl) (by kernel_rfl) (is_any E (errV (E 3)) 104 104 (.inr ⟨3, by decide, rfl, rfl⟩) W21 (hE.below hHeld)) ?_
        rintro e W22 ⟨rfl, hb22⟩
        refine ⟨_, rfl, below_tr hHeld hb22, fun hHeld => ?_⟩
        refine held_notG 23 4 (Go.Operand.tmp 92) (some 93) true (by kernel_rfl) (by kernel_rfl) (fun _ => rfl) (by kernel_rfl) (by kernel_rfl) (by kernel_rfl) (fun _ _ _ _ _ h => h) hHeld ?_
        refine held_pick 24 (Go.Operand.tmp 77) (Go.Operand.const (Go.Value.bool true)) (Go.Operand.tmp 93) (some 94) false (.bool false) (by kernel_rfl) (by kernel_rfl) (by kernel_rfl) (by kernel_rfl) (by kernel_rfl) (by kernel_rfl) (fun _ _ _ _ _ h => h) hHeld ?_
        refine wpAnyH_done (by kernel_rfl) ?_ _
        refine NoPanic.normal ?_
        refine ⟨rfl, v85, .slice (some ⟨g19, 0, none⟩) 1 1, v87, .slice A9 (P ++ [rt]).length c9, ?_, hHeld⟩
        simp only [put_list, List.set_cons_zero, List.set_cons_succ]
        rfl
      · clear hr17 ho17 hb17 hg17
        intro hHeld
        have hc19 := heap_alloc_new (WD.alloc (.cells #[] 24)) (.cells (arr8 32 rt) 24)
        have hsz : (WD.alloc (.cells #[] 24)).heap.size = WD.heap.size + 1 := by simp
        replace ho15 := ho15.alloc (.cells (arr8 32 rt) 24)
        rw [hsz] at hc19 ⊢
        obtain ⟨v87, W17, hr17, ho17, hb17, hg17⟩ := run_hmany 26 ((WD.alloc (.cells #[] 24)).alloc (.cells (arr8 32 rt) 24)) WD.heap.size v85 [] AP P cP ho15 (hp.below hHeld) hHeld.size (by simp; omega)
        rw [List.nil_append] at ho17
        have hc17 := hg17.block _ (by simp) hnb
        rw [hc19] at hc17
        refine held_ready [17] (by kernel_rfl) (by simp) (rdy_app 17 (.tmp 85) (.tmp 86) 26 26 26 (some 87) v85 (.slice AP P.length cP) v87 W17 (by kernel_rfl) (by kernel_rfl) (by kernel_rfl) hr17 (hHeld.trans hb17) ?_ AllReadyH.nil)
        clear hr17 hb17 hg17 hc19
        intro hHeld
        have hc19 := hc17
        obtain ⟨g19, hg⟩ : ∃ g, g = WD.heap.size + 1 := ⟨_, rfl⟩
        rw [← hg] at hc19 ⊢
        have h19 := slread_heap hc19 (vs := hcells [rt]) (by simp [hcells])
        obtain ⟨v90, W20, hr20, ho20, hb20, _⟩ := run_hmany 26 W17 WD.heap.size v87 P (some ⟨g19, 0, none⟩) [rt] 1 ho17 h19 hHeld.size (by simp; omega)
        refine held_ready [20] (by kernel_rfl) (by simp) (rdy_app 20 (.tmp 87) (.tmp 89) 26 26 26 (some 90) v87 (.slice (some ⟨g19, 0, none⟩) 1 1) v90 W20 (by kernel_rfl) (by kernel_rfl) (by kernel_rfl) hr20 (hHeld.trans hb20) ?_ AllReadyH.nil)
        clear hb20 hr20 h19 hc19 ho17
        intro hHeld
        obtain ⟨A9, c9, rfl, _⟩ := ownsRow_form ho20
        have h9 := SlRead.of_own32 ho20
        have hck := HC1 A9 c9 W20 hHeld h9
        refine held_call 21 17 #[.tmp 78, .tmp 82, .tmp 83, .tmp 84, .tmp 90] #[24, 24, 3, 3, 26] (some 91) _ _ (by kernel_rfl) (by kernel_rfl) (by kernel_rfl) (by kernel_rfl) hck ?_
        rintro e W21 ⟨rfl, hb21⟩
        refine ⟨_, rfl, below_tr hHeld hb21, fun hHeld => ?_⟩
        refine held_call 22 13 #[.tmp 91, .const (.int .i64 104)] #[33, 3] (some 92) _ _ (by kernel_rfl) (by kernel_rfl) (by kernel_rfl) (by kernel_rfl) (is_any E (errV (E 3)) 104 104 (.inr ⟨3, by decide, rfl, rfl⟩) W21 (hE.below hHeld)) ?_
        rintro e W22 ⟨rfl, hb22⟩
        refine ⟨_, rfl, below_tr hHeld hb22, fun hHeld => ?_⟩
        refine held_notG 23 4 (Go.Operand.tmp 92) (some 93) true (by kernel_rfl) (by kernel_rfl) (fun _ => rfl) (by kernel_rfl) (by kernel_rfl) (by kernel_rfl) (fun _ _ _ _ _ h => h) hHeld ?_
        refine held_pick 24 (Go.Operand.tmp 77) (Go.Operand.const (Go.Value.bool true)) (Go.Operand.tmp 93) (some 94) false (.bool false) (by kernel_rfl) (by kernel_rfl) (by kernel_rfl) (by kernel_rfl) (by kernel_rfl) (by kernel_rfl) (fun _ _ _ _ _ h => h) hHeld ?_
        refine wpAnyH_done (by kernel_rfl) ?_ _
        refine NoPanic.normal ?_
        refine ⟨rfl, v85, .slice (some ⟨g19, 0, none⟩) 1 1, v87, .slice A9 (P ++ [rt]).length c9, ?_, hHeld⟩
        simp only [put_list, List.set_cons_zero, List.set_cons_succ]
        rfl
    · intro hHeld
      have hc19 := heap_alloc_new WD (.cells (arr8 32 rt) 24)
      refine held_ready [15] (by kernel_rfl) (by simp) (rdy_bslR 15 26 0 #[] (some 85) #[] (.slice (some ⟨(WD.alloc (.cells (arr8 32 rt) 24)).heap.size, 0, none⟩) 0 0) ((WD.alloc (.cells (arr8 32 rt) 24)).alloc (.cells #[] 24)) (by kernel_rfl) (by kernel_rfl) (bslr_zero (WD.alloc (.cells (arr8 32 rt) 24))) (below_tr hHeld (alcB (WD.alloc (.cells (arr8 32 rt) 24)) _)) ?_ AllReadyH.nil)
      intro hHeld
      have hsz : (WD.alloc (.cells (arr8 32 rt) 24)).heap.size = WD.heap.size + 1 := by simp
      have ho15 := ownsRow_low (own_zeroG (WD.alloc (.cells (arr8 32 rt) 24))) (b2 := WD.heap.size) (by rw [hsz]; omega)
      have hce : ((WD.alloc (.cells (arr8 32 rt) 24)).alloc (.cells #[] 24)).heap[WD.heap.size]? = some (.cells (arr8 32 rt) 24 (0, 0)) := (heap_alloc_old (WD.alloc (.cells (arr8 32 rt) 24)) (.cells #[] 24) (show WD.heap.size < (WD.alloc (.cells (arr8 32 rt) 24)).heap.size by simp)).trans hc19
      rw [hsz] at ho15 ⊢
      have hnb : some WD.heap.size ≠ (Value.slice (some ⟨WD.heap.size + 1, 0, none⟩) 0 0).ownBlock := by simp [Value.ownBlock]
      obtain ⟨v85, hv85⟩ : ∃ v, v = Value.slice (some ⟨WD.heap.size + 1, 0, none⟩) 0 0 := ⟨_, rfl⟩
      rw [← hv85] at ho15 hnb ⊢
      clear hv85 hc19
      obtain ⟨v87, W17, hr17, ho17, hb17, hg17⟩ := run_hmany 26 ((WD.alloc (.cells (arr8 32 rt) 24)).alloc (.cells #[] 24)) WD.heap.size v85 [] AP P cP ho15 (hp.below hHeld) hHeld.size (by simp; omega)
      rw [List.nil_append] at ho17
      have hc17 := hg17.block _ (by simp; omega) hnb
      rw [hce] at hc17
      refine held_ready [17] (by kernel_rfl) (by simp) (rdy_app 17 (.tmp 85) (.tmp 86) 26 26 26 (some 87) v85 (.slice AP P.length cP) v87 W17 (by kernel_rfl) (by kernel_rfl) (by kernel_rfl) hr17 (hHeld.trans hb17) ?_ AllReadyH.nil)
      clear hr17 hb17 hg17 hce
      intro hHeld
      have hc19 := hc17
      have h19 := slread_heap hc19 (vs := hcells [rt]) (by simp [hcells])
      obtain ⟨v90, W20, hr20, ho20, hb20, _⟩ := run_hmany 26 W17 WD.heap.size v87 P (some ⟨WD.heap.size, 0, none⟩) [rt] 1 ho17 h19 hHeld.size (by simp; omega)
      refine held_ready [20] (by kernel_rfl) (by simp) (rdy_app 20 (.tmp 87) (.tmp 89) 26 26 26 (some 90) v87 (.slice (some ⟨WD.heap.size, 0, none⟩) 1 1) v90 W20 (by kernel_rfl) (by kernel_rfl) (by kernel_rfl) hr20 (hHeld.trans hb20) ?_ AllReadyH.nil)
      clear hb20 hr20 h19 hc19 ho17
      intro hHeld
      obtain ⟨A9, c9, rfl, _⟩ := ownsRow_form ho20
      have h9 := SlRead.of_own32 ho20
      have hck := HC1 A9 c9 W20 hHeld h9
      refine held_call 21 17 #[.tmp 78, .tmp 82, .tmp 83, .tmp 84, .tmp 90] #[24, 24, 3, 3, 26] (some 91) _ _ (by kernel_rfl) (by kernel_rfl) (by kernel_rfl) (by kernel_rfl) hck ?_
      rintro e W21 ⟨rfl, hb21⟩
      refine ⟨_, rfl, below_tr hHeld hb21, fun hHeld => ?_⟩
      refine held_call 22 13 #[.tmp 91, .const (.int .i64 104)] #[33, 3] (some 92) _ _ (by kernel_rfl) (by kernel_rfl) (by kernel_rfl) (by kernel_rfl) (is_any E (errV (E 3)) 104 104 (.inr ⟨3, by decide, rfl, rfl⟩) W21 (hE.below hHeld)) ?_
      rintro e W22 ⟨rfl, hb22⟩
      refine ⟨_, rfl, below_tr hHeld hb22, fun hHeld => ?_⟩
      refine held_notG 23 4 (Go.Operand.tmp 92) (some 93) true (by kernel_rfl) (by kernel_rfl) (fun _ => rfl) (by kernel_rfl) (by kernel_rfl) (by kernel_rfl) (fun _ _ _ _ _ h => h) hHeld ?_
      refine held_pick 24 (Go.Operand.tmp 77) (Go.Operand.const (Go.Value.bool true)) (Go.Operand.tmp 93) (some 94) false (.bool false) (by kernel_rfl) (by kernel_rfl) (by kernel_rfl) (by kernel_rfl) (by kernel_rfl) (by kernel_rfl) (fun _ _ _ _ _ h => h) hHeld ?_
      refine wpAnyH_done (by kernel_rfl) ?_ _
      refine NoPanic.normal ?_
      refine ⟨rfl, v85, .slice (some ⟨WD.heap.size, 0, none⟩) 1 1, v87, .slice A9 (P ++ [rt]).length c9, ?_, hHeld⟩
      simp only [put_list, List.set_cons_zero, List.set_cons_succ]
      rfl
  · rintro a' Wn ⟨v85, v89, v87, v90, rfl, hbD⟩
    simp only [put_list, List.set_cons_zero, List.set_cons_succ]
    replace x := x.next (drB hbD)
    clear hr h2 hp hE HQ HC1 hbD
    clear W
    have hr := x.row
    have hE := hE0.below x.bel
    have HQ : ∀ w', Below Wn.heap.size Wn w' → w'.rangeAt b (o + 32 * j) (arr8 32 lf).toList := fun w' hb => (hrange (x.next hb).h HLF.out).2
    go_upto_region 18 with (fail)
    refine region_cutG (fun a a' w' => ∃ w0 w1 w2 w3 w4 w5 w6 w7 w8 w9 w10 w11 w12 w13 w14 w15, a' = (((((((((((((((((a.put (some 95) (w0)).put (some 96) (w1)).put (some 97) (w2)).put (some 98) (w3)).put (some 99) (w4)).put (some 100) (w5)).put (some 101) (w6)).put (some 102) (w7)).put (some 103) (w8)).put (some 104) (w9)).put (some 105) (w10)).put (some 106) (w11)).put (some 107) (w12)).put (some 108) (w13)).put (some 109) (w14)).put (some 110) (w15)).put (some 111) (.bool false)) ∧ Below Wn.heap.size Wn w') ?_ ?_
    · by_cases hPe : P = []
      · subst hPe
        simp only [List.length_nil]
        refine wp_region_spec [Sp.k 0 (some 95) [] (.slice AP 0 cP),
          Sp.k 1 (some 96) [0] (.int .i64 0),
          Sp.k 2 (some 97) [1] (.bool false),
          Sp.k 3 (some 98) [2] (.bool false),
          Sp.k 4 (some 99) [3] (undef),
          Sp.k 5 (some 100) [3] (undef),
          Sp.k 6 (some 101) [3] (undef),
          Sp.k 7 (some 102) [3, 5, 6] (undef),
          Sp.k 8 (some 103) [3, 7] (undef),
          Sp.k 9 (some 104) [3] (undef),
          Sp.k 10 (some 105) [3] (undef),
          Sp.k 11 (some 106) [3] (undef),
          Sp.k 12 (some 107) [3, 11] (undef),
          Sp.k 13 (some 108) [3, 4, 8, 9, 10, 12] (undef),
          Sp.k 14 (some 109) [3, 13] (undef),
          Sp.k 15 (some 110) [3, 14] (undef),
          Sp.k 16 (some 111) [3, 15] (Go.Value.bool false)] (by kernel_rfl) (by kernel_rfl)
          ⟨owes_move 0 (some 95) [] (.slice AP 0 cP) (Go.Operand.tmp 11) (fun v => by kernel_rfl) (fun v => by kernel_rfl),
          owes_lenS 1 (some 96) [0] (.int .i64 0) (.tmp 95) 26 3 (.slice AP 0 cP) (fun v => by kernel_rfl) (by kernel_rfl) (fun v => by kernel_rfl) (fun w => by kernel_rfl),
          owes_bin 2 (some 97) [1] (.bool false) Go.BinOp.gtr 3 (Go.Operand.tmp 96) (Go.Operand.const (Go.Value.int Go.IntKind.i64 0)) 3 (.int .i64 0) (Go.Value.int Go.IntKind.i64 0) (fun v => by kernel_rfl) (fun v => by kernel_rfl) (fun w => by kernel_rfl),
          owes_move 3 (some 98) [2] (.bool false) (Go.Operand.tmp 97) (fun v => by kernel_rfl) (fun v => by kernel_rfl),
          owes_skip 4 (some 99) [3] (fun v => by kernel_rfl),
          owes_skip 5 (some 100) [3] (fun v => by kernel_rfl),
          owes_skip 6 (some 101) [3] (fun v => by kernel_rfl),
          owes_skip 7 (some 102) [3, 5, 6] (fun v => by kernel_rfl),
          owes_skip 8 (some 103) [3, 7] (fun v => by kernel_rfl),
          owes_skip 9 (some 104) [3] (fun v => by kernel_rfl),
          owes_skip 10 (some 105) [3] (fun v => by kernel_rfl),
          owes_skip 11 (some 106) [3] (fun v => by kernel_rfl),
          owes_skip 12 (some 107) [3, 11] (fun v => by kernel_rfl),
          owes_skip 13 (some 108) [3, 4, 8, 9, 10, 12] (fun v => by kernel_rfl),
          owes_skip 14 (some 109) [3, 13] (fun v => by kernel_rfl),
          owes_skip 15 (some 110) [3, 14] (fun v => by kernel_rfl),
          owes_pick 16 (some 111) [3, 15] (Go.Value.bool false) (Go.Operand.tmp 98) (Go.Operand.tmp 110) (Go.Operand.const (Go.Value.bool false)) false (fun v => by kernel_rfl) (fun v => by kernel_rfl) (fun v => by kernel_rfl), trivial⟩ ?_
        intro v w' hb' hall
        exact ⟨rfl, _, _, _, _, _, _, _, _, _, _, _, _, _, _, _, _, rfl, drB hb'⟩
      · have hP0 : 0 < P.length := List.length_pos_iff.2 hPe
        obtain ⟨AT, cT, HSL, hT⟩ := tail_slice x.p hP0 (hcP hP0)
        have HC1 : ∀ w', Below Wn.heap.size Wn w' → Calls Tryd.prog 17 #[.agg (arr8 32 rt), .agg (arr8 32 lf), .int .i64 j, .int .i64 hs.length, .slice AT P.tail.length cT] w' fun e w'' => e = .returned (errV (E 2)) ∧ Below w'.heap.size w' w'' := fun w' hb => by
          have h := check_all E rt lf j hs.length P.tail AT cT w' (hE.below hb) (hT.below hb) (hk0.below (x.next hb).bel)
          rw [HCL.out hPe] at h
          exact h
        refine wp_region_spec [Sp.k 0 (some 95) [] (.slice AP P.length cP),
          Sp.k 1 (some 96) [0] (.int .i64 P.length),
          Sp.k 2 (some 97) [1] (.bool true),
          Sp.k 3 (some 98) [2] (.bool true),
          Sp.k 4 (some 99) [3] (.agg (arr8 32 rt)),
          Sp.k 5 (some 100) [3] (.slice (some ⟨b, o, none⟩) hs.length c),
          Sp.k 6 (some 101) [3] (.int .i64 j),
          Sp.k 7 (some 102) [3, 5, 6] (.pointer (some ⟨b, o + 32 * j, none⟩)),
          Sp.k 8 (some 103) [3, 7] (.agg (arr8 32 lf)),
          Sp.k 9 (some 104) [3] (.int .i64 j),
          Sp.k 10 (some 105) [3] (.int .i64 hs.length),
          Sp.k 11 (some 106) [3] (.slice AP P.length cP),
          Sp.k 12 (some 107) [3, 11] (.slice AT P.tail.length cT),
          Sp.k 13 (some 108) [3, 4, 8, 9, 10, 12] (errV (E 2)),
          Sp.k 14 (some 109) [3, 13] (.bool true),
          Sp.k 15 (some 110) [3, 14] (.bool false),
          Sp.k 16 (some 111) [3, 15] (.bool false)] (by kernel_rfl) (by kernel_rfl)
          ⟨owes_move 0 (some 95) [] (.slice AP P.length cP) (Go.Operand.tmp 11) (fun v => by kernel_rfl) (fun v => by kernel_rfl),
          owes_lenS 1 (some 96) [0] (.int .i64 P.length) (.tmp 95) 26 3 (.slice AP P.length cP) (fun v => by kernel_rfl) (by kernel_rfl) (fun v => by kernel_rfl) (fun w => by kernel_rfl),
          owes_bin 2 (some 97) [1] (.bool true) Go.BinOp.gtr 3 (Go.Operand.tmp 96) (Go.Operand.const (Go.Value.int Go.IntKind.i64 0)) 3 (.int .i64 P.length) (Go.Value.int Go.IntKind.i64 0) (fun v => by kernel_rfl) (fun v => by kernel_rfl) (fun w => gt_i64 _ _ _ P.length 0 (by omega) w),
          owes_move 3 (some 98) [2] (.bool true) (Go.Operand.tmp 97) (fun v => by kernel_rfl) (fun v => by kernel_rfl),
          owes_load 4 (some 99) [3] (.agg (arr8 32 rt)) 24 (Go.Operand.tmp 10) (.pointer (some ⟨R, 0, none⟩)) (fun v => by kernel_rfl) (fun v => by kernel_rfl) (fun w' hb => load_hash _ _ _ w' (rangeAt_row (hr.of_block ((drB hb).block _ hr.lt)))),
          owes_move 5 (some 100) [3] (.slice (some ⟨b, o, none⟩) hs.length c) (Go.Operand.tmp 8) (fun v => by kernel_rfl) (fun v => by kernel_rfl),
          owes_move 6 (some 101) [3] (.int .i64 j) (Go.Operand.tmp 1) (fun v => by kernel_rfl) (fun v => by kernel_rfl),
          owes_index 7 (some 102) [3, 5, 6] (.pointer (some ⟨b, o + 32 * j, none⟩)) 26 (Go.Operand.tmp 100) (Go.Operand.tmp 101) (.slice (some ⟨b, o, none⟩) hs.length c) (.int .i64 j) (fun v => by kernel_rfl) (fun v => by kernel_rfl) (idxH b o _ c j (by omega)),
          owes_load 8 (some 103) [3, 7] (.agg (arr8 32 lf)) 24 (Go.Operand.tmp 102) (.pointer (some ⟨b, o + 32 * j, none⟩)) (fun v => by kernel_rfl) (fun v => by kernel_rfl) (fun w' hb => load_hash _ _ _ w' (HQ w' (drB hb))),
          owes_move 9 (some 104) [3] (.int .i64 j) (Go.Operand.tmp 1) (fun v => by kernel_rfl) (fun v => by kernel_rfl),
          owes_move 10 (some 105) [3] (.int .i64 hs.length) (Go.Operand.tmp 9) (fun v => by kernel_rfl) (fun v => by kernel_rfl),
          owes_move 11 (some 106) [3] (.slice AP P.length cP) (Go.Operand.tmp 11) (fun v => by kernel_rfl) (fun v => by kernel_rfl),
          owes_slice 12 (some 107) [3, 11] (.slice AT P.tail.length cT) 26 (Go.Operand.tmp 106) (some (Go.Operand.const (Go.Value.int Go.IntKind.i64 1))) none none (.slice AP P.length cP) (some (Go.Value.int Go.IntKind.i64 1)) none none (fun v => by kernel_rfl) (fun v => by kernel_rfl) (fun w => HSL w),
          owes_call 13 (some 108) [3, 4, 8, 9, 10, 12] (errV (E 2)) 17 #[Go.Operand.tmp 99, Go.Operand.tmp 103, Go.Operand.tmp 104, Go.Operand.tmp 105, Go.Operand.tmp 107] #[24, 24, 3, 3, 26] (fun v => by kernel_rfl) (fun _ _ => by kernel_rfl) (fun v w' hb ho => by
              exact ⟨#[.agg (arr8 32 rt), .agg (arr8 32 lf), .int .i64 j, .int .i64 hs.length, .slice AT P.tail.length cT], by kernel_rfl, (HC1 w' (drB hb)).mono (fun _ _ h => h)⟩),
          owes_call 14 (some 109) [3, 13] (.bool true) 13 #[Go.Operand.tmp 108, Go.Operand.const (Go.Value.int Go.IntKind.i64 103)] #[33, 3] (fun v => by kernel_rfl) (fun _ _ => by kernel_rfl) (fun v w' hb ho => by
              exact ⟨#[errV (E 2), Go.Value.int Go.IntKind.i64 103], by kernel_rfl, (is_any E (errV (E 2)) 103 103 (.inr ⟨2, by decide, rfl, rfl⟩) w' (hE.below (drB hb))).mono (fun _ _ h => h)⟩),
          owes_un 15 (some 110) [3, 14] (.bool false) Go.UnOp.not 4 (Go.Operand.tmp 109) (.bool true) (fun v => by kernel_rfl) (fun v => by kernel_rfl) (fun w => by kernel_rfl),
          owes_pick 16 (some 111) [3, 15] (.bool false) (Go.Operand.tmp 98) (Go.Operand.tmp 110) (Go.Operand.const (Go.Value.bool false)) true (fun v => by kernel_rfl) (fun v => by kernel_rfl) (fun v => by kernel_rfl), trivial⟩ ?_
        intro v w' hb' hall
        exact ⟨rfl, _, _, _, _, _, _, _, _, _, _, _, _, _, _, _, _, rfl, drB hb'⟩
    rintro a' W ⟨w0, w1, w2, w3, w4, w5, w6, w7, w8, w9, w10, w11, w12, w13, w14, w15, rfl, hbD⟩
    simp only [put_list, List.set_cons_zero, List.set_cons_succ]
    replace x := x.next hbD
    clear hr hE HQ hbD
    clear Wn
    have hld := load_hash b (o + 32 * j) lf W (hrange x.h HLF.out).2
    have hidx := idxH b o hs.length c j hjl W
    have hn1 := heap_alloc_new W (.cells (Array.replicate 32 (.int .u8 0)) 24)
    go_upto_region 21 with (first | (refine wpl_idx (by kernel_rfl) 26 _ _ rfl _ _ rfl _ hidx ?_) | (refine wpl_load (by kernel_rfl) 24 _ rfl _ rfl _ hld ?_) | (refine wpList_alloc_z rfl 24 rfl (Array.replicate 32 (.int .u8 0)) (fun _ => by kernel_rfl) ?_) | (refine wpList_store_row rfl 24 _ _ rfl W.heap.size (arr8 32 lf) rfl rfl _ _ hn1 (by kernel_rfl) (by simp) (arr8_one _ _) ?_))
    rw [alloc_setRow]
    clear hn1 hld hidx
    try simp only [Act.put, List.setIfInBounds_toArray, List.set_cons_zero, List.set_cons_succ]
    refine wp_world (fun V => Below W.heap.size W V ∧ V.rowIs W.heap.size 24 32 (fun i => v8 (lf i))) ?_ ?_
    · exact ⟨alcB W _, rowIs_new W (arr8 32 lf) 24 W.heap.size 32 _ rfl (by simp) (fun i hi => arr8_get 32 lf i hi)⟩
    rintro V ⟨hbV, h3⟩
    obtain ⟨R3, hR3⟩ : ∃ R3, R3 = W.heap.size := ⟨_, rfl⟩
    rw [← hR3] at h3 hbV ⊢
    have HR3 := Lib.hid hR3; clear hR3
    refine wp_region_text_tail 4 [Sp.k 0 (some 116) [] (.pointer (some ⟨R3, 7, none⟩)),
      Sp.k 1 (some 117) [0] (v8 (lf 7)),
      Sp.k 2 (some 118) [1] (v8 (lf 7 ^^^ 1#8)),
      Sp.k 3 (some 119) [] (.pointer (some ⟨R3, 7, none⟩))] (by kernel_rfl)
      ⟨owes_index 0 (some 116) [] (.pointer (some ⟨R3, 7, none⟩)) 24 (Go.Operand.tmp 15) (Go.Operand.const (Go.Value.int Go.IntKind.i64 7)) (.pointer (some ⟨R3, 0, none⟩)) (Go.Value.int Go.IntKind.i64 7) (fun v => by kernel_rfl) (fun v => by kernel_rfl) (idxa_7 R3),
      owes_load 1 (some 117) [0] (v8 (lf 7)) 5 (Go.Operand.tmp 116) (.pointer (some ⟨R3, 7, none⟩)) (fun v => by kernel_rfl) (fun v => by kernel_rfl) (fun w' hb => load_u8' _ _ _ w' ((hb.cell (p := ⟨R3, 7, none⟩) h3.lt).trans (h3.cell (i := 7) (by decide)))),
      owes_bin 2 (some 118) [1] (v8 (lf 7 ^^^ 1#8)) Go.BinOp.xor 5 (Go.Operand.tmp 117) (Go.Operand.const (Go.Value.int Go.IntKind.u8 1)) 5 (v8 (lf 7)) (Go.Value.int Go.IntKind.u8 1) (fun v => by kernel_rfl) (fun v => by kernel_rfl) (fun w => xor_u8 _ _ _ (lf 7) 1#8 w),
      owes_index 3 (some 119) [] (.pointer (some ⟨R3, 7, none⟩)) 24 (Go.Operand.tmp 15) (Go.Operand.const (Go.Value.int Go.IntKind.i64 7)) (.pointer (some ⟨R3, 0, none⟩)) (Go.Value.int Go.IntKind.i64 7) (fun v => by kernel_rfl) (fun v => by kernel_rfl) (idxa_7 R3), trivial⟩ ?_
    intro v w' hb' hall
    clear hall
    have h3' := h3.of_block (hb'.block _ h3.lt)
    have hbV' : Below R3 W w' := hbV.trans (hb'.mono (by have := h3.lt; omega))
    have hc7 := h3'.cell (i := 7) (by decide)
    have hf7 := h3'.frozen 7
    have hset := h3'.set 7 (v8 (lf 7 ^^^ 1#8))
    have hbS : Below R3 W (w'.setCell ⟨R3, 7, none⟩ (v8 (lf 7 ^^^ 1#8))) := hbV'.setCell (p := ⟨R3, 7, none⟩) (Nat.le_refl _) _
    clear h3 hbV hb' h3' hbV'
    simp only [putsL_k, putsL_nil, List.set_cons_zero, List.set_cons_succ]
    simp only [List.drop_succ_cons, List.drop_zero]
    go_upto_region 22 with (fail)
    refine wp_world (fun V => Below R3 W V ∧ V.rowIs R3 24 32 (fun i => v8 (badOf lf i))) ?_ ?_
    · refine ⟨hbS, hset.congr fun i _ => ?_⟩
      unfold badOf
      split <;> rfl
    clear hc7 hf7 hset hbS
    rintro V ⟨hbV, h3⟩
    generalize badOf lf = bad at *
    go_wp2_with fail
    refine (number_nat zo hs.length kk V (by omega) HK.out).mono ?_
    rintro e V2 ⟨rfl, n5, rfl⟩
    have hb5 : Below V.heap.size V (V.drewN n5) := Below.drewNr n5
    replace h3 := h3.of_block (hb5.block _ h3.lt)
    replace hbV : Below R3 W (V.drewN n5) := hbV.trans (hb5.mono (by have := hbV.size; have := HR3.out; omega))
    generalize V.drewN n5 = Wn at *
    clear hb5
    replace x := x.next (show Below W.heap.size W Wn by rw [← HR3.out]; exact hbV)
    clear hbV HR3
    clear W
    have hr := x.row
    have hE := hE0.below x.bel
    have hcb := HCB.out bad hjl (by omega)
    have HD0 : ∀ w', Below Wn.heap.size Wn w' → Calls Tryd.prog 18 #[.agg (arr8 32 rt), .agg (arr8 32 bad), .int .i64 j, .int .i64 hs.length, .slice AP P.length cP] w' fun e w'' => e = .returned (.int .i64 (checkGot rt bad j hs.length P : Int)) ∧ Below w'.heap.size w' w'' := fun w' hb =>
      dcheck_all rt bad j hs.length P AP cP w' (x.next hb).p
    have HC9 : ∀ w', Below Wn.heap.size Wn w' → Calls Tryd.prog 17 #[.agg (arr8 32 rt), .agg (arr8 32 bad), .int .i64 j, .int .i64 hs.length, .slice AP P.length cP] w' fun e w'' => e = .returned (errOf E (checkGot rt bad j hs.length P)) ∧ Below w'.heap.size w' w'' := fun w' hb =>
      check_all E rt bad j hs.length P AP cP w' (hE.below hb) (x.next hb).p (hk0.below (x.next hb).bel)
    go_upto_region 23 with (fail)
    refine region_cutG (fun a a' w' => ∃ w0 w1 w2 w3 w4 w5 w6 w7 w8 w9 w10 w11 w12 w13 w14 w15, a' = (((((((((((((((((a.put (some 123) (w0)).put (some 124) (w1)).put (some 125) (w2)).put (some 126) (w3)).put (some 127) (w4)).put (some 128) (w5)).put (some 129) (w6)).put (some 130) (w7)).put (some 131) (w8)).put (some 132) (w9)).put (some 133) (w10)).put (some 134) (w11)).put (some 135) (w12)).put (some 136) (w13)).put (some 137) (w14)).put (some 138) (w15)).put (some 139) (.bool false)) ∧ Below Wn.heap.size Wn w') ?_ ?_
    · rcases hcb with hcb | hcb
      · rw [hcb] at HD0
        have HD : ∀ w', Below Wn.heap.size Wn w' → Calls Tryd.prog 18 #[.agg (arr8 32 rt), .agg (arr8 32 bad), .int .i64 j, .int .i64 hs.length, .slice AP P.length cP] w' fun e w'' => e = .returned (.int .i64 0) ∧ Below w'.heap.size w' w'' := HD0
        refine wp_region_text [Sp.k 0 (some 123) [] (.agg (arr8 32 rt)),
          Sp.k 1 (some 124) [] (.agg (arr8 32 bad)),
          Sp.k 2 (some 125) [] (.int .i64 j),
          Sp.k 3 (some 126) [] (.int .i64 hs.length),
          Sp.k 4 (some 127) [] (.slice AP P.length cP),
          Sp.k 5 (some 128) [0, 1, 2, 3, 4] (.int .i64 0),
          Sp.k 6 (some 129) [5] (.bool false),
          Sp.k 7 (some 130) [6] (.bool false),
          Sp.k 8 (some 131) [7] (undef),
          Sp.k 9 (some 132) [7] (undef),
          Sp.k 10 (some 133) [7] (undef),
          Sp.k 11 (some 134) [7] (undef),
          Sp.k 12 (some 135) [7] (undef),
          Sp.k 13 (some 136) [7, 8, 9, 10, 11, 12] (undef),
          Sp.k 14 (some 137) [7, 13] (undef),
          Sp.k 15 (some 138) [7, 14] (undef),
          Sp.k 16 (some 139) [7, 15] (Go.Value.bool false)] (by kernel_rfl)
          ⟨owes_load 0 (some 123) [] (.agg (arr8 32 rt)) 24 (Go.Operand.tmp 10) (.pointer (some ⟨R, 0, none⟩)) (fun v => by kernel_rfl) (fun v => by kernel_rfl) (fun w' hb => load_hash _ _ _ w' (rangeAt_row (hr.of_block ((hb).block _ hr.lt)))),
          owes_load 1 (some 124) [] (.agg (arr8 32 bad)) 24 (Go.Operand.tmp 15) (.pointer (some ⟨R3, 0, none⟩)) (fun v => by kernel_rfl) (fun v => by kernel_rfl) (fun w' hb => load_hash _ _ _ w' (rangeAt_row (h3.of_block ((hb).block _ h3.lt)))),
          owes_move 2 (some 125) [] (.int .i64 j) (Go.Operand.tmp 1) (fun v => by kernel_rfl) (fun v => by kernel_rfl),
          owes_move 3 (some 126) [] (.int .i64 hs.length) (Go.Operand.tmp 9) (fun v => by kernel_rfl) (fun v => by kernel_rfl),
          owes_move 4 (some 127) [] (.slice AP P.length cP) (Go.Operand.tmp 11) (fun v => by kernel_rfl) (fun v => by kernel_rfl),
          owes_call 5 (some 128) [0, 1, 2, 3, 4] (.int .i64 0) 18 #[Go.Operand.tmp 123, Go.Operand.tmp 124, Go.Operand.tmp 125, Go.Operand.tmp 126, Go.Operand.tmp 127] #[24, 24, 3, 3, 26] (fun v => by kernel_rfl) (fun _ _ => by kernel_rfl) (fun v w' hb ho => by
              exact ⟨#[.agg (arr8 32 rt), .agg (arr8 32 bad), .int .i64 j, .int .i64 hs.length, .slice AP P.length cP], by kernel_rfl, (HD w' hb).mono (fun _ _ h => h)⟩),
          owes_bin 6 (some 129) [5] (.bool false) Go.BinOp.neq 3 (Go.Operand.tmp 128) (Go.Operand.const (Go.Value.int Go.IntKind.i64 0)) 3 (.int .i64 0) (Go.Value.int Go.IntKind.i64 0) (fun v => by kernel_rfl) (fun v => by kernel_rfl) (fun w => by kernel_rfl),
          owes_move 7 (some 130) [6] (.bool false) (Go.Operand.tmp 129) (fun v => by kernel_rfl) (fun v => by kernel_rfl),
          owes_skip 8 (some 131) [7] (fun v => by kernel_rfl),
          owes_skip 9 (some 132) [7] (fun v => by kernel_rfl),
          owes_skip 10 (some 133) [7] (fun v => by kernel_rfl),
          owes_skip 11 (some 134) [7] (fun v => by kernel_rfl),
          owes_skip 12 (some 135) [7] (fun v => by kernel_rfl),
          owes_skip 13 (some 136) [7, 8, 9, 10, 11, 12] (fun v => by kernel_rfl),
          owes_skip 14 (some 137) [7, 13] (fun v => by kernel_rfl),
          owes_skip 15 (some 138) [7, 14] (fun v => by kernel_rfl),
          owes_pick 16 (some 139) [7, 15] (Go.Value.bool false) (Go.Operand.tmp 130) (Go.Operand.tmp 138) (Go.Operand.const (Go.Value.bool false)) false (fun v => by kernel_rfl) (fun v => by kernel_rfl) (fun v => by kernel_rfl), trivial⟩ ?_
        intro v w' hb' hall
        exact ⟨rfl, _, _, _, _, _, _, _, _, _, _, _, _, _, _, _, _, rfl, hb'⟩
      · rw [hcb] at HD0 HC9
        have HD : ∀ w', Below Wn.heap.size Wn w' → Calls Tryd.prog 18 #[.agg (arr8 32 rt), .agg (arr8 32 bad), .int .i64 j, .int .i64 hs.length, .slice AP P.length cP] w' fun e w'' => e = .returned (.int .i64 113) ∧ Below w'.heap.size w' w'' := HD0
        have HC : ∀ w', Below Wn.heap.size Wn w' → Calls Tryd.prog 17 #[.agg (arr8 32 rt), .agg (arr8 32 bad), .int .i64 j, .int .i64 hs.length, .slice AP P.length cP] w' fun e w'' => e = .returned (errV (E 12)) ∧ Below w'.heap.size w' w'' := HC9
        refine wp_region_text [Sp.k 0 (some 123) [] (.agg (arr8 32 rt)),
          Sp.k 1 (some 124) [] (.agg (arr8 32 bad)),
          Sp.k 2 (some 125) [] (.int .i64 j),
          Sp.k 3 (some 126) [] (.int .i64 hs.length),
          Sp.k 4 (some 127) [] (.slice AP P.length cP),
          Sp.k 5 (some 128) [0, 1, 2, 3, 4] (.int .i64 113),
          Sp.k 6 (some 129) [5] (.bool true),
          Sp.k 7 (some 130) [6] (.bool true),
          Sp.k 8 (some 131) [7] (.agg (arr8 32 rt)),
          Sp.k 9 (some 132) [7] (.agg (arr8 32 bad)),
          Sp.k 10 (some 133) [7] (.int .i64 j),
          Sp.k 11 (some 134) [7] (.int .i64 hs.length),
          Sp.k 12 (some 135) [7] (.slice AP P.length cP),
          Sp.k 13 (some 136) [7, 8, 9, 10, 11, 12] (errV (E 12)),
          Sp.k 14 (some 137) [7, 13] (.bool true),
          Sp.k 15 (some 138) [7, 14] (.bool false),
          Sp.k 16 (some 139) [7, 15] (.bool false)] (by kernel_rfl)
          ⟨owes_load 0 (some 123) [] (.agg (arr8 32 rt)) 24 (Go.Operand.tmp 10) (.pointer (some ⟨R, 0, none⟩)) (fun v => by kernel_rfl) (fun v => by kernel_rfl) (fun w' hb => load_hash _ _ _ w' (rangeAt_row (hr.of_block ((hb).block _ hr.lt)))),
          owes_load 1 (some 124) [] (.agg (arr8 32 bad)) 24 (Go.Operand.tmp 15) (.pointer (some ⟨R3, 0, none⟩)) (fun v => by kernel_rfl) (fun v => by kernel_rfl) (fun w' hb => load_hash _ _ _ w' (rangeAt_row (h3.of_block ((hb).block _ h3.lt)))),
          owes_move 2 (some 125) [] (.int .i64 j) (Go.Operand.tmp 1) (fun v => by kernel_rfl) (fun v => by kernel_rfl),
          owes_move 3 (some 126) [] (.int .i64 hs.length) (Go.Operand.tmp 9) (fun v => by kernel_rfl) (fun v => by kernel_rfl),
          owes_move 4 (some 127) [] (.slice AP P.length cP) (Go.Operand.tmp 11) (fun v => by kernel_rfl) (fun v => by kernel_rfl),
          owes_call 5 (some 128) [0, 1, 2, 3, 4] (.int .i64 113) 18 #[Go.Operand.tmp 123, Go.Operand.tmp 124, Go.Operand.tmp 125, Go.Operand.tmp 126, Go.Operand.tmp 127] #[24, 24, 3, 3, 26] (fun v => by kernel_rfl) (fun _ _ => by kernel_rfl) (fun v w' hb ho => by
              exact ⟨#[.agg (arr8 32 rt), .agg (arr8 32 bad), .int .i64 j, .int .i64 hs.length, .slice AP P.length cP], by kernel_rfl, (HD w' hb).mono (fun _ _ h => h)⟩),
          owes_bin 6 (some 129) [5] (.bool true) Go.BinOp.neq 3 (Go.Operand.tmp 128) (Go.Operand.const (Go.Value.int Go.IntKind.i64 0)) 3 (.int .i64 113) (Go.Value.int Go.IntKind.i64 0) (fun v => by kernel_rfl) (fun v => by kernel_rfl) (fun w => by kernel_rfl),
          owes_move 7 (some 130) [6] (.bool true) (Go.Operand.tmp 129) (fun v => by kernel_rfl) (fun v => by kernel_rfl),
          owes_load 8 (some 131) [7] (.agg (arr8 32 rt)) 24 (Go.Operand.tmp 10) (.pointer (some ⟨R, 0, none⟩)) (fun v => by kernel_rfl) (fun v => by kernel_rfl) (fun w' hb => load_hash _ _ _ w' (rangeAt_row (hr.of_block ((hb).block _ hr.lt)))),
          owes_load 9 (some 132) [7] (.agg (arr8 32 bad)) 24 (Go.Operand.tmp 15) (.pointer (some ⟨R3, 0, none⟩)) (fun v => by kernel_rfl) (fun v => by kernel_rfl) (fun w' hb => load_hash _ _ _ w' (rangeAt_row (h3.of_block ((hb).block _ h3.lt)))),
          owes_move 10 (some 133) [7] (.int .i64 j) (Go.Operand.tmp 1) (fun v => by kernel_rfl) (fun v => by kernel_rfl),
          owes_move 11 (some 134) [7] (.int .i64 hs.length) (Go.Operand.tmp 9) (fun v => by kernel_rfl) (fun v => by kernel_rfl),
          owes_move 12 (some 135) [7] (.slice AP P.length cP) (Go.Operand.tmp 11) (fun v => by kernel_rfl) (fun v => by kernel_rfl),
          owes_call 13 (some 136) [7, 8, 9, 10, 11, 12] (errV (E 12)) 17 #[Go.Operand.tmp 131, Go.Operand.tmp 132, Go.Operand.tmp 133, Go.Operand.tmp 134, Go.Operand.tmp 135] #[24, 24, 3, 3, 26] (fun v => by kernel_rfl) (fun _ _ => by kernel_rfl) (fun v w' hb ho => by
              exact ⟨#[.agg (arr8 32 rt), .agg (arr8 32 bad), .int .i64 j, .int .i64 hs.length, .slice AP P.length cP], by kernel_rfl, (HC w' hb).mono (fun _ _ h => h)⟩),
          owes_call 14 (some 137) [7, 13] (.bool true) 13 #[Go.Operand.tmp 136, Go.Operand.const (Go.Value.int Go.IntKind.i64 113)] #[33, 3] (fun v => by kernel_rfl) (fun _ _ => by kernel_rfl) (fun v w' hb ho => by
              exact ⟨#[errV (E 12), Go.Value.int Go.IntKind.i64 113], by kernel_rfl, (is_any E (errV (E 12)) 113 113 (.inr ⟨12, by decide, rfl, rfl⟩) w' (hE.below hb)).mono (fun _ _ h => h)⟩),
          owes_un 15 (some 138) [7, 14] (.bool false) Go.UnOp.not 4 (Go.Operand.tmp 137) (.bool true) (fun v => by kernel_rfl) (fun v => by kernel_rfl) (fun w => by kernel_rfl),
          owes_pick 16 (some 139) [7, 15] (.bool false) (Go.Operand.tmp 130) (Go.Operand.tmp 138) (Go.Operand.const (Go.Value.bool false)) true (fun v => by kernel_rfl) (fun v => by kernel_rfl) (fun v => by kernel_rfl), trivial⟩ ?_
        intro v w' hb' hall
        exact ⟨rfl, _, _, _, _, _, _, _, _, _, _, _, _, _, _, _, _, rfl, hb'⟩
    rintro a' W ⟨w0, w1, w2, w3, w4, w5, w6, w7, w8, w9, w10, w11, w12, w13, w14, w15, rfl, hbD⟩
    simp only [put_list, List.set_cons_zero, List.set_cons_succ]
    replace x := x.next hbD
    clear hr hE hbD HD0 HC9 hcb h3
    clear Wn
    have hr := x.row
    have hE := hE0.below x.bel
    have HQ : ∀ w', Below W.heap.size W w' → w'.rangeAt b (o + 32 * j) (arr8 32 lf).toList := fun w' hb => (hrange (x.next hb).h HLF.out).2
    have hrd2 := errOf_reads E _ (checkGot_code rt lf kk hs.length P)
    have HC := fun w' (hb : Below W.heap.size W w') => check_all E rt lf kk hs.length P AP cP w' (hE.below hb) (x.next hb).p (hk0.below (x.next hb).bel)
    have HD := fun w' (hb : Below W.heap.size W w') => dcheck_all rt lf kk hs.length P AP cP w' (x.next hb).p
    obtain ⟨cg, hcg⟩ : ∃ cg, cg = checkGot rt lf kk hs.length P := ⟨_, rfl⟩
    obtain ⟨ev2, hev2⟩ : ∃ ev2, ev2 = errOf E (checkGot rt lf kk hs.length P) := ⟨_, rfl⟩
    rw [← hev2, ← hcg] at hrd2
    simp only [← hev2] at HC
    simp only [← hcg] at HD
    clear hcg hev2
    go_upto_region 25 with (fail)
    refine wp_region_spec [Sp.k 0 (some 140) [] (.bool true),
      Sp.k 1 (some 141) [0] (.bool true),
      Sp.k 2 (some 142) [1] (.agg (arr8 32 rt)),
      Sp.k 3 (some 143) [1] (.slice (some ⟨b, o, none⟩) hs.length c),
      Sp.k 4 (some 144) [1] (.int .i64 j),
      Sp.k 5 (some 145) [1, 3, 4] (.pointer (some ⟨b, o + 32 * j, none⟩)),
      Sp.k 6 (some 146) [1, 5] (.agg (arr8 32 lf)),
      Sp.k 7 (some 147) [1] (.int .i64 kk),
      Sp.k 8 (some 148) [1] (.int .i64 hs.length),
      Sp.k 9 (some 149) [1] (.slice AP P.length cP),
      Sp.k 10 (some 150) [1, 2, 6, 7, 8, 9] (ev2),
      Sp.k 11 (some 151) [1] (.agg (arr8 32 rt)),
      Sp.k 12 (some 152) [1] (.slice (some ⟨b, o, none⟩) hs.length c),
      Sp.k 13 (some 153) [1] (.int .i64 j),
      Sp.k 14 (some 154) [1, 12, 13] (.pointer (some ⟨b, o + 32 * j, none⟩)),
      Sp.k 15 (some 155) [1, 14] (.agg (arr8 32 lf)),
      Sp.k 16 (some 156) [1] (.int .i64 kk),
      Sp.k 17 (some 157) [1] (.int .i64 hs.length),
      Sp.k 18 (some 158) [1] (.slice AP P.length cP),
      Sp.k 19 (some 159) [1, 11, 15, 16, 17, 18] (.int .i64 cg),
      Sp.k 20 (some 160) [1, 10, 19] (.bool true),
      Sp.k 21 (some 161) [1, 20] (.bool true),
      Sp.k 22 (some 6) [21] (.bool true)] (by kernel_rfl) (by kernel_rfl)
      ⟨owes_move 0 (some 140) [] (.bool true) (Go.Operand.tmp 7) (fun v => by kernel_rfl) (fun v => by kernel_rfl),
      owes_move 1 (some 141) [0] (.bool true) (Go.Operand.tmp 140) (fun v => by kernel_rfl) (fun v => by kernel_rfl),
      owes_load 2 (some 142) [1] (.agg (arr8 32 rt)) 24 (Go.Operand.tmp 10) (.pointer (some ⟨R, 0, none⟩)) (fun v => by kernel_rfl) (fun v => by kernel_rfl) (fun w' hb => load_hash _ _ _ w' (rangeAt_row (hr.of_block ((drB hb).block _ hr.lt)))),
      owes_move 3 (some 143) [1] (.slice (some ⟨b, o, none⟩) hs.length c) (Go.Operand.tmp 8) (fun v => by kernel_rfl) (fun v => by kernel_rfl),
      owes_move 4 (some 144) [1] (.int .i64 j) (Go.Operand.tmp 1) (fun v => by kernel_rfl) (fun v => by kernel_rfl),
      owes_index 5 (some 145) [1, 3, 4] (.pointer (some ⟨b, o + 32 * j, none⟩)) 26 (Go.Operand.tmp 143) (Go.Operand.tmp 144) (.slice (some ⟨b, o, none⟩) hs.length c) (.int .i64 j) (fun v => by kernel_rfl) (fun v => by kernel_rfl) (idxH b o _ c j (by omega)),
      owes_load 6 (some 146) [1, 5] (.agg (arr8 32 lf)) 24 (Go.Operand.tmp 145) (.pointer (some ⟨b, o + 32 * j, none⟩)) (fun v => by kernel_rfl) (fun v => by kernel_rfl) (fun w' hb => load_hash _ _ _ w' (HQ w' (drB hb))),
      owes_move 7 (some 147) [1] (.int .i64 kk) (Go.Operand.tmp 16) (fun v => by kernel_rfl) (fun v => by kernel_rfl),
      owes_move 8 (some 148) [1] (.int .i64 hs.length) (Go.Operand.tmp 9) (fun v => by kernel_rfl) (fun v => by kernel_rfl),
      owes_move 9 (some 149) [1] (.slice AP P.length cP) (Go.Operand.tmp 11) (fun v => by kernel_rfl) (fun v => by kernel_rfl),
      owes_call 10 (some 150) [1, 2, 6, 7, 8, 9] (ev2) 17 #[Go.Operand.tmp 142, Go.Operand.tmp 146, Go.Operand.tmp 147, Go.Operand.tmp 148, Go.Operand.tmp 149] #[24, 24, 3, 3, 26] (fun v => by kernel_rfl) (fun _ _ => by kernel_rfl) (fun v w' hb ho => by
          exact ⟨#[.agg (arr8 32 rt), .agg (arr8 32 lf), .int .i64 kk, .int .i64 hs.length, .slice AP P.length cP], by kernel_rfl, (HC w' (drB hb)).mono (fun _ _ h => h)⟩),
      owes_load 11 (some 151) [1] (.agg (arr8 32 rt)) 24 (Go.Operand.tmp 10) (.pointer (some ⟨R, 0, none⟩)) (fun v => by kernel_rfl) (fun v => by kernel_rfl) (fun w' hb => load_hash _ _ _ w' (rangeAt_row (hr.of_block ((drB hb).block _ hr.lt)))),
      owes_move 12 (some 152) [1] (.slice (some ⟨b, o, none⟩) hs.length c) (Go.Operand.tmp 8) (fun v => by kernel_rfl) (fun v => by kernel_rfl),
      owes_move 13 (some 153) [1] (.int .i64 j) (Go.Operand.tmp 1) (fun v => by kernel_rfl) (fun v => by kernel_rfl),
      owes_index 14 (some 154) [1, 12, 13] (.pointer (some ⟨b, o + 32 * j, none⟩)) 26 (Go.Operand.tmp 152) (Go.Operand.tmp 153) (.slice (some ⟨b, o, none⟩) hs.length c) (.int .i64 j) (fun v => by kernel_rfl) (fun v => by kernel_rfl) (idxH b o _ c j (by omega)),
      owes_load 15 (some 155) [1, 14] (.agg (arr8 32 lf)) 24 (Go.Operand.tmp 154) (.pointer (some ⟨b, o + 32 * j, none⟩)) (fun v => by kernel_rfl) (fun v => by kernel_rfl) (fun w' hb => load_hash _ _ _ w' (HQ w' (drB hb))),
      owes_move 16 (some 156) [1] (.int .i64 kk) (Go.Operand.tmp 16) (fun v => by kernel_rfl) (fun v => by kernel_rfl),
      owes_move 17 (some 157) [1] (.int .i64 hs.length) (Go.Operand.tmp 9) (fun v => by kernel_rfl) (fun v => by kernel_rfl),
      owes_move 18 (some 158) [1] (.slice AP P.length cP) (Go.Operand.tmp 11) (fun v => by kernel_rfl) (fun v => by kernel_rfl),
      owes_call 19 (some 159) [1, 11, 15, 16, 17, 18] (.int .i64 cg) 18 #[Go.Operand.tmp 151, Go.Operand.tmp 155, Go.Operand.tmp 156, Go.Operand.tmp 157, Go.Operand.tmp 158] #[24, 24, 3, 3, 26] (fun v => by kernel_rfl) (fun _ _ => by kernel_rfl) (fun v w' hb ho => by
          exact ⟨#[.agg (arr8 32 rt), .agg (arr8 32 lf), .int .i64 kk, .int .i64 hs.length, .slice AP P.length cP], by kernel_rfl, (HD w' (drB hb)).mono (fun _ _ h => h)⟩),
      owes_call 20 (some 160) [1, 10, 19] (.bool true) 13 #[Go.Operand.tmp 150, Go.Operand.tmp 159] #[33, 3] (fun v => by kernel_rfl) (fun _ _ => by kernel_rfl) (fun v w' hb ho => by
          exact ⟨#[ev2, .int .i64 cg], by kernel_rfl, (is_any E ev2 cg cg hrd2 w' (hE.below (drB hb))).mono (fun _ _ h => ⟨h.1.trans (by simp), h.2⟩)⟩),
      owes_pick 21 (some 161) [1, 20] (.bool true) (Go.Operand.tmp 141) (Go.Operand.tmp 160) (Go.Operand.const (Go.Value.bool false)) true (fun v => by kernel_rfl) (fun v => by kernel_rfl) (fun v => by kernel_rfl),
      owes_assign 22 (some 6) [21] (.bool true) (Go.Operand.tmp 161) (fun v => by kernel_rfl) (fun v => by kernel_rfl), trivial⟩ ?_
    intro v w' hb' hall
    clear hall HC HD
    have hbb := below_tr x.bel (drB hb')
    clear hb'
    simp only [putsL_k, putsL_nil, List.set_cons_zero, List.set_cons_succ]
    go_wp2_with fail
    go_ret
    exact ⟨rfl, hbb⟩

end Go.Proofs.YtihnpcoiadbpiaaDoor
