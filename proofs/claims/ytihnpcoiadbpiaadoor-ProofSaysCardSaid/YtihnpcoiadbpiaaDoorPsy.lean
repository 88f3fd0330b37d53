import Derived.Test.YtihnpcoiadbpiaaDoorPfs
namespace Go.Proofs.YtihnpcoiadbpiaaDoor
open Go.RowKit

theorem SeqAt.neu {w : World} {A : Option Addr} {xs : List Int} {cap : Nat} (h : SlRead w A (ints .i64 xs)) : SeqAt (w.alloc (.cells #[.slice A xs.length cap, .int .i64 0] 30)) w.heap.size 0 A xs cap := by
  refine ⟨heap_alloc_new _ _, h.below ((Below.refl _ _).alloc (Nat.le_refl _) _), fun hn b o e => ?_⟩
  obtain ⟨b', o', e', hlt, _⟩ := h (by simpa using hn)
  rw [e] at e'
  injection e' with e'
  injection e' with e1 e2
  omega
/-- a leaf in its variable, all else as it was -/
structure Ps (w : World) (leaf : Nat → BitVec 8) (W : World) : Prop where
  bel : Below w.heap.size w W
  row : W.rowIs w.heap.size 24 32 (fun i => v8 (leaf i))
theorem Ps.next {w W W' : World} {leaf : Nat → BitVec 8} (x : Ps w leaf W) (hb : Below W.heap.size W W') : Ps w leaf W' :=
  ⟨below_tr x.bel hb, x.row.of_block (hb.block _ x.row.lt)⟩

set_option maxRecDepth 100000 in
set_option maxHeartbeats 25600000 in
theorem psays_walk (E : Nat → Addr) (A : Option Addr) (xs : List Int) (ca : Nat) (zi zn : Int) (leaf : Nat → BitVec 8) (AM : Option Addr) (ys : List Int) (cm : Nat) (w : World)
    (hA : SlRead w A (ints .i64 xs)) (hxs : ∀ x ∈ xs, -9223372036854775808 ≤ x ∧ x ≤ 9223372036854775807) (hM : SlRead w AM (ints .i64 ys)) (hys : ∀ x ∈ ys, -9223372036854775808 ≤ x ∧ x ≤ 9223372036854775807) (hE0 : ErrsAt E w) (hk0 : KAt w) :
    Calls Tryd.prog 3 #[.slice A xs.length ca, .int .i64 zi, .int .i64 zn, .agg (arr8 32 leaf), .slice AM ys.length cm] w fun e w' => e = .returned (.bool true) ∧ Below w.heap.size w w' := by
  obtain ⟨mi, hi1, hi2⟩ := exists_mod zi 45 (by omega)
  obtain ⟨mn, hn1, hn2⟩ := exists_mod zn 60 (by omega)
  have HI := Lib.hid hi1; have HN := Lib.hid hn1
  clear hi1 hn1
  go_enter Tryd.func3, Tryd.ntmps3
  go_upto_region 1 with (fail)
  refine wp_world (fun W => Ps w leaf W) ?_ ?_
  · exact ⟨by go_grown, rowIs_new w (arr8 32 leaf) 24 w.heap.size 32 _ rfl (by simp) (fun i hi => arr8_get 32 leaf i hi)⟩
  intro W x
  generalize hB : w.heap.size = B
  have HB := Lib.hid hB; clear hB
  go_wp2_with fail
  refine (pfirst_any E W (hE0.below x.bel) (hk0.below x.bel)).mono ?_
  rintro e W1 ⟨rfl, hb1⟩
  replace x := x.next hb1
  clear hb1
  by_cases h60 : 60 < xs.length
  · have d1 : decide ((60 : Int) < (xs.length : Int)) = true := by simp; omega
    go_wp2_with fail
    go_ret
    exact ⟨rfl, x.bel⟩
  have d1 : decide ((60 : Int) < (xs.length : Int)) = false := by simp; omega
  by_cases h20 : 20 < ys.length
  · have d2 : decide ((20 : Int) < (ys.length : Int)) = true := by simp; omega
    go_wp2_with fail
    go_ret
    exact ⟨rfl, x.bel⟩
  have d2 : decide ((20 : Int) < (ys.length : Int)) = false := by simp; omega
  have hsq := SeqAt.neu (cap := ca) (hA.below x.bel)
  have hh := hashes_any W1.heap.size 0 A xs ca 40 _ hsq (by omega) (by omega) hxs
  go_wp2_with fail
  refine hh.mono ?_
  rintro e W3 ⟨hs, O, c0, rfl, hl1, hl2, hl3, hO, honly⟩
  have hb13 : Below W1.heap.size W1 W3 := ((Below.refl _ _).alloc (Nat.le_refl _) _).trans (honly.below (Nat.le_refl _) (by simp))
  replace x := x.next hb13
  clear hsq hh honly hb13
  have hsq := SeqAt.neu (cap := cm) (hM.below x.bel)
  have hh := hashes_any W3.heap.size 0 AM ys cm 8 _ hsq (by omega) (by omega) hys
  go_wp2_with fail
  refine hh.mono ?_
  rintro e W5 ⟨ps, O2, c3, rfl, hp1, hp2, hp3, hP, honly⟩
  have hb13 : Below W3.heap.size W3 W5 := ((Below.refl _ _).alloc (Nat.le_refl _) _).trans (honly.below (Nat.le_refl _) (by simp))
  replace x := x.next hb13
  replace hO := hO.below hb13
  clear hsq hh honly hb13
  go_wp2_with fail
  refine (number_nat zi 45 mi W5 (by omega) HI.out).mono ?_
  rintro e W6 ⟨rfl, n6, rfl⟩
  have hb6 : Below W5.heap.size W5 (W5.drewN n6) := Below.drewNr n6
  replace x := x.next hb6
  replace hO := hO.below hb6
  replace hP := hP.below hb6
  clear hb6
  generalize W5.drewN n6 = W6 at *
  go_upto_region 9 with (fail)
  obtain ⟨i, hi⟩ : ∃ i : Int, i = (mi : Int) - 2 := ⟨_, rfl⟩
  rw [← hi]
  have hi3 : i ≤ 42 := by omega
  clear hi
  go_wp2_with fail
  refine (number_nat zn 60 mn W6 (by omega) HN.out).mono ?_
  rintro e W7 ⟨rfl, n7, rfl⟩
  have hb7 : Below W6.heap.size W6 (W6.drewN n7) := Below.drewNr n7
  replace x := x.next hb7
  replace hO := hO.below hb7
  replace hP := hP.below hb7
  clear hb7
  generalize W6.drewN n7 = W7 at *
  go_upto_region 10 with (fail)
  obtain ⟨nz, hnz⟩ : ∃ nz : Int, nz = (mn : Int) - 2 := ⟨_, rfl⟩
  rw [← hnz]
  clear hnz
  by_cases h50 : nz = 50
  · subst h50
    go_upto_region 12 with (fail)
    by_cases hib : i < 0 ∨ (hs.length : Int) ≤ i
    · go_wp2_with fail
      refine (path_bad E i hs O c0 W7 (hE0.below x.bel) hib).mono ?_
      rintro e W8 ⟨rfl, hb8⟩
      go_wp2_with fail
      refine (dpath_bad i hs O c0 W8 hib).mono ?_
      rintro e W9 ⟨rfl, hb9⟩
      have hb79 := below_tr hb8 hb9
      replace x := x.next hb79
      replace hO := hO.below hb79
      replace hP := hP.below hb79
      clear hb8 hb9 hb79
      have hE := hE0.below x.bel
      go_upto_region 14 with (fail)
      refine wp_region_text [Sp.k 0 (some 66) [] (.slice none 0 0),
        Sp.k 1 (some 67) [] (.slice none 0 0),
        Sp.k 2 (some 68) [0, 1] (.bool true),
        Sp.k 3 (some 69) [2] (.bool false),
        Sp.k 4 (some 70) [3] (.bool false),
        Sp.k 5 (some 71) [4] (errV (E 1)),
        Sp.k 6 (some 72) [4, 5] (.bool false),
        Sp.k 7 (some 73) [4] (.bool false),
        Sp.k 8 (some 74) [4, 6, 7] (.bool false),
        Sp.k 9 (some 75) [4, 8] (.bool false),
        Sp.k 10 (some 76) [9] (.bool false),
        Sp.k 11 (some 77) [10] (.bool false),
        Sp.k 12 (some 78) [10, 11] (.bool true),
        Sp.k 13 (some 79) [10, 12] (.bool true),
        Sp.k 14 (some 80) [13] (errV (E 1)),
        Sp.k 15 (some 81) [13, 14] (.bool true),
        Sp.k 16 (some 82) [13, 15] (.bool false),
        Sp.k 17 (some 83) [10, 13, 16] (.bool false),
        Sp.k 18 (some 84) [10, 17] (.bool false)] (by kernel_rfl)
        ⟨owes_move 0 (some 66) [] (.slice none 0 0) (Go.Operand.tmp 14) (fun v => by kernel_rfl) (fun v => by kernel_rfl),
        owes_move 1 (some 67) [] (.slice none 0 0) (Go.Operand.tmp 16) (fun v => by kernel_rfl) (fun v => by kernel_rfl),
        owes_call 2 (some 68) [0, 1] (.bool true) 12 #[Go.Operand.tmp 66, Go.Operand.tmp 67] #[26, 26] (fun v => by kernel_rfl) (fun _ _ => by kernel_rfl) (fun v w' hb ho => by
            exact ⟨#[.slice none 0 0, .slice none 0 0], by kernel_rfl, (same_hashes [] none none 0 0 w' SlRead.nil_ SlRead.nil_ (by simp)).mono (fun _ _ h => h)⟩),
        owes_un 3 (some 69) [2] (.bool false) Go.UnOp.not 4 (Go.Operand.tmp 68) (.bool true) (fun v => by kernel_rfl) (fun v => by kernel_rfl) (fun w => by kernel_rfl),
        owes_move 4 (some 70) [3] (.bool false) (Go.Operand.tmp 69) (fun v => by kernel_rfl) (fun v => by kernel_rfl),
        owes_move 5 (some 71) [4] (errV (E 1)) (Go.Operand.tmp 15) (fun v => by kernel_rfl) (fun v => by kernel_rfl),
        owes_bin 6 (some 72) [4, 5] (.bool false) Go.BinOp.eql 33 (Go.Operand.tmp 71) (Go.Operand.const Go.Value.nilIface) 33 (errV (E 1)) (Go.Value.nilIface) (fun v => by kernel_rfl) (fun v => by kernel_rfl) (fun w => by kernel_rfl),
        owes_move 7 (some 73) [4] (.bool false) (Go.Operand.tmp 17) (fun v => by kernel_rfl) (fun v => by kernel_rfl),
        owes_bin 8 (some 74) [4, 6, 7] (.bool false) Go.BinOp.neq 4 (Go.Operand.tmp 72) (Go.Operand.tmp 73) 4 (.bool false) (.bool false) (fun v => by kernel_rfl) (fun v => by kernel_rfl) (fun w => by kernel_rfl),
        owes_pick 9 (some 75) [4, 8] (.bool false) (Go.Operand.tmp 70) (Go.Operand.const (Go.Value.bool true)) (Go.Operand.tmp 74) false (fun v => by kernel_rfl) (fun v => by kernel_rfl) (fun v => by kernel_rfl),
        owes_move 10 (some 76) [9] (.bool false) (Go.Operand.tmp 75) (fun v => by kernel_rfl) (fun v => by kernel_rfl),
        owes_move 11 (some 77) [10] (.bool false) (Go.Operand.tmp 17) (fun v => by kernel_rfl) (fun v => by kernel_rfl),
        owes_un 12 (some 78) [10, 11] (.bool true) Go.UnOp.not 4 (Go.Operand.tmp 77) (.bool false) (fun v => by kernel_rfl) (fun v => by kernel_rfl) (fun w => by kernel_rfl),
        owes_move 13 (some 79) [10, 12] (.bool true) (Go.Operand.tmp 78) (fun v => by kernel_rfl) (fun v => by kernel_rfl),
        owes_move 14 (some 80) [13] (errV (E 1)) (Go.Operand.tmp 15) (fun v => by kernel_rfl) (fun v => by kernel_rfl),
        owes_call 15 (some 81) [13, 14] (.bool true) 13 #[Go.Operand.tmp 80, Go.Operand.const (Go.Value.int Go.IntKind.i64 102)] #[33, 3] (fun v => by kernel_rfl) (fun _ _ => by kernel_rfl) (fun v w' hb ho => by
            exact ⟨#[errV (E 1), Go.Value.int Go.IntKind.i64 102], by kernel_rfl, (is_any E (errV (E 1)) 102 102 (.inr ⟨1, by decide, rfl, rfl⟩) w' (hE.below hb)).mono (fun _ _ h => h)⟩),
        owes_un 16 (some 82) [13, 15] (.bool false) Go.UnOp.not 4 (Go.Operand.tmp 81) (.bool true) (fun v => by kernel_rfl) (fun v => by kernel_rfl) (fun w => by kernel_rfl),
        owes_pick 17 (some 83) [10, 13, 16] (.bool false) (Go.Operand.tmp 79) (Go.Operand.tmp 82) (Go.Operand.const (Go.Value.bool false)) true (fun v => by kernel_rfl) (fun v => by kernel_rfl) (fun v => by kernel_rfl),
        owes_pick 18 (some 84) [10, 17] (.bool false) (Go.Operand.tmp 76) (Go.Operand.const (Go.Value.bool true)) (Go.Operand.tmp 83) false (fun v => by kernel_rfl) (fun v => by kernel_rfl) (fun v => by kernel_rfl), trivial⟩ ?_
      intro v W10 hb' hall
      clear hall hE
      replace x := x.next hb'
      replace hO := hO.below hb'
      replace hP := hP.below hb'
      clear hb'
      simp only [putsL_k, putsL_nil, List.set_cons_zero, List.set_cons_succ]
      go_wp2_with fail
      go_loopw [18] (fun p wr => ∃ k : Nat, p = .int .i64 k ∧ k ≤ 2 ∧ Below W10.heap.size W10 wr) (fun p _ => 2 - (intOf p).toNat)
      case atStart => exact ⟨0, rfl, by omega, Below.refl _ _⟩
      case round =>
        obtain ⟨k, rfl, hk2, hbw⟩ := hrel
        replace x := x.next hbw
        replace hO := hO.below hbw
        replace hP := hP.below hbw
  
        rcases (show k = 0 ∨ k = 1 ∨ k = 2 by omega) with rfl | rfl | rfl
        · have hup := up_all E leaf i 1048577 ps O2 c3 wr (hE0.below x.bel) hP (hk0.below x.bel)
          have hrow : wr.heap[B]? = some (.cells (arr8 32 leaf) 24 (0, 0)) := by rw [← HB.out]; exact rowIs_heap8 x.row
          have hcode := upGot_code leaf i 1048577 ps
          have hcode2 := fun r => checkGot_code r leaf i 1048577 ps
          have hdup := fun V (hb : Below wr.heap.size wr V) => dup_all leaf i 1048577 ps O2 c3 V (hP.below hb)
          have hch := fun r V (hb : Below wr.heap.size wr V) => check_all E r leaf i 1048577 ps O2 c3 V (hE0.below (x.next hb).bel) (hP.below hb) (hk0.below (x.next hb).bel)
          have hdch := fun r V (hb : Below wr.heap.size wr V) => dcheck_all r leaf i 1048577 ps O2 c3 V (hP.below hb)
          obtain ⟨f, hf⟩ : ∃ f, f = (upGot leaf i 1048577 ps).1 := ⟨_, rfl⟩
          obtain ⟨cc, hcc⟩ : ∃ cc, cc = (upGot leaf i 1048577 ps).2 := ⟨_, rfl⟩
          rw [← hcc] at hcode
          rw [← hf, ← hcc] at hup
          simp only [← hf, ← hcc] at hdup
          have hrd := errOf_reads E cc (by omega)
          obtain ⟨ev, hev⟩ : ∃ ev, ev = errOf E cc := ⟨_, rfl⟩
          rw [← hev] at hrd hup
          have HDUP := Lib.hid hdup; have HCH := Lib.hid hch; have HDCH := Lib.hid hdch; have HCD := Lib.hid hcode2
          clear hdup hch hdch hf hcc hev hcode hcode2
          go_wp2_with (refine wpList_load_row rfl 24 _ rfl _ rfl _ _ _ _ hrow Tryd.underlying24 rfl (by kernel_rfl) ?_)
          refine hup.mono ?_
          rintro e V1 ⟨rfl, hb1⟩
          have hn1 := heap_alloc_new V1 (.cells (Array.replicate 32 (.int .u8 0)) 24)
          go_upto_region 25 with (first | (refine wpList_alloc_z rfl 24 rfl (Array.replicate 32 (.int .u8 0)) (fun _ => by kernel_rfl) ?_) | (refine wpList_store_row rfl 24 _ _ rfl V1.heap.size (arr8 32 f) rfl rfl _ _ hn1 (by kernel_rfl) (by simp) (arr8_one _ _) ?_))
          rw [alloc_setRow]
          clear hn1 hup hrow
          refine wp_world (fun V => Below wr.heap.size wr V ∧ V.rowIs V1.heap.size 24 32 (fun i => v8 (f i))) ?_ ?_
          · exact ⟨hb1.alloc hb1.size _, rowIs_new V1 (arr8 32 f) 24 V1.heap.size 32 _ rfl (by simp) (fun i hi => arr8_get 32 f i hi)⟩
          rintro V2 ⟨hb2, h1⟩
          generalize V1.heap.size = R1 at *
          have hrow : V2.heap[B]? = some (.cells (arr8 32 leaf) 24 (0, 0)) := by rw [← HB.out]; exact rowIs_heap8 (x.next hb2).row
          go_wp2_with (refine wpList_load_row rfl 24 _ rfl _ rfl _ _ _ _ hrow Tryd.underlying24 rfl (by kernel_rfl) ?_)
          refine (HDUP.out V2 hb2).mono ?_
          rintro e V3 ⟨rfl, hb3⟩
          have hn1 := heap_alloc_new V3 (.cells (Array.replicate 32 (.int .u8 0)) 24)
          go_upto_region 26 with (first | (refine wpList_alloc_z rfl 24 rfl (Array.replicate 32 (.int .u8 0)) (fun _ => by kernel_rfl) ?_) | (refine wpList_store_row rfl 24 _ _ rfl V3.heap.size (arr8 32 f) rfl rfl _ _ hn1 (by kernel_rfl) (by simp) (arr8_one _ _) ?_))
          rw [alloc_setRow]
          clear hn1 hrow
          refine wp_world (fun V => Below wr.heap.size wr V ∧ V.rowIs R1 24 32 (fun i => v8 (f i)) ∧ V.rowIs V3.heap.size 24 32 (fun i => v8 (f i))) ?_ ?_
          · exact ⟨(below_tr hb2 hb3).alloc (below_tr hb2 hb3).size _, (h1.of_block (hb3.block _ h1.lt)).alloc _, rowIs_new V3 (arr8 32 f) 24 V3.heap.size 32 _ rfl (by simp) (fun i hi => arr8_get 32 f i hi)⟩
          clear hb1 hb2 hb3 h1
          rintro V4 ⟨hb4, h1, h2⟩
          generalize V3.heap.size = R2 at *
          have hrt := drootn_any hs.length hs O c0 V4 (Nat.le_refl _) (hO.below hb4) hl2 (by omega)
          obtain ⟨rt, hrt'⟩ : ∃ rt, rt = rootOf hs := ⟨_, rfl⟩
          rw [← hrt'] at hrt
          clear hrt'
          go_wp2_with fail
          refine hrt.mono ?_
          rintro e V5 ⟨rfl, hb5⟩
          have hn1 := heap_alloc_new V5 (.cells (Array.replicate 32 (.int .u8 0)) 24)
          go_upto_region 27 with (first | (refine wpList_alloc_z rfl 24 rfl (Array.replicate 32 (.int .u8 0)) (fun _ => by kernel_rfl) ?_) | (refine wpList_store_row rfl 24 _ _ rfl V5.heap.size (arr8 32 rt) rfl rfl _ _ hn1 (by kernel_rfl) (by simp) (arr8_one _ _) ?_))
          rw [alloc_setRow]
          try simp only [Act.put, List.setIfInBounds_toArray, List.set_cons_zero, List.set_cons_succ]
          clear hn1 hrt
          refine wp_world (fun V => Below wr.heap.size wr V ∧ V.rowIs R1 24 32 (fun i => v8 (f i)) ∧ V.rowIs R2 24 32 (fun i => v8 (f i)) ∧ V.rowIs V5.heap.size 24 32 (fun i => v8 (rt i))) ?_ ?_
          · exact ⟨(below_tr hb4 hb5).alloc (below_tr hb4 hb5).size _, (h1.of_block (hb5.block _ h1.lt)).alloc _, (h2.of_block (hb5.block _ h2.lt)).alloc _, rowIs_new V5 (arr8 32 rt) 24 V5.heap.size 32 _ rfl (by simp) (fun i hi => arr8_get 32 rt i hi)⟩
          clear hb4 hb5 h1 h2
          rintro V6 ⟨hb6, h1, h2, h3⟩
          generalize V5.heap.size = R3 at *
          have hx6 := x.next hb6
          have h0 : V6.rowIs B 24 32 (fun i => v8 (leaf i)) := by rw [← HB.out]; exact hx6.row
          have hE6 := hE0.below hx6.bel
          have hrd2 := errOf_reads E (checkGot rt leaf i 1048577 ps) (HCD.out rt)
          have HC1 := fun w' (hb : Below V6.heap.size V6 w') => HCH.out rt w' (below_tr hb6 hb)
          have HC2 := fun w' (hb : Below V6.heap.size V6 w') => HDCH.out rt w' (below_tr hb6 hb)
          obtain ⟨cg, hcg⟩ : ∃ cg, cg = checkGot rt leaf i 1048577 ps := ⟨_, rfl⟩
          obtain ⟨ev2, hev2⟩ : ∃ ev2, ev2 = errOf E (checkGot rt leaf i 1048577 ps) := ⟨_, rfl⟩
          rw [← hev2, ← hcg] at hrd2
          simp only [← hev2] at HC1
          simp only [← hcg] at HC2
          clear hcg hev2 HDUP HCH HDCH HCD
          refine wp_region_spec [Sp.k 0 (some 114) [] (.agg (arr8 32 f)),
            Sp.k 1 (some 115) [] (.agg (arr8 32 f)),
            Sp.k 2 (some 116) [0, 1] (.bool false),
            Sp.k 3 (some 117) [2] (.bool false),
            Sp.k 4 (some 118) [3] (ev),
            Sp.k 5 (some 119) [3] (.int .i64 cc),
            Sp.k 6 (some 120) [3, 4, 5] (.bool true),
            Sp.k 7 (some 121) [3, 6] (.bool false),
            Sp.k 8 (some 122) [3, 7] (.bool false),
            Sp.k 9 (some 123) [8] (.bool false),
            Sp.k 10 (some 124) [9] (.agg (arr8 32 rt)),
            Sp.k 11 (some 125) [9] (.agg (arr8 32 leaf)),
            Sp.k 12 (some 126) [9] (.int .i64 i),
            Sp.k 13 (some 127) [9] (.int .i64 1048577),
            Sp.k 14 (some 128) [9] (.slice O2 ps.length c3),
            Sp.k 15 (some 129) [9, 10, 11, 12, 13, 14] (ev2),
            Sp.k 16 (some 130) [9] (.agg (arr8 32 rt)),
            Sp.k 17 (some 131) [9] (.agg (arr8 32 leaf)),
            Sp.k 18 (some 132) [9] (.int .i64 i),
            Sp.k 19 (some 133) [9] (.int .i64 1048577),
            Sp.k 20 (some 134) [9] (.slice O2 ps.length c3),
            Sp.k 21 (some 135) [9, 16, 17, 18, 19, 20] (.int .i64 cg),
            Sp.k 22 (some 136) [9, 15, 21] (.bool true),
            Sp.k 23 (some 137) [9, 22] (.bool false),
            Sp.k 24 (some 138) [9, 23] (.bool false)] (by kernel_rfl) (by kernel_rfl)
            ⟨owes_load 0 (some 114) [] (.agg (arr8 32 f)) 24 (Go.Operand.tmp 21) (.pointer (some ⟨R1, 0, none⟩)) (fun v => by kernel_rfl) (fun v => by kernel_rfl) (fun w' hb => load_hash _ _ _ w' (rangeAt_row (h1.of_block ((drB hb).block _ h1.lt)))),
            owes_load 1 (some 115) [] (.agg (arr8 32 f)) 24 (Go.Operand.tmp 23) (.pointer (some ⟨R2, 0, none⟩)) (fun v => by kernel_rfl) (fun v => by kernel_rfl) (fun w' hb => load_hash _ _ _ w' (rangeAt_row (h2.of_block ((drB hb).block _ h2.lt)))),
            owes_neq 2 (some 116) [0, 1] 24 (Go.Operand.tmp 114) (Go.Operand.tmp 115) 24 (arr8 32 f) (arr8 32 f) true (fun v => by kernel_rfl) (fun v => by kernel_rfl) (by kernel_rfl) (hash_same f f rfl),
            owes_move 3 (some 117) [2] (.bool false) (Go.Operand.tmp 116) (fun v => by kernel_rfl) (fun v => by kernel_rfl),
            owes_move 4 (some 118) [3] (ev) (Go.Operand.tmp 22) (fun v => by kernel_rfl) (fun v => by kernel_rfl),
            owes_move 5 (some 119) [3] (.int .i64 cc) (Go.Operand.tmp 24) (fun v => by kernel_rfl) (fun v => by kernel_rfl),
            owes_call 6 (some 120) [3, 4, 5] (.bool true) 13 #[Go.Operand.tmp 118, Go.Operand.tmp 119] #[33, 3] (fun v => by kernel_rfl) (fun _ _ => by kernel_rfl) (fun v w' hb ho => by
                exact ⟨#[ev, .int .i64 cc], by kernel_rfl, (is_any E ev cc cc hrd w' (hE6.below (drB hb))).mono (fun _ _ h => ⟨h.1.trans (by simp), h.2⟩)⟩),
            owes_un 7 (some 121) [3, 6] (.bool false) Go.UnOp.not 4 (Go.Operand.tmp 120) (.bool true) (fun v => by kernel_rfl) (fun v => by kernel_rfl) (fun w => by kernel_rfl),
            owes_pick 8 (some 122) [3, 7] (.bool false) (Go.Operand.tmp 117) (Go.Operand.const (Go.Value.bool true)) (Go.Operand.tmp 121) false (fun v => by kernel_rfl) (fun v => by kernel_rfl) (fun v => by kernel_rfl),
            owes_move 9 (some 123) [8] (.bool false) (Go.Operand.tmp 122) (fun v => by kernel_rfl) (fun v => by kernel_rfl),
            owes_load 10 (some 124) [9] (.agg (arr8 32 rt)) 24 (Go.Operand.tmp 25) (.pointer (some ⟨R3, 0, none⟩)) (fun v => by kernel_rfl) (fun v => by kernel_rfl) (fun w' hb => load_hash _ _ _ w' (rangeAt_row (h3.of_block ((drB hb).block _ h3.lt)))),
            owes_load 11 (some 125) [9] (.agg (arr8 32 leaf)) 24 (Go.Operand.tmp 8) (.pointer (some ⟨B, 0, none⟩)) (fun v => by kernel_rfl) (fun v => by kernel_rfl) (fun w' hb => load_hash _ _ _ w' (rangeAt_row (h0.of_block ((drB hb).block _ h0.lt)))),
            owes_move 12 (some 126) [9] (.int .i64 i) (Go.Operand.tmp 1) (fun v => by kernel_rfl) (fun v => by kernel_rfl),
            owes_move 13 (some 127) [9] (.int .i64 1048577) (Go.Operand.tmp 20) (fun v => by kernel_rfl) (fun v => by kernel_rfl),
            owes_move 14 (some 128) [9] (.slice O2 ps.length c3) (Go.Operand.tmp 19) (fun v => by kernel_rfl) (fun v => by kernel_rfl),
            owes_call 15 (some 129) [9, 10, 11, 12, 13, 14] (ev2) 17 #[Go.Operand.tmp 124, Go.Operand.tmp 125, Go.Operand.tmp 126, Go.Operand.tmp 127, Go.Operand.tmp 128] #[24, 24, 3, 3, 26] (fun v => by kernel_rfl) (fun _ _ => by kernel_rfl) (fun v w' hb ho => by
                exact ⟨#[.agg (arr8 32 rt), .agg (arr8 32 leaf), .int .i64 i, .int .i64 1048577, .slice O2 ps.length c3], by kernel_rfl, (HC1 w' (drB hb)).mono (fun _ _ h => h)⟩),
            owes_load 16 (some 130) [9] (.agg (arr8 32 rt)) 24 (Go.Operand.tmp 25) (.pointer (some ⟨R3, 0, none⟩)) (fun v => by kernel_rfl) (fun v => by kernel_rfl) (fun w' hb => load_hash _ _ _ w' (rangeAt_row (h3.of_block ((drB hb).block _ h3.lt)))),
            owes_load 17 (some 131) [9] (.agg (arr8 32 leaf)) 24 (Go.Operand.tmp 8) (.pointer (some ⟨B, 0, none⟩)) (fun v => by kernel_rfl) (fun v => by kernel_rfl) (fun w' hb => load_hash _ _ _ w' (rangeAt_row (h0.of_block ((drB hb).block _ h0.lt)))),
            owes_move 18 (some 132) [9] (.int .i64 i) (Go.Operand.tmp 1) (fun v => by kernel_rfl) (fun v => by kernel_rfl),
            owes_move 19 (some 133) [9] (.int .i64 1048577) (Go.Operand.tmp 20) (fun v => by kernel_rfl) (fun v => by kernel_rfl),
            owes_move 20 (some 134) [9] (.slice O2 ps.length c3) (Go.Operand.tmp 19) (fun v => by kernel_rfl) (fun v => by kernel_rfl),
            owes_call 21 (some 135) [9, 16, 17, 18, 19, 20] (.int .i64 cg) 18 #[Go.Operand.tmp 130, Go.Operand.tmp 131, Go.Operand.tmp 132, Go.Operand.tmp 133, Go.Operand.tmp 134] #[24, 24, 3, 3, 26] (fun v => by kernel_rfl) (fun _ _ => by kernel_rfl) (fun v w' hb ho => by
                exact ⟨#[.agg (arr8 32 rt), .agg (arr8 32 leaf), .int .i64 i, .int .i64 1048577, .slice O2 ps.length c3], by kernel_rfl, (HC2 w' (drB hb)).mono (fun _ _ h => h)⟩),
            owes_call 22 (some 136) [9, 15, 21] (.bool true) 13 #[Go.Operand.tmp 129, Go.Operand.tmp 135] #[33, 3] (fun v => by kernel_rfl) (fun _ _ => by kernel_rfl) (fun v w' hb ho => by
                exact ⟨#[ev2, .int .i64 cg], by kernel_rfl, (is_any E ev2 cg cg hrd2 w' (hE6.below (drB hb))).mono (fun _ _ h => ⟨h.1.trans (by simp), h.2⟩)⟩),
            owes_un 23 (some 137) [9, 22] (.bool false) Go.UnOp.not 4 (Go.Operand.tmp 136) (.bool true) (fun v => by kernel_rfl) (fun v => by kernel_rfl) (fun w => by kernel_rfl),
            owes_pick 24 (some 138) [9, 23] (.bool false) (Go.Operand.tmp 123) (Go.Operand.const (Go.Value.bool true)) (Go.Operand.tmp 137) false (fun v => by kernel_rfl) (fun v => by kernel_rfl) (fun v => by kernel_rfl), trivial⟩ ?_
          intro v w' hb' hall
          clear hall HC1 HC2
          have hbb := below_tr hbw (below_tr hb6 (drB hb'))
          clear hb' hb6 h0 h1 h2 h3 hx6 hE6
          simp only [putsL_k, putsL_nil, List.set_cons_zero, List.set_cons_succ]
          go_wp2_with fail
          go_roundw
          case rel => exact ⟨1, rfl, by omega, hbb⟩
          case measure => simp [intOf]
        · have hup := up_all E leaf i (hs.length : Int) [] none 0 wr (hE0.below x.bel) SlRead.nil_ (hk0.below x.bel)
          have hrow : wr.heap[B]? = some (.cells (arr8 32 leaf) 24 (0, 0)) := by rw [← HB.out]; exact rowIs_heap8 x.row
          have hcode := upGot_code leaf i (hs.length : Int) []
          have hcode2 := fun r => checkGot_code r leaf i (hs.length : Int) []
          have hdup := fun V (hb : Below wr.heap.size wr V) => dup_all leaf i (hs.length : Int) [] none 0 V ((SlRead.nil_).below hb)
          have hch := fun r V (hb : Below wr.heap.size wr V) => check_all E r leaf i (hs.length : Int) [] none 0 V (hE0.below (x.next hb).bel) ((SlRead.nil_).below hb) (hk0.below (x.next hb).bel)
          have hdch := fun r V (hb : Below wr.heap.size wr V) => dcheck_all r leaf i (hs.length : Int) [] none 0 V ((SlRead.nil_).below hb)
          obtain ⟨f, hf⟩ : ∃ f, f = (upGot leaf i (hs.length : Int) []).1 := ⟨_, rfl⟩
          obtain ⟨cc, hcc⟩ : ∃ cc, cc = (upGot leaf i (hs.length : Int) []).2 := ⟨_, rfl⟩
          rw [← hcc] at hcode
          rw [← hf, ← hcc] at hup
          simp only [← hf, ← hcc] at hdup
          have hrd := errOf_reads E cc (by omega)
          obtain ⟨ev, hev⟩ : ∃ ev, ev = errOf E cc := ⟨_, rfl⟩
          rw [← hev] at hrd hup
          have HDUP := Lib.hid hdup; have HCH := Lib.hid hch; have HDCH := Lib.hid hdch; have HCD := Lib.hid hcode2
          clear hdup hch hdch hf hcc hev hcode hcode2
          go_wp2_with (refine wpList_load_row rfl 24 _ rfl _ rfl _ _ _ _ hrow Tryd.underlying24 rfl (by kernel_rfl) ?_)
          refine hup.mono ?_
          rintro e V1 ⟨rfl, hb1⟩
          have hn1 := heap_alloc_new V1 (.cells (Array.replicate 32 (.int .u8 0)) 24)
          go_upto_region 25 with (first | (refine wpList_alloc_z rfl 24 rfl (Array.replicate 32 (.int .u8 0)) (fun _ => by kernel_rfl) ?_) | (refine wpList_store_row rfl 24 _ _ rfl V1.heap.size (arr8 32 f) rfl rfl _ _ hn1 (by kernel_rfl) (by simp) (arr8_one _ _) ?_))
          rw [alloc_setRow]
          clear hn1 hup hrow
          refine wp_world (fun V => Below wr.heap.size wr V ∧ V.rowIs V1.heap.size 24 32 (fun i => v8 (f i))) ?_ ?_
          · exact ⟨hb1.alloc hb1.size _, rowIs_new V1 (arr8 32 f) 24 V1.heap.size 32 _ rfl (by simp) (fun i hi => arr8_get 32 f i hi)⟩
          rintro V2 ⟨hb2, h1⟩
          generalize V1.heap.size = R1 at *
          have hrow : V2.heap[B]? = some (.cells (arr8 32 leaf) 24 (0, 0)) := by rw [← HB.out]; exact rowIs_heap8 (x.next hb2).row
          go_wp2_with (refine wpList_load_row rfl 24 _ rfl _ rfl _ _ _ _ hrow Tryd.underlying24 rfl (by kernel_rfl) ?_)
          refine (HDUP.out V2 hb2).mono ?_
          rintro e V3 ⟨rfl, hb3⟩
          have hn1 := heap_alloc_new V3 (.cells (Array.replicate 32 (.int .u8 0)) 24)
          go_upto_region 26 with (first | (refine wpList_alloc_z rfl 24 rfl (Array.replicate 32 (.int .u8 0)) (fun _ => by kernel_rfl) ?_) | (refine wpList_store_row rfl 24 _ _ rfl V3.heap.size (arr8 32 f) rfl rfl _ _ hn1 (by kernel_rfl) (by simp) (arr8_one _ _) ?_))
          rw [alloc_setRow]
          clear hn1 hrow
          refine wp_world (fun V => Below wr.heap.size wr V ∧ V.rowIs R1 24 32 (fun i => v8 (f i)) ∧ V.rowIs V3.heap.size 24 32 (fun i => v8 (f i))) ?_ ?_
          · exact ⟨(below_tr hb2 hb3).alloc (below_tr hb2 hb3).size _, (h1.of_block (hb3.block _ h1.lt)).alloc _, rowIs_new V3 (arr8 32 f) 24 V3.heap.size 32 _ rfl (by simp) (fun i hi => arr8_get 32 f i hi)⟩
          clear hb1 hb2 hb3 h1
          rintro V4 ⟨hb4, h1, h2⟩
          generalize V3.heap.size = R2 at *
          have hrt := drootn_any hs.length hs O c0 V4 (Nat.le_refl _) (hO.below hb4) hl2 (by omega)
          obtain ⟨rt, hrt'⟩ : ∃ rt, rt = rootOf hs := ⟨_, rfl⟩
          rw [← hrt'] at hrt
          clear hrt'
          go_wp2_with fail
          refine hrt.mono ?_
          rintro e V5 ⟨rfl, hb5⟩
          have hn1 := heap_alloc_new V5 (.cells (Array.replicate 32 (.int .u8 0)) 24)
          go_upto_region 27 with (first | (refine wpList_alloc_z rfl 24 rfl (Array.replicate 32 (.int .u8 0)) (fun _ => by kernel_rfl) ?_) | (refine wpList_store_row rfl 24 _ _ rfl V5.heap.size (arr8 32 rt) rfl rfl _ _ hn1 (by kernel_rfl) (by simp) (arr8_one _ _) ?_))
          rw [alloc_setRow]
          try simp only [Act.put, List.setIfInBounds_toArray, List.set_cons_zero, List.set_cons_succ]
          clear hn1 hrt
          refine wp_world (fun V => Below wr.heap.size wr V ∧ V.rowIs R1 24 32 (fun i => v8 (f i)) ∧ V.rowIs R2 24 32 (fun i => v8 (f i)) ∧ V.rowIs V5.heap.size 24 32 (fun i => v8 (rt i))) ?_ ?_
          · exact ⟨(below_tr hb4 hb5).alloc (below_tr hb4 hb5).size _, (h1.of_block (hb5.block _ h1.lt)).alloc _, (h2.of_block (hb5.block _ h2.lt)).alloc _, rowIs_new V5 (arr8 32 rt) 24 V5.heap.size 32 _ rfl (by simp) (fun i hi => arr8_get 32 rt i hi)⟩
          clear hb4 hb5 h1 h2
          rintro V6 ⟨hb6, h1, h2, h3⟩
          generalize V5.heap.size = R3 at *
          have hx6 := x.next hb6
          have h0 : V6.rowIs B 24 32 (fun i => v8 (leaf i)) := by rw [← HB.out]; exact hx6.row
          have hE6 := hE0.below hx6.bel
          have hrd2 := errOf_reads E (checkGot rt leaf i (hs.length : Int) []) (HCD.out rt)
          have HC1 := fun w' (hb : Below V6.heap.size V6 w') => HCH.out rt w' (below_tr hb6 hb)
          have HC2 := fun w' (hb : Below V6.heap.size V6 w') => HDCH.out rt w' (below_tr hb6 hb)
          obtain ⟨cg, hcg⟩ : ∃ cg, cg = checkGot rt leaf i (hs.length : Int) [] := ⟨_, rfl⟩
          obtain ⟨ev2, hev2⟩ : ∃ ev2, ev2 = errOf E (checkGot rt leaf i (hs.length : Int) []) := ⟨_, rfl⟩
          rw [← hev2, ← hcg] at hrd2
          simp only [← hev2] at HC1
          simp only [← hcg] at HC2
          clear hcg hev2 HDUP HCH HDCH HCD
          refine wp_region_spec [Sp.k 0 (some 114) [] (.agg (arr8 32 f)),
            Sp.k 1 (some 115) [] (.agg (arr8 32 f)),
            Sp.k 2 (some 116) [0, 1] (.bool false),
            Sp.k 3 (some 117) [2] (.bool false),
            Sp.k 4 (some 118) [3] (ev),
            Sp.k 5 (some 119) [3] (.int .i64 cc),
            Sp.k 6 (some 120) [3, 4, 5] (.bool true),
            Sp.k 7 (some 121) [3, 6] (.bool false),
            Sp.k 8 (some 122) [3, 7] (.bool false),
            Sp.k 9 (some 123) [8] (.bool false),
            Sp.k 10 (some 124) [9] (.agg (arr8 32 rt)),
            Sp.k 11 (some 125) [9] (.agg (arr8 32 leaf)),
            Sp.k 12 (some 126) [9] (.int .i64 i),
            Sp.k 13 (some 127) [9] (.int .i64 (hs.length : Int)),
            Sp.k 14 (some 128) [9] (.slice none 0 0),
            Sp.k 15 (some 129) [9, 10, 11, 12, 13, 14] (ev2),
            Sp.k 16 (some 130) [9] (.agg (arr8 32 rt)),
            Sp.k 17 (some 131) [9] (.agg (arr8 32 leaf)),
            Sp.k 18 (some 132) [9] (.int .i64 i),
            Sp.k 19 (some 133) [9] (.int .i64 (hs.length : Int)),
            Sp.k 20 (some 134) [9] (.slice none 0 0),
            Sp.k 21 (some 135) [9, 16, 17, 18, 19, 20] (.int .i64 cg),
            Sp.k 22 (some 136) [9, 15, 21] (.bool true),
            Sp.k 23 (some 137) [9, 22] (.bool false),
            Sp.k 24 (some 138) [9, 23] (.bool false)] (by kernel_rfl) (by kernel_rfl)
            ⟨owes_load 0 (some 114) [] (.agg (arr8 32 f)) 24 (Go.Operand.tmp 21) (.pointer (some ⟨R1, 0, none⟩)) (fun v => by kernel_rfl) (fun v => by kernel_rfl) (fun w' hb => load_hash _ _ _ w' (rangeAt_row (h1.of_block ((drB hb).block _ h1.lt)))),
            owes_load 1 (some 115) [] (.agg (arr8 32 f)) 24 (Go.Operand.tmp 23) (.pointer (some ⟨R2, 0, none⟩)) (fun v => by kernel_rfl) (fun v => by kernel_rfl) (fun w' hb => load_hash _ _ _ w' (rangeAt_row (h2.of_block ((drB hb).block _ h2.lt)))),
            owes_neq 2 (some 116) [0, 1] 24 (Go.Operand.tmp 114) (Go.Operand.tmp 115) 24 (arr8 32 f) (arr8 32 f) true (fun v => by kernel_rfl) (fun v => by kernel_rfl) (by kernel_rfl) (hash_same f f rfl),
            owes_move 3 (some 117) [2] (.bool false) (Go.Operand.tmp 116) (fun v => by kernel_rfl) (fun v => by kernel_rfl),
            owes_move 4 (some 118) [3] (ev) (Go.Operand.tmp 22) (fun v => by kernel_rfl) (fun v => by kernel_rfl),
            owes_move 5 (some 119) [3] (.int .i64 cc) (Go.Operand.tmp 24) (fun v => by kernel_rfl) (fun v => by kernel_rfl),
            owes_call 6 (some 120) [3, 4, 5] (.bool true) 13 #[Go.Operand.tmp 118, Go.Operand.tmp 119] #[33, 3] (fun v => by kernel_rfl) (fun _ _ => by kernel_rfl) (fun v w' hb ho => by
                exact ⟨#[ev, .int .i64 cc], by kernel_rfl, (is_any E ev cc cc hrd w' (hE6.below (drB hb))).mono (fun _ _ h => ⟨h.1.trans (by simp), h.2⟩)⟩),
            owes_un 7 (some 121) [3, 6] (.bool false) Go.UnOp.not 4 (Go.Operand.tmp 120) (.bool true) (fun v => by kernel_rfl) (fun v => by kernel_rfl) (fun w => by kernel_rfl),
            owes_pick 8 (some 122) [3, 7] (.bool false) (Go.Operand.tmp 117) (Go.Operand.const (Go.Value.bool true)) (Go.Operand.tmp 121) false (fun v => by kernel_rfl) (fun v => by kernel_rfl) (fun v => by kernel_rfl),
            owes_move 9 (some 123) [8] (.bool false) (Go.Operand.tmp 122) (fun v => by kernel_rfl) (fun v => by kernel_rfl),
            owes_load 10 (some 124) [9] (.agg (arr8 32 rt)) 24 (Go.Operand.tmp 25) (.pointer (some ⟨R3, 0, none⟩)) (fun v => by kernel_rfl) (fun v => by kernel_rfl) (fun w' hb => load_hash _ _ _ w' (rangeAt_row (h3.of_block ((drB hb).block _ h3.lt)))),
            owes_load 11 (some 125) [9] (.agg (arr8 32 leaf)) 24 (Go.Operand.tmp 8) (.pointer (some ⟨B, 0, none⟩)) (fun v => by kernel_rfl) (fun v => by kernel_rfl) (fun w' hb => load_hash _ _ _ w' (rangeAt_row (h0.of_block ((drB hb).block _ h0.lt)))),
            owes_move 12 (some 126) [9] (.int .i64 i) (Go.Operand.tmp 1) (fun v => by kernel_rfl) (fun v => by kernel_rfl),
            owes_move 13 (some 127) [9] (.int .i64 (hs.length : Int)) (Go.Operand.tmp 20) (fun v => by kernel_rfl) (fun v => by kernel_rfl),
            owes_move 14 (some 128) [9] (.slice none 0 0) (Go.Operand.tmp 19) (fun v => by kernel_rfl) (fun v => by kernel_rfl),
            owes_call 15 (some 129) [9, 10, 11, 12, 13, 14] (ev2) 17 #[Go.Operand.tmp 124, Go.Operand.tmp 125, Go.Operand.tmp 126, Go.Operand.tmp 127, Go.Operand.tmp 128] #[24, 24, 3, 3, 26] (fun v => by kernel_rfl) (fun _ _ => by kernel_rfl) (fun v w' hb ho => by
                exact ⟨#[.agg (arr8 32 rt), .agg (arr8 32 leaf), .int .i64 i, .int .i64 (hs.length : Int), .slice none 0 0], by kernel_rfl, (HC1 w' (drB hb)).mono (fun _ _ h => h)⟩),
            owes_load 16 (some 130) [9] (.agg (arr8 32 rt)) 24 (Go.Operand.tmp 25) (.pointer (some ⟨R3, 0, none⟩)) (fun v => by kernel_rfl) (fun v => by kernel_rfl) (fun w' hb => load_hash _ _ _ w' (rangeAt_row (h3.of_block ((drB hb).block _ h3.lt)))),
            owes_load 17 (some 131) [9] (.agg (arr8 32 leaf)) 24 (Go.Operand.tmp 8) (.pointer (some ⟨B, 0, none⟩)) (fun v => by kernel_rfl) (fun v => by kernel_rfl) (fun w' hb => load_hash _ _ _ w' (rangeAt_row (h0.of_block ((drB hb).block _ h0.lt)))),
            owes_move 18 (some 132) [9] (.int .i64 i) (Go.Operand.tmp 1) (fun v => by kernel_rfl) (fun v => by kernel_rfl),
            owes_move 19 (some 133) [9] (.int .i64 (hs.length : Int)) (Go.Operand.tmp 20) (fun v => by kernel_rfl) (fun v => by kernel_rfl),
            owes_move 20 (some 134) [9] (.slice none 0 0) (Go.Operand.tmp 19) (fun v => by kernel_rfl) (fun v => by kernel_rfl),
            owes_call 21 (some 135) [9, 16, 17, 18, 19, 20] (.int .i64 cg) 18 #[Go.Operand.tmp 130, Go.Operand.tmp 131, Go.Operand.tmp 132, Go.Operand.tmp 133, Go.Operand.tmp 134] #[24, 24, 3, 3, 26] (fun v => by kernel_rfl) (fun _ _ => by kernel_rfl) (fun v w' hb ho => by
                exact ⟨#[.agg (arr8 32 rt), .agg (arr8 32 leaf), .int .i64 i, .int .i64 (hs.length : Int), .slice none 0 0], by kernel_rfl, (HC2 w' (drB hb)).mono (fun _ _ h => h)⟩),
            owes_call 22 (some 136) [9, 15, 21] (.bool true) 13 #[Go.Operand.tmp 129, Go.Operand.tmp 135] #[33, 3] (fun v => by kernel_rfl) (fun _ _ => by kernel_rfl) (fun v w' hb ho => by
                exact ⟨#[ev2, .int .i64 cg], by kernel_rfl, (is_any E ev2 cg cg hrd2 w' (hE6.below (drB hb))).mono (fun _ _ h => ⟨h.1.trans (by simp), h.2⟩)⟩),
            owes_un 23 (some 137) [9, 22] (.bool false) Go.UnOp.not 4 (Go.Operand.tmp 136) (.bool true) (fun v => by kernel_rfl) (fun v => by kernel_rfl) (fun w => by kernel_rfl),
            owes_pick 24 (some 138) [9, 23] (.bool false) (Go.Operand.tmp 123) (Go.Operand.const (Go.Value.bool true)) (Go.Operand.tmp 137) false (fun v => by kernel_rfl) (fun v => by kernel_rfl) (fun v => by kernel_rfl), trivial⟩ ?_
          intro v w' hb' hall
          clear hall HC1 HC2
          have hbb := below_tr hbw (below_tr hb6 (drB hb'))
          clear hb' hb6 h0 h1 h2 h3 hx6 hE6
          simp only [putsL_k, putsL_nil, List.set_cons_zero, List.set_cons_succ]
          go_wp2_with fail
          go_roundw
          case rel => exact ⟨2, rfl, by omega, hbb⟩
          case measure => simp [intOf]
        · go_wp2_with fail
          go_ret
          exact ⟨rfl, x.bel⟩
    · obtain ⟨j, rfl⟩ : ∃ j : Nat, i = (j : Int) := ⟨i.toNat, by omega⟩
      go_wp2_with fail
      refine (path_any j hs O c0 W7 hO hl2 (by omega) (by omega) (hk0.below x.bel)).mono ?_
      rintro e W8 ⟨v1, rfl, ho1, hb8⟩
      have hl8 := pathOf_length hs.length j hs (Nat.le_refl _)
      have hl9 := turnsOf_short 20 j hs.length (by omega)
      have hbl : (pathOf j hs).length ≤ 4611686018427387904 := by omega
      clear hl8 hl9
      replace x := x.next hb8
      replace hO := hO.below hb8
      replace hP := hP.below hb8
      obtain ⟨A1, c1, rfl, _⟩ := ownsRow_form ho1
      have hS1 := SlRead.of_own32 ho1
      clear hb8 ho1
      go_wp2_with fail
      refine (dpath_any hs.length hs O c0 j W8 (Nat.le_refl _) (by omega) hO hl2 (by omega)).mono ?_
      rintro e W9 ⟨v2, rfl, ho2, hb9⟩
      replace x := x.next hb9
      replace hO := hO.below hb9
      replace hP := hP.below hb9
      replace hS1 := hS1.below hb9
      obtain ⟨A2, c2, rfl, _⟩ := ownsRow_form ho2
      have hS2 := SlRead.of_own32 ho2
      clear hb9 ho2
      generalize pathOf j hs = bs at *
      go_upto_region 14 with (fail)
      refine wp_region_text [Sp.k 0 (some 66) [] (.slice A1 bs.length c1),
        Sp.k 1 (some 67) [] (.slice A2 bs.length c2),
        Sp.k 2 (some 68) [0, 1] (.bool true),
        Sp.k 3 (some 69) [2] (.bool false),
        Sp.k 4 (some 70) [3] (.bool false),
        Sp.k 5 (some 71) [4] (.nilIface),
        Sp.k 6 (some 72) [4, 5] (.bool true),
        Sp.k 7 (some 73) [4] (.bool true),
        Sp.k 8 (some 74) [4, 6, 7] (.bool false),
        Sp.k 9 (some 75) [4, 8] (.bool false),
        Sp.k 10 (some 76) [9] (.bool false),
        Sp.k 11 (some 77) [10] (.bool true),
        Sp.k 12 (some 78) [10, 11] (.bool false),
        Sp.k 13 (some 79) [10, 12] (.bool false),
        Sp.k 14 (some 80) [13] (undef),
        Sp.k 15 (some 81) [13, 14] (undef),
        Sp.k 16 (some 82) [13, 15] (undef),
        Sp.k 17 (some 83) [10, 13, 16] (Go.Value.bool false),
        Sp.k 18 (some 84) [10, 17] (Go.Value.bool false)] (by kernel_rfl)
        ⟨owes_move 0 (some 66) [] (.slice A1 bs.length c1) (Go.Operand.tmp 14) (fun v => by kernel_rfl) (fun v => by kernel_rfl),
        owes_move 1 (some 67) [] (.slice A2 bs.length c2) (Go.Operand.tmp 16) (fun v => by kernel_rfl) (fun v => by kernel_rfl),
        owes_call 2 (some 68) [0, 1] (.bool true) 12 #[Go.Operand.tmp 66, Go.Operand.tmp 67] #[26, 26] (fun v => by kernel_rfl) (fun _ _ => by kernel_rfl) (fun v w' hb ho => by
            exact ⟨#[.slice A1 bs.length c1, .slice A2 bs.length c2], by kernel_rfl, (same_hashes bs A1 A2 c1 c2 w' (hS1.below hb) (hS2.below hb) hbl).mono (fun _ _ h => h)⟩),
        owes_un 3 (some 69) [2] (.bool false) Go.UnOp.not 4 (Go.Operand.tmp 68) (.bool true) (fun v => by kernel_rfl) (fun v => by kernel_rfl) (fun w => by kernel_rfl),
        owes_move 4 (some 70) [3] (.bool false) (Go.Operand.tmp 69) (fun v => by kernel_rfl) (fun v => by kernel_rfl),
        owes_move 5 (some 71) [4] (.nilIface) (Go.Operand.tmp 15) (fun v => by kernel_rfl) (fun v => by kernel_rfl),
        owes_bin 6 (some 72) [4, 5] (.bool true) Go.BinOp.eql 33 (Go.Operand.tmp 71) (Go.Operand.const Go.Value.nilIface) 33 (.nilIface) (Go.Value.nilIface) (fun v => by kernel_rfl) (fun v => by kernel_rfl) (fun w => by kernel_rfl),
        owes_move 7 (some 73) [4] (.bool true) (Go.Operand.tmp 17) (fun v => by kernel_rfl) (fun v => by kernel_rfl),
        owes_bin 8 (some 74) [4, 6, 7] (.bool false) Go.BinOp.neq 4 (Go.Operand.tmp 72) (Go.Operand.tmp 73) 4 (.bool true) (.bool true) (fun v => by kernel_rfl) (fun v => by kernel_rfl) (fun w => by kernel_rfl),
        owes_pick 9 (some 75) [4, 8] (.bool false) (Go.Operand.tmp 70) (Go.Operand.const (Go.Value.bool true)) (Go.Operand.tmp 74) false (fun v => by kernel_rfl) (fun v => by kernel_rfl) (fun v => by kernel_rfl),
        owes_move 10 (some 76) [9] (.bool false) (Go.Operand.tmp 75) (fun v => by kernel_rfl) (fun v => by kernel_rfl),
        owes_move 11 (some 77) [10] (.bool true) (Go.Operand.tmp 17) (fun v => by kernel_rfl) (fun v => by kernel_rfl),
        owes_un 12 (some 78) [10, 11] (.bool false) Go.UnOp.not 4 (Go.Operand.tmp 77) (.bool true) (fun v => by kernel_rfl) (fun v => by kernel_rfl) (fun w => by kernel_rfl),
        owes_move 13 (some 79) [10, 12] (.bool false) (Go.Operand.tmp 78) (fun v => by kernel_rfl) (fun v => by kernel_rfl),
        owes_skip 14 (some 80) [13] (fun v => by kernel_rfl),
        owes_skip 15 (some 81) [13, 14] (fun v => by kernel_rfl),
        owes_skip 16 (some 82) [13, 15] (fun v => by kernel_rfl),
        owes_pick 17 (some 83) [10, 13, 16] (Go.Value.bool false) (Go.Operand.tmp 79) (Go.Operand.tmp 82) (Go.Operand.const (Go.Value.bool false)) false (fun v => by kernel_rfl) (fun v => by kernel_rfl) (fun v => by kernel_rfl),
        owes_pick 18 (some 84) [10, 17] (Go.Value.bool false) (Go.Operand.tmp 76) (Go.Operand.const (Go.Value.bool true)) (Go.Operand.tmp 83) false (fun v => by kernel_rfl) (fun v => by kernel_rfl) (fun v => by kernel_rfl), trivial⟩ ?_
      intro v W10 hb' hall
      clear hall
      replace x := x.next hb'
      replace hO := hO.below hb'
      replace hP := hP.below hb'
      replace hS2 := hS2.below hb'
      clear hb' hS1
      simp only [putsL_k, putsL_nil, List.set_cons_zero, List.set_cons_succ]
      obtain ⟨i, hij⟩ : ∃ i : Int, i = (j : Int) := ⟨_, rfl⟩
      rw [← hij]
      clear hij hib
      go_wp2_with fail
      go_loopw [18] (fun p wr => ∃ k : Nat, p = .int .i64 k ∧ k ≤ 2 ∧ Below W10.heap.size W10 wr) (fun p _ => 2 - (intOf p).toNat)
      case atStart => exact ⟨0, rfl, by omega, Below.refl _ _⟩
      case round =>
        obtain ⟨k, rfl, hk2, hbw⟩ := hrel
        replace x := x.next hbw
        replace hO := hO.below hbw
        replace hP := hP.below hbw
        replace hS2 := hS2.below hbw
        rcases (show k = 0 ∨ k = 1 ∨ k = 2 by omega) with rfl | rfl | rfl
        · have hup := up_all E leaf i 1048577 ps O2 c3 wr (hE0.below x.bel) hP (hk0.below x.bel)
          have hrow : wr.heap[B]? = some (.cells (arr8 32 leaf) 24 (0, 0)) := by rw [← HB.out]; exact rowIs_heap8 x.row
          have hcode := upGot_code leaf i 1048577 ps
          have hcode2 := fun r => checkGot_code r leaf i 1048577 ps
          have hdup := fun V (hb : Below wr.heap.size wr V) => dup_all leaf i 1048577 ps O2 c3 V (hP.below hb)
          have hch := fun r V (hb : Below wr.heap.size wr V) => check_all E r leaf i 1048577 ps O2 c3 V (hE0.below (x.next hb).bel) (hP.below hb) (hk0.below (x.next hb).bel)
          have hdch := fun r V (hb : Below wr.heap.size wr V) => dcheck_all r leaf i 1048577 ps O2 c3 V (hP.below hb)
          obtain ⟨f, hf⟩ : ∃ f, f = (upGot leaf i 1048577 ps).1 := ⟨_, rfl⟩
          obtain ⟨cc, hcc⟩ : ∃ cc, cc = (upGot leaf i 1048577 ps).2 := ⟨_, rfl⟩
          rw [← hcc] at hcode
          rw [← hf, ← hcc] at hup
          simp only [← hf, ← hcc] at hdup
          have hrd := errOf_reads E cc (by omega)
          obtain ⟨ev, hev⟩ : ∃ ev, ev = errOf E cc := ⟨_, rfl⟩
          rw [← hev] at hrd hup
          have HDUP := Lib.hid hdup; have HCH := Lib.hid hch; have HDCH := Lib.hid hdch; have HCD := Lib.hid hcode2
          clear hdup hch hdch hf hcc hev hcode hcode2
          go_wp2_with (refine wpList_load_row rfl 24 _ rfl _ rfl _ _ _ _ hrow Tryd.underlying24 rfl (by kernel_rfl) ?_)
          refine hup.mono ?_
          rintro e V1 ⟨rfl, hb1⟩
          have hn1 := heap_alloc_new V1 (.cells (Array.replicate 32 (.int .u8 0)) 24)
          go_upto_region 25 with (first | (refine wpList_alloc_z rfl 24 rfl (Array.replicate 32 (.int .u8 0)) (fun _ => by kernel_rfl) ?_) | (refine wpList_store_row rfl 24 _ _ rfl V1.heap.size (arr8 32 f) rfl rfl _ _ hn1 (by kernel_rfl) (by simp) (arr8_one _ _) ?_))
          rw [alloc_setRow]
          clear hn1 hup hrow
          refine wp_world (fun V => Below wr.heap.size wr V ∧ V.rowIs V1.heap.size 24 32 (fun i => v8 (f i))) ?_ ?_
          · exact ⟨hb1.alloc hb1.size _, rowIs_new V1 (arr8 32 f) 24 V1.heap.size 32 _ rfl (by simp) (fun i hi => arr8_get 32 f i hi)⟩
          rintro V2 ⟨hb2, h1⟩
          generalize V1.heap.size = R1 at *
          have hrow : V2.heap[B]? = some (.cells (arr8 32 leaf) 24 (0, 0)) := by rw [← HB.out]; exact rowIs_heap8 (x.next hb2).row
          go_wp2_with (refine wpList_load_row rfl 24 _ rfl _ rfl _ _ _ _ hrow Tryd.underlying24 rfl (by kernel_rfl) ?_)
          refine (HDUP.out V2 hb2).mono ?_
          rintro e V3 ⟨rfl, hb3⟩
          have hn1 := heap_alloc_new V3 (.cells (Array.replicate 32 (.int .u8 0)) 24)
          go_upto_region 26 with (first | (refine wpList_alloc_z rfl 24 rfl (Array.replicate 32 (.int .u8 0)) (fun _ => by kernel_rfl) ?_) | (refine wpList_store_row rfl 24 _ _ rfl V3.heap.size (arr8 32 f) rfl rfl _ _ hn1 (by kernel_rfl) (by simp) (arr8_one _ _) ?_))
          rw [alloc_setRow]
          clear hn1 hrow
          refine wp_world (fun V => Below wr.heap.size wr V ∧ V.rowIs R1 24 32 (fun i => v8 (f i)) ∧ V.rowIs V3.heap.size 24 32 (fun i => v8 (f i))) ?_ ?_
          · exact ⟨(below_tr hb2 hb3).alloc (below_tr hb2 hb3).size _, (h1.of_block (hb3.block _ h1.lt)).alloc _, rowIs_new V3 (arr8 32 f) 24 V3.heap.size 32 _ rfl (by simp) (fun i hi => arr8_get 32 f i hi)⟩
          clear hb1 hb2 hb3 h1
          rintro V4 ⟨hb4, h1, h2⟩
          generalize V3.heap.size = R2 at *
          have hrt := drootn_any hs.length hs O c0 V4 (Nat.le_refl _) (hO.below hb4) hl2 (by omega)
          obtain ⟨rt, hrt'⟩ : ∃ rt, rt = rootOf hs := ⟨_, rfl⟩
          rw [← hrt'] at hrt
          clear hrt'
          go_wp2_with fail
          refine hrt.mono ?_
          rintro e V5 ⟨rfl, hb5⟩
          have hn1 := heap_alloc_new V5 (.cells (Array.replicate 32 (.int .u8 0)) 24)
          go_upto_region 27 with (first | (refine wpList_alloc_z rfl 24 rfl (Array.replicate 32 (.int .u8 0)) (fun _ => by kernel_rfl) ?_) | (refine wpList_store_row rfl 24 _ _ rfl V5.heap.size (arr8 32 rt) rfl rfl _ _ hn1 (by kernel_rfl) (by simp) (arr8_one _ _) ?_))
          rw [alloc_setRow]
          try simp only [Act.put, List.setIfInBounds_toArray, List.set_cons_zero, List.set_cons_succ]
          clear hn1 hrt
          refine wp_world (fun V => Below wr.heap.size wr V ∧ V.rowIs R1 24 32 (fun i => v8 (f i)) ∧ V.rowIs R2 24 32 (fun i => v8 (f i)) ∧ V.rowIs V5.heap.size 24 32 (fun i => v8 (rt i))) ?_ ?_
          · exact ⟨(below_tr hb4 hb5).alloc (below_tr hb4 hb5).size _, (h1.of_block (hb5.block _ h1.lt)).alloc _, (h2.of_block (hb5.block _ h2.lt)).alloc _, rowIs_new V5 (arr8 32 rt) 24 V5.heap.size 32 _ rfl (by simp) (fun i hi => arr8_get 32 rt i hi)⟩
          clear hb4 hb5 h1 h2
          rintro V6 ⟨hb6, h1, h2, h3⟩
          generalize V5.heap.size = R3 at *
          have hx6 := x.next hb6
          have h0 : V6.rowIs B 24 32 (fun i => v8 (leaf i)) := by rw [← HB.out]; exact hx6.row
          have hE6 := hE0.below hx6.bel
          have hrd2 := errOf_reads E (checkGot rt leaf i 1048577 ps) (HCD.out rt)
          have HC1 := fun w' (hb : Below V6.heap.size V6 w') => HCH.out rt w' (below_tr hb6 hb)
          have HC2 := fun w' (hb : Below V6.heap.size V6 w') => HDCH.out rt w' (below_tr hb6 hb)
          obtain ⟨cg, hcg⟩ : ∃ cg, cg = checkGot rt leaf i 1048577 ps := ⟨_, rfl⟩
          obtain ⟨ev2, hev2⟩ : ∃ ev2, ev2 = errOf E (checkGot rt leaf i 1048577 ps) := ⟨_, rfl⟩
          rw [← hev2, ← hcg] at hrd2
          simp only [← hev2] at HC1
          simp only [← hcg] at HC2
          clear hcg hev2 HDUP HCH HDCH HCD
          refine wp_region_spec [Sp.k 0 (some 114) [] (.agg (arr8 32 f)),
            Sp.k 1 (some 115) [] (.agg (arr8 32 f)),
            Sp.k 2 (some 116) [0, 1] (.bool false),
            Sp.k 3 (some 117) [2] (.bool false),
            Sp.k 4 (some 118) [3] (ev),
            Sp.k 5 (some 119) [3] (.int .i64 cc),
            Sp.k 6 (some 120) [3, 4, 5] (.bool true),
            Sp.k 7 (some 121) [3, 6] (.bool false),
            Sp.k 8 (some 122) [3, 7] (.bool false),
            Sp.k 9 (some 123) [8] (.bool false),
            Sp.k 10 (some 124) [9] (.agg (arr8 32 rt)),
            Sp.k 11 (some 125) [9] (.agg (arr8 32 leaf)),
            Sp.k 12 (some 126) [9] (.int .i64 i),
            Sp.k 13 (some 127) [9] (.int .i64 1048577),
            Sp.k 14 (some 128) [9] (.slice O2 ps.length c3),
            Sp.k 15 (some 129) [9, 10, 11, 12, 13, 14] (ev2),
            Sp.k 16 (some 130) [9] (.agg (arr8 32 rt)),
            Sp.k 17 (some 131) [9] (.agg (arr8 32 leaf)),
            Sp.k 18 (some 132) [9] (.int .i64 i),
            Sp.k 19 (some 133) [9] (.int .i64 1048577),
            Sp.k 20 (some 134) [9] (.slice O2 ps.length c3),
            Sp.k 21 (some 135) [9, 16, 17, 18, 19, 20] (.int .i64 cg),
            Sp.k 22 (some 136) [9, 15, 21] (.bool true),
            Sp.k 23 (some 137) [9, 22] (.bool false),
            Sp.k 24 (some 138) [9, 23] (.bool false)] (by kernel_rfl) (by kernel_rfl)
            ⟨owes_load 0 (some 114) [] (.agg (arr8 32 f)) 24 (Go.Operand.tmp 21) (.pointer (some ⟨R1, 0, none⟩)) (fun v => by kernel_rfl) (fun v => by kernel_rfl) (fun w' hb => load_hash _ _ _ w' (rangeAt_row (h1.of_block ((drB hb).block _ h1.lt)))),
            owes_load 1 (some 115) [] (.agg (arr8 32 f)) 24 (Go.Operand.tmp 23) (.pointer (some ⟨R2, 0, none⟩)) (fun v => by kernel_rfl) (fun v => by kernel_rfl) (fun w' hb => load_hash _ _ _ w' (rangeAt_row (h2.of_block ((drB hb).block _ h2.lt)))),
            owes_neq 2 (some 116) [0, 1] 24 (Go.Operand.tmp 114) (Go.Operand.tmp 115) 24 (arr8 32 f) (arr8 32 f) true (fun v => by kernel_rfl) (fun v => by kernel_rfl) (by kernel_rfl) (hash_same f f rfl),
            owes_move 3 (some 117) [2] (.bool false) (Go.Operand.tmp 116) (fun v => by kernel_rfl) (fun v => by kernel_rfl),
            owes_move 4 (some 118) [3] (ev) (Go.Operand.tmp 22) (fun v => by kernel_rfl) (fun v => by kernel_rfl),
            owes_move 5 (some 119) [3] (.int .i64 cc) (Go.Operand.tmp 24) (fun v => by kernel_rfl) (fun v => by kernel_rfl),
            owes_call 6 (some 120) [3, 4, 5] (.bool true) 13 #[Go.Operand.tmp 118, Go.Operand.tmp 119] #[33, 3] (fun v => by kernel_rfl) (fun _ _ => by kernel_rfl) (fun v w' hb ho => by
                exact ⟨#[ev, .int .i64 cc], by kernel_rfl, (is_any E ev cc cc hrd w' (hE6.below (drB hb))).mono (fun _ _ h => ⟨h.1.trans (by simp), h.2⟩)⟩),
            owes_un 7 (some 121) [3, 6] (.bool false) Go.UnOp.not 4 (Go.Operand.tmp 120) (.bool true) (fun v => by kernel_rfl) (fun v => by kernel_rfl) (fun w => by kernel_rfl),
            owes_pick 8 (some 122) [3, 7] (.bool false) (Go.Operand.tmp 117) (Go.Operand.const (Go.Value.bool true)) (Go.Operand.tmp 121) false (fun v => by kernel_rfl) (fun v => by kernel_rfl) (fun v => by kernel_rfl),
            owes_move 9 (some 123) [8] (.bool false) (Go.Operand.tmp 122) (fun v => by kernel_rfl) (fun v => by kernel_rfl),
            owes_load 10 (some 124) [9] (.agg (arr8 32 rt)) 24 (Go.Operand.tmp 25) (.pointer (some ⟨R3, 0, none⟩)) (fun v => by kernel_rfl) (fun v => by kernel_rfl) (fun w' hb => load_hash _ _ _ w' (rangeAt_row (h3.of_block ((drB hb).block _ h3.lt)))),
            owes_load 11 (some 125) [9] (.agg (arr8 32 leaf)) 24 (Go.Operand.tmp 8) (.pointer (some ⟨B, 0, none⟩)) (fun v => by kernel_rfl) (fun v => by kernel_rfl) (fun w' hb => load_hash _ _ _ w' (rangeAt_row (h0.of_block ((drB hb).block _ h0.lt)))),
            owes_move 12 (some 126) [9] (.int .i64 i) (Go.Operand.tmp 1) (fun v => by kernel_rfl) (fun v => by kernel_rfl),
            owes_move 13 (some 127) [9] (.int .i64 1048577) (Go.Operand.tmp 20) (fun v => by kernel_rfl) (fun v => by kernel_rfl),
            owes_move 14 (some 128) [9] (.slice O2 ps.length c3) (Go.Operand.tmp 19) (fun v => by kernel_rfl) (fun v => by kernel_rfl),
            owes_call 15 (some 129) [9, 10, 11, 12, 13, 14] (ev2) 17 #[Go.Operand.tmp 124, Go.Operand.tmp 125, Go.Operand.tmp 126, Go.Operand.tmp 127, Go.Operand.tmp 128] #[24, 24, 3, 3, 26] (fun v => by kernel_rfl) (fun _ _ => by kernel_rfl) (fun v w' hb ho => by
                exact ⟨#[.agg (arr8 32 rt), .agg (arr8 32 leaf), .int .i64 i, .int .i64 1048577, .slice O2 ps.length c3], by kernel_rfl, (HC1 w' (drB hb)).mono (fun _ _ h => h)⟩),
            owes_load 16 (some 130) [9] (.agg (arr8 32 rt)) 24 (Go.Operand.tmp 25) (.pointer (some ⟨R3, 0, none⟩)) (fun v => by kernel_rfl) (fun v => by kernel_rfl) (fun w' hb => load_hash _ _ _ w' (rangeAt_row (h3.of_block ((drB hb).block _ h3.lt)))),
            owes_load 17 (some 131) [9] (.agg (arr8 32 leaf)) 24 (Go.Operand.tmp 8) (.pointer (some ⟨B, 0, none⟩)) (fun v => by kernel_rfl) (fun v => by kernel_rfl) (fun w' hb => load_hash _ _ _ w' (rangeAt_row (h0.of_block ((drB hb).block _ h0.lt)))),
            owes_move 18 (some 132) [9] (.int .i64 i) (Go.Operand.tmp 1) (fun v => by kernel_rfl) (fun v => by kernel_rfl),
            owes_move 19 (some 133) [9] (.int .i64 1048577) (Go.Operand.tmp 20) (fun v => by kernel_rfl) (fun v => by kernel_rfl),
            owes_move 20 (some 134) [9] (.slice O2 ps.length c3) (Go.Operand.tmp 19) (fun v => by kernel_rfl) (fun v => by kernel_rfl),
            owes_call 21 (some 135) [9, 16, 17, 18, 19, 20] (.int .i64 cg) 18 #[Go.Operand.tmp 130, Go.Operand.tmp 131, Go.Operand.tmp 132, Go.Operand.tmp 133, Go.Operand.tmp 134] #[24, 24, 3, 3, 26] (fun v => by kernel_rfl) (fun _ _ => by kernel_rfl) (fun v w' hb ho => by
                exact ⟨#[.agg (arr8 32 rt), .agg (arr8 32 leaf), .int .i64 i, .int .i64 1048577, .slice O2 ps.length c3], by kernel_rfl, (HC2 w' (drB hb)).mono (fun _ _ h => h)⟩),
            owes_call 22 (some 136) [9, 15, 21] (.bool true) 13 #[Go.Operand.tmp 129, Go.Operand.tmp 135] #[33, 3] (fun v => by kernel_rfl) (fun _ _ => by kernel_rfl) (fun v w' hb ho => by
                exact ⟨#[ev2, .int .i64 cg], by kernel_rfl, (is_any E ev2 cg cg hrd2 w' (hE6.below (drB hb))).mono (fun _ _ h => ⟨h.1.trans (by simp), h.2⟩)⟩),
            owes_un 23 (some 137) [9, 22] (.bool false) Go.UnOp.not 4 (Go.Operand.tmp 136) (.bool true) (fun v => by kernel_rfl) (fun v => by kernel_rfl) (fun w => by kernel_rfl),
            owes_pick 24 (some 138) [9, 23] (.bool false) (Go.Operand.tmp 123) (Go.Operand.const (Go.Value.bool true)) (Go.Operand.tmp 137) false (fun v => by kernel_rfl) (fun v => by kernel_rfl) (fun v => by kernel_rfl), trivial⟩ ?_
          intro v w' hb' hall
          clear hall HC1 HC2
          have hbb := below_tr hbw (below_tr hb6 (drB hb'))
          clear hb' hb6 h0 h1 h2 h3 hx6 hE6
          simp only [putsL_k, putsL_nil, List.set_cons_zero, List.set_cons_succ]
          go_wp2_with fail
          go_roundw
          case rel => exact ⟨1, rfl, by omega, hbb⟩
          case measure => simp [intOf]
        · have hup := up_all E leaf i (hs.length : Int) bs A2 c2 wr (hE0.below x.bel) hS2 (hk0.below x.bel)
          have hrow : wr.heap[B]? = some (.cells (arr8 32 leaf) 24 (0, 0)) := by rw [← HB.out]; exact rowIs_heap8 x.row
          have hcode := upGot_code leaf i (hs.length : Int) bs
          have hcode2 := fun r => checkGot_code r leaf i (hs.length : Int) bs
          have hdup := fun V (hb : Below wr.heap.size wr V) => dup_all leaf i (hs.length : Int) bs A2 c2 V (hS2.below hb)
          have hch := fun r V (hb : Below wr.heap.size wr V) => check_all E r leaf i (hs.length : Int) bs A2 c2 V (hE0.below (x.next hb).bel) (hS2.below hb) (hk0.below (x.next hb).bel)
          have hdch := fun r V (hb : Below wr.heap.size wr V) => dcheck_all r leaf i (hs.length : Int) bs A2 c2 V (hS2.below hb)
          obtain ⟨f, hf⟩ : ∃ f, f = (upGot leaf i (hs.length : Int) bs).1 := ⟨_, rfl⟩
          obtain ⟨cc, hcc⟩ : ∃ cc, cc = (upGot leaf i (hs.length : Int) bs).2 := ⟨_, rfl⟩
          rw [← hcc] at hcode
          rw [← hf, ← hcc] at hup
          simp only [← hf, ← hcc] at hdup
          have hrd := errOf_reads E cc (by omega)
          obtain ⟨ev, hev⟩ : ∃ ev, ev = errOf E cc := ⟨_, rfl⟩
          rw [← hev] at hrd hup
          have HDUP := Lib.hid hdup; have HCH := Lib.hid hch; have HDCH := Lib.hid hdch; have HCD := Lib.hid hcode2
          clear hdup hch hdch hf hcc hev hcode hcode2
          go_wp2_with (refine wpList_load_row rfl 24 _ rfl _ rfl _ _ _ _ hrow Tryd.underlying24 rfl (by kernel_rfl) ?_)
          refine hup.mono ?_
          rintro e V1 ⟨rfl, hb1⟩
          have hn1 := heap_alloc_new V1 (.cells (Array.replicate 32 (.int .u8 0)) 24)
          go_upto_region 25 with (first | (refine wpList_alloc_z rfl 24 rfl (Array.replicate 32 (.int .u8 0)) (fun _ => by kernel_rfl) ?_) | (refine wpList_store_row rfl 24 _ _ rfl V1.heap.size (arr8 32 f) rfl rfl _ _ hn1 (by kernel_rfl) (by simp) (arr8_one _ _) ?_))
          rw [alloc_setRow]
          clear hn1 hup hrow
          refine wp_world (fun V => Below wr.heap.size wr V ∧ V.rowIs V1.heap.size 24 32 (fun i => v8 (f i))) ?_ ?_
          · exact ⟨hb1.alloc hb1.size _, rowIs_new V1 (arr8 32 f) 24 V1.heap.size 32 _ rfl (by simp) (fun i hi => arr8_get 32 f i hi)⟩
          rintro V2 ⟨hb2, h1⟩
          generalize V1.heap.size = R1 at *
          have hrow : V2.heap[B]? = some (.cells (arr8 32 leaf) 24 (0, 0)) := by rw [← HB.out]; exact rowIs_heap8 (x.next hb2).row
          go_wp2_with (refine wpList_load_row rfl 24 _ rfl _ rfl _ _ _ _ hrow Tryd.underlying24 rfl (by kernel_rfl) ?_)
          refine (HDUP.out V2 hb2).mono ?_
          rintro e V3 ⟨rfl, hb3⟩
          have hn1 := heap_alloc_new V3 (.cells (Array.replicate 32 (.int .u8 0)) 24)
          go_upto_region 26 with (first | (refine wpList_alloc_z rfl 24 rfl (Array.replicate 32 (.int .u8 0)) (fun _ => by kernel_rfl) ?_) | (refine wpList_store_row rfl 24 _ _ rfl V3.heap.size (arr8 32 f) rfl rfl _ _ hn1 (by kernel_rfl) (by simp) (arr8_one _ _) ?_))
          rw [alloc_setRow]
          clear hn1 hrow
          refine wp_world (fun V => Below wr.heap.size wr V ∧ V.rowIs R1 24 32 (fun i => v8 (f i)) ∧ V.rowIs V3.heap.size 24 32 (fun i => v8 (f i))) ?_ ?_
          · exact ⟨(below_tr hb2 hb3).alloc (below_tr hb2 hb3).size _, (h1.of_block (hb3.block _ h1.lt)).alloc _, rowIs_new V3 (arr8 32 f) 24 V3.heap.size 32 _ rfl (by simp) (fun i hi => arr8_get 32 f i hi)⟩
          clear hb1 hb2 hb3 h1
          rintro V4 ⟨hb4, h1, h2⟩
          generalize V3.heap.size = R2 at *
          have hrt := drootn_any hs.length hs O c0 V4 (Nat.le_refl _) (hO.below hb4) hl2 (by omega)
          obtain ⟨rt, hrt'⟩ : ∃ rt, rt = rootOf hs := ⟨_, rfl⟩
          rw [← hrt'] at hrt
          clear hrt'
          go_wp2_with fail
          refine hrt.mono ?_
          rintro e V5 ⟨rfl, hb5⟩
          have hn1 := heap_alloc_new V5 (.cells (Array.replicate 32 (.int .u8 0)) 24)
          go_upto_region 27 with (first | (refine wpList_alloc_z rfl 24 rfl (Array.replicate 32 (.int .u8 0)) (fun _ => by kernel_rfl) ?_) | (refine wpList_store_row rfl 24 _ _ rfl V5.heap.size (arr8 32 rt) rfl rfl _ _ hn1 (by kernel_rfl) (by simp) (arr8_one _ _) ?_))
          rw [alloc_setRow]
          try simp only [Act.put, List.setIfInBounds_toArray, List.set_cons_zero, List.set_cons_succ]
          clear hn1 hrt
          refine wp_world (fun V => Below wr.heap.size wr V ∧ V.rowIs R1 24 32 (fun i => v8 (f i)) ∧ V.rowIs R2 24 32 (fun i => v8 (f i)) ∧ V.rowIs V5.heap.size 24 32 (fun i => v8 (rt i))) ?_ ?_
          · exact ⟨(below_tr hb4 hb5).alloc (below_tr hb4 hb5).size _, (h1.of_block (hb5.block _ h1.lt)).alloc _, (h2.of_block (hb5.block _ h2.lt)).alloc _, rowIs_new V5 (arr8 32 rt) 24 V5.heap.size 32 _ rfl (by simp) (fun i hi => arr8_get 32 rt i hi)⟩
          clear hb4 hb5 h1 h2
          rintro V6 ⟨hb6, h1, h2, h3⟩
          generalize V5.heap.size = R3 at *
          have hx6 := x.next hb6
          have h0 : V6.rowIs B 24 32 (fun i => v8 (leaf i)) := by rw [← HB.out]; exact hx6.row
          have hE6 := hE0.below hx6.bel
          have hrd2 := errOf_reads E (checkGot rt leaf i (hs.length : Int) bs) (HCD.out rt)
          have HC1 := fun w' (hb : Below V6.heap.size V6 w') => HCH.out rt w' (below_tr hb6 hb)
          have HC2 := fun w' (hb : Below V6.heap.size V6 w') => HDCH.out rt w' (below_tr hb6 hb)
          obtain ⟨cg, hcg⟩ : ∃ cg, cg = checkGot rt leaf i (hs.length : Int) bs := ⟨_, rfl⟩
          obtain ⟨ev2, hev2⟩ : ∃ ev2, ev2 = errOf E (checkGot rt leaf i (hs.length : Int) bs) := ⟨_, rfl⟩
          rw [← hev2, ← hcg] at hrd2
          simp only [← hev2] at HC1
          simp only [← hcg] at HC2
          clear hcg hev2 HDUP HCH HDCH HCD
          refine wp_region_spec [Sp.k 0 (some 114) [] (.agg (arr8 32 f)),
            Sp.k 1 (some 115) [] (.agg (arr8 32 f)),
            Sp.k 2 (some 116) [0, 1] (.bool false),
            Sp.k 3 (some 117) [2] (.bool false),
            Sp.k 4 (some 118) [3] (ev),
            Sp.k 5 (some 119) [3] (.int .i64 cc),
            Sp.k 6 (some 120) [3, 4, 5] (.bool true),
            Sp.k 7 (some 121) [3, 6] (.bool false),
            Sp.k 8 (some 122) [3, 7] (.bool false),
            Sp.k 9 (some 123) [8] (.bool false),
            Sp.k 10 (some 124) [9] (.agg (arr8 32 rt)),
            Sp.k 11 (some 125) [9] (.agg (arr8 32 leaf)),
            Sp.k 12 (some 126) [9] (.int .i64 i),
            Sp.k 13 (some 127) [9] (.int .i64 (hs.length : Int)),
            Sp.k 14 (some 128) [9] (.slice A2 bs.length c2),
            Sp.k 15 (some 129) [9, 10, 11, 12, 13, 14] (ev2),
            Sp.k 16 (some 130) [9] (.agg (arr8 32 rt)),
            Sp.k 17 (some 131) [9] (.agg (arr8 32 leaf)),
            Sp.k 18 (some 132) [9] (.int .i64 i),
            Sp.k 19 (some 133) [9] (.int .i64 (hs.length : Int)),
            Sp.k 20 (some 134) [9] (.slice A2 bs.length c2),
            Sp.k 21 (some 135) [9, 16, 17, 18, 19, 20] (.int .i64 cg),
            Sp.k 22 (some 136) [9, 15, 21] (.bool true),
            Sp.k 23 (some 137) [9, 22] (.bool false),
            Sp.k 24 (some 138) [9, 23] (.bool false)] (by kernel_rfl) (by kernel_rfl)
            ⟨owes_load 0 (some 114) [] (.agg (arr8 32 f)) 24 (Go.Operand.tmp 21) (.pointer (some ⟨R1, 0, none⟩)) (fun v => by kernel_rfl) (fun v => by kernel_rfl) (fun w' hb => load_hash _ _ _ w' (rangeAt_row (h1.of_block ((drB hb).block _ h1.lt)))),
            owes_load 1 (some 115) [] (.agg (arr8 32 f)) 24 (Go.Operand.tmp 23) (.pointer (some ⟨R2, 0, none⟩)) (fun v => by kernel_rfl) (fun v => by kernel_rfl) (fun w' hb => load_hash _ _ _ w' (rangeAt_row (h2.of_block ((drB hb).block _ h2.lt)))),
            owes_neq 2 (some 116) [0, 1] 24 (Go.Operand.tmp 114) (Go.Operand.tmp 115) 24 (arr8 32 f) (arr8 32 f) true (fun v => by kernel_rfl) (fun v => by kernel_rfl) (by kernel_rfl) (hash_same f f rfl),
            owes_move 3 (some 117) [2] (.bool false) (Go.Operand.tmp 116) (fun v => by kernel_rfl) (fun v => by kernel_rfl),
            owes_move 4 (some 118) [3] (ev) (Go.Operand.tmp 22) (fun v => by kernel_rfl) (fun v => by kernel_rfl),
            owes_move 5 (some 119) [3] (.int .i64 cc) (Go.Operand.tmp 24) (fun v => by kernel_rfl) (fun v => by kernel_rfl),
            owes_call 6 (some 120) [3, 4, 5] (.bool true) 13 #[Go.Operand.tmp 118, Go.Operand.tmp 119] #[33, 3] (fun v => by kernel_rfl) (fun _ _ => by kernel_rfl) (fun v w' hb ho => by
                exact ⟨#[ev, .int .i64 cc], by kernel_rfl, (is_any E ev cc cc hrd w' (hE6.below (drB hb))).mono (fun _ _ h => ⟨h.1.trans (by simp), h.2⟩)⟩),
            owes_un 7 (some 121) [3, 6] (.bool false) Go.UnOp.not 4 (Go.Operand.tmp 120) (.bool true) (fun v => by kernel_rfl) (fun v => by kernel_rfl) (fun w => by kernel_rfl),
            owes_pick 8 (some 122) [3, 7] (.bool false) (Go.Operand.tmp 117) (Go.Operand.const (Go.Value.bool true)) (Go.Operand.tmp 121) false (fun v => by kernel_rfl) (fun v => by kernel_rfl) (fun v => by kernel_rfl),
            owes_move 9 (some 123) [8] (.bool false) (Go.Operand.tmp 122) (fun v => by kernel_rfl) (fun v => by kernel_rfl),
            owes_load 10 (some 124) [9] (.agg (arr8 32 rt)) 24 (Go.Operand.tmp 25) (.pointer (some ⟨R3, 0, none⟩)) (fun v => by kernel_rfl) (fun v => by kernel_rfl) (fun w' hb => load_hash _ _ _ w' (rangeAt_row (h3.of_block ((drB hb).block _ h3.lt)))),
            owes_load 11 (some 125) [9] (.agg (arr8 32 leaf)) 24 (Go.Operand.tmp 8) (.pointer (some ⟨B, 0, none⟩)) (fun v => by kernel_rfl) (fun v => by kernel_rfl) (fun w' hb => load_hash _ _ _ w' (rangeAt_row (h0.of_block ((drB hb).block _ h0.lt)))),
            owes_move 12 (some 126) [9] (.int .i64 i) (Go.Operand.tmp 1) (fun v => by kernel_rfl) (fun v => by kernel_rfl),
            owes_move 13 (some 127) [9] (.int .i64 (hs.length : Int)) (Go.Operand.tmp 20) (fun v => by kernel_rfl) (fun v => by kernel_rfl),
            owes_move 14 (some 128) [9] (.slice A2 bs.length c2) (Go.Operand.tmp 19) (fun v => by kernel_rfl) (fun v => by kernel_rfl),
            owes_call 15 (some 129) [9, 10, 11, 12, 13, 14] (ev2) 17 #[Go.Operand.tmp 124, Go.Operand.tmp 125, Go.Operand.tmp 126, Go.Operand.tmp 127, Go.Operand.tmp 128] #[24, 24, 3, 3, 26] (fun v => by kernel_rfl) (fun _ _ => by kernel_rfl) (fun v w' hb ho => by
                exact ⟨#[.agg (arr8 32 rt), .agg (arr8 32 leaf), .int .i64 i, .int .i64 (hs.length : Int), .slice A2 bs.length c2], by kernel_rfl, (HC1 w' (drB hb)).mono (fun _ _ h => h)⟩),
            owes_load 16 (some 130) [9] (.agg (arr8 32 rt)) 24 (Go.Operand.tmp 25) (.pointer (some ⟨R3, 0, none⟩)) (fun v => by kernel_rfl) (fun v => by kernel_rfl) (fun w' hb => load_hash _ _ _ w' (rangeAt_row (h3.of_block ((drB hb).block _ h3.lt)))),
            owes_load 17 (some 131) [9] (.agg (arr8 32 leaf)) 24 (Go.Operand.tmp 8) (.pointer (some ⟨B, 0, none⟩)) (fun v => by kernel_rfl) (fun v => by kernel_rfl) (fun w' hb => load_hash _ _ _ w' (rangeAt_row (h0.of_block ((drB hb).block _ h0.lt)))),
            owes_move 18 (some 132) [9] (.int .i64 i) (Go.Operand.tmp 1) (fun v => by kernel_rfl) (fun v => by kernel_rfl),
            owes_move 19 (some 133) [9] (.int .i64 (hs.length : Int)) (Go.Operand.tmp 20) (fun v => by kernel_rfl) (fun v => by kernel_rfl),
            owes_move 20 (some 134) [9] (.slice A2 bs.length c2) (Go.Operand.tmp 19) (fun v => by kernel_rfl) (fun v => by kernel_rfl),
            owes_call 21 (some 135) [9, 16, 17, 18, 19, 20] (.int .i64 cg) 18 #[Go.Operand.tmp 130, Go.Operand.tmp 131, Go.Operand.tmp 132, Go.Operand.tmp 133, Go.Operand.tmp 134] #[24, 24, 3, 3, 26] (fun v => by kernel_rfl) (fun _ _ => by kernel_rfl) (fun v w' hb ho => by
                exact ⟨#[.agg (arr8 32 rt), .agg (arr8 32 leaf), .int .i64 i, .int .i64 (hs.length : Int), .slice A2 bs.length c2], by kernel_rfl, (HC2 w' (drB hb)).mono (fun _ _ h => h)⟩),
            owes_call 22 (some 136) [9, 15, 21] (.bool true) 13 #[Go.Operand.tmp 129, Go.Operand.tmp 135] #[33, 3] (fun v => by kernel_rfl) (fun _ _ => by kernel_rfl) (fun v w' hb ho => by
                exact ⟨#[ev2, .int .i64 cg], by kernel_rfl, (is_any E ev2 cg cg hrd2 w' (hE6.below (drB hb))).mono (fun _ _ h => ⟨h.1.trans (by simp), h.2⟩)⟩),
            owes_un 23 (some 137) [9, 22] (.bool false) Go.UnOp.not 4 (Go.Operand.tmp 136) (.bool true) (fun v => by kernel_rfl) (fun v => by kernel_rfl) (fun w => by kernel_rfl),
            owes_pick 24 (some 138) [9, 23] (.bool false) (Go.Operand.tmp 123) (Go.Operand.const (Go.Value.bool true)) (Go.Operand.tmp 137) false (fun v => by kernel_rfl) (fun v => by kernel_rfl) (fun v => by kernel_rfl), trivial⟩ ?_
          intro v w' hb' hall
          clear hall HC1 HC2
          have hbb := below_tr hbw (below_tr hb6 (drB hb'))
          clear hb' hb6 h0 h1 h2 h3 hx6 hE6
          simp only [putsL_k, putsL_nil, List.set_cons_zero, List.set_cons_succ]
          go_wp2_with fail
          go_roundw
          case rel => exact ⟨2, rfl, by omega, hbb⟩
          case measure => simp [intOf]
        · go_wp2_with fail
          go_ret
          exact ⟨rfl, x.bel⟩
  · have h51 : (nz == 50) = false := by simpa using h50
    have h52 : decide (nz = 50) = false := by simpa using h50
    go_upto_region 12 with (fail)
    by_cases hib : i < 0 ∨ (hs.length : Int) ≤ i
    · go_wp2_with fail
      refine (path_bad E i hs O c0 W7 (hE0.below x.bel) hib).mono ?_
      rintro e W8 ⟨rfl, hb8⟩
      go_wp2_with fail
      refine (dpath_bad i hs O c0 W8 hib).mono ?_
      rintro e W9 ⟨rfl, hb9⟩
      have hb79 := below_tr hb8 hb9
      replace x := x.next hb79
      replace hO := hO.below hb79
      replace hP := hP.below hb79
      clear hb8 hb9 hb79
      have hE := hE0.below x.bel
      go_upto_region 14 with (fail)
      refine wp_region_text [Sp.k 0 (some 66) [] (.slice none 0 0),
        Sp.k 1 (some 67) [] (.slice none 0 0),
        Sp.k 2 (some 68) [0, 1] (.bool true),
        Sp.k 3 (some 69) [2] (.bool false),
        Sp.k 4 (some 70) [3] (.bool false),
        Sp.k 5 (some 71) [4] (errV (E 1)),
        Sp.k 6 (some 72) [4, 5] (.bool false),
        Sp.k 7 (some 73) [4] (.bool false),
        Sp.k 8 (some 74) [4, 6, 7] (.bool false),
        Sp.k 9 (some 75) [4, 8] (.bool false),
        Sp.k 10 (some 76) [9] (.bool false),
        Sp.k 11 (some 77) [10] (.bool false),
        Sp.k 12 (some 78) [10, 11] (.bool true),
        Sp.k 13 (some 79) [10, 12] (.bool true),
        Sp.k 14 (some 80) [13] (errV (E 1)),
        Sp.k 15 (some 81) [13, 14] (.bool true),
        Sp.k 16 (some 82) [13, 15] (.bool false),
        Sp.k 17 (some 83) [10, 13, 16] (.bool false),
        Sp.k 18 (some 84) [10, 17] (.bool false)] (by kernel_rfl)
        ⟨owes_move 0 (some 66) [] (.slice none 0 0) (Go.Operand.tmp 14) (fun v => by kernel_rfl) (fun v => by kernel_rfl),
        owes_move 1 (some 67) [] (.slice none 0 0) (Go.Operand.tmp 16) (fun v => by kernel_rfl) (fun v => by kernel_rfl),
        owes_call 2 (some 68) [0, 1] (.bool true) 12 #[Go.Operand.tmp 66, Go.Operand.tmp 67] #[26, 26] (fun v => by kernel_rfl) (fun _ _ => by kernel_rfl) (fun v w' hb ho => by
            exact ⟨#[.slice none 0 0, .slice none 0 0], by kernel_rfl, (same_hashes [] none none 0 0 w' SlRead.nil_ SlRead.nil_ (by simp)).mono (fun _ _ h => h)⟩),
        owes_un 3 (some 69) [2] (.bool false) Go.UnOp.not 4 (Go.Operand.tmp 68) (.bool true) (fun v => by kernel_rfl) (fun v => by kernel_rfl) (fun w => by kernel_rfl),
        owes_move 4 (some 70) [3] (.bool false) (Go.Operand.tmp 69) (fun v => by kernel_rfl) (fun v => by kernel_rfl),
        owes_move 5 (some 71) [4] (errV (E 1)) (Go.Operand.tmp 15) (fun v => by kernel_rfl) (fun v => by kernel_rfl),
        owes_bin 6 (some 72) [4, 5] (.bool false) Go.BinOp.eql 33 (Go.Operand.tmp 71) (Go.Operand.const Go.Value.nilIface) 33 (errV (E 1)) (Go.Value.nilIface) (fun v => by kernel_rfl) (fun v => by kernel_rfl) (fun w => by kernel_rfl),
        owes_move 7 (some 73) [4] (.bool false) (Go.Operand.tmp 17) (fun v => by kernel_rfl) (fun v => by kernel_rfl),
        owes_bin 8 (some 74) [4, 6, 7] (.bool false) Go.BinOp.neq 4 (Go.Operand.tmp 72) (Go.Operand.tmp 73) 4 (.bool false) (.bool false) (fun v => by kernel_rfl) (fun v => by kernel_rfl) (fun w => by kernel_rfl),
        owes_pick 9 (some 75) [4, 8] (.bool false) (Go.Operand.tmp 70) (Go.Operand.const (Go.Value.bool true)) (Go.Operand.tmp 74) false (fun v => by kernel_rfl) (fun v => by kernel_rfl) (fun v => by kernel_rfl),
        owes_move 10 (some 76) [9] (.bool false) (Go.Operand.tmp 75) (fun v => by kernel_rfl) (fun v => by kernel_rfl),
        owes_move 11 (some 77) [10] (.bool false) (Go.Operand.tmp 17) (fun v => by kernel_rfl) (fun v => by kernel_rfl),
        owes_un 12 (some 78) [10, 11] (.bool true) Go.UnOp.not 4 (Go.Operand.tmp 77) (.bool false) (fun v => by kernel_rfl) (fun v => by kernel_rfl) (fun w => by kernel_rfl),
        owes_move 13 (some 79) [10, 12] (.bool true) (Go.Operand.tmp 78) (fun v => by kernel_rfl) (fun v => by kernel_rfl),
        owes_move 14 (some 80) [13] (errV (E 1)) (Go.Operand.tmp 15) (fun v => by kernel_rfl) (fun v => by kernel_rfl),
        owes_call 15 (some 81) [13, 14] (.bool true) 13 #[Go.Operand.tmp 80, Go.Operand.const (Go.Value.int Go.IntKind.i64 102)] #[33, 3] (fun v => by kernel_rfl) (fun _ _ => by kernel_rfl) (fun v w' hb ho => by
            exact ⟨#[errV (E 1), Go.Value.int Go.IntKind.i64 102], by kernel_rfl, (is_any E (errV (E 1)) 102 102 (.inr ⟨1, by decide, rfl, rfl⟩) w' (hE.below hb)).mono (fun _ _ h => h)⟩),
        owes_un 16 (some 82) [13, 15] (.bool false) Go.UnOp.not 4 (Go.Operand.tmp 81) (.bool true) (fun v => by kernel_rfl) (fun v => by kernel_rfl) (fun w => by kernel_rfl),
        owes_pick 17 (some 83) [10, 13, 16] (.bool false) (Go.Operand.tmp 79) (Go.Operand.tmp 82) (Go.Operand.const (Go.Value.bool false)) true (fun v => by kernel_rfl) (fun v => by kernel_rfl) (fun v => by kernel_rfl),
        owes_pick 18 (some 84) [10, 17] (.bool false) (Go.Operand.tmp 76) (Go.Operand.const (Go.Value.bool true)) (Go.Operand.tmp 83) false (fun v => by kernel_rfl) (fun v => by kernel_rfl) (fun v => by kernel_rfl), trivial⟩ ?_
      intro v W10 hb' hall
      clear hall hE
      replace x := x.next hb'
      replace hO := hO.below hb'
      replace hP := hP.below hb'
      clear hb'
      simp only [putsL_k, putsL_nil, List.set_cons_zero, List.set_cons_succ]
      go_wp2_with fail
      go_loopw [18] (fun p wr => ∃ k : Nat, p = .int .i64 k ∧ k ≤ 2 ∧ Below W10.heap.size W10 wr) (fun p _ => 2 - (intOf p).toNat)
      case atStart => exact ⟨0, rfl, by omega, Below.refl _ _⟩
      case round =>
        obtain ⟨k, rfl, hk2, hbw⟩ := hrel
        replace x := x.next hbw
        replace hO := hO.below hbw
        replace hP := hP.below hbw
  
        rcases (show k = 0 ∨ k = 1 ∨ k = 2 by omega) with rfl | rfl | rfl
        · have hup := up_all E leaf i nz ps O2 c3 wr (hE0.below x.bel) hP (hk0.below x.bel)
          have hrow : wr.heap[B]? = some (.cells (arr8 32 leaf) 24 (0, 0)) := by rw [← HB.out]; exact rowIs_heap8 x.row
          have hcode := upGot_code leaf i nz ps
          have hcode2 := fun r => checkGot_code r leaf i nz ps
          have hdup := fun V (hb : Below wr.heap.size wr V) => dup_all leaf i nz ps O2 c3 V (hP.below hb)
          have hch := fun r V (hb : Below wr.heap.size wr V) => check_all E r leaf i nz ps O2 c3 V (hE0.below (x.next hb).bel) (hP.below hb) (hk0.below (x.next hb).bel)
          have hdch := fun r V (hb : Below wr.heap.size wr V) => dcheck_all r leaf i nz ps O2 c3 V (hP.below hb)
          obtain ⟨f, hf⟩ : ∃ f, f = (upGot leaf i nz ps).1 := ⟨_, rfl⟩
          obtain ⟨cc, hcc⟩ : ∃ cc, cc = (upGot leaf i nz ps).2 := ⟨_, rfl⟩
          rw [← hcc] at hcode
          rw [← hf, ← hcc] at hup
          simp only [← hf, ← hcc] at hdup
          have hrd := errOf_reads E cc (by omega)
          obtain ⟨ev, hev⟩ : ∃ ev, ev = errOf E cc := ⟨_, rfl⟩
          rw [← hev] at hrd hup
          have HDUP := Lib.hid hdup; have HCH := Lib.hid hch; have HDCH := Lib.hid hdch; have HCD := Lib.hid hcode2
          clear hdup hch hdch hf hcc hev hcode hcode2
          go_wp2_with (refine wpList_load_row rfl 24 _ rfl _ rfl _ _ _ _ hrow Tryd.underlying24 rfl (by kernel_rfl) ?_)
          refine hup.mono ?_
          rintro e V1 ⟨rfl, hb1⟩
          have hn1 := heap_alloc_new V1 (.cells (Array.replicate 32 (.int .u8 0)) 24)
          go_upto_region 25 with (first | (refine wpList_alloc_z rfl 24 rfl (Array.replicate 32 (.int .u8 0)) (fun _ => by kernel_rfl) ?_) | (refine wpList_store_row rfl 24 _ _ rfl V1.heap.size (arr8 32 f) rfl rfl _ _ hn1 (by kernel_rfl) (by simp) (arr8_one _ _) ?_))
          rw [alloc_setRow]
          clear hn1 hup hrow
          refine wp_world (fun V => Below wr.heap.size wr V ∧ V.rowIs V1.heap.size 24 32 (fun i => v8 (f i))) ?_ ?_
          · exact ⟨hb1.alloc hb1.size _, rowIs_new V1 (arr8 32 f) 24 V1.heap.size 32 _ rfl (by simp) (fun i hi => arr8_get 32 f i hi)⟩
          rintro V2 ⟨hb2, h1⟩
          generalize V1.heap.size = R1 at *
          have hrow : V2.heap[B]? = some (.cells (arr8 32 leaf) 24 (0, 0)) := by rw [← HB.out]; exact rowIs_heap8 (x.next hb2).row
          go_wp2_with (refine wpList_load_row rfl 24 _ rfl _ rfl _ _ _ _ hrow Tryd.underlying24 rfl (by kernel_rfl) ?_)
          refine (HDUP.out V2 hb2).mono ?_
          rintro e V3 ⟨rfl, hb3⟩
          have hn1 := heap_alloc_new V3 (.cells (Array.replicate 32 (.int .u8 0)) 24)
          go_upto_region 26 with (first | (refine wpList_alloc_z rfl 24 rfl (Array.replicate 32 (.int .u8 0)) (fun _ => by kernel_rfl) ?_) | (refine wpList_store_row rfl 24 _ _ rfl V3.heap.size (arr8 32 f) rfl rfl _ _ hn1 (by kernel_rfl) (by simp) (arr8_one _ _) ?_))
          rw [alloc_setRow]
          clear hn1 hrow
          refine wp_world (fun V => Below wr.heap.size wr V ∧ V.rowIs R1 24 32 (fun i => v8 (f i)) ∧ V.rowIs V3.heap.size 24 32 (fun i => v8 (f i))) ?_ ?_
          · exact ⟨(below_tr hb2 hb3).alloc (below_tr hb2 hb3).size _, (h1.of_block (hb3.block _ h1.lt)).alloc _, rowIs_new V3 (arr8 32 f) 24 V3.heap.size 32 _ rfl (by simp) (fun i hi => arr8_get 32 f i hi)⟩
          clear hb1 hb2 hb3 h1
          rintro V4 ⟨hb4, h1, h2⟩
          generalize V3.heap.size = R2 at *
          have hrt := drootn_any hs.length hs O c0 V4 (Nat.le_refl _) (hO.below hb4) hl2 (by omega)
          obtain ⟨rt, hrt'⟩ : ∃ rt, rt = rootOf hs := ⟨_, rfl⟩
          rw [← hrt'] at hrt
          clear hrt'
          go_wp2_with fail
          refine hrt.mono ?_
          rintro e V5 ⟨rfl, hb5⟩
          have hn1 := heap_alloc_new V5 (.cells (Array.replicate 32 (.int .u8 0)) 24)
          go_upto_region 27 with (first | (refine wpList_alloc_z rfl 24 rfl (Array.replicate 32 (.int .u8 0)) (fun _ => by kernel_rfl) ?_) | (refine wpList_store_row rfl 24 _ _ rfl V5.heap.size (arr8 32 rt) rfl rfl _ _ hn1 (by kernel_rfl) (by simp) (arr8_one _ _) ?_))
          rw [alloc_setRow]
          try simp only [Act.put, List.setIfInBounds_toArray, List.set_cons_zero, List.set_cons_succ]
          clear hn1 hrt
          refine wp_world (fun V => Below wr.heap.size wr V ∧ V.rowIs R1 24 32 (fun i => v8 (f i)) ∧ V.rowIs R2 24 32 (fun i => v8 (f i)) ∧ V.rowIs V5.heap.size 24 32 (fun i => v8 (rt i))) ?_ ?_
          · exact ⟨(below_tr hb4 hb5).alloc (below_tr hb4 hb5).size _, (h1.of_block (hb5.block _ h1.lt)).alloc _, (h2.of_block (hb5.block _ h2.lt)).alloc _, rowIs_new V5 (arr8 32 rt) 24 V5.heap.size 32 _ rfl (by simp) (fun i hi => arr8_get 32 rt i hi)⟩
          clear hb4 hb5 h1 h2
          rintro V6 ⟨hb6, h1, h2, h3⟩
          generalize V5.heap.size = R3 at *
          have hx6 := x.next hb6
          have h0 : V6.rowIs B 24 32 (fun i => v8 (leaf i)) := by rw [← HB.out]; exact hx6.row
          have hE6 := hE0.below hx6.bel
          have hrd2 := errOf_reads E (checkGot rt leaf i nz ps) (HCD.out rt)
          have HC1 := fun w' (hb : Below V6.heap.size V6 w') => HCH.out rt w' (below_tr hb6 hb)
          have HC2 := fun w' (hb : Below V6.heap.size V6 w') => HDCH.out rt w' (below_tr hb6 hb)
          obtain ⟨cg, hcg⟩ : ∃ cg, cg = checkGot rt leaf i nz ps := ⟨_, rfl⟩
          obtain ⟨ev2, hev2⟩ : ∃ ev2, ev2 = errOf E (checkGot rt leaf i nz ps) := ⟨_, rfl⟩
          rw [← hev2, ← hcg] at hrd2
          simp only [← hev2] at HC1
          simp only [← hcg] at HC2
          clear hcg hev2 HDUP HCH HDCH HCD
          refine wp_region_spec [Sp.k 0 (some 114) [] (.agg (arr8 32 f)),
            Sp.k 1 (some 115) [] (.agg (arr8 32 f)),
            Sp.k 2 (some 116) [0, 1] (.bool false),
            Sp.k 3 (some 117) [2] (.bool false),
            Sp.k 4 (some 118) [3] (ev),
            Sp.k 5 (some 119) [3] (.int .i64 cc),
            Sp.k 6 (some 120) [3, 4, 5] (.bool true),
            Sp.k 7 (some 121) [3, 6] (.bool false),
            Sp.k 8 (some 122) [3, 7] (.bool false),
            Sp.k 9 (some 123) [8] (.bool false),
            Sp.k 10 (some 124) [9] (.agg (arr8 32 rt)),
            Sp.k 11 (some 125) [9] (.agg (arr8 32 leaf)),
            Sp.k 12 (some 126) [9] (.int .i64 i),
            Sp.k 13 (some 127) [9] (.int .i64 nz),
            Sp.k 14 (some 128) [9] (.slice O2 ps.length c3),
            Sp.k 15 (some 129) [9, 10, 11, 12, 13, 14] (ev2),
            Sp.k 16 (some 130) [9] (.agg (arr8 32 rt)),
            Sp.k 17 (some 131) [9] (.agg (arr8 32 leaf)),
            Sp.k 18 (some 132) [9] (.int .i64 i),
            Sp.k 19 (some 133) [9] (.int .i64 nz),
            Sp.k 20 (some 134) [9] (.slice O2 ps.length c3),
            Sp.k 21 (some 135) [9, 16, 17, 18, 19, 20] (.int .i64 cg),
            Sp.k 22 (some 136) [9, 15, 21] (.bool true),
            Sp.k 23 (some 137) [9, 22] (.bool false),
            Sp.k 24 (some 138) [9, 23] (.bool false)] (by kernel_rfl) (by kernel_rfl)
            ⟨owes_load 0 (some 114) [] (.agg (arr8 32 f)) 24 (Go.Operand.tmp 21) (.pointer (some ⟨R1, 0, none⟩)) (fun v => by kernel_rfl) (fun v => by kernel_rfl) (fun w' hb => load_hash _ _ _ w' (rangeAt_row (h1.of_block ((drB hb).block _ h1.lt)))),
            owes_load 1 (some 115) [] (.agg (arr8 32 f)) 24 (Go.Operand.tmp 23) (.pointer (some ⟨R2, 0, none⟩)) (fun v => by kernel_rfl) (fun v => by kernel_rfl) (fun w' hb => load_hash _ _ _ w' (rangeAt_row (h2.of_block ((drB hb).block _ h2.lt)))),
            owes_neq 2 (some 116) [0, 1] 24 (Go.Operand.tmp 114) (Go.Operand.tmp 115) 24 (arr8 32 f) (arr8 32 f) true (fun v => by kernel_rfl) (fun v => by kernel_rfl) (by kernel_rfl) (hash_same f f rfl),
            owes_move 3 (some 117) [2] (.bool false) (Go.Operand.tmp 116) (fun v => by kernel_rfl) (fun v => by kernel_rfl),
            owes_move 4 (some 118) [3] (ev) (Go.Operand.tmp 22) (fun v => by kernel_rfl) (fun v => by kernel_rfl),
            owes_move 5 (some 119) [3] (.int .i64 cc) (Go.Operand.tmp 24) (fun v => by kernel_rfl) (fun v => by kernel_rfl),
            owes_call 6 (some 120) [3, 4, 5] (.bool true) 13 #[Go.Operand.tmp 118, Go.Operand.tmp 119] #[33, 3] (fun v => by kernel_rfl) (fun _ _ => by kernel_rfl) (fun v w' hb ho => by
                exact ⟨#[ev, .int .i64 cc], by kernel_rfl, (is_any E ev cc cc hrd w' (hE6.below (drB hb))).mono (fun _ _ h => ⟨h.1.trans (by simp), h.2⟩)⟩),
            owes_un 7 (some 121) [3, 6] (.bool false) Go.UnOp.not 4 (Go.Operand.tmp 120) (.bool true) (fun v => by kernel_rfl) (fun v => by kernel_rfl) (fun w => by kernel_rfl),
            owes_pick 8 (some 122) [3, 7] (.bool false) (Go.Operand.tmp 117) (Go.Operand.const (Go.Value.bool true)) (Go.Operand.tmp 121) false (fun v => by kernel_rfl) (fun v => by kernel_rfl) (fun v => by kernel_rfl),
            owes_move 9 (some 123) [8] (.bool false) (Go.Operand.tmp 122) (fun v => by kernel_rfl) (fun v => by kernel_rfl),
            owes_load 10 (some 124) [9] (.agg (arr8 32 rt)) 24 (Go.Operand.tmp 25) (.pointer (some ⟨R3, 0, none⟩)) (fun v => by kernel_rfl) (fun v => by kernel_rfl) (fun w' hb => load_hash _ _ _ w' (rangeAt_row (h3.of_block ((drB hb).block _ h3.lt)))),
            owes_load 11 (some 125) [9] (.agg (arr8 32 leaf)) 24 (Go.Operand.tmp 8) (.pointer (some ⟨B, 0, none⟩)) (fun v => by kernel_rfl) (fun v => by kernel_rfl) (fun w' hb => load_hash _ _ _ w' (rangeAt_row (h0.of_block ((drB hb).block _ h0.lt)))),
            owes_move 12 (some 126) [9] (.int .i64 i) (Go.Operand.tmp 1) (fun v => by kernel_rfl) (fun v => by kernel_rfl),
            owes_move 13 (some 127) [9] (.int .i64 nz) (Go.Operand.tmp 20) (fun v => by kernel_rfl) (fun v => by kernel_rfl),
            owes_move 14 (some 128) [9] (.slice O2 ps.length c3) (Go.Operand.tmp 19) (fun v => by kernel_rfl) (fun v => by kernel_rfl),
            owes_call 15 (some 129) [9, 10, 11, 12, 13, 14] (ev2) 17 #[Go.Operand.tmp 124, Go.Operand.tmp 125, Go.Operand.tmp 126, Go.Operand.tmp 127, Go.Operand.tmp 128] #[24, 24, 3, 3, 26] (fun v => by kernel_rfl) (fun _ _ => by kernel_rfl) (fun v w' hb ho => by
                exact ⟨#[.agg (arr8 32 rt), .agg (arr8 32 leaf), .int .i64 i, .int .i64 nz, .slice O2 ps.length c3], by kernel_rfl, (HC1 w' (drB hb)).mono (fun _ _ h => h)⟩),
            owes_load 16 (some 130) [9] (.agg (arr8 32 rt)) 24 (Go.Operand.tmp 25) (.pointer (some ⟨R3, 0, none⟩)) (fun v => by kernel_rfl) (fun v => by kernel_rfl) (fun w' hb => load_hash _ _ _ w' (rangeAt_row (h3.of_block ((drB hb).block _ h3.lt)))),
            owes_load 17 (some 131) [9] (.agg (arr8 32 leaf)) 24 (Go.Operand.tmp 8) (.pointer (some ⟨B, 0, none⟩)) (fun v => by kernel_rfl) (fun v => by kernel_rfl) (fun w' hb => load_hash _ _ _ w' (rangeAt_row (h0.of_block ((drB hb).block _ h0.lt)))),
            owes_move 18 (some 132) [9] (.int .i64 i) (Go.Operand.tmp 1) (fun v => by kernel_rfl) (fun v => by kernel_rfl),
            owes_move 19 (some 133) [9] (.int .i64 nz) (Go.Operand.tmp 20) (fun v => by kernel_rfl) (fun v => by kernel_rfl),
            owes_move 20 (some 134) [9] (.slice O2 ps.length c3) (Go.Operand.tmp 19) (fun v => by kernel_rfl) (fun v => by kernel_rfl),
            owes_call 21 (some 135) [9, 16, 17, 18, 19, 20] (.int .i64 cg) 18 #[Go.Operand.tmp 130, Go.Operand.tmp 131, Go.Operand.tmp 132, Go.Operand.tmp 133, Go.Operand.tmp 134] #[24, 24, 3, 3, 26] (fun v => by kernel_rfl) (fun _ _ => by kernel_rfl) (fun v w' hb ho => by
                exact ⟨#[.agg (arr8 32 rt), .agg (arr8 32 leaf), .int .i64 i, .int .i64 nz, .slice O2 ps.length c3], by kernel_rfl, (HC2 w' (drB hb)).mono (fun _ _ h => h)⟩),
            owes_call 22 (some 136) [9, 15, 21] (.bool true) 13 #[Go.Operand.tmp 129, Go.Operand.tmp 135] #[33, 3] (fun v => by kernel_rfl) (fun _ _ => by kernel_rfl) (fun v w' hb ho => by
                exact ⟨#[ev2, .int .i64 cg], by kernel_rfl, (is_any E ev2 cg cg hrd2 w' (hE6.below (drB hb))).mono (fun _ _ h => ⟨h.1.trans (by simp), h.2⟩)⟩),
            owes_un 23 (some 137) [9, 22] (.bool false) Go.UnOp.not 4 (Go.Operand.tmp 136) (.bool true) (fun v => by kernel_rfl) (fun v => by kernel_rfl) (fun w => by kernel_rfl),
            owes_pick 24 (some 138) [9, 23] (.bool false) (Go.Operand.tmp 123) (Go.Operand.const (Go.Value.bool true)) (Go.Operand.tmp 137) false (fun v => by kernel_rfl) (fun v => by kernel_rfl) (fun v => by kernel_rfl), trivial⟩ ?_
          intro v w' hb' hall
          clear hall HC1 HC2
          have hbb := below_tr hbw (below_tr hb6 (drB hb'))
          clear hb' hb6 h0 h1 h2 h3 hx6 hE6
          simp only [putsL_k, putsL_nil, List.set_cons_zero, List.set_cons_succ]
          go_wp2_with fail
          go_roundw
          case rel => exact ⟨1, rfl, by omega, hbb⟩
          case measure => simp [intOf]
        · have hup := up_all E leaf i (hs.length : Int) [] none 0 wr (hE0.below x.bel) SlRead.nil_ (hk0.below x.bel)
          have hrow : wr.heap[B]? = some (.cells (arr8 32 leaf) 24 (0, 0)) := by rw [← HB.out]; exact rowIs_heap8 x.row
          have hcode := upGot_code leaf i (hs.length : Int) []
          have hcode2 := fun r => checkGot_code r leaf i (hs.length : Int) []
          have hdup := fun V (hb : Below wr.heap.size wr V) => dup_all leaf i (hs.length : Int) [] none 0 V ((SlRead.nil_).below hb)
          have hch := fun r V (hb : Below wr.heap.size wr V) => check_all E r leaf i (hs.length : Int) [] none 0 V (hE0.below (x.next hb).bel) ((SlRead.nil_).below hb) (hk0.below (x.next hb).bel)
          have hdch := fun r V (hb : Below wr.heap.size wr V) => dcheck_all r leaf i (hs.length : Int) [] none 0 V ((SlRead.nil_).below hb)
          obtain ⟨f, hf⟩ : ∃ f, f = (upGot leaf i (hs.length : Int) []).1 := ⟨_, rfl⟩
          obtain ⟨cc, hcc⟩ : ∃ cc, cc = (upGot leaf i (hs.length : Int) []).2 := ⟨_, rfl⟩
          rw [← hcc] at hcode
          rw [← hf, ← hcc] at hup
          simp only [← hf, ← hcc] at hdup
          have hrd := errOf_reads E cc (by omega)
          obtain ⟨ev, hev⟩ : ∃ ev, ev = errOf E cc := ⟨_, rfl⟩
          rw [← hev] at hrd hup
          have HDUP := Lib.hid hdup; have HCH := Lib.hid hch; have HDCH := Lib.hid hdch; have HCD := Lib.hid hcode2
          clear hdup hch hdch hf hcc hev hcode hcode2
          go_wp2_with (refine wpList_load_row rfl 24 _ rfl _ rfl _ _ _ _ hrow Tryd.underlying24 rfl (by kernel_rfl) ?_)
          refine hup.mono ?_
          rintro e V1 ⟨rfl, hb1⟩
          have hn1 := heap_alloc_new V1 (.cells (Array.replicate 32 (.int .u8 0)) 24)
          go_upto_region 25 with (first | (refine wpList_alloc_z rfl 24 rfl (Array.replicate 32 (.int .u8 0)) (fun _ => by kernel_rfl) ?_) | (refine wpList_store_row rfl 24 _ _ rfl V1.heap.size (arr8 32 f) rfl rfl _ _ hn1 (by kernel_rfl) (by simp) (arr8_one _ _) ?_))
          rw [alloc_setRow]
          clear hn1 hup hrow
          refine wp_world (fun V => Below wr.heap.size wr V ∧ V.rowIs V1.heap.size 24 32 (fun i => v8 (f i))) ?_ ?_
          · exact ⟨hb1.alloc hb1.size _, rowIs_new V1 (arr8 32 f) 24 V1.heap.size 32 _ rfl (by simp) (fun i hi => arr8_get 32 f i hi)⟩
          rintro V2 ⟨hb2, h1⟩
          generalize V1.heap.size = R1 at *
          have hrow : V2.heap[B]? = some (.cells (arr8 32 leaf) 24 (0, 0)) := by rw [← HB.out]; exact rowIs_heap8 (x.next hb2).row
          go_wp2_with (refine wpList_load_row rfl 24 _ rfl _ rfl _ _ _ _ hrow Tryd.underlying24 rfl (by kernel_rfl) ?_)
          refine (HDUP.out V2 hb2).mono ?_
          rintro e V3 ⟨rfl, hb3⟩
          have hn1 := heap_alloc_new V3 (.cells (Array.replicate 32 (.int .u8 0)) 24)
          go_upto_region 26 with (first | (refine wpList_alloc_z rfl 24 rfl (Array.replicate 32 (.int .u8 0)) (fun _ => by kernel_rfl) ?_) | (refine wpList_store_row rfl 24 _ _ rfl V3.heap.size (arr8 32 f) rfl rfl _ _ hn1 (by kernel_rfl) (by simp) (arr8_one _ _) ?_))
          rw [alloc_setRow]
          clear hn1 hrow
          refine wp_world (fun V => Below wr.heap.size wr V ∧ V.rowIs R1 24 32 (fun i => v8 (f i)) ∧ V.rowIs V3.heap.size 24 32 (fun i => v8 (f i))) ?_ ?_
          · exact ⟨(below_tr hb2 hb3).alloc (below_tr hb2 hb3).size _, (h1.of_block (hb3.block _ h1.lt)).alloc _, rowIs_new V3 (arr8 32 f) 24 V3.heap.size 32 _ rfl (by simp) (fun i hi => arr8_get 32 f i hi)⟩
          clear hb1 hb2 hb3 h1
          rintro V4 ⟨hb4, h1, h2⟩
          generalize V3.heap.size = R2 at *
          have hrt := drootn_any hs.length hs O c0 V4 (Nat.le_refl _) (hO.below hb4) hl2 (by omega)
          obtain ⟨rt, hrt'⟩ : ∃ rt, rt = rootOf hs := ⟨_, rfl⟩
          rw [← hrt'] at hrt
          clear hrt'
          go_wp2_with fail
          refine hrt.mono ?_
          rintro e V5 ⟨rfl, hb5⟩
          have hn1 := heap_alloc_new V5 (.cells (Array.replicate 32 (.int .u8 0)) 24)
          go_upto_region 27 with (first | (refine wpList_alloc_z rfl 24 rfl (Array.replicate 32 (.int .u8 0)) (fun _ => by kernel_rfl) ?_) | (refine wpList_store_row rfl 24 _ _ rfl V5.heap.size (arr8 32 rt) rfl rfl _ _ hn1 (by kernel_rfl) (by simp) (arr8_one _ _) ?_))
          rw [alloc_setRow]
          try simp only [Act.put, List.setIfInBounds_toArray, List.set_cons_zero, List.set_cons_succ]
          clear hn1 hrt
          refine wp_world (fun V => Below wr.heap.size wr V ∧ V.rowIs R1 24 32 (fun i => v8 (f i)) ∧ V.rowIs R2 24 32 (fun i => v8 (f i)) ∧ V.rowIs V5.heap.size 24 32 (fun i => v8 (rt i))) ?_ ?_
          · exact ⟨(below_tr hb4 hb5).alloc (below_tr hb4 hb5).size _, (h1.of_block (hb5.block _ h1.lt)).alloc _, (h2.of_block (hb5.block _ h2.lt)).alloc _, rowIs_new V5 (arr8 32 rt) 24 V5.heap.size 32 _ rfl (by simp) (fun i hi => arr8_get 32 rt i hi)⟩
          clear hb4 hb5 h1 h2
          rintro V6 ⟨hb6, h1, h2, h3⟩
          generalize V5.heap.size = R3 at *
          have hx6 := x.next hb6
          have h0 : V6.rowIs B 24 32 (fun i => v8 (leaf i)) := by rw [← HB.out]; exact hx6.row
          have hE6 := hE0.below hx6.bel
          have hrd2 := errOf_reads E (checkGot rt leaf i (hs.length : Int) []) (HCD.out rt)
          have HC1 := fun w' (hb : Below V6.heap.size V6 w') => HCH.out rt w' (below_tr hb6 hb)
          have HC2 := fun w' (hb : Below V6.heap.size V6 w') => HDCH.out rt w' (below_tr hb6 hb)
          obtain ⟨cg, hcg⟩ : ∃ cg, cg = checkGot rt leaf i (hs.length : Int) [] := ⟨_, rfl⟩
          obtain ⟨ev2, hev2⟩ : ∃ ev2, ev2 = errOf E (checkGot rt leaf i (hs.length : Int) []) := ⟨_, rfl⟩
          rw [← hev2, ← hcg] at hrd2
          simp only [← hev2] at HC1
          simp only [← hcg] at HC2
          clear hcg hev2 HDUP HCH HDCH HCD
          refine wp_region_spec [Sp.k 0 (some 114) [] (.agg (arr8 32 f)),
            Sp.k 1 (some 115) [] (.agg (arr8 32 f)),
            Sp.k 2 (some 116) [0, 1] (.bool false),
            Sp.k 3 (some 117) [2] (.bool false),
            Sp.k 4 (some 118) [3] (ev),
            Sp.k 5 (some 119) [3] (.int .i64 cc),
            Sp.k 6 (some 120) [3, 4, 5] (.bool true),
            Sp.k 7 (some 121) [3, 6] (.bool false),
            Sp.k 8 (some 122) [3, 7] (.bool false),
            Sp.k 9 (some 123) [8] (.bool false),
            Sp.k 10 (some 124) [9] (.agg (arr8 32 rt)),
            Sp.k 11 (some 125) [9] (.agg (arr8 32 leaf)),
            Sp.k 12 (some 126) [9] (.int .i64 i),
            Sp.k 13 (some 127) [9] (.int .i64 (hs.length : Int)),
            Sp.k 14 (some 128) [9] (.slice none 0 0),
            Sp.k 15 (some 129) [9, 10, 11, 12, 13, 14] (ev2),
            Sp.k 16 (some 130) [9] (.agg (arr8 32 rt)),
            Sp.k 17 (some 131) [9] (.agg (arr8 32 leaf)),
            Sp.k 18 (some 132) [9] (.int .i64 i),
            Sp.k 19 (some 133) [9] (.int .i64 (hs.length : Int)),
            Sp.k 20 (some 134) [9] (.slice none 0 0),
            Sp.k 21 (some 135) [9, 16, 17, 18, 19, 20] (.int .i64 cg),
            Sp.k 22 (some 136) [9, 15, 21] (.bool true),
            Sp.k 23 (some 137) [9, 22] (.bool false),
            Sp.k 24 (some 138) [9, 23] (.bool false)] (by kernel_rfl) (by kernel_rfl)
            ⟨owes_load 0 (some 114) [] (.agg (arr8 32 f)) 24 (Go.Operand.tmp 21) (.pointer (some ⟨R1, 0, none⟩)) (fun v => by kernel_rfl) (fun v => by kernel_rfl) (fun w' hb => load_hash _ _ _ w' (rangeAt_row (h1.of_block ((drB hb).block _ h1.lt)))),
            owes_load 1 (some 115) [] (.agg (arr8 32 f)) 24 (Go.Operand.tmp 23) (.pointer (some ⟨R2, 0, none⟩)) (fun v => by kernel_rfl) (fun v => by kernel_rfl) (fun w' hb => load_hash _ _ _ w' (rangeAt_row (h2.of_block ((drB hb).block _ h2.lt)))),
            owes_neq 2 (some 116) [0, 1] 24 (Go.Operand.tmp 114) (Go.Operand.tmp 115) 24 (arr8 32 f) (arr8 32 f) true (fun v => by kernel_rfl) (fun v => by kernel_rfl) (by kernel_rfl) (hash_same f f rfl),
            owes_move 3 (some 117) [2] (.bool false) (Go.Operand.tmp 116) (fun v => by kernel_rfl) (fun v => by kernel_rfl),
            owes_move 4 (some 118) [3] (ev) (Go.Operand.tmp 22) (fun v => by kernel_rfl) (fun v => by kernel_rfl),
            owes_move 5 (some 119) [3] (.int .i64 cc) (Go.Operand.tmp 24) (fun v => by kernel_rfl) (fun v => by kernel_rfl),
            owes_call 6 (some 120) [3, 4, 5] (.bool true) 13 #[Go.Operand.tmp 118, Go.Operand.tmp 119] #[33, 3] (fun v => by kernel_rfl) (fun _ _ => by kernel_rfl) (fun v w' hb ho => by
                exact ⟨#[ev, .int .i64 cc], by kernel_rfl, (is_any E ev cc cc hrd w' (hE6.below (drB hb))).mono (fun _ _ h => ⟨h.1.trans (by simp), h.2⟩)⟩),
            owes_un 7 (some 121) [3, 6] (.bool false) Go.UnOp.not 4 (Go.Operand.tmp 120) (.bool true) (fun v => by kernel_rfl) (fun v => by kernel_rfl) (fun w => by kernel_rfl),
            owes_pick 8 (some 122) [3, 7] (.bool false) (Go.Operand.tmp 117) (Go.Operand.const (Go.Value.bool true)) (Go.Operand.tmp 121) false (fun v => by kernel_rfl) (fun v => by kernel_rfl) (fun v => by kernel_rfl),
            owes_move 9 (some 123) [8] (.bool false) (Go.Operand.tmp 122) (fun v => by kernel_rfl) (fun v => by kernel_rfl),
            owes_load 10 (some 124) [9] (.agg (arr8 32 rt)) 24 (Go.Operand.tmp 25) (.pointer (some ⟨R3, 0, none⟩)) (fun v => by kernel_rfl) (fun v => by kernel_rfl) (fun w' hb => load_hash _ _ _ w' (rangeAt_row (h3.of_block ((drB hb).block _ h3.lt)))),
            owes_load 11 (some 125) [9] (.agg (arr8 32 leaf)) 24 (Go.Operand.tmp 8) (.pointer (some ⟨B, 0, none⟩)) (fun v => by kernel_rfl) (fun v => by kernel_rfl) (fun w' hb => load_hash _ _ _ w' (rangeAt_row (h0.of_block ((drB hb).block _ h0.lt)))),
            owes_move 12 (some 126) [9] (.int .i64 i) (Go.Operand.tmp 1) (fun v => by kernel_rfl) (fun v => by kernel_rfl),
            owes_move 13 (some 127) [9] (.int .i64 (hs.length : Int)) (Go.Operand.tmp 20) (fun v => by kernel_rfl) (fun v => by kernel_rfl),
            owes_move 14 (some 128) [9] (.slice none 0 0) (Go.Operand.tmp 19) (fun v => by kernel_rfl) (fun v => by kernel_rfl),
            owes_call 15 (some 129) [9, 10, 11, 12, 13, 14] (ev2) 17 #[Go.Operand.tmp 124, Go.Operand.tmp 125, Go.Operand.tmp 126, Go.Operand.tmp 127, Go.Operand.tmp 128] #[24, 24, 3, 3, 26] (fun v => by kernel_rfl) (fun _ _ => by kernel_rfl) (fun v w' hb ho => by
                exact ⟨#[.agg (arr8 32 rt), .agg (arr8 32 leaf), .int .i64 i, .int .i64 (hs.length : Int), .slice none 0 0], by kernel_rfl, (HC1 w' (drB hb)).mono (fun _ _ h => h)⟩),
            owes_load 16 (some 130) [9] (.agg (arr8 32 rt)) 24 (Go.Operand.tmp 25) (.pointer (some ⟨R3, 0, none⟩)) (fun v => by kernel_rfl) (fun v => by kernel_rfl) (fun w' hb => load_hash _ _ _ w' (rangeAt_row (h3.of_block ((drB hb).block _ h3.lt)))),
            owes_load 17 (some 131) [9] (.agg (arr8 32 leaf)) 24 (Go.Operand.tmp 8) (.pointer (some ⟨B, 0, none⟩)) (fun v => by kernel_rfl) (fun v => by kernel_rfl) (fun w' hb => load_hash _ _ _ w' (rangeAt_row (h0.of_block ((drB hb).block _ h0.lt)))),
            owes_move 18 (some 132) [9] (.int .i64 i) (Go.Operand.tmp 1) (fun v => by kernel_rfl) (fun v => by kernel_rfl),
            owes_move 19 (some 133) [9] (.int .i64 (hs.length : Int)) (Go.Operand.tmp 20) (fun v => by kernel_rfl) (fun v => by kernel_rfl),
            owes_move 20 (some 134) [9] (.slice none 0 0) (Go.Operand.tmp 19) (fun v => by kernel_rfl) (fun v => by kernel_rfl),
            owes_call 21 (some 135) [9, 16, 17, 18, 19, 20] (.int .i64 cg) 18 #[Go.Operand.tmp 130, Go.Operand.tmp 131, Go.Operand.tmp 132, Go.Operand.tmp 133, Go.Operand.tmp 134] #[24, 24, 3, 3, 26] (fun v => by kernel_rfl) (fun _ _ => by kernel_rfl) (fun v w' hb ho => by
                exact ⟨#[.agg (arr8 32 rt), .agg (arr8 32 leaf), .int .i64 i, .int .i64 (hs.length : Int), .slice none 0 0], by kernel_rfl, (HC2 w' (drB hb)).mono (fun _ _ h => h)⟩),
            owes_call 22 (some 136) [9, 15, 21] (.bool true) 13 #[Go.Operand.tmp 129, Go.Operand.tmp 135] #[33, 3] (fun v => by kernel_rfl) (fun _ _ => by kernel_rfl) (fun v w' hb ho => by
                exact ⟨#[ev2, .int .i64 cg], by kernel_rfl, (is_any E ev2 cg cg hrd2 w' (hE6.below (drB hb))).mono (fun _ _ h => ⟨h.1.trans (by simp), h.2⟩)⟩),
            owes_un 23 (some 137) [9, 22] (.bool false) Go.UnOp.not 4 (Go.Operand.tmp 136) (.bool true) (fun v => by kernel_rfl) (fun v => by kernel_rfl) (fun w => by kernel_rfl),
            owes_pick 24 (some 138) [9, 23] (.bool false) (Go.Operand.tmp 123) (Go.Operand.const (Go.Value.bool true)) (Go.Operand.tmp 137) false (fun v => by kernel_rfl) (fun v => by kernel_rfl) (fun v => by kernel_rfl), trivial⟩ ?_
          intro v w' hb' hall
          clear hall HC1 HC2
          have hbb := below_tr hbw (below_tr hb6 (drB hb'))
          clear hb' hb6 h0 h1 h2 h3 hx6 hE6
          simp only [putsL_k, putsL_nil, List.set_cons_zero, List.set_cons_succ]
          go_wp2_with fail
          go_roundw
          case rel => exact ⟨2, rfl, by omega, hbb⟩
          case measure => simp [intOf]
        · go_wp2_with fail
          go_ret
          exact ⟨rfl, x.bel⟩
    · obtain ⟨j, rfl⟩ : ∃ j : Nat, i = (j : Int) := ⟨i.toNat, by omega⟩
      go_wp2_with fail
      refine (path_any j hs O c0 W7 hO hl2 (by omega) (by omega) (hk0.below x.bel)).mono ?_
      rintro e W8 ⟨v1, rfl, ho1, hb8⟩
      have hl8 := pathOf_length hs.length j hs (Nat.le_refl _)
      have hl9 := turnsOf_short 20 j hs.length (by omega)
      have hbl : (pathOf j hs).length ≤ 4611686018427387904 := by omega
      clear hl8 hl9
      replace x := x.next hb8
      replace hO := hO.below hb8
      replace hP := hP.below hb8
      obtain ⟨A1, c1, rfl, _⟩ := ownsRow_form ho1
      have hS1 := SlRead.of_own32 ho1
      clear hb8 ho1
      go_wp2_with fail
      refine (dpath_any hs.length hs O c0 j W8 (Nat.le_refl _) (by omega) hO hl2 (by omega)).mono ?_
      rintro e W9 ⟨v2, rfl, ho2, hb9⟩
      replace x := x.next hb9
      replace hO := hO.below hb9
      replace hP := hP.below hb9
      replace hS1 := hS1.below hb9
      obtain ⟨A2, c2, rfl, _⟩ := ownsRow_form ho2
      have hS2 := SlRead.of_own32 ho2
      clear hb9 ho2
      generalize pathOf j hs = bs at *
      go_upto_region 14 with (fail)
      refine wp_region_text [Sp.k 0 (some 66) [] (.slice A1 bs.length c1),
        Sp.k 1 (some 67) [] (.slice A2 bs.length c2),
        Sp.k 2 (some 68) [0, 1] (.bool true),
        Sp.k 3 (some 69) [2] (.bool false),
        Sp.k 4 (some 70) [3] (.bool false),
        Sp.k 5 (some 71) [4] (.nilIface),
        Sp.k 6 (some 72) [4, 5] (.bool true),
        Sp.k 7 (some 73) [4] (.bool true),
        Sp.k 8 (some 74) [4, 6, 7] (.bool false),
        Sp.k 9 (some 75) [4, 8] (.bool false),
        Sp.k 10 (some 76) [9] (.bool false),
        Sp.k 11 (some 77) [10] (.bool true),
        Sp.k 12 (some 78) [10, 11] (.bool false),
        Sp.k 13 (some 79) [10, 12] (.bool false),
        Sp.k 14 (some 80) [13] (undef),
        Sp.k 15 (some 81) [13, 14] (undef),
        Sp.k 16 (some 82) [13, 15] (undef),
        Sp.k 17 (some 83) [10, 13, 16] (Go.Value.bool false),
        Sp.k 18 (some 84) [10, 17] (Go.Value.bool false)] (by kernel_rfl)
        ⟨owes_move 0 (some 66) [] (.slice A1 bs.length c1) (Go.Operand.tmp 14) (fun v => by kernel_rfl) (fun v => by kernel_rfl),
        owes_move 1 (some 67) [] (.slice A2 bs.length c2) (Go.Operand.tmp 16) (fun v => by kernel_rfl) (fun v => by kernel_rfl),
        owes_call 2 (some 68) [0, 1] (.bool true) 12 #[Go.Operand.tmp 66, Go.Operand.tmp 67] #[26, 26] (fun v => by kernel_rfl) (fun _ _ => by kernel_rfl) (fun v w' hb ho => by
            exact ⟨#[.slice A1 bs.length c1, .slice A2 bs.length c2], by kernel_rfl, (same_hashes bs A1 A2 c1 c2 w' (hS1.below hb) (hS2.below hb) hbl).mono (fun _ _ h => h)⟩),
        owes_un 3 (some 69) [2] (.bool false) Go.UnOp.not 4 (Go.Operand.tmp 68) (.bool true) (fun v => by kernel_rfl) (fun v => by kernel_rfl) (fun w => by kernel_rfl),
        owes_move 4 (some 70) [3] (.bool false) (Go.Operand.tmp 69) (fun v => by kernel_rfl) (fun v => by kernel_rfl),
        owes_move 5 (some 71) [4] (.nilIface) (Go.Operand.tmp 15) (fun v => by kernel_rfl) (fun v => by kernel_rfl),
        owes_bin 6 (some 72) [4, 5] (.bool true) Go.BinOp.eql 33 (Go.Operand.tmp 71) (Go.Operand.const Go.Value.nilIface) 33 (.nilIface) (Go.Value.nilIface) (fun v => by kernel_rfl) (fun v => by kernel_rfl) (fun w => by kernel_rfl),
        owes_move 7 (some 73) [4] (.bool true) (Go.Operand.tmp 17) (fun v => by kernel_rfl) (fun v => by kernel_rfl),
        owes_bin 8 (some 74) [4, 6, 7] (.bool false) Go.BinOp.neq 4 (Go.Operand.tmp 72) (Go.Operand.tmp 73) 4 (.bool true) (.bool true) (fun v => by kernel_rfl) (fun v => by kernel_rfl) (fun w => by kernel_rfl),
        owes_pick 9 (some 75) [4, 8] (.bool false) (Go.Operand.tmp 70) (Go.Operand.const (Go.Value.bool true)) (Go.Operand.tmp 74) false (fun v => by kernel_rfl) (fun v => by kernel_rfl) (fun v => by kernel_rfl),
        owes_move 10 (some 76) [9] (.bool false) (Go.Operand.tmp 75) (fun v => by kernel_rfl) (fun v => by kernel_rfl),
        owes_move 11 (some 77) [10] (.bool true) (Go.Operand.tmp 17) (fun v => by kernel_rfl) (fun v => by kernel_rfl),
        owes_un 12 (some 78) [10, 11] (.bool false) Go.UnOp.not 4 (Go.Operand.tmp 77) (.bool true) (fun v => by kernel_rfl) (fun v => by kernel_rfl) (fun w => by kernel_rfl),
        owes_move 13 (some 79) [10, 12] (.bool false) (Go.Operand.tmp 78) (fun v => by kernel_rfl) (fun v => by kernel_rfl),
        owes_skip 14 (some 80) [13] (fun v => by kernel_rfl),
        owes_skip 15 (some 81) [13, 14] (fun v => by kernel_rfl),
        owes_skip 16 (some 82) [13, 15] (fun v => by kernel_rfl),
        owes_pick 17 (some 83) [10, 13, 16] (Go.Value.bool false) (Go.Operand.tmp 79) (Go.Operand.tmp 82) (Go.Operand.const (Go.Value.bool false)) false (fun v => by kernel_rfl) (fun v => by kernel_rfl) (fun v => by kernel_rfl),
        owes_pick 18 (some 84) [10, 17] (Go.Value.bool false) (Go.Operand.tmp 76) (Go.Operand.const (Go.Value.bool true)) (Go.Operand.tmp 83) false (fun v => by kernel_rfl) (fun v => by kernel_rfl) (fun v => by kernel_rfl), trivial⟩ ?_
      intro v W10 hb' hall
      clear hall
      replace x := x.next hb'
      replace hO := hO.below hb'
      replace hP := hP.below hb'
      replace hS2 := hS2.below hb'
      clear hb' hS1
      simp only [putsL_k, putsL_nil, List.set_cons_zero, List.set_cons_succ]
      obtain ⟨i, hij⟩ : ∃ i : Int, i = (j : Int) := ⟨_, rfl⟩
      rw [← hij]
      clear hij hib
      go_wp2_with fail
      go_loopw [18] (fun p wr => ∃ k : Nat, p = .int .i64 k ∧ k ≤ 2 ∧ Below W10.heap.size W10 wr) (fun p _ => 2 - (intOf p).toNat)
      case atStart => exact ⟨0, rfl, by omega, Below.refl _ _⟩
      case round =>
        obtain ⟨k, rfl, hk2, hbw⟩ := hrel
        replace x := x.next hbw
        replace hO := hO.below hbw
        replace hP := hP.below hbw
        replace hS2 := hS2.below hbw
        rcases (show k = 0 ∨ k = 1 ∨ k = 2 by omega) with rfl | rfl | rfl
        · have hup := up_all E leaf i nz ps O2 c3 wr (hE0.below x.bel) hP (hk0.below x.bel)
          have hrow : wr.heap[B]? = some (.cells (arr8 32 leaf) 24 (0, 0)) := by rw [← HB.out]; exact rowIs_heap8 x.row
          have hcode := upGot_code leaf i nz ps
          have hcode2 := fun r => checkGot_code r leaf i nz ps
          have hdup := fun V (hb : Below wr.heap.size wr V) => dup_all leaf i nz ps O2 c3 V (hP.below hb)
          have hch := fun r V (hb : Below wr.heap.size wr V) => check_all E r leaf i nz ps O2 c3 V (hE0.below (x.next hb).bel) (hP.below hb) (hk0.below (x.next hb).bel)
          have hdch := fun r V (hb : Below wr.heap.size wr V) => dcheck_all r leaf i nz ps O2 c3 V (hP.below hb)
          obtain ⟨f, hf⟩ : ∃ f, f = (upGot leaf i nz ps).1 := ⟨_, rfl⟩
          obtain ⟨cc, hcc⟩ : ∃ cc, cc = (upGot leaf i nz ps).2 := ⟨_, rfl⟩
          rw [← hcc] at hcode
          rw [← hf, ← hcc] at hup
          simp only [← hf, ← hcc] at hdup
          have hrd := errOf_reads E cc (by omega)
          obtain ⟨ev, hev⟩ : ∃ ev, ev = errOf E cc := ⟨_, rfl⟩
          rw [← hev] at hrd hup
          have HDUP := Lib.hid hdup; have HCH := Lib.hid hch; have HDCH := Lib.hid hdch; have HCD := Lib.hid hcode2
          clear hdup hch hdch hf hcc hev hcode hcode2
          go_wp2_with (refine wpList_load_row rfl 24 _ rfl _ rfl _ _ _ _ hrow Tryd.underlying24 rfl (by kernel_rfl) ?_)
          refine hup.mono ?_
          rintro e V1 ⟨rfl, hb1⟩
          have hn1 := heap_alloc_new V1 (.cells (Array.replicate 32 (.int .u8 0)) 24)
          go_upto_region 25 with (first | (refine wpList_alloc_z rfl 24 rfl (Array.replicate 32 (.int .u8 0)) (fun _ => by kernel_rfl) ?_) | (refine wpList_store_row rfl 24 _ _ rfl V1.heap.size (arr8 32 f) rfl rfl _ _ hn1 (by kernel_rfl) (by simp) (arr8_one _ _) ?_))
          rw [alloc_setRow]
          clear hn1 hup hrow
          refine wp_world (fun V => Below wr.heap.size wr V ∧ V.rowIs V1.heap.size 24 32 (fun i => v8 (f i))) ?_ ?_
          · exact ⟨hb1.alloc hb1.size _, rowIs_new V1 (arr8 32 f) 24 V1.heap.size 32 _ rfl (by simp) (fun i hi => arr8_get 32 f i hi)⟩
          rintro V2 ⟨hb2, h1⟩
          generalize V1.heap.size = R1 at *
          have hrow : V2.heap[B]? = some (.cells (arr8 32 leaf) 24 (0, 0)) := by rw [← HB.out]; exact rowIs_heap8 (x.next hb2).row
          go_wp2_with (refine wpList_load_row rfl 24 _ rfl _ rfl _ _ _ _ hrow Tryd.underlying24 rfl (by kernel_rfl) ?_)
          refine (HDUP.out V2 hb2).mono ?_
          rintro e V3 ⟨rfl, hb3⟩
          have hn1 := heap_alloc_new V3 (.cells (Array.replicate 32 (.int .u8 0)) 24)
          go_upto_region 26 with (first | (refine wpList_alloc_z rfl 24 rfl (Array.replicate 32 (.int .u8 0)) (fun _ => by kernel_rfl) ?_) | (refine wpList_store_row rfl 24 _ _ rfl V3.heap.size (arr8 32 f) rfl rfl _ _ hn1 (by kernel_rfl) (by simp) (arr8_one _ _) ?_))
          rw [alloc_setRow]
          clear hn1 hrow
          refine wp_world (fun V => Below wr.heap.size wr V ∧ V.rowIs R1 24 32 (fun i => v8 (f i)) ∧ V.rowIs V3.heap.size 24 32 (fun i => v8 (f i))) ?_ ?_
          · exact ⟨(below_tr hb2 hb3).alloc (below_tr hb2 hb3).size _, (h1.of_block (hb3.block _ h1.lt)).alloc _, rowIs_new V3 (arr8 32 f) 24 V3.heap.size 32 _ rfl (by simp) (fun i hi => arr8_get 32 f i hi)⟩
          clear hb1 hb2 hb3 h1
          rintro V4 ⟨hb4, h1, h2⟩
          generalize V3.heap.size = R2 at *
          have hrt := drootn_any hs.length hs O c0 V4 (Nat.le_refl _) (hO.below hb4) hl2 (by omega)
          obtain ⟨rt, hrt'⟩ : ∃ rt, rt = rootOf hs := ⟨_, rfl⟩
          rw [← hrt'] at hrt
          clear hrt'
          go_wp2_with fail
          refine hrt.mono ?_
          rintro e V5 ⟨rfl, hb5⟩
          have hn1 := heap_alloc_new V5 (.cells (Array.replicate 32 (.int .u8 0)) 24)
          go_upto_region 27 with (first | (refine wpList_alloc_z rfl 24 rfl (Array.replicate 32 (.int .u8 0)) (fun _ => by kernel_rfl) ?_) | (refine wpList_store_row rfl 24 _ _ rfl V5.heap.size (arr8 32 rt) rfl rfl _ _ hn1 (by kernel_rfl) (by simp) (arr8_one _ _) ?_))
          rw [alloc_setRow]
          try simp only [Act.put, List.setIfInBounds_toArray, List.set_cons_zero, List.set_cons_succ]
          clear hn1 hrt
          refine wp_world (fun V => Below wr.heap.size wr V ∧ V.rowIs R1 24 32 (fun i => v8 (f i)) ∧ V.rowIs R2 24 32 (fun i => v8 (f i)) ∧ V.rowIs V5.heap.size 24 32 (fun i => v8 (rt i))) ?_ ?_
          · exact ⟨(below_tr hb4 hb5).alloc (below_tr hb4 hb5).size _, (h1.of_block (hb5.block _ h1.lt)).alloc _, (h2.of_block (hb5.block _ h2.lt)).alloc _, rowIs_new V5 (arr8 32 rt) 24 V5.heap.size 32 _ rfl (by simp) (fun i hi => arr8_get 32 rt i hi)⟩
          clear hb4 hb5 h1 h2
          rintro V6 ⟨hb6, h1, h2, h3⟩
          generalize V5.heap.size = R3 at *
          have hx6 := x.next hb6
          have h0 : V6.rowIs B 24 32 (fun i => v8 (leaf i)) := by rw [← HB.out]; exact hx6.row
          have hE6 := hE0.below hx6.bel
          have hrd2 := errOf_reads E (checkGot rt leaf i nz ps) (HCD.out rt)
          have HC1 := fun w' (hb : Below V6.heap.size V6 w') => HCH.out rt w' (below_tr hb6 hb)
          have HC2 := fun w' (hb : Below V6.heap.size V6 w') => HDCH.out rt w' (below_tr hb6 hb)
          obtain ⟨cg, hcg⟩ : ∃ cg, cg = checkGot rt leaf i nz ps := ⟨_, rfl⟩
          obtain ⟨ev2, hev2⟩ : ∃ ev2, ev2 = errOf E (checkGot rt leaf i nz ps) := ⟨_, rfl⟩
          rw [← hev2, ← hcg] at hrd2
          simp only [← hev2] at HC1
          simp only [← hcg] at HC2
          clear hcg hev2 HDUP HCH HDCH HCD
          refine wp_region_spec [Sp.k 0 (some 114) [] (.agg (arr8 32 f)),
            Sp.k 1 (some 115) [] (.agg (arr8 32 f)),
            Sp.k 2 (some 116) [0, 1] (.bool false),
            Sp.k 3 (some 117) [2] (.bool false),
            Sp.k 4 (some 118) [3] (ev),
            Sp.k 5 (some 119) [3] (.int .i64 cc),
            Sp.k 6 (some 120) [3, 4, 5] (.bool true),
            Sp.k 7 (some 121) [3, 6] (.bool false),
            Sp.k 8 (some 122) [3, 7] (.bool false),
            Sp.k 9 (some 123) [8] (.bool false),
            Sp.k 10 (some 124) [9] (.agg (arr8 32 rt)),
            Sp.k 11 (some 125) [9] (.agg (arr8 32 leaf)),
            Sp.k 12 (some 126) [9] (.int .i64 i),
            Sp.k 13 (some 127) [9] (.int .i64 nz),
            Sp.k 14 (some 128) [9] (.slice O2 ps.length c3),
            Sp.k 15 (some 129) [9, 10, 11, 12, 13, 14] (ev2),
            Sp.k 16 (some 130) [9] (.agg (arr8 32 rt)),
            Sp.k 17 (some 131) [9] (.agg (arr8 32 leaf)),
            Sp.k 18 (some 132) [9] (.int .i64 i),
            Sp.k 19 (some 133) [9] (.int .i64 nz),
            Sp.k 20 (some 134) [9] (.slice O2 ps.length c3),
            Sp.k 21 (some 135) [9, 16, 17, 18, 19, 20] (.int .i64 cg),
            Sp.k 22 (some 136) [9, 15, 21] (.bool true),
            Sp.k 23 (some 137) [9, 22] (.bool false),
            Sp.k 24 (some 138) [9, 23] (.bool false)] (by kernel_rfl) (by kernel_rfl)
            ⟨owes_load 0 (some 114) [] (.agg (arr8 32 f)) 24 (Go.Operand.tmp 21) (.pointer (some ⟨R1, 0, none⟩)) (fun v => by kernel_rfl) (fun v => by kernel_rfl) (fun w' hb => load_hash _ _ _ w' (rangeAt_row (h1.of_block ((drB hb).block _ h1.lt)))),
            owes_load 1 (some 115) [] (.agg (arr8 32 f)) 24 (Go.Operand.tmp 23) (.pointer (some ⟨R2, 0, none⟩)) (fun v => by kernel_rfl) (fun v => by kernel_rfl) (fun w' hb => load_hash _ _ _ w' (rangeAt_row (h2.of_block ((drB hb).block _ h2.lt)))),
            owes_neq 2 (some 116) [0, 1] 24 (Go.Operand.tmp 114) (Go.Operand.tmp 115) 24 (arr8 32 f) (arr8 32 f) true (fun v => by kernel_rfl) (fun v => by kernel_rfl) (by kernel_rfl) (hash_same f f rfl),
            owes_move 3 (some 117) [2] (.bool false) (Go.Operand.tmp 116) (fun v => by kernel_rfl) (fun v => by kernel_rfl),
            owes_move 4 (some 118) [3] (ev) (Go.Operand.tmp 22) (fun v => by kernel_rfl) (fun v => by kernel_rfl),
            owes_move 5 (some 119) [3] (.int .i64 cc) (Go.Operand.tmp 24) (fun v => by kernel_rfl) (fun v => by kernel_rfl),
            owes_call 6 (some 120) [3, 4, 5] (.bool true) 13 #[Go.Operand.tmp 118, Go.Operand.tmp 119] #[33, 3] (fun v => by kernel_rfl) (fun _ _ => by kernel_rfl) (fun v w' hb ho => by
                exact ⟨#[ev, .int .i64 cc], by kernel_rfl, (is_any E ev cc cc hrd w' (hE6.below (drB hb))).mono (fun _ _ h => ⟨h.1.trans (by simp), h.2⟩)⟩),
            owes_un 7 (some 121) [3, 6] (.bool false) Go.UnOp.not 4 (Go.Operand.tmp 120) (.bool true) (fun v => by kernel_rfl) (fun v => by kernel_rfl) (fun w => by kernel_rfl),
            owes_pick 8 (some 122) [3, 7] (.bool false) (Go.Operand.tmp 117) (Go.Operand.const (Go.Value.bool true)) (Go.Operand.tmp 121) false (fun v => by kernel_rfl) (fun v => by kernel_rfl) (fun v => by kernel_rfl),
            owes_move 9 (some 123) [8] (.bool false) (Go.Operand.tmp 122) (fun v => by kernel_rfl) (fun v => by kernel_rfl),
            owes_load 10 (some 124) [9] (.agg (arr8 32 rt)) 24 (Go.Operand.tmp 25) (.pointer (some ⟨R3, 0, none⟩)) (fun v => by kernel_rfl) (fun v => by kernel_rfl) (fun w' hb => load_hash _ _ _ w' (rangeAt_row (h3.of_block ((drB hb).block _ h3.lt)))),
            owes_load 11 (some 125) [9] (.agg (arr8 32 leaf)) 24 (Go.Operand.tmp 8) (.pointer (some ⟨B, 0, none⟩)) (fun v => by kernel_rfl) (fun v => by kernel_rfl) (fun w' hb => load_hash _ _ _ w' (rangeAt_row (h0.of_block ((drB hb).block _ h0.lt)))),
            owes_move 12 (some 126) [9] (.int .i64 i) (Go.Operand.tmp 1) (fun v => by kernel_rfl) (fun v => by kernel_rfl),
            owes_move 13 (some 127) [9] (.int .i64 nz) (Go.Operand.tmp 20) (fun v => by kernel_rfl) (fun v => by kernel_rfl),
            owes_move 14 (some 128) [9] (.slice O2 ps.length c3) (Go.Operand.tmp 19) (fun v => by kernel_rfl) (fun v => by kernel_rfl),
            owes_call 15 (some 129) [9, 10, 11, 12, 13, 14] (ev2) 17 #[Go.Operand.tmp 124, Go.Operand.tmp 125, Go.Operand.tmp 126, Go.Operand.tmp 127, Go.Operand.tmp 128] #[24, 24, 3, 3, 26] (fun v => by kernel_rfl) (fun _ _ => by kernel_rfl) (fun v w' hb ho => by
                exact ⟨#[.agg (arr8 32 rt), .agg (arr8 32 leaf), .int .i64 i, .int .i64 nz, .slice O2 ps.length c3], by kernel_rfl, (HC1 w' (drB hb)).mono (fun _ _ h => h)⟩),
            owes_load 16 (some 130) [9] (.agg (arr8 32 rt)) 24 (Go.Operand.tmp 25) (.pointer (some ⟨R3, 0, none⟩)) (fun v => by kernel_rfl) (fun v => by kernel_rfl) (fun w' hb => load_hash _ _ _ w' (rangeAt_row (h3.of_block ((drB hb).block _ h3.lt)))),
            owes_load 17 (some 131) [9] (.agg (arr8 32 leaf)) 24 (Go.Operand.tmp 8) (.pointer (some ⟨B, 0, none⟩)) (fun v => by kernel_rfl) (fun v => by kernel_rfl) (fun w' hb => load_hash _ _ _ w' (rangeAt_row (h0.of_block ((drB hb).block _ h0.lt)))),
            owes_move 18 (some 132) [9] (.int .i64 i) (Go.Operand.tmp 1) (fun v => by kernel_rfl) (fun v => by kernel_rfl),
            owes_move 19 (some 133) [9] (.int .i64 nz) (Go.Operand.tmp 20) (fun v => by kernel_rfl) (fun v => by kernel_rfl),
            owes_move 20 (some 134) [9] (.slice O2 ps.length c3) (Go.Operand.tmp 19) (fun v => by kernel_rfl) (fun v => by kernel_rfl),
            owes_call 21 (some 135) [9, 16, 17, 18, 19, 20] (.int .i64 cg) 18 #[Go.Operand.tmp 130, Go.Operand.tmp 131, Go.Operand.tmp 132, Go.Operand.tmp 133, Go.Operand.tmp 134] #[24, 24, 3, 3, 26] (fun v => by kernel_rfl) (fun _ _ => by kernel_rfl) (fun v w' hb ho => by
                exact ⟨#[.agg (arr8 32 rt), .agg (arr8 32 leaf), .int .i64 i, .int .i64 nz, .slice O2 ps.length c3], by kernel_rfl, (HC2 w' (drB hb)).mono (fun _ _ h => h)⟩),
            owes_call 22 (some 136) [9, 15, 21] (.bool true) 13 #[Go.Operand.tmp 129, Go.Operand.tmp 135] #[33, 3] (fun v => by kernel_rfl) (fun _ _ => by kernel_rfl) (fun v w' hb ho => by
                exact ⟨#[ev2, .int .i64 cg], by kernel_rfl, (is_any E ev2 cg cg hrd2 w' (hE6.below (drB hb))).mono (fun _ _ h => ⟨h.1.trans (by simp), h.2⟩)⟩),
            owes_un 23 (some 137) [9, 22] (.bool false) Go.UnOp.not 4 (Go.Operand.tmp 136) (.bool true) (fun v => by kernel_rfl) (fun v => by kernel_rfl) (fun w => by kernel_rfl),
            owes_pick 24 (some 138) [9, 23] (.bool false) (Go.Operand.tmp 123) (Go.Operand.const (Go.Value.bool true)) (Go.Operand.tmp 137) false (fun v => by kernel_rfl) (fun v => by kernel_rfl) (fun v => by kernel_rfl), trivial⟩ ?_
          intro v w' hb' hall
          clear hall HC1 HC2
          have hbb := below_tr hbw (below_tr hb6 (drB hb'))
          clear hb' hb6 h0 h1 h2 h3 hx6 hE6
          simp only [putsL_k, putsL_nil, List.set_cons_zero, List.set_cons_succ]
          go_wp2_with fail
          go_roundw
          case rel => exact ⟨1, rfl, by omega, hbb⟩
          case measure => simp [intOf]
        · have hup := up_all E leaf i (hs.length : Int) bs A2 c2 wr (hE0.below x.bel) hS2 (hk0.below x.bel)
          have hrow : wr.heap[B]? = some (.cells (arr8 32 leaf) 24 (0, 0)) := by rw [← HB.out]; exact rowIs_heap8 x.row
          have hcode := upGot_code leaf i (hs.length : Int) bs
          have hcode2 := fun r => checkGot_code r leaf i (hs.length : Int) bs
          have hdup := fun V (hb : Below wr.heap.size wr V) => dup_all leaf i (hs.length : Int) bs A2 c2 V (hS2.below hb)
          have hch := fun r V (hb : Below wr.heap.size wr V) => check_all E r leaf i (hs.length : Int) bs A2 c2 V (hE0.below (x.next hb).bel) (hS2.below hb) (hk0.below (x.next hb).bel)
          have hdch := fun r V (hb : Below wr.heap.size wr V) => dcheck_all r leaf i (hs.length : Int) bs A2 c2 V (hS2.below hb)
          obtain ⟨f, hf⟩ : ∃ f, f = (upGot leaf i (hs.length : Int) bs).1 := ⟨_, rfl⟩
          obtain ⟨cc, hcc⟩ : ∃ cc, cc = (upGot leaf i (hs.length : Int) bs).2 := ⟨_, rfl⟩
          rw [← hcc] at hcode
          rw [← hf, ← hcc] at hup
          simp only [← hf, ← hcc] at hdup
          have hrd := errOf_reads E cc (by omega)
          obtain ⟨ev, hev⟩ : ∃ ev, ev = errOf E cc := ⟨_, rfl⟩
          rw [← hev] at hrd hup
          have HDUP := Lib.hid hdup; have HCH := Lib.hid hch; have HDCH := Lib.hid hdch; have HCD := Lib.hid hcode2
          clear hdup hch hdch hf hcc hev hcode hcode2
          go_wp2_with (refine wpList_load_row rfl 24 _ rfl _ rfl _ _ _ _ hrow Tryd.underlying24 rfl (by kernel_rfl) ?_)
          refine hup.mono ?_
          rintro e V1 ⟨rfl, hb1⟩
          have hn1 := heap_alloc_new V1 (.cells (Array.replicate 32 (.int .u8 0)) 24)
          go_upto_region 25 with (first | (refine wpList_alloc_z rfl 24 rfl (Array.replicate 32 (.int .u8 0)) (fun _ => by kernel_rfl) ?_) | (refine wpList_store_row rfl 24 _ _ rfl V1.heap.size (arr8 32 f) rfl rfl _ _ hn1 (by kernel_rfl) (by simp) (arr8_one _ _) ?_))
          rw [alloc_setRow]
          clear hn1 hup hrow
          refine wp_world (fun V => Below wr.heap.size wr V ∧ V.rowIs V1.heap.size 24 32 (fun i => v8 (f i))) ?_ ?_
          · exact ⟨hb1.alloc hb1.size _, rowIs_new V1 (arr8 32 f) 24 V1.heap.size 32 _ rfl (by simp) (fun i hi => arr8_get 32 f i hi)⟩
          rintro V2 ⟨hb2, h1⟩
          generalize V1.heap.size = R1 at *
          have hrow : V2.heap[B]? = some (.cells (arr8 32 leaf) 24 (0, 0)) := by rw [← HB.out]; exact rowIs_heap8 (x.next hb2).row
          go_wp2_with (refine wpList_load_row rfl 24 _ rfl _ rfl _ _ _ _ hrow Tryd.underlying24 rfl (by kernel_rfl) ?_)
          refine (HDUP.out V2 hb2).mono ?_
          rintro e V3 ⟨rfl, hb3⟩
          have hn1 := heap_alloc_new V3 (.cells (Array.replicate 32 (.int .u8 0)) 24)
          go_upto_region 26 with (first | (refine wpList_alloc_z rfl 24 rfl (Array.replicate 32 (.int .u8 0)) (fun _ => by kernel_rfl) ?_) | (refine wpList_store_row rfl 24 _ _ rfl V3.heap.size (arr8 32 f) rfl rfl _ _ hn1 (by kernel_rfl) (by simp) (arr8_one _ _) ?_))
          rw [alloc_setRow]
          clear hn1 hrow
          refine wp_world (fun V => Below wr.heap.size wr V ∧ V.rowIs R1 24 32 (fun i => v8 (f i)) ∧ V.rowIs V3.heap.size 24 32 (fun i => v8 (f i))) ?_ ?_
          · exact ⟨(below_tr hb2 hb3).alloc (below_tr hb2 hb3).size _, (h1.of_block (hb3.block _ h1.lt)).alloc _, rowIs_new V3 (arr8 32 f) 24 V3.heap.size 32 _ rfl (by simp) (fun i hi => arr8_get 32 f i hi)⟩
          clear hb1 hb2 hb3 h1
          rintro V4 ⟨hb4, h1, h2⟩
          generalize V3.heap.size = R2 at *
          have hrt := drootn_any hs.length hs O c0 V4 (Nat.le_refl _) (hO.below hb4) hl2 (by omega)
          obtain ⟨rt, hrt'⟩ : ∃ rt, rt = rootOf hs := ⟨_, rfl⟩
          rw [← hrt'] at hrt
          clear hrt'
          go_wp2_with fail
          refine hrt.mono ?_
          rintro e V5 ⟨rfl, hb5⟩
          have hn1 := heap_alloc_new V5 (.cells (Array.replicate 32 (.int .u8 0)) 24)
          go_upto_region 27 with (first | (refine wpList_alloc_z rfl 24 rfl (Array.replicate 32 (.int .u8 0)) (fun _ => by kernel_rfl) ?_) | (refine wpList_store_row rfl 24 _ _ rfl V5.heap.size (arr8 32 rt) rfl rfl _ _ hn1 (by kernel_rfl) (by simp) (arr8_one _ _) ?_))
          rw [alloc_setRow]
          try simp only [Act.put, List.setIfInBounds_toArray, List.set_cons_zero, List.set_cons_succ]
          clear hn1 hrt
          refine wp_world (fun V => Below wr.heap.size wr V ∧ V.rowIs R1 24 32 (fun i => v8 (f i)) ∧ V.rowIs R2 24 32 (fun i => v8 (f i)) ∧ V.rowIs V5.heap.size 24 32 (fun i => v8 (rt i))) ?_ ?_
          · exact ⟨(below_tr hb4 hb5).alloc (below_tr hb4 hb5).size _, (h1.of_block (hb5.block _ h1.lt)).alloc _, (h2.of_block (hb5.block _ h2.lt)).alloc _, rowIs_new V5 (arr8 32 rt) 24 V5.heap.size 32 _ rfl (by simp) (fun i hi => arr8_get 32 rt i hi)⟩
          clear hb4 hb5 h1 h2
          rintro V6 ⟨hb6, h1, h2, h3⟩
          generalize V5.heap.size = R3 at *
          have hx6 := x.next hb6
          have h0 : V6.rowIs B 24 32 (fun i => v8 (leaf i)) := by rw [← HB.out]; exact hx6.row
          have hE6 := hE0.below hx6.bel
          have hrd2 := errOf_reads E (checkGot rt leaf i (hs.length : Int) bs) (HCD.out rt)
          have HC1 := fun w' (hb : Below V6.heap.size V6 w') => HCH.out rt w' (below_tr hb6 hb)
          have HC2 := fun w' (hb : Below V6.heap.size V6 w') => HDCH.out rt w' (below_tr hb6 hb)
          obtain ⟨cg, hcg⟩ : ∃ cg, cg = checkGot rt leaf i (hs.length : Int) bs := ⟨_, rfl⟩
          obtain ⟨ev2, hev2⟩ : ∃ ev2, ev2 = errOf E (checkGot rt leaf i (hs.length : Int) bs) := ⟨_, rfl⟩
          rw [← hev2, ← hcg] at hrd2
          simp only [← hev2] at HC1
          simp only [← hcg] at HC2
          clear hcg hev2 HDUP HCH HDCH HCD
          refine wp_region_spec [Sp.k 0 (some 114) [] (.agg (arr8 32 f)),
            Sp.k 1 (some 115) [] (.agg (arr8 32 f)),
            Sp.k 2 (some 116) [0, 1] (.bool false),
            Sp.k 3 (some 117) [2] (.bool false),
            Sp.k 4 (some 118) [3] (ev),
            Sp.k 5 (some 119) [3] (.int .i64 cc),
            Sp.k 6 (some 120) [3, 4, 5] (.bool true),
            Sp.k 7 (some 121) [3, 6] (.bool false),
            Sp.k 8 (some 122) [3, 7] (.bool false),
            Sp.k 9 (some 123) [8] (.bool false),
            Sp.k 10 (some 124) [9] (.agg (arr8 32 rt)),
            Sp.k 11 (some 125) [9] (.agg (arr8 32 leaf)),
            Sp.k 12 (some 126) [9] (.int .i64 i),
            Sp.k 13 (some 127) [9] (.int .i64 (hs.length : Int)),
            Sp.k 14 (some 128) [9] (.slice A2 bs.length c2),
            Sp.k 15 (some 129) [9, 10, 11, 12, 13, 14] (ev2),
            Sp.k 16 (some 130) [9] (.agg (arr8 32 rt)),
            Sp.k 17 (some 131) [9] (.agg (arr8 32 leaf)),
            Sp.k 18 (some 132) [9] (.int .i64 i),
            Sp.k 19 (some 133) [9] (.int .i64 (hs.length : Int)),
            Sp.k 20 (some 134) [9] (.slice A2 bs.length c2),
            Sp.k 21 (some 135) [9, 16, 17, 18, 19, 20] (.int .i64 cg),
            Sp.k 22 (some 136) [9, 15, 21] (.bool true),
            Sp.k 23 (some 137) [9, 22] (.bool false),
            Sp.k 24 (some 138) [9, 23] (.bool false)] (by kernel_rfl) (by kernel_rfl)
            ⟨owes_load 0 (some 114) [] (.agg (arr8 32 f)) 24 (Go.Operand.tmp 21) (.pointer (some ⟨R1, 0, none⟩)) (fun v => by kernel_rfl) (fun v => by kernel_rfl) (fun w' hb => load_hash _ _ _ w' (rangeAt_row (h1.of_block ((drB hb).block _ h1.lt)))),
            owes_load 1 (some 115) [] (.agg (arr8 32 f)) 24 (Go.Operand.tmp 23) (.pointer (some ⟨R2, 0, none⟩)) (fun v => by kernel_rfl) (fun v => by kernel_rfl) (fun w' hb => load_hash _ _ _ w' (rangeAt_row (h2.of_block ((drB hb).block _ h2.lt)))),
            owes_neq 2 (some 116) [0, 1] 24 (Go.Operand.tmp 114) (Go.Operand.tmp 115) 24 (arr8 32 f) (arr8 32 f) true (fun v => by kernel_rfl) (fun v => by kernel_rfl) (by kernel_rfl) (hash_same f f rfl),
            owes_move 3 (some 117) [2] (.bool false) (Go.Operand.tmp 116) (fun v => by kernel_rfl) (fun v => by kernel_rfl),
            owes_move 4 (some 118) [3] (ev) (Go.Operand.tmp 22) (fun v => by kernel_rfl) (fun v => by kernel_rfl),
            owes_move 5 (some 119) [3] (.int .i64 cc) (Go.Operand.tmp 24) (fun v => by kernel_rfl) (fun v => by kernel_rfl),
            owes_call 6 (some 120) [3, 4, 5] (.bool true) 13 #[Go.Operand.tmp 118, Go.Operand.tmp 119] #[33, 3] (fun v => by kernel_rfl) (fun _ _ => by kernel_rfl) (fun v w' hb ho => by
                exact ⟨#[ev, .int .i64 cc], by kernel_rfl, (is_any E ev cc cc hrd w' (hE6.below (drB hb))).mono (fun _ _ h => ⟨h.1.trans (by simp), h.2⟩)⟩),
            owes_un 7 (some 121) [3, 6] (.bool false) Go.UnOp.not 4 (Go.Operand.tmp 120) (.bool true) (fun v => by kernel_rfl) (fun v => by kernel_rfl) (fun w => by kernel_rfl),
            owes_pick 8 (some 122) [3, 7] (.bool false) (Go.Operand.tmp 117) (Go.Operand.const (Go.Value.bool true)) (Go.Operand.tmp 121) false (fun v => by kernel_rfl) (fun v => by kernel_rfl) (fun v => by kernel_rfl),
            owes_move 9 (some 123) [8] (.bool false) (Go.Operand.tmp 122) (fun v => by kernel_rfl) (fun v => by kernel_rfl),
            owes_load 10 (some 124) [9] (.agg (arr8 32 rt)) 24 (Go.Operand.tmp 25) (.pointer (some ⟨R3, 0, none⟩)) (fun v => by kernel_rfl) (fun v => by kernel_rfl) (fun w' hb => load_hash _ _ _ w' (rangeAt_row (h3.of_block ((drB hb).block _ h3.lt)))),
            owes_load 11 (some 125) [9] (.agg (arr8 32 leaf)) 24 (Go.Operand.tmp 8) (.pointer (some ⟨B, 0, none⟩)) (fun v => by kernel_rfl) (fun v => by kernel_rfl) (fun w' hb => load_hash _ _ _ w' (rangeAt_row (h0.of_block ((drB hb).block _ h0.lt)))),
            owes_move 12 (some 126) [9] (.int .i64 i) (Go.Operand.tmp 1) (fun v => by kernel_rfl) (fun v => by kernel_rfl),
            owes_move 13 (some 127) [9] (.int .i64 (hs.length : Int)) (Go.Operand.tmp 20) (fun v => by kernel_rfl) (fun v => by kernel_rfl),
            owes_move 14 (some 128) [9] (.slice A2 bs.length c2) (Go.Operand.tmp 19) (fun v => by kernel_rfl) (fun v => by kernel_rfl),
            owes_call 15 (some 129) [9, 10, 11, 12, 13, 14] (ev2) 17 #[Go.Operand.tmp 124, Go.Operand.tmp 125, Go.Operand.tmp 126, Go.Operand.tmp 127, Go.Operand.tmp 128] #[24, 24, 3, 3, 26] (fun v => by kernel_rfl) (fun _ _ => by kernel_rfl) (fun v w' hb ho => by
                exact ⟨#[.agg (arr8 32 rt), .agg (arr8 32 leaf), .int .i64 i, .int .i64 (hs.length : Int), .slice A2 bs.length c2], by kernel_rfl, (HC1 w' (drB hb)).mono (fun _ _ h => h)⟩),
            owes_load 16 (some 130) [9] (.agg (arr8 32 rt)) 24 (Go.Operand.tmp 25) (.pointer (some ⟨R3, 0, none⟩)) (fun v => by kernel_rfl) (fun v => by kernel_rfl) (fun w' hb => load_hash _ _ _ w' (rangeAt_row (h3.of_block ((drB hb).block _ h3.lt)))),
            owes_load 17 (some 131) [9] (.agg (arr8 32 leaf)) 24 (Go.Operand.tmp 8) (.pointer (some ⟨B, 0, none⟩)) (fun v => by kernel_rfl) (fun v => by kernel_rfl) (fun w' hb => load_hash _ _ _ w' (rangeAt_row (h0.of_block ((drB hb).block _ h0.lt)))),
            owes_move 18 (some 132) [9] (.int .i64 i) (Go.Operand.tmp 1) (fun v => by kernel_rfl) (fun v => by kernel_rfl),
            owes_move 19 (some 133) [9] (.int .i64 (hs.length : Int)) (Go.Operand.tmp 20) (fun v => by kernel_rfl) (fun v => by kernel_rfl),
            owes_move 20 (some 134) [9] (.slice A2 bs.length c2) (Go.Operand.tmp 19) (fun v => by kernel_rfl) (fun v => by kernel_rfl),
            owes_call 21 (some 135) [9, 16, 17, 18, 19, 20] (.int .i64 cg) 18 #[Go.Operand.tmp 130, Go.Operand.tmp 131, Go.Operand.tmp 132, Go.Operand.tmp 133, Go.Operand.tmp 134] #[24, 24, 3, 3, 26] (fun v => by kernel_rfl) (fun _ _ => by kernel_rfl) (fun v w' hb ho => by
                exact ⟨#[.agg (arr8 32 rt), .agg (arr8 32 leaf), .int .i64 i, .int .i64 (hs.length : Int), .slice A2 bs.length c2], by kernel_rfl, (HC2 w' (drB hb)).mono (fun _ _ h => h)⟩),
            owes_call 22 (some 136) [9, 15, 21] (.bool true) 13 #[Go.Operand.tmp 129, Go.Operand.tmp 135] #[33, 3] (fun v => by kernel_rfl) (fun _ _ => by kernel_rfl) (fun v w' hb ho => by
                exact ⟨#[ev2, .int .i64 cg], by kernel_rfl, (is_any E ev2 cg cg hrd2 w' (hE6.below (drB hb))).mono (fun _ _ h => ⟨h.1.trans (by simp), h.2⟩)⟩),
            owes_un 23 (some 137) [9, 22] (.bool false) Go.UnOp.not 4 (Go.Operand.tmp 136) (.bool true) (fun v => by kernel_rfl) (fun v => by kernel_rfl) (fun w => by kernel_rfl),
            owes_pick 24 (some 138) [9, 23] (.bool false) (Go.Operand.tmp 123) (Go.Operand.const (Go.Value.bool true)) (Go.Operand.tmp 137) false (fun v => by kernel_rfl) (fun v => by kernel_rfl) (fun v => by kernel_rfl), trivial⟩ ?_
          intro v w' hb' hall
          clear hall HC1 HC2
          have hbb := below_tr hbw (below_tr hb6 (drB hb'))
          clear hb' hb6 h0 h1 h2 h3 hx6 hE6
          simp only [putsL_k, putsL_nil, List.set_cons_zero, List.set_cons_succ]
          go_wp2_with fail
          go_roundw
          case rel => exact ⟨2, rfl, by omega, hbb⟩
          case measure => simp [intOf]
        · go_wp2_with fail
          go_ret
          exact ⟨rfl, x.bel⟩

end Go.Proofs.YtihnpcoiadbpiaaDoor
