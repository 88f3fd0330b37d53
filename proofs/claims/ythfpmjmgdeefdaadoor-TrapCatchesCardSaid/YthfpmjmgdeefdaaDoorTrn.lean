import Derived.Test.YthfpmjmgdeefdaaDoorTrm
/-
  TrapCatches: caught.
-/
namespace Go.Proofs.YthfpmjmgdeefdaaDoor
open Go.RowKit

set_option maxRecDepth 100000 in
set_option maxHeartbeats 3200000 in
theorem caughtW_any (E : Nat → Addr) (h : Nat) (z : Int) (p q i : Nat) (w : World) (hh : h < 9) (hp : p ≤ 50) (hq : q ≤ 50) (hi : i < 19) (hE : ErrsAt E w) :
    Calls Tryd.prog 11 #[.int .i64 (h : Int), .int .i64 (101 + (i : Int)), .int .i64 z, .int .i64 (p : Int), .int .i64 (q : Int), errV (E i)] w fun e w' => e = .returned (.bool true) ∧ Below w.heap.size w w' := by
  have hmf : ∀ (fn : Fn) (first cap : Array Value) (w : World), (Instr.makeFunc fn first cap).run Tryd.prog w = .ok (.func fn first cap) w := fun _ _ _ _ => rfl
  go_enter Tryd.func11, Tryd.ntmps11
  go_upto_region 2 with (fail)
  refine wp_world (fun W => CV E w w.heap.size h z p q i 0 W) ?_ ?_
  · refine ⟨?_, ?_, ?_, ?_, ?_, ?_, ?_, ?_, by go_grown⟩
    all_goals simp [go_sem]
  rintro W hC
  simp only [Nat.add_assoc, Nat.reduceAdd]
  generalize hB : w.heap.size = B at *
  have HBB := Lib.hid hB
  have hT := tryC_any E w B h z p q i W hh hp hq hi hC (fun V hb => hE.below (by rw [hB]; exact hb))
  clear hB hC hE
  unfold caps at hT
  go_wp2_with fail
  refine hT.mono ?_
  rintro e W0 ⟨v, rfl, hC, hF⟩
  clear hT
  have cb := hC.bf
  have HC : ∀ V, Below W0.heap.size W0 V → CV E w B h z p q i (wantD h p q) V := fun V hb => hC.below hC.lt hb
  have hn : B + 6 ≤ W0.heap.size := hC.lt
  clear hC
  go_wp2_with fail
  refine (bare_any 106 _).mono ?_
  rintro e W1 ⟨rfl, hb1⟩
  have hbA : Below W1.heap.size W1 (W1.alloc (.cells #[.int .i64 0, .bool false, .int .i64 0] 45)) := (Below.refl _ _).alloc (Nat.le_refl _) _
  have hb2 := hb1.trans (hbA.mono hb1.size)
  have hD : W0.heap.size ≤ W1.heap.size := hb1.size
  have hrz := heap_alloc_new W1 (.cells #[.int .i64 0, .bool false, .int .i64 0] 45)
  have hDl0 : W1.heap.size < (W1.alloc (.cells #[.int .i64 0, .bool false, .int .i64 0] 45)).heap.size := by simp
  go_upto_region 5 with (refine wpList_store_row rfl 45 _ _ rfl _ (frow 106 false 0) rfl rfl _ _ hrz (by kernel_rfl) (by rfl) (frow_one _ _ _) ?_)
  have hb3 : Below W0.heap.size W0 ((W1.alloc (.cells #[.int .i64 0, .bool false, .int .i64 0] 45)).setRow W1.heap.size (frow 106 false 0)) := below_setRow hb2 hD _
  have hr : ((W1.alloc (.cells #[.int .i64 0, .bool false, .int .i64 0] 45)).setRow W1.heap.size (frow 106 false 0)).heap[W1.heap.size]? = some (.cells (frow 106 false 0) 45 (0, 0)) := setRow_heap _ _ _ _ _ _ hrz
  have hDl : W1.heap.size < ((W1.alloc (.cells #[.int .i64 0, .bool false, .int .i64 0] 45)).setRow W1.heap.size (frow 106 false 0)).heap.size := by simp [World.setRow]
  clear hDl0
  generalize (W1.alloc (.cells #[.int .i64 0, .bool false, .int .i64 0] 45)).setRow W1.heap.size (frow 106 false 0) = W2 at *
  generalize W1.heap.size = D at *
  generalize W0.heap.size = n at *
  clear hb1 hbA hb2 hrz cb
  have hb1 := hb3
  clear hb3 W1
  generalize W2 = W1 at *
  rcases (show h = 0 ∨ h = 1 ∨ h = 2 ∨ h = 3 ∨ h = 4 ∨ h = 5 ∨ h = 6 ∨ h = 7 ∨ h = 8 by omega) with rfl | rfl | rfl | rfl | rfl | rfl | rfl | rfl | rfl
  · have cd : ∀ V, Below n W0 V → V.cell? ⟨B + 5, 0, none⟩ = some (.int .i64 (p : Int)) := fun V hb => (HC V hb).dn
    have hF : ∀ V, Below n W0 V → Calls Tryd.prog 36 #[v] V fun e w' => e = .returned (.agg (frow (101 + (i : Int)) true (z))) ∧ Below V.heap.size V w' := hF
    have hF := Lib.hid hF
    have HCD := Lib.hid cd
    clear cd
    have ch := (HC W1 hb1).how
    have ca := (HC W1 hb1).at_
    go_wp2_with fail
    refine (placed_any (101 + (i : Int)) z _ (by omega)).mono ?_
    rintro e W2 ⟨rfl, hb2⟩
    have hr2 := (hb2.block _ hDl).trans hr
    have hb3 := hb1.trans (hb2.mono (by omega))
    clear hb1 hb2 hr hDl ch ca
    have cb2 := (HC W2 hb3).bf
    have cq2 := (HC W2 hb3).af
    have hb4 : Below n W0 (W2.setRow D (frow (101 + (i : Int)) true (z))) := below_setRow hb3 hD _
    have hr4 : (W2.setRow D (frow (101 + (i : Int)) true (z))).heap[D]? = some (.cells (frow (101 + (i : Int)) true (z)) 45 (0, 0)) := setRow_heap _ _ _ _ _ _ hr2
    have cb4 := (HC _ hb4).bf
    have cq4 := (HC _ hb4).af
    go_upto_region 16 with (refine wpList_store_row rfl 45 _ _ rfl _ _ rfl rfl _ _ hr2 (by kernel_rfl) (by rfl) (frow_one _ _ _) ?_)
    generalize W2.setRow D (frow (101 + (i : Int)) true (z)) = W3 at *
    clear hr2 hb3 cb2 cq2 cb4 cq4
    have hn3 : n ≤ W3.heap.size := by have := (Array.getElem?_eq_some_iff.1 hr4).1; omega
    have hS : Calls Tryd.prog 28 #[v, .agg (frow (101 + (i : Int)) true (z))] W3 fun e w' => e = .returned (.bool true) ∧ Below W3.heap.size W3 w' :=
      (sameG v (101 + (i : Int)) (z) (101 + (i : Int)) (z) true true W3 (fun V hb => hF.out V (hb4.trans (hb.mono hn3)))).mono fun _ _ ⟨h1, h2⟩ => ⟨by simpa using h1, h2⟩
    go_wp2_with (refine wpList_load_row rfl 45 _ rfl _ rfl _ _ _ _ hr4 Tryd.underlying45 rfl (by kernel_rfl) ?_)
    refine hS.mono ?_
    rintro e W5 ⟨rfl, hb5⟩
    have hb6 := hb4.trans (hb5.mono hn3)
    have cd6 := HCD.out W5 hb6
    have HB6 := Lib.hid (HC W5 hb6).b
    clear hS hb4 hb5 hb6 hr4 HC HCD hF
    go_wp2_with fail
    go_ret
    rw [HBB.out]
    exact ⟨rfl, HB6.out⟩
  · have cd : ∀ V, Below n W0 V → V.cell? ⟨B + 5, 0, none⟩ = some (.int .i64 (p : Int)) := fun V hb => (HC V hb).dn
    have hF : ∀ V, Below n W0 V → Calls Tryd.prog 36 #[v] V fun e w' => e = .returned (.agg (frow (101 + (i : Int)) false (0))) ∧ Below V.heap.size V w' := hF
    have hF := Lib.hid hF
    have HCD := Lib.hid cd
    clear cd
    have ch := (HC W1 hb1).how
    have ca := (HC W1 hb1).at_
    go_wp2_with fail
    refine (bare_any (101 + (i : Int)) _).mono ?_
    rintro e W2 ⟨rfl, hb2⟩
    have hr2 := (hb2.block _ hDl).trans hr
    have hb3 := hb1.trans (hb2.mono (by omega))
    clear hb1 hb2 hr hDl ch ca
    have cb2 := (HC W2 hb3).bf
    have cq2 := (HC W2 hb3).af
    have hb4 : Below n W0 (W2.setRow D (frow (101 + (i : Int)) false (0))) := below_setRow hb3 hD _
    have hr4 : (W2.setRow D (frow (101 + (i : Int)) false (0))).heap[D]? = some (.cells (frow (101 + (i : Int)) false (0)) 45 (0, 0)) := setRow_heap _ _ _ _ _ _ hr2
    have cb4 := (HC _ hb4).bf
    have cq4 := (HC _ hb4).af
    go_upto_region 16 with (refine wpList_store_row rfl 45 _ _ rfl _ _ rfl rfl _ _ hr2 (by kernel_rfl) (by rfl) (frow_one _ _ _) ?_)
    generalize W2.setRow D (frow (101 + (i : Int)) false (0)) = W3 at *
    clear hr2 hb3 cb2 cq2 cb4 cq4
    have hn3 : n ≤ W3.heap.size := by have := (Array.getElem?_eq_some_iff.1 hr4).1; omega
    have hS : Calls Tryd.prog 28 #[v, .agg (frow (101 + (i : Int)) false (0))] W3 fun e w' => e = .returned (.bool true) ∧ Below W3.heap.size W3 w' :=
      (sameG v (101 + (i : Int)) (0) (101 + (i : Int)) (0) false false W3 (fun V hb => hF.out V (hb4.trans (hb.mono hn3)))).mono fun _ _ ⟨h1, h2⟩ => ⟨by simpa using h1, h2⟩
    go_wp2_with (refine wpList_load_row rfl 45 _ rfl _ rfl _ _ _ _ hr4 Tryd.underlying45 rfl (by kernel_rfl) ?_)
    refine hS.mono ?_
    rintro e W5 ⟨rfl, hb5⟩
    have hb6 := hb4.trans (hb5.mono hn3)
    have cd6 := HCD.out W5 hb6
    have HB6 := Lib.hid (HC W5 hb6).b
    clear hS hb4 hb5 hb6 hr4 HC HCD hF
    go_wp2_with fail
    go_ret
    rw [HBB.out]
    exact ⟨rfl, HB6.out⟩
  · have cd : ∀ V, Below n W0 V → V.cell? ⟨B + 5, 0, none⟩ = some (.int .i64 ((p : Int) + (q : Int))) := fun V hb => by have := (HC V hb).dn; simpa [wantD] using this
    have hF : ∀ V, Below n W0 V → Calls Tryd.prog 36 #[v] V fun e w' => e = .returned (.agg (frow (0) false (0))) ∧ Below V.heap.size V w' := hF
    have hF := Lib.hid hF
    have HCD := Lib.hid cd
    clear cd
    have ch := (HC W1 hb1).how
    have ca := (HC W1 hb1).at_
    go_wp2_with fail
    refine (none_any _).mono ?_
    rintro e W2 ⟨rfl, hb2⟩
    have hr2 := (hb2.block _ hDl).trans hr
    have hb3 := hb1.trans (hb2.mono (by omega))
    clear hb1 hb2 hr hDl ch ca
    have cb2 := (HC W2 hb3).bf
    have cq2 := (HC W2 hb3).af
    have hb4 : Below n W0 (W2.setRow D (frow (0) false (0))) := below_setRow hb3 hD _
    have hr4 : (W2.setRow D (frow (0) false (0))).heap[D]? = some (.cells (frow (0) false (0)) 45 (0, 0)) := setRow_heap _ _ _ _ _ _ hr2
    have cb4 := (HC _ hb4).bf
    have cq4 := (HC _ hb4).af
    go_upto_region 16 with (refine wpList_store_row rfl 45 _ _ rfl _ _ rfl rfl _ _ hr2 (by kernel_rfl) (by rfl) (frow_one _ _ _) ?_)
    generalize W2.setRow D (frow (0) false (0)) = W3 at *
    clear hr2 hb3 cb2 cq2 cb4 cq4
    have hn3 : n ≤ W3.heap.size := by have := (Array.getElem?_eq_some_iff.1 hr4).1; omega
    have hS : Calls Tryd.prog 28 #[v, .agg (frow (0) false (0))] W3 fun e w' => e = .returned (.bool true) ∧ Below W3.heap.size W3 w' :=
      (sameG v (0) (0) (0) (0) false false W3 (fun V hb => hF.out V (hb4.trans (hb.mono hn3)))).mono fun _ _ ⟨h1, h2⟩ => ⟨by simpa using h1, h2⟩
    go_wp2_with (refine wpList_load_row rfl 45 _ rfl _ rfl _ _ _ _ hr4 Tryd.underlying45 rfl (by kernel_rfl) ?_)
    refine hS.mono ?_
    rintro e W5 ⟨rfl, hb5⟩
    have hb6 := hb4.trans (hb5.mono hn3)
    have cd6 := HCD.out W5 hb6
    have HB6 := Lib.hid (HC W5 hb6).b
    clear hS hb4 hb5 hb6 hr4 HC HCD hF
    go_wp2_with fail
    go_ret
    rw [HBB.out]
    exact ⟨rfl, HB6.out⟩
  · have cd : ∀ V, Below n W0 V → V.cell? ⟨B + 5, 0, none⟩ = some (.int .i64 (p : Int)) := fun V hb => (HC V hb).dn
    have hF : ∀ V, Below n W0 V → Calls Tryd.prog 36 #[v] V fun e w' => e = .returned (.agg (frow (106) false (0))) ∧ Below V.heap.size V w' := hF
    have hF := Lib.hid hF
    have HCD := Lib.hid cd
    clear cd
    have ch := (HC W1 hb1).how
    have ca := (HC W1 hb1).at_
    go_upto_region 16 with fail
    have hb4 := hb1
    have hr4 := hr
    generalize W1 = W3 at *
    clear ch ca
    have hn3 : n ≤ W3.heap.size := by have := (Array.getElem?_eq_some_iff.1 hr4).1; omega
    have hS : Calls Tryd.prog 28 #[v, .agg (frow (106) false (0))] W3 fun e w' => e = .returned (.bool true) ∧ Below W3.heap.size W3 w' :=
      (sameG v (106) (0) (106) (0) false false W3 (fun V hb => hF.out V (hb4.trans (hb.mono hn3)))).mono fun _ _ ⟨h1, h2⟩ => ⟨by simpa using h1, h2⟩
    go_wp2_with (refine wpList_load_row rfl 45 _ rfl _ rfl _ _ _ _ hr4 Tryd.underlying45 rfl (by kernel_rfl) ?_)
    refine hS.mono ?_
    rintro e W5 ⟨rfl, hb5⟩
    have hb6 := hb4.trans (hb5.mono hn3)
    have cd6 := HCD.out W5 hb6
    have HB6 := Lib.hid (HC W5 hb6).b
    clear hS hb4 hb5 hb6 hr4 HC HCD hF
    go_wp2_with fail
    go_ret
    rw [HBB.out]
    exact ⟨rfl, HB6.out⟩
  · have cd : ∀ V, Below n W0 V → V.cell? ⟨B + 5, 0, none⟩ = some (.int .i64 (p : Int)) := fun V hb => (HC V hb).dn
    have hF : ∀ V, Below n W0 V → Calls Tryd.prog 36 #[v] V fun e w' => e = .returned (.agg (frow (106) false (0))) ∧ Below V.heap.size V w' := hF
    have hF := Lib.hid hF
    have HCD := Lib.hid cd
    clear cd
    have ch := (HC W1 hb1).how
    have ca := (HC W1 hb1).at_
    go_upto_region 16 with fail
    have hb4 := hb1
    have hr4 := hr
    generalize W1 = W3 at *
    clear ch ca
    have hn3 : n ≤ W3.heap.size := by have := (Array.getElem?_eq_some_iff.1 hr4).1; omega
    have hS : Calls Tryd.prog 28 #[v, .agg (frow (106) false (0))] W3 fun e w' => e = .returned (.bool true) ∧ Below W3.heap.size W3 w' :=
      (sameG v (106) (0) (106) (0) false false W3 (fun V hb => hF.out V (hb4.trans (hb.mono hn3)))).mono fun _ _ ⟨h1, h2⟩ => ⟨by simpa using h1, h2⟩
    go_wp2_with (refine wpList_load_row rfl 45 _ rfl _ rfl _ _ _ _ hr4 Tryd.underlying45 rfl (by kernel_rfl) ?_)
    refine hS.mono ?_
    rintro e W5 ⟨rfl, hb5⟩
    have hb6 := hb4.trans (hb5.mono hn3)
    have cd6 := HCD.out W5 hb6
    have HB6 := Lib.hid (HC W5 hb6).b
    clear hS hb4 hb5 hb6 hr4 HC HCD hF
    go_wp2_with fail
    go_ret
    rw [HBB.out]
    exact ⟨rfl, HB6.out⟩
  · have cd : ∀ V, Below n W0 V → V.cell? ⟨B + 5, 0, none⟩ = some (.int .i64 (p : Int)) := fun V hb => (HC V hb).dn
    have hF : ∀ V, Below n W0 V → Calls Tryd.prog 36 #[v] V fun e w' => e = .returned (.agg (frow (106) false (0))) ∧ Below V.heap.size V w' := hF
    have hF := Lib.hid hF
    have HCD := Lib.hid cd
    clear cd
    have ch := (HC W1 hb1).how
    have ca := (HC W1 hb1).at_
    go_upto_region 16 with fail
    have hb4 := hb1
    have hr4 := hr
    generalize W1 = W3 at *
    clear ch ca
    have hn3 : n ≤ W3.heap.size := by have := (Array.getElem?_eq_some_iff.1 hr4).1; omega
    have hS : Calls Tryd.prog 28 #[v, .agg (frow (106) false (0))] W3 fun e w' => e = .returned (.bool true) ∧ Below W3.heap.size W3 w' :=
      (sameG v (106) (0) (106) (0) false false W3 (fun V hb => hF.out V (hb4.trans (hb.mono hn3)))).mono fun _ _ ⟨h1, h2⟩ => ⟨by simpa using h1, h2⟩
    go_wp2_with (refine wpList_load_row rfl 45 _ rfl _ rfl _ _ _ _ hr4 Tryd.underlying45 rfl (by kernel_rfl) ?_)
    refine hS.mono ?_
    rintro e W5 ⟨rfl, hb5⟩
    have hb6 := hb4.trans (hb5.mono hn3)
    have cd6 := HCD.out W5 hb6
    have HB6 := Lib.hid (HC W5 hb6).b
    clear hS hb4 hb5 hb6 hr4 HC HCD hF
    go_wp2_with fail
    go_ret
    rw [HBB.out]
    exact ⟨rfl, HB6.out⟩
  · have cd : ∀ V, Below n W0 V → V.cell? ⟨B + 5, 0, none⟩ = some (.int .i64 (p : Int)) := fun V hb => (HC V hb).dn
    have hF : ∀ V, Below n W0 V → Calls Tryd.prog 36 #[v] V fun e w' => e = .returned (.agg (frow (106) false (0))) ∧ Below V.heap.size V w' := hF
    have hF := Lib.hid hF
    have HCD := Lib.hid cd
    clear cd
    have ch := (HC W1 hb1).how
    have ca := (HC W1 hb1).at_
    go_upto_region 16 with fail
    have hb4 := hb1
    have hr4 := hr
    generalize W1 = W3 at *
    clear ch ca
    have hn3 : n ≤ W3.heap.size := by have := (Array.getElem?_eq_some_iff.1 hr4).1; omega
    have hS : Calls Tryd.prog 28 #[v, .agg (frow (106) false (0))] W3 fun e w' => e = .returned (.bool true) ∧ Below W3.heap.size W3 w' :=
      (sameG v (106) (0) (106) (0) false false W3 (fun V hb => hF.out V (hb4.trans (hb.mono hn3)))).mono fun _ _ ⟨h1, h2⟩ => ⟨by simpa using h1, h2⟩
    go_wp2_with (refine wpList_load_row rfl 45 _ rfl _ rfl _ _ _ _ hr4 Tryd.underlying45 rfl (by kernel_rfl) ?_)
    refine hS.mono ?_
    rintro e W5 ⟨rfl, hb5⟩
    have hb6 := hb4.trans (hb5.mono hn3)
    have cd6 := HCD.out W5 hb6
    have HB6 := Lib.hid (HC W5 hb6).b
    clear hS hb4 hb5 hb6 hr4 HC HCD hF
    go_wp2_with fail
    go_ret
    rw [HBB.out]
    exact ⟨rfl, HB6.out⟩
  · have cd : ∀ V, Below n W0 V → V.cell? ⟨B + 5, 0, none⟩ = some (.int .i64 (p : Int)) := fun V hb => (HC V hb).dn
    have hF : ∀ V, Below n W0 V → Calls Tryd.prog 36 #[v] V fun e w' => e = .returned (.agg (frow (106) true (z))) ∧ Below V.heap.size V w' := hF
    have hF := Lib.hid hF
    have HCD := Lib.hid cd
    clear cd
    have ch := (HC W1 hb1).how
    have ca := (HC W1 hb1).at_
    go_wp2_with fail
    refine (placed_any 106 z _ (by omega)).mono ?_
    rintro e W2 ⟨rfl, hb2⟩
    have hr2 := (hb2.block _ hDl).trans hr
    have hb3 := hb1.trans (hb2.mono (by omega))
    clear hb1 hb2 hr hDl ch ca
    have cb2 := (HC W2 hb3).bf
    have cq2 := (HC W2 hb3).af
    have hb4 : Below n W0 (W2.setRow D (frow (106) true (z))) := below_setRow hb3 hD _
    have hr4 : (W2.setRow D (frow (106) true (z))).heap[D]? = some (.cells (frow (106) true (z)) 45 (0, 0)) := setRow_heap _ _ _ _ _ _ hr2
    have cb4 := (HC _ hb4).bf
    have cq4 := (HC _ hb4).af
    go_upto_region 16 with (refine wpList_store_row rfl 45 _ _ rfl _ _ rfl rfl _ _ hr2 (by kernel_rfl) (by rfl) (frow_one _ _ _) ?_)
    generalize W2.setRow D (frow (106) true (z)) = W3 at *
    clear hr2 hb3 cb2 cq2 cb4 cq4
    have hn3 : n ≤ W3.heap.size := by have := (Array.getElem?_eq_some_iff.1 hr4).1; omega
    have hS : Calls Tryd.prog 28 #[v, .agg (frow (106) true (z))] W3 fun e w' => e = .returned (.bool true) ∧ Below W3.heap.size W3 w' :=
      (sameG v (106) (z) (106) (z) true true W3 (fun V hb => hF.out V (hb4.trans (hb.mono hn3)))).mono fun _ _ ⟨h1, h2⟩ => ⟨by simpa using h1, h2⟩
    go_wp2_with (refine wpList_load_row rfl 45 _ rfl _ rfl _ _ _ _ hr4 Tryd.underlying45 rfl (by kernel_rfl) ?_)
    refine hS.mono ?_
    rintro e W5 ⟨rfl, hb5⟩
    have hb6 := hb4.trans (hb5.mono hn3)
    have cd6 := HCD.out W5 hb6
    have HB6 := Lib.hid (HC W5 hb6).b
    clear hS hb4 hb5 hb6 hr4 HC HCD hF
    go_wp2_with fail
    go_ret
    rw [HBB.out]
    exact ⟨rfl, HB6.out⟩
  · have cd : ∀ V, Below n W0 V → V.cell? ⟨B + 5, 0, none⟩ = some (.int .i64 (p : Int)) := fun V hb => (HC V hb).dn
    have hF : ∀ V, Below n W0 V → Calls Tryd.prog 36 #[v] V fun e w' => e = .returned (.agg (frow (101 + (i : Int)) true (z))) ∧ Below V.heap.size V w' := hF
    have hF := Lib.hid hF
    have HCD := Lib.hid cd
    clear cd
    have ch := (HC W1 hb1).how
    have ca := (HC W1 hb1).at_
    go_wp2_with fail
    refine (placed_any (101 + (i : Int)) z _ (by omega)).mono ?_
    rintro e W2 ⟨rfl, hb2⟩
    have hr2 := (hb2.block _ hDl).trans hr
    have hb3 := hb1.trans (hb2.mono (by omega))
    clear hb1 hb2 hr hDl ch ca
    have cb2 := (HC W2 hb3).bf
    have cq2 := (HC W2 hb3).af
    have hb4 : Below n W0 (W2.setRow D (frow (101 + (i : Int)) true (z))) := below_setRow hb3 hD _
    have hr4 : (W2.setRow D (frow (101 + (i : Int)) true (z))).heap[D]? = some (.cells (frow (101 + (i : Int)) true (z)) 45 (0, 0)) := setRow_heap _ _ _ _ _ _ hr2
    have cb4 := (HC _ hb4).bf
    have cq4 := (HC _ hb4).af
    go_upto_region 16 with (refine wpList_store_row rfl 45 _ _ rfl _ _ rfl rfl _ _ hr2 (by kernel_rfl) (by rfl) (frow_one _ _ _) ?_)
    generalize W2.setRow D (frow (101 + (i : Int)) true (z)) = W3 at *
    clear hr2 hb3 cb2 cq2 cb4 cq4
    have hn3 : n ≤ W3.heap.size := by have := (Array.getElem?_eq_some_iff.1 hr4).1; omega
    have hS : Calls Tryd.prog 28 #[v, .agg (frow (101 + (i : Int)) true (z))] W3 fun e w' => e = .returned (.bool true) ∧ Below W3.heap.size W3 w' :=
      (sameG v (101 + (i : Int)) (z) (101 + (i : Int)) (z) true true W3 (fun V hb => hF.out V (hb4.trans (hb.mono hn3)))).mono fun _ _ ⟨h1, h2⟩ => ⟨by simpa using h1, h2⟩
    go_wp2_with (refine wpList_load_row rfl 45 _ rfl _ rfl _ _ _ _ hr4 Tryd.underlying45 rfl (by kernel_rfl) ?_)
    refine hS.mono ?_
    rintro e W5 ⟨rfl, hb5⟩
    have hb6 := hb4.trans (hb5.mono hn3)
    have cd6 := HCD.out W5 hb6
    have HB6 := Lib.hid (HC W5 hb6).b
    clear hS hb4 hb5 hb6 hr4 HC HCD hF
    go_wp2_with fail
    go_ret
    rw [HBB.out]
    exact ⟨rfl, HB6.out⟩
end Go.Proofs.YthfpmjmgdeefdaaDoor
