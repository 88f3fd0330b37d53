import Derived.Test.YthfpmjmgdeefdaaDoorTrn
/-
  TrapCatches: its walk.
-/
namespace Go.Proofs.YthfpmjmgdeefdaaDoor
open Go.RowKit

set_option maxRecDepth 100000 in
theorem catches1_any (E : Nat → Addr) (h : Nat) (z : Int) (p q i : Nat) (b0 b1 b2 b3 b4 b5 : Nat) (w : World) (hh : h < 9) (hp : p ≤ 50) (hq : q ≤ 50) (hi : i < 19) (hE : ErrsAt E w)
    (c0 : w.cell? ⟨b0, 0, none⟩ = some (.int .i64 (h : Int))) (c1 : w.cell? ⟨b1, 0, none⟩ = some (.int .i64 (101 + (i : Int)))) (c2 : w.cell? ⟨b2, 0, none⟩ = some (.int .i64 z)) (c3 : w.cell? ⟨b3, 0, none⟩ = some (.int .i64 (p : Int))) (c4 : w.cell? ⟨b4, 0, none⟩ = some (.int .i64 (q : Int))) (c5 : w.cell? ⟨b5, 0, none⟩ = some (errV (E i))) :
    Calls Tryd.prog 10 #[.pointer (some ⟨b0, 0, none⟩), .pointer (some ⟨b1, 0, none⟩), .pointer (some ⟨b2, 0, none⟩), .pointer (some ⟨b3, 0, none⟩), .pointer (some ⟨b4, 0, none⟩), .pointer (some ⟨b5, 0, none⟩)] w fun e w' => e = .returned (.bool true) ∧ Below w.heap.size w w' := by
  go_enter Tryd.func10, Tryd.ntmps10
  go_wp2_with fail
  refine (caughtW_any E h z p q i w hh hp hq hi hE).mono ?_
  rintro e W1 ⟨rfl, hb1⟩
  go_wp2_with fail
  go_ret
  exact ⟨rfl, hb1⟩

/-- TrapCatches' variables -/
structure QV (w : World) (B : Nat) (h z p q : Int) (W : World) : Prop where
  c0 : W.cell? ⟨B, 0, none⟩ = some (.int .i64 h)
  f0 : W.frozen? ⟨B, 0, none⟩ = false
  c1 : W.cell? ⟨B + 1, 0, none⟩ = some (.int .i64 z)
  c2 : W.cell? ⟨B + 2, 0, none⟩ = some (.int .i64 p)
  f2 : W.frozen? ⟨B + 2, 0, none⟩ = false
  c3 : W.cell? ⟨B + 3, 0, none⟩ = some (.int .i64 q)
  f3 : W.frozen? ⟨B + 3, 0, none⟩ = false
  lt : B + 3 < W.heap.size
  b : Below B w W
section
variable {w : World} {B : Nat} {h z p q : Int} {W W' : World}
theorem QV.next {n : Nat} (x : QV w B h z p q W) (hn : B + 4 ≤ n) (hb : Below n W W') : QV w B h z p q W' :=
  ⟨(World.cell?_of_block (hb.block _ (show B < n by omega))).trans x.c0, (hb.frozen (p := ⟨B, 0, none⟩) (show B < n by omega)).trans x.f0, (World.cell?_of_block (hb.block _ (show B + 1 < n by omega))).trans x.c1, (World.cell?_of_block (hb.block _ (show B + 2 < n by omega))).trans x.c2, (hb.frozen (p := ⟨B + 2, 0, none⟩) (show B + 2 < n by omega)).trans x.f2, (World.cell?_of_block (hb.block _ (show B + 3 < n by omega))).trans x.c3, (hb.frozen (p := ⟨B + 3, 0, none⟩) (show B + 3 < n by omega)).trans x.f3, Nat.lt_of_lt_of_le x.lt hb.size, x.b.trans (hb.mono (by omega))⟩
theorem oth_set (W : World) (b : Nat) (v : Value) : Oth b W.heap.size W (W.setCell ⟨b, 0, none⟩ v) := Oth.setCell (S := b) (Oth.of (Below.refl _ _)) ⟨b, 0, none⟩ (.inl rfl) v
theorem QV.set0 (x : QV w B h z p q W) (v : Int) : QV w B v z p q (W.setCell ⟨B, 0, none⟩ (.int .i64 v)) := by
  have ho := oth_set W B (.int .i64 v)
  have hl := x.lt
  have c0 := x.c0
  have f0 := x.f0
  exact ⟨by simp [go_sem, c0], by simpa [go_sem] using f0, (ho.cell 0 (by omega) (by omega)).trans x.c1, (ho.cell 0 (by omega) (by omega)).trans x.c2, (ho.frozen (by omega) (by omega)).trans x.f2, (ho.cell 0 (by omega) (by omega)).trans x.c3, (ho.frozen (by omega) (by omega)).trans x.f3, Nat.lt_of_lt_of_le hl ho.size, x.b.trans (ho.below (by omega) (by omega))⟩
theorem QV.set2 (x : QV w B h z p q W) (v : Int) : QV w B h z v q (W.setCell ⟨B + 2, 0, none⟩ (.int .i64 v)) := by
  have ho := oth_set W (B + 2) (.int .i64 v)
  have hl := x.lt
  have c2 := x.c2
  have f2 := x.f2
  exact ⟨(ho.cell 0 (by omega) (by omega)).trans x.c0, (ho.frozen (by omega) (by omega)).trans x.f0, (ho.cell 0 (by omega) (by omega)).trans x.c1, by simp [go_sem, c2], by simpa [go_sem] using f2, (ho.cell 0 (by omega) (by omega)).trans x.c3, (ho.frozen (by omega) (by omega)).trans x.f3, Nat.lt_of_lt_of_le hl ho.size, x.b.trans (ho.below (by omega) (by omega))⟩
theorem QV.set3 (x : QV w B h z p q W) (v : Int) : QV w B h z p v (W.setCell ⟨B + 3, 0, none⟩ (.int .i64 v)) := by
  have ho := oth_set W (B + 3) (.int .i64 v)
  have hl := x.lt
  have c3 := x.c3
  have f3 := x.f3
  exact ⟨(ho.cell 0 (by omega) (by omega)).trans x.c0, (ho.frozen (by omega) (by omega)).trans x.f0, (ho.cell 0 (by omega) (by omega)).trans x.c1, (ho.cell 0 (by omega) (by omega)).trans x.c2, (ho.frozen (by omega) (by omega)).trans x.f2, by simp [go_sem, c3], by simpa [go_sem] using f3, Nat.lt_of_lt_of_le hl ho.size, x.b.trans (ho.below (by omega) (by omega))⟩
end

set_option maxRecDepth 100000 in
set_option maxHeartbeats 1600000 in
theorem catches_walk (zh zn z zp zq : Int) (w : World) (E : Nat → Addr) (hE : ErrsAt E w) :
    Calls Tryd.prog 3 #[.int .i64 zh, .int .i64 zn, .int .i64 z, .int .i64 zp, .int .i64 zq] w fun e w' => e = .returned (.bool true) ∧ Below w.heap.size w w' := by
  obtain ⟨h, hh1, hh2⟩ := exists_mod zh 9 (by omega)
  have HH := Lib.hid hh1; clear hh1
  obtain ⟨p, hp1, hp2⟩ := exists_mod zp 50 (by omega)
  have HP := Lib.hid hp1; clear hp1
  obtain ⟨q, hq1, hq2⟩ := exists_mod zq 50 (by omega)
  have HQ := Lib.hid hq1; clear hq1
  have hmf : ∀ (fn : Fn) (first cap : Array Value) (w : World), (Instr.makeFunc fn first cap).run Tryd.prog w = .ok (.func fn first cap) w := fun _ _ _ _ => rfl
  go_enter Tryd.func3, Tryd.ntmps3
  go_upto_region 1 with (fail)
  refine wp_world (fun W => QV w w.heap.size zh z zp zq W) ?_ ?_
  · refine ⟨?_, ?_, ?_, ?_, ?_, ?_, ?_, ?_, by go_grown⟩
    all_goals simp [go_sem]
  rintro W0 h0
  simp only [Nat.add_assoc, Nat.reduceAdd]
  generalize hB : w.heap.size = B at *
  have HB := Lib.hid hB
  clear hB
  have HE : ∀ W, Below B w W → ErrsAt E W := fun W hb => hE.below (by rw [HB.out]; exact hb)
  clear hE
  go_wp2_with fail
  refine (first_any E W0 (HE _ h0.b)).mono ?_
  rintro e W1 ⟨rfl, hb1⟩
  have h1 := h0.next h0.lt hb1
  clear h0 hb1
  have c2 := h1.c2
  go_wp2_with fail
  refine (number_nat zp 50 p W1 (by omega) HP.out).mono ?_
  rintro e W2 ⟨rfl, m, rfl⟩
  have h2 : QV w B zh z zp zq (W1.drewN m) := h1.next h1.lt (Below.drewNr m)
  generalize W1.drewN m = W2 at *
  clear h1 c2
  have c2 := h2.c2
  have f2 := h2.f2
  have h3 := h2.set2 (p : Int)
  go_upto_region 5 with (fail)
  refine wp_world (fun W => QV w B zh z (p : Int) zq W) h3 ?_
  clear h3 h2 c2 f2
  clear W2 W1 W0
  rintro W1 h1
  have c3 := h1.c3
  go_wp2_with fail
  refine (number_nat zq 50 q W1 (by omega) HQ.out).mono ?_
  rintro e W2 ⟨rfl, m, rfl⟩
  have h2 : QV w B zh z (p : Int) zq (W1.drewN m) := h1.next h1.lt (Below.drewNr m)
  generalize W1.drewN m = W2 at *
  clear h1 c3
  have c3 := h2.c3
  have f3 := h2.f3
  have h3 := h2.set3 (q : Int)
  go_upto_region 6 with (fail)
  refine wp_world (fun W => QV w B zh z (p : Int) (q : Int) W) h3 ?_
  clear h3 h2 c3 f3
  clear W2 W1
  rintro W3 h3
  go_wp2_with fail
  refine (errs_any E zn W3 (HE _ h3.b)).mono ?_
  rintro e W4 ⟨rfl, hb4⟩
  have h4 := h3.next h3.lt hb4
  clear h3 hb4
  obtain ⟨i, hi⟩ : ∃ i, i = eidx (zn % 10).toNat := ⟨_, rfl⟩
  have hi19 : i < 19 := by rw [hi]; exact eidx_lt _
  rw [← hi]
  clear hi
  go_upto_region 7 with (fail)
  have hbA : Below W4.heap.size W4 ((W4.alloc (.cells #[errV (E i)] 25)).alloc (.cells #[.int .i64 (101 + (i : Int))] 3)) := ((Below.refl _ _).alloc (Nat.le_refl _) _).alloc (by simp) _
  have hD0 := h4.lt
  refine wp_world (fun W => QV w B zh z (p : Int) (q : Int) W ∧ W.cell? ⟨W4.heap.size, 0, none⟩ = some (errV (E i)) ∧ W.cell? ⟨W4.heap.size + 1, 0, none⟩ = some (.int .i64 (101 + (i : Int)))) ⟨h4.next h4.lt hbA, by simp [go_sem], by simp [go_sem]⟩ ?_
  clear hbA
  generalize W4.heap.size = D at *
  clear h4
  clear W4
  rintro W4 ⟨h4, ce, cc⟩
  have c0 := h4.c0
  go_wp2_with fail
  refine (number_nat zh 9 h W4 (by omega) HH.out).mono ?_
  rintro e W5 ⟨rfl, m, rfl⟩
  have h5 : QV w B zh z (p : Int) (q : Int) (W4.drewN m) := h4.next h4.lt (Below.drewNr m)
  have ce : (W4.drewN m).cell? ⟨D, 0, none⟩ = some (errV (E i)) := ce
  have cc : (W4.drewN m).cell? ⟨D + 1, 0, none⟩ = some (.int .i64 (101 + (i : Int))) := cc
  generalize W4.drewN m = W5 at *
  clear h4 c0
  have c0 := h5.c0
  have f0 := h5.f0
  have h6 := h5.set0 (h : Int)
  have ho := oth_set W5 B (.int .i64 (h : Int))
  have ce6 := (ho.cell 0 (World.block_lt_of_cell? W5 _ ce) (show D ≠ B by omega)).trans ce
  have cc6 := (ho.cell 0 (World.block_lt_of_cell? W5 _ cc) (show D + 1 ≠ B by omega)).trans cc
  go_upto_region 8 with (fail)
  refine wp_world (fun W => QV w B (h : Int) z (p : Int) (q : Int) W ∧ W.cell? ⟨D, 0, none⟩ = some (errV (E i)) ∧ W.cell? ⟨D + 1, 0, none⟩ = some (.int .i64 (101 + (i : Int)))) ⟨h6, ce6, cc6⟩ ?_
  clear h6 h5 ce6 cc6 ce cc ho c0 f0
  clear W5
  rintro W4 ⟨h4, ce, cc⟩
  have hbA : Below W4.heap.size W4 (W4.alloc (.cells #[.bool false] 4)) := (Below.refl _ _).alloc (Nat.le_refl _) _
  have h5 := h4.next h4.lt hbA
  have hH := catches1_any E h z p q i B (D + 1) (B + 1) (B + 2) (B + 3) D _ (by omega) (by omega) (by omega) hi19 (HE _ h5.b) h5.c0 ((World.cell?_of_block (hbA.block _ (World.block_lt_of_cell? W4 _ cc))).trans cc) h5.c1 h5.c2 h5.c3 ((World.cell?_of_block (hbA.block _ (World.block_lt_of_cell? W4 _ ce))).trans ce)
  have HBW := Lib.hid h4.b
  have hl4 := h4.lt
  clear h4 h5 ce cc
  go_wp2_with fail
  refine (calm_any _ _ true _ (fun _ _ => by kernel_rfl) (hH.mono ?_)).mono ?_
  · rintro e w' ⟨rfl, hb⟩
    exact ⟨rfl, by simpa using hb⟩
  rintro e W5 ⟨rfl, hb5⟩
  go_wp2_with fail
  go_ret
  rw [HB.out]
  exact ⟨rfl, HBW.out.trans (hb5.mono (by omega))⟩
end Go.Proofs.YthfpmjmgdeefdaaDoor
