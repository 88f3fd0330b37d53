import Derived.Test.YthfpmjmgdeefdaaDoorTrj
/-
  TrapDeep: its walk.
-/
namespace Go.Proofs.YthfpmjmgdeefdaaDoor
open Go.RowKit

set_option maxRecDepth 100000 in
theorem deep1_any (E : Nat → Addr) (k i : Nat) (z : Int) (again : Bool) (b0 b1 b2 b3 b4 : Nat) (w : World) (hk1 : 0 < k) (hk2 : k ≤ 20) (hi : i < 19) (hE : ErrsAt E w)
    (c0 : w.cell? ⟨b0, 0, none⟩ = some (.int .i64 (k : Int))) (c1 : w.cell? ⟨b1, 0, none⟩ = some (.int .i64 (101 + (i : Int)))) (c2 : w.cell? ⟨b2, 0, none⟩ = some (.int .i64 z)) (c3 : w.cell? ⟨b3, 0, none⟩ = some (.bool again)) (c4 : w.cell? ⟨b4, 0, none⟩ = some (errV (E i))) :
    Calls Tryd.prog 12 #[.pointer (some ⟨b0, 0, none⟩), .pointer (some ⟨b1, 0, none⟩), .pointer (some ⟨b2, 0, none⟩), .pointer (some ⟨b3, 0, none⟩), .pointer (some ⟨b4, 0, none⟩)] w fun e w' => e = .returned (.bool true) ∧ Below w.heap.size w w' := by
  go_enter Tryd.func12, Tryd.ntmps12
  go_wp2_with fail
  refine (nested_any E k i z again w hk1 hk2 hi hE).mono ?_
  rintro e W1 ⟨rfl, hb1⟩
  go_wp2_with fail
  go_ret
  exact ⟨rfl, hb1⟩

/-- TrapDeep's variables -/
structure DV (E : Nat → Addr) (w : World) (B : Nat) (d z : Int) (again : Bool) (W : World) : Prop where
  c0 : W.cell? ⟨B, 0, none⟩ = some (.int .i64 d)
  f0 : W.frozen? ⟨B, 0, none⟩ = false
  c1 : W.cell? ⟨B + 1, 0, none⟩ = some (.int .i64 z)
  c2 : W.cell? ⟨B + 2, 0, none⟩ = some (.bool again)
  lt : B + 2 < W.heap.size
  b : Below B w W
theorem DV.below {E : Nat → Addr} {w : World} {B : Nat} {d z : Int} {again : Bool} {W W' : World} (h : DV E w B d z again W) (hb : Below W.heap.size W W') : DV E w B d z again W' := by
  have hl := h.lt
  exact ⟨(World.cell?_of_block (hb.block _ (show B < W.heap.size by omega))).trans h.c0, (hb.frozen (p := ⟨B, 0, none⟩) (show B < W.heap.size by omega)).trans h.f0, (World.cell?_of_block (hb.block _ (show B + 1 < W.heap.size by omega))).trans h.c1, (World.cell?_of_block (hb.block _ (show B + 2 < W.heap.size by omega))).trans h.c2, Nat.lt_of_lt_of_le hl hb.size, h.b.trans (hb.mono (by omega))⟩

set_option maxRecDepth 100000 in
set_option maxHeartbeats 1600000 in
theorem deep_walk (zd zn z : Int) (again : Bool) (w : World) (E : Nat → Addr) (hE : ErrsAt E w) :
    Calls Tryd.prog 4 #[.int .i64 zd, .int .i64 zn, .int .i64 z, .bool again] w fun e w' => e = .returned (.bool true) ∧ Below w.heap.size w w' := by
  obtain ⟨k, hk1, hk2⟩ := exists_mod zd 20 (by omega)
  have HK := Lib.hid hk1; clear hk1
  have hmf : ∀ (fn : Fn) (first cap : Array Value) (w : World), (Instr.makeFunc fn first cap).run Tryd.prog w = .ok (.func fn first cap) w := fun _ _ _ _ => rfl
  go_enter Tryd.func4, Tryd.ntmps4
  go_upto_region 1 with (fail)
  refine wp_world (fun W => DV E w w.heap.size zd z again W) ?_ ?_
  · refine ⟨?_, ?_, ?_, ?_, ?_, by go_grown⟩
    all_goals simp [go_sem]
  rintro W0 h0
  simp only [Nat.add_assoc, Nat.reduceAdd]
  generalize hB : w.heap.size = B at *
  have HB := Lib.hid hB
  clear hB
  have HE : ∀ W, Below B w W → ErrsAt E W := fun W hb => hE.below (by rw [HB.out]; exact hb)
  clear hE
  go_wp2_with fail
  refine (first_any E W0 (HE _ h0.b)).mono ?_
  rintro e W1 ⟨rfl, hb1⟩
  have h1 := h0.below hb1
  clear h0 hb1
  have c0 := h1.c0
  go_wp2_with fail
  refine (number_nat zd 20 k W1 (by omega) HK.out).mono ?_
  rintro e W2 ⟨rfl, m, rfl⟩
  have h2 : DV E w B zd z again (W1.drewN m) := h1.below (Below.drewNr m)
  generalize W1.drewN m = W2 at *
  clear h1 c0
  have c0 := h2.c0
  have f0 := h2.f0
  have hl := h2.lt
  have ho : Oth B W2.heap.size W2 (W2.setCell ⟨B, 0, none⟩ (.int .i64 ((k : Int) + 1))) := Oth.setCell (S := B) (Oth.of (Below.refl _ _)) ⟨B, 0, none⟩ (.inl rfl) _
  have h3 : DV E w B ((k : Int) + 1) z again (W2.setCell ⟨B, 0, none⟩ (.int .i64 ((k : Int) + 1))) :=
    ⟨by simp [go_sem, c0], by simpa [go_sem] using f0, (ho.cell 0 (by omega) (by omega)).trans h2.c1, (ho.cell 0 (by omega) (by omega)).trans h2.c2, Nat.lt_of_lt_of_le hl ho.size, h2.b.trans (ho.below (by omega) (by omega))⟩
  clear ho hl h2
  have hk21 : k < 21 := by omega
  go_upto_region 5 with (fail)
  refine wp_world (fun W => DV E w B ((k : Int) + 1) z again W) h3 ?_
  clear h3 c0 f0
  clear W2
  rintro W3 h3
  go_wp2_with fail
  refine (errs_any E zn W3 (HE _ h3.b)).mono ?_
  rintro e W4 ⟨rfl, hb4⟩
  have h4 := h3.below hb4
  clear h3 hb4
  obtain ⟨i, hi⟩ : ∃ i, i = eidx (zn % 10).toNat := ⟨_, rfl⟩
  have hi19 : i < 19 := by rw [hi]; exact eidx_lt _
  rw [← hi]
  clear hi
  go_upto_region 6 with (fail)
  have hbA : Below W4.heap.size W4 ((W4.alloc (.cells #[errV (E i)] 25)).alloc (.cells #[.int .i64 (101 + (i : Int))] 3)) := ((Below.refl _ _).alloc (Nat.le_refl _) _).alloc (by simp) _
  refine wp_world (fun W => DV E w B ((k : Int) + 1) z again W ∧ W.cell? ⟨W4.heap.size, 0, none⟩ = some (errV (E i)) ∧ W.cell? ⟨W4.heap.size + 1, 0, none⟩ = some (.int .i64 (101 + (i : Int)))) ⟨h4.below hbA, by simp [go_sem], by simp [go_sem]⟩ ?_
  clear hbA
  generalize W4.heap.size = D at *
  clear h4
  clear W4
  rintro W4 ⟨h4, ce, cc⟩
  have hbA : Below W4.heap.size W4 (W4.alloc (.cells #[.bool false] 4)) := (Below.refl _ _).alloc (Nat.le_refl _) _
  have h5 := h4.below hbA
  have hH := deep1_any E (k + 1) i z again B (D + 1) (B + 1) (B + 2) D _ (by omega) (by omega) hi19 (HE _ h5.b) (by simpa using h5.c0) ((World.cell?_of_block (hbA.block _ (World.block_lt_of_cell? W4 _ cc))).trans cc) h5.c1 h5.c2 ((World.cell?_of_block (hbA.block _ (World.block_lt_of_cell? W4 _ ce))).trans ce)
  have HBW := Lib.hid h4.b
  have hl4 := h4.lt
  clear h4 h5 ce cc
  go_wp2_with fail
  refine (calm_any _ _ true _ (fun _ _ => by kernel_rfl) (hH.mono ?_)).mono ?_
  · rintro e w' ⟨rfl, hb⟩
    exact ⟨rfl, by simpa using hb⟩
  rintro e W5 ⟨rfl, hb5⟩
  go_wp2_with fail
  go_ret
  rw [HB.out]
  exact ⟨rfl, HBW.out.trans (hb5.mono (by omega))⟩
end Go.Proofs.YthfpmjmgdeefdaaDoor
