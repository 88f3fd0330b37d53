import Derived.Test.YtkhbhfnfpognpaaFlc
import Derived.Test.YtkhbhfnfpognpaaNum
/-
  pace's methods, the document's; what comes first.
-/
namespace Go.Proofs.Ytkhbhfnfpognpaa
open Go.RowKit

theorem wpList_build {P : Program} {w : World} {ops : Array Oper} {rest : List Oper} {o : Oper} {a : Act} {Q : Exit → Act → World → Prop} (hgd : o.guard = none) (t : TypeId) (parts : Array (Nat × Operand)) (ho : o.op = .build t parts)
    (ps : Array (Nat × Value)) (hp : (parts.map fun (i, x) => (i, a.eval x)) = ps) (v : Value)
    (hz : ∀ w, (Instr.build t ps).run P w = .ok v w) (h : wpList P ops Q rest (a.put o.dst v) w) : wpList P ops Q (o :: rest) a w := by
  refine wpList_plain hgd fun K hK => ?_
  unfold Oper.wp execOp
  simp only [ho]
  simp [hp, hz, Result.andThen]
  exact hK _ _ h

theorem Only.setRow {g : Nat} {w w' : World} (h : Only g w w') (cs : Array Value) : Only g w (w'.setRow g cs) := by
  refine h.trans ?_
  unfold World.setRow
  exact ⟨rfl, rfl, rfl, by simp, fun k _ hk => by simp [Array.getElem?_modify, Ne.symm hk]⟩

theorem only_setRow (g : Nat) (w : World) (cs : Array Value) : Only g w (w.setRow g cs) := (Only.refl g w).setRow cs
def pcf (a b : Int) : Nat → Value := fun i => if i = 0 then .int .i64 a else .int .i64 b
/-- a pace lies there -/
def PcAt (g : Nat) (ty : TypeId) (a b : Int) (W : World) : Prop := W.rowIs g ty 2 (pcf a b)
section
variable {g : Nat} {ty : TypeId} {a b : Int} {W W' : World}
theorem PcAt.lt (h : PcAt g ty a b W) : g < W.heap.size := World.rowIs.lt h
theorem PcAt.c0 (h : PcAt g ty a b W) : W.cell? ⟨g, 0, none⟩ = some (.int .i64 a) := World.rowIs.cell h (i := 0) (by omega)
theorem PcAt.c1 (h : PcAt g ty a b W) : W.cell? ⟨g, 1, none⟩ = some (.int .i64 b) := World.rowIs.cell h (i := 1) (by omega)
theorem PcAt.frozen (h : PcAt g ty a b W) (i : Nat) : W.frozen? ⟨g, i, none⟩ = false := World.rowIs.frozen h i
theorem PcAt.set0 (h : PcAt g ty a b W) (c : Int) : PcAt g ty c b (W.setCell ⟨g, 0, none⟩ (.int .i64 c)) :=
  (World.rowIs.set h 0 _).congr fun i hi => by unfold pcf; split <;> rfl
theorem PcAt.set1 (h : PcAt g ty a b W) (c : Int) : PcAt g ty a c (W.setCell ⟨g, 1, none⟩ (.int .i64 c)) :=
  (World.rowIs.set h 1 _).congr fun i hi => by
    unfold pcf
    rcases i with _ | _ | i
    · rfl
    · rfl
    · omega
theorem PcAt.next (h : PcAt g ty a b W) (hb : Below W.heap.size W W') : PcAt g ty a b W' := World.rowIs.of_block h (hb.block _ h.lt)
theorem PcAt.other {k : Nat} (h : PcAt g ty a b W) (ho : Only k W W') (hne : g ≠ k) : PcAt g ty a b W' := World.rowIs.of_block h (ho.block _ h.lt hne)
end
def tickN (b : Int) : Int := if 0 < b then b - 1 else b

set_option maxRecDepth 100000 in
theorem pfail_any (g : Nat) (a b : Int) (w : World) (h : PcAt g 37 a b w) (ha : -1000000 ≤ a ∧ a ≤ 1000000) : Calls Try.prog 18 #[.pointer (some ⟨g, 0, none⟩)] w fun e w' => e = .returned (.bool (decide (10 < a + 1))) ∧ PcAt g 37 (a + 1) (delayN (a + 1)) w' ∧ Only g w w' := by
  have c0 := h.c0
  have f0 := h.frozen 0
  go_enter Try.func18, Try.ntmps18
  have d0 : decide (a < 9223372036854775807) = true := by simp; omega
  have HT : Hid (PcAt g 37 (a + 1) b (w.setCell ⟨g, 0, none⟩ (.int .i64 (a + 1))) ∧ Only g w (w.setCell ⟨g, 0, none⟩ (.int .i64 (a + 1)))) := Lib.hid ⟨h.set0 _, (Only.refl g w).setCell 0 _⟩
  clear h
  go_upto_region 3 with (fail)
  obtain ⟨h, ho⟩ := HT.out
  generalize (w.setCell ⟨g, 0, none⟩ (.int .i64 (a + 1))) = W1 at *
  clear HT c0 f0 d0
  have c0 := h.c0
  have hd := delay_any (a + 1) W1
  obtain ⟨D, hD⟩ : ∃ D, D = delayN (a + 1) := ⟨_, rfl⟩
  rw [← hD] at hd
  have HD := Lib.hid hD
  clear hD
  go_wp2_with fail
  refine hd.mono ?_
  rintro e W2 ⟨rfl, hb⟩
  skip
  have h2 := h.next hb
  have ho2 := ho.trans (Only.of_below hb)
  clear h ho hb hd c0
  have c0 := h2.c0
  have c1 := h2.c1
  have f1 := h2.frozen 1
  have HT : Hid (PcAt g 37 (a + 1) D (W2.setCell ⟨g, 1, none⟩ (.int .i64 D)) ∧ Only g w (W2.setCell ⟨g, 1, none⟩ (.int .i64 D))) := Lib.hid ⟨h2.set1 _, ho2.setCell 1 _⟩
  clear h2 ho2
  go_upto_region 4 with (fail)
  obtain ⟨h, ho⟩ := HT.out
  generalize (W2.setCell ⟨g, 1, none⟩ (.int .i64 D)) = W3 at *
  clear HT c0 c1 f1
  have c0 := h.c0
  go_wp2_with fail
  go_ret
  rw [← HD.out]
  exact ⟨rfl, h, ho⟩


set_option maxRecDepth 100000 in
theorem dfail_any (g : Nat) (a b : Int) (w : World) (h : PcAt g 39 a b w) (ha : -1000000 ≤ a ∧ a ≤ 1000000) : Calls Try.prog 19 #[.pointer (some ⟨g, 0, none⟩)] w fun e w' => e = .returned (.bool (decide (10 < a + 1))) ∧ PcAt g 39 (a + 1) (delayN (a + 1)) w' ∧ Only g w w' := by
  have c0 := h.c0
  have f0 := h.frozen 0
  go_enter Try.func19, Try.ntmps19
  have d0 : decide (a < 9223372036854775807) = true := by simp; omega
  have HT : Hid (PcAt g 39 (a + 1) b (w.setCell ⟨g, 0, none⟩ (.int .i64 (a + 1))) ∧ Only g w (w.setCell ⟨g, 0, none⟩ (.int .i64 (a + 1)))) := Lib.hid ⟨h.set0 _, (Only.refl g w).setCell 0 _⟩
  clear h
  go_upto_region 2 with (fail)
  obtain ⟨h, ho⟩ := HT.out
  generalize (w.setCell ⟨g, 0, none⟩ (.int .i64 (a + 1))) = W1 at *
  clear HT c0 f0 d0
  have c0 := h.c0
  have hd := ddelay_any (a + 1) W1
  obtain ⟨D, hD⟩ : ∃ D, D = delayN (a + 1) := ⟨_, rfl⟩
  rw [← hD] at hd
  have HD := Lib.hid hD
  clear hD
  go_wp2_with fail
  refine hd.mono ?_
  rintro e W2 ⟨rfl, rfl⟩
  have hb : Below W2.heap.size W2 W2 := Below.refl _ _
  have h2 := h.next hb
  have ho2 := ho.trans (Only.of_below hb)
  clear h ho hb hd c0
  have c0 := h2.c0
  have c1 := h2.c1
  have f1 := h2.frozen 1
  have HT : Hid (PcAt g 39 (a + 1) D (W2.setCell ⟨g, 1, none⟩ (.int .i64 D)) ∧ Only g w (W2.setCell ⟨g, 1, none⟩ (.int .i64 D))) := Lib.hid ⟨h2.set1 _, ho2.setCell 1 _⟩
  clear h2 ho2
  go_upto_region 3 with (fail)
  obtain ⟨h, ho⟩ := HT.out
  generalize (W2.setCell ⟨g, 1, none⟩ (.int .i64 D)) = W3 at *
  clear HT c0 c1 f1
  have c0 := h.c0
  go_wp2_with fail
  go_ret
  rw [← HD.out]
  exact ⟨rfl, h, ho⟩


theorem ptick_any (g : Nat) (a b : Int) (w : World) (h : PcAt g 37 a b w) (hb : -1000000 ≤ b ∧ b ≤ 1000000) : Calls Try.prog 21 #[.pointer (some ⟨g, 0, none⟩)] w fun e w' => e = .returned (.tuple #[]) ∧ PcAt g 37 a (tickN b) w' ∧ Only g w w' := by
  have c1 := h.c1
  have f1 := h.frozen 1
  go_enter Try.func21, Try.ntmps21
  by_cases h0 : 0 < b
  · have d0 : decide (0 < b) = true := by simpa using h0
    have hn : tickN b = b - 1 := by unfold tickN; rw [if_pos h0]
    have HT : Hid (PcAt g 37 a (b - 1) (w.setCell ⟨g, 1, none⟩ (.int .i64 (b - 1))) ∧ Only g w (w.setCell ⟨g, 1, none⟩ (.int .i64 (b - 1)))) := Lib.hid ⟨h.set1 _, (Only.refl g w).setCell 1 _⟩
    rw [hn]
    clear h hn
    go_wp2_with fail
    go_end0
    exact ⟨rfl, HT.out⟩
  · have d0 : decide (0 < b) = false := by simpa using h0
    have hn : tickN b = b := by unfold tickN; rw [if_neg h0]
    rw [hn]
    clear hn
    go_wp2_with fail
    go_end0
    exact ⟨rfl, h, Only.refl g w⟩


theorem dtick_any (g : Nat) (a b : Int) (w : World) (h : PcAt g 39 a b w) (hb : -1000000 ≤ b ∧ b ≤ 1000000) : Calls Try.prog 22 #[.pointer (some ⟨g, 0, none⟩)] w fun e w' => e = .returned (.tuple #[]) ∧ PcAt g 39 a (tickN b) w' ∧ Only g w w' := by
  have c1 := h.c1
  have f1 := h.frozen 1
  go_enter Try.func22, Try.ntmps22
  by_cases h0 : 0 < b
  · have d0 : decide (0 < b) = true := by simpa using h0
    have hn : tickN b = b - 1 := by unfold tickN; rw [if_pos h0]
    have HT : Hid (PcAt g 39 a (b - 1) (w.setCell ⟨g, 1, none⟩ (.int .i64 (b - 1))) ∧ Only g w (w.setCell ⟨g, 1, none⟩ (.int .i64 (b - 1)))) := Lib.hid ⟨h.set1 _, (Only.refl g w).setCell 1 _⟩
    rw [hn]
    clear h hn
    go_wp2_with fail
    go_end0
    exact ⟨rfl, HT.out⟩
  · have d0 : decide (0 < b) = false := by simpa using h0
    have hn : tickN b = b := by unfold tickN; rw [if_neg h0]
    rw [hn]
    clear hn
    go_wp2_with fail
    go_end0
    exact ⟨rfl, h, Only.refl g w⟩

theorem ready_any (g : Nat) (a b : Int) (w : World) (h : PcAt g 37 a b w) : Calls Try.prog 23 #[.pointer (some ⟨g, 0, none⟩)] w fun e w' => e = .returned (.bool (b == 0)) ∧ w' = w := by
  have c1 := h.c1
  go_enter Try.func23, Try.ntmps23
  go_wp2_with fail
  go_ret
  exact ⟨rfl, rfl⟩
theorem good_any (g : Nat) (a b : Int) (w : World) (h : PcAt g 37 a b w) : Calls Try.prog 20 #[.pointer (some ⟨g, 0, none⟩)] w fun e w' => e = .returned (.tuple #[]) ∧ PcAt g 37 0 0 w' ∧ Only g w w' := by
  obtain ⟨o, hr1, hr2, hr3⟩ := h
  have hnew : PcAt g 37 0 0 (w.setRow g #[.int .i64 0, .int .i64 0]) := by
    refine ⟨#[.int .i64 0, .int .i64 0], setRow_heap _ _ _ _ _ _ hr1, rfl, fun i hi => ?_⟩
    rcases i with _ | _ | i
    · rfl
    · rfl
    · omega
  have honly : Only g w (w.setRow g #[.int .i64 0, .int .i64 0]) := only_setRow g w _
  have HT := Lib.hid (And.intro hnew honly)
  clear hnew honly
  go_enter Try.func20, Try.ntmps20
  go_wp2_with (first | (refine wpList_build rfl 37 _ rfl #[] (by kernel_rfl) (.agg #[.int .i64 0, .int .i64 0]) (fun _ => by kernel_rfl) ?_) | (refine wpList_store_row rfl 37 _ _ rfl _ #[.int .i64 0, .int .i64 0] rfl rfl _ _ hr1 (by kernel_rfl) (by simpa using hr2) (by simp [Value.oneCell']) ?_))
  go_end0
  exact ⟨rfl, HT.out⟩
theorem rate_val (n m : Int) (r : Nat) (h : FloatKind.f64.format.div (floatOfInt .f64 n) (floatOfInt .f64 m) = some r) (w : World) : Calls Try.prog 27 #[.int .i64 n, .int .i64 m] w fun e w' => e = .returned (.float .f64 r) ∧ w' = w := by
  have hq := fun w => run_float_arith (P := Try.prog) w .quo 24 .f64 (floatOfInt .f64 n) (floatOfInt .f64 m) r h
  clear h
  go_enter Try.func27, Try.ntmps27
  go_wp2_with fail
  go_ret
  exact ⟨rfl, rfl⟩
theorem progress_val (n m : Int) (r : Nat) (h : FloatKind.f64.format.div (floatOfInt .f64 n) (floatOfInt .f64 m) = some r) (w : World) : Calls Try.prog 13 #[.int .i64 n, .int .i64 m] w fun e w' => e = .returned (.float .f64 r) ∧ w' = w := by
  have hr := rate_val n m r h w
  clear h
  go_enter Try.func13, Try.ntmps13
  go_wp2_with fail
  refine hr.mono ?_
  rintro e w1 ⟨rfl, rfl⟩
  go_wp2_with fail
  go_ret
  exact ⟨rfl, rfl⟩
set_option maxRecDepth 100000 in
theorem first_any (w : World) : Calls Try.prog 8 #[] w fun e w' => e = .returned (.bool true) ∧ Below w.heap.size w w' := by
  have hp := fun w => progress_val 1 2 4602678819172646912 (by decide +kernel) w
  have o1 : FloatKind.f64.format.order 4602678819172646912 4602678819172646912 = some .eq := by decide +kernel
  have HP := Lib.hid hp
  clear hp
  go_enter Try.func8, Try.ntmps8
  go_upto_region 2 with (fail)
  have hz : PcAt w.heap.size 37 0 0 (w.alloc (.cells #[.int .i64 0, .int .i64 0] 37)) := rowIs_new _ _ _ _ _ _ rfl rfl (fun i hi => by
    rcases i with _ | _ | i
    · rfl
    · rfl
    · omega)
  refine wp_world (fun W => PcAt w.heap.size 37 0 0 W ∧ Below w.heap.size w W) ⟨hz, (Below.refl _ _).alloc (Nat.le_refl _) _⟩ ?_
  clear hz
  rintro W0 ⟨h, hb⟩
  generalize hB : w.heap.size = B at h hb ⊢
  have HB := Lib.hid hB; clear hB
  have hd := delay_any 0 W0
  rw [show delayN 0 = 1 by decide] at hd
  go_wp2_with fail
  refine hd.mono ?_
  rintro e W1 ⟨rfl, hb1⟩
  replace h := h.next hb1
  replace hb := hb.trans (hb1.mono (by rw [← HB.out]; exact hb.size))
  clear hd hb1 W0
  have hd := delay_any 2 W1
  rw [show delayN 2 = 2 by decide] at hd
  go_wp2_with fail
  refine hd.mono ?_
  rintro e W2 ⟨rfl, hb1⟩
  replace h := h.next hb1
  replace hb := hb.trans (hb1.mono (by rw [← HB.out]; exact hb.size))
  clear hd hb1 W1
  go_wp2_with fail
  refine (ready_any B 0 0 W2 h).mono ?_
  rintro e W2 ⟨rfl, rfl⟩
  go_wp2_with fail
  refine (pfail_any B 0 0 W2 h (by omega)).mono ?_
  rintro e W3 ⟨rfl, h3, ho⟩
  have hb3 : Below B w W3 := hb.trans (ho.below (Nat.le_refl _) (by rw [← HB.out]; exact hb.size))
  rw [show delayN (0 + 1) = 1 by decide, show (0 : Int) + 1 = 1 from rfl] at h3
  clear h ho hb W2
  have c1 := h3.c1
  clear h3
  go_wp2_with fail
  refine (HP.out W3).mono ?_
  rintro e W4 ⟨rfl, rfl⟩
  go_wp2_with fail
  go_ret
  exact ⟨rfl, by rw [HB.out]; exact hb3⟩
end Go.Proofs.Ytkhbhfnfpognpaa
