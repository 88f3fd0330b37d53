import Derived.Test.YtkhbhfnfpognpaaFle
import Derived.Test.YtkhbhfnfpognpaaFlg
/-
  PacePlays.
-/
namespace Go.Proofs.Ytkhbhfnfpognpaa
open Go.RowKit

section
variable {P : Program} {ops : Array Oper} {l : List Sp} {a : Act} {w : World}
theorem owes_nil (i : Nat) (dst : Option Tmp) (anc : List Nat) (x : Operand) (p : Addr) (hop : ∀ v, ops[i]?.map (fun o => (o.op, Region.wanted o (yielded ops (fr l anc a v).tmps))) = some (.nilCheck x, true))
    (hx : ∀ v, (fr l anc a v).eval x = .pointer (some p)) : Owes P ops l a w (Sp.k i dst anc (.pointer (some p))) :=
  owes_pure i dst anc _ _ hop fun v w' _ _ o ho => by unfold execOp; simp only [ho, hx v]; rfl
end
theorem idx_slP {P : Program} {t e : TypeId} (hu : P.underlying t = some (.slice e)) (hs : (P.info? e).map (·.size) = some 1) (b o n c k : Nat) (h : k < n) (w : World) :
    (Instr.indexAt t (.slice (some ⟨b, o, none⟩) n c) (.int .i64 k)).run P w = .ok (.pointer (some ⟨b, o + k, none⟩)) w := by
  have e2 : P.elem t = e := by simp [Program.elem, hu]
  obtain ⟨i, hi, hz⟩ := Option.map_eq_some_iff.1 hs
  rw [run_indexAt_slice (h := by rw [e2]; exact hu)]
  simp [e2, sizeOf, typeInfo, hi, hz, Result.andThen, h, Addr.add]
theorem quietP {P : Program} {f : FuncId} {args : Array Value} {w : World} {v : Value} (h : Quiets P f args w v) : Calls P f args w fun e w' => e = .returned v ∧ Below w.heap.size w w' :=
  h.mono fun _ _ ⟨h1, m, h2⟩ => ⟨h1, by rw [h2]; exact Below.drewNr m⟩
theorem drP {w w' : World} (h : Below w.drew.heap.size w.drew w') : Below w.heap.size w w' := (Below.drewNr (w := w) 1).trans h
theorem sub_i64P (t : TypeId) (x y : Operand) (a b c : Int) (h : a - b = c) (h1 : -9223372036854775808 ≤ c) (h2 : c ≤ 9223372036854775807) (w : World) : (do eqGuard .sub t x y (.int .i64 a) (.int .i64 b); binOp .sub t (.int .i64 a) (.int .i64 b) : Sem Value).run Try.prog w = .ok (.int .i64 c) w := by
  have hw : IntKind.i64.wrap (a - b) = c := by rw [h]; exact IntWalk.i64_in _ (by omega)
  simp [eqGuard, binOp, Op.intArith, hw]
theorem eqP (t : TypeId) (x y : Operand) (a b : Int) (w : World) : (do eqGuard .eql t x y (.int .i64 a) (.int .i64 b); binOp .eql t (.int .i64 a) (.int .i64 b) : Sem Value).run Try.prog w = .ok (.bool (a == b)) w := by
  simp [eqGuard, binOp, Op.intCmp]
theorem neqB (x y : Operand) (b : Bool) (w : World) : (do eqGuard .neq 4 x y (.bool b) (.bool b); binOp .neq 4 (.bool b) (.bool b) : Sem Value).run Try.prog w = .ok (.bool false) w := by
  have h2 := Try.underlying4
  cases b <;> go_simp


theorem delay_range (t : Int) : 1 ≤ delayN t ∧ delayN t ≤ 64 := by
  unfold delayN
  split
  · omega
  · split
    · omega
    · rename_i h1 h2
      obtain ⟨k, hk⟩ : ∃ k : Nat, (t - 1).toNat = k := ⟨_, rfl⟩
      rw [hk]
      have : k ≤ 5 := by omega
      rcases k with _ | _ | _ | _ | _ | _ | k
      all_goals first | decide | omega

set_option maxRecDepth 100000 in
set_option maxHeartbeats 3200000 in
theorem plays_walk (tries wait : Int) (A : Option Addr) (xs : List Int) (cx : Nat) (w : World) (hX : SlRead w A (ints .i64 xs)) :
    Calls Try.prog 4 #[.int .i64 tries, .int .i64 wait, .slice A xs.length cx] w fun e w' => e = .returned (.bool true) ∧ Below w.heap.size w w' := by
  go_enter Try.func4, Try.ntmps4
  go_wp2_with fail
  refine (first_any w).mono ?_
  rintro e W1 ⟨rfl, hb1⟩
  by_cases h1 : 100 < xs.length
  · have d1 : decide ((100 : Int) < (xs.length : Int)) = true := by simp; omega
    go_wp2_with fail
    go_ret
    exact ⟨rfl, hb1⟩
  have d1 : decide ((100 : Int) < (xs.length : Int)) = false := by simp; omega
  have hxl : xs.length ≤ 100 := by omega
  clear h1
  have hW := Lib.hid hX
  generalize hB : w.heap.size = B at hb1 ⊢
  have HB := Lib.hid hB; clear hB hX
  have hB1 : B ≤ W1.heap.size := by rw [← HB.out]; exact hb1.size
  obtain ⟨K1, hK1, hK1l⟩ := exists_mod tries 2000 (by omega)
  obtain ⟨K2, hK2, hK2l⟩ := exists_mod wait 100 (by omega)
  have HK1 := Lib.hid hK1
  have HK2 := Lib.hid hK2
  clear hK1 hK2
  go_upto_region 6 with (fail)
  refine wp_region_text [Sp.k 0 (some 19) [] (.int .i64 tries),
    Sp.k 1 (some 20) [0] (.int .i64 (K1 : Int)),
    Sp.k 2 (some 21) [1] (.int .i64 ((K1 : Int) - 20)),
    Sp.k 3 (some 0) [0, 2] (.int .i64 ((K1 : Int) - 20))] (by kernel_rfl)
    ⟨owes_move 0 (some 19) [] (.int .i64 tries) (Go.Operand.tmp 0) (fun v => by kernel_rfl) (fun v => by kernel_rfl),
    owes_call 1 (some 20) [0] (.int .i64 (K1 : Int)) 17 #[Go.Operand.tmp 19, Go.Operand.const (Go.Value.int Go.IntKind.i64 2000)] #[3, 3] (fun v => by kernel_rfl) (fun _ _ => by kernel_rfl) (fun v w' hb ho => by
        exact ⟨#[.int .i64 tries, Go.Value.int Go.IntKind.i64 2000], by kernel_rfl, (quietP (number_nat tries 2000 K1 w' (by omega) HK1.out)).mono (fun _ _ h => h)⟩),
    owes_bin 2 (some 21) [1] (.int .i64 ((K1 : Int) - 20)) Go.BinOp.sub 3 (Go.Operand.tmp 20) (Go.Operand.const (Go.Value.int Go.IntKind.i64 20)) 3 (.int .i64 (K1 : Int)) (Go.Value.int Go.IntKind.i64 20) (fun v => by kernel_rfl) (fun v => by kernel_rfl) (sub_i64P _ _ _ _ _ _ rfl (by omega) (by omega)),
    owes_assign 3 (some 0) [0, 2] (.int .i64 ((K1 : Int) - 20)) (Go.Operand.tmp 21) (fun v => by kernel_rfl) (fun v => by kernel_rfl), trivial⟩ ?_
  intro v W2 hb' hall
  clear hall HK1 d1
  simp only [putsL_k, putsL_nil, List.set_cons_zero, List.set_cons_succ]
  replace hb1 := hb1.trans (hb'.mono hB1)
  have hB2 : B ≤ W2.heap.size := by rw [← HB.out]; exact hb1.size
  clear hb' hB1 W1
  go_upto_region 7 with (fail)
  refine wp_region_text [Sp.k 0 (some 22) [] (.int .i64 wait),
    Sp.k 1 (some 23) [0] (.int .i64 (K2 : Int)),
    Sp.k 2 (some 24) [1] (.int .i64 ((K2 : Int) - 3)),
    Sp.k 3 (some 1) [0, 2] (.int .i64 ((K2 : Int) - 3))] (by kernel_rfl)
    ⟨owes_move 0 (some 22) [] (.int .i64 wait) (Go.Operand.tmp 1) (fun v => by kernel_rfl) (fun v => by kernel_rfl),
    owes_call 1 (some 23) [0] (.int .i64 (K2 : Int)) 17 #[Go.Operand.tmp 22, Go.Operand.const (Go.Value.int Go.IntKind.i64 100)] #[3, 3] (fun v => by kernel_rfl) (fun _ _ => by kernel_rfl) (fun v w' hb ho => by
        exact ⟨#[.int .i64 wait, Go.Value.int Go.IntKind.i64 100], by kernel_rfl, (quietP (number_nat wait 100 K2 w' (by omega) HK2.out)).mono (fun _ _ h => h)⟩),
    owes_bin 2 (some 24) [1] (.int .i64 ((K2 : Int) - 3)) Go.BinOp.sub 3 (Go.Operand.tmp 23) (Go.Operand.const (Go.Value.int Go.IntKind.i64 3)) 3 (.int .i64 (K2 : Int)) (Go.Value.int Go.IntKind.i64 3) (fun v => by kernel_rfl) (fun v => by kernel_rfl) (sub_i64P _ _ _ _ _ _ rfl (by omega) (by omega)),
    owes_assign 3 (some 1) [0, 2] (.int .i64 ((K2 : Int) - 3)) (Go.Operand.tmp 24) (fun v => by kernel_rfl) (fun v => by kernel_rfl), trivial⟩ ?_
  intro v W3 hb' hall
  clear hall HK2
  simp only [putsL_k, putsL_nil, List.set_cons_zero, List.set_cons_succ]
  replace hb1 := hb1.trans (hb'.mono hB2)
  have hB3 : B ≤ W3.heap.size := by rw [← HB.out]; exact hb1.size
  clear hb' hB2 W2
  obtain ⟨a, ha⟩ : ∃ a, a = (K1 : Int) - 20 := ⟨_, rfl⟩
  obtain ⟨b, hbq⟩ : ∃ b, b = (K2 : Int) - 3 := ⟨_, rfl⟩
  rw [← ha, ← hbq]
  have ha1 : -20 ≤ a ∧ a ≤ 2000 ∧ -3 ≤ b ∧ b ≤ 100 := by omega
  clear ha hbq hK1l hK2l
  have bl : ∀ (g : Nat) (ty : TypeId) (W : World), g = W.heap.size → PcAt g ty a b (W.alloc (.cells #[.int .i64 a, .int .i64 b] ty)) := fun g ty W e => rowIs_new _ _ _ _ _ _ e rfl (fun i hi => by
    rcases i with _ | _ | i
    · rfl
    · rfl
    · omega)
  go_upto_region 9 with (first | (refine wpList_build rfl 37 _ rfl #[(0, .int .i64 a), (1, .int .i64 b)] (by kernel_rfl) (.agg #[.int .i64 a, .int .i64 b]) (fun _ => by kernel_rfl) ?_))
  refine wp_world (fun W => PcAt W3.heap.size 37 a b W ∧ Below B w W) ⟨bl _ _ _ rfl, hb1.alloc hB3 _⟩ ?_
  generalize W3.heap.size = G1 at hB3 ⊢
  clear hb1 W3
  rintro W4 ⟨hp, hb⟩
  have hp0 : G1 < W4.heap.size := hp.lt
  go_upto_region 10 with (first | (refine wpList_build rfl 39 _ rfl #[(0, .int .i64 a), (1, .int .i64 b)] (by kernel_rfl) (.agg #[.int .i64 a, .int .i64 b]) (fun _ => by kernel_rfl) ?_))
  have hal : ∀ o, Below W4.heap.size W4 (W4.alloc o) := fun o => (Below.refl _ _).alloc (Nat.le_refl _) o
  refine wp_world (fun W => PcAt G1 37 a b W ∧ PcAt W4.heap.size 39 a b W ∧ Below B w W) ⟨hp.next (hal _), bl _ _ _ rfl, hb.trans ((hal _).mono (by omega))⟩ ?_
  generalize W4.heap.size = G2 at hp0 ⊢
  clear bl hp hb hal W4
  rintro W5 ⟨hp, hd, hb⟩
  go_wp2_with fail
  go_loopw [9, 10] (fun p i wr => ∃ (k : Nat) (a b : Int) (G2 : Nat), k ≤ xs.length ∧ i = .int .i64 (k : Int) ∧ p = .pointer (some ⟨G2, 0, none⟩) ∧ (-20 ≤ a ∧ a ≤ 2000 + (k : Int) ∧ -3 ≤ b ∧ b ≤ 100) ∧ G1 < G2 ∧ PcAt G1 37 a b wr ∧ PcAt G2 39 a b wr ∧ Below B w wr) (fun _ i _ => xs.length - (intOf i).toNat)
  case atStart => exact ⟨0, a, b, G2, by omega, rfl, rfl, by omega, hp0, hp, hd, hb⟩
  clear hp hd hb hp0 ha1
  case round =>
    obtain ⟨k, a, b, G2, hk, rfl, rfl, hab, hG2, hp, hd, hb⟩ := hrel
    by_cases hlt : k < xs.length
    · have hXr : SlRead wr A (ints .i64 xs) := hW.out.below (by rw [HB.out]; exact hb)
      obtain ⟨gb, o, rfl, hgl, hc⟩ := hXr (by simp [ints]; omega)
      obtain ⟨x, hx⟩ : ∃ x, xs[k]? = some x := ⟨xs[k], by simp [hlt]⟩
      have hcx := hc k (.int .i64 x) (by simp [ints, hx])
      obtain ⟨K, hK, hKl⟩ := exists_mod x 10 (by omega)
      have HK := Lib.hid hK
      clear hK hx hc
      go_upto_region 13 with (fail)
      refine wp_region_text [Sp.k 0 (some 39) [] (.slice (some ⟨gb, o, none⟩) xs.length cx),
        Sp.k 1 (some 40) [] (.int .i64 ((k : Nat) : Int)),
        Sp.k 2 (some 41) [0, 1] (.pointer (some ⟨gb, o + k, none⟩)),
        Sp.k 3 (some 42) [2] (.pointer (some ⟨gb, o + k, none⟩)),
        Sp.k 4 (some 43) [3] (.int .i64 x),
        Sp.k 5 (some 44) [4] (.int .i64 (K : Int)),
        Sp.k 6 (some 11) [5] (.int .i64 (K : Int))] (by kernel_rfl)
        ⟨owes_move 0 (some 39) [] (.slice (some ⟨gb, o, none⟩) xs.length cx) (Go.Operand.tmp 2) (fun v => by kernel_rfl) (fun v => by kernel_rfl),
        owes_move 1 (some 40) [] (.int .i64 ((k : Nat) : Int)) (Go.Operand.tmp 10) (fun v => by kernel_rfl) (fun v => by kernel_rfl),
        owes_index 2 (some 41) [0, 1] (.pointer (some ⟨gb, o + k, none⟩)) 33 (Go.Operand.tmp 39) (Go.Operand.tmp 40) (.slice (some ⟨gb, o, none⟩) xs.length cx) (.int .i64 ((k : Nat) : Int)) (fun v => by kernel_rfl) (fun v => by kernel_rfl) (idx_slP (P := Try.prog) Try.underlying33 (show (Try.prog.info? 41).map (·.size) = some 1 by kernel_rfl) gb o xs.length cx k hlt),
        owes_field 3 (some 42) [2] (.pointer (some ⟨gb, o + k, none⟩)) 41 (Go.Operand.tmp 41) 0 (.pointer (some ⟨gb, o + k, none⟩)) (fun v => by kernel_rfl) (fun v => by kernel_rfl) (fun w => by kernel_rfl),
        owes_load 4 (some 43) [3] (.int .i64 x) 3 (Go.Operand.tmp 42) (.pointer (some ⟨gb, o + k, none⟩)) (fun v => by kernel_rfl) (fun v => by kernel_rfl) (fun w' hb => ld_intP _ _ _ w' ((hb.cell (p := ⟨gb, o + k, none⟩) hgl).trans hcx)),
        owes_call 5 (some 44) [4] (.int .i64 (K : Int)) 17 #[Go.Operand.tmp 43, Go.Operand.const (Go.Value.int Go.IntKind.i64 10)] #[3, 3] (fun v => by kernel_rfl) (fun _ _ => by kernel_rfl) (fun v w' hb ho => by
            exact ⟨#[.int .i64 x, Go.Value.int Go.IntKind.i64 10], by kernel_rfl, (quietP (number_nat x 10 K w' (by omega) HK.out)).mono (fun _ _ h => h)⟩),
        owes_assign 6 (some 11) [5] (.int .i64 (K : Int)) (Go.Operand.tmp 44) (fun v => by kernel_rfl) (fun v => by kernel_rfl), trivial⟩ ?_
      intro v w1 hb1 hall
      clear hall HK hcx hgl
      simp only [putsL_k, putsL_nil, List.set_cons_zero, List.set_cons_succ]
      have hp0 := hp.lt
      replace hb := hb.trans (hb1.mono (by omega))
      replace hp := hp.next hb1
      replace hd := hd.next hb1
      clear hXr hb1 hp0 wr
      have hp0 := hp.lt
      have hd0 := hd.lt
      rcases K with _ | _ | K
      · go_wp2_with fail
        refine (pfail_any G1 a b w1 hp (by omega)).mono ?_
        rintro e w2 ⟨rfl, hp2, ho2⟩
        have hd2 := hd.other ho2 (by omega)
        have hb2 := hb.trans (ho2.below hB3 (by omega))
        have hp0 := hp2.lt
        clear hp hd hb ho2
        go_wp2_with fail
        refine (dfail_any G2 a b w2 hd2 (by omega)).mono ?_
        rintro e wz ⟨rfl, hd, ho3⟩
        have hp := hp2.other ho3 (by omega)
        have hb := hb2.trans (ho3.below (show B ≤ G2 by omega) (by omega))
        have hp0 := hp.lt
        clear hp2 hd2 hb2 ho3
        obtain ⟨a2, ha2⟩ : ∃ a2, a2 = a + 1 := ⟨_, rfl⟩
        obtain ⟨b2, hb2⟩ : ∃ b2, b2 = delayN (a + 1) := ⟨_, rfl⟩
        rw [← hb2, ← ha2] at hp hd
        rw [← ha2] at hb2 ⊢
        have hbb : -20 ≤ a2 ∧ a2 ≤ 2000 + ((k + 1 : Nat) : Int) ∧ -3 ≤ b2 ∧ b2 ≤ 100 := by
          have := delay_range a2
          omega
        clear ha2 hb2
        have HRY : ∀ w', Below wz.heap.size wz w' → Calls Try.prog 23 #[.pointer (some ⟨G1, 0, none⟩)] w' fun e w'' => e = .returned (.bool (b2 == 0)) ∧ Below w'.heap.size w' w'' := fun w' hb' =>
          (ready_any G1 a2 b2 w' (hp.next hb')).mono fun e w'' h => ⟨h.1, by rw [h.2]; exact Below.refl _ _⟩
        go_upto_region 22 with (fail)
        refine wp_region_spec [Sp.k 0 (some 64) [] (.pointer (some ⟨G1, 0, none⟩)),
          Sp.k 1 (some 65) [0] (.pointer (some ⟨G1, 0, none⟩)),
          Sp.k 2 (some 66) [1] (.pointer (some ⟨G1, 0, none⟩)),
          Sp.k 3 (some 67) [2] (.int .i64 a2),
          Sp.k 4 (some 68) [] (.pointer (some ⟨G2, 0, none⟩)),
          Sp.k 5 (some 69) [4] (.pointer (some ⟨G2, 0, none⟩)),
          Sp.k 6 (some 70) [5] (.pointer (some ⟨G2, 0, none⟩)),
          Sp.k 7 (some 71) [6] (.int .i64 a2),
          Sp.k 8 (some 72) [3, 7] (.bool false),
          Sp.k 9 (some 73) [8] (.bool false),
          Sp.k 10 (some 74) [9] (.pointer (some ⟨G1, 0, none⟩)),
          Sp.k 11 (some 75) [9, 10] (.pointer (some ⟨G1, 0, none⟩)),
          Sp.k 12 (some 76) [9, 11] (.pointer (some ⟨G1, 1, none⟩)),
          Sp.k 13 (some 77) [9, 12] (.int .i64 b2),
          Sp.k 14 (some 78) [9] (.pointer (some ⟨G2, 0, none⟩)),
          Sp.k 15 (some 79) [9, 14] (.pointer (some ⟨G2, 0, none⟩)),
          Sp.k 16 (some 80) [9, 15] (.pointer (some ⟨G2, 1, none⟩)),
          Sp.k 17 (some 81) [9, 16] (.int .i64 b2),
          Sp.k 18 (some 82) [9, 13, 17] (.bool false),
          Sp.k 19 (some 83) [9, 18] (.bool false),
          Sp.k 20 (some 84) [19] (.bool false),
          Sp.k 21 (some 85) [20] (.pointer (some ⟨G1, 0, none⟩)),
          Sp.k 22 (some 86) [20, 21] (.bool (b2 == 0)),
          Sp.k 23 (some 87) [20] (.pointer (some ⟨G2, 0, none⟩)),
          Sp.k 24 (some 88) [20, 23] (.pointer (some ⟨G2, 0, none⟩)),
          Sp.k 25 (some 89) [20, 24] (.pointer (some ⟨G2, 1, none⟩)),
          Sp.k 26 (some 90) [20, 25] (.int .i64 b2),
          Sp.k 27 (some 91) [20, 26] (.bool (b2 == 0)),
          Sp.k 28 (some 92) [20, 22, 27] (.bool false),
          Sp.k 29 (some 93) [20, 28] (.bool false)] (by kernel_rfl) (by kernel_rfl)
          ⟨owes_move 0 (some 64) [] (.pointer (some ⟨G1, 0, none⟩)) (Go.Operand.tmp 8) (fun v => by kernel_rfl) (fun v => by kernel_rfl),
          owes_nil 1 (some 65) [0] (Go.Operand.tmp 64) _ (fun v => by kernel_rfl) (fun v => by kernel_rfl),
          owes_field 2 (some 66) [1] (.pointer (some ⟨G1, 0, none⟩)) 37 (Go.Operand.tmp 65) 0 (.pointer (some ⟨G1, 0, none⟩)) (fun v => by kernel_rfl) (fun v => by kernel_rfl) (fun w => by kernel_rfl),
          owes_load 3 (some 67) [2] (.int .i64 a2) 3 (Go.Operand.tmp 66) (.pointer (some ⟨G1, 0, none⟩)) (fun v => by kernel_rfl) (fun v => by kernel_rfl) (fun w' hb => ld_intP _ _ _ w' ((((drP hb).cell (p := ⟨G1, 0, none⟩) hp.lt)).trans hp.c0)),
          owes_move 4 (some 68) [] (.pointer (some ⟨G2, 0, none⟩)) (Go.Operand.tmp 9) (fun v => by kernel_rfl) (fun v => by kernel_rfl),
          owes_nil 5 (some 69) [4] (Go.Operand.tmp 68) _ (fun v => by kernel_rfl) (fun v => by kernel_rfl),
          owes_field 6 (some 70) [5] (.pointer (some ⟨G2, 0, none⟩)) 39 (Go.Operand.tmp 69) 0 (.pointer (some ⟨G2, 0, none⟩)) (fun v => by kernel_rfl) (fun v => by kernel_rfl) (fun w => by kernel_rfl),
          owes_load 7 (some 71) [6] (.int .i64 a2) 3 (Go.Operand.tmp 70) (.pointer (some ⟨G2, 0, none⟩)) (fun v => by kernel_rfl) (fun v => by kernel_rfl) (fun w' hb => ld_intP _ _ _ w' ((((drP hb).cell (p := ⟨G2, 0, none⟩) hd.lt)).trans hd.c0)),
          owes_bin 8 (some 72) [3, 7] (.bool false) Go.BinOp.neq 3 (Go.Operand.tmp 67) (Go.Operand.tmp 71) 3 (.int .i64 a2) (.int .i64 a2) (fun v => by kernel_rfl) (fun v => by kernel_rfl) (neqS _ _ _ _),
          owes_move 9 (some 73) [8] (.bool false) (Go.Operand.tmp 72) (fun v => by kernel_rfl) (fun v => by kernel_rfl),
          owes_move 10 (some 74) [9] (.pointer (some ⟨G1, 0, none⟩)) (Go.Operand.tmp 8) (fun v => by kernel_rfl) (fun v => by kernel_rfl),
          owes_nil 11 (some 75) [9, 10] (Go.Operand.tmp 74) _ (fun v => by kernel_rfl) (fun v => by kernel_rfl),
          owes_field 12 (some 76) [9, 11] (.pointer (some ⟨G1, 1, none⟩)) 37 (Go.Operand.tmp 75) 1 (.pointer (some ⟨G1, 0, none⟩)) (fun v => by kernel_rfl) (fun v => by kernel_rfl) (fun w => by kernel_rfl),
          owes_load 13 (some 77) [9, 12] (.int .i64 b2) 3 (Go.Operand.tmp 76) (.pointer (some ⟨G1, 1, none⟩)) (fun v => by kernel_rfl) (fun v => by kernel_rfl) (fun w' hb => ld_intP _ _ _ w' ((((drP hb).cell (p := ⟨G1, 1, none⟩) hp.lt)).trans hp.c1)),
          owes_move 14 (some 78) [9] (.pointer (some ⟨G2, 0, none⟩)) (Go.Operand.tmp 9) (fun v => by kernel_rfl) (fun v => by kernel_rfl),
          owes_nil 15 (some 79) [9, 14] (Go.Operand.tmp 78) _ (fun v => by kernel_rfl) (fun v => by kernel_rfl),
          owes_field 16 (some 80) [9, 15] (.pointer (some ⟨G2, 1, none⟩)) 39 (Go.Operand.tmp 79) 1 (.pointer (some ⟨G2, 0, none⟩)) (fun v => by kernel_rfl) (fun v => by kernel_rfl) (fun w => by kernel_rfl),
          owes_load 17 (some 81) [9, 16] (.int .i64 b2) 3 (Go.Operand.tmp 80) (.pointer (some ⟨G2, 1, none⟩)) (fun v => by kernel_rfl) (fun v => by kernel_rfl) (fun w' hb => ld_intP _ _ _ w' ((((drP hb).cell (p := ⟨G2, 1, none⟩) hd.lt)).trans hd.c1)),
          owes_bin 18 (some 82) [9, 13, 17] (.bool false) Go.BinOp.neq 3 (Go.Operand.tmp 77) (Go.Operand.tmp 81) 3 (.int .i64 b2) (.int .i64 b2) (fun v => by kernel_rfl) (fun v => by kernel_rfl) (neqS _ _ _ _),
          owes_pick 19 (some 83) [9, 18] (.bool false) (Go.Operand.tmp 73) (Go.Operand.const (Go.Value.bool true)) (Go.Operand.tmp 82) false (fun v => by kernel_rfl) (fun v => by kernel_rfl) (fun v => by kernel_rfl),
          owes_move 20 (some 84) [19] (.bool false) (Go.Operand.tmp 83) (fun v => by kernel_rfl) (fun v => by kernel_rfl),
          owes_move 21 (some 85) [20] (.pointer (some ⟨G1, 0, none⟩)) (Go.Operand.tmp 8) (fun v => by kernel_rfl) (fun v => by kernel_rfl),
          owes_call 22 (some 86) [20, 21] (.bool (b2 == 0)) 23 #[Go.Operand.tmp 85] #[35] (fun v => by kernel_rfl) (fun _ _ => by kernel_rfl) (fun v w' hb ho => by
              exact ⟨#[.pointer (some ⟨G1, 0, none⟩)], by kernel_rfl, (HRY w' (drP hb)).mono (fun _ _ h => h)⟩),
          owes_move 23 (some 87) [20] (.pointer (some ⟨G2, 0, none⟩)) (Go.Operand.tmp 9) (fun v => by kernel_rfl) (fun v => by kernel_rfl),
          owes_nil 24 (some 88) [20, 23] (Go.Operand.tmp 87) _ (fun v => by kernel_rfl) (fun v => by kernel_rfl),
          owes_field 25 (some 89) [20, 24] (.pointer (some ⟨G2, 1, none⟩)) 39 (Go.Operand.tmp 88) 1 (.pointer (some ⟨G2, 0, none⟩)) (fun v => by kernel_rfl) (fun v => by kernel_rfl) (fun w => by kernel_rfl),
          owes_load 26 (some 90) [20, 25] (.int .i64 b2) 3 (Go.Operand.tmp 89) (.pointer (some ⟨G2, 1, none⟩)) (fun v => by kernel_rfl) (fun v => by kernel_rfl) (fun w' hb => ld_intP _ _ _ w' ((((drP hb).cell (p := ⟨G2, 1, none⟩) hd.lt)).trans hd.c1)),
          owes_bin 27 (some 91) [20, 26] (.bool (b2 == 0)) Go.BinOp.eql 3 (Go.Operand.tmp 90) (Go.Operand.const (Go.Value.int Go.IntKind.i64 0)) 3 (.int .i64 b2) (Go.Value.int Go.IntKind.i64 0) (fun v => by kernel_rfl) (fun v => by kernel_rfl) (eqP _ _ _ _ _),
          owes_bin 28 (some 92) [20, 22, 27] (.bool false) Go.BinOp.neq 4 (Go.Operand.tmp 86) (Go.Operand.tmp 91) 4 (.bool (b2 == 0)) (.bool (b2 == 0)) (fun v => by kernel_rfl) (fun v => by kernel_rfl) (neqB _ _ _),
          owes_pick 29 (some 93) [20, 28] (.bool false) (Go.Operand.tmp 84) (Go.Operand.const (Go.Value.bool true)) (Go.Operand.tmp 92) false (fun v => by kernel_rfl) (fun v => by kernel_rfl) (fun v => by kernel_rfl), trivial⟩ ?_
        intro v wy hby hall
        clear hall HRY
        replace hby := drP hby
        replace hp := hp.next hby
        replace hd := hd.next hby
        replace hb := hb.trans (hby.mono (by omega))
        simp only [putsL_k, putsL_nil, List.set_cons_zero, List.set_cons_succ]
        clear hby
        go_wp2_with fail
        go_roundw
        case rel => exact ⟨k + 1, a2, b2, G2, by omega, by go_num, rfl, hbb, hG2, hp, hd, hb⟩
        case measure => simp [intOf]; omega
      · go_wp2_with fail
        refine (good_any G1 a b w1 hp).mono ?_
        rintro e w2 ⟨rfl, hp2, ho2⟩
        have hb2 := hb.trans (ho2.below hB3 (by omega))
        have hp0 := hp2.lt
        clear hp hd hb ho2
        go_upto_region 22 with (first | (refine wpList_build rfl 39 _ rfl #[] (by kernel_rfl) (.agg #[.int .i64 0, .int .i64 0]) (fun _ => by kernel_rfl) ?_))
        have hal : ∀ o, Below w2.heap.size w2 (w2.alloc o) := fun o => (Below.refl _ _).alloc (Nat.le_refl _) o
        have hd3 : PcAt w2.heap.size 39 0 0 (w2.alloc (.cells #[.int .i64 0, .int .i64 0] 39)) := rowIs_new _ _ _ _ _ _ rfl rfl (fun i hi => by
          rcases i with _ | _ | i
          · rfl
          · rfl
          · omega)
        refine wp_world (fun W => PcAt G1 37 0 0 W ∧ PcAt w2.heap.size 39 0 0 W ∧ Below B w W) ⟨hp2.next (hal _), hd3, hb2.trans ((hal _).mono (by omega))⟩ ?_
        clear hd3 hal hp2 hb2 hG2
        generalize w2.heap.size = G2 at hp0 ⊢
        clear w2
        rintro wz ⟨hp, hd, hb⟩
        have hG2 := hp0
        replace hp0 := hp.lt
        obtain ⟨a2, ha2⟩ : ∃ a2 : Int, a2 = 0 := ⟨_, rfl⟩
        obtain ⟨b2, hb2⟩ : ∃ b2 : Int, b2 = 0 := ⟨_, rfl⟩
        rw [← hb2] at hp hd
        have hbb : -20 ≤ a2 ∧ a2 ≤ 2000 + ((k + 1 : Nat) : Int) ∧ -3 ≤ b2 ∧ b2 ≤ 100 := by omega
        have hp' : PcAt G1 37 a2 b2 wz := by rw [ha2, ← hb2]; exact hp
        have hd' : PcAt G2 39 a2 b2 wz := by rw [ha2, ← hb2]; exact hd
        clear hp hd ha2 hb2
        have hp := hp'
        have hd := hd'
        clear hp' hd'
        have HRY : ∀ w', Below wz.heap.size wz w' → Calls Try.prog 23 #[.pointer (some ⟨G1, 0, none⟩)] w' fun e w'' => e = .returned (.bool (b2 == 0)) ∧ Below w'.heap.size w' w'' := fun w' hb' =>
          (ready_any G1 a2 b2 w' (hp.next hb')).mono fun e w'' h => ⟨h.1, by rw [h.2]; exact Below.refl _ _⟩
        go_upto_region 22 with (fail)
        refine wp_region_spec [Sp.k 0 (some 64) [] (.pointer (some ⟨G1, 0, none⟩)),
          Sp.k 1 (some 65) [0] (.pointer (some ⟨G1, 0, none⟩)),
          Sp.k 2 (some 66) [1] (.pointer (some ⟨G1, 0, none⟩)),
          Sp.k 3 (some 67) [2] (.int .i64 a2),
          Sp.k 4 (some 68) [] (.pointer (some ⟨G2, 0, none⟩)),
          Sp.k 5 (some 69) [4] (.pointer (some ⟨G2, 0, none⟩)),
          Sp.k 6 (some 70) [5] (.pointer (some ⟨G2, 0, none⟩)),
          Sp.k 7 (some 71) [6] (.int .i64 a2),
          Sp.k 8 (some 72) [3, 7] (.bool false),
          Sp.k 9 (some 73) [8] (.bool false),
          Sp.k 10 (some 74) [9] (.pointer (some ⟨G1, 0, none⟩)),
          Sp.k 11 (some 75) [9, 10] (.pointer (some ⟨G1, 0, none⟩)),
          Sp.k 12 (some 76) [9, 11] (.pointer (some ⟨G1, 1, none⟩)),
          Sp.k 13 (some 77) [9, 12] (.int .i64 b2),
          Sp.k 14 (some 78) [9] (.pointer (some ⟨G2, 0, none⟩)),
          Sp.k 15 (some 79) [9, 14] (.pointer (some ⟨G2, 0, none⟩)),
          Sp.k 16 (some 80) [9, 15] (.pointer (some ⟨G2, 1, none⟩)),
          Sp.k 17 (some 81) [9, 16] (.int .i64 b2),
          Sp.k 18 (some 82) [9, 13, 17] (.bool false),
          Sp.k 19 (some 83) [9, 18] (.bool false),
          Sp.k 20 (some 84) [19] (.bool false),
          Sp.k 21 (some 85) [20] (.pointer (some ⟨G1, 0, none⟩)),
          Sp.k 22 (some 86) [20, 21] (.bool (b2 == 0)),
          Sp.k 23 (some 87) [20] (.pointer (some ⟨G2, 0, none⟩)),
          Sp.k 24 (some 88) [20, 23] (.pointer (some ⟨G2, 0, none⟩)),
          Sp.k 25 (some 89) [20, 24] (.pointer (some ⟨G2, 1, none⟩)),
          Sp.k 26 (some 90) [20, 25] (.int .i64 b2),
          Sp.k 27 (some 91) [20, 26] (.bool (b2 == 0)),
          Sp.k 28 (some 92) [20, 22, 27] (.bool false),
          Sp.k 29 (some 93) [20, 28] (.bool false)] (by kernel_rfl) (by kernel_rfl)
          ⟨owes_move 0 (some 64) [] (.pointer (some ⟨G1, 0, none⟩)) (Go.Operand.tmp 8) (fun v => by kernel_rfl) (fun v => by kernel_rfl),
          owes_nil 1 (some 65) [0] (Go.Operand.tmp 64) _ (fun v => by kernel_rfl) (fun v => by kernel_rfl),
          owes_field 2 (some 66) [1] (.pointer (some ⟨G1, 0, none⟩)) 37 (Go.Operand.tmp 65) 0 (.pointer (some ⟨G1, 0, none⟩)) (fun v => by kernel_rfl) (fun v => by kernel_rfl) (fun w => by kernel_rfl),
          owes_load 3 (some 67) [2] (.int .i64 a2) 3 (Go.Operand.tmp 66) (.pointer (some ⟨G1, 0, none⟩)) (fun v => by kernel_rfl) (fun v => by kernel_rfl) (fun w' hb => ld_intP _ _ _ w' ((((drP hb).cell (p := ⟨G1, 0, none⟩) hp.lt)).trans hp.c0)),
          owes_move 4 (some 68) [] (.pointer (some ⟨G2, 0, none⟩)) (Go.Operand.tmp 9) (fun v => by kernel_rfl) (fun v => by kernel_rfl),
          owes_nil 5 (some 69) [4] (Go.Operand.tmp 68) _ (fun v => by kernel_rfl) (fun v => by kernel_rfl),
          owes_field 6 (some 70) [5] (.pointer (some ⟨G2, 0, none⟩)) 39 (Go.Operand.tmp 69) 0 (.pointer (some ⟨G2, 0, none⟩)) (fun v => by kernel_rfl) (fun v => by kernel_rfl) (fun w => by kernel_rfl),
          owes_load 7 (some 71) [6] (.int .i64 a2) 3 (Go.Operand.tmp 70) (.pointer (some ⟨G2, 0, none⟩)) (fun v => by kernel_rfl) (fun v => by kernel_rfl) (fun w' hb => ld_intP _ _ _ w' ((((drP hb).cell (p := ⟨G2, 0, none⟩) hd.lt)).trans hd.c0)),
          owes_bin 8 (some 72) [3, 7] (.bool false) Go.BinOp.neq 3 (Go.Operand.tmp 67) (Go.Operand.tmp 71) 3 (.int .i64 a2) (.int .i64 a2) (fun v => by kernel_rfl) (fun v => by kernel_rfl) (neqS _ _ _ _),
          owes_move 9 (some 73) [8] (.bool false) (Go.Operand.tmp 72) (fun v => by kernel_rfl) (fun v => by kernel_rfl),
          owes_move 10 (some 74) [9] (.pointer (some ⟨G1, 0, none⟩)) (Go.Operand.tmp 8) (fun v => by kernel_rfl) (fun v => by kernel_rfl),
          owes_nil 11 (some 75) [9, 10] (Go.Operand.tmp 74) _ (fun v => by kernel_rfl) (fun v => by kernel_rfl),
          owes_field 12 (some 76) [9, 11] (.pointer (some ⟨G1, 1, none⟩)) 37 (Go.Operand.tmp 75) 1 (.pointer (some ⟨G1, 0, none⟩)) (fun v => by kernel_rfl) (fun v => by kernel_rfl) (fun w => by kernel_rfl),
          owes_load 13 (some 77) [9, 12] (.int .i64 b2) 3 (Go.Operand.tmp 76) (.pointer (some ⟨G1, 1, none⟩)) (fun v => by kernel_rfl) (fun v => by kernel_rfl) (fun w' hb => ld_intP _ _ _ w' ((((drP hb).cell (p := ⟨G1, 1, none⟩) hp.lt)).trans hp.c1)),
          owes_move 14 (some 78) [9] (.pointer (some ⟨G2, 0, none⟩)) (Go.Operand.tmp 9) (fun v => by kernel_rfl) (fun v => by kernel_rfl),
          owes_nil 15 (some 79) [9, 14] (Go.Operand.tmp 78) _ (fun v => by kernel_rfl) (fun v => by kernel_rfl),
          owes_field 16 (some 80) [9, 15] (.pointer (some ⟨G2, 1, none⟩)) 39 (Go.Operand.tmp 79) 1 (.pointer (some ⟨G2, 0, none⟩)) (fun v => by kernel_rfl) (fun v => by kernel_rfl) (fun w => by kernel_rfl),
          owes_load 17 (some 81) [9, 16] (.int .i64 b2) 3 (Go.Operand.tmp 80) (.pointer (some ⟨G2, 1, none⟩)) (fun v => by kernel_rfl) (fun v => by kernel_rfl) (fun w' hb => ld_intP _ _ _ w' ((((drP hb).cell (p := ⟨G2, 1, none⟩) hd.lt)).trans hd.c1)),
          owes_bin 18 (some 82) [9, 13, 17] (.bool false) Go.BinOp.neq 3 (Go.Operand.tmp 77) (Go.Operand.tmp 81) 3 (.int .i64 b2) (.int .i64 b2) (fun v => by kernel_rfl) (fun v => by kernel_rfl) (neqS _ _ _ _),
          owes_pick 19 (some 83) [9, 18] (.bool false) (Go.Operand.tmp 73) (Go.Operand.const (Go.Value.bool true)) (Go.Operand.tmp 82) false (fun v => by kernel_rfl) (fun v => by kernel_rfl) (fun v => by kernel_rfl),
          owes_move 20 (some 84) [19] (.bool false) (Go.Operand.tmp 83) (fun v => by kernel_rfl) (fun v => by kernel_rfl),
          owes_move 21 (some 85) [20] (.pointer (some ⟨G1, 0, none⟩)) (Go.Operand.tmp 8) (fun v => by kernel_rfl) (fun v => by kernel_rfl),
          owes_call 22 (some 86) [20, 21] (.bool (b2 == 0)) 23 #[Go.Operand.tmp 85] #[35] (fun v => by kernel_rfl) (fun _ _ => by kernel_rfl) (fun v w' hb ho => by
              exact ⟨#[.pointer (some ⟨G1, 0, none⟩)], by kernel_rfl, (HRY w' (drP hb)).mono (fun _ _ h => h)⟩),
          owes_move 23 (some 87) [20] (.pointer (some ⟨G2, 0, none⟩)) (Go.Operand.tmp 9) (fun v => by kernel_rfl) (fun v => by kernel_rfl),
          owes_nil 24 (some 88) [20, 23] (Go.Operand.tmp 87) _ (fun v => by kernel_rfl) (fun v => by kernel_rfl),
          owes_field 25 (some 89) [20, 24] (.pointer (some ⟨G2, 1, none⟩)) 39 (Go.Operand.tmp 88) 1 (.pointer (some ⟨G2, 0, none⟩)) (fun v => by kernel_rfl) (fun v => by kernel_rfl) (fun w => by kernel_rfl),
          owes_load 26 (some 90) [20, 25] (.int .i64 b2) 3 (Go.Operand.tmp 89) (.pointer (some ⟨G2, 1, none⟩)) (fun v => by kernel_rfl) (fun v => by kernel_rfl) (fun w' hb => ld_intP _ _ _ w' ((((drP hb).cell (p := ⟨G2, 1, none⟩) hd.lt)).trans hd.c1)),
          owes_bin 27 (some 91) [20, 26] (.bool (b2 == 0)) Go.BinOp.eql 3 (Go.Operand.tmp 90) (Go.Operand.const (Go.Value.int Go.IntKind.i64 0)) 3 (.int .i64 b2) (Go.Value.int Go.IntKind.i64 0) (fun v => by kernel_rfl) (fun v => by kernel_rfl) (eqP _ _ _ _ _),
          owes_bin 28 (some 92) [20, 22, 27] (.bool false) Go.BinOp.neq 4 (Go.Operand.tmp 86) (Go.Operand.tmp 91) 4 (.bool (b2 == 0)) (.bool (b2 == 0)) (fun v => by kernel_rfl) (fun v => by kernel_rfl) (neqB _ _ _),
          owes_pick 29 (some 93) [20, 28] (.bool false) (Go.Operand.tmp 84) (Go.Operand.const (Go.Value.bool true)) (Go.Operand.tmp 92) false (fun v => by kernel_rfl) (fun v => by kernel_rfl) (fun v => by kernel_rfl), trivial⟩ ?_
        intro v wy hby hall
        clear hall HRY
        replace hby := drP hby
        replace hp := hp.next hby
        replace hd := hd.next hby
        replace hb := hb.trans (hby.mono (by omega))
        simp only [putsL_k, putsL_nil, List.set_cons_zero, List.set_cons_succ]
        clear hby
        go_wp2_with fail
        go_roundw
        case rel => exact ⟨k + 1, a2, b2, G2, by omega, by go_num, rfl, hbb, hG2, hp, hd, hb⟩
        case measure => simp [intOf]; omega
      · obtain ⟨m, hm⟩ : ∃ m, m = ((K + 1 + 1 : Nat) : Int) := ⟨_, rfl⟩
        have hk0 : (m == 0) = false := by simp; omega
        have hk1 : (m == 1) = false := by simp; omega
        rw [← hm]
        clear hm hKl
        go_wp2_with fail
        refine (ptick_any G1 a b w1 hp (by omega)).mono ?_
        rintro e w2 ⟨rfl, hp2, ho2⟩
        have hd2 := hd.other ho2 (by omega)
        have hb2 := hb.trans (ho2.below hB3 (by omega))
        have hp0 := hp2.lt
        clear hp hd hb ho2
        go_wp2_with fail
        refine (dtick_any G2 a b w2 hd2 (by omega)).mono ?_
        rintro e wz ⟨rfl, hd, ho3⟩
        have hp := hp2.other ho3 (by omega)
        have hb := hb2.trans (ho3.below (show B ≤ G2 by omega) (by omega))
        have hp0 := hp.lt
        clear hp2 hd2 hb2 ho3
        obtain ⟨b2, hb2⟩ : ∃ b2, b2 = tickN b := ⟨_, rfl⟩
        rw [← hb2] at hp hd
        have hbb : -20 ≤ a ∧ a ≤ 2000 + ((k + 1 : Nat) : Int) ∧ -3 ≤ b2 ∧ b2 ≤ 100 := by
          rw [hb2]
          unfold tickN
          split <;> omega
        clear hb2 hk0 hk1
        have HRY : ∀ w', Below wz.heap.size wz w' → Calls Try.prog 23 #[.pointer (some ⟨G1, 0, none⟩)] w' fun e w'' => e = .returned (.bool (b2 == 0)) ∧ Below w'.heap.size w' w'' := fun w' hb' =>
          (ready_any G1 a b2 w' (hp.next hb')).mono fun e w'' h => ⟨h.1, by rw [h.2]; exact Below.refl _ _⟩
        go_upto_region 22 with (fail)
        refine wp_region_spec [Sp.k 0 (some 64) [] (.pointer (some ⟨G1, 0, none⟩)),
          Sp.k 1 (some 65) [0] (.pointer (some ⟨G1, 0, none⟩)),
          Sp.k 2 (some 66) [1] (.pointer (some ⟨G1, 0, none⟩)),
          Sp.k 3 (some 67) [2] (.int .i64 a),
          Sp.k 4 (some 68) [] (.pointer (some ⟨G2, 0, none⟩)),
          Sp.k 5 (some 69) [4] (.pointer (some ⟨G2, 0, none⟩)),
          Sp.k 6 (some 70) [5] (.pointer (some ⟨G2, 0, none⟩)),
          Sp.k 7 (some 71) [6] (.int .i64 a),
          Sp.k 8 (some 72) [3, 7] (.bool false),
          Sp.k 9 (some 73) [8] (.bool false),
          Sp.k 10 (some 74) [9] (.pointer (some ⟨G1, 0, none⟩)),
          Sp.k 11 (some 75) [9, 10] (.pointer (some ⟨G1, 0, none⟩)),
          Sp.k 12 (some 76) [9, 11] (.pointer (some ⟨G1, 1, none⟩)),
          Sp.k 13 (some 77) [9, 12] (.int .i64 b2),
          Sp.k 14 (some 78) [9] (.pointer (some ⟨G2, 0, none⟩)),
          Sp.k 15 (some 79) [9, 14] (.pointer (some ⟨G2, 0, none⟩)),
          Sp.k 16 (some 80) [9, 15] (.pointer (some ⟨G2, 1, none⟩)),
          Sp.k 17 (some 81) [9, 16] (.int .i64 b2),
          Sp.k 18 (some 82) [9, 13, 17] (.bool false),
          Sp.k 19 (some 83) [9, 18] (.bool false),
          Sp.k 20 (some 84) [19] (.bool false),
          Sp.k 21 (some 85) [20] (.pointer (some ⟨G1, 0, none⟩)),
          Sp.k 22 (some 86) [20, 21] (.bool (b2 == 0)),
          Sp.k 23 (some 87) [20] (.pointer (some ⟨G2, 0, none⟩)),
          Sp.k 24 (some 88) [20, 23] (.pointer (some ⟨G2, 0, none⟩)),
          Sp.k 25 (some 89) [20, 24] (.pointer (some ⟨G2, 1, none⟩)),
          Sp.k 26 (some 90) [20, 25] (.int .i64 b2),
          Sp.k 27 (some 91) [20, 26] (.bool (b2 == 0)),
          Sp.k 28 (some 92) [20, 22, 27] (.bool false),
          Sp.k 29 (some 93) [20, 28] (.bool false)] (by kernel_rfl) (by kernel_rfl)
          ⟨owes_move 0 (some 64) [] (.pointer (some ⟨G1, 0, none⟩)) (Go.Operand.tmp 8) (fun v => by kernel_rfl) (fun v => by kernel_rfl),
          owes_nil 1 (some 65) [0] (Go.Operand.tmp 64) _ (fun v => by kernel_rfl) (fun v => by kernel_rfl),
          owes_field 2 (some 66) [1] (.pointer (some ⟨G1, 0, none⟩)) 37 (Go.Operand.tmp 65) 0 (.pointer (some ⟨G1, 0, none⟩)) (fun v => by kernel_rfl) (fun v => by kernel_rfl) (fun w => by kernel_rfl),
          owes_load 3 (some 67) [2] (.int .i64 a) 3 (Go.Operand.tmp 66) (.pointer (some ⟨G1, 0, none⟩)) (fun v => by kernel_rfl) (fun v => by kernel_rfl) (fun w' hb => ld_intP _ _ _ w' ((((drP hb).cell (p := ⟨G1, 0, none⟩) hp.lt)).trans hp.c0)),
          owes_move 4 (some 68) [] (.pointer (some ⟨G2, 0, none⟩)) (Go.Operand.tmp 9) (fun v => by kernel_rfl) (fun v => by kernel_rfl),
          owes_nil 5 (some 69) [4] (Go.Operand.tmp 68) _ (fun v => by kernel_rfl) (fun v => by kernel_rfl),
          owes_field 6 (some 70) [5] (.pointer (some ⟨G2, 0, none⟩)) 39 (Go.Operand.tmp 69) 0 (.pointer (some ⟨G2, 0, none⟩)) (fun v => by kernel_rfl) (fun v => by kernel_rfl) (fun w => by kernel_rfl),
          owes_load 7 (some 71) [6] (.int .i64 a) 3 (Go.Operand.tmp 70) (.pointer (some ⟨G2, 0, none⟩)) (fun v => by kernel_rfl) (fun v => by kernel_rfl) (fun w' hb => ld_intP _ _ _ w' ((((drP hb).cell (p := ⟨G2, 0, none⟩) hd.lt)).trans hd.c0)),
          owes_bin 8 (some 72) [3, 7] (.bool false) Go.BinOp.neq 3 (Go.Operand.tmp 67) (Go.Operand.tmp 71) 3 (.int .i64 a) (.int .i64 a) (fun v => by kernel_rfl) (fun v => by kernel_rfl) (neqS _ _ _ _),
          owes_move 9 (some 73) [8] (.bool false) (Go.Operand.tmp 72) (fun v => by kernel_rfl) (fun v => by kernel_rfl),
          owes_move 10 (some 74) [9] (.pointer (some ⟨G1, 0, none⟩)) (Go.Operand.tmp 8) (fun v => by kernel_rfl) (fun v => by kernel_rfl),
          owes_nil 11 (some 75) [9, 10] (Go.Operand.tmp 74) _ (fun v => by kernel_rfl) (fun v => by kernel_rfl),
          owes_field 12 (some 76) [9, 11] (.pointer (some ⟨G1, 1, none⟩)) 37 (Go.Operand.tmp 75) 1 (.pointer (some ⟨G1, 0, none⟩)) (fun v => by kernel_rfl) (fun v => by kernel_rfl) (fun w => by kernel_rfl),
          owes_load 13 (some 77) [9, 12] (.int .i64 b2) 3 (Go.Operand.tmp 76) (.pointer (some ⟨G1, 1, none⟩)) (fun v => by kernel_rfl) (fun v => by kernel_rfl) (fun w' hb => ld_intP _ _ _ w' ((((drP hb).cell (p := ⟨G1, 1, none⟩) hp.lt)).trans hp.c1)),
          owes_move 14 (some 78) [9] (.pointer (some ⟨G2, 0, none⟩)) (Go.Operand.tmp 9) (fun v => by kernel_rfl) (fun v => by kernel_rfl),
          owes_nil 15 (some 79) [9, 14] (Go.Operand.tmp 78) _ (fun v => by kernel_rfl) (fun v => by kernel_rfl),
          owes_field 16 (some 80) [9, 15] (.pointer (some ⟨G2, 1, none⟩)) 39 (Go.Operand.tmp 79) 1 (.pointer (some ⟨G2, 0, none⟩)) (fun v => by kernel_rfl) (fun v => by kernel_rfl) (fun w => by kernel_rfl),
          owes_load 17 (some 81) [9, 16] (.int .i64 b2) 3 (Go.Operand.tmp 80) (.pointer (some ⟨G2, 1, none⟩)) (fun v => by kernel_rfl) (fun v => by kernel_rfl) (fun w' hb => ld_intP _ _ _ w' ((((drP hb).cell (p := ⟨G2, 1, none⟩) hd.lt)).trans hd.c1)),
          owes_bin 18 (some 82) [9, 13, 17] (.bool false) Go.BinOp.neq 3 (Go.Operand.tmp 77) (Go.Operand.tmp 81) 3 (.int .i64 b2) (.int .i64 b2) (fun v => by kernel_rfl) (fun v => by kernel_rfl) (neqS _ _ _ _),
          owes_pick 19 (some 83) [9, 18] (.bool false) (Go.Operand.tmp 73) (Go.Operand.const (Go.Value.bool true)) (Go.Operand.tmp 82) false (fun v => by kernel_rfl) (fun v => by kernel_rfl) (fun v => by kernel_rfl),
          owes_move 20 (some 84) [19] (.bool false) (Go.Operand.tmp 83) (fun v => by kernel_rfl) (fun v => by kernel_rfl),
          owes_move 21 (some 85) [20] (.pointer (some ⟨G1, 0, none⟩)) (Go.Operand.tmp 8) (fun v => by kernel_rfl) (fun v => by kernel_rfl),
          owes_call 22 (some 86) [20, 21] (.bool (b2 == 0)) 23 #[Go.Operand.tmp 85] #[35] (fun v => by kernel_rfl) (fun _ _ => by kernel_rfl) (fun v w' hb ho => by
              exact ⟨#[.pointer (some ⟨G1, 0, none⟩)], by kernel_rfl, (HRY w' (drP hb)).mono (fun _ _ h => h)⟩),
          owes_move 23 (some 87) [20] (.pointer (some ⟨G2, 0, none⟩)) (Go.Operand.tmp 9) (fun v => by kernel_rfl) (fun v => by kernel_rfl),
          owes_nil 24 (some 88) [20, 23] (Go.Operand.tmp 87) _ (fun v => by kernel_rfl) (fun v => by kernel_rfl),
          owes_field 25 (some 89) [20, 24] (.pointer (some ⟨G2, 1, none⟩)) 39 (Go.Operand.tmp 88) 1 (.pointer (some ⟨G2, 0, none⟩)) (fun v => by kernel_rfl) (fun v => by kernel_rfl) (fun w => by kernel_rfl),
          owes_load 26 (some 90) [20, 25] (.int .i64 b2) 3 (Go.Operand.tmp 89) (.pointer (some ⟨G2, 1, none⟩)) (fun v => by kernel_rfl) (fun v => by kernel_rfl) (fun w' hb => ld_intP _ _ _ w' ((((drP hb).cell (p := ⟨G2, 1, none⟩) hd.lt)).trans hd.c1)),
          owes_bin 27 (some 91) [20, 26] (.bool (b2 == 0)) Go.BinOp.eql 3 (Go.Operand.tmp 90) (Go.Operand.const (Go.Value.int Go.IntKind.i64 0)) 3 (.int .i64 b2) (Go.Value.int Go.IntKind.i64 0) (fun v => by kernel_rfl) (fun v => by kernel_rfl) (eqP _ _ _ _ _),
          owes_bin 28 (some 92) [20, 22, 27] (.bool false) Go.BinOp.neq 4 (Go.Operand.tmp 86) (Go.Operand.tmp 91) 4 (.bool (b2 == 0)) (.bool (b2 == 0)) (fun v => by kernel_rfl) (fun v => by kernel_rfl) (neqB _ _ _),
          owes_pick 29 (some 93) [20, 28] (.bool false) (Go.Operand.tmp 84) (Go.Operand.const (Go.Value.bool true)) (Go.Operand.tmp 92) false (fun v => by kernel_rfl) (fun v => by kernel_rfl) (fun v => by kernel_rfl), trivial⟩ ?_
        intro v wy hby hall
        clear hall HRY
        replace hby := drP hby
        replace hp := hp.next hby
        replace hd := hd.next hby
        replace hb := hb.trans (hby.mono (by omega))
        simp only [putsL_k, putsL_nil, List.set_cons_zero, List.set_cons_succ]
        clear hby
        go_wp2_with fail
        go_roundw
        case rel => exact ⟨k + 1, a, b2, G2, by omega, by go_num, rfl, hbb, hG2, hp, hd, hb⟩
        case measure => simp [intOf]; omega
    · obtain rfl : k = xs.length := by omega
      go_wp2_with fail
      go_ret
      exact ⟨rfl, by rw [HB.out]; exact hb⟩
end Go.Proofs.Ytkhbhfnfpognpaa
