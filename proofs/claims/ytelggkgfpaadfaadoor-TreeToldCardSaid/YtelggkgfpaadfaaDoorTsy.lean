import Derived.Test.YtelggkgfpaadfaaDoorThs
namespace Go.Proofs.YtelggkgfpaadfaaDoor
open Go.RowKit

theorem hash_load {W : World} {b : Nat} {f : Nat → BitVec 8} (h : W.rowIs b 25 32 (fun i => v8 (f i))) : (Instr.loadAt 25 (.pointer (some ⟨b, 0, none⟩))).run Tryd.prog W = .ok (.agg (arr8 32 f)) W := by
  have := load_row (P := Tryd.prog) 25 b 0 (arr8 32 f).toList _ Tryd.underlying25 rfl (by simp only [Array.length_toList, arr8_size]; kernel_rfl) W (rangeAt_row h)
  simpa using this
theorem eq_i64_self (t : TypeId) (x y : Operand) (a : Int) (w : World) : (do eqGuard .eql t x y (.int .i64 a) (.int .i64 a); binOp .eql t (.int .i64 a) (.int .i64 a) : Sem Value).run Tryd.prog w = .ok (.bool true) w := by
  simp [eqGuard, binOp, Op.intCmp]
theorem SeqAt.new {w : World} {A : Option Addr} {xs : List Int} {cap : Nat} (h : SlRead w A (ints .i64 xs)) : SeqAt (w.alloc (.cells #[.slice A xs.length cap, .int .i64 0] 31)) w.heap.size 0 A xs cap := by
  refine ⟨heap_alloc_new _ _, h.below ((Below.refl _ _).alloc (Nat.le_refl _) _), fun hn b o e => ?_⟩
  obtain ⟨b', o', e', hlt, _⟩ := h (by simpa using hn)
  rw [e] at e'
  injection e' with e'
  injection e' with e1 e2
  omega
theorem Only.belowR {g B : Nat} {w w' : World} (h : Only g w w') (hB : B ≤ g) (hs : B ≤ w.heap.size) : Below B w w' := h.below hB hs

set_option maxRecDepth 100000 in
set_option maxHeartbeats 1600000 in
theorem tsay_walk (A : Option Addr) (xs : List Int) (ca : Nat) (C : Option Addr) (bs : List (BitVec 8)) (cc : Nat) (x y : Nat → BitVec 8) (z : Int) (w : World) (hA : SlRead w A (ints .i64 xs)) (hxs : ∀ x ∈ xs, -9223372036854775808 ≤ x ∧ x ≤ 9223372036854775807) (hla : xs.length ≤ 9223372036854775807)
    (hC : SlRead w C (ints .u8 (bys bs))) (hcc : bs.length ≤ cc) (hlc : bs.length ≤ 9223372036854775807) (hk : KAt w) :
    Calls Tryd.prog 3 #[.slice A xs.length ca, .slice C bs.length cc, .agg (arr8 32 x), .agg (arr8 32 y), .int .i64 z] w fun e w' => e = .returned (.bool true) ∧ Below w.heap.size w w' := by
  obtain ⟨m, hm1, hm2⟩ := exists_mod z 1099511627776 (by omega)
  go_enter Tryd.func3, Tryd.ntmps3
  go_upto_region 1 with (fail)
  refine wp_world (fun W => Below w.heap.size w W ∧ W.rowIs w.heap.size 25 32 (fun i => v8 (x i)) ∧ W.rowIs (w.heap.size + 1) 25 32 (fun i => v8 (y i))) ?_ ?_
  · refine ⟨by go_grown, ?_, ?_⟩
    · exact (rowIs_new w (arr8 32 x) 25 w.heap.size 32 _ rfl (by simp) (fun i hi => arr8_get 32 x i hi)).alloc _
    · exact rowIs_new (w.alloc _) (arr8 32 y) 25 (w.heap.size + 1) 32 _ (by simp) (by simp) (fun i hi => arr8_get 32 y i hi)
  rintro W0 ⟨hb0, hx0, hy0⟩
  have hA0 := hA.below hb0
  have hC0 := hC.below hb0
  have hk0 := hk.below hb0
  clear hA hC hk
  generalize hB : w.heap.size = B at *
  have HB := Lib.hid hB; clear hB
  go_wp2_with fail
  refine (first_any W0 hk0).mono ?_
  rintro e W1 ⟨rfl, hb1⟩
  have hx1 := hx0.of_block (hb1.block _ hx0.lt)
  have hy1 := hy0.of_block (hb1.block _ hy0.lt)
  have hA1 := hA0.below hb1
  have hC1 := hC0.below hb1
  have hk1 := hk0.below hb1
  have hB1 : Below B w W1 := hb0.trans (hb1.mono (by have := hx0.lt; omega))
  clear hx0 hy0 hA0 hC0 hk0 hb0 hb1
  by_cases h1 : 60 < xs.length
  · have b1 : decide ((60 : Int) < (xs.length : Int)) = true := by simp; omega
    go_wp2_with fail
    go_ret
    rw [HB.out]
    exact ⟨rfl, hB1⟩
  have b1 : decide ((60 : Int) < (xs.length : Int)) = false := by simp; omega
  by_cases h2 : 100 < bs.length
  · have b2 : decide ((100 : Int) < (bs.length : Int)) = true := by simp; omega
    go_wp2_with fail
    go_ret
    rw [HB.out]
    exact ⟨rfl, hB1⟩
  have b2 : decide ((100 : Int) < (bs.length : Int)) = false := by simp; omega
  have hsq := SeqAt.new (cap := ca) hA1
  have hba : Below W1.heap.size W1 (W1.alloc (.cells #[.slice A xs.length ca, .int .i64 0] 31)) := (Below.refl _ _).alloc (Nat.le_refl _) _
  have hC2 := hC1.below hba
  have hk2 := hk1.below hba
  have hx2 := hx1.of_block (hba.block _ hx1.lt)
  have hy2 := hy1.of_block (hba.block _ hy1.lt)
  have hB2 : Below B w (W1.alloc (.cells #[.slice A xs.length ca, .int .i64 0] 31)) := hB1.trans (hba.mono (by have := hx1.lt; omega))
  have hGB : B + 1 < W1.heap.size := hy1.lt
  have hh := hashes_any W1.heap.size 0 A xs ca 40 _ hsq (by omega) (by omega) hxs
  go_wp2_with fail
  refine hh.mono ?_
  rintro e W3 ⟨hs, O, c, rfl, hl1, hl2, hl3, hO, honly⟩
  have hb3 : Below W1.heap.size (W1.alloc (.cells #[.slice A xs.length ca, .int .i64 0] 31)) W3 := honly.below (Nat.le_refl _) (by simp)
  have hb13 : Below W1.heap.size W1 W3 := hba.trans hb3
  have hC3 := hC1.below hb13
  have hk3 := hk1.below hb13
  have hx3 := hx1.of_block (hb13.block _ hx1.lt)
  have hy3 := hy1.of_block (hb13.block _ hy1.lt)
  have hB3 : Below B w W3 := hB1.trans (hb13.mono (by omega))
  clear hsq hba hC2 hk2 hx2 hy2 hB2 hh honly hb3 hb13 hC1 hk1 hx1 hy1 hB1 hA1
  go_wp2_with fail
  refine (number_nat z 1099511627776 m W3 (by omega) hm1).mono ?_
  rintro e W4 ⟨rfl, n4, rfl⟩
  have hb4 : Below W3.heap.size W3 (W3.drewN n4) := Below.drewNr n4
  have hC4 := hC3.below hb4
  have hk4 := hk3.below hb4
  have hx4 := hx3.of_block (hb4.block _ hx3.lt)
  have hy4 := hy3.of_block (hb4.block _ hy3.lt)
  have hO4 := hO.below hb4
  have hB4 : Below B w (W3.drewN n4) := hB3.trans (hb4.mono (by have := hx3.lt; omega))
  generalize W3.drewN n4 = W5 at *
  clear hC3 hk3 hx3 hy3 hO hB3 hb4 hm1
  go_upto_region 8 with (fail)
  obtain ⟨z5, hz5⟩ : ∃ z5 : Int, z5 = (m : Int) - 5 := ⟨_, rfl⟩
  rw [← hz5]
  have hz6 : z5 ≤ 1099511627776 := by omega
  clear hz5
  have hd := Below.drewNr (w := W5) (B := W5.heap.size) 1
  have hXd := hx4.of_block (hd.block _ hx4.lt)
  have hYd := hy4.of_block (hd.block _ hy4.lt)
  have hCd := hC4.below hd
  have hOd := hO4.below hd
  have hkd := hk4.below hd
  have hBd : Below B w (W5.drewN 1) := hB4.trans (hd.mono (by have := hx4.lt; omega))
  change W5.drew.rowIs _ _ _ _ at hXd hYd
  change SlRead W5.drew _ _ at hCd hOd
  change KAt W5.drew at hkd
  change Below B w W5.drew at hBd
  clear hx4 hy4 hC4 hO4 hk4 hB4 hd
  have HLX : ∀ w', Below W5.drew.heap.size W5.drew w' → (Instr.loadAt 25 (.pointer (some ⟨B, 0, none⟩))).run Tryd.prog w' = .ok (.agg (arr8 32 x)) w' := fun w' hb => hash_load (hXd.of_block (hb.block _ hXd.lt))
  have HLY : ∀ w', Below W5.drew.heap.size W5.drew w' → (Instr.loadAt 25 (.pointer (some ⟨B + 1, 0, none⟩))).run Tryd.prog w' = .ok (.agg (arr8 32 y)) w' := fun w' hb => hash_load (hYd.of_block (hb.block _ hYd.lt))
  have HLF := fun w' hb => leaf_any C bs cc w' (hCd.below hb) hcc (by omega) (hkd.below hb)
  have HDL := fun w' hb => dleaf_any C bs cc w' (hCd.below hb) (by omega)
  have HND := fun w' hb => node_any x y w' (hkd.below (w' := w') hb)
  have HDN := fun w' (_ : Below W5.drew.heap.size W5.drew w') => dnode_any x y w'
  have HSP := fun w' => split_any z5 (by omega) w'
  have HDS := fun w' => dsplit_any z5 (by omega) w'
  have HRT := fun w' hb => root_any hs.length hs O c w' (Nat.le_refl _) (hOd.below hb) hl2 (by omega) (hkd.below hb)
  have HDR := fun w' hb => drootn_any hs.length hs O c w' (Nat.le_refl _) (hOd.below hb) hl2 (by omega)
  generalize shaOf (0#8 :: bs) = L at *
  generalize nodeOf x y = ND at *
  generalize rootOf hs = R at *
  generalize ((spl z5.toNat : Nat) : Int) = SP at *
  refine wp_region_spec_v [Sp.k 0 (some 32) [] (.bool true),
    Sp.k 1 (some 33) [0] (.bool true),
    Sp.k 2 (some 34) [1] (.slice C bs.length cc),
    Sp.k 3 (some 35) [1, 2] (.agg (arr8 32 L)),
    Sp.k 4 (some 36) [1] (.slice C bs.length cc),
    Sp.k 5 (some 37) [1, 4] (.agg (arr8 32 L)),
    Sp.k 6 (some 38) [1, 3, 5] (.bool true),
    Sp.k 7 (some 39) [1, 6] (.bool true),
    Sp.k 8 (some 40) [7] (.bool true),
    Sp.k 9 (some 41) [8] (.agg (arr8 32 x)),
    Sp.k 10 (some 42) [8] (.agg (arr8 32 y)),
    Sp.k 11 (some 43) [8, 9, 10] (.agg (arr8 32 ND)),
    Sp.k 12 (some 44) [8] (.agg (arr8 32 x)),
    Sp.k 13 (some 45) [8] (.agg (arr8 32 y)),
    Sp.k 14 (some 46) [8, 12, 13] (.agg (arr8 32 ND)),
    Sp.k 15 (some 47) [8, 11, 14] (.bool true),
    Sp.k 16 (some 48) [8, 15] (.bool true),
    Sp.k 17 (some 49) [16] (.bool true),
    Sp.k 18 (some 50) [17] (.int .i64 z5),
    Sp.k 19 (some 51) [17, 18] (.int .i64 SP),
    Sp.k 20 (some 52) [17] (.int .i64 z5),
    Sp.k 21 (some 53) [17, 20] (.int .i64 SP),
    Sp.k 22 (some 54) [17, 19, 21] (.bool true),
    Sp.k 23 (some 55) [17, 22] (.bool true),
    Sp.k 24 (some 56) [23] (.bool true),
    Sp.k 25 (some 57) [24] (.slice O hs.length c),
    Sp.k 26 (some 58) [24, 25] (.agg (arr8 32 R)),
    Sp.k 27 (some 59) [24] (.slice O hs.length c),
    Sp.k 28 (some 60) [24, 27] (.agg (arr8 32 R)),
    Sp.k 29 (some 61) [24, 26, 28] (.bool true),
    Sp.k 30 (some 62) [24, 29] (.bool true),
    Sp.k 31 (some 10) [30] (.bool true)] (by kernel_rfl) (by kernel_rfl)
    ⟨owes_move 0 (some 32) [] (.bool true) (Go.Operand.tmp 11) (fun v => by kernel_rfl) (fun v => by kernel_rfl),
    owes_move 1 (some 33) [0] (.bool true) (Go.Operand.tmp 32) (fun v => by kernel_rfl) (fun v => by kernel_rfl),
    owes_move 2 (some 34) [1] (.slice C bs.length cc) (Go.Operand.tmp 1) (fun v => by kernel_rfl) (fun v => by kernel_rfl),
    owes_call 3 (some 35) [1, 2] (.agg (arr8 32 L)) 11 #[Go.Operand.tmp 34] #[23] (fun v => by kernel_rfl) (fun _ _ => by kernel_rfl) (fun v w' hb ho => by
        exact ⟨#[.slice C bs.length cc], by kernel_rfl, (HLF w' hb).mono (fun _ _ h => h)⟩),
    owes_move 4 (some 36) [1] (.slice C bs.length cc) (Go.Operand.tmp 1) (fun v => by kernel_rfl) (fun v => by kernel_rfl),
    owes_call 5 (some 37) [1, 4] (.agg (arr8 32 L)) 12 #[Go.Operand.tmp 36] #[23] (fun v => by kernel_rfl) (fun _ _ => by kernel_rfl) (fun v w' hb ho => by
        exact ⟨#[.slice C bs.length cc], by kernel_rfl, (HDL w' hb).mono (fun _ _ h => h)⟩),
    owes_eql 6 (some 38) [1, 3, 5] 25 (Go.Operand.tmp 35) (Go.Operand.tmp 37) 25 (arr8 32 L) (arr8 32 L) true (fun v => by kernel_rfl) (fun v => by kernel_rfl) (by kernel_rfl) (equal32 L),
    owes_pick 7 (some 39) [1, 6] (.bool true) (Go.Operand.tmp 33) (Go.Operand.tmp 38) (Go.Operand.const (Go.Value.bool false)) true (fun v => by kernel_rfl) (fun v => by kernel_rfl) (fun v => by kernel_rfl),
    owes_move 8 (some 40) [7] (.bool true) (Go.Operand.tmp 39) (fun v => by kernel_rfl) (fun v => by kernel_rfl),
    owes_load 9 (some 41) [8] (.agg (arr8 32 x)) 25 (Go.Operand.tmp 7) (.pointer (some ⟨B, 0, none⟩)) (fun v => by kernel_rfl) (fun v => by kernel_rfl) (fun w' hb => HLX w' hb),
    owes_load 10 (some 42) [8] (.agg (arr8 32 y)) 25 (Go.Operand.tmp 8) (.pointer (some ⟨B + 1, 0, none⟩)) (fun v => by kernel_rfl) (fun v => by kernel_rfl) (fun w' hb => HLY w' hb),
    owes_call 11 (some 43) [8, 9, 10] (.agg (arr8 32 ND)) 13 #[Go.Operand.tmp 41, Go.Operand.tmp 42] #[25, 25] (fun v => by kernel_rfl) (fun _ _ => by kernel_rfl) (fun v w' hb ho => by
        exact ⟨#[.agg (arr8 32 x), .agg (arr8 32 y)], by kernel_rfl, (HND w' hb).mono (fun _ _ h => h)⟩),
    owes_load 12 (some 44) [8] (.agg (arr8 32 x)) 25 (Go.Operand.tmp 7) (.pointer (some ⟨B, 0, none⟩)) (fun v => by kernel_rfl) (fun v => by kernel_rfl) (fun w' hb => HLX w' hb),
    owes_load 13 (some 45) [8] (.agg (arr8 32 y)) 25 (Go.Operand.tmp 8) (.pointer (some ⟨B + 1, 0, none⟩)) (fun v => by kernel_rfl) (fun v => by kernel_rfl) (fun w' hb => HLY w' hb),
    owes_call 14 (some 46) [8, 12, 13] (.agg (arr8 32 ND)) 14 #[Go.Operand.tmp 44, Go.Operand.tmp 45] #[25, 25] (fun v => by kernel_rfl) (fun _ _ => by kernel_rfl) (fun v w' hb ho => by
        exact ⟨#[.agg (arr8 32 x), .agg (arr8 32 y)], by kernel_rfl, (HDN w' hb).mono (fun _ _ h => h)⟩),
    owes_eql 15 (some 47) [8, 11, 14] 25 (Go.Operand.tmp 43) (Go.Operand.tmp 46) 25 (arr8 32 ND) (arr8 32 ND) true (fun v => by kernel_rfl) (fun v => by kernel_rfl) (by kernel_rfl) (equal32 ND),
    owes_pick 16 (some 48) [8, 15] (.bool true) (Go.Operand.tmp 40) (Go.Operand.tmp 47) (Go.Operand.const (Go.Value.bool false)) true (fun v => by kernel_rfl) (fun v => by kernel_rfl) (fun v => by kernel_rfl),
    owes_move 17 (some 49) [16] (.bool true) (Go.Operand.tmp 48) (fun v => by kernel_rfl) (fun v => by kernel_rfl),
    owes_move 18 (some 50) [17] (.int .i64 z5) (Go.Operand.tmp 4) (fun v => by kernel_rfl) (fun v => by kernel_rfl),
    owes_call 19 (some 51) [17, 18] (.int .i64 SP) 15 #[Go.Operand.tmp 50] #[3] (fun v => by kernel_rfl) (fun _ _ => by kernel_rfl) (fun v w' hb ho => by
        exact ⟨#[.int .i64 z5], by kernel_rfl, (HSP w').mono (fun _ _ h => h)⟩),
    owes_move 20 (some 52) [17] (.int .i64 z5) (Go.Operand.tmp 4) (fun v => by kernel_rfl) (fun v => by kernel_rfl),
    owes_call 21 (some 53) [17, 20] (.int .i64 SP) 16 #[Go.Operand.tmp 52] #[3] (fun v => by kernel_rfl) (fun _ _ => by kernel_rfl) (fun v w' hb ho => by
        exact ⟨#[.int .i64 z5], by kernel_rfl, (HDS w').mono (fun _ _ h => h)⟩),
    owes_bin 22 (some 54) [17, 19, 21] (.bool true) Go.BinOp.eql 3 (Go.Operand.tmp 51) (Go.Operand.tmp 53) 3 (.int .i64 SP) (.int .i64 SP) (fun v => by kernel_rfl) (fun v => by kernel_rfl) (eq_i64_self _ _ _ _),
    owes_pick 23 (some 55) [17, 22] (.bool true) (Go.Operand.tmp 49) (Go.Operand.tmp 54) (Go.Operand.const (Go.Value.bool false)) true (fun v => by kernel_rfl) (fun v => by kernel_rfl) (fun v => by kernel_rfl),
    owes_move 24 (some 56) [23] (.bool true) (Go.Operand.tmp 55) (fun v => by kernel_rfl) (fun v => by kernel_rfl),
    owes_move 25 (some 57) [24] (.slice O hs.length c) (Go.Operand.tmp 12) (fun v => by kernel_rfl) (fun v => by kernel_rfl),
    owes_call 26 (some 58) [24, 25] (.agg (arr8 32 R)) 17 #[Go.Operand.tmp 57] #[27] (fun v => by kernel_rfl) (fun _ _ => by kernel_rfl) (fun v w' hb ho => by
        exact ⟨#[.slice O hs.length c], by kernel_rfl, (HRT w' hb).mono (fun _ _ h => h)⟩),
    owes_move 27 (some 59) [24] (.slice O hs.length c) (Go.Operand.tmp 12) (fun v => by kernel_rfl) (fun v => by kernel_rfl),
    owes_call 28 (some 60) [24, 27] (.agg (arr8 32 R)) 18 #[Go.Operand.tmp 59] #[27] (fun v => by kernel_rfl) (fun _ _ => by kernel_rfl) (fun v w' hb ho => by
        exact ⟨#[.slice O hs.length c], by kernel_rfl, (HDR w' hb).mono (fun _ _ h => h)⟩),
    owes_eql 29 (some 61) [24, 26, 28] 25 (Go.Operand.tmp 58) (Go.Operand.tmp 60) 25 (arr8 32 R) (arr8 32 R) true (fun v => by kernel_rfl) (fun v => by kernel_rfl) (by kernel_rfl) (equal32 R),
    owes_pick 30 (some 62) [24, 29] (.bool true) (Go.Operand.tmp 56) (Go.Operand.tmp 61) (Go.Operand.const (Go.Value.bool false)) true (fun v => by kernel_rfl) (fun v => by kernel_rfl) (fun v => by kernel_rfl),
    owes_assign 31 (some 10) [30] (.bool true) (Go.Operand.tmp 62) (fun v => by kernel_rfl) (fun v => by kernel_rfl), trivial⟩ ?_
  intro v w' A' hA' hb hall
  have h10 : A'.tmps.getD 10 undef = .bool true := by rw [hA']; kernel_rfl
  have hd10 : A'.defers = [] := by rw [hA']; kernel_rfl
  have hbe := hBd.trans (hb.mono (by have := hXd.lt; omega))
  clear hall HLX HLY HLF HDL HND HDN HSP HDS HRT HDR hb hA'
  go_wp2_with fail
  rw [HB.out]
  exact ret_slot 10 rfl h10 hd10 ⟨rfl, hbe⟩
end Go.Proofs.YtelggkgfpaadfaaDoor
