import Derived.Test.YtelggkgfpaadfaaDoorTsy
namespace Go.Proofs.YtelggkgfpaadfaaDoor
open Go.RowKit

theorem lt_false (t : TypeId) (x y : Operand) {a b : Int} (h : ¬ a < b) (w : World) : (do eqGuard .lss t x y (.int .i64 a) (.int .i64 b); binOp .lss t (.int .i64 a) (.int .i64 b) : Sem Value).run Tryd.prog w = .ok (.bool false) w := by
  simp [eqGuard, binOp, Op.intCmp]; omega
theorem ge_false (t : TypeId) (x y : Operand) {a b : Int} (h : ¬ b ≤ a) (w : World) : (do eqGuard .geq t x y (.int .i64 a) (.int .i64 b); binOp .geq t (.int .i64 a) (.int .i64 b) : Sem Value).run Tryd.prog w = .ok (.bool false) w := by
  simp [eqGuard, binOp, Op.intCmp]; omega
theorem spl_pow (n : Nat) (h : 2 ≤ n) : ∃ j, spl n = 2 ^ j := by
  unfold spl
  rw [if_neg (by omega)]
  exact ⟨_, rfl⟩
theorem and_pow (k : Nat) (h1 : 0 < k) (h2 : k < 64) (hj : ∃ j, k = 2 ^ j) (x y : Operand) (w : World) : (do eqGuard .and 3 x y (.int .i64 (k : Int)) (.int .i64 ((k - 1 : Nat) : Int)); binOp .and 3 (.int .i64 (k : Int)) (.int .i64 ((k - 1 : Nat) : Int)) : Sem Value).run Tryd.prog w = .ok (.int .i64 0) w := by
  obtain ⟨j, rfl⟩ := hj
  have hj6 : j < 6 := by
    have := (Nat.pow_lt_pow_iff_right (a := 2) (by omega)).1 (show 2 ^ j < 2 ^ 6 by omega)
    omega
  have hc : j = 0 ∨ j = 1 ∨ j = 2 ∨ j = 3 ∨ j = 4 ∨ j = 5 := by omega
  clear h1 h2 hj6
  rcases hc with rfl | rfl | rfl | rfl | rfl | rfl <;> (show (_ : Result Value) = _; kernel_rfl)

set_option maxRecDepth 100000 in
set_option maxHeartbeats 1600000 in
theorem parts_walk (A : Option Addr) (xs : List Int) (ca : Nat) (w : World) (hA : SlRead w A (ints .i64 xs)) (hxs : ∀ x ∈ xs, -9223372036854775808 ≤ x ∧ x ≤ 9223372036854775807) (hla : xs.length ≤ 9223372036854775807) (hk : KAt w) :
    Calls Tryd.prog 4 #[.slice A xs.length ca] w fun e w' => e = .returned (.bool true) ∧ Below w.heap.size w w' := by
  go_enter Tryd.func4, Tryd.ntmps4
  go_wp2_with fail
  refine (first_any w hk).mono ?_
  rintro e W1 ⟨rfl, hB1⟩
  have hA1 := hA.below hB1
  have hk1 := hk.below hB1
  clear hA hk
  by_cases h1 : 60 < xs.length
  · have b1 : decide ((60 : Int) < (xs.length : Int)) = true := by simp; omega
    go_wp2_with fail
    go_ret
    exact ⟨rfl, hB1⟩
  have b1 : decide ((60 : Int) < (xs.length : Int)) = false := by simp; omega
  have hsq := SeqAt.new (cap := ca) hA1
  have hba : Below W1.heap.size W1 (W1.alloc (.cells #[.slice A xs.length ca, .int .i64 0] 31)) := (Below.refl _ _).alloc (Nat.le_refl _) _
  have hh := hashes_any W1.heap.size 0 A xs ca 50 _ hsq (by omega) (by omega) hxs
  go_wp2_with fail
  refine hh.mono ?_
  rintro e W3 ⟨hs, O, c, rfl, hl1, hl2, hl3, hO, honly⟩
  have hb3 : Below W1.heap.size (W1.alloc (.cells #[.slice A xs.length ca, .int .i64 0] 31)) W3 := honly.below (Nat.le_refl _) (by simp)
  have hb13 : Below W1.heap.size W1 W3 := hba.trans hb3
  have hk3 := hk1.below hb13
  have hB3 : Below w.heap.size w W3 := hB1.trans (hb13.mono hB1.size)
  clear hsq hba hh honly hb3 hb13 hk1 hB1 hA1
  have hsp := split_any (hs.length : Int) (by omega) W3
  rw [Int.toNat_natCast] at hsp
  go_wp2_with fail
  refine hsp.mono ?_
  rintro e W4 ⟨rfl, hb4⟩
  have hk4 := hk3.below hb4
  have hO4 := hO.below hb4
  have hB4 : Below w.heap.size w W4 := hB3.trans (hb4.mono hB3.size)
  clear hsp hb4 hB3 hO hk3
  rcases hs with _ | ⟨h, _ | ⟨h', hs⟩⟩
  · have hsp0 : spl ([] : List (Nat → BitVec 8)).length = 0 := rfl
    rw [hsp0]
    have e0 : (((0 : Nat) : Int) == 0) = true := by decide
    simp only [List.length_nil]
    go_upto_region 10 with (fail)
    have HRT : ∀ w', Below W4.heap.size W4 w' → Calls Tryd.prog 17 #[.slice none 0 0] w' fun e w'' => e = .returned (.agg (arr8 32 (shaOf []))) ∧ Below w'.heap.size w' w'' := fun w' hb => root_any 0 [] none 0 w' (Nat.le_refl _) SlRead.nil_ (Nat.le_refl _) (by simp) (hk4.below hb)
    have HDS : ∀ w', Calls Tryd.prog 19 #[.slice none 0 0] w' fun e w'' => e = .returned (.agg (arr8 32 (shaOf []))) ∧ Below w'.heap.size w' w'' := fun w' => dsum_any none [] 0 w' SlRead.nil_ (by simp)
    generalize shaOf [] = E at *
    refine wp_region_text_v [Sp.k 0 (some 24) [] (.bool true),
      Sp.k 1 (some 25) [0] (.bool true),
      Sp.k 2 (some 26) [1] (.int .i64 0),
      Sp.k 3 (some 27) [1, 2] (.bool true),
      Sp.k 4 (some 28) [1, 3] (.bool true),
      Sp.k 5 (some 29) [4] (.bool true),
      Sp.k 6 (some 30) [5] (.agg (arr8 32 E)),
      Sp.k 7 (some 31) [5] (.agg (arr8 32 E)),
      Sp.k 8 (some 32) [5, 6, 7] (.bool true),
      Sp.k 9 (some 33) [5, 8] (.bool true),
      Sp.k 10 (some 2) [9] (.bool true)] (by kernel_rfl)
      ⟨owes_move 0 (some 24) [] (.bool true) (Go.Operand.tmp 3) (fun v => by kernel_rfl) (fun v => by kernel_rfl),
      owes_move 1 (some 25) [0] (.bool true) (Go.Operand.tmp 24) (fun v => by kernel_rfl) (fun v => by kernel_rfl),
      owes_move 2 (some 26) [1] (.int .i64 0) (Go.Operand.tmp 6) (fun v => by kernel_rfl) (fun v => by kernel_rfl),
      owes_bin 3 (some 27) [1, 2] (.bool true) Go.BinOp.eql 3 (Go.Operand.tmp 26) (Go.Operand.const (Go.Value.int Go.IntKind.i64 0)) 3 (.int .i64 0) (Go.Value.int Go.IntKind.i64 0) (fun v => by kernel_rfl) (fun v => by kernel_rfl) (eq_i64_self _ _ _ _),
      owes_pick 4 (some 28) [1, 3] (.bool true) (Go.Operand.tmp 25) (Go.Operand.tmp 27) (Go.Operand.const (Go.Value.bool false)) true (fun v => by kernel_rfl) (fun v => by kernel_rfl) (fun v => by kernel_rfl),
      owes_move 5 (some 29) [4] (.bool true) (Go.Operand.tmp 28) (fun v => by kernel_rfl) (fun v => by kernel_rfl),
      owes_call 6 (some 30) [5] (.agg (arr8 32 E)) 17 #[Go.Operand.const (Go.Value.slice none 0 0)] #[27] (fun v => by kernel_rfl) (fun _ _ => by kernel_rfl) (fun v w' hb ho => by
          exact ⟨#[Go.Value.slice none 0 0], by kernel_rfl, (HRT w' hb).mono (fun _ _ h => h)⟩),
      owes_call 7 (some 31) [5] (.agg (arr8 32 E)) 19 #[Go.Operand.const (Go.Value.slice none 0 0)] #[23] (fun v => by kernel_rfl) (fun _ _ => by kernel_rfl) (fun v w' hb ho => by
          exact ⟨#[Go.Value.slice none 0 0], by kernel_rfl, (HDS w').mono (fun _ _ h => h)⟩),
      owes_eql 8 (some 32) [5, 6, 7] 25 (Go.Operand.tmp 30) (Go.Operand.tmp 31) 25 (arr8 32 E) (arr8 32 E) true (fun v => by kernel_rfl) (fun v => by kernel_rfl) (by kernel_rfl) (equal32 E),
      owes_pick 9 (some 33) [5, 8] (.bool true) (Go.Operand.tmp 29) (Go.Operand.tmp 32) (Go.Operand.const (Go.Value.bool false)) true (fun v => by kernel_rfl) (fun v => by kernel_rfl) (fun v => by kernel_rfl),
      owes_assign 10 (some 2) [9] (.bool true) (Go.Operand.tmp 33) (fun v => by kernel_rfl) (fun v => by kernel_rfl), trivial⟩ ?_
    intro v w' A' hA' hb hall
    have hs2 : A'.tmps.getD 2 undef = .bool true := by rw [hA']; kernel_rfl
    have hd2 : A'.defers = [] := by rw [hA']; kernel_rfl
    have hbe := hB4.trans (hb.mono hB4.size)
    clear hall hb hA'
    go_wp2_with fail
    exact ret_slot 2 rfl hs2 hd2 ⟨rfl, hbe⟩
  · have hsp0 : spl [h].length = 0 := rfl
    rw [hsp0]
    have e0 : (((1 : Nat) : Int) == 0) = false := by decide
    have e1 : (((1 : Nat) : Int) == 1) = true := by decide
    have hl2' : 1 ≤ c := by simpa using hl2
    obtain ⟨b, o, rfl, hblt, hcell⟩ := hO4 (by rw [hcells_length]; simp)
    have hO5 : SlRead W4.drew (some ⟨b, o, none⟩) (hcells [h]) := fun _ => ⟨b, o, rfl, hblt, hcell⟩
    have hbd : b < W4.drew.heap.size := hblt
    have hrg : W4.drew.rangeAt b o (arr8 32 h).toList := fun j v hv => hcell j v (by simpa [hcells] using hv)
    have hk5 : KAt W4.drew := hk4.of_block rfl
    have hB5 : Below w.heap.size w W4.drew := hB4.trans (Below.drewNr (w := W4) 1)
    simp only [List.length_cons, List.length_nil, Nat.zero_add]
    clear hcell hO4 hk4 hB4 hblt
    go_upto_region 12 with (fail)
    have HRT : ∀ w', Below W4.drew.heap.size W4.drew w' → Calls Tryd.prog 17 #[.slice (some ⟨b, o, none⟩) 1 c] w' fun e w'' => e = .returned (.agg (arr8 32 h)) ∧ Below w'.heap.size w' w'' := fun w' hb => root_any 1 [h] (some ⟨b, o, none⟩) c w' (Nat.le_refl _) (hO5.below hb) hl2' (by simp) (hk5.below hb)
    have HLD : ∀ w', Below W4.drew.heap.size W4.drew w' → (Instr.loadAt 25 (.pointer (some ⟨b, o, none⟩))).run Tryd.prog w' = .ok (.agg (arr8 32 h)) w' := by
      intro w' hb
      have := load_row (P := Tryd.prog) 25 b o (arr8 32 h).toList _ Tryd.underlying25 rfl (by simp only [Array.length_toList, arr8_size]; kernel_rfl) w' (fun j v hv => (hb.cell (p := ⟨b, o + j, none⟩) hbd).trans (hrg j v hv))
      simpa using this
    refine wp_region_spec_v [Sp.k 0 (some 36) [] (.bool true),
      Sp.k 1 (some 37) [0] (.bool true),
      Sp.k 2 (some 38) [1] (.int .i64 0),
      Sp.k 3 (some 39) [1, 2] (.bool true),
      Sp.k 4 (some 40) [1, 3] (.bool true),
      Sp.k 5 (some 41) [4] (.bool true),
      Sp.k 6 (some 42) [5] (.slice (some ⟨b, o, none⟩) 1 c),
      Sp.k 7 (some 43) [5, 6] (.agg (arr8 32 h)),
      Sp.k 8 (some 44) [5] (.slice (some ⟨b, o, none⟩) 1 c),
      Sp.k 9 (some 45) [5, 8] (.pointer (some ⟨b, o, none⟩)),
      Sp.k 10 (some 46) [5, 9] (.agg (arr8 32 h)),
      Sp.k 11 (some 47) [5, 7, 10] (.bool true),
      Sp.k 12 (some 48) [5, 11] (.bool true),
      Sp.k 13 (some 2) [12] (.bool true)] (by kernel_rfl) (by kernel_rfl)
      ⟨owes_move 0 (some 36) [] (.bool true) (Go.Operand.tmp 3) (fun v => by kernel_rfl) (fun v => by kernel_rfl),
      owes_move 1 (some 37) [0] (.bool true) (Go.Operand.tmp 36) (fun v => by kernel_rfl) (fun v => by kernel_rfl),
      owes_move 2 (some 38) [1] (.int .i64 0) (Go.Operand.tmp 6) (fun v => by kernel_rfl) (fun v => by kernel_rfl),
      owes_bin 3 (some 39) [1, 2] (.bool true) Go.BinOp.eql 3 (Go.Operand.tmp 38) (Go.Operand.const (Go.Value.int Go.IntKind.i64 0)) 3 (.int .i64 0) (Go.Value.int Go.IntKind.i64 0) (fun v => by kernel_rfl) (fun v => by kernel_rfl) (eq_i64_self _ _ _ _),
      owes_pick 4 (some 40) [1, 3] (.bool true) (Go.Operand.tmp 37) (Go.Operand.tmp 39) (Go.Operand.const (Go.Value.bool false)) true (fun v => by kernel_rfl) (fun v => by kernel_rfl) (fun v => by kernel_rfl),
      owes_move 5 (some 41) [4] (.bool true) (Go.Operand.tmp 40) (fun v => by kernel_rfl) (fun v => by kernel_rfl),
      owes_move 6 (some 42) [5] (.slice (some ⟨b, o, none⟩) 1 c) (Go.Operand.tmp 4) (fun v => by kernel_rfl) (fun v => by kernel_rfl),
      owes_call 7 (some 43) [5, 6] (.agg (arr8 32 h)) 17 #[Go.Operand.tmp 42] #[27] (fun v => by kernel_rfl) (fun _ _ => by kernel_rfl) (fun v w' hb ho => by
          exact ⟨#[.slice (some ⟨b, o, none⟩) 1 c], by kernel_rfl, (HRT w' hb).mono (fun _ _ h => h)⟩),
      owes_move 8 (some 44) [5] (.slice (some ⟨b, o, none⟩) 1 c) (Go.Operand.tmp 4) (fun v => by kernel_rfl) (fun v => by kernel_rfl),
      owes_index 9 (some 45) [5, 8] (.pointer (some ⟨b, o, none⟩)) 27 (Go.Operand.tmp 44) (Go.Operand.const (Go.Value.int Go.IntKind.i64 0)) (.slice (some ⟨b, o, none⟩) 1 c) (Go.Value.int Go.IntKind.i64 0) (fun v => by kernel_rfl) (fun v => by kernel_rfl) (idx32_0 b o 1 c (by omega)),
      owes_load 10 (some 46) [5, 9] (.agg (arr8 32 h)) 25 (Go.Operand.tmp 45) (.pointer (some ⟨b, o, none⟩)) (fun v => by kernel_rfl) (fun v => by kernel_rfl) (fun w' hb => HLD w' hb),
      owes_eql 11 (some 47) [5, 7, 10] 25 (Go.Operand.tmp 43) (Go.Operand.tmp 46) 25 (arr8 32 h) (arr8 32 h) true (fun v => by kernel_rfl) (fun v => by kernel_rfl) (by kernel_rfl) (equal32 h),
      owes_pick 12 (some 48) [5, 11] (.bool true) (Go.Operand.tmp 41) (Go.Operand.tmp 47) (Go.Operand.const (Go.Value.bool false)) true (fun v => by kernel_rfl) (fun v => by kernel_rfl) (fun v => by kernel_rfl),
      owes_assign 13 (some 2) [12] (.bool true) (Go.Operand.tmp 48) (fun v => by kernel_rfl) (fun v => by kernel_rfl), trivial⟩ ?_
    intro v w' A' hA' hb hall
    have hs2 : A'.tmps.getD 2 undef = .bool true := by rw [hA']; kernel_rfl
    have hd2 : A'.defers = [] := by rw [hA']; kernel_rfl
    have hbe := hB5.trans (hb.mono hB5.size)
    clear hall hb hA'
    go_wp2_with fail
    exact ret_slot 2 rfl hs2 hd2 ⟨rfl, hbe⟩
  · have hlen2 : 2 ≤ (h :: h' :: hs).length := by simp
    generalize h :: h' :: hs = hs at *
    have hspc := spl_spec hs.length hlen2
    have hpow := spl_pow hs.length hlen2
    have hrt := rootOf_two hs hlen2
    obtain ⟨b, o, rfl, hblt, hcell⟩ := hO4 (by rw [hcells_length]; omega)
    have hO5 : SlRead W4 (some ⟨b, o, none⟩) (hcells hs) := fun _ => ⟨b, o, rfl, hblt, hcell⟩
    clear hcell hO4 hblt
    have htl : (hs.take (spl hs.length)).length = spl hs.length := by rw [List.length_take]; omega
    have hdl : (hs.drop (spl hs.length)).length = hs.length - spl hs.length := by rw [List.length_drop]
    have RA := fun w' (hO : SlRead w' (some ⟨b, o, none⟩) (hcells hs)) hk => root_any hs.length hs (some ⟨b, o, none⟩) c w' (Nat.le_refl _) hO hl2 (by omega) hk
    have RL := fun w' (hO : SlRead w' (some ⟨b, o, none⟩) (hcells hs)) hk => root_any hs.length (hs.take (spl hs.length)) (some ⟨b, o, none⟩) c w' (by omega) (hO.htake _ (by omega)) (by omega) (by omega) hk
    have RR := fun w' (hO : SlRead w' (some ⟨b, o, none⟩) (hcells hs)) hk => root_any hs.length (hs.drop (spl hs.length)) (some ⟨b, o + 32 * spl hs.length, none⟩) (c - spl hs.length) w' (by omega) (hO.hdrop _ (by omega)) (by omega) (by omega) hk
    rw [hrt] at RA
    rw [htl] at RL
    rw [hdl] at RR
    generalize hm : hs.length = m at *
    generalize hkk : spl m = k at *
    generalize rootOf (hs.take k) = FL at *
    generalize rootOf (hs.drop k) = FR at *
    clear hkk hm htl hdl hrt
    have e0 : ((m : Int) == 0) = false := by simp; omega
    have e1 : ((m : Int) == 1) = false := by simp; omega
    have HAND := and_pow k (by omega) (by omega) hpow
    go_upto_region 13 with (fail)
    refine wp_region_text [Sp.k 0 (some 49) [] (.int .i64 k),
      Sp.k 1 (some 50) [0] (.bool false),
      Sp.k 2 (some 51) [1] (.bool false),
      Sp.k 3 (some 52) [2] (.int .i64 k),
      Sp.k 4 (some 53) [2] (.int .i64 m),
      Sp.k 5 (some 54) [2, 3, 4] (.bool false),
      Sp.k 6 (some 55) [2, 5] (.bool false),
      Sp.k 7 (some 56) [6] (.bool false),
      Sp.k 8 (some 57) [7] (.int .i64 k),
      Sp.k 9 (some 58) [7, 8] (.int .i64 ((2 * k : Nat) : Int)),
      Sp.k 10 (some 59) [7] (.int .i64 m),
      Sp.k 11 (some 60) [7, 9, 10] (.bool false),
      Sp.k 12 (some 61) [7, 11] (.bool false),
      Sp.k 13 (some 62) [12] (.bool false),
      Sp.k 14 (some 63) [13] (.int .i64 k),
      Sp.k 15 (some 64) [13] (.int .i64 k),
      Sp.k 16 (some 65) [13, 15] (.int .i64 ((k - 1 : Nat) : Int)),
      Sp.k 17 (some 66) [13, 14, 16] (.int .i64 0),
      Sp.k 18 (some 67) [13, 17] (.bool false),
      Sp.k 19 (some 68) [13, 18] (.bool false)] (by kernel_rfl)
      ⟨owes_move 0 (some 49) [] (.int .i64 k) (Go.Operand.tmp 6) (fun v => by kernel_rfl) (fun v => by kernel_rfl),
      owes_bin 1 (some 50) [0] (.bool false) Go.BinOp.lss 3 (Go.Operand.tmp 49) (Go.Operand.const (Go.Value.int Go.IntKind.i64 1)) 3 (.int .i64 k) (Go.Value.int Go.IntKind.i64 1) (fun v => by kernel_rfl) (fun v => by kernel_rfl) (lt_false _ _ _ (by omega)),
      owes_move 2 (some 51) [1] (.bool false) (Go.Operand.tmp 50) (fun v => by kernel_rfl) (fun v => by kernel_rfl),
      owes_move 3 (some 52) [2] (.int .i64 k) (Go.Operand.tmp 6) (fun v => by kernel_rfl) (fun v => by kernel_rfl),
      owes_move 4 (some 53) [2] (.int .i64 m) (Go.Operand.tmp 5) (fun v => by kernel_rfl) (fun v => by kernel_rfl),
      owes_bin 5 (some 54) [2, 3, 4] (.bool false) Go.BinOp.geq 3 (Go.Operand.tmp 52) (Go.Operand.tmp 53) 3 (.int .i64 k) (.int .i64 m) (fun v => by kernel_rfl) (fun v => by kernel_rfl) (ge_false _ _ _ (by omega)),
      owes_pick 6 (some 55) [2, 5] (.bool false) (Go.Operand.tmp 51) (Go.Operand.const (Go.Value.bool true)) (Go.Operand.tmp 54) false (fun v => by kernel_rfl) (fun v => by kernel_rfl) (fun v => by kernel_rfl),
      owes_move 7 (some 56) [6] (.bool false) (Go.Operand.tmp 55) (fun v => by kernel_rfl) (fun v => by kernel_rfl),
      owes_move 8 (some 57) [7] (.int .i64 k) (Go.Operand.tmp 6) (fun v => by kernel_rfl) (fun v => by kernel_rfl),
      owes_bin 9 (some 58) [7, 8] (.int .i64 ((2 * k : Nat) : Int)) Go.BinOp.mul 3 (Go.Operand.const (Go.Value.int Go.IntKind.i64 2)) (Go.Operand.tmp 57) 3 (Go.Value.int Go.IntKind.i64 2) (.int .i64 k) (fun v => by kernel_rfl) (fun v => by kernel_rfl) (mul_i64 _ _ _ _ _ _ (by omega) (by omega) (by omega)),
      owes_move 10 (some 59) [7] (.int .i64 m) (Go.Operand.tmp 5) (fun v => by kernel_rfl) (fun v => by kernel_rfl),
      owes_bin 11 (some 60) [7, 9, 10] (.bool false) Go.BinOp.lss 3 (Go.Operand.tmp 58) (Go.Operand.tmp 59) 3 (.int .i64 ((2 * k : Nat) : Int)) (.int .i64 m) (fun v => by kernel_rfl) (fun v => by kernel_rfl) (lt_false _ _ _ (by omega)),
      owes_pick 12 (some 61) [7, 11] (.bool false) (Go.Operand.tmp 56) (Go.Operand.const (Go.Value.bool true)) (Go.Operand.tmp 60) false (fun v => by kernel_rfl) (fun v => by kernel_rfl) (fun v => by kernel_rfl),
      owes_move 13 (some 62) [12] (.bool false) (Go.Operand.tmp 61) (fun v => by kernel_rfl) (fun v => by kernel_rfl),
      owes_move 14 (some 63) [13] (.int .i64 k) (Go.Operand.tmp 6) (fun v => by kernel_rfl) (fun v => by kernel_rfl),
      owes_move 15 (some 64) [13] (.int .i64 k) (Go.Operand.tmp 6) (fun v => by kernel_rfl) (fun v => by kernel_rfl),
      owes_bin 16 (some 65) [13, 15] (.int .i64 ((k - 1 : Nat) : Int)) Go.BinOp.sub 3 (Go.Operand.tmp 64) (Go.Operand.const (Go.Value.int Go.IntKind.i64 1)) 3 (.int .i64 k) (Go.Value.int Go.IntKind.i64 1) (fun v => by kernel_rfl) (fun v => by kernel_rfl) (sub_i64 _ _ _ _ _ _ (by omega) (by omega) (by omega)),
      owes_bin 17 (some 66) [13, 14, 16] (.int .i64 0) Go.BinOp.and 3 (Go.Operand.tmp 63) (Go.Operand.tmp 65) 3 (.int .i64 k) (.int .i64 ((k - 1 : Nat) : Int)) (fun v => by kernel_rfl) (fun v => by kernel_rfl) (HAND _ _),
      owes_bin 18 (some 67) [13, 17] (.bool false) Go.BinOp.neq 3 (Go.Operand.tmp 66) (Go.Operand.const (Go.Value.int Go.IntKind.i64 0)) 3 (.int .i64 0) (Go.Value.int Go.IntKind.i64 0) (fun v => by kernel_rfl) (fun v => by kernel_rfl) (fun w => by kernel_rfl),
      owes_pick 19 (some 68) [13, 18] (.bool false) (Go.Operand.tmp 62) (Go.Operand.const (Go.Value.bool true)) (Go.Operand.tmp 67) false (fun v => by kernel_rfl) (fun v => by kernel_rfl) (fun v => by kernel_rfl), trivial⟩ ?_
    intro v w' hb hall
    clear hall HAND hpow
    simp only [putsL_k, putsL_nil, List.set_cons_zero, List.set_cons_succ]
    have hk6 : KAt w'.drew := (hk4.below hb).of_block rfl
    have hO6 : SlRead w'.drew (some ⟨b, o, none⟩) (hcells hs) := (hO5.below hb).below (Below.drewNr (w := w') 1)
    have hB6 : Below w.heap.size w w'.drew := (hB4.trans (hb.mono hB4.size)).trans (Below.drewNr (w := w') 1)
    clear hk4 hO5 hB4 hb
    go_upto_region 15 with (fail)
    have HRT : ∀ w2, Below w'.drew.heap.size w'.drew w2 → Calls Tryd.prog 17 #[.slice (some ⟨b, o, none⟩) m c] w2 fun e w'' => e = .returned (.agg (arr8 32 (nodeOf FL FR))) ∧ Below w2.heap.size w2 w'' := fun w2 hb => RA w2 (hO6.below hb) (hk6.below hb)
    have HL : ∀ w2, Below w'.drew.heap.size w'.drew w2 → Calls Tryd.prog 17 #[.slice (some ⟨b, o, none⟩) k c] w2 fun e w'' => e = .returned (.agg (arr8 32 FL)) ∧ Below w2.heap.size w2 w'' := fun w2 hb => RL w2 (hO6.below hb) (hk6.below hb)
    have HR : ∀ w2, Below w'.drew.heap.size w'.drew w2 → Calls Tryd.prog 17 #[.slice (some ⟨b, o + 32 * k, none⟩) (m - k) (c - k)] w2 fun e w'' => e = .returned (.agg (arr8 32 FR)) ∧ Below w2.heap.size w2 w'' := fun w2 hb => RR w2 (hO6.below hb) (hk6.below hb)
    have HN : ∀ w2, Below w'.drew.heap.size w'.drew w2 → Calls Tryd.prog 13 #[.agg (arr8 32 FL), .agg (arr8 32 FR)] w2 fun e w'' => e = .returned (.agg (arr8 32 (nodeOf FL FR))) ∧ Below w2.heap.size w2 w'' := fun w2 hb => node_any FL FR w2 (hk6.below hb)
    generalize nodeOf FL FR = ND at *
    clear RA RL RR
    refine wp_region_spec_v [Sp.k 0 (some 69) [] (.bool true),
      Sp.k 1 (some 70) [0] (.bool true),
      Sp.k 2 (some 71) [1] (.slice (some ⟨b, o, none⟩) m c),
      Sp.k 3 (some 72) [1, 2] (.agg (arr8 32 ND)),
      Sp.k 4 (some 73) [1] (.slice (some ⟨b, o, none⟩) m c),
      Sp.k 5 (some 74) [1] (.int .i64 k),
      Sp.k 6 (some 75) [1, 4, 5] (.slice (some ⟨b, o, none⟩) k c),
      Sp.k 7 (some 76) [1, 6] (.agg (arr8 32 FL)),
      Sp.k 8 (some 77) [1] (.slice (some ⟨b, o, none⟩) m c),
      Sp.k 9 (some 78) [1] (.int .i64 k),
      Sp.k 10 (some 79) [1, 8, 9] (.slice (some ⟨b, o + 32 * k, none⟩) (m - k) (c - k)),
      Sp.k 11 (some 80) [1, 10] (.agg (arr8 32 FR)),
      Sp.k 12 (some 81) [1, 7, 11] (.agg (arr8 32 ND)),
      Sp.k 13 (some 82) [1, 3, 12] (.bool true),
      Sp.k 14 (some 83) [1, 13] (.bool true),
      Sp.k 15 (some 2) [14] (.bool true)] (by kernel_rfl) (by kernel_rfl)
      ⟨owes_move 0 (some 69) [] (.bool true) (Go.Operand.tmp 3) (fun v => by kernel_rfl) (fun v => by kernel_rfl),
      owes_move 1 (some 70) [0] (.bool true) (Go.Operand.tmp 69) (fun v => by kernel_rfl) (fun v => by kernel_rfl),
      owes_move 2 (some 71) [1] (.slice (some ⟨b, o, none⟩) m c) (Go.Operand.tmp 4) (fun v => by kernel_rfl) (fun v => by kernel_rfl),
      owes_call 3 (some 72) [1, 2] (.agg (arr8 32 ND)) 17 #[Go.Operand.tmp 71] #[27] (fun v => by kernel_rfl) (fun _ _ => by kernel_rfl) (fun v w' hb ho => by
          exact ⟨#[.slice (some ⟨b, o, none⟩) m c], by kernel_rfl, (HRT w' hb).mono (fun _ _ h => h)⟩),
      owes_move 4 (some 73) [1] (.slice (some ⟨b, o, none⟩) m c) (Go.Operand.tmp 4) (fun v => by kernel_rfl) (fun v => by kernel_rfl),
      owes_move 5 (some 74) [1] (.int .i64 k) (Go.Operand.tmp 6) (fun v => by kernel_rfl) (fun v => by kernel_rfl),
      owes_slice 6 (some 75) [1, 4, 5] (.slice (some ⟨b, o, none⟩) k c) 27 (Go.Operand.tmp 73) none (some (Go.Operand.tmp 74)) none (.slice (some ⟨b, o, none⟩) m c) none (some (.int .i64 k)) none (fun v => by kernel_rfl) (fun v => by kernel_rfl) (sl32_h b o _ c k (by omega)),
      owes_call 7 (some 76) [1, 6] (.agg (arr8 32 FL)) 17 #[Go.Operand.tmp 75] #[27] (fun v => by kernel_rfl) (fun _ _ => by kernel_rfl) (fun v w' hb ho => by
          exact ⟨#[.slice (some ⟨b, o, none⟩) k c], by kernel_rfl, (HL w' hb).mono (fun _ _ h => h)⟩),
      owes_move 8 (some 77) [1] (.slice (some ⟨b, o, none⟩) m c) (Go.Operand.tmp 4) (fun v => by kernel_rfl) (fun v => by kernel_rfl),
      owes_move 9 (some 78) [1] (.int .i64 k) (Go.Operand.tmp 6) (fun v => by kernel_rfl) (fun v => by kernel_rfl),
      owes_slice 10 (some 79) [1, 8, 9] (.slice (some ⟨b, o + 32 * k, none⟩) (m - k) (c - k)) 27 (Go.Operand.tmp 77) (some (Go.Operand.tmp 78)) none none (.slice (some ⟨b, o, none⟩) m c) (some (.int .i64 k)) none none (fun v => by kernel_rfl) (fun v => by kernel_rfl) (sl32_l b o m c k (by omega) (by omega)),
      owes_call 11 (some 80) [1, 10] (.agg (arr8 32 FR)) 17 #[Go.Operand.tmp 79] #[27] (fun v => by kernel_rfl) (fun _ _ => by kernel_rfl) (fun v w' hb ho => by
          exact ⟨#[.slice (some ⟨b, o + 32 * k, none⟩) (m - k) (c - k)], by kernel_rfl, (HR w' hb).mono (fun _ _ h => h)⟩),
      owes_call 12 (some 81) [1, 7, 11] (.agg (arr8 32 ND)) 13 #[Go.Operand.tmp 76, Go.Operand.tmp 80] #[25, 25] (fun v => by kernel_rfl) (fun _ _ => by kernel_rfl) (fun v w' hb ho => by
          exact ⟨#[.agg (arr8 32 FL), .agg (arr8 32 FR)], by kernel_rfl, (HN w' hb).mono (fun _ _ h => h)⟩),
      owes_eql 13 (some 82) [1, 3, 12] 25 (Go.Operand.tmp 72) (Go.Operand.tmp 81) 25 (arr8 32 ND) (arr8 32 ND) true (fun v => by kernel_rfl) (fun v => by kernel_rfl) (by kernel_rfl) (equal32 ND),
      owes_pick 14 (some 83) [1, 13] (.bool true) (Go.Operand.tmp 70) (Go.Operand.tmp 82) (Go.Operand.const (Go.Value.bool false)) true (fun v => by kernel_rfl) (fun v => by kernel_rfl) (fun v => by kernel_rfl),
      owes_assign 15 (some 2) [14] (.bool true) (Go.Operand.tmp 83) (fun v => by kernel_rfl) (fun v => by kernel_rfl), trivial⟩ ?_
    intro v2 w2 A' hA' hb hall
    have hs2 : A'.tmps.getD 2 undef = .bool true := by rw [hA']; kernel_rfl
    have hd2 : A'.defers = [] := by rw [hA']; kernel_rfl
    have hbe := hB6.trans (hb.mono hB6.size)
    clear hall hb hA' HRT HL HR HN
    go_wp2_with fail
    exact ret_slot 2 rfl hs2 hd2 ⟨rfl, hbe⟩
end Go.Proofs.YtelggkgfpaadfaaDoor
