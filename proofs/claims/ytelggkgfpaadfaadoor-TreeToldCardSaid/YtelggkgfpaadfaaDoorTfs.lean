import Derived.Test.YtelggkgfpaadfaaDoorTrd
import Derived.Test.YtelggkgfpaadfaaDoorEq
namespace Go.Proofs.YtelggkgfpaadfaaDoor
open Go.RowKit

def five : Nat → BitVec 8 := fun i => if i = 0 then 5#8 else 0#8
def zz : Nat → BitVec 8 := fun _ => 0#8
theorem hash_ne (f g : Nat → BitVec 8) (h : f 0 ≠ g 0) (w : World) : (Op.equalIn 10000 25 (.agg (arr8 32 f)) (.agg (arr8 32 g))).run Tryd.prog w = .ok false w := by
  rw [arr8_cells, arr8_cells, run_equalIn_bytes w 9998 25 5 32 Tryd.underlying25 Tryd.underlying5 size_u8 _ _ (by simp) (by simp)]
  have hne : ¬ (List.map (fun i => UInt8.ofBitVec (f i)) (List.range 32) = List.map (fun i => UInt8.ofBitVec (g i)) (List.range 32)) := fun e => by
    have h2 := congrArg (fun l => l[0]?) e
    simp at h2
    exact h h2
  rw [beq_false_of_ne hne]
theorem leaf0 : shaOf [0#8] 0 ≠ zz 0 := by decide +kernel
set_option maxRecDepth 100000 in
set_option maxHeartbeats 800000 in
theorem first_any (w : World) (hk : KAt w) :
    Calls Tryd.prog 8 #[] w fun e w' => e = .returned (.bool true) ∧ Below w.heap.size w w' := by
  go_enter Tryd.func8, Tryd.ntmps8
  go_upto_region 2 with (first | (refine wpList_build rfl 25 _ rfl #[(0, .int .u8 5)] (by kernel_rfl) (.agg (arr8 32 five)) (fun _ => by kernel_rfl) ?_) | (refine wpList_alloc_z rfl 25 rfl (Array.replicate 32 (.int .u8 0)) (fun _ => by kernel_rfl) ?_) | (refine wpList_store_row rfl 25 _ _ rfl _ (arr8 32 five) rfl rfl _ _ (heap_alloc_new _ _) (by kernel_rfl) (by simp) (arr8_one _ _) ?_; rw [alloc_setRow]))
  refine wp_world (fun W => Below w.heap.size w W ∧ W.rowIs w.heap.size 25 32 (fun i => v8 (five i))) ?_ ?_
  · exact ⟨(Below.refl _ _).alloc (Nat.le_refl _) _, rowIs_new w (arr8 32 five) 25 w.heap.size 32 _ rfl (by simp) (fun i hi => arr8_get 32 five i hi)⟩
  rintro W ⟨hb, hx⟩
  have hk := hk.below hb
  generalize hB : w.heap.size = B at *
  have HB := Lib.hid hB; clear hB
  have hBW : B ≤ W.heap.size := by have := hx.lt; omega
  have hx : W.drew.rowIs B 25 32 (fun i => v8 (five i)) := hx
  have hk : KAt W.drew := hk.of_block rfl
  have HLD : ∀ w', Below W.drew.heap.size W.drew w' → (Instr.loadAt 25 (.pointer (some ⟨B, 0, none⟩))).run Tryd.prog w' = .ok (.agg (arr8 32 five)) w' := by
    intro w' hb
    have := load_row (P := Tryd.prog) 25 B 0 (arr8 32 five).toList _ Tryd.underlying25 rfl (by simp only [Array.length_toList, arr8_size]; kernel_rfl) w' (rangeAt_row (hx.of_block (hb.block _ hx.lt)))
    simpa using this
  have HS5 : ∀ w' : World, Calls Tryd.prog 15 #[.int .i64 5] w' fun e w'' => e = .returned (.int .i64 4) ∧ Below w'.heap.size w' w'' := by
    intro w'
    have := split_any 5 (by decide) w'
    rwa [show spl (5 : Int).toNat = 4 by decide +kernel] at this
  have HS1 : ∀ w' : World, Calls Tryd.prog 15 #[.int .i64 1] w' fun e w'' => e = .returned (.int .i64 0) ∧ Below w'.heap.size w' w'' := by
    intro w'
    have := split_any 1 (by decide) w'
    rwa [show spl (1 : Int).toNat = 0 by decide +kernel] at this
  have hne := hash_ne _ _ leaf0
  have HLF : ∀ w', Below W.drew.heap.size W.drew w' → Calls Tryd.prog 11 #[.slice none 0 0] w' fun e w'' => e = .returned (.agg (arr8 32 (shaOf [0#8]))) ∧ Below w'.heap.size w' w'' :=
    fun w' hb => leaf_any none [] 0 w' SlRead.nil_ (by simp) (by simp) (hk.below hb)
  generalize shaOf [0#8] = L0 at *
  refine wp_region_spec_v [Sp.k 0 (some 3) [] (.agg (arr8 32 five)),
    Sp.o 1 (some 4) [0] (SlV (arr8 32 five).toList 1),
    Sp.k 2 (some 5) [1] (.agg (arr8 32 five)),
    Sp.k 3 (some 6) [] (.agg (arr8 32 five)),
    Sp.k 4 (some 7) [2, 3] (.bool true),
    Sp.k 5 (some 8) [4] (.bool true),
    Sp.k 6 (some 9) [5] (.int .i64 4),
    Sp.k 7 (some 10) [5, 6] (.bool true),
    Sp.k 8 (some 11) [5, 7] (.bool true),
    Sp.k 9 (some 12) [8] (.bool true),
    Sp.k 10 (some 13) [9] (.int .i64 0),
    Sp.k 11 (some 14) [9, 10] (.bool true),
    Sp.k 12 (some 15) [9, 11] (.bool true),
    Sp.k 13 (some 16) [12] (.bool true),
    Sp.k 14 (some 17) [13] (.agg (arr8 32 L0)),
    Sp.k 15 (some 18) [13] (.agg (arr8 32 zz)),
    Sp.k 16 (some 19) [13, 14, 15] (.bool true),
    Sp.k 17 (some 20) [13, 16] (.bool true),
    Sp.k 18 (some 0) [17] (.bool true)] (by kernel_rfl) (by kernel_rfl)
    ⟨owes_load 0 (some 3) [] (.agg (arr8 32 five)) 25 (Go.Operand.tmp 1) (.pointer (some ⟨B, 0, none⟩)) (fun v => by kernel_rfl) (fun v => by kernel_rfl) (fun w' hb => HLD w' hb),
    owes_bsl 1 (some 4) [0] (SlV (arr8 32 five).toList 1) 27 25 1 #[(0, Go.Operand.tmp 3)] (#[(0, .agg (arr8 32 five))]) (arr8 32 five) (fun v => by kernel_rfl) (fun v => by kernel_rfl) (fun w => by kernel_rfl) SlV.mono (fun w' hb => ⟨_, rfl, SlRead.new_row _ _ _ rfl⟩),
    owes_call 2 (some 5) [1] (.agg (arr8 32 five)) 17 #[Go.Operand.tmp 4] #[27] (fun v => by kernel_rfl) (fun _ _ => by kernel_rfl) (fun v w' hb ho => by
        obtain ⟨g1, e1, r1⟩ := ho.get 1 _ _ (SlV (arr8 32 five).toList 1) rfl rfl
        exact ⟨#[.slice (some ⟨g1, 0, none⟩) 1 1], Eq.trans (b := #[v 1]) (by kernel_rfl) (by rw [e1]), (root_any 1 [five] (some ⟨g1, 0, none⟩) 1 w' (by simp) (by simpa [hcells] using r1) (by simp) (by simp) (hk.below hb)).mono (fun _ _ h => h)⟩),
    owes_load 3 (some 6) [] (.agg (arr8 32 five)) 25 (Go.Operand.tmp 1) (.pointer (some ⟨B, 0, none⟩)) (fun v => by kernel_rfl) (fun v => by kernel_rfl) (fun w' hb => HLD w' hb),
    owes_eql 4 (some 7) [2, 3] 25 (Go.Operand.tmp 5) (Go.Operand.tmp 6) 25 (arr8 32 five) (arr8 32 five) true (fun v => by kernel_rfl) (fun v => by kernel_rfl) (by kernel_rfl) (equal32 five),
    owes_move 5 (some 8) [4] (.bool true) (Go.Operand.tmp 7) (fun v => by kernel_rfl) (fun v => by kernel_rfl),
    owes_call 6 (some 9) [5] (.int .i64 4) 15 #[Go.Operand.const (Go.Value.int Go.IntKind.i64 5)] #[3] (fun v => by kernel_rfl) (fun _ _ => by kernel_rfl) (fun v w' hb ho => by
        exact ⟨#[Go.Value.int Go.IntKind.i64 5], by kernel_rfl, (HS5 w').mono (fun _ _ h => h)⟩),
    owes_bin 7 (some 10) [5, 6] (.bool true) Go.BinOp.eql 3 (Go.Operand.tmp 9) (Go.Operand.const (Go.Value.int Go.IntKind.i64 4)) 3 (.int .i64 4) (Go.Value.int Go.IntKind.i64 4) (fun v => by kernel_rfl) (fun v => by kernel_rfl) (fun w => by kernel_rfl),
    owes_pick 8 (some 11) [5, 7] (.bool true) (Go.Operand.tmp 8) (Go.Operand.tmp 10) (Go.Operand.const (Go.Value.bool false)) true (fun v => by kernel_rfl) (fun v => by kernel_rfl) (fun v => by kernel_rfl),
    owes_move 9 (some 12) [8] (.bool true) (Go.Operand.tmp 11) (fun v => by kernel_rfl) (fun v => by kernel_rfl),
    owes_call 10 (some 13) [9] (.int .i64 0) 15 #[Go.Operand.const (Go.Value.int Go.IntKind.i64 1)] #[3] (fun v => by kernel_rfl) (fun _ _ => by kernel_rfl) (fun v w' hb ho => by
        exact ⟨#[Go.Value.int Go.IntKind.i64 1], by kernel_rfl, (HS1 w').mono (fun _ _ h => h)⟩),
    owes_bin 11 (some 14) [9, 10] (.bool true) Go.BinOp.eql 3 (Go.Operand.tmp 13) (Go.Operand.const (Go.Value.int Go.IntKind.i64 0)) 3 (.int .i64 0) (Go.Value.int Go.IntKind.i64 0) (fun v => by kernel_rfl) (fun v => by kernel_rfl) (fun w => by kernel_rfl),
    owes_pick 12 (some 15) [9, 11] (.bool true) (Go.Operand.tmp 12) (Go.Operand.tmp 14) (Go.Operand.const (Go.Value.bool false)) true (fun v => by kernel_rfl) (fun v => by kernel_rfl) (fun v => by kernel_rfl),
    owes_move 13 (some 16) [12] (.bool true) (Go.Operand.tmp 15) (fun v => by kernel_rfl) (fun v => by kernel_rfl),
    owes_call 14 (some 17) [13] (.agg (arr8 32 L0)) 11 #[Go.Operand.const (Go.Value.slice none 0 0)] #[23] (fun v => by kernel_rfl) (fun _ _ => by kernel_rfl) (fun v w' hb ho => by
        exact ⟨#[Go.Value.slice none 0 0], by kernel_rfl, (HLF w' hb).mono (fun _ _ h => h)⟩),
    owes_build 15 (some 18) [13] (.agg (arr8 32 zz)) 25 #[] (#[]) (fun v => by kernel_rfl) (fun v => by kernel_rfl) (fun w => by kernel_rfl),
    owes_neq 16 (some 19) [13, 14, 15] 25 (Go.Operand.tmp 17) (Go.Operand.tmp 18) 25 (arr8 32 L0) (arr8 32 zz) false (fun v => by kernel_rfl) (fun v => by kernel_rfl) (by kernel_rfl) (hne),
    owes_pick 17 (some 20) [13, 16] (.bool true) (Go.Operand.tmp 16) (Go.Operand.tmp 19) (Go.Operand.const (Go.Value.bool false)) true (fun v => by kernel_rfl) (fun v => by kernel_rfl) (fun v => by kernel_rfl),
    owes_assign 18 (some 0) [17] (.bool true) (Go.Operand.tmp 20) (fun v => by kernel_rfl) (fun v => by kernel_rfl), trivial⟩ ?_
  intro v w' A hA hb' hall
  have h0 : A.tmps.getD 0 undef = .bool true := by rw [hA]; kernel_rfl
  have hd : A.defers = [] := by rw [hA]; kernel_rfl
  have hbb : Below B w w' := hb.trans ((Below.drewNr (w := W) 1).trans (hb'.mono (show B ≤ W.heap.size from hBW)))
  clear hall HLD HS5 HS1 HLF hne hA hb' hb
  go_wp2_with fail
  rw [HB.out]
  exact ret_slot 0 rfl h0 hd ⟨rfl, hbb⟩

set_option maxRecDepth 100000 in
set_option maxHeartbeats 1600000 in
theorem splits_walk (z : Int) (w : World) (hk : KAt w) :
    Calls Tryd.prog 6 #[.int .i64 z] w fun e w' => e = .returned (.bool true) ∧ Below w.heap.size w w' := by
  obtain ⟨m, hm1, hm2⟩ := exists_mod z 1073741824 (by omega)
  go_enter Tryd.func6, Tryd.ntmps6
  go_wp2_with fail
  refine (first_any w hk).mono ?_
  rintro e W ⟨rfl, hb⟩
  go_wp2_with fail
  refine (number_nat z 1073741824 m W (by omega) hm1).mono ?_
  rintro e W1 ⟨rfl, n1, rfl⟩
  have hb1 : Below w.heap.size w (W.drewN n1) := hb.trans (Below.drewNr n1)
  generalize W.drewN n1 = W1 at *
  clear hb hm1
  have hsp := split_any (m : Int) (by omega) W1
  rw [Int.toNat_natCast] at hsp
  by_cases h2 : m < 2
  · rw [show spl m = 0 by unfold spl; rw [if_pos h2]] at hsp
    have b2 : decide ((m : Int) < 2) = true := by simp; omega
    go_wp2_with fail
    refine hsp.mono ?_
    rintro e W2 ⟨rfl, hb2⟩
    have hb2 := hb1.trans (hb2.mono hb1.size)
    clear hb1 hsp
    go_wp2_with fail
    go_ret
    exact ⟨rfl, hb2⟩
  · have b2 : decide ((m : Int) < 2) = false := by simp; omega
    go_wp2_with fail
    refine hsp.mono ?_
    rintro e W2 ⟨rfl, hb2⟩
    have hb2 := hb1.trans (hb2.mono hb1.size)
    clear hb1 hsp
    go_wp2_with fail
    go_loop [5] (fun p => ∃ q : Nat, p = .int .i64 q ∧ q < m ∧ ∃ j, q = 2 ^ j) (fun p => m - (intOf p).toNat)
    case atStart => exact ⟨1, rfl, by omega, 0, rfl⟩
    case round =>
      obtain ⟨q, rfl, hq, hj⟩ := hrel
      have hq0 : 0 < q := by
        obtain ⟨j, e⟩ := hj
        rw [e]; exact Nat.two_pow_pos j
      by_cases hlt : 2 * (q : Int) < (m : Int)
      · go_wp2_with fail
        go_round
        case rel =>
          obtain ⟨j, e⟩ := hj
          exact ⟨2 * q, by go_num, by omega, j + 1, by rw [Nat.pow_succ, e]; omega⟩
        case measure => simp [intOf]; omega
      · have hfin : spl m = q := by
          obtain ⟨j, e⟩ := hj
          exact spl_eq m q j e hq (by omega)
        rw [hfin]
        clear hfin
        have hsn := split_any (-(m : Int)) (by omega) W2
        rw [show spl (-(m : Int)).toNat = 0 by rw [show (-(m : Int)).toNat = 0 by omega]; rfl] at hsn
        go_wp2_with fail
        refine hsn.mono ?_
        rintro e W3 ⟨rfl, hb3⟩
        have hb3 := hb2.trans (hb3.mono hb2.size)
        clear hb2 hsn
        go_wp2_with fail
        go_ret
        exact ⟨rfl, hb3⟩
end Go.Proofs.YtelggkgfpaadfaaDoor
