import Derived.Test.YtpkajfkdandhoaaPyh
/-
  PolyBits: its walk.
-/
namespace Go.Proofs.Ytpkajfkdandhoaa
open Go.RowKit

def byOf (p : Nat) : BitVec 8 := if p % 4 = 0 then 3#8 else 240#8
theorem clamp_by (x : BitVec 8) : (x ^^^ 240#8) &&& 15#8 = x &&& 15#8 ∧ (x ^^^ 3#8) &&& 252#8 = x &&& 252#8 := by
  have h : ∀ n, n < 256 → (BitVec.ofNat 8 n ^^^ 240#8) &&& 15#8 = BitVec.ofNat 8 n &&& 15#8 ∧ (BitVec.ofNat 8 n ^^^ 3#8) &&& 252#8 = BitVec.ofNat 8 n &&& 252#8 := by decide +kernel
  have := h x.toNat x.isLt
  rwa [BitVec.ofNat_toNat, BitVec.setWidth_eq] at this
def keyX (key : Nat → BitVec 8) (p i : Nat) : BitVec 8 := if i = p then key p ^^^ byOf p else key i
theorem polyB_by (key : Nat → BitVec 8) (bs : List (BitVec 8)) (p : Nat) (hp : p = 3 ∨ p = 7 ∨ p = 11 ∨ p = 15 ∨ p = 4 ∨ p = 8 ∨ p = 12) : polyB (keyX key p) bs = polyB key bs := by
  have e1 : keyR (keyX key p) = keyR key := by
    unfold keyR
    refine num_congr 16 fun i _ => ?_
    have hc := clamp_by (key p)
    unfold clampB keyX byOf
    dsimp only
    by_cases e : i = p
    · subst e
      rw [if_pos rfl]
      by_cases h1 : i = 3 ∨ i = 7 ∨ i = 11 ∨ i = 15
      · rw [if_pos h1, if_pos h1, if_neg (by omega), hc.1]
      · rw [if_neg h1, if_neg h1, if_pos (show i = 4 ∨ i = 8 ∨ i = 12 by omega), if_pos (show i = 4 ∨ i = 8 ∨ i = 12 by omega), if_pos (by omega), hc.2]
    · rw [if_neg e]
  unfold polyB
  rw [e1]
  funext t
  unfold tagB
  have : tagF (acc (keyR key) bs ((bs.length + 15) / 16)) (keyX key p) = tagF (acc (keyR key) bs ((bs.length + 15) / 16)) key := by
    funext i
    unfold tagF keyX
    rw [if_neg (by omega)]
  rw [this]
theorem xor_u8 (x y : BitVec 8) : bits .xor .u8 (n8 x) (n8 y) = n8 (x ^^^ y) := by
  have := u8_xor_nat x.toNat y.toNat x.isLt y.isLt
  rw [n8_64, n8_64, n8_64]
  unfold n64
  rw [BitVec.toNat_xor]
  exact this

set_option maxRecDepth 100000 in
set_option maxHeartbeats 1600000 in
theorem bits_walk (key : Nat → BitVec 8) (A : Option Addr) (bs : List (BitVec 8)) (cap : Nat) (n : Int) (w : World) (hS : SlRead w A (ints .u8 (bys bs))) (hcap : bs.length ≤ cap) :
    Calls Try.prog 6 #[.agg (arr8 32 key), .slice A bs.length cap, .int .i64 n] w fun e w' => e = .returned (.bool true) ∧ Below w.heap.size w w' := by
  go_enter Try.func6, Try.ntmps6
  go_upto_region 1 with (fail)
  refine wp_world (fun W => W.rowIs w.heap.size 23 32 (fun i => v8 (key i)) ∧ Below w.heap.size w W) ?_ ?_
  · exact ⟨rowIs_new _ _ _ _ _ _ rfl (by simp) (fun i hi => arr8_get 32 key i hi), by go_grown⟩
  rintro W0 ⟨h1, h2⟩
  have HSR : Hid (∀ W', Below w.heap.size w W' → SlRead W' A (ints .u8 (bys bs))) := Lib.hid fun W' hb => hS.below hb
  generalize hB : w.heap.size = B at h1 h2 HSR ⊢
  have HB := Lib.hid hB; clear hB hS
  go_wp2_with fail
  refine (first_any W0).mono ?_
  rintro e W1 ⟨rfl, hb1⟩
  have g1 := h1.of_block (hb1.block _ h1.lt)
  have g2 : Below B w W1 := h2.trans (hb1.mono (Nat.le_of_lt h1.lt))
  clear h1 h2 hb1
  by_cases hlen : bs.length ≤ 100
  · obtain ⟨j, hj, hj7⟩ := exists_mod n 7 (by omega)
    have hk := rowIs_heap8 g1
    go_upto_region 7 with (first | (refine wpList_load_row rfl 23 _ rfl _ rfl _ _ _ _ hk Try.underlying23 rfl (by kernel_rfl) ?_) | (refine wpList_store_row rfl 23 _ _ rfl _ (arr8 32 key) rfl rfl _ _ (heap_alloc_new _ _) (by kernel_rfl) (by simp) (arr8_one _ _) ?_; rw [alloc_setRow]))
    have hlt1 := g1.lt
    refine wp_world (fun V => V.rowIs B 23 32 (fun i => v8 (key i)) ∧ V.rowIs W1.heap.size 23 32 (fun i => v8 (key i)) ∧ Below B w V) ?_ ?_
    · exact ⟨g1.alloc _, rowIs_new _ _ _ _ _ _ rfl (by simp) (fun i hi => arr8_get 32 key i hi), g2.alloc (by omega) _⟩
    clear g1 g2 hk
    generalize W1.heap.size = D at *
    rintro W2 ⟨g1, g3, g2⟩
    have hlt3 := g3.lt
    go_wp2_with fail
    refine (number_nat n 7 j _ (by omega) hj).mono ?_
    rintro e W3 ⟨rfl, m, rfl⟩
    obtain ⟨p, hp⟩ : ∃ p : Nat, p = [3, 7, 11, 15, 4, 8, 12].getD j 0 := ⟨_, rfl⟩
    have hpp : p = 3 ∨ p = 7 ∨ p = 11 ∨ p = 15 ∨ p = 4 ∨ p = 8 ∨ p = 12 := by
      have : j = 0 ∨ j = 1 ∨ j = 2 ∨ j = 3 ∨ j = 4 ∨ j = 5 ∨ j = 6 := by omega
      rcases this with rfl | rfl | rfl | rfl | rfl | rfl | rfl <;> simp at hp <;> omega
    have hget : [Value.int IntKind.i64 3, Value.int IntKind.i64 7, Value.int IntKind.i64 11, Value.int IntKind.i64 15, Value.int IntKind.i64 4, Value.int IntKind.i64 8, Value.int IntKind.i64 12][j]? = some (.int .i64 (p : Int)) := by
      have : j = 0 ∨ j = 1 ∨ j = 2 ∨ j = 3 ∨ j = 4 ∨ j = 5 ∨ j = 6 := by omega
      rcases this with rfl | rfl | rfl | rfl | rfl | rfl | rfl <;> simp at hp <;> subst hp <;> rfl
    have HPP := Lib.hid hpp
    have hp16 : p < 16 := by omega
    clear hp hpp
    go_upto_region 8 with (fail)
    refine wp_world (fun V => V.rowIs B 23 32 (fun i => v8 (key i)) ∧ V.rowIs D 23 32 (fun i => v8 (key i)) ∧ Below B w V) ?_ ?_
    · have hb : Below W2.heap.size W2 ((W2.alloc (.cells #[.int .i64 3, .int .i64 7, .int .i64 11, .int .i64 15, .int .i64 4, .int .i64 8, .int .i64 12] 3)).drewN m) := below_tr ((Below.refl _ _).alloc (Nat.le_refl _) _) (Below.drewNr m)
      exact ⟨g1.of_block (hb.block _ g1.lt), g3.of_block (hb.block _ g3.lt), g2.trans (hb.mono (by omega))⟩
    clear g1 g2 g3 hlt3 hget
    rintro W3 ⟨g1, g3, g2⟩
    have cp := g3.cell (i := p) (by omega)
    have fp := g3.frozen p
    have H3 : Hid ((W3.setCell ⟨D, p, none⟩ (v8 (key p ^^^ byOf p))).rowIs D 23 32 (fun i => v8 (keyX key p i))) := Lib.hid ((g3.set p _).congr fun i _ => by unfold keyX; split <;> rfl)
    have H1 : Hid ((W3.setCell ⟨D, p, none⟩ (v8 (key p ^^^ byOf p))).rowIs B 23 32 (fun i => v8 (key i))) := Lib.hid (g1.setOther (a := ⟨D, p, none⟩) (by first | omega | (simp only; omega)) _)
    have H2 : Hid (Below B w (W3.setCell ⟨D, p, none⟩ (v8 (key p ^^^ byOf p)))) := Lib.hid (g2.setCell (by first | omega | (simp only; omega)) _)
    by_cases h4 : p % 4 = 0
    · have hd : (((p : Int) % 4) == 0) = true := by simp; omega
      have hx : bits .xor .u8 (n8 (key p)) 3 = n8 (key p ^^^ byOf p) := by
        have := xor_u8 (key p) (byOf p)
        have e : byOf p = 3#8 := by unfold byOf; rw [if_pos h4]
        rw [e] at this ⊢
        exact this
      clear g1 g2 g3
      go_upto_region 12 with (fail)
      have g1 := H1.out
      have g2 := H2.out
      have g3 := H3.out
      generalize (W3.setCell ⟨D, p, none⟩ (v8 (key p ^^^ byOf p))) = W4 at *
      clear H1 H2 H3 cp fp hx hd
      have hbd : ∀ w', Below W4.drew.heap.size W4.drew w' → Below B w w' := fun w' hb => g2.trans (((Below.drewNr (w := W4) 1).trans hb).mono (Nat.le_of_lt g1.lt))
      have HK : ∀ w', Below W4.drew.heap.size W4.drew w' → w'.rowIs B 23 32 (fun i => v8 (key i)) := fun w' hb => g1.of_block (hb.block _ g1.lt)
      have HK2 : ∀ w', Below W4.drew.heap.size W4.drew w' → w'.rowIs D 23 32 (fun i => v8 (keyX key p i)) := fun w' hb => g3.of_block (hb.block _ g3.lt)
      have HS1 : ∀ w', Below W4.drew.heap.size W4.drew w' → Calls Try.prog 9 #[.agg (arr8 32 key), .slice A bs.length cap] w' fun e w'' => e = .returned (.agg (arr8 16 (polyB key bs))) ∧ Below w'.heap.size w' w'' := fun w' hb => psum_any key A bs cap w' (HSR.out w' (hbd w' hb)) hcap (by omega)
      have HS2 : ∀ w', Below W4.drew.heap.size W4.drew w' → Calls Try.prog 9 #[.agg (arr8 32 (keyX key p)), .slice A bs.length cap] w' fun e w'' => e = .returned (.agg (arr8 16 (polyB key bs))) ∧ Below w'.heap.size w' w'' := fun w' hb => by
        have := psum_any (keyX key p) A bs cap w' (HSR.out w' (hbd w' hb)) hcap (by omega)
        rwa [polyB_by key bs p HPP.out] at this
      generalize polyB key bs = P at *
      generalize keyX key p = key2 at *
      refine wp_region_spec_v [Sp.k 0 (some 34) [] (.bool true),
        Sp.k 1 (some 35) [0] (.bool true),
        Sp.k 2 (some 36) [1] (.agg (arr8 32 key)),
        Sp.k 3 (some 37) [1] (.slice A bs.length cap),
        Sp.k 4 (some 38) [1, 2, 3] (.agg (arr8 16 P)),
        Sp.k 5 (some 39) [1] (.agg (arr8 32 key2)),
        Sp.k 6 (some 40) [1] (.slice A bs.length cap),
        Sp.k 7 (some 41) [1, 5, 6] (.agg (arr8 16 P)),
        Sp.k 8 (some 42) [1, 4, 7] (.bool true),
        Sp.k 9 (some 43) [1, 8] (.bool true),
        Sp.k 10 (some 6) [9] (.bool true)] (by kernel_rfl) (by kernel_rfl)
        ⟨owes_move 0 (some 34) [] (.bool true) (Go.Operand.tmp 7) (fun v => by kernel_rfl) (fun v => by kernel_rfl),
        owes_move 1 (some 35) [0] (.bool true) (Go.Operand.tmp 34) (fun v => by kernel_rfl) (fun v => by kernel_rfl),
        owes_load 2 (some 36) [1] (.agg (arr8 32 key)) 23 (Go.Operand.tmp 3) (.pointer (some ⟨B, 0, none⟩)) (fun v => by kernel_rfl) (fun v => by kernel_rfl) (fun w' hb => key_loadP (HK w' hb)),
        owes_move 3 (some 37) [1] (.slice A bs.length cap) (Go.Operand.tmp 1) (fun v => by kernel_rfl) (fun v => by kernel_rfl),
        owes_call 4 (some 38) [1, 2, 3] (.agg (arr8 16 P)) 9 #[Go.Operand.tmp 36, Go.Operand.tmp 37] #[23, 24] (fun v => by kernel_rfl) (fun _ _ => by kernel_rfl) (fun v w' hb ho => by
            exact ⟨#[.agg (arr8 32 key), .slice A bs.length cap], by kernel_rfl, (HS1 w' hb).mono (fun _ _ h => h)⟩),
        owes_load 5 (some 39) [1] (.agg (arr8 32 key2)) 23 (Go.Operand.tmp 8) (.pointer (some ⟨D, 0, none⟩)) (fun v => by kernel_rfl) (fun v => by kernel_rfl) (fun w' hb => key_loadP (HK2 w' hb)),
        owes_move 6 (some 40) [1] (.slice A bs.length cap) (Go.Operand.tmp 1) (fun v => by kernel_rfl) (fun v => by kernel_rfl),
        owes_call 7 (some 41) [1, 5, 6] (.agg (arr8 16 P)) 9 #[Go.Operand.tmp 39, Go.Operand.tmp 40] #[23, 24] (fun v => by kernel_rfl) (fun _ _ => by kernel_rfl) (fun v w' hb ho => by
            exact ⟨#[.agg (arr8 32 key2), .slice A bs.length cap], by kernel_rfl, (HS2 w' hb).mono (fun _ _ h => h)⟩),
        owes_eql 8 (some 42) [1, 4, 7] 26 (Go.Operand.tmp 38) (Go.Operand.tmp 41) 26 (arr8 16 P) (arr8 16 P) true (fun v => by kernel_rfl) (fun v => by kernel_rfl) (by kernel_rfl) (equal16 P),
        owes_pick 9 (some 43) [1, 8] (.bool true) (Go.Operand.tmp 35) (Go.Operand.tmp 42) (Go.Operand.const (Go.Value.bool false)) true (fun v => by kernel_rfl) (fun v => by kernel_rfl) (fun v => by kernel_rfl),
        owes_assign 10 (some 6) [9] (.bool true) (Go.Operand.tmp 43) (fun v => by kernel_rfl) (fun v => by kernel_rfl), trivial⟩ ?_
      intro v w' A' hA hb hall
      have hbe := hbd w' hb
      have h8 : A'.tmps.getD 6 undef = .bool true := by rw [hA]; kernel_rfl
      have hd8 : A'.defers = [] := by rw [hA]; kernel_rfl
      clear hall HK HK2 HS1 HS2 hb hA hbd
      go_wp2_with fail
      rw [HB.out]
      exact ret_slot 6 rfl h8 hd8 ⟨rfl, hbe⟩
    · have hd : (((p : Int) % 4) == 0) = false := by simp; omega
      have hx : bits .xor .u8 (n8 (key p)) 240 = n8 (key p ^^^ byOf p) := by
        have := xor_u8 (key p) (byOf p)
        have e : byOf p = 240#8 := by unfold byOf; rw [if_neg h4]
        rw [e] at this ⊢
        exact this
      clear g1 g2 g3
      go_upto_region 12 with (fail)
      have g1 := H1.out
      have g2 := H2.out
      have g3 := H3.out
      generalize (W3.setCell ⟨D, p, none⟩ (v8 (key p ^^^ byOf p))) = W4 at *
      clear H1 H2 H3 cp fp hx hd
      have hbd : ∀ w', Below W4.drew.heap.size W4.drew w' → Below B w w' := fun w' hb => g2.trans (((Below.drewNr (w := W4) 1).trans hb).mono (Nat.le_of_lt g1.lt))
      have HK : ∀ w', Below W4.drew.heap.size W4.drew w' → w'.rowIs B 23 32 (fun i => v8 (key i)) := fun w' hb => g1.of_block (hb.block _ g1.lt)
      have HK2 : ∀ w', Below W4.drew.heap.size W4.drew w' → w'.rowIs D 23 32 (fun i => v8 (keyX key p i)) := fun w' hb => g3.of_block (hb.block _ g3.lt)
      have HS1 : ∀ w', Below W4.drew.heap.size W4.drew w' → Calls Try.prog 9 #[.agg (arr8 32 key), .slice A bs.length cap] w' fun e w'' => e = .returned (.agg (arr8 16 (polyB key bs))) ∧ Below w'.heap.size w' w'' := fun w' hb => psum_any key A bs cap w' (HSR.out w' (hbd w' hb)) hcap (by omega)
      have HS2 : ∀ w', Below W4.drew.heap.size W4.drew w' → Calls Try.prog 9 #[.agg (arr8 32 (keyX key p)), .slice A bs.length cap] w' fun e w'' => e = .returned (.agg (arr8 16 (polyB key bs))) ∧ Below w'.heap.size w' w'' := fun w' hb => by
        have := psum_any (keyX key p) A bs cap w' (HSR.out w' (hbd w' hb)) hcap (by omega)
        rwa [polyB_by key bs p HPP.out] at this
      generalize polyB key bs = P at *
      generalize keyX key p = key2 at *
      refine wp_region_spec_v [Sp.k 0 (some 34) [] (.bool true),
        Sp.k 1 (some 35) [0] (.bool true),
        Sp.k 2 (some 36) [1] (.agg (arr8 32 key)),
        Sp.k 3 (some 37) [1] (.slice A bs.length cap),
        Sp.k 4 (some 38) [1, 2, 3] (.agg (arr8 16 P)),
        Sp.k 5 (some 39) [1] (.agg (arr8 32 key2)),
        Sp.k 6 (some 40) [1] (.slice A bs.length cap),
        Sp.k 7 (some 41) [1, 5, 6] (.agg (arr8 16 P)),
        Sp.k 8 (some 42) [1, 4, 7] (.bool true),
        Sp.k 9 (some 43) [1, 8] (.bool true),
        Sp.k 10 (some 6) [9] (.bool true)] (by kernel_rfl) (by kernel_rfl)
        ⟨owes_move 0 (some 34) [] (.bool true) (Go.Operand.tmp 7) (fun v => by kernel_rfl) (fun v => by kernel_rfl),
        owes_move 1 (some 35) [0] (.bool true) (Go.Operand.tmp 34) (fun v => by kernel_rfl) (fun v => by kernel_rfl),
        owes_load 2 (some 36) [1] (.agg (arr8 32 key)) 23 (Go.Operand.tmp 3) (.pointer (some ⟨B, 0, none⟩)) (fun v => by kernel_rfl) (fun v => by kernel_rfl) (fun w' hb => key_loadP (HK w' hb)),
        owes_move 3 (some 37) [1] (.slice A bs.length cap) (Go.Operand.tmp 1) (fun v => by kernel_rfl) (fun v => by kernel_rfl),
        owes_call 4 (some 38) [1, 2, 3] (.agg (arr8 16 P)) 9 #[Go.Operand.tmp 36, Go.Operand.tmp 37] #[23, 24] (fun v => by kernel_rfl) (fun _ _ => by kernel_rfl) (fun v w' hb ho => by
            exact ⟨#[.agg (arr8 32 key), .slice A bs.length cap], by kernel_rfl, (HS1 w' hb).mono (fun _ _ h => h)⟩),
        owes_load 5 (some 39) [1] (.agg (arr8 32 key2)) 23 (Go.Operand.tmp 8) (.pointer (some ⟨D, 0, none⟩)) (fun v => by kernel_rfl) (fun v => by kernel_rfl) (fun w' hb => key_loadP (HK2 w' hb)),
        owes_move 6 (some 40) [1] (.slice A bs.length cap) (Go.Operand.tmp 1) (fun v => by kernel_rfl) (fun v => by kernel_rfl),
        owes_call 7 (some 41) [1, 5, 6] (.agg (arr8 16 P)) 9 #[Go.Operand.tmp 39, Go.Operand.tmp 40] #[23, 24] (fun v => by kernel_rfl) (fun _ _ => by kernel_rfl) (fun v w' hb ho => by
            exact ⟨#[.agg (arr8 32 key2), .slice A bs.length cap], by kernel_rfl, (HS2 w' hb).mono (fun _ _ h => h)⟩),
        owes_eql 8 (some 42) [1, 4, 7] 26 (Go.Operand.tmp 38) (Go.Operand.tmp 41) 26 (arr8 16 P) (arr8 16 P) true (fun v => by kernel_rfl) (fun v => by kernel_rfl) (by kernel_rfl) (equal16 P),
        owes_pick 9 (some 43) [1, 8] (.bool true) (Go.Operand.tmp 35) (Go.Operand.tmp 42) (Go.Operand.const (Go.Value.bool false)) true (fun v => by kernel_rfl) (fun v => by kernel_rfl) (fun v => by kernel_rfl),
        owes_assign 10 (some 6) [9] (.bool true) (Go.Operand.tmp 43) (fun v => by kernel_rfl) (fun v => by kernel_rfl), trivial⟩ ?_
      intro v w' A' hA hb hall
      have hbe := hbd w' hb
      have h8 : A'.tmps.getD 6 undef = .bool true := by rw [hA]; kernel_rfl
      have hd8 : A'.defers = [] := by rw [hA]; kernel_rfl
      clear hall HK HK2 HS1 HS2 hb hA hbd
      go_wp2_with fail
      rw [HB.out]
      exact ret_slot 6 rfl h8 hd8 ⟨rfl, hbe⟩
  · go_wp2_with fail
    go_ret
    rw [HB.out]
    exact ⟨rfl, g2⟩
end Go.Proofs.Ytpkajfkdandhoaa
