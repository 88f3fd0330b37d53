import Derived.Test.YtpkajfkdandhoaaPyr
import Derived.Stop.BytesEq
/-
  The laws of poly: what comes first, PolySays.
-/
namespace Go.Proofs.Ytpkajfkdandhoaa
open Go.RowKit

theorem wf_u8 {z : Int} (h : (Lit.int .u8 z).wf = true) : 0 ≤ z ∧ z < 256 := by
  simp [Lit.wf, IntKind.min, IntKind.max, IntKind.bits, IntKind.signed] at h
  omega
theorem v8_of (z : Int) (hw : (Lit.int .u8 z).wf = true) : ∃ x : BitVec 8, z = n8 x := by
  obtain ⟨h0, h1⟩ := wf_u8 hw
  refine ⟨BitVec.ofNat 8 z.toNat, ?_⟩
  unfold n8 n32
  simp only [BitVec.toNat_setWidth, BitVec.toNat_ofNat]
  omega
theorem bys_of (xs : List Int) (hw : ∀ x ∈ xs, (Lit.int .u8 x).wf = true) : ∃ ys, xs = bys ys := by
  induction xs with
  | nil => exact ⟨[], rfl⟩
  | cons a r ih =>
    obtain ⟨ys, rfl⟩ := ih fun x hx => hw x (by simp [hx])
    obtain ⟨y, rfl⟩ := v8_of a (hw a (by simp))
    exact ⟨y :: ys, rfl⟩
theorem n8_of (z : Int) (h0 : 0 ≤ z) (h1 : z < 256) : n8 (BitVec.ofInt 8 z) = z := by
  unfold n8 n32
  rw [BitVec.toNat_setWidth, BitVec.toNat_ofInt]
  omega
theorem arr8_of (xs : List Int) (n : Nat) (hn : xs.length = n) (hw : ∀ x ∈ xs, (Lit.int .u8 x).wf = true) : ∃ f : Nat → BitVec 8, (ints .u8 xs).toArray = arr8 n f := by
  refine ⟨fun i => BitVec.ofInt 8 (xs.getD i 0), ?_⟩
  apply Array.ext
  · simp [hn]
  · intro i h1 h2
    have hi : i < xs.length := by simpa using h1
    have hz := wf_u8 (hw _ (List.getElem_mem hi))
    have e2 := arr8_get n (fun i => BitVec.ofInt 8 (xs.getD i 0)) i (by omega)
    rw [Array.getElem?_eq_getElem h2] at e2
    rw [Option.some.inj e2]
    have : xs.getD i 0 = xs[i] := by simp [hi]
    unfold v8
    rw [this, n8_of _ hz.1 hz.2]
    simp [ints]
theorem n32_of (z : Int) (h0 : 0 ≤ z) (h1 : z < 4294967296) : n32 (BitVec.ofInt 32 z) = z := by
  unfold n32
  rw [BitVec.toNat_ofInt]
  omega
theorem wf_u32 {z : Int} (h : (Lit.int .u32 z).wf = true) : 0 ≤ z ∧ z < 4294967296 := by
  simp [Lit.wf, IntKind.min, IntKind.max, IntKind.bits, IntKind.signed] at h
  omega
theorem v32_of (z : Int) (hw : (Lit.int .u32 z).wf = true) : ∃ x : BitVec 32, z = n32 x :=
  ⟨BitVec.ofInt 32 z, (n32_of z (wf_u32 hw).1 (wf_u32 hw).2).symm⟩

theorem arr8_cells (n : Nat) (f : Nat → BitVec 8) : arr8 n f = (((List.range n).map fun i => UInt8.ofBitVec (f i)).map Extern.Stop.cell).toArray := by
  unfold arr8
  rw [List.map_map]
  congr 1
theorem size_u8 (w : World) : (sizeOf 5).run Try.prog w = .ok 1 w := by
  obtain ⟨i, hi, hz⟩ := Option.map_eq_some_iff.1 (show (Try.prog.info? 5).map (·.size) = some 1 by kernel_rfl)
  simp [sizeOf, typeInfo, hi, hz, Result.andThen]
/-- two rows of sixteen bytes, the same or not -/
def same16 (f g : Nat → BitVec 8) : Bool := (List.range 16).map (fun i => UInt8.ofBitVec (f i)) == (List.range 16).map (fun i => UInt8.ofBitVec (g i))
theorem equal16b (f g : Nat → BitVec 8) (w : World) : (Op.equalIn 10000 26 (.agg (arr8 16 f)) (.agg (arr8 16 g))).run Try.prog w = .ok (same16 f g) w := by
  rw [arr8_cells, arr8_cells, run_equalIn_bytes w 9998 26 5 16 Try.underlying26 Try.underlying5 size_u8 _ _ (by simp) (by simp)]
  rfl
theorem equal16 (f : Nat → BitVec 8) (w : World) : (Op.equalIn 10000 26 (.agg (arr8 16 f)) (.agg (arr8 16 f))).run Try.prog w = .ok true w := by
  rw [equal16b]; simp [same16]

theorem poly_f0 : polyB (fun i => if i = 16 then 7#8 else 0#8) [] 0 = 7#8 := by decide +kernel
theorem poly_f1 : polyB (fun i => if i = 16 then 7#8 else 0#8) [] 1 = 0#8 := by decide +kernel

set_option maxRecDepth 100000 in
set_option maxHeartbeats 800000 in
theorem first_any (w : World) :
    Calls Try.prog 8 #[] w fun e w' => e = .returned (.bool true) ∧ Below w.heap.size w w' := by
  go_enter Try.func8, Try.ntmps8
  go_upto_region 2 with (first | (refine wpList_build rfl 23 _ rfl #[] (by kernel_rfl) (.agg (arr8 32 (fun _ => 0#8))) (fun _ => by kernel_rfl) ?_) | (refine wpList_store_row rfl 23 _ _ rfl _ (arr8 32 (fun _ => 0#8)) rfl rfl _ _ (heap_alloc_new _ _) (by kernel_rfl) (by simp) (arr8_one _ _) ?_; rw [alloc_setRow]))
  refine wp_world (fun W => W.rowIs w.heap.size 23 32 (fun i => v8 ((fun _ => 0#8 : Nat → BitVec 8) i)) ∧ Below w.heap.size w W) ?_ ?_
  · exact ⟨rowIs_new _ _ _ _ _ _ rfl (by simp) (fun i hi => arr8_get 32 _ i hi), by go_grown⟩
  rintro W0 ⟨h1, h2⟩
  generalize hB : w.heap.size = B at h1 h2 ⊢
  have HB := Lib.hid hB; clear hB
  have c1 := h1.cell (i := 16) (by omega)
  have f1 := h1.frozen 16
  have H1 : Hid ((W0.setCell ⟨B, 16, none⟩ (.int .u8 7)).rowIs B 23 32 (fun i => v8 (if i = 16 then 7#8 else 0#8))) := Lib.hid ((h1.set 16 _).congr fun i _ => by split <;> rfl)
  have H2 : Hid (Below B w (W0.setCell ⟨B, 16, none⟩ (.int .u8 7))) := Lib.hid (h2.setCell (by simp only; omega) _)
  clear h1 h2
  go_upto_region 3 with (fail)
  have h1 := H1.out
  have h2 := H2.out
  generalize (W0.setCell ⟨B, 16, none⟩ (.int .u8 7)) = W1 at *
  clear H1 H2 c1 f1
  have hk := rowIs_heap8 h1
  have hs := psum_any (fun i => if i = 16 then 7#8 else 0#8) none [] 0 W1 SlRead.nil_ (by simp) (by simp)
  have HS := Lib.hid hs; clear hs
  go_wp2_with (refine wpList_load_row rfl 23 _ rfl _ rfl _ _ _ _ hk Try.underlying23 rfl (by kernel_rfl) ?_)
  refine HS.out.mono ?_
  rintro e W2 ⟨rfl, hb2⟩
  have hb3 : Below B w W2 := h2.trans (hb2.mono (Nat.le_of_lt h1.lt))
  have hB2 : B ≤ W2.heap.size := Nat.le_trans (Nat.le_of_lt h1.lt) hb2.size
  clear h1 h2 hk HS hb2
  go_upto_region 4 with (first | (refine wpList_store_row rfl 26 _ _ rfl _ _ rfl rfl _ _ (heap_alloc_new _ _) (by kernel_rfl) (by simp) (arr8_one _ _) ?_; rw [alloc_setRow]))
  have hr := rowIs_new W2 (arr8 16 (polyB (fun i => if i = 16 then 7#8 else 0#8) [])) 26 W2.heap.size 16 _ rfl (by simp) (fun i hi => arr8_get 16 _ i hi)
  have hbl := hb3.alloc hB2 (.cells (arr8 16 (polyB (fun i => if i = 16 then 7#8 else 0#8) [])) 26)
  generalize W2.alloc (.cells (arr8 16 (polyB (fun i => if i = 16 then 7#8 else 0#8) [])) 26) = W3 at *
  have c0 := hr.cell (i := 0) (by omega)
  have c1 := hr.cell (i := 1) (by omega)
  rw [poly_f0] at c0
  rw [poly_f1] at c1
  change W3.cell? _ = some (.int .u8 7) at c0
  change W3.cell? _ = some (.int .u8 0) at c1
  clear hr hb3 hB2
  go_wp2_with fail
  go_ret
  rw [HB.out]
  exact ⟨rfl, hbl⟩

set_option maxRecDepth 100000 in
set_option maxHeartbeats 1600000 in
theorem says_walk (key : Nat → BitVec 8) (A : Option Addr) (bs : List (BitVec 8)) (cap : Nat) (w : World) (hS : SlRead w A (ints .u8 (bys bs))) (hcap : bs.length ≤ cap) :
    Calls Try.prog 3 #[.agg (arr8 32 key), .slice A bs.length cap] w fun e w' => e = .returned (.bool true) ∧ Below w.heap.size w w' := by

  go_enter Try.func3, Try.ntmps3
  go_upto_region 1 with (fail)
  refine wp_world (fun W => W.rowIs w.heap.size 23 32 (fun i => v8 (key i)) ∧ Below w.heap.size w W) ?_ ?_
  · exact ⟨rowIs_new _ _ _ _ _ _ rfl (by simp) (fun i hi => arr8_get 32 key i hi), by go_grown⟩
  rintro W0 ⟨h1, h2⟩
  have hS0 : SlRead W0 A (ints .u8 (bys bs)) := hS.below h2
  generalize hB : w.heap.size = B at h1 h2 ⊢
  have HB := Lib.hid hB; clear hB hS
  go_wp2_with fail
  refine (first_any W0).mono ?_
  rintro e W1 ⟨rfl, hb1⟩
  have g1 := h1.of_block (hb1.block _ h1.lt)
  have g2 : Below B w W1 := h2.trans (hb1.mono (Nat.le_of_lt h1.lt))
  have hS1 : SlRead W1 A (ints .u8 (bys bs)) := hS0.below hb1
  clear h1 h2 hS0 hb1
  by_cases hlen : bs.length ≤ 300
  · go_upto_region 6 with (fail)
    have HK : ∀ w', Below W1.drew.heap.size W1.drew w' → w'.rowIs B 23 32 (fun i => v8 (key i)) := fun w' hb => g1.of_block (hb.block _ g1.lt)
    have HS1 : ∀ w', Below W1.drew.heap.size W1.drew w' → Calls Try.prog 9 #[.agg (arr8 32 key), .slice A bs.length cap] w' fun e w'' => e = .returned (.agg (arr8 16 (polyB key bs))) ∧ Below w'.heap.size w' w'' := fun w' hb => psum_any key A bs cap w' (hS1.below ((Below.drewNr (w := W1) 1).trans hb)) hcap (by omega)
    have HS2 : ∀ w', Below W1.drew.heap.size W1.drew w' → Calls Try.prog 10 #[.agg (arr8 32 key), .slice A bs.length cap] w' fun e w'' => e = .returned (.agg (arr8 16 (polyB key bs))) ∧ Below w'.heap.size w' w'' := fun w' hb => dtag_any key A bs cap w' (hS1.below ((Below.drewNr (w := W1) 1).trans hb)) hcap (by omega)
    generalize polyB key bs = P at *
    refine wp_region_spec_v [Sp.k 0 (some 13) [] (.bool true),
      Sp.k 1 (some 14) [0] (.bool true),
      Sp.k 2 (some 15) [1] (.agg (arr8 32 key)),
      Sp.k 3 (some 16) [1] (.slice A bs.length cap),
      Sp.k 4 (some 17) [1, 2, 3] (.agg (arr8 16 P)),
      Sp.k 5 (some 18) [1] (.agg (arr8 32 key)),
      Sp.k 6 (some 19) [1] (.slice A bs.length cap),
      Sp.k 7 (some 20) [1, 5, 6] (.agg (arr8 16 P)),
      Sp.k 8 (some 21) [1, 4, 7] (.bool true),
      Sp.k 9 (some 22) [1, 8] (.bool true),
      Sp.k 10 (some 4) [9] (.bool true)] (by kernel_rfl) (by kernel_rfl)
      ⟨owes_move 0 (some 13) [] (.bool true) (Go.Operand.tmp 5) (fun v => by kernel_rfl) (fun v => by kernel_rfl),
      owes_move 1 (some 14) [0] (.bool true) (Go.Operand.tmp 13) (fun v => by kernel_rfl) (fun v => by kernel_rfl),
      owes_load 2 (some 15) [1] (.agg (arr8 32 key)) 23 (Go.Operand.tmp 2) (.pointer (some ⟨B, 0, none⟩)) (fun v => by kernel_rfl) (fun v => by kernel_rfl) (fun w' hb => key_loadP (HK w' hb)),
      owes_move 3 (some 16) [1] (.slice A bs.length cap) (Go.Operand.tmp 1) (fun v => by kernel_rfl) (fun v => by kernel_rfl),
      owes_call 4 (some 17) [1, 2, 3] (.agg (arr8 16 P)) 9 #[Go.Operand.tmp 15, Go.Operand.tmp 16] #[23, 24] (fun v => by kernel_rfl) (fun _ _ => by kernel_rfl) (fun v w' hb ho => by
          exact ⟨#[.agg (arr8 32 key), .slice A bs.length cap], by kernel_rfl, (HS1 w' hb).mono (fun _ _ h => h)⟩),
      owes_load 5 (some 18) [1] (.agg (arr8 32 key)) 23 (Go.Operand.tmp 2) (.pointer (some ⟨B, 0, none⟩)) (fun v => by kernel_rfl) (fun v => by kernel_rfl) (fun w' hb => key_loadP (HK w' hb)),
      owes_move 6 (some 19) [1] (.slice A bs.length cap) (Go.Operand.tmp 1) (fun v => by kernel_rfl) (fun v => by kernel_rfl),
      owes_call 7 (some 20) [1, 5, 6] (.agg (arr8 16 P)) 10 #[Go.Operand.tmp 18, Go.Operand.tmp 19] #[23, 24] (fun v => by kernel_rfl) (fun _ _ => by kernel_rfl) (fun v w' hb ho => by
          exact ⟨#[.agg (arr8 32 key), .slice A bs.length cap], by kernel_rfl, (HS2 w' hb).mono (fun _ _ h => h)⟩),
      owes_eql 8 (some 21) [1, 4, 7] 26 (Go.Operand.tmp 17) (Go.Operand.tmp 20) 26 (arr8 16 P) (arr8 16 P) true (fun v => by kernel_rfl) (fun v => by kernel_rfl) (by kernel_rfl) (equal16 P),
      owes_pick 9 (some 22) [1, 8] (.bool true) (Go.Operand.tmp 14) (Go.Operand.tmp 21) (Go.Operand.const (Go.Value.bool false)) true (fun v => by kernel_rfl) (fun v => by kernel_rfl) (fun v => by kernel_rfl),
      owes_assign 10 (some 4) [9] (.bool true) (Go.Operand.tmp 22) (fun v => by kernel_rfl) (fun v => by kernel_rfl), trivial⟩ ?_
    intro v w' A' hA hb hall
    have hbe : Below B w w' := g2.trans (((Below.drewNr (w := W1) 1).trans hb).mono (Nat.le_of_lt g1.lt))
    have h8 : A'.tmps.getD 4 undef = .bool true := by rw [hA]; kernel_rfl
    have hd8 : A'.defers = [] := by rw [hA]; kernel_rfl
    clear hall HK HS1 HS2 hb hA
    go_wp2_with fail
    rw [HB.out]
    exact ret_slot 4 rfl h8 hd8 ⟨rfl, hbe⟩
  · go_wp2_with fail
    go_ret
    rw [HB.out]
    exact ⟨rfl, g2⟩
end Go.Proofs.Ytpkajfkdandhoaa
