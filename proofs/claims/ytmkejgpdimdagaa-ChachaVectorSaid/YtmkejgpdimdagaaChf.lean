import Derived.Test.YtmkejgpdimdagaaChe
namespace Go.Proofs.Ytmkejgpdimdagaa
open Go.RowKit

def zf : Nat → BitVec 8 := fun _ => 0#8
theorem first0 : blk zf 0#32 zf 0 = 0x76#8 := by decide +kernel
theorem first1 : blk zf 0#32 zf 1 = 0xb8#8 := by decide +kernel
theorem arr_z32 : arr8 32 zf = #[.int .u8 0, .int .u8 0, .int .u8 0, .int .u8 0, .int .u8 0, .int .u8 0, .int .u8 0, .int .u8 0, .int .u8 0, .int .u8 0, .int .u8 0, .int .u8 0, .int .u8 0, .int .u8 0, .int .u8 0, .int .u8 0,
  .int .u8 0, .int .u8 0, .int .u8 0, .int .u8 0, .int .u8 0, .int .u8 0, .int .u8 0, .int .u8 0, .int .u8 0, .int .u8 0, .int .u8 0, .int .u8 0, .int .u8 0, .int .u8 0, .int .u8 0, .int .u8 0] := rfl
theorem arr_z12 : arr8 12 zf = #[.int .u8 0, .int .u8 0, .int .u8 0, .int .u8 0, .int .u8 0, .int .u8 0, .int .u8 0, .int .u8 0, .int .u8 0, .int .u8 0, .int .u8 0, .int .u8 0] := rfl
theorem v32_z : v32 0#32 = .int .u32 0 := rfl

theorem v8_at (x : BitVec 8) (n : Nat) (h : x = BitVec.ofNat 8 n) (hn : n < 256) : v8 x = .int .u8 n := by
  subst h
  unfold v8 n8 n32
  rw [BitVec.toNat_setWidth, BitVec.toNat_ofNat]
  congr 1; omega

set_option maxRecDepth 100000 in
set_option maxHeartbeats 800000 in
theorem first_any (w : World) : Calls Try.prog 8 #[] w fun e w' => e = .returned (.bool true) ∧ Below w.heap.size w w' := by
  have hb0 := block_any zf zf 0#32
  rw [arr_z32, arr_z12, v32_z] at hb0
  have hx0 := fun w => xor_any zf zf 0#32 none [] 0 w SlRead.nil_ (by simp)
  rw [arr_z32, arr_z12, v32_z] at hx0
  go_enter Try.func8, Try.ntmps8
  go_upto_region 2 with (first | (go_at_call 9; refine (hb0 _).mono ?_; rintro e W1 ⟨rfl, hb1⟩) | (refine wpList_store_row rfl 28 _ _ rfl _ _ rfl rfl _ _ (heap_alloc_new _ _) (by kernel_rfl) (by simp) (arr8_one _ _) ?_; rw [alloc_setRow]))
  refine wp_world (fun W => W.rowIs W1.heap.size 28 64 (fun i => v8 (blk zf 0#32 zf i)) ∧ Below w.heap.size w W) ⟨rowIs_new _ _ _ _ _ _ rfl (by simp) (fun i hi => arr8_get 64 _ i hi), hb1.alloc hb1.size _⟩ ?_
  rintro W ⟨hr, hbW⟩
  generalize W1.heap.size = g at hr ⊢
  clear hb1
  go_wp2_with fail
  refine (hx0 _).mono ?_
  rintro e W2 ⟨O, rfl, _, _, hb2⟩
  have hr2 := hr.of_block (hb2.block _ hr.lt)
  have c0 := hr2.cell (i := 0) (by omega)
  have c1 := hr2.cell (i := 1) (by omega)
  simp only [v8_at _ _ first0 (by omega), v8_at _ _ first1 (by omega)] at c0 c1
  have hB := hbW.trans (hb2.mono hbW.size)
  clear hr hr2 hb2 hbW hb0 hx0
  simp only [List.length_nil]
  go_wp2_with fail
  go_ret
  exact ⟨rfl, hB⟩
end Go.Proofs.Ytmkejgpdimdagaa
