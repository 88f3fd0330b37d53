import Derived.Test.YtccchhfcoicgcaaDoorCfs
import Derived.Test.YtccchhfcoicgcaaDoorMcd
namespace Go.Proofs.YtccchhfcoicgcaaDoor
open Go.RowKit

section
variable {P : Program} {md : Region.Mode} {ops : Array Oper} {Q : Exit → Act → World → Prop} {S : World → Prop} {fuel : Nat} {listed : Array Bool} {a : Act} {w : World}
theorem held_neq (i : Nat) (t : TypeId) (x y : Operand) (r : TypeId) (dst : Option Tmp) (cx cy : Array Value) (b : Bool) (hi : ops[i]?.map (fun o => (o.op, o.dst, Region.wanted o (yielded ops a.tmps))) = some (.binOp .neq t x y r, dst, true))
    (hx : a.eval x = .agg cx) (hy : a.eval y = .agg cy) (hgd : P.eqGuardType P.depth t = false) (he : ∀ w, (Op.equalIn 10000 t (.agg cx) (.agg cy)).run P w = .ok b w)
    (hs : Region.noSelect ops = true) (hf : Region.free md ops listed i = true) (hr : (Region.ready md ops listed).contains i = true)
    (hQ : ∀ c a v d w, Q (.panic c) (a.put d v) w → Q (.panic c) a w) (hw : S w)
    (h : wpAnyH P md ops Q S fuel (listed.setIfInBounds i true) (a.put dst (.bool (!b))) w) : wpAnyH P md ops Q S (fuel + 1) listed a w :=
  held_any i _ dst _ hi hs hf hr hQ hw (fun oo ho w hw => by
    unfold execOp
    simp [ho, hx, hy, eqGuard, hgd, run_neq_struct, he, Result.andThen]) h
theorem held_conv (i : Nat) (t t' : TypeId) (x : Operand) (dst : Option Tmp) (v v' : Value) (hi : ops[i]?.map (fun o => (o.op, o.dst, Region.wanted o (yielded ops a.tmps))) = some (.convert t t' x, dst, true))
    (hx : a.eval x = v) (he : ∀ w, (convert t t' v).run P w = .ok v' w) (hs : Region.noSelect ops = true) (hf : Region.free md ops listed i = true) (hr : (Region.ready md ops listed).contains i = true)
    (hQ : ∀ c a v d w, Q (.panic c) (a.put d v) w → Q (.panic c) a w) (hw : S w)
    (h : wpAnyH P md ops Q S fuel (listed.setIfInBounds i true) (a.put dst v') w) : wpAnyH P md ops Q S (fuel + 1) listed a w :=
  held_any i _ dst v' hi hs hf hr hQ hw (fun o ho w _ => by unfold execOp; simp [ho, hx, he, Result.andThen]) h
end
theorem draw_small : ∀ k, k < 22 → drawB (BitVec.ofNat 32 k) = [BitVec.ofNat 8 k, 0#8, 0#8, 0#8] := by decide +kernel
theorem n32_small (k : Nat) (h : k < 22) : n32 (BitVec.ofNat 32 k) = (k : Int) := by
  unfold n32
  rw [BitVec.toNat_ofNat]
  omega
theorem n8_small (k : Nat) (h : k < 22) : n8 (BitVec.ofNat 8 k) = (k : Int) := by
  rw [n8_nat, BitVec.toNat_ofNat]
  omega
theorem conv_u32 (k : Nat) (h : k < 22) (w : World) : (convert 3 24 (.int .i64 k)).run Tryd.prog w = .ok (.int .u32 (n32 (BitVec.ofNat 32 k))) w := by
  have h1 := Tryd.underlying3
  have h2 := Tryd.underlying24
  rw [n32_small k h]
  go_simp
  show (k : Int) % 4294967296 = k
  omega
theorem conv_u8 (k : Nat) (h : k < 22) (w : World) : (convert 3 5 (.int .i64 k)).run Tryd.prog w = .ok (.int .u8 (n8 (BitVec.ofNat 8 k))) w := by
  have h1 := Tryd.underlying3
  have h2 := Tryd.underlying5
  rw [n8_small k h]
  go_simp
  show (k : Int) % 256 = k
  omega

structure RwS (w : World) (S0 C X Y : Nat) (sd c xs ys : Nat → BitVec 8) (W : World) : Prop where
  s : W.rowIs S0 23 32 (fun i => v8 (sd i))
  c : W.rowIs C 23 32 (fun i => v8 (c i))
  x : W.rowIs X 23 32 (fun i => v8 (xs i))
  y : W.rowIs Y 23 32 (fun i => v8 (ys i))
  k : KAt W
  b : Below w.heap.size w W
theorem RwS.below {w : World} {S0 C X Y : Nat} {sd c xs ys : Nat → BitVec 8} {W W' : World} (h : RwS w S0 C X Y sd c xs ys W) (hb : Below W.heap.size W W') : RwS w S0 C X Y sd c xs ys W' :=
  ⟨h.s.of_block (hb.block _ h.s.lt), h.c.of_block (hb.block _ h.c.lt), h.x.of_block (hb.block _ h.x.lt), h.y.of_block (hb.block _ h.y.lt), h.k.below hb, h.b.trans (hb.mono h.b.size)⟩

set_option maxRecDepth 100000 in
set_option maxHeartbeats 1600000 in
theorem rows_walk (sd : Nat → BitVec 8) (z : Int) (w : World) (hk : KAt w) :
    Calls Tryd.prog 4 #[.agg (arr8 32 sd), .int .i64 z] w fun e w' => e = .returned (.bool true) ∧ Below w.heap.size w w' := by
  have alc : ∀ (W : World) (o : Obj), Below W.heap.size W (W.alloc o) := fun W o => (Below.refl _ _).alloc (Nat.le_refl _) _
  go_enter Tryd.func4, Tryd.ntmps4
  go_upto_region 1 with (fail)
  have hs0 : (w.alloc (.cells (arr8 32 sd) 23)).rowIs w.heap.size 23 32 (fun i => v8 (sd i)) := rowIs_new _ _ _ _ _ _ rfl (by simp) (fun i hi => arr8_get 32 sd i hi)
  have hb0 := alc w (.cells (arr8 32 sd) 23)
  have hk0 := hk.below hb0
  generalize w.alloc (.cells (arr8 32 sd) 23) = W0 at *
  have hkr := hk.lt
  clear hk
  go_wp2_with fail
  refine (first_any W0 hk0).mono ?_
  rintro e W1 ⟨rfl, hb1⟩
  have hs1 := hs0.of_block (hb1.block _ hs0.lt)
  have hk1 := hk0.below hb1
  have hb1' := hb0.trans (hb1.mono hb0.size)
  clear hs0 hk0 hb0 hb1
  generalize hS0 : w.heap.size = S0 at *
  have HS0 := Lib.hid hS0; clear hS0
  have hm : ∃ m : Int, z.tmod 20 + 2 = m ∧ m ≤ 21 ∧ -17 ≤ m := by
    have h1 := Int.tmod_lt_of_pos z (show (0 : Int) < 20 by omega)
    have h2 := Int.lt_tmod_of_pos z (show (0 : Int) < 20 by omega)
    exact ⟨_, rfl, by omega, by omega⟩
  obtain ⟨m, hm1, hm2, hm3⟩ := hm
  have hmw : IntKind.i64.wrap m = m := IntWalk.i64_in _ (by omega)
  have hh1 := rowIs_heap8 hs1
  go_upto_region 6 with (first | (refine wpList_load_row rfl 23 (.tmp 2) rfl S0 rfl _ _ _ _ hh1 Tryd.underlying23 rfl (by kernel_rfl) ?_) | (refine wpList_store_row rfl 23 _ _ rfl _ (arr8 32 sd) rfl rfl _ _ (heap_alloc_new _ _) (by kernel_rfl) (by simp) (arr8_one _ _) ?_; rw [alloc_setRow]))
  generalize hC : W1.heap.size = C at *
  have hc2 : (W1.alloc (.cells (arr8 32 sd) 23)).rowIs C 23 32 (fun i => v8 (sd i)) := rowIs_new _ _ _ _ _ _ hC.symm (by simp) (fun i hi => arr8_get 32 sd i hi)
  have hb2 := alc W1 (.cells (arr8 32 sd) 23)
  generalize W1.alloc (.cells (arr8 32 sd) 23) = W2 at *
  have hs2 := hs1.of_block (hb2.block _ hs1.lt)
  have hk2 := hk1.below hb2
  have hb2' : Below S0 w W2 := hb1'.trans (hb2.mono (by have := hs1.lt; omega))
  have hSC : S0 < C := by rw [← hC]; exact hs1.lt
  clear hs1 hk1 hb1' hb2 hC hh1
  go_wp2_with fail
  go_loopw [7] (fun i wr => ∃ (k : Nat) (c : Nat → BitVec 8), k ≤ 21 ∧ i = .int .i64 k ∧ wr.rowIs S0 23 32 (fun i => v8 (sd i)) ∧ wr.rowIs C 23 32 (fun i => v8 (c i)) ∧ KAt wr ∧ Below S0 w wr) (fun i _ => (m - intOf i).toNat)
  case atStart => exact ⟨0, sd, by omega, rfl, hs2, hc2, hk2, hb2'⟩
  clear hs2 hc2 hk2 hb2'
  case round =>
    obtain ⟨k, c, hk21, rfl, hs, hc, hk, hb⟩ := hrel
    by_cases hlt : (k : Int) < m
    · have hk22 : k < 21 := by omega
      have hhc := rowIs_heap8 hc
      go_wp2_with (first | (refine wpList_load_row rfl 23 (.tmp 6) rfl C rfl _ _ _ _ hhc Tryd.underlying23 rfl (by kernel_rfl) ?_))
      refine (step_any c wr hk).mono ?_
      rintro e W3 ⟨rfl, hb3⟩
      have hs3 := hs.of_block (hb3.block _ hs.lt)
      have hc3 := hc.of_block (hb3.block _ hc.lt)
      have hk3 := hk.below hb3
      have hb3' : Below S0 w W3 := hb.trans (hb3.mono (by have := hs.lt; omega))
      clear hs hc hk hb hb3 hhc
      generalize hFA : macOf (lst 32 c) [2#8] = FA at *
      generalize hFB : macOf (lst 32 c) [1#8] = FB at *
      have HFA := Lib.hid hFA; have HFB := Lib.hid hFB; clear hFA hFB
      have hA1 : ∀ z z', ((W3.alloc z).alloc z').heap[W3.heap.size]? = some z := fun z z' => (heap_alloc_old _ _ (by simp)).trans (heap_alloc_new _ _)
      have hA2 : ∀ z z', ((W3.alloc z).alloc z').heap[W3.heap.size + 1]? = some z' := fun z z' => by
        have := heap_alloc_new (W3.alloc z) z'
        rwa [show (W3.alloc z).heap.size = W3.heap.size + 1 by simp] at this
      have hS2 : (((W3.alloc (.cells (Array.replicate 32 (.int .u8 0)) 23)).alloc (.cells (Array.replicate 32 (.int .u8 0)) 23)).setRow W3.heap.size (arr8 32 FA)).heap[W3.heap.size + 1]? = some (.cells (Array.replicate 32 (.int .u8 0)) 23 (0, 0)) := (setRow_ne _ W3.heap.size _ (W3.heap.size + 1) (by omega)).trans (hA2 _ _)
      go_upto_region 10 with (first | (refine wpList_alloc_z rfl 23 rfl (Array.replicate 32 (.int .u8 0)) (fun _ => by kernel_rfl) ?_; try rw [show (W3.alloc (.cells (Array.replicate 32 (.int .u8 0)) 23)).heap.size = W3.heap.size + 1 by simp]) | (refine wpList_store_row rfl 23 (.tmp 8) (.tmp 25) rfl W3.heap.size (arr8 32 FA) rfl rfl _ _ (hA1 _ _) (by kernel_rfl) (by simp) (arr8_one _ _) ?_) | (refine wpList_store_row rfl 23 (.tmp 9) (.tmp 26) rfl (W3.heap.size + 1) (arr8 32 FB) rfl rfl _ _ hS2 (by kernel_rfl) (by simp) (arr8_one _ _) ?_))
      refine wp_world (fun W' => Below W3.heap.size W3 W' ∧ W'.rowIs W3.heap.size 23 32 (fun i => v8 (FA i)) ∧ W'.rowIs (W3.heap.size + 1) 23 32 (fun i => v8 (FB i))) ?_ ?_
      · refine ⟨below_setRow (below_setRow ((alc W3 _).alloc (by simp) _) (Nat.le_refl _) _) (by omega) _, ?_, ?_⟩
        · exact rowIs_arr ((setRow_ne _ (W3.heap.size + 1) _ W3.heap.size (by omega)).trans (setRow_heap _ _ _ _ _ _ (hA1 _ _))) (by simp) (fun i hi => arr8_get 32 FA i hi)
        · exact rowIs_arr (setRow_heap _ _ _ _ _ _ hS2) (by simp) (fun i hi => arr8_get 32 FB i hi)
      clear hA1 hA2 hS2
      rintro W4 ⟨hb4, hx4, hy4⟩
      have hs4 := hs3.of_block (hb4.block _ hs3.lt)
      have hc4 := hc3.of_block (hb4.block _ hc3.lt)
      have hk4 := hk3.below hb4
      have hb4' : Below S0 w W4 := hb3'.trans (hb4.mono (by have := hs3.lt; omega))
      have hCX : C < W3.heap.size := hc3.lt
      clear hs3 hc3 hk3 hb3' hb4
      generalize W3.heap.size = X at *
      have hkS : 1 < S0 := hkr
      have hslC := fun w' => sliceAt_arr (P := Tryd.prog) 32 Tryd.underlying23 (show (Tryd.prog.info? 5).map (·.size) = some 1 by kernel_rfl) C (by omega) w'
      have hslS := fun w' => sliceAt_arr (P := Tryd.prog) 32 Tryd.underlying23 (show (Tryd.prog.info? 5).map (·.size) = some 1 by kernel_rfl) S0 (by omega) w'
      have hds := draw_small k (by omega)
      have hcv := conv_u32 k (by omega)
      have hcw := conv_u8 k (by omega)
      have iK : ∀ f : Nat → BitVec 8, (Tryd.prog.info? 23).map (·.size) = some (arr8 32 f).toList.length := fun f => by simp only [Array.length_toList, arr8_size]; kernel_rfl
      refine wp_region_noPanic ?_
      refine wp_region_held_drew (S := RwS w S0 C X (X + 1) sd c FA FB) (by kernel_rfl) ⟨hs4, hc4, hx4, hy4, hk4.of_block rfl, HS0.out ▸ hb4'.drew⟩ (fun hHeld => ?_)
      clear hs4 hc4 hx4 hy4 hk4 hb4'
      refine held_load 0 23 (.tmp 8) (some 27) X 0 (arr8 32 FA).toList _ (by kernel_rfl) (by kernel_rfl) (fun w h => rangeAt_row h.x) Tryd.underlying23 rfl (iK FA) (by kernel_rfl) (by kernel_rfl) (by kernel_rfl) (fun _ _ _ _ _ h => h) hHeld ?_
      refine held_slice 1 23 (.tmp 6) none none none (some 28) (.pointer (some ⟨C, 0, none⟩)) none none none (.slice (some ⟨C, 0, none⟩) 32 32) (by kernel_rfl) (by kernel_rfl) (hslC) (by kernel_rfl) (by kernel_rfl) (by kernel_rfl) (fun _ _ _ _ _ h => h) hHeld ?_
      refine held_ready [2] (by kernel_rfl) (by simp) (rdy_bsl 2 33 5 (.const (.int .u8 2)) (some 29) (.int .u8 2) (by kernel_rfl) (by kernel_rfl) (bsl_u8 _ _) (hHeld.below (alc _ _)) ?_ AllReadyH.nil)
      intro hHeld
      have hs2 := SlRead.one_new (W := W4.drew) (.int .u8 2) 5
      have hm2 := dmac_any (some ⟨C, 0, none⟩) (lst 32 c) 32 (some ⟨W4.drew.heap.size, 0, none⟩) [2#8] 1 (W4.drew.alloc (.cells #[.int .u8 2] 5)) (slread_row hHeld.c) (by simp) (hs2) (by simp)
      rw [lst_length, HFA.out] at hm2
      refine held_call 3 13 #[.tmp 28, .tmp 29] #[33, 33] (some 30) #[.slice (some ⟨C, 0, none⟩) 32 32, .slice (some ⟨W4.drew.heap.size, 0, none⟩) 1 1] _ (by kernel_rfl) (by kernel_rfl) (by kernel_rfl) (by kernel_rfl) (hm2) ?_
      rintro e Y2 ⟨rfl, hbY2⟩
      refine ⟨_, rfl, hHeld.below hbY2, fun hHeld => ?_⟩
      have hs2 := hs2.below hbY2
      refine held_neq 4 31 (.tmp 27) (.tmp 30) 31 (some 31) (arr8 32 FA) (arr8 32 FA) true (by kernel_rfl) (by kernel_rfl) (by kernel_rfl) (by kernel_rfl) (equal32 _) (by kernel_rfl) (by kernel_rfl) (by kernel_rfl) (fun _ _ _ _ _ h => h) hHeld ?_
      refine held_move 5 (.tmp 31) (some 32) (.bool false) (by kernel_rfl) (by kernel_rfl) (by kernel_rfl) (by kernel_rfl) (by kernel_rfl) (fun _ _ _ _ _ h => h) hHeld ?_
      refine held_load 6 23 (.tmp 9) (some 33) (X + 1) 0 (arr8 32 FB).toList _ (by kernel_rfl) (by kernel_rfl) (fun w h => rangeAt_row h.y) Tryd.underlying23 rfl (iK FB) (by kernel_rfl) (by kernel_rfl) (by kernel_rfl) (fun _ _ _ _ _ h => h) hHeld ?_
      refine held_slice 7 23 (.tmp 6) none none none (some 34) (.pointer (some ⟨C, 0, none⟩)) none none none (.slice (some ⟨C, 0, none⟩) 32 32) (by kernel_rfl) (by kernel_rfl) (hslC) (by kernel_rfl) (by kernel_rfl) (by kernel_rfl) (fun _ _ _ _ _ h => h) hHeld ?_
      refine held_ready [8] (by kernel_rfl) (by simp) (rdy_bsl 8 33 5 (.const (.int .u8 1)) (some 35) (.int .u8 1) (by kernel_rfl) (by kernel_rfl) (bsl_u8 _ _) (hHeld.below (alc _ _)) ?_ AllReadyH.nil)
      intro hHeld
      have hs2 := hs2.below (alc Y2 (.cells #[.int .u8 1] 5))
      have hs8 := SlRead.one_new (W := Y2) (.int .u8 1) 5
      have hm8 := dmac_any (some ⟨C, 0, none⟩) (lst 32 c) 32 (some ⟨Y2.heap.size, 0, none⟩) [1#8] 1 (Y2.alloc (.cells #[.int .u8 1] 5)) (slread_row hHeld.c) (by simp) (hs8) (by simp)
      rw [lst_length, HFB.out] at hm8
      refine held_call 9 13 #[.tmp 34, .tmp 35] #[33, 33] (some 36) #[.slice (some ⟨C, 0, none⟩) 32 32, .slice (some ⟨Y2.heap.size, 0, none⟩) 1 1] _ (by kernel_rfl) (by kernel_rfl) (by kernel_rfl) (by kernel_rfl) (hm8) ?_
      rintro e Y4 ⟨rfl, hbY4⟩
      refine ⟨_, rfl, hHeld.below hbY4, fun hHeld => ?_⟩
      have hs2 := hs2.below hbY4
      have hs8 := hs8.below hbY4
      refine held_neq 10 31 (.tmp 33) (.tmp 36) 31 (some 37) (arr8 32 FB) (arr8 32 FB) true (by kernel_rfl) (by kernel_rfl) (by kernel_rfl) (by kernel_rfl) (equal32 _) (by kernel_rfl) (by kernel_rfl) (by kernel_rfl) (fun _ _ _ _ _ h => h) hHeld ?_
      refine held_pick 11 (.tmp 32) (.const (.bool true)) (.tmp 37) (some 38) false (.bool false) (by kernel_rfl) (by kernel_rfl) (by kernel_rfl) (by kernel_rfl) (by kernel_rfl) (by kernel_rfl) (fun _ _ _ _ _ h => h) hHeld ?_
      refine held_move 12 (.tmp 38) (some 39) (.bool false) (by kernel_rfl) (by kernel_rfl) (by kernel_rfl) (by kernel_rfl) (by kernel_rfl) (fun _ _ _ _ _ h => h) hHeld ?_
      refine held_load 13 23 (.tmp 2) (some 40) S0 0 (arr8 32 sd).toList _ (by kernel_rfl) (by kernel_rfl) (fun w h => rangeAt_row h.s) Tryd.underlying23 rfl (iK sd) (by kernel_rfl) (by kernel_rfl) (by kernel_rfl) (fun _ _ _ _ _ h => h) hHeld ?_
      refine held_move 14 (.tmp 7) (some 41) (.int .i64 (k : Int)) (by kernel_rfl) (by kernel_rfl) (by kernel_rfl) (by kernel_rfl) (by kernel_rfl) (fun _ _ _ _ _ h => h) hHeld ?_
      refine held_conv 15 3 24 (.tmp 41) (some 42) (.int .i64 (k : Int)) (.int .u32 (n32 (BitVec.ofNat 32 k))) (by kernel_rfl) (by kernel_rfl) hcv (by kernel_rfl) (by kernel_rfl) (by kernel_rfl) (fun _ _ _ _ _ h => h) hHeld ?_
      refine held_slice 17 23 (.tmp 2) none none none (some 44) (.pointer (some ⟨S0, 0, none⟩)) none none none (.slice (some ⟨S0, 0, none⟩) 32 32) (by kernel_rfl) (by kernel_rfl) (hslS) (by kernel_rfl) (by kernel_rfl) (by kernel_rfl) (fun _ _ _ _ _ h => h) hHeld ?_
      refine held_move 18 (.tmp 7) (some 45) (.int .i64 (k : Int)) (by kernel_rfl) (by kernel_rfl) (by kernel_rfl) (by kernel_rfl) (by kernel_rfl) (fun _ _ _ _ _ h => h) hHeld ?_
      refine held_conv 19 3 5 (.tmp 45) (some 46) (.int .i64 (k : Int)) (.int .u8 (n8 (BitVec.ofNat 8 k))) (by kernel_rfl) (by kernel_rfl) hcw (by kernel_rfl) (by kernel_rfl) (by kernel_rfl) (fun _ _ _ _ _ h => h) hHeld ?_
      have hdr := draw_any sd (BitVec.ofNat 32 k) Y4 hHeld.k
      rw [hds] at hdr
      refine held_ready [16, 20] (by kernel_rfl) (by simp) (rdy_call 16 11 #[.tmp 40, .tmp 42] #[23, 24] (some 43) #[.agg (arr8 32 sd).toList.toArray, .int .u32 (n32 (BitVec.ofNat 32 k))] _ (by kernel_rfl) (by kernel_rfl) (by kernel_rfl) (hdr) ?_ (rdy_bsls 20 33 5 4 #[(0, .tmp 46), (1, .const (.int .u8 0)), (2, .const (.int .u8 0)), (3, .const (.int .u8 0))] (some 47) #[(0, .int .u8 (n8 (BitVec.ofNat 8 k))), (1, .int .u8 0), (2, .int .u8 0), (3, .int .u8 0)] #[.int .u8 (n8 (BitVec.ofNat 8 k)), .int .u8 0, .int .u8 0, .int .u8 0] (by kernel_rfl) (by kernel_rfl) (by kernel_rfl) (hHeld.below (alc _ _)) ?_ AllReadyH.nil))
      · rintro e Y5 ⟨rfl, hbY5⟩
        refine ⟨_, rfl, hHeld.below hbY5, fun hHeld => ?_⟩
        have hs2 := hs2.below hbY5
        have hs8 := hs8.below hbY5
        refine held_ready [20] (by kernel_rfl) (by simp) (rdy_bsls 20 33 5 4 #[(0, .tmp 46), (1, .const (.int .u8 0)), (2, .const (.int .u8 0)), (3, .const (.int .u8 0))] (some 47) #[(0, .int .u8 (n8 (BitVec.ofNat 8 k))), (1, .int .u8 0), (2, .int .u8 0), (3, .int .u8 0)] #[.int .u8 (n8 (BitVec.ofNat 8 k)), .int .u8 0, .int .u8 0, .int .u8 0] (by kernel_rfl) (by kernel_rfl) (by kernel_rfl) (hHeld.below (alc _ _)) ?_ AllReadyH.nil)
        intro hHeld
        have hs2 := hs2.below (alc Y5 (.cells #[.int .u8 (n8 (BitVec.ofNat 8 k)), .int .u8 0, .int .u8 0, .int .u8 0] 5))
        have hs8 := hs8.below (alc Y5 (.cells #[.int .u8 (n8 (BitVec.ofNat 8 k)), .int .u8 0, .int .u8 0, .int .u8 0] 5))
        have hs20 : SlRead (Y5.alloc (.cells #[.int .u8 (n8 (BitVec.ofNat 8 k)), .int .u8 0, .int .u8 0, .int .u8 0] 5)) (some ⟨Y5.heap.size, 0, none⟩) (ints .u8 (bys [BitVec.ofNat 8 k, 0#8, 0#8, 0#8])) := SlRead.four_new _ _ _ _ _
        have hm20 := dmac_any (some ⟨S0, 0, none⟩) (lst 32 sd) 32 (some ⟨Y5.heap.size, 0, none⟩) [BitVec.ofNat 8 k, 0#8, 0#8, 0#8] 4 (Y5.alloc (.cells #[.int .u8 (n8 (BitVec.ofNat 8 k)), .int .u8 0, .int .u8 0, .int .u8 0] 5)) (slread_row hHeld.s) (by simp) hs20 (by simp)
        rw [lst_length] at hm20
        refine held_call 21 13 #[.tmp 44, .tmp 47] #[33, 33] (some 48) #[.slice (some ⟨S0, 0, none⟩) 32 32, .slice (some ⟨Y5.heap.size, 0, none⟩) 4 4] _ (by kernel_rfl) (by kernel_rfl) (by kernel_rfl) (by kernel_rfl) (hm20) ?_
        rintro e Y7 ⟨rfl, hbY7⟩
        refine ⟨_, rfl, hHeld.below hbY7, fun hHeld => ?_⟩
        have hs2 := hs2.below hbY7
        have hs8 := hs8.below hbY7
        have hs20 := hs20.below hbY7
        refine held_neq 22 31 (.tmp 43) (.tmp 48) 31 (some 49) (arr8 32 (macOf (lst 32 sd) [BitVec.ofNat 8 k, 0#8, 0#8, 0#8])) (arr8 32 (macOf (lst 32 sd) [BitVec.ofNat 8 k, 0#8, 0#8, 0#8])) true (by kernel_rfl) (by kernel_rfl) (by kernel_rfl) (by kernel_rfl) (equal32 _) (by kernel_rfl) (by kernel_rfl) (by kernel_rfl) (fun _ _ _ _ _ h => h) hHeld ?_
        refine held_pick 23 (.tmp 39) (.const (.bool true)) (.tmp 49) (some 50) false (.bool false) (by kernel_rfl) (by kernel_rfl) (by kernel_rfl) (by kernel_rfl) (by kernel_rfl) (by kernel_rfl) (fun _ _ _ _ _ h => h) hHeld ?_
        refine wpAnyH_done (by kernel_rfl) ?_ _
        refine NoPanic.normal ?_
        simp only [Act.put, List.setIfInBounds_toArray, List.set_cons_zero, List.set_cons_succ]
        have hhX := rowIs_heap8 hHeld.x
        have hhC := rowIs_heap8 hHeld.c
        have hfs := rowIs_arr (setRow_heap _ _ _ (arr8 32 FA) _ _ hhC) (by simp) (fun i hi => arr8_get 32 FA i hi)
        have hfq := hHeld.s.of_block (setRow_ne _ C (arr8 32 FA) S0 (by omega))
        have hfk := hHeld.k.of_block (setRow_ne _ C (arr8 32 FA) 1 (by have := hkS; omega))
        have hfb := below_setRow (g := C) hHeld.b (by rw [HS0.out]; omega) (arr8 32 FA)
        rw [HS0.out] at hfb
        go_wp2_with (first | (refine wpList_load_row rfl 23 (.tmp 8) rfl X rfl _ _ _ _ hhX Tryd.underlying23 rfl (by kernel_rfl) ?_) | (refine wpList_store_row rfl 23 _ _ rfl C (arr8 32 FA) rfl rfl _ _ hhC (by kernel_rfl) (by simp) (arr8_one _ _) ?_))
        go_roundw
        case rel => exact ⟨k + 1, FA, by omega, by go_num, hfq, hfs, hfk, hfb⟩
        case measure => simp [intOf]; omega
      · intro hHeld
        have hs2 := hs2.below (alc Y4 (.cells #[.int .u8 (n8 (BitVec.ofNat 8 k)), .int .u8 0, .int .u8 0, .int .u8 0] 5))
        have hs8 := hs8.below (alc Y4 (.cells #[.int .u8 (n8 (BitVec.ofNat 8 k)), .int .u8 0, .int .u8 0, .int .u8 0] 5))
        have hs20 : SlRead (Y4.alloc (.cells #[.int .u8 (n8 (BitVec.ofNat 8 k)), .int .u8 0, .int .u8 0, .int .u8 0] 5)) (some ⟨Y4.heap.size, 0, none⟩) (ints .u8 (bys [BitVec.ofNat 8 k, 0#8, 0#8, 0#8])) := SlRead.four_new _ _ _ _ _
        have hdr := draw_any sd (BitVec.ofNat 32 k) (Y4.alloc (.cells #[.int .u8 (n8 (BitVec.ofNat 8 k)), .int .u8 0, .int .u8 0, .int .u8 0] 5)) hHeld.k
        rw [hds] at hdr
        refine held_call 16 11 #[.tmp 40, .tmp 42] #[23, 24] (some 43) #[.agg (arr8 32 sd).toList.toArray, .int .u32 (n32 (BitVec.ofNat 32 k))] _ (by kernel_rfl) (by kernel_rfl) (by kernel_rfl) (by kernel_rfl) (hdr) ?_
        rintro e Y9 ⟨rfl, hbY9⟩
        refine ⟨_, rfl, hHeld.below hbY9, fun hHeld => ?_⟩
        have hs2 := hs2.below hbY9
        have hs8 := hs8.below hbY9
        have hs20 := hs20.below hbY9
        have hm20 := dmac_any (some ⟨S0, 0, none⟩) (lst 32 sd) 32 (some ⟨Y4.heap.size, 0, none⟩) [BitVec.ofNat 8 k, 0#8, 0#8, 0#8] 4 Y9 (slread_row hHeld.s) (by simp) hs20 (by simp)
        rw [lst_length] at hm20
        refine held_call 21 13 #[.tmp 44, .tmp 47] #[33, 33] (some 48) #[.slice (some ⟨S0, 0, none⟩) 32 32, .slice (some ⟨Y4.heap.size, 0, none⟩) 4 4] _ (by kernel_rfl) (by kernel_rfl) (by kernel_rfl) (by kernel_rfl) (hm20) ?_
        rintro e Y10 ⟨rfl, hbY10⟩
        refine ⟨_, rfl, hHeld.below hbY10, fun hHeld => ?_⟩
        have hs2 := hs2.below hbY10
        have hs8 := hs8.below hbY10
        have hs20 := hs20.below hbY10
        refine held_neq 22 31 (.tmp 43) (.tmp 48) 31 (some 49) (arr8 32 (macOf (lst 32 sd) [BitVec.ofNat 8 k, 0#8, 0#8, 0#8])) (arr8 32 (macOf (lst 32 sd) [BitVec.ofNat 8 k, 0#8, 0#8, 0#8])) true (by kernel_rfl) (by kernel_rfl) (by kernel_rfl) (by kernel_rfl) (equal32 _) (by kernel_rfl) (by kernel_rfl) (by kernel_rfl) (fun _ _ _ _ _ h => h) hHeld ?_
        refine held_pick 23 (.tmp 39) (.const (.bool true)) (.tmp 49) (some 50) false (.bool false) (by kernel_rfl) (by kernel_rfl) (by kernel_rfl) (by kernel_rfl) (by kernel_rfl) (by kernel_rfl) (fun _ _ _ _ _ h => h) hHeld ?_
        refine wpAnyH_done (by kernel_rfl) ?_ _
        refine NoPanic.normal ?_
        simp only [Act.put, List.setIfInBounds_toArray, List.set_cons_zero, List.set_cons_succ]
        have hhX := rowIs_heap8 hHeld.x
        have hhC := rowIs_heap8 hHeld.c
        have hfs := rowIs_arr (setRow_heap _ _ _ (arr8 32 FA) _ _ hhC) (by simp) (fun i hi => arr8_get 32 FA i hi)
        have hfq := hHeld.s.of_block (setRow_ne _ C (arr8 32 FA) S0 (by omega))
        have hfk := hHeld.k.of_block (setRow_ne _ C (arr8 32 FA) 1 (by have := hkS; omega))
        have hfb := below_setRow (g := C) hHeld.b (by rw [HS0.out]; omega) (arr8 32 FA)
        rw [HS0.out] at hfb
        go_wp2_with (first | (refine wpList_load_row rfl 23 (.tmp 8) rfl X rfl _ _ _ _ hhX Tryd.underlying23 rfl (by kernel_rfl) ?_) | (refine wpList_store_row rfl 23 _ _ rfl C (arr8 32 FA) rfl rfl _ _ hhC (by kernel_rfl) (by simp) (arr8_one _ _) ?_))
        go_roundw
        case rel => exact ⟨k + 1, FA, by omega, by go_num, hfq, hfs, hfk, hfb⟩
        case measure => simp [intOf]; omega
    · have hdk : decide ((k : Int) < m) = false := by simp; omega
      go_wp2_with fail
      go_ret
      exact ⟨rfl, by rw [HS0.out]; exact hb⟩
end Go.Proofs.YtccchhfcoicgcaaDoor
