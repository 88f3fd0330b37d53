import Derived.Test.YtmkejgpdimdagaaHeld3
namespace Go.Proofs.Ytmkejgpdimdagaa
open Go.RowKit

theorem v32_max : v32 4294967295#32 = .int .u32 4294967295 := rfl
theorem v32_nil : v32 0#32 = .int .u32 0 := rfl
def k8 (n : Nat) (f : Nat → BitVec 8) : List Value := (List.range n).map fun i => v8 (f i)
theorem arr8_k8 (n : Nat) (f : Nat → BitVec 8) : arr8 n f = (k8 n f).toArray := rfl
theorem k8_length (n : Nat) (f : Nat → BitVec 8) : (k8 n f).length = n := by simp [k8]
theorem range_of_row {W : World} {b n : Nat} {t : TypeId} {f : Nat → BitVec 8} (h : W.rowIs b t n (fun i => v8 (f i))) : W.rangeAt b 0 (k8 n f) := by
  intro j v hv
  rw [Nat.zero_add]
  have hj : j < n := by have := (List.getElem?_eq_some_iff.1 hv).1; simpa [k8] using this
  rw [h.cell hj, ← hv]; simp [k8, hj]

set_option maxRecDepth 100000 in
set_option maxHeartbeats 1600000 in
theorem wraps_walk (key non : Nat → BitVec 8) (x : Int) (w : World) :
    Calls Try.prog 6 #[.agg (arr8 32 key), .agg (arr8 12 non), .int .i64 x] w fun e w' => e = .returned (.bool true) ∧ Below w.heap.size w w' := by
  obtain ⟨i0, hi, hz0, hz1, hz2⟩ := info_parts Try.info5
  obtain ⟨N0, hN0, hN1⟩ := exists_mod x 200 (by omega)
  have HN0 := Lib.hid hN0; clear hN0
  go_enter Try.func6, Try.ntmps6
  go_upto_region 1 with (fail)
  refine wp_world (KN w w.heap.size key non) ?_ ?_
  · refine ⟨?_, ?_, ?_⟩
    · exact (rowIs_new _ _ _ _ _ _ (by simp) (by simp) (fun i hi => arr8_get 32 key i hi)).alloc _
    · exact rowIs_new _ _ _ _ _ _ (by simp) (by simp) (fun i hi => arr8_get 12 non i hi)
    · go_grown
  intro W hW
  generalize hB : w.heap.size = B at hW ⊢
  have HB := Lib.hid hB; clear hB
  go_wp2_with fail
  refine (first_any _).mono ?_
  rintro e W1 ⟨rfl, hb1⟩
  have hW1 := hW.below hb1
  clear hW hb1
  go_wp2_with fail
  refine (number_nat _ _ N0 _ (by omega) HN0.out).mono ?_
  rintro e W2 ⟨rfl, m2, rfl⟩
  have hW2 := hW1.below (Below.drewNr m2)
  clear hW1
  go_upto_region 5 with (fail)
  obtain ⟨n, hn⟩ : ∃ n : Nat, n = N0 + 65 := ⟨_, rfl⟩
  have hn2 : (N0 : Int) + 65 = (n : Int) := by omega
  rw [hn2]
  have hn3 : 65 ≤ n ∧ n ≤ 264 := by omega
  clear hn hn2 hN1 HN0
  generalize W1.drewN m2 = W3 at *
  have uK := Try.underlying23
  have uN := Try.underlying25
  have iK : (Try.prog.info? 23).map (·.size) = some (k8 32 key).length := by rw [k8_length]; kernel_rfl
  have iN : (Try.prog.info? 25).map (·.size) = some (k8 12 non).length := by rw [k8_length]; kernel_rfl
  have hxor := xor_any key non 4294967295#32
  have hbm := block_any key non 4294967295#32
  have hb0 := block_any key non 0#32
  have hrb := rblock_any key non 4294967295#32
  have E1 := equal64 (blk key 4294967295#32 non)
  rw [v32_max] at hbm
  rw [v32_max, arr8_k8 32, arr8_k8 12] at hxor hrb
  rw [v32_nil] at hb0
  refine wp_region_noPanic ?_
  refine wp_region_held_drew (S := fun w' => w'.rangeAt B 0 (k8 32 key) ∧ w'.rangeAt (B + 1) 0 (k8 12 non) ∧ KN w B key non w') (by kernel_rfl) ⟨by simpa using range_of_row hW2.k, by simpa using range_of_row hW2.nn, ⟨hW2.k, hW2.nn, hW2.b.drew⟩⟩ (fun hHeld => ?_)
  refine held_load 0 23 (.tmp 3) (some 17) B 0 (k8 32 key) _ (by kernel_rfl) (by kernel_rfl) (fun w h => h.1) uK rfl iK (by kernel_rfl) (by kernel_rfl) (by kernel_rfl) (fun _ _ _ _ _ h => h) hHeld ?_
  refine held_load 1 25 (.tmp 4) (some 18) (B + 1) 0 (k8 12 non) _ (by kernel_rfl) (by kernel_rfl) (fun w h => h.2.1) uN rfl iN (by kernel_rfl) (by kernel_rfl) (by kernel_rfl) (fun _ _ _ _ _ h => h) hHeld ?_
  refine held_move 2 (.tmp 2) (some 19) (.int .i64 n) (by kernel_rfl) (by kernel_rfl) (by kernel_rfl) (by kernel_rfl) (by kernel_rfl) (fun _ _ _ _ _ h => h) hHeld ?_
  refine held_make 3 26 5 (.tmp 19) (.tmp 19) (some 20) n i0 (.int .u8 0) (by kernel_rfl) (by kernel_rfl) Try.underlying26 hi hz0 hz1 rfl (by rw [hz2]; omega) (by omega) (by kernel_rfl) ?_ (fun hHeld => ?_)
  · exact ⟨World.rangeAt_alloc hHeld.1 _, World.rangeAt_alloc hHeld.2.1 _, hHeld.2.2.below ((Below.refl _ _).alloc (Nat.le_refl _) _)⟩
  have hz := rows_read (f := fun _ => 0) (World.rowIs_made W3.drew (.int .u8 0) n 5)
  rw [show (List.range n).map (fun _ => (0 : Int)) = List.replicate n 0 by apply List.ext_getElem <;> simp] at hz
  have hx12 := hxor (some ⟨W3.drew.heap.size, 0, none⟩) (List.replicate n 0) n _ hz (by rw [List.length_replicate]; omega)
  rw [List.length_replicate] at hx12
  refine held_call 4 12 #[.tmp 17, .const (.int .u32 4294967295), .tmp 18, .tmp 20] #[23, 24, 25, 26] (some 21) #[.agg (k8 32 key).toArray, .int .u32 4294967295, .agg (k8 12 non).toArray, .slice (some ⟨W3.drew.heap.size, 0, none⟩) n n] _ (by kernel_rfl) (by kernel_rfl) (by kernel_rfl) (by kernel_rfl) (hx12) ?_
  rintro e W5 ⟨O, rfl, hO, hOs, hb5⟩
  have hW5 := hHeld.2.2.below hb5
  refine ⟨_, rfl, ⟨range_of_row hW5.k, range_of_row hW5.nn, hW5⟩, fun hHeld => ?_⟩
  refine held_assign 5 (.tmp 21) (some 8) (.slice (some ⟨O, 0, none⟩) n n) (by kernel_rfl) (by kernel_rfl) (by kernel_rfl) (by kernel_rfl) (by kernel_rfl) (fun _ _ _ _ _ h => h) hHeld ?_
  refine wpAnyH_done (by kernel_rfl) ?_ _
  refine NoPanic.normal ?_
  clear hHeld hz hx12 hOs hb5
  simp only [Act.put, List.setIfInBounds_toArray, List.set_cons_zero, List.set_cons_succ]
  go_upto_region 8 with (fail)
  have hk := rowIs_heap8 hW5.k
  have hn := rowIs_heap8 hW5.nn
  go_upto_region 9 with (first | (refine wpList_load_row rfl 23 _ rfl _ rfl _ _ _ _ hk Try.underlying23 rfl (by kernel_rfl) ?_) | (refine wpList_load_row rfl 25 _ rfl _ rfl _ _ _ _ hn Try.underlying25 rfl (by kernel_rfl) ?_) | (go_at_call 9; refine (hbm _).mono ?_; rintro e W6 ⟨rfl, hb6⟩) | (refine wpList_store_row rfl 28 _ _ rfl _ _ rfl rfl _ _ (heap_alloc_new _ _) (by kernel_rfl) (by simp) (arr8_one _ _) ?_; rw [alloc_setRow]))
  have hW6 := hW5.below hb6
  have hO6 := hO.of_block (hb6.block _ hO.lt)
  refine wp_world (fun W => KN w B key non W ∧ W.rowIs O 5 n (fun i => .int .u8 (xr key 4294967295#32 non (List.replicate n 0) i)) ∧ W.rowIs W6.heap.size 28 64 (fun i => v8 (blk key 4294967295#32 non i))) ⟨hW6.below ((Below.refl _ _).alloc (Nat.le_refl _) _), hO6.alloc _, rowIs_new _ _ _ _ _ _ rfl (by simp) (fun i hi => arr8_get 64 _ i hi)⟩ ?_
  rintro W7 ⟨hW7, hO7, hX7⟩
  generalize W6.heap.size = gx at hX7 ⊢
  clear hW5 hW6 hO hO6 hb6 hk hn
  have hk := rowIs_heap8 hW7.k
  have hn := rowIs_heap8 hW7.nn
  go_upto_region 10 with (first | (refine wpList_load_row rfl 23 _ rfl _ rfl _ _ _ _ hk Try.underlying23 rfl (by kernel_rfl) ?_) | (refine wpList_load_row rfl 25 _ rfl _ rfl _ _ _ _ hn Try.underlying25 rfl (by kernel_rfl) ?_) | (go_at_call 9; refine (hb0 _).mono ?_; rintro e W6 ⟨rfl, hb6⟩) | (refine wpList_store_row rfl 28 _ _ rfl _ _ rfl rfl _ _ (heap_alloc_new _ _) (by kernel_rfl) (by simp) (arr8_one _ _) ?_; rw [alloc_setRow]))
  have hW6 := hW7.below hb6
  have hO6 := hO7.of_block (hb6.block _ hO7.lt)
  have hX6 := hX7.of_block (hb6.block _ hX7.lt)
  refine wp_world (fun W => KN w B key non W ∧ W.rowIs O 5 n (fun i => .int .u8 (xr key 4294967295#32 non (List.replicate n 0) i)) ∧ W.rowIs gx 28 64 (fun i => v8 (blk key 4294967295#32 non i)) ∧ W.rowIs W6.heap.size 28 64 (fun i => v8 (blk key 0#32 non i))) ⟨hW6.below ((Below.refl _ _).alloc (Nat.le_refl _) _), hO6.alloc _, hX6.alloc _, rowIs_new _ _ _ _ _ _ rfl (by simp) (fun i hi => arr8_get 64 _ i hi)⟩ ?_
  rintro W8 ⟨hW8, hO8, hX8, hY8⟩
  generalize W6.heap.size = gy at hY8 ⊢
  clear hW7 hW6 hO7 hO6 hb6 hk hn hX7 hX6 hbm hb0 hxor
  obtain ⟨m, hm⟩ : ∃ m : Nat, m = min n 128 := ⟨_, rfl⟩
  have hm1 : 65 ≤ m ∧ m ≤ 128 ∧ m ≤ n := by omega
  have hmn : (if (128 : Int) < n then (128 : Int) else n) = (m : Int) := by split <;> omega
  have sO := rows_read hO8
  have sX := rows_read (f := fun i => n8 (blk key 4294967295#32 non i)) hX8
  have sY := rows_read (f := fun i => n8 (blk key 0#32 non i)) hY8
  have b64 : (List.range 64).map (fun i => n8 (blk key 4294967295#32 non i)) = ((List.range n).map (xr key 4294967295#32 non (List.replicate n 0))).take 64 := by
    apply List.ext_getElem
    · simp; omega
    · intro i h1 h2
      simp at h1
      simp only [List.getElem_map, List.getElem_range, List.getElem_take, xr_zero]
      rw [show i / 64 = 0 by omega, show i % 64 = i by omega]
      simp
  have b128 : ((List.range 64).map (fun i => n8 (blk key 0#32 non i))).take (m - 64) = (((List.range n).map (xr key 4294967295#32 non (List.replicate n 0))).drop 64).take (m - 64) := by
    apply List.ext_getElem
    · simp; omega
    · intro i h1 h2
      simp at h1
      simp only [List.getElem_map, List.getElem_range, List.getElem_take, List.getElem_drop, xr_zero]
      rw [show (64 + i) / 64 = 1 by omega, show (64 + i) % 64 = i by omega]
      rfl
  generalize hL : (List.range n).map (xr key 4294967295#32 non (List.replicate n 0)) = L at *
  generalize hX : (List.range 64).map (fun i => n8 (blk key 4294967295#32 non i)) = X at *
  generalize hY : (List.range 64).map (fun i => n8 (blk key 0#32 non i)) = Y at *
  have lL : L.length = n := by rw [← hL]; simp
  have lX : X.length = 64 := by rw [← hX]; simp
  have lY : Y.length = 64 := by rw [← hY]; simp
  have sO1 := SlRead.take sO 64
  have sO2 := SlRead.take (SlRead.cut sO 64 (cutA (some ⟨O, 0, none⟩) 64 n) (fun _ b o e => by cases e; exact cutA_some (by omega) (Nat.le_refl n))) (m - 64)
  have sY1 := SlRead.take sY (m - 64)
  have lO1 : (L.take 64).length = 64 := by rw [List.length_take]; omega
  have lO2 : ((L.drop 64).take (m - 64)).length = m - 64 := by rw [List.length_take, List.length_drop]; omega
  have lY1 : (Y.take (m - 64)).length = m - 64 := by rw [List.length_take]; omega
  have q1 := fun W (hb : Below W8.heap.size W8 W) => sameBytes_any (some ⟨O, 0, none⟩) (some ⟨gx, 0, none⟩) (L.take 64) X n 64 W (sO1.below hb) (sX.below hb) (by omega) (by omega)
  have q2 := fun W (hb : Below W8.heap.size W8 W) => sameBytes_any (cutA (some ⟨O, 0, none⟩) 64 n) (some ⟨gy, 0, none⟩) ((L.drop 64).take (m - 64)) (Y.take (m - 64)) (n - 64) 64 W (sO2.below hb) (sY1.below hb) (by omega) (by omega)
  rw [b64, show ∀ z : List Int, decide (z = z) = true from fun z => by simp, lO1] at q1
  rw [b128, show ∀ z : List Int, decide (z = z) = true from fun z => by simp, lO2] at q2
  have iX : (Try.prog.info? 28).map (·.size) = some (k8 64 (blk key 4294967295#32 non)).length := by rw [k8_length]; kernel_rfl
  have i5 : (Try.prog.info? 5).map (·.size) = some 1 := by kernel_rfl
  have f1 := fun w => sliceAt_h (P := Try.prog) Try.underlying26 i5 (some ⟨O, 0, none⟩) n n 64 (by omega) w
  have f2 := fun w => sliceAt_arr (P := Try.prog) 64 Try.underlying28 i5 gx (by omega) w
  have f3 := fun w => sliceAt_lh (P := Try.prog) Try.underlying26 i5 (some ⟨O, 0, none⟩) n n 64 m (by omega) (by omega) w
  have f4 := fun w => sliceAt_arr_h (P := Try.prog) 64 Try.underlying28 i5 gy (m - 64) (by omega) (by omega) w
  have hsub : ∀ w, (do eqGuard .sub 3 (.tmp 45) (.const (.int .i64 64)) (.int .i64 (m : Int)) (.int .i64 64); binOp .sub 3 (.int .i64 (m : Int)) (.int .i64 64) : Sem Value).run Try.prog w = .ok (.int .i64 ((m - 64 : Nat) : Int)) w := by
    intro w
    have h1 : IntKind.i64.wrap ((m : Int) - 64) = ((m - 64 : Nat) : Int) := by rw [IntWalk.i64_in _ (by omega)]; omega
    simp [eqGuard, binOp, Op.intArith, h1]
  rw [arr8_k8 64] at E1 hrb
  have hX8' := range_of_row hX8
  have rK := range_of_row hW8.k
  have rN := range_of_row hW8.nn
  have lx := hX8.lt
  have lk := hW8.k.lt
  have ln := hW8.nn.lt
  have hfinb := hW8.b
  clear hX hY hL sO sX sY sO1 sO2 sY1 hO8 hX8 hY8 hW8 b64 b128
  generalize hZ : (k8 64 (blk key 4294967295#32 non)) = Z at *
  generalize k8 32 key = K at *
  generalize k8 12 non = N at *
  generalize hB1 : B + 1 = B1 at *
  have HB1 := Lib.hid hB1; clear hB1 hZ
  have keep : ∀ {W W' : World}, (W.rangeAt B 0 K ∧ W.rangeAt B1 0 N ∧ W.rangeAt gx 0 Z ∧ Below W8.heap.size W8 W) → Below W.heap.size W W' → (W'.rangeAt B 0 K ∧ W'.rangeAt B1 0 N ∧ W'.rangeAt gx 0 Z ∧ Below W8.heap.size W8 W') := fun h hb =>
    ⟨fun j v hv => by rw [World.cell?_of_block (hb.block B (Nat.lt_of_lt_of_le lk h.2.2.2.size))]; exact h.1 j v hv, fun j v hv => by rw [World.cell?_of_block (hb.block B1 (Nat.lt_of_lt_of_le ln h.2.2.2.size))]; exact h.2.1 j v hv, fun j v hv => by rw [World.cell?_of_block (hb.block gx (Nat.lt_of_lt_of_le lx h.2.2.2.size))]; exact h.2.2.1 j v hv, h.2.2.2.trans (hb.mono h.2.2.2.size)⟩
  refine wp_region_noPanic ?_
  refine wp_region_held_drew (S := fun w' => w'.rangeAt B 0 K ∧ w'.rangeAt B1 0 N ∧ w'.rangeAt gx 0 Z ∧ Below W8.heap.size W8 w') (by kernel_rfl) ⟨by simpa using rK, by simpa using rN, by simpa using hX8', (Below.refl _ W8).drew⟩ (fun hHeld => ?_)
  refine held_move 0 (.tmp 7) (some 32) (.bool true) (by kernel_rfl) (by kernel_rfl) (by kernel_rfl) (by kernel_rfl) (by kernel_rfl) (fun _ _ _ _ _ h => h) hHeld ?_
  refine held_move 1 (.tmp 32) (some 33) (.bool true) (by kernel_rfl) (by kernel_rfl) (by kernel_rfl) (by kernel_rfl) (by kernel_rfl) (fun _ _ _ _ _ h => h) hHeld ?_
  refine held_move 2 (.tmp 8) (some 34) (.slice (some ⟨O, 0, none⟩) n n) (by kernel_rfl) (by kernel_rfl) (by kernel_rfl) (by kernel_rfl) (by kernel_rfl) (fun _ _ _ _ _ h => h) hHeld ?_
  refine held_slice 3 26 (.tmp 34) none (some (.const (.int .i64 64))) none (some 35) (.slice (some ⟨O, 0, none⟩) n n) none (some (.int .i64 64)) none (.slice (some ⟨O, 0, none⟩) 64 n) (by kernel_rfl) (by kernel_rfl) (f1) (by kernel_rfl) (by kernel_rfl) (by kernel_rfl) (fun _ _ _ _ _ h => h) hHeld ?_
  refine held_slice 4 28 (.tmp 9) none none none (some 36) (.pointer (some ⟨gx, 0, none⟩)) none none none (.slice (some ⟨gx, 0, none⟩) 64 64) (by kernel_rfl) (by kernel_rfl) (f2) (by kernel_rfl) (by kernel_rfl) (by kernel_rfl) (fun _ _ _ _ _ h => h) hHeld ?_
  refine held_call 5 11 #[.tmp 35, .tmp 36] #[26, 26] (some 37) #[.slice (some ⟨O, 0, none⟩) 64 n, .slice (some ⟨gx, 0, none⟩) 64 64] _ (by kernel_rfl) (by kernel_rfl) (by kernel_rfl) (by kernel_rfl) (q1 _ hHeld.2.2.2) ?_
  rintro e W9 ⟨rfl, m9, rfl⟩
  refine ⟨_, rfl, keep hHeld (Below.drewNr m9), fun hHeld => ?_⟩
  refine held_pick 6 (.tmp 33) (.tmp 37) (.const (.bool false)) (some 38) true (.bool true) (by kernel_rfl) (by kernel_rfl) (by kernel_rfl) (by kernel_rfl) (by kernel_rfl) (by kernel_rfl) (fun _ _ _ _ _ h => h) hHeld ?_
  refine held_move 7 (.tmp 38) (some 39) (.bool true) (by kernel_rfl) (by kernel_rfl) (by kernel_rfl) (by kernel_rfl) (by kernel_rfl) (fun _ _ _ _ _ h => h) hHeld ?_
  refine held_move 8 (.tmp 8) (some 40) (.slice (some ⟨O, 0, none⟩) n n) (by kernel_rfl) (by kernel_rfl) (by kernel_rfl) (by kernel_rfl) (by kernel_rfl) (fun _ _ _ _ _ h => h) hHeld ?_
  refine held_move 9 (.tmp 2) (some 41) (.int .i64 n) (by kernel_rfl) (by kernel_rfl) (by kernel_rfl) (by kernel_rfl) (by kernel_rfl) (fun _ _ _ _ _ h => h) hHeld ?_
  refine held_min 10 (.tmp 41) (.const (.int .i64 128)) #[3, 3] (some 42) (n) 128 (m) (by kernel_rfl) (by kernel_rfl) (hmn) (by kernel_rfl) (by kernel_rfl) (by kernel_rfl) (fun _ _ _ _ _ h => h) hHeld ?_
  refine held_slice 11 26 (.tmp 40) (some (.const (.int .i64 64))) (some (.tmp 42)) none (some 43) (.slice (some ⟨O, 0, none⟩) n n) (some (.int .i64 64)) (some (.int .i64 m)) none (.slice (cutA (some ⟨O, 0, none⟩) 64 n) (m - 64) (n - 64)) (by kernel_rfl) (by kernel_rfl) (f3) (by kernel_rfl) (by kernel_rfl) (by kernel_rfl) (fun _ _ _ _ _ h => h) hHeld ?_
  refine held_move 12 (.tmp 2) (some 44) (.int .i64 n) (by kernel_rfl) (by kernel_rfl) (by kernel_rfl) (by kernel_rfl) (by kernel_rfl) (fun _ _ _ _ _ h => h) hHeld ?_
  refine held_min 13 (.tmp 44) (.const (.int .i64 128)) #[3, 3] (some 45) (n) 128 (m) (by kernel_rfl) (by kernel_rfl) (hmn) (by kernel_rfl) (by kernel_rfl) (by kernel_rfl) (fun _ _ _ _ _ h => h) hHeld ?_
  refine held_bin 14 .sub 3 (.tmp 45) (.const (.int .i64 64)) 3 (some 46) (.int .i64 m) (.int .i64 64) (.int .i64 ((m - 64 : Nat) : Int)) (by kernel_rfl) (by kernel_rfl) (hsub) (by kernel_rfl) (by kernel_rfl) (by kernel_rfl) (fun _ _ _ _ _ h => h) hHeld ?_
  refine held_slice 15 28 (.tmp 10) none (some (.tmp 46)) none (some 47) (.pointer (some ⟨gy, 0, none⟩)) none (some (.int .i64 ((m - 64 : Nat) : Int))) none (.slice (some ⟨gy, 0, none⟩) (m - 64) 64) (by kernel_rfl) (by kernel_rfl) (f4) (by kernel_rfl) (by kernel_rfl) (by kernel_rfl) (fun _ _ _ _ _ h => h) hHeld ?_
  refine held_call 16 11 #[.tmp 43, .tmp 47] #[26, 26] (some 48) #[.slice (cutA (some ⟨O, 0, none⟩) 64 n) (m - 64) (n - 64), .slice (some ⟨gy, 0, none⟩) (m - 64) 64] _ (by kernel_rfl) (by kernel_rfl) (by kernel_rfl) (by kernel_rfl) (q2 _ hHeld.2.2.2) ?_
  rintro e W10 ⟨rfl, m10, rfl⟩
  refine ⟨_, rfl, keep hHeld (Below.drewNr m10), fun hHeld => ?_⟩
  refine held_pick 17 (.tmp 39) (.tmp 48) (.const (.bool false)) (some 49) true (.bool true) (by kernel_rfl) (by kernel_rfl) (by kernel_rfl) (by kernel_rfl) (by kernel_rfl) (by kernel_rfl) (fun _ _ _ _ _ h => h) hHeld ?_
  refine held_move 18 (.tmp 49) (some 50) (.bool true) (by kernel_rfl) (by kernel_rfl) (by kernel_rfl) (by kernel_rfl) (by kernel_rfl) (fun _ _ _ _ _ h => h) hHeld ?_
  refine held_load 19 28 (.tmp 9) (some 51) gx 0 Z _ (by kernel_rfl) (by kernel_rfl) (fun w h => h.2.2.1) Try.underlying28 rfl iX (by kernel_rfl) (by kernel_rfl) (by kernel_rfl) (fun _ _ _ _ _ h => h) hHeld ?_
  refine held_load 20 23 (.tmp 3) (some 52) B 0 K _ (by kernel_rfl) (by kernel_rfl) (fun w h => h.1) uK rfl iK (by kernel_rfl) (by kernel_rfl) (by kernel_rfl) (fun _ _ _ _ _ h => h) hHeld ?_
  refine held_load 21 25 (.tmp 4) (some 53) B1 0 N _ (by kernel_rfl) (by kernel_rfl) (fun w h => h.2.1) uN rfl iN (by kernel_rfl) (by kernel_rfl) (by kernel_rfl) (fun _ _ _ _ _ h => h) hHeld ?_
  refine held_call 22 10 #[.tmp 52, .const (.int .u32 4294967295), .tmp 53] #[23, 24, 25] (some 54) #[.agg K.toArray, .int .u32 4294967295, .agg N.toArray] _ (by kernel_rfl) (by kernel_rfl) (by kernel_rfl) (by kernel_rfl) (hrb _) ?_
  rintro e W11 ⟨rfl, hb11⟩
  refine ⟨_, rfl, keep hHeld hb11, fun hHeld => ?_⟩
  refine held_eql 23 28 (.tmp 51) (.tmp 54) 28 (some 55) Z.toArray Z.toArray true (by kernel_rfl) (by kernel_rfl) (by kernel_rfl) (by kernel_rfl) E1 (by kernel_rfl) (by kernel_rfl) (by kernel_rfl) (fun _ _ _ _ _ h => h) hHeld ?_
  refine held_pick 24 (.tmp 50) (.tmp 55) (.const (.bool false)) (some 56) true (.bool true) (by kernel_rfl) (by kernel_rfl) (by kernel_rfl) (by kernel_rfl) (by kernel_rfl) (by kernel_rfl) (fun _ _ _ _ _ h => h) hHeld ?_
  refine held_assign 25 (.tmp 56) (some 6) (.bool true) (by kernel_rfl) (by kernel_rfl) (by kernel_rfl) (by kernel_rfl) (by kernel_rfl) (fun _ _ _ _ _ h => h) hHeld ?_
  refine wpAnyH_done (by kernel_rfl) ?_ _
  refine NoPanic.normal ?_
  have hfin := hfinb.trans (hHeld.2.2.2.mono (by have h := hfinb.size; rw [HB.out] at h; exact h))
  clear hHeld keep q1 q2 f1 f2 f3 f4 hsub hrb E1 hb11 rK rN hX8'
  simp only [Act.put, List.setIfInBounds_toArray, List.set_cons_zero, List.set_cons_succ]
  go_wp2_with fail
  go_ret
  exact ⟨rfl, by rw [HB.out]; exact hfin⟩
end Go.Proofs.Ytmkejgpdimdagaa
