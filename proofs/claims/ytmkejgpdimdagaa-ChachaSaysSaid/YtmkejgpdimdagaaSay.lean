import Derived.Test.YtmkejgpdimdagaaHeld
namespace Go.Proofs.Ytmkejgpdimdagaa
open Go.RowKit

set_option maxRecDepth 100000 in
set_option maxHeartbeats 1600000 in
theorem says_walk (key non : Nat → BitVec 8) (ct : BitVec 32) (A : Option Addr) (xs : List Int) (cap : Nat) (w : World) (hA : SlRead w A (ints .u8 xs)) (hmax : xs.length ≤ 9223372036854775807) :
    Calls Try.prog 3 #[.agg (arr8 32 key), v32 ct, .agg (arr8 12 non), .slice A xs.length cap] w fun e w' => e = .returned (.bool true) ∧ Below w.heap.size w w' := by
  go_enter Try.func3, Try.ntmps3
  go_upto_region 1 with (fail)
  refine wp_world (KN w w.heap.size key non) ?_ ?_
  · refine ⟨?_, ?_, ?_⟩
    · exact (rowIs_new _ _ _ _ _ _ (by simp) (by simp) (fun i hi => arr8_get 32 key i hi)).alloc _
    · exact rowIs_new _ _ _ _ _ _ (by simp) (by simp) (fun i hi => arr8_get 12 non i hi)
    · go_grown
  intro W hW
  generalize hB : w.heap.size = B at hW ⊢
  have HB := Lib.hid hB; clear hB
  go_wp2_with fail
  refine (first_any _).mono ?_
  rintro e W1 ⟨rfl, hb1⟩
  have hW1 := hW.below hb1
  clear hW hb1
  by_cases hbig : 300 < xs.length
  · have hfin := hW1.b
    go_wp2_with fail
    go_ret
    exact ⟨rfl, by rw [HB.out]; exact hfin⟩
  go_upto_region 6 with (fail)
  obtain ⟨K, hK⟩ : ∃ K : List Value, K = (List.range 32).map fun i => v8 (key i) := ⟨_, rfl⟩
  obtain ⟨N, hN⟩ : ∃ N : List Value, N = (List.range 12).map fun i => v8 (non i) := ⟨_, rfl⟩
  have eK : arr8 32 key = K.toArray := by rw [hK]; rfl
  have eN : arr8 12 non = N.toArray := by rw [hN]; rfl
  have rK : W1.rangeAt B 0 K := by
    intro j v hv
    rw [Nat.zero_add]
    have hj : j < 32 := by have := (List.getElem?_eq_some_iff.1 hv).1; simpa [hK] using this
    rw [hW1.k.cell hj, ← hv]; simp [hK, hj]
  have rN : W1.rangeAt (B + 1) 0 N := by
    intro j v hv
    rw [Nat.zero_add]
    have hj : j < 12 := by have := (List.getElem?_eq_some_iff.1 hv).1; simpa [hN] using this
    rw [hW1.nn.cell hj, ← hv]; simp [hN, hj]
  have lK : K.length = 32 := by simp [hK]
  have lN : N.length = 12 := by simp [hN]
  have uK := Try.underlying23
  have uN := Try.underlying25
  have iK : (Try.prog.info? 23).map (·.size) = some K.length := by rw [lK]; kernel_rfl
  have iN : (Try.prog.info? 25).map (·.size) = some N.length := by rw [lN]; kernel_rfl
  have hblk := fun W => block_any key non ct W
  have hrblk := fun W => rblock_any key non ct W
  have hxor := fun W (h : Below W1.heap.size W1 W) => xor_any key non ct A xs cap W (((hA.below (by rw [HB.out]; exact hW1.b)).below h)) (by omega)
  have hrxor := fun W (h : Below W1.heap.size W1 W) => rxor_any key non ct A xs cap W (((hA.below (by rw [HB.out]; exact hW1.b)).below h)) (by omega)
  rw [eK, eN] at *
  have E1 := equal64 (blk key ct non)
  generalize hZ : arr8 64 (blk key ct non) = Z at *
  have lB := hW1.nn.lt
  have lB0 := hW1.k.lt
  have hB2 := hW1.b
  clear hW1
  clear hZ hK hN eK eN
  generalize hB1 : B + 1 = B1 at *
  have HB1 := Lib.hid hB1; clear hB1
  have keep : ∀ {W W' : World}, (W.rangeAt B 0 K ∧ W.rangeAt B1 0 N ∧ Below W1.heap.size W1 W) → Below W.heap.size W W' → (W'.rangeAt B 0 K ∧ W'.rangeAt B1 0 N ∧ Below W1.heap.size W1 W') := fun h hb =>
    ⟨fun j v hv => by rw [World.cell?_of_block (hb.block B (Nat.lt_of_lt_of_le lB0 h.2.2.size))]; exact h.1 j v hv, fun j v hv => by rw [World.cell?_of_block (hb.block B1 (Nat.lt_of_lt_of_le lB h.2.2.size))]; exact h.2.1 j v hv, h.2.2.trans (hb.mono h.2.2.size)⟩
  refine wp_region_noPanic ?_
  refine wp_region_held_drew (S := fun w' => w'.rangeAt B 0 K ∧ w'.rangeAt B1 0 N ∧ Below W1.heap.size W1 w') (by kernel_rfl) ⟨by simpa using rK, by simpa using rN, (Below.refl _ W1).drew⟩ (fun hHeld => ?_)
  refine held_move 0 (.tmp 9) (some 17) (.bool true) (by kernel_rfl) (by kernel_rfl) (by kernel_rfl) (by kernel_rfl) (by kernel_rfl) (fun _ _ _ _ _ h => h) hHeld ?_
  refine held_move 1 (.tmp 17) (some 18) (.bool true) (by kernel_rfl) (by kernel_rfl) (by kernel_rfl) (by kernel_rfl) (by kernel_rfl) (fun _ _ _ _ _ h => h) hHeld ?_
  refine held_load 2 23 (.tmp 4) (some 19) B 0 K _ (by kernel_rfl) (by kernel_rfl) (fun w h => h.1) uK rfl iK (by kernel_rfl) (by kernel_rfl) (by kernel_rfl) (fun _ _ _ _ _ h => h) hHeld ?_
  refine held_move 3 (.tmp 1) (some 20) (v32 ct) (by kernel_rfl) (by kernel_rfl) (by kernel_rfl) (by kernel_rfl) (by kernel_rfl) (fun _ _ _ _ _ h => h) hHeld ?_
  refine held_load 4 25 (.tmp 6) (some 21) B1 0 N _ (by kernel_rfl) (by kernel_rfl) (fun w h => h.2.1) uN rfl iN (by kernel_rfl) (by kernel_rfl) (by kernel_rfl) (fun _ _ _ _ _ h => h) hHeld ?_
  refine held_load 6 23 (.tmp 4) (some 23) B 0 K _ (by kernel_rfl) (by kernel_rfl) (fun w h => h.1) uK rfl iK (by kernel_rfl) (by kernel_rfl) (by kernel_rfl) (fun _ _ _ _ _ h => h) hHeld ?_
  refine held_move 7 (.tmp 1) (some 24) (v32 ct) (by kernel_rfl) (by kernel_rfl) (by kernel_rfl) (by kernel_rfl) (by kernel_rfl) (fun _ _ _ _ _ h => h) hHeld ?_
  refine held_load 8 25 (.tmp 6) (some 25) B1 0 N _ (by kernel_rfl) (by kernel_rfl) (fun w h => h.2.1) uN rfl iN (by kernel_rfl) (by kernel_rfl) (by kernel_rfl) (fun _ _ _ _ _ h => h) hHeld ?_
  refine held_call 5 9 #[.tmp 19, .tmp 20, .tmp 21] #[23, 24, 25] (some 22) #[.agg K.toArray, v32 ct, .agg N.toArray] _ (by kernel_rfl) (by kernel_rfl) (by kernel_rfl) (by kernel_rfl) (hblk _) ?_
  rintro e W2 ⟨rfl, hb2⟩
  refine ⟨_, rfl, keep hHeld hb2, fun hHeld => ?_⟩
  refine held_call 9 10 #[.tmp 23, .tmp 24, .tmp 25] #[23, 24, 25] (some 26) #[.agg K.toArray, v32 ct, .agg N.toArray] _ (by kernel_rfl) (by kernel_rfl) (by kernel_rfl) (by kernel_rfl) (hrblk _) ?_
  rintro e W3 ⟨rfl, hb3⟩
  refine ⟨_, rfl, keep hHeld hb3, fun hHeld => ?_⟩
  refine held_eql 10 28 (.tmp 22) (.tmp 26) 28 (some 27) Z Z true (by kernel_rfl) (by kernel_rfl) (by kernel_rfl) (by kernel_rfl) E1 (by kernel_rfl) (by kernel_rfl) (by kernel_rfl) (fun _ _ _ _ _ h => h) hHeld ?_
  refine held_pick 11 (.tmp 18) (.tmp 27) (.const (.bool false)) (some 28) true (.bool true) (by kernel_rfl) (by kernel_rfl) (by kernel_rfl) (by kernel_rfl) (by kernel_rfl) (by kernel_rfl) (fun _ _ _ _ _ h => h) hHeld ?_
  refine held_move 12 (.tmp 28) (some 29) (.bool true) (by kernel_rfl) (by kernel_rfl) (by kernel_rfl) (by kernel_rfl) (by kernel_rfl) (fun _ _ _ _ _ h => h) hHeld ?_
  refine held_load 13 23 (.tmp 4) (some 30) B 0 K _ (by kernel_rfl) (by kernel_rfl) (fun w h => h.1) uK rfl iK (by kernel_rfl) (by kernel_rfl) (by kernel_rfl) (fun _ _ _ _ _ h => h) hHeld ?_
  refine held_move 14 (.tmp 1) (some 31) (v32 ct) (by kernel_rfl) (by kernel_rfl) (by kernel_rfl) (by kernel_rfl) (by kernel_rfl) (fun _ _ _ _ _ h => h) hHeld ?_
  refine held_load 15 25 (.tmp 6) (some 32) B1 0 N _ (by kernel_rfl) (by kernel_rfl) (fun w h => h.2.1) uN rfl iN (by kernel_rfl) (by kernel_rfl) (by kernel_rfl) (fun _ _ _ _ _ h => h) hHeld ?_
  refine held_move 16 (.tmp 3) (some 33) (.slice A xs.length cap) (by kernel_rfl) (by kernel_rfl) (by kernel_rfl) (by kernel_rfl) (by kernel_rfl) (fun _ _ _ _ _ h => h) hHeld ?_
  refine held_load 18 23 (.tmp 4) (some 35) B 0 K _ (by kernel_rfl) (by kernel_rfl) (fun w h => h.1) uK rfl iK (by kernel_rfl) (by kernel_rfl) (by kernel_rfl) (fun _ _ _ _ _ h => h) hHeld ?_
  refine held_move 19 (.tmp 1) (some 36) (v32 ct) (by kernel_rfl) (by kernel_rfl) (by kernel_rfl) (by kernel_rfl) (by kernel_rfl) (fun _ _ _ _ _ h => h) hHeld ?_
  refine held_load 20 25 (.tmp 6) (some 37) B1 0 N _ (by kernel_rfl) (by kernel_rfl) (fun w h => h.2.1) uN rfl iN (by kernel_rfl) (by kernel_rfl) (by kernel_rfl) (fun _ _ _ _ _ h => h) hHeld ?_
  refine held_move 21 (.tmp 3) (some 38) (.slice A xs.length cap) (by kernel_rfl) (by kernel_rfl) (by kernel_rfl) (by kernel_rfl) (by kernel_rfl) (fun _ _ _ _ _ h => h) hHeld ?_
  refine held_call 17 12 #[.tmp 30, .tmp 31, .tmp 32, .tmp 33] #[23, 24, 25, 26] (some 34) #[.agg K.toArray, v32 ct, .agg N.toArray, .slice A xs.length cap] _ (by kernel_rfl) (by kernel_rfl) (by kernel_rfl) (by kernel_rfl) (hxor _ hHeld.2.2) ?_
  rintro e W4 ⟨O, rfl, hO, hOs, hb4⟩
  refine ⟨_, rfl, keep hHeld hb4, fun hHeld => ?_⟩
  refine held_call 22 13 #[.tmp 35, .tmp 36, .tmp 37, .tmp 38] #[23, 24, 25, 26] (some 39) #[.agg K.toArray, v32 ct, .agg N.toArray, .slice A xs.length cap] _ (by kernel_rfl) (by kernel_rfl) (by kernel_rfl) (by kernel_rfl) (hrxor _ hHeld.2.2) ?_
  rintro e W5 ⟨v, rfl, hown, hb5⟩
  refine ⟨_, rfl, keep hHeld hb5, fun hHeld => ?_⟩
  obtain ⟨gA, cap2, hv⟩ : ∃ gA cap2, v = .slice gA xs.length cap2 := by
    rcases hown.2 with ⟨h1, h2⟩ | ⟨g, c, _, h1, _⟩
    · exact ⟨none, 0, by rw [h1, h2]⟩
    · exact ⟨_, _, h1⟩
  subst hv
  have hs1 := (rows_read hO).below hb5
  have hs2 := SlRead.of_own hown
  have hsame := sameBytes_any (some ⟨O, 0, none⟩) gA (xrs key ct non xs) (xrs key ct non xs) xs.length cap2 W5 hs1 hs2 (by rw [xrs_length]; omega) (by rw [xrs_length]; omega)
  rw [show ∀ z : List Int, decide (z = z) = true from fun z => by simp, xrs_length] at hsame
  refine held_call 23 11 #[.tmp 34, .tmp 39] #[26, 26] (some 40) #[.slice (some ⟨O, 0, none⟩) xs.length xs.length, .slice gA xs.length cap2] _ (by kernel_rfl) (by kernel_rfl) (by kernel_rfl) (by kernel_rfl) (hsame) ?_
  rintro e W6 ⟨rfl, m6, rfl⟩
  refine ⟨_, rfl, keep hHeld (Below.drewNr m6), fun hHeld => ?_⟩
  refine held_pick 24 (.tmp 29) (.tmp 40) (.const (.bool false)) (some 41) true (.bool true) (by kernel_rfl) (by kernel_rfl) (by kernel_rfl) (by kernel_rfl) (by kernel_rfl) (by kernel_rfl) (fun _ _ _ _ _ h => h) hHeld ?_
  refine held_assign 25 (.tmp 41) (some 8) (.bool true) (by kernel_rfl) (by kernel_rfl) (by kernel_rfl) (by kernel_rfl) (by kernel_rfl) (fun _ _ _ _ _ h => h) hHeld ?_
  refine wpAnyH_done (by kernel_rfl) ?_ _
  refine NoPanic.normal ?_
  have hfin := hB2.trans (hHeld.2.2.mono (by have h := hB2.size; rw [HB.out] at h; exact h))
  clear hHeld hs1 hs2 hsame hown hO hb2 hb3 hb4 hb5 keep hblk hrblk hxor hrxor rK rN
  simp only [Act.put, List.setIfInBounds_toArray, List.set_cons_zero, List.set_cons_succ]
  go_wp2_with fail
  go_ret
  exact ⟨rfl, by rw [HB.out]; exact hfin⟩
end Go.Proofs.Ytmkejgpdimdagaa
