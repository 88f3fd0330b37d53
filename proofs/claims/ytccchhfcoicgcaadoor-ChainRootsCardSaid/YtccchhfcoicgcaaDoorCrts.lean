import Derived.Test.YtccchhfcoicgcaaDoorCsy
import Derived.Test.YtccchhfcoicgcaaDoorIdx
namespace Go.Proofs.YtccchhfcoicgcaaDoor
open Go.RowKit

structure RtAt (S0 X4 : Nat) (w0 : World) (O : Option Addr) (K : List (BitVec 8)) (FA FB : Nat → BitVec 8) (w : World) : Prop where
  b : Below S0 w0 w
  x : w.rowIs X4 23 32 (fun i => v8 (FA i))
  y : w.rowIs (X4 + 1) 23 32 (fun i => v8 (FB i))
  o : SlRead w O (ints .u8 (bys K))
theorem RtAt.below {S0 X4 : Nat} {w0 : World} {O : Option Addr} {K : List (BitVec 8)} {FA FB : Nat → BitVec 8} {w w' : World} (h : RtAt S0 X4 w0 O K FA FB w) (hS : S0 ≤ X4) (hb : Below w.heap.size w w') : RtAt S0 X4 w0 O K FA FB w' :=
  ⟨h.b.trans (hb.mono (by have := h.x.lt; omega)), h.x.of_block (hb.block _ h.x.lt), h.y.of_block (hb.block _ h.y.lt), h.o.below hb⟩

set_option maxRecDepth 100000 in
set_option maxHeartbeats 1600000 in
theorem roots_walk (r s : Nat → BitVec 8) (w : World) (hk : KAt w) :
    Calls Tryd.prog 5 #[.agg (arr8 32 r), .agg (arr8 32 s)] w fun e w' => e = .returned (.bool true) ∧ Below w.heap.size w w' := by
  have alc : ∀ (W : World) (o : Obj), Below W.heap.size W (W.alloc o) := fun W o => (Below.refl _ _).alloc (Nat.le_refl _) _
  go_enter Tryd.func5, Tryd.ntmps5
  go_upto_region 1 with (fail)
  refine wp_world (fun W => Below w.heap.size w W ∧ W.rowIs w.heap.size 23 32 (fun i => v8 (r i)) ∧ W.rowIs (w.heap.size + 1) 23 32 (fun i => v8 (s i))) ?_ ?_
  · refine ⟨by go_grown, ?_, ?_⟩
    · exact (rowIs_new w (arr8 32 r) 23 w.heap.size 32 _ rfl (by simp) (fun i hi => arr8_get 32 r i hi)).alloc _
    · exact rowIs_new (w.alloc _) (arr8 32 s) 23 (w.heap.size + 1) 32 _ (by simp) (by simp) (fun i hi => arr8_get 32 s i hi)
  rintro W0 ⟨hb0, hr0, hs0⟩
  have hk0 := hk.below hb0
  clear hk
  generalize hS0 : w.heap.size = S0 at *
  have HS0 := Lib.hid hS0; clear hS0
  go_wp2_with fail
  refine (first_any W0 hk0).mono ?_
  rintro e W1 ⟨rfl, hb1⟩
  have hr1 := hr0.of_block (hb1.block _ hr0.lt)
  have hs1 := hs0.of_block (hb1.block _ hs0.lt)
  have hk1 := hk0.below hb1
  have hB1 : Below S0 w W1 := hb0.trans (hb1.mono (by have := hr0.lt; omega))
  clear hr0 hs0 hk0 hb0 hb1
  go_wp2_with (first | (refine wpList_load_row rfl 23 (.tmp 2) rfl S0 rfl _ _ _ _ (rowIs_heap8 hr1) Tryd.underlying23 rfl (by kernel_rfl) ?_) | (refine wpList_load_row rfl 23 (.tmp 3) rfl (S0 + 1) rfl _ _ _ _ (rowIs_heap8 hs1) Tryd.underlying23 rfl (by kernel_rfl) ?_))
  refine (root_any r s W1 hk1).mono ?_
  rintro e W2 ⟨rfl, hb2⟩
  have hr2 := hr1.of_block (hb2.block _ hr1.lt)
  have hs2 := hs1.of_block (hb2.block _ hs1.lt)
  have hB2 : Below S0 w W2 := hB1.trans (hb2.mono (by have := hr1.lt; omega))
  clear hr1 hs1 hk1 hB1 hb2
  have hrk : rootK r s = hkdf (lst 32 r) (lst 32 s) rootI 64 := rfl
  have hra : ∀ i, rootA r s i = (rootK r s).getD i 0#8 := fun _ => rfl
  have hrb : ∀ i, rootB r s i = (rootK r s).getD (32 + i) 0#8 := fun _ => rfl
  have hrl : (rootK r s).length = 64 := hkdf_len _ _ _ _
  have HRA := Lib.hid hra; have HRB := Lib.hid hrb; have HRK := Lib.hid hrk; have HL := Lib.hid hrl
  clear hra hrb hrk hrl
  generalize rootK r s = K at *
  generalize rootA r s = FA at *
  generalize rootB r s = FB at *

  have hA1 : ∀ z z', ((W2.alloc z).alloc z').heap[W2.heap.size]? = some z := fun z z' => (heap_alloc_old _ _ (by simp)).trans (heap_alloc_new _ _)
  have hA2 : ∀ z z', ((W2.alloc z).alloc z').heap[W2.heap.size + 1]? = some z' := fun z z' => by
    have := heap_alloc_new (W2.alloc z) z'
    rwa [show (W2.alloc z).heap.size = W2.heap.size + 1 by simp] at this
  have hS2 : (((W2.alloc (.cells (Array.replicate 32 (.int .u8 0)) 23)).alloc (.cells (Array.replicate 32 (.int .u8 0)) 23)).setRow W2.heap.size (arr8 32 FA)).heap[W2.heap.size + 1]? = some (.cells (Array.replicate 32 (.int .u8 0)) 23 (0, 0)) := (setRow_ne _ W2.heap.size _ (W2.heap.size + 1) (by omega)).trans (hA2 _ _)
  go_upto_region 5 with (first | (refine wpList_alloc_z rfl 23 rfl (Array.replicate 32 (.int .u8 0)) (fun _ => by kernel_rfl) ?_; try rw [show (W2.alloc (.cells (Array.replicate 32 (.int .u8 0)) 23)).heap.size = W2.heap.size + 1 by simp]) | (refine wpList_store_row rfl 23 (.tmp 6) (.tmp 18) rfl W2.heap.size (arr8 32 FA) rfl rfl _ _ (hA1 _ _) (by kernel_rfl) (by simp) (arr8_one _ _) ?_) | (refine wpList_store_row rfl 23 (.tmp 7) (.tmp 19) rfl (W2.heap.size + 1) (arr8 32 FB) rfl rfl _ _ hS2 (by kernel_rfl) (by simp) (arr8_one _ _) ?_))
  refine wp_world (fun W' => Below W2.heap.size W2 W' ∧ W'.rowIs W2.heap.size 23 32 (fun i => v8 (FA i)) ∧ W'.rowIs (W2.heap.size + 1) 23 32 (fun i => v8 (FB i))) ?_ ?_
  · refine ⟨below_setRow (below_setRow ((alc W2 _).alloc (by simp) _) (Nat.le_refl _) _) (by omega) _, ?_, ?_⟩
    · exact rowIs_arr ((setRow_ne _ (W2.heap.size + 1) _ W2.heap.size (by omega)).trans (setRow_heap _ _ _ _ _ _ (hA1 _ _))) (by simp) (fun i hi => arr8_get 32 FA i hi)
    · exact rowIs_arr (setRow_heap _ _ _ _ _ _ hS2) (by simp) (fun i hi => arr8_get 32 FB i hi)
  clear hA1 hA2 hS2
  rintro W3 ⟨hb3, hx3, hy3⟩
  have hr3 := hr2.of_block (hb3.block _ hr2.lt)
  have hs3 := hs2.of_block (hb3.block _ hs2.lt)
  have hB3 : Below S0 w W3 := hB2.trans (hb3.mono (by have := hr2.lt; omega))
  have hSX : S0 < W2.heap.size := hr2.lt
  clear hr2 hs2 hB2 hb3
  generalize W2.heap.size = X4 at *
  have hrS : SlRead W3.drew (some ⟨S0, 0, none⟩) (ints .u8 (bys (lst 32 r))) := slread_row hr3
  have hsS : SlRead W3.drew (some ⟨S0 + 1, 0, none⟩) (ints .u8 (bys (lst 32 s))) := slread_row hs3
  have HD : ∀ w', Below W3.drew.heap.size W3.drew w' → ∀ g, SlRead w' (some ⟨g, 0, none⟩) (ints .u8 (bys rootI)) →
      Calls Tryd.prog 14 #[.slice (some ⟨S0, 0, none⟩) 32 32, .slice (some ⟨S0 + 1, 0, none⟩) 32 32, .slice (some ⟨g, 0, none⟩) 12 12, .int .i64 64] w' fun e w'' => ∃ O co, e = .returned (.tuple #[.slice O 64 co, .bool true]) ∧ SlRead w'' O (ints .u8 (bys K)) ∧ Below w'.heap.size w' w'' := by
    intro w' hb g hg
    have h := dder_any (some ⟨S0, 0, none⟩) (lst 32 r) 32 (some ⟨S0 + 1, 0, none⟩) (lst 32 s) 32 (some ⟨g, 0, none⟩) rootI 12 64 w' (hrS.below hb) (by simp) (hsS.below hb) (by simp) hg (by decide) (by decide)
    rwa [lst_length, lst_length, show rootI.length = 12 from rfl, ← HRK.out] at h
  refine wp_region_spec [Sp.k 0 (some 21) [] (.slice (some ⟨S0, 0, none⟩) 32 32),
    Sp.k 1 (some 22) [] (.slice (some ⟨S0 + 1, 0, none⟩) 32 32),
    Sp.o 2 (some 23) [] (SlN W3.drew.heap.size (ints .u8 (bys rootI)) 12),
    Sp.o 3 (some 24) [2] (SlN W3.drew.heap.size (ints .u8 (bys rootI)) 12),
    Sp.o 4 (some 25) [0, 1, 3] (DerT 64 (K)),
    Sp.o 5 (some 20) [4] (DerT 64 (K)),
    Sp.o 6 (some 26) [5] (SlA 64 (K)),
    Sp.o 7 (some 27) [5] (fun y _ => y = .bool true),
    Sp.o 8 (some 8) [6] (SlA 64 (K)),
    Sp.o 9 (some 9) [7] (fun y _ => y = .bool true)] (by kernel_rfl) (by kernel_rfl)
    ⟨owes_slice 0 (some 21) [] (.slice (some ⟨S0, 0, none⟩) 32 32) 23 (Go.Operand.tmp 2) none none none (.pointer (some ⟨S0, 0, none⟩)) none none none (fun v => by kernel_rfl) (fun v => by kernel_rfl) (sliceAt_arr (P := Tryd.prog) 32 Tryd.underlying23 (show (Tryd.prog.info? 5).map (·.size) = some 1 by kernel_rfl) (S0) (by omega)),
    owes_slice 1 (some 22) [] (.slice (some ⟨S0 + 1, 0, none⟩) 32 32) 23 (Go.Operand.tmp 3) none none none (.pointer (some ⟨S0 + 1, 0, none⟩)) none none none (fun v => by kernel_rfl) (fun v => by kernel_rfl) (sliceAt_arr (P := Tryd.prog) 32 Tryd.underlying23 (show (Tryd.prog.info? 5).map (·.size) = some 1 by kernel_rfl) (S0 + 1) (by omega)),
    owes_bsl 2 (some 23) [] (SlN W3.drew.heap.size (ints .u8 (bys rootI)) 12) 33 5 12 #[(0, Go.Operand.const (Go.Value.int Go.IntKind.u8 99)), (1, Go.Operand.const (Go.Value.int Go.IntKind.u8 111)), (2, Go.Operand.const (Go.Value.int Go.IntKind.u8 117)), (3, Go.Operand.const (Go.Value.int Go.IntKind.u8 114)), (4, Go.Operand.const (Go.Value.int Go.IntKind.u8 105)), (5, Go.Operand.const (Go.Value.int Go.IntKind.u8 101)), (6, Go.Operand.const (Go.Value.int Go.IntKind.u8 114)), (7, Go.Operand.const (Go.Value.int Go.IntKind.u8 32)), (8, Go.Operand.const (Go.Value.int Go.IntKind.u8 114)), (9, Go.Operand.const (Go.Value.int Go.IntKind.u8 111)), (10, Go.Operand.const (Go.Value.int Go.IntKind.u8 111)), (11, Go.Operand.const (Go.Value.int Go.IntKind.u8 116))] (#[(0, Go.Value.int Go.IntKind.u8 99), (1, Go.Value.int Go.IntKind.u8 111), (2, Go.Value.int Go.IntKind.u8 117), (3, Go.Value.int Go.IntKind.u8 114), (4, Go.Value.int Go.IntKind.u8 105), (5, Go.Value.int Go.IntKind.u8 101), (6, Go.Value.int Go.IntKind.u8 114), (7, Go.Value.int Go.IntKind.u8 32), (8, Go.Value.int Go.IntKind.u8 114), (9, Go.Value.int Go.IntKind.u8 111), (10, Go.Value.int Go.IntKind.u8 111), (11, Go.Value.int Go.IntKind.u8 116)]) (#[Go.Value.int Go.IntKind.u8 99, Go.Value.int Go.IntKind.u8 111, Go.Value.int Go.IntKind.u8 117, Go.Value.int Go.IntKind.u8 114, Go.Value.int Go.IntKind.u8 105, Go.Value.int Go.IntKind.u8 101, Go.Value.int Go.IntKind.u8 114, Go.Value.int Go.IntKind.u8 32, Go.Value.int Go.IntKind.u8 114, Go.Value.int Go.IntKind.u8 111, Go.Value.int Go.IntKind.u8 111, Go.Value.int Go.IntKind.u8 116]) (fun v => by kernel_rfl) (fun v => by kernel_rfl) (fun w => by kernel_rfl) SlN.mono (fun w' hb => ⟨_, rfl, hb.size, SlRead.new_row _ _ _ rfl⟩),
    owes_conv 3 (some 24) [2] (SlN W3.drew.heap.size (ints .u8 (bys rootI)) 12) 33 33 (.tmp 23) (fun v => by kernel_rfl) SlN.mono (fun v w' hb ho => by
        obtain ⟨g2, e2, b2, r2⟩ := ho.get 2 _ _ (SlN W3.drew.heap.size (ints .u8 (bys rootI)) 12) rfl rfl
        obtain ⟨w3, h1, h2, h3⟩ := run_conv (P := Tryd.prog) w' 33 5 Tryd.underlying33 Tryd.underlying5 g2 12 12
        exact ⟨_, _, w3, Eq.trans (b := v 2) (by kernel_rfl) e2, h1, h2.below b2 hb.size, ⟨h2.size, fun a _ => h3 a⟩, g2, rfl, b2, r2.cells ⟨h2.size, fun a _ => h3 a⟩⟩),
    owes_call_o 4 (some 25) [0, 1, 3] (DerT 64 (K)) 14 #[Go.Operand.tmp 21, Go.Operand.tmp 22, Go.Operand.tmp 24, Go.Operand.const (Go.Value.int Go.IntKind.i64 64)] #[33, 33, 33, 3] (fun v => by kernel_rfl) (fun _ _ => by kernel_rfl) DerT.mono (fun v w' hb ho => by
        obtain ⟨g3, e3, b3, r3⟩ := ho.get 3 _ _ (SlN W3.drew.heap.size (ints .u8 (bys rootI)) 12) rfl rfl
        exact ⟨#[.slice (some ⟨S0, 0, none⟩) 32 32, .slice (some ⟨S0 + 1, 0, none⟩) 32 32, .slice (some ⟨g3, 0, none⟩) 12 12, Go.Value.int Go.IntKind.i64 64], Eq.trans (b := #[.slice (some ⟨S0, 0, none⟩) 32 32, .slice (some ⟨S0 + 1, 0, none⟩) 32 32, v 3, Go.Value.int Go.IntKind.i64 64]) (by kernel_rfl) (by rw [e3]), (HD w' hb _ r3).mono (fun e w1 ⟨O, co, h1, h2, h3⟩ => ⟨_, h1, h3, O, co, rfl, h2⟩)⟩),
    owes_move_o 5 (some 20) [4] (DerT 64 (K)) (Go.Operand.tmp 25) 4 (fun v => by kernel_rfl) DerT.mono (fun v => by kernel_rfl) (fun v w' hb ho => ho.get 4 _ _ (DerT 64 (K)) rfl rfl),
    owes_extract_o 6 (some 26) [5] (SlA 64 K) (.tmp 20) 0 (fun v => by kernel_rfl) SlA.mono (fun v w' hb ho => by
        obtain ⟨O5, co5, e5, r5⟩ := ho.get 5 _ _ (DerT 64 K) rfl rfl
        exact ⟨#[.slice O5 64 co5, .bool true], _, Eq.trans (b := v 5) (by kernel_rfl) e5, by kernel_rfl, O5, co5, rfl, r5⟩),
    owes_extract_o 7 (some 27) [5] (fun y _ => y = .bool true) (.tmp 20) 1 (fun v => by kernel_rfl) (fun _ _ _ h _ => h) (fun v w' hb ho => by
        obtain ⟨O5, co5, e5, r5⟩ := ho.get 5 _ _ (DerT 64 K) rfl rfl
        exact ⟨#[.slice O5 64 co5, .bool true], _, Eq.trans (b := v 5) (by kernel_rfl) e5, by kernel_rfl, rfl⟩),
    owes_assign_o 8 (some 8) [6] (SlA 64 (K)) (Go.Operand.tmp 26) 6 (fun v => by kernel_rfl) SlA.mono (fun v => by kernel_rfl) (fun v w' hb ho => ho.get 6 _ _ (SlA 64 (K)) rfl rfl),
    owes_assign_o 9 (some 9) [7] (fun y _ => y = .bool true) (Go.Operand.tmp 27) 7 (fun v => by kernel_rfl) (fun _ _ _ h _ => h) (fun v => by kernel_rfl) (fun v w' hb ho => ho.get 7 _ _ (fun y _ => y = .bool true) rfl rfl), trivial⟩ ?_
  intro v w' hb' hall
  obtain ⟨O, co, e8, hO⟩ := hall.open_ 8 _ _ (SlA 64 K) rfl
  have e9 : v 9 = .bool true := hall.open_ 9 _ _ (fun y _ => y = .bool true) rfl
  clear hall HD hrS hsS
  simp only [putsK_k, putsK_o, putsK_nil, Act.put, List.setIfInBounds_toArray, List.set_cons_zero, List.set_cons_succ]
  rw [e8, e9]
  clear e8 e9
  have hb3 : Below W3.heap.size W3 w' := (Below.drewNr (w := W3) 1).trans hb'
  have hR : RtAt S0 X4 w O K FA FB w' := ⟨hB3.trans (hb3.mono (by have := hr3.lt; omega)), hx3.of_block (hb3.block _ hx3.lt), hy3.of_block (hb3.block _ hy3.lt), hO⟩
  clear hb' hb3 hr3 hs3 hx3 hy3 hB3 hO
  go_wp2_with fail
  go_loopw [10] (fun i wr => ∃ k : Nat, k ≤ 32 ∧ i = .int .i64 k ∧ RtAt S0 X4 w O K FA FB wr) (fun i _ => 32 - (intOf i).toNat)
  case atStart => exact ⟨0, by omega, rfl, hR⟩
  clear hR
  case round =>
    obtain ⟨k, hk, rfl, hR⟩ := hrel
    by_cases hlt : k < 32
    · obtain ⟨b, o, x1, hOe, hc1, hx1⟩ := hR.o.at_ (j := k) (by rw [bys_length, HL.out]; omega)
      obtain ⟨b', o', x2, hOe', hc2, hx2⟩ := hR.o.at_ (j := 32 + k) (by rw [bys_length, HL.out]; omega)
      rw [hOe] at hOe'
      obtain ⟨rfl, rfl⟩ : b = b' ∧ o = o' := by simpa using hOe'
      clear hOe' hx1 hx2 hc1 hc2
      subst hOe
      have hRd : RtAt S0 X4 w (some ⟨b, o, none⟩) K FA FB wr.drew := hR.below (by omega) (Below.drewNr (w := wr) 1)
      have HL1 : ∀ w', Below wr.drew.heap.size wr.drew w' → w'.cell? ⟨X4, k, none⟩ = some (v8 (FA k)) := fun w' hb => (hRd.below (by omega) hb).x.cell hlt
      have HL3 : ∀ w', Below wr.drew.heap.size wr.drew w' → w'.cell? ⟨X4 + 1, k, none⟩ = some (v8 (FB k)) := fun w' hb => (hRd.below (by omega) hb).y.cell hlt
      have hcell : ∀ w' j, j < 64 → Below wr.drew.heap.size wr.drew w' → w'.cell? ⟨b, o + j, none⟩ = some (v8 (K.getD j 0#8)) := by
        intro w' j hj hb
        obtain ⟨b2, o2, x, e2, hc, hx⟩ := (hRd.below (by omega) hb).o.at_ (j := j) (by rw [bys_length, HL.out]; omega)
        obtain ⟨rfl, rfl⟩ : b = b2 ∧ o = o2 := by simpa using e2
        rw [hc]
        have : (bys K)[j]? = some (n8 (K.getD j 0#8)) := by
          unfold bys
          rw [List.getElem?_map, List.getElem?_eq_getElem (by rw [HL.out]; omega)]
          simp only [Option.map_some, List.getD_eq_getElem?_getD]
          rw [List.getElem?_eq_getElem (by rw [HL.out]; omega)]
          rfl
        rw [hx] at this
        injection this with this
        rw [this]
      have HL2 : ∀ w', Below wr.drew.heap.size wr.drew w' → w'.cell? ⟨b, o + k, none⟩ = some (v8 (FA k)) := fun w' hb => by rw [HRA.out]; exact hcell w' k (by omega) hb
      have HL4 : ∀ w', Below wr.drew.heap.size wr.drew w' → w'.cell? ⟨b, o + (32 + k), none⟩ = some (v8 (FB k)) := fun w' hb => by rw [HRB.out]; exact hcell w' (32 + k) (by omega) hb
      have hk0 : (k : Int) < 32 := by omega
      clear hcell
      go_upto_region 11 with (fail)
      refine wp_region_spec [Sp.k 0 (some 39) [] (.int .i64 k),
        Sp.k 1 (some 40) [0] (.pointer (some ⟨X4, k, none⟩)),
        Sp.k 2 (some 41) [1] (v8 (FA k)),
        Sp.k 3 (some 42) [] (.slice (some ⟨b, o, none⟩) 64 co),
        Sp.k 4 (some 43) [] (.int .i64 k),
        Sp.k 5 (some 44) [3, 4] (.pointer (some ⟨b, o + k, none⟩)),
        Sp.k 6 (some 45) [5] (v8 (FA k)),
        Sp.k 7 (some 46) [2, 6] (.bool false),
        Sp.k 8 (some 47) [7] (.bool false),
        Sp.k 9 (some 48) [8] (.int .i64 k),
        Sp.k 10 (some 49) [8, 9] (.pointer (some ⟨X4 + 1, k, none⟩)),
        Sp.k 11 (some 50) [8, 10] (v8 (FB k)),
        Sp.k 12 (some 51) [8] (.slice (some ⟨b, o, none⟩) 64 co),
        Sp.k 13 (some 52) [8] (.int .i64 k),
        Sp.k 14 (some 53) [8, 13] (.int .i64 ((32 + k : Nat) : Int)),
        Sp.k 15 (some 54) [8, 12, 14] (.pointer (some ⟨b, o + (32 + k), none⟩)),
        Sp.k 16 (some 55) [8, 15] (v8 (FB k)),
        Sp.k 17 (some 56) [8, 11, 16] (.bool false),
        Sp.k 18 (some 57) [8, 17] (.bool false)] (by kernel_rfl) (by kernel_rfl)
        ⟨owes_move 0 (some 39) [] (.int .i64 k) (Go.Operand.tmp 10) (fun v => by kernel_rfl) (fun v => by kernel_rfl),
        owes_index 1 (some 40) [0] (.pointer (some ⟨X4, k, none⟩)) 23 (Go.Operand.tmp 6) (Go.Operand.tmp 39) (.pointer (some ⟨X4, 0, none⟩)) (.int .i64 k) (fun v => by kernel_rfl) (fun v => by kernel_rfl) (idx_arr (P := Tryd.prog) 32 Tryd.underlying23 (show (Tryd.prog.info? 5).map (·.size) = some 1 by kernel_rfl) X4 k hlt),
        owes_load 2 (some 41) [1] (v8 (FA k)) 5 (Go.Operand.tmp 40) (.pointer (some ⟨X4, k, none⟩)) (fun v => by kernel_rfl) (fun v => by kernel_rfl) (fun w' hb => load_u8' _ _ _ w' (HL1 w' hb)),
        owes_move 3 (some 42) [] (.slice (some ⟨b, o, none⟩) 64 co) (Go.Operand.tmp 8) (fun v => by kernel_rfl) (fun v => by kernel_rfl),
        owes_move 4 (some 43) [] (.int .i64 k) (Go.Operand.tmp 10) (fun v => by kernel_rfl) (fun v => by kernel_rfl),
        owes_index 5 (some 44) [3, 4] (.pointer (some ⟨b, o + k, none⟩)) 33 (Go.Operand.tmp 42) (Go.Operand.tmp 43) (.slice (some ⟨b, o, none⟩) 64 co) (.int .i64 k) (fun v => by kernel_rfl) (fun v => by kernel_rfl) (idx_sl (P := Tryd.prog) Tryd.underlying33 (show (Tryd.prog.info? 5).map (·.size) = some 1 by kernel_rfl) b o 64 co (k) (by omega)),
        owes_load 6 (some 45) [5] (v8 (FA k)) 5 (Go.Operand.tmp 44) (.pointer (some ⟨b, o + k, none⟩)) (fun v => by kernel_rfl) (fun v => by kernel_rfl) (fun w' hb => load_u8' _ _ _ w' (HL2 w' hb)),
        owes_bin 7 (some 46) [2, 6] (.bool false) Go.BinOp.neq 5 (Go.Operand.tmp 41) (Go.Operand.tmp 45) 5 (v8 (FA k)) (v8 (FA k)) (fun v => by kernel_rfl) (fun v => by kernel_rfl) (neq_v8 _ _ _ _),
        owes_move 8 (some 47) [7] (.bool false) (Go.Operand.tmp 46) (fun v => by kernel_rfl) (fun v => by kernel_rfl),
        owes_move 9 (some 48) [8] (.int .i64 k) (Go.Operand.tmp 10) (fun v => by kernel_rfl) (fun v => by kernel_rfl),
        owes_index 10 (some 49) [8, 9] (.pointer (some ⟨X4 + 1, k, none⟩)) 23 (Go.Operand.tmp 7) (Go.Operand.tmp 48) (.pointer (some ⟨X4 + 1, 0, none⟩)) (.int .i64 k) (fun v => by kernel_rfl) (fun v => by kernel_rfl) (idx_arr (P := Tryd.prog) 32 Tryd.underlying23 (show (Tryd.prog.info? 5).map (·.size) = some 1 by kernel_rfl) (X4 + 1) k hlt),
        owes_load 11 (some 50) [8, 10] (v8 (FB k)) 5 (Go.Operand.tmp 49) (.pointer (some ⟨X4 + 1, k, none⟩)) (fun v => by kernel_rfl) (fun v => by kernel_rfl) (fun w' hb => load_u8' _ _ _ w' (HL3 w' hb)),
        owes_move 12 (some 51) [8] (.slice (some ⟨b, o, none⟩) 64 co) (Go.Operand.tmp 8) (fun v => by kernel_rfl) (fun v => by kernel_rfl),
        owes_move 13 (some 52) [8] (.int .i64 k) (Go.Operand.tmp 10) (fun v => by kernel_rfl) (fun v => by kernel_rfl),
        owes_bin 14 (some 53) [8, 13] (.int .i64 ((32 + k : Nat) : Int)) Go.BinOp.add 3 (Go.Operand.const (Go.Value.int Go.IntKind.i64 32)) (Go.Operand.tmp 52) 3 (Go.Value.int Go.IntKind.i64 32) (.int .i64 k) (fun v => by kernel_rfl) (fun v => by kernel_rfl) (add_i64 _ _ _ _ _ _ (by omega) (by omega) (by omega)),
        owes_index 15 (some 54) [8, 12, 14] (.pointer (some ⟨b, o + (32 + k), none⟩)) 33 (Go.Operand.tmp 51) (Go.Operand.tmp 53) (.slice (some ⟨b, o, none⟩) 64 co) (.int .i64 ((32 + k : Nat) : Int)) (fun v => by kernel_rfl) (fun v => by kernel_rfl) (idx_sl (P := Tryd.prog) Tryd.underlying33 (show (Tryd.prog.info? 5).map (·.size) = some 1 by kernel_rfl) b o 64 co (32 + k) (by omega)),
        owes_load 16 (some 55) [8, 15] (v8 (FB k)) 5 (Go.Operand.tmp 54) (.pointer (some ⟨b, o + (32 + k), none⟩)) (fun v => by kernel_rfl) (fun v => by kernel_rfl) (fun w' hb => load_u8' _ _ _ w' (HL4 w' hb)),
        owes_bin 17 (some 56) [8, 11, 16] (.bool false) Go.BinOp.neq 5 (Go.Operand.tmp 50) (Go.Operand.tmp 55) 5 (v8 (FB k)) (v8 (FB k)) (fun v => by kernel_rfl) (fun v => by kernel_rfl) (neq_v8 _ _ _ _),
        owes_pick 18 (some 57) [8, 17] (.bool false) (Go.Operand.tmp 47) (Go.Operand.const (Go.Value.bool true)) (Go.Operand.tmp 56) false (fun v => by kernel_rfl) (fun v => by kernel_rfl) (fun v => by kernel_rfl), trivial⟩ ?_
      intro v w' hb hall
      have hR' := hRd.below (by omega) hb
      clear hall HL1 HL2 HL3 HL4 hb hRd hR
      simp only [putsK_k, putsK_nil, Act.put, List.setIfInBounds_toArray, List.set_cons_zero, List.set_cons_succ]
      go_wp2_with fail
      go_roundw
      case rel => exact ⟨k + 1, by omega, by go_num, hR'⟩
      case measure => simp [intOf]; omega
    · have hk32 : k = 32 := by omega
      subst hk32
      have hdk : decide (((32 : Nat) : Int) < 32) = false := by decide
      go_wp2_with fail
      go_ret
      rw [HS0.out]
      exact ⟨rfl, hR.b⟩
end Go.Proofs.YtccchhfcoicgcaaDoor
