import Derived.Test.YtccchhfcoicgcaaDoorCdw
import Derived.Test.YtccchhfcoicgcaaDoorCrt
import Derived.Test.YtccchhfcoicgcaaDoorDdr
import Derived.Test.YtccchhfcoicgcaaDoorRso
import Derived.Test.YtccchhfcoicgcaaDoorBc
namespace Go.Proofs.YtccchhfcoicgcaaDoor
open Go.RowKit

set_option maxRecDepth 100000 in
set_option maxHeartbeats 1600000 in
theorem dstep_any (c : Nat → BitVec 8) (w : World) :
    Calls Tryd.prog 10 #[.agg (arr8 32 c)] w fun e w' => e = .returned (.tuple #[.agg (arr8 32 (macOf (lst 32 c) [2#8])), .agg (arr8 32 (macOf (lst 32 c) [1#8]))]) ∧ Below w.heap.size w w' := by
  go_enter Tryd.func10, Tryd.ntmps10
  go_upto_region 1 with (fail)
  refine wp_world (fun W => Below w.heap.size w W ∧ W.rowIs w.heap.size 23 32 (fun i => v8 (c i)) ∧ W.rowIs (w.heap.size + 1) 23 32 (fun _ => .int .u8 0) ∧ W.rowIs (w.heap.size + 2) 23 32 (fun _ => .int .u8 0)) ?_ ?_
  · refine ⟨by go_grown, ?_, ?_, ?_⟩
    · exact ((rowIs_new w (arr8 32 c) 23 w.heap.size 32 _ rfl (by simp) (fun i hi => arr8_get 32 c i hi)).alloc _).alloc _
    · exact (rowIs_new (w.alloc _) (Array.replicate 32 (.int .u8 0)) 23 (w.heap.size + 1) 32 (fun _ => .int .u8 0) (by simp) (by simp) (fun i hi => by simp [hi])).alloc _
    · exact rowIs_new ((w.alloc _).alloc _) (Array.replicate 32 (.int .u8 0)) 23 (w.heap.size + 2) 32 (fun _ => .int .u8 0) (by simp) (by simp) (fun i hi => by simp [hi])
  rintro W ⟨hb, hc, hx, hy⟩
  generalize hB : w.heap.size = B at *
  have HB := Lib.hid hB; clear hB
  have hcS : SlRead W.drew (some ⟨B, 0, none⟩) (ints .u8 (bys (lst 32 c))) := slread_row hc
  have hm : ∀ (z : BitVec 8) w', Below W.drew.heap.size W.drew w' → ∀ g, SlRead w' (some ⟨g, 0, none⟩) [.int .u8 (n8 z)] →
      Calls Tryd.prog 13 #[.slice (some ⟨B, 0, none⟩) 32 32, .slice (some ⟨g, 0, none⟩) 1 1] w' fun e w'' => e = .returned (.agg (arr8 32 (macOf (lst 32 c) [z]))) ∧ Below w'.heap.size w' w'' := by
    intro z w' hb g hs
    have h := dmac_any (some ⟨B, 0, none⟩) (lst 32 c) 32 (some ⟨g, 0, none⟩) [z] 1 w' (hcS.below hb) (by simp) hs (by simp)
    rwa [lst_length] at h
  have HM2 := hm 2#8
  have HM1 := hm 1#8
  generalize hF : macOf (lst 32 c) [2#8] = F at *
  have HF := Lib.hid hF; clear hF
  generalize hF' : macOf (lst 32 c) [1#8] = F' at *
  have HF' := Lib.hid hF'; clear hF'
  clear hm
  refine wp_region_spec_tail 6 [Sp.k 0 (some 4) [] (.slice (some ⟨B, 0, none⟩) 32 32),
    Sp.o 1 (some 5) [] (SlV [Go.Value.int Go.IntKind.u8 2] 1),
    Sp.k 2 (some 6) [0, 1] (.agg (arr8 32 F)),
    Sp.k 3 (some 7) [] (.slice (some ⟨B, 0, none⟩) 32 32),
    Sp.o 4 (some 8) [] (SlV [Go.Value.int Go.IntKind.u8 1] 1),
    Sp.k 5 (some 9) [0, 1, 2, 3, 4] (.agg (arr8 32 F'))] (by kernel_rfl) (by kernel_rfl)
    ⟨owes_slice 0 (some 4) [] (.slice (some ⟨B, 0, none⟩) 32 32) 23 (Go.Operand.tmp 1) none none none (.pointer (some ⟨B, 0, none⟩)) none none none (fun v => by kernel_rfl) (fun v => by kernel_rfl) (sliceAt_arr (P := Tryd.prog) 32 Tryd.underlying23 (show (Tryd.prog.info? 5).map (·.size) = some 1 by kernel_rfl) (B) (by omega)),
    owes_bsl 1 (some 5) [] (SlV [Go.Value.int Go.IntKind.u8 2] 1) 33 5 1 #[(0, Go.Operand.const (Go.Value.int Go.IntKind.u8 2))] (#[(0, Go.Value.int Go.IntKind.u8 2)]) (#[Go.Value.int Go.IntKind.u8 2]) (fun v => by kernel_rfl) (fun v => by kernel_rfl) (fun w => by kernel_rfl) SlV.mono (fun w' hb => ⟨_, rfl, SlRead.new_row _ _ _ rfl⟩),
    owes_call 2 (some 6) [0, 1] (.agg (arr8 32 F)) 13 #[Go.Operand.tmp 4, Go.Operand.tmp 5] #[33, 33] (fun v => by kernel_rfl) (fun _ _ => by kernel_rfl) (fun v w' hb ho => by
        obtain ⟨g1, e1, r1⟩ := ho.get 1 (some 5) [] (SlV [Go.Value.int Go.IntKind.u8 2] 1) rfl rfl
        exact ⟨#[.slice (some ⟨B, 0, none⟩) 32 32, .slice (some ⟨g1, 0, none⟩) 1 1], Eq.trans (b := #[.slice (some ⟨B, 0, none⟩) 32 32, v 1]) (by kernel_rfl) (by rw [e1]), (HM2 w' hb _ r1).mono (fun _ _ h => h)⟩),
    owes_slice 3 (some 7) [] (.slice (some ⟨B, 0, none⟩) 32 32) 23 (Go.Operand.tmp 1) none none none (.pointer (some ⟨B, 0, none⟩)) none none none (fun v => by kernel_rfl) (fun v => by kernel_rfl) (sliceAt_arr (P := Tryd.prog) 32 Tryd.underlying23 (show (Tryd.prog.info? 5).map (·.size) = some 1 by kernel_rfl) (B) (by omega)),
    owes_bsl 4 (some 8) [] (SlV [Go.Value.int Go.IntKind.u8 1] 1) 33 5 1 #[(0, Go.Operand.const (Go.Value.int Go.IntKind.u8 1))] (#[(0, Go.Value.int Go.IntKind.u8 1)]) (#[Go.Value.int Go.IntKind.u8 1]) (fun v => by kernel_rfl) (fun v => by kernel_rfl) (fun w => by kernel_rfl) SlV.mono (fun w' hb => ⟨_, rfl, SlRead.new_row _ _ _ rfl⟩),
    owes_call 5 (some 9) [0, 1, 2, 3, 4] (.agg (arr8 32 F')) 13 #[Go.Operand.tmp 7, Go.Operand.tmp 8] #[33, 33] (fun v => by kernel_rfl) (fun _ _ => by kernel_rfl) (fun v w' hb ho => by
        obtain ⟨g4, e4, r4⟩ := ho.get 4 (some 8) [] (SlV [Go.Value.int Go.IntKind.u8 1] 1) rfl rfl
        exact ⟨#[.slice (some ⟨B, 0, none⟩) 32 32, .slice (some ⟨g4, 0, none⟩) 1 1], Eq.trans (b := #[.slice (some ⟨B, 0, none⟩) 32 32, v 4]) (by kernel_rfl) (by rw [e4]), (HM1 w' hb _ r4).mono (fun _ _ h => h)⟩), trivial⟩ ?_
  intro v w' hb' hall
  clear hall HM1 HM2
  simp only [putsK_k, putsK_o, putsK_nil, Act.put, List.setIfInBounds_toArray, List.set_cons_zero, List.set_cons_succ]
  simp only [List.drop_succ_cons, List.drop_zero]
  have hx2 := hx.of_block (hb'.block _ hx.lt)
  have hy2 := hy.of_block (hb'.block _ hy.lt)
  have hbb : Below B w w' := hb.trans ((Below.drewNr (w := W) 1).trans (hb'.mono (show B ≤ W.heap.size by have := hc.lt; omega)))
  obtain ⟨ox, hx3, hx4, _⟩ := hx2
  obtain ⟨oy, hy3, hy4, _⟩ := hy2
  clear hcS hc hx hy hb hb'
  have hy5 : (w'.setRow (B + 1) (arr8 32 F)).heap[B + 2]? = some (.cells oy 23 (0, 0)) := (setRow_ne w' (B + 1) _ (B + 2) (by omega)).trans hy3
  have hrx : ((w'.setRow (B + 1) (arr8 32 F)).setRow (B + 2) (arr8 32 F')).heap[B + 1]? = some (.cells (arr8 32 F) 23 (0, 0)) := (setRow_ne _ (B + 2) _ (B + 1) (by omega)).trans (setRow_heap _ _ _ _ _ _ hx3)
  have hry : ((w'.setRow (B + 1) (arr8 32 F)).setRow (B + 2) (arr8 32 F')).heap[B + 2]? = some (.cells (arr8 32 F') 23 (0, 0)) := setRow_heap _ _ _ _ _ _ hy5
  have hbs := below_setRow (g := B + 2) (below_setRow (g := B + 1) hbb (by omega) (arr8 32 F)) (by omega) (arr8 32 F')
  clear hbb
  refine wpList_store_row rfl 23 _ _ rfl (B + 1) (arr8 32 F) rfl rfl _ _ hx3 (by kernel_rfl) (by simpa using hx4) (arr8_one _ _) ?_
  refine wpList_store_row rfl 23 _ _ rfl (B + 2) (arr8 32 F') rfl rfl _ _ hy5 (by kernel_rfl) (by simpa using hy4) (arr8_one _ _) ?_
  go_wp2_with fail
  refine bodyPost_ret (results_two_rows rfl _ _ _ _ _ _ _ _ _ _ _ rfl hrx rfl hry Tryd.underlying23 rfl (by kernel_rfl) (by kernel_rfl)) rfl ?_
  rw [HB.out, HF.out, HF'.out]
  exact ⟨rfl, hbs⟩

set_option maxRecDepth 100000 in
set_option maxHeartbeats 1600000 in
theorem ddraw_any (c : Nat → BitVec 8) (N : BitVec 32) (w : World) :
    Calls Tryd.prog 12 #[.agg (arr8 32 c), .int .u32 (n32 N)] w fun e w' => e = .returned (.agg (arr8 32 (macOf (lst 32 c) (drawB N)))) ∧ Below w.heap.size w w' := by
  go_enter Tryd.func12, Tryd.ntmps12
  go_upto_region 1 with (fail)
  refine wp_world (fun W => Below w.heap.size w W ∧ W.rowIs w.heap.size 23 32 (fun i => v8 (c i)) ∧ W.rowIs (w.heap.size + 1) 23 32 (fun _ => .int .u8 0)) ?_ ?_
  · refine ⟨by go_grown, ?_, ?_⟩
    · exact (rowIs_new w (arr8 32 c) 23 w.heap.size 32 _ rfl (by simp) (fun i hi => arr8_get 32 c i hi)).alloc _
    · exact rowIs_new (w.alloc _) (Array.replicate 32 (.int .u8 0)) 23 (w.heap.size + 1) 32 (fun _ => .int .u8 0) (by simp) (by simp) (fun i hi => by simp [hi])
  rintro W ⟨hb, hc, hx⟩
  generalize hB : w.heap.size = B at *
  have HB := Lib.hid hB; clear hB
  have hslB := fun w' => sliceAt_arr (P := Tryd.prog) 32 Tryd.underlying23 (show (Tryd.prog.info? 5).map (·.size) = some 1 by kernel_rfl) B (by omega) w'
  have alc : ∀ (W : World) (o : Obj), Below W.heap.size W (W.alloc o) := fun W o => (Below.refl _ _).alloc (Nat.le_refl _) _
  have f0 : n32 N % 256 = n8 ((N >>> 0).setWidth 8) := by have := n32_byte N 0; simpa using this
  have f1 : n32 N / 256 % 256 = n8 ((N >>> 8).setWidth 8) := by have := n32_byte N 8; simpa using this
  have f2 : n32 N / 65536 % 256 = n8 ((N >>> 16).setWidth 8) := by have := n32_byte N 16; simpa using this
  have f3 : n32 N / 16777216 % 256 = n8 ((N >>> 24).setWidth 8) := by have := n32_byte N 24; simpa using this
  have hd : Calls Tryd.prog 13 #[.slice (some ⟨B, 0, none⟩) 32 32, .slice (some ⟨W.heap.size, 0, none⟩) 4 4] (W.alloc (.cells #[.int .u8 (n8 ((N >>> 0).setWidth 8)), .int .u8 (n8 ((N >>> 8).setWidth 8)), .int .u8 (n8 ((N >>> 16).setWidth 8)), .int .u8 (n8 ((N >>> 24).setWidth 8))] 5)) fun e w' => e = .returned (.agg (arr8 32 (macOf (lst 32 c) (drawB N)))) ∧ Below W.heap.size W w' := by
    have h := dmac_any (some ⟨B, 0, none⟩) (lst 32 c) 32 (some ⟨W.heap.size, 0, none⟩) (drawB N) 4 (W.alloc (.cells #[.int .u8 (n8 ((N >>> 0).setWidth 8)), .int .u8 (n8 ((N >>> 8).setWidth 8)), .int .u8 (n8 ((N >>> 16).setWidth 8)), .int .u8 (n8 ((N >>> 24).setWidth 8))] 5)) ((slread_row hc).below (alc _ _)) (by simp) (SlRead.four_new _ _ _ _ _) (by simp [drawB])
    rw [lst_length, show (drawB N).length = 4 from rfl] at h
    refine h.mono ?_
    rintro e w' ⟨rfl, hb⟩
    exact ⟨rfl, (alc W _).trans (hb.mono (by simp))⟩
  go_wp2_with fail
  rw [← f0, ← f1, ← f2, ← f3] at hd
  refine hd.mono ?_
  rintro e W2 ⟨rfl, hb2⟩
  obtain ⟨ox, hx1, hx2, _⟩ := hx.of_block (hb2.block _ hx.lt)
  have hbb := hb.trans (hb2.mono (by have := hc.lt; omega))
  have hbs := below_setRow (g := B + 1) hbb (by omega) (arr8 32 (macOf (lst 32 c) (drawB N)))
  clear hd f0 f1 f2 f3 hb2 hb hc hx
  generalize hF : macOf (lst 32 c) (drawB N) = F at *
  have HF := Lib.hid hF; clear hF
  go_wp2_with (refine wpList_store_row rfl 23 _ _ rfl _ (arr8 32 F) rfl rfl _ _ hx1 (by kernel_rfl) (by simpa using hx2) (arr8_one _ _) ?_)
  refine bodyPost_ret (results_cell_row rfl _ _ _ _ _ _ _ rfl (setRow_heap _ _ _ _ _ _ hx1) Tryd.underlying23 rfl (by kernel_rfl)) rfl ?_
  rw [HB.out, HF.out]
  exact ⟨rfl, hbs⟩
end Go.Proofs.YtccchhfcoicgcaaDoor
