import Derived.Test.YtccchhfcoicgcaaDoorCst
namespace Go.Proofs.YtccchhfcoicgcaaDoor
open Go.RowKit

def drawB (N : BitVec 32) : List (BitVec 8) := [(N >>> 0).setWidth 8, (N >>> 8).setWidth 8, (N >>> 16).setWidth 8, (N >>> 24).setWidth 8]
theorem SlRead.four_new {W : World} (v0 v1 v2 v3 : Value) (t : TypeId) : SlRead (W.alloc (.cells #[v0, v1, v2, v3] t)) (some ⟨W.heap.size, 0, none⟩) [v0, v1, v2, v3] := by
  intro _
  refine ⟨W.heap.size, 0, rfl, by simp, fun j u hj => ?_⟩
  rw [Nat.zero_add, World.cell?_alloc_new]
  simpa using hj

set_option maxRecDepth 100000 in
set_option maxHeartbeats 1600000 in
theorem draw_any (c : Nat → BitVec 8) (N : BitVec 32) (w : World) (hk : KAt w) :
    Calls Tryd.prog 11 #[.agg (arr8 32 c), .int .u32 (n32 N)] w fun e w' => e = .returned (.agg (arr8 32 (macOf (lst 32 c) (drawB N)))) ∧ Below w.heap.size w w' := by
  go_enter Tryd.func11, Tryd.ntmps11
  go_upto_region 1 with (fail)
  refine wp_world (fun W => Below w.heap.size w W ∧ W.rowIs w.heap.size 23 32 (fun i => v8 (c i)) ∧ W.rowIs (w.heap.size + 1) 23 32 (fun _ => .int .u8 0)) ?_ ?_
  · refine ⟨by go_grown, ?_, ?_⟩
    · exact (rowIs_new w (arr8 32 c) 23 w.heap.size 32 _ rfl (by simp) (fun i hi => arr8_get 32 c i hi)).alloc _
    · exact rowIs_new (w.alloc _) (Array.replicate 32 (.int .u8 0)) 23 (w.heap.size + 1) 32 (fun _ => .int .u8 0) (by simp) (by simp) (fun i hi => by simp [hi])
  rintro W ⟨hb, hc, hx⟩
  have hkW := hk.below hb
  clear hk
  generalize hB : w.heap.size = B at *
  have HB := Lib.hid hB; clear hB
  have hslB := fun w' => sliceAt_arr (P := Tryd.prog) 32 Tryd.underlying23 (show (Tryd.prog.info? 5).map (·.size) = some 1 by kernel_rfl) B (by omega) w'
  have alc : ∀ (W : World) (o : Obj), Below W.heap.size W (W.alloc o) := fun W o => (Below.refl _ _).alloc (Nat.le_refl _) _
  have f0 : n32 N % 256 = n8 ((N >>> 0).setWidth 8) := by have := n32_byte N 0; simpa using this
  have f1 : n32 N / 256 % 256 = n8 ((N >>> 8).setWidth 8) := by have := n32_byte N 8; simpa using this
  have f2 : n32 N / 65536 % 256 = n8 ((N >>> 16).setWidth 8) := by have := n32_byte N 16; simpa using this
  have f3 : n32 N / 16777216 % 256 = n8 ((N >>> 24).setWidth 8) := by have := n32_byte N 24; simpa using this
  have hd : Calls Tryd.prog 16 #[.slice (some ⟨B, 0, none⟩) 32 32, .slice (some ⟨W.heap.size + 1, 0, none⟩) 1 1] ((W.alloc (.cells #[.int .u8 (n8 ((N >>> 0).setWidth 8)), .int .u8 (n8 ((N >>> 8).setWidth 8)), .int .u8 (n8 ((N >>> 16).setWidth 8)), .int .u8 (n8 ((N >>> 24).setWidth 8))] 5)).alloc (.cells #[.slice (some ⟨W.heap.size, 0, none⟩) 4 4] 33)) fun e w' => e = .returned (.agg (arr8 32 (macOf (lst 32 c) (drawB N)))) ∧ Below W.heap.size W w' := by
    have h := msum_one (some ⟨B, 0, none⟩) (lst 32 c) 32 (some ⟨W.heap.size, 0, none⟩) (drawB N) 4 (W.alloc (.cells #[.int .u8 (n8 ((N >>> 0).setWidth 8)), .int .u8 (n8 ((N >>> 8).setWidth 8)), .int .u8 (n8 ((N >>> 16).setWidth 8)), .int .u8 (n8 ((N >>> 24).setWidth 8))] 5)) ((slread_row hc).below (alc _ _)) (by simp) (by simp) (SlRead.four_new _ _ _ _ _) (by simp [drawB]) (by simp [drawB]) (hkW.below (alc _ _))
    rw [lst_length, show (drawB N).length = 4 from rfl, show (W.alloc (.cells #[.int .u8 (n8 ((N >>> 0).setWidth 8)), .int .u8 (n8 ((N >>> 8).setWidth 8)), .int .u8 (n8 ((N >>> 16).setWidth 8)), .int .u8 (n8 ((N >>> 24).setWidth 8))] 5)).heap.size = W.heap.size + 1 by simp] at h
    refine h.mono ?_
    rintro e w' ⟨rfl, hb⟩
    exact ⟨rfl, (alc W _).trans (hb.mono (by omega))⟩
  go_wp2_with fail
  rw [← f0, ← f1, ← f2, ← f3] at hd
  refine hd.mono ?_
  rintro e W2 ⟨rfl, hb2⟩
  obtain ⟨ox, hx1, hx2, _⟩ := hx.of_block (hb2.block _ hx.lt)
  have hbb := hb.trans (hb2.mono (by have := hc.lt; omega))
  have hbs := below_setRow (g := B + 1) hbb (by omega) (arr8 32 (macOf (lst 32 c) (drawB N)))
  clear hd f0 f1 f2 f3 hb2 hb hc hx hkW
  generalize hF : macOf (lst 32 c) (drawB N) = F at *
  have HF := Lib.hid hF; clear hF
  go_wp2_with (refine wpList_store_row rfl 23 _ _ rfl _ (arr8 32 F) rfl rfl _ _ hx1 (by kernel_rfl) (by simpa using hx2) (arr8_one _ _) ?_)
  refine bodyPost_ret (results_cell_row rfl _ _ _ _ _ _ _ rfl (setRow_heap _ _ _ _ _ _ hx1) Tryd.underlying23 rfl (by kernel_rfl)) rfl ?_
  rw [HB.out, HF.out]
  exact ⟨rfl, hbs⟩
end Go.Proofs.YtccchhfcoicgcaaDoor
