import Derived.Test.YtionjhlllpipjaaDoorDkd
/-
  disk: a sector of one byte.
-/
namespace Go.Proofs.YtionjhlllpipjaaDoor
open Go.RowKit

def fillB (x : Int) : UInt8 := UInt8.ofNat (x % 256).toNat
def fillL (x : Int) : List UInt8 := List.replicate 128 (fillB x)
def part (c : UInt8) (k : Nat) : List UInt8 := List.replicate k c ++ List.replicate (128 - k) 0
theorem part_len (c : UInt8) (k : Nat) (h : k ≤ 128) : (part c k).length = 128 := by simp [part]; omega
theorem part_set (c : UInt8) (k : Nat) (h : k < 128) : (part c k).set k c = part c (k + 1) := by
  unfold part
  rw [List.set_append_right _ _ (by simp)]
  simp only [List.length_replicate, Nat.sub_self]
  rw [show 128 - k = (128 - (k + 1)) + 1 by omega, List.replicate_succ, List.set_cons_zero, List.replicate_succ', List.append_assoc]
  rfl
theorem part_z (c : UInt8) : part c 0 = zc := by simp [part, zc]
theorem part_all (c : UInt8) : part c 128 = List.replicate 128 c := by simp [part]
theorem set_part {w : World} {g : Nat} {c : UInt8} {k : Nat} (h : w.heap[g]? = some (.cells (bcells (part c k)).toArray 5 (0, 0))) (hk : k < 128) : (w.setCell ⟨g, k, none⟩ (cellB c)).heap[g]? = some (.cells (bcells (part c (k + 1))).toArray 5 (0, 0)) := by
  rw [← part_set c k hk, heap_setCell_same w g k _ _ _ h]
  simp [bcells, List.map_set]
theorem thaw {w : World} {g : Nat} {cs : Array Value} {t : TypeId} (h : w.heap[g]? = some (.cells cs t (0, 0))) (k : Nat) : w.frozen? ⟨g, k, none⟩ = false := by simp [World.frozen?, h]
theorem info_U : (Tryd.prog.info? 5).map (fun i => (i.zero, i.size, i.bytes)) = some (some (.int .u8 0), 1, 1) := by kernel_rfl
theorem size_U (w : World) : (sizeOf 5).run Tryd.prog w = .ok 1 w := by kernel_rfl
theorem idx_U (g c n i : Nat) (hi : i < n) (w : World) : (Instr.indexAt 32 (.slice (some ⟨g, 0, none⟩) n c) (.int .i64 (i : Int))).run Tryd.prog w = .ok (.pointer (some ⟨g, i, none⟩)) w := by
  have e := idx_slice 32 5 1 Tryd.underlying32 size_U g 0 n c i hi w
  rw [Nat.zero_add, Nat.mul_one] at e
  exact e
theorem made_128 : madeCells #[.int .u8 0] 128 = (bcells zc).toArray := by
  rw [zc_cells]
  kernel_rfl
theorem make_128 (w : World) : (Instr.makeSlice 32 (.int .i64 128) (.int .i64 128)).run Tryd.prog w = .ok (.slice (some ⟨w.heap.size, 0, none⟩) 128 128) (w.alloc (.cells (bcells zc).toArray 5)) := by
  rw [← made_128]
  exact run_make_row' (P := Tryd.prog) 32 5 (.int .u8 0) 1 Tryd.underlying32 info_U rfl .i64 .i64 128 (by omega) (by omega) w
theorem below_set {w wr : World} (h : Below w.heap.size w wr) (g k : Nat) (hg : w.heap.size ≤ g) (v : Value) : Below w.heap.size w (wr.setCell ⟨g, k, none⟩ v) :=
  ⟨h.os, h.tape, h.output, by rw [show (wr.setCell ⟨g, k, none⟩ v).heap.size = wr.heap.size by simp]; exact h.size, fun q hq => (Below.heap_setCell _ _ _ _ (by show q ≠ g; omega)).trans (h.block q hq)⟩
set_option maxRecDepth 100000 in
set_option maxHeartbeats 800000 in
theorem filled_any (x : Int) (w : World) : Calls Tryd.prog 11 #[.int .i64 x] w fun e w' => e = .returned (.slice (some ⟨w.heap.size, 0, none⟩) 128 128) ∧ w'.heap[w.heap.size]? = some (.cells (bcells (fillL x)).toArray 5 (0, 0)) ∧ Below w.heap.size w w' := by
  have hmk := make_128 w
  have hr0 : (w.alloc (.cells (bcells zc).toArray 5)).heap[w.heap.size]? = some (.cells (bcells (part (fillB x) 0)).toArray 5 (0, 0)) := by rw [part_z]; exact heap1_0 _ _
  have hb0 := below_alc w (.cells (bcells zc).toArray 5)
  go_enter Tryd.func11, Tryd.ntmps11
  go_upto_region 2 with (fail)
  refine wp_world (fun W => W.heap[w.heap.size]? = some (.cells (bcells (part (fillB x) 0)).toArray 5 (0, 0)) ∧ Below w.heap.size w W) ⟨hr0, hb0⟩ ?_
  clear hr0 hb0 hmk
  rintro W ⟨hr0, hb0⟩
  go_wp2_with fail
  go_loopw [4] (fun i wr => ∃ k : Nat, i = .int .i64 k ∧ k ≤ 128 ∧ wr.heap[w.heap.size]? = some (.cells (bcells (part (fillB x) k)).toArray 5 (0, 0)) ∧ Below w.heap.size w wr) (fun i _ => 128 - (intOf i).toNat)
  case atStart => exact ⟨0, rfl, by omega, hr0, hb0⟩
  case round =>
    clear hr0 hb0
    obtain ⟨k, rfl, hk128, hH, hB⟩ := hrel
    by_cases hk : k < 128
    · have hlt : decide (k < 128) = true := by simpa using hk
      have hcell : ∃ u, wr.cell? ⟨w.heap.size, k, none⟩ = some u := ⟨_, by simpa using range_new hH k _ (List.getElem?_eq_getElem (by rw [bcells_len, part_len _ _ hk128]; exact hk))⟩
      obtain ⟨u, hcell⟩ := hcell
      have HS := Lib.hid (set_part hH hk)
      have HB := Lib.hid (below_set hB w.heap.size k (Nat.le_refl _) (cellB (fillB x)))
      go_upto_region 5 with (fail)
      refine wp_region_lit ?_
      refine wpList_run (by kernel_rfl) (.slice (some ⟨w.heap.size, 0, none⟩) 128 128) (wr) (exec_move rfl (by kernel_rfl)) ?_
      refine wpList_run (by kernel_rfl) (.int .i64 (k : Int)) (wr) (exec_move rfl (by kernel_rfl)) ?_
      refine wpList_run (by kernel_rfl) (.int .i64 x) (wr) (exec_move rfl (by kernel_rfl)) ?_
      refine wpList_run (by kernel_rfl) (cellB (fillB x)) (wr) (exec_cvt (vx := .int .i64 x) rfl (by kernel_rfl) (cvt_u8 x wr)) ?_
      simp only [put_list, List.set_cons_zero, List.set_cons_succ]
      refine wpList_run (by kernel_rfl) (.pointer (some ⟨w.heap.size, k, none⟩)) (wr) (exec_index (vx := .slice (some ⟨w.heap.size, 0, none⟩) 128 128) (vy := .int .i64 (k : Int)) rfl (by kernel_rfl) (idx_U w.heap.size 128 128 k hk wr)) ?_
      refine wpList_skip rfl ((wr.setCell ⟨w.heap.size, k, none⟩ (cellB (fillB x)))) (exec_store (vx := .pointer (some ⟨w.heap.size, k, none⟩)) (vy := cellB (fillB x)) rfl (by kernel_rfl) (store_u8 _ _ _ hcell (thaw hH k) (fillB x))) ?_
      refine wpList_nil ?_
      simp only [put_list, put_none, List.set_cons_zero, List.set_cons_succ]
      clear hH hcell
      go_wp2_with fail
      go_roundw
      case rel => exact ⟨k + 1, by go_num, by omega, HS.out, HB.out⟩
      case measure => simp [intOf]; omega
    · have hk' : k = 128 := by omega
      subst hk'
      rw [part_all] at hH
      go_wp2_with fail
      go_ret
      exact ⟨rfl, hH, hB⟩
end Go.Proofs.YtionjhlllpipjaaDoor
