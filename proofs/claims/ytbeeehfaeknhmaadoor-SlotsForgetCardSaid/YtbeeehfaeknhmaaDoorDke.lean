import Derived.Test.YtbeeehfaeknhmaaDoorDkd
/-
  disk: a sector of one byte.
-/
namespace Go.Proofs.YtbeeehfaeknhmaaDoor
open Go.RowKit

def fillB (x : Int) : UInt8 := UInt8.ofNat (x % 256).toNat
def fillL (x : Int) : List UInt8 := List.replicate 128 (fillB x)
def part (c : UInt8) (k : Nat) : List UInt8 := List.replicate k c ++ List.replicate (128 - k) 0
theorem part_len (c : UInt8) (k : Nat) (h : k ≤ 128) : (part c k).length = 128 := by simp [part]; omega
theorem part_set (c : UInt8) (k : Nat) (h : k < 128) : (part c k).set k c = part c (k + 1) := by
  unfold part
  rw [List.set_append_right _ _ (by simp)]
  simp only [List.length_replicate, Nat.sub_self]
  rw [show 128 - k = (128 - (k + 1)) + 1 by omega, List.replicate_succ, List.set_cons_zero, List.replicate_succ', List.append_assoc]
  rfl
theorem part_z (c : UInt8) : part c 0 = zc := by simp [part, zc]
theorem part_all (c : UInt8) : part c 128 = List.replicate 128 c := by simp [part]
theorem set_part {w : World} {g : Nat} {c : UInt8} {k : Nat} (h : w.heap[g]? = some (.cells (bcells (part c k)).toArray 5 (0, 0))) (hk : k < 128) : (w.setCell ⟨g, k, none⟩ (cellB c)).heap[g]? = some (.cells (bcells (part c (k + 1))).toArray 5 (0, 0)) := by
  rw [← part_set c k hk, heap_setCell_same w g k _ _ _ h]
  simp [bcells, List.map_set]
theorem thaw {w : World} {g : Nat} {cs : Array Value} {t : TypeId} (h : w.heap[g]? = some (.cells cs t (0, 0))) (k : Nat) : w.frozen? ⟨g, k, none⟩ = false := by simp [World.frozen?, h]
theorem info_U : (Tryd.prog.info? 5).map (fun i => (i.zero, i.size, i.bytes)) = some (some (.int .u8 0), 1, 1) := by kernel_rfl
theorem size_U (w : World) : (sizeOf 5).run Tryd.prog w = .ok 1 w := by kernel_rfl
theorem idx_U (g c n i : Nat) (hi : i < n) (w : World) : (Instr.indexAt 41 (.slice (some ⟨g, 0, none⟩) n c) (.int .i64 (i : Int))).run Tryd.prog w = .ok (.pointer (some ⟨g, i, none⟩)) w := by
  have e := idx_slice 41 5 1 Tryd.underlying41 size_U g 0 n c i hi w
  rw [Nat.zero_add, Nat.mul_one] at e
  exact e
theorem made_128 : madeCells #[.int .u8 0] 128 = (bcells zc).toArray := by
  rw [zc_cells]
  kernel_rfl
theorem make_128 (w : World) : (Instr.makeSlice 41 (.int .i64 128) (.int .i64 128)).run Tryd.prog w = .ok (.slice (some ⟨w.heap.size, 0, none⟩) 128 128) (w.alloc (.cells (bcells zc).toArray 5)) := by
  rw [← made_128]
  exact run_make_row' (P := Tryd.prog) 41 5 (.int .u8 0) 1 Tryd.underlying41 info_U rfl .i64 .i64 128 (by omega) (by omega) w
theorem below_set {w wr : World} (h : Below w.heap.size w wr) (g k : Nat) (hg : w.heap.size ≤ g) (v : Value) : Below w.heap.size w (wr.setCell ⟨g, k, none⟩ v) :=
  ⟨h.os, h.tape, h.output, by rw [show (wr.setCell ⟨g, k, none⟩ v).heap.size = wr.heap.size by simp]; exact h.size, fun q hq => (Below.heap_setCell _ _ _ _ (by show q ≠ g; omega)).trans (h.block q hq)⟩
end Go.Proofs.YtbeeehfaeknhmaaDoor
