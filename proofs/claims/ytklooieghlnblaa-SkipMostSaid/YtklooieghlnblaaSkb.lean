import Derived.Test.YtklooieghlnblaaSka
/-
  skip's entries: the closure that asks.
-/
namespace Go.Proofs.Ytklooieghlnblaa
open Go.RowKit

theorem ceT_len (d k : List UInt8) (n : Int) (hd : d.length = 32) (hk : k.length = 32) : (ceT d k n).length = 65 := by simp [ceT, hd, hk]
theorem heap1_0 (w : World) (a : Obj) : (w.alloc a).heap[w.heap.size]? = some a := by
  show (w.heap.push a)[w.heap.size]? = some a
  rw [Array.getElem?_push, if_pos rfl]
set_option maxRecDepth 100000 in
set_option maxHeartbeats 800000 in
theorem clos_any (d k q : List UInt8) (n m : Int) (hd : d.length = 32) (hk : k.length = 32) (hq : q.length = 32) (bq bm : Nat) (w : World) (hrq : w.rangeAt bq 0 (q.map cellB)) (hlq : bq < w.heap.size) (hm : w.cell? ⟨bm, 0, none⟩ = some (.int .u32 m)) (hlm : bm < w.heap.size) : Calls Try.prog 23 #[.agg (ceT d k n).toArray, .pointer (some ⟨bq, 0, none⟩), .pointer (some ⟨bm, 0, none⟩)] w fun e w' => e = .returned (.bool (decide (n = m) && (d == q))) ∧ Below w.heap.size w w' := by
  go_enter Try.func23, Try.ntmps23
  go_upto_region 1 with (fail)
  have hba : Below w.heap.size w (w.alloc (Obj.cells (ceT d k n).toArray 46)) := (Below.refl _ _).alloc (Nat.le_refl _) _
  refine wp_world (fun W => W.rangeAt w.heap.size 0 (ceT d k n) ∧ W.rangeAt bq 0 (q.map cellB) ∧ W.cell? ⟨bm, 0, none⟩ = some (.int .u32 m) ∧ w.heap.size < W.heap.size ∧ Below w.heap.size w W) ⟨range_new (heap1_0 _ _), rangeAt_below hrq hba hlq, (hba.cell (p := ⟨bm, 0, none⟩) hlm).trans hm, by simp, hba⟩ ?_
  clear hrq hm hba
  rintro W ⟨hr, hrq, hm, hlt, hB⟩
  have HB := Lib.hid hB
  clear hB
  generalize hS : w.heap.size = B at *
  have HS := Lib.hid hS
  clear hS
  replace hlq : bq < W.heap.size := by omega
  replace hlm : bm < W.heap.size := by omega
  refine wp_region_text [Sp.k 0 (some 5) [] (.agg (ceT d k n).toArray),
    Sp.k 1 (some 6) [] (.agg (q.map cellB).toArray),
    Sp.k 2 (some 7) [] (.int .u32 m),
    Sp.k 3 (some 8) [0, 1, 2] (.bool (decide (n = m) && (d == q))),
    Sp.k 4 (some 4) [3] (.bool (decide (n = m) && (d == q)))] (by kernel_rfl)
    ⟨owes_load 0 (some 5) [] (.agg (ceT d k n).toArray) 46 (Go.Operand.tmp 3) (.pointer (some ⟨B, 0, none⟩)) (fun v => by kernel_rfl) (fun v => by kernel_rfl) (fun w' hb => load_row 46 B 0 (ceT d k n) _ Try.underlying46 rfl (by rw [ceT_len d k n hd hk]; kernel_rfl) w' (rangeAt_below hr hb hlt)),
    owes_load 1 (some 6) [] (.agg (q.map cellB).toArray) 31 (Go.Operand.tmp 1) (.pointer (some ⟨bq, 0, none⟩)) (fun v => by kernel_rfl) (fun v => by kernel_rfl) (fun w' hb => load_row 31 bq 0 (q.map cellB) _ Try.underlying31 rfl (by rw [List.length_map, hq]; kernel_rfl) w' (rangeAt_below hrq hb hlq)),
    owes_load 2 (some 7) [] (.int .u32 m) 36 (Go.Operand.tmp 2) (.pointer (some ⟨bm, 0, none⟩)) (fun v => by kernel_rfl) (fun v => by kernel_rfl) (fun w' hb => ld_u32 _ _ _ w' ((hb.cell (p := ⟨bm, 0, none⟩) hlm).trans hm)),
    owes_call 3 (some 8) [0, 1, 2] (.bool (decide (n = m) && (d == q))) 24 #[Go.Operand.tmp 5, Go.Operand.tmp 6, Go.Operand.tmp 7] #[46, 31, 36] (fun v => by kernel_rfl) (fun _ _ => by kernel_rfl) (fun v w' hb ho => by
        exact ⟨#[.agg (ceT d k n).toArray, .agg (q.map cellB).toArray, .int .u32 m], by kernel_rfl, (is_any d k q n m hd hk hq w').mono (fun _ _ h => h)⟩),
    owes_assign 4 (some 4) [3] (.bool (decide (n = m) && (d == q))) (Go.Operand.tmp 8) (fun v => by kernel_rfl) (fun v => by kernel_rfl), trivial⟩ ?_
  intro v w1 hb1 hall
  clear hall
  simp only [putsL_k, putsL_nil, List.set_cons_zero, List.set_cons_succ]
  go_wp2_with fail
  go_ret
  refine ⟨rfl, ?_⟩
  rw [HS.out]
  exact HB.out.trans (hb1.mono (Nat.le_of_lt hlt))
end Go.Proofs.Ytklooieghlnblaa
