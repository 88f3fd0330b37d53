import Derived.Test.YtklooieghlnblaaSkw
import Derived.Test.YtklooieghlnblaaNum
/-
  skip: the chapter's examples (first); both stores, side by side.
-/
namespace Go.Proofs.Ytklooieghlnblaa
open Go.RowKit

theorem own_shape1 {w : World} {base : Nat} {v : Value} {E : Ent} (h : w.ownsRow base 46 65 v [E].length (cells [E])) : ∃ A c, v = .slice A 1 c := own_shape h
theorem put_nil (e : Ent) : putL [] e = [e] := by simp [putL]
theorem Mod.below_of {n B o : Nat} {row : Option Nat} {w0 w w' : World} (h : Mod B o row w w') (hb : Below n w0 w) (hn : n ≤ w.heap.size) (hB : n ≤ B) (hr : ∀ k, row = some k → n ≤ k) : Below n w0 w' :=
  hb.trans ⟨h.os, h.tape, h.output, h.size, fun k hk => h.block k (by omega) (by omega) (fun e => by have := hr k e.symm; omega)⟩
theorem Mod.cellsOf {B o : Nat} {row : Option Nat} {w w' : World} (h : Mod B o row w w') {b j : Nat} (hb : b < w.heap.size) (h1 : b ≠ B) (h2 : some b ≠ row) : w'.cell? ⟨b, j, none⟩ = w.cell? ⟨b, j, none⟩ := World.cell?_of_block (h.block b hb h1 h2)
def key1 (b : UInt8) : List UInt8 := b :: List.replicate 31 0
theorem key1_len (b : UInt8) : (key1 b).length = 32 := by simp [key1]
theorem build_1 (w : World) : (Instr.build 31 #[(0, .int .u8 1)]).run Try.prog w = .ok (.agg ((key1 1).map cellB).toArray) w := by kernel_rfl
theorem build_3 (w : World) : (Instr.build 31 #[(0, .int .u8 3)]).run Try.prog w = .ok (.agg ((key1 3).map cellB).toArray) w := by kernel_rfl
theorem find_13 : findK [⟨key1 1, key1 3, 2, key1_len 1, key1_len 3⟩] (Ent.is (key1 1) 2) = key1 3 ∧ [⟨key1 1, key1 3, 2, key1_len 1, key1_len 3⟩].any (Ent.is (key1 1) 2) = true := by
  constructor <;> rfl
theorem sk_new (w : World) (n : Nat) : SkAt (w.alloc (.cells #[.slice none 0 0] 26)) n w.heap.size 0 (.slice none 0 0) [] := by
  refine ⟨range_new (heap1_0 _ _) 0 _ rfl, ?_, World.ownsRow_nil _ _ _ _, by simp [Value.ownBlock]⟩
  show World.frozen? _ ⟨w.heap.size, 0, none⟩ = false
  unfold World.frozen?
  rw [heap1_0]
  rfl
theorem own_lt {w : World} {n B o : Nat} {v : Value} {es : List Ent} (h : SkAt w n B o v es) : ∀ k, v.ownBlock = some k → n ≤ k := fun k hk => (h.own.lt k hk).1
set_option maxRecDepth 100000 in
set_option maxHeartbeats 1600000 in
theorem first_any (w : World) : Calls Try.prog 6 #[] w fun e w' => e = .returned (.bool true) ∧ Below w.heap.size w w' := by
  have h0 := sk_new w w.heap.size
  go_enter Try.func6, Try.ntmps6
  go_upto_region 2 with (fail)
  refine wp_world (fun W => SkAt W w.heap.size w.heap.size 0 (.slice none 0 0) [] ∧ Below w.heap.size w W) ⟨h0, below_alc _ _⟩ ?_
  clear h0
  rintro W ⟨hs, hb⟩
  have hal := all_any [] (by simp) w.heap.size w.heap.size 0 _ W hs
  have HS := Lib.hid hs
  clear hs
  go_upto_region 4 with (go_at_call 12; refine hal.mono ?_; rintro e W1 ⟨v1, rfl, ho1, hb1⟩; obtain ⟨A1, c1, rfl⟩ := own_shape ho1; clear ho1)
  have hb1' := below_tr hb hb1
  have hs1 := HS.out.below hb1
  have hsz1 := hb1'.size
  clear hb hb1 hal
  refine wp_region_lit ?_
  refine wpList_run (by kernel_rfl) (.agg ((key1 1).map cellB).toArray) (W1) (exec_build (vs := #[(0, Go.Value.int Go.IntKind.u8 1)]) rfl (by kernel_rfl) (build_1 _)) ?_
  refine wpList_run (by kernel_rfl) (.agg ((key1 3).map cellB).toArray) (W1) (exec_build (vs := #[(0, Go.Value.int Go.IntKind.u8 3)]) rfl (by kernel_rfl) (build_3 _)) ?_
  refine wpList_call (by kernel_rfl) 13 #[Go.Operand.tmp 1, Go.Operand.tmp 7, Go.Operand.const (Go.Value.int Go.IntKind.u32 2), Go.Operand.tmp 8] #[26, 31, 36, 31] #[.pointer (some ⟨w.heap.size, 0, none⟩), .agg ((key1 1).map cellB).toArray, Go.Value.int Go.IntKind.u32 2, .agg ((key1 3).map cellB).toArray] _ rfl (by kernel_rfl) (by kernel_rfl) (put_any [] (key1 1) (key1 3) 2 (key1_len 1) (key1_len 3) (by simp) w.heap.size w.heap.size 0 _ W1 hsz1 hs1) ?_
  rintro e W2 ⟨rfl, v2, hs2, hm2, hq2⟩
  rw [put_nil] at hs2
  refine ⟨_, rfl, ?_⟩
  refine wpList_nil ?_
  simp only [put_list, List.set_cons_zero, List.set_cons_succ]
  have hb2 := hm2.below_of hb1' hsz1 (Nat.le_refl _) (by simp [Value.ownBlock])
  have hsz2 := hb2.size
  have hfn := find_any [⟨key1 1, key1 3, 2, key1_len 1, key1_len 3⟩] (key1 1) 2 (key1_len 1) (by simp) w.heap.size w.heap.size 0 v2 W2 hs2
  rw [find_13.1, find_13.2] at hfn
  have HS2 := Lib.hid hs2
  clear hs1 hm2 hq2 hs2 hb1' hsz1
  have hk3 := key_size (key1 3) (key1_len 3)
  have hz3 := key_size zkey (by simp [zkey])
  go_upto_region 6 with (first | (refine wpList_buildV rfl 31 _ rfl #[(0, .int .u8 1)] (by kernel_rfl) _ build_1 ?_) | (go_at_call 15; refine hfn.mono ?_; rintro e W3 ⟨rfl, hb3⟩; clear hfn) | (refine wpList_allocV rfl 31 rfl (zkey.map cellB).toArray (fun _ => by kernel_rfl) ?_) | (refine wpList_store_row rfl 31 _ _ rfl _ _ rfl rfl _ _ (heap_alloc_new _ _) (by rw [hk3]; exact info_key) (by rw [hk3, hz3]) (cellB_one _) ?_; rw [alloc_setRow]))
  obtain ⟨W4, hW4⟩ : ∃ W4, W4 = W3.alloc (.cells ((key1 3).map cellB).toArray 31) := ⟨_, rfl⟩
  rw [← hW4]
  have hb34 : Below W3.heap.size W3 W4 := by rw [hW4]; exact below_alc _ _
  have hr4 : W4.rangeAt W3.heap.size 0 ((key1 3).map cellB) := by rw [hW4]; exact range_new (heap1_0 _ _)
  have hb24 := below_tr hb3 hb34
  have hs4 := HS2.out.below hb24
  have hb4 := below_tr hb2 hb24
  have hld := load_row 31 W3.heap.size 0 ((key1 3).map cellB) _ Try.underlying31 rfl (by rw [List.length_map, key1_len]; exact info_key) W4 hr4
  obtain ⟨X, hX⟩ : ∃ X, X = W3.heap.size := ⟨_, rfl⟩
  rw [← hX] at hld ⊢
  clear hW4 hb34 hr4 hb24 hb3 hb2 hX HS2
  refine wp_region_lit ?_
  refine wpList_run (by kernel_rfl) (.bool true) (W4) (exec_move rfl (by kernel_rfl)) ?_
  refine wpList_run (by kernel_rfl) (.bool true) (W4) (exec_move rfl (by kernel_rfl)) ?_
  refine wpList_runG (by kernel_rfl) (.agg ((key1 3).map cellB).toArray) (W4) (exec_load (vx := .pointer (some ⟨X, 0, none⟩)) rfl (by kernel_rfl) (hld)) ?_
  refine wpList_runG (by kernel_rfl) (.agg ((key1 3).map cellB).toArray) (W4) (exec_build (vs := #[(0, Go.Value.int Go.IntKind.u8 3)]) rfl (by kernel_rfl) (build_3 _)) ?_
  simp only [put_list, List.set_cons_zero, List.set_cons_succ]
  refine wpList_runG (by kernel_rfl) (.bool true) (W4) (exec_eqrow (cx := ((key1 3).map cellB).toArray) (cy := ((key1 3).map cellB).toArray) (b := true) (.inl rfl) rfl (by kernel_rfl) (by kernel_rfl) (eq_key _ _ _ (key1_len 3) (key1_len 3) true (by simp))) ?_
  refine wpList_run (by kernel_rfl) (.bool true) (W4) (exec_pick (b := true) rfl (by kernel_rfl) (by kernel_rfl)) ?_
  refine wpList_run (by kernel_rfl) (.bool true) (W4) (exec_move rfl (by kernel_rfl)) ?_
  have hal2 := all_any _ (by simp) w.heap.size w.heap.size 0 v2 W4 hs4
  refine wpList_call (by kernel_rfl) 12 #[Go.Operand.tmp 1] #[26] #[.pointer (some ⟨w.heap.size, 0, none⟩)] _ rfl (by kernel_rfl) (by kernel_rfl) (hal2) ?_
  rintro e W5 ⟨v5, rfl, ho5, hb5⟩
  obtain ⟨A5, c5, hv5⟩ := own_shape1 ho5
  clear ho5
  subst hv5
  refine ⟨_, rfl, ?_⟩
  refine wpList_runG (by kernel_rfl) (.int .i64 1) (W5) (exec_len (x := Go.Operand.tmp 22) (t := 24) (ty := 3) (vx := .slice A5 1 c5) (by kernel_rfl) (by kernel_rfl) (by kernel_rfl) (by kernel_rfl)) ?_
  refine wpList_runG (by kernel_rfl) (.bool true) (W5) (exec_bin (vx := .int .i64 1) (vy := Go.Value.int Go.IntKind.i64 1) rfl (by kernel_rfl) (by kernel_rfl)) ?_
  simp only [put_list, List.set_cons_zero, List.set_cons_succ]
  refine wpList_run (by kernel_rfl) (.bool true) (W5) (exec_pick (b := true) rfl (by kernel_rfl) (by kernel_rfl)) ?_
  refine wpList_run (by kernel_rfl) (.bool true) (W5) (exec_assign rfl (by kernel_rfl)) ?_
  refine wpList_nil ?_
  simp only [put_list, List.set_cons_zero, List.set_cons_succ]
  go_wp2_with fail
  go_ret
  exact ⟨rfl, below_tr hb4 hb5⟩
end Go.Proofs.Ytklooieghlnblaa
