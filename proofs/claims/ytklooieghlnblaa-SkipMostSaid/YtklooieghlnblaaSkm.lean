import Derived.Test.YtklooieghlnblaaSko
import Derived.Lib.LazyBuf
/-
  SkipMost: the walk.
-/
namespace Go.Proofs.Ytklooieghlnblaa
open Go.RowKit

def E7 (i : Nat) : Ent := ⟨key1 7, keyOf (i : Int), (i : Int), key1_len 7, keyOf_len _⟩
/-- the store behind k entries -/
def st (k : Nat) : List Ent := ((List.range k).drop (k - 40)).map E7
theorem st_len (k : Nat) : (st k).length ≤ 40 := by
  unfold st
  rw [List.length_map, List.length_drop, List.length_range]
  omega
theorem st_40 (M : Nat) : (st (40 + M)).length = 40 := by
  unfold st
  rw [List.length_map, List.length_drop, List.length_range]
  omega
theorem st_mem {k : Nat} {e : Ent} (h : e ∈ st k) : ∃ i, i < k ∧ k - 40 ≤ i ∧ e = E7 i := by
  obtain ⟨i, hi, rfl⟩ := List.mem_map.1 h
  obtain ⟨j, hj, rfl⟩ := List.getElem_of_mem hi
  simp only [List.length_drop, List.length_range] at hj
  exact ⟨_, by simp; omega, by simp, rfl⟩
theorem st_put (k : Nat) : putL (st k) (E7 k) = st (k + 1) := by
  have hno : ∀ a ∈ st k, ¬ a.is (E7 k).d (E7 k).n = true := fun a ha => by
    obtain ⟨i, hi, _, rfl⟩ := st_mem ha
    rw [is_iff]
    intro hc
    have : (i : Int) = (k : Int) := hc.1
    omega
  have hl : (st k).length = min k 40 := by simp [st]; omega
  unfold putL
  rw [List.eraseP_of_forall_not hno]
  by_cases h : (st k).length = 40
  · rw [if_pos h]
    have hk : 40 ≤ k := by omega
    unfold st
    rw [List.range_succ, show k + 1 - 40 = (k - 40) + 1 by omega, List.drop_append_of_le_length (by simp; omega), List.map_append, List.eraseIdx_zero, ← List.map_tail, List.tail_drop]
    rfl
  · rw [if_neg h]
    have hk : k < 40 := by omega
    unfold st
    rw [List.range_succ, show k + 1 - 40 = 0 by omega, show k - 40 = 0 by omega, List.drop_zero, List.drop_zero, List.map_append]
    rfl
theorem st_get (M j : Nat) (hj : j < 40) : (st (40 + M))[j]? = some (E7 (M + j)) := by
  unfold st
  rw [show 40 + M - 40 = M by omega, List.getElem?_map, List.getElem?_drop, List.getElem?_range (by omega)]
  rfl
theorem st_nk (k : Nat) : NK (st k) := by
  unfold NK st
  rw [List.pairwise_map]
  refine List.Pairwise.sublist (List.drop_sublist _ _) ?_
  refine List.Pairwise.imp ?_ List.pairwise_lt_range
  intro a b hab hc
  have : (b : Int) = (a : Int) := hc.1
  omega
theorem st_cons (M : Nat) : ∃ l, st (40 + M) = E7 M :: l := by
  have h := st_get M 0 (by omega)
  cases hs : st (40 + M) with
  | nil => rw [hs] at h; simp at h
  | cons a l => rw [hs] at h; simp at h; exact ⟨l, by rw [h]⟩
theorem E7_is (M : Nat) : (E7 M).is (key1 7) (M : Int) = true := by rw [is_iff]; exact ⟨rfl, rfl⟩
theorem st_has (M : Nat) : findK (st (40 + M)) (Ent.is (key1 7) (M : Int)) = keyOf (M : Int) ∧ (st (40 + M)).any (Ent.is (key1 7) (M : Int)) = true := by
  obtain ⟨l, hl⟩ := st_cons M
  rw [hl]
  constructor
  · simp only [findK, List.find?_cons, E7_is]
    rfl
  · simp only [List.any_cons, E7_is, Bool.true_or]
theorem st_twice (M : Nat) : ((st (40 + M)).eraseP (Ent.is (key1 7) (M : Int))).any (Ent.is (key1 7) (M : Int)) = false := by
  rw [List.any_eq_false]
  intro x hx
  simp [erase_no (st_nk _) x hx]
theorem st_gone (M R : Nat) (hR : R ≤ M ∧ M < 30) : findK (st (40 + M)) (Ent.is (key1 7) (IntKind.u32.wrap ((R : Int) - 1))) = zkey ∧ (st (40 + M)).any (Ent.is (key1 7) (IntKind.u32.wrap ((R : Int) - 1))) = false := by
  have hw : IntKind.u32.wrap ((R : Int) - 1) = ((R : Int) - 1) % 4294967296 := by rw [IntKind.wrap_u32]
  have hno : ∀ x ∈ st (40 + M), x.is (key1 7) (IntKind.u32.wrap ((R : Int) - 1)) = false := fun x hx => by
    obtain ⟨i, h1, h2, rfl⟩ := st_mem hx
    rw [← Bool.not_eq_true, is_iff, hw]
    intro hc
    have : (i : Int) = ((R : Int) - 1) % 4294967296 := hc.1
    omega
  constructor
  · unfold findK
    rw [List.find?_eq_none.2 fun x hx => by simp [hno x hx]]
  · rw [List.any_eq_false]
    intro x hx
    simp [hno x hx]
theorem build_7 (w : World) : (Instr.build 31 #[(0, .int .u8 7)]).run Try.prog w = .ok (.agg ((key1 7).map cellB).toArray) w := by kernel_rfl
theorem build_9 (w : World) : (Instr.build 31 #[(0, .int .u8 9)]).run Try.prog w = .ok (.agg ((key1 9).map cellB).toArray) w := by kernel_rfl
theorem build_0 (w : World) : (Instr.build 31 #[]).run Try.prog w = .ok (.agg (zkey.map cellB).toArray) w := by kernel_rfl
theorem sub_u32 (t : TypeId) (x y : Operand) (a : Int) (w : World) : (do eqGuard .sub t x y (.int .u32 a) (.int .u32 1); binOp .sub t (.int .u32 a) (.int .u32 1) : Sem Value).run Try.prog w = .ok (.int .u32 (IntKind.u32.wrap (a - 1))) w := by
  simp [eqGuard, binOp, Op.intArith]
theorem len_40 (A : Option Addr) (c : Nat) (ty : TypeId) (w : World) : (Builtin.len_ #[24] ty #[.slice A 40 c]).run Try.prog w = .ok (.int .i64 40) w := by kernel_rfl
/-- what is left of all's row: from entry j on -/
structure RowFrom (w : World) (ga p M j : Nat) : Prop where
  row : ∀ i, j ≤ i → i < 40 → w.rangeAt ga (p + 65 * i) (E7 (M + i)).ce
  free : ∀ o, w.frozen? ⟨ga, o, none⟩ = false
theorem RowFrom.below {w w' : World} {ga p M j : Nat} (h : RowFrom w ga p M j) (hb : Below w.heap.size w w') (hg : ga < w.heap.size) : RowFrom w' ga p M j :=
  ⟨fun i h1 h2 => rangeAt_below (h.row i h1 h2) hb hg, fun o => (hb.frozen (p := ⟨ga, o, none⟩) hg).trans (h.free o)⟩
theorem RowFrom.parts {w : World} {ga p M j : Nat} (h : RowFrom w ga p M j) (hj : j < 40) : w.rangeAt ga (p + 65 * j + 32) ((keyOf ((M + j : Nat) : Int)).map cellB) ∧ w.cell? ⟨ga, p + 65 * j + 64, none⟩ = some (.int .u32 ((M + j : Nat) : Int)) := by
  have hr := h.row j (Nat.le_refl _) hj
  obtain ⟨_, s2, s3⟩ := ce_sub (E7 (M + j))
  refine ⟨fun i u hu => ?_, ?_⟩
  · have := hr _ u (s2 i u hu)
    rw [show p + 65 * j + 32 + i = p + 65 * j + (32 + i) by omega]
    exact this
  · exact hr 64 _ s3
theorem RowFrom.there {w : World} {ga p M j : Nat} (h : RowFrom w ga p M j) (hj : j < 40) : w.there ga (p + 65 * j + 32) (zkey.map cellB).toArray.size := by
  intro i hi
  have hi' : i < 32 := by simpa [zkey] using hi
  have hp := (h.parts hj).1 i
  have hl : ((keyOf ((M + j : Nat) : Int)).map cellB).length = 32 := by rw [List.length_map, keyOf_len]
  have := hp _ (List.getElem?_eq_getElem (by omega))
  exact ⟨by rw [this]; rfl, h.free _⟩
theorem RowFrom.next {w : World} {ga p M j : Nat} (h : RowFrom w ga p M j) : RowFrom (w.setCells ga (p + 65 * j + 32) (zkey.map cellB).toArray.toList) ga p M (j + 1) :=
  ⟨fun i h1 h2 => World.rangeAt_setCells_apart (h.row i (by omega) h2) _ _ _ (.inr (.inr (by simp [zkey]; omega))), fun o => by rw [World.frozen?_setCells]; exact h.free o⟩
theorem row_from {w : World} {base ga ca M : Nat} (h : w.ownsRow base 46 65 (.slice (some ⟨ga, 0, none⟩) 40 ca) 40 (cells (st (40 + M)))) : RowFrom w ga 0 M 0 := by
  have hrow := row_cells (es := st (40 + M)) (by rw [st_40]; exact h)
  refine ⟨fun i _ hi j u hu => ?_, fun o => ?_⟩
  · have h40 := st_40 M
    have hg := st_get M i hi
    have he : (st (40 + M))[i]! = E7 (M + i) := by simp [List.getElem!_eq_getElem?_getD, hg]
    have := hrow i (by omega) j u (by rw [he]; exact hu)
    rw [show 0 + 65 * i + j = 0 + i * 65 + j by omega]
    exact this
  · rcases h.2 with ⟨hv, _⟩ | ⟨g, c, cur, hv, _, hg, _⟩
    · cases hv
    · simp only [Value.slice.injEq, Option.some.injEq, Addr.mk.injEq, and_true, true_and] at hv
      obtain ⟨rfl, _⟩ := hv
      simp [World.frozen?, hg]
theorem heap_size_setCells (w : World) (g o : Nat) (vs : List Value) : (w.setCells g o vs).heap.size = w.heap.size := by
  induction vs generalizing w o with
  | nil => rfl
  | cons v vs ih =>
    show ((w.setCell ⟨g, o, none⟩ v).setCells g (o + 1) vs).heap.size = _
    rw [ih]
    simp [World.setCell]
set_option maxRecDepth 100000 in
set_option maxHeartbeats 3200000 in
theorem most_walk (n0 more : Int) (w : World) :
    Calls Try.prog 4 #[.int .i64 n0, .int .i64 more] w fun e w' => e = .returned (.bool true) ∧ Below w.heap.size w w' := by
  obtain ⟨M, hM, hMl⟩ := exists_mod n0 30 (by omega)
  have HM := Lib.hid hM
  clear hM
  go_enter Try.func4, Try.ntmps4
  go_wp2_with fail
  refine (first_any w).mono ?_
  rintro e wq ⟨rfl, hbq⟩
  go_upto_region 5 with (go_at_call 8; refine (num_B n0 30 M _ (by omega) HM.out).mono ?_; rintro e w0 ⟨rfl, hbq0⟩)
  have hb0 := below_tr hbq hbq0
  have hsz0 := hb0.size
  have hsn := sk_new w0 w.heap.size
  have hbn : Below w.heap.size w (w0.alloc (.cells #[.slice none 0 0] 26)) := hb0.alloc hsz0 _
  go_upto_region 6 with (fail)
  refine wp_world (fun W => SkAt W w.heap.size w0.heap.size 0 (.slice none 0 0) [] ∧ Below w.heap.size w W) ⟨hsn, hbn⟩ ?_
  clear hsn hbn hb0 hbq hbq0
  rintro W ⟨hsn, hbn⟩
  go_wp2_with fail
  go_loopw [7] (fun i wr => ∃ (k : Nat) (vs : Value), i = .int .i64 k ∧ k ≤ 40 + M ∧ SkAt wr w.heap.size w0.heap.size 0 vs (st k) ∧ Below w.heap.size w wr) (fun i _ => 40 + M - (intOf i).toNat)
  case atStart => exact ⟨0, _, rfl, by omega, hsn, hbn⟩
  case round =>
    clear hsn hbn
    obtain ⟨k, vs, rfl, hk, hs, hlow⟩ := hrel
    have hsum : IntKind.i64.wrap (40 + (M : Int)) = ((40 + M : Nat) : Int) := by
      rw [show (40 : Int) + (M : Int) = ((40 + M : Nat) : Int) by omega]
      exact IntWalk.i64_in _ (by omega)
    have HS := Lib.hid hs
    have HL := Lib.hid hlow
    clear hs hlow
    by_cases hlt : k < 40 + M
    · have hlt' : decide ((k : Int) < ((40 + M : Nat) : Int)) = true := by simp; omega
      have hlt2 : decide ((k : Int) < 40 + (M : Int)) = true := by simp; omega
      go_upto_region 9 with (fail)
      refine wp_region_lit ?_
      refine wpList_run (by kernel_rfl) (.agg ((key1 7).map cellB).toArray) (wr) (exec_build (vs := #[(0, Go.Value.int Go.IntKind.u8 7)]) rfl (by kernel_rfl) (build_7 _)) ?_
      refine wpList_run (by kernel_rfl) (.int .i64 (k : Int)) (wr) (exec_move rfl (by kernel_rfl)) ?_
      refine wpList_run (by kernel_rfl) (.int .u32 (k : Int)) (wr) (exec_cvt (vx := .int .i64 (k : Int)) rfl (by kernel_rfl) (cvt_u32 _ (by omega) _)) ?_
      refine wpList_run (by kernel_rfl) (.int .i64 (k : Int)) (wr) (exec_move rfl (by kernel_rfl)) ?_
      refine wpList_call (by kernel_rfl) 7 #[Go.Operand.tmp 30] #[3] #[.int .i64 (k : Int)] _ rfl (by kernel_rfl) (by kernel_rfl) (keyis_any (k : Int) wr) ?_
      rintro e w1 ⟨rfl, hb1⟩
      refine ⟨_, rfl, ?_⟩
      have hs1 := HS.out.below hb1
      have hnw1 : w.heap.size ≤ w1.heap.size := Nat.le_trans HL.out.size hb1.size
      refine wpList_call (by kernel_rfl) 13 #[Go.Operand.tmp 6, Go.Operand.tmp 27, Go.Operand.tmp 29, Go.Operand.tmp 31] #[26, 31, 36, 31] #[.pointer (some ⟨w0.heap.size, 0, none⟩), .agg ((key1 7).map cellB).toArray, .int .u32 (k : Int), .agg ((keyOf (k : Int)).map cellB).toArray] _ rfl (by kernel_rfl) (by kernel_rfl) (put_any (st k) (key1 7) (keyOf (k : Int)) (k : Int) (key1_len 7) (keyOf_len _) (by have := st_len k; omega) w.heap.size w0.heap.size 0 vs w1 hnw1 hs1) ?_
      rintro e w2 ⟨rfl, vs2, hs2, hm2, hq2⟩
      refine ⟨_, rfl, ?_⟩
      refine wpList_nil ?_
      simp only [put_list, List.set_cons_zero, List.set_cons_succ]
      rw [show (⟨key1 7, keyOf (k : Int), (k : Int), key1_len 7, keyOf_len _⟩ : Ent) = E7 k from rfl, st_put] at hs2
      have hlw := hm2.below_of (HL.out.trans (hb1.mono HL.out.size)) hnw1 hsz0 (own_lt hs1)
      clear hs1 hnw1 hb1 hm2 hq2
      go_wp2_with fail
      go_roundw
      case rel => exact ⟨k + 1, vs2, by go_num, by omega, hs2, hlw⟩
      case measure => simp [intOf]; omega
    · have hlt' : decide ((k : Int) < ((40 + M : Nat) : Int)) = false := by simp; omega
      have hlt2 : decide ((k : Int) < 40 + (M : Int)) = false := by simp; omega
      obtain rfl : k = 40 + M := by omega
      obtain ⟨wo, rfl⟩ : ∃ wo : World, wo = wr := ⟨_, rfl⟩
      have hal := all_any (st (40 + M)) (by have := st_len (40 + M); omega) w.heap.size w0.heap.size 0 vs wo HS.out
      go_upto_region 11 with (go_at_call 12; refine hal.mono ?_; rintro e wA ⟨v1, rfl, ho1, hbA⟩; rw [st_40] at ho1; clear hal)
      obtain ⟨ga, ca, rfl⟩ : ∃ g c, v1 = .slice (some ⟨g, 0, none⟩) 40 c := by
        rcases ho1.2 with ⟨_, h0⟩ | ⟨g, c, _, h1, _⟩
        · omega
        · exact ⟨g, c, h1⟩
      have hgb := ho1.lt ga rfl
      have hrf := row_from ho1
      have HSA := Lib.hid (HS.out.below hbA)
      have HLA := Lib.hid (HL.out.trans (hbA.mono HL.out.size))
      have HA := Lib.hid hbA
      clear ho1 hsum hbA
      have hgl := hgb.2
      have hgo := hgb.1
      go_wp2_with fail
      go_loopw [9] (fun i wj => ∃ j : Nat, i = .int .i64 j ∧ j ≤ 40 ∧ RowFrom wj ga 0 M j ∧ ga < wj.heap.size ∧ Below wo.heap.size wo wj) (fun i _ => 40 - (intOf i).toNat)
      case atStart => exact ⟨0, rfl, by omega, hrf, hgl, HA.out⟩
      case round =>
        clear hrf hgl hgb
        obtain ⟨j, rfl, hj, hrf, hga, hbo⟩ := hrel
        by_cases hjl : j < 40
        · have hjl' : decide ((j : Int) < 40) = true := by simp; omega
          have hpt := hrf.parts hjl
          have rk := hpt.1
          have rn := hpt.2
          have HRF := Lib.hid hrf
          have HBO := Lib.hid hbo
          clear hpt hrf hbo
          go_upto_region 16 with (fail)
          refine wp_region_noPanic ?_
          refine wp_region_held_drew (S := fun w' => Below wr.drew.heap.size wr.drew w') (by kernel_rfl) (Below.refl _ _) (fun hHeld => ?_)
          refine held_move 0 (Go.Operand.tmp 8) (some 43) (.slice (some ⟨ga, 0, none⟩) 40 ca) (by kernel_rfl) (by kernel_rfl) (by kernel_rfl) (by kernel_rfl) (by kernel_rfl) (fun _ _ _ _ _ h => h) hHeld ?_
          refine held_move 1 (Go.Operand.tmp 9) (some 44) (.int .i64 (j : Int)) (by kernel_rfl) (by kernel_rfl) (by kernel_rfl) (by kernel_rfl) (by kernel_rfl) (fun _ _ _ _ _ h => h) hHeld ?_
          refine held_index 2 24 (Go.Operand.tmp 43) (Go.Operand.tmp 44) (some 45) (.slice (some ⟨ga, 0, none⟩) 40 ca) (.int .i64 (j : Int)) (.pointer (some ⟨ga, 0 + 65 * j, none⟩)) (by kernel_rfl) (by kernel_rfl) (idx_Ep ga 0 40 ca j hjl) (by kernel_rfl) (by kernel_rfl) (by kernel_rfl) (fun _ _ _ _ _ h => h) hHeld ?_
          refine held_field 3 46 (Go.Operand.tmp 45) 2 (some 46) (.pointer (some ⟨ga, 0 + 65 * j, none⟩)) (.pointer (some ⟨ga, 0 + 65 * j + 64, none⟩)) (by kernel_rfl) (by kernel_rfl) (field_S2 ga _) (by kernel_rfl) (by kernel_rfl) (by kernel_rfl) (fun _ _ _ _ _ h => h) hHeld ?_
          refine held_cell 4 36 (Go.Operand.tmp 46) (some 47) (.pointer (some ⟨ga, 0 + 65 * j + 64, none⟩)) (.int .u32 ((M + j : Nat) : Int)) (by kernel_rfl) (by kernel_rfl) (fun w h => ld_u32 _ _ _ w (((below_dr h).cell (p := ⟨ga, _, none⟩) hga).trans rn)) (by kernel_rfl) (by kernel_rfl) (by kernel_rfl) (fun _ _ _ _ _ h => h) hHeld ?_
          refine held_move 5 (Go.Operand.tmp 0) (some 48) (.int .i64 (M : Int)) (by kernel_rfl) (by kernel_rfl) (by kernel_rfl) (by kernel_rfl) (by kernel_rfl) (fun _ _ _ _ _ h => h) hHeld ?_
          refine held_move 6 (Go.Operand.tmp 9) (some 49) (.int .i64 (j : Int)) (by kernel_rfl) (by kernel_rfl) (by kernel_rfl) (by kernel_rfl) (by kernel_rfl) (fun _ _ _ _ _ h => h) hHeld ?_
          refine held_bin 7 Go.BinOp.add 3 (Go.Operand.tmp 48) (Go.Operand.tmp 49) 3 (some 50) (.int .i64 (M : Int)) (.int .i64 (j : Int)) (.int .i64 ((M + j : Nat) : Int)) (by kernel_rfl) (by kernel_rfl) (add_i64 _ _ _ M j (by omega)) (by kernel_rfl) (by kernel_rfl) (by kernel_rfl) (fun _ _ _ _ _ h => h) hHeld ?_
          refine held_any 8 (Go.Op.convert 3 36 (Go.Operand.tmp 50)) (some 51) (.int .u32 ((M + j : Nat) : Int)) (by kernel_rfl) (by kernel_rfl) (by kernel_rfl) (by kernel_rfl) (fun _ _ _ _ _ h => h) hHeld (fun o ho w _ => exec_cvt ho (by kernel_rfl) (cvt_u32 _ (by omega) _)) ?_
          refine held_bin 9 Go.BinOp.neq 36 (Go.Operand.tmp 47) (Go.Operand.tmp 51) 36 (some 52) (.int .u32 ((M + j : Nat) : Int)) (.int .u32 ((M + j : Nat) : Int)) (.bool false) (by kernel_rfl) (by kernel_rfl) (fun w => nq_u32 _ _ _ _ w) (by kernel_rfl) (by kernel_rfl) (by kernel_rfl) (fun _ _ _ _ _ h => h) hHeld ?_
          refine held_move 10 (Go.Operand.tmp 52) (some 53) (.bool false) (by kernel_rfl) (by kernel_rfl) (by kernel_rfl) (by kernel_rfl) (by kernel_rfl) (fun _ _ _ _ _ h => h) hHeld ?_
          refine held_move 11 (Go.Operand.tmp 8) (some 54) (.slice (some ⟨ga, 0, none⟩) 40 ca) (by kernel_rfl) (by kernel_rfl) (by kernel_rfl) (by kernel_rfl) (by kernel_rfl) (fun _ _ _ _ _ h => h) hHeld ?_
          refine held_move 12 (Go.Operand.tmp 9) (some 55) (.int .i64 (j : Int)) (by kernel_rfl) (by kernel_rfl) (by kernel_rfl) (by kernel_rfl) (by kernel_rfl) (fun _ _ _ _ _ h => h) hHeld ?_
          refine held_index 13 24 (Go.Operand.tmp 54) (Go.Operand.tmp 55) (some 56) (.slice (some ⟨ga, 0, none⟩) 40 ca) (.int .i64 (j : Int)) (.pointer (some ⟨ga, 0 + 65 * j, none⟩)) (by kernel_rfl) (by kernel_rfl) (idx_Ep ga 0 40 ca j hjl) (by kernel_rfl) (by kernel_rfl) (by kernel_rfl) (fun _ _ _ _ _ h => h) hHeld ?_
          refine held_field 14 46 (Go.Operand.tmp 56) 1 (some 57) (.pointer (some ⟨ga, 0 + 65 * j, none⟩)) (.pointer (some ⟨ga, 0 + 65 * j + 32, none⟩)) (by kernel_rfl) (by kernel_rfl) (field_S1 ga _) (by kernel_rfl) (by kernel_rfl) (by kernel_rfl) (fun _ _ _ _ _ h => h) hHeld ?_
          refine held_load 15 31 (Go.Operand.tmp 57) (some 58) (ga) (0 + 65 * j + 32) ((keyOf ((M + j : Nat) : Int)).map cellB) _ (by kernel_rfl) (by kernel_rfl) (fun w h => rangeAt_below rk (below_dr h) hga) Try.underlying31 rfl (by rw [List.length_map, keyOf_len]; exact info_key) (by kernel_rfl) (by kernel_rfl) (by kernel_rfl) (fun _ _ _ _ _ h => h) hHeld ?_
          refine held_move 16 (Go.Operand.tmp 0) (some 59) (.int .i64 (M : Int)) (by kernel_rfl) (by kernel_rfl) (by kernel_rfl) (by kernel_rfl) (by kernel_rfl) (fun _ _ _ _ _ h => h) hHeld ?_
          refine held_move 17 (Go.Operand.tmp 9) (some 60) (.int .i64 (j : Int)) (by kernel_rfl) (by kernel_rfl) (by kernel_rfl) (by kernel_rfl) (by kernel_rfl) (fun _ _ _ _ _ h => h) hHeld ?_
          refine held_bin 18 Go.BinOp.add 3 (Go.Operand.tmp 59) (Go.Operand.tmp 60) 3 (some 61) (.int .i64 (M : Int)) (.int .i64 (j : Int)) (.int .i64 ((M + j : Nat) : Int)) (by kernel_rfl) (by kernel_rfl) (add_i64 _ _ _ M j (by omega)) (by kernel_rfl) (by kernel_rfl) (by kernel_rfl) (fun _ _ _ _ _ h => h) hHeld ?_
          refine held_call 19 7 #[Go.Operand.tmp 61] #[3] (some 62) #[.int .i64 ((M + j : Nat) : Int)] _ (by kernel_rfl) (by kernel_rfl) (by kernel_rfl) (by kernel_rfl) (keyis_any ((M + j : Nat) : Int) wr.drew) ?_
          rintro e wk ⟨rfl, hbk⟩
          refine ⟨_, rfl, below_tr hHeld hbk, fun hHeld => ?_⟩
          refine held_neq 20 31 (Go.Operand.tmp 58) (Go.Operand.tmp 62) 31 (some 63) (((keyOf ((M + j : Nat) : Int)).map cellB).toArray) (((keyOf ((M + j : Nat) : Int)).map cellB).toArray) true (by kernel_rfl) (by kernel_rfl) (by kernel_rfl) (by kernel_rfl) (fun w => eq_key w _ _ (keyOf_len _) (keyOf_len _) true (by simp)) (by kernel_rfl) (by kernel_rfl) (by kernel_rfl) (fun _ _ _ _ _ h => h) hHeld ?_
          refine held_pick 21 (Go.Operand.tmp 53) (Go.Operand.const (Go.Value.bool true)) (Go.Operand.tmp 63) (some 64) false (.bool false) (by kernel_rfl) (by kernel_rfl) (by kernel_rfl) (by kernel_rfl) (by kernel_rfl) (by kernel_rfl) (fun _ _ _ _ _ h => h) hHeld ?_
          refine wpAnyH_done (by kernel_rfl) ?_ _
          refine NoPanic.normal ?_
          have hbrk := below_dr hHeld
          have hrf2 := HRF.out.below hbrk hga
          have hth := hrf2.there hjl
          have hz32 : (zkey.map cellB).toArray.size = 32 := key_size zkey (by simp [zkey])
          have hnx := Lib.hid hrf2.next
          have hga2 := Lib.hid (Nat.lt_of_lt_of_le hga hbrk.size)
          have hbo2 := Lib.hid (below_setCells hgo (zkey.map cellB).toArray.toList (0 + 65 * j + 32) wk (HBO.out.trans (hbrk.mono HBO.out.size)))
          clear hHeld hbk rk rn hga hbrk hrf2
          simp only [put_list, List.set_cons_zero, List.set_cons_succ]
          go_upto_region 18 with (fail)
          refine wp_region_lit ?_
          refine wpList_run (by kernel_rfl) (.slice (some ⟨ga, 0, none⟩) 40 ca) (wk) (exec_move rfl (by kernel_rfl)) ?_
          refine wpList_run (by kernel_rfl) (.int .i64 (j : Int)) (wk) (exec_move rfl (by kernel_rfl)) ?_
          refine wpList_run (by kernel_rfl) (.agg ((zkey).map cellB).toArray) (wk) (exec_build (vs := #[]) rfl (by kernel_rfl) (build_0 _)) ?_
          refine wpList_run (by kernel_rfl) (.pointer (some ⟨ga, 0 + 65 * j, none⟩)) (wk) (exec_index (vx := .slice (some ⟨ga, 0, none⟩) 40 ca) (vy := .int .i64 (j : Int)) rfl (by kernel_rfl) (idx_Ep ga 0 40 ca j hjl _)) ?_
          simp only [put_list, List.set_cons_zero, List.set_cons_succ]
          refine wpList_run (by kernel_rfl) (.pointer (some ⟨ga, 0 + 65 * j + 32, none⟩)) (wk) (exec_field (vx := .pointer (some ⟨ga, 0 + 65 * j, none⟩)) rfl (by kernel_rfl) (field_S1 ga _ _)) ?_
          refine wpList_skip rfl ((wk.setCells ga (0 + 65 * j + 32) (zkey.map cellB).toArray.toList)) (exec_store (vx := .pointer (some ⟨ga, 0 + 65 * j + 32, none⟩)) (vy := .agg ((zkey).map cellB).toArray) rfl (by kernel_rfl) (run_storeAt_mid wk ga (0 + 65 * j + 32) _ _ hth (by rw [hz32]; exact info_key) (cellB_one _))) ?_
          refine wpList_nil ?_
          simp only [put_list, put_none, List.set_cons_zero, List.set_cons_succ]
          have hsz : (wk.setCells ga (0 + 65 * j + 32) (zkey.map cellB).toArray.toList).heap.size = wk.heap.size := heap_size_setCells _ _ _ _
          have hga3 : ga < (wk.setCells ga (0 + 65 * j + 32) (zkey.map cellB).toArray.toList).heap.size := by rw [hsz]; exact hga2.out
          have HP := Lib.hid (And.intro hnx.out (And.intro hga3 hbo2.out))
          clear hth hz32 hsz hga3
          generalize wk.setCells ga (0 + 65 * j + 32) (zkey.map cellB).toArray.toList = wn at HP ⊢
          go_wp2_with fail
          go_roundw
          case rel => exact ⟨j + 1, by go_num, by omega, HP.out.1, HP.out.2.1, HP.out.2.2⟩
          case measure => simp [intOf]; omega
        · have hjl' : decide ((j : Int) < 40) = false := by simp; omega
          have HSW := Lib.hid (HS.out.below hbo)
          have HLW := Lib.hid (HL.out.trans (hbo.mono HL.out.size))
          have hf1 := find_any (st (40 + M)) (key1 7) (M : Int) (key1_len 7) (by have := st_len (40 + M); omega) w.heap.size w0.heap.size 0 vs wr HSW.out
          rw [(st_has M).1, (st_has M).2] at hf1
          clear hrf hga hbo HA HSA HLA HS HL
          go_upto_region 19 with (fail)
          refine wp_region_lit ?_
          refine wpList_run (by kernel_rfl) (.agg ((key1 7).map cellB).toArray) (wr) (exec_build (vs := #[(0, Go.Value.int Go.IntKind.u8 7)]) rfl (by kernel_rfl) (build_7 _)) ?_
          refine wpList_run (by kernel_rfl) (.int .i64 (M : Int)) (wr) (exec_move rfl (by kernel_rfl)) ?_
          refine wpList_run (by kernel_rfl) (.int .u32 (M : Int)) (wr) (exec_cvt (vx := .int .i64 (M : Int)) rfl (by kernel_rfl) (cvt_u32 _ (by omega) _)) ?_
          refine wpList_call (by kernel_rfl) 15 #[Go.Operand.tmp 6, Go.Operand.tmp 71, Go.Operand.tmp 73] #[26, 31, 36] #[.pointer (some ⟨w0.heap.size, 0, none⟩), .agg ((key1 7).map cellB).toArray, .int .u32 (M : Int)] _ rfl (by kernel_rfl) (by kernel_rfl) (hf1) ?_
          rintro e wa ⟨rfl, hba⟩
          refine ⟨_, rfl, ?_⟩
          refine wpList_run (by kernel_rfl) (.tuple #[.agg ((keyOf (M : Int)).map cellB).toArray, .bool true]) (wa) (exec_move rfl (by kernel_rfl)) ?_
          simp only [put_list, List.set_cons_zero, List.set_cons_succ]
          refine wpList_run (by kernel_rfl) (.agg ((keyOf (M : Int)).map cellB).toArray) (wa) (exec_extract (vx := .tuple #[.agg ((keyOf (M : Int)).map cellB).toArray, .bool true]) rfl (by kernel_rfl) (by kernel_rfl)) ?_
          refine wpList_run (by kernel_rfl) (.bool true) (wa) (exec_extract (vx := .tuple #[.agg ((keyOf (M : Int)).map cellB).toArray, .bool true]) rfl (by kernel_rfl) (by kernel_rfl)) ?_
          simp only [put_list, List.set_cons_zero, List.set_cons_succ]
          refine wpList_allocV (by kernel_rfl) 31 (by kernel_rfl) ((zkey.map cellB).toArray) (fun _ => by kernel_rfl) ?_
          refine wpList_store_row (by kernel_rfl) 31 (Go.Operand.tmp 10) (Go.Operand.tmp 75) (by kernel_rfl) wa.heap.size (((keyOf (M : Int)).map cellB).toArray) (by kernel_rfl) (by kernel_rfl) _ _ (heap_alloc_new _ _) (by rw [key_size _ (keyOf_len _)]; exact info_key) (by rw [key_size _ (keyOf_len _), key_size zkey (by simp [zkey])]) (cellB_one _) ?_
          rw [alloc_setRow]
          refine wpList_run (by kernel_rfl) (.bool true) ((wa.alloc (.cells (((keyOf (M : Int)).map cellB).toArray) 31))) (exec_assign rfl (by kernel_rfl)) ?_
          refine wpList_nil ?_
          simp only [put_list, put_none, List.set_cons_zero, List.set_cons_succ]
          obtain ⟨wb, hwb⟩ : ∃ wb, wb = wa.alloc (.cells ((keyOf (M : Int)).map cellB).toArray 31) := ⟨_, rfl⟩
          rw [← hwb]
          have hbrb : Below wr.heap.size wr wb := by rw [hwb]; exact below_tr hba (below_alc _ _)
          have r10b : wb.rangeAt wa.heap.size 0 ((keyOf (M : Int)).map cellB) := by rw [hwb]; exact range_new (heap1_0 _ _)
          have h10b : wa.heap.size < wb.heap.size := by rw [hwb]; simp
          have hra : wr.heap.size ≤ wa.heap.size := hba.size
          obtain ⟨b10, hb10⟩ : ∃ b, b = wa.heap.size := ⟨_, rfl⟩
          rw [← hb10] at r10b h10b hra ⊢
          have HSB := Lib.hid (HSW.out.below hbrb)
          have HLB := Lib.hid (HLW.out.trans (hbrb.mono HLW.out.size))
          have h10w : w.heap.size ≤ b10 := Nat.le_trans HLW.out.size hra
          obtain ⟨R, hR, hRl⟩ := exists_mod more ((M + 1 : Nat) : Int) (by omega)
          have HR := Lib.hid hR
          clear hwb hba hbrb hb10 hra hR hf1
          go_upto_region 20 with (fail)
          refine wp_region_lit ?_
          refine wpList_run (by kernel_rfl) (.agg ((key1 7).map cellB).toArray) (wb) (exec_build (vs := #[(0, Go.Value.int Go.IntKind.u8 7)]) rfl (by kernel_rfl) (build_7 _)) ?_
          refine wpList_run (by kernel_rfl) (.int .i64 more) (wb) (exec_move rfl (by kernel_rfl)) ?_
          refine wpList_run (by kernel_rfl) (.int .i64 (M : Int)) (wb) (exec_move rfl (by kernel_rfl)) ?_
          refine wpList_run (by kernel_rfl) (.int .i64 ((M + 1 : Nat) : Int)) (wb) (exec_bin (vx := .int .i64 (M : Int)) (vy := Go.Value.int Go.IntKind.i64 1) rfl (by kernel_rfl) (add_i64 _ _ _ M 1 (by omega) _)) ?_
          refine wpList_call (by kernel_rfl) 8 #[Go.Operand.tmp 79, Go.Operand.tmp 81] #[3, 3] #[.int .i64 more, .int .i64 ((M + 1 : Nat) : Int)] _ rfl (by kernel_rfl) (by kernel_rfl) (num_B more ((M + 1 : Nat) : Int) R wb (by omega) HR.out) ?_
          rintro e wc ⟨rfl, hbc⟩
          refine ⟨_, rfl, ?_⟩
          simp only [put_list, List.set_cons_zero, List.set_cons_succ]
          refine wpList_run (by kernel_rfl) (.int .u32 (R : Int)) (wc) (exec_cvt (vx := .int .i64 (R : Int)) rfl (by kernel_rfl) (cvt_u32 _ (by omega) _)) ?_
          refine wpList_run (by kernel_rfl) (.int .u32 (IntKind.u32.wrap ((R : Int) - 1))) (wc) (exec_bin (vx := .int .u32 (R : Int)) (vy := Go.Value.int Go.IntKind.u32 1) rfl (by kernel_rfl) (sub_u32 _ _ _ _ _)) ?_
          have hf2 := find_any (st (40 + M)) (key1 7) (IntKind.u32.wrap ((R : Int) - 1)) (key1_len 7) (by have := st_len (40 + M); omega) w.heap.size w0.heap.size 0 vs wc (HSB.out.below hbc)
          rw [(st_gone M R (by omega)).1, (st_gone M R (by omega)).2] at hf2
          refine wpList_call (by kernel_rfl) 15 #[Go.Operand.tmp 6, Go.Operand.tmp 78, Go.Operand.tmp 84] #[26, 31, 36] #[.pointer (some ⟨w0.heap.size, 0, none⟩), .agg ((key1 7).map cellB).toArray, .int .u32 (IntKind.u32.wrap ((R : Int) - 1))] _ rfl (by kernel_rfl) (by kernel_rfl) (hf2) ?_
          rintro e wd ⟨rfl, hbd⟩
          refine ⟨_, rfl, ?_⟩
          refine wpList_run (by kernel_rfl) (.tuple #[.agg ((zkey).map cellB).toArray, .bool false]) (wd) (exec_move rfl (by kernel_rfl)) ?_
          refine wpList_run (by kernel_rfl) (.agg ((zkey).map cellB).toArray) (wd) (exec_extract (vx := .tuple #[.agg ((zkey).map cellB).toArray, .bool false]) rfl (by kernel_rfl) (by kernel_rfl)) ?_
          refine wpList_run (by kernel_rfl) (.bool false) (wd) (exec_extract (vx := .tuple #[.agg ((zkey).map cellB).toArray, .bool false]) rfl (by kernel_rfl) (by kernel_rfl)) ?_
          simp only [put_list, List.set_cons_zero, List.set_cons_succ]
          refine wpList_allocV (by kernel_rfl) 31 (by kernel_rfl) ((zkey.map cellB).toArray) (fun _ => by kernel_rfl) ?_
          refine wpList_store_row (by kernel_rfl) 31 (Go.Operand.tmp 12) (Go.Operand.tmp 86) (by kernel_rfl) wd.heap.size ((zkey.map cellB).toArray) (by kernel_rfl) (by kernel_rfl) _ _ (heap_alloc_new _ _) (by rw [key_size zkey (by simp [zkey])]; exact info_key) (rfl) (cellB_one _) ?_
          rw [alloc_setRow]
          simp only [put_list, List.set_cons_zero, List.set_cons_succ]
          refine wpList_run (by kernel_rfl) (.bool false) ((wd.alloc (.cells ((zkey.map cellB).toArray) 31))) (exec_assign rfl (by kernel_rfl)) ?_
          refine wpList_nil ?_
          simp only [put_list, put_none, List.set_cons_zero, List.set_cons_succ]
          have hbbz := below_tr (below_tr hbc hbd) (below_alc wd (.cells (zkey.map cellB).toArray 31))
          generalize wd.alloc (.cells (zkey.map cellB).toArray 31) = wx at hbbz ⊢
          have HSX := Lib.hid (HSB.out.below hbbz)
          have HLX := Lib.hid (HLB.out.trans (hbbz.mono HLB.out.size))
          have r10x := Lib.hid (rangeAt_below r10b hbbz h10b)
          have h10x := Lib.hid (Nat.lt_of_lt_of_le h10b hbbz.size)
          clear hf2 hbc hbd hbbz r10b h10b
          have ht0 := sk_new wx w.heap.size
          go_upto_region 22 with (fail)
          have hbe : Below wx.heap.size wx (wx.alloc (.cells #[.slice none 0 0] 26)) := below_alc _ _
          have hsz : (wx.alloc (.cells #[.slice none 0 0] 26)).heap.size = wx.heap.size + 1 := by simp
          generalize wx.alloc (.cells #[.slice none 0 0] 26) = we at ht0 hbe hsz ⊢
          have hte := ht0
          have hseL := HSX.out.below hbe
          have hsBt : w0.heap.size ≠ wx.heap.size := by have := HSX.out.lt; omega
          have hsvt : vs.ownBlock ≠ some wx.heap.size := fun e => by have := (HSX.out.own.lt _ e).2; omega
          have h10t : b10 ≠ wx.heap.size := by have := h10x.out; omega
          have hnbt : w.heap.size ≤ wx.heap.size := HLX.out.size
          have hwe : w.heap.size ≤ we.heap.size := by omega
          have hle := HLX.out.trans (hbe.mono hnbt)
          have r10e := rangeAt_below r10x.out hbe h10x.out
          have h10e : b10 < we.heap.size := Nat.lt_of_lt_of_le h10x.out hbe.size
          obtain ⟨bt, hbt⟩ : ∃ b, b = wx.heap.size := ⟨_, rfl⟩
          rw [← hbt] at hte hsBt hsvt h10t hnbt ⊢
          clear ht0 hbe hsz hbt HSX HLX r10x h10x
          refine wp_region_lit ?_
          refine wpList_run (by kernel_rfl) (.agg ((key1 9).map cellB).toArray) (we) (exec_build (vs := #[(0, Go.Value.int Go.IntKind.u8 9)]) rfl (by kernel_rfl) (build_9 _)) ?_
          refine wpList_run (by kernel_rfl) (.agg ((zkey).map cellB).toArray) (we) (exec_build (vs := #[]) rfl (by kernel_rfl) (build_0 _)) ?_
          refine wpList_call (by kernel_rfl) 13 #[Go.Operand.tmp 14, Go.Operand.tmp 88, Go.Operand.const (Go.Value.int Go.IntKind.u32 1), Go.Operand.tmp 89] #[26, 31, 36, 31] #[.pointer (some ⟨bt, 0, none⟩), .agg ((key1 9).map cellB).toArray, Go.Value.int Go.IntKind.u32 1, .agg ((zkey).map cellB).toArray] _ rfl (by kernel_rfl) (by kernel_rfl) (put_any [] (key1 9) zkey 1 (key1_len 9) (by simp [zkey]) (by simp) w.heap.size bt 0 _ we hwe hte) ?_
          rintro e wf ⟨rfl, vt, htf, hmf, hqf⟩
          refine ⟨_, rfl, ?_⟩
          refine wpList_nil ?_
          simp only [put_list, List.set_cons_zero, List.set_cons_succ]
          have hsf := sk_mod hseL hmf hsBt hsvt
          have hlf := hmf.below_of hle hwe hnbt (by simp [Value.ownBlock])
          have hwf : w.heap.size ≤ wf.heap.size := Nat.le_trans hwe hmf.size
          have r10f := hmf.range r10e h10e h10t (by simp [Value.ownBlock])
          have h10f : b10 < wf.heap.size := Nat.lt_of_lt_of_le h10e hmf.size
          clear hte hseL hle hwe r10e h10e hmf hqf
          go_upto_region 23 with (fail)
          refine wp_region_lit ?_
          refine wpList_call (by kernel_rfl) 12 #[Go.Operand.tmp 6] #[26] #[.pointer (some ⟨w0.heap.size, 0, none⟩)] _ rfl (by kernel_rfl) (by kernel_rfl) (all_any (st (40 + M)) (by have := st_len (40 + M); omega) w.heap.size w0.heap.size 0 vs wf hsf) ?_
          rintro e wg ⟨vb, rfl, hob, hbg⟩
          obtain ⟨Ab, cb, rfl, _, _, hblk⟩ := own_slice hob
          refine ⟨_, rfl, ?_⟩
          have htg := htf.below hbg
          refine wpList_call (by kernel_rfl) 11 #[Go.Operand.tmp 14, Go.Operand.tmp 91] #[26, 24] #[.pointer (some ⟨bt, 0, none⟩), .slice Ab (st (40 + M)).length cb] _ rfl (by kernel_rfl) (by kernel_rfl) (load_any (st (40 + M)) _ (by have := st_len (40 + M); omega) w.heap.size bt vt Ab cb wg (Nat.le_trans hwf hbg.size) htg (own_read hob) (fun a ha => by have h1 := (hblk a ha).1; have h2 := htf.lt; omega)) ?_
          rintro e wh ⟨rfl, vh, hth2, hmh, hqh⟩
          refine ⟨_, rfl, ?_⟩
          refine wpList_nil ?_
          simp only [put_list, List.set_cons_zero, List.set_cons_succ]
          have hth3 := hth2
          rw [acc_self (st_nk _) (st_len _)] at hth3
          have r10h := hmh.range (rangeAt_below r10f hbg h10f) (Nat.lt_of_lt_of_le h10f hbg.size) h10t (by simp)
          have h10g : b10 < wg.heap.size := Nat.lt_of_lt_of_le h10f hbg.size
          have h10h : b10 < wh.heap.size := Nat.lt_of_lt_of_le h10g hmh.size
          have h10r : some b10 ≠ vh.ownBlock := fun e => by have := hqh _ e.symm; omega
          have hlh := hmh.below_of (hlf.trans (hbg.mono hwf)) (Nat.le_trans hwf hbg.size) hnbt (by simp)
          clear hth2 hmh hqh hob hblk htg hbg htf hsf hlf hwf r10f h10f h10g
          go_upto_region 24 with (fail)
          refine wp_region_lit ?_
          refine wpList_call (by kernel_rfl) 12 #[Go.Operand.tmp 14] #[26] #[.pointer (some ⟨bt, 0, none⟩)] _ rfl (by kernel_rfl) (by kernel_rfl) (all_any (st (40 + M)) (by have := st_len (40 + M); omega) w.heap.size bt 0 vh wh hth3) ?_
          rintro e wi ⟨vu, rfl, hou, hbi⟩
          rw [st_40] at hou
          obtain ⟨Au, cu, rfl, _, _, hblu⟩ := own_slice hou
          obtain ⟨gu, pu, rfl, hgu, hru⟩ := own_read hou (by rw [cells_len, st_40]; omega)
          refine ⟨_, rfl, ?_⟩
          refine wpList_run (by kernel_rfl) (.slice (some ⟨gu, pu, none⟩) 40 cu) (wi) (exec_assign rfl (by kernel_rfl)) ?_
          refine wpList_nil ?_
          simp only [put_list, List.set_cons_zero, List.set_cons_succ]
          have hgul : wh.heap.size ≤ gu := (hblu _ rfl).1
          have hgut : gu ≠ bt := by have := hth3.lt; omega
          have hgur : some gu ≠ vh.ownBlock := fun e => by have := (hth3.own.lt gu e.symm).2; omega
          have he0 : E7 M = (st (40 + M))[0]! := by
            have := st_get M 0 (by omega)
            simp [List.getElem!_eq_getElem?_getD, this]
          have hcu := (ent_ranges hru (k := 0) (by rw [st_40]; omega) he0).2.2
          have hS25 : wi.drew.rangeAt b10 0 ((keyOf (M : Int)).map cellB) ∧ wi.drew.cell? ⟨gu, pu + 65 * 0 + 64, none⟩ = some (.int .u32 (M : Int)) := ⟨(rangeAt_below r10h hbi h10h : wi.rangeAt b10 0 _), hcu⟩
          have h10 : b10 < wi.heap.size := Nat.lt_of_lt_of_le h10h hbi.size
          have hti := hth3.below hbi
          have hli := hlh.trans (hbi.mono hlh.size)
          clear hou hblu hru he0 hcu hbi hth3 hlh r10h h10h hgul
          go_upto_region 25 with (fail)
          refine wp_region_noPanic ?_
          refine wp_region_held_drew (S := fun w' => w'.rangeAt b10 0 ((keyOf (M : Int)).map cellB) ∧ w'.cell? ⟨gu, pu + 65 * 0 + 64, none⟩ = some (.int .u32 (M : Int))) (by kernel_rfl) (hS25) (fun hHeld => ?_)
          refine held_move 0 (Go.Operand.tmp 5) (some 94) (.bool true) (by kernel_rfl) (by kernel_rfl) (by kernel_rfl) (by kernel_rfl) (by kernel_rfl) (fun _ _ _ _ _ h => h) hHeld ?_
          refine held_move 1 (Go.Operand.tmp 94) (some 95) (.bool true) (by kernel_rfl) (by kernel_rfl) (by kernel_rfl) (by kernel_rfl) (by kernel_rfl) (fun _ _ _ _ _ h => h) hHeld ?_
          refine held_move 2 (Go.Operand.tmp 11) (some 96) (.bool true) (by kernel_rfl) (by kernel_rfl) (by kernel_rfl) (by kernel_rfl) (by kernel_rfl) (fun _ _ _ _ _ h => h) hHeld ?_
          refine held_pick 3 (Go.Operand.tmp 95) (Go.Operand.tmp 96) (Go.Operand.const (Go.Value.bool false)) (some 97) true (.bool true) (by kernel_rfl) (by kernel_rfl) (by kernel_rfl) (by kernel_rfl) (by kernel_rfl) (by kernel_rfl) (fun _ _ _ _ _ h => h) hHeld ?_
          refine held_move 4 (Go.Operand.tmp 97) (some 98) (.bool true) (by kernel_rfl) (by kernel_rfl) (by kernel_rfl) (by kernel_rfl) (by kernel_rfl) (fun _ _ _ _ _ h => h) hHeld ?_
          refine held_load 5 31 (Go.Operand.tmp 10) (some 99) (b10) (0) ((keyOf (M : Int)).map cellB) _ (by kernel_rfl) (by kernel_rfl) (fun w h => h.1) Try.underlying31 rfl (by rw [List.length_map, keyOf_len]; exact info_key) (by kernel_rfl) (by kernel_rfl) (by kernel_rfl) (fun _ _ _ _ _ h => h) hHeld ?_
          refine held_move 6 (Go.Operand.tmp 0) (some 100) (.int .i64 (M : Int)) (by kernel_rfl) (by kernel_rfl) (by kernel_rfl) (by kernel_rfl) (by kernel_rfl) (fun _ _ _ _ _ h => h) hHeld ?_
          refine held_call 7 7 #[Go.Operand.tmp 100] #[3] (some 101) #[.int .i64 (M : Int)] _ (by kernel_rfl) (by kernel_rfl) (by kernel_rfl) (by kernel_rfl) (keyis_any (M : Int) wi.drew) ?_
          rintro e wj ⟨rfl, hbj⟩
          refine ⟨_, rfl, ⟨rangeAt_below hHeld.1 hbj h10, (hbj.cell (p := ⟨gu, _, none⟩) hgu).trans hHeld.2⟩, fun hHeld => ?_⟩
          have htj := hti.below (below_dr hbj)
          refine held_eql 8 31 (Go.Operand.tmp 99) (Go.Operand.tmp 101) 31 (some 102) (((keyOf (M : Int)).map cellB).toArray) (((keyOf (M : Int)).map cellB).toArray) true (by kernel_rfl) (by kernel_rfl) (by kernel_rfl) (by kernel_rfl) (fun w => eq_key w _ _ (keyOf_len _) (keyOf_len _) true (by simp)) (by kernel_rfl) (by kernel_rfl) (by kernel_rfl) (fun _ _ _ _ _ h => h) hHeld ?_
          refine held_pick 9 (Go.Operand.tmp 98) (Go.Operand.tmp 102) (Go.Operand.const (Go.Value.bool false)) (some 103) true (.bool true) (by kernel_rfl) (by kernel_rfl) (by kernel_rfl) (by kernel_rfl) (by kernel_rfl) (by kernel_rfl) (fun _ _ _ _ _ h => h) hHeld ?_
          refine held_move 10 (Go.Operand.tmp 103) (some 104) (.bool true) (by kernel_rfl) (by kernel_rfl) (by kernel_rfl) (by kernel_rfl) (by kernel_rfl) (fun _ _ _ _ _ h => h) hHeld ?_
          refine held_move 11 (Go.Operand.tmp 13) (some 105) (.bool false) (by kernel_rfl) (by kernel_rfl) (by kernel_rfl) (by kernel_rfl) (by kernel_rfl) (fun _ _ _ _ _ h => h) hHeld ?_
          refine held_any 12 (Go.Op.unOp Go.UnOp.not 4 (Go.Operand.tmp 105)) (some 106) (.bool true) (by kernel_rfl) (by kernel_rfl) (by kernel_rfl) (by kernel_rfl) (fun _ _ _ _ _ h => h) hHeld (fun o ho w _ => exec_un (vx := .bool false) ho (by kernel_rfl) (by kernel_rfl)) ?_
          refine held_pick 13 (Go.Operand.tmp 104) (Go.Operand.tmp 106) (Go.Operand.const (Go.Value.bool false)) (some 107) true (.bool true) (by kernel_rfl) (by kernel_rfl) (by kernel_rfl) (by kernel_rfl) (by kernel_rfl) (by kernel_rfl) (fun _ _ _ _ _ h => h) hHeld ?_
          refine held_move 14 (Go.Operand.tmp 107) (some 108) (.bool true) (by kernel_rfl) (by kernel_rfl) (by kernel_rfl) (by kernel_rfl) (by kernel_rfl) (fun _ _ _ _ _ h => h) hHeld ?_
          refine held_move 15 (Go.Operand.tmp 15) (some 109) (.slice (some ⟨gu, pu, none⟩) 40 cu) (by kernel_rfl) (by kernel_rfl) (by kernel_rfl) (by kernel_rfl) (by kernel_rfl) (fun _ _ _ _ _ h => h) hHeld ?_
          refine held_any 16 (Go.Op.call { callee := Go.Callee.builtin Go.Builtin.len, args := #[Go.Operand.tmp 109], argTypes := #[24] }) (some 110) (.int .i64 40) (by kernel_rfl) (by kernel_rfl) (by kernel_rfl) (by kernel_rfl) (fun _ _ _ _ _ h => h) hHeld (fun o ho w _ => exec_len (ty := o.type) (vx := .slice (some ⟨gu, pu, none⟩) 40 cu) ho rfl (by kernel_rfl) (len_40 _ _ _ _)) ?_
          refine held_bin 17 Go.BinOp.eql 3 (Go.Operand.tmp 110) (Go.Operand.const (Go.Value.int Go.IntKind.i64 40)) 3 (some 111) (.int .i64 40) (Go.Value.int Go.IntKind.i64 40) (.bool true) (by kernel_rfl) (by kernel_rfl) (fun w => by kernel_rfl) (by kernel_rfl) (by kernel_rfl) (by kernel_rfl) (fun _ _ _ _ _ h => h) hHeld ?_
          refine held_pick 18 (Go.Operand.tmp 108) (Go.Operand.tmp 111) (Go.Operand.const (Go.Value.bool false)) (some 112) true (.bool true) (by kernel_rfl) (by kernel_rfl) (by kernel_rfl) (by kernel_rfl) (by kernel_rfl) (by kernel_rfl) (fun _ _ _ _ _ h => h) hHeld ?_
          refine held_move 19 (Go.Operand.tmp 112) (some 113) (.bool true) (by kernel_rfl) (by kernel_rfl) (by kernel_rfl) (by kernel_rfl) (by kernel_rfl) (fun _ _ _ _ _ h => h) hHeld ?_
          refine held_move 20 (Go.Operand.tmp 15) (some 114) (.slice (some ⟨gu, pu, none⟩) 40 cu) (by kernel_rfl) (by kernel_rfl) (by kernel_rfl) (by kernel_rfl) (by kernel_rfl) (fun _ _ _ _ _ h => h) hHeld ?_
          refine held_index 21 24 (Go.Operand.tmp 114) (Go.Operand.const (Go.Value.int Go.IntKind.i64 0)) (some 115) (.slice (some ⟨gu, pu, none⟩) 40 cu) (Go.Value.int Go.IntKind.i64 0) (.pointer (some ⟨gu, pu + 65 * 0, none⟩)) (by kernel_rfl) (by kernel_rfl) (idx_Ep gu pu 40 cu 0 (by omega)) (by kernel_rfl) (by kernel_rfl) (by kernel_rfl) (fun _ _ _ _ _ h => h) hHeld ?_
          refine held_field 22 46 (Go.Operand.tmp 115) 2 (some 116) (.pointer (some ⟨gu, pu + 65 * 0, none⟩)) (.pointer (some ⟨gu, pu + 65 * 0 + 64, none⟩)) (by kernel_rfl) (by kernel_rfl) (field_S2 gu _) (by kernel_rfl) (by kernel_rfl) (by kernel_rfl) (fun _ _ _ _ _ h => h) hHeld ?_
          refine held_cell 23 36 (Go.Operand.tmp 116) (some 117) (.pointer (some ⟨gu, pu + 65 * 0 + 64, none⟩)) (.int .u32 (M : Int)) (by kernel_rfl) (by kernel_rfl) (fun w h => ld_u32 _ _ _ w h.2) (by kernel_rfl) (by kernel_rfl) (by kernel_rfl) (fun _ _ _ _ _ h => h) hHeld ?_
          refine held_move 24 (Go.Operand.tmp 0) (some 118) (.int .i64 (M : Int)) (by kernel_rfl) (by kernel_rfl) (by kernel_rfl) (by kernel_rfl) (by kernel_rfl) (fun _ _ _ _ _ h => h) hHeld ?_
          refine held_any 25 (Go.Op.convert 3 36 (Go.Operand.tmp 118)) (some 119) (.int .u32 (M : Int)) (by kernel_rfl) (by kernel_rfl) (by kernel_rfl) (by kernel_rfl) (fun _ _ _ _ _ h => h) hHeld (fun o ho w _ => exec_cvt ho (by kernel_rfl) (cvt_u32 _ (by omega) _)) ?_
          refine held_bin 26 Go.BinOp.eql 36 (Go.Operand.tmp 117) (Go.Operand.tmp 119) 36 (some 120) (.int .u32 (M : Int)) (.int .u32 (M : Int)) (.bool true) (by kernel_rfl) (by kernel_rfl) (fun w => eq_u32 _ _ _ _ w) (by kernel_rfl) (by kernel_rfl) (by kernel_rfl) (fun _ _ _ _ _ h => h) hHeld ?_
          refine held_pick 27 (Go.Operand.tmp 113) (Go.Operand.tmp 120) (Go.Operand.const (Go.Value.bool false)) (some 121) true (.bool true) (by kernel_rfl) (by kernel_rfl) (by kernel_rfl) (by kernel_rfl) (by kernel_rfl) (by kernel_rfl) (fun _ _ _ _ _ h => h) hHeld ?_
          refine held_move 28 (Go.Operand.tmp 121) (some 122) (.bool true) (by kernel_rfl) (by kernel_rfl) (by kernel_rfl) (by kernel_rfl) (by kernel_rfl) (fun _ _ _ _ _ h => h) hHeld ?_
          refine held_build 29 31 #[(0, Go.Operand.const (Go.Value.int Go.IntKind.u8 7))] (some 123) #[(0, Go.Value.int Go.IntKind.u8 7)] (.agg ((key1 7).map cellB).toArray) (by kernel_rfl) (by kernel_rfl) (build_7) (by kernel_rfl) (by kernel_rfl) (by kernel_rfl) (fun _ _ _ _ _ h => h) hHeld ?_
          refine held_move 30 (Go.Operand.tmp 0) (some 124) (.int .i64 (M : Int)) (by kernel_rfl) (by kernel_rfl) (by kernel_rfl) (by kernel_rfl) (by kernel_rfl) (fun _ _ _ _ _ h => h) hHeld ?_
          refine held_any 31 (Go.Op.convert 3 36 (Go.Operand.tmp 124)) (some 125) (.int .u32 (M : Int)) (by kernel_rfl) (by kernel_rfl) (by kernel_rfl) (by kernel_rfl) (fun _ _ _ _ _ h => h) hHeld (fun o ho w _ => exec_cvt ho (by kernel_rfl) (cvt_u32 _ (by omega) _)) ?_
          refine held_call 32 9 #[Go.Operand.tmp 14, Go.Operand.tmp 123, Go.Operand.tmp 125] #[26, 31, 36] (some 126) #[.pointer (some ⟨bt, 0, none⟩), .agg ((key1 7).map cellB).toArray, .int .u32 (M : Int)] _ (by kernel_rfl) (by kernel_rfl) (by kernel_rfl) (by kernel_rfl) (take_any (st (40 + M)) (key1 7) (M : Int) (key1_len 7) (by have := st_len (40 + M); omega) w.heap.size bt 0 vh wj htj) ?_
          rintro e wk ⟨he, vk, htk, hmk, hok⟩
          rw [(st_has M).2] at he
          subst he
          refine ⟨_, rfl, ⟨hmk.range hHeld.1 (Nat.lt_of_lt_of_le h10 hbj.size) h10t h10r, (hmk.cellsOf (Nat.lt_of_lt_of_le hgu hbj.size) hgut hgur).trans hHeld.2⟩, fun hHeld => ?_⟩
          refine held_pick 33 (Go.Operand.tmp 122) (Go.Operand.tmp 126) (Go.Operand.const (Go.Value.bool false)) (some 127) true (.bool true) (by kernel_rfl) (by kernel_rfl) (by kernel_rfl) (by kernel_rfl) (by kernel_rfl) (by kernel_rfl) (fun _ _ _ _ _ h => h) hHeld ?_
          refine held_move 34 (Go.Operand.tmp 127) (some 128) (.bool true) (by kernel_rfl) (by kernel_rfl) (by kernel_rfl) (by kernel_rfl) (by kernel_rfl) (fun _ _ _ _ _ h => h) hHeld ?_
          refine held_build 35 31 #[(0, Go.Operand.const (Go.Value.int Go.IntKind.u8 7))] (some 129) #[(0, Go.Value.int Go.IntKind.u8 7)] (.agg ((key1 7).map cellB).toArray) (by kernel_rfl) (by kernel_rfl) (build_7) (by kernel_rfl) (by kernel_rfl) (by kernel_rfl) (fun _ _ _ _ _ h => h) hHeld ?_
          refine held_move 36 (Go.Operand.tmp 0) (some 130) (.int .i64 (M : Int)) (by kernel_rfl) (by kernel_rfl) (by kernel_rfl) (by kernel_rfl) (by kernel_rfl) (fun _ _ _ _ _ h => h) hHeld ?_
          refine held_any 37 (Go.Op.convert 3 36 (Go.Operand.tmp 130)) (some 131) (.int .u32 (M : Int)) (by kernel_rfl) (by kernel_rfl) (by kernel_rfl) (by kernel_rfl) (fun _ _ _ _ _ h => h) hHeld (fun o ho w _ => exec_cvt ho (by kernel_rfl) (cvt_u32 _ (by omega) _)) ?_
          refine held_call 38 9 #[Go.Operand.tmp 14, Go.Operand.tmp 129, Go.Operand.tmp 131] #[26, 31, 36] (some 132) #[.pointer (some ⟨bt, 0, none⟩), .agg ((key1 7).map cellB).toArray, .int .u32 (M : Int)] _ (by kernel_rfl) (by kernel_rfl) (by kernel_rfl) (by kernel_rfl) (take_any _ (key1 7) (M : Int) (key1_len 7) (by have := st_len (40 + M); have := List.length_eraseP_le (p := Ent.is (key1 7) (M : Int)) (l := st (40 + M)); omega) w.heap.size bt 0 vk wk htk) ?_
          rintro e wl ⟨he, vl, htl, hml, hol⟩
          rw [st_twice M] at he
          subst he
          refine ⟨_, rfl, ⟨hml.range hHeld.1 (Nat.lt_of_lt_of_le (Nat.lt_of_lt_of_le h10 hbj.size) hmk.size) h10t (by rw [hok]; exact h10r), (hml.cellsOf (Nat.lt_of_lt_of_le (Nat.lt_of_lt_of_le hgu hbj.size) hmk.size) hgut (by rw [hok]; exact hgur)).trans hHeld.2⟩, fun hHeld => ?_⟩
          refine held_any 39 (Go.Op.unOp Go.UnOp.not 4 (Go.Operand.tmp 132)) (some 133) (.bool true) (by kernel_rfl) (by kernel_rfl) (by kernel_rfl) (by kernel_rfl) (fun _ _ _ _ _ h => h) hHeld (fun o ho w _ => exec_un (vx := .bool false) ho (by kernel_rfl) (by kernel_rfl)) ?_
          refine held_pick 40 (Go.Operand.tmp 128) (Go.Operand.tmp 133) (Go.Operand.const (Go.Value.bool false)) (some 134) true (.bool true) (by kernel_rfl) (by kernel_rfl) (by kernel_rfl) (by kernel_rfl) (by kernel_rfl) (by kernel_rfl) (fun _ _ _ _ _ h => h) hHeld ?_
          refine held_assign 41 (Go.Operand.tmp 134) (some 4) (.bool true) (by kernel_rfl) (by kernel_rfl) (by kernel_rfl) (by kernel_rfl) (by kernel_rfl) (fun _ _ _ _ _ h => h) hHeld ?_
          refine wpAnyH_done (by kernel_rfl) ?_ _
          refine NoPanic.normal ?_
          simp only [put_list, List.set_cons_zero, List.set_cons_succ]
          have hlj := hli.trans ((below_dr hbj).mono hli.size)
          have hlk := hmk.below_of hlj hlj.size hnbt (own_lt htj)
          have hll := hml.below_of hlk hlk.size hnbt (own_lt htk)
          clear hHeld hbj htj hmk htk hml htl hok hol hS25 hli hlj hlk
          go_wp2_with fail
          go_ret
          exact ⟨rfl, hll⟩
end Go.Proofs.Ytklooieghlnblaa
