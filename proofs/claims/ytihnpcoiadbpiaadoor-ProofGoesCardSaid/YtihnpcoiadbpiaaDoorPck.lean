import Derived.Test.YtihnpcoiadbpiaaDoorPdu
namespace Go.Proofs.YtihnpcoiadbpiaaDoor
open Go.RowKit

theorem hash_lst (f g : Nat → BitVec 8) : (List.map (fun i => UInt8.ofBitVec (f i)) (List.range 32) = List.map (fun i => UInt8.ofBitVec (g i)) (List.range 32)) ↔ lst 32 f = lst 32 g := by
  unfold lst
  simp only [List.map_inj_left]
  constructor
  · intro h i hi
    have := h i hi
    simpa using this
  · intro h i hi
    rw [h i hi]
theorem hash_same (f g : Nat → BitVec 8) (h : lst 32 f = lst 32 g) (w : World) : (Op.equalIn 10000 24 (.agg (arr8 32 f)) (.agg (arr8 32 g))).run Tryd.prog w = .ok true w := by
  rw [arr8_cells, arr8_cells, run_equalIn_bytes w 9998 24 5 32 Tryd.underlying24 Tryd.underlying5 size_u8 _ _ (by simp) (by simp), (hash_lst f g).2 h, beq_self_eq_true]
theorem hash_differ (f g : Nat → BitVec 8) (h : ¬ lst 32 f = lst 32 g) (w : World) : (Op.equalIn 10000 24 (.agg (arr8 32 f)) (.agg (arr8 32 g))).run Tryd.prog w = .ok false w := by
  rw [arr8_cells, arr8_cells, run_equalIn_bytes w 9998 24 5 32 Tryd.underlying24 Tryd.underlying5 size_u8 _ _ (by simp) (by simp), beq_false_of_ne (fun e => h ((hash_lst f g).1 e))]

/-- what a leaf and a path come to, and the number of what is told -/
def upGot (leaf : Nat → BitVec 8) (i n : Int) (ps : List (Nat → BitVec 8)) : (Nat → BitVec 8) × Nat :=
  if i < 0 ∨ n ≤ i ∨ 1048576 < n then (zz, 102) else if ps.length < (turnsOf i.toNat n.toNat).length then (zz, 103) else if (turnsOf i.toNat n.toNat).length < ps.length then (zz, 104) else (upOf leaf (turnsOf i.toNat n.toNat) ps, 0)
def errOf (E : Nat → Addr) (c : Nat) : Value := if c = 0 then .nilIface else errV (E (c - 101))
theorem upGot_code (leaf : Nat → BitVec 8) (i n : Int) (ps : List (Nat → BitVec 8)) : (upGot leaf i n ps).2 = 0 ∨ (102 ≤ (upGot leaf i n ps).2 ∧ (upGot leaf i n ps).2 ≤ 104) := by
  unfold upGot
  split
  · simp
  · split
    · simp
    · split <;> simp
theorem errOf_reads (E : Nat → Addr) (c : Nat) (h : c = 0 ∨ (101 ≤ c ∧ c < 120)) : Reads E (errOf E c) c := by
  rcases h with rfl | h
  · exact .inl ⟨rfl, rfl⟩
  · refine .inr ⟨c - 101, by omega, ?_, by omega⟩
    unfold errOf
    rw [if_neg (by omega)]
theorem up_all (E : Nat → Addr) (leaf : Nat → BitVec 8) (i n : Int) (ps : List (Nat → BitVec 8)) (A : Option Addr) (cap : Nat) (w : World) (hE : ErrsAt E w) (hA : SlRead w A (hcells ps)) (hk : KAt w) :
    Calls Tryd.prog 14 #[.agg (arr8 32 leaf), .int .i64 i, .int .i64 n, .slice A ps.length cap] w fun e w' => e = .returned (.tuple #[.agg (arr8 32 (upGot leaf i n ps).1), errOf E (upGot leaf i n ps).2]) ∧ Below w.heap.size w w' := by
  by_cases hbad : i < 0 ∨ n ≤ i ∨ 1048576 < n
  · refine (up_range E leaf i n ps A cap w hE hbad).mono ?_
    rintro e w' ⟨rfl, hb⟩
    refine ⟨?_, hb⟩
    unfold upGot
    rw [if_pos hbad]
    rfl
  · obtain ⟨i, rfl⟩ : ∃ x : Nat, i = (x : Int) := ⟨i.toNat, by omega⟩
    obtain ⟨n, rfl⟩ : ∃ x : Nat, n = (x : Int) := ⟨n.toNat, by omega⟩
    refine (up_any E leaf i n ps A cap w hE hA (by omega) (by omega) hk).mono ?_
    rintro e w' ⟨hb, rfl⟩
    refine ⟨?_, hb⟩
    unfold upGot
    rw [if_neg hbad]
    simp only [Int.toNat_natCast]
    split
    · rfl
    · split <;> rfl
theorem dup_all (leaf : Nat → BitVec 8) (i n : Int) (ps : List (Nat → BitVec 8)) (A : Option Addr) (cap : Nat) (w : World) (hA : SlRead w A (hcells ps)) :
    Calls Tryd.prog 15 #[.agg (arr8 32 leaf), .int .i64 i, .int .i64 n, .slice A ps.length cap] w fun e w' => e = .returned (.tuple #[.agg (arr8 32 (upGot leaf i n ps).1), .int .i64 ((upGot leaf i n ps).2 : Int)]) ∧ Below w.heap.size w w' := by
  by_cases hbad : i < 0 ∨ n ≤ i ∨ 1048576 < n
  · refine (dup_range leaf i n ps A cap w hbad).mono ?_
    rintro e w' ⟨rfl, hb⟩
    refine ⟨?_, hb⟩
    unfold upGot
    rw [if_pos hbad]
    rfl
  · obtain ⟨i, rfl⟩ : ∃ x : Nat, i = (x : Int) := ⟨i.toNat, by omega⟩
    obtain ⟨n, rfl⟩ : ∃ x : Nat, n = (x : Int) := ⟨n.toNat, by omega⟩
    refine (dup_any leaf i n ps A cap w hA (by omega) (by omega)).mono ?_
    rintro e w' ⟨hb, rfl⟩
    refine ⟨?_, hb⟩
    unfold upGot
    rw [if_neg hbad]
    simp only [Int.toNat_natCast]
    split
    · rfl
    · split <;> rfl
def checkGot (root leaf : Nat → BitVec 8) (i n : Int) (ps : List (Nat → BitVec 8)) : Nat :=
  if (upGot leaf i n ps).2 = 0 then (if lst 32 (upGot leaf i n ps).1 = lst 32 root then 0 else 113) else (upGot leaf i n ps).2
theorem checkGot_code (root leaf : Nat → BitVec 8) (i n : Int) (ps : List (Nat → BitVec 8)) : checkGot root leaf i n ps = 0 ∨ (101 ≤ checkGot root leaf i n ps ∧ checkGot root leaf i n ps < 120) := by
  have := upGot_code leaf i n ps
  unfold checkGot
  split
  · split <;> simp
  · omega

set_option maxRecDepth 100000 in
set_option maxHeartbeats 1600000 in
theorem check_all (E : Nat → Addr) (root leaf : Nat → BitVec 8) (i n : Int) (ps : List (Nat → BitVec 8)) (A : Option Addr) (cap : Nat) (w : World) (hE : ErrsAt E w) (hA : SlRead w A (hcells ps)) (hk : KAt w) :
    Calls Tryd.prog 17 #[.agg (arr8 32 root), .agg (arr8 32 leaf), .int .i64 i, .int .i64 n, .slice A ps.length cap] w fun e w' => e = .returned (errOf E (checkGot root leaf i n ps)) ∧ Below w.heap.size w w' := by
  obtain ⟨f, hf⟩ : ∃ f, f = (upGot leaf i n ps).1 := ⟨_, rfl⟩
  obtain ⟨c, hc⟩ : ∃ c, c = (upGot leaf i n ps).2 := ⟨_, rfl⟩
  have hcc := upGot_code leaf i n ps
  unfold checkGot
  rw [← hc] at hcc ⊢
  rw [← hf]
  go_enter Tryd.func17, Tryd.ntmps17
  go_upto_region 1 with (fail)
  refine wp_world (fun W => Below w.heap.size w W ∧ W.rowIs w.heap.size 24 32 (fun i => v8 (root i)) ∧ W.rowIs (w.heap.size + 1) 24 32 (fun i => v8 (leaf i))) ?_ ?_
  · refine ⟨by go_grown, ?_, ?_⟩
    · exact (rowIs_new w (arr8 32 root) 24 w.heap.size 32 _ rfl (by simp) (fun i hi => arr8_get 32 root i hi)).alloc _
    · exact rowIs_new (w.alloc _) (arr8 32 leaf) 24 (w.heap.size + 1) 32 _ (by simp) (by simp) (fun i hi => arr8_get 32 leaf i hi)
  rintro W ⟨hb, hr, hlf⟩
  have hup := up_all E leaf i n ps A cap W (hE.below hb) (hA.below hb) (hk.below hb)
  rw [← hc, ← hf] at hup
  clear hA hk hf hc
  generalize hB : w.heap.size = B at *
  have HB := Lib.hid hB; clear hB
  have hlh := rowIs_heap8 hlf
  go_wp2_with (refine wpList_load_row rfl 24 _ rfl _ rfl _ _ _ _ hlh Tryd.underlying24 rfl (by kernel_rfl) ?_)
  refine hup.mono ?_
  rintro e W2 ⟨rfl, hb2⟩
  have hn1 := heap_alloc_new W2 (.cells (Array.replicate 32 (.int .u8 0)) 24)
  have hb' : Below B w W2 := hb.trans (hb2.mono (by have := hlf.lt; omega))
  have hr2 := hr.of_block (hb2.block _ hr.lt)
  clear hb hr hlf hlh hb2 hup
  rcases hcc with rfl | hcc
  · rw [show errOf E 0 = .nilIface from rfl]
    go_upto_region 4 with (first | (refine wpList_alloc_z rfl 24 rfl (Array.replicate 32 (.int .u8 0)) (fun _ => by kernel_rfl) ?_) | (refine wpList_store_row rfl 24 _ _ rfl W2.heap.size (arr8 32 f) rfl rfl _ _ hn1 (by kernel_rfl) (by simp) (arr8_one _ _) ?_))
    rw [alloc_setRow]
    clear hn1
    refine wp_world (fun W3 => Below B w W3 ∧ W3.rowIs B 24 32 (fun i => v8 (root i)) ∧ W3.rowIs W2.heap.size 24 32 (fun i => v8 (f i))) ?_ ?_
    · exact ⟨hb'.alloc (by have := hr2.lt; omega) _, hr2.alloc _, rowIs_new W2 (arr8 32 f) 24 W2.heap.size 32 _ rfl (by simp) (fun i hi => arr8_get 32 f i hi)⟩
    have hBR : B < W2.heap.size := hr2.lt
    rintro W3 ⟨hb, hr, hx⟩
    clear hb' hr2
    generalize W2.heap.size = R at *
    by_cases heq : lst 32 f = lst 32 root
    · refine wp_region_text [Sp.k 0 (some 24) [] (.agg (arr8 32 f)),
        Sp.k 1 (some 25) [] (.agg (arr8 32 root)),
        Sp.k 2 (some 26) [0, 1] (.bool false)] (by kernel_rfl)
        ⟨owes_load 0 (some 24) [] (.agg (arr8 32 f)) 24 (Go.Operand.tmp 11) (.pointer (some ⟨R, 0, none⟩)) (fun v => by kernel_rfl) (fun v => by kernel_rfl) (fun w' hb => load_hash _ _ _ w' (rangeAt_row (hx.of_block (hb.block _ hx.lt)))),
        owes_load 1 (some 25) [] (.agg (arr8 32 root)) 24 (Go.Operand.tmp 5) (.pointer (some ⟨B, 0, none⟩)) (fun v => by kernel_rfl) (fun v => by kernel_rfl) (fun w' hb => load_hash _ _ _ w' (rangeAt_row (hr.of_block (hb.block _ hr.lt)))),
        owes_neq 2 (some 26) [0, 1] 24 (Go.Operand.tmp 24) (Go.Operand.tmp 25) 24 (arr8 32 f) (arr8 32 root) true (fun v => by kernel_rfl) (fun v => by kernel_rfl) (by kernel_rfl) (hash_same f root heq), trivial⟩ ?_
      intro v w' hb' hall
      clear hall
      have hbb : Below B w w' := hb.trans (hb'.mono (by have := hx.lt; omega))
      simp only [putsL_k, putsL_nil, List.set_cons_zero, List.set_cons_succ]
      go_wp2_with fail
      go_ret
      exact ⟨rfl, by rw [HB.out]; exact hbb⟩
    · refine wp_region_text [Sp.k 0 (some 24) [] (.agg (arr8 32 f)),
        Sp.k 1 (some 25) [] (.agg (arr8 32 root)),
        Sp.k 2 (some 26) [0, 1] (.bool true)] (by kernel_rfl)
        ⟨owes_load 0 (some 24) [] (.agg (arr8 32 f)) 24 (Go.Operand.tmp 11) (.pointer (some ⟨R, 0, none⟩)) (fun v => by kernel_rfl) (fun v => by kernel_rfl) (fun w' hb => load_hash _ _ _ w' (rangeAt_row (hx.of_block (hb.block _ hx.lt)))),
        owes_load 1 (some 25) [] (.agg (arr8 32 root)) 24 (Go.Operand.tmp 5) (.pointer (some ⟨B, 0, none⟩)) (fun v => by kernel_rfl) (fun v => by kernel_rfl) (fun w' hb => load_hash _ _ _ w' (rangeAt_row (hr.of_block (hb.block _ hr.lt)))),
        owes_neq 2 (some 26) [0, 1] 24 (Go.Operand.tmp 24) (Go.Operand.tmp 25) 24 (arr8 32 f) (arr8 32 root) false (fun v => by kernel_rfl) (fun v => by kernel_rfl) (by kernel_rfl) (hash_differ f root heq), trivial⟩ ?_
      intro v w' hb' hall
      clear hall
      have hbb : Below B w w' := hb.trans (hb'.mono (by have := hx.lt; omega))
      simp only [putsL_k, putsL_nil, List.set_cons_zero, List.set_cons_succ]
      have c12 : w'.cell? ⟨3, 0, none⟩ = some (errV (E 12)) := (hE.below (show Below w.heap.size w w' by rw [HB.out]; exact hbb)).c 12 (by decide)
      go_wp2_with fail
      go_ret
      exact ⟨rfl, by rw [HB.out]; exact hbb⟩
  · obtain ⟨k, rfl⟩ : ∃ k, c = 102 + k := ⟨c - 102, by omega⟩
    obtain ⟨ek, hek⟩ : ∃ ek, ek = E (1 + k) := ⟨_, rfl⟩
    have he0 : errOf E (102 + k) = errV ek := by
      unfold errOf
      rw [if_neg (by omega), hek]
      congr 2
      omega
    rw [he0]
    have HEK := Lib.hid he0
    clear he0 hek
    have hbl : Below B w (W2.alloc (.cells (arr8 32 f) 24)) := hb'.alloc (by have := hr2.lt; omega) _
    go_wp2_with (first | (refine wpList_alloc_z rfl 24 rfl (Array.replicate 32 (.int .u8 0)) (fun _ => by kernel_rfl) ?_) | (refine wpList_store_row rfl 24 _ _ rfl W2.heap.size (arr8 32 f) rfl rfl _ _ hn1 (by kernel_rfl) (by simp) (arr8_one _ _) ?_; rw [alloc_setRow]))
    go_ret
    exact ⟨by rw [HEK.out]; rfl, by rw [HB.out]; exact hbl⟩

set_option maxRecDepth 100000 in
set_option maxHeartbeats 1600000 in
theorem dcheck_all (root leaf : Nat → BitVec 8) (i n : Int) (ps : List (Nat → BitVec 8)) (A : Option Addr) (cap : Nat) (w : World) (hA : SlRead w A (hcells ps)) :
    Calls Tryd.prog 18 #[.agg (arr8 32 root), .agg (arr8 32 leaf), .int .i64 i, .int .i64 n, .slice A ps.length cap] w fun e w' => e = .returned (.int .i64 (checkGot root leaf i n ps : Int)) ∧ Below w.heap.size w w' := by
  obtain ⟨f, hf⟩ : ∃ f, f = (upGot leaf i n ps).1 := ⟨_, rfl⟩
  obtain ⟨c, hc⟩ : ∃ c, c = (upGot leaf i n ps).2 := ⟨_, rfl⟩
  have hcc := upGot_code leaf i n ps
  unfold checkGot
  rw [← hc] at hcc ⊢
  rw [← hf]
  go_enter Tryd.func18, Tryd.ntmps18
  go_upto_region 1 with (fail)
  refine wp_world (fun W => Below w.heap.size w W ∧ W.rowIs w.heap.size 24 32 (fun i => v8 (root i)) ∧ W.rowIs (w.heap.size + 1) 24 32 (fun i => v8 (leaf i))) ?_ ?_
  · refine ⟨by go_grown, ?_, ?_⟩
    · exact (rowIs_new w (arr8 32 root) 24 w.heap.size 32 _ rfl (by simp) (fun i hi => arr8_get 32 root i hi)).alloc _
    · exact rowIs_new (w.alloc _) (arr8 32 leaf) 24 (w.heap.size + 1) 32 _ (by simp) (by simp) (fun i hi => arr8_get 32 leaf i hi)
  rintro W ⟨hb, hr, hlf⟩
  have hup := dup_all leaf i n ps A cap W (hA.below hb)
  rw [← hc, ← hf] at hup
  clear hA hf hc
  generalize hB : w.heap.size = B at *
  have HB := Lib.hid hB; clear hB
  have hlh := rowIs_heap8 hlf
  go_wp2_with (refine wpList_load_row rfl 24 _ rfl _ rfl _ _ _ _ hlh Tryd.underlying24 rfl (by kernel_rfl) ?_)
  refine hup.mono ?_
  rintro e W2 ⟨rfl, hb2⟩
  have hn1 := heap_alloc_new W2 (.cells (Array.replicate 32 (.int .u8 0)) 24)
  have hb' : Below B w W2 := hb.trans (hb2.mono (by have := hlf.lt; omega))
  have hr2 := hr.of_block (hb2.block _ hr.lt)
  clear hb hr hlf hlh hb2 hup
  rcases hcc with rfl | hcc
  · simp only [Int.ofNat_zero]
    go_upto_region 2 with (first | (refine wpList_alloc_z rfl 24 rfl (Array.replicate 32 (.int .u8 0)) (fun _ => by kernel_rfl) ?_) | (refine wpList_store_row rfl 24 _ _ rfl W2.heap.size (arr8 32 f) rfl rfl _ _ hn1 (by kernel_rfl) (by simp) (arr8_one _ _) ?_))
    rw [alloc_setRow]
    clear hn1
    refine wp_world (fun W3 => Below B w W3 ∧ W3.rowIs B 24 32 (fun i => v8 (root i)) ∧ W3.rowIs W2.heap.size 24 32 (fun i => v8 (f i))) ?_ ?_
    · exact ⟨hb'.alloc (by have := hr2.lt; omega) _, hr2.alloc _, rowIs_new W2 (arr8 32 f) 24 W2.heap.size 32 _ rfl (by simp) (fun i hi => arr8_get 32 f i hi)⟩
    have hBR : B < W2.heap.size := hr2.lt
    rintro W3 ⟨hb, hr, hx⟩
    clear hb' hr2
    generalize W2.heap.size = R at *
    by_cases heq : lst 32 f = lst 32 root
    · refine wp_region_text [Sp.k 0 (some 21) [] (.int .i64 0),
        Sp.k 1 (some 22) [0] (.bool true),
        Sp.k 2 (some 23) [1] (.bool true),
        Sp.k 3 (some 24) [2] (.agg (arr8 32 f)),
        Sp.k 4 (some 25) [2] (.agg (arr8 32 root)),
        Sp.k 5 (some 26) [2, 3, 4] (.bool false),
        Sp.k 6 (some 27) [2, 5] (.bool false)] (by kernel_rfl)
        ⟨owes_move 0 (some 21) [] (.int .i64 0) (Go.Operand.tmp 12) (fun v => by kernel_rfl) (fun v => by kernel_rfl),
        owes_bin 1 (some 22) [0] (.bool true) Go.BinOp.eql 3 (Go.Operand.tmp 21) (Go.Operand.const (Go.Value.int Go.IntKind.i64 0)) 3 (.int .i64 0) (Go.Value.int Go.IntKind.i64 0) (fun v => by kernel_rfl) (fun v => by kernel_rfl) (fun w => by rw [eq_i64]; simp),
        owes_move 2 (some 23) [1] (.bool true) (Go.Operand.tmp 22) (fun v => by kernel_rfl) (fun v => by kernel_rfl),
        owes_load 3 (some 24) [2] (.agg (arr8 32 f)) 24 (Go.Operand.tmp 11) (.pointer (some ⟨R, 0, none⟩)) (fun v => by kernel_rfl) (fun v => by kernel_rfl) (fun w' hb => load_hash _ _ _ w' (rangeAt_row (hx.of_block (hb.block _ hx.lt)))),
        owes_load 4 (some 25) [2] (.agg (arr8 32 root)) 24 (Go.Operand.tmp 5) (.pointer (some ⟨B, 0, none⟩)) (fun v => by kernel_rfl) (fun v => by kernel_rfl) (fun w' hb => load_hash _ _ _ w' (rangeAt_row (hr.of_block (hb.block _ hr.lt)))),
        owes_neq 5 (some 26) [2, 3, 4] 24 (Go.Operand.tmp 24) (Go.Operand.tmp 25) 24 (arr8 32 f) (arr8 32 root) true (fun v => by kernel_rfl) (fun v => by kernel_rfl) (by kernel_rfl) (hash_same f root heq),
        owes_pick 6 (some 27) [2, 5] (.bool false) (Go.Operand.tmp 23) (Go.Operand.tmp 26) (Go.Operand.const (Go.Value.bool false)) true (fun v => by kernel_rfl) (fun v => by kernel_rfl) (fun v => by kernel_rfl), trivial⟩ ?_
      intro v w' hb' hall
      clear hall
      have hbb : Below B w w' := hb.trans (hb'.mono (by have := hx.lt; omega))
      simp only [putsL_k, putsL_nil, List.set_cons_zero, List.set_cons_succ]
      go_wp2_with fail
      go_ret
      exact ⟨rfl, by rw [HB.out]; exact hbb⟩
    · refine wp_region_text [Sp.k 0 (some 21) [] (.int .i64 0),
        Sp.k 1 (some 22) [0] (.bool true),
        Sp.k 2 (some 23) [1] (.bool true),
        Sp.k 3 (some 24) [2] (.agg (arr8 32 f)),
        Sp.k 4 (some 25) [2] (.agg (arr8 32 root)),
        Sp.k 5 (some 26) [2, 3, 4] (.bool true),
        Sp.k 6 (some 27) [2, 5] (.bool true)] (by kernel_rfl)
        ⟨owes_move 0 (some 21) [] (.int .i64 0) (Go.Operand.tmp 12) (fun v => by kernel_rfl) (fun v => by kernel_rfl),
        owes_bin 1 (some 22) [0] (.bool true) Go.BinOp.eql 3 (Go.Operand.tmp 21) (Go.Operand.const (Go.Value.int Go.IntKind.i64 0)) 3 (.int .i64 0) (Go.Value.int Go.IntKind.i64 0) (fun v => by kernel_rfl) (fun v => by kernel_rfl) (fun w => by rw [eq_i64]; simp),
        owes_move 2 (some 23) [1] (.bool true) (Go.Operand.tmp 22) (fun v => by kernel_rfl) (fun v => by kernel_rfl),
        owes_load 3 (some 24) [2] (.agg (arr8 32 f)) 24 (Go.Operand.tmp 11) (.pointer (some ⟨R, 0, none⟩)) (fun v => by kernel_rfl) (fun v => by kernel_rfl) (fun w' hb => load_hash _ _ _ w' (rangeAt_row (hx.of_block (hb.block _ hx.lt)))),
        owes_load 4 (some 25) [2] (.agg (arr8 32 root)) 24 (Go.Operand.tmp 5) (.pointer (some ⟨B, 0, none⟩)) (fun v => by kernel_rfl) (fun v => by kernel_rfl) (fun w' hb => load_hash _ _ _ w' (rangeAt_row (hr.of_block (hb.block _ hr.lt)))),
        owes_neq 5 (some 26) [2, 3, 4] 24 (Go.Operand.tmp 24) (Go.Operand.tmp 25) 24 (arr8 32 f) (arr8 32 root) false (fun v => by kernel_rfl) (fun v => by kernel_rfl) (by kernel_rfl) (hash_differ f root heq),
        owes_pick 6 (some 27) [2, 5] (.bool true) (Go.Operand.tmp 23) (Go.Operand.tmp 26) (Go.Operand.const (Go.Value.bool false)) true (fun v => by kernel_rfl) (fun v => by kernel_rfl) (fun v => by kernel_rfl), trivial⟩ ?_
      intro v w' hb' hall
      clear hall
      have hbb : Below B w w' := hb.trans (hb'.mono (by have := hx.lt; omega))
      simp only [putsL_k, putsL_nil, List.set_cons_zero, List.set_cons_succ]
      go_wp2_with fail
      go_ret
      exact ⟨rfl, by rw [HB.out]; exact hbb⟩
  · have hc0 : ¬ c = 0 := by omega
    have hd0 : decide ((c : Int) = 0) = false := by simpa using hc0
    go_upto_region 2 with (first | (refine wpList_alloc_z rfl 24 rfl (Array.replicate 32 (.int .u8 0)) (fun _ => by kernel_rfl) ?_) | (refine wpList_store_row rfl 24 _ _ rfl W2.heap.size (arr8 32 f) rfl rfl _ _ hn1 (by kernel_rfl) (by simp) (arr8_one _ _) ?_))
    rw [alloc_setRow]
    clear hn1
    refine wp_world (fun W3 => Below B w W3 ∧ W3.rowIs B 24 32 (fun i => v8 (root i)) ∧ W3.rowIs W2.heap.size 24 32 (fun i => v8 (f i))) ?_ ?_
    · exact ⟨hb'.alloc (by have := hr2.lt; omega) _, hr2.alloc _, rowIs_new W2 (arr8 32 f) 24 W2.heap.size 32 _ rfl (by simp) (fun i hi => arr8_get 32 f i hi)⟩
    have hBR : B < W2.heap.size := hr2.lt
    rintro W3 ⟨hb, hr, hx⟩
    clear hb' hr2
    generalize W2.heap.size = R at *
    refine wp_region_text [Sp.k 0 (some 21) [] (.int .i64 ((c : Nat) : Int)),
      Sp.k 1 (some 22) [0] (.bool false),
      Sp.k 2 (some 23) [1] (.bool false),
      Sp.k 3 (some 24) [2] (undef),
      Sp.k 4 (some 25) [2] (undef),
      Sp.k 5 (some 26) [2, 3, 4] (undef),
      Sp.k 6 (some 27) [2, 5] (Go.Value.bool false)] (by kernel_rfl)
      ⟨owes_move 0 (some 21) [] (.int .i64 ((c : Nat) : Int)) (Go.Operand.tmp 12) (fun v => by kernel_rfl) (fun v => by kernel_rfl),
      owes_bin 1 (some 22) [0] (.bool false) Go.BinOp.eql 3 (Go.Operand.tmp 21) (Go.Operand.const (Go.Value.int Go.IntKind.i64 0)) 3 (.int .i64 ((c : Nat) : Int)) (Go.Value.int Go.IntKind.i64 0) (fun v => by kernel_rfl) (fun v => by kernel_rfl) (fun w => by rw [eq_i64]; simp; omega),
      owes_move 2 (some 23) [1] (.bool false) (Go.Operand.tmp 22) (fun v => by kernel_rfl) (fun v => by kernel_rfl),
      owes_skip 3 (some 24) [2] (fun v => by kernel_rfl),
      owes_skip 4 (some 25) [2] (fun v => by kernel_rfl),
      owes_skip 5 (some 26) [2, 3, 4] (fun v => by kernel_rfl),
      owes_pick 6 (some 27) [2, 5] (Go.Value.bool false) (Go.Operand.tmp 23) (Go.Operand.tmp 26) (Go.Operand.const (Go.Value.bool false)) false (fun v => by kernel_rfl) (fun v => by kernel_rfl) (fun v => by kernel_rfl), trivial⟩ ?_
    intro v w' hb' hall
    clear hall
    have hbb : Below B w w' := hb.trans (hb'.mono (by have := hx.lt; omega))
    simp only [putsL_k, putsL_nil, List.set_cons_zero, List.set_cons_succ]
    go_wp2_with fail
    go_ret
    exact ⟨rfl, by rw [HB.out]; exact hbb⟩
end Go.Proofs.YtihnpcoiadbpiaaDoor
