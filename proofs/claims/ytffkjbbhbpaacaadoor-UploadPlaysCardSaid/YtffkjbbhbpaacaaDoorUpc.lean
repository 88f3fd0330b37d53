import Derived.Test.YtffkjbbhbpaacaaDoorUpb
import Derived.Test.YtffkjbbhbpaacaaDoorUcd
/-
  upload.Up's after*.
-/
namespace Go.Proofs.YtffkjbbhbpaacaaDoor
open Go.RowKit
/-- a response's cells -/
abbrev rv (code n : Int) (D : Value) : Array Value := #[.int .i64 code, .int .u32 n, D]
/-- an Up as it is led on, or not -/
def upR (a b : Int) : Option (Int × Int) → Value
  | none => .tuple #[.agg (uv 0 0 0 0), .bool false]
  | some (p, q) => .tuple #[.agg (uv p q a b), .bool true]
def fillN (n t : Int) : Option (Int × Int) := if t < n then none else some (if n = t then 3 else 2, n)
def nStat (at' t code n : Int) (d : Bool) : Option (Int × Int) := if code = 0 then (if d = true then some (5, at') else fillN n t) else if code = 14 then some (1, at') else none
def nOpen (at' code : Int) : Option (Int × Int) := if code = 0 then some (2, 0) else if code = 15 then some (0, at') else none
def nPut (at' t code n : Int) : Option (Int × Int) := if code = 0 then fillN n t else if code = 14 then some (1, at') else if code = 17 then some (0, at') else if code = 2 then some (0, at') else none
def nCommit (at' code : Int) : Option (Int × Int) := if code = 0 then some (5, at') else if code = 16 then some (4, at') else if code = 14 then some (1, at') else if code = 17 then some (0, at') else none
def nDelete (at' code : Int) : Option (Int × Int) := if code = 0 then some (1, at') else if code = 14 then some (1, at') else none
section
variable {W W' : World} {g : Nat} {ph at' a b : Int}
set_option maxRecDepth 100000 in
set_option maxHeartbeats 800000 in
theorem afteropen_u (E : Nat → Addr) (w : World) (hE : ErrsAt E w) (h : UpH w g ph at' a b) (code n : Int) (D : Value) (r : Value) (hr : r = upR a b (nOpen at' code)) : Calls Tryd.prog 58 #[.pointer (some ⟨g, 0, none⟩), .agg (rv code n D)] w fun e w' => e = .returned r ∧ Below w.heap.size w w' := by
  obtain ⟨n0, hn0⟩ : ∃ n, n = w.heap.size := ⟨_, rfl⟩
  try rw [← hn0]
  have hb : Below n0 w w := by rw [hn0]; exact Below.refl _ _
  have hs : n0 ≤ w.heap.size := by rw [hn0]; exact Nat.le_refl _
  have HE : Hid (∀ W, Below n0 w W → ErrsAt E W) := Lib.hid (fun W hb => hE.below (by rw [hn0] at hb; exact hb))
  clear hn0
  have h_g : w.heap[g]? = some (.cells (uv ph at' a b) 31 (0, 0)) := h
  clear h hE
  go_enter Tryd.func58, Tryd.ntmps58
  go_upto_region 1 with (fail)
  have l_g_X : g < w.heap.size := lt_heap h_g
  have l_g_O : g < w.heap.size + 1 := by omega
  have o_X : n0 ≤ w.heap.size := hs
  have o_O : n0 ≤ w.heap.size + 1 := by omega
  have l_X_O : w.heap.size < w.heap.size + 1 := by omega
  refine wp_world (fun W => Below n0 w W ∧ n0 ≤ W.heap.size ∧ W.heap[g]? = some (.cells (uv ph at' a b) 31 (0, 0)) ∧ W.heap[w.heap.size]? = some (.cells (rv code n D) 47 (0, 0)) ∧ W.heap[w.heap.size + 1]? = some (.cells (uv 0 0 0 0) 31 (0, 0))) ⟨(hb.trans ((below_alc w _).mono hs)).trans ((below_alc _ _).mono (Nat.le_trans hs (below_alc w _).size)), Nat.le_trans (Nat.le_trans hs (below_alc w _).size) (below_alc _ _).size, heap_below (heap_below h_g (below_alc w _)) (below_alc _ _), heap2_0 _ _ _, heap2_1 _ _ _⟩ ?_
  clear hb hs h_g
  rintro W1 ⟨hb, hs, h_g, h_X, h_O⟩
  generalize w.heap.size = X at *
  generalize X + 1 = O at *
  have c0 : W1.cell? ⟨X, 0, none⟩ = some (.int .i64 code) := cell_heap h_X rfl
  by_cases e0 : code = 0
  · subst e0
    have hr1 : nOpen at' 0 = some (2, 0) := by simp [nOpen]
    rw [hr1] at hr
    subst hr
    clear hr1
    go_upto_region 4 with (first | (go_at_call 74; refine (to_u W1 h_g 2).mono ?_; rintro e V1 ⟨rfl, hbV1⟩; replace h_g := heap_below h_g hbV1; replace h_X := heap_below h_X hbV1; replace h_O := heap_below h_O hbV1; replace hb := hb.trans (hbV1.mono hs); replace hs := Nat.le_trans hs hbV1.size; clear hbV1) | (refine wpList_store_row rfl 31 _ _ rfl V1.heap.size (uv 2 at' a b) rfl rfl _ _ (heap1_0 _ _) (by kernel_rfl) rfl (uv_one _ _ _ _) ?_; rw [alloc_setRow]))
    have l_g_N : g < V1.heap.size := lt_heap h_g
    have l_X_N : X < V1.heap.size := lt_heap h_X
    have l_O_N : O < V1.heap.size := lt_heap h_O
    have o_N : n0 ≤ V1.heap.size := hs
    refine wp_world (fun W => Below n0 w W ∧ n0 ≤ W.heap.size ∧ W.heap[g]? = some (.cells (uv ph at' a b) 31 (0, 0)) ∧ W.heap[X]? = some (.cells (rv 0 n D) 47 (0, 0)) ∧ W.heap[O]? = some (.cells (uv 0 0 0 0) 31 (0, 0)) ∧ W.heap[V1.heap.size]? = some (.cells (uv 2 at' a b) 31 (0, 0))) ⟨hb.trans ((below_alc V1 _).mono hs), Nat.le_trans hs (below_alc V1 _).size, heap_below h_g (below_alc V1 _), heap_below h_X (below_alc V1 _), heap_below h_O (below_alc V1 _), heap1_0 _ _⟩ ?_
    clear hb hs h_g h_X h_O 
    rintro W2 ⟨hb, hs, h_g, h_X, h_O, h_N⟩
    generalize V1.heap.size = N at *
    have c1 : W2.cell? ⟨N, 1, none⟩ = some (.int .i64 at') := cell_heap h_N rfl
    have f1 := thaw_heap h_N 1
    go_upto_region 5 with (fail)
    refine wp_world (fun W => Below n0 w W ∧ n0 ≤ W.heap.size ∧ W.heap[g]? = some (.cells (uv ph at' a b) 31 (0, 0)) ∧ W.heap[X]? = some (.cells (rv 0 n D) 47 (0, 0)) ∧ W.heap[O]? = some (.cells (uv 0 0 0 0) 31 (0, 0)) ∧ W.heap[N]? = some (.cells (uv 2 0 a b) 31 (0, 0))) ⟨(set_turnH W2 N 1 _).below hb hs (fun q e => by rw [e]; exact o_N), by rw [heap_size_setCell]; exact hs, (heap_setCell_other W2 ⟨N, 1, none⟩ g _ (by show g ≠ N; omega)).trans h_g, (heap_setCell_other W2 ⟨N, 1, none⟩ X _ (by show X ≠ N; omega)).trans h_X, (heap_setCell_other W2 ⟨N, 1, none⟩ O _ (by show O ≠ N; omega)).trans h_O, heap_setCell_same W2 N 1 _ _ _ h_N⟩ ?_
    clear hb hs h_g h_X h_O h_N c1 f1 
    rintro W3 ⟨hb, hs, h_g, h_X, h_O, h_N⟩
    go_wp2_with (first | (refine wpList_load_row rfl 31 _ rfl N rfl _ _ _ _ h_N Tryd.underlying31 rfl (info_Up _ _ _ _) ?_) | (refine wpList_store_row rfl 31 _ _ rfl O (uv 2 0 a b) rfl rfl _ _ h_O (by kernel_rfl) rfl (uv_one _ _ _ _) ?_))
    refine bodyPost_ret (results_row_tmp rfl _ _ O _ (uv 2 0 a b) _ _ rfl (setRow_heap _ _ _ _ _ _ h_O) _ rfl Tryd.underlying31 rfl (info_Up _ _ _ _)) rfl ?_
    exact ⟨rfl, below_setRow hb o_O _⟩
  · have d0 : (code == 0) = false := by simpa using e0
    go_upto_region 6 with (fail)
    try clear c0
    have g14 : W1.cell? ⟨14, 0, none⟩ = some (errV (E 14)) := (HE.out W1 hb).c 14 (by decide)
    have hcd := code_e E 14 (by decide) W1 (HE.out W1 hb)
    rw [show ((14 : Nat) : Int) + 1 = 15 from rfl] at hcd
    by_cases e15 : code = 15
    · subst e15
      have hr1 : nOpen at' 15 = some (0, at') := by simp [nOpen, e0]
      rw [hr1] at hr
      subst hr
      clear hr1
      go_wp2_with (first | (go_at_call 16; refine hcd.mono ?_; rintro e V2 ⟨rfl, hbV2⟩; clear hcd g14; replace h_g := heap_below h_g hbV2; replace h_X := heap_below h_X hbV2; replace h_O := heap_below h_O hbV2; replace hb := hb.trans (hbV2.mono hs); replace hs := Nat.le_trans hs hbV2.size; clear hbV2) | (go_at_call 74; refine (to_u V2 h_g 0).mono ?_; rintro e V3 ⟨rfl, hbV3⟩; replace h_g := heap_below h_g hbV3; replace h_X := heap_below h_X hbV3; replace h_O := heap_below h_O hbV3; replace hb := hb.trans (hbV3.mono hs); replace hs := Nat.le_trans hs hbV3.size; clear hbV3) | (refine wpList_store_row rfl 31 _ _ rfl O (uv 0 at' a b) rfl rfl _ _ h_O (by kernel_rfl) rfl (uv_one _ _ _ _) ?_))
      refine bodyPost_ret (results_row_tmp rfl _ _ O _ (uv 0 at' a b) _ _ rfl (setRow_heap _ _ _ _ _ _ h_O) _ rfl Tryd.underlying31 rfl (info_Up _ _ _ _)) rfl ?_
      exact ⟨rfl, below_setRow hb o_O _⟩
    · have d15 : (code == 15) = false := by simpa using e15
      have hr1 : nOpen at' code = none := by simp [nOpen, e0, e15]
      rw [hr1] at hr
      subst hr
      clear hr1
      go_wp2_with (first | (go_at_call 16; refine hcd.mono ?_; rintro e V4 ⟨rfl, hbV4⟩; clear hcd g14; replace h_g := heap_below h_g hbV4; replace h_X := heap_below h_X hbV4; replace h_O := heap_below h_O hbV4; replace hb := hb.trans (hbV4.mono hs); replace hs := Nat.le_trans hs hbV4.size; clear hbV4) | (refine wpList_build rfl 31 _ rfl #[] (by kernel_rfl) (.agg (uv 0 0 0 0)) (fun _ => by kernel_rfl) ?_) | (refine wpList_store_row rfl 31 _ _ rfl O (uv 0 0 0 0) rfl rfl _ _ h_O (by kernel_rfl) rfl (uv_one _ _ _ _) ?_))
      refine bodyPost_ret (results_row_tmp rfl _ _ O _ (uv 0 0 0 0) _ _ rfl (setRow_heap _ _ _ _ _ _ h_O) _ rfl Tryd.underlying31 rfl (info_Up _ _ _ _)) rfl ?_
      exact ⟨rfl, below_setRow hb o_O _⟩
set_option maxRecDepth 100000 in
set_option maxHeartbeats 800000 in
theorem afterput_u (E : Nat → Addr) (w : World) (hE : ErrsAt E w) (h : UpH w g ph at' a b) (code n : Int) (D : Value) (t : Int) (hn : 0 ≤ n ∧ n < 4294967296) (r : Value) (hr : r = upR a b (nPut at' t code n)) : Calls Tryd.prog 59 #[.pointer (some ⟨g, 0, none⟩), .int .i64 t, .agg (rv code n D)] w fun e w' => e = .returned r ∧ Below w.heap.size w w' := by
  obtain ⟨n0, hn0⟩ : ∃ n, n = w.heap.size := ⟨_, rfl⟩
  try rw [← hn0]
  have hb : Below n0 w w := by rw [hn0]; exact Below.refl _ _
  have hs : n0 ≤ w.heap.size := by rw [hn0]; exact Nat.le_refl _
  have HE : Hid (∀ W, Below n0 w W → ErrsAt E W) := Lib.hid (fun W hb => hE.below (by rw [hn0] at hb; exact hb))
  clear hn0
  have h_g : w.heap[g]? = some (.cells (uv ph at' a b) 31 (0, 0)) := h
  clear h hE
  go_enter Tryd.func59, Tryd.ntmps59
  go_upto_region 1 with (fail)
  have l_g_X : g < w.heap.size := lt_heap h_g
  have l_g_O : g < w.heap.size + 1 := by omega
  have o_X : n0 ≤ w.heap.size := hs
  have o_O : n0 ≤ w.heap.size + 1 := by omega
  have l_X_O : w.heap.size < w.heap.size + 1 := by omega
  refine wp_world (fun W => Below n0 w W ∧ n0 ≤ W.heap.size ∧ W.heap[g]? = some (.cells (uv ph at' a b) 31 (0, 0)) ∧ W.heap[w.heap.size]? = some (.cells (rv code n D) 47 (0, 0)) ∧ W.heap[w.heap.size + 1]? = some (.cells (uv 0 0 0 0) 31 (0, 0))) ⟨(hb.trans ((below_alc w _).mono hs)).trans ((below_alc _ _).mono (Nat.le_trans hs (below_alc w _).size)), Nat.le_trans (Nat.le_trans hs (below_alc w _).size) (below_alc _ _).size, heap_below (heap_below h_g (below_alc w _)) (below_alc _ _), heap2_0 _ _ _, heap2_1 _ _ _⟩ ?_
  clear hb hs h_g
  rintro W1 ⟨hb, hs, h_g, h_X, h_O⟩
  generalize w.heap.size = X at *
  generalize X + 1 = O at *
  have c0 : W1.cell? ⟨X, 0, none⟩ = some (.int .i64 code) := cell_heap h_X rfl
  by_cases e0 : code = 0
  · subst e0
    have cn : W1.cell? ⟨X, 1, none⟩ = some (.int .u32 n) := cell_heap h_X rfl
    by_cases ht : t < n
    · have hr1 : nPut at' t 0 n = none := by simp [nPut, fillN, ht]
      rw [hr1] at hr
      subst hr
      clear hr1
      go_wp2_with (first | (go_at_call 75; refine (filled_no W1 h_g n t hn ht).mono ?_; rintro e V5 ⟨rfl, hbV5⟩; replace h_g := heap_below h_g hbV5; replace h_X := heap_below h_X hbV5; replace h_O := heap_below h_O hbV5; replace hb := hb.trans (hbV5.mono hs); replace hs := Nat.le_trans hs hbV5.size; clear hbV5) | (refine wpList_store_row rfl 31 _ _ rfl O (uv 0 0 0 0) rfl rfl _ _ h_O (by kernel_rfl) rfl (uv_one _ _ _ _) ?_))
      refine bodyPost_ret (results_row_tmp rfl _ _ O _ (uv 0 0 0 0) _ _ rfl (setRow_heap _ _ _ _ _ _ h_O) _ rfl Tryd.underlying31 rfl (info_Up _ _ _ _)) rfl ?_
      exact ⟨rfl, below_setRow hb o_O _⟩
    · obtain ⟨p, hp⟩ : ∃ p : Int, p = if n = t then 3 else 2 := ⟨_, rfl⟩
      have hr1 : nPut at' t 0 n = some (p, n) := by simp [nPut, fillN, ht, hp]
      rw [hr1] at hr
      subst hr
      clear hr1
      have HP := Lib.hid hp
      clear hp
      go_wp2_with (first | (go_at_call 75; refine (filled_yes W1 h_g n t hn ht p HP.out).mono ?_; rintro e V6 ⟨rfl, hbV6⟩; replace h_g := heap_below h_g hbV6; replace h_X := heap_below h_X hbV6; replace h_O := heap_below h_O hbV6; replace hb := hb.trans (hbV6.mono hs); replace hs := Nat.le_trans hs hbV6.size; clear hbV6) | (refine wpList_store_row rfl 31 _ _ rfl O (uv p n a b) rfl rfl _ _ h_O (by kernel_rfl) rfl (uv_one _ _ _ _) ?_))
      refine bodyPost_ret (results_row_tmp rfl _ _ O _ (uv p n a b) _ _ rfl (setRow_heap _ _ _ _ _ _ h_O) _ rfl Tryd.underlying31 rfl (info_Up _ _ _ _)) rfl ?_
      exact ⟨rfl, below_setRow hb o_O _⟩
  · have d0 : (code == 0) = false := by simpa using e0
    go_upto_region 4 with (fail)
    try clear c0
    have g13 : W1.cell? ⟨13, 0, none⟩ = some (errV (E 13)) := (HE.out W1 hb).c 13 (by decide)
    have hcd := code_e E 13 (by decide) W1 (HE.out W1 hb)
    rw [show ((13 : Nat) : Int) + 1 = 14 from rfl] at hcd
    by_cases e14 : code = 14
    · subst e14
      have hr1 : nPut at' t 14 n = some (1, at') := by simp [nPut, e0]
      rw [hr1] at hr
      subst hr
      clear hr1
      go_wp2_with (first | (go_at_call 16; refine hcd.mono ?_; rintro e V7 ⟨rfl, hbV7⟩; clear hcd g13; replace h_g := heap_below h_g hbV7; replace h_X := heap_below h_X hbV7; replace h_O := heap_below h_O hbV7; replace hb := hb.trans (hbV7.mono hs); replace hs := Nat.le_trans hs hbV7.size; clear hbV7) | (go_at_call 74; refine (to_u V7 h_g 1).mono ?_; rintro e V8 ⟨rfl, hbV8⟩; replace h_g := heap_below h_g hbV8; replace h_X := heap_below h_X hbV8; replace h_O := heap_below h_O hbV8; replace hb := hb.trans (hbV8.mono hs); replace hs := Nat.le_trans hs hbV8.size; clear hbV8) | (refine wpList_store_row rfl 31 _ _ rfl O (uv 1 at' a b) rfl rfl _ _ h_O (by kernel_rfl) rfl (uv_one _ _ _ _) ?_))
      refine bodyPost_ret (results_row_tmp rfl _ _ O _ (uv 1 at' a b) _ _ rfl (setRow_heap _ _ _ _ _ _ h_O) _ rfl Tryd.underlying31 rfl (info_Up _ _ _ _)) rfl ?_
      exact ⟨rfl, below_setRow hb o_O _⟩
    · have d14 : (code == 14) = false := by simpa using e14
      go_upto_region 6 with (first | (go_at_call 16; refine hcd.mono ?_; rintro e V9 ⟨rfl, hbV9⟩; clear hcd g13; replace h_g := heap_below h_g hbV9; replace h_X := heap_below h_X hbV9; replace h_O := heap_below h_O hbV9; replace hb := hb.trans (hbV9.mono hs); replace hs := Nat.le_trans hs hbV9.size; clear hbV9))
      try clear c0
      have g16 : V9.cell? ⟨16, 0, none⟩ = some (errV (E 16)) := (HE.out V9 hb).c 16 (by decide)
      have hcd := code_e E 16 (by decide) V9 (HE.out V9 hb)
      rw [show ((16 : Nat) : Int) + 1 = 17 from rfl] at hcd
      by_cases e17 : code = 17
      · subst e17
        have hr1 : nPut at' t 17 n = some (0, at') := by simp [nPut, e0, e14]
        rw [hr1] at hr
        subst hr
        clear hr1
        go_wp2_with (first | (go_at_call 16; refine hcd.mono ?_; rintro e V10 ⟨rfl, hbV10⟩; clear hcd g16; replace h_g := heap_below h_g hbV10; replace h_X := heap_below h_X hbV10; replace h_O := heap_below h_O hbV10; replace hb := hb.trans (hbV10.mono hs); replace hs := Nat.le_trans hs hbV10.size; clear hbV10) | (go_at_call 74; refine (to_u V10 h_g 0).mono ?_; rintro e V11 ⟨rfl, hbV11⟩; replace h_g := heap_below h_g hbV11; replace h_X := heap_below h_X hbV11; replace h_O := heap_below h_O hbV11; replace hb := hb.trans (hbV11.mono hs); replace hs := Nat.le_trans hs hbV11.size; clear hbV11) | (refine wpList_store_row rfl 31 _ _ rfl O (uv 0 at' a b) rfl rfl _ _ h_O (by kernel_rfl) rfl (uv_one _ _ _ _) ?_))
        refine bodyPost_ret (results_row_tmp rfl _ _ O _ (uv 0 at' a b) _ _ rfl (setRow_heap _ _ _ _ _ _ h_O) _ rfl Tryd.underlying31 rfl (info_Up _ _ _ _)) rfl ?_
        exact ⟨rfl, below_setRow hb o_O _⟩
      · have d17 : (code == 17) = false := by simpa using e17
        go_upto_region 7 with (first | (go_at_call 16; refine hcd.mono ?_; rintro e V12 ⟨rfl, hbV12⟩; clear hcd g16; replace h_g := heap_below h_g hbV12; replace h_X := heap_below h_X hbV12; replace h_O := heap_below h_O hbV12; replace hb := hb.trans (hbV12.mono hs); replace hs := Nat.le_trans hs hbV12.size; clear hbV12))
        try clear c0
        have g1 : V12.cell? ⟨1, 0, none⟩ = some (errV (E 1)) := (HE.out V12 hb).c 1 (by decide)
        have hcd := code_e E 1 (by decide) V12 (HE.out V12 hb)
        rw [show ((1 : Nat) : Int) + 1 = 2 from rfl] at hcd
        by_cases e2 : code = 2
        · subst e2
          have hr1 : nPut at' t 2 n = some (0, at') := by simp [nPut, e0, e14, e17]
          rw [hr1] at hr
          subst hr
          clear hr1
          go_wp2_with (first | (go_at_call 16; refine hcd.mono ?_; rintro e V13 ⟨rfl, hbV13⟩; clear hcd g1; replace h_g := heap_below h_g hbV13; replace h_X := heap_below h_X hbV13; replace h_O := heap_below h_O hbV13; replace hb := hb.trans (hbV13.mono hs); replace hs := Nat.le_trans hs hbV13.size; clear hbV13) | (go_at_call 74; refine (to_u V13 h_g 0).mono ?_; rintro e V14 ⟨rfl, hbV14⟩; replace h_g := heap_below h_g hbV14; replace h_X := heap_below h_X hbV14; replace h_O := heap_below h_O hbV14; replace hb := hb.trans (hbV14.mono hs); replace hs := Nat.le_trans hs hbV14.size; clear hbV14) | (refine wpList_store_row rfl 31 _ _ rfl O (uv 0 at' a b) rfl rfl _ _ h_O (by kernel_rfl) rfl (uv_one _ _ _ _) ?_))
          refine bodyPost_ret (results_row_tmp rfl _ _ O _ (uv 0 at' a b) _ _ rfl (setRow_heap _ _ _ _ _ _ h_O) _ rfl Tryd.underlying31 rfl (info_Up _ _ _ _)) rfl ?_
          exact ⟨rfl, below_setRow hb o_O _⟩
        · have d2 : (code == 2) = false := by simpa using e2
          have hr1 : nPut at' t code n = none := by simp [nPut, e0, e14, e17, e2]
          rw [hr1] at hr
          subst hr
          clear hr1
          go_wp2_with (first | (go_at_call 16; refine hcd.mono ?_; rintro e V15 ⟨rfl, hbV15⟩; clear hcd g1; replace h_g := heap_below h_g hbV15; replace h_X := heap_below h_X hbV15; replace h_O := heap_below h_O hbV15; replace hb := hb.trans (hbV15.mono hs); replace hs := Nat.le_trans hs hbV15.size; clear hbV15) | (refine wpList_build rfl 31 _ rfl #[] (by kernel_rfl) (.agg (uv 0 0 0 0)) (fun _ => by kernel_rfl) ?_) | (refine wpList_store_row rfl 31 _ _ rfl O (uv 0 0 0 0) rfl rfl _ _ h_O (by kernel_rfl) rfl (uv_one _ _ _ _) ?_))
          refine bodyPost_ret (results_row_tmp rfl _ _ O _ (uv 0 0 0 0) _ _ rfl (setRow_heap _ _ _ _ _ _ h_O) _ rfl Tryd.underlying31 rfl (info_Up _ _ _ _)) rfl ?_
          exact ⟨rfl, below_setRow hb o_O _⟩
set_option maxRecDepth 100000 in
set_option maxHeartbeats 800000 in
theorem aftercommit_u (E : Nat → Addr) (w : World) (hE : ErrsAt E w) (h : UpH w g ph at' a b) (code n : Int) (D : Value) (r : Value) (hr : r = upR a b (nCommit at' code)) : Calls Tryd.prog 60 #[.pointer (some ⟨g, 0, none⟩), .agg (rv code n D)] w fun e w' => e = .returned r ∧ Below w.heap.size w w' := by
  obtain ⟨n0, hn0⟩ : ∃ n, n = w.heap.size := ⟨_, rfl⟩
  try rw [← hn0]
  have hb : Below n0 w w := by rw [hn0]; exact Below.refl _ _
  have hs : n0 ≤ w.heap.size := by rw [hn0]; exact Nat.le_refl _
  have HE : Hid (∀ W, Below n0 w W → ErrsAt E W) := Lib.hid (fun W hb => hE.below (by rw [hn0] at hb; exact hb))
  clear hn0
  have h_g : w.heap[g]? = some (.cells (uv ph at' a b) 31 (0, 0)) := h
  clear h hE
  go_enter Tryd.func60, Tryd.ntmps60
  go_upto_region 1 with (fail)
  have l_g_X : g < w.heap.size := lt_heap h_g
  have l_g_O : g < w.heap.size + 1 := by omega
  have o_X : n0 ≤ w.heap.size := hs
  have o_O : n0 ≤ w.heap.size + 1 := by omega
  have l_X_O : w.heap.size < w.heap.size + 1 := by omega
  refine wp_world (fun W => Below n0 w W ∧ n0 ≤ W.heap.size ∧ W.heap[g]? = some (.cells (uv ph at' a b) 31 (0, 0)) ∧ W.heap[w.heap.size]? = some (.cells (rv code n D) 47 (0, 0)) ∧ W.heap[w.heap.size + 1]? = some (.cells (uv 0 0 0 0) 31 (0, 0))) ⟨(hb.trans ((below_alc w _).mono hs)).trans ((below_alc _ _).mono (Nat.le_trans hs (below_alc w _).size)), Nat.le_trans (Nat.le_trans hs (below_alc w _).size) (below_alc _ _).size, heap_below (heap_below h_g (below_alc w _)) (below_alc _ _), heap2_0 _ _ _, heap2_1 _ _ _⟩ ?_
  clear hb hs h_g
  rintro W1 ⟨hb, hs, h_g, h_X, h_O⟩
  generalize w.heap.size = X at *
  generalize X + 1 = O at *
  have c0 : W1.cell? ⟨X, 0, none⟩ = some (.int .i64 code) := cell_heap h_X rfl
  by_cases e0 : code = 0
  · subst e0
    have hr1 : nCommit at' 0 = some (5, at') := by simp [nCommit]
    rw [hr1] at hr
    subst hr
    clear hr1
    go_wp2_with (first | (go_at_call 74; refine (to_u W1 h_g 5).mono ?_; rintro e V16 ⟨rfl, hbV16⟩; replace h_g := heap_below h_g hbV16; replace h_X := heap_below h_X hbV16; replace h_O := heap_below h_O hbV16; replace hb := hb.trans (hbV16.mono hs); replace hs := Nat.le_trans hs hbV16.size; clear hbV16) | (refine wpList_store_row rfl 31 _ _ rfl O (uv 5 at' a b) rfl rfl _ _ h_O (by kernel_rfl) rfl (uv_one _ _ _ _) ?_))
    refine bodyPost_ret (results_row_tmp rfl _ _ O _ (uv 5 at' a b) _ _ rfl (setRow_heap _ _ _ _ _ _ h_O) _ rfl Tryd.underlying31 rfl (info_Up _ _ _ _)) rfl ?_
    exact ⟨rfl, below_setRow hb o_O _⟩
  · have d0 : (code == 0) = false := by simpa using e0
    go_upto_region 4 with (fail)
    try clear c0
    have g15 : W1.cell? ⟨15, 0, none⟩ = some (errV (E 15)) := (HE.out W1 hb).c 15 (by decide)
    have hcd := code_e E 15 (by decide) W1 (HE.out W1 hb)
    rw [show ((15 : Nat) : Int) + 1 = 16 from rfl] at hcd
    by_cases e16 : code = 16
    · subst e16
      have hr1 : nCommit at' 16 = some (4, at') := by simp [nCommit, e0]
      rw [hr1] at hr
      subst hr
      clear hr1
      go_wp2_with (first | (go_at_call 16; refine hcd.mono ?_; rintro e V17 ⟨rfl, hbV17⟩; clear hcd g15; replace h_g := heap_below h_g hbV17; replace h_X := heap_below h_X hbV17; replace h_O := heap_below h_O hbV17; replace hb := hb.trans (hbV17.mono hs); replace hs := Nat.le_trans hs hbV17.size; clear hbV17) | (go_at_call 74; refine (to_u V17 h_g 4).mono ?_; rintro e V18 ⟨rfl, hbV18⟩; replace h_g := heap_below h_g hbV18; replace h_X := heap_below h_X hbV18; replace h_O := heap_below h_O hbV18; replace hb := hb.trans (hbV18.mono hs); replace hs := Nat.le_trans hs hbV18.size; clear hbV18) | (refine wpList_store_row rfl 31 _ _ rfl O (uv 4 at' a b) rfl rfl _ _ h_O (by kernel_rfl) rfl (uv_one _ _ _ _) ?_))
      refine bodyPost_ret (results_row_tmp rfl _ _ O _ (uv 4 at' a b) _ _ rfl (setRow_heap _ _ _ _ _ _ h_O) _ rfl Tryd.underlying31 rfl (info_Up _ _ _ _)) rfl ?_
      exact ⟨rfl, below_setRow hb o_O _⟩
    · have d16 : (code == 16) = false := by simpa using e16
      go_upto_region 6 with (first | (go_at_call 16; refine hcd.mono ?_; rintro e V19 ⟨rfl, hbV19⟩; clear hcd g15; replace h_g := heap_below h_g hbV19; replace h_X := heap_below h_X hbV19; replace h_O := heap_below h_O hbV19; replace hb := hb.trans (hbV19.mono hs); replace hs := Nat.le_trans hs hbV19.size; clear hbV19))
      try clear c0
      have g13 : V19.cell? ⟨13, 0, none⟩ = some (errV (E 13)) := (HE.out V19 hb).c 13 (by decide)
      have hcd := code_e E 13 (by decide) V19 (HE.out V19 hb)
      rw [show ((13 : Nat) : Int) + 1 = 14 from rfl] at hcd
      by_cases e14 : code = 14
      · subst e14
        have hr1 : nCommit at' 14 = some (1, at') := by simp [nCommit, e0, e16]
        rw [hr1] at hr
        subst hr
        clear hr1
        go_wp2_with (first | (go_at_call 16; refine hcd.mono ?_; rintro e V20 ⟨rfl, hbV20⟩; clear hcd g13; replace h_g := heap_below h_g hbV20; replace h_X := heap_below h_X hbV20; replace h_O := heap_below h_O hbV20; replace hb := hb.trans (hbV20.mono hs); replace hs := Nat.le_trans hs hbV20.size; clear hbV20) | (go_at_call 74; refine (to_u V20 h_g 1).mono ?_; rintro e V21 ⟨rfl, hbV21⟩; replace h_g := heap_below h_g hbV21; replace h_X := heap_below h_X hbV21; replace h_O := heap_below h_O hbV21; replace hb := hb.trans (hbV21.mono hs); replace hs := Nat.le_trans hs hbV21.size; clear hbV21) | (refine wpList_store_row rfl 31 _ _ rfl O (uv 1 at' a b) rfl rfl _ _ h_O (by kernel_rfl) rfl (uv_one _ _ _ _) ?_))
        refine bodyPost_ret (results_row_tmp rfl _ _ O _ (uv 1 at' a b) _ _ rfl (setRow_heap _ _ _ _ _ _ h_O) _ rfl Tryd.underlying31 rfl (info_Up _ _ _ _)) rfl ?_
        exact ⟨rfl, below_setRow hb o_O _⟩
      · have d14 : (code == 14) = false := by simpa using e14
        go_upto_region 8 with (first | (go_at_call 16; refine hcd.mono ?_; rintro e V22 ⟨rfl, hbV22⟩; clear hcd g13; replace h_g := heap_below h_g hbV22; replace h_X := heap_below h_X hbV22; replace h_O := heap_below h_O hbV22; replace hb := hb.trans (hbV22.mono hs); replace hs := Nat.le_trans hs hbV22.size; clear hbV22))
        try clear c0
        have g16 : V22.cell? ⟨16, 0, none⟩ = some (errV (E 16)) := (HE.out V22 hb).c 16 (by decide)
        have hcd := code_e E 16 (by decide) V22 (HE.out V22 hb)
        rw [show ((16 : Nat) : Int) + 1 = 17 from rfl] at hcd
        by_cases e17 : code = 17
        · subst e17
          have hr1 : nCommit at' 17 = some (0, at') := by simp [nCommit, e0, e16, e14]
          rw [hr1] at hr
          subst hr
          clear hr1
          go_wp2_with (first | (go_at_call 16; refine hcd.mono ?_; rintro e V23 ⟨rfl, hbV23⟩; clear hcd g16; replace h_g := heap_below h_g hbV23; replace h_X := heap_below h_X hbV23; replace h_O := heap_below h_O hbV23; replace hb := hb.trans (hbV23.mono hs); replace hs := Nat.le_trans hs hbV23.size; clear hbV23) | (go_at_call 74; refine (to_u V23 h_g 0).mono ?_; rintro e V24 ⟨rfl, hbV24⟩; replace h_g := heap_below h_g hbV24; replace h_X := heap_below h_X hbV24; replace h_O := heap_below h_O hbV24; replace hb := hb.trans (hbV24.mono hs); replace hs := Nat.le_trans hs hbV24.size; clear hbV24) | (refine wpList_store_row rfl 31 _ _ rfl O (uv 0 at' a b) rfl rfl _ _ h_O (by kernel_rfl) rfl (uv_one _ _ _ _) ?_))
          refine bodyPost_ret (results_row_tmp rfl _ _ O _ (uv 0 at' a b) _ _ rfl (setRow_heap _ _ _ _ _ _ h_O) _ rfl Tryd.underlying31 rfl (info_Up _ _ _ _)) rfl ?_
          exact ⟨rfl, below_setRow hb o_O _⟩
        · have d17 : (code == 17) = false := by simpa using e17
          have hr1 : nCommit at' code = none := by simp [nCommit, e0, e16, e14, e17]
          rw [hr1] at hr
          subst hr
          clear hr1
          go_wp2_with (first | (go_at_call 16; refine hcd.mono ?_; rintro e V25 ⟨rfl, hbV25⟩; clear hcd g16; replace h_g := heap_below h_g hbV25; replace h_X := heap_below h_X hbV25; replace h_O := heap_below h_O hbV25; replace hb := hb.trans (hbV25.mono hs); replace hs := Nat.le_trans hs hbV25.size; clear hbV25) | (refine wpList_build rfl 31 _ rfl #[] (by kernel_rfl) (.agg (uv 0 0 0 0)) (fun _ => by kernel_rfl) ?_) | (refine wpList_store_row rfl 31 _ _ rfl O (uv 0 0 0 0) rfl rfl _ _ h_O (by kernel_rfl) rfl (uv_one _ _ _ _) ?_))
          refine bodyPost_ret (results_row_tmp rfl _ _ O _ (uv 0 0 0 0) _ _ rfl (setRow_heap _ _ _ _ _ _ h_O) _ rfl Tryd.underlying31 rfl (info_Up _ _ _ _)) rfl ?_
          exact ⟨rfl, below_setRow hb o_O _⟩
set_option maxRecDepth 100000 in
set_option maxHeartbeats 800000 in
theorem afterdelete_u (E : Nat → Addr) (w : World) (hE : ErrsAt E w) (h : UpH w g ph at' a b) (code n : Int) (D : Value) (r : Value) (hr : r = upR a b (nDelete at' code)) : Calls Tryd.prog 61 #[.pointer (some ⟨g, 0, none⟩), .agg (rv code n D)] w fun e w' => e = .returned r ∧ Below w.heap.size w w' := by
  obtain ⟨n0, hn0⟩ : ∃ n, n = w.heap.size := ⟨_, rfl⟩
  try rw [← hn0]
  have hb : Below n0 w w := by rw [hn0]; exact Below.refl _ _
  have hs : n0 ≤ w.heap.size := by rw [hn0]; exact Nat.le_refl _
  have HE : Hid (∀ W, Below n0 w W → ErrsAt E W) := Lib.hid (fun W hb => hE.below (by rw [hn0] at hb; exact hb))
  clear hn0
  have h_g : w.heap[g]? = some (.cells (uv ph at' a b) 31 (0, 0)) := h
  clear h hE
  go_enter Tryd.func61, Tryd.ntmps61
  go_upto_region 1 with (fail)
  have l_g_X : g < w.heap.size := lt_heap h_g
  have l_g_O : g < w.heap.size + 1 := by omega
  have o_X : n0 ≤ w.heap.size := hs
  have o_O : n0 ≤ w.heap.size + 1 := by omega
  have l_X_O : w.heap.size < w.heap.size + 1 := by omega
  refine wp_world (fun W => Below n0 w W ∧ n0 ≤ W.heap.size ∧ W.heap[g]? = some (.cells (uv ph at' a b) 31 (0, 0)) ∧ W.heap[w.heap.size]? = some (.cells (rv code n D) 47 (0, 0)) ∧ W.heap[w.heap.size + 1]? = some (.cells (uv 0 0 0 0) 31 (0, 0))) ⟨(hb.trans ((below_alc w _).mono hs)).trans ((below_alc _ _).mono (Nat.le_trans hs (below_alc w _).size)), Nat.le_trans (Nat.le_trans hs (below_alc w _).size) (below_alc _ _).size, heap_below (heap_below h_g (below_alc w _)) (below_alc _ _), heap2_0 _ _ _, heap2_1 _ _ _⟩ ?_
  clear hb hs h_g
  rintro W1 ⟨hb, hs, h_g, h_X, h_O⟩
  generalize w.heap.size = X at *
  generalize X + 1 = O at *
  have c0 : W1.cell? ⟨X, 0, none⟩ = some (.int .i64 code) := cell_heap h_X rfl
  by_cases e0 : code = 0
  · subst e0
    have hr1 : nDelete at' 0 = some (1, at') := by simp [nDelete]
    rw [hr1] at hr
    subst hr
    clear hr1
    go_wp2_with (first | (go_at_call 74; refine (to_u W1 h_g 1).mono ?_; rintro e V26 ⟨rfl, hbV26⟩; replace h_g := heap_below h_g hbV26; replace h_X := heap_below h_X hbV26; replace h_O := heap_below h_O hbV26; replace hb := hb.trans (hbV26.mono hs); replace hs := Nat.le_trans hs hbV26.size; clear hbV26) | (refine wpList_store_row rfl 31 _ _ rfl O (uv 1 at' a b) rfl rfl _ _ h_O (by kernel_rfl) rfl (uv_one _ _ _ _) ?_))
    refine bodyPost_ret (results_row_tmp rfl _ _ O _ (uv 1 at' a b) _ _ rfl (setRow_heap _ _ _ _ _ _ h_O) _ rfl Tryd.underlying31 rfl (info_Up _ _ _ _)) rfl ?_
    exact ⟨rfl, below_setRow hb o_O _⟩
  · have d0 : (code == 0) = false := by simpa using e0
    go_upto_region 3 with (fail)
    try clear c0
    have g13 : W1.cell? ⟨13, 0, none⟩ = some (errV (E 13)) := (HE.out W1 hb).c 13 (by decide)
    have hcd := code_e E 13 (by decide) W1 (HE.out W1 hb)
    rw [show ((13 : Nat) : Int) + 1 = 14 from rfl] at hcd
    by_cases e14 : code = 14
    · subst e14
      have hr1 : nDelete at' 14 = some (1, at') := by simp [nDelete, e0]
      rw [hr1] at hr
      subst hr
      clear hr1
      go_wp2_with (first | (go_at_call 16; refine hcd.mono ?_; rintro e V27 ⟨rfl, hbV27⟩; clear hcd g13; replace h_g := heap_below h_g hbV27; replace h_X := heap_below h_X hbV27; replace h_O := heap_below h_O hbV27; replace hb := hb.trans (hbV27.mono hs); replace hs := Nat.le_trans hs hbV27.size; clear hbV27) | (go_at_call 74; refine (to_u V27 h_g 1).mono ?_; rintro e V28 ⟨rfl, hbV28⟩; replace h_g := heap_below h_g hbV28; replace h_X := heap_below h_X hbV28; replace h_O := heap_below h_O hbV28; replace hb := hb.trans (hbV28.mono hs); replace hs := Nat.le_trans hs hbV28.size; clear hbV28) | (refine wpList_store_row rfl 31 _ _ rfl O (uv 1 at' a b) rfl rfl _ _ h_O (by kernel_rfl) rfl (uv_one _ _ _ _) ?_))
      refine bodyPost_ret (results_row_tmp rfl _ _ O _ (uv 1 at' a b) _ _ rfl (setRow_heap _ _ _ _ _ _ h_O) _ rfl Tryd.underlying31 rfl (info_Up _ _ _ _)) rfl ?_
      exact ⟨rfl, below_setRow hb o_O _⟩
    · have d14 : (code == 14) = false := by simpa using e14
      have hr1 : nDelete at' code = none := by simp [nDelete, e0, e14]
      rw [hr1] at hr
      subst hr
      clear hr1
      go_wp2_with (first | (go_at_call 16; refine hcd.mono ?_; rintro e V29 ⟨rfl, hbV29⟩; clear hcd g13; replace h_g := heap_below h_g hbV29; replace h_X := heap_below h_X hbV29; replace h_O := heap_below h_O hbV29; replace hb := hb.trans (hbV29.mono hs); replace hs := Nat.le_trans hs hbV29.size; clear hbV29) | (refine wpList_build rfl 31 _ rfl #[] (by kernel_rfl) (.agg (uv 0 0 0 0)) (fun _ => by kernel_rfl) ?_) | (refine wpList_store_row rfl 31 _ _ rfl O (uv 0 0 0 0) rfl rfl _ _ h_O (by kernel_rfl) rfl (uv_one _ _ _ _) ?_))
      refine bodyPost_ret (results_row_tmp rfl _ _ O _ (uv 0 0 0 0) _ _ rfl (setRow_heap _ _ _ _ _ _ h_O) _ rfl Tryd.underlying31 rfl (info_Up _ _ _ _)) rfl ?_
      exact ⟨rfl, below_setRow hb o_O _⟩
end
end Go.Proofs.YtffkjbbhbpaacaaDoor
