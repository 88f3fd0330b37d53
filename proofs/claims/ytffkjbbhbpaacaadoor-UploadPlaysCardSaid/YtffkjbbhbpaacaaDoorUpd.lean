import Derived.Test.YtffkjbbhbpaacaaDoorUpc
/-
  upload.Up's after and Answer, but for the phase Stat.
-/
namespace Go.Proofs.YtffkjbbhbpaacaaDoor
open Go.RowKit
def upA (a b : Int) : Option (Int × Int) → Array Value
  | none => uv 0 0 0 0
  | some (p, q) => uv p q a b
theorem upR_eq (a b : Int) (X : Option (Int × Int)) : upR a b X = .tuple #[.agg (upA a b X), .bool X.isSome] := by rcases X with _ | ⟨p, q⟩ <;> rfl
theorem upA_one (a b : Int) (X : Option (Int × Int)) : (upA a b X).all (·.oneCell') = true := by rcases X with _ | ⟨p, q⟩ <;> kernel_rfl
theorem upA_size (a b : Int) (X : Option (Int × Int)) : (uv 0 0 0 0).size = (upA a b X).size := by rcases X with _ | ⟨p, q⟩ <;> rfl
theorem info_UpA (a b : Int) (X : Option (Int × Int)) : (Tryd.prog.info? 31).map (·.size) = some (upA a b X).size := by rcases X with _ | ⟨p, q⟩ <;> kernel_rfl
theorem info_Rv (code n : Int) (D : Value) : (Tryd.prog.info? 47).map (·.size) = some (rv code n D).size := by kernel_rfl
def nAfter (ph at' t code n : Int) : Option (Int × Int) := if ph = 1 then nOpen at' code else if ph = 2 then nPut at' t code n else if ph = 3 then nCommit at' code else nDelete at' code
theorem set_turnRow (w : World) (g : Nat) (cs : Array Value) : Turn (· = g) w (w.setRow g cs) := ⟨rfl, rfl, rfl, by simp [World.setRow], fun k _ hne => setRow_other w g k cs hne⟩
section
variable {W W' : World} {g : Nat} {ph at' a b : Int}
set_option maxRecDepth 100000 in
set_option maxHeartbeats 800000 in
theorem after_u (E : Nat → Addr) (w : World) (hE : ErrsAt E w) (h : UpH w g ph at' a b) (hph : 1 ≤ ph ∧ ph < 5) (code n : Int) (D : Value) (t : Int) (hn : 0 ≤ n ∧ n < 4294967296) (X0 : Option (Int × Int)) (hr : X0 = nAfter ph at' t code n) : Calls Tryd.prog 33 #[.pointer (some ⟨g, 0, none⟩), .int .i64 t, .agg (rv code n D)] w fun e w' => e = .returned (upR a b X0) ∧ Below w.heap.size w w' := by
  rw [upR_eq]
  obtain ⟨n0, hn0⟩ : ∃ n, n = w.heap.size := ⟨_, rfl⟩
  try rw [← hn0]
  have hb : Below n0 w w := by rw [hn0]; exact Below.refl _ _
  have hs : n0 ≤ w.heap.size := by rw [hn0]; exact Nat.le_refl _
  have HE : Hid (∀ W, Below n0 w W → ErrsAt E W) := Lib.hid (fun W hb => hE.below (by rw [hn0] at hb; exact hb))
  clear hn0
  have h_g : w.heap[g]? = some (.cells (uv ph at' a b) 31 (0, 0)) := h
  clear h hE
  go_enter Tryd.func33, Tryd.ntmps33
  go_upto_region 1 with (fail)
  have l_g_X : g < w.heap.size := lt_heap h_g
  have l_g_O : g < w.heap.size + 1 := by omega
  have o_X : n0 ≤ w.heap.size := hs
  have o_O : n0 ≤ w.heap.size + 1 := by omega
  have l_X_O : w.heap.size < w.heap.size + 1 := by omega
  refine wp_world (fun W => Below n0 w W ∧ n0 ≤ W.heap.size ∧ W.heap[g]? = some (.cells (uv ph at' a b) 31 (0, 0)) ∧ W.heap[w.heap.size]? = some (.cells (rv code n D) 47 (0, 0)) ∧ W.heap[w.heap.size + 1]? = some (.cells (uv 0 0 0 0) 31 (0, 0))) ⟨(hb.trans ((below_alc w _).mono hs)).trans ((below_alc _ _).mono (Nat.le_trans hs (below_alc w _).size)), Nat.le_trans (Nat.le_trans hs (below_alc w _).size) (below_alc _ _).size, heap_below (heap_below h_g (below_alc w _)) (below_alc _ _), heap2_0 _ _ _, heap2_1 _ _ _⟩ ?_
  clear hb hs h_g
  rintro W1 ⟨hb, hs, h_g, h_X, h_O⟩
  generalize w.heap.size = X at *
  generalize X + 1 = O at *
  by_cases e1 : ph = 1
  · subst e1
    have hr1 : nAfter 1 at' t code n = nOpen at' code := by unfold nAfter; rfl
    rw [hr1, ] at hr
    clear hr1
    have hcl := afteropen_u E W1 (HE.out W1 hb) h_g code n D _ rfl
    rw [← hr, upR_eq] at hcl
    have HR := Lib.hid hr
    clear hr
    have c0 : W1.cell? ⟨g, 0, none⟩ = some (.int .i64 1) := cell_heap h_g rfl
    go_wp2_with (first | (refine wpList_load_row rfl 47 _ rfl X rfl _ _ _ _ h_X Tryd.underlying47 rfl (info_Rv _ _ _) ?_) | (go_at_call 58; refine hcl.mono ?_; rintro e V1 ⟨rfl, hbV1⟩; clear hcl c0; replace h_g := heap_below h_g hbV1; replace h_X := heap_below h_X hbV1; replace h_O := heap_below h_O hbV1; replace hb := hb.trans (hbV1.mono hs); replace hs := Nat.le_trans hs hbV1.size; clear hbV1) | (refine wpList_store_row rfl 31 _ _ rfl O (upA a b X0) rfl rfl _ _ h_O (info_UpA _ _ _) (upA_size _ _ _) (upA_one _ _ _) ?_))
    refine bodyPost_ret (results_row_tmp rfl _ _ O _ (upA a b X0) _ _ rfl (setRow_heap _ _ _ _ _ _ h_O) _ rfl Tryd.underlying31 rfl (info_UpA _ _ _)) rfl ?_
    exact ⟨rfl, below_setRow hb o_O _⟩
  · by_cases e2 : ph = 2
    · subst e2
      have hr1 : nAfter 2 at' t code n = nPut at' t code n := by unfold nAfter; rfl
      rw [hr1, ] at hr
      clear hr1
      have hcl := afterput_u E W1 (HE.out W1 hb) h_g code n D t hn _ rfl
      rw [← hr, upR_eq] at hcl
      have HR := Lib.hid hr
      clear hr
      have c0 : W1.cell? ⟨g, 0, none⟩ = some (.int .i64 2) := cell_heap h_g rfl
      go_wp2_with (first | (refine wpList_load_row rfl 47 _ rfl X rfl _ _ _ _ h_X Tryd.underlying47 rfl (info_Rv _ _ _) ?_) | (go_at_call 59; refine hcl.mono ?_; rintro e V2 ⟨rfl, hbV2⟩; clear hcl c0; replace h_g := heap_below h_g hbV2; replace h_X := heap_below h_X hbV2; replace h_O := heap_below h_O hbV2; replace hb := hb.trans (hbV2.mono hs); replace hs := Nat.le_trans hs hbV2.size; clear hbV2) | (refine wpList_store_row rfl 31 _ _ rfl O (upA a b X0) rfl rfl _ _ h_O (info_UpA _ _ _) (upA_size _ _ _) (upA_one _ _ _) ?_))
      refine bodyPost_ret (results_row_tmp rfl _ _ O _ (upA a b X0) _ _ rfl (setRow_heap _ _ _ _ _ _ h_O) _ rfl Tryd.underlying31 rfl (info_UpA _ _ _)) rfl ?_
      exact ⟨rfl, below_setRow hb o_O _⟩
    · by_cases e3 : ph = 3
      · subst e3
        have hr1 : nAfter 3 at' t code n = nCommit at' code := by unfold nAfter; rfl
        rw [hr1, ] at hr
        clear hr1
        have hcl := aftercommit_u E W1 (HE.out W1 hb) h_g code n D _ rfl
        rw [← hr, upR_eq] at hcl
        have HR := Lib.hid hr
        clear hr
        have c0 : W1.cell? ⟨g, 0, none⟩ = some (.int .i64 3) := cell_heap h_g rfl
        go_wp2_with (first | (refine wpList_load_row rfl 47 _ rfl X rfl _ _ _ _ h_X Tryd.underlying47 rfl (info_Rv _ _ _) ?_) | (go_at_call 60; refine hcl.mono ?_; rintro e V3 ⟨rfl, hbV3⟩; clear hcl c0; replace h_g := heap_below h_g hbV3; replace h_X := heap_below h_X hbV3; replace h_O := heap_below h_O hbV3; replace hb := hb.trans (hbV3.mono hs); replace hs := Nat.le_trans hs hbV3.size; clear hbV3) | (refine wpList_store_row rfl 31 _ _ rfl O (upA a b X0) rfl rfl _ _ h_O (info_UpA _ _ _) (upA_size _ _ _) (upA_one _ _ _) ?_))
        refine bodyPost_ret (results_row_tmp rfl _ _ O _ (upA a b X0) _ _ rfl (setRow_heap _ _ _ _ _ _ h_O) _ rfl Tryd.underlying31 rfl (info_UpA _ _ _)) rfl ?_
        exact ⟨rfl, below_setRow hb o_O _⟩
      · obtain rfl : ph = 4 := by omega
        have hr1 : nAfter 4 at' t code n = nDelete at' code := by unfold nAfter; rfl
        rw [hr1, ] at hr
        clear hr1
        have hcl := afterdelete_u E W1 (HE.out W1 hb) h_g code n D _ rfl
        rw [← hr, upR_eq] at hcl
        have HR := Lib.hid hr
        clear hr
        have c0 : W1.cell? ⟨g, 0, none⟩ = some (.int .i64 4) := cell_heap h_g rfl
        go_wp2_with (first | (refine wpList_load_row rfl 47 _ rfl X rfl _ _ _ _ h_X Tryd.underlying47 rfl (info_Rv _ _ _) ?_) | (go_at_call 61; refine hcl.mono ?_; rintro e V4 ⟨rfl, hbV4⟩; clear hcl c0; replace h_g := heap_below h_g hbV4; replace h_X := heap_below h_X hbV4; replace h_O := heap_below h_O hbV4; replace hb := hb.trans (hbV4.mono hs); replace hs := Nat.le_trans hs hbV4.size; clear hbV4) | (refine wpList_store_row rfl 31 _ _ rfl O (upA a b X0) rfl rfl _ _ h_O (info_UpA _ _ _) (upA_size _ _ _) (upA_one _ _ _) ?_))
        refine bodyPost_ret (results_row_tmp rfl _ _ O _ (upA a b X0) _ _ rfl (setRow_heap _ _ _ _ _ _ h_O) _ rfl Tryd.underlying31 rfl (info_UpA _ _ _)) rfl ?_
        exact ⟨rfl, below_setRow hb o_O _⟩
set_option maxRecDepth 100000 in
set_option maxHeartbeats 800000 in
theorem answer_no (E : Nat → Addr) (w : World) (hE : ErrsAt E w) (h : UpH w g ph at' a b) (hph : 0 ≤ ph ∧ ph < 5) (code n : Int) (D : Value) (t : Int) (ha : -1000000 ≤ a ∧ a ≤ 1000000) (haf : ∀ W, Below w.heap.size w W → UpH W g ph at' a b → Calls Tryd.prog 33 #[.pointer (some ⟨g, 0, none⟩), .int .i64 t, .agg (rv code n D)] W fun e w' => e = .returned (upR a b (none)) ∧ Below W.heap.size W w') : Calls Tryd.prog 14 #[.pointer (some ⟨g, 0, none⟩), .int .i64 t, .agg (rv code n D)] w fun e w' => e = .returned (.bool (decide (10 < a + 1))) ∧ UpH w' g ph at' (a + 1) (delayN (a + 1)) ∧ Turn (· = g) w w' := by
  obtain ⟨n0, hn0⟩ : ∃ n, n = w.heap.size := ⟨_, rfl⟩
  try rw [← hn0]
  have hb : Below n0 w w := by rw [hn0]; exact Below.refl _ _
  have hs : n0 ≤ w.heap.size := by rw [hn0]; exact Nat.le_refl _
  have HE : Hid (∀ W, Below n0 w W → ErrsAt E W ∧ Turn (· = g) w W) := Lib.hid (fun W hb => ⟨hE.below (by rw [hn0] at hb; exact hb), Turn.of_below (by rw [hn0] at hb; exact hb)⟩)
  have HA := Lib.hid haf
  rw [← hn0] at HA
  clear haf
  clear hn0
  have h_g : w.heap[g]? = some (.cells (uv ph at' a b) 31 (0, 0)) := h
  clear h hE
  have d0 : ¬ ph < 0 := by omega
  have d5 : ¬ 5 ≤ ph := by omega
  have d6 : ph < 5 := by omega
  clear hph
  go_enter Tryd.func14, Tryd.ntmps14
  go_upto_region 1 with (fail)
  have l_g_X : g < w.heap.size := lt_heap h_g
  have o_X : n0 ≤ w.heap.size := hs
  refine wp_world (fun W => Below n0 w W ∧ n0 ≤ W.heap.size ∧ W.heap[g]? = some (.cells (uv ph at' a b) 31 (0, 0)) ∧ W.heap[w.heap.size]? = some (.cells (rv code n D) 47 (0, 0))) ⟨hb.trans ((below_alc w _).mono hs), Nat.le_trans hs (below_alc w _).size, heap_below h_g (below_alc w _), heap1_0 _ _⟩ ?_
  clear hb hs h_g 
  rintro W1 ⟨hb, hs, h_g, h_X⟩
  generalize w.heap.size = X at *
  have c0 : W1.cell? ⟨g, 0, none⟩ = some (.int .i64 ph) := cell_heap h_g rfl
  have hcl := HA.out W1 hb h_g
  go_upto_region 4 with (first | (refine wpList_load_row rfl 47 _ rfl X rfl _ _ _ _ h_X Tryd.underlying47 rfl (info_Rv _ _ _) ?_) | (go_at_call 33; refine hcl.mono ?_; rintro e V5 ⟨rfl, hbV5⟩; clear hcl c0; replace h_g := heap_below h_g hbV5; replace h_X := heap_below h_X hbV5; replace hb := hb.trans (hbV5.mono hs); replace hs := Nat.le_trans hs hbV5.size; clear hbV5; simp only [upR]) | (refine wpList_store_row rfl 31 _ _ rfl V5.heap.size (uv 0 0 0 0) rfl rfl _ _ (heap1_0 _ _) (by kernel_rfl) rfl (uv_one _ _ _ _) ?_; rw [alloc_setRow]))
  have l_g_N : g < V5.heap.size := lt_heap h_g
  have l_X_N : X < V5.heap.size := lt_heap h_X
  have o_N : n0 ≤ V5.heap.size := hs
  refine wp_world (fun W => Below n0 w W ∧ n0 ≤ W.heap.size ∧ W.heap[g]? = some (.cells (uv ph at' a b) 31 (0, 0)) ∧ W.heap[X]? = some (.cells (rv code n D) 47 (0, 0)) ∧ W.heap[V5.heap.size]? = some (.cells (uv 0 0 0 0) 31 (0, 0))) ⟨hb.trans ((below_alc V5 _).mono hs), Nat.le_trans hs (below_alc V5 _).size, heap_below h_g (below_alc V5 _), heap_below h_X (below_alc V5 _), heap1_0 _ _⟩ ?_
  clear hb hs h_g h_X 
  rintro W2 ⟨hb, hs, h_g, h_X, h_N⟩
  generalize V5.heap.size = N at *
  have hfa := fail_u W2 h_g ha
  have HB := Lib.hid (HE.out W2 hb).2
  go_wp2_with (go_at_call 34; refine hfa.mono ?_; rintro e Wz ⟨rfl, hz1, hz2⟩; have HZ := Lib.hid (And.intro hz1 (HB.out.trans hz2 (fun q hq => .inl hq))); clear hz1 hz2 hfa)
  go_ret
  exact ⟨rfl, HZ.out⟩
set_option maxRecDepth 100000 in
set_option maxHeartbeats 800000 in
theorem answer_yes (E : Nat → Addr) (w : World) (hE : ErrsAt E w) (h : UpH w g ph at' a b) (hph : 0 ≤ ph ∧ ph < 5) (code n : Int) (D : Value) (t : Int) (p q : Int) (haf : ∀ W, Below w.heap.size w W → UpH W g ph at' a b → Calls Tryd.prog 33 #[.pointer (some ⟨g, 0, none⟩), .int .i64 t, .agg (rv code n D)] W fun e w' => e = .returned (upR a b (some (p, q))) ∧ Below W.heap.size W w') : Calls Tryd.prog 14 #[.pointer (some ⟨g, 0, none⟩), .int .i64 t, .agg (rv code n D)] w fun e w' => e = .returned (.bool false) ∧ UpH w' g p q 0 0 ∧ Turn (· = g) w w' := by
  obtain ⟨n0, hn0⟩ : ∃ n, n = w.heap.size := ⟨_, rfl⟩
  try rw [← hn0]
  have hb : Below n0 w w := by rw [hn0]; exact Below.refl _ _
  have hs : n0 ≤ w.heap.size := by rw [hn0]; exact Nat.le_refl _
  have HE : Hid (∀ W, Below n0 w W → ErrsAt E W ∧ Turn (· = g) w W) := Lib.hid (fun W hb => ⟨hE.below (by rw [hn0] at hb; exact hb), Turn.of_below (by rw [hn0] at hb; exact hb)⟩)
  have HA := Lib.hid haf
  rw [← hn0] at HA
  clear haf
  clear hn0
  have h_g : w.heap[g]? = some (.cells (uv ph at' a b) 31 (0, 0)) := h
  clear h hE
  have d0 : ¬ ph < 0 := by omega
  have d5 : ¬ 5 ≤ ph := by omega
  have d6 : ph < 5 := by omega
  clear hph
  go_enter Tryd.func14, Tryd.ntmps14
  go_upto_region 1 with (fail)
  have l_g_X : g < w.heap.size := lt_heap h_g
  have o_X : n0 ≤ w.heap.size := hs
  refine wp_world (fun W => Below n0 w W ∧ n0 ≤ W.heap.size ∧ W.heap[g]? = some (.cells (uv ph at' a b) 31 (0, 0)) ∧ W.heap[w.heap.size]? = some (.cells (rv code n D) 47 (0, 0))) ⟨hb.trans ((below_alc w _).mono hs), Nat.le_trans hs (below_alc w _).size, heap_below h_g (below_alc w _), heap1_0 _ _⟩ ?_
  clear hb hs h_g 
  rintro W1 ⟨hb, hs, h_g, h_X⟩
  generalize w.heap.size = X at *
  have c0 : W1.cell? ⟨g, 0, none⟩ = some (.int .i64 ph) := cell_heap h_g rfl
  have hcl := HA.out W1 hb h_g
  go_upto_region 4 with (first | (refine wpList_load_row rfl 47 _ rfl X rfl _ _ _ _ h_X Tryd.underlying47 rfl (info_Rv _ _ _) ?_) | (go_at_call 33; refine hcl.mono ?_; rintro e V6 ⟨rfl, hbV6⟩; clear hcl c0; replace h_g := heap_below h_g hbV6; replace h_X := heap_below h_X hbV6; replace hb := hb.trans (hbV6.mono hs); replace hs := Nat.le_trans hs hbV6.size; clear hbV6; simp only [upR]) | (refine wpList_store_row rfl 31 _ _ rfl V6.heap.size (uv p q a b) rfl rfl _ _ (heap1_0 _ _) (by kernel_rfl) rfl (uv_one _ _ _ _) ?_; rw [alloc_setRow]))
  have l_g_N : g < V6.heap.size := lt_heap h_g
  have l_X_N : X < V6.heap.size := lt_heap h_X
  have o_N : n0 ≤ V6.heap.size := hs
  refine wp_world (fun W => Below n0 w W ∧ n0 ≤ W.heap.size ∧ W.heap[g]? = some (.cells (uv ph at' a b) 31 (0, 0)) ∧ W.heap[X]? = some (.cells (rv code n D) 47 (0, 0)) ∧ W.heap[V6.heap.size]? = some (.cells (uv p q a b) 31 (0, 0))) ⟨hb.trans ((below_alc V6 _).mono hs), Nat.le_trans hs (below_alc V6 _).size, heap_below h_g (below_alc V6 _), heap_below h_X (below_alc V6 _), heap1_0 _ _⟩ ?_
  clear hb hs h_g h_X 
  rintro W2 ⟨hb, hs, h_g, h_X, h_N⟩
  generalize V6.heap.size = N at *
  have hgo := good_u W2 h_N
  go_upto_region 7 with (go_at_call 35; refine hgo.mono ?_; rintro e Wy ⟨rfl, hy1, hy2⟩; clear hgo)
  have h_g2 := (hy2.block g (lt_heap h_g) (by omega)).trans h_g
  have hb2 : Below n0 w Wy := hy2.below hb hs (fun q e => by rw [e]; exact o_N)
  have HB := Lib.hid (And.intro (HE.out Wy hb2).2 h_g2)
  clear hb hs h_g h_X h_N hy2 hb2
  go_wp2_with (first | (refine wpList_load_row rfl 31 _ rfl N rfl _ _ _ _ hy1 Tryd.underlying31 rfl (info_Up _ _ _ _) ?_) | (refine wpList_store_row rfl 31 _ _ rfl g (uv p q 0 0) rfl rfl _ _ h_g2 (by kernel_rfl) rfl (uv_one _ _ _ _) ?_))
  go_ret
  exact ⟨rfl, setRow_heap _ _ _ _ _ _ HB.out.2, HB.out.1.trans (set_turnRow Wy g _) (fun q hq => .inl hq)⟩
end
end Go.Proofs.YtffkjbbhbpaacaaDoor
