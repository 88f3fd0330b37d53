import Derived.Test.YtffkjbbhbpaacaaDoorUpd
import Derived.OwnWalk
/-
  the document's Up: its pace, next, Answer.
-/
namespace Go.Proofs.YtffkjbbhbpaacaaDoor
open Go.RowKit
/-- the document's Up lies there -/
def DpH (W : World) (g : Nat) (ph at' a b : Int) : Prop := W.heap[g]? = some (.cells (uv ph at' a b) 35 (0, 0))
theorem DpH.below {W W' : World} {g : Nat} {ph at' a b : Int} (h : DpH W g ph at' a b) (hb : Below W.heap.size W W') : DpH W' g ph at' a b := heap_below h hb
theorem DpH.turn {F : Nat → Prop} {W W' : World} {g : Nat} {ph at' a b : Int} (h : DpH W g ph at' a b) (ht : Turn F W W') (hF : ¬ F g) : DpH W' g ph at' a b := (ht.block g (lt_heap h) hF).trans h
theorem heap_size_setCellD (w : World) (a : Addr) (v : Value) : (w.setCell a v).heap.size = w.heap.size := by simp [World.setCell]
def DatF (W : World) (D : Value) (d : Bool) : Prop := (d = false ∧ D = .slice none 0 0) ∨ (d = true ∧ ∃ G, D = .slice (some ⟨G, 0, none⟩) 1 1 ∧ W.cell? ⟨G, 0, none⟩ = some (.int .u8 1))
theorem DatF.below {W W' : World} {D : Value} {d : Bool} (h : DatF W D d) (hb : Below W.heap.size W W') : DatF W' D d :=
  h.imp_right fun ⟨e, G, e2, c⟩ => ⟨e, G, e2, (hb.cell (p := ⟨G, 0, none⟩) (cell_lt c)).trans c⟩
def nAll (ph at' t code n : Int) (d : Bool) : Option (Int × Int) := if ph = 0 then nStat at' t code n d else nAfter ph at' t code n
def nR : Option (Int × Int) → Value
  | none => .tuple #[.int .i64 0, .int .i64 0, .bool false]
  | some (p, q) => .tuple #[.int .i64 p, .int .i64 q, .bool true]
theorem tick_u (w : World) (g : Nat) (ph at' a b : Int) (h : UpH w g ph at' a b) (hb : 0 ≤ b ∧ b ≤ 1000) : Calls Tryd.prog 12 #[.pointer (some ⟨g, 2, none⟩)] w fun e w' => e = .returned (.tuple #[]) ∧ UpH w' g ph at' a (if 0 < b then b - 1 else b) ∧ Turn (· = g) w w' := by
  have c3 := h.c3
  have f3 := h.f 3
  go_enter Tryd.func12, Tryd.ntmps12
  by_cases h0 : 0 < b
  · rw [if_pos h0]
    have HT := Lib.hid (And.intro (h.s3 (b - 1)) (set_turnH w g 3 (.int .i64 (b - 1))))
    have hw : wrap64 (b - 1) = b - 1 := by unfold wrap64; omega
    clear h
    go_wp2_with fail
    go_end0
    try rw [hw]
    exact ⟨rfl, HT.out⟩
  · rw [if_neg h0]
    have HT := Lib.hid h
    clear h
    go_wp2_with fail
    go_end0
    exact ⟨rfl, HT.out, Turn.of_below (Below.refl _ _)⟩
theorem tick_d (w : World) (g : Nat) (ph at' a b : Int) (h : DpH w g ph at' a b) (hb : 0 ≤ b ∧ b ≤ 1000) : Calls Tryd.prog 13 #[.pointer (some ⟨g, 2, none⟩)] w fun e w' => e = .returned (.tuple #[]) ∧ DpH w' g ph at' a (if 0 < b then b - 1 else b) ∧ Turn (· = g) w w' := by
  have c3 : w.cell? ⟨g, 3, none⟩ = some (.int .i64 b) := cell_heap h rfl
  have f3 := thaw_heap h 3
  go_enter Tryd.func13, Tryd.ntmps13
  by_cases h0 : 0 < b
  · rw [if_pos h0]
    have h3 : DpH (w.setCell ⟨g, 3, none⟩ (.int .i64 (b - 1))) g ph at' a (b - 1) := heap_setCell_same w g 3 _ _ _ h
    have HT := Lib.hid (And.intro h3 (set_turnH w g 3 (.int .i64 (b - 1))))
    have hw : wrap64 (b - 1) = b - 1 := by unfold wrap64; omega
    clear h h3
    go_wp2_with fail
    go_end0
    try rw [hw]
    exact ⟨rfl, HT.out⟩
  · rw [if_neg h0]
    have HT := Lib.hid h
    clear h
    go_wp2_with fail
    go_end0
    exact ⟨rfl, HT.out, Turn.of_below (Below.refl _ _)⟩
set_option maxRecDepth 100000 in
theorem fail_d (w : World) (g : Nat) (ph at' a b : Int) (h : DpH w g ph at' a b) (ha : -1000000 ≤ a ∧ a ≤ 1000000) : Calls Tryd.prog 37 #[.pointer (some ⟨g, 2, none⟩)] w fun e w' => e = .returned (.bool (decide (10 < a + 1))) ∧ DpH w' g ph at' (a + 1) (delayN (a + 1)) ∧ Turn (· = g) w w' := by
  have c2 : w.cell? ⟨g, 2, none⟩ = some (.int .i64 a) := cell_heap h rfl
  have f2 := thaw_heap h 2
  go_enter Tryd.func37, Tryd.ntmps37
  have hw1 : wrap64 (a + 1) = a + 1 := by unfold wrap64; omega
  have h2 : DpH (w.setCell ⟨g, 2, none⟩ (.int .i64 (a + 1))) g ph at' (a + 1) b := heap_setCell_same w g 2 _ _ _ h
  have HT := Lib.hid (And.intro h2 (set_turnH w g 2 (.int .i64 (a + 1))))
  clear h h2
  go_upto_region 2 with (fail)
  obtain ⟨h, ho⟩ := HT.out
  try rw [hw1]
  generalize (w.setCell ⟨g, 2, none⟩ (.int .i64 (a + 1))) = W1 at *
  clear HT c2 f2 hw1
  have c2 : W1.cell? ⟨g, 2, none⟩ = some (.int .i64 (a + 1)) := cell_heap h rfl
  have hd := ddelay_any (a + 1) W1
  obtain ⟨D, hD⟩ : ∃ D, D = delayN (a + 1) := ⟨_, rfl⟩
  rw [← hD] at hd
  have HD := Lib.hid hD
  have c3 : W1.cell? ⟨g, 3, none⟩ = some (.int .i64 b) := cell_heap h rfl
  have f3 := thaw_heap h 3
  have h3 : DpH (W1.setCell ⟨g, 3, none⟩ (.int .i64 D)) g ph at' (a + 1) D := heap_setCell_same W1 g 3 _ _ _ h
  have HT : Hid (DpH (W1.setCell ⟨g, 3, none⟩ (.int .i64 D)) g ph at' (a + 1) D ∧ Turn (· = g) w (W1.setCell ⟨g, 3, none⟩ (.int .i64 D))) := Lib.hid ⟨h3, ho.trans (set_turnH W1 g 3 _) (fun q hq => .inl hq)⟩
  clear h3 h ho hD
  go_upto_region 3 with (go_at_call 65; refine hd.mono ?_; rintro e W1 ⟨rfl, rfl⟩; clear hd)
  obtain ⟨h, ho⟩ := HT.out
  generalize (W1.setCell ⟨g, 3, none⟩ (.int .i64 D)) = W3 at *
  clear HT c2 c3 f3
  have c2 : W3.cell? ⟨g, 2, none⟩ = some (.int .i64 (a + 1)) := cell_heap h rfl
  go_wp2_with fail
  go_ret
  rw [← HD.out]
  exact ⟨rfl, h, ho⟩
theorem code_102 (w : World) : Calls Tryd.prog 63 #[.int .i64 102] w fun e w' => e = .returned (.int .i64 2) ∧ w' = w := by
  have hc : Calls Tryd.prog 50 #[.int .i64 102] w fun e w' => e = .returned (.int .i64 2) ∧ w' = w := by
    go_enter Tryd.func50, Tryd.ntmps50
    go_wp2_with fail
    go_ret
    exact ⟨rfl, rfl⟩
  go_enter Tryd.func63, Tryd.ntmps63
  go_wp2_with (go_at_call 50; refine hc.mono ?_; rintro e w ⟨rfl, rfl⟩; clear hc)
  go_ret
  exact ⟨rfl, rfl⟩
theorem code_114 (w : World) : Calls Tryd.prog 63 #[.int .i64 114] w fun e w' => e = .returned (.int .i64 14) ∧ w' = w := by
  have hc : Calls Tryd.prog 50 #[.int .i64 114] w fun e w' => e = .returned (.int .i64 14) ∧ w' = w := by
    go_enter Tryd.func50, Tryd.ntmps50
    go_wp2_with fail
    go_ret
    exact ⟨rfl, rfl⟩
  go_enter Tryd.func63, Tryd.ntmps63
  go_wp2_with (go_at_call 50; refine hc.mono ?_; rintro e w ⟨rfl, rfl⟩; clear hc)
  go_ret
  exact ⟨rfl, rfl⟩
theorem code_115 (w : World) : Calls Tryd.prog 63 #[.int .i64 115] w fun e w' => e = .returned (.int .i64 15) ∧ w' = w := by
  have hc : Calls Tryd.prog 50 #[.int .i64 115] w fun e w' => e = .returned (.int .i64 15) ∧ w' = w := by
    go_enter Tryd.func50, Tryd.ntmps50
    go_wp2_with fail
    go_ret
    exact ⟨rfl, rfl⟩
  go_enter Tryd.func63, Tryd.ntmps63
  go_wp2_with (go_at_call 50; refine hc.mono ?_; rintro e w ⟨rfl, rfl⟩; clear hc)
  go_ret
  exact ⟨rfl, rfl⟩
theorem code_116 (w : World) : Calls Tryd.prog 63 #[.int .i64 116] w fun e w' => e = .returned (.int .i64 16) ∧ w' = w := by
  have hc : Calls Tryd.prog 50 #[.int .i64 116] w fun e w' => e = .returned (.int .i64 16) ∧ w' = w := by
    go_enter Tryd.func50, Tryd.ntmps50
    go_wp2_with fail
    go_ret
    exact ⟨rfl, rfl⟩
  go_enter Tryd.func63, Tryd.ntmps63
  go_wp2_with (go_at_call 50; refine hc.mono ?_; rintro e w ⟨rfl, rfl⟩; clear hc)
  go_ret
  exact ⟨rfl, rfl⟩
theorem code_117 (w : World) : Calls Tryd.prog 63 #[.int .i64 117] w fun e w' => e = .returned (.int .i64 17) ∧ w' = w := by
  have hc : Calls Tryd.prog 50 #[.int .i64 117] w fun e w' => e = .returned (.int .i64 17) ∧ w' = w := by
    go_enter Tryd.func50, Tryd.ntmps50
    go_wp2_with fail
    go_ret
    exact ⟨rfl, rfl⟩
  go_enter Tryd.func63, Tryd.ntmps63
  go_wp2_with (go_at_call 50; refine hc.mono ?_; rintro e w ⟨rfl, rfl⟩; clear hc)
  go_ret
  exact ⟨rfl, rfl⟩
theorem put_d (n t p : Int) (hp : p = if n = t then 3 else 2) (w : World) : Calls Tryd.prog 64 #[.int .i64 n, .int .i64 t] w fun e w' => e = .returned (.tuple #[.int .i64 p, .int .i64 n]) ∧ w' = w := by
  go_enter Tryd.func64, Tryd.ntmps64
  by_cases e : n = t
  · subst e
    rw [if_pos rfl] at hp
    subst hp
    go_wp2_with fail
    go_ret2
    exact ⟨rfl, rfl⟩
  · rw [if_neg e] at hp
    subst hp
    have e2 : (n == t) = false := by simpa using e
    go_wp2_with fail
    go_ret2
    exact ⟨rfl, rfl⟩
set_option maxRecDepth 100000 in
set_option maxHeartbeats 1600000 in
theorem next_d (w : World) (g : Nat) (ph at' a b : Int) (h : DpH w g ph at' a b) (hph : 0 ≤ ph ∧ ph < 5) (t code n : Int) (hn : 0 ≤ n ∧ n < 4294967296) (D : Value) (d : Bool) (hD : DatF w D d) (r : Value) (hr : r = nR (nAll ph at' t code n d)) :
    Calls Tryd.prog 36 #[.pointer (some ⟨g, 0, none⟩), .int .i64 t, .agg (rv code n D)] w fun e w' => e = .returned r ∧ Below w.heap.size w w' := by
  have hcv : (wrap64 n) = n := by unfold wrap64; omega
  have hcv2 : (wrap64 (wrap64 n)) = n := by rw [hcv, hcv]
  obtain ⟨n0, hn0⟩ : ∃ n, n = w.heap.size := ⟨_, rfl⟩
  try rw [← hn0]
  have hb : Below n0 w w := by rw [hn0]; exact Below.refl _ _
  have hs : n0 ≤ w.heap.size := by rw [hn0]; exact Nat.le_refl _
  clear hn0
  have h_g : w.heap[g]? = some (.cells (uv ph at' a b) 35 (0, 0)) := h
  clear h
  go_enter Tryd.func36, Tryd.ntmps36
  go_upto_region 1 with (fail)
  have l_g_X : g < w.heap.size := lt_heap h_g
  have o_X : n0 ≤ w.heap.size := hs
  refine wp_world (fun W => Below n0 w W ∧ n0 ≤ W.heap.size ∧ W.heap[g]? = some (.cells (uv ph at' a b) 35 (0, 0)) ∧ W.heap[w.heap.size]? = some (.cells (rv code n D) 47 (0, 0)) ∧ DatF W D d) ⟨hb.trans ((below_alc w _).mono hs), Nat.le_trans hs (below_alc w _).size, heap_below h_g (below_alc w _), heap1_0 _ _, hD.below (below_alc w _)⟩ ?_
  clear hb hs h_g hD
  rintro W1 ⟨hb, hs, h_g, h_X, hD⟩
  generalize w.heap.size = X at *
  have cn : W1.cell? ⟨X, 1, none⟩ = some (.int .u32 n) := cell_heap h_X rfl
  go_upto_region 2 with (fail)
  clear cn
  have c0 : W1.cell? ⟨X, 0, none⟩ = some (.int .i64 code) := cell_heap h_X rfl
  go_quiet (first | (go_at_call 63; exact Calls.quiet_of_same (code_114 _)))
  have hbq : Below W1.heap.size W1 (W1.drewN nq) := Below.drewNr nq
  replace h_g := heap_below h_g hbq
  replace h_X := heap_below h_X hbq
  replace hD := hD.below hbq
  replace hb := hb.trans (hbq.mono hs)
  replace hs := Nat.le_trans hs hbq.size
  clear hbq c0
  generalize W1.drewN nq = V1 at *
  go_upto_region 3 with (fail)
  have c0 : V1.cell? ⟨X, 0, none⟩ = some (.int .i64 code) := cell_heap h_X rfl
  go_quiet (first | (go_at_call 63; exact Calls.quiet_of_same (code_117 _)))
  have hbq : Below V1.heap.size V1 (V1.drewN nq) := Below.drewNr nq
  replace h_g := heap_below h_g hbq
  replace h_X := heap_below h_X hbq
  replace hD := hD.below hbq
  replace hb := hb.trans (hbq.mono hs)
  replace hs := Nat.le_trans hs hbq.size
  clear hbq c0
  generalize V1.drewN nq = V2 at *
  go_upto_region 4 with (fail)
  have p0 : V2.cell? ⟨g, 0, none⟩ = some (.int .i64 ph) := cell_heap h_g rfl
  by_cases e_0 : ph = 0
  · subst e_0
    replace h_g : V2.heap[g]? = some (.cells (uv 0 at' a b) 35 (0, 0)) := h_g
    clear hph
    have c0 : V2.cell? ⟨X, 0, none⟩ = some (.int .i64 code) := cell_heap h_X rfl
    by_cases e0 : code = 0
    · subst e0
      replace h_X : V2.heap[X]? = some (.cells (rv 0 n D) 47 (0, 0)) := h_X
      try clear c0
      have c0 : V2.cell? ⟨X, 0, none⟩ = some (.int .i64 0) := cell_heap h_X rfl
      have cD : V2.cell? ⟨X, 2, none⟩ = some D := cell_heap h_X rfl
      rcases hD with ⟨rfl, rfl⟩ | ⟨rfl, G, rfl, hG⟩
      · have cn : V2.cell? ⟨X, 1, none⟩ = some (.int .u32 n) := cell_heap h_X rfl
        by_cases ht : t < n
        · have hle : ¬ n ≤ t := by omega
          have hr1 : nAll 0 at' t 0 n false = none := by simp [nAll, nStat, fillN, ht]
          rw [hr1] at hr
          subst hr
          clear hr1
          go_wp2_with fail
          go_ret3
          exact ⟨rfl, hb⟩
        · have hle : n ≤ t := by omega
          obtain ⟨p, hp⟩ : ∃ p : Int, p = if n = t then 3 else 2 := ⟨_, rfl⟩
          have hr1 : nAll 0 at' t 0 n false = some (p, n) := by simp [nAll, nStat, fillN, ht, hp]
          rw [hr1] at hr
          subst hr
          clear hr1
          have hpu := put_d n t p hp V2
          clear hp
          go_wp2_with (go_at_call 64; refine hpu.mono ?_; rintro e V2 ⟨rfl, rfl⟩; clear hpu)
          go_ret3
          exact ⟨rfl, hb⟩
      · have hr1 : nAll 0 at' t 0 n true = some (5, at') := by simp [nAll, nStat]
        rw [hr1] at hr
        subst hr
        clear hr1
        have a1 : V2.cell? ⟨g, 1, none⟩ = some (.int .i64 at') := cell_heap h_g rfl
        go_upto_region 7 with (fail)
        go_quiet (fail)
        have hbq : Below V2.heap.size V2 (V2.drewN nq) := Below.drewNr nq
        replace h_g := heap_below h_g hbq
        replace h_X := heap_below h_X hbq
        replace hb := hb.trans (hbq.mono hs)
        replace hs := Nat.le_trans hs hbq.size
        clear hbq a1 c0
        generalize V2.drewN nq = V3 at *
        go_wp2_with fail
        go_ret3
        exact ⟨rfl, hb⟩
    · have d0 : (code == 0) = false := by simpa using e0
      by_cases e14 : code = 14
      · subst e14
        replace h_X : V2.heap[X]? = some (.cells (rv 14 n D) 47 (0, 0)) := h_X
        try clear c0
        have c0 : V2.cell? ⟨X, 0, none⟩ = some (.int .i64 14) := cell_heap h_X rfl
        have hr1 : nAll 0 at' t 14 n d = some (1, at') := by simp [nAll, nStat, e0]
        rw [hr1] at hr
        subst hr
        clear hr1
        have a1 : V2.cell? ⟨g, 1, none⟩ = some (.int .i64 at') := cell_heap h_g rfl
        go_upto_region 12 with (fail)
        go_quiet (fail)
        have hbq : Below V2.heap.size V2 (V2.drewN nq) := Below.drewNr nq
        replace h_g := heap_below h_g hbq
        replace h_X := heap_below h_X hbq
        replace hD := hD.below hbq
        replace hb := hb.trans (hbq.mono hs)
        replace hs := Nat.le_trans hs hbq.size
        clear hbq a1 c0
        generalize V2.drewN nq = V4 at *
        go_wp2_with fail
        go_ret3
        exact ⟨rfl, hb⟩
      · have d14 : (code == 14) = false := by simpa using e14
        have hr1 : nAll 0 at' t code n d = none := by simp [nAll, nStat, e0, e14]
        rw [hr1] at hr
        subst hr
        clear hr1
        go_wp2_with fail
        go_ret3
        exact ⟨rfl, hb⟩
  · by_cases e_1 : ph = 1
    · subst e_1
      replace h_g : V2.heap[g]? = some (.cells (uv 1 at' a b) 35 (0, 0)) := h_g
      clear hph
      have c0 : V2.cell? ⟨X, 0, none⟩ = some (.int .i64 code) := cell_heap h_X rfl
      by_cases e0 : code = 0
      · subst e0
        replace h_X : V2.heap[X]? = some (.cells (rv 0 n D) 47 (0, 0)) := h_X
        try clear c0
        have c0 : V2.cell? ⟨X, 0, none⟩ = some (.int .i64 0) := cell_heap h_X rfl
        have hr1 : nAll 1 at' t 0 n d = some (2, 0) := by simp [nAll, nAfter, nOpen]
        rw [hr1] at hr
        subst hr
        clear hr1
        go_wp2_with fail
        go_ret3
        exact ⟨rfl, hb⟩
      · have d0 : (code == 0) = false := by simpa using e0
        by_cases e15 : code = 15
        · subst e15
          replace h_X : V2.heap[X]? = some (.cells (rv 15 n D) 47 (0, 0)) := h_X
          try clear c0
          have c0 : V2.cell? ⟨X, 0, none⟩ = some (.int .i64 15) := cell_heap h_X rfl
          go_upto_region 16 with (fail)
          go_quiet (first | (go_at_call 63; exact Calls.quiet_of_same (code_115 _)))
          have hbq : Below V2.heap.size V2 (V2.drewN nq) := Below.drewNr nq
          replace h_g := heap_below h_g hbq
          replace h_X := heap_below h_X hbq
          replace hD := hD.below hbq
          replace hb := hb.trans (hbq.mono hs)
          replace hs := Nat.le_trans hs hbq.size
          clear hbq 
          generalize V2.drewN nq = V5 at *
          have hr1 : nAll 1 at' t 15 n d = some (0, at') := by simp [nAll, nAfter, nOpen, e0]
          rw [hr1] at hr
          subst hr
          clear hr1
          have a1 : V5.cell? ⟨g, 1, none⟩ = some (.int .i64 at') := cell_heap h_g rfl
          go_upto_region 17 with (fail)
          go_quiet (fail)
          have hbq : Below V5.heap.size V5 (V5.drewN nq) := Below.drewNr nq
          replace h_g := heap_below h_g hbq
          replace h_X := heap_below h_X hbq
          replace hD := hD.below hbq
          replace hb := hb.trans (hbq.mono hs)
          replace hs := Nat.le_trans hs hbq.size
          clear hbq a1 c0
          generalize V5.drewN nq = V6 at *
          go_wp2_with fail
          go_ret3
          exact ⟨rfl, hb⟩
        · have d15 : (code == 15) = false := by simpa using e15
          go_upto_region 16 with (fail)
          go_quiet (first | (go_at_call 63; exact Calls.quiet_of_same (code_115 _)))
          have hbq : Below V2.heap.size V2 (V2.drewN nq) := Below.drewNr nq
          replace h_g := heap_below h_g hbq
          replace h_X := heap_below h_X hbq
          replace hD := hD.below hbq
          replace hb := hb.trans (hbq.mono hs)
          replace hs := Nat.le_trans hs hbq.size
          clear hbq 
          generalize V2.drewN nq = V7 at *
          have hr1 : nAll 1 at' t code n d = none := by simp [nAll, nAfter, nOpen, e0, e15]
          rw [hr1] at hr
          subst hr
          clear hr1
          go_wp2_with fail
          go_ret3
          exact ⟨rfl, hb⟩
    · by_cases e_2 : ph = 2
      · subst e_2
        replace h_g : V2.heap[g]? = some (.cells (uv 2 at' a b) 35 (0, 0)) := h_g
        clear hph
        have c0 : V2.cell? ⟨X, 0, none⟩ = some (.int .i64 code) := cell_heap h_X rfl
        by_cases e0 : code = 0
        · subst e0
          replace h_X : V2.heap[X]? = some (.cells (rv 0 n D) 47 (0, 0)) := h_X
          try clear c0
          have c0 : V2.cell? ⟨X, 0, none⟩ = some (.int .i64 0) := cell_heap h_X rfl
          have cn : V2.cell? ⟨X, 1, none⟩ = some (.int .u32 n) := cell_heap h_X rfl
          by_cases ht : t < n
          · have hle : ¬ n ≤ t := by omega
            have hr1 : nAll 2 at' t 0 n d = none := by simp [nAll, nAfter, nPut, fillN, ht]
            rw [hr1] at hr
            subst hr
            clear hr1
            go_upto_region 24 with (fail)
            go_quiet (first | (go_at_call 63; exact Calls.quiet_of_same (code_102 _)))
            have hbq : Below V2.heap.size V2 (V2.drewN nq) := Below.drewNr nq
            replace h_g := heap_below h_g hbq
            replace h_X := heap_below h_X hbq
            replace hD := hD.below hbq
            replace hb := hb.trans (hbq.mono hs)
            replace hs := Nat.le_trans hs hbq.size
            clear hbq 
            generalize V2.drewN nq = V8 at *
            go_wp2_with fail
            go_ret3
            exact ⟨rfl, hb⟩
          · have hle : n ≤ t := by omega
            obtain ⟨p, hp⟩ : ∃ p : Int, p = if n = t then 3 else 2 := ⟨_, rfl⟩
            have hr1 : nAll 2 at' t 0 n d = some (p, n) := by simp [nAll, nAfter, nPut, fillN, ht, hp]
            rw [hr1] at hr
            subst hr
            clear hr1
            have hpu := put_d n t p hp V2
            clear hp
            go_wp2_with (go_at_call 64; refine hpu.mono ?_; rintro e V2 ⟨rfl, rfl⟩; clear hpu)
            go_ret3
            exact ⟨rfl, hb⟩
        · have d0 : (code == 0) = false := by simpa using e0
          by_cases e14 : code = 14
          · subst e14
            replace h_X : V2.heap[X]? = some (.cells (rv 14 n D) 47 (0, 0)) := h_X
            try clear c0
            have c0 : V2.cell? ⟨X, 0, none⟩ = some (.int .i64 14) := cell_heap h_X rfl
            have hr1 : nAll 2 at' t 14 n d = some (1, at') := by simp [nAll, nAfter, nPut, e0]
            rw [hr1] at hr
            subst hr
            clear hr1
            have a1 : V2.cell? ⟨g, 1, none⟩ = some (.int .i64 at') := cell_heap h_g rfl
            go_upto_region 23 with (fail)
            go_quiet (fail)
            have hbq : Below V2.heap.size V2 (V2.drewN nq) := Below.drewNr nq
            replace h_g := heap_below h_g hbq
            replace h_X := heap_below h_X hbq
            replace hD := hD.below hbq
            replace hb := hb.trans (hbq.mono hs)
            replace hs := Nat.le_trans hs hbq.size
            clear hbq a1 c0
            generalize V2.drewN nq = V9 at *
            go_wp2_with fail
            go_ret3
            exact ⟨rfl, hb⟩
          · have d14 : (code == 14) = false := by simpa using e14
            by_cases e17 : code = 17
            · subst e17
              replace h_X : V2.heap[X]? = some (.cells (rv 17 n D) 47 (0, 0)) := h_X
              try clear c0
              have c0 : V2.cell? ⟨X, 0, none⟩ = some (.int .i64 17) := cell_heap h_X rfl
              go_upto_region 24 with (fail)
              go_quiet (first | (go_at_call 63; exact Calls.quiet_of_same (code_102 _)))
              have hbq : Below V2.heap.size V2 (V2.drewN nq) := Below.drewNr nq
              replace h_g := heap_below h_g hbq
              replace h_X := heap_below h_X hbq
              replace hD := hD.below hbq
              replace hb := hb.trans (hbq.mono hs)
              replace hs := Nat.le_trans hs hbq.size
              clear hbq 
              generalize V2.drewN nq = V10 at *
              have hr1 : nAll 2 at' t 17 n d = some (0, at') := by simp [nAll, nAfter, nPut, e0, e14]
              rw [hr1] at hr
              subst hr
              clear hr1
              have a1 : V10.cell? ⟨g, 1, none⟩ = some (.int .i64 at') := cell_heap h_g rfl
              go_upto_region 25 with (fail)
              go_quiet (fail)
              have hbq : Below V10.heap.size V10 (V10.drewN nq) := Below.drewNr nq
              replace h_g := heap_below h_g hbq
              replace h_X := heap_below h_X hbq
              replace hD := hD.below hbq
              replace hb := hb.trans (hbq.mono hs)
              replace hs := Nat.le_trans hs hbq.size
              clear hbq a1 c0
              generalize V10.drewN nq = V11 at *
              go_wp2_with fail
              go_ret3
              exact ⟨rfl, hb⟩
            · have d17 : (code == 17) = false := by simpa using e17
              by_cases e2 : code = 2
              · subst e2
                replace h_X : V2.heap[X]? = some (.cells (rv 2 n D) 47 (0, 0)) := h_X
                try clear c0
                have c0 : V2.cell? ⟨X, 0, none⟩ = some (.int .i64 2) := cell_heap h_X rfl
                go_upto_region 24 with (fail)
                go_quiet (first | (go_at_call 63; exact Calls.quiet_of_same (code_102 _)))
                have hbq : Below V2.heap.size V2 (V2.drewN nq) := Below.drewNr nq
                replace h_g := heap_below h_g hbq
                replace h_X := heap_below h_X hbq
                replace hD := hD.below hbq
                replace hb := hb.trans (hbq.mono hs)
                replace hs := Nat.le_trans hs hbq.size
                clear hbq 
                generalize V2.drewN nq = V12 at *
                have hr1 : nAll 2 at' t 2 n d = some (0, at') := by simp [nAll, nAfter, nPut, e0, e14, e17]
                rw [hr1] at hr
                subst hr
                clear hr1
                have a1 : V12.cell? ⟨g, 1, none⟩ = some (.int .i64 at') := cell_heap h_g rfl
                go_upto_region 25 with (fail)
                go_quiet (fail)
                have hbq : Below V12.heap.size V12 (V12.drewN nq) := Below.drewNr nq
                replace h_g := heap_below h_g hbq
                replace h_X := heap_below h_X hbq
                replace hD := hD.below hbq
                replace hb := hb.trans (hbq.mono hs)
                replace hs := Nat.le_trans hs hbq.size
                clear hbq a1 c0
                generalize V12.drewN nq = V13 at *
                go_wp2_with fail
                go_ret3
                exact ⟨rfl, hb⟩
              · have d2 : (code == 2) = false := by simpa using e2
                go_upto_region 24 with (fail)
                go_quiet (first | (go_at_call 63; exact Calls.quiet_of_same (code_102 _)))
                have hbq : Below V2.heap.size V2 (V2.drewN nq) := Below.drewNr nq
                replace h_g := heap_below h_g hbq
                replace h_X := heap_below h_X hbq
                replace hD := hD.below hbq
                replace hb := hb.trans (hbq.mono hs)
                replace hs := Nat.le_trans hs hbq.size
                clear hbq 
                generalize V2.drewN nq = V14 at *
                have hr1 : nAll 2 at' t code n d = none := by simp [nAll, nAfter, nPut, e0, e14, e17, e2]
                rw [hr1] at hr
                subst hr
                clear hr1
                go_wp2_with fail
                go_ret3
                exact ⟨rfl, hb⟩
      · by_cases e_3 : ph = 3
        · subst e_3
          replace h_g : V2.heap[g]? = some (.cells (uv 3 at' a b) 35 (0, 0)) := h_g
          clear hph
          have c0 : V2.cell? ⟨X, 0, none⟩ = some (.int .i64 code) := cell_heap h_X rfl
          by_cases e0 : code = 0
          · subst e0
            replace h_X : V2.heap[X]? = some (.cells (rv 0 n D) 47 (0, 0)) := h_X
            try clear c0
            have c0 : V2.cell? ⟨X, 0, none⟩ = some (.int .i64 0) := cell_heap h_X rfl
            have hr1 : nAll 3 at' t 0 n d = some (5, at') := by simp [nAll, nAfter, nCommit]
            rw [hr1] at hr
            subst hr
            clear hr1
            have a1 : V2.cell? ⟨g, 1, none⟩ = some (.int .i64 at') := cell_heap h_g rfl
            go_upto_region 28 with (fail)
            go_quiet (fail)
            have hbq : Below V2.heap.size V2 (V2.drewN nq) := Below.drewNr nq
            replace h_g := heap_below h_g hbq
            replace h_X := heap_below h_X hbq
            replace hD := hD.below hbq
            replace hb := hb.trans (hbq.mono hs)
            replace hs := Nat.le_trans hs hbq.size
            clear hbq a1 c0
            generalize V2.drewN nq = V15 at *
            go_wp2_with fail
            go_ret3
            exact ⟨rfl, hb⟩
          · have d0 : (code == 0) = false := by simpa using e0
            by_cases e16 : code = 16
            · subst e16
              replace h_X : V2.heap[X]? = some (.cells (rv 16 n D) 47 (0, 0)) := h_X
              try clear c0
              have c0 : V2.cell? ⟨X, 0, none⟩ = some (.int .i64 16) := cell_heap h_X rfl
              go_upto_region 29 with (fail)
              go_quiet (first | (go_at_call 63; exact Calls.quiet_of_same (code_116 _)))
              have hbq : Below V2.heap.size V2 (V2.drewN nq) := Below.drewNr nq
              replace h_g := heap_below h_g hbq
              replace h_X := heap_below h_X hbq
              replace hD := hD.below hbq
              replace hb := hb.trans (hbq.mono hs)
              replace hs := Nat.le_trans hs hbq.size
              clear hbq 
              generalize V2.drewN nq = V16 at *
              have hr1 : nAll 3 at' t 16 n d = some (4, at') := by simp [nAll, nAfter, nCommit, e0]
              rw [hr1] at hr
              subst hr
              clear hr1
              have a1 : V16.cell? ⟨g, 1, none⟩ = some (.int .i64 at') := cell_heap h_g rfl
              go_upto_region 30 with (fail)
              go_quiet (fail)
              have hbq : Below V16.heap.size V16 (V16.drewN nq) := Below.drewNr nq
              replace h_g := heap_below h_g hbq
              replace h_X := heap_below h_X hbq
              replace hD := hD.below hbq
              replace hb := hb.trans (hbq.mono hs)
              replace hs := Nat.le_trans hs hbq.size
              clear hbq a1 c0
              generalize V16.drewN nq = V17 at *
              go_wp2_with fail
              go_ret3
              exact ⟨rfl, hb⟩
            · have d16 : (code == 16) = false := by simpa using e16
              by_cases e14 : code = 14
              · subst e14
                replace h_X : V2.heap[X]? = some (.cells (rv 14 n D) 47 (0, 0)) := h_X
                try clear c0
                have c0 : V2.cell? ⟨X, 0, none⟩ = some (.int .i64 14) := cell_heap h_X rfl
                go_upto_region 29 with (fail)
                go_quiet (first | (go_at_call 63; exact Calls.quiet_of_same (code_116 _)))
                have hbq : Below V2.heap.size V2 (V2.drewN nq) := Below.drewNr nq
                replace h_g := heap_below h_g hbq
                replace h_X := heap_below h_X hbq
                replace hD := hD.below hbq
                replace hb := hb.trans (hbq.mono hs)
                replace hs := Nat.le_trans hs hbq.size
                clear hbq 
                generalize V2.drewN nq = V18 at *
                have hr1 : nAll 3 at' t 14 n d = some (1, at') := by simp [nAll, nAfter, nCommit, e0, e16]
                rw [hr1] at hr
                subst hr
                clear hr1
                have a1 : V18.cell? ⟨g, 1, none⟩ = some (.int .i64 at') := cell_heap h_g rfl
                go_upto_region 32 with (fail)
                go_quiet (fail)
                have hbq : Below V18.heap.size V18 (V18.drewN nq) := Below.drewNr nq
                replace h_g := heap_below h_g hbq
                replace h_X := heap_below h_X hbq
                replace hD := hD.below hbq
                replace hb := hb.trans (hbq.mono hs)
                replace hs := Nat.le_trans hs hbq.size
                clear hbq a1 c0
                generalize V18.drewN nq = V19 at *
                go_wp2_with fail
                go_ret3
                exact ⟨rfl, hb⟩
              · have d14 : (code == 14) = false := by simpa using e14
                by_cases e17 : code = 17
                · subst e17
                  replace h_X : V2.heap[X]? = some (.cells (rv 17 n D) 47 (0, 0)) := h_X
                  try clear c0
                  have c0 : V2.cell? ⟨X, 0, none⟩ = some (.int .i64 17) := cell_heap h_X rfl
                  go_upto_region 29 with (fail)
                  go_quiet (first | (go_at_call 63; exact Calls.quiet_of_same (code_116 _)))
                  have hbq : Below V2.heap.size V2 (V2.drewN nq) := Below.drewNr nq
                  replace h_g := heap_below h_g hbq
                  replace h_X := heap_below h_X hbq
                  replace hD := hD.below hbq
                  replace hb := hb.trans (hbq.mono hs)
                  replace hs := Nat.le_trans hs hbq.size
                  clear hbq 
                  generalize V2.drewN nq = V20 at *
                  have hr1 : nAll 3 at' t 17 n d = some (0, at') := by simp [nAll, nAfter, nCommit, e0, e16, e14]
                  rw [hr1] at hr
                  subst hr
                  clear hr1
                  have a1 : V20.cell? ⟨g, 1, none⟩ = some (.int .i64 at') := cell_heap h_g rfl
                  go_upto_region 34 with (fail)
                  go_quiet (fail)
                  have hbq : Below V20.heap.size V20 (V20.drewN nq) := Below.drewNr nq
                  replace h_g := heap_below h_g hbq
                  replace h_X := heap_below h_X hbq
                  replace hD := hD.below hbq
                  replace hb := hb.trans (hbq.mono hs)
                  replace hs := Nat.le_trans hs hbq.size
                  clear hbq a1 c0
                  generalize V20.drewN nq = V21 at *
                  go_wp2_with fail
                  go_ret3
                  exact ⟨rfl, hb⟩
                · have d17 : (code == 17) = false := by simpa using e17
                  go_upto_region 29 with (fail)
                  go_quiet (first | (go_at_call 63; exact Calls.quiet_of_same (code_116 _)))
                  have hbq : Below V2.heap.size V2 (V2.drewN nq) := Below.drewNr nq
                  replace h_g := heap_below h_g hbq
                  replace h_X := heap_below h_X hbq
                  replace hD := hD.below hbq
                  replace hb := hb.trans (hbq.mono hs)
                  replace hs := Nat.le_trans hs hbq.size
                  clear hbq 
                  generalize V2.drewN nq = V22 at *
                  have hr1 : nAll 3 at' t code n d = none := by simp [nAll, nAfter, nCommit, e0, e16, e14, e17]
                  rw [hr1] at hr
                  subst hr
                  clear hr1
                  go_wp2_with fail
                  go_ret3
                  exact ⟨rfl, hb⟩
        · obtain rfl : ph = 4 := by omega
          replace h_g : V2.heap[g]? = some (.cells (uv 4 at' a b) 35 (0, 0)) := h_g
          clear hph
          have c0 : V2.cell? ⟨X, 0, none⟩ = some (.int .i64 code) := cell_heap h_X rfl
          by_cases e0 : code = 0
          · subst e0
            replace h_X : V2.heap[X]? = some (.cells (rv 0 n D) 47 (0, 0)) := h_X
            try clear c0
            have c0 : V2.cell? ⟨X, 0, none⟩ = some (.int .i64 0) := cell_heap h_X rfl
            have hr1 : nAll 4 at' t 0 n d = some (1, at') := by simp [nAll, nAfter, nDelete]
            rw [hr1] at hr
            subst hr
            clear hr1
            have a1 : V2.cell? ⟨g, 1, none⟩ = some (.int .i64 at') := cell_heap h_g rfl
            go_upto_region 37 with (fail)
            go_quiet (fail)
            have hbq : Below V2.heap.size V2 (V2.drewN nq) := Below.drewNr nq
            replace h_g := heap_below h_g hbq
            replace h_X := heap_below h_X hbq
            replace hD := hD.below hbq
            replace hb := hb.trans (hbq.mono hs)
            replace hs := Nat.le_trans hs hbq.size
            clear hbq a1 c0
            generalize V2.drewN nq = V23 at *
            go_wp2_with fail
            go_ret3
            exact ⟨rfl, hb⟩
          · have d0 : (code == 0) = false := by simpa using e0
            by_cases e14 : code = 14
            · subst e14
              replace h_X : V2.heap[X]? = some (.cells (rv 14 n D) 47 (0, 0)) := h_X
              try clear c0
              have c0 : V2.cell? ⟨X, 0, none⟩ = some (.int .i64 14) := cell_heap h_X rfl
              have hr1 : nAll 4 at' t 14 n d = some (1, at') := by simp [nAll, nAfter, nDelete, e0]
              rw [hr1] at hr
              subst hr
              clear hr1
              have a1 : V2.cell? ⟨g, 1, none⟩ = some (.int .i64 at') := cell_heap h_g rfl
              go_upto_region 37 with (fail)
              go_quiet (fail)
              have hbq : Below V2.heap.size V2 (V2.drewN nq) := Below.drewNr nq
              replace h_g := heap_below h_g hbq
              replace h_X := heap_below h_X hbq
              replace hD := hD.below hbq
              replace hb := hb.trans (hbq.mono hs)
              replace hs := Nat.le_trans hs hbq.size
              clear hbq a1 c0
              generalize V2.drewN nq = V24 at *
              go_wp2_with fail
              go_ret3
              exact ⟨rfl, hb⟩
            · have d14 : (code == 14) = false := by simpa using e14
              have hr1 : nAll 4 at' t code n d = none := by simp [nAll, nAfter, nDelete, e0, e14]
              rw [hr1] at hr
              subst hr
              clear hr1
              go_wp2_with fail
              go_ret3
              exact ⟨rfl, hb⟩
end Go.Proofs.YtffkjbbhbpaacaaDoor
