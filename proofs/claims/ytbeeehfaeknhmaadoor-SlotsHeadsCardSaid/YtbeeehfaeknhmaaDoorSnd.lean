import Derived.Test.YtbeeehfaeknhmaaDoorSnb
/-
  SlotsHeads' walk.
-/
namespace Go.Proofs.YtbeeehfaeknhmaaDoor
open Go.RowKit

def hdM : List UInt8 := headL ⟨1, 0, 3⟩
theorem hdM_len : hdM.length = 128 := (headB ⟨1, 0, 3⟩).h
theorem and_127 (t : TypeId) (x1 x2 : Operand) (y : Nat) (hy : y < 256) (w : World) : (do eqGuard .and t x1 x2 (.int .u8 (y : Int)) (.int .u8 127); binOp .and t (.int .u8 (y : Int)) (.int .u8 127) : Sem Value).run Tryd.prog w = .ok (.int .u8 ((y % 128 : Nat) : Int)) w := by
  simp [eqGuard, binOp, Op.intBits]
  exact (show ∀ y : Nat, y < 256 → IntKind.u8.wrap ((y % 2 ^ IntKind.u8.bits &&& 127 % 2 ^ IntKind.u8.bits : Nat) : Int) = (y : Int) % 128 by decide +kernel) y hy
theorem add_2u (t : TypeId) (x1 x2 : Operand) (n : Nat) (hn : n < 128) (w : World) : (do eqGuard .add t x1 x2 (.int .u8 2) (.int .u8 (n : Int)); binOp .add t (.int .u8 2) (.int .u8 (n : Int)) : Sem Value).run Tryd.prog w = .ok (cellB (UInt8.ofNat (2 + n))) w := by
  have e : IntKind.u8.wrap (2 + (n : Int)) = ((2 + n : Nat) : Int) := by rw [IntKind.wrap_u8]; omega
  rw [cellB_ofNat _ (by omega)]
  simp [eqGuard, binOp, Op.intArith, e]
theorem rem_115 (t : TypeId) (x1 x2 : Operand) (y : Nat) (hy : y < 256) (w : World) : (do eqGuard .rem t x1 x2 (.int .i64 (y : Int)) (.int .i64 115); binOp .rem t (.int .i64 (y : Int)) (.int .i64 115) : Sem Value).run Tryd.prog w = .ok (.int .i64 ((y % 115 : Nat) : Int)) w := by
  simp [eqGuard, binOp, Op.intDiv]
  exact Int.tmod_eq_emod_of_nonneg (by omega)
theorem add_13 (t : TypeId) (x1 x2 : Operand) (n : Nat) (hn : n < 128) (w : World) : (do eqGuard .add t x1 x2 (.int .i64 13) (.int .i64 (n : Int)); binOp .add t (.int .i64 13) (.int .i64 (n : Int)) : Sem Value).run Tryd.prog w = .ok (.int .i64 ((13 + n : Nat) : Int)) w :=
  add_int t x1 x2 w 13 n _ (by omega) (by omega) (by omega)
section
variable {W : World} {g : Nat} {l : List UInt8} {t : TypeId}
theorem byte_set (h : W.heap[g]? = some (.cells (bcells l).toArray t (0, 0))) (k : Nat) (hk : k < l.length) : W.cell? ⟨g, k, none⟩ = some (cellB (l.getD k 0)) := by
  have := byte_cell (range_new h) k hk
  rw [this]
  rfl
theorem byte_at (h : W.heap[g]? = some (.cells (bcells l).toArray t (0, 0))) (k : Nat) (v : Int) (hk : k < l.length) (hv : ((l.getD k 0).toNat : Int) = v) : W.cell? ⟨g, k, none⟩ = some (.int .u8 v) := by
  rw [← hv]
  exact byte_cell (range_new h) k hk
theorem frz_set (h : W.heap[g]? = some (.cells (bcells l).toArray t (0, 0))) (k : Nat) : W.frozen? ⟨g, k, none⟩ = false := by simp [World.frozen?, h]
theorem heap_set (h : W.heap[g]? = some (.cells (bcells l).toArray t (0, 0))) (k : Nat) (v : UInt8) : (W.setCell ⟨g, k, none⟩ (cellB v)).heap[g]? = some (.cells (bcells (l.set k v)).toArray t (0, 0)) := by
  have e : (bcells (l.set k v)).toArray = (bcells l).toArray.setIfInBounds k (cellB v) := by simp [bcells, List.map_set]
  rw [e]
  simp only [World.setCell, Array.getElem?_modify, h]
  simp
end
section
variable {w0 W : World} {D R : Nat} {pv : Nat → Value} {L1 : List Blk}
theorem open_bad (E : Nat → Addr) (hE : ErrD E w0) (hb : Below w0.heap.size w0 W) (hL : L1.length = 9) (h : List UInt8) (hh : h.length = 128) (hbad : (readHeadM 9 h).isSome = false) (hd : DkM W w0.heap.size D R ((mkD L1 (-1)).wr 0 ⟨h, hh⟩).sy pv) :
    Calls Tryd.prog 13 #[.pointer (some ⟨D, 0, none⟩)] W fun e W1 => e = .returned (.tuple #[.pointer none, errV (E 7)]) ∧ Below w0.heap.size w0 W1 := by
  have e1 : ((mkD L1 (-1)).wr 0 ⟨h, hh⟩).sy = mkD (L1.set 0 ⟨h, hh⟩) (-1) := by
    show (DM.mk ((setS (L1.map secOf) 0 ⟨h, hh⟩).map Sec.sync) false (-1)) = _
    rw [setS_sync _ _ _ (by rw [List.length_map, hL]; decide), map_sync, ← List.map_set]
    rfl
  rw [e1] at hd
  have eo1 : openM (mkD (L1.set 0 ⟨h, hh⟩) (-1)) = (some 7, ⟨0, 0, 0⟩, mkD (L1.set 0 ⟨h, hh⟩) (-1)) := by
    unfold openM
    rw [mk_len, List.length_set, hL, top_mk _ _ 0 ⟨h, hh⟩ (by rw [List.getElem?_set_self (by rw [hL]; decide)])]
    have e2 : readHeadM 9 h = none := by cases e : readHeadM 9 h with
      | none => rfl
      | some x => rw [e] at hbad; cases hbad
    rw [show (Blk.mk h hh).l = h from rfl, e2]
    rfl
  refine (open_any E w0 hE hb hd (PL_mk _ _ _)).mono ?_
  rintro e W1 ⟨v, pv1, rfl, hO⟩
  have hv := hO.no (by rw [eo1]; simp)
  subst hv
  rw [eo1]
  exact ⟨rfl, hO.t.base hd hb⟩
end
set_option maxRecDepth 100000 in
set_option maxHeartbeats 1600000 in
theorem heads_walk (E : Nat → Addr) (zw : Int) (y : Nat) (hy : y < 256) (w0 : World) (hE0 : ErrsAt E w0) : Calls Tryd.prog 8 #[.int .i64 zw, .int .u8 (y : Int)] w0 fun e w' => e = .returned (.bool true) ∧ Below w0.heap.size w0 w' := by
  have hE := hE0.toD
  have hfi := first_any E w0 hE
  obtain ⟨K, hK, hK5⟩ := exists_mod zw 5 (by omega)
  have hnu := fun w => number_nat zw 5 K w (by omega) hK
  have HE := Lib.hid (And.intro hE hE0)
  have hnew := fun W (hb : Below w0.heap.size w0 W) => new_m (N := 9) (by decide) w0.heap.size W hb.size
  clear hE hE0 hK
  go_enter Tryd.func8, Tryd.ntmps8
  go_upto_region 4 with (go_at_call 9; refine hfi.mono ?_; rintro e w1 ⟨rfl, hb1⟩; have HB1 := Lib.hid hb1; clear hb1 hfi)
  have hnew1 := hnew _ HB1.out
  clear hnew
  go_upto_region 7 with (go_at_call 11; refine hnew1.mono ?_; rintro e W2 ⟨D, R, pv, rfl, hd, hb⟩; have HD := Lib.hid (And.intro hd (HB1.out.trans (hb.mono HB1.out.size))); clear hd hb hnew1)
  have hop := open_c (m := ⟨0, 0, 0⟩) (b := []) E HE.out.1 HD.out.2 HD.out.1 (fit_zero 9) (clean_keeps (fit_zero 9) (by decide)) (by decide)
  go_upto_region 8 with (go_at_call 13; refine hop.mono ?_; rintro e W3 ⟨S, pv3, rfl, hc, _, _⟩; have HC := Lib.hid hc; clear hc hop)
  have hbx := below_alc W3 (.cells #[.int .u8 1, .int .u8 2, .int .u8 3] 5)
  have hr5 : RowC (W3.alloc (.cells #[.int .u8 1, .int .u8 2, .int .u8 3] 5)) D R S 9 pv3 ⟨0, 0, 0⟩ [] (some ⟨W3.heap.size, 0, none⟩) [1, 2, 3] := ⟨fun _ => ⟨W3.heap.size, 0, rfl, by simp, fun j u hj => range_new (cs := bcells [1, 2, 3]) (heap1_0 W3 _) j u hj⟩, fun _ a ha => by cases ha; exact ⟨fun hh => Nat.lt_irrefl _ (HC.out.s.dk.ltF hh), fun e => by have h1 := HC.out.s.sl.lt; have h2 : W3.heap.size = S := e; omega, by simp⟩⟩
  have hsv := save_c E HE.out.1 (HC.out.below hbx) hr5 3 (by decide) (by decide) (by decide)
  clear hbx hr5
  go_upto_region 10 with (go_at_call 25; refine hsv.mono ?_; rintro e W4 ⟨rfl, pv5, _, hc4⟩; have HC4 := Lib.hid hc4; clear hc4 hsv)
  obtain ⟨L1, hL1⟩ : ∃ L1, L1 = cleanL 9 (SM.next ⟨0, 0, 0⟩ 3) [1, 2, 3] := ⟨_, rfl⟩
  have hL10 : L1[0]? = some (headB ⟨1, 0, 3⟩) := by rw [hL1, cleanL_get _ _ _ _ (by decide)]; rfl
  have HL1 : Hid (L1.length = 9) := Lib.hid (by rw [hL1, cleanL_len])
  have hdk := HC4.out.s.dk
  rw [show cleanL 9 (SM.next ⟨0, 0, 0⟩ ([1, 2, 3] : List UInt8).length) [1, 2, 3] = L1 from hL1.symm] at hdk
  have hrd := read_in (D := D) (R := R) (ss := L1.map secOf) (fuse := -1) (pv := pv5) (n := w0.heap.size) (w := W4) hdk 0 (secOf (headB ⟨1, 0, 3⟩)) (by rw [List.getElem?_map, hL10]; rfl)
  have HD4 := Lib.hid (And.intro hdk HC4.out.s.b)
  clear hL10 hL1 hdk HC4
  go_upto_region 11 with (go_at_call 34; refine hrd.mono ?_; rintro e W5 ⟨g, rfl, hgl, hg5, hb5⟩; have HG5 := Lib.hid (And.intro hg5 (And.intro hb5 hgl)); clear hg5 hb5 hgl hrd)
  go_upto_region 15 with (go_at_call 10; refine (hnu _).mono ?_; rintro e W6 ⟨rfl, q6, rfl⟩)
  have hb6 : Below W5.heap.size W5 (W5.drewN q6) := Below.drewNr q6
  have hg6 : (W5.drewN q6).heap[g]? = some (.cells (bcells hdM).toArray 90 (0, 0)) := HG5.out.1
  have hd6 : DkM (W5.drewN q6) w0.heap.size D R (mkD L1 (-1)) pv5 := DkS.below (DkS.below HD4.out.1 HG5.out.2.1) hb6
  have HD6 : Hid (DkM (W5.drewN q6) w0.heap.size D R (mkD L1 (-1)) pv5 ∧ Below w0.heap.size w0 (W5.drewN q6) ∧ ¬ DFoot D R (mkD L1 (-1)).ss pv5 g) := Lib.hid ⟨hd6, (HD4.out.2.trans (HG5.out.2.1.mono HD4.out.2.size)).trans (hb6.mono (HD4.out.2.trans (HG5.out.2.1.mono HD4.out.2.size)).size), fun hh => by have h1 := HD4.out.1.ltF hh; have h2 := HG5.out.2.2; omega⟩
  have HG6 : Hid (w0.heap.size ≤ g) := Lib.hid (by have h2 := HG5.out.2.2; have := HD4.out.2.size; omega)
  clear hnu hb6 hd6 HG5 HD4
  generalize W5.drewN q6 = W6 at *
  obtain rfl | rfl | rfl | rfl | rfl : K = 0 ∨ K = 1 ∨ K = 2 ∨ K = 3 ∨ K = 4 := by omega
  · have HBAD : Hid ((readHeadM 9 (hdM.set (2) (86))).isSome = false) := Lib.hid (by decide +kernel)
    go_upto_region 16 with (fail)
    refine wp_region_lit ?_
    refine wpList_run (by kernel_rfl) (.slice (some ⟨g, 0, none⟩) 128 128) (W6) (exec_move rfl (by kernel_rfl)) ?_
    refine wpList_run (by kernel_rfl) (.slice (some ⟨g, 0, none⟩) 128 128) (W6) (exec_move rfl (by kernel_rfl)) ?_
    refine wpList_run (by kernel_rfl) (.pointer (some ⟨g, 2, none⟩)) (W6) (exec_index (vx := .slice (some ⟨g, 0, none⟩) 128 128) (vy := Go.Value.int Go.IntKind.i64 2) rfl (by kernel_rfl) (idx_U g 128 128 (2) (by first | decide | omega) W6)) ?_
    refine wpList_run (by kernel_rfl) (.int .u8 85) (W6) (exec_load (vx := .pointer (some ⟨g, 2, none⟩)) rfl (by kernel_rfl) (load_u8 g 2 W6 _ (byte_at hg6 2 85 (by decide) (by decide +kernel)))) ?_
    simp only [put_list, List.set_cons_zero, List.set_cons_succ]
    refine wpList_run (by kernel_rfl) (.int .u8 86) (W6) (exec_bin (vx := .int .u8 85) (vy := Go.Value.int Go.IntKind.u8 1) rfl (by kernel_rfl) (by kernel_rfl)) ?_
    refine wpList_run (by kernel_rfl) (.pointer (some ⟨g, 2, none⟩)) (W6) (exec_index (vx := .slice (some ⟨g, 0, none⟩) 128 128) (vy := Go.Value.int Go.IntKind.i64 2) rfl (by kernel_rfl) (idx_U g 128 128 (2) (by first | decide | omega) W6)) ?_
    refine wpList_skip rfl (W6.setCell ⟨g, 2, none⟩ (cellB (86))) (exec_store (vx := .pointer (some ⟨g, 2, none⟩)) (vy := .int .u8 86) rfl (by kernel_rfl) (store_u8 g (2) W6 (byte_set hg6 (2) (by first | decide | (rw [hdM_len]; omega))) (frz_set hg6 (2)) (86))) ?_
    refine wpList_nil ?_
    simp only [put_list, put_none, List.set_cons_zero, List.set_cons_succ]
    have hh7 := heap_set hg6 (2) (86)
    have ht7 := setTurn W6 g (2) (cellB (86))
    go_upto_region 23 with (fail)
    refine wp_world (fun W => W.rangeAt g 0 (bcells (hdM.set (2) (86))) ∧ DkM W w0.heap.size D R (mkD L1 (-1)) pv5 ∧ Below w0.heap.size w0 W) ⟨range_new hh7, DkS.other HD6.out.1 ht7 (fun q hq e => HD6.out.2.2 (by rw [← e]; exact hq)), ht7.below HD6.out.2.1 HD6.out.2.1.size (fun q e => by rw [e]; exact HG6.out)⟩ ?_
    clear hh7 ht7 hg6
    rintro W7 ⟨hr7, hd7, hb7⟩
    have hw7 := write_m E w0 HE.out.1 hb7 hd7 (PL_mk _ _ _) 0 (by rw [mk_len, HL1.out]; decide) ⟨hdM.set (2) (86), by rw [List.length_set]; exact hdM_len⟩ g 0 128 hr7 HD6.out.2.2
    rw [show (mkD L1 (-1)).bad = false from rfl, ev_false] at hw7
    clear hr7
    go_upto_region 25 with (first | (go_at_call 32; refine hw7.mono ?_; rintro e W8 ⟨rfl, pv8, hT8⟩; have hb8 := hT8.base hd7 hb7; have hs8 := sync_m E (HE.out.1.below hb8) hT8.dk; rw [show ((mkD L1 (-1)).wr 0 ⟨hdM.set (2) (86), by rw [List.length_set]; exact hdM_len⟩).bad = false from rfl, ev_false] at hs8; have HT8 := Lib.hid (And.intro hT8 hb8); clear hT8 hb8 hw7) | (go_at_call 33; refine hs8.mono ?_; rintro e W9 ⟨rfl, pv9, hT9⟩; have HT9 := Lib.hid (And.intro hT9.dk (hT9.base HT8.out.1.dk HT8.out.2)); clear hT9 hs8))
    have hop := open_bad E HE.out.1 HT9.out.2 HL1.out (hdM.set (2) (86)) (by rw [List.length_set]; exact hdM_len) (HBAD.out) HT9.out.1
    clear HT8 hd7 hb7
    go_upto_region 26 with (go_at_call 13; refine hop.mono ?_; rintro e Wa ⟨rfl, hba⟩; have HBa := Lib.hid hba; clear hba hop)
    have his := is_any E (errV (E 7)) 108 108 (.inr ⟨7, by decide, rfl, rfl⟩) Wa (HE.out.2.below HBa.out)
    go_wp2_with (go_at_call 15; refine his.mono ?_; rintro e Wf ⟨rfl, hbf⟩; have HF := Lib.hid (HBa.out.trans (hbf.mono HBa.out.size)); clear hbf his)
    go_ret
    exact ⟨rfl, HF.out⟩
  · have HBAD : Hid ((readHeadM 9 (hdM.set (4) (0))).isSome = false) := Lib.hid (by decide +kernel)
    go_upto_region 18 with (fail)
    refine wp_region_lit ?_
    refine wpList_run (by kernel_rfl) (.slice (some ⟨g, 0, none⟩) 128 128) (W6) (exec_move rfl (by kernel_rfl)) ?_
    refine wpList_run (by kernel_rfl) (.pointer (some ⟨g, 4, none⟩)) (W6) (exec_index (vx := .slice (some ⟨g, 0, none⟩) 128 128) (vy := Go.Value.int Go.IntKind.i64 4) rfl (by kernel_rfl) (idx_U g 128 128 (4) (by first | decide | omega) W6)) ?_
    refine wpList_skip rfl (W6.setCell ⟨g, 4, none⟩ (cellB (0))) (exec_store (vx := .pointer (some ⟨g, 4, none⟩)) (vy := Go.Value.int Go.IntKind.u8 0) rfl (by kernel_rfl) (store_u8 g (4) W6 (byte_set hg6 (4) (by first | decide | (rw [hdM_len]; omega))) (frz_set hg6 (4)) (0))) ?_
    refine wpList_nil ?_
    simp only [put_list, put_none, List.set_cons_zero, List.set_cons_succ]
    have hh7 := heap_set hg6 (4) (0)
    have ht7 := setTurn W6 g (4) (cellB (0))
    go_upto_region 23 with (fail)
    refine wp_world (fun W => W.rangeAt g 0 (bcells (hdM.set (4) (0))) ∧ DkM W w0.heap.size D R (mkD L1 (-1)) pv5 ∧ Below w0.heap.size w0 W) ⟨range_new hh7, DkS.other HD6.out.1 ht7 (fun q hq e => HD6.out.2.2 (by rw [← e]; exact hq)), ht7.below HD6.out.2.1 HD6.out.2.1.size (fun q e => by rw [e]; exact HG6.out)⟩ ?_
    clear hh7 ht7 hg6
    rintro W7 ⟨hr7, hd7, hb7⟩
    have hw7 := write_m E w0 HE.out.1 hb7 hd7 (PL_mk _ _ _) 0 (by rw [mk_len, HL1.out]; decide) ⟨hdM.set (4) (0), by rw [List.length_set]; exact hdM_len⟩ g 0 128 hr7 HD6.out.2.2
    rw [show (mkD L1 (-1)).bad = false from rfl, ev_false] at hw7
    clear hr7
    go_upto_region 25 with (first | (go_at_call 32; refine hw7.mono ?_; rintro e W8 ⟨rfl, pv8, hT8⟩; have hb8 := hT8.base hd7 hb7; have hs8 := sync_m E (HE.out.1.below hb8) hT8.dk; rw [show ((mkD L1 (-1)).wr 0 ⟨hdM.set (4) (0), by rw [List.length_set]; exact hdM_len⟩).bad = false from rfl, ev_false] at hs8; have HT8 := Lib.hid (And.intro hT8 hb8); clear hT8 hb8 hw7) | (go_at_call 33; refine hs8.mono ?_; rintro e W9 ⟨rfl, pv9, hT9⟩; have HT9 := Lib.hid (And.intro hT9.dk (hT9.base HT8.out.1.dk HT8.out.2)); clear hT9 hs8))
    have hop := open_bad E HE.out.1 HT9.out.2 HL1.out (hdM.set (4) (0)) (by rw [List.length_set]; exact hdM_len) (HBAD.out) HT9.out.1
    clear HT8 hd7 hb7
    go_upto_region 26 with (go_at_call 13; refine hop.mono ?_; rintro e Wa ⟨rfl, hba⟩; have HBa := Lib.hid hba; clear hba hop)
    have his := is_any E (errV (E 7)) 108 108 (.inr ⟨7, by decide, rfl, rfl⟩) Wa (HE.out.2.below HBa.out)
    go_wp2_with (go_at_call 15; refine his.mono ?_; rintro e Wf ⟨rfl, hbf⟩; have HF := Lib.hid (HBa.out.trans (hbf.mono HBa.out.size)); clear hbf his)
    go_ret
    exact ⟨rfl, HF.out⟩
  · have HBAD : Hid ((readHeadM 9 (hdM.set (8) (UInt8.ofNat (2 + y % 128)))).isSome = false) := Lib.hid ((show ∀ n, n < 128 → (readHeadM 9 (hdM.set 8 (UInt8.ofNat (2 + n)))).isSome = false by decide +kernel) (y % 128) (by omega))
    go_upto_region 20 with (fail)
    refine wp_region_lit ?_
    refine wpList_run (by kernel_rfl) (.slice (some ⟨g, 0, none⟩) 128 128) (W6) (exec_move rfl (by kernel_rfl)) ?_
    refine wpList_run (by kernel_rfl) (.int .u8 (y : Int)) (W6) (exec_move rfl (by kernel_rfl)) ?_
    refine wpList_run (by kernel_rfl) (.int .u8 ((y % 128 : Nat) : Int)) (W6) (exec_bin (vx := .int .u8 (y : Int)) (vy := Go.Value.int Go.IntKind.u8 127) rfl (by kernel_rfl) (and_127 _ _ _ y hy W6)) ?_
    refine wpList_run (by kernel_rfl) (cellB (UInt8.ofNat (2 + y % 128))) (W6) (exec_bin (vx := Go.Value.int Go.IntKind.u8 2) (vy := .int .u8 ((y % 128 : Nat) : Int)) rfl (by kernel_rfl) (add_2u _ _ _ (y % 128) (by omega) W6)) ?_
    simp only [put_list, List.set_cons_zero, List.set_cons_succ]
    refine wpList_run (by kernel_rfl) (.pointer (some ⟨g, 8, none⟩)) (W6) (exec_index (vx := .slice (some ⟨g, 0, none⟩) 128 128) (vy := Go.Value.int Go.IntKind.i64 8) rfl (by kernel_rfl) (idx_U g 128 128 (8) (by first | decide | omega) W6)) ?_
    refine wpList_skip rfl (W6.setCell ⟨g, 8, none⟩ (cellB (UInt8.ofNat (2 + y % 128)))) (exec_store (vx := .pointer (some ⟨g, 8, none⟩)) (vy := cellB (UInt8.ofNat (2 + y % 128))) rfl (by kernel_rfl) (store_u8 g (8) W6 (byte_set hg6 (8) (by first | decide | (rw [hdM_len]; omega))) (frz_set hg6 (8)) (UInt8.ofNat (2 + y % 128)))) ?_
    refine wpList_nil ?_
    simp only [put_list, put_none, List.set_cons_zero, List.set_cons_succ]
    have hh7 := heap_set hg6 (8) (UInt8.ofNat (2 + y % 128))
    have ht7 := setTurn W6 g (8) (cellB (UInt8.ofNat (2 + y % 128)))
    go_upto_region 23 with (fail)
    refine wp_world (fun W => W.rangeAt g 0 (bcells (hdM.set (8) (UInt8.ofNat (2 + y % 128)))) ∧ DkM W w0.heap.size D R (mkD L1 (-1)) pv5 ∧ Below w0.heap.size w0 W) ⟨range_new hh7, DkS.other HD6.out.1 ht7 (fun q hq e => HD6.out.2.2 (by rw [← e]; exact hq)), ht7.below HD6.out.2.1 HD6.out.2.1.size (fun q e => by rw [e]; exact HG6.out)⟩ ?_
    clear hh7 ht7 hg6
    rintro W7 ⟨hr7, hd7, hb7⟩
    have hw7 := write_m E w0 HE.out.1 hb7 hd7 (PL_mk _ _ _) 0 (by rw [mk_len, HL1.out]; decide) ⟨hdM.set (8) (UInt8.ofNat (2 + y % 128)), by rw [List.length_set]; exact hdM_len⟩ g 0 128 hr7 HD6.out.2.2
    rw [show (mkD L1 (-1)).bad = false from rfl, ev_false] at hw7
    clear hr7
    go_upto_region 25 with (first | (go_at_call 32; refine hw7.mono ?_; rintro e W8 ⟨rfl, pv8, hT8⟩; have hb8 := hT8.base hd7 hb7; have hs8 := sync_m E (HE.out.1.below hb8) hT8.dk; rw [show ((mkD L1 (-1)).wr 0 ⟨hdM.set (8) (UInt8.ofNat (2 + y % 128)), by rw [List.length_set]; exact hdM_len⟩).bad = false from rfl, ev_false] at hs8; have HT8 := Lib.hid (And.intro hT8 hb8); clear hT8 hb8 hw7) | (go_at_call 33; refine hs8.mono ?_; rintro e W9 ⟨rfl, pv9, hT9⟩; have HT9 := Lib.hid (And.intro hT9.dk (hT9.base HT8.out.1.dk HT8.out.2)); clear hT9 hs8))
    have hop := open_bad E HE.out.1 HT9.out.2 HL1.out (hdM.set (8) (UInt8.ofNat (2 + y % 128))) (by rw [List.length_set]; exact hdM_len) (HBAD.out) HT9.out.1
    clear HT8 hd7 hb7
    go_upto_region 26 with (go_at_call 13; refine hop.mono ?_; rintro e Wa ⟨rfl, hba⟩; have HBa := Lib.hid hba; clear hba hop)
    have his := is_any E (errV (E 7)) 108 108 (.inr ⟨7, by decide, rfl, rfl⟩) Wa (HE.out.2.below HBa.out)
    go_wp2_with (go_at_call 15; refine his.mono ?_; rintro e Wf ⟨rfl, hbf⟩; have HF := Lib.hid (HBa.out.trans (hbf.mono HBa.out.size)); clear hbf his)
    go_ret
    exact ⟨rfl, HF.out⟩
  · have HBAD : Hid ((readHeadM 9 (hdM.set (10) (9))).isSome = false) := Lib.hid (by decide +kernel)
    go_upto_region 22 with (fail)
    refine wp_region_lit ?_
    refine wpList_run (by kernel_rfl) (.slice (some ⟨g, 0, none⟩) 128 128) (W6) (exec_move rfl (by kernel_rfl)) ?_
    refine wpList_run (by kernel_rfl) (.pointer (some ⟨g, 10, none⟩)) (W6) (exec_index (vx := .slice (some ⟨g, 0, none⟩) 128 128) (vy := Go.Value.int Go.IntKind.i64 10) rfl (by kernel_rfl) (idx_U g 128 128 (10) (by first | decide | omega) W6)) ?_
    refine wpList_skip rfl (W6.setCell ⟨g, 10, none⟩ (cellB (9))) (exec_store (vx := .pointer (some ⟨g, 10, none⟩)) (vy := Go.Value.int Go.IntKind.u8 9) rfl (by kernel_rfl) (store_u8 g (10) W6 (byte_set hg6 (10) (by first | decide | (rw [hdM_len]; omega))) (frz_set hg6 (10)) (9))) ?_
    refine wpList_nil ?_
    simp only [put_list, put_none, List.set_cons_zero, List.set_cons_succ]
    have hh7 := heap_set hg6 (10) (9)
    have ht7 := setTurn W6 g (10) (cellB (9))
    go_upto_region 23 with (fail)
    refine wp_world (fun W => W.rangeAt g 0 (bcells (hdM.set (10) (9))) ∧ DkM W w0.heap.size D R (mkD L1 (-1)) pv5 ∧ Below w0.heap.size w0 W) ⟨range_new hh7, DkS.other HD6.out.1 ht7 (fun q hq e => HD6.out.2.2 (by rw [← e]; exact hq)), ht7.below HD6.out.2.1 HD6.out.2.1.size (fun q e => by rw [e]; exact HG6.out)⟩ ?_
    clear hh7 ht7 hg6
    rintro W7 ⟨hr7, hd7, hb7⟩
    have hw7 := write_m E w0 HE.out.1 hb7 hd7 (PL_mk _ _ _) 0 (by rw [mk_len, HL1.out]; decide) ⟨hdM.set (10) (9), by rw [List.length_set]; exact hdM_len⟩ g 0 128 hr7 HD6.out.2.2
    rw [show (mkD L1 (-1)).bad = false from rfl, ev_false] at hw7
    clear hr7
    go_upto_region 25 with (first | (go_at_call 32; refine hw7.mono ?_; rintro e W8 ⟨rfl, pv8, hT8⟩; have hb8 := hT8.base hd7 hb7; have hs8 := sync_m E (HE.out.1.below hb8) hT8.dk; rw [show ((mkD L1 (-1)).wr 0 ⟨hdM.set (10) (9), by rw [List.length_set]; exact hdM_len⟩).bad = false from rfl, ev_false] at hs8; have HT8 := Lib.hid (And.intro hT8 hb8); clear hT8 hb8 hw7) | (go_at_call 33; refine hs8.mono ?_; rintro e W9 ⟨rfl, pv9, hT9⟩; have HT9 := Lib.hid (And.intro hT9.dk (hT9.base HT8.out.1.dk HT8.out.2)); clear hT9 hs8))
    have hop := open_bad E HE.out.1 HT9.out.2 HL1.out (hdM.set (10) (9)) (by rw [List.length_set]; exact hdM_len) (HBAD.out) HT9.out.1
    clear HT8 hd7 hb7
    go_upto_region 26 with (go_at_call 13; refine hop.mono ?_; rintro e Wa ⟨rfl, hba⟩; have HBa := Lib.hid hba; clear hba hop)
    have his := is_any E (errV (E 7)) 108 108 (.inr ⟨7, by decide, rfl, rfl⟩) Wa (HE.out.2.below HBa.out)
    go_wp2_with (go_at_call 15; refine his.mono ?_; rintro e Wf ⟨rfl, hbf⟩; have HF := Lib.hid (HBa.out.trans (hbf.mono HBa.out.size)); clear hbf his)
    go_ret
    exact ⟨rfl, HF.out⟩
  · have HBAD : Hid ((readHeadM 9 (hdM.set (13 + y % 115) (1))).isSome = false) := Lib.hid ((show ∀ n, n < 115 → (readHeadM 9 (hdM.set (13 + n) 1)).isSome = false by decide +kernel) (y % 115) (by omega))
    go_upto_region 14 with (fail)
    refine wp_region_lit ?_
    refine wpList_run (by kernel_rfl) (.slice (some ⟨g, 0, none⟩) 128 128) (W6) (exec_move rfl (by kernel_rfl)) ?_
    refine wpList_run (by kernel_rfl) (.int .u8 (y : Int)) (W6) (exec_move rfl (by kernel_rfl)) ?_
    refine wpList_run (by kernel_rfl) (.int .i64 (y : Int)) (W6) (exec_cvt (vx := .int .u8 (y : Int)) rfl (by kernel_rfl) (cvt_8i y hy W6)) ?_
    refine wpList_run (by kernel_rfl) (.int .i64 ((y % 115 : Nat) : Int)) (W6) (exec_bin (vx := .int .i64 (y : Int)) (vy := Go.Value.int Go.IntKind.i64 115) rfl (by kernel_rfl) (rem_115 _ _ _ y hy W6)) ?_
    simp only [put_list, List.set_cons_zero, List.set_cons_succ]
    refine wpList_run (by kernel_rfl) (.int .i64 ((13 + y % 115 : Nat) : Int)) (W6) (exec_bin (vx := Go.Value.int Go.IntKind.i64 13) (vy := .int .i64 ((y % 115 : Nat) : Int)) rfl (by kernel_rfl) (add_13 _ _ _ (y % 115) (by omega) W6)) ?_
    refine wpList_run (by kernel_rfl) (.pointer (some ⟨g, 13 + y % 115, none⟩)) (W6) (exec_index (vx := .slice (some ⟨g, 0, none⟩) 128 128) (vy := .int .i64 ((13 + y % 115 : Nat) : Int)) rfl (by kernel_rfl) (idx_U g 128 128 (13 + y % 115) (by first | decide | omega) W6)) ?_
    refine wpList_skip rfl (W6.setCell ⟨g, 13 + y % 115, none⟩ (cellB (1))) (exec_store (vx := .pointer (some ⟨g, 13 + y % 115, none⟩)) (vy := Go.Value.int Go.IntKind.u8 1) rfl (by kernel_rfl) (store_u8 g (13 + y % 115) W6 (byte_set hg6 (13 + y % 115) (by first | decide | (rw [hdM_len]; omega))) (frz_set hg6 (13 + y % 115)) (1))) ?_
    refine wpList_nil ?_
    simp only [put_list, put_none, List.set_cons_zero, List.set_cons_succ]
    have hh7 := heap_set hg6 (13 + y % 115) (1)
    have ht7 := setTurn W6 g (13 + y % 115) (cellB (1))
    go_upto_region 23 with (fail)
    refine wp_world (fun W => W.rangeAt g 0 (bcells (hdM.set (13 + y % 115) (1))) ∧ DkM W w0.heap.size D R (mkD L1 (-1)) pv5 ∧ Below w0.heap.size w0 W) ⟨range_new hh7, DkS.other HD6.out.1 ht7 (fun q hq e => HD6.out.2.2 (by rw [← e]; exact hq)), ht7.below HD6.out.2.1 HD6.out.2.1.size (fun q e => by rw [e]; exact HG6.out)⟩ ?_
    clear hh7 ht7 hg6
    rintro W7 ⟨hr7, hd7, hb7⟩
    have hw7 := write_m E w0 HE.out.1 hb7 hd7 (PL_mk _ _ _) 0 (by rw [mk_len, HL1.out]; decide) ⟨hdM.set (13 + y % 115) (1), by rw [List.length_set]; exact hdM_len⟩ g 0 128 hr7 HD6.out.2.2
    rw [show (mkD L1 (-1)).bad = false from rfl, ev_false] at hw7
    clear hr7
    go_upto_region 25 with (first | (go_at_call 32; refine hw7.mono ?_; rintro e W8 ⟨rfl, pv8, hT8⟩; have hb8 := hT8.base hd7 hb7; have hs8 := sync_m E (HE.out.1.below hb8) hT8.dk; rw [show ((mkD L1 (-1)).wr 0 ⟨hdM.set (13 + y % 115) (1), by rw [List.length_set]; exact hdM_len⟩).bad = false from rfl, ev_false] at hs8; have HT8 := Lib.hid (And.intro hT8 hb8); clear hT8 hb8 hw7) | (go_at_call 33; refine hs8.mono ?_; rintro e W9 ⟨rfl, pv9, hT9⟩; have HT9 := Lib.hid (And.intro hT9.dk (hT9.base HT8.out.1.dk HT8.out.2)); clear hT9 hs8))
    have hop := open_bad E HE.out.1 HT9.out.2 HL1.out (hdM.set (13 + y % 115) (1)) (by rw [List.length_set]; exact hdM_len) (HBAD.out) HT9.out.1
    clear HT8 hd7 hb7
    go_upto_region 26 with (go_at_call 13; refine hop.mono ?_; rintro e Wa ⟨rfl, hba⟩; have HBa := Lib.hid hba; clear hba hop)
    have his := is_any E (errV (E 7)) 108 108 (.inr ⟨7, by decide, rfl, rfl⟩) Wa (HE.out.2.below HBa.out)
    go_wp2_with (go_at_call 15; refine his.mono ?_; rintro e Wf ⟨rfl, hbf⟩; have HF := Lib.hid (HBa.out.trans (hbf.mono HBa.out.size)); clear hbf his)
    go_ret
    exact ⟨rfl, HF.out⟩
theorem heads_walkI (E : Nat → Addr) (zw z : Int) (hz : 0 ≤ z ∧ z < 256) (w0 : World) (hE0 : ErrsAt E w0) : Calls Tryd.prog 8 #[.int .i64 zw, .int .u8 z] w0 fun e w' => e = .returned (.bool true) ∧ Below w0.heap.size w0 w' := by
  obtain ⟨y, rfl⟩ : ∃ y : Nat, z = (y : Int) := ⟨z.toNat, by omega⟩
  exact heads_walk E zw y (by omega) w0 hE0
end Go.Proofs.YtbeeehfaeknhmaaDoor
