import Derived.Test.YtplennobcbmccaaDoorBbt
namespace Go.Proofs.YtplennobcbmccaaDoor
open Go.RowKit

set_option maxRecDepth 100000 in
set_option maxHeartbeats 1600000 in
theorem rbytes_any (b a : Nat) (l : List Bool) (w : World) (h : IsRMap w b a l) :
    Calls Tryd.prog 24 #[.pointer (some ⟨b, 0, none⟩)] w fun e w' => ∃ g, e = .returned (.slice (some ⟨g, 0, none⟩) ((l.length + 7) / 8) ((l.length + 7) / 8)) ∧ w'.rowIs g 5 ((l.length + 7) / 8) (fun q => v8 (byteAt l l.length q)) ∧ w.heap.size ≤ g ∧ Below w.heap.size w w' := by
  have hl := h.hl
  have h0 := h.h0
  obtain ⟨n, hn⟩ : ∃ n, n = (l.length + 7) / 8 := ⟨_, rfl⟩
  have hmk := run_make_row' (P := Tryd.prog) 35 5 (.int .u8 0) 1 Tryd.underlying35 infoU8 rfl .i64 .i64 n (by omega) (by omega) w
  have e8 : ((l.length : Int) + 7) / 8 = (n : Int) := by omega
  rw [← e8] at hmk
  have HN := Lib.hid hn
  clear e8 hn
  go_enter Tryd.func24, Tryd.ntmps24
  go_upto_region 2 with (fail)
  refine wp_world (fun V => Below w.heap.size w V ∧ V.rowIs w.heap.size 5 n (fun q => v8 (byteAt l 0 q))) ?_ ?_
  · refine ⟨(Below.refl _ _).alloc (Nat.le_refl _) _, ?_⟩
    have := (World.rowIs_made w (.int .u8 0) n 5)
    refine this.congr fun i hi => ?_
    rw [byteAt_zero]
    rfl
  rintro V ⟨hbV, hrV⟩
  clear hmk h0
  generalize hG : w.heap.size = G at *
  have HG := Lib.hid hG; clear hG
  go_wp2_with fail
  go_loopw [4] (fun p wr => ∃ k : Nat, p = .int .i64 k ∧ k ≤ l.length ∧ Below G w wr ∧ wr.rowIs G 5 n (fun q => v8 (byteAt l k q))) (fun p _ => l.length - (intOf p).toNat)
  case atStart => exact ⟨0, rfl, by omega, hbV, hrV⟩
  clear hbV hrV
  case round =>
    obtain ⟨k, rfl, hkl, hbw, hrow⟩ := hrel
    have hr := h.below (B := w.heap.size) (w' := wr) (by rw [HG.out]; exact hbw) h.row.lt h.st.lt
    have h0 := hr.h0
    by_cases hlt : k < l.length
    · have hlt' : decide (k < l.length) = true := by simpa using hlt
      have hk8 : k / 8 < n := by have := HN.out; omega
      have hcell := hr.row.cell (i := k) hlt
      obtain ⟨t, ht⟩ : ∃ t, t = l.getD k false := ⟨_, rfl⟩
      rw [← ht] at hcell
      have HT := Lib.hid ht; clear ht
      rcases t
      · go_wp2_with fail
        go_roundw
        case rel => exact ⟨k + 1, by go_num, by omega, hbw, hrow.congr fun q _ => by rw [byteAt_succ, if_neg (by rw [← HT.out]; simp)]⟩
        case measure => simp [intOf]; omega
      · have HL : ∀ w', Below wr.heap.size wr w' → w'.cell? ⟨G, 0 + k / 8, none⟩ = some (v8 (byteAt l k (k / 8))) := fun w' hb => by
          rw [Nat.zero_add]
          exact (hb.cell (p := ⟨G, k / 8, none⟩) hrow.lt).trans (hrow.cell hk8)
        go_upto_region 6 with (fail)
        refine wp_region_text_tail 14 [Sp.k 0 (some 29) [] (.slice (some ⟨G, 0, none⟩) n n),
          Sp.k 1 (some 30) [] (.int .i64 k),
          Sp.k 2 (some 31) [1] (.int .i64 ((k / 8 : Nat) : Int)),
          Sp.k 3 (some 32) [] (.slice (some ⟨G, 0, none⟩) n n),
          Sp.k 4 (some 33) [] (.int .i64 k),
          Sp.k 5 (some 34) [4] (.int .i64 ((k / 8 : Nat) : Int)),
          Sp.k 6 (some 35) [3, 5] (.pointer (some ⟨G, 0 + k / 8, none⟩)),
          Sp.k 7 (some 36) [6] (v8 (byteAt l k (k / 8))),
          Sp.k 8 (some 37) [] (.int .i64 k),
          Sp.k 9 (some 38) [8] (.int .i64 ((k % 8 : Nat) : Int)),
          Sp.k 10 (some 39) [9] (.int .u64 ((k % 8 : Nat) : Int)),
          Sp.k 11 (some 40) [10] (v8 (1#8 <<< (k % 8))),
          Sp.k 12 (some 41) [7, 11] (v8 (byteAt l k (k / 8) ||| (1#8 <<< (k % 8)))),
          Sp.k 13 (some 42) [0, 2] (.pointer (some ⟨G, 0 + k / 8, none⟩))] (by kernel_rfl)
          ⟨owes_move 0 (some 29) [] (.slice (some ⟨G, 0, none⟩) n n) (Go.Operand.tmp 3) (fun v => by kernel_rfl) (fun v => by kernel_rfl),
          owes_move 1 (some 30) [] (.int .i64 k) (Go.Operand.tmp 4) (fun v => by kernel_rfl) (fun v => by kernel_rfl),
          owes_bin 2 (some 31) [1] (.int .i64 ((k / 8 : Nat) : Int)) Go.BinOp.quo 3 (Go.Operand.tmp 30) (Go.Operand.const (Go.Value.int Go.IntKind.i64 8)) 3 (.int .i64 k) (Go.Value.int Go.IntKind.i64 8) (fun v => by kernel_rfl) (fun v => by kernel_rfl) (quo_i64 _ _ _ k 8 (by omega) (by omega)),
          owes_move 3 (some 32) [] (.slice (some ⟨G, 0, none⟩) n n) (Go.Operand.tmp 3) (fun v => by kernel_rfl) (fun v => by kernel_rfl),
          owes_move 4 (some 33) [] (.int .i64 k) (Go.Operand.tmp 4) (fun v => by kernel_rfl) (fun v => by kernel_rfl),
          owes_bin 5 (some 34) [4] (.int .i64 ((k / 8 : Nat) : Int)) Go.BinOp.quo 3 (Go.Operand.tmp 33) (Go.Operand.const (Go.Value.int Go.IntKind.i64 8)) 3 (.int .i64 k) (Go.Value.int Go.IntKind.i64 8) (fun v => by kernel_rfl) (fun v => by kernel_rfl) (quo_i64 _ _ _ k 8 (by omega) (by omega)),
          owes_index 6 (some 35) [3, 5] (.pointer (some ⟨G, 0 + k / 8, none⟩)) 35 (Go.Operand.tmp 32) (Go.Operand.tmp 34) (.slice (some ⟨G, 0, none⟩) n n) (.int .i64 ((k / 8 : Nat) : Int)) (fun v => by kernel_rfl) (fun v => by kernel_rfl) (idx_sl (P := Tryd.prog) Tryd.underlying35 (show (Tryd.prog.info? 5).map (·.size) = some 1 by kernel_rfl) G 0 n n (k / 8) (by omega)),
          owes_load 7 (some 36) [6] (v8 (byteAt l k (k / 8))) 5 (Go.Operand.tmp 35) (.pointer (some ⟨G, 0 + k / 8, none⟩)) (fun v => by kernel_rfl) (fun v => by kernel_rfl) (fun w' hb => load_u8' _ _ _ w' (HL w' hb)),
          owes_move 8 (some 37) [] (.int .i64 k) (Go.Operand.tmp 4) (fun v => by kernel_rfl) (fun v => by kernel_rfl),
          owes_bin 9 (some 38) [8] (.int .i64 ((k % 8 : Nat) : Int)) Go.BinOp.rem 3 (Go.Operand.tmp 37) (Go.Operand.const (Go.Value.int Go.IntKind.i64 8)) 3 (.int .i64 k) (Go.Value.int Go.IntKind.i64 8) (fun v => by kernel_rfl) (fun v => by kernel_rfl) (rem_i64 _ _ _ k 8 (by omega) (by omega)),
          owes_cvt 10 (some 39) [9] (.int .u64 ((k % 8 : Nat) : Int)) 3 47 (Go.Operand.tmp 38) (.int .i64 ((k % 8 : Nat) : Int)) (fun v => by kernel_rfl) (fun v => by kernel_rfl) (cvt_uint (k % 8) (by omega)),
          owes_bin 11 (some 40) [10] (v8 (1#8 <<< (k % 8))) Go.BinOp.shl 5 (Go.Operand.const (Go.Value.int Go.IntKind.u8 1)) (Go.Operand.tmp 39) 47 (Go.Value.int Go.IntKind.u8 1) (.int .u64 ((k % 8 : Nat) : Int)) (fun v => by kernel_rfl) (fun v => by kernel_rfl) (shlU_u8 _ _ _ (k % 8) (by omega)),
          owes_bin 12 (some 41) [7, 11] (v8 (byteAt l k (k / 8) ||| (1#8 <<< (k % 8)))) Go.BinOp.or 5 (Go.Operand.tmp 36) (Go.Operand.tmp 40) 5 (v8 (byteAt l k (k / 8))) (v8 (1#8 <<< (k % 8))) (fun v => by kernel_rfl) (fun v => by kernel_rfl) (or_u8 _ _ _ _ _),
          owes_index 13 (some 42) [0, 2] (.pointer (some ⟨G, 0 + k / 8, none⟩)) 35 (Go.Operand.tmp 29) (Go.Operand.tmp 31) (.slice (some ⟨G, 0, none⟩) n n) (.int .i64 ((k / 8 : Nat) : Int)) (fun v => by kernel_rfl) (fun v => by kernel_rfl) (idx_sl (P := Tryd.prog) Tryd.underlying35 (show (Tryd.prog.info? 5).map (·.size) = some 1 by kernel_rfl) G 0 n n (k / 8) (by omega)), trivial⟩ ?_
        intro v w' hb' hall
        clear hall HL
        have hr2 := hrow.of_block (hb'.block _ hrow.lt)
        have hbb : Below G w w' := hbw.trans (hb'.mono (by have := hrow.lt; omega))
        have hc := hr2.cell hk8
        have hf := hr2.frozen (k / 8)
        have hset := hr2.set (k / 8) (v8 (byteAt l k (k / 8) ||| (1#8 <<< (k % 8))))
        have hbS : Below G w (w'.setCell ⟨G, k / 8, none⟩ (v8 (byteAt l k (k / 8) ||| (1#8 <<< (k % 8))))) := hbb.setCell (p := ⟨G, k / 8, none⟩) (Nat.le_refl _) _
        clear hb' hrow hr2 hbb hbw hr h0 hcell
        simp only [putsL_k, putsL_nil, List.set_cons_zero, List.set_cons_succ]
        simp only [List.drop_succ_cons, List.drop_zero, Nat.zero_add]
        go_wp2_with fail
        go_roundw
        case rel =>
          refine ⟨k + 1, by go_num, by omega, hbS, hset.congr fun q _ => ?_⟩
          by_cases e : q = k / 8
          · rw [if_pos e, byteAt_succ, if_pos ⟨e.symm, HT.out.symm⟩, e]
          · rw [if_neg e, byteAt_succ, if_neg (fun x => e x.1.symm)]
        case measure => simp [intOf]; omega
    · have hlt' : decide (k < l.length) = false := by simpa using hlt
      obtain rfl : k = l.length := by omega
      go_wp2_with fail
      go_ret
      exact ⟨G, by rw [← HN.out]; rfl, by rw [← HN.out]; exact hrow, by rw [HG.out]; exact Nat.le_refl _, by rw [HG.out]; exact hbw⟩
end Go.Proofs.YtplennobcbmccaaDoor
