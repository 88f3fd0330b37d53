import Derived.Test.YtplennobcbmccaaDoorBby
import Derived.Test.YtplennobcbmccaaDoorIdx
import Derived.Test.YtplennobcbmccaaDoorErr
namespace Go.Proofs.YtplennobcbmccaaDoor
open Go.RowKit

theorem infoU8 : (Tryd.prog.info? 5).map (fun i => (i.zero, i.size, i.bytes)) = some (some (.int .u8 0), 1, 1) := by kernel_rfl
theorem drB {w w' : World} (h : Below w.drew.heap.size w.drew w') : Below w.heap.size w w' := (Below.drewNr (w := w) 1).trans h
theorem quo_i64 (t : TypeId) (x y : Operand) (a b : Nat) (hb : 0 < b) (h2 : a ≤ 9223372036854775807) (w : World) : (do eqGuard .quo t x y (.int .i64 (a : Int)) (.int .i64 (b : Int)); binOp .quo t (.int .i64 (a : Int)) (.int .i64 (b : Int)) : Sem Value).run Tryd.prog w = .ok (.int .i64 ((a / b : Nat) : Int)) w := by
  have hm : ((a : Int).tdiv (b : Int)) = ((a / b : Nat) : Int) := by rw [Int.tdiv_eq_ediv_of_nonneg (by omega)]; simp
  have hl : a / b ≤ a := Nat.div_le_self _ _
  have hb1 : ¬ b = 0 := by omega
  obtain ⟨q, hq⟩ : ∃ q, q = a / b := ⟨_, rfl⟩
  rw [← hq] at hm hl ⊢
  have hw : IntKind.i64.wrap (q : Int) = (q : Int) := IntWalk.i64_in _ (by omega)
  simp [eqGuard, binOp, Op.intDiv, hb1, hm]
  try exact hw
theorem rem_i64 (t : TypeId) (x y : Operand) (a b : Nat) (hb : 0 < b) (h2 : a ≤ 9223372036854775807) (w : World) : (do eqGuard .rem t x y (.int .i64 (a : Int)) (.int .i64 (b : Int)); binOp .rem t (.int .i64 (a : Int)) (.int .i64 (b : Int)) : Sem Value).run Tryd.prog w = .ok (.int .i64 ((a % b : Nat) : Int)) w := by
  have hm : ((a : Int).tmod (b : Int)) = ((a % b : Nat) : Int) := by rw [Int.tmod_eq_emod_of_nonneg (by omega)]; simp
  have hl : a % b ≤ a := Nat.mod_le _ _
  have hw : IntKind.i64.wrap (((a % b : Nat) : Int)) = ((a % b : Nat) : Int) := IntWalk.i64_in _ (by omega)
  have hb1 : ¬ b = 0 := by omega
  simp [eqGuard, binOp, Op.intDiv, hb1, hm]
  try exact hw
theorem shl_u8 (t : TypeId) (x y : Operand) : ∀ k : Nat, k < 8 → ∀ (w : World), (do eqGuard .shl t x y (.int .u8 1) (.int .i64 (k : Int)); binOp .shl t (.int .u8 1) (.int .i64 (k : Int)) : Sem Value).run Tryd.prog w = .ok (v8 (1#8 <<< k)) w
  | 0, _, _ | 1, _, _ | 2, _, _ | 3, _, _ | 4, _, _ | 5, _, _ | 6, _, _ | 7, _, _ => by kernel_rfl
  | k + 8, h, _ => absurd h (by omega)
theorem n8_natG (x : BitVec 8) : n8 x = (x.toNat : Int) := by
  unfold n8 n32
  simp only [BitVec.toNat_setWidth]
  have := x.isLt
  omega
theorem n8_orG (x y : BitVec 8) : bits .or .u8 (n8 x) (n8 y) = n8 (x ||| y) := by
  rw [u8_or _ _ (n8_lo _) (n8_hi _) (n8_lo _) (n8_hi _), n8_natG, n8_natG, n8_natG, BitVec.toNat_or]
  simp
theorem or_u8 (t : TypeId) (x y : Operand) (a b : BitVec 8) (w : World) : (do eqGuard .or t x y (v8 a) (v8 b); binOp .or t (v8 a) (v8 b) : Sem Value).run Tryd.prog w = .ok (v8 (a ||| b)) w := by
  simp [eqGuard, binOp, Op.intBits]
  exact n8_orG a b

set_option maxRecDepth 100000 in
set_option maxHeartbeats 1600000 in
theorem mbytes_any (b a : Nat) (l : List Bool) (w : World) (h : IsMap w b a l) :
    Calls Tryd.prog 21 #[.pointer (some ⟨b, 0, none⟩)] w fun e w' => ∃ g, e = .returned (.slice (some ⟨g, 0, none⟩) ((l.length + 7) / 8) ((l.length + 7) / 8)) ∧ w'.rowIs g 5 ((l.length + 7) / 8) (fun q => v8 (byteAt l l.length q)) ∧ w.heap.size ≤ g ∧ Below w.heap.size w w' := by
  go_enter Tryd.func21, Tryd.ntmps21
  go_wp2_with fail
  refine (size_any b a l w h).mono ?_
  rintro e W ⟨rfl, m, rfl⟩
  have hl := h.hl
  obtain ⟨n, hn⟩ : ∃ n, n = (l.length + 7) / 8 := ⟨_, rfl⟩
  have hmk := run_make_row' (P := Tryd.prog) 35 5 (.int .u8 0) 1 Tryd.underlying35 infoU8 rfl .i64 .i64 n (by omega) (by omega) (w.drewN m)
  have e8 : ((l.length : Int) + 8 - 1) / 8 = (n : Int) := by omega
  rw [← e8] at hmk
  have HN := Lib.hid hn
  clear e8 hn
  go_upto_region 2 with (fail)
  refine wp_world (fun V => Below w.heap.size w V ∧ V.rowIs w.heap.size 5 n (fun q => v8 (byteAt l 0 q))) ?_ ?_
  · refine ⟨(Below.drewNr m).alloc (Nat.le_refl _) _, ?_⟩
    have := (World.rowIs_made (w.drewN m) (.int .u8 0) n 5)
    refine this.congr fun i hi => ?_
    rw [byteAt_zero]
    rfl
  rintro V ⟨hbV, hrV⟩
  clear hmk
  have h0 := (h.below hbV h.row.lt h.st.lt).h0
  generalize hG : w.heap.size = G at *
  have HG := Lib.hid hG; clear hG
  go_wp2_with fail
  go_loopw [17] (fun p wr => ∃ k : Nat, p = .int .i64 k ∧ k ≤ l.length ∧ Below G w wr ∧ wr.rowIs G 5 n (fun q => v8 (byteAt l k q))) (fun p _ => l.length - (intOf p).toNat)
  case atStart => exact ⟨0, rfl, by omega, hbV, hrV⟩
  clear hbV hrV h0
  case round =>
    obtain ⟨k, rfl, hkl, hbw, hrow⟩ := hrel
    by_cases hlt : k < l.length
    · have hlt' : decide (k < l.length) = true := by simpa using hlt
      have hk8 : k / 8 < n := by have := HN.out; omega
      have hcell := (h.below (B := w.heap.size) (w' := wr) (by rw [HG.out]; exact hbw) h.row.lt h.st.lt).row.cell (i := k) hlt
      obtain ⟨t, ht⟩ : ∃ t, t = l.getD k false := ⟨_, rfl⟩
      rw [← ht] at hcell
      have HT := Lib.hid ht; clear ht
      rcases t
      · go_wp2_with fail
        go_roundw
        case rel => exact ⟨k + 1, by go_num, by omega, hbw, hrow.congr fun q _ => by rw [byteAt_succ, if_neg (by rw [← HT.out]; simp)]⟩
        case measure => simp [intOf]; omega
      · have HL : ∀ w', Below wr.heap.size wr w' → w'.cell? ⟨G, 0 + k / 8, none⟩ = some (v8 (byteAt l k (k / 8))) := fun w' hb => by
          rw [Nat.zero_add]
          exact (hb.cell (p := ⟨G, k / 8, none⟩) hrow.lt).trans (hrow.cell hk8)
        go_upto_region 6 with (fail)
        refine wp_region_spec_tail 10 [Sp.k 0 (some 23) [] (.slice (some ⟨G, 0, none⟩) n n),
          Sp.k 1 (some 24) [] (.int .i64 k),
          Sp.k 2 (some 25) [1] (.int .i64 ((k / 8 : Nat) : Int)),
          Sp.k 3 (some 26) [0, 2] (.pointer (some ⟨G, 0 + k / 8, none⟩)),
          Sp.k 4 (some 27) [3] (v8 (byteAt l k (k / 8))),
          Sp.k 5 (some 28) [] (.int .i64 k),
          Sp.k 6 (some 29) [5] (.int .i64 ((k % 8 : Nat) : Int)),
          Sp.k 7 (some 30) [6] (v8 (1#8 <<< (k % 8))),
          Sp.k 8 (some 31) [4, 7] (v8 (byteAt l k (k / 8) ||| (1#8 <<< (k % 8)))),
          Sp.k 9 (some 32) [0, 2] (.pointer (some ⟨G, 0 + k / 8, none⟩))] (by kernel_rfl) (by kernel_rfl)
          ⟨owes_move 0 (some 23) [] (.slice (some ⟨G, 0, none⟩) n n) (Go.Operand.tmp 3) (fun v => by kernel_rfl) (fun v => by kernel_rfl),
          owes_move 1 (some 24) [] (.int .i64 k) (Go.Operand.tmp 4) (fun v => by kernel_rfl) (fun v => by kernel_rfl),
          owes_bin 2 (some 25) [1] (.int .i64 ((k / 8 : Nat) : Int)) Go.BinOp.quo 3 (Go.Operand.tmp 24) (Go.Operand.const (Go.Value.int Go.IntKind.i64 8)) 3 (.int .i64 k) (Go.Value.int Go.IntKind.i64 8) (fun v => by kernel_rfl) (fun v => by kernel_rfl) (quo_i64 _ _ _ k 8 (by omega) (by omega)),
          owes_index 3 (some 26) [0, 2] (.pointer (some ⟨G, 0 + k / 8, none⟩)) 35 (Go.Operand.tmp 23) (Go.Operand.tmp 25) (.slice (some ⟨G, 0, none⟩) n n) (.int .i64 ((k / 8 : Nat) : Int)) (fun v => by kernel_rfl) (fun v => by kernel_rfl) (idx_sl (P := Tryd.prog) Tryd.underlying35 (show (Tryd.prog.info? 5).map (·.size) = some 1 by kernel_rfl) G 0 n n (k / 8) (by omega)),
          owes_load 4 (some 27) [3] (v8 (byteAt l k (k / 8))) 5 (Go.Operand.tmp 26) (.pointer (some ⟨G, 0 + k / 8, none⟩)) (fun v => by kernel_rfl) (fun v => by kernel_rfl) (fun w' hb => load_u8' _ _ _ w' (HL w' (drB hb))),
          owes_move 5 (some 28) [] (.int .i64 k) (Go.Operand.tmp 4) (fun v => by kernel_rfl) (fun v => by kernel_rfl),
          owes_bin 6 (some 29) [5] (.int .i64 ((k % 8 : Nat) : Int)) Go.BinOp.rem 3 (Go.Operand.tmp 28) (Go.Operand.const (Go.Value.int Go.IntKind.i64 8)) 3 (.int .i64 k) (Go.Value.int Go.IntKind.i64 8) (fun v => by kernel_rfl) (fun v => by kernel_rfl) (rem_i64 _ _ _ k 8 (by omega) (by omega)),
          owes_bin 7 (some 30) [6] (v8 (1#8 <<< (k % 8))) Go.BinOp.shl 5 (Go.Operand.const (Go.Value.int Go.IntKind.u8 1)) (Go.Operand.tmp 29) 3 (Go.Value.int Go.IntKind.u8 1) (.int .i64 ((k % 8 : Nat) : Int)) (fun v => by kernel_rfl) (fun v => by kernel_rfl) (shl_u8 _ _ _ (k % 8) (by omega)),
          owes_bin 8 (some 31) [4, 7] (v8 (byteAt l k (k / 8) ||| (1#8 <<< (k % 8)))) Go.BinOp.or 5 (Go.Operand.tmp 27) (Go.Operand.tmp 30) 5 (v8 (byteAt l k (k / 8))) (v8 (1#8 <<< (k % 8))) (fun v => by kernel_rfl) (fun v => by kernel_rfl) (or_u8 _ _ _ _ _),
          owes_index 9 (some 32) [0, 2] (.pointer (some ⟨G, 0 + k / 8, none⟩)) 35 (Go.Operand.tmp 23) (Go.Operand.tmp 25) (.slice (some ⟨G, 0, none⟩) n n) (.int .i64 ((k / 8 : Nat) : Int)) (fun v => by kernel_rfl) (fun v => by kernel_rfl) (idx_sl (P := Tryd.prog) Tryd.underlying35 (show (Tryd.prog.info? 5).map (·.size) = some 1 by kernel_rfl) G 0 n n (k / 8) (by omega)), trivial⟩ ?_
        intro v w' hb' hall
        clear hall HL
        replace hb' := drB hb'
        have hr2 := hrow.of_block (hb'.block _ hrow.lt)
        have hbb : Below G w w' := hbw.trans (hb'.mono (by have := hrow.lt; omega))
        have hc := hr2.cell hk8
        have hf := hr2.frozen (k / 8)
        have hset := hr2.set (k / 8) (v8 (byteAt l k (k / 8) ||| (1#8 <<< (k % 8))))
        have hbS : Below G w (w'.setCell ⟨G, k / 8, none⟩ (v8 (byteAt l k (k / 8) ||| (1#8 <<< (k % 8))))) := hbb.setCell (p := ⟨G, k / 8, none⟩) (Nat.le_refl _) _
        clear hb' hrow hr2 hbb hbw
        simp only [putsL_k, putsL_nil, List.set_cons_zero, List.set_cons_succ]
        simp only [List.drop_succ_cons, List.drop_zero, Nat.zero_add]
        go_wp2_with fail
        go_roundw
        case rel =>
          refine ⟨k + 1, by go_num, by omega, hbS, hset.congr fun q _ => ?_⟩
          by_cases e : q = k / 8
          · rw [if_pos e, byteAt_succ, if_pos ⟨e.symm, HT.out.symm⟩, e]
          · rw [if_neg e, byteAt_succ, if_neg (fun x => e x.1.symm)]
        case measure => simp [intOf]; omega
    · have hlt' : decide (k < l.length) = false := by simpa using hlt
      obtain rfl : k = l.length := by omega
      go_wp2_with fail
      go_ret
      exact ⟨G, by rw [← HN.out]; rfl, by rw [← HN.out]; exact hrow, by rw [HG.out]; exact Nat.le_refl _, by rw [HG.out]; exact hbw⟩
end Go.Proofs.YtplennobcbmccaaDoor
