import Derived.Test.YtklooieghlnblaaSku
/-
  skip: same; Load.
-/
namespace Go.Proofs.Ytklooieghlnblaa
open Go.RowKit

theorem idx_Ep (g p n c i : Nat) (hi : i < n) (w : World) : (Instr.indexAt 24 (.slice (some ⟨g, p, none⟩) n c) (.int .i64 (i : Int))).run Try.prog w = .ok (.pointer (some ⟨g, p + 65 * i, none⟩)) w := by
  have hu := Try.underlying24
  have e2 : Try.prog.elem 24 = 46 := by simp [Program.elem, hu]
  rw [run_indexAt_slice (h := by rw [e2]; exact hu), if_pos (by omega)]
  simp only [e2, size_E, Result.andThen, Int.toNat_natCast, Addr.add_lit, Nat.mul_comm]
theorem field_S0 (b o : Nat) (w : World) : (Instr.fieldAt 46 (.pointer (some ⟨b, o, none⟩)) 0).run Try.prog w = .ok (.pointer (some ⟨b, o, none⟩)) w := by
  go_simp
theorem field_S1 (b o : Nat) (w : World) : (Instr.fieldAt 46 (.pointer (some ⟨b, o, none⟩)) 1).run Try.prog w = .ok (.pointer (some ⟨b, o + 32, none⟩)) w := by
  kernel_rfl
theorem field_S2 (b o : Nat) (w : World) : (Instr.fieldAt 46 (.pointer (some ⟨b, o, none⟩)) 2).run Try.prog w = .ok (.pointer (some ⟨b, o + 64, none⟩)) w := by
  kernel_rfl
theorem nq_u32 (t : TypeId) (x y : Operand) (a : Int) (w : World) : (do eqGuard .neq t x y (.int .u32 a) (.int .u32 a); binOp .neq t (.int .u32 a) (.int .u32 a) : Sem Value).run Try.prog w = .ok (.bool false) w := by
  simp [eqGuard, binOp, Op.intCmp]
theorem below_rg {w w' : World} {g o : Nat} {cs : List Value} (h : w.rangeAt g o cs) (hb : Below w.heap.size w w') (hg : g < w.heap.size) : w'.rangeAt g o cs := rangeAt_below h hb hg
set_option maxRecDepth 100000 in
set_option maxHeartbeats 1600000 in
theorem same_any (es : List Ent) (hn : es.length ≤ 1000) (A A2 : Option Addr) (c c2 : Nat) (w : World) (hA : SlRead w A (cells es)) (hA2 : SlRead w A2 (cells es)) :
    Calls Try.prog 17 #[.slice A es.length c, .slice A2 es.length c2] w fun e w' => e = .returned (.bool true) ∧ Below w.heap.size w w' := by
  go_enter Try.func17, Try.ntmps17
  go_wp2_with fail
  go_loopw [5] (fun p wr => ∃ k : Nat, p = .int .i64 k ∧ k ≤ es.length ∧ Below w.heap.size w wr) (fun p _ => es.length - (intOf p).toNat)
  case atStart => exact ⟨0, rfl, by omega, Below.refl _ _⟩
  case round =>
    obtain ⟨k, rfl, hk, hbw⟩ := hrel
    by_cases hlt : k < es.length
    · have hlt' : decide (k < es.length) = true := by simpa using hlt
      obtain ⟨e, he⟩ : ∃ e, e = es[k]! := ⟨_, rfl⟩
      obtain ⟨g, p, rfl, hgl, hrow⟩ := hA (by rw [cells_len]; omega)
      obtain ⟨g2, p2, rfl, hgl2, hrow2⟩ := hA2 (by rw [cells_len]; omega)
      obtain ⟨r1, r2, r3⟩ := ent_ranges hrow hlt he
      obtain ⟨q1, q2, q3⟩ := ent_ranges hrow2 hlt he
      have HD : ∀ w', Below wr.heap.size wr w' → w'.rangeAt g (p + 65 * k) (e.d.map cellB) := fun w' hb' => rangeAt_below r1 (below_tr hbw hb') hgl
      have HK : ∀ w', Below wr.heap.size wr w' → w'.rangeAt g (p + 65 * k + 32) (e.k.map cellB) := fun w' hb' => rangeAt_below r2 (below_tr hbw hb') hgl
      have HN : ∀ w', Below wr.heap.size wr w' → w'.cell? ⟨g, p + 65 * k + 64, none⟩ = some (.int .u32 e.n) := fun w' hb' => ((below_tr hbw hb').cell (p := ⟨g, _, none⟩) hgl).trans r3
      have HD2 : ∀ w', Below wr.heap.size wr w' → w'.rangeAt g2 (p2 + 65 * k) (e.d.map cellB) := fun w' hb' => rangeAt_below q1 (below_tr hbw hb') hgl2
      have HK2 : ∀ w', Below wr.heap.size wr w' → w'.rangeAt g2 (p2 + 65 * k + 32) (e.k.map cellB) := fun w' hb' => rangeAt_below q2 (below_tr hbw hb') hgl2
      have HN2 : ∀ w', Below wr.heap.size wr w' → w'.cell? ⟨g2, p2 + 65 * k + 64, none⟩ = some (.int .u32 e.n) := fun w' hb' => ((below_tr hbw hb').cell (p := ⟨g2, _, none⟩) hgl2).trans q3
      clear r1 r2 r3 q1 q2 q3 hrow hrow2 he
      go_upto_region 6 with (fail)
      refine wp_region_spec [Sp.k 0 (some 17) [] (.slice (some ⟨g, p, none⟩) es.length c),
        Sp.k 1 (some 18) [] (.int .i64 k),
        Sp.k 2 (some 19) [0, 1] (.pointer (some ⟨g, p + 65 * k, none⟩)),
        Sp.k 3 (some 20) [2] (.pointer (some ⟨g, p + 65 * k, none⟩)),
        Sp.k 4 (some 21) [3] (.agg (e.d.map cellB).toArray),
        Sp.k 5 (some 22) [] (.slice (some ⟨g2, p2, none⟩) es.length c2),
        Sp.k 6 (some 23) [] (.int .i64 k),
        Sp.k 7 (some 24) [5, 6] (.pointer (some ⟨g2, p2 + 65 * k, none⟩)),
        Sp.k 8 (some 25) [7] (.pointer (some ⟨g2, p2 + 65 * k, none⟩)),
        Sp.k 9 (some 26) [8] (.agg (e.d.map cellB).toArray),
        Sp.k 10 (some 27) [4, 9] (.bool false),
        Sp.k 11 (some 28) [10] (.bool false),
        Sp.k 12 (some 29) [11] (.slice (some ⟨g, p, none⟩) es.length c),
        Sp.k 13 (some 30) [11] (.int .i64 k),
        Sp.k 14 (some 31) [11, 12, 13] (.pointer (some ⟨g, p + 65 * k, none⟩)),
        Sp.k 15 (some 32) [11, 14] (.pointer (some ⟨g, p + 65 * k + 64, none⟩)),
        Sp.k 16 (some 33) [11, 15] (.int .u32 e.n),
        Sp.k 17 (some 34) [11] (.slice (some ⟨g2, p2, none⟩) es.length c2),
        Sp.k 18 (some 35) [11] (.int .i64 k),
        Sp.k 19 (some 36) [11, 17, 18] (.pointer (some ⟨g2, p2 + 65 * k, none⟩)),
        Sp.k 20 (some 37) [11, 19] (.pointer (some ⟨g2, p2 + 65 * k + 64, none⟩)),
        Sp.k 21 (some 38) [11, 20] (.int .u32 e.n),
        Sp.k 22 (some 39) [11, 16, 21] (.bool false),
        Sp.k 23 (some 40) [11, 22] (.bool false),
        Sp.k 24 (some 41) [23] (.bool false),
        Sp.k 25 (some 42) [24] (.slice (some ⟨g, p, none⟩) es.length c),
        Sp.k 26 (some 43) [24] (.int .i64 k),
        Sp.k 27 (some 44) [24, 25, 26] (.pointer (some ⟨g, p + 65 * k, none⟩)),
        Sp.k 28 (some 45) [24, 27] (.pointer (some ⟨g, p + 65 * k + 32, none⟩)),
        Sp.k 29 (some 46) [24, 28] (.agg (e.k.map cellB).toArray),
        Sp.k 30 (some 47) [24] (.slice (some ⟨g2, p2, none⟩) es.length c2),
        Sp.k 31 (some 48) [24] (.int .i64 k),
        Sp.k 32 (some 49) [24, 30, 31] (.pointer (some ⟨g2, p2 + 65 * k, none⟩)),
        Sp.k 33 (some 50) [24, 32] (.pointer (some ⟨g2, p2 + 65 * k + 32, none⟩)),
        Sp.k 34 (some 51) [24, 33] (.agg (e.k.map cellB).toArray),
        Sp.k 35 (some 52) [24, 29, 34] (.bool false),
        Sp.k 36 (some 53) [24, 35] (.bool false)] (by kernel_rfl) (by kernel_rfl)
        ⟨owes_move 0 (some 17) [] (.slice (some ⟨g, p, none⟩) es.length c) (Go.Operand.tmp 0) (fun v => by kernel_rfl) (fun v => by kernel_rfl),
        owes_move 1 (some 18) [] (.int .i64 k) (Go.Operand.tmp 5) (fun v => by kernel_rfl) (fun v => by kernel_rfl),
        owes_index 2 (some 19) [0, 1] (.pointer (some ⟨g, p + 65 * k, none⟩)) 24 (Go.Operand.tmp 17) (Go.Operand.tmp 18) (.slice (some ⟨g, p, none⟩) es.length c) (.int .i64 k) (fun v => by kernel_rfl) (fun v => by kernel_rfl) (idx_Ep g p es.length c k hlt),
        owes_field 3 (some 20) [2] (.pointer (some ⟨g, p + 65 * k, none⟩)) 46 (Go.Operand.tmp 19) 0 (.pointer (some ⟨g, p + 65 * k, none⟩)) (fun v => by kernel_rfl) (fun v => by kernel_rfl) (field_S0 g _),
        owes_load 4 (some 21) [3] (.agg (e.d.map cellB).toArray) 31 (Go.Operand.tmp 20) (.pointer (some ⟨g, p + 65 * k, none⟩)) (fun v => by kernel_rfl) (fun v => by kernel_rfl) (fun w' hb => load_row 31 g (p + 65 * k) (e.d.map cellB) _ Try.underlying31 rfl (by rw [List.length_map, e.hd]; exact info_key) w' (HD w' (drB hb))),
        owes_move 5 (some 22) [] (.slice (some ⟨g2, p2, none⟩) es.length c2) (Go.Operand.tmp 1) (fun v => by kernel_rfl) (fun v => by kernel_rfl),
        owes_move 6 (some 23) [] (.int .i64 k) (Go.Operand.tmp 5) (fun v => by kernel_rfl) (fun v => by kernel_rfl),
        owes_index 7 (some 24) [5, 6] (.pointer (some ⟨g2, p2 + 65 * k, none⟩)) 27 (Go.Operand.tmp 22) (Go.Operand.tmp 23) (.slice (some ⟨g2, p2, none⟩) es.length c2) (.int .i64 k) (fun v => by kernel_rfl) (fun v => by kernel_rfl) (idx_D g2 p2 es.length c2 k hlt),
        owes_field 8 (some 25) [7] (.pointer (some ⟨g2, p2 + 65 * k, none⟩)) 56 (Go.Operand.tmp 24) 0 (.pointer (some ⟨g2, p2 + 65 * k, none⟩)) (fun v => by kernel_rfl) (fun v => by kernel_rfl) (field_E0 g2 _),
        owes_load 9 (some 26) [8] (.agg (e.d.map cellB).toArray) 31 (Go.Operand.tmp 25) (.pointer (some ⟨g2, p2 + 65 * k, none⟩)) (fun v => by kernel_rfl) (fun v => by kernel_rfl) (fun w' hb => load_row 31 g2 (p2 + 65 * k) (e.d.map cellB) _ Try.underlying31 rfl (by rw [List.length_map, e.hd]; exact info_key) w' (HD2 w' (drB hb))),
        owes_neq 10 (some 27) [4, 9] 31 (Go.Operand.tmp 21) (Go.Operand.tmp 26) 31 ((e.d.map cellB).toArray) ((e.d.map cellB).toArray) true (fun v => by kernel_rfl) (fun v => by kernel_rfl) (by kernel_rfl) (fun w => eq_key w e.d e.d e.hd e.hd true (by simp)),
        owes_move 11 (some 28) [10] (.bool false) (Go.Operand.tmp 27) (fun v => by kernel_rfl) (fun v => by kernel_rfl),
        owes_move 12 (some 29) [11] (.slice (some ⟨g, p, none⟩) es.length c) (Go.Operand.tmp 0) (fun v => by kernel_rfl) (fun v => by kernel_rfl),
        owes_move 13 (some 30) [11] (.int .i64 k) (Go.Operand.tmp 5) (fun v => by kernel_rfl) (fun v => by kernel_rfl),
        owes_index 14 (some 31) [11, 12, 13] (.pointer (some ⟨g, p + 65 * k, none⟩)) 24 (Go.Operand.tmp 29) (Go.Operand.tmp 30) (.slice (some ⟨g, p, none⟩) es.length c) (.int .i64 k) (fun v => by kernel_rfl) (fun v => by kernel_rfl) (idx_Ep g p es.length c k hlt),
        owes_field 15 (some 32) [11, 14] (.pointer (some ⟨g, p + 65 * k + 64, none⟩)) 46 (Go.Operand.tmp 31) 2 (.pointer (some ⟨g, p + 65 * k, none⟩)) (fun v => by kernel_rfl) (fun v => by kernel_rfl) (field_S2 g _),
        owes_load 16 (some 33) [11, 15] (.int .u32 e.n) 36 (Go.Operand.tmp 32) (.pointer (some ⟨g, p + 65 * k + 64, none⟩)) (fun v => by kernel_rfl) (fun v => by kernel_rfl) (fun w' hb => ld_u32 _ _ _ w' (HN w' (drB hb))),
        owes_move 17 (some 34) [11] (.slice (some ⟨g2, p2, none⟩) es.length c2) (Go.Operand.tmp 1) (fun v => by kernel_rfl) (fun v => by kernel_rfl),
        owes_move 18 (some 35) [11] (.int .i64 k) (Go.Operand.tmp 5) (fun v => by kernel_rfl) (fun v => by kernel_rfl),
        owes_index 19 (some 36) [11, 17, 18] (.pointer (some ⟨g2, p2 + 65 * k, none⟩)) 27 (Go.Operand.tmp 34) (Go.Operand.tmp 35) (.slice (some ⟨g2, p2, none⟩) es.length c2) (.int .i64 k) (fun v => by kernel_rfl) (fun v => by kernel_rfl) (idx_D g2 p2 es.length c2 k hlt),
        owes_field 20 (some 37) [11, 19] (.pointer (some ⟨g2, p2 + 65 * k + 64, none⟩)) 56 (Go.Operand.tmp 36) 2 (.pointer (some ⟨g2, p2 + 65 * k, none⟩)) (fun v => by kernel_rfl) (fun v => by kernel_rfl) (field_E2 g2 _),
        owes_load 21 (some 38) [11, 20] (.int .u32 e.n) 36 (Go.Operand.tmp 37) (.pointer (some ⟨g2, p2 + 65 * k + 64, none⟩)) (fun v => by kernel_rfl) (fun v => by kernel_rfl) (fun w' hb => ld_u32 _ _ _ w' (HN2 w' (drB hb))),
        owes_bin 22 (some 39) [11, 16, 21] (.bool false) Go.BinOp.neq 36 (Go.Operand.tmp 33) (Go.Operand.tmp 38) 36 (.int .u32 e.n) (.int .u32 e.n) (fun v => by kernel_rfl) (fun v => by kernel_rfl) (fun w => nq_u32 _ _ _ _ w),
        owes_pick 23 (some 40) [11, 22] (.bool false) (Go.Operand.tmp 28) (Go.Operand.const (Go.Value.bool true)) (Go.Operand.tmp 39) false (fun v => by kernel_rfl) (fun v => by kernel_rfl) (fun v => by kernel_rfl),
        owes_move 24 (some 41) [23] (.bool false) (Go.Operand.tmp 40) (fun v => by kernel_rfl) (fun v => by kernel_rfl),
        owes_move 25 (some 42) [24] (.slice (some ⟨g, p, none⟩) es.length c) (Go.Operand.tmp 0) (fun v => by kernel_rfl) (fun v => by kernel_rfl),
        owes_move 26 (some 43) [24] (.int .i64 k) (Go.Operand.tmp 5) (fun v => by kernel_rfl) (fun v => by kernel_rfl),
        owes_index 27 (some 44) [24, 25, 26] (.pointer (some ⟨g, p + 65 * k, none⟩)) 24 (Go.Operand.tmp 42) (Go.Operand.tmp 43) (.slice (some ⟨g, p, none⟩) es.length c) (.int .i64 k) (fun v => by kernel_rfl) (fun v => by kernel_rfl) (idx_Ep g p es.length c k hlt),
        owes_field 28 (some 45) [24, 27] (.pointer (some ⟨g, p + 65 * k + 32, none⟩)) 46 (Go.Operand.tmp 44) 1 (.pointer (some ⟨g, p + 65 * k, none⟩)) (fun v => by kernel_rfl) (fun v => by kernel_rfl) (field_S1 g _),
        owes_load 29 (some 46) [24, 28] (.agg (e.k.map cellB).toArray) 31 (Go.Operand.tmp 45) (.pointer (some ⟨g, p + 65 * k + 32, none⟩)) (fun v => by kernel_rfl) (fun v => by kernel_rfl) (fun w' hb => load_row 31 g (p + 65 * k + 32) (e.k.map cellB) _ Try.underlying31 rfl (by rw [List.length_map, e.hk]; exact info_key) w' (HK w' (drB hb))),
        owes_move 30 (some 47) [24] (.slice (some ⟨g2, p2, none⟩) es.length c2) (Go.Operand.tmp 1) (fun v => by kernel_rfl) (fun v => by kernel_rfl),
        owes_move 31 (some 48) [24] (.int .i64 k) (Go.Operand.tmp 5) (fun v => by kernel_rfl) (fun v => by kernel_rfl),
        owes_index 32 (some 49) [24, 30, 31] (.pointer (some ⟨g2, p2 + 65 * k, none⟩)) 27 (Go.Operand.tmp 47) (Go.Operand.tmp 48) (.slice (some ⟨g2, p2, none⟩) es.length c2) (.int .i64 k) (fun v => by kernel_rfl) (fun v => by kernel_rfl) (idx_D g2 p2 es.length c2 k hlt),
        owes_field 33 (some 50) [24, 32] (.pointer (some ⟨g2, p2 + 65 * k + 32, none⟩)) 56 (Go.Operand.tmp 49) 1 (.pointer (some ⟨g2, p2 + 65 * k, none⟩)) (fun v => by kernel_rfl) (fun v => by kernel_rfl) (field_E1 g2 _),
        owes_load 34 (some 51) [24, 33] (.agg (e.k.map cellB).toArray) 31 (Go.Operand.tmp 50) (.pointer (some ⟨g2, p2 + 65 * k + 32, none⟩)) (fun v => by kernel_rfl) (fun v => by kernel_rfl) (fun w' hb => load_row 31 g2 (p2 + 65 * k + 32) (e.k.map cellB) _ Try.underlying31 rfl (by rw [List.length_map, e.hk]; exact info_key) w' (HK2 w' (drB hb))),
        owes_neq 35 (some 52) [24, 29, 34] 31 (Go.Operand.tmp 46) (Go.Operand.tmp 51) 31 ((e.k.map cellB).toArray) ((e.k.map cellB).toArray) true (fun v => by kernel_rfl) (fun v => by kernel_rfl) (by kernel_rfl) (fun w => eq_key w e.k e.k e.hk e.hk true (by simp)),
        owes_pick 36 (some 53) [24, 35] (.bool false) (Go.Operand.tmp 41) (Go.Operand.const (Go.Value.bool true)) (Go.Operand.tmp 52) false (fun v => by kernel_rfl) (fun v => by kernel_rfl) (fun v => by kernel_rfl), trivial⟩ ?_
      intro vv w' hb' hall
      clear hall HD HK HN HD2 HK2 HN2
      have hbb := below_tr hbw (drB hb')
      clear hb' hbw
      simp only [putsL_k, putsL_nil, List.set_cons_zero, List.set_cons_succ]
      go_wp2_with fail
      go_roundw
      case rel => exact ⟨k + 1, by go_num, by omega, hbb⟩
      case measure => simp [intOf]; omega
    · have hlt' : decide (k < es.length) = false := by simpa using hlt
      go_wp2_with fail
      go_ret
      exact ⟨rfl, hbw⟩
/-- Load's entries, so far -/
def acc (es : List Ent) (k : Nat) : List Ent := (es.take k).foldl putL []
theorem putL_40 {es : List Ent} (e : Ent) (h : es.length ≤ 40) : (putL es e).length ≤ 40 := by
  have hl : (es.eraseP (Ent.is e.d e.n)).length ≤ es.length := List.length_eraseP_le
  unfold putL
  split
  · rename_i h
    rw [List.length_append, List.length_eraseIdx_of_lt (by omega), h]
    simp
  · rw [List.length_append]
    simp
    omega
theorem acc_len (es : List Ent) (k : Nat) : (acc es k).length ≤ 40 := by
  unfold acc
  have : ∀ (l : List Ent) (a : List Ent), a.length ≤ 40 → (l.foldl putL a).length ≤ 40 := by
    intro l
    induction l with
    | nil => intro a h; exact h
    | cons e l ih =>
      intro a h
      exact ih _ (putL_40 e h)
  exact this _ [] (by simp)
theorem acc_succ (es : List Ent) (k : Nat) (hk : k < es.length) {e : Ent} (he : e = es[k]!) : acc es (k + 1) = putL (acc es k) e := by
  unfold acc
  rw [List.take_succ_eq_append_getElem hk, List.foldl_append]
  simp [he, hk]
def LoadPost (w : World) (base B : Nat) (es : List Ent) (e : Ending) (w' : World) : Prop :=
  e = .returned (.tuple #[]) ∧ ∃ v', SkAt w' base B 0 v' es ∧ Mod B 0 none w w' ∧ (∀ q, v'.ownBlock = some q → w.heap.size ≤ q)
theorem load_E (b o : Nat) (e : Ent) (w : World) (h : w.rangeAt b o e.ce) : (Instr.loadAt 46 (.pointer (some ⟨b, o, none⟩))).run Try.prog w = .ok (.agg e.ce.toArray) w :=
  load_row 46 b o e.ce _ Try.underlying46 rfl (by rw [e.ce_len]; kernel_rfl) w h
theorem ce_sub (e : Ent) : (∀ j v, (e.d.map cellB)[j]? = some v → e.ce[0 + j]? = some v) ∧ (∀ j v, (e.k.map cellB)[j]? = some v → e.ce[32 + j]? = some v) ∧ e.ce[64]? = some (.int .u32 e.n) := by
  refine ⟨fun j v hv => ?_, fun j v hv => ?_, ?_⟩
  · have hj := (List.getElem?_eq_some_iff.1 hv).1
    unfold Ent.ce ceT
    rw [Nat.zero_add, List.getElem?_append_left hj]
    exact hv
  · have hj := (List.getElem?_eq_some_iff.1 hv).1
    unfold Ent.ce ceT
    rw [List.getElem?_append_right (by rw [List.length_map, e.hd]; omega), List.length_map, e.hd, show 32 + j - 32 = j by omega, List.getElem?_append_left hj]
    exact hv
  · simp [Ent.ce, ceT, e.hd, e.hk]
theorem nil_Sk {w : World} {base B : Nat} {v : Value} {es : List Ent} (h : SkAt w base B 0 v es) : SkAt (w.setCell ⟨B, 0, none⟩ (.slice none 0 0)) base B 0 (.slice none 0 0) [] ∧ Mod B 0 none w (w.setCell ⟨B, 0, none⟩ (.slice none 0 0)) := by
  refine ⟨⟨World.cell?_setCell_same w _ _ h.cell, by rw [frozen_setCell]; exact h.frz, World.ownsRow_nil _ _ _ _, by simp [Value.ownBlock]⟩, ⟨rfl, rfl, rfl, by simp [World.setCell], fun k hk h1 _ => Below.heap_setCell _ _ _ _ h1, fun j hj => World.cell?_setCell_other _ _ _ _ (by intro e; cases e; exact hj rfl), fun j => by rw [frozen_setCell]⟩⟩
set_option maxRecDepth 100000 in
set_option maxHeartbeats 1600000 in
theorem load_any (es es0 : List Ent) (hn : es.length ≤ 1000) (base B : Nat) (v : Value) (A : Option Addr) (c : Nat) (w : World) (hbase : base ≤ w.heap.size) (h : SkAt w base B 0 v es0) (hA : SlRead w A (cells es)) (hne : ∀ a, A = some a → a.block ≠ B) :
    Calls Try.prog 11 #[.pointer (some ⟨B, 0, none⟩), .slice A es.length c] w (LoadPost w base B (acc es es.length)) := by
  have hcell := h.cell
  have hfrz := h.frz
  have h0 := nil_Sk h
  have H0 := Lib.hid h0
  have hBl := h.lt
  clear h h0
  go_enter Try.func11, Try.ntmps11
  go_upto_region 1 with (fail)
  obtain ⟨W0, hW0⟩ : ∃ W0, W0 = w.setCell ⟨B, 0, none⟩ (.slice none 0 0) := ⟨_, rfl⟩
  rw [← hW0]
  have hM0 : Mod B 0 none w W0 := by rw [hW0]; exact H0.out.2
  have hS0 : SkAt W0 base B 0 (.slice none 0 0) [] := by rw [hW0]; exact H0.out.1
  clear hW0 H0 hcell hfrz
  go_wp2_with fail
  go_loopw [5, 11] (fun _ i wr => ∃ k : Nat, i = .int .i64 k ∧ k ≤ es.length ∧ ∃ vk, SkAt wr base B 0 vk (acc es k) ∧ Mod B 0 none w wr ∧ ∀ q, vk.ownBlock = some q → w.heap.size ≤ q) (fun _ i _ => es.length - (intOf i).toNat)
  case atStart => exact ⟨0, rfl, by omega, _, by simpa [acc] using hS0, hM0, by simp [Value.ownBlock]⟩
  case round =>
    obtain ⟨k, rfl, hk, vk, hsk, hmk, hvk⟩ := hrel
    have HSK := Lib.hid hsk
    have HMK := Lib.hid hmk
    have HVK := Lib.hid hvk
    clear hsk hmk hvk hM0 hS0
    by_cases hlt : k < es.length
    · have hlt' : decide (k < es.length) = true := by simpa using hlt
      obtain ⟨e, he⟩ : ∃ e, e = es[k]! := ⟨_, rfl⟩
      obtain ⟨g, p, rfl, hgl, hrow⟩ := hA (by rw [cells_len]; omega)
      have hgB : g ≠ B := hne _ rfl
      have hre : wr.rangeAt g (p + 65 * k) e.ce := fun j u hu => by
        have hj : j < 65 := by
          have := (List.getElem?_eq_some_iff.1 hu).1
          rwa [Ent.ce_len] at this
        have := hrow (k * 65 + j) u (by rw [cells_get es k hlt j hj, ← he]; exact hu)
        rw [show p + 65 * k + j = p + (k * 65 + j) by omega]
        exact (World.cell?_of_block (HMK.out.block g hgl hgB (by simp))).trans this
      have hidx := idx_Ep g p es.length c k hlt
      have hz : e.ce.toArray.size = 65 := by simpa using e.ce_len
      have hzi : (Try.prog.info? 46).map (·.size) = some 65 := by kernel_rfl
      have hone : e.ce.toArray.all (·.oneCell') = true := by
        rw [Array.all_eq_true_iff_forall_mem]
        intro x hx
        exact ceT_one e.d e.k e.n x (by show x ∈ e.ce; simpa using hx)
      have HRE := Lib.hid (load_E g (p + 65 * k) e wr hre)
      have HE := Lib.hid he
      clear hrow hre he
      go_upto_region 4 with (first | (refine wpList_run rfl _ _ (exec_load rfl (by kernel_rfl) HRE.out) ?_) | (refine wpList_allocV rfl 46 rfl zeroE.toArray (fun _ => by kernel_rfl) ?_) | (refine wpList_store_row rfl 46 _ _ rfl _ _ rfl rfl _ _ (heap_alloc_new _ _) (by rw [hz]; exact hzi) (by rw [hz]; exact Ent.ce_len _) hone ?_; rw [alloc_setRow]))
      obtain ⟨W2, hW2⟩ : ∃ W2, W2 = wr.alloc (.cells e.ce.toArray 46) := ⟨_, rfl⟩
      rw [← hW2]
      have hb2 : Below wr.heap.size wr W2 := by rw [hW2]; exact below_alc _ _
      have hr2 : W2.rangeAt wr.heap.size 0 e.ce := by rw [hW2]; exact range_new (heap1_0 _ _)
      obtain ⟨b5, hb5⟩ : ∃ b5, b5 = wr.heap.size := ⟨_, rfl⟩
      rw [← hb5] at hr2 ⊢
      obtain ⟨s1, s2, s3⟩ := ce_sub e
      have rd : W2.rangeAt b5 0 (e.d.map cellB) := fun j u hu => hr2 _ u (by have := s1 j u hu; rwa [Nat.zero_add] at this)
      have rk : W2.rangeAt b5 32 (e.k.map cellB) := fun j u hu => by have := hr2 _ u (s2 j u hu); rwa [Nat.zero_add] at this
      have rn : W2.cell? ⟨b5, 64, none⟩ = some (.int .u32 e.n) := by have := hr2 64 _ s3; rwa [Nat.zero_add] at this
      have hs2 := HSK.out.below hb2
      have hbW : base ≤ W2.heap.size := by have := HMK.out.size; have := hb2.size; omega
      have hM2 : Mod B 0 none w W2 := HMK.out.trans (Mod.of_below none HSK.out.lt hb2) (.inl rfl)
      clear hW2 hr2 s1 s2 s3 hb2 HRE hz hone
      refine wp_region_lit ?_
      refine wpList_run (by kernel_rfl) (.pointer (some ⟨B, 0, none⟩)) (W2) (exec_move rfl (by kernel_rfl)) ?_
      refine wpList_run (by kernel_rfl) (.pointer (some ⟨b5, 0, none⟩)) (W2) (exec_field (vx := .pointer (some ⟨b5, 0, none⟩)) rfl (by kernel_rfl) (field_S0 b5 0 _)) ?_
      refine wpList_run (by kernel_rfl) (.agg (e.d.map cellB).toArray) (W2) (exec_load (vx := .pointer (some ⟨b5, 0, none⟩)) rfl (by kernel_rfl) (load_row 31 b5 0 (e.d.map cellB) _ Try.underlying31 rfl (by rw [List.length_map, e.hd]; exact info_key) _ rd)) ?_
      refine wpList_run (by kernel_rfl) (.pointer (some ⟨b5, 64, none⟩)) (W2) (exec_field (vx := .pointer (some ⟨b5, 0, none⟩)) rfl (by kernel_rfl) ((by have := field_S2 b5 0 W2; simpa using this))) ?_
      refine wpList_run (by kernel_rfl) (.int .u32 e.n) (W2) (exec_load (vx := .pointer (some ⟨b5, 64, none⟩)) rfl (by kernel_rfl) (ld_u32 _ _ _ _ rn)) ?_
      refine wpList_run (by kernel_rfl) (.pointer (some ⟨b5, 32, none⟩)) (W2) (exec_field (vx := .pointer (some ⟨b5, 0, none⟩)) rfl (by kernel_rfl) ((by have := field_S1 b5 0 W2; simpa using this))) ?_
      refine wpList_run (by kernel_rfl) (.agg (e.k.map cellB).toArray) (W2) (exec_load (vx := .pointer (some ⟨b5, 32, none⟩)) rfl (by kernel_rfl) (load_row 31 b5 32 (e.k.map cellB) _ Try.underlying31 rfl (by rw [List.length_map, e.hk]; exact info_key) _ rk)) ?_
      refine wpList_call (by kernel_rfl) 13 #[Go.Operand.tmp 15, Go.Operand.tmp 17, Go.Operand.tmp 19, Go.Operand.tmp 21] #[51, 31, 36, 31] #[.pointer (some ⟨B, 0, none⟩), .agg (e.d.map cellB).toArray, .int .u32 e.n, .agg (e.k.map cellB).toArray] _ rfl (by kernel_rfl) (by kernel_rfl) (put_any (acc es k) e.d e.k e.n e.hd e.hk (by have := acc_len es k; omega) base B 0 vk W2 hbW hs2) ?_
      rintro e3 W3 ⟨rfl, v3, hs3, hm3, hk3⟩
      refine ⟨_, rfl, ?_⟩
      refine wpList_nil ?_
      simp only [put_list, List.set_cons_zero, List.set_cons_succ]
      have hM3 : Mod B 0 none w W3 := hM2.trans hm3 (.inr HVK.out)
      have hq3 : ∀ q, v3.ownBlock = some q → w.heap.size ≤ q := fun q hq => (hk3 q hq).elim (fun h => HVK.out q h) (fun h => Nat.le_trans hM2.size h)
      have hs4 : SkAt W3 base B 0 v3 (acc es (k + 1)) := by rw [acc_succ es k hlt HE.out]; exact hs3
      clear rd rk rn hs2 hM2 hs3 hm3 hk3
      go_wp2_with fail
      go_roundw
      case rel => exact ⟨k + 1, by go_num, by omega, v3, hs4, hM3, hq3⟩
      case measure => simp [intOf]; omega
    · have hlt' : decide (k < es.length) = false := by simpa using hlt
      obtain rfl : k = es.length := by omega
      go_wp2_with fail
      go_end0
      exact ⟨rfl, vk, HSK.out, HMK.out, HVK.out⟩
end Go.Proofs.Ytklooieghlnblaa
