import Derived.Test.YtklooieghlnblaaSki
/-
  skip: the document's place.
-/
namespace Go.Proofs.Ytklooieghlnblaa
open Go.RowKit

section
variable {P : Program} {ops : Array Oper} {l : List Sp} {a : Act} {w : World}
theorem owes_nil (i : Nat) (dst : Option Tmp) (anc : List Nat) (x : Operand) (p : Addr) (hop : ∀ v, ops[i]?.map (fun o => (o.op, Region.wanted o (yielded ops (fr l anc a v).tmps))) = some (.nilCheck x, true))
    (hx : ∀ v, (fr l anc a v).eval x = .pointer (some p)) : Owes P ops l a w (Sp.k i dst anc (.pointer (some p))) :=
  owes_pure i dst anc _ _ hop fun v w' _ _ o ho => by unfold execOp; simp only [ho, hx v]; rfl
end
theorem drB {w w' : World} (hb : Below w.drew.heap.size w.drew w') : Below w.heap.size w w' := ⟨hb.os, hb.tape, hb.output, hb.size, hb.block⟩
/-- the document's store -/
structure DkAt (w : World) (B : Nat) (A : Option Addr) (c : Nat) (es : List Ent) : Prop where
  cell : w.cell? ⟨B, 0, none⟩ = some (.slice A es.length c)
  frz : w.frozen? ⟨B, 0, none⟩ = false
  row : SlRead w A (cells es)
  ne : ∀ a, A = some a → 0 < es.length → a.block ≠ B
  cap : es.length ≤ c ∧ c ≤ maxLen
  nil : A = none → c = 0
theorem DkAt.lt {w : World} {B : Nat} {A : Option Addr} {c : Nat} {es : List Ent} (h : DkAt w B A c es) : B < w.heap.size := cell_lt h.cell
theorem DkAt.below {w w' : World} {B : Nat} {A : Option Addr} {c : Nat} {es : List Ent} (h : DkAt w B A c es) (hb : Below w.heap.size w w') : DkAt w' B A c es :=
  ⟨(hb.cell (p := ⟨B, 0, none⟩) h.lt).trans h.cell, (hb.frozen (p := ⟨B, 0, none⟩) h.lt).trans h.frz, h.row.below hb, h.ne, h.cap, h.nil⟩
theorem field_D (b : Nat) (w : World) : (Instr.fieldAt 29 (.pointer (some ⟨b, 0, none⟩)) 0).run Try.prog w = .ok (.pointer (some ⟨b, 0, none⟩)) w := by
  go_simp
theorem field_E0 (b o : Nat) (w : World) : (Instr.fieldAt 56 (.pointer (some ⟨b, o, none⟩)) 0).run Try.prog w = .ok (.pointer (some ⟨b, o, none⟩)) w := by
  go_simp
theorem offs_E : (Try.prog.info? 56).map (fun i => (i.size, i.bytes)) = some (65, 68) := by kernel_rfl
theorem field_E1 (b o : Nat) (w : World) : (Instr.fieldAt 56 (.pointer (some ⟨b, o, none⟩)) 1).run Try.prog w = .ok (.pointer (some ⟨b, o + 32, none⟩)) w := by
  kernel_rfl
theorem field_E2 (b o : Nat) (w : World) : (Instr.fieldAt 56 (.pointer (some ⟨b, o, none⟩)) 2).run Try.prog w = .ok (.pointer (some ⟨b, o + 64, none⟩)) w := by
  kernel_rfl
theorem load_dsl (b : Nat) (v : Value) (w : World) (h : w.cell? ⟨b, 0, none⟩ = some v) : (Instr.loadAt 27 (.pointer (some ⟨b, 0, none⟩))).run Try.prog w = .ok v w := by
  have h2 := Try.underlying27
  go_simp
theorem size_D (w : World) : (sizeOf 56).run Try.prog w = .ok 65 w := by kernel_rfl
theorem idx_D (g p n c i : Nat) (hi : i < n) (w : World) : (Instr.indexAt 27 (.slice (some ⟨g, p, none⟩) n c) (.int .i64 (i : Int))).run Try.prog w = .ok (.pointer (some ⟨g, p + 65 * i, none⟩)) w := by
  have hu := Try.underlying27
  have e2 : Try.prog.elem 27 = 56 := by simp [Program.elem, hu]
  rw [run_indexAt_slice (h := by rw [e2]; exact hu), if_pos (by omega)]
  simp only [e2, size_D, Result.andThen, Int.toNat_natCast, Addr.add_lit, Nat.mul_comm]
def NoneTo (es : List Ent) (q : List UInt8) (m : Int) (k : Nat) : Prop := ∀ j, j < k → (es[j]!).is q m = false
theorem none_snoc {es : List Ent} {q : List UInt8} {m : Int} {k : Nat} {e : Ent} (h : NoneTo es q m k) (he : e = es[k]! ∧ e.is q m = false) : NoneTo es q m (k + 1) := fun j hj => by
  by_cases h1 : j = k
  · rw [h1, ← he.1]; exact he.2
  · exact h j (by omega)
theorem plc_hit {es : List Ent} {q : List UInt8} {m : Int} {k : Nat} (hk : k < es.length) (h : NoneTo es q m k) {e : Ent} (he : e = es[k]! ∧ e.is q m = true) : plc es q m = (k : Int) := by
  have : es.findIdx? (Ent.is q m) = some k := List.findIdx?_eq_some_iff_getElem.2 ⟨hk, by have := he.2; rw [he.1] at this; simpa [hk] using this, fun j hj => by have := h j hj; simp [show j < es.length by omega] at this; simp [this]⟩
  unfold plc
  rw [this]
theorem plc_miss {es : List Ent} {q : List UInt8} {m : Int} (h : NoneTo es q m es.length) : plc es q m = -1 := by
  have : es.findIdx? (Ent.is q m) = none := List.findIdx?_eq_none_iff.2 fun x hx => by
    obtain ⟨j, hj, rfl⟩ := List.getElem_of_mem hx
    have := h j hj
    simpa [hj] using this
  unfold plc
  rw [this]
theorem ent_ranges {w : World} {g p : Nat} {es : List Ent} (h : ∀ j u, (cells es)[j]? = some u → w.cell? ⟨g, p + j, none⟩ = some u) {k : Nat} (hk : k < es.length) {e : Ent} (he : e = es[k]!) :
    w.rangeAt g (p + 65 * k) (e.d.map cellB) ∧ w.rangeAt g (p + 65 * k + 32) (e.k.map cellB) ∧ w.cell? ⟨g, p + 65 * k + 64, none⟩ = some (.int .u32 e.n) := by
  have key : ∀ i v, (e.ce)[i]? = some v → w.cell? ⟨g, p + 65 * k + i, none⟩ = some v := fun i v hv => by
    have hi : i < 65 := by
      have := (List.getElem?_eq_some_iff.1 hv).1
      rwa [Ent.ce_len] at this
    have := h (k * 65 + i) v (by rw [cells_get es k hk i hi, ← he]; exact hv)
    rw [show p + 65 * k + i = p + (k * 65 + i) by omega]
    exact this
  refine ⟨fun j v hv => ?_, fun j v hv => ?_, ?_⟩
  · refine key j v ?_
    have hj := (List.getElem?_eq_some_iff.1 hv).1
    unfold Ent.ce ceT
    rw [List.getElem?_append_left hj]
    exact hv
  · rw [show p + 65 * k + 32 + j = p + 65 * k + (32 + j) by omega]
    refine key (32 + j) v ?_
    have hj := (List.getElem?_eq_some_iff.1 hv).1
    unfold Ent.ce ceT
    rw [List.getElem?_append_right (by rw [List.length_map, e.hd]; omega), List.length_map, e.hd, show 32 + j - 32 = j by omega, List.getElem?_append_left hj]
    exact hv
  · refine key 64 _ ?_
    simp [Ent.ce, ceT, e.hd, e.hk]
set_option maxRecDepth 100000 in
set_option maxHeartbeats 1600000 in
theorem dplace_any (es : List Ent) (q : List UInt8) (m : Int) (hq : q.length = 32) (hn : es.length ≤ 1000) (B : Nat) (A : Option Addr) (c : Nat) (w : World) (h : DkAt w B A c es) :
    Calls Try.prog 20 #[.pointer (some ⟨B, 0, none⟩), .agg (q.map cellB).toArray, .int .u32 m] w fun e w' => e = .returned (.int .i64 (plc es q m)) ∧ Below w.heap.size w w' := by
  have hB0 : Below w.heap.size w (w.alloc (Obj.cells (q.map cellB).toArray 31)) := below_alc _ _
  have h0 := h.below hB0
  have hrq : (w.alloc (Obj.cells (q.map cellB).toArray 31)).rangeAt w.heap.size 0 (q.map cellB) := range_new (heap1_0 _ _)
  go_enter Try.func20, Try.ntmps20
  go_upto_region 1 with (fail)
  refine wp_world (fun W => W.rangeAt w.heap.size 0 (q.map cellB) ∧ DkAt W B A c es ∧ w.heap.size < W.heap.size ∧ Below w.heap.size w W) ⟨hrq, h0, by simp, hB0⟩ ?_
  clear hrq h0 hB0 h
  rintro W ⟨hrq, h, hlq, hB0⟩
  generalize hbq : w.heap.size = bq at *
  have HBQ := Lib.hid hbq
  have hsz1 : bq ≤ W.heap.size := by omega
  clear hbq
  go_wp2_with fail
  go_loopw [7] (fun i wr => ∃ k : Nat, i = .int .i64 k ∧ k ≤ es.length ∧ Below W.heap.size W wr ∧ NoneTo es q m k) (fun i _ => es.length - (intOf i).toNat)
  case atStart => exact ⟨0, rfl, by omega, Below.refl _ _, fun j hj => absurd hj (Nat.not_lt_zero _)⟩
  case round =>
    obtain ⟨k, rfl, hk, hbw, hno⟩ := hrel
    have hcell := (h.below hbw).cell
    by_cases hlt : k < es.length
    · obtain ⟨e, he⟩ : ∃ e, e = es[k]! := ⟨_, rfl⟩
      have hlt' : decide (k < es.length) = true := by simpa using hlt
      obtain ⟨g, p, rfl, hgl, hrow⟩ := h.row (by rw [cells_len]; omega)
      obtain ⟨r1, _, r3⟩ := ent_ranges hrow hlt he
      have HC : ∀ w', Below wr.heap.size wr w' → w'.cell? ⟨B, 0, none⟩ = some (.slice (some ⟨g, p, none⟩) es.length c) := fun w' hb' => ((below_tr hbw hb').cell (p := ⟨B, 0, none⟩) h.lt).trans h.cell
      have HD : ∀ w', Below wr.heap.size wr w' → w'.rangeAt g (p + 65 * k) (e.d.map cellB) := fun w' hb' => rangeAt_below r1 (below_tr hbw hb') hgl
      have HQ : ∀ w', Below wr.heap.size wr w' → w'.rangeAt bq 0 (q.map cellB) := fun w' hb' => rangeAt_below hrq (below_tr hbw hb') hlq
      have HN : ∀ w', Below wr.heap.size wr w' → w'.cell? ⟨g, p + 65 * k + 64, none⟩ = some (.int .u32 e.n) := fun w' hb' => ((below_tr hbw hb').cell (p := ⟨g, _, none⟩) hgl).trans r3
      clear r1 r3 hrow
      have HE := Lib.hid he
      clear he
      go_upto_region 4 with (fail)
      cases hdq : (e.d == q) with
      | true =>
       by_cases hnm : e.n = m
       · have PH := Lib.hid (plc_hit hlt hno ⟨HE.out, by simp [Ent.is, hdq, hnm]⟩)
         refine wp_region_spec [Sp.k 0 (some 17) [] (.pointer (some ⟨B, 0, none⟩)),
           Sp.k 1 (some 18) [0] (.pointer (some ⟨B, 0, none⟩)),
           Sp.k 2 (some 19) [1] (.pointer (some ⟨B, 0, none⟩)),
           Sp.k 3 (some 20) [2] (.slice (some ⟨g, p, none⟩) es.length c),
           Sp.k 4 (some 21) [] (.int .i64 k),
           Sp.k 5 (some 22) [3, 4] (.pointer (some ⟨g, p + 65 * k, none⟩)),
           Sp.k 6 (some 23) [5] (.pointer (some ⟨g, p + 65 * k, none⟩)),
           Sp.k 7 (some 24) [6] (.agg (e.d.map cellB).toArray),
           Sp.k 8 (some 25) [] (.agg (q.map cellB).toArray),
           Sp.k 9 (some 26) [7, 8] (.bool true),
           Sp.k 10 (some 27) [9] (.bool true),
           Sp.k 11 (some 28) [10] (.pointer (some ⟨B, 0, none⟩)),
           Sp.k 12 (some 29) [10, 11] (.pointer (some ⟨B, 0, none⟩)),
           Sp.k 13 (some 30) [10, 12] (.pointer (some ⟨B, 0, none⟩)),
           Sp.k 14 (some 31) [10, 13] (.slice (some ⟨g, p, none⟩) es.length c),
           Sp.k 15 (some 32) [10] (.int .i64 k),
           Sp.k 16 (some 33) [10, 14, 15] (.pointer (some ⟨g, p + 65 * k, none⟩)),
           Sp.k 17 (some 34) [10, 16] (.pointer (some ⟨g, p + 65 * k + 64, none⟩)),
           Sp.k 18 (some 35) [10, 17] (.int .u32 e.n),
           Sp.k 19 (some 36) [10] (.int .u32 m),
           Sp.k 20 (some 37) [10, 18, 19] (.bool true),
           Sp.k 21 (some 38) [10, 20] (.bool true)] (by kernel_rfl) (by kernel_rfl)
           ⟨owes_move 0 (some 17) [] (.pointer (some ⟨B, 0, none⟩)) (Go.Operand.tmp 0) (fun v => by kernel_rfl) (fun v => by kernel_rfl),
           owes_nil 1 (some 18) [0] (Go.Operand.tmp 17) _ (fun v => by kernel_rfl) (fun v => by kernel_rfl),
           owes_field 2 (some 19) [1] (.pointer (some ⟨B, 0, none⟩)) 29 (Go.Operand.tmp 18) 0 (.pointer (some ⟨B, 0, none⟩)) (fun v => by kernel_rfl) (fun v => by kernel_rfl) (field_D B),
           owes_load 3 (some 20) [2] (.slice (some ⟨g, p, none⟩) es.length c) 27 (Go.Operand.tmp 19) (.pointer (some ⟨B, 0, none⟩)) (fun v => by kernel_rfl) (fun v => by kernel_rfl) (fun w' hb => load_dsl _ _ w' (HC w' (drB hb))),
           owes_move 4 (some 21) [] (.int .i64 k) (Go.Operand.tmp 7) (fun v => by kernel_rfl) (fun v => by kernel_rfl),
           owes_index 5 (some 22) [3, 4] (.pointer (some ⟨g, p + 65 * k, none⟩)) 27 (Go.Operand.tmp 20) (Go.Operand.tmp 21) (.slice (some ⟨g, p, none⟩) es.length c) (.int .i64 k) (fun v => by kernel_rfl) (fun v => by kernel_rfl) (idx_D g p es.length c k hlt),
           owes_field 6 (some 23) [5] (.pointer (some ⟨g, p + 65 * k, none⟩)) 56 (Go.Operand.tmp 22) 0 (.pointer (some ⟨g, p + 65 * k, none⟩)) (fun v => by kernel_rfl) (fun v => by kernel_rfl) (field_E0 g _),
           owes_load 7 (some 24) [6] (.agg (e.d.map cellB).toArray) 31 (Go.Operand.tmp 23) (.pointer (some ⟨g, p + 65 * k, none⟩)) (fun v => by kernel_rfl) (fun v => by kernel_rfl) (fun w' hb => load_row 31 g (p + 65 * k) (e.d.map cellB) _ Try.underlying31 rfl (by rw [List.length_map, e.hd]; exact info_key) w' (HD w' (drB hb))),
           owes_load 8 (some 25) [] (.agg (q.map cellB).toArray) 31 (Go.Operand.tmp 4) (.pointer (some ⟨bq, 0, none⟩)) (fun v => by kernel_rfl) (fun v => by kernel_rfl) (fun w' hb => load_row 31 bq 0 (q.map cellB) _ Try.underlying31 rfl (by rw [List.length_map, hq]; exact info_key) w' (HQ w' (drB hb))),
           owes_eql 9 (some 26) [7, 8] 31 (Go.Operand.tmp 24) (Go.Operand.tmp 25) 31 ((e.d.map cellB).toArray) ((q.map cellB).toArray) true (fun v => by kernel_rfl) (fun v => by kernel_rfl) (by kernel_rfl) (fun w => eq_key w e.d q e.hd hq true hdq),
           owes_move 10 (some 27) [9] (.bool true) (Go.Operand.tmp 26) (fun v => by kernel_rfl) (fun v => by kernel_rfl),
           owes_move 11 (some 28) [10] (.pointer (some ⟨B, 0, none⟩)) (Go.Operand.tmp 0) (fun v => by kernel_rfl) (fun v => by kernel_rfl),
           owes_nil 12 (some 29) [10, 11] (Go.Operand.tmp 28) _ (fun v => by kernel_rfl) (fun v => by kernel_rfl),
           owes_field 13 (some 30) [10, 12] (.pointer (some ⟨B, 0, none⟩)) 29 (Go.Operand.tmp 29) 0 (.pointer (some ⟨B, 0, none⟩)) (fun v => by kernel_rfl) (fun v => by kernel_rfl) (field_D B),
           owes_load 14 (some 31) [10, 13] (.slice (some ⟨g, p, none⟩) es.length c) 27 (Go.Operand.tmp 30) (.pointer (some ⟨B, 0, none⟩)) (fun v => by kernel_rfl) (fun v => by kernel_rfl) (fun w' hb => load_dsl _ _ w' (HC w' (drB hb))),
           owes_move 15 (some 32) [10] (.int .i64 k) (Go.Operand.tmp 7) (fun v => by kernel_rfl) (fun v => by kernel_rfl),
           owes_index 16 (some 33) [10, 14, 15] (.pointer (some ⟨g, p + 65 * k, none⟩)) 27 (Go.Operand.tmp 31) (Go.Operand.tmp 32) (.slice (some ⟨g, p, none⟩) es.length c) (.int .i64 k) (fun v => by kernel_rfl) (fun v => by kernel_rfl) (idx_D g p es.length c k hlt),
           owes_field 17 (some 34) [10, 16] (.pointer (some ⟨g, p + 65 * k + 64, none⟩)) 56 (Go.Operand.tmp 33) 2 (.pointer (some ⟨g, p + 65 * k, none⟩)) (fun v => by kernel_rfl) (fun v => by kernel_rfl) (field_E2 g _),
           owes_load 18 (some 35) [10, 17] (.int .u32 e.n) 36 (Go.Operand.tmp 34) (.pointer (some ⟨g, p + 65 * k + 64, none⟩)) (fun v => by kernel_rfl) (fun v => by kernel_rfl) (fun w' hb => ld_u32 _ _ _ w' (HN w' (drB hb))),
           owes_move 19 (some 36) [10] (.int .u32 m) (Go.Operand.tmp 2) (fun v => by kernel_rfl) (fun v => by kernel_rfl),
           owes_bin 20 (some 37) [10, 18, 19] (.bool true) Go.BinOp.eql 36 (Go.Operand.tmp 35) (Go.Operand.tmp 36) 36 (.int .u32 e.n) (.int .u32 m) (fun v => by kernel_rfl) (fun v => by kernel_rfl) (by rw [hnm]; exact fun w => eq_u32 _ _ _ _ w),
           owes_pick 21 (some 38) [10, 20] (.bool true) (Go.Operand.tmp 27) (Go.Operand.tmp 37) (Go.Operand.const (Go.Value.bool false)) true (fun v => by kernel_rfl) (fun v => by kernel_rfl) (fun v => by kernel_rfl), trivial⟩ ?_
         intro vv w' hb' hall
         clear hall HC HD HQ HN
         have hbb := below_tr hbw (drB hb')
         clear hb' hbw
         simp only [putsL_k, putsL_nil, List.set_cons_zero, List.set_cons_succ]
         go_wp2_with fail
         go_ret
         exact ⟨by rw [PH.out]; rfl, by rw [HBQ.out]; exact hB0.trans (hbb.mono hsz1)⟩
       · have hNO : e = es[k]! ∧ e.is q m = false := ⟨HE.out, by simp [Ent.is, hnm]⟩
         refine wp_region_spec [Sp.k 0 (some 17) [] (.pointer (some ⟨B, 0, none⟩)),
           Sp.k 1 (some 18) [0] (.pointer (some ⟨B, 0, none⟩)),
           Sp.k 2 (some 19) [1] (.pointer (some ⟨B, 0, none⟩)),
           Sp.k 3 (some 20) [2] (.slice (some ⟨g, p, none⟩) es.length c),
           Sp.k 4 (some 21) [] (.int .i64 k),
           Sp.k 5 (some 22) [3, 4] (.pointer (some ⟨g, p + 65 * k, none⟩)),
           Sp.k 6 (some 23) [5] (.pointer (some ⟨g, p + 65 * k, none⟩)),
           Sp.k 7 (some 24) [6] (.agg (e.d.map cellB).toArray),
           Sp.k 8 (some 25) [] (.agg (q.map cellB).toArray),
           Sp.k 9 (some 26) [7, 8] (.bool true),
           Sp.k 10 (some 27) [9] (.bool true),
           Sp.k 11 (some 28) [10] (.pointer (some ⟨B, 0, none⟩)),
           Sp.k 12 (some 29) [10, 11] (.pointer (some ⟨B, 0, none⟩)),
           Sp.k 13 (some 30) [10, 12] (.pointer (some ⟨B, 0, none⟩)),
           Sp.k 14 (some 31) [10, 13] (.slice (some ⟨g, p, none⟩) es.length c),
           Sp.k 15 (some 32) [10] (.int .i64 k),
           Sp.k 16 (some 33) [10, 14, 15] (.pointer (some ⟨g, p + 65 * k, none⟩)),
           Sp.k 17 (some 34) [10, 16] (.pointer (some ⟨g, p + 65 * k + 64, none⟩)),
           Sp.k 18 (some 35) [10, 17] (.int .u32 e.n),
           Sp.k 19 (some 36) [10] (.int .u32 m),
           Sp.k 20 (some 37) [10, 18, 19] (.bool false),
           Sp.k 21 (some 38) [10, 20] (.bool false)] (by kernel_rfl) (by kernel_rfl)
           ⟨owes_move 0 (some 17) [] (.pointer (some ⟨B, 0, none⟩)) (Go.Operand.tmp 0) (fun v => by kernel_rfl) (fun v => by kernel_rfl),
           owes_nil 1 (some 18) [0] (Go.Operand.tmp 17) _ (fun v => by kernel_rfl) (fun v => by kernel_rfl),
           owes_field 2 (some 19) [1] (.pointer (some ⟨B, 0, none⟩)) 29 (Go.Operand.tmp 18) 0 (.pointer (some ⟨B, 0, none⟩)) (fun v => by kernel_rfl) (fun v => by kernel_rfl) (field_D B),
           owes_load 3 (some 20) [2] (.slice (some ⟨g, p, none⟩) es.length c) 27 (Go.Operand.tmp 19) (.pointer (some ⟨B, 0, none⟩)) (fun v => by kernel_rfl) (fun v => by kernel_rfl) (fun w' hb => load_dsl _ _ w' (HC w' (drB hb))),
           owes_move 4 (some 21) [] (.int .i64 k) (Go.Operand.tmp 7) (fun v => by kernel_rfl) (fun v => by kernel_rfl),
           owes_index 5 (some 22) [3, 4] (.pointer (some ⟨g, p + 65 * k, none⟩)) 27 (Go.Operand.tmp 20) (Go.Operand.tmp 21) (.slice (some ⟨g, p, none⟩) es.length c) (.int .i64 k) (fun v => by kernel_rfl) (fun v => by kernel_rfl) (idx_D g p es.length c k hlt),
           owes_field 6 (some 23) [5] (.pointer (some ⟨g, p + 65 * k, none⟩)) 56 (Go.Operand.tmp 22) 0 (.pointer (some ⟨g, p + 65 * k, none⟩)) (fun v => by kernel_rfl) (fun v => by kernel_rfl) (field_E0 g _),
           owes_load 7 (some 24) [6] (.agg (e.d.map cellB).toArray) 31 (Go.Operand.tmp 23) (.pointer (some ⟨g, p + 65 * k, none⟩)) (fun v => by kernel_rfl) (fun v => by kernel_rfl) (fun w' hb => load_row 31 g (p + 65 * k) (e.d.map cellB) _ Try.underlying31 rfl (by rw [List.length_map, e.hd]; exact info_key) w' (HD w' (drB hb))),
           owes_load 8 (some 25) [] (.agg (q.map cellB).toArray) 31 (Go.Operand.tmp 4) (.pointer (some ⟨bq, 0, none⟩)) (fun v => by kernel_rfl) (fun v => by kernel_rfl) (fun w' hb => load_row 31 bq 0 (q.map cellB) _ Try.underlying31 rfl (by rw [List.length_map, hq]; exact info_key) w' (HQ w' (drB hb))),
           owes_eql 9 (some 26) [7, 8] 31 (Go.Operand.tmp 24) (Go.Operand.tmp 25) 31 ((e.d.map cellB).toArray) ((q.map cellB).toArray) true (fun v => by kernel_rfl) (fun v => by kernel_rfl) (by kernel_rfl) (fun w => eq_key w e.d q e.hd hq true hdq),
           owes_move 10 (some 27) [9] (.bool true) (Go.Operand.tmp 26) (fun v => by kernel_rfl) (fun v => by kernel_rfl),
           owes_move 11 (some 28) [10] (.pointer (some ⟨B, 0, none⟩)) (Go.Operand.tmp 0) (fun v => by kernel_rfl) (fun v => by kernel_rfl),
           owes_nil 12 (some 29) [10, 11] (Go.Operand.tmp 28) _ (fun v => by kernel_rfl) (fun v => by kernel_rfl),
           owes_field 13 (some 30) [10, 12] (.pointer (some ⟨B, 0, none⟩)) 29 (Go.Operand.tmp 29) 0 (.pointer (some ⟨B, 0, none⟩)) (fun v => by kernel_rfl) (fun v => by kernel_rfl) (field_D B),
           owes_load 14 (some 31) [10, 13] (.slice (some ⟨g, p, none⟩) es.length c) 27 (Go.Operand.tmp 30) (.pointer (some ⟨B, 0, none⟩)) (fun v => by kernel_rfl) (fun v => by kernel_rfl) (fun w' hb => load_dsl _ _ w' (HC w' (drB hb))),
           owes_move 15 (some 32) [10] (.int .i64 k) (Go.Operand.tmp 7) (fun v => by kernel_rfl) (fun v => by kernel_rfl),
           owes_index 16 (some 33) [10, 14, 15] (.pointer (some ⟨g, p + 65 * k, none⟩)) 27 (Go.Operand.tmp 31) (Go.Operand.tmp 32) (.slice (some ⟨g, p, none⟩) es.length c) (.int .i64 k) (fun v => by kernel_rfl) (fun v => by kernel_rfl) (idx_D g p es.length c k hlt),
           owes_field 17 (some 34) [10, 16] (.pointer (some ⟨g, p + 65 * k + 64, none⟩)) 56 (Go.Operand.tmp 33) 2 (.pointer (some ⟨g, p + 65 * k, none⟩)) (fun v => by kernel_rfl) (fun v => by kernel_rfl) (field_E2 g _),
           owes_load 18 (some 35) [10, 17] (.int .u32 e.n) 36 (Go.Operand.tmp 34) (.pointer (some ⟨g, p + 65 * k + 64, none⟩)) (fun v => by kernel_rfl) (fun v => by kernel_rfl) (fun w' hb => ld_u32 _ _ _ w' (HN w' (drB hb))),
           owes_move 19 (some 36) [10] (.int .u32 m) (Go.Operand.tmp 2) (fun v => by kernel_rfl) (fun v => by kernel_rfl),
           owes_bin 20 (some 37) [10, 18, 19] (.bool false) Go.BinOp.eql 36 (Go.Operand.tmp 35) (Go.Operand.tmp 36) 36 (.int .u32 e.n) (.int .u32 m) (fun v => by kernel_rfl) (fun v => by kernel_rfl) (fun w => ne_u32 _ _ _ hnm w),
           owes_pick 21 (some 38) [10, 20] (.bool false) (Go.Operand.tmp 27) (Go.Operand.tmp 37) (Go.Operand.const (Go.Value.bool false)) true (fun v => by kernel_rfl) (fun v => by kernel_rfl) (fun v => by kernel_rfl), trivial⟩ ?_
         intro vv w' hb' hall
         clear hall HC HD HQ HN
         have hbb := below_tr hbw (drB hb')
         clear hb' hbw
         simp only [putsL_k, putsL_nil, List.set_cons_zero, List.set_cons_succ]
         go_wp2_with fail
         go_roundw
         case rel => exact ⟨k + 1, by go_num, by omega, hbb, none_snoc hno hNO⟩
         case measure => simp [intOf]; omega
      | false =>
       have hNO : e = es[k]! ∧ e.is q m = false := ⟨HE.out, by simp [Ent.is, hdq]⟩
       refine wp_region_spec [Sp.k 0 (some 17) [] (.pointer (some ⟨B, 0, none⟩)),
         Sp.k 1 (some 18) [0] (.pointer (some ⟨B, 0, none⟩)),
         Sp.k 2 (some 19) [1] (.pointer (some ⟨B, 0, none⟩)),
         Sp.k 3 (some 20) [2] (.slice (some ⟨g, p, none⟩) es.length c),
         Sp.k 4 (some 21) [] (.int .i64 k),
         Sp.k 5 (some 22) [3, 4] (.pointer (some ⟨g, p + 65 * k, none⟩)),
         Sp.k 6 (some 23) [5] (.pointer (some ⟨g, p + 65 * k, none⟩)),
         Sp.k 7 (some 24) [6] (.agg (e.d.map cellB).toArray),
         Sp.k 8 (some 25) [] (.agg (q.map cellB).toArray),
         Sp.k 9 (some 26) [7, 8] (.bool false),
         Sp.k 10 (some 27) [9] (.bool false),
         Sp.k 11 (some 28) [10] (undef),
         Sp.k 12 (some 29) [10, 11] (undef),
         Sp.k 13 (some 30) [10, 12] (undef),
         Sp.k 14 (some 31) [10, 13] (undef),
         Sp.k 15 (some 32) [10] (undef),
         Sp.k 16 (some 33) [10, 14, 15] (undef),
         Sp.k 17 (some 34) [10, 16] (undef),
         Sp.k 18 (some 35) [10, 17] (undef),
         Sp.k 19 (some 36) [10] (undef),
         Sp.k 20 (some 37) [10, 18, 19] (undef),
         Sp.k 21 (some 38) [10, 20] (Go.Value.bool false)] (by kernel_rfl) (by kernel_rfl)
         ⟨owes_move 0 (some 17) [] (.pointer (some ⟨B, 0, none⟩)) (Go.Operand.tmp 0) (fun v => by kernel_rfl) (fun v => by kernel_rfl),
         owes_nil 1 (some 18) [0] (Go.Operand.tmp 17) _ (fun v => by kernel_rfl) (fun v => by kernel_rfl),
         owes_field 2 (some 19) [1] (.pointer (some ⟨B, 0, none⟩)) 29 (Go.Operand.tmp 18) 0 (.pointer (some ⟨B, 0, none⟩)) (fun v => by kernel_rfl) (fun v => by kernel_rfl) (field_D B),
         owes_load 3 (some 20) [2] (.slice (some ⟨g, p, none⟩) es.length c) 27 (Go.Operand.tmp 19) (.pointer (some ⟨B, 0, none⟩)) (fun v => by kernel_rfl) (fun v => by kernel_rfl) (fun w' hb => load_dsl _ _ w' (HC w' (drB hb))),
         owes_move 4 (some 21) [] (.int .i64 k) (Go.Operand.tmp 7) (fun v => by kernel_rfl) (fun v => by kernel_rfl),
         owes_index 5 (some 22) [3, 4] (.pointer (some ⟨g, p + 65 * k, none⟩)) 27 (Go.Operand.tmp 20) (Go.Operand.tmp 21) (.slice (some ⟨g, p, none⟩) es.length c) (.int .i64 k) (fun v => by kernel_rfl) (fun v => by kernel_rfl) (idx_D g p es.length c k hlt),
         owes_field 6 (some 23) [5] (.pointer (some ⟨g, p + 65 * k, none⟩)) 56 (Go.Operand.tmp 22) 0 (.pointer (some ⟨g, p + 65 * k, none⟩)) (fun v => by kernel_rfl) (fun v => by kernel_rfl) (field_E0 g _),
         owes_load 7 (some 24) [6] (.agg (e.d.map cellB).toArray) 31 (Go.Operand.tmp 23) (.pointer (some ⟨g, p + 65 * k, none⟩)) (fun v => by kernel_rfl) (fun v => by kernel_rfl) (fun w' hb => load_row 31 g (p + 65 * k) (e.d.map cellB) _ Try.underlying31 rfl (by rw [List.length_map, e.hd]; exact info_key) w' (HD w' (drB hb))),
         owes_load 8 (some 25) [] (.agg (q.map cellB).toArray) 31 (Go.Operand.tmp 4) (.pointer (some ⟨bq, 0, none⟩)) (fun v => by kernel_rfl) (fun v => by kernel_rfl) (fun w' hb => load_row 31 bq 0 (q.map cellB) _ Try.underlying31 rfl (by rw [List.length_map, hq]; exact info_key) w' (HQ w' (drB hb))),
         owes_eql 9 (some 26) [7, 8] 31 (Go.Operand.tmp 24) (Go.Operand.tmp 25) 31 ((e.d.map cellB).toArray) ((q.map cellB).toArray) false (fun v => by kernel_rfl) (fun v => by kernel_rfl) (by kernel_rfl) (fun w => eq_key w e.d q e.hd hq false hdq),
         owes_move 10 (some 27) [9] (.bool false) (Go.Operand.tmp 26) (fun v => by kernel_rfl) (fun v => by kernel_rfl),
         owes_skip 11 (some 28) [10] (fun v => by kernel_rfl),
         owes_skip 12 (some 29) [10, 11] (fun v => by kernel_rfl),
         owes_skip 13 (some 30) [10, 12] (fun v => by kernel_rfl),
         owes_skip 14 (some 31) [10, 13] (fun v => by kernel_rfl),
         owes_skip 15 (some 32) [10] (fun v => by kernel_rfl),
         owes_skip 16 (some 33) [10, 14, 15] (fun v => by kernel_rfl),
         owes_skip 17 (some 34) [10, 16] (fun v => by kernel_rfl),
         owes_skip 18 (some 35) [10, 17] (fun v => by kernel_rfl),
         owes_skip 19 (some 36) [10] (fun v => by kernel_rfl),
         owes_skip 20 (some 37) [10, 18, 19] (fun v => by kernel_rfl),
         owes_pick 21 (some 38) [10, 20] (Go.Value.bool false) (Go.Operand.tmp 27) (Go.Operand.tmp 37) (Go.Operand.const (Go.Value.bool false)) false (fun v => by kernel_rfl) (fun v => by kernel_rfl) (fun v => by kernel_rfl), trivial⟩ ?_
       intro vv w' hb' hall
       clear hall HC HD HQ HN
       have hbb := below_tr hbw (drB hb')
       clear hb' hbw
       simp only [putsL_k, putsL_nil, List.set_cons_zero, List.set_cons_succ]
       go_wp2_with fail
       go_roundw
       case rel => exact ⟨k + 1, by go_num, by omega, hbb, none_snoc hno hNO⟩
       case measure => simp [intOf]; omega
    · have hlt' : decide (k < es.length) = false := by simpa using hlt
      obtain rfl : k = es.length := by omega
      have PH := Lib.hid (plc_miss hno)
      go_wp2_with fail
      go_ret
      exact ⟨by rw [PH.out]; rfl, by rw [HBQ.out]; exact hB0.trans (hbw.mono hsz1)⟩
end Go.Proofs.Ytklooieghlnblaa
