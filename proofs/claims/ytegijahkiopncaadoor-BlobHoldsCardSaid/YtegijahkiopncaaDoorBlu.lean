import Derived.Test.YtegijahkiopncaaDoorBlr
import Derived.Test.YtegijahkiopncaaDoorRsm
import Derived.Test.YtegijahkiopncaaDoorFil
/-
  blob: Commit; content.
  courierlaw20: content.
  blob: Get, Commit, Spoil, Delete on the bundled store.
-/
namespace Go.Proofs.YtegijahkiopncaaDoor
open Go.RowKit

theorem KAt.ne {w : World} (h : KAt w) {e : Be} (he : e.at w) : 7 ≠ e.g := fun y => by
  have h1 := h.cell (i := 0) (by decide)
  rw [y] at h1
  have h2 : w.cell? ⟨e.g, 0, none⟩ = some (v8 (e.f 0)) := cell_heap he (by unfold enA; simp)
  rw [h2] at h1
  simp [v8, v32] at h1
section
variable {w : World} {S : Nat} {q l : Int} {V : Value} {es : List Be}
set_option maxRecDepth 100000 in
set_option maxHeartbeats 800000 in
theorem commit_done (h : StS w S q l V es) (hl : es.length ≤ 16) (k : Nat → BitVec 8) {i : Nat} {e : Be} (hf : es.findIdx? (Be.is k) = some i) (hi : es[i]? = some e) (hd : e.done = true) :
    Calls Tryd.prog 16 #[.pointer (some ⟨S, 0, none⟩), .agg (arr8 32 k)] w fun r w' => r = .returned .nilIface ∧ StS w' S q l V (es.set i e.used) ∧ Turn (· = e.g) w w' := by
  have hb0 := below_alc w (.cells (arr8 32 k) 26)
  have hus := Lib.hid (use_some (h.below hb0) (by omega) k hf hi)
  have hptr : e.ptr = .pointer (some ⟨e.g, 0, none⟩) := rfl
  rw [hptr] at hus
  obtain ⟨A, c, hD, hbc, hcm, _⟩ := own_slice (h.byt i e hi)
  have HC : Hid (∀ W1, StS W1 S q l V (es.set i e.used) → W1.cell? ⟨e.g, 32, none⟩ = some (.int .i64 e.n) ∧ W1.cell? ⟨e.g, 33, none⟩ = some (.slice A e.bs.length c) ∧ W1.cell? ⟨e.g, 34, none⟩ = some (.bool e.done)) := fun W1 hs => by
    rw [← hD]
    exact hs.cells hi
  clear h hD hf
  rw [hd] at HC
  go_enter Tryd.func16, Tryd.ntmps16
  go_wp2_with (first | (refine wpList_load_row rfl 26 _ rfl w.heap.size rfl _ _ _ _ (heap_alloc_new _ _) Tryd.underlying26 rfl (by rw [arr8_size]; kernel_rfl) ?_) | (go_at_call 28; refine hus.out.mono ?_; rintro r W1 ⟨rfl, hs1, ht1⟩; obtain ⟨c32, c33, c34⟩ := HC.out W1 hs1; have d32 : W1.drew.cell? ⟨e.g, 32, none⟩ = _ := c32; have d33 : W1.drew.cell? ⟨e.g, 33, none⟩ = _ := c33; have d34 : W1.drew.cell? ⟨e.g, 34, none⟩ = _ := c34; have HS := Lib.hid (And.intro hs1 ht1); clear hs1 ht1))
  go_ret
  obtain ⟨s1, t1⟩ := HS.out
  have t2 : Turn (· = e.g) w W1 := (Turn.of_below hb0).trans t1 (fun k hk => .inl hk)
  first
  | exact ⟨rfl, s1, t2⟩
  | exact ⟨rfl, s1.keep (fun _ _ => rfl), t2.trans (Turn.of_below (below_drewN (Below.refl _ _) _)) (fun k hk => .inl hk)⟩
set_option maxRecDepth 100000 in
set_option maxHeartbeats 800000 in
theorem commit_short (h : StS w S q l V es) (hl : es.length ≤ 16) (k : Nat → BitVec 8) {i : Nat} {e : Be} (hf : es.findIdx? (Be.is k) = some i) (hi : es[i]? = some e) (E : Nat → Addr) (hE : ErrsAt E w) (hgE : ∀ j, j < 19 → gE j ≠ e.g) (hd : e.done = false) (hn : (e.bs.length : Int) < e.n) :
    Calls Tryd.prog 16 #[.pointer (some ⟨S, 0, none⟩), .agg (arr8 32 k)] w fun r w' => r = .returned (errV (E 16)) ∧ StS w' S q l V (es.set i e.used) ∧ Turn (· = e.g) w w' := by
  have hb0 := below_alc w (.cells (arr8 32 k) 26)
  have hus := Lib.hid (use_some (h.below hb0) (by omega) k hf hi)
  have hptr : e.ptr = .pointer (some ⟨e.g, 0, none⟩) := rfl
  rw [hptr] at hus
  obtain ⟨A, c, hD, hbc, hcm, _⟩ := own_slice (h.byt i e hi)
  have HE := Lib.hid hE
  have HC : Hid (∀ W1, StS W1 S q l V (es.set i e.used) → W1.cell? ⟨e.g, 32, none⟩ = some (.int .i64 e.n) ∧ W1.cell? ⟨e.g, 33, none⟩ = some (.slice A e.bs.length c) ∧ W1.cell? ⟨e.g, 34, none⟩ = some (.bool e.done)) := fun W1 hs => by
    rw [← hD]
    exact hs.cells hi
  clear h hD hf hE
  rw [hd] at HC
  go_enter Tryd.func16, Tryd.ntmps16
  go_wp2_with (first | (refine wpList_load_row rfl 26 _ rfl w.heap.size rfl _ _ _ _ (heap_alloc_new _ _) Tryd.underlying26 rfl (by rw [arr8_size]; kernel_rfl) ?_) | (go_at_call 28; refine hus.out.mono ?_; rintro r W1 ⟨rfl, hs1, ht1⟩; have he := (ht1.cell (o := 0) ((HE.out.below hb0).ltG (i := 16) (by decide)) (hgE 16 (by decide))).trans ((HE.out.below hb0).c 16 (by decide)); have he2 : W1.drew.cell? ⟨gE 16, 0, none⟩ = some (errV (E 16)) := he; simp only [gE] at he he2; obtain ⟨c32, c33, c34⟩ := HC.out W1 hs1; have d32 : W1.drew.cell? ⟨e.g, 32, none⟩ = _ := c32; have d33 : W1.drew.cell? ⟨e.g, 33, none⟩ = _ := c33; have d34 : W1.drew.cell? ⟨e.g, 34, none⟩ = _ := c34; have HS := Lib.hid (And.intro hs1 ht1); clear hs1 ht1))
  go_quiet (fail)
  go_wp2_with fail
  go_ret
  obtain ⟨s1, t1⟩ := HS.out
  have t2 : Turn (· = e.g) w W1 := (Turn.of_below hb0).trans t1 (fun k hk => .inl hk)
  first
  | exact ⟨rfl, s1, t2⟩
  | exact ⟨rfl, s1.keep (fun _ _ => rfl), t2.trans (Turn.of_below (below_drewN (Below.refl _ _) _)) (fun k hk => .inl hk)⟩
set_option maxRecDepth 100000 in
set_option maxHeartbeats 1600000 in
theorem commit_bad (h : StS w S q l V es) (hK : KAt w) (hl : es.length ≤ 16) (k : Nat → BitVec 8) {i : Nat} {e : Be} (hf : es.findIdx? (Be.is k) = some i) (hi : es[i]? = some e) (E : Nat → Addr) (hE : ErrsAt E w) (hgE : ∀ j, j < 19 → gE j ≠ e.g) (hd : e.done = false) (ys : List (BitVec 8)) (hys : e.bs = bys ys) (hn : (e.bs.length : Int) = e.n) (hn2 : e.n ≤ 30000) (hq : (idl (shaOf ys) == idl k) = false) :
    Calls Tryd.prog 16 #[.pointer (some ⟨S, 0, none⟩), .agg (arr8 32 k)] w fun r w' => r = .returned (errV (E 15)) ∧ StS w' S q l V (es.set i e.used) ∧ Turn (· = e.g) w w' := by
  have hb0 := below_alc w (.cells (arr8 32 k) 26)
  have hus := Lib.hid (use_some (h.below hb0) (by omega) k hf hi)
  have hptr : e.ptr = .pointer (some ⟨e.g, 0, none⟩) := rfl
  rw [hptr] at hus
  obtain ⟨B, c, hD, hbc, hcm, _⟩ := own_slice (h.byt i e hi)
  obtain ⟨bl, hbl⟩ : ∃ x, x = e.bs.length := ⟨_, rfl⟩
  rw [← hbl] at hD hbc hn
  have HC : Hid (∀ W1, StS W1 S q l V (es.set i e.used) → W1.cell? ⟨e.g, 32, none⟩ = some (.int .i64 e.n) ∧ W1.cell? ⟨e.g, 33, none⟩ = some (.slice B bl c) ∧ W1.cell? ⟨e.g, 34, none⟩ = some (.bool false)) := fun W1 hs => by
    rw [← hD, ← hd]
    exact hs.cells hi
  have HI := Lib.hid (And.intro hi (And.intro hD (And.intro hbl (And.intro h (And.intro hK (And.intro hys (And.intro hd hbc)))))))
  have HE := Lib.hid (And.intro hE hgE)
  have h1 : ¬ (bl : Int) < e.n := by omega
  obtain ⟨eg, heg⟩ : ∃ x, x = e.g := ⟨_, rfl⟩
  rw [← heg] at hus HC
  have HEG := Lib.hid heg
  have HQ := Lib.hid hq
  have HN := Lib.hid (And.intro hn hn2)
  clear h hD hf hi hbl heg hptr hd hK hys hq hn hn2 hbc hE hgE
  go_enter Tryd.func16, Tryd.ntmps16
  go_upto_region 6 with (first | (refine wpList_load_row rfl 26 _ rfl w.heap.size rfl _ _ _ _ (heap_alloc_new _ _) Tryd.underlying26 rfl (by rw [arr8_size]; kernel_rfl) ?_) | (go_at_call 28; refine hus.out.mono ?_; rintro r W1 ⟨rfl, hs1, ht1⟩; obtain ⟨c32, c33, c34⟩ := HC.out W1 hs1; have HS := Lib.hid (And.intro hs1 ht1); clear hs1 ht1))
  obtain ⟨bx, hbx0⟩ : ∃ b, b = w.heap.size := ⟨_, rfl⟩
  rw [← hbx0]
  have HBX := Lib.hid hbx0
  clear hbx0
  have d32 : W1.drew.cell? ⟨eg, 32, none⟩ = some (.int .i64 e.n) := c32
  have d33 : W1.drew.cell? ⟨eg, 33, none⟩ = some (.slice B bl c) := c33
  go_quiet (fail)
  go_upto_region 8 with (fail)
  refine wp_world (fun W => Hid (StS W S q l V (es.set i e.used) ∧ Turn (· = eg) w W ∧ W.heap[bx]? = some (.cells (arr8 32 k) 26 (0, 0)) ∧ KAt W)) ?_ ?_
  · obtain ⟨s0, t0⟩ := HS.out
    obtain ⟨hi, _, _, h, hK, _⟩ := HI.out
    have h2 := heap1_0 w (.cells (arr8 32 k) 26)
    have h3 : W1.heap[bx]? = some (.cells (arr8 32 k) 26 (0, 0)) := by
      rw [HBX.out]
      refine (t0.block _ (lt_heap h2) ?_).trans h2
      intro y
      have := lt_heap (h.ent i e hi)
      rw [HEG.out] at y
      omega
    refine ⟨s0.keep (fun _ _ => rfl), ((Turn.of_below hb0).trans t0 (fun k hk => .inl hk)).trans (Turn.of_below (F := fun _ => False) (below_drewN (Below.refl _ _) _)) (fun _ h => h.elim), h3, ?_⟩
    refine (hK.below hb0).of_block (t0.block _ (hK.below hb0).lt ?_)
    intro y
    exact KAt.ne (hK.below hb0) ((h.below hb0).ent i e hi) (y.trans HEG.out)
  clear HS d32 d33 c32 c33 c34 W1
  intro W1 HS
  obtain ⟨s1, t1, hbx, hK⟩ := HS.out
  obtain ⟨hi, hD, hbl, h0, _, hys, hd, hbc⟩ := HI.out
  have hen : W1.heap[eg]? = some (.cells (enA e.f e.n (.slice B bl c) false 0) 63 (0, 0)) := by
    have := s1.ent i e.used (set_get hi)
    rw [HEG.out, ← hD, ← hd]
    exact this
  have hrd : SlRead W1.drew B (ints .u8 (bys ys)) := by
    have h7 := s1.byt i e.used (set_get hi)
    have h8 : W1.ownsRow 0 5 1 (.slice B bl c) bl (ints .u8 (bys ys)) := by
      rw [← hD, hbl, ← hys]
      exact h7
    exact fun hn => own_read1 h8 hn
  have hyl : ys.length = bl := by rw [hbl, hys, bys_length]
  have hsum := Lib.hid (suml_one B ys c W1.drew hrd (by omega) (by have := HN.out; omega) (hK.of_block rfl))
  rw [hyl] at hsum
  refine wp_region_noPanic ?_
  refine wp_region_held_drew (S := Below W1.heap.size W1) (by kernel_rfl) ((Below.refl _ _).drew) (fun hHeld => ?_)
  refine held_move 0 (Go.Operand.tmp 5) (some 31) (.pointer (some ⟨eg, 0, none⟩)) (by kernel_rfl) (by kernel_rfl) (by kernel_rfl) (by kernel_rfl) (by kernel_rfl) (fun _ _ _ _ _ h => h) hHeld ?_
  refine held_nil 1 (Go.Operand.tmp 31) (some 32) ⟨eg, 0, none⟩ (by kernel_rfl) (by kernel_rfl) (by kernel_rfl) (by kernel_rfl) (by kernel_rfl) (fun _ _ _ _ _ h => h) hHeld ?_
  refine held_field 2 63 (Go.Operand.tmp 32) 2 (some 33) (.pointer (some ⟨eg, 0, none⟩)) (.pointer (some ⟨eg, 33, none⟩)) (by kernel_rfl) (by kernel_rfl) (fun w => by kernel_rfl) (by kernel_rfl) (by kernel_rfl) (by kernel_rfl) (fun _ _ _ _ _ h => h) hHeld ?_
  refine held_cell 3 24 (Go.Operand.tmp 33) (some 34) (.pointer (some ⟨eg, 33, none⟩)) (.slice B bl c) (by kernel_rfl) (by kernel_rfl) (fun W hw => load_sl (cell_heap (heap_below hen hw) (en_c33 _ _ _ _ _))) (by kernel_rfl) (by kernel_rfl) (by kernel_rfl) (fun _ _ _ _ _ h => h) hHeld ?_
  refine held_cell 6 26 (Go.Operand.tmp 3) (some 37) (.pointer (some ⟨bx, 0, none⟩)) (.agg (arr8 32 k)) (by kernel_rfl) (by kernel_rfl) (fun W hw => load_idB W bx k (range_new (cs := (arr8 32 k).toList) (by simpa using heap_below hbx hw))) (by kernel_rfl) (by kernel_rfl) (by kernel_rfl) (fun _ _ _ _ _ h => h) hHeld ?_
  refine held_run 4 (Go.Op.buildSlice 80 1 #[(0, Go.Operand.tmp 34)]) 80 (some 35) (.slice (some ⟨W1.drew.heap.size, 0, none⟩) 1 1) ((W1.drew.alloc (.cells #[.slice B bl c] 24))) (by kernel_rfl) (by kernel_rfl) (by kernel_rfl) (fun o ho ht => exec_bsl (vs := #[(0, .slice B bl c)]) ho (by kernel_rfl) (bsl_sl _ _ _ _)) (hHeld.trans ((below_alc _ _).mono hHeld.size)) ?_
  intro hHeld
  refine held_call 5 32 #[Go.Operand.tmp 35] #[80] (some 36) #[.slice (some ⟨W1.drew.heap.size, 0, none⟩) 1 1] _ (by kernel_rfl) (by kernel_rfl) (by kernel_rfl) (by kernel_rfl) (hsum.out) ?_
  rintro r W2 ⟨rfl, hb2⟩
  refine ⟨_, rfl, (Below.refl _ _).drew.trans hb2, fun hHeld => ?_⟩
  refine held_any 7 (Go.Op.binOp Go.BinOp.neq 26 (Go.Operand.tmp 36) (Go.Operand.tmp 37) 26) (some 38) (.bool (!(idl (shaOf ys) == idl k))) (by kernel_rfl) (by kernel_rfl) (by kernel_rfl) (by kernel_rfl) (fun _ _ _ _ _ h => h) hHeld (fun o ho w hw => exec_eqrow (k := .neq) (cx := arr8 32 (shaOf ys)) (cy := arr8 32 k) (b := idl (shaOf ys) == idl k) (.inr rfl) ho (by kernel_rfl) (by kernel_rfl) (eq_ids (shaOf ys) k w)) ?_
  refine held_assign 8 (Go.Operand.tmp 38) (some 30) (.bool (!(idl (shaOf ys) == idl k))) (by kernel_rfl) (by kernel_rfl) (by kernel_rfl) (by kernel_rfl) (by kernel_rfl) (fun _ _ _ _ _ h => h) hHeld ?_
  refine wpAnyH_done (by kernel_rfl) ?_ _
  refine NoPanic.normal ?_
  try simp only [Act.put, List.setIfInBounds_toArray, List.set_cons_zero, List.set_cons_succ]
  rw [HQ.out]
  obtain ⟨E1, hE1⟩ : ∃ x, x = E := ⟨_, rfl⟩
  have he : W2.cell? ⟨gE 15, 0, none⟩ = some (errV (E 15)) := by
    obtain ⟨hE, hgE⟩ := HE.out
    refine (hHeld.cell (p := ⟨gE 15, 0, none⟩) (Nat.lt_of_lt_of_le (hE.ltG (i := 15) (by decide)) t1.size)).trans ?_
    exact (t1.cell (o := 0) (hE.ltG (i := 15) (by decide)) (fun y => hgE 15 (by decide) (y.trans HEG.out))).trans (hE.c 15 (by decide))
  simp only [gE] at he
  have HF := Lib.hid (And.intro s1 (And.intro t1 hHeld))
  clear s1 t1 hHeld hbx hK hen hrd hsum h0 HS hE1
  go_wp2_with fail
  go_ret
  obtain ⟨s1, t1, hb⟩ := HF.out
  exact ⟨rfl, s1.below hb, by rw [← HEG.out]; exact t1.trans (Turn.of_below (F := fun _ => False) hb) (fun _ h => h.elim)⟩
set_option maxRecDepth 100000 in
set_option maxHeartbeats 1600000 in
theorem commit_ok (h : StS w S q l V es) (hK : KAt w) (hl : es.length ≤ 16) (k : Nat → BitVec 8) {i : Nat} {e : Be} (hf : es.findIdx? (Be.is k) = some i) (hi : es[i]? = some e) (hd : e.done = false) (ys : List (BitVec 8)) (hys : e.bs = bys ys) (hn : (e.bs.length : Int) = e.n) (hn2 : e.n ≤ 30000) (hq : (idl (shaOf ys) == idl k) = true) :
    Calls Tryd.prog 16 #[.pointer (some ⟨S, 0, none⟩), .agg (arr8 32 k)] w fun r w' => r = .returned .nilIface ∧ StS w' S q l V (es.set i ⟨e.g, e.f, e.n, e.D, e.bs, true, 0⟩) ∧ Turn (· = e.g) w w' := by
  have hb0 := below_alc w (.cells (arr8 32 k) 26)
  have hus := Lib.hid (use_some (h.below hb0) (by omega) k hf hi)
  have hptr : e.ptr = .pointer (some ⟨e.g, 0, none⟩) := rfl
  rw [hptr] at hus
  obtain ⟨B, c, hD, hbc, hcm, _⟩ := own_slice (h.byt i e hi)
  obtain ⟨bl, hbl⟩ : ∃ x, x = e.bs.length := ⟨_, rfl⟩
  rw [← hbl] at hD hbc hn
  have HC : Hid (∀ W1, StS W1 S q l V (es.set i e.used) → W1.cell? ⟨e.g, 32, none⟩ = some (.int .i64 e.n) ∧ W1.cell? ⟨e.g, 33, none⟩ = some (.slice B bl c) ∧ W1.cell? ⟨e.g, 34, none⟩ = some (.bool false)) := fun W1 hs => by
    rw [← hD, ← hd]
    exact hs.cells hi
  have HI := Lib.hid (And.intro hi (And.intro hD (And.intro hbl (And.intro h (And.intro hK (And.intro hys (And.intro hd hbc)))))))
  have h1 : ¬ (bl : Int) < e.n := by omega
  obtain ⟨eg, heg⟩ : ∃ x, x = e.g := ⟨_, rfl⟩
  rw [← heg] at hus HC
  have HEG := Lib.hid heg
  have HQ := Lib.hid hq
  have HN := Lib.hid (And.intro hn hn2)
  clear h hD hf hi hbl heg hptr hd hK hys hq hn hn2 hbc
  go_enter Tryd.func16, Tryd.ntmps16
  go_upto_region 6 with (first | (refine wpList_load_row rfl 26 _ rfl w.heap.size rfl _ _ _ _ (heap_alloc_new _ _) Tryd.underlying26 rfl (by rw [arr8_size]; kernel_rfl) ?_) | (go_at_call 28; refine hus.out.mono ?_; rintro r W1 ⟨rfl, hs1, ht1⟩; obtain ⟨c32, c33, c34⟩ := HC.out W1 hs1; have HS := Lib.hid (And.intro hs1 ht1); clear hs1 ht1))
  obtain ⟨bx, hbx0⟩ : ∃ b, b = w.heap.size := ⟨_, rfl⟩
  rw [← hbx0]
  have HBX := Lib.hid hbx0
  clear hbx0
  have d32 : W1.drew.cell? ⟨eg, 32, none⟩ = some (.int .i64 e.n) := c32
  have d33 : W1.drew.cell? ⟨eg, 33, none⟩ = some (.slice B bl c) := c33
  go_quiet (fail)
  go_upto_region 8 with (fail)
  refine wp_world (fun W => Hid (StS W S q l V (es.set i e.used) ∧ Turn (· = eg) w W ∧ W.heap[bx]? = some (.cells (arr8 32 k) 26 (0, 0)) ∧ KAt W)) ?_ ?_
  · obtain ⟨s0, t0⟩ := HS.out
    obtain ⟨hi, _, _, h, hK, _⟩ := HI.out
    have h2 := heap1_0 w (.cells (arr8 32 k) 26)
    have h3 : W1.heap[bx]? = some (.cells (arr8 32 k) 26 (0, 0)) := by
      rw [HBX.out]
      refine (t0.block _ (lt_heap h2) ?_).trans h2
      intro y
      have := lt_heap (h.ent i e hi)
      rw [HEG.out] at y
      omega
    refine ⟨s0.keep (fun _ _ => rfl), ((Turn.of_below hb0).trans t0 (fun k hk => .inl hk)).trans (Turn.of_below (F := fun _ => False) (below_drewN (Below.refl _ _) _)) (fun _ h => h.elim), h3, ?_⟩
    refine (hK.below hb0).of_block (t0.block _ (hK.below hb0).lt ?_)
    intro y
    exact KAt.ne (hK.below hb0) ((h.below hb0).ent i e hi) (y.trans HEG.out)
  clear HS d32 d33 c32 c33 c34 W1
  intro W1 HS
  obtain ⟨s1, t1, hbx, hK⟩ := HS.out
  obtain ⟨hi, hD, hbl, h0, _, hys, hd, hbc⟩ := HI.out
  have hen : W1.heap[eg]? = some (.cells (enA e.f e.n (.slice B bl c) false 0) 63 (0, 0)) := by
    have := s1.ent i e.used (set_get hi)
    rw [HEG.out, ← hD, ← hd]
    exact this
  have hrd : SlRead W1.drew B (ints .u8 (bys ys)) := by
    have h7 := s1.byt i e.used (set_get hi)
    have h8 : W1.ownsRow 0 5 1 (.slice B bl c) bl (ints .u8 (bys ys)) := by
      rw [← hD, hbl, ← hys]
      exact h7
    exact fun hn => own_read1 h8 hn
  have hyl : ys.length = bl := by rw [hbl, hys, bys_length]
  have hsum := Lib.hid (suml_one B ys c W1.drew hrd (by omega) (by have := HN.out; omega) (hK.of_block rfl))
  rw [hyl] at hsum
  refine wp_region_noPanic ?_
  refine wp_region_held_drew (S := Below W1.heap.size W1) (by kernel_rfl) ((Below.refl _ _).drew) (fun hHeld => ?_)
  refine held_move 0 (Go.Operand.tmp 5) (some 31) (.pointer (some ⟨eg, 0, none⟩)) (by kernel_rfl) (by kernel_rfl) (by kernel_rfl) (by kernel_rfl) (by kernel_rfl) (fun _ _ _ _ _ h => h) hHeld ?_
  refine held_nil 1 (Go.Operand.tmp 31) (some 32) ⟨eg, 0, none⟩ (by kernel_rfl) (by kernel_rfl) (by kernel_rfl) (by kernel_rfl) (by kernel_rfl) (fun _ _ _ _ _ h => h) hHeld ?_
  refine held_field 2 63 (Go.Operand.tmp 32) 2 (some 33) (.pointer (some ⟨eg, 0, none⟩)) (.pointer (some ⟨eg, 33, none⟩)) (by kernel_rfl) (by kernel_rfl) (fun w => by kernel_rfl) (by kernel_rfl) (by kernel_rfl) (by kernel_rfl) (fun _ _ _ _ _ h => h) hHeld ?_
  refine held_cell 3 24 (Go.Operand.tmp 33) (some 34) (.pointer (some ⟨eg, 33, none⟩)) (.slice B bl c) (by kernel_rfl) (by kernel_rfl) (fun W hw => load_sl (cell_heap (heap_below hen hw) (en_c33 _ _ _ _ _))) (by kernel_rfl) (by kernel_rfl) (by kernel_rfl) (fun _ _ _ _ _ h => h) hHeld ?_
  refine held_cell 6 26 (Go.Operand.tmp 3) (some 37) (.pointer (some ⟨bx, 0, none⟩)) (.agg (arr8 32 k)) (by kernel_rfl) (by kernel_rfl) (fun W hw => load_idB W bx k (range_new (cs := (arr8 32 k).toList) (by simpa using heap_below hbx hw))) (by kernel_rfl) (by kernel_rfl) (by kernel_rfl) (fun _ _ _ _ _ h => h) hHeld ?_
  refine held_run 4 (Go.Op.buildSlice 80 1 #[(0, Go.Operand.tmp 34)]) 80 (some 35) (.slice (some ⟨W1.drew.heap.size, 0, none⟩) 1 1) ((W1.drew.alloc (.cells #[.slice B bl c] 24))) (by kernel_rfl) (by kernel_rfl) (by kernel_rfl) (fun o ho ht => exec_bsl (vs := #[(0, .slice B bl c)]) ho (by kernel_rfl) (bsl_sl _ _ _ _)) (hHeld.trans ((below_alc _ _).mono hHeld.size)) ?_
  intro hHeld
  refine held_call 5 32 #[Go.Operand.tmp 35] #[80] (some 36) #[.slice (some ⟨W1.drew.heap.size, 0, none⟩) 1 1] _ (by kernel_rfl) (by kernel_rfl) (by kernel_rfl) (by kernel_rfl) (hsum.out) ?_
  rintro r W2 ⟨rfl, hb2⟩
  refine ⟨_, rfl, (Below.refl _ _).drew.trans hb2, fun hHeld => ?_⟩
  refine held_any 7 (Go.Op.binOp Go.BinOp.neq 26 (Go.Operand.tmp 36) (Go.Operand.tmp 37) 26) (some 38) (.bool (!(idl (shaOf ys) == idl k))) (by kernel_rfl) (by kernel_rfl) (by kernel_rfl) (by kernel_rfl) (fun _ _ _ _ _ h => h) hHeld (fun o ho w hw => exec_eqrow (k := .neq) (cx := arr8 32 (shaOf ys)) (cy := arr8 32 k) (b := idl (shaOf ys) == idl k) (.inr rfl) ho (by kernel_rfl) (by kernel_rfl) (eq_ids (shaOf ys) k w)) ?_
  refine held_assign 8 (Go.Operand.tmp 38) (some 30) (.bool (!(idl (shaOf ys) == idl k))) (by kernel_rfl) (by kernel_rfl) (by kernel_rfl) (by kernel_rfl) (by kernel_rfl) (fun _ _ _ _ _ h => h) hHeld ?_
  refine wpAnyH_done (by kernel_rfl) ?_ _
  refine NoPanic.normal ?_
  try simp only [Act.put, List.setIfInBounds_toArray, List.set_cons_zero, List.set_cons_succ]
  rw [HQ.out]
  have hen2 := heap_below hen hHeld
  have hc34 := cell_heap hen2 (en_c34 _ _ _ _ _)
  have hfz := thaw_heap hen2 34
  have HF := Lib.hid (And.intro s1 (And.intro t1 (And.intro hHeld hen2)))
  clear s1 t1 hHeld hbx hK hen hrd hsum h0 HS hen2
  go_wp2_with fail
  go_ret
  obtain ⟨s1, t1, hb, hen2⟩ := HF.out
  have s2 := s1.below hb
  have hset : Turn (· = eg) W2 (W2.setCell ⟨eg, 34, none⟩ (.bool true)) := set_turnH W2 eg 34 _
  have s3 := s2.ent1 (set_get hi) (e' := ⟨e.g, e.f, e.n, e.D, e.bs, true, 0⟩) (W' := W2.setCell ⟨eg, 34, none⟩ (.bool true)) rfl ?_ ?_ (fun k hk => .inl hk) (fun x hx h1 _ => hset.block x hx (fun y => h1 (y.trans HEG.out)))
  · rw [List.set_set] at s3
    refine ⟨rfl, s3, ?_⟩
    rw [← HEG.out]
    exact (t1.trans (Turn.of_below (F := fun _ => False) hb) (fun _ h => h.elim)).trans hset (fun k hk => .inl hk)
  · show (W2.setCell ⟨eg, 34, none⟩ (.bool true)).heap[e.g]? = some (.cells (enA e.f e.n e.D true 0) 63 (0, 0))
    rw [← HEG.out, hD, ← en_set34 e.f e.n (.slice B bl c) false true 0]
    exact heap_setCell_same W2 eg 34 _ _ _ hen2
  · have ho := s2.byt i e.used (set_get hi)
    refine own_keep (w := W2) ho fun x hx => hset.block x (ho.lt x hx).2 (fun y => ?_)
    obtain ⟨cur, hc⟩ := own_cells ho hx
    exact ty_ne hc hen2 (by decide) y
end
/-- a blob of the law's -/
def ysOf (a : Nat) : List (BitVec 8) := (fileL (a : Int) (20 + 40 * a)).map UInt8.toBitVec
theorem ysOf_len (a : Nat) : (ysOf a).length = 20 + 40 * a := by simp [ysOf, fileL_len]
theorem n8_u (u : UInt8) : cellB u = .int .u8 (n8 u.toBitVec) := by
  unfold cellB
  rw [n8_nat]
  rfl
theorem ysOf_cells (a : Nat) : bcells (fileL (a : Int) (20 + 40 * a)) = ints .u8 (bys (ysOf a)) := by
  unfold bcells ysOf
  rw [bys_ints, List.map_map]
  apply List.map_congr_left
  intro u _
  exact n8_u u
theorem results_tmp_row {fn : Func} {p q : Tmp} {ty e : TypeId} {n : Nat} (h : fn.results = #[.tmp q, .cell p ty]) (tmps : Array Value) (w : World) (g : Nat) (t : TypeId) (cs : Array Value) (fr : Nat × Nat)
    (hp : tmps.getD p undef = .pointer (some ⟨g, 0, none⟩)) (hg : w.heap[g]? = some (.cells cs t fr)) (v : Value) (hq : tmps.getD q undef = v)
    (hu : Tryd.prog.underlying ty = some (.array n e)) (hi : (Tryd.prog.info? ty).map (·.size) = some cs.size) :
    (results fn tmps).run Tryd.prog w = .ok (.tuple #[v, .agg cs]) w := by
  have hp' : tmps[p]?.getD undef = .pointer (some ⟨g, 0, none⟩) := by simpa using hp
  have hq' : tmps[q]?.getD undef = v := by simpa using hq
  have hl := run_loadVar_row w g t ty cs fr (.array n e) hg hu rfl hi
  simp [results, h, hp', hq', asAddr, hl]
set_option maxRecDepth 100000 in
set_option maxHeartbeats 1600000 in
theorem content_any (a : Nat) (ha : a ≤ 10) (w : World) : Calls Tryd.prog 9 #[.int .i64 (a : Int)] w fun r w' => ∃ A c, r = .returned (.tuple #[.slice A (20 + 40 * a) c, .agg (arr8 32 (shaOf (ysOf a)))]) ∧ w'.ownsRow w.heap.size 5 1 (.slice A (20 + 40 * a) c) (20 + 40 * a) (ints .u8 (bys (ysOf a))) ∧ Below w.heap.size w w' := by
  obtain ⟨n, hn⟩ : ∃ n, n = 20 + 40 * a := ⟨_, rfl⟩
  have hnn : n ≤ 420 := by omega
  have hb0 := below_alc w (.cells (arr8 32 k0) 26)
  have hfi := Lib.hid (file_any (a : Int) n (by omega) (w.alloc (.cells (arr8 32 k0) 26)))
  obtain ⟨z1, hz1⟩ : ∃ z : Int, z = 40 * (a : Int) := ⟨_, rfl⟩
  have hw1 : wrap64 (40 * (a : Int)) = z1 := by unfold wrap64; omega
  have hw2 : wrap64 (20 + z1) = (n : Int) := by unfold wrap64; omega
  obtain ⟨ys, hys⟩ : ∃ x, x = ysOf a := ⟨_, rfl⟩
  have hcl : bcells (fileL (a : Int) n) = ints .u8 (bys ys) := by rw [hn, hys]; exact ysOf_cells a
  have hyl : ys.length = n := by rw [hys, ysOf_len, hn]
  rw [hcl] at hfi
  rw [← hys, ← hn]
  obtain ⟨zn, hzn⟩ : ∃ z : Int, z = (n : Int) := ⟨_, rfl⟩
  obtain ⟨za, hza⟩ : ∃ z : Int, z = (a : Int) := ⟨_, rfl⟩
  rw [← hzn] at hw2
  rw [← hza] at hw1 ⊢
  rw [← hzn, ← hza] at hfi
  obtain ⟨X, hXe⟩ : ∃ X, X = w.heap.size := ⟨_, rfl⟩
  have HX := Lib.hid hXe
  have HB0 := Lib.hid hb0
  have HNN := Lib.hid hnn
  have HY := Lib.hid hyl
  clear hcl hys hyl hn hz1 hzn hza hb0 hnn ha
  go_enter Tryd.func9, Tryd.ntmps9
  go_upto_region 1 with (refine wpList_alloc_z rfl 26 rfl (arr8 32 k0) (fun _ => by kernel_rfl) ?_)
  rw [← hXe]
  clear hXe
  go_upto_region 2 with (go_at_call 27; refine hfi.out.mono ?_; rintro r W1 ⟨A, c, rfl, hown, hb1⟩; clear hfi)
  have hX1 : W1.heap[X]? = some (.cells (arr8 32 k0) 26 (0, 0)) := by
    rw [HX.out]
    exact heap_below (heap1_0 w _) hb1
  have hnn := HNN.out
  have hb0 := HB0.out
  have hrd : SlRead W1 A (ints .u8 (bys ys)) := own_read1 hown
  have hsum := Lib.hid (dsum_any A ys c W1 hrd (by have := HY.out; omega))
  rw [HY.out] at hsum
  clear hrd
  refine wp_region_lit ?_
  try simp only [put_list, List.set_cons_zero, List.set_cons_succ]
  refine wpList_run (by kernel_rfl) (.slice A n c) (W1) (exec_move rfl (by kernel_rfl)) ?_
  try simp only [put_list, List.set_cons_zero, List.set_cons_succ]
  refine wpList_run (by kernel_rfl) (.slice A n c) (W1) (exec_move rfl (by kernel_rfl)) ?_
  refine wpList_call (by kernel_rfl) 25 #[Go.Operand.tmp 11] #[24] #[.slice A n c] _ rfl (by kernel_rfl) (by kernel_rfl) (hsum.out) ?_
  rintro r W2 ⟨rfl, hb2⟩
  refine ⟨_, rfl, ?_⟩
  try simp only [put_list, List.set_cons_zero, List.set_cons_succ]
  refine wpList_run (by kernel_rfl) (.slice A n c) (W2) (exec_assign rfl (by kernel_rfl)) ?_
  have hX2 := heap_below hX1 hb2
  refine wpList_store_row (by kernel_rfl) 26 (Go.Operand.tmp 3) (Go.Operand.tmp 12) (by kernel_rfl) X (arr8 32 (shaOf ys)) (by kernel_rfl) (by kernel_rfl) _ _ hX2 (by rw [arr8_size]; kernel_rfl) (by rw [arr8_size, arr8_size]) (arr8_all) ?_
  refine wpList_nil ?_
  try simp only [put_list, put_none, List.set_cons_zero, List.set_cons_succ]
  have H2 := Lib.hid (And.intro hown (And.intro hb1 (And.intro hb2 hX2)))
  clear hown hb1 hb2 hX2 hX1 hsum
  go_wp2_with fail
  obtain ⟨hown, hb1, hb2, hX2⟩ := H2.out
  refine bodyPost_ret (results_tmp_row rfl _ _ _ _ _ _ rfl (setRow_heap W2 X _ _ _ _ hX2) _ rfl Tryd.underlying26 (by rw [arr8_size]; kernel_rfl)) rfl ?_
  have hbX : Below w.heap.size w (W2.setRow X (arr8 32 (shaOf ys))) := setRow_below (hb0.trans ((hb1.mono hb0.size).trans (hb2.mono (Nat.le_trans hb0.size hb1.size)))) _ (by rw [HX.out]; exact Nat.le_refl _) _
  refine ⟨A, c, rfl, ?_, hbX⟩
  have h1 : (w.alloc (.cells (arr8 32 k0) 26)).heap.size = w.heap.size + 1 := by simp
  rw [h1] at hown
  refine ownsRow_lower (own_keep hown fun k hk => ?_) (Nat.le_succ _)
  have h2 := hown.lt k hk
  exact (setRow_other W2 X k _ (by have := HX.out; omega)).trans (hb2.block k h2.2)
section
variable {E : Nat → Addr} {w0 W : World} {S : Nat} {q l : Int} {V : Value} {es : List Be}
theorem s_getS (h : Sto E w0 W S q l V es) (k : Nat → BitVec 8) (hl : es.length ≤ 16) {i : Nat} {e : Be} (hf : es.findIdx? (Be.is k) = some i) (hi : es[i]? = some e) (hd : e.done = false) (off n : Int) : Calls Tryd.prog 15 #[.pointer (some ⟨S, 0, none⟩), .agg (arr8 32 k), .int .i64 off, .int .i64 n] W fun r W' => r = .returned (.tuple #[.slice none 0 0, errV (E 16)]) ∧ Sto E w0 W' S q l V (es.set i e.used) ∧ Turn (stF S V es) W W' :=
  (get_state h.st hl k hf hi E h.errs (h.gne hi) hd off n).mono fun _ _ ⟨a, b, c⟩ => ⟨a, h.used hi b c, c.mono (stF_at hi)⟩
theorem s_getR (h : Sto E w0 W S q l V es) (k : Nat → BitVec 8) (hl : es.length ≤ 16) {i : Nat} {e : Be} (hf : es.findIdx? (Be.is k) = some i) (hi : es[i]? = some e) (hd : e.done = true) (off n : Int) (hn : 0 ≤ n) (ho : 0 ≤ off) (hen : 0 ≤ e.n ∧ e.n ≤ 30000) (hr : 200 < n ∨ e.n - n < off) : Calls Tryd.prog 15 #[.pointer (some ⟨S, 0, none⟩), .agg (arr8 32 k), .int .i64 off, .int .i64 n] W fun r W' => r = .returned (.tuple #[.slice none 0 0, errV (E 1)]) ∧ Sto E w0 W' S q l V (es.set i e.used) ∧ Turn (stF S V es) W W' := by
  by_cases h1 : 200 < n
  · exact (get_big h.st hl k hf hi E h.errs (h.gne hi) hd off n h1).mono fun _ _ ⟨a, b, c⟩ => ⟨a, h.used hi b c, c.mono (stF_at hi)⟩
  · exact (get_far h.st hl k hf hi E h.errs (h.gne hi) hd off n ⟨hn, by omega⟩ ho hen (by omega)).mono fun _ _ ⟨a, b, c⟩ => ⟨a, h.used hi b c, c.mono (stF_at hi)⟩
theorem s_get (h : Sto E w0 W S q l V es) (k : Nat → BitVec 8) (hl : es.length ≤ 16) {i : Nat} {e : Be} (hf : es.findIdx? (Be.is k) = some i) (hi : es[i]? = some e) (hd : e.done = true) (off n : Nat) (hn : n ≤ 200) (hfit : off + n ≤ e.bs.length) (hbn : (e.bs.length : Int) = e.n) (hen : e.n ≤ 30000) : Calls Tryd.prog 15 #[.pointer (some ⟨S, 0, none⟩), .agg (arr8 32 k), .int .i64 (off : Int), .int .i64 (n : Int)] W fun r W' => ∃ A c, r = .returned (.tuple #[.slice A n c, .nilIface]) ∧ Sto E w0 W' S q l V (es.set i e.used) ∧ Turn (stF S V es) W W' ∧ W'.ownsRow W.heap.size 5 1 (.slice A n c) n (ints .u8 ((e.bs.drop off).take n)) := by
  refine (get_ok h.st hl k hf hi hd off n hn hfit hbn hen).mono ?_
  rintro r W' ⟨v, W1, a, b, c, d, f⟩
  obtain ⟨A, cc, rfl, _⟩ := own_slice f
  exact ⟨A, cc, a, (h.used hi b c).below d, (c.mono (stF_at hi)).trans (Turn.of_below (F := fun _ => False) d) (fun _ h => h.elim), ownsRow_lower f c.size⟩
theorem s_commitD (h : Sto E w0 W S q l V es) (k : Nat → BitVec 8) (hl : es.length ≤ 16) {i : Nat} {e : Be} (hf : es.findIdx? (Be.is k) = some i) (hi : es[i]? = some e) (hd : e.done = true) : Calls Tryd.prog 16 #[.pointer (some ⟨S, 0, none⟩), .agg (arr8 32 k)] W fun r W' => r = .returned .nilIface ∧ Sto E w0 W' S q l V (es.set i e.used) ∧ Turn (stF S V es) W W' :=
  (commit_done h.st hl k hf hi hd).mono fun _ _ ⟨a, b, c⟩ => ⟨a, h.used hi b c, c.mono (stF_at hi)⟩
theorem s_commitS (h : Sto E w0 W S q l V es) (k : Nat → BitVec 8) (hl : es.length ≤ 16) {i : Nat} {e : Be} (hf : es.findIdx? (Be.is k) = some i) (hi : es[i]? = some e) (hd : e.done = false) (hn : (e.bs.length : Int) < e.n) : Calls Tryd.prog 16 #[.pointer (some ⟨S, 0, none⟩), .agg (arr8 32 k)] W fun r W' => r = .returned (errV (E 16)) ∧ Sto E w0 W' S q l V (es.set i e.used) ∧ Turn (stF S V es) W W' :=
  (commit_short h.st hl k hf hi E h.errs (h.gne hi) hd hn).mono fun _ _ ⟨a, b, c⟩ => ⟨a, h.used hi b c, c.mono (stF_at hi)⟩
theorem s_commitX (h : Sto E w0 W S q l V es) (hK : KAt w0) (k : Nat → BitVec 8) (hl : es.length ≤ 16) {i : Nat} {e : Be} (hf : es.findIdx? (Be.is k) = some i) (hi : es[i]? = some e) (hd : e.done = false) (ys : List (BitVec 8)) (hys : e.bs = bys ys) (hn : (e.bs.length : Int) = e.n) (hn2 : e.n ≤ 30000) (hq : (idl (shaOf ys) == idl k) = false) : Calls Tryd.prog 16 #[.pointer (some ⟨S, 0, none⟩), .agg (arr8 32 k)] W fun r W' => r = .returned (errV (E 15)) ∧ Sto E w0 W' S q l V (es.set i e.used) ∧ Turn (stF S V es) W W' :=
  (commit_bad h.st (hK.below h.be) hl k hf hi E h.errs (h.gne hi) hd ys hys hn hn2 hq).mono fun _ _ ⟨a, b, c⟩ => ⟨a, h.used hi b c, c.mono (stF_at hi)⟩
abbrev doneB (e : Be) : Be := ⟨e.g, e.f, e.n, e.D, e.bs, true, 0⟩
theorem s_commit (h : Sto E w0 W S q l V es) (hK : KAt w0) (k : Nat → BitVec 8) (hl : es.length ≤ 16) {i : Nat} {e : Be} (hf : es.findIdx? (Be.is k) = some i) (hi : es[i]? = some e) (hd : e.done = false) (ys : List (BitVec 8)) (hys : e.bs = bys ys) (hn : (e.bs.length : Int) = e.n) (hn2 : e.n ≤ 30000) (hq : (idl (shaOf ys) == idl k) = true) : Calls Tryd.prog 16 #[.pointer (some ⟨S, 0, none⟩), .agg (arr8 32 k)] W fun r W' => r = .returned .nilIface ∧ Sto E w0 W' S q l V (es.set i (doneB e)) ∧ Turn (stF S V es) W W' := by
  refine (commit_ok h.st (hK.below h.be) hl k hf hi hd ys hys hn hn2 hq).mono ?_
  rintro r W' ⟨a, b, c⟩
  exact ⟨a, h.step b c (fun k hk => stF_at hi k hk) (stF_set (e' := doneB e) hi rfl (fun _ hk => .inl hk)), c.mono (stF_at hi)⟩
theorem s_spoilN (h : Sto E w0 W S q l V es) (k : Nat → BitVec 8) (hl : es.length ≤ 16) {i : Nat} {e : Be} (hf : es.findIdx? (Be.is k) = some i) (hi : es[i]? = some e) (hn : e.bs = []) (at' : Int) : Calls Tryd.prog 23 #[.pointer (some ⟨S, 0, none⟩), .agg (arr8 32 k), .int .i64 at'] W fun r W' => r = .returned (.bool false) ∧ Sto E w0 W' S q l V es ∧ Turn (stF S V es) W W' :=
  (spoil_no h.st hl k hf hi hn at').mono fun _ _ ⟨a, b⟩ => ⟨a, h.below b, Turn.of_below b⟩
abbrev spoB (e : Be) (m : Nat) (x : Int) : Be := ⟨e.g, e.f, e.n, e.D, e.bs.set m (spo x), e.done, e.idle⟩
theorem s_spoil (h : Sto E w0 W S q l V es) (k : Nat → BitVec 8) (hl : es.length ≤ 16) {i : Nat} {e : Be} (hf : es.findIdx? (Be.is k) = some i) (hi : es[i]? = some e) (m : Nat) (x : Int) (hx : e.bs[m]? = some x) (hbn : e.bs.length ≤ 30000) : Calls Tryd.prog 23 #[.pointer (some ⟨S, 0, none⟩), .agg (arr8 32 k), .int .i64 (m : Int)] W fun r W' => r = .returned (.bool true) ∧ Sto E w0 W' S q l V (es.set i (spoB e m x)) ∧ Turn (stF S V es) W W' := by
  refine (spoil_yes h.st hl k hf hi m x hx hbn).mono ?_
  rintro r W' ⟨a, b, c⟩
  have hG : ∀ y, e.D.ownBlock = some y → stF S V es y := fun y hy => .inr (.inr ⟨i, e, hi, .inr hy⟩)
  exact ⟨a, h.step b c hG (stF_set (e' := spoB e m x) hi rfl (fun _ hk => .inl hk)), c.mono hG⟩
set_option maxRecDepth 100000 in
set_option maxHeartbeats 800000 in
theorem s_deleteN (h : Sto E w0 W S q l V es) (k : Nat → BitVec 8) (hl : es.length ≤ 16) (hf : es.findIdx? (Be.is k) = none) : Calls Tryd.prog 26 #[.pointer (some ⟨S, 0, none⟩), .agg (arr8 32 k)] W fun r W' => r = .returned (errV (E 13)) ∧ Sto E w0 W' S q l V es ∧ Turn (stF S V es) W W' := by
  have hb0 := below_alc W (.cells (arr8 32 k) 26)
  have hpl := Lib.hid (place_b (h.st.below hb0) (by omega) k)
  rw [bix_none hf] at hpl
  have HE := Lib.hid (And.intro (h.errs.below hb0) h)
  clear h
  go_enter Tryd.func26, Tryd.ntmps26
  go_wp2_with (first | (refine wpList_load_row rfl 26 _ rfl W.heap.size rfl _ _ _ _ (heap_alloc_new _ _) Tryd.underlying26 rfl (by rw [arr8_size]; kernel_rfl) ?_) | (go_at_call 35; refine hpl.out.mono ?_; rintro r W1 ⟨rfl, hb'⟩; have he := (HE.out.1.below hb').c 13 (by decide); have he2 : W1.drew.cell? ⟨gE 13, 0, none⟩ = some (errV (E 13)) := he; simp only [gE] at he he2))
  go_ret
  have hb2 := hb0.trans (hb'.mono hb0.size)
  exact ⟨rfl, HE.out.2.below hb2, Turn.of_below hb2⟩
set_option maxRecDepth 100000 in
set_option maxHeartbeats 800000 in
theorem s_delete {e : Be} (h : Sto E w0 W S q l V [e]) (k : Nat → BitVec 8) (hf : Be.is k e = true) : Calls Tryd.prog 26 #[.pointer (some ⟨S, 0, none⟩), .agg (arr8 32 k)] W fun r W' => r = .returned .nilIface ∧ ∃ V', Sto E w0 W' S q l V' [] ∧ Turn (stF S V [e]) W W' := by
  have hb0 := below_alc W (.cells (arr8 32 k) 26)
  have hpl := Lib.hid (place_b (h.st.below hb0) (by simp) k)
  rw [bix_some (find_one e k hf)] at hpl
  obtain ⟨g, c, hV⟩ : ∃ g c, V = .slice (some ⟨g, 0, none⟩) 1 c := by
    rcases h.st.own.2 with ⟨_, h0⟩ | ⟨g, c, _, h1, _⟩
    · simp at h0
    · exact ⟨g, c, h1⟩
  have HV := Lib.hid hV
  have H := Lib.hid h
  clear h hV
  go_enter Tryd.func26, Tryd.ntmps26
  go_upto_region 4 with (first | (refine wpList_load_row rfl 26 _ rfl W.heap.size rfl _ _ _ _ (heap_alloc_new _ _) Tryd.underlying26 rfl (by rw [arr8_size]; kernel_rfl) ?_) | (go_at_call 35; refine hpl.out.mono ?_; rintro r W1 ⟨rfl, hb'⟩; have HB := Lib.hid hb'; clear hb'))
  have h1 : Sto E w0 W1 S q l V [e] := (H.out.below hb0).below HB.out
  have hst1 := h1.st.st
  have hown1 : W1.ownsRow 0 60 1 (.slice (some ⟨g, 0, none⟩) 1 c) 1 [e.ptr] := by rw [← HV.out]; exact h1.st.own
  have hdel := Lib.hid (delete_one g c e W1 hown1)
  have HSn : Hid (S ≠ g) := by
    obtain ⟨cur, hc⟩ := own_cells hown1 (k := g) rfl
    exact ty_ne hst1 hc (by decide)
  have HSg : Hid (S = S) := rfl
  refine wp_region_lit ?_
  try simp only [put_list, List.set_cons_zero, List.set_cons_succ]
  refine wpList_run (by kernel_rfl) (.pointer (some ⟨S, 0, none⟩)) (W1) (exec_move rfl (by kernel_rfl)) ?_
  try simp only [put_list, List.set_cons_zero, List.set_cons_succ]
  refine wpList_run (by kernel_rfl) (.pointer (some ⟨S, 0, none⟩)) (W1) (exec_move rfl (by kernel_rfl)) ?_
  try simp only [put_list, List.set_cons_zero, List.set_cons_succ]
  refine wpList_run (by kernel_rfl) (.pointer (some ⟨S, 0, none⟩)) (W1) (exec_nil rfl (by kernel_rfl)) ?_
  try simp only [put_list, List.set_cons_zero, List.set_cons_succ]
  refine wpList_run (by kernel_rfl) (.pointer (some ⟨S, 2, none⟩)) (W1) (exec_field (vx := .pointer (some ⟨S, 0, none⟩)) rfl (by kernel_rfl) (by kernel_rfl)) ?_
  try simp only [put_list, List.set_cons_zero, List.set_cons_succ]
  refine wpList_run (by kernel_rfl) (.slice (some ⟨g, 0, none⟩) 1 c) (W1) (exec_load (vx := .pointer (some ⟨S, 2, none⟩)) rfl (by kernel_rfl) (by rw [← HV.out]; exact load_stV hst1)) ?_
  try simp only [put_list, List.set_cons_zero, List.set_cons_succ]
  refine wpList_run (by kernel_rfl) (.int .i64 0) (W1) (exec_move rfl (by kernel_rfl)) ?_
  try simp only [put_list, List.set_cons_zero, List.set_cons_succ]
  refine wpList_run (by kernel_rfl) (.int .i64 0) (W1) (exec_move rfl (by kernel_rfl)) ?_
  try simp only [put_list, List.set_cons_zero, List.set_cons_succ]
  refine wpList_run (by kernel_rfl) (.int .i64 1) (W1) (exec_bin (vx := .int .i64 0) (vy := Go.Value.int Go.IntKind.i64 1) rfl (by kernel_rfl) (by kernel_rfl)) ?_
  refine wpList_call (by kernel_rfl) 37 #[Go.Operand.tmp 16, Go.Operand.tmp 17, Go.Operand.tmp 19] #[57, 3, 3] #[.slice (some ⟨g, 0, none⟩) 1 c, .int .i64 0, .int .i64 1] _ rfl (by kernel_rfl) (by kernel_rfl) (hdel.out) ?_
  rintro r W3 ⟨rfl, hown3, ht3⟩
  refine ⟨_, rfl, ?_⟩
  have hst3 := (ht3.block S (lt_heap hst1) (by rw [← HSg.out]; exact HSn.out)).trans hst1
  have hf3 := thaw_heap hst3 2
  have hc3 := load_st2 S W3 q l V hst3
  try simp only [put_list, List.set_cons_zero, List.set_cons_succ]
  refine wpList_run (by kernel_rfl) (.pointer (some ⟨S, 0, none⟩)) (W3) (exec_nil rfl (by kernel_rfl)) ?_
  try simp only [put_list, List.set_cons_zero, List.set_cons_succ]
  refine wpList_run (by kernel_rfl) (.pointer (some ⟨S, 2, none⟩)) (W3) (exec_field (vx := .pointer (some ⟨S, 0, none⟩)) rfl (by kernel_rfl) (by kernel_rfl)) ?_
  refine wpList_skip rfl ((W3.setCell ⟨S, 2, none⟩ (.slice (some ⟨g, 0, none⟩) 0 c))) (exec_store (vx := .pointer (some ⟨S, 2, none⟩)) (vy := .slice (some ⟨g, 0, none⟩) 0 c) rfl (by kernel_rfl) (store_V hc3 hf3)) ?_
  refine wpList_nil ?_
  try simp only [put_list, put_none, List.set_cons_zero, List.set_cons_succ]
  have H3 := Lib.hid (And.intro hown3 (And.intro ht3 (And.intro hst3 h1)))
  clear hown3 ht3 hst3 hf3 hc3 h1 hst1 hown1 hdel hpl
  go_wp2_with fail
  go_ret
  obtain ⟨hown3, ht3, hst3, h1⟩ := H3.out
  have hset : Turn (· = S) W3 (W3.setCell ⟨S, 2, none⟩ (.slice (some ⟨g, 0, none⟩) 0 c)) := set_turnH W3 S 2 _
  have hgV : V.ownBlock = some g := by rw [HV.out]; rfl
  have t13 : Turn (fun x => x = g ∨ x = S) W1 (W3.setCell ⟨S, 2, none⟩ (.slice (some ⟨g, 0, none⟩) 0 c)) := (ht3.mono (fun _ h => .inl h)).trans hset (fun _ h => .inl (.inr h))
  have hF : ∀ x, (x = g ∨ x = S) → stF S V [e] x := fun x hx => hx.elim (fun y => .inr (.inl (by rw [hgV, y]))) (fun y => .inl y)
  have hs : StS (W3.setCell ⟨S, 2, none⟩ (.slice (some ⟨g, 0, none⟩) 0 c)) S q l (.slice (some ⟨g, 0, none⟩) 0 c) [] := by
    refine ⟨st_set hst3 _, ?_, fun i e h => by simp at h, fun i e h => by simp at h, fun i j e e' _ h => by simp at h, fun i j e e' _ h => by simp at h⟩
    exact own_keep hown3 fun x hx => by
      obtain rfl : g = x := Option.some.inj hx
      exact hset.block g (hown3.lt g rfl).2 (fun y => HSn.out y.symm)
  refine ⟨rfl, ⟨.slice (some ⟨g, 0, none⟩) 0 c, h1.step hs t13 hF (fun x hx => .inl ?_)⟩, (Turn.of_below (F := stF S V [e]) (hb0.trans (HB.out.mono hb0.size))).trans t13 (fun x hx => .inl (hF x hx))⟩
  rcases hx with hx | hx | ⟨i, y, hy, _⟩
  · exact .inl hx
  · exact .inr (.inl (hgV.trans hx))
  · simp at hy
end
end Go.Proofs.YtegijahkiopncaaDoor
