import Derived.Test.YtegijahkiopncaaDoorBlf
/-
  blob: Stat; what is told.
-/
namespace Go.Proofs.YtegijahkiopncaaDoor
open Go.RowKit
theorem set_get {es : List Be} {i : Nat} {e e' : Be} (h : es[i]? = some e) : (es.set i e')[i]? = some e' := by
  have hi := (List.getElem?_eq_some_iff.1 h).1
  rw [List.getElem?_set, if_pos rfl, if_pos hi]
theorem StS.cells {W1 : World} {S : Nat} {q l : Int} {V : Value} {es : List Be} {i : Nat} {e : Be} (hs : StS W1 S q l V (es.set i e.used)) (hi : es[i]? = some e) : W1.cell? ⟨e.g, 32, none⟩ = some (.int .i64 e.n) ∧ W1.cell? ⟨e.g, 33, none⟩ = some e.D ∧ W1.cell? ⟨e.g, 34, none⟩ = some (.bool e.done) := by
  have := hs.ent i e.used (set_get hi)
  exact ⟨cell_heap this (en_c32 _ _ _ _ _), cell_heap this (en_c33 _ _ _ _ _), cell_heap this (en_c34 _ _ _ _ _)⟩
section
variable {w : World} {S : Nat} {q l : Int} {V : Value} {es : List Be}
set_option maxRecDepth 100000 in
set_option maxHeartbeats 800000 in
theorem statN (E : Nat → Addr) (hE : ErrsAt E w) (h : StS w S q l V es) (hl : es.length ≤ 16) (k : Nat → BitVec 8)  (hf : es.findIdx? (Be.is k) = none) :
    Calls Tryd.prog 17 #[.pointer (some ⟨S, 0, none⟩), .agg (arr8 32 k)] w fun r w' => r = .returned (.tuple #[.int .i64 0, .bool false, errV (E 13)]) ∧ Below w.heap.size w w' := by
  have hb0 := below_alc w (.cells (arr8 32 k) 26)
  have hus := Lib.hid (use_none (h.below hb0) (by omega) k hf)
  have HE := Lib.hid (hE.below hb0)
  clear h hE
  go_enter Tryd.func17, Tryd.ntmps17
  go_wp2_with (first | (refine wpList_load_row rfl 26 _ rfl w.heap.size rfl _ _ _ _ (heap_alloc_new _ _) Tryd.underlying26 rfl (by rw [arr8_size]; kernel_rfl) ?_) | (go_at_call 28; refine hus.out.mono ?_; rintro r W1 ⟨rfl, hb'⟩; have he := (HE.out.below hb').c 13 (by decide); have he2 : W1.drew.cell? ⟨gE 13, 0, none⟩ = some (errV (E 13)) := he; simp only [gE] at he he2))
  go_quiet (fail)
  go_wp2_with fail
  go_ret3
  have hb2 := hb0.trans (hb'.mono hb0.size)
  exact ⟨rfl, by first | exact hb2 | exact below_drewN hb2 _⟩
set_option maxRecDepth 100000 in
set_option maxHeartbeats 800000 in
theorem putN (E : Nat → Addr) (hE : ErrsAt E w) (h : StS w S q l V es) (hl : es.length ≤ 16) (k : Nat → BitVec 8) (off : Int) (A : Option Addr) (m cb : Nat) (hf : es.findIdx? (Be.is k) = none) :
    Calls Tryd.prog 14 #[.pointer (some ⟨S, 0, none⟩), .agg (arr8 32 k), .int .i64 off, .slice A m cb] w fun r w' => r = .returned (.tuple #[.int .i64 0, errV (E 13)]) ∧ Below w.heap.size w w' := by
  have hb0 := below_alc w (.cells (arr8 32 k) 26)
  have hus := Lib.hid (use_none (h.below hb0) (by omega) k hf)
  have HE := Lib.hid (hE.below hb0)
  clear h hE
  go_enter Tryd.func14, Tryd.ntmps14
  go_wp2_with (first | (refine wpList_load_row rfl 26 _ rfl w.heap.size rfl _ _ _ _ (heap_alloc_new _ _) Tryd.underlying26 rfl (by rw [arr8_size]; kernel_rfl) ?_) | (go_at_call 28; refine hus.out.mono ?_; rintro r W1 ⟨rfl, hb'⟩; have he := (HE.out.below hb').c 13 (by decide); have he2 : W1.drew.cell? ⟨gE 13, 0, none⟩ = some (errV (E 13)) := he; simp only [gE] at he he2))
  go_quiet (fail)
  go_wp2_with fail
  go_ret2
  have hb2 := hb0.trans (hb'.mono hb0.size)
  exact ⟨rfl, by first | exact hb2 | exact below_drewN hb2 _⟩
set_option maxRecDepth 100000 in
set_option maxHeartbeats 800000 in
theorem getN (E : Nat → Addr) (hE : ErrsAt E w) (h : StS w S q l V es) (hl : es.length ≤ 16) (k : Nat → BitVec 8) (off n : Int) (hf : es.findIdx? (Be.is k) = none) :
    Calls Tryd.prog 15 #[.pointer (some ⟨S, 0, none⟩), .agg (arr8 32 k), .int .i64 off, .int .i64 n] w fun r w' => r = .returned (.tuple #[.slice none 0 0, errV (E 13)]) ∧ Below w.heap.size w w' := by
  have hb0 := below_alc w (.cells (arr8 32 k) 26)
  have hus := Lib.hid (use_none (h.below hb0) (by omega) k hf)
  have HE := Lib.hid (hE.below hb0)
  clear h hE
  go_enter Tryd.func15, Tryd.ntmps15
  go_wp2_with (first | (refine wpList_load_row rfl 26 _ rfl w.heap.size rfl _ _ _ _ (heap_alloc_new _ _) Tryd.underlying26 rfl (by rw [arr8_size]; kernel_rfl) ?_) | (go_at_call 28; refine hus.out.mono ?_; rintro r W1 ⟨rfl, hb'⟩; have he := (HE.out.below hb').c 13 (by decide); have he2 : W1.drew.cell? ⟨gE 13, 0, none⟩ = some (errV (E 13)) := he; simp only [gE] at he he2))
  go_quiet (fail)
  go_wp2_with fail
  go_ret2
  have hb2 := hb0.trans (hb'.mono hb0.size)
  exact ⟨rfl, by first | exact hb2 | exact below_drewN hb2 _⟩
set_option maxRecDepth 100000 in
set_option maxHeartbeats 800000 in
theorem commitN (E : Nat → Addr) (hE : ErrsAt E w) (h : StS w S q l V es) (hl : es.length ≤ 16) (k : Nat → BitVec 8)  (hf : es.findIdx? (Be.is k) = none) :
    Calls Tryd.prog 16 #[.pointer (some ⟨S, 0, none⟩), .agg (arr8 32 k)] w fun r w' => r = .returned (errV (E 13)) ∧ Below w.heap.size w w' := by
  have hb0 := below_alc w (.cells (arr8 32 k) 26)
  have hus := Lib.hid (use_none (h.below hb0) (by omega) k hf)
  have HE := Lib.hid (hE.below hb0)
  clear h hE
  go_enter Tryd.func16, Tryd.ntmps16
  go_wp2_with (first | (refine wpList_load_row rfl 26 _ rfl w.heap.size rfl _ _ _ _ (heap_alloc_new _ _) Tryd.underlying26 rfl (by rw [arr8_size]; kernel_rfl) ?_) | (go_at_call 28; refine hus.out.mono ?_; rintro r W1 ⟨rfl, hb'⟩; have he := (HE.out.below hb').c 13 (by decide); have he2 : W1.drew.cell? ⟨gE 13, 0, none⟩ = some (errV (E 13)) := he; simp only [gE] at he he2))
  go_ret
  have hb2 := hb0.trans (hb'.mono hb0.size)
  exact ⟨rfl, by first | exact hb2 | exact below_drewN hb2 _⟩
set_option maxRecDepth 100000 in
set_option maxHeartbeats 800000 in
theorem stat_some (h : StS w S q l V es) (hl : es.length ≤ 16) (k : Nat → BitVec 8) {i : Nat} {e : Be} (hf : es.findIdx? (Be.is k) = some i) (hi : es[i]? = some e)  :
    Calls Tryd.prog 17 #[.pointer (some ⟨S, 0, none⟩), .agg (arr8 32 k)] w fun r w' => r = .returned (.tuple #[.int .i64 e.bs.length, .bool e.done, .nilIface]) ∧ StS w' S q l V (es.set i e.used) ∧ Turn (· = e.g) w w' := by
  have hb0 := below_alc w (.cells (arr8 32 k) 26)
  have hus := Lib.hid (use_some (h.below hb0) (by omega) k hf hi)
  have hptr : e.ptr = .pointer (some ⟨e.g, 0, none⟩) := rfl
  rw [hptr] at hus
  obtain ⟨A, c, hD, hbc, hcm, _⟩ := own_slice (h.byt i e hi)
  have HC : Hid (∀ W1, StS W1 S q l V (es.set i e.used) → W1.cell? ⟨e.g, 32, none⟩ = some (.int .i64 e.n) ∧ W1.cell? ⟨e.g, 33, none⟩ = some (.slice A e.bs.length c) ∧ W1.cell? ⟨e.g, 34, none⟩ = some (.bool e.done)) := fun W1 hs => by
    rw [← hD]
    exact hs.cells hi
  clear h hD hf
  go_enter Tryd.func17, Tryd.ntmps17
  go_wp2_with (first | (refine wpList_load_row rfl 26 _ rfl w.heap.size rfl _ _ _ _ (heap_alloc_new _ _) Tryd.underlying26 rfl (by rw [arr8_size]; kernel_rfl) ?_) | (go_at_call 28; refine hus.out.mono ?_; rintro r W1 ⟨rfl, hs1, ht1⟩; obtain ⟨c32, c33, c34⟩ := HC.out W1 hs1; have d32 : W1.drew.cell? ⟨e.g, 32, none⟩ = _ := c32; have d33 : W1.drew.cell? ⟨e.g, 33, none⟩ = _ := c33; have d34 : W1.drew.cell? ⟨e.g, 34, none⟩ = _ := c34; have HS := Lib.hid (And.intro hs1 ht1); clear hs1 ht1))
  go_quiet (fail)
  go_wp2_with fail
  go_ret3
  obtain ⟨s1, t1⟩ := HS.out
  have t2 : Turn (· = e.g) w W1 := (Turn.of_below hb0).trans t1 (fun k hk => .inl hk)
  first
  | exact ⟨rfl, s1, t2⟩
  | exact ⟨rfl, s1.keep (fun _ _ => rfl), t2.trans (Turn.of_below (below_drewN (Below.refl _ _) _)) (fun k hk => .inl hk)⟩
set_option maxRecDepth 100000 in
set_option maxHeartbeats 800000 in
theorem put_state (h : StS w S q l V es) (hl : es.length ≤ 16) (k : Nat → BitVec 8) {i : Nat} {e : Be} (hf : es.findIdx? (Be.is k) = some i) (hi : es[i]? = some e) (E : Nat → Addr) (hE : ErrsAt E w) (hgE : ∀ j, j < 19 → gE j ≠ e.g) (hd : e.done = true) (off : Int) (A : Option Addr) (m cb : Nat) :
    Calls Tryd.prog 14 #[.pointer (some ⟨S, 0, none⟩), .agg (arr8 32 k), .int .i64 off, .slice A m cb] w fun r w' => r = .returned (.tuple #[.int .i64 0, errV (E 16)]) ∧ StS w' S q l V (es.set i e.used) ∧ Turn (· = e.g) w w' := by
  have hb0 := below_alc w (.cells (arr8 32 k) 26)
  have hus := Lib.hid (use_some (h.below hb0) (by omega) k hf hi)
  have hptr : e.ptr = .pointer (some ⟨e.g, 0, none⟩) := rfl
  rw [hptr] at hus
  obtain ⟨A, c, hD, hbc, hcm, _⟩ := own_slice (h.byt i e hi)
  have HE := Lib.hid hE
  have HC : Hid (∀ W1, StS W1 S q l V (es.set i e.used) → W1.cell? ⟨e.g, 32, none⟩ = some (.int .i64 e.n) ∧ W1.cell? ⟨e.g, 33, none⟩ = some (.slice A e.bs.length c) ∧ W1.cell? ⟨e.g, 34, none⟩ = some (.bool e.done)) := fun W1 hs => by
    rw [← hD]
    exact hs.cells hi
  clear h hD hf hE
  rw [hd] at HC
  go_enter Tryd.func14, Tryd.ntmps14
  go_wp2_with (first | (refine wpList_load_row rfl 26 _ rfl w.heap.size rfl _ _ _ _ (heap_alloc_new _ _) Tryd.underlying26 rfl (by rw [arr8_size]; kernel_rfl) ?_) | (go_at_call 28; refine hus.out.mono ?_; rintro r W1 ⟨rfl, hs1, ht1⟩; have he := (ht1.cell (o := 0) ((HE.out.below hb0).ltG (i := 16) (by decide)) (hgE 16 (by decide))).trans ((HE.out.below hb0).c 16 (by decide)); have he2 : W1.drew.cell? ⟨gE 16, 0, none⟩ = some (errV (E 16)) := he; simp only [gE] at he he2; obtain ⟨c32, c33, c34⟩ := HC.out W1 hs1; have d32 : W1.drew.cell? ⟨e.g, 32, none⟩ = _ := c32; have d33 : W1.drew.cell? ⟨e.g, 33, none⟩ = _ := c33; have d34 : W1.drew.cell? ⟨e.g, 34, none⟩ = _ := c34; have HS := Lib.hid (And.intro hs1 ht1); clear hs1 ht1))
  go_quiet (fail)
  go_wp2_with fail
  go_ret2
  obtain ⟨s1, t1⟩ := HS.out
  have t2 : Turn (· = e.g) w W1 := (Turn.of_below hb0).trans t1 (fun k hk => .inl hk)
  first
  | exact ⟨rfl, s1, t2⟩
  | exact ⟨rfl, s1.keep (fun _ _ => rfl), t2.trans (Turn.of_below (below_drewN (Below.refl _ _) _)) (fun k hk => .inl hk)⟩
set_option maxRecDepth 100000 in
set_option maxHeartbeats 800000 in
theorem put_neg (h : StS w S q l V es) (hl : es.length ≤ 16) (k : Nat → BitVec 8) {i : Nat} {e : Be} (hf : es.findIdx? (Be.is k) = some i) (hi : es[i]? = some e) (E : Nat → Addr) (hE : ErrsAt E w) (hgE : ∀ j, j < 19 → gE j ≠ e.g) (hd : e.done = false) (off : Int) (A : Option Addr) (m cb : Nat) (ho : off < 0) :
    Calls Tryd.prog 14 #[.pointer (some ⟨S, 0, none⟩), .agg (arr8 32 k), .int .i64 off, .slice A m cb] w fun r w' => r = .returned (.tuple #[.int .i64 0, errV (E 1)]) ∧ StS w' S q l V (es.set i e.used) ∧ Turn (· = e.g) w w' := by
  have hb0 := below_alc w (.cells (arr8 32 k) 26)
  have hus := Lib.hid (use_some (h.below hb0) (by omega) k hf hi)
  have hptr : e.ptr = .pointer (some ⟨e.g, 0, none⟩) := rfl
  rw [hptr] at hus
  obtain ⟨A, c, hD, hbc, hcm, _⟩ := own_slice (h.byt i e hi)
  have HE := Lib.hid hE
  have HC : Hid (∀ W1, StS W1 S q l V (es.set i e.used) → W1.cell? ⟨e.g, 32, none⟩ = some (.int .i64 e.n) ∧ W1.cell? ⟨e.g, 33, none⟩ = some (.slice A e.bs.length c) ∧ W1.cell? ⟨e.g, 34, none⟩ = some (.bool e.done)) := fun W1 hs => by
    rw [← hD]
    exact hs.cells hi
  clear h hD hf hE
  rw [hd] at HC
  go_enter Tryd.func14, Tryd.ntmps14
  go_wp2_with (first | (refine wpList_load_row rfl 26 _ rfl w.heap.size rfl _ _ _ _ (heap_alloc_new _ _) Tryd.underlying26 rfl (by rw [arr8_size]; kernel_rfl) ?_) | (go_at_call 28; refine hus.out.mono ?_; rintro r W1 ⟨rfl, hs1, ht1⟩; have he := (ht1.cell (o := 0) ((HE.out.below hb0).ltG (i := 1) (by decide)) (hgE 1 (by decide))).trans ((HE.out.below hb0).c 1 (by decide)); have he2 : W1.drew.cell? ⟨gE 1, 0, none⟩ = some (errV (E 1)) := he; simp only [gE] at he he2; obtain ⟨c32, c33, c34⟩ := HC.out W1 hs1; have d32 : W1.drew.cell? ⟨e.g, 32, none⟩ = _ := c32; have d33 : W1.drew.cell? ⟨e.g, 33, none⟩ = _ := c33; have d34 : W1.drew.cell? ⟨e.g, 34, none⟩ = _ := c34; have HS := Lib.hid (And.intro hs1 ht1); clear hs1 ht1))
  go_quiet (fail)
  go_wp2_with fail
  go_ret2
  obtain ⟨s1, t1⟩ := HS.out
  have t2 : Turn (· = e.g) w W1 := (Turn.of_below hb0).trans t1 (fun k hk => .inl hk)
  first
  | exact ⟨rfl, s1, t2⟩
  | exact ⟨rfl, s1.keep (fun _ _ => rfl), t2.trans (Turn.of_below (below_drewN (Below.refl _ _) _)) (fun k hk => .inl hk)⟩
set_option maxRecDepth 100000 in
set_option maxHeartbeats 800000 in
theorem put_far (h : StS w S q l V es) (hl : es.length ≤ 16) (k : Nat → BitVec 8) {i : Nat} {e : Be} (hf : es.findIdx? (Be.is k) = some i) (hi : es[i]? = some e) (E : Nat → Addr) (hE : ErrsAt E w) (hgE : ∀ j, j < 19 → gE j ≠ e.g) (hd : e.done = false) (off : Int) (A : Option Addr) (m cb : Nat) (ho : 0 ≤ off) (hb : (e.bs.length : Int) < off) :
    Calls Tryd.prog 14 #[.pointer (some ⟨S, 0, none⟩), .agg (arr8 32 k), .int .i64 off, .slice A m cb] w fun r w' => r = .returned (.tuple #[.int .i64 0, errV (E 1)]) ∧ StS w' S q l V (es.set i e.used) ∧ Turn (· = e.g) w w' := by
  have hb0 := below_alc w (.cells (arr8 32 k) 26)
  have hus := Lib.hid (use_some (h.below hb0) (by omega) k hf hi)
  have hptr : e.ptr = .pointer (some ⟨e.g, 0, none⟩) := rfl
  rw [hptr] at hus
  obtain ⟨A, c, hD, hbc, hcm, _⟩ := own_slice (h.byt i e hi)
  have HE := Lib.hid hE
  have HC : Hid (∀ W1, StS W1 S q l V (es.set i e.used) → W1.cell? ⟨e.g, 32, none⟩ = some (.int .i64 e.n) ∧ W1.cell? ⟨e.g, 33, none⟩ = some (.slice A e.bs.length c) ∧ W1.cell? ⟨e.g, 34, none⟩ = some (.bool e.done)) := fun W1 hs => by
    rw [← hD]
    exact hs.cells hi
  clear h hD hf hE
  rw [hd] at HC
  have ho2 : ¬ off < 0 := by omega
  go_enter Tryd.func14, Tryd.ntmps14
  go_wp2_with (first | (refine wpList_load_row rfl 26 _ rfl w.heap.size rfl _ _ _ _ (heap_alloc_new _ _) Tryd.underlying26 rfl (by rw [arr8_size]; kernel_rfl) ?_) | (go_at_call 28; refine hus.out.mono ?_; rintro r W1 ⟨rfl, hs1, ht1⟩; have he := (ht1.cell (o := 0) ((HE.out.below hb0).ltG (i := 1) (by decide)) (hgE 1 (by decide))).trans ((HE.out.below hb0).c 1 (by decide)); have he2 : W1.drew.cell? ⟨gE 1, 0, none⟩ = some (errV (E 1)) := he; simp only [gE] at he he2; obtain ⟨c32, c33, c34⟩ := HC.out W1 hs1; have d32 : W1.drew.cell? ⟨e.g, 32, none⟩ = _ := c32; have d33 : W1.drew.cell? ⟨e.g, 33, none⟩ = _ := c33; have d34 : W1.drew.cell? ⟨e.g, 34, none⟩ = _ := c34; have HS := Lib.hid (And.intro hs1 ht1); clear hs1 ht1))
  go_quiet (fail)
  go_wp2_with fail
  go_ret2
  obtain ⟨s1, t1⟩ := HS.out
  have t2 : Turn (· = e.g) w W1 := (Turn.of_below hb0).trans t1 (fun k hk => .inl hk)
  first
  | exact ⟨rfl, s1, t2⟩
  | exact ⟨rfl, s1.keep (fun _ _ => rfl), t2.trans (Turn.of_below (below_drewN (Below.refl _ _) _)) (fun k hk => .inl hk)⟩
set_option maxRecDepth 100000 in
set_option maxHeartbeats 800000 in
theorem put_long (h : StS w S q l V es) (hl : es.length ≤ 16) (k : Nat → BitVec 8) {i : Nat} {e : Be} (hf : es.findIdx? (Be.is k) = some i) (hi : es[i]? = some e) (E : Nat → Addr) (hE : ErrsAt E w) (hgE : ∀ j, j < 19 → gE j ≠ e.g) (hd : e.done = false) (off : Int) (A : Option Addr) (m cb : Nat) (ho : 0 ≤ off) (hb : off ≤ (e.bs.length : Int)) (hn : e.n < off + m) (hn0 : 0 ≤ e.n ∧ e.n ≤ 30000 ∧ off ≤ 30000) :
    Calls Tryd.prog 14 #[.pointer (some ⟨S, 0, none⟩), .agg (arr8 32 k), .int .i64 off, .slice A m cb] w fun r w' => r = .returned (.tuple #[.int .i64 0, errV (E 1)]) ∧ StS w' S q l V (es.set i e.used) ∧ Turn (· = e.g) w w' := by
  have hb0 := below_alc w (.cells (arr8 32 k) 26)
  have hus := Lib.hid (use_some (h.below hb0) (by omega) k hf hi)
  have hptr : e.ptr = .pointer (some ⟨e.g, 0, none⟩) := rfl
  rw [hptr] at hus
  obtain ⟨A, c, hD, hbc, hcm, _⟩ := own_slice (h.byt i e hi)
  have HE := Lib.hid hE
  have HC : Hid (∀ W1, StS W1 S q l V (es.set i e.used) → W1.cell? ⟨e.g, 32, none⟩ = some (.int .i64 e.n) ∧ W1.cell? ⟨e.g, 33, none⟩ = some (.slice A e.bs.length c) ∧ W1.cell? ⟨e.g, 34, none⟩ = some (.bool e.done)) := fun W1 hs => by
    rw [← hD]
    exact hs.cells hi
  clear h hD hf hE
  rw [hd] at HC
  have ho2 : ¬ off < 0 := by omega
  have hb2 : ¬ (e.bs.length : Int) < off := by omega
  have hn2 : e.n - off < (m : Int) := by omega
  go_enter Tryd.func14, Tryd.ntmps14
  go_wp2_with (first | (refine wpList_load_row rfl 26 _ rfl w.heap.size rfl _ _ _ _ (heap_alloc_new _ _) Tryd.underlying26 rfl (by rw [arr8_size]; kernel_rfl) ?_) | (go_at_call 28; refine hus.out.mono ?_; rintro r W1 ⟨rfl, hs1, ht1⟩; have he := (ht1.cell (o := 0) ((HE.out.below hb0).ltG (i := 1) (by decide)) (hgE 1 (by decide))).trans ((HE.out.below hb0).c 1 (by decide)); have he2 : W1.drew.cell? ⟨gE 1, 0, none⟩ = some (errV (E 1)) := he; simp only [gE] at he he2; obtain ⟨c32, c33, c34⟩ := HC.out W1 hs1; have d32 : W1.drew.cell? ⟨e.g, 32, none⟩ = _ := c32; have d33 : W1.drew.cell? ⟨e.g, 33, none⟩ = _ := c33; have d34 : W1.drew.cell? ⟨e.g, 34, none⟩ = _ := c34; have HS := Lib.hid (And.intro hs1 ht1); clear hs1 ht1))
  go_quiet (fail)
  go_wp2_with fail
  go_ret2
  obtain ⟨s1, t1⟩ := HS.out
  have t2 : Turn (· = e.g) w W1 := (Turn.of_below hb0).trans t1 (fun k hk => .inl hk)
  first
  | exact ⟨rfl, s1, t2⟩
  | exact ⟨rfl, s1.keep (fun _ _ => rfl), t2.trans (Turn.of_below (below_drewN (Below.refl _ _) _)) (fun k hk => .inl hk)⟩
end
end Go.Proofs.YtegijahkiopncaaDoor
