import Derived.Test.YtegijahkiopncaaDoorBlo
import Derived.Deep.RegionLaw
/-
  blob: Get; Spoil; Delete.
  blob: Spoil; Delete.
-/
namespace Go.Proofs.YtegijahkiopncaaDoor
open Go.RowKit

theorem slice_cut {P : Program} {t e : TypeId} (hu : P.underlying t = some (.slice e)) (hs : (P.info? e).map (·.size) = some 1) (A : Option Addr) (n cap l m : Nat) (hc : l + m ≤ cap) (w : World) :
    (Instr.slice t (.slice A n cap) (some (.int .i64 (l : Int))) (some (.int .i64 ((l : Int) + m))) none).run P w = .ok (.slice (cutA A l cap) m (cap - l)) w := by
  have e2 : P.elem t = e := by simp [Program.elem, hu]
  rw [run_slice_lh (P := P) w t A n cap (by rw [e2]; exact hu) .i64 .i64 (l : Int) ((l : Int) + m) (by omega) (by omega) (by omega), e2]
  obtain ⟨i, hi, hz⟩ := Option.map_eq_some_iff.1 hs
  have h1 : ((l : Int) + m).toNat = l + m := by omega
  have h3 : l + m - l = m := by omega
  simp [sizeOf, typeInfo, hi, hz, Result.andThen, sliced, cutA, h1, h3]
theorem SlRead.take {w : World} {A : Option Addr} {xs : List Value} (h : SlRead w A xs) (n : Nat) : SlRead w A (xs.take n) := by
  intro hn
  have hx : 0 < xs.length := by rw [List.length_take] at hn; omega
  obtain ⟨b, o, e1, hlt, hc⟩ := h hx
  refine ⟨b, o, e1, hlt, fun j u hu => hc j u ?_⟩
  rw [List.getElem?_take] at hu
  split at hu
  · exact hu
  · cases hu
/-- a row of one's own is read -/
theorem own_read1 {w : World} {base n cap : Nat} {A : Option Addr} {t : TypeId} {xs : List Value} (h : w.ownsRow base t 1 (.slice A n cap) n xs) : SlRead w A xs := by
  intro hn
  rcases id h.2 with ⟨_, h0⟩ | ⟨g, c, cur, e1, _, hg, _⟩
  · have := h.1
    subst h0
    omega
  · simp only [Value.slice.injEq] at e1
    obtain ⟨rfl, _, rfl⟩ := e1
    refine ⟨g, 0, rfl, lt_heap hg, fun j u hu => ?_⟩
    have := h.cells (g := g) rfl j u hu
    rwa [Addr.add_lit] at this
section
variable {w : World} {S : Nat} {q l : Int} {V : Value} {es : List Be}
set_option maxRecDepth 100000 in
set_option maxHeartbeats 800000 in
theorem get_state (h : StS w S q l V es) (hl : es.length ≤ 16) (k : Nat → BitVec 8) {i : Nat} {e : Be} (hf : es.findIdx? (Be.is k) = some i) (hi : es[i]? = some e) (E : Nat → Addr) (hE : ErrsAt E w) (hgE : ∀ j, j < 19 → gE j ≠ e.g) (hd : e.done = false) (off n : Int) :
    Calls Tryd.prog 15 #[.pointer (some ⟨S, 0, none⟩), .agg (arr8 32 k), .int .i64 off, .int .i64 n] w fun r w' => r = .returned (.tuple #[.slice none 0 0, errV (E 16)]) ∧ StS w' S q l V (es.set i e.used) ∧ Turn (· = e.g) w w' := by
  have hb0 := below_alc w (.cells (arr8 32 k) 26)
  have hus := Lib.hid (use_some (h.below hb0) (by omega) k hf hi)
  have hptr : e.ptr = .pointer (some ⟨e.g, 0, none⟩) := rfl
  rw [hptr] at hus
  obtain ⟨A, c, hD, hbc, hcm, _⟩ := own_slice (h.byt i e hi)
  have HE := Lib.hid hE
  have HC : Hid (∀ W1, StS W1 S q l V (es.set i e.used) → W1.cell? ⟨e.g, 32, none⟩ = some (.int .i64 e.n) ∧ W1.cell? ⟨e.g, 33, none⟩ = some (.slice A e.bs.length c) ∧ W1.cell? ⟨e.g, 34, none⟩ = some (.bool e.done)) := fun W1 hs => by
    rw [← hD]
    exact hs.cells hi
  clear h hD hf hE
  rw [hd] at HC
  go_enter Tryd.func15, Tryd.ntmps15
  go_wp2_with (first | (refine wpList_load_row rfl 26 _ rfl w.heap.size rfl _ _ _ _ (heap_alloc_new _ _) Tryd.underlying26 rfl (by rw [arr8_size]; kernel_rfl) ?_) | (go_at_call 28; refine hus.out.mono ?_; rintro r W1 ⟨rfl, hs1, ht1⟩; have he := (ht1.cell (o := 0) ((HE.out.below hb0).ltG (i := 16) (by decide)) (hgE 16 (by decide))).trans ((HE.out.below hb0).c 16 (by decide)); have he2 : W1.drew.cell? ⟨gE 16, 0, none⟩ = some (errV (E 16)) := he; simp only [gE] at he he2; obtain ⟨c32, c33, c34⟩ := HC.out W1 hs1; have d32 : W1.drew.cell? ⟨e.g, 32, none⟩ = _ := c32; have d33 : W1.drew.cell? ⟨e.g, 33, none⟩ = _ := c33; have d34 : W1.drew.cell? ⟨e.g, 34, none⟩ = _ := c34; have HS := Lib.hid (And.intro hs1 ht1); clear hs1 ht1))
  go_quiet (fail)
  go_wp2_with fail
  go_ret2
  obtain ⟨s1, t1⟩ := HS.out
  have t2 : Turn (· = e.g) w W1 := (Turn.of_below hb0).trans t1 (fun k hk => .inl hk)
  first
  | exact ⟨rfl, s1, t2⟩
  | exact ⟨rfl, s1.keep (fun _ _ => rfl), t2.trans (Turn.of_below (below_drewN (Below.refl _ _) _)) (fun k hk => .inl hk)⟩
set_option maxRecDepth 100000 in
set_option maxHeartbeats 800000 in
theorem get_big (h : StS w S q l V es) (hl : es.length ≤ 16) (k : Nat → BitVec 8) {i : Nat} {e : Be} (hf : es.findIdx? (Be.is k) = some i) (hi : es[i]? = some e) (E : Nat → Addr) (hE : ErrsAt E w) (hgE : ∀ j, j < 19 → gE j ≠ e.g) (hd : e.done = true) (off n : Int) (hn : 200 < n) :
    Calls Tryd.prog 15 #[.pointer (some ⟨S, 0, none⟩), .agg (arr8 32 k), .int .i64 off, .int .i64 n] w fun r w' => r = .returned (.tuple #[.slice none 0 0, errV (E 1)]) ∧ StS w' S q l V (es.set i e.used) ∧ Turn (· = e.g) w w' := by
  have hb0 := below_alc w (.cells (arr8 32 k) 26)
  have hus := Lib.hid (use_some (h.below hb0) (by omega) k hf hi)
  have hptr : e.ptr = .pointer (some ⟨e.g, 0, none⟩) := rfl
  rw [hptr] at hus
  obtain ⟨A, c, hD, hbc, hcm, _⟩ := own_slice (h.byt i e hi)
  have HE := Lib.hid hE
  have HC : Hid (∀ W1, StS W1 S q l V (es.set i e.used) → W1.cell? ⟨e.g, 32, none⟩ = some (.int .i64 e.n) ∧ W1.cell? ⟨e.g, 33, none⟩ = some (.slice A e.bs.length c) ∧ W1.cell? ⟨e.g, 34, none⟩ = some (.bool e.done)) := fun W1 hs => by
    rw [← hD]
    exact hs.cells hi
  clear h hD hf hE
  rw [hd] at HC
  have hn2 : ¬ n < 0 := by omega
  go_enter Tryd.func15, Tryd.ntmps15
  go_wp2_with (first | (refine wpList_load_row rfl 26 _ rfl w.heap.size rfl _ _ _ _ (heap_alloc_new _ _) Tryd.underlying26 rfl (by rw [arr8_size]; kernel_rfl) ?_) | (go_at_call 28; refine hus.out.mono ?_; rintro r W1 ⟨rfl, hs1, ht1⟩; have he := (ht1.cell (o := 0) ((HE.out.below hb0).ltG (i := 1) (by decide)) (hgE 1 (by decide))).trans ((HE.out.below hb0).c 1 (by decide)); have he2 : W1.drew.cell? ⟨gE 1, 0, none⟩ = some (errV (E 1)) := he; simp only [gE] at he he2; obtain ⟨c32, c33, c34⟩ := HC.out W1 hs1; have d32 : W1.drew.cell? ⟨e.g, 32, none⟩ = _ := c32; have d33 : W1.drew.cell? ⟨e.g, 33, none⟩ = _ := c33; have d34 : W1.drew.cell? ⟨e.g, 34, none⟩ = _ := c34; have HS := Lib.hid (And.intro hs1 ht1); clear hs1 ht1))
  go_quiet (fail)
  go_wp2_with fail
  go_ret2
  obtain ⟨s1, t1⟩ := HS.out
  have t2 : Turn (· = e.g) w W1 := (Turn.of_below hb0).trans t1 (fun k hk => .inl hk)
  first
  | exact ⟨rfl, s1, t2⟩
  | exact ⟨rfl, s1.keep (fun _ _ => rfl), t2.trans (Turn.of_below (below_drewN (Below.refl _ _) _)) (fun k hk => .inl hk)⟩
set_option maxRecDepth 100000 in
set_option maxHeartbeats 800000 in
theorem get_far (h : StS w S q l V es) (hl : es.length ≤ 16) (k : Nat → BitVec 8) {i : Nat} {e : Be} (hf : es.findIdx? (Be.is k) = some i) (hi : es[i]? = some e) (E : Nat → Addr) (hE : ErrsAt E w) (hgE : ∀ j, j < 19 → gE j ≠ e.g) (hd : e.done = true) (off n : Int) (hn : 0 ≤ n ∧ n ≤ 200) (ho : 0 ≤ off) (hen : 0 ≤ e.n ∧ e.n ≤ 30000) (hf2 : e.n - n < off) :
    Calls Tryd.prog 15 #[.pointer (some ⟨S, 0, none⟩), .agg (arr8 32 k), .int .i64 off, .int .i64 n] w fun r w' => r = .returned (.tuple #[.slice none 0 0, errV (E 1)]) ∧ StS w' S q l V (es.set i e.used) ∧ Turn (· = e.g) w w' := by
  have hb0 := below_alc w (.cells (arr8 32 k) 26)
  have hus := Lib.hid (use_some (h.below hb0) (by omega) k hf hi)
  have hptr : e.ptr = .pointer (some ⟨e.g, 0, none⟩) := rfl
  rw [hptr] at hus
  obtain ⟨A, c, hD, hbc, hcm, _⟩ := own_slice (h.byt i e hi)
  have HE := Lib.hid hE
  have HC : Hid (∀ W1, StS W1 S q l V (es.set i e.used) → W1.cell? ⟨e.g, 32, none⟩ = some (.int .i64 e.n) ∧ W1.cell? ⟨e.g, 33, none⟩ = some (.slice A e.bs.length c) ∧ W1.cell? ⟨e.g, 34, none⟩ = some (.bool e.done)) := fun W1 hs => by
    rw [← hD]
    exact hs.cells hi
  clear h hD hf hE
  rw [hd] at HC
  have hn2 : ¬ n < 0 := by omega
  have hn3 : ¬ 200 < n := by omega
  have ho2 : ¬ off < 0 := by omega
  go_enter Tryd.func15, Tryd.ntmps15
  go_wp2_with (first | (refine wpList_load_row rfl 26 _ rfl w.heap.size rfl _ _ _ _ (heap_alloc_new _ _) Tryd.underlying26 rfl (by rw [arr8_size]; kernel_rfl) ?_) | (go_at_call 28; refine hus.out.mono ?_; rintro r W1 ⟨rfl, hs1, ht1⟩; have he := (ht1.cell (o := 0) ((HE.out.below hb0).ltG (i := 1) (by decide)) (hgE 1 (by decide))).trans ((HE.out.below hb0).c 1 (by decide)); have he2 : W1.drew.cell? ⟨gE 1, 0, none⟩ = some (errV (E 1)) := he; simp only [gE] at he he2; obtain ⟨c32, c33, c34⟩ := HC.out W1 hs1; have d32 : W1.drew.cell? ⟨e.g, 32, none⟩ = _ := c32; have d33 : W1.drew.cell? ⟨e.g, 33, none⟩ = _ := c33; have d34 : W1.drew.cell? ⟨e.g, 34, none⟩ = _ := c34; have HS := Lib.hid (And.intro hs1 ht1); clear hs1 ht1))
  go_quiet (fail)
  go_wp2_with fail
  go_ret2
  obtain ⟨s1, t1⟩ := HS.out
  have t2 : Turn (· = e.g) w W1 := (Turn.of_below hb0).trans t1 (fun k hk => .inl hk)
  first
  | exact ⟨rfl, s1, t2⟩
  | exact ⟨rfl, s1.keep (fun _ _ => rfl), t2.trans (Turn.of_below (below_drewN (Below.refl _ _) _)) (fun k hk => .inl hk)⟩
set_option maxRecDepth 100000 in
set_option maxHeartbeats 1600000 in
theorem get_ok (h : StS w S q l V es) (hl : es.length ≤ 16) (k : Nat → BitVec 8) {i : Nat} {e : Be} (hf : es.findIdx? (Be.is k) = some i) (hi : es[i]? = some e) (hd : e.done = true) (off n : Nat) (hn : n ≤ 200) (hfit : off + n ≤ e.bs.length) (hbn : (e.bs.length : Int) = e.n) (hen : e.n ≤ 30000) :
    Calls Tryd.prog 15 #[.pointer (some ⟨S, 0, none⟩), .agg (arr8 32 k), .int .i64 (off : Int), .int .i64 (n : Int)] w fun r w' => ∃ v W1, r = .returned (.tuple #[v, .nilIface]) ∧ StS W1 S q l V (es.set i e.used) ∧ Turn (· = e.g) w W1 ∧ Below W1.heap.size W1 w' ∧ w'.ownsRow W1.heap.size 5 1 v n (ints .u8 ((e.bs.drop off).take n)) := by
  have hb0 := below_alc w (.cells (arr8 32 k) 26)
  have hus := Lib.hid (use_some (h.below hb0) (by omega) k hf hi)
  have hptr : e.ptr = .pointer (some ⟨e.g, 0, none⟩) := rfl
  rw [hptr] at hus
  obtain ⟨B, c, hD, hbc, hcm, _⟩ := own_slice (h.byt i e hi)
  obtain ⟨bl, hbl⟩ : ∃ x, x = e.bs.length := ⟨_, rfl⟩
  rw [← hbl] at hD hfit hbn hbc
  have HC : Hid (∀ W1, StS W1 S q l V (es.set i e.used) → W1.cell? ⟨e.g, 32, none⟩ = some (.int .i64 e.n) ∧ W1.cell? ⟨e.g, 33, none⟩ = some (.slice B bl c) ∧ W1.cell? ⟨e.g, 34, none⟩ = some (.bool true)) := fun W1 hs => by
    rw [← hD, ← hd]
    exact hs.cells hi
  have HI := Lib.hid (And.intro hi (And.intro hD (And.intro hbl h)))
  have h1 : ¬ (n : Int) < 0 := by omega
  have h2 : ¬ 200 < (n : Int) := by omega
  have h3 : ¬ (off : Int) < 0 := by omega
  have h4 : ¬ e.n - (n : Int) < (off : Int) := by omega
  have h5 : -9223372036854775808 ≤ e.n - (n : Int) ∧ e.n - (n : Int) ≤ 9223372036854775807 := by omega
  obtain ⟨eg, heg⟩ : ∃ x, x = e.g := ⟨_, rfl⟩
  rw [← heg] at hus HC
  have HEG := Lib.hid heg
  clear h hD hf hi hbl heg hptr hd
  go_enter Tryd.func15, Tryd.ntmps15
  go_upto_region 8 with (first | (refine wpList_load_row rfl 26 _ rfl w.heap.size rfl _ _ _ _ (heap_alloc_new _ _) Tryd.underlying26 rfl (by rw [arr8_size]; kernel_rfl) ?_) | (go_at_call 28; refine hus.out.mono ?_; rintro r W1 ⟨rfl, hs1, ht1⟩; obtain ⟨c32, c33, c34⟩ := HC.out W1 hs1; have HS := Lib.hid (And.intro hs1 ht1); clear hs1 ht1))
  obtain ⟨s1, t1⟩ := HS.out
  have t2 : Turn (· = eg) w W1 := (Turn.of_below hb0).trans t1 (fun k hk => .inl hk)
  obtain ⟨hi, hD, hbl, h0⟩ := HI.out
  have hown : W1.ownsRow 0 5 1 (.slice B bl c) bl (ints .u8 e.bs) := by
    have := s1.byt i e.used (set_get hi)
    rw [← hD, hbl]
    exact this
  have hrd : SlRead W1 (cutA B off c) (ints .u8 ((e.bs.drop off).take n)) := by
    intro hpos
    have hlt : off < bl := by
      simp only [ints, List.length_map, List.length_take, List.length_drop] at hpos
      omega
    have h6 := ((own_read1 hown).cut off (cutA B off c) fun _ b o e1 => by rw [e1]; exact cutA_some hlt hbc).take n
    rw [ints_take] at h6
    exact h6 hpos
  have hln : ((e.bs.drop off).take n).length = n := by rw [List.length_take, List.length_drop]; omega
  have hcl := Lib.hid (cloneI_any (cutA B off c) ((e.bs.drop off).take n) (c - off) W1 hrd (by omega))
  rw [hln] at hcl
  clear hus HC c32 c34 hrd hown hln
  refine wp_region_lit ?_
  try simp only [put_list, List.set_cons_zero, List.set_cons_succ]
  refine wpList_run (by kernel_rfl) (.pointer (some ⟨eg, 0, none⟩)) (W1) (exec_move rfl (by kernel_rfl)) ?_
  try simp only [put_list, List.set_cons_zero, List.set_cons_succ]
  refine wpList_run (by kernel_rfl) (.pointer (some ⟨eg, 0, none⟩)) (W1) (exec_nil rfl (by kernel_rfl)) ?_
  try simp only [put_list, List.set_cons_zero, List.set_cons_succ]
  refine wpList_run (by kernel_rfl) (.pointer (some ⟨eg, 33, none⟩)) (W1) (exec_field (vx := .pointer (some ⟨eg, 0, none⟩)) rfl (by kernel_rfl) (by kernel_rfl)) ?_
  try simp only [put_list, List.set_cons_zero, List.set_cons_succ]
  refine wpList_run (by kernel_rfl) (.slice B bl c) (W1) (exec_load (vx := .pointer (some ⟨eg, 33, none⟩)) rfl (by kernel_rfl) (load_sl c33)) ?_
  try simp only [put_list, List.set_cons_zero, List.set_cons_succ]
  refine wpList_run (by kernel_rfl) (.int .i64 (off : Int)) (W1) (exec_move rfl (by kernel_rfl)) ?_
  try simp only [put_list, List.set_cons_zero, List.set_cons_succ]
  refine wpList_run (by kernel_rfl) (.int .i64 (off : Int)) (W1) (exec_move rfl (by kernel_rfl)) ?_
  try simp only [put_list, List.set_cons_zero, List.set_cons_succ]
  refine wpList_run (by kernel_rfl) (.int .i64 (n : Int)) (W1) (exec_move rfl (by kernel_rfl)) ?_
  try simp only [put_list, List.set_cons_zero, List.set_cons_succ]
  refine wpList_run (by kernel_rfl) (.int .i64 ((off : Int) + n)) (W1) (exec_bin (vx := .int .i64 (off : Int)) (vy := .int .i64 (n : Int)) rfl (by kernel_rfl) (add_i _ _ _ _ _ (by omega) (by omega) _)) ?_
  try simp only [put_list, List.set_cons_zero, List.set_cons_succ]
  refine wpList_run (by kernel_rfl) (.slice (cutA B off c) n (c - off)) (W1) (exec_slice (vx := .slice B bl c) (l := some (.int .i64 (off : Int))) (h := some (.int .i64 ((off : Int) + n))) (m := none) rfl (by kernel_rfl) (slice_cut Tryd.underlying24 (by kernel_rfl) B bl c off n (by omega) _)) ?_
  refine wpList_call (by kernel_rfl) 31 #[Go.Operand.tmp 55] #[24] #[.slice (cutA B off c) n (c - off)] _ rfl (by kernel_rfl) (by kernel_rfl) (hcl.out) ?_
  rintro r W2 ⟨v, rfl, hown2, hb2⟩
  refine ⟨_, rfl, ?_⟩
  try simp only [put_list, List.set_cons_zero, List.set_cons_succ]
  refine wpList_run (by kernel_rfl) (v) (W2) (exec_assign rfl (by kernel_rfl)) ?_
  try simp only [put_list, List.set_cons_zero, List.set_cons_succ]
  refine wpList_run (by kernel_rfl) (Go.Value.nilIface) (W2) (exec_assign rfl (by kernel_rfl)) ?_
  refine wpList_nil ?_
  simp only [put_list, List.set_cons_zero, List.set_cons_succ]
  have H2 := Lib.hid (And.intro hown2 hb2)
  clear hown2 hb2 hcl c33 h0
  go_wp2_with fail
  go_ret2
  exact ⟨_, W1, rfl, s1, by rw [← HEG.out]; exact t2, H2.out.2, H2.out.1⟩
end
/-- what Spoil makes of a byte -/
def spo (x : Int) : Int := bits .xor .u8 x 1
theorem spo_n8 (y : BitVec 8) : spo (n8 y) = n8 (y ^^^ 1#8) := by
  revert y
  decide +kernel
section
variable {w : World} {S : Nat} {q l : Int} {V : Value} {es : List Be}
set_option maxRecDepth 100000 in
set_option maxHeartbeats 1600000 in
theorem spoil_no (h : StS w S q l V es) (hl : es.length ≤ 16) (k : Nat → BitVec 8) {i : Nat} {e : Be} (hf : es.findIdx? (Be.is k) = some i) (hi : es[i]? = some e) (hn : e.bs = []) (at' : Int) :
    Calls Tryd.prog 23 #[.pointer (some ⟨S, 0, none⟩), .agg (arr8 32 k), .int .i64 at'] w fun r w' => r = .returned (.bool false) ∧ Below w.heap.size w w' := by
  have hb0 := below_alc w (.cells (arr8 32 k) 26)
  have hpl := Lib.hid (place_b (h.below hb0) (by omega) k)
  rw [bix_some hf] at hpl
  have hlt := (List.getElem?_eq_some_iff.1 hi).1
  obtain ⟨g, cc, hV⟩ : ∃ g c, V = .slice (some ⟨g, 0, none⟩) es.length c := by
    rcases h.own.2 with ⟨_, h0⟩ | ⟨g, c, _, h1, _⟩
    · omega
    · exact ⟨g, c, h1⟩
  obtain ⟨Bd, cd, hD, _⟩ := own_slice (h.byt i e hi)
  rw [hn] at hD
  have H := Lib.hid h
  have HF : Hid (∀ W1, Below (w.alloc (.cells (arr8 32 k) 26)).heap.size (w.alloc (.cells (arr8 32 k) 26)) W1 → W1.cell? ⟨S, 2, none⟩ = some (.slice (some ⟨g, 0, none⟩) es.length cc) ∧ W1.cell? ⟨g, i, none⟩ = some (.pointer (some ⟨e.g, 0, none⟩)) ∧ W1.cell? ⟨e.g, 33, none⟩ = some (.slice Bd 0 cd)) := fun W1 hb => by
    have h2 := (H.out.below hb0).below hb
    subst hV
    refine ⟨load_st2 S W1 q l _ h2.st, row_cell h2.own hi, ?_⟩
    have := cell_heap (h2.ent i e hi) (en_c33 _ _ _ _ _)
    rw [this, hD]
    rfl
  obtain ⟨len, hlen⟩ : ∃ x, x = es.length := ⟨_, rfl⟩
  rw [← hlen] at HF
  have hi0 : ¬ (i : Int) < 0 := by omega
  have hil : (i : Int) < (len : Int) := by omega
  clear h hf hi hV hD hlen hl hlt H hn
  generalize e.g = eg at *
  go_enter Tryd.func23, Tryd.ntmps23
  go_wp2_with (first | (refine wpList_load_row rfl 26 _ rfl w.heap.size rfl _ _ _ _ (heap_alloc_new _ _) Tryd.underlying26 rfl (by rw [arr8_size]; kernel_rfl) ?_) | (go_at_call 35; refine hpl.out.mono ?_; rintro r W1 ⟨rfl, hb1⟩; obtain ⟨hc1, hc2, hc3⟩ := HF.out W1 hb1))
  go_ret
  exact ⟨rfl, hb0.trans (hb1.mono hb0.size)⟩
set_option maxRecDepth 100000 in
set_option maxHeartbeats 1600000 in
theorem spoil_yes (h : StS w S q l V es) (hl : es.length ≤ 16) (k : Nat → BitVec 8) {i : Nat} {e : Be} (hf : es.findIdx? (Be.is k) = some i) (hi : es[i]? = some e) (m : Nat) (x : Int) (hx : e.bs[m]? = some x) (hbn : e.bs.length ≤ 30000) :
    Calls Tryd.prog 23 #[.pointer (some ⟨S, 0, none⟩), .agg (arr8 32 k), .int .i64 (m : Int)] w fun r w' => r = .returned (.bool true) ∧ StS w' S q l V (es.set i ⟨e.g, e.f, e.n, e.D, e.bs.set m (spo x), e.done, e.idle⟩) ∧ Turn (fun y => e.D.ownBlock = some y) w w' := by
  have hb0 := below_alc w (.cells (arr8 32 k) 26)
  have hpl := Lib.hid (place_b (h.below hb0) (by omega) k)
  rw [bix_some hf] at hpl
  have hlt := (List.getElem?_eq_some_iff.1 hi).1
  have hml := (List.getElem?_eq_some_iff.1 hx).1
  obtain ⟨g, cc, hV⟩ : ∃ g c, V = .slice (some ⟨g, 0, none⟩) es.length c := by
    rcases h.own.2 with ⟨_, h0⟩ | ⟨g, c, _, h1, _⟩
    · omega
    · exact ⟨g, c, h1⟩
  obtain ⟨d, cd, hD⟩ : ∃ d c, e.D = .slice (some ⟨d, 0, none⟩) e.bs.length c := by
    rcases (h.byt i e hi).2 with ⟨_, h0⟩ | ⟨g, c, _, h1, _⟩
    · omega
    · exact ⟨g, c, h1⟩
  have H := Lib.hid (And.intro h (And.intro hD (And.intro hi hx)))
  have HF : Hid (∀ W1, Below (w.alloc (.cells (arr8 32 k) 26)).heap.size (w.alloc (.cells (arr8 32 k) 26)) W1 → W1.cell? ⟨S, 2, none⟩ = some (.slice (some ⟨g, 0, none⟩) es.length cc) ∧ W1.cell? ⟨g, i, none⟩ = some (.pointer (some ⟨e.g, 0, none⟩)) ∧ W1.cell? ⟨e.g, 33, none⟩ = some (.slice (some ⟨d, 0, none⟩) e.bs.length cd) ∧ W1.cell? ⟨d, m, none⟩ = some (.int .u8 x) ∧ W1.frozen? ⟨d, m, none⟩ = false) := fun W1 hb => by
    have h2 := (H.out.1.below hb0).below hb
    have hb2 := h2.byt i e hi
    subst hV
    obtain ⟨cur, hcu⟩ := own_cells hb2 (k := d) (by rw [hD]; rfl)
    refine ⟨load_st2 S W1 q l _ h2.st, row_cell h2.own hi, ?_, ?_, thaw_heap hcu m⟩
    · have := cell_heap (h2.ent i e hi) (en_c33 _ _ _ _ _)
      rw [this, hD]
    · rw [hD] at hb2
      have := hb2.cells (g := d) rfl m (.int .u8 x) (by simp [ints, hx])
      rw [Addr.add_lit] at this
      simpa using this
  obtain ⟨len, hlen⟩ : ∃ x, x = es.length := ⟨_, rfl⟩
  obtain ⟨bl, hbl⟩ : ∃ x, x = e.bs.length := ⟨_, rfl⟩
  rw [← hlen, ← hbl] at HF
  have hi0 : ¬ (i : Int) < 0 := by omega
  have hil : (i : Int) < (len : Int) := by omega
  have hm0 : ¬ (m : Int) < 0 := by omega
  have hmb : (m : Int) < (bl : Int) := by omega
  have hb00 : ((bl : Int) == 0) = false := by
    rw [beq_eq_false_iff_ne]
    omega
  have htm : Int.tmod (m : Int) (bl : Int) = (m : Int) := Int.tmod_eq_of_lt (by omega) (by omega)
  have hw : wrap64 (m : Int) = (m : Int) := by unfold wrap64; omega
  have hbn2 : bl ≤ 30000 := by omega
  clear h hf hi hV hD hlen hl hlt hx hbl hml hbn
  obtain ⟨eg, heg⟩ : ∃ x, x = e.g := ⟨_, rfl⟩
  rw [← heg] at HF
  clear heg
  go_enter Tryd.func23, Tryd.ntmps23
  go_wp2_with (first | (refine wpList_load_row rfl 26 _ rfl w.heap.size rfl _ _ _ _ (heap_alloc_new _ _) Tryd.underlying26 rfl (by rw [arr8_size]; kernel_rfl) ?_) | (go_at_call 35; refine hpl.out.mono ?_; rintro r W1 ⟨rfl, hb1⟩; obtain ⟨hc1, hc2, hc3, hc4, hf4⟩ := HF.out W1 hb1; have HB1 := Lib.hid hb1; clear hb1))
  go_ret
  have hb2 := hb0.trans (HB1.out.mono hb0.size)
  obtain ⟨h, hD, hi, hx⟩ := H.out
  have h2 := h.below hb2
  have hset : Turn (· = d) W1 (W1.setCell ⟨d, m, none⟩ (.int .u8 (spo x))) := set_turnH W1 d m _
  have hdo : e.D.ownBlock = some d := by rw [hD]; rfl
  refine ⟨rfl, h2.ent1 hi (e' := ⟨e.g, e.f, e.n, e.D, e.bs.set m (spo x), e.done, e.idle⟩) rfl ?_ ?_ (fun k hk => .inl hk) (fun y hy h1 h3 => hset.block y hy (fun z => h3 (by rw [hdo, z]))), (Turn.of_below hb2).trans hset (fun y hy => .inl (by rw [hdo, hy]))⟩
  · have hen := h2.ent i e hi
    obtain ⟨cur, hcu⟩ := own_cells (h2.byt i e hi) hdo
    exact (hset.block e.g (lt_heap hen) (ty_ne hen hcu (by decide))).trans hen
  · have ho := h2.byt i e hi
    rw [hD] at ho ⊢
    show (W1.setCell ⟨d, m, none⟩ (.int .u8 (spo x))).ownsRow 0 5 1 (.slice (some ⟨d, 0, none⟩) e.bs.length cd) (e.bs.set m (spo x)).length (ints .u8 (e.bs.set m (spo x)))
    rw [List.length_set]
    rcases id ho.2 with ⟨h0, _⟩ | ⟨g', c', cur, e1, hb', hg', hnc, hcm, hcs, htk⟩
    · cases h0
    · simp only [Value.slice.injEq, Option.some.injEq, Addr.mk.injEq, and_true, true_and] at e1
      obtain ⟨rfl, rfl⟩ := e1
      have hml := (List.getElem?_eq_some_iff.1 hx).1
      refine ⟨by simp [ints], .inr ⟨d, cd, _, rfl, hb', heap_setCell_same W1 d m _ _ _ hg', hnc, hcm, by rw [Array.size_setIfInBounds]; exact hcs, ?_⟩⟩
      rw [Nat.mul_one] at htk ⊢
      have e2 : (cur.setIfInBounds m (.int .u8 (spo x))).toList = cur.toList.set m (.int .u8 (spo x)) := by simp
      have e3 : ints .u8 (e.bs.set m (spo x)) = (ints .u8 e.bs).set m (.int .u8 (spo x)) := by simp [ints, List.map_set]
      rw [e2, e3, ← htk, List.take_set]
end
theorem store_V {W : World} {S : Nat} {u : Value} {g n c : Nat} (h : W.cell? ⟨S, 2, none⟩ = some u) (hf : W.frozen? ⟨S, 2, none⟩ = false) : (Instr.storeAt 57 (.pointer (some ⟨S, 2, none⟩)) (.slice (some ⟨g, 0, none⟩) n c)).run Tryd.prog W = .ok () (W.setCell ⟨S, 2, none⟩ (.slice (some ⟨g, 0, none⟩) n c)) := by
  have h2 := Tryd.underlying57
  go_simp
theorem step_append_nil {P : Program} {ops : Array Oper} {o : Oper} {a : Act} {w : World} {K : Act → World → Prop} {Q : Exit → Act → World → Prop} {E' : Prop}
    (hg : o.guard = none) (s x : Operand) (t : TypeId) (hop : o.op = Op.call { callee := Callee.builtin Builtin.append, args := #[s, x], argTypes := #[t, t] })
    (e : TypeId) (i : TypeInfo) (h1 : P.underlying t = some (.slice e)) (h2 : P.info? e = some i)
    (b cap : Nat) (hs : a.eval s = .slice (some ⟨b, 0, none⟩) 0 cap) (cur : Array Value) (hcur : w.heap[b]? = some (.cells cur e (0, 0)))
    (ad : Addr) (c : Nat) (hx : a.eval x = .slice (some ad) 0 c)
    (hK : K (a.put o.dst (.slice (some ⟨b, 0, none⟩) 0 cap)) w) :
    if Region.wanted o (yielded ops a.tmps) = true then Oper.wp P o a w K Q else E' := by
  have hw : Region.wanted o (yielded ops a.tmps) = true := by simp [Region.wanted, hg]
  rw [if_pos hw]
  have hrun := run_append_room (P := P) w t o.type e i h1 h2 b 0 cap cur hcur ad 0 c [] (by simp) (fun j u hu => by simp at hu) (fun u hu => by simp at hu) (by omega) (by simp)
  have e1 : w.setRow b (cur.toList.take (0 * i.size) ++ [] ++ cur.toList.drop (0 * i.size + ([] : List Value).length)).toArray = w := by
    have : (cur.toList.take (0 * i.size) ++ [] ++ cur.toList.drop (0 * i.size + ([] : List Value).length)).toArray = cur := by simp
    rw [this]
    exact setRow_self w b cur e (0, 0) hcur
  rw [e1] at hrun
  unfold Oper.wp
  simp [execOp, hop, resolve, invoke, builtin, hs, hx, hrun, Result.andThen]
  exact hK
set_option maxRecDepth 100000 in
set_option maxHeartbeats 1600000 in
theorem delete_one (g c : Nat) (e : Be) (w : World) (hown : w.ownsRow 0 60 1 (.slice (some ⟨g, 0, none⟩) 1 c) 1 [e.ptr]) :
    Calls Tryd.prog 37 #[.slice (some ⟨g, 0, none⟩) 1 c, .int .i64 0, .int .i64 1] w fun r w' => r = .returned (.slice (some ⟨g, 0, none⟩) 0 c) ∧ w'.ownsRow 0 60 1 (.slice (some ⟨g, 0, none⟩) 0 c) 0 [] ∧ Turn (· = g) w w' := by
  obtain ⟨cur, hcur, hnc, hcm, hcs⟩ : ∃ cur, w.heap[g]? = some (.cells cur 60 (0, 0)) ∧ 1 ≤ c ∧ c ≤ maxLen ∧ cur.size = c := by
    rcases hown.2 with ⟨h2, _⟩ | ⟨g', c', cur, e1, _, h1, h2, h3, h4, h5⟩
    · cases h2
    · simp only [Value.slice.injEq, Option.some.injEq, Addr.mk.injEq, and_true, true_and] at e1
      obtain ⟨rfl, rfl⟩ := e1
      exact ⟨cur, h1, h2, h3, by omega⟩
  obtain ⟨inf, hinf, hsz⟩ := Option.map_eq_some_iff.1 (show (Tryd.prog.info? 60).map (·.size) = some 1 by kernel_rfl)
  have hg1 : w.drew.heap[g]? = some (.cells cur 60 (0, 0)) := hcur
  have hcl : ∀ ty, (Builtin.clear_ #[57] ty #[.slice (some ⟨g, 0, none⟩) 1 c]).run Tryd.prog w.drew = .ok (.tuple #[]) (w.drew.setRow g (cur.toList.take 0 ++ List.replicate 1 (Value.pointer none) ++ cur.toList.drop (0 + 1)).toArray) := fun ty => clear_p w.drew ty g 0 1 c cur hg1 (by omega) (by omega)
  obtain ⟨W2, hW2⟩ : ∃ W2, W2 = (w.drew.setRow g (cur.toList.take 0 ++ List.replicate 1 (Value.pointer none) ++ cur.toList.drop (0 + 1)).toArray) := ⟨_, rfl⟩
  rw [← hW2] at hcl
  have HF : Hid (W2.ownsRow 0 60 1 (.slice (some ⟨g, 0, none⟩) 0 c) 0 [] ∧ Turn (· = g) w W2) := by
    have h5 : W2.heap[g]? = some (.cells (cur.toList.take 0 ++ List.replicate 1 (Value.pointer none) ++ cur.toList.drop (0 + 1)).toArray 60 (0, 0)) := by rw [hW2]; exact setRow_heap w.drew g cur _ _ _ hg1
    refine ⟨⟨rfl, .inr ⟨g, c, _, rfl, Nat.zero_le _, h5, Nat.zero_le _, hcm, ?_, by simp⟩⟩, ?_⟩
    · have : cur.toList.length = c := by rw [Array.length_toList]; exact hcs
      simp only [List.size_toArray, List.length_append, List.length_take, List.length_drop, List.length_replicate]
      omega
    · rw [hW2]
      exact ⟨rfl, rfl, rfl, by simp [World.setRow], fun k _ hk => setRow_other w.drew g k _ hk⟩
  have HC : Hid (w.drew.heap[g]? = some (.cells cur 60 (0, 0))) := hg1
  have hi1c : (1 : Int) ≤ (c : Int) := by omega
  obtain ⟨A, hA⟩ : ∃ A : Addr, (if c = 1 then (some (⟨g, 0, none⟩ : Addr)) else some ⟨g, 1, none⟩) = some A := by
    by_cases h : c = 1
    · exact ⟨_, by rw [if_pos h]⟩
    · exact ⟨_, by rw [if_neg h]⟩
  clear hW2 hown hcs hcur hg1
  go_enter Tryd.func37, Tryd.ntmps37
  go_wp2_with fail
  go_region_law (refine step_append_nil rfl (.tmp 22) (.tmp 25) 57 rfl 60 inf Tryd.underlying57 hinf g c (by simp [Act.eval, Act.put]) cur HC.out A (c - 1) (by simp [Act.eval, Act.put]) ?_)
  go_wp2
  go_ret
  exact ⟨rfl, HF.out.1, HF.out.2⟩
end Go.Proofs.YtegijahkiopncaaDoor
