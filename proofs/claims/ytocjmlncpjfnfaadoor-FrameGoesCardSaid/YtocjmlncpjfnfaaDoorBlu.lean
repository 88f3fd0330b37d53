import Derived.Test.YtocjmlncpjfnfaaDoorPsh
import Derived.Test.YtocjmlncpjfnfaaDoorBli
import Derived.Deep.RegionLaw
import Derived.Test.YtocjmlncpjfnfaaDoorRsm
/-
  couriermake.File.
  blob: Get; Spoil; Delete.
  blob: Spoil; Delete.
  blob: Commit; content.
  blob: Get, Commit, Spoil, Delete on the bundled store.
-/
namespace Go.Proofs.YtocjmlncpjfnfaaDoor
open Go.RowKit

theorem info_U2 : (Tryd.prog.info? 5).map (fun i => (i.size, i.bytes)) = some (1, 1) := by kernel_rfl
theorem zero_U (i : TypeInfo) (h : Tryd.prog.info? 5 = some i) : i.zero = some (.int .u8 0) := by
  have : (Tryd.prog.info? 5).bind (·.zero) = some (.int .u8 0) := by kernel_rfl
  rw [h] at this
  exact this
theorem run_app_U (ty : TypeId) (W : World) (base : Nat) (v : Value) (n : Nat) (l : List UInt8) (hown : W.ownsRow base 5 1 v n (bcells l)) (B : List UInt8) (a : Addr) (m c : Nat) (hm : B.length = m)
    (hnews : ∀ j u, (bcells B)[j]? = some u → W.cell? (a.add j) = some u) (hn : n + m ≤ 100000) (hbase : base ≤ W.heap.size) :
    ∃ v' w', (Builtin.append_ #[25, 25] ty #[v, .slice (some a) m c]).run Tryd.prog W = .ok v' w' ∧ w'.ownsRow base 5 1 v' (n + m) (bcells (l ++ B)) ∧ W.grownBy w' v.ownBlock ∧ (∀ q, v'.ownBlock = some q → v.ownBlock = some q ∨ W.heap.size ≤ q) := by
  obtain ⟨i, hi, hz⟩ := Option.map_eq_some_iff.1 info_U2
  simp only [Prod.mk.injEq] at hz
  obtain ⟨v', w', h1, h2, h3, _, h4⟩ := run_append_own2 (P := Tryd.prog) W base 25 ty 5 i (.int .u8 0) 1 1 Tryd.underlying25 hi (zero_U i hi) hz.1 hz.2 rfl (by omega) v n (bcells l) hown a m c (bcells B) (by rw [bcells_len, hm, Nat.mul_one]) hnews (bcells_one B) (by unfold maxLen; omega) (by omega) hbase
  exact ⟨v', w', h1, by rw [bcells_app]; exact h2, h3, h4⟩
theorem addw (t : TypeId) (x y : Operand) (w : World) (a b : Int) : (do eqGuard .add t x y (.int .i64 a) (.int .i64 b); binOp .add t (.int .i64 a) (.int .i64 b) : Sem Value).run Tryd.prog w = .ok (.int .i64 (wrap64 (a + b))) w := by
  simp [eqGuard, binOp, Op.intArith, IntKind.wrap_i64]
  unfold wrap64
  omega
theorem quo_13 (t : TypeId) (x y : Operand) (s n : Int) (hn : s / 13 = n) (hs : 0 ≤ s ∧ s ≤ 2000000) (w : World) : (do eqGuard .quo t x y (.int .i64 s) (.int .i64 13); binOp .quo t (.int .i64 s) (.int .i64 13) : Sem Value).run Tryd.prog w = .ok (.int .i64 n) w := by
  have e : Int.tdiv s 13 = n := by rw [Int.tdiv_eq_ediv_of_nonneg hs.1]; exact hn
  have e2 : IntKind.i64.wrap (Int.tdiv s 13) = n := by rw [e]; exact IntWalk.i64_in _ (by omega)
  simp [eqGuard, binOp, Op.intDiv, e2]
theorem bsl_U (x : UInt8) (w : World) : (Instr.buildSlice 25 1 #[(0, cellB x)]).run Tryd.prog w = .ok (.slice (some ⟨w.heap.size, 0, none⟩) 1 1) (w.alloc (.cells #[cellB x] 5)) := by kernel_rfl
/-- a byte of a file -/
def fileB (z : Int) (i : Nat) : UInt8 := UInt8.ofNat (wrap64 (wrap64 (z + ((i * 7 : Nat) : Int)) + ((i / 13 : Nat) : Int)) % 256).toNat
def fileL (z : Int) (n : Nat) : List UInt8 := (List.range n).map (fileB z)
theorem fileL_len (z : Int) (n : Nat) : (fileL z n).length = n := by simp [fileL]
theorem fileL_succ (z : Int) (n : Nat) : fileL z (n + 1) = fileL z n ++ [fileB z n] := by simp [fileL, List.range_succ]
set_option maxRecDepth 100000 in
set_option maxHeartbeats 3200000 in
theorem file_any (z : Int) (n : Nat) (hn : n ≤ 90000) (w : World) : Calls Tryd.prog 23 #[.int .i64 z, .int .i64 (n : Int)] w fun e w' => ∃ A c, e = .returned (.slice A n c) ∧ w'.ownsRow w.heap.size 5 1 (.slice A n c) n (bcells (fileL z n)) ∧ Below w.heap.size w w' := by
  go_enter Tryd.func23, Tryd.ntmps23
  go_wp2_with fail
  go_loopw [5, 6] (fun x y wr => ∃ (k : Nat) (vo : Value), k ≤ n ∧ vo = x ∧ y = .int .i64 (k : Int) ∧ wr.ownsRow w.heap.size 5 1 vo k (bcells (fileL z k)) ∧ Below w.heap.size w wr) (fun _ y _ => n - (intOf y).toNat)
  case atStart => exact ⟨0, _, by omega, rfl, rfl, ⟨rfl, .inl ⟨rfl, rfl⟩⟩, Below.refl _ _⟩
  case round =>
    obtain ⟨k, vo, hk, rfl, rfl, hown, hb⟩ := hrel
    by_cases hlt : k < n
    · have hlt' : (k : Int) < (n : Int) := by omega
      have hbb := below_alc wr (.cells #[cellB (fileB z k)] 5)
      obtain ⟨v2, W4, hap, hown4, hg4, _⟩ := run_app_U 25 (wr.alloc (.cells #[cellB (fileB z k)] 5)) w.heap.size vo _ _ (hown.alloc _) [fileB z k] ⟨wr.heap.size, 0, none⟩ 1 1 rfl (fun j u hu => by rw [add_eq, Nat.zero_add]; have := range_new (heap1_0 wr (.cells #[cellB (fileB z k)] 5)) j u hu; rwa [Nat.zero_add] at this) (by omega) (Nat.le_trans hb.size hbb.size)
      have hb4 : Below w.heap.size w W4 := (hb.trans (hbb.mono hb.size)).trans ⟨hg4.os, hg4.tape, hg4.output, hg4.size, fun q hq => hg4.block q (by have h1 := hb.size; have h2 := hbb.size; omega) (fun e => by have h1 := (hown.lt q e.symm).1; omega)⟩
      rw [← fileL_succ] at hown4
      have H4 := Lib.hid (And.intro hown4 (And.intro hb4 hlt))
      obtain ⟨x, hx⟩ : ∃ x, x = fileB z k := ⟨_, rfl⟩
      rw [← hx] at hap
      obtain ⟨i, hi⟩ : ∃ i : Int, i = (k : Int) := ⟨_, rfl⟩
      obtain ⟨i7, h7'⟩ : ∃ i7 : Int, i7 = ((k * 7 : Nat) : Int) := ⟨_, rfl⟩
      obtain ⟨i13, h13'⟩ : ∃ i13 : Int, i13 = ((k / 13 : Nat) : Int) := ⟨_, rfl⟩
      have h7 : i * 7 = i7 := by rw [hi, h7']; omega
      have h13 : i / 13 = i13 := by rw [hi, h13']; omega
      have hcv : ∀ w, (convert 3 5 (.int .i64 (wrap64 (wrap64 (z + i7) + i13)))).run Tryd.prog w = .ok (cellB x) w := fun w => by rw [cvt_u8, hx, h7', h13']; rfl
      have hib : 0 ≤ i ∧ i ≤ 90000 := by omega
      rw [← hi]
      have HI := Lib.hid hi
      clear hown4 hg4 hb4 hown hb hbb hx h7' h13' hlt
      go_upto_region 5 with (fail)
      refine wp_region_lit ?_
      try simp only [put_list, List.set_cons_zero, List.set_cons_succ]
      refine wpList_run (by kernel_rfl) (vo) (wr) (exec_move rfl (by kernel_rfl)) ?_
      try simp only [put_list, List.set_cons_zero, List.set_cons_succ]
      refine wpList_run (by kernel_rfl) (.int .i64 z) (wr) (exec_move rfl (by kernel_rfl)) ?_
      try simp only [put_list, List.set_cons_zero, List.set_cons_succ]
      refine wpList_run (by kernel_rfl) (.int .i64 i) (wr) (exec_move rfl (by kernel_rfl)) ?_
      try simp only [put_list, List.set_cons_zero, List.set_cons_succ]
      refine wpList_run (by kernel_rfl) (.int .i64 i7) (wr) (exec_bin (vx := .int .i64 i) (vy := Go.Value.int Go.IntKind.i64 7) rfl (by kernel_rfl) (mul_int _ _ _ wr i 7 i7 h7 (by omega) (by omega))) ?_
      try simp only [put_list, List.set_cons_zero, List.set_cons_succ]
      refine wpList_run (by kernel_rfl) (.int .i64 (wrap64 (z + i7))) (wr) (exec_bin (vx := .int .i64 z) (vy := .int .i64 i7) rfl (by kernel_rfl) (addw _ _ _ wr _ _)) ?_
      try simp only [put_list, List.set_cons_zero, List.set_cons_succ]
      refine wpList_run (by kernel_rfl) (.int .i64 i) (wr) (exec_move rfl (by kernel_rfl)) ?_
      try simp only [put_list, List.set_cons_zero, List.set_cons_succ]
      refine wpList_run (by kernel_rfl) (.int .i64 i13) (wr) (exec_bin (vx := .int .i64 i) (vy := Go.Value.int Go.IntKind.i64 13) rfl (by kernel_rfl) (quo_13 _ _ _ i i13 h13 (by omega) wr)) ?_
      try simp only [put_list, List.set_cons_zero, List.set_cons_succ]
      refine wpList_run (by kernel_rfl) (.int .i64 (wrap64 (wrap64 (z + i7) + i13))) (wr) (exec_bin (vx := .int .i64 (wrap64 (z + i7))) (vy := .int .i64 i13) rfl (by kernel_rfl) (addw _ _ _ wr _ _)) ?_
      try simp only [put_list, List.set_cons_zero, List.set_cons_succ]
      refine wpList_run (by kernel_rfl) (cellB x) (wr) (exec_cvt (vx := .int .i64 (wrap64 (wrap64 (z + i7) + i13))) rfl (by kernel_rfl) (hcv wr)) ?_
      try simp only [put_list, List.set_cons_zero, List.set_cons_succ]
      refine wpList_run (by kernel_rfl) (.slice (some ⟨wr.heap.size, 0, none⟩) 1 1) ((wr.alloc (.cells #[cellB x] 5))) (exec_bsl (vs := #[(0, cellB x)]) rfl (by kernel_rfl) (bsl_U x wr)) ?_
      try simp only [put_list, List.set_cons_zero, List.set_cons_succ]
      refine wpList_run (by kernel_rfl) (v2) (W4) (exec_append rfl rfl (vs := vo) (vx := .slice (some ⟨wr.heap.size, 0, none⟩) 1 1) (by kernel_rfl) (hap)) ?_
      try simp only [put_list, List.set_cons_zero, List.set_cons_succ]
      refine wpList_run (by kernel_rfl) (v2) (W4) (exec_assign rfl (by kernel_rfl)) ?_
      refine wpList_nil ?_
      simp only [put_list, List.set_cons_zero, List.set_cons_succ]
      have hw1 : wrap64 (i + 1) = i + 1 := by unfold wrap64; omega
      clear h7 h13 hcv hap
      go_wp2_with fail
      go_roundw
      case rel => exact ⟨k + 1, v2, by have := H4.out.2.2; omega, rfl, by first | (rw [hw1, HI.out]; rfl) | (rw [HI.out]; rfl) | go_num, H4.out.1, H4.out.2.1⟩
      case measure => have h1 := HI.out; have h2 := H4.out.2.2; simp [intOf] <;> omega
    · obtain rfl : k = n := by omega
      obtain ⟨A, c, rfl, _⟩ := own_slice hown
      have HX := Lib.hid (And.intro hown hb)
      clear hown hb hlt
      go_wp2_with fail
      go_ret
      exact ⟨A, c, rfl, HX.out⟩
theorem slice_cut {P : Program} {t e : TypeId} (hu : P.underlying t = some (.slice e)) (hs : (P.info? e).map (·.size) = some 1) (A : Option Addr) (n cap l m : Nat) (hc : l + m ≤ cap) (w : World) :
    (Instr.slice t (.slice A n cap) (some (.int .i64 (l : Int))) (some (.int .i64 ((l : Int) + m))) none).run P w = .ok (.slice (cutA A l cap) m (cap - l)) w := by
  have e2 : P.elem t = e := by simp [Program.elem, hu]
  rw [run_slice_lh (P := P) w t A n cap (by rw [e2]; exact hu) .i64 .i64 (l : Int) ((l : Int) + m) (by omega) (by omega) (by omega), e2]
  obtain ⟨i, hi, hz⟩ := Option.map_eq_some_iff.1 hs
  have h1 : ((l : Int) + m).toNat = l + m := by omega
  have h3 : l + m - l = m := by omega
  simp [sizeOf, typeInfo, hi, hz, Result.andThen, sliced, cutA, h1, h3]
theorem SlRead.takeB {w : World} {A : Option Addr} {xs : List Value} (h : SlRead w A xs) (n : Nat) : SlRead w A (xs.take n) := by
  intro hn
  have hx : 0 < xs.length := by rw [List.length_take] at hn; omega
  obtain ⟨b, o, e1, hlt, hc⟩ := h hx
  refine ⟨b, o, e1, hlt, fun j u hu => hc j u ?_⟩
  rw [List.getElem?_take] at hu
  split at hu
  · exact hu
  · cases hu
/-- a row of one's own is read -/
theorem own_read1 {w : World} {base n cap : Nat} {A : Option Addr} {t : TypeId} {xs : List Value} (h : w.ownsRow base t 1 (.slice A n cap) n xs) : SlRead w A xs := by
  intro hn
  rcases id h.2 with ⟨_, h0⟩ | ⟨g, c, cur, e1, _, hg, _⟩
  · have := h.1
    subst h0
    omega
  · simp only [Value.slice.injEq] at e1
    obtain ⟨rfl, _, rfl⟩ := e1
    refine ⟨g, 0, rfl, lt_heap hg, fun j u hu => ?_⟩
    have := h.cells (g := g) rfl j u hu
    rwa [Addr.add_lit] at this
section
variable {w : World} {S : Nat} {q l : Int} {V : Value} {es : List Be}
set_option maxRecDepth 100000 in
set_option maxHeartbeats 800000 in
theorem get_state (h : StS w S q l V es) (hl : es.length ≤ 16) (k : Nat → BitVec 8) {i : Nat} {e : Be} (hf : es.findIdx? (Be.is k) = some i) (hi : es[i]? = some e) (E : Nat → Addr) (hE : ErrsAt E w) (hgE : ∀ j, j < 19 → gE j ≠ e.g) (hd : e.done = false) (off n : Int) :
    Calls Tryd.prog 82 #[.pointer (some ⟨S, 0, none⟩), .agg (arr8 32 k), .int .i64 off, .int .i64 n] w fun r w' => r = .returned (.tuple #[.slice none 0 0, errV (E 16)]) ∧ StS w' S q l V (es.set i e.used) ∧ Turn (· = e.g) w w' := by
  have hb0 := below_alc w (.cells (arr8 32 k) 23)
  have hus := Lib.hid (use_some (h.below hb0) (by omega) k hf hi)
  have hptr : e.ptr = .pointer (some ⟨e.g, 0, none⟩) := rfl
  rw [hptr] at hus
  obtain ⟨A, c, hD, hbc, hcm, _⟩ := own_slice (h.byt i e hi)
  have HE := Lib.hid hE
  have HC : Hid (∀ W1, StS W1 S q l V (es.set i e.used) → W1.cell? ⟨e.g, 32, none⟩ = some (.int .i64 e.n) ∧ W1.cell? ⟨e.g, 33, none⟩ = some (.slice A e.bs.length c) ∧ W1.cell? ⟨e.g, 34, none⟩ = some (.bool e.done)) := fun W1 hs => by
    rw [← hD]
    exact hs.cells hi
  clear h hD hf hE
  rw [hd] at HC
  go_enter Tryd.func82, Tryd.ntmps82
  go_wp2_with (first | (refine wpList_load_row rfl 23 _ rfl w.heap.size rfl _ _ _ _ (heap_alloc_new _ _) Tryd.underlying23 rfl (by rw [arr8_size]; kernel_rfl) ?_) | (go_at_call 87; refine hus.out.mono ?_; rintro r W1 ⟨rfl, hs1, ht1⟩; have he := (ht1.cell (o := 0) ((HE.out.below hb0).ltG (i := 16) (by decide)) (hgE 16 (by decide))).trans ((HE.out.below hb0).c 16 (by decide)); have he2 : W1.drew.cell? ⟨gE 16, 0, none⟩ = some (errV (E 16)) := he; simp only [gE] at he he2; obtain ⟨c32, c33, c34⟩ := HC.out W1 hs1; have d32 : W1.drew.cell? ⟨e.g, 32, none⟩ = _ := c32; have d33 : W1.drew.cell? ⟨e.g, 33, none⟩ = _ := c33; have d34 : W1.drew.cell? ⟨e.g, 34, none⟩ = _ := c34; have HS := Lib.hid (And.intro hs1 ht1); clear hs1 ht1))
  go_quiet (fail)
  go_wp2_with fail
  go_ret2
  obtain ⟨s1, t1⟩ := HS.out
  have t2 : Turn (· = e.g) w W1 := (Turn.of_below hb0).trans t1 (fun k hk => .inl hk)
  first
  | exact ⟨rfl, s1, t2⟩
  | exact ⟨rfl, s1.keep (fun _ _ => rfl), t2.trans (Turn.of_below (below_drewN (Below.refl _ _) _)) (fun k hk => .inl hk)⟩
set_option maxRecDepth 100000 in
set_option maxHeartbeats 800000 in
theorem get_big (h : StS w S q l V es) (hl : es.length ≤ 16) (k : Nat → BitVec 8) {i : Nat} {e : Be} (hf : es.findIdx? (Be.is k) = some i) (hi : es[i]? = some e) (E : Nat → Addr) (hE : ErrsAt E w) (hgE : ∀ j, j < 19 → gE j ≠ e.g) (hd : e.done = true) (off n : Int) (hn : 200 < n) :
    Calls Tryd.prog 82 #[.pointer (some ⟨S, 0, none⟩), .agg (arr8 32 k), .int .i64 off, .int .i64 n] w fun r w' => r = .returned (.tuple #[.slice none 0 0, errV (E 1)]) ∧ StS w' S q l V (es.set i e.used) ∧ Turn (· = e.g) w w' := by
  have hb0 := below_alc w (.cells (arr8 32 k) 23)
  have hus := Lib.hid (use_some (h.below hb0) (by omega) k hf hi)
  have hptr : e.ptr = .pointer (some ⟨e.g, 0, none⟩) := rfl
  rw [hptr] at hus
  obtain ⟨A, c, hD, hbc, hcm, _⟩ := own_slice (h.byt i e hi)
  have HE := Lib.hid hE
  have HC : Hid (∀ W1, StS W1 S q l V (es.set i e.used) → W1.cell? ⟨e.g, 32, none⟩ = some (.int .i64 e.n) ∧ W1.cell? ⟨e.g, 33, none⟩ = some (.slice A e.bs.length c) ∧ W1.cell? ⟨e.g, 34, none⟩ = some (.bool e.done)) := fun W1 hs => by
    rw [← hD]
    exact hs.cells hi
  clear h hD hf hE
  rw [hd] at HC
  have hn2 : ¬ n < 0 := by omega
  go_enter Tryd.func82, Tryd.ntmps82
  go_wp2_with (first | (refine wpList_load_row rfl 23 _ rfl w.heap.size rfl _ _ _ _ (heap_alloc_new _ _) Tryd.underlying23 rfl (by rw [arr8_size]; kernel_rfl) ?_) | (go_at_call 87; refine hus.out.mono ?_; rintro r W1 ⟨rfl, hs1, ht1⟩; have he := (ht1.cell (o := 0) ((HE.out.below hb0).ltG (i := 1) (by decide)) (hgE 1 (by decide))).trans ((HE.out.below hb0).c 1 (by decide)); have he2 : W1.drew.cell? ⟨gE 1, 0, none⟩ = some (errV (E 1)) := he; simp only [gE] at he he2; obtain ⟨c32, c33, c34⟩ := HC.out W1 hs1; have d32 : W1.drew.cell? ⟨e.g, 32, none⟩ = _ := c32; have d33 : W1.drew.cell? ⟨e.g, 33, none⟩ = _ := c33; have d34 : W1.drew.cell? ⟨e.g, 34, none⟩ = _ := c34; have HS := Lib.hid (And.intro hs1 ht1); clear hs1 ht1))
  go_quiet (fail)
  go_wp2_with fail
  go_ret2
  obtain ⟨s1, t1⟩ := HS.out
  have t2 : Turn (· = e.g) w W1 := (Turn.of_below hb0).trans t1 (fun k hk => .inl hk)
  first
  | exact ⟨rfl, s1, t2⟩
  | exact ⟨rfl, s1.keep (fun _ _ => rfl), t2.trans (Turn.of_below (below_drewN (Below.refl _ _) _)) (fun k hk => .inl hk)⟩
set_option maxRecDepth 100000 in
set_option maxHeartbeats 800000 in
theorem get_far (h : StS w S q l V es) (hl : es.length ≤ 16) (k : Nat → BitVec 8) {i : Nat} {e : Be} (hf : es.findIdx? (Be.is k) = some i) (hi : es[i]? = some e) (E : Nat → Addr) (hE : ErrsAt E w) (hgE : ∀ j, j < 19 → gE j ≠ e.g) (hd : e.done = true) (off n : Int) (hn : 0 ≤ n ∧ n ≤ 200) (ho : 0 ≤ off) (hen : 0 ≤ e.n ∧ e.n ≤ 30000) (hf2 : e.n - n < off) :
    Calls Tryd.prog 82 #[.pointer (some ⟨S, 0, none⟩), .agg (arr8 32 k), .int .i64 off, .int .i64 n] w fun r w' => r = .returned (.tuple #[.slice none 0 0, errV (E 1)]) ∧ StS w' S q l V (es.set i e.used) ∧ Turn (· = e.g) w w' := by
  have hb0 := below_alc w (.cells (arr8 32 k) 23)
  have hus := Lib.hid (use_some (h.below hb0) (by omega) k hf hi)
  have hptr : e.ptr = .pointer (some ⟨e.g, 0, none⟩) := rfl
  rw [hptr] at hus
  obtain ⟨A, c, hD, hbc, hcm, _⟩ := own_slice (h.byt i e hi)
  have HE := Lib.hid hE
  have HC : Hid (∀ W1, StS W1 S q l V (es.set i e.used) → W1.cell? ⟨e.g, 32, none⟩ = some (.int .i64 e.n) ∧ W1.cell? ⟨e.g, 33, none⟩ = some (.slice A e.bs.length c) ∧ W1.cell? ⟨e.g, 34, none⟩ = some (.bool e.done)) := fun W1 hs => by
    rw [← hD]
    exact hs.cells hi
  clear h hD hf hE
  rw [hd] at HC
  have hn2 : ¬ n < 0 := by omega
  have hn3 : ¬ 200 < n := by omega
  have ho2 : ¬ off < 0 := by omega
  go_enter Tryd.func82, Tryd.ntmps82
  go_wp2_with (first | (refine wpList_load_row rfl 23 _ rfl w.heap.size rfl _ _ _ _ (heap_alloc_new _ _) Tryd.underlying23 rfl (by rw [arr8_size]; kernel_rfl) ?_) | (go_at_call 87; refine hus.out.mono ?_; rintro r W1 ⟨rfl, hs1, ht1⟩; have he := (ht1.cell (o := 0) ((HE.out.below hb0).ltG (i := 1) (by decide)) (hgE 1 (by decide))).trans ((HE.out.below hb0).c 1 (by decide)); have he2 : W1.drew.cell? ⟨gE 1, 0, none⟩ = some (errV (E 1)) := he; simp only [gE] at he he2; obtain ⟨c32, c33, c34⟩ := HC.out W1 hs1; have d32 : W1.drew.cell? ⟨e.g, 32, none⟩ = _ := c32; have d33 : W1.drew.cell? ⟨e.g, 33, none⟩ = _ := c33; have d34 : W1.drew.cell? ⟨e.g, 34, none⟩ = _ := c34; have HS := Lib.hid (And.intro hs1 ht1); clear hs1 ht1))
  go_quiet (fail)
  go_wp2_with fail
  go_ret2
  obtain ⟨s1, t1⟩ := HS.out
  have t2 : Turn (· = e.g) w W1 := (Turn.of_below hb0).trans t1 (fun k hk => .inl hk)
  first
  | exact ⟨rfl, s1, t2⟩
  | exact ⟨rfl, s1.keep (fun _ _ => rfl), t2.trans (Turn.of_below (below_drewN (Below.refl _ _) _)) (fun k hk => .inl hk)⟩
set_option maxRecDepth 100000 in
set_option maxHeartbeats 1600000 in
theorem get_ok (h : StS w S q l V es) (hl : es.length ≤ 16) (k : Nat → BitVec 8) {i : Nat} {e : Be} (hf : es.findIdx? (Be.is k) = some i) (hi : es[i]? = some e) (hd : e.done = true) (off n : Nat) (hn : n ≤ 200) (hfit : off + n ≤ e.bs.length) (hbn : (e.bs.length : Int) = e.n) (hen : e.n ≤ 30000) :
    Calls Tryd.prog 82 #[.pointer (some ⟨S, 0, none⟩), .agg (arr8 32 k), .int .i64 (off : Int), .int .i64 (n : Int)] w fun r w' => ∃ v W1, r = .returned (.tuple #[v, .nilIface]) ∧ StS W1 S q l V (es.set i e.used) ∧ Turn (· = e.g) w W1 ∧ Below W1.heap.size W1 w' ∧ w'.ownsRow W1.heap.size 5 1 v n (ints .u8 ((e.bs.drop off).take n)) := by
  have hb0 := below_alc w (.cells (arr8 32 k) 23)
  have hus := Lib.hid (use_some (h.below hb0) (by omega) k hf hi)
  have hptr : e.ptr = .pointer (some ⟨e.g, 0, none⟩) := rfl
  rw [hptr] at hus
  obtain ⟨B, c, hD, hbc, hcm, _⟩ := own_slice (h.byt i e hi)
  obtain ⟨bl, hbl⟩ : ∃ x, x = e.bs.length := ⟨_, rfl⟩
  rw [← hbl] at hD hfit hbn hbc
  have HC : Hid (∀ W1, StS W1 S q l V (es.set i e.used) → W1.cell? ⟨e.g, 32, none⟩ = some (.int .i64 e.n) ∧ W1.cell? ⟨e.g, 33, none⟩ = some (.slice B bl c) ∧ W1.cell? ⟨e.g, 34, none⟩ = some (.bool true)) := fun W1 hs => by
    rw [← hD, ← hd]
    exact hs.cells hi
  have HI := Lib.hid (And.intro hi (And.intro hD (And.intro hbl h)))
  have h1 : ¬ (n : Int) < 0 := by omega
  have h2 : ¬ 200 < (n : Int) := by omega
  have h3 : ¬ (off : Int) < 0 := by omega
  have h4 : ¬ e.n - (n : Int) < (off : Int) := by omega
  have h5 : -9223372036854775808 ≤ e.n - (n : Int) ∧ e.n - (n : Int) ≤ 9223372036854775807 := by omega
  obtain ⟨eg, heg⟩ : ∃ x, x = e.g := ⟨_, rfl⟩
  rw [← heg] at hus HC
  have HEG := Lib.hid heg
  clear h hD hf hi hbl heg hptr hd
  go_enter Tryd.func82, Tryd.ntmps82
  go_upto_region 8 with (first | (refine wpList_load_row rfl 23 _ rfl w.heap.size rfl _ _ _ _ (heap_alloc_new _ _) Tryd.underlying23 rfl (by rw [arr8_size]; kernel_rfl) ?_) | (go_at_call 87; refine hus.out.mono ?_; rintro r W1 ⟨rfl, hs1, ht1⟩; obtain ⟨c32, c33, c34⟩ := HC.out W1 hs1; have HS := Lib.hid (And.intro hs1 ht1); clear hs1 ht1))
  obtain ⟨s1, t1⟩ := HS.out
  have t2 : Turn (· = eg) w W1 := (Turn.of_below hb0).trans t1 (fun k hk => .inl hk)
  obtain ⟨hi, hD, hbl, h0⟩ := HI.out
  have hown : W1.ownsRow 0 5 1 (.slice B bl c) bl (ints .u8 e.bs) := by
    have := s1.byt i e.used (set_get hi)
    rw [← hD, hbl]
    exact this
  have hrd : SlRead W1 (cutA B off c) (ints .u8 ((e.bs.drop off).take n)) := by
    intro hpos
    have hlt : off < bl := by
      simp only [ints, List.length_map, List.length_take, List.length_drop] at hpos
      omega
    have h6 := SlRead.takeB ((own_read1 hown).cut off (cutA B off c) fun _ b o e1 => by rw [e1]; exact cutA_some hlt hbc) n
    rw [ints_take] at h6
    exact h6 hpos
  have hln : ((e.bs.drop off).take n).length = n := by rw [List.length_take, List.length_drop]; omega
  have hcl := Lib.hid (cloneI_p (cutA B off c) ((e.bs.drop off).take n) (c - off) W1 hrd (by omega))
  rw [hln] at hcl
  clear hus HC c32 c34 hrd hown hln
  refine wp_region_lit ?_
  try simp only [put_list, List.set_cons_zero, List.set_cons_succ]
  refine wpList_run (by kernel_rfl) (.pointer (some ⟨eg, 0, none⟩)) (W1) (exec_move rfl (by kernel_rfl)) ?_
  try simp only [put_list, List.set_cons_zero, List.set_cons_succ]
  refine wpList_run (by kernel_rfl) (.pointer (some ⟨eg, 0, none⟩)) (W1) (exec_nil rfl (by kernel_rfl)) ?_
  try simp only [put_list, List.set_cons_zero, List.set_cons_succ]
  refine wpList_run (by kernel_rfl) (.pointer (some ⟨eg, 33, none⟩)) (W1) (exec_field (vx := .pointer (some ⟨eg, 0, none⟩)) rfl (by kernel_rfl) (by kernel_rfl)) ?_
  try simp only [put_list, List.set_cons_zero, List.set_cons_succ]
  refine wpList_run (by kernel_rfl) (.slice B bl c) (W1) (exec_load (vx := .pointer (some ⟨eg, 33, none⟩)) rfl (by kernel_rfl) (load_sl c33)) ?_
  try simp only [put_list, List.set_cons_zero, List.set_cons_succ]
  refine wpList_run (by kernel_rfl) (.int .i64 (off : Int)) (W1) (exec_move rfl (by kernel_rfl)) ?_
  try simp only [put_list, List.set_cons_zero, List.set_cons_succ]
  refine wpList_run (by kernel_rfl) (.int .i64 (off : Int)) (W1) (exec_move rfl (by kernel_rfl)) ?_
  try simp only [put_list, List.set_cons_zero, List.set_cons_succ]
  refine wpList_run (by kernel_rfl) (.int .i64 (n : Int)) (W1) (exec_move rfl (by kernel_rfl)) ?_
  try simp only [put_list, List.set_cons_zero, List.set_cons_succ]
  refine wpList_run (by kernel_rfl) (.int .i64 ((off : Int) + n)) (W1) (exec_bin (vx := .int .i64 (off : Int)) (vy := .int .i64 (n : Int)) rfl (by kernel_rfl) (add_i _ _ _ _ _ (by omega) (by omega) _)) ?_
  try simp only [put_list, List.set_cons_zero, List.set_cons_succ]
  refine wpList_run (by kernel_rfl) (.slice (cutA B off c) n (c - off)) (W1) (exec_slice (vx := .slice B bl c) (l := some (.int .i64 (off : Int))) (h := some (.int .i64 ((off : Int) + n))) (m := none) rfl (by kernel_rfl) (slice_cut Tryd.underlying25 (by kernel_rfl) B bl c off n (by omega) _)) ?_
  refine wpList_call (by kernel_rfl) 65 #[Go.Operand.tmp 55] #[25] #[.slice (cutA B off c) n (c - off)] _ rfl (by kernel_rfl) (by kernel_rfl) (hcl.out) ?_
  rintro r W2 ⟨v, rfl, hown2, hb2⟩
  refine ⟨_, rfl, ?_⟩
  try simp only [put_list, List.set_cons_zero, List.set_cons_succ]
  refine wpList_run (by kernel_rfl) (v) (W2) (exec_assign rfl (by kernel_rfl)) ?_
  try simp only [put_list, List.set_cons_zero, List.set_cons_succ]
  refine wpList_run (by kernel_rfl) (Go.Value.nilIface) (W2) (exec_assign rfl (by kernel_rfl)) ?_
  refine wpList_nil ?_
  simp only [put_list, List.set_cons_zero, List.set_cons_succ]
  have H2 := Lib.hid (And.intro hown2 hb2)
  clear hown2 hb2 hcl c33 h0
  go_wp2_with fail
  go_ret2
  exact ⟨_, W1, rfl, s1, by rw [← HEG.out]; exact t2, H2.out.2, H2.out.1⟩
end
theorem clear_p (w : World) (ty : TypeId) (g o n c : Nat) (cur : Array Value) (hg : w.heap[g]? = some (.cells cur 107 (0, 0))) (hfit : o + n ≤ cur.size) (hn : 0 < n) :
    (Builtin.clear_ #[101] ty #[.slice (some ⟨g, o, none⟩) n c]).run Tryd.prog w = .ok (.tuple #[]) (w.setRow g (cur.toList.take o ++ List.replicate n (Value.pointer none) ++ cur.toList.drop (o + n)).toArray) := by
  have hzc : (Builtin.zeroCells (Value.pointer none).cells n).toList = List.replicate n (.pointer none) := by
    simp only [Builtin.zeroCells, Value.cells]
    simp [Nat.mod_one]
    rw [List.map_const', List.length_range]
  have hst := run_storeCells_at Tryd.prog g o 107 (List.replicate n (.pointer none)) 0 cur w hg (by simpa using hfit) (by intro v hv; rw [List.eq_of_mem_replicate hv]; rfl)
  simp only [Nat.add_zero, List.length_replicate] at hst
  have hu := Tryd.underlying101
  obtain ⟨m, rfl⟩ : ∃ m, n = m + 1 := ⟨n - 1, by omega⟩
  simp only [List.append_assoc] at hst
  simp [Builtin.clear_, run_underlying hu, hzc, hst]
theorem exec_clear {P : Program} {a : Act} {o : Oper} {x : Operand} {t : TypeId} {vx : Value} {w w' : World} (ho : o.op = .call { callee := .builtin .clear, args := #[x], argTypes := #[t] }) (hx : a.eval x = vx)
    (he : (Builtin.clear_ #[t] o.type #[vx]).run P w = .ok (.tuple #[]) w') : (execOp a.eval o).run P w = .ok (.value (.tuple #[])) w' := by
  simp only [execOp, ho, resolve, invoke, builtin, Sem.run_bind, Sem.run_pure, Result.andThen_ok, List.map_toArray, List.map_cons, List.map_nil, hx, he]
/-- what Spoil makes of a byte -/
def spo (x : Int) : Int := bits .xor .u8 x 1
section
variable {w : World} {S : Nat} {q l : Int} {V : Value} {es : List Be}
end
theorem store_V {W : World} {S : Nat} {u : Value} {g n c : Nat} (h : W.cell? ⟨S, 2, none⟩ = some u) (hf : W.frozen? ⟨S, 2, none⟩ = false) : (Instr.storeAt 101 (.pointer (some ⟨S, 2, none⟩)) (.slice (some ⟨g, 0, none⟩) n c)).run Tryd.prog W = .ok () (W.setCell ⟨S, 2, none⟩ (.slice (some ⟨g, 0, none⟩) n c)) := by
  have h2 := Tryd.underlying101
  go_simp
theorem step_append_nil {P : Program} {ops : Array Oper} {o : Oper} {a : Act} {w : World} {K : Act → World → Prop} {Q : Exit → Act → World → Prop} {E' : Prop}
    (hg : o.guard = none) (s x : Operand) (t : TypeId) (hop : o.op = Op.call { callee := Callee.builtin Builtin.append, args := #[s, x], argTypes := #[t, t] })
    (e : TypeId) (i : TypeInfo) (h1 : P.underlying t = some (.slice e)) (h2 : P.info? e = some i)
    (b cap : Nat) (hs : a.eval s = .slice (some ⟨b, 0, none⟩) 0 cap) (cur : Array Value) (hcur : w.heap[b]? = some (.cells cur e (0, 0)))
    (ad : Addr) (c : Nat) (hx : a.eval x = .slice (some ad) 0 c)
    (hK : K (a.put o.dst (.slice (some ⟨b, 0, none⟩) 0 cap)) w) :
    if Region.wanted o (yielded ops a.tmps) = true then Oper.wp P o a w K Q else E' := by
  have hw : Region.wanted o (yielded ops a.tmps) = true := by simp [Region.wanted, hg]
  rw [if_pos hw]
  have hrun := run_append_room (P := P) w t o.type e i h1 h2 b 0 cap cur hcur ad 0 c [] (by simp) (fun j u hu => by simp at hu) (fun u hu => by simp at hu) (by omega) (by simp)
  have e1 : w.setRow b (cur.toList.take (0 * i.size) ++ [] ++ cur.toList.drop (0 * i.size + ([] : List Value).length)).toArray = w := by
    have : (cur.toList.take (0 * i.size) ++ [] ++ cur.toList.drop (0 * i.size + ([] : List Value).length)).toArray = cur := by simp
    rw [this]
    exact setRow_self w b cur e (0, 0) hcur
  rw [e1] at hrun
  unfold Oper.wp
  simp [execOp, hop, resolve, invoke, builtin, hs, hx, hrun, Result.andThen]
  exact hK
set_option maxRecDepth 100000 in
set_option maxHeartbeats 1600000 in
theorem delete_one (g c : Nat) (e : Be) (w : World) (hown : w.ownsRow 0 107 1 (.slice (some ⟨g, 0, none⟩) 1 c) 1 [e.ptr]) :
    Calls Tryd.prog 91 #[.slice (some ⟨g, 0, none⟩) 1 c, .int .i64 0, .int .i64 1] w fun r w' => r = .returned (.slice (some ⟨g, 0, none⟩) 0 c) ∧ w'.ownsRow 0 107 1 (.slice (some ⟨g, 0, none⟩) 0 c) 0 [] ∧ Turn (· = g) w w' := by
  obtain ⟨cur, hcur, hnc, hcm, hcs⟩ : ∃ cur, w.heap[g]? = some (.cells cur 107 (0, 0)) ∧ 1 ≤ c ∧ c ≤ maxLen ∧ cur.size = c := by
    rcases hown.2 with ⟨h2, _⟩ | ⟨g', c', cur, e1, _, h1, h2, h3, h4, h5⟩
    · cases h2
    · simp only [Value.slice.injEq, Option.some.injEq, Addr.mk.injEq, and_true, true_and] at e1
      obtain ⟨rfl, rfl⟩ := e1
      exact ⟨cur, h1, h2, h3, by omega⟩
  obtain ⟨inf, hinf, hsz⟩ := Option.map_eq_some_iff.1 (show (Tryd.prog.info? 107).map (·.size) = some 1 by kernel_rfl)
  have hg1 : w.drew.heap[g]? = some (.cells cur 107 (0, 0)) := hcur
  have hcl : ∀ ty, (Builtin.clear_ #[101] ty #[.slice (some ⟨g, 0, none⟩) 1 c]).run Tryd.prog w.drew = .ok (.tuple #[]) (w.drew.setRow g (cur.toList.take 0 ++ List.replicate 1 (Value.pointer none) ++ cur.toList.drop (0 + 1)).toArray) := fun ty => clear_p w.drew ty g 0 1 c cur hg1 (by omega) (by omega)
  obtain ⟨W2, hW2⟩ : ∃ W2, W2 = (w.drew.setRow g (cur.toList.take 0 ++ List.replicate 1 (Value.pointer none) ++ cur.toList.drop (0 + 1)).toArray) := ⟨_, rfl⟩
  rw [← hW2] at hcl
  have HF : Hid (W2.ownsRow 0 107 1 (.slice (some ⟨g, 0, none⟩) 0 c) 0 [] ∧ Turn (· = g) w W2) := by
    have h5 : W2.heap[g]? = some (.cells (cur.toList.take 0 ++ List.replicate 1 (Value.pointer none) ++ cur.toList.drop (0 + 1)).toArray 107 (0, 0)) := by rw [hW2]; exact setRow_heap w.drew g cur _ _ _ hg1
    refine ⟨⟨rfl, .inr ⟨g, c, _, rfl, Nat.zero_le _, h5, Nat.zero_le _, hcm, ?_, by simp⟩⟩, ?_⟩
    · have : cur.toList.length = c := by rw [Array.length_toList]; exact hcs
      simp only [List.size_toArray, List.length_append, List.length_take, List.length_drop, List.length_replicate]
      omega
    · rw [hW2]
      exact ⟨rfl, rfl, rfl, by simp [World.setRow], fun k _ hk => setRow_other w.drew g k _ hk⟩
  have HC : Hid (w.drew.heap[g]? = some (.cells cur 107 (0, 0))) := hg1
  have hi1c : (1 : Int) ≤ (c : Int) := by omega
  obtain ⟨A, hA⟩ : ∃ A : Addr, (if c = 1 then (some (⟨g, 0, none⟩ : Addr)) else some ⟨g, 1, none⟩) = some A := by
    by_cases h : c = 1
    · exact ⟨_, by rw [if_pos h]⟩
    · exact ⟨_, by rw [if_neg h]⟩
  clear hW2 hown hcs hcur hg1
  go_enter Tryd.func91, Tryd.ntmps91
  go_wp2_with fail
  go_region_law (refine step_append_nil rfl (.tmp 22) (.tmp 25) 101 rfl 107 inf Tryd.underlying101 hinf g c (by simp [Act.eval, Act.put]) cur HC.out A (c - 1) (by simp [Act.eval, Act.put]) ?_)
  go_wp2
  go_ret
  exact ⟨rfl, HF.out.1, HF.out.2⟩
theorem KAt.ne {w : World} (h : KAt w) {e : Be} (he : e.at w) : 19 ≠ e.g := fun y => by
  have h1 := h.cell (i := 0) (by decide)
  rw [y] at h1
  have h2 : w.cell? ⟨e.g, 0, none⟩ = some (v8 (e.f 0)) := cell_heap he (by unfold enA; simp)
  rw [h2] at h1
  simp [v8, v32] at h1
section
variable {w : World} {S : Nat} {q l : Int} {V : Value} {es : List Be}
set_option maxRecDepth 100000 in
set_option maxHeartbeats 800000 in
theorem commit_done (h : StS w S q l V es) (hl : es.length ≤ 16) (k : Nat → BitVec 8) {i : Nat} {e : Be} (hf : es.findIdx? (Be.is k) = some i) (hi : es[i]? = some e) (hd : e.done = true) :
    Calls Tryd.prog 81 #[.pointer (some ⟨S, 0, none⟩), .agg (arr8 32 k)] w fun r w' => r = .returned .nilIface ∧ StS w' S q l V (es.set i e.used) ∧ Turn (· = e.g) w w' := by
  have hb0 := below_alc w (.cells (arr8 32 k) 23)
  have hus := Lib.hid (use_some (h.below hb0) (by omega) k hf hi)
  have hptr : e.ptr = .pointer (some ⟨e.g, 0, none⟩) := rfl
  rw [hptr] at hus
  obtain ⟨A, c, hD, hbc, hcm, _⟩ := own_slice (h.byt i e hi)
  have HC : Hid (∀ W1, StS W1 S q l V (es.set i e.used) → W1.cell? ⟨e.g, 32, none⟩ = some (.int .i64 e.n) ∧ W1.cell? ⟨e.g, 33, none⟩ = some (.slice A e.bs.length c) ∧ W1.cell? ⟨e.g, 34, none⟩ = some (.bool e.done)) := fun W1 hs => by
    rw [← hD]
    exact hs.cells hi
  clear h hD hf
  rw [hd] at HC
  go_enter Tryd.func81, Tryd.ntmps81
  go_wp2_with (first | (refine wpList_load_row rfl 23 _ rfl w.heap.size rfl _ _ _ _ (heap_alloc_new _ _) Tryd.underlying23 rfl (by rw [arr8_size]; kernel_rfl) ?_) | (go_at_call 87; refine hus.out.mono ?_; rintro r W1 ⟨rfl, hs1, ht1⟩; obtain ⟨c32, c33, c34⟩ := HC.out W1 hs1; have d32 : W1.drew.cell? ⟨e.g, 32, none⟩ = _ := c32; have d33 : W1.drew.cell? ⟨e.g, 33, none⟩ = _ := c33; have d34 : W1.drew.cell? ⟨e.g, 34, none⟩ = _ := c34; have HS := Lib.hid (And.intro hs1 ht1); clear hs1 ht1))
  go_ret
  obtain ⟨s1, t1⟩ := HS.out
  have t2 : Turn (· = e.g) w W1 := (Turn.of_below hb0).trans t1 (fun k hk => .inl hk)
  first
  | exact ⟨rfl, s1, t2⟩
  | exact ⟨rfl, s1.keep (fun _ _ => rfl), t2.trans (Turn.of_below (below_drewN (Below.refl _ _) _)) (fun k hk => .inl hk)⟩
set_option maxRecDepth 100000 in
set_option maxHeartbeats 800000 in
theorem commit_short (h : StS w S q l V es) (hl : es.length ≤ 16) (k : Nat → BitVec 8) {i : Nat} {e : Be} (hf : es.findIdx? (Be.is k) = some i) (hi : es[i]? = some e) (E : Nat → Addr) (hE : ErrsAt E w) (hgE : ∀ j, j < 19 → gE j ≠ e.g) (hd : e.done = false) (hn : (e.bs.length : Int) < e.n) :
    Calls Tryd.prog 81 #[.pointer (some ⟨S, 0, none⟩), .agg (arr8 32 k)] w fun r w' => r = .returned (errV (E 16)) ∧ StS w' S q l V (es.set i e.used) ∧ Turn (· = e.g) w w' := by
  have hb0 := below_alc w (.cells (arr8 32 k) 23)
  have hus := Lib.hid (use_some (h.below hb0) (by omega) k hf hi)
  have hptr : e.ptr = .pointer (some ⟨e.g, 0, none⟩) := rfl
  rw [hptr] at hus
  obtain ⟨A, c, hD, hbc, hcm, _⟩ := own_slice (h.byt i e hi)
  have HE := Lib.hid hE
  have HC : Hid (∀ W1, StS W1 S q l V (es.set i e.used) → W1.cell? ⟨e.g, 32, none⟩ = some (.int .i64 e.n) ∧ W1.cell? ⟨e.g, 33, none⟩ = some (.slice A e.bs.length c) ∧ W1.cell? ⟨e.g, 34, none⟩ = some (.bool e.done)) := fun W1 hs => by
    rw [← hD]
    exact hs.cells hi
  clear h hD hf hE
  rw [hd] at HC
  go_enter Tryd.func81, Tryd.ntmps81
  go_wp2_with (first | (refine wpList_load_row rfl 23 _ rfl w.heap.size rfl _ _ _ _ (heap_alloc_new _ _) Tryd.underlying23 rfl (by rw [arr8_size]; kernel_rfl) ?_) | (go_at_call 87; refine hus.out.mono ?_; rintro r W1 ⟨rfl, hs1, ht1⟩; have he := (ht1.cell (o := 0) ((HE.out.below hb0).ltG (i := 16) (by decide)) (hgE 16 (by decide))).trans ((HE.out.below hb0).c 16 (by decide)); have he2 : W1.drew.cell? ⟨gE 16, 0, none⟩ = some (errV (E 16)) := he; simp only [gE] at he he2; obtain ⟨c32, c33, c34⟩ := HC.out W1 hs1; have d32 : W1.drew.cell? ⟨e.g, 32, none⟩ = _ := c32; have d33 : W1.drew.cell? ⟨e.g, 33, none⟩ = _ := c33; have d34 : W1.drew.cell? ⟨e.g, 34, none⟩ = _ := c34; have HS := Lib.hid (And.intro hs1 ht1); clear hs1 ht1))
  go_quiet (fail)
  go_wp2_with fail
  go_ret
  obtain ⟨s1, t1⟩ := HS.out
  have t2 : Turn (· = e.g) w W1 := (Turn.of_below hb0).trans t1 (fun k hk => .inl hk)
  first
  | exact ⟨rfl, s1, t2⟩
  | exact ⟨rfl, s1.keep (fun _ _ => rfl), t2.trans (Turn.of_below (below_drewN (Below.refl _ _) _)) (fun k hk => .inl hk)⟩
set_option maxRecDepth 100000 in
set_option maxHeartbeats 1600000 in
theorem commit_bad (h : StS w S q l V es) (hK : KAt w) (hl : es.length ≤ 16) (k : Nat → BitVec 8) {i : Nat} {e : Be} (hf : es.findIdx? (Be.is k) = some i) (hi : es[i]? = some e) (E : Nat → Addr) (hE : ErrsAt E w) (hgE : ∀ j, j < 19 → gE j ≠ e.g) (hd : e.done = false) (ys : List (BitVec 8)) (hys : e.bs = bys ys) (hn : (e.bs.length : Int) = e.n) (hn2 : e.n ≤ 30000) (hq : (idl (shaOf ys) == idl k) = false) :
    Calls Tryd.prog 81 #[.pointer (some ⟨S, 0, none⟩), .agg (arr8 32 k)] w fun r w' => r = .returned (errV (E 15)) ∧ StS w' S q l V (es.set i e.used) ∧ Turn (· = e.g) w w' := by
  have hb0 := below_alc w (.cells (arr8 32 k) 23)
  have hus := Lib.hid (use_some (h.below hb0) (by omega) k hf hi)
  have hptr : e.ptr = .pointer (some ⟨e.g, 0, none⟩) := rfl
  rw [hptr] at hus
  obtain ⟨B, c, hD, hbc, hcm, _⟩ := own_slice (h.byt i e hi)
  obtain ⟨bl, hbl⟩ : ∃ x, x = e.bs.length := ⟨_, rfl⟩
  rw [← hbl] at hD hbc hn
  have HC : Hid (∀ W1, StS W1 S q l V (es.set i e.used) → W1.cell? ⟨e.g, 32, none⟩ = some (.int .i64 e.n) ∧ W1.cell? ⟨e.g, 33, none⟩ = some (.slice B bl c) ∧ W1.cell? ⟨e.g, 34, none⟩ = some (.bool false)) := fun W1 hs => by
    rw [← hD, ← hd]
    exact hs.cells hi
  have HI := Lib.hid (And.intro hi (And.intro hD (And.intro hbl (And.intro h (And.intro hK (And.intro hys (And.intro hd hbc)))))))
  have HE := Lib.hid (And.intro hE hgE)
  have h1 : ¬ (bl : Int) < e.n := by omega
  obtain ⟨eg, heg⟩ : ∃ x, x = e.g := ⟨_, rfl⟩
  rw [← heg] at hus HC
  have HEG := Lib.hid heg
  have HQ := Lib.hid hq
  have HN := Lib.hid (And.intro hn hn2)
  clear h hD hf hi hbl heg hptr hd hK hys hq hn hn2 hbc hE hgE
  go_enter Tryd.func81, Tryd.ntmps81
  go_upto_region 6 with (first | (refine wpList_load_row rfl 23 _ rfl w.heap.size rfl _ _ _ _ (heap_alloc_new _ _) Tryd.underlying23 rfl (by rw [arr8_size]; kernel_rfl) ?_) | (go_at_call 87; refine hus.out.mono ?_; rintro r W1 ⟨rfl, hs1, ht1⟩; obtain ⟨c32, c33, c34⟩ := HC.out W1 hs1; have HS := Lib.hid (And.intro hs1 ht1); clear hs1 ht1))
  obtain ⟨bx, hbx0⟩ : ∃ b, b = w.heap.size := ⟨_, rfl⟩
  rw [← hbx0]
  have HBX := Lib.hid hbx0
  clear hbx0
  have d32 : W1.drew.cell? ⟨eg, 32, none⟩ = some (.int .i64 e.n) := c32
  have d33 : W1.drew.cell? ⟨eg, 33, none⟩ = some (.slice B bl c) := c33
  go_quiet (fail)
  go_upto_region 8 with (fail)
  refine wp_world (fun W => Hid (StS W S q l V (es.set i e.used) ∧ Turn (· = eg) w W ∧ W.heap[bx]? = some (.cells (arr8 32 k) 23 (0, 0)) ∧ KAt W)) ?_ ?_
  · obtain ⟨s0, t0⟩ := HS.out
    obtain ⟨hi, _, _, h, hK, _⟩ := HI.out
    have h2 := heap1_0 w (.cells (arr8 32 k) 23)
    have h3 : W1.heap[bx]? = some (.cells (arr8 32 k) 23 (0, 0)) := by
      rw [HBX.out]
      refine (t0.block _ (lt_heap h2) ?_).trans h2
      intro y
      have := lt_heap (h.ent i e hi)
      rw [HEG.out] at y
      omega
    refine ⟨s0.keep (fun _ _ => rfl), ((Turn.of_below hb0).trans t0 (fun k hk => .inl hk)).trans (Turn.of_below (F := fun _ => False) (below_drewN (Below.refl _ _) _)) (fun _ h => h.elim), h3, ?_⟩
    refine (hK.below hb0).of_block (t0.block _ (hK.below hb0).lt ?_)
    intro y
    exact KAt.ne (hK.below hb0) ((h.below hb0).ent i e hi) (y.trans HEG.out)
  clear HS d32 d33 c32 c33 c34 W1
  intro W1 HS
  obtain ⟨s1, t1, hbx, hK⟩ := HS.out
  obtain ⟨hi, hD, hbl, h0, _, hys, hd, hbc⟩ := HI.out
  have hen : W1.heap[eg]? = some (.cells (enA e.f e.n (.slice B bl c) false 0) 109 (0, 0)) := by
    have := s1.ent i e.used (set_get hi)
    rw [HEG.out, ← hD, ← hd]
    exact this
  have hrd : SlRead W1.drew B (ints .u8 (bys ys)) := by
    have h7 := s1.byt i e.used (set_get hi)
    have h8 : W1.ownsRow 0 5 1 (.slice B bl c) bl (ints .u8 (bys ys)) := by
      rw [← hD, hbl, ← hys]
      exact h7
    exact fun hn => own_read1 h8 hn
  have hyl : ys.length = bl := by rw [hbl, hys, bys_length]
  have hsum := Lib.hid (suml_one B ys c W1.drew hrd (by omega) (by have := HN.out; omega) (hK.of_block rfl))
  rw [hyl] at hsum
  refine wp_region_noPanic ?_
  refine wp_region_held_drew (S := Below W1.heap.size W1) (by kernel_rfl) ((Below.refl _ _).drew) (fun hHeld => ?_)
  refine held_move 0 (Go.Operand.tmp 5) (some 31) (.pointer (some ⟨eg, 0, none⟩)) (by kernel_rfl) (by kernel_rfl) (by kernel_rfl) (by kernel_rfl) (by kernel_rfl) (fun _ _ _ _ _ h => h) hHeld ?_
  refine held_nil 1 (Go.Operand.tmp 31) (some 32) ⟨eg, 0, none⟩ (by kernel_rfl) (by kernel_rfl) (by kernel_rfl) (by kernel_rfl) (by kernel_rfl) (fun _ _ _ _ _ h => h) hHeld ?_
  refine held_field 2 109 (Go.Operand.tmp 32) 2 (some 33) (.pointer (some ⟨eg, 0, none⟩)) (.pointer (some ⟨eg, 33, none⟩)) (by kernel_rfl) (by kernel_rfl) (fun w => by kernel_rfl) (by kernel_rfl) (by kernel_rfl) (by kernel_rfl) (fun _ _ _ _ _ h => h) hHeld ?_
  refine held_cell 3 25 (Go.Operand.tmp 33) (some 34) (.pointer (some ⟨eg, 33, none⟩)) (.slice B bl c) (by kernel_rfl) (by kernel_rfl) (fun W hw => load_sl (cell_heap (heap_below hen hw) (en_c33 _ _ _ _ _))) (by kernel_rfl) (by kernel_rfl) (by kernel_rfl) (fun _ _ _ _ _ h => h) hHeld ?_
  refine held_cell 6 23 (Go.Operand.tmp 3) (some 37) (.pointer (some ⟨bx, 0, none⟩)) (.agg (arr8 32 k)) (by kernel_rfl) (by kernel_rfl) (fun W hw => load_idB W bx k (range_new (cs := (arr8 32 k).toList) (by simpa using heap_below hbx hw))) (by kernel_rfl) (by kernel_rfl) (by kernel_rfl) (fun _ _ _ _ _ h => h) hHeld ?_
  refine held_run 4 (Go.Op.buildSlice 36 1 #[(0, Go.Operand.tmp 34)]) 36 (some 35) (.slice (some ⟨W1.drew.heap.size, 0, none⟩) 1 1) ((W1.drew.alloc (.cells #[.slice B bl c] 25))) (by kernel_rfl) (by kernel_rfl) (by kernel_rfl) (fun o ho ht => exec_bsl (vs := #[(0, .slice B bl c)]) ho (by kernel_rfl) (bsl_sl _ _ _ _)) (hHeld.trans ((below_alc _ _).mono hHeld.size)) ?_
  intro hHeld
  refine held_call 5 88 #[Go.Operand.tmp 35] #[36] (some 36) #[.slice (some ⟨W1.drew.heap.size, 0, none⟩) 1 1] _ (by kernel_rfl) (by kernel_rfl) (by kernel_rfl) (by kernel_rfl) (hsum.out) ?_
  rintro r W2 ⟨rfl, hb2⟩
  refine ⟨_, rfl, (Below.refl _ _).drew.trans hb2, fun hHeld => ?_⟩
  refine held_any 7 (Go.Op.binOp Go.BinOp.neq 23 (Go.Operand.tmp 36) (Go.Operand.tmp 37) 23) (some 38) (.bool (!(idl (shaOf ys) == idl k))) (by kernel_rfl) (by kernel_rfl) (by kernel_rfl) (by kernel_rfl) (fun _ _ _ _ _ h => h) hHeld (fun o ho w hw => exec_eqrow (k := .neq) (cx := arr8 32 (shaOf ys)) (cy := arr8 32 k) (b := idl (shaOf ys) == idl k) (.inr rfl) ho (by kernel_rfl) (by kernel_rfl) (eq_ids (shaOf ys) k w)) ?_
  refine held_assign 8 (Go.Operand.tmp 38) (some 30) (.bool (!(idl (shaOf ys) == idl k))) (by kernel_rfl) (by kernel_rfl) (by kernel_rfl) (by kernel_rfl) (by kernel_rfl) (fun _ _ _ _ _ h => h) hHeld ?_
  refine wpAnyH_done (by kernel_rfl) ?_ _
  refine NoPanic.normal ?_
  try simp only [Act.put, List.setIfInBounds_toArray, List.set_cons_zero, List.set_cons_succ]
  rw [HQ.out]
  obtain ⟨E1, hE1⟩ : ∃ x, x = E := ⟨_, rfl⟩
  have he : W2.cell? ⟨gE 15, 0, none⟩ = some (errV (E 15)) := by
    obtain ⟨hE, hgE⟩ := HE.out
    refine (hHeld.cell (p := ⟨gE 15, 0, none⟩) (Nat.lt_of_lt_of_le (hE.ltG (i := 15) (by decide)) t1.size)).trans ?_
    exact (t1.cell (o := 0) (hE.ltG (i := 15) (by decide)) (fun y => hgE 15 (by decide) (y.trans HEG.out))).trans (hE.c 15 (by decide))
  simp only [gE] at he
  have HF := Lib.hid (And.intro s1 (And.intro t1 hHeld))
  clear s1 t1 hHeld hbx hK hen hrd hsum h0 HS hE1
  go_wp2_with fail
  go_ret
  obtain ⟨s1, t1, hb⟩ := HF.out
  exact ⟨rfl, s1.below hb, by rw [← HEG.out]; exact t1.trans (Turn.of_below (F := fun _ => False) hb) (fun _ h => h.elim)⟩
set_option maxRecDepth 100000 in
set_option maxHeartbeats 1600000 in
theorem commit_ok (h : StS w S q l V es) (hK : KAt w) (hl : es.length ≤ 16) (k : Nat → BitVec 8) {i : Nat} {e : Be} (hf : es.findIdx? (Be.is k) = some i) (hi : es[i]? = some e) (hd : e.done = false) (ys : List (BitVec 8)) (hys : e.bs = bys ys) (hn : (e.bs.length : Int) = e.n) (hn2 : e.n ≤ 30000) (hq : (idl (shaOf ys) == idl k) = true) :
    Calls Tryd.prog 81 #[.pointer (some ⟨S, 0, none⟩), .agg (arr8 32 k)] w fun r w' => r = .returned .nilIface ∧ StS w' S q l V (es.set i ⟨e.g, e.f, e.n, e.D, e.bs, true, 0⟩) ∧ Turn (· = e.g) w w' := by
  have hb0 := below_alc w (.cells (arr8 32 k) 23)
  have hus := Lib.hid (use_some (h.below hb0) (by omega) k hf hi)
  have hptr : e.ptr = .pointer (some ⟨e.g, 0, none⟩) := rfl
  rw [hptr] at hus
  obtain ⟨B, c, hD, hbc, hcm, _⟩ := own_slice (h.byt i e hi)
  obtain ⟨bl, hbl⟩ : ∃ x, x = e.bs.length := ⟨_, rfl⟩
  rw [← hbl] at hD hbc hn
  have HC : Hid (∀ W1, StS W1 S q l V (es.set i e.used) → W1.cell? ⟨e.g, 32, none⟩ = some (.int .i64 e.n) ∧ W1.cell? ⟨e.g, 33, none⟩ = some (.slice B bl c) ∧ W1.cell? ⟨e.g, 34, none⟩ = some (.bool false)) := fun W1 hs => by
    rw [← hD, ← hd]
    exact hs.cells hi
  have HI := Lib.hid (And.intro hi (And.intro hD (And.intro hbl (And.intro h (And.intro hK (And.intro hys (And.intro hd hbc)))))))
  have h1 : ¬ (bl : Int) < e.n := by omega
  obtain ⟨eg, heg⟩ : ∃ x, x = e.g := ⟨_, rfl⟩
  rw [← heg] at hus HC
  have HEG := Lib.hid heg
  have HQ := Lib.hid hq
  have HN := Lib.hid (And.intro hn hn2)
  clear h hD hf hi hbl heg hptr hd hK hys hq hn hn2 hbc
  go_enter Tryd.func81, Tryd.ntmps81
  go_upto_region 6 with (first | (refine wpList_load_row rfl 23 _ rfl w.heap.size rfl _ _ _ _ (heap_alloc_new _ _) Tryd.underlying23 rfl (by rw [arr8_size]; kernel_rfl) ?_) | (go_at_call 87; refine hus.out.mono ?_; rintro r W1 ⟨rfl, hs1, ht1⟩; obtain ⟨c32, c33, c34⟩ := HC.out W1 hs1; have HS := Lib.hid (And.intro hs1 ht1); clear hs1 ht1))
  obtain ⟨bx, hbx0⟩ : ∃ b, b = w.heap.size := ⟨_, rfl⟩
  rw [← hbx0]
  have HBX := Lib.hid hbx0
  clear hbx0
  have d32 : W1.drew.cell? ⟨eg, 32, none⟩ = some (.int .i64 e.n) := c32
  have d33 : W1.drew.cell? ⟨eg, 33, none⟩ = some (.slice B bl c) := c33
  go_quiet (fail)
  go_upto_region 8 with (fail)
  refine wp_world (fun W => Hid (StS W S q l V (es.set i e.used) ∧ Turn (· = eg) w W ∧ W.heap[bx]? = some (.cells (arr8 32 k) 23 (0, 0)) ∧ KAt W)) ?_ ?_
  · obtain ⟨s0, t0⟩ := HS.out
    obtain ⟨hi, _, _, h, hK, _⟩ := HI.out
    have h2 := heap1_0 w (.cells (arr8 32 k) 23)
    have h3 : W1.heap[bx]? = some (.cells (arr8 32 k) 23 (0, 0)) := by
      rw [HBX.out]
      refine (t0.block _ (lt_heap h2) ?_).trans h2
      intro y
      have := lt_heap (h.ent i e hi)
      rw [HEG.out] at y
      omega
    refine ⟨s0.keep (fun _ _ => rfl), ((Turn.of_below hb0).trans t0 (fun k hk => .inl hk)).trans (Turn.of_below (F := fun _ => False) (below_drewN (Below.refl _ _) _)) (fun _ h => h.elim), h3, ?_⟩
    refine (hK.below hb0).of_block (t0.block _ (hK.below hb0).lt ?_)
    intro y
    exact KAt.ne (hK.below hb0) ((h.below hb0).ent i e hi) (y.trans HEG.out)
  clear HS d32 d33 c32 c33 c34 W1
  intro W1 HS
  obtain ⟨s1, t1, hbx, hK⟩ := HS.out
  obtain ⟨hi, hD, hbl, h0, _, hys, hd, hbc⟩ := HI.out
  have hen : W1.heap[eg]? = some (.cells (enA e.f e.n (.slice B bl c) false 0) 109 (0, 0)) := by
    have := s1.ent i e.used (set_get hi)
    rw [HEG.out, ← hD, ← hd]
    exact this
  have hrd : SlRead W1.drew B (ints .u8 (bys ys)) := by
    have h7 := s1.byt i e.used (set_get hi)
    have h8 : W1.ownsRow 0 5 1 (.slice B bl c) bl (ints .u8 (bys ys)) := by
      rw [← hD, hbl, ← hys]
      exact h7
    exact fun hn => own_read1 h8 hn
  have hyl : ys.length = bl := by rw [hbl, hys, bys_length]
  have hsum := Lib.hid (suml_one B ys c W1.drew hrd (by omega) (by have := HN.out; omega) (hK.of_block rfl))
  rw [hyl] at hsum
  refine wp_region_noPanic ?_
  refine wp_region_held_drew (S := Below W1.heap.size W1) (by kernel_rfl) ((Below.refl _ _).drew) (fun hHeld => ?_)
  refine held_move 0 (Go.Operand.tmp 5) (some 31) (.pointer (some ⟨eg, 0, none⟩)) (by kernel_rfl) (by kernel_rfl) (by kernel_rfl) (by kernel_rfl) (by kernel_rfl) (fun _ _ _ _ _ h => h) hHeld ?_
  refine held_nil 1 (Go.Operand.tmp 31) (some 32) ⟨eg, 0, none⟩ (by kernel_rfl) (by kernel_rfl) (by kernel_rfl) (by kernel_rfl) (by kernel_rfl) (fun _ _ _ _ _ h => h) hHeld ?_
  refine held_field 2 109 (Go.Operand.tmp 32) 2 (some 33) (.pointer (some ⟨eg, 0, none⟩)) (.pointer (some ⟨eg, 33, none⟩)) (by kernel_rfl) (by kernel_rfl) (fun w => by kernel_rfl) (by kernel_rfl) (by kernel_rfl) (by kernel_rfl) (fun _ _ _ _ _ h => h) hHeld ?_
  refine held_cell 3 25 (Go.Operand.tmp 33) (some 34) (.pointer (some ⟨eg, 33, none⟩)) (.slice B bl c) (by kernel_rfl) (by kernel_rfl) (fun W hw => load_sl (cell_heap (heap_below hen hw) (en_c33 _ _ _ _ _))) (by kernel_rfl) (by kernel_rfl) (by kernel_rfl) (fun _ _ _ _ _ h => h) hHeld ?_
  refine held_cell 6 23 (Go.Operand.tmp 3) (some 37) (.pointer (some ⟨bx, 0, none⟩)) (.agg (arr8 32 k)) (by kernel_rfl) (by kernel_rfl) (fun W hw => load_idB W bx k (range_new (cs := (arr8 32 k).toList) (by simpa using heap_below hbx hw))) (by kernel_rfl) (by kernel_rfl) (by kernel_rfl) (fun _ _ _ _ _ h => h) hHeld ?_
  refine held_run 4 (Go.Op.buildSlice 36 1 #[(0, Go.Operand.tmp 34)]) 36 (some 35) (.slice (some ⟨W1.drew.heap.size, 0, none⟩) 1 1) ((W1.drew.alloc (.cells #[.slice B bl c] 25))) (by kernel_rfl) (by kernel_rfl) (by kernel_rfl) (fun o ho ht => exec_bsl (vs := #[(0, .slice B bl c)]) ho (by kernel_rfl) (bsl_sl _ _ _ _)) (hHeld.trans ((below_alc _ _).mono hHeld.size)) ?_
  intro hHeld
  refine held_call 5 88 #[Go.Operand.tmp 35] #[36] (some 36) #[.slice (some ⟨W1.drew.heap.size, 0, none⟩) 1 1] _ (by kernel_rfl) (by kernel_rfl) (by kernel_rfl) (by kernel_rfl) (hsum.out) ?_
  rintro r W2 ⟨rfl, hb2⟩
  refine ⟨_, rfl, (Below.refl _ _).drew.trans hb2, fun hHeld => ?_⟩
  refine held_any 7 (Go.Op.binOp Go.BinOp.neq 23 (Go.Operand.tmp 36) (Go.Operand.tmp 37) 23) (some 38) (.bool (!(idl (shaOf ys) == idl k))) (by kernel_rfl) (by kernel_rfl) (by kernel_rfl) (by kernel_rfl) (fun _ _ _ _ _ h => h) hHeld (fun o ho w hw => exec_eqrow (k := .neq) (cx := arr8 32 (shaOf ys)) (cy := arr8 32 k) (b := idl (shaOf ys) == idl k) (.inr rfl) ho (by kernel_rfl) (by kernel_rfl) (eq_ids (shaOf ys) k w)) ?_
  refine held_assign 8 (Go.Operand.tmp 38) (some 30) (.bool (!(idl (shaOf ys) == idl k))) (by kernel_rfl) (by kernel_rfl) (by kernel_rfl) (by kernel_rfl) (by kernel_rfl) (fun _ _ _ _ _ h => h) hHeld ?_
  refine wpAnyH_done (by kernel_rfl) ?_ _
  refine NoPanic.normal ?_
  try simp only [Act.put, List.setIfInBounds_toArray, List.set_cons_zero, List.set_cons_succ]
  rw [HQ.out]
  have hen2 := heap_below hen hHeld
  have hc34 := cell_heap hen2 (en_c34 _ _ _ _ _)
  have hfz := thaw_heap hen2 34
  have HF := Lib.hid (And.intro s1 (And.intro t1 (And.intro hHeld hen2)))
  clear s1 t1 hHeld hbx hK hen hrd hsum h0 HS hen2
  go_wp2_with fail
  go_ret
  obtain ⟨s1, t1, hb, hen2⟩ := HF.out
  have s2 := s1.below hb
  have hset : Turn (· = eg) W2 (W2.setCell ⟨eg, 34, none⟩ (.bool true)) := set_turnH W2 eg 34 _
  have s3 := s2.ent1 (set_get hi) (e' := ⟨e.g, e.f, e.n, e.D, e.bs, true, 0⟩) (W' := W2.setCell ⟨eg, 34, none⟩ (.bool true)) rfl ?_ ?_ (fun k hk => .inl hk) (fun x hx h1 _ => hset.block x hx (fun y => h1 (y.trans HEG.out)))
  · rw [List.set_set] at s3
    refine ⟨rfl, s3, ?_⟩
    rw [← HEG.out]
    exact (t1.trans (Turn.of_below (F := fun _ => False) hb) (fun _ h => h.elim)).trans hset (fun k hk => .inl hk)
  · show (W2.setCell ⟨eg, 34, none⟩ (.bool true)).heap[e.g]? = some (.cells (enA e.f e.n e.D true 0) 109 (0, 0))
    rw [← HEG.out, hD, ← en_set34 e.f e.n (.slice B bl c) false true 0]
    exact heap_setCell_same W2 eg 34 _ _ _ hen2
  · have ho := s2.byt i e.used (set_get hi)
    refine own_keep (w := W2) ho fun x hx => hset.block x (ho.lt x hx).2 (fun y => ?_)
    obtain ⟨cur, hc⟩ := own_cells ho hx
    exact ty_ne hc hen2 (by decide) y
end
theorem find_one (e : Be) (k : Nat → BitVec 8) (h : Be.is k e = true) : [e].findIdx? (Be.is k) = some 0 := by simp [List.findIdx?_cons, h]
section
variable {E : Nat → Addr} {w0 W : World} {S : Nat} {q l : Int} {V : Value} {es : List Be}
theorem s_getS (h : Sto E w0 W S q l V es) (k : Nat → BitVec 8) (hl : es.length ≤ 16) {i : Nat} {e : Be} (hf : es.findIdx? (Be.is k) = some i) (hi : es[i]? = some e) (hd : e.done = false) (off n : Int) : Calls Tryd.prog 82 #[.pointer (some ⟨S, 0, none⟩), .agg (arr8 32 k), .int .i64 off, .int .i64 n] W fun r W' => r = .returned (.tuple #[.slice none 0 0, errV (E 16)]) ∧ Sto E w0 W' S q l V (es.set i e.used) ∧ Turn (stF S V es) W W' :=
  (get_state h.st hl k hf hi E h.errs (h.gne hi) hd off n).mono fun _ _ ⟨a, b, c⟩ => ⟨a, h.used hi b c, c.mono (stF_at hi)⟩
theorem s_getR (h : Sto E w0 W S q l V es) (k : Nat → BitVec 8) (hl : es.length ≤ 16) {i : Nat} {e : Be} (hf : es.findIdx? (Be.is k) = some i) (hi : es[i]? = some e) (hd : e.done = true) (off n : Int) (hn : 0 ≤ n) (ho : 0 ≤ off) (hen : 0 ≤ e.n ∧ e.n ≤ 30000) (hr : 200 < n ∨ e.n - n < off) : Calls Tryd.prog 82 #[.pointer (some ⟨S, 0, none⟩), .agg (arr8 32 k), .int .i64 off, .int .i64 n] W fun r W' => r = .returned (.tuple #[.slice none 0 0, errV (E 1)]) ∧ Sto E w0 W' S q l V (es.set i e.used) ∧ Turn (stF S V es) W W' := by
  by_cases h1 : 200 < n
  · exact (get_big h.st hl k hf hi E h.errs (h.gne hi) hd off n h1).mono fun _ _ ⟨a, b, c⟩ => ⟨a, h.used hi b c, c.mono (stF_at hi)⟩
  · exact (get_far h.st hl k hf hi E h.errs (h.gne hi) hd off n ⟨hn, by omega⟩ ho hen (by omega)).mono fun _ _ ⟨a, b, c⟩ => ⟨a, h.used hi b c, c.mono (stF_at hi)⟩
theorem s_get (h : Sto E w0 W S q l V es) (k : Nat → BitVec 8) (hl : es.length ≤ 16) {i : Nat} {e : Be} (hf : es.findIdx? (Be.is k) = some i) (hi : es[i]? = some e) (hd : e.done = true) (off n : Nat) (hn : n ≤ 200) (hfit : off + n ≤ e.bs.length) (hbn : (e.bs.length : Int) = e.n) (hen : e.n ≤ 30000) : Calls Tryd.prog 82 #[.pointer (some ⟨S, 0, none⟩), .agg (arr8 32 k), .int .i64 (off : Int), .int .i64 (n : Int)] W fun r W' => ∃ A c, r = .returned (.tuple #[.slice A n c, .nilIface]) ∧ Sto E w0 W' S q l V (es.set i e.used) ∧ Turn (stF S V es) W W' ∧ W'.ownsRow W.heap.size 5 1 (.slice A n c) n (ints .u8 ((e.bs.drop off).take n)) := by
  refine (get_ok h.st hl k hf hi hd off n hn hfit hbn hen).mono ?_
  rintro r W' ⟨v, W1, a, b, c, d, f⟩
  obtain ⟨A, cc, rfl, _⟩ := own_slice f
  exact ⟨A, cc, a, (h.used hi b c).below d, (c.mono (stF_at hi)).trans (Turn.of_below (F := fun _ => False) d) (fun _ h => h.elim), ownsRow_lower f c.size⟩
theorem s_commitD (h : Sto E w0 W S q l V es) (k : Nat → BitVec 8) (hl : es.length ≤ 16) {i : Nat} {e : Be} (hf : es.findIdx? (Be.is k) = some i) (hi : es[i]? = some e) (hd : e.done = true) : Calls Tryd.prog 81 #[.pointer (some ⟨S, 0, none⟩), .agg (arr8 32 k)] W fun r W' => r = .returned .nilIface ∧ Sto E w0 W' S q l V (es.set i e.used) ∧ Turn (stF S V es) W W' :=
  (commit_done h.st hl k hf hi hd).mono fun _ _ ⟨a, b, c⟩ => ⟨a, h.used hi b c, c.mono (stF_at hi)⟩
theorem s_commitS (h : Sto E w0 W S q l V es) (k : Nat → BitVec 8) (hl : es.length ≤ 16) {i : Nat} {e : Be} (hf : es.findIdx? (Be.is k) = some i) (hi : es[i]? = some e) (hd : e.done = false) (hn : (e.bs.length : Int) < e.n) : Calls Tryd.prog 81 #[.pointer (some ⟨S, 0, none⟩), .agg (arr8 32 k)] W fun r W' => r = .returned (errV (E 16)) ∧ Sto E w0 W' S q l V (es.set i e.used) ∧ Turn (stF S V es) W W' :=
  (commit_short h.st hl k hf hi E h.errs (h.gne hi) hd hn).mono fun _ _ ⟨a, b, c⟩ => ⟨a, h.used hi b c, c.mono (stF_at hi)⟩
theorem s_commitX (h : Sto E w0 W S q l V es) (hK : KAt w0) (k : Nat → BitVec 8) (hl : es.length ≤ 16) {i : Nat} {e : Be} (hf : es.findIdx? (Be.is k) = some i) (hi : es[i]? = some e) (hd : e.done = false) (ys : List (BitVec 8)) (hys : e.bs = bys ys) (hn : (e.bs.length : Int) = e.n) (hn2 : e.n ≤ 30000) (hq : (idl (shaOf ys) == idl k) = false) : Calls Tryd.prog 81 #[.pointer (some ⟨S, 0, none⟩), .agg (arr8 32 k)] W fun r W' => r = .returned (errV (E 15)) ∧ Sto E w0 W' S q l V (es.set i e.used) ∧ Turn (stF S V es) W W' :=
  (commit_bad h.st (hK.below h.be) hl k hf hi E h.errs (h.gne hi) hd ys hys hn hn2 hq).mono fun _ _ ⟨a, b, c⟩ => ⟨a, h.used hi b c, c.mono (stF_at hi)⟩
abbrev doneB (e : Be) : Be := ⟨e.g, e.f, e.n, e.D, e.bs, true, 0⟩
theorem s_commit (h : Sto E w0 W S q l V es) (hK : KAt w0) (k : Nat → BitVec 8) (hl : es.length ≤ 16) {i : Nat} {e : Be} (hf : es.findIdx? (Be.is k) = some i) (hi : es[i]? = some e) (hd : e.done = false) (ys : List (BitVec 8)) (hys : e.bs = bys ys) (hn : (e.bs.length : Int) = e.n) (hn2 : e.n ≤ 30000) (hq : (idl (shaOf ys) == idl k) = true) : Calls Tryd.prog 81 #[.pointer (some ⟨S, 0, none⟩), .agg (arr8 32 k)] W fun r W' => r = .returned .nilIface ∧ Sto E w0 W' S q l V (es.set i (doneB e)) ∧ Turn (stF S V es) W W' := by
  refine (commit_ok h.st (hK.below h.be) hl k hf hi hd ys hys hn hn2 hq).mono ?_
  rintro r W' ⟨a, b, c⟩
  exact ⟨a, h.step b c (fun k hk => stF_at hi k hk) (stF_set (e' := doneB e) hi rfl (fun _ hk => .inl hk)), c.mono (stF_at hi)⟩
abbrev spoB (e : Be) (m : Nat) (x : Int) : Be := ⟨e.g, e.f, e.n, e.D, e.bs.set m (spo x), e.done, e.idle⟩
set_option maxRecDepth 100000 in
set_option maxHeartbeats 800000 in
theorem s_deleteN (h : Sto E w0 W S q l V es) (k : Nat → BitVec 8) (hl : es.length ≤ 16) (hf : es.findIdx? (Be.is k) = none) : Calls Tryd.prog 84 #[.pointer (some ⟨S, 0, none⟩), .agg (arr8 32 k)] W fun r W' => r = .returned (errV (E 13)) ∧ Sto E w0 W' S q l V es ∧ Turn (stF S V es) W W' := by
  have hb0 := below_alc W (.cells (arr8 32 k) 23)
  have hpl := Lib.hid (place_b (h.st.below hb0) (by omega) k)
  rw [bix_none hf] at hpl
  have HE := Lib.hid (And.intro (h.errs.below hb0) h)
  clear h
  go_enter Tryd.func84, Tryd.ntmps84
  go_wp2_with (first | (refine wpList_load_row rfl 23 _ rfl W.heap.size rfl _ _ _ _ (heap_alloc_new _ _) Tryd.underlying23 rfl (by rw [arr8_size]; kernel_rfl) ?_) | (go_at_call 90; refine hpl.out.mono ?_; rintro r W1 ⟨rfl, hb'⟩; have he := (HE.out.1.below hb').c 13 (by decide); have he2 : W1.drew.cell? ⟨gE 13, 0, none⟩ = some (errV (E 13)) := he; simp only [gE] at he he2))
  go_ret
  have hb2 := hb0.trans (hb'.mono hb0.size)
  exact ⟨rfl, HE.out.2.below hb2, Turn.of_below hb2⟩
set_option maxRecDepth 100000 in
set_option maxHeartbeats 800000 in
theorem s_delete {e : Be} (h : Sto E w0 W S q l V [e]) (k : Nat → BitVec 8) (hf : Be.is k e = true) : Calls Tryd.prog 84 #[.pointer (some ⟨S, 0, none⟩), .agg (arr8 32 k)] W fun r W' => r = .returned .nilIface ∧ ∃ V', Sto E w0 W' S q l V' [] ∧ Turn (stF S V [e]) W W' := by
  have hb0 := below_alc W (.cells (arr8 32 k) 23)
  have hpl := Lib.hid (place_b (h.st.below hb0) (by simp) k)
  rw [bix_some (find_one e k hf)] at hpl
  obtain ⟨g, c, hV⟩ : ∃ g c, V = .slice (some ⟨g, 0, none⟩) 1 c := by
    rcases h.st.own.2 with ⟨_, h0⟩ | ⟨g, c, _, h1, _⟩
    · simp at h0
    · exact ⟨g, c, h1⟩
  have HV := Lib.hid hV
  have H := Lib.hid h
  clear h hV
  go_enter Tryd.func84, Tryd.ntmps84
  go_upto_region 4 with (first | (refine wpList_load_row rfl 23 _ rfl W.heap.size rfl _ _ _ _ (heap_alloc_new _ _) Tryd.underlying23 rfl (by rw [arr8_size]; kernel_rfl) ?_) | (go_at_call 90; refine hpl.out.mono ?_; rintro r W1 ⟨rfl, hb'⟩; have HB := Lib.hid hb'; clear hb'))
  have h1 : Sto E w0 W1 S q l V [e] := (H.out.below hb0).below HB.out
  have hst1 := h1.st.st
  have hown1 : W1.ownsRow 0 107 1 (.slice (some ⟨g, 0, none⟩) 1 c) 1 [e.ptr] := by rw [← HV.out]; exact h1.st.own
  have hdel := Lib.hid (delete_one g c e W1 hown1)
  have HSn : Hid (S ≠ g) := by
    obtain ⟨cur, hc⟩ := own_cells hown1 (k := g) rfl
    exact ty_ne hst1 hc (by decide)
  have HSg : Hid (S = S) := rfl
  refine wp_region_lit ?_
  try simp only [put_list, List.set_cons_zero, List.set_cons_succ]
  refine wpList_run (by kernel_rfl) (.pointer (some ⟨S, 0, none⟩)) (W1) (exec_move rfl (by kernel_rfl)) ?_
  try simp only [put_list, List.set_cons_zero, List.set_cons_succ]
  refine wpList_run (by kernel_rfl) (.pointer (some ⟨S, 0, none⟩)) (W1) (exec_move rfl (by kernel_rfl)) ?_
  try simp only [put_list, List.set_cons_zero, List.set_cons_succ]
  refine wpList_run (by kernel_rfl) (.pointer (some ⟨S, 0, none⟩)) (W1) (exec_nil rfl (by kernel_rfl)) ?_
  try simp only [put_list, List.set_cons_zero, List.set_cons_succ]
  refine wpList_run (by kernel_rfl) (.pointer (some ⟨S, 2, none⟩)) (W1) (exec_field (vx := .pointer (some ⟨S, 0, none⟩)) rfl (by kernel_rfl) (by kernel_rfl)) ?_
  try simp only [put_list, List.set_cons_zero, List.set_cons_succ]
  refine wpList_run (by kernel_rfl) (.slice (some ⟨g, 0, none⟩) 1 c) (W1) (exec_load (vx := .pointer (some ⟨S, 2, none⟩)) rfl (by kernel_rfl) (by rw [← HV.out]; exact load_stV hst1)) ?_
  try simp only [put_list, List.set_cons_zero, List.set_cons_succ]
  refine wpList_run (by kernel_rfl) (.int .i64 0) (W1) (exec_move rfl (by kernel_rfl)) ?_
  try simp only [put_list, List.set_cons_zero, List.set_cons_succ]
  refine wpList_run (by kernel_rfl) (.int .i64 0) (W1) (exec_move rfl (by kernel_rfl)) ?_
  try simp only [put_list, List.set_cons_zero, List.set_cons_succ]
  refine wpList_run (by kernel_rfl) (.int .i64 1) (W1) (exec_bin (vx := .int .i64 0) (vy := Go.Value.int Go.IntKind.i64 1) rfl (by kernel_rfl) (by kernel_rfl)) ?_
  refine wpList_call (by kernel_rfl) 91 #[Go.Operand.tmp 16, Go.Operand.tmp 17, Go.Operand.tmp 19] #[101, 3, 3] #[.slice (some ⟨g, 0, none⟩) 1 c, .int .i64 0, .int .i64 1] _ rfl (by kernel_rfl) (by kernel_rfl) (hdel.out) ?_
  rintro r W3 ⟨rfl, hown3, ht3⟩
  refine ⟨_, rfl, ?_⟩
  have hst3 := (ht3.block S (lt_heap hst1) (by rw [← HSg.out]; exact HSn.out)).trans hst1
  have hf3 := thaw_heap hst3 2
  have hc3 := load_st2 S W3 q l V hst3
  try simp only [put_list, List.set_cons_zero, List.set_cons_succ]
  refine wpList_run (by kernel_rfl) (.pointer (some ⟨S, 0, none⟩)) (W3) (exec_nil rfl (by kernel_rfl)) ?_
  try simp only [put_list, List.set_cons_zero, List.set_cons_succ]
  refine wpList_run (by kernel_rfl) (.pointer (some ⟨S, 2, none⟩)) (W3) (exec_field (vx := .pointer (some ⟨S, 0, none⟩)) rfl (by kernel_rfl) (by kernel_rfl)) ?_
  refine wpList_skip rfl ((W3.setCell ⟨S, 2, none⟩ (.slice (some ⟨g, 0, none⟩) 0 c))) (exec_store (vx := .pointer (some ⟨S, 2, none⟩)) (vy := .slice (some ⟨g, 0, none⟩) 0 c) rfl (by kernel_rfl) (store_V hc3 hf3)) ?_
  refine wpList_nil ?_
  try simp only [put_list, put_none, List.set_cons_zero, List.set_cons_succ]
  have H3 := Lib.hid (And.intro hown3 (And.intro ht3 (And.intro hst3 h1)))
  clear hown3 ht3 hst3 hf3 hc3 h1 hst1 hown1 hdel hpl
  go_wp2_with fail
  go_ret
  obtain ⟨hown3, ht3, hst3, h1⟩ := H3.out
  have hset : Turn (· = S) W3 (W3.setCell ⟨S, 2, none⟩ (.slice (some ⟨g, 0, none⟩) 0 c)) := set_turnH W3 S 2 _
  have hgV : V.ownBlock = some g := by rw [HV.out]; rfl
  have t13 : Turn (fun x => x = g ∨ x = S) W1 (W3.setCell ⟨S, 2, none⟩ (.slice (some ⟨g, 0, none⟩) 0 c)) := (ht3.mono (fun _ h => .inl h)).trans hset (fun _ h => .inl (.inr h))
  have hF : ∀ x, (x = g ∨ x = S) → stF S V [e] x := fun x hx => hx.elim (fun y => .inr (.inl (by rw [hgV, y]))) (fun y => .inl y)
  have hs : StS (W3.setCell ⟨S, 2, none⟩ (.slice (some ⟨g, 0, none⟩) 0 c)) S q l (.slice (some ⟨g, 0, none⟩) 0 c) [] := by
    refine ⟨st_set hst3 _, ?_, fun i e h => by simp at h, fun i e h => by simp at h, fun i j e e' _ h => by simp at h, fun i j e e' _ h => by simp at h⟩
    exact own_keep hown3 fun x hx => by
      obtain rfl : g = x := Option.some.inj hx
      exact hset.block g (hown3.lt g rfl).2 (fun y => HSn.out y.symm)
  refine ⟨rfl, ⟨.slice (some ⟨g, 0, none⟩) 0 c, h1.step hs t13 hF (fun x hx => .inl ?_)⟩, (Turn.of_below (F := stF S V [e]) (hb0.trans (HB.out.mono hb0.size))).trans t13 (fun x hx => .inl (hF x hx))⟩
  rcases hx with hx | hx | ⟨i, y, hy, _⟩
  · exact .inl hx
  · exact .inr (.inl (hgV.trans hx))
  · simp at hy
end
end Go.Proofs.YtocjmlncpjfnfaaDoor
