import Derived.Test.YtocjmlncpjfnfaaDoorBlg
import Derived.Test.YtocjmlncpjfnfaaDoorPsh
/-
  blob: Put.
  blob: the store beside the errors, behind a world.
-/
namespace Go.Proofs.YtocjmlncpjfnfaaDoor
open Go.RowKit

theorem load_sl {W : World} {eg o n c : Nat} {B : Option Addr} (h : W.cell? ⟨eg, o, none⟩ = some (.slice B n c)) : (Instr.loadAt 25 (.pointer (some ⟨eg, o, none⟩))).run Tryd.prog W = .ok (.slice B n c) W := by
  have h2 := Tryd.underlying25
  go_simp
theorem ints_take (k : IntKind) (xs : List Int) (n : Nat) : (ints k xs).take n = ints k (xs.take n) := by simp [ints, List.map_take]
theorem ints_drop (k : IntKind) (xs : List Int) (n : Nat) : (ints k xs).drop n = ints k (xs.drop n) := by simp [ints, List.map_drop]
theorem ints_app (k : IntKind) (xs ys : List Int) : ints k xs ++ ints k ys = ints k (xs ++ ys) := by simp [ints]
/-- a copy into a row of one's own, from a place on -/
theorem own_copy {ops : Array Oper} {rest : List Oper} {o : Oper} {a : Act} {Q : Exit → Act → World → Prop} (hgd : o.guard = none) (d s : Operand)
    (ho : o.op = .call { callee := .builtin .copy, args := #[d, s], argTypes := #[25, 25] }) (W : World) (B : Option Addr) (bl c : Nat) (bs ys : List Int) (off : Nat) (A : Option Addr) (m cb : Nat) (hbl : bl = bs.length)
    (hd : a.eval d = .slice (cutA B off c) (bl - off) (c - off)) (hs : a.eval s = .slice A m cb) (hm : ys.length = m) (hoff : off ≤ bl) (hown : W.ownsRow 0 5 1 (.slice B bl c) bs.length (ints .u8 bs)) (hA : SlRead W A (ints .u8 ys))
    (h : ∀ W', W'.ownsRow 0 5 1 (.slice B bl c) bs.length (ints .u8 (bs.take off ++ ys.take (Nat.min m (bl - off)) ++ bs.drop (off + Nat.min m (bl - off)))) → W.grownBy W' (Value.slice B bl c).ownBlock → wpList Tryd.prog ops Q rest (a.put o.dst (goInt (Nat.min m (bl - off)))) W') :
    wpList Tryd.prog ops Q (o :: rest) a W := by
  subst hbl
  obtain ⟨kk, hkk⟩ : ∃ x, x = Nat.min m (bs.length - off) := ⟨_, rfl⟩
  rw [← hkk] at h
  by_cases h0 : kk = 0
  · refine wpList_copy_nothing hgd d s _ _ ho 5 Tryd.underlying25 (by kernel_rfl) _ _ _ _ _ _ hd hs (by rw [← hkk, h0]) ?_
    have := h W (by rw [h0]; simpa using hown) ⟨rfl, rfl, rfl, Nat.le_refl _, fun _ _ _ => rfl⟩
    rwa [h0] at this
  · have hk1 : kk ≤ m := by rw [hkk]; exact Nat.min_le_left _ _
    have hk2 : kk ≤ bs.length - off := by rw [hkk]; exact Nat.min_le_right _ _
    obtain ⟨b', o', rfl, _, hc⟩ := hA (by simp [ints]; omega)
    rcases hown with ⟨hlen, h2 | ⟨g, c', cur, e1, hb0, hcur, hnc, hcm, hcs, htk⟩⟩
    · have := h2.2
      omega
    · simp only [Value.slice.injEq] at e1
      obtain ⟨rfl, _, rfl⟩ := e1
      have hcl : (ints .u8 (ys.take kk)).length = kk := by simp [ints]; omega
      rw [cutA_some (by omega) hnc, Nat.zero_add] at hd
      have hcz : cur.toList.length = c * 1 := by rw [Array.length_toList]; exact hcs
      refine wpList_copy_own hgd d s _ _ ho 5 Tryd.underlying25 (by kernel_rfl) g off _ _ ⟨b', o', none⟩ _ _ hd hs cur 5 hcur (ints .u8 (ys.take kk)) (by rw [hcl]; exact hkk) ?_ (by rw [hcl]; omega) (ints_one .u8 _) ?_
      · intro j v hv
        rw [add_eq]
        rw [← ints_take, List.getElem?_take] at hv
        split at hv
        · exact hc j v hv
        · cases hv
      · rw [hcl]
        refine h _ ⟨?_, .inr ⟨g, c, _, rfl, hb0, setRow_heap W g cur _ _ _ hcur, hnc, hcm, ?_, ?_⟩⟩ ⟨rfl, rfl, rfl, by simp [World.setRow], fun k _ hk => setRow_other W g k _ (fun e => hk (by rw [e]; rfl))⟩
        · simp [ints]; omega
        · simp only [List.size_toArray, List.length_append, List.length_take, List.length_drop, hcl]
          omega
        · rw [Nat.mul_one] at *
          have e1 : cur.toList.take off = ints .u8 (bs.take off) := by rw [← ints_take, ← htk, List.take_take, Nat.min_eq_left (by omega)]
          have e2 : (cur.toList.drop (off + kk)).take (bs.length - (off + kk)) = ints .u8 (bs.drop (off + kk)) := by rw [← ints_drop, ← htk, List.drop_take]
          have l1 : (ints .u8 (bs.take off)).length = off := by simp [ints]; omega
          rw [e1]
          show (ints .u8 (bs.take off) ++ (ints .u8 (ys.take kk) ++ cur.toList.drop (off + kk))).take bs.length = _
          rw [List.take_append, List.take_append, l1, hcl, List.take_of_length_le (l := ints .u8 (bs.take off)) (by rw [l1]; omega), List.take_of_length_le (l := ints .u8 (ys.take kk)) (by rw [hcl]; omega), show bs.length - off - kk = bs.length - (off + kk) by omega, e2, ints_app, ints_app, List.append_assoc]
/-- numbers appended to a row of bytes, as a run -/
theorem push_b (ty : TypeId) (W : World) (D : Value) (xs : List Int) (hown : W.ownsRow 0 5 1 D xs.length (ints .u8 xs)) (B : Option Addr) (ys : List Int) (m c : Nat) (hm : ys.length = m) (hB : SlRead W B (ints .u8 ys)) (hl : xs.length + ys.length ≤ 1000000) :
    ∃ v' w', (Builtin.append_ #[25, 25] ty #[D, .slice B m c]).run Tryd.prog W = .ok v' w' ∧ w'.ownsRow 0 5 1 v' (xs ++ ys).length (ints .u8 (xs ++ ys)) ∧ W.grownBy w' D.ownBlock ∧ (∀ k, v'.ownBlock = some k → D.ownBlock = some k ∨ W.heap.size ≤ k) := by
  subst hm
  obtain ⟨i0, hi, hz0, hz1, hz2⟩ := info_parts Tryd.info5
  cases B with
  | none =>
    have hy : ys = [] := by
      rcases ys with _ | ⟨y, r⟩
      · rfl
      · obtain ⟨b, o', e1, _⟩ := hB (by simp)
        cases e1
    subst hy
    exact ⟨D, W, run_append_noneP W 0 25 ty 5 i0 1 Tryd.underlying25 hi D _ _ hown c, by simpa using hown, ⟨rfl, rfl, rfl, Nat.le_refl _, fun _ _ _ => rfl⟩, fun k hk => .inl hk⟩
  | some ad =>
    obtain ⟨v', w', h1, h2, h3, _, h4⟩ := run_append_own2 (P := Tryd.prog) W 0 25 ty 5 i0 (.int .u8 0) 1 1 Tryd.underlying25 hi hz0 hz1 hz2 rfl (by decide) D xs.length (ints .u8 xs) hown ad ys.length c (ints .u8 ys) (by simp [ints]) (by
      intro j u hu
      have hn : 0 < (ints .u8 ys).length := by
        have := (List.getElem?_eq_some_iff.1 hu).1
        omega
      obtain ⟨b', o', e1, _, hc⟩ := hB hn
      obtain rfl : ad = ⟨b', o', none⟩ := by simpa using e1
      rw [add_eq]
      exact hc j u hu) (ints_one .u8 _) (by unfold maxLen; omega) (by omega) (Nat.zero_le _)
    refine ⟨v', w', h1, ?_, h3, h4⟩
    rw [List.length_append, ← ints_app]
    exact h2
/-- what stands behind a Put -/
def over (bs : List Int) (off : Nat) (ys : List Int) : List Int := bs.take off ++ ys ++ bs.drop (off + ys.length)
theorem over_two (bs ys : List Int) (off : Nat) (h : off ≤ bs.length) : (bs.take off ++ ys.take (Nat.min ys.length (bs.length - off)) ++ bs.drop (off + Nat.min ys.length (bs.length - off))) ++ ys.drop (Nat.min ys.length (bs.length - off)) = over bs off ys := by
  unfold over
  rcases Nat.le_total ys.length (bs.length - off) with h1 | h1
  · rw [show Nat.min ys.length (bs.length - off) = ys.length from Nat.min_eq_left h1, List.take_of_length_le (Nat.le_refl _), List.drop_of_length_le (Nat.le_refl _), List.append_nil]
  · rw [show Nat.min ys.length (bs.length - off) = bs.length - off from Nat.min_eq_right h1, List.drop_of_length_le (show bs.length ≤ off + (bs.length - off) by omega), List.drop_of_length_le (show bs.length ≤ off + ys.length by omega), List.append_nil, List.append_nil, List.append_assoc, List.take_append_drop]
theorem over_len (bs ys : List Int) (off : Nat) (h : off ≤ bs.length) : (over bs off ys).length = max bs.length (off + ys.length) := by
  unfold over
  simp only [List.length_append, List.length_take, List.length_drop]
  omega
/-- what Put's last region wants -/
def PutPB (eg : Nat) (D : Value) (W : World) : Prop := W.cell? ⟨eg, 33, none⟩ = some D
theorem PutPB.grown {eg : Nat} {D : Value} {W W' : World} {row : Option Nat} (h : PutPB eg D W) (hg : W.grownBy W' row) (hn : some eg ≠ row) : PutPB eg D W' := (World.cell?_of_block (hg.block eg (World.block_lt_of_cell? _ _ h) hn)).trans h
section
variable {w : World} {S : Nat} {q l : Int} {V : Value} {es : List Be}
set_option maxRecDepth 100000 in
set_option maxHeartbeats 1600000 in
theorem put_ok (h : StS w S q l V es) (hl : es.length ≤ 16) (k : Nat → BitVec 8) {i : Nat} {e : Be} (hf : es.findIdx? (Be.is k) = some i) (hi : es[i]? = some e) (hd : e.done = false) (A : Option Addr) (ys : List Int) (m cb off : Nat) (hm : ys.length = m) (hmc : m ≤ cb) (hA : SlRead w A (ints .u8 ys)) (hAb : ∀ b o, A = some ⟨b, o, none⟩ → b ≠ e.g ∧ e.D.ownBlock ≠ some b) (hoff : off ≤ e.bs.length) (hfit : (off : Int) + m ≤ e.n) (hen : 0 ≤ e.n ∧ e.n ≤ 30000) (hbn : (e.bs.length : Int) ≤ e.n) :
    Calls Tryd.prog 80 #[.pointer (some ⟨S, 0, none⟩), .agg (arr8 32 k), .int .i64 (off : Int), .slice A m cb] w fun r w' => r = .returned (.tuple #[.int .i64 ((over e.bs off ys).length : Int), .nilIface]) ∧ ∃ D', StS w' S q l V (es.set i ⟨e.g, e.f, e.n, D', over e.bs off ys, false, 0⟩) ∧ Turn (fun x => x = e.g ∨ e.D.ownBlock = some x) w w' ∧ (∀ x, D'.ownBlock = some x → e.D.ownBlock = some x ∨ w.heap.size ≤ x) := by
  have hb0 := below_alc w (.cells (arr8 32 k) 23)
  have hus := Lib.hid (use_some (h.below hb0) (by omega) k hf hi)
  have hptr : e.ptr = .pointer (some ⟨e.g, 0, none⟩) := rfl
  rw [hptr] at hus
  obtain ⟨B, c, hD, hbc, hcm, _⟩ := own_slice (h.byt i e hi)
  obtain ⟨bl, hbl⟩ : ∃ x, x = e.bs.length := ⟨_, rfl⟩
  rw [← hbl] at hD hoff hbn
  have HC : Hid (∀ W1, StS W1 S q l V (es.set i e.used) → W1.cell? ⟨e.g, 32, none⟩ = some (.int .i64 e.n) ∧ W1.cell? ⟨e.g, 33, none⟩ = some (.slice B bl c) ∧ W1.cell? ⟨e.g, 34, none⟩ = some (.bool false)) := fun W1 hs => by
    rw [← hD, ← hd]
    exact hs.cells hi
  have HA := Lib.hid (And.intro hA hAb)
  have HI := Lib.hid (And.intro hi hD)
  have HBL := Lib.hid hbl
  have HST := Lib.hid h
  have HM := Lib.hid hm
  have HDN := Lib.hid hd
  have h1 : ¬ (off : Int) < 0 := by omega
  have h2 : ¬ (bl : Int) < (off : Int) := by omega
  have h3 : ¬ e.n - (off : Int) < (m : Int) := by omega
  have h4 : -9223372036854775808 ≤ e.n - (off : Int) ∧ e.n - (off : Int) ≤ 9223372036854775807 := by omega
  obtain ⟨eg, heg⟩ : ∃ x, x = e.g := ⟨_, rfl⟩
  rw [← heg] at hus HC
  have HEG := Lib.hid heg
  clear h hD hf hA hAb hi hbl heg hptr hm hd
  go_enter Tryd.func80, Tryd.ntmps80
  go_upto_region 8 with (first | (refine wpList_load_row rfl 23 _ rfl w.heap.size rfl _ _ _ _ (heap_alloc_new _ _) Tryd.underlying23 rfl (by rw [arr8_size]; kernel_rfl) ?_) | (go_at_call 87; refine hus.out.mono ?_; rintro r W1 ⟨rfl, hs1, ht1⟩; obtain ⟨c32, c33, c34⟩ := HC.out W1 hs1; have HS := Lib.hid (And.intro hs1 ht1); clear hs1 ht1))
  obtain ⟨s1, t1⟩ := HS.out
  have t2 : Turn (· = eg) w W1 := (Turn.of_below hb0).trans t1 (fun k hk => .inl hk)
  obtain ⟨hi, hD⟩ := HI.out
  obtain ⟨bs, hbs⟩ : ∃ x, x = e.bs := ⟨_, rfl⟩
  have hbl : bl = bs.length := by rw [hbs]; exact HBL.out
  have hown : W1.ownsRow 0 5 1 (.slice B bl c) bs.length (ints .u8 bs) := by
    have := s1.byt i e.used (set_get hi)
    rw [hbs, ← hD]
    exact this
  have hA1 : SlRead W1 A (ints .u8 ys) := fun hn => by
    obtain ⟨b, o, rfl, hlt, hc⟩ := HA.out.1 hn
    exact ⟨b, o, rfl, Nat.lt_of_lt_of_le hlt t2.size, fun j u hu => (t2.cell hlt (fun y => (HA.out.2 b o rfl).1 (y.trans HEG.out))).trans (hc j u hu)⟩
  have hm := HM.out
  obtain ⟨kk, hkk⟩ : ∃ x, x = Nat.min m (bl - off) := ⟨_, rfl⟩
  have hkm : kk ≤ m := by rw [hkk]; exact Nat.min_le_left _ _
  clear hus HC c32 c34
  refine wp_region_lit ?_
  try simp only [put_list, List.set_cons_zero, List.set_cons_succ]
  refine wpList_run (by kernel_rfl) (.pointer (some ⟨eg, 0, none⟩)) (W1) (exec_move rfl (by kernel_rfl)) ?_
  try simp only [put_list, List.set_cons_zero, List.set_cons_succ]
  refine wpList_run (by kernel_rfl) (.pointer (some ⟨eg, 0, none⟩)) (W1) (exec_nil rfl (by kernel_rfl)) ?_
  try simp only [put_list, List.set_cons_zero, List.set_cons_succ]
  refine wpList_run (by kernel_rfl) (.pointer (some ⟨eg, 33, none⟩)) (W1) (exec_field (vx := .pointer (some ⟨eg, 0, none⟩)) rfl (by kernel_rfl) (by kernel_rfl)) ?_
  try simp only [put_list, List.set_cons_zero, List.set_cons_succ]
  refine wpList_run (by kernel_rfl) (.slice B bl c) (W1) (exec_load (vx := .pointer (some ⟨eg, 33, none⟩)) rfl (by kernel_rfl) (load_sl c33)) ?_
  try simp only [put_list, List.set_cons_zero, List.set_cons_succ]
  refine wpList_run (by kernel_rfl) (.int .i64 (off : Int)) (W1) (exec_move rfl (by kernel_rfl)) ?_
  try simp only [put_list, List.set_cons_zero, List.set_cons_succ]
  refine wpList_run (by kernel_rfl) (.slice (cutA B off c) (bl - off) (c - off)) (W1) (exec_slice (vx := .slice B bl c) (l := some (.int .i64 (off : Int))) (h := none) (m := none) rfl (by kernel_rfl) (slice_sl_l Tryd.underlying25 (by kernel_rfl) B bl c off _ rfl hoff _)) ?_
  try simp only [put_list, List.set_cons_zero, List.set_cons_succ]
  refine wpList_run (by kernel_rfl) (.slice A m cb) (W1) (exec_move rfl (by kernel_rfl)) ?_
  refine own_copy (by kernel_rfl) (Go.Operand.tmp 54) (Go.Operand.tmp 55) (by kernel_rfl) W1 B bl c bs ys off A m cb hbl (by kernel_rfl) (by kernel_rfl) hm hoff hown hA1 ?_
  intro W2 hown2 hg2
  rw [← hkk] at hown2
  rw [← hkk, show goInt kk = .int .i64 (kk : Int) from rfl]
  try simp only [put_list, List.set_cons_zero, List.set_cons_succ]
  refine wpList_run (by kernel_rfl) (.int .i64 (kk : Int)) (W2) (exec_assign rfl (by kernel_rfl)) ?_
  refine wpList_nil ?_
  simp only [put_list, List.set_cons_zero, List.set_cons_succ]
  clear c33
  go_upto_region 9 with (fail)
  obtain ⟨bs2, hbs2⟩ : ∃ x, x = bs.take off ++ ys.take kk ++ bs.drop (off + kk) := ⟨_, rfl⟩
  have hl2 : bs2.length = bs.length := by
    rw [hbs2]
    simp only [List.length_append, List.length_take, List.length_drop]
    have : kk ≤ bl - off := by rw [hkk]; exact Nat.min_le_right _ _
    omega
  rw [← hbs2, ← hl2] at hown2
  have hown2' : W2.drew.ownsRow 0 5 1 (.slice B bl c) bs2.length (ints .u8 bs2) := hown2
  have hen1 : W1.heap[eg]? = some (.cells (enA e.f e.n (.slice B bl c) e.done 0) 109 (0, 0)) := by
    have := s1.ent i e.used (set_get hi)
    rw [HEG.out, ← hD]
    exact this
  have hbE1 : some eg ≠ (Value.slice B bl c).ownBlock := own_ne hown hen1 (by decide)
  have hen2 := heap_grown hen1 hg2 hbE1
  have hbE : some eg ≠ (Value.slice B bl c).ownBlock := hbE1
  have hS : PutPB eg (.slice B bl c) W2.drew := cell_heap (W := W2) hen2 (en_c33 _ _ _ _ _)
  have hA2 : SlRead W2.drew (cutA A kk cb) (ints .u8 (ys.drop kk)) := by
    have hr2 : SlRead W2.drew A (ints .u8 ys) := fun hn => by
      obtain ⟨b, o, e1, hlt, hc⟩ := hA1 hn
      refine ⟨b, o, e1, Nat.lt_of_lt_of_le hlt hg2.size, fun j u hu => ?_⟩
      exact (World.cell?_of_block (hg2.block b hlt (fun y => (HA.out.2 b o e1).2 (by rw [hD]; exact y.symm)))).trans (hc j u hu)
    exact hr2.cut kk _ fun hlt b o e1 => by rw [e1]; exact cutA_some (by omega) hmc
  have HX := Lib.hid (And.intro hbs2 (And.intro hkk (And.intro hl2 (And.intro hown2 hg2))))
  refine wp_region_held_cut (S := PutPB eg (.slice B bl c)) 9 (by kernel_rfl) (by kernel_rfl) (hS) (fun hHeld => ?_)
  refine held_move 0 (Go.Operand.tmp 10) (some 57) (.pointer (some ⟨eg, 0, none⟩)) (by kernel_rfl) (by kernel_rfl) (by kernel_rfl) (by kernel_rfl) (by kernel_rfl) (fun _ _ _ _ _ h => h) hHeld ?_
  refine held_move 1 (Go.Operand.tmp 10) (some 58) (.pointer (some ⟨eg, 0, none⟩)) (by kernel_rfl) (by kernel_rfl) (by kernel_rfl) (by kernel_rfl) (by kernel_rfl) (fun _ _ _ _ _ h => h) hHeld ?_
  refine held_nil 2 (Go.Operand.tmp 58) (some 59) ⟨eg, 0, none⟩ (by kernel_rfl) (by kernel_rfl) (by kernel_rfl) (by kernel_rfl) (by kernel_rfl) (fun _ _ _ _ _ h => h) hHeld ?_
  refine held_field 3 109 (Go.Operand.tmp 59) 2 (some 60) (.pointer (some ⟨eg, 0, none⟩)) (.pointer (some ⟨eg, 33, none⟩)) (by kernel_rfl) (by kernel_rfl) (fun w => by kernel_rfl) (by kernel_rfl) (by kernel_rfl) (by kernel_rfl) (fun _ _ _ _ _ h => h) hHeld ?_
  refine held_cell 4 25 (Go.Operand.tmp 60) (some 61) (.pointer (some ⟨eg, 33, none⟩)) (.slice B bl c) (by kernel_rfl) (by kernel_rfl) (fun W hw => load_sl hw) (by kernel_rfl) (by kernel_rfl) (by kernel_rfl) (fun _ _ _ _ _ h => h) hHeld ?_
  refine held_move 5 (Go.Operand.tmp 3) (some 62) (.slice A m cb) (by kernel_rfl) (by kernel_rfl) (by kernel_rfl) (by kernel_rfl) (by kernel_rfl) (fun _ _ _ _ _ h => h) hHeld ?_
  refine held_move 6 (Go.Operand.tmp 11) (some 63) (.int .i64 (kk : Int)) (by kernel_rfl) (by kernel_rfl) (by kernel_rfl) (by kernel_rfl) (by kernel_rfl) (fun _ _ _ _ _ h => h) hHeld ?_
  refine held_slice 7 25 (Go.Operand.tmp 62) (some (Go.Operand.tmp 63)) none none (some 64) (.slice A m cb) (some (.int .i64 (kk : Int))) none none (.slice (cutA A kk cb) (m - kk) (cb - kk)) (by kernel_rfl) (by kernel_rfl) (fun w => slice_sl_l Tryd.underlying25 (by kernel_rfl) A m cb kk _ rfl hkm w) (by kernel_rfl) (by kernel_rfl) (by kernel_rfl) (fun _ _ _ _ _ h => h) hHeld ?_
  obtain ⟨D3, W3, hr3, ho3, hg3, hk3⟩ := push_b 25 W2.drew (.slice B bl c) bs2 hown2' (cutA A kk cb) (ys.drop kk) (m - kk) (cb - kk) (by rw [List.length_drop, hm]) hA2 (by rw [List.length_drop]; omega)
  refine held_run 8 (Go.Op.call { callee := Go.Callee.builtin Go.Builtin.append, args := #[Go.Operand.tmp 61, Go.Operand.tmp 64], argTypes := #[25, 25] }) 25 (some 65) (D3) (W3) (by kernel_rfl) (by kernel_rfl) (by kernel_rfl) (fun o ho ht => exec_append ho ht (vs := .slice B bl c) (vx := .slice (cutA A kk cb) (m - kk) (cb - kk)) (by kernel_rfl) (hr3)) (hHeld.grown hg3 hbE) ?_
  intro hHeld
  refine wpAnyH_done (by kernel_rfl) ?_ _
  show wpList _ _ _ _ _ _
  simp only [Act.put, List.setIfInBounds_toArray, List.set_cons_zero, List.set_cons_succ, List.drop_succ_cons, List.drop_zero]
  have hst3 : W3.heap[eg]? = some (.cells (enA e.f e.n (.slice B bl c) e.done 0) 109 (0, 0)) := heap_grown (show W2.drew.heap[eg]? = _ from hen2) hg3 hbE
  have hfz := thaw_heap hst3 33
  have hc3 : W3.cell? ⟨eg, 33, none⟩ = some (.slice B bl c) := cell_heap hst3 (en_c33 _ _ _ _ _)
  obtain ⟨B3, c3, hD3, _⟩ := own_slice ho3
  have hbE3 : some eg ≠ D3.ownBlock := own_ne ho3 hst3 (by decide)
  have H3 := Lib.hid (And.intro ho3 (And.intro hg3 (And.intro hk3 (And.intro hst3 (And.intro hbE3 hbE)))))
  obtain ⟨n3, hn3⟩ : ∃ x, x = (bs2 ++ ys.drop kk).length := ⟨_, rfl⟩
  rw [← hn3] at hD3
  have HN3 := Lib.hid hn3
  subst hD3
  have HS1 := Lib.hid (And.intro s1 t2)
  have HIX := Lib.hid (And.intro hi hD)
  have HOF := Lib.hid hoff
  have HBS := Lib.hid hbs
  clear hn3 ho3 hg3 hk3 hr3 hst3 hbE3 hbE hbE1 hen1 hen2 hA1 hA2 hS hown hown2 hown2' hg2 s1 t1 t2 hi hD hl2 hbs2 hkk hkm hoff
  go_wp2_with fail
  go_ret2
  obtain ⟨ho3, hg3, hk3, hst3, hbE3, hbE⟩ := H3.out
  obtain ⟨s1, t2⟩ := HS1.out
  obtain ⟨hi, hD⟩ := HIX.out
  obtain ⟨hbs2, hkk, hl2, hown2, hg2⟩ := HX.out
  have hoff := HOF.out
  have hov : bs2 ++ ys.drop kk = over e.bs off ys := by
    have := over_two bs ys off (by omega)
    rw [hbs2, hkk, HM.out.symm, hbl, this, HBS.out]
  rw [hov] at ho3
  have hn3 := HN3.out
  rw [hov] at hn3
  have hset : Turn (· = eg) W3 (W3.setCell ⟨eg, 33, none⟩ (.slice B3 n3 c3)) := set_turnH W3 eg 33 _
  have t13 : Turn (fun x => (Value.slice B bl c).ownBlock = some x) W1 W3 := (Turn.of_grown (F := fun x => (Value.slice B bl c).ownBlock = some x) hg2 (fun k hk => hk)).trans ((Turn.of_below ((Below.refl W2.heap.size W2).drew)).trans (Turn.of_grown (F := fun x => (Value.slice B bl c).ownBlock = some x) hg3 (fun k hk => hk)) (fun k hk => .inl hk)) (fun k hk => .inl hk)
  have t14 : Turn (fun x => x = eg ∨ (Value.slice B bl c).ownBlock = some x) W1 (W3.setCell ⟨eg, 33, none⟩ (.slice B3 n3 c3)) := (t13.mono (fun _ h => .inr h)).trans hset (fun k hk => .inl (.inl hk))
  refine ⟨by rw [hn3]; rfl, .slice B3 n3 c3, ?_, ?_, fun x hx => ?_⟩
  · have := s1.ent1 (set_get hi) (e' := ⟨e.g, e.f, e.n, .slice B3 n3 c3, over e.bs off ys, false, 0⟩) (W' := W3.setCell ⟨eg, 33, none⟩ (.slice B3 n3 c3)) rfl ?_ ?_ ?_ ?_
    · rwa [List.set_set] at this
    · show (W3.setCell ⟨eg, 33, none⟩ (.slice B3 n3 c3)).heap[e.g]? = some (.cells (enA e.f e.n (.slice B3 n3 c3) false 0) 109 (0, 0))
      rw [← HEG.out, ← en_set33 e.f e.n (.slice B bl c) (.slice B3 n3 c3) false 0, ← HDN.out]
      exact heap_setCell_same W3 eg 33 _ _ _ hst3
    · exact own_keep ho3 fun x hx => hset.block x (ho3.lt x hx).2 (fun y => hbE3 (by rw [← y]; exact hx.symm))
    · intro x hx
      rcases hk3 x hx with h5 | h5
      · exact .inl (by rw [show e.used.D = e.D from rfl, hD]; exact h5)
      · exact .inr (Nat.le_trans hg2.size h5)
    · intro x hx h5 h6
      exact t14.block x hx (fun y => y.elim (fun z => h5 (z.trans HEG.out)) (fun z => h6 (by rw [show e.used.D = e.D from rfl, hD]; exact z)))
  · rw [hD, ← HEG.out]
    exact (t2.mono (fun _ h => .inl h)).trans t14 (fun k hk => .inl hk)
  · rcases hk3 x hx with h5 | h5
    · exact .inl (by rw [hD]; exact h5)
    · exact .inr (Nat.le_trans t2.size (Nat.le_trans hg2.size h5))
end
/-- the store, all of whose blocks are newer than w0 -/
structure Sto (E : Nat → Addr) (w0 W : World) (S : Nat) (q l : Int) (V : Value) (es : List Be) : Prop where
  er : ErrsAt E w0
  be : Below w0.heap.size w0 W
  st : StS W S q l V es
  lo : ∀ k, stF S V es k → w0.heap.size ≤ k
section
variable {E : Nat → Addr} {w0 W : World} {S : Nat} {q l : Int} {V : Value} {es : List Be}
theorem Sto.errs (h : Sto E w0 W S q l V es) : ErrsAt E W := h.er.below h.be
theorem Sto.gne (h : Sto E w0 W S q l V es) {i : Nat} {e : Be} (hi : es[i]? = some e) : ∀ j, j < 19 → gE j ≠ e.g := fun j hj y => by
  have h1 := h.er.ltG hj
  have h2 := h.lo e.g (.inr (.inr ⟨i, e, hi, .inl rfl⟩))
  omega
theorem Sto.step (h : Sto E w0 W S q l V es) {W' : World} {V' : Value} {es' : List Be} {G : Nat → Prop} (hs : StS W' S q l V' es') (ht : Turn G W W') (hF : ∀ k, G k → stF S V es k) (hn : ∀ k, stF S V' es' k → stF S V es k ∨ W.heap.size ≤ k) : Sto E w0 W' S q l V' es' :=
  ⟨h.er, ht.below h.be h.be.size (fun k hk => h.lo k (hF k hk)), hs, fun k hk => (hn k hk).elim (h.lo k) (fun h2 => Nat.le_trans h.be.size h2)⟩
theorem Sto.below (h : Sto E w0 W S q l V es) {W' : World} (hb : Below W.heap.size W W') : Sto E w0 W' S q l V es := h.step (G := fun _ => False) (h.st.below hb) (Turn.of_below hb) (fun _ h => h.elim) (fun _ hk => .inl hk)
theorem Sto.keep (h : Sto E w0 W S q l V es) {W' : World} (hb : Below w0.heap.size w0 W') (hk : ∀ k, stF S V es k → W'.heap[k]? = W.heap[k]?) : Sto E w0 W' S q l V es := ⟨h.er, hb, h.st.keep hk, h.lo⟩
theorem stF_set {i : Nat} {e e' : Be} (hi : es[i]? = some e) (hg : e'.g = e.g) {n : Nat} (hD : ∀ k, e'.D.ownBlock = some k → e.D.ownBlock = some k ∨ n ≤ k) (k : Nat) (hk : stF S V (es.set i e') k) : stF S V es k ∨ n ≤ k := by
  rcases hk with h | h | ⟨j, x, hx, h⟩
  · exact .inl (.inl h)
  · exact .inl (.inr (.inl h))
  · rw [List.getElem?_set] at hx
    by_cases hj : i = j
    · subst hj
      rw [if_pos rfl, if_pos (List.getElem?_eq_some_iff.1 hi).1] at hx
      obtain rfl := Option.some.inj hx
      rcases h with h | h
      · exact .inl (.inr (.inr ⟨i, e, hi, .inl (h.trans hg)⟩))
      · rcases hD k h with h | h
        · exact .inl (.inr (.inr ⟨i, e, hi, .inr h⟩))
        · exact .inr h
    · rw [if_neg hj] at hx
      exact .inl (.inr (.inr ⟨j, x, hx, h⟩))
theorem Sto.used (h : Sto E w0 W S q l V es) {W' : World} {i : Nat} {e : Be} (hi : es[i]? = some e) (hs : StS W' S q l V (es.set i e.used)) (ht : Turn (· = e.g) W W') : Sto E w0 W' S q l V (es.set i e.used) :=
  h.step hs ht (fun _ hk => .inr (.inr ⟨i, e, hi, .inl hk⟩)) (stF_set (e' := e.used) hi rfl (fun _ hk => .inl hk))
theorem Sto.new (hE : ErrsAt E W) {W' : World} (hst : W'.heap[W.heap.size]? = some (.cells (stA q l (.slice none 0 0)) 103 (0, 0))) (hb : Below W.heap.size W W') : Sto E W W' W.heap.size q l (.slice none 0 0) [] :=
  ⟨hE, hb, ⟨hst, World.ownsRow_nil _ _ _ _, fun i e h => by simp at h, fun i e h => by simp at h, fun i j e e' _ h => by simp at h, fun i j e e' _ h => by simp at h⟩, fun k hk => by
    rcases hk with rfl | h | ⟨i, e, h, _⟩
    · exact Nat.le_refl _
    · cases h
    · simp at h⟩
theorem stF_at {i : Nat} {e : Be} (hi : es[i]? = some e) (k : Nat) (hk : k = e.g) : stF S V es k := .inr (.inr ⟨i, e, hi, .inl hk⟩)
/-- what is of another type isn't the store's -/
theorem StS.not (h : StS W S q l V es) {X : Nat} {c : Array Value} {t : TypeId} (hX : W.heap[X]? = some (.cells c t (0, 0))) (h1 : t ≠ 103) (h2 : t ≠ 107) (h3 : t ≠ 109) (h4 : t ≠ 5) : ¬ stF S V es X := by
  rintro (hk | hk | ⟨i, e, he, hk | hk⟩)
  · exact ty_ne hX h.st h1 hk
  · obtain ⟨cur, hc⟩ := own_cells h.own hk
    exact ty_ne hX hc h2 rfl
  · exact ty_ne hX (h.ent i e he) h3 hk
  · obtain ⟨cur, hc⟩ := own_cells (h.byt i e he) hk
    exact ty_ne hX hc h4 rfl
/-- a boxed id stays -/
theorem id_stays (h : Sto E w0 W S q l V es) {W' : World} (ht : Turn (stF S V es) W W') {X : Nat} {c : Array Value} (hX : W.heap[X]? = some (.cells c 23 (0, 0))) : W'.heap[X]? = some (.cells c 23 (0, 0)) :=
  (ht.block X (lt_heap hX) (h.st.not hX (by decide) (by decide) (by decide) (by decide))).trans hX
theorem s_new (hE : ErrsAt E W) (h1 : 1 ≤ l) : Calls Tryd.prog 25 #[.int .i64 q, .int .i64 l] W fun r W' => r = .returned (.pointer (some ⟨W.heap.size, 0, none⟩)) ∧ Sto E W W' W.heap.size q l (.slice none 0 0) [] :=
  (new_b q l h1 W).mono fun _ _ ⟨a, b, c⟩ => ⟨a, Sto.new hE b c⟩
theorem s_range (h : Sto E w0 W S q l V es) (k : Nat → BitVec 8) (n : Int) (hn : n < 1 ∨ 30000 < n) : Calls Tryd.prog 79 #[.pointer (some ⟨S, 0, none⟩), .agg (arr8 32 k), .int .i64 n] W fun r W' => r = .returned (errV (E 1)) ∧ Sto E w0 W' S q l V es ∧ Turn (stF S V es) W W' :=
  (open_range E h.errs k n hn).mono fun _ _ ⟨a, b⟩ => ⟨a, h.below b, Turn.of_below b⟩
theorem s_open (h : Sto E w0 W S q l V es) (k : Nat → BitVec 8) (n : Int) (h1 : 1 ≤ n) (h2 : n ≤ 30000) (hl : es.length ≤ 16) {i : Nat} {e : Be} (hf : es.findIdx? (Be.is k) = some i) (hi : es[i]? = some e) : Calls Tryd.prog 79 #[.pointer (some ⟨S, 0, none⟩), .agg (arr8 32 k), .int .i64 n] W fun r W' => r = .returned (errV (E 14)) ∧ Sto E w0 W' S q l V (es.set i e.used) ∧ Turn (stF S V es) W W' :=
  (open_open E h.errs h.st hl k n h1 h2 hf hi (h.gne hi)).mono fun _ _ ⟨a, b, c⟩ => ⟨a, h.used hi b c, c.mono (stF_at hi)⟩
theorem s_limit (h : Sto E w0 W S q l V es) (k : Nat → BitVec 8) (n : Int) (h1 : 1 ≤ n) (h2 : n ≤ 30000) (hl : es.length = 16) (hf : es.findIdx? (Be.is k) = none) : Calls Tryd.prog 79 #[.pointer (some ⟨S, 0, none⟩), .agg (arr8 32 k), .int .i64 n] W fun r W' => r = .returned (errV (E 17)) ∧ Sto E w0 W' S q l V es ∧ Turn (stF S V es) W W' :=
  (open_limit E h.errs h.st hl k n h1 h2 hf).mono fun _ _ ⟨a, b⟩ => ⟨a, h.below b, Turn.of_below b⟩
theorem s_full (h : Sto E w0 W S q l V es) (k : Nat → BitVec 8) (n : Int) (h1 : 1 ≤ n) (h2 : n ≤ 30000) (hl : es.length < 16) (hF : Few es) (hf : es.findIdx? (Be.is k) = none) (hq : q < sumN es + n) : Calls Tryd.prog 79 #[.pointer (some ⟨S, 0, none⟩), .agg (arr8 32 k), .int .i64 n] W fun r W' => r = .returned (errV (E 6)) ∧ Sto E w0 W' S q l V es ∧ Turn (stF S V es) W W' :=
  (open_full E h.errs h.st hl hF k n h1 h2 hf hq).mono fun _ _ ⟨a, b⟩ => ⟨a, h.below b, Turn.of_below b⟩
/-- what a new blob of k is, at block g -/
abbrev newB (g : Nat) (k : Nat → BitVec 8) (n : Int) : Be := ⟨g, k, n, .slice none 0 0, [], false, 0⟩
theorem s_ok (h : Sto E w0 W S q l V es) (k : Nat → BitVec 8) (n : Int) (h1 : 1 ≤ n) (h2 : n ≤ 30000) (hl : es.length < 16) (hF : Few es) (hf : es.findIdx? (Be.is k) = none) (hq : sumN es + n ≤ q) :
    Calls Tryd.prog 79 #[.pointer (some ⟨S, 0, none⟩), .agg (arr8 32 k), .int .i64 n] W fun r W' => r = .returned .nilIface ∧ ∃ V' g, W.heap.size ≤ g ∧ Sto E w0 W' S q l V' (es ++ [newB g k n]) ∧ Turn (stF S V es) W W' ∧ (∀ x, V'.ownBlock = some x → V.ownBlock = some x ∨ W.heap.size ≤ x) := by
  refine (open_ok h.st hl hF k n h1 h2 hf hq).mono ?_
  rintro r W' ⟨a, V', g, hg, b, c, d⟩
  have hG : ∀ k, (k = S ∨ V.ownBlock = some k) → stF S V es k := fun k hk => hk.elim (.inl) (fun h => .inr (.inl h))
  refine ⟨a, V', g, hg, h.step b c hG (fun x hx => ?_), c.mono hG, d⟩
  rcases hx with hx | hx | ⟨j, y, hy, hx⟩
  · exact .inl (.inl hx)
  · exact (d x hx).elim (fun h => .inl (.inr (.inl h))) .inr
  · by_cases hj : j < es.length
    · rw [List.getElem?_append_left hj] at hy
      exact .inl (.inr (.inr ⟨j, y, hy, hx⟩))
    · rw [List.getElem?_append_right (by omega)] at hy
      have hlt := (List.getElem?_eq_some_iff.1 hy).1
      simp only [List.length_singleton] at hlt
      rw [show j - es.length = 0 by omega] at hy
      obtain rfl := Option.some.inj hy
      rcases hx with hx | hx
      · exact .inr (by rw [hx]; exact hg)
      · cases hx
theorem s_statN (h : Sto E w0 W S q l V es) (k : Nat → BitVec 8) (hl : es.length ≤ 16) (hf : es.findIdx? (Be.is k) = none) : Calls Tryd.prog 89 #[.pointer (some ⟨S, 0, none⟩), .agg (arr8 32 k)] W fun r W' => r = .returned (.tuple #[.int .i64 0, .bool false, errV (E 13)]) ∧ Sto E w0 W' S q l V es ∧ Turn (stF S V es) W W' :=
  (statN E h.errs h.st hl k hf).mono fun _ _ ⟨a, b⟩ => ⟨a, h.below b, Turn.of_below b⟩
theorem s_putN (h : Sto E w0 W S q l V es) (k : Nat → BitVec 8) (off : Int) (A : Option Addr) (m cb : Nat) (hl : es.length ≤ 16) (hf : es.findIdx? (Be.is k) = none) : Calls Tryd.prog 80 #[.pointer (some ⟨S, 0, none⟩), .agg (arr8 32 k), .int .i64 off, .slice A m cb] W fun r W' => r = .returned (.tuple #[.int .i64 0, errV (E 13)]) ∧ Sto E w0 W' S q l V es ∧ Turn (stF S V es) W W' :=
  (putN E h.errs h.st hl k off A m cb hf).mono fun _ _ ⟨a, b⟩ => ⟨a, h.below b, Turn.of_below b⟩
theorem s_getN (h : Sto E w0 W S q l V es) (k : Nat → BitVec 8) (off n : Int) (hl : es.length ≤ 16) (hf : es.findIdx? (Be.is k) = none) : Calls Tryd.prog 82 #[.pointer (some ⟨S, 0, none⟩), .agg (arr8 32 k), .int .i64 off, .int .i64 n] W fun r W' => r = .returned (.tuple #[.slice none 0 0, errV (E 13)]) ∧ Sto E w0 W' S q l V es ∧ Turn (stF S V es) W W' :=
  (getN E h.errs h.st hl k off n hf).mono fun _ _ ⟨a, b⟩ => ⟨a, h.below b, Turn.of_below b⟩
theorem s_commitN (h : Sto E w0 W S q l V es) (k : Nat → BitVec 8) (hl : es.length ≤ 16) (hf : es.findIdx? (Be.is k) = none) : Calls Tryd.prog 81 #[.pointer (some ⟨S, 0, none⟩), .agg (arr8 32 k)] W fun r W' => r = .returned (errV (E 13)) ∧ Sto E w0 W' S q l V es ∧ Turn (stF S V es) W W' :=
  (commitN E h.errs h.st hl k hf).mono fun _ _ ⟨a, b⟩ => ⟨a, h.below b, Turn.of_below b⟩
theorem s_stat (h : Sto E w0 W S q l V es) (k : Nat → BitVec 8) (hl : es.length ≤ 16) {i : Nat} {e : Be} (hf : es.findIdx? (Be.is k) = some i) (hi : es[i]? = some e) : Calls Tryd.prog 89 #[.pointer (some ⟨S, 0, none⟩), .agg (arr8 32 k)] W fun r W' => r = .returned (.tuple #[.int .i64 e.bs.length, .bool e.done, .nilIface]) ∧ Sto E w0 W' S q l V (es.set i e.used) ∧ Turn (stF S V es) W W' :=
  (stat_some h.st hl k hf hi).mono fun _ _ ⟨a, b, c⟩ => ⟨a, h.used hi b c, c.mono (stF_at hi)⟩
theorem s_putE (h : Sto E w0 W S q l V es) (k : Nat → BitVec 8) (off : Int) (A : Option Addr) (m cb : Nat) (hl : es.length ≤ 16) {i : Nat} {e : Be} (hf : es.findIdx? (Be.is k) = some i) (hi : es[i]? = some e) (hd : e.done = false) (hen : 0 ≤ e.n ∧ e.n ≤ 30000) (hbn : (e.bs.length : Int) ≤ e.n)
    (ho : off < 0 ∨ (e.bs.length : Int) < off ∨ e.n < off + m) : Calls Tryd.prog 80 #[.pointer (some ⟨S, 0, none⟩), .agg (arr8 32 k), .int .i64 off, .slice A m cb] W fun r W' => r = .returned (.tuple #[.int .i64 0, errV (E 1)]) ∧ Sto E w0 W' S q l V (es.set i e.used) ∧ Turn (stF S V es) W W' := by
  by_cases h1 : off < 0
  · exact (put_neg h.st hl k hf hi E h.errs (h.gne hi) hd off A m cb h1).mono fun _ _ ⟨a, b, c⟩ => ⟨a, h.used hi b c, c.mono (stF_at hi)⟩
  · by_cases h2 : (e.bs.length : Int) < off
    · exact (put_far h.st hl k hf hi E h.errs (h.gne hi) hd off A m cb (by omega) h2).mono fun _ _ ⟨a, b, c⟩ => ⟨a, h.used hi b c, c.mono (stF_at hi)⟩
    · exact (put_long h.st hl k hf hi E h.errs (h.gne hi) hd off A m cb (by omega) (by omega) (by omega) (by omega)).mono fun _ _ ⟨a, b, c⟩ => ⟨a, h.used hi b c, c.mono (stF_at hi)⟩
theorem s_putS (h : Sto E w0 W S q l V es) (k : Nat → BitVec 8) (off : Int) (A : Option Addr) (m cb : Nat) (hl : es.length ≤ 16) {i : Nat} {e : Be} (hf : es.findIdx? (Be.is k) = some i) (hi : es[i]? = some e) (hd : e.done = true) : Calls Tryd.prog 80 #[.pointer (some ⟨S, 0, none⟩), .agg (arr8 32 k), .int .i64 off, .slice A m cb] W fun r W' => r = .returned (.tuple #[.int .i64 0, errV (E 16)]) ∧ Sto E w0 W' S q l V (es.set i e.used) ∧ Turn (stF S V es) W W' :=
  (put_state h.st hl k hf hi E h.errs (h.gne hi) hd off A m cb).mono fun _ _ ⟨a, b, c⟩ => ⟨a, h.used hi b c, c.mono (stF_at hi)⟩
/-- the blob behind a Put -/
abbrev putB (e : Be) (D' : Value) (off : Nat) (ys : List Int) : Be := ⟨e.g, e.f, e.n, D', over e.bs off ys, false, 0⟩
theorem s_put (h : Sto E w0 W S q l V es) (k : Nat → BitVec 8) (A : Option Addr) (ys : List Int) (m cb off : Nat) (hm : ys.length = m) (hmc : m ≤ cb) (hA : SlRead W A (ints .u8 ys)) (hAb : ∀ b o, A = some ⟨b, o, none⟩ → ¬ stF S V es b) (hl : es.length ≤ 16) {i : Nat} {e : Be} (hf : es.findIdx? (Be.is k) = some i) (hi : es[i]? = some e) (hd : e.done = false)
    (hoff : off ≤ e.bs.length) (hfit : (off : Int) + m ≤ e.n) (hen : 0 ≤ e.n ∧ e.n ≤ 30000) (hbn : (e.bs.length : Int) ≤ e.n) : Calls Tryd.prog 80 #[.pointer (some ⟨S, 0, none⟩), .agg (arr8 32 k), .int .i64 (off : Int), .slice A m cb] W fun r W' => r = .returned (.tuple #[.int .i64 ((over e.bs off ys).length : Int), .nilIface]) ∧ ∃ D', Sto E w0 W' S q l V (es.set i (putB e D' off ys)) ∧ Turn (stF S V es) W W' ∧ (∀ x, D'.ownBlock = some x → e.D.ownBlock = some x ∨ W.heap.size ≤ x) := by
  refine (put_ok h.st hl k hf hi hd A ys m cb off hm hmc hA (fun b o e1 => ⟨fun y => hAb b o e1 (.inr (.inr ⟨i, e, hi, .inl y⟩)), fun y => hAb b o e1 (.inr (.inr ⟨i, e, hi, .inr y⟩))⟩) hoff hfit hen hbn).mono ?_
  rintro r W' ⟨a, D', b, c, d⟩
  have hG : ∀ x, (x = e.g ∨ e.D.ownBlock = some x) → stF S V es x := fun x hx => .inr (.inr ⟨i, e, hi, hx⟩)
  exact ⟨a, D', h.step b c hG (stF_set (e' := putB e D' off ys) hi rfl d), c.mono hG, d⟩
theorem s_used (h : Sto E w0 W S q l V es) (hl : es.length ≤ 16) (hF : Few es) : Calls Tryd.prog 29 #[.pointer (some ⟨S, 0, none⟩)] W fun r W' => r = .returned (.int .i64 (sumN es)) ∧ W' = W := used_b h.st hl hF
end
end Go.Proofs.YtocjmlncpjfnfaaDoor
