import Derived.Test.YtplennobcbmccaaDoorBso
import Derived.Maps.AppendAt
import Derived.Lib.AppendZeros
namespace Go.Proofs.YtplennobcbmccaaDoor
open Go.RowKit

theorem sub_i64B (t : TypeId) (x y : Operand) (a b c : Int) (h : a - b = c) (h1 : -9223372036854775808 ≤ c) (h2 : c ≤ 9223372036854775807) (w : World) : (do eqGuard .sub t x y (.int .i64 a) (.int .i64 b); binOp .sub t (.int .i64 a) (.int .i64 b) : Sem Value).run Tryd.prog w = .ok (.int .i64 c) w := by
  have hw : IntKind.i64.wrap (a - b) = c := by rw [h]; exact IntWalk.i64_in _ (by omega)
  simp [eqGuard, binOp, Op.intArith, hw]
theorem shlU_u8 (t : TypeId) (x y : Operand) : ∀ k : Nat, k < 8 → ∀ (w : World), (do eqGuard .shl t x y (.int .u8 1) (.int .u64 (k : Int)); binOp .shl t (.int .u8 1) (.int .u64 (k : Int)) : Sem Value).run Tryd.prog w = .ok (v8 (1#8 <<< k)) w
  | 0, _, _ | 1, _, _ | 2, _, _ | 3, _, _ | 4, _, _ | 5, _, _ | 6, _, _ | 7, _, _ => by kernel_rfl
  | k + 8, h, _ => absurd h (by omega)
theorem not_u8 (x : BitVec 8) (w : World) : (Op.unary .xor (v8 x)).run Tryd.prog w = .ok (v8 (~~~ x)) w := by
  have hall : ∀ n, n < 256 → bits .xor .u8 255 (n8 (BitVec.ofNat 8 n)) = n8 (~~~ BitVec.ofNat 8 n) := by decide +kernel
  have h := hall x.toNat x.isLt
  rw [BitVec.ofNat_toNat, BitVec.setWidth_eq] at h
  simp [Op.unary, Op.intBits]
  exact h
/-- a store elsewhere leaves a map as it is -/
theorem IsMap.other {w : World} {b a : Nat} {l : List Bool} (h : IsMap w b a l) {g k : Nat} (h1 : g ≠ b) (h2 : g ≠ a) (v : Value) : IsMap (w.setCell ⟨g, k, none⟩ v) b a l := by
  have hb : ∀ q, q ≠ g → (w.setCell ⟨g, k, none⟩ v).heap[q]? = w.heap[q]? := fun q hq => by
    unfold World.setCell
    simp [Array.getElem?_modify, Ne.symm hq]
  exact ⟨h.st.of_block (hb b (Ne.symm h1)), h.row.of_block (hb a (Ne.symm h2)), h.ne, h.hl⟩

theorem not_same (x : BitVec 8) (h : n8 x = n8 (~~~ x)) : False := by
  have hall : ∀ n, n < 256 → ¬ n8 (BitVec.ofNat 8 n) = n8 (~~~ BitVec.ofNat 8 n) := by decide +kernel
  have h2 := hall x.toNat x.isLt
  rw [BitVec.ofNat_toNat, BitVec.setWidth_eq] at h2
  exact h2 h
theorem sizeN_nat (n : Nat) (h : n ≤ 1000) : sizeN (n : Int) = n := by unfold sizeN; omega
/-- what is at hand throughout -/
structure BbS (w : World) (b a : Nat) (l : List Bool) (G L n : Nat) (W : World) : Prop where
  bel : Below w.heap.size w W
  map : IsMap W b a l
  row : W.rowIs G 5 L (fun q => v8 (byteAt l n q))
theorem BbS.next {w : World} {b a : Nat} {l : List Bool} {G L n : Nat} {W W' : World} (x : BbS w b a l G L n W) (hb : Below W.heap.size W W') : BbS w b a l G L n W' :=
  ⟨below_tr x.bel hb, x.map.below' hb, x.row.of_block (hb.block _ x.row.lt)⟩
theorem BbS.base {w : World} {b a : Nat} {l : List Bool} {G L n : Nat} {W W' : World} {B : Nat} (x : BbS w b a l G L n W) (hb : Below B W W') (hG : G < B) (hbb : b < B) (ha : a < B) (hB : w.heap.size ≤ B) : BbS w b a l G L n W' :=
  ⟨x.bel.trans (hb.mono hB), x.map.below hb ha hbb, x.row.of_block (hb.block _ hG)⟩
theorem wpl_appB {P : Program} {w : World} {ops : Array Oper} {rest : List Oper} {o : Oper} {a : Act} {Q : Exit → Act → World → Prop} (hw : Region.wanted o (yielded ops a.tmps) = true) (s x : Operand) (t tn : TypeId)
    (ho : o.op = .call { callee := .builtin .append, args := #[s, x], argTypes := #[t, tn] }) (vs vx : Value) (hs : a.eval s = vs) (hx : a.eval x = vx)
    (v' : Value) (w' : World) (hr : (Builtin.append_ #[t, tn] o.type #[vs, vx]).run P w = .ok v' w') (h : wpList P ops Q rest (a.put o.dst v') w') : wpList P ops Q (o :: rest) a w :=
  BigFrame.wpList_want hw fun _ hK => Lib.wp_append_run w s x t tn ho vs vx hs hx v' w' hr (hK _ _ h)
theorem wpl_bslB {P : Program} {w : World} {ops : Array Oper} {rest : List Oper} {o : Oper} {a : Act} {Q : Exit → Act → World → Prop} (hw : Region.wanted o (yielded ops a.tmps) = true) (t : TypeId) (n : Nat) (ps : Array (Nat × Operand))
    (ho : o.op = .buildSlice t n ps) (vs : Array (Nat × Value)) (hx : (ps.map fun x => (x.1, a.eval x.2)) = vs) (v' : Value) (w' : World) (hr : (Instr.buildSlice t n vs).run P w = .ok v' w')
    (h : wpList P ops Q rest (a.put o.dst v') w') : wpList P ops Q (o :: rest) a w :=
  BigFrame.wpList_want hw fun _ hK => by
    unfold Oper.wp execOp
    simp only [ho, hx, Sem.run_bind, hr]
    exact hK _ _ h
/-- bytes of one's own, cell by cell -/
theorem own_bytes {W : World} {base : Nat} {v : Value} {xs : List (BitVec 8)} (h : W.ownsRow base 5 1 v xs.length (ints .u8 (bys xs))) (h0 : 0 < xs.length) :
    ∃ cg cc, v = .slice (some ⟨cg, 0, none⟩) xs.length cc ∧ base ≤ cg ∧ cg < W.heap.size ∧ xs.length ≤ cc ∧ (∀ j, j < xs.length → W.cell? ⟨cg, j, none⟩ = some (v8 (xs.getD j 0#8))) ∧ ∀ j, W.frozen? ⟨cg, j, none⟩ = false := by
  have hrd := h
  rcases h.2 with ⟨_, hn⟩ | ⟨g, cap, cur, rfl, hb, hg, hn, hm, hz, ht⟩
  · omega
  · refine ⟨g, cap, rfl, hb, (Array.getElem?_eq_some_iff.1 hg).1, hn, fun j hj => ?_, fun j => by simp [World.frozen?, hg]⟩
    have hsl := SlRead.of_own hrd
    obtain ⟨b', o', e, _, hc⟩ := hsl (by simp [ints, bys]; omega)
    simp only [Option.some.injEq, Addr.mk.injEq, and_true] at e
    obtain ⟨eb, eo⟩ := e
    subst eb; subst eo
    have := hc j (v8 (xs.getD j 0#8)) (by simp [ints, bys, hj])
    rwa [Nat.zero_add] at this
theorem set_bytes {W : World} {cg L k : Nat} {bs : List (BitVec 8)} (hlt : cg < W.heap.size) (hc : ∀ j, j < L → W.cell? ⟨cg, j, none⟩ = some (v8 (bs.getD j 0#8))) (hk : k < L) (z : BitVec 8) (hl : bs.length = L) :
    SlRead (W.setCell ⟨cg, k, none⟩ (v8 z)) (some ⟨cg, 0, none⟩) (ints .u8 (bys (bs.set k z))) := by
  refine fun _ => ⟨cg, 0, rfl, by simpa using hlt, fun j u hj => ?_⟩
  have hjl : j < L := by
    have := (List.getElem?_eq_some_iff.1 hj).1
    simp [ints, bys] at this
    omega
  rw [Nat.zero_add]
  have hu : u = v8 ((bs.set k z).getD j 0#8) := by
    simp only [ints, bys, List.getElem?_map] at hj
    rcases hq : (bs.set k z)[j]? with _ | q
    · rw [hq] at hj; simp at hj
    · rw [hq] at hj
      simp only [Option.map_some, Option.some.injEq] at hj
      rw [List.getD_eq_getElem?_getD, hq, ← hj]
      rfl
  rw [hu, List.getD_eq_getElem?_getD]
  by_cases e : j = k
  · subst e
    rw [List.getElem?_set_self (by omega), World.cell?_setCell_same _ _ _ (hc j hjl)]
    rfl
  · rw [List.getElem?_set_ne (Ne.symm e), World.cell?_setCell_other _ _ _ _ (fun x => e (by simpa using (congrArg Addr.off x).symm)), hc j hjl, List.getD_eq_getElem?_getD]
theorem bit_last (bs : List (BitVec 8)) (n L : Nat) (z : BitVec 8) (h8 : ¬ n % 8 = 0) (hL : L = (n + 7) / 8) (hl : bs.length = L) : bitOf (bs.set (L - 1) z) n = z.getLsbD (n % 8) := by
  unfold bitOf
  have e : n / 8 = L - 1 := by omega
  rw [e, List.getD_eq_getElem?_getD]
  have : (bs.set (L - 1) z)[L - 1]? = some z := List.getElem?_set_self (by omega)
  rw [this]
  rfl
theorem run_byte (ty : TypeId) (W : World) (base : Nat) (v : Value) (xs : List (BitVec 8)) (z : BitVec 8) (hown : W.ownsRow base 5 1 v xs.length (ints .u8 (bys xs))) (hb : base ≤ W.heap.size) (hl : xs.length ≤ 100000) :
    ∃ v' w', (Builtin.append_ #[35, 35] ty #[v, .slice (some ⟨W.heap.size, 0, none⟩) 1 1]).run Tryd.prog (W.alloc (.cells #[v8 z] 5)) = .ok v' w' ∧ w'.ownsRow base 5 1 v' (xs ++ [z]).length (ints .u8 (bys (xs ++ [z]))) ∧ Below base W w' := by
  obtain ⟨i0, hi, hz0, hz1, hz2⟩ := info_parts infoU8
  obtain ⟨v', w', hr, h2, h3, _, _⟩ := run_append_own_at (P := Tryd.prog) (W.alloc (.cells #[v8 z] 5)) base 35 ty 5 i0 _ 1 1 Tryd.underlying35 hi hz0 hz1 hz2 (by simp [Value.cells]) (by decide) v _ _ (hown.alloc _) ⟨W.heap.size, 0, none⟩ 1 1 [v8 z] (by simp) (by
    intro j u hu
    rw [add_eq, Nat.zero_add, World.cell?_alloc_new]
    simpa using hu) (by
    intro u hu
    simp at hu
    subst hu
    rfl) (by unfold maxLen; omega) (by omega) (by simp; omega)
  have hb4 : Below W.heap.size W (W.alloc (.cells #[v8 z] 5)) := (Below.refl _ _).alloc (Nat.le_refl _) _
  refine ⟨v', w', hr, ?_, (hb4.mono hb).trans ((Below.refl _ _).grown h3 (by simp; omega) (fun q hq => (hown.lt q hq).1))⟩
  simpa [ints, bys] using h2
theorem bsl_byte0 (w : World) : (Instr.buildSlice 35 1 #[(0, .int .u8 0)]).run Tryd.prog w = .ok (.slice (some ⟨w.heap.size, 0, none⟩) 1 1) (w.alloc (.cells #[v8 0#8] 5)) := by kernel_rfl
theorem bsl_byte1 (w : World) : (Instr.buildSlice 35 1 #[(0, .int .u8 1)]).run Tryd.prog w = .ok (.slice (some ⟨w.heap.size, 0, none⟩) 1 1) (w.alloc (.cells #[v8 1#8] 5)) := by kernel_rfl
theorem sl8_end (b o : Nat) (w : World) : (Instr.sliceAt 35 (.slice (some ⟨b, o, none⟩) 1 1) (some (.int .i64 1)) none none).run Tryd.prog w = .ok (.slice (some ⟨b, o, none⟩) 0 0) w := by kernel_rfl
theorem sl8_mid (b o n c : Nat) (hn : 1 ≤ n) (hc : 1 < c) (w : World) : (Instr.sliceAt 35 (.slice (some ⟨b, o, none⟩) n c) (some (.int .i64 1)) none none).run Tryd.prog w = .ok (.slice (some ⟨b, o + 1, none⟩) (n - 1) (c - 1)) w := by
  have hu := Tryd.underlying35
  have e2 : Tryd.prog.elem 35 = 5 := by simp [Program.elem, hu]
  have := run_slice_l (P := Tryd.prog) w 35 (some ⟨b, o, none⟩) n c (by rw [e2]; exact hu) .i64 1 (by omega) (by omega)
  rw [e2] at this
  obtain ⟨i0, hi, hz0, hz1, hz2⟩ := info_parts infoU8
  rw [run_sliceAt_slice (h := by rw [e2]; exact hu), this]
  have hne : ¬ c = 1 := by omega
  simp [Go.sizeOf, typeInfo, hi, hz1, Result.andThen, sliced, Addr.add, hne]
theorem tail_bytes {W : World} {base : Nat} {v : Value} {xs : List (BitVec 8)} (h : W.ownsRow base 5 1 v xs.length (ints .u8 (bys xs))) (h0 : 0 < xs.length) :
    ∃ (AT : Option Addr) (cT : Nat), (∀ w, (Instr.sliceAt 35 v (some (.int .i64 1)) none none).run Tryd.prog w = .ok (.slice AT xs.tail.length cT) w) ∧ SlRead W AT (ints .u8 (bys xs.tail)) := by
  obtain ⟨A, c, rfl, hc⟩ := ownsRow_form h
  have hrd := SlRead.of_own h
  obtain ⟨b, o, rfl, hlt, hcl⟩ := hrd (by simp [ints, bys]; omega)
  replace hc := hc h0
  rcases Nat.lt_or_ge 1 c with hc1 | hc1
  · refine ⟨some ⟨b, o + 1, none⟩, c - 1, fun w => ?_, fun _ => ⟨b, o + 1, rfl, hlt, fun j u hj => ?_⟩⟩
    · rw [List.length_tail]
      exact sl8_mid b o _ c h0 hc1 w
    · rw [Nat.add_assoc, Nat.add_comm 1 j]
      refine hcl (j + 1) u ?_
      rcases xs with _ | ⟨y, ys⟩
      · simp at h0
      · simpa [ints, bys] using hj
  · have hl : xs.length = 1 := by omega
    have hcc : c = 1 := by omega
    have ht : xs.tail = [] := by
      rcases xs with _ | ⟨p, _ | ⟨q, r⟩⟩
      · rfl
      · rfl
      · simp at hl
    subst hcc
    rw [ht, hl]
    exact ⟨some ⟨b, o, none⟩, 0, fun w => sl8_end b o w, fun hn => absurd hn (by simp [ints, bys])⟩

set_option maxRecDepth 100000 in
set_option maxHeartbeats 12800000 in
theorem bbytes_walk (E : Nat → Addr) (zn : Int) (A : Option Addr) (xs : List Int) (ca : Nat) (zw : Int) (w : World) (hA : SlRead w A (ints .i64 xs)) (hE0 : ErrsAt E w) :
    Calls Tryd.prog 5 #[.int .i64 zn, .slice A xs.length ca, .int .i64 zw] w fun e w' => e = .returned (.bool true) ∧ Below w.heap.size w w' := by
  obtain ⟨mn, hn1, hn2⟩ := exists_mod zn 60 (by omega)
  obtain ⟨mw, hw1, hw2⟩ := exists_mod zw 3 (by omega)
  have HN := Lib.hid hn1; have HW := Lib.hid hw1
  clear hn1 hw1
  go_enter Tryd.func5, Tryd.ntmps5
  go_wp2_with fail
  refine (first_any w).mono ?_
  rintro e W1 ⟨rfl, hb1⟩
  by_cases h40 : 40 < xs.length
  · have d1 : decide ((40 : Int) < (xs.length : Int)) = true := by simp; omega
    go_wp2_with fail
    go_ret
    exact ⟨rfl, hb1⟩
  have d1 : decide ((40 : Int) < (xs.length : Int)) = false := by simp; omega
  go_wp2_with fail
  refine (number_nat zn 60 mn W1 (by omega) HN.out).mono ?_
  rintro e W2 ⟨rfl, n2, rfl⟩
  replace hb1 := below_tr hb1 (Below.drewNr n2)
  generalize W1.drewN n2 = W1 at *
  go_upto_region 7 with (fail)
  rw [show ((mn : Int) + 1) = ((mn + 1 : Nat) : Int) by omega]
  obtain ⟨n, hn⟩ : ∃ n, n = mn + 1 := ⟨_, rfl⟩
  rw [← hn]
  have hn0 : 0 < n := by omega
  have hn60 : n ≤ 60 := by omega
  clear hn hn2 HN d1
  go_wp2_with fail
  refine (new_any n W1 (by omega)).mono ?_
  rintro e W2 ⟨b, a, rfl, hm, hb2, ha, hb⟩
  replace ha := Nat.le_trans hb1.size ha
  replace hb := Nat.le_trans hb1.size hb
  replace hb1 := below_tr hb1 hb2
  clear hb2
  go_wp2_with fail
  go_loopw [9] (fun p wr => ∃ (k : Nat) (l : List Bool), p = .int .i64 k ∧ k ≤ xs.length ∧ Hid (l.length = n) ∧ IsMap wr b a l ∧ Below w.heap.size w wr) (fun p _ => xs.length - (intOf p).toNat)
  case atStart => exact ⟨0, _, rfl, by omega, Lib.hid (by simp), hm, hb1⟩
  clear hm hb1
  case round =>
    obtain ⟨k, l, rfl, hk, HNL, hm, hbw⟩ := hrel
    by_cases hlt : k < xs.length
    · have hlt' : decide (k < xs.length) = true := by simpa using hlt
      obtain ⟨fb, fo, rfl, _, hc⟩ := hA.below hbw (by simp [ints]; omega)
      have hc' := hc k _ (by rw [ints, List.getElem?_map, List.getElem?_eq_getElem hlt]; rfl)
      clear hc
      go_wp2_with fail
      refine (number_any _ _ _ (by omega)).mono ?_
      rintro e w' ⟨rfl, m2, rfl⟩
      go_wp2_with fail
      refine (set_any b a l _ _ (hm.drewN _)).mono ?_
      rintro e w3 ⟨rfl, h3, hb3⟩
      have B3 := (hbw.trans (Below.drewNr m2)).trans (hb3 w.heap.size ha hb)
      clear hb3 hm
      go_wp2_with fail
      go_roundw
      case rel => exact ⟨k + 1, _, by go_num, by omega, Lib.hid (by split <;> simp [HNL.out]), h3, B3⟩
      case measure => simp [intOf]; omega
    · have hlt' : decide (k < xs.length) = false := by simpa using hlt
      have hmb := mbytes_any b a l wr hm
      rw [HNL.out] at hmb
      obtain ⟨L, hL⟩ : ∃ L, L = (n + 7) / 8 := ⟨_, rfl⟩
      rw [← hL] at hmb
      have hL0 : 0 < L := by omega
      have hL8 : L ≤ 8 := by omega
      have e8 : ((n : Int) + 7) / 8 = (L : Int) := by omega
      have HL8 := Lib.hid hL; clear hL
      have HE8 := Lib.hid e8
      go_wp2_with fail
      refine hmb.mono ?_
      rintro e W3 ⟨G, rfl, hrow, hGw, hb3⟩
      have hgw : w.heap.size ≤ G := Nat.le_trans hbw.size hGw
      have HG1 : Hid (G ≠ b) := Lib.hid (by have := hm.st.lt; omega)
      have HG2 : Hid (G ≠ a) := Lib.hid (by have := hm.row.lt; omega)
      have x : BbS w b a l G L n W3 := ⟨below_tr hbw hb3, hm.below' hb3, hrow⟩
      clear hmb hm hbw hrow hb3 hGw
      obtain ⟨bs, hbs⟩ : ∃ bs : List (BitVec 8), bs = (List.range L).map (byteAt l n) := ⟨_, rfl⟩
      have HBL : Hid (bs.length = L) := Lib.hid (by rw [hbs]; simp)
      have HBG : Hid (∀ q, q < L → byteAt l n q = bs.getD q 0#8) := Lib.hid (fun q hq => by rw [hbs]; simp [hq])
      have HRB : Hid (readOf bs n (8 * bs.length) = l ∧ NoMore bs n) := Lib.hid (by
        have h := read_bytes l bs (by rw [HBL.out, HNL.out]; exact HL8.out) (fun q hq => by rw [HNL.out]; exact (HBG.out q (by rw [← HBL.out]; exact hq)).symm)
        rwa [HNL.out] at h)
      clear hbs
      have hrdx : ∀ W, BbS w b a l G L n W → SlRead W (some ⟨G, 0, none⟩) (ints .u8 (bys bs)) := fun W x => SlRead.of_bytes x.row HBL.out fun q hq => HBG.out q hq
      have HRD := Lib.hid hrdx; clear hrdx
      have hsn := sizeN_nat n (by omega)
      have HSN := Lib.hid hsn; clear hsn
      go_upto_region 15 with (fail)
      go_upto_region 17 with (fail)
      clear e8
      go_wp2_with fail
      go_loopw [11] (fun p wr => ∃ k : Nat, p = .int .i64 k ∧ k ≤ n ∧ BbS w b a l G L n wr) (fun p _ => n - (intOf p).toNat)
      case atStart => exact ⟨0, rfl, by omega, x⟩
      clear x
      case round =>
        obtain ⟨k, rfl, hk, x⟩ := hrel
        by_cases hlt : k < n
        · have hlt' : decide (k < n) = true := by simpa using hlt
          have hk8 : k / 8 < L := by have := HL8.out; omega
          obtain ⟨y, hy⟩ : ∃ y, y = byteAt l n (k / 8) := ⟨_, rfl⟩
          have HL : ∀ w', Below wr.heap.size wr w' → w'.cell? ⟨G, 0 + k / 8, none⟩ = some (v8 y) := fun w' hb' => by
            rw [Nat.zero_add, hy]
            exact (hb'.cell (p := ⟨G, k / 8, none⟩) x.row.lt).trans (x.row.cell hk8)
          have hyb : y.getLsbD (k % 8) = l.getD k false := by
            rw [hy, byteAt_bit l n (k / 8) (k % 8) (Nat.mod_lt _ (by omega)), show 8 * (k / 8) + k % 8 = k by omega]
            simp [hlt]
          have HH0 := fun w' (hb' : Below wr.heap.size wr w') => quiet_below (has_any b a l (k : Int) w' (x.map.below' hb'))
          have HYB := Lib.hid hyb
          clear hy hyb
          rcases hbit : y.getLsbD (k % 8) with _ | _
          · have HH : ∀ w', Below wr.heap.size wr w' → Calls Tryd.prog 19 #[.pointer (some ⟨b, 0, none⟩), .int .i64 k] w' fun e w'' => e = .returned (.bool false) ∧ Below w'.heap.size w' w'' := fun w' hb' => by
              have h := HH0 w' hb'
              rw [Int.toNat_natCast, ← HYB.out, hbit] at h
              simpa using h
            clear HH0
            go_upto_region 20 with (fail)
            refine wp_region_spec [Sp.k 0 (some 58) [] (.slice (some ⟨G, 0, none⟩) L L),
              Sp.k 1 (some 59) [] (.int .i64 k),
              Sp.k 2 (some 60) [1] (.int .i64 ((k / 8 : Nat) : Int)),
              Sp.k 3 (some 61) [0, 2] (.pointer (some ⟨G, 0 + k / 8, none⟩)),
              Sp.k 4 (some 62) [3] (v8 y),
              Sp.k 5 (some 63) [] (.int .i64 k),
              Sp.k 6 (some 64) [5] (.int .i64 ((k % 8 : Nat) : Int)),
              Sp.k 7 (some 65) [6] (.int .u64 ((k % 8 : Nat) : Int)),
              Sp.k 8 (some 66) [4, 7] (v8 (y >>> (k % 8))),
              Sp.k 9 (some 67) [8] (v8 (y >>> (k % 8) &&& 1#8)),
              Sp.k 10 (some 68) [9] (.bool false),
              Sp.k 11 (some 69) [] (.pointer (some ⟨b, 0, none⟩)),
              Sp.k 12 (some 70) [] (.int .i64 k),
              Sp.k 13 (some 71) [11, 12] (.bool false),
              Sp.k 14 (some 72) [10, 13] (.bool false)] (by kernel_rfl) (by kernel_rfl)
              ⟨owes_move 0 (some 58) [] (.slice (some ⟨G, 0, none⟩) L L) (Go.Operand.tmp 10) (fun v => by kernel_rfl) (fun v => by kernel_rfl),
              owes_move 1 (some 59) [] (.int .i64 k) (Go.Operand.tmp 11) (fun v => by kernel_rfl) (fun v => by kernel_rfl),
              owes_bin 2 (some 60) [1] (.int .i64 ((k / 8 : Nat) : Int)) Go.BinOp.quo 3 (Go.Operand.tmp 59) (Go.Operand.const (Go.Value.int Go.IntKind.i64 8)) 3 (.int .i64 k) (Go.Value.int Go.IntKind.i64 8) (fun v => by kernel_rfl) (fun v => by kernel_rfl) (quo_i64 _ _ _ k 8 (by omega) (by omega)),
              owes_index 3 (some 61) [0, 2] (.pointer (some ⟨G, 0 + k / 8, none⟩)) 35 (Go.Operand.tmp 58) (Go.Operand.tmp 60) (.slice (some ⟨G, 0, none⟩) L L) (.int .i64 ((k / 8 : Nat) : Int)) (fun v => by kernel_rfl) (fun v => by kernel_rfl) (idx_sl (P := Tryd.prog) Tryd.underlying35 (show (Tryd.prog.info? 5).map (·.size) = some 1 by kernel_rfl) G 0 L L (k / 8) (by omega)),
              owes_load 4 (some 62) [3] (v8 y) 5 (Go.Operand.tmp 61) (.pointer (some ⟨G, 0 + k / 8, none⟩)) (fun v => by kernel_rfl) (fun v => by kernel_rfl) (fun w' hb => load_u8' _ _ _ w' (HL w' (drB hb))),
              owes_move 5 (some 63) [] (.int .i64 k) (Go.Operand.tmp 11) (fun v => by kernel_rfl) (fun v => by kernel_rfl),
              owes_bin 6 (some 64) [5] (.int .i64 ((k % 8 : Nat) : Int)) Go.BinOp.rem 3 (Go.Operand.tmp 63) (Go.Operand.const (Go.Value.int Go.IntKind.i64 8)) 3 (.int .i64 k) (Go.Value.int Go.IntKind.i64 8) (fun v => by kernel_rfl) (fun v => by kernel_rfl) (rem_i64 _ _ _ k 8 (by omega) (by omega)),
              owes_cvt 7 (some 65) [6] (.int .u64 ((k % 8 : Nat) : Int)) 3 47 (Go.Operand.tmp 64) (.int .i64 ((k % 8 : Nat) : Int)) (fun v => by kernel_rfl) (fun v => by kernel_rfl) (cvt_uint (k % 8) (by omega)),
              owes_bin 8 (some 66) [4, 7] (v8 (y >>> (k % 8))) Go.BinOp.shr 5 (Go.Operand.tmp 62) (Go.Operand.tmp 65) 47 (v8 y) (.int .u64 ((k % 8 : Nat) : Int)) (fun v => by kernel_rfl) (fun v => by kernel_rfl) (shrU_u8 _ _ _ y (k % 8)),
              owes_bin 9 (some 67) [8] (v8 (y >>> (k % 8) &&& 1#8)) Go.BinOp.and 5 (Go.Operand.tmp 66) (Go.Operand.const (Go.Value.int Go.IntKind.u8 1)) 5 (v8 (y >>> (k % 8))) (Go.Value.int Go.IntKind.u8 1) (fun v => by kernel_rfl) (fun v => by kernel_rfl) (and_u8 _ _ _ _ 1#8),
              owes_bin 10 (some 68) [9] (.bool false) Go.BinOp.eql 5 (Go.Operand.tmp 67) (Go.Operand.const (Go.Value.int Go.IntKind.u8 1)) 5 (v8 (y >>> (k % 8) &&& 1#8)) (Go.Value.int Go.IntKind.u8 1) (fun v => by kernel_rfl) (fun v => by kernel_rfl) (bit_u8 _ _ _ y (k % 8) (by omega) false hbit),
              owes_move 11 (some 69) [] (.pointer (some ⟨b, 0, none⟩)) (Go.Operand.tmp 8) (fun v => by kernel_rfl) (fun v => by kernel_rfl),
              owes_move 12 (some 70) [] (.int .i64 k) (Go.Operand.tmp 11) (fun v => by kernel_rfl) (fun v => by kernel_rfl),
              owes_call 13 (some 71) [11, 12] (.bool false) 19 #[Go.Operand.tmp 69, Go.Operand.tmp 70] #[25, 3] (fun v => by kernel_rfl) (fun _ _ => by kernel_rfl) (fun v w' hb ho => by
                  exact ⟨#[.pointer (some ⟨b, 0, none⟩), .int .i64 k], by kernel_rfl, (HH w' (drB hb)).mono (fun _ _ h => h)⟩),
              owes_bin 14 (some 72) [10, 13] (.bool false) Go.BinOp.neq 4 (Go.Operand.tmp 68) (Go.Operand.tmp 71) 4 (.bool false) (.bool false) (fun v => by kernel_rfl) (fun v => by kernel_rfl) (fun w => by kernel_rfl), trivial⟩ ?_
            intro v w' hb' hall
            clear hall HL HH
            replace x := x.next (drB hb')
            clear hb'
            simp only [putsL_k, putsL_nil, List.set_cons_zero, List.set_cons_succ]
            go_wp2_with fail
            go_roundw
            case rel => exact ⟨k + 1, by go_num, by omega, x⟩
            case measure => simp [intOf]; omega
          · have HH : ∀ w', Below wr.heap.size wr w' → Calls Tryd.prog 19 #[.pointer (some ⟨b, 0, none⟩), .int .i64 k] w' fun e w'' => e = .returned (.bool true) ∧ Below w'.heap.size w' w'' := fun w' hb' => by
              have h := HH0 w' hb'
              rw [Int.toNat_natCast, ← HYB.out, hbit] at h
              simpa using h
            clear HH0
            go_upto_region 20 with (fail)
            refine wp_region_spec [Sp.k 0 (some 58) [] (.slice (some ⟨G, 0, none⟩) L L),
              Sp.k 1 (some 59) [] (.int .i64 k),
              Sp.k 2 (some 60) [1] (.int .i64 ((k / 8 : Nat) : Int)),
              Sp.k 3 (some 61) [0, 2] (.pointer (some ⟨G, 0 + k / 8, none⟩)),
              Sp.k 4 (some 62) [3] (v8 y),
              Sp.k 5 (some 63) [] (.int .i64 k),
              Sp.k 6 (some 64) [5] (.int .i64 ((k % 8 : Nat) : Int)),
              Sp.k 7 (some 65) [6] (.int .u64 ((k % 8 : Nat) : Int)),
              Sp.k 8 (some 66) [4, 7] (v8 (y >>> (k % 8))),
              Sp.k 9 (some 67) [8] (v8 (y >>> (k % 8) &&& 1#8)),
              Sp.k 10 (some 68) [9] (.bool true),
              Sp.k 11 (some 69) [] (.pointer (some ⟨b, 0, none⟩)),
              Sp.k 12 (some 70) [] (.int .i64 k),
              Sp.k 13 (some 71) [11, 12] (.bool true),
              Sp.k 14 (some 72) [10, 13] (.bool false)] (by kernel_rfl) (by kernel_rfl)
              ⟨owes_move 0 (some 58) [] (.slice (some ⟨G, 0, none⟩) L L) (Go.Operand.tmp 10) (fun v => by kernel_rfl) (fun v => by kernel_rfl),
              owes_move 1 (some 59) [] (.int .i64 k) (Go.Operand.tmp 11) (fun v => by kernel_rfl) (fun v => by kernel_rfl),
              owes_bin 2 (some 60) [1] (.int .i64 ((k / 8 : Nat) : Int)) Go.BinOp.quo 3 (Go.Operand.tmp 59) (Go.Operand.const (Go.Value.int Go.IntKind.i64 8)) 3 (.int .i64 k) (Go.Value.int Go.IntKind.i64 8) (fun v => by kernel_rfl) (fun v => by kernel_rfl) (quo_i64 _ _ _ k 8 (by omega) (by omega)),
              owes_index 3 (some 61) [0, 2] (.pointer (some ⟨G, 0 + k / 8, none⟩)) 35 (Go.Operand.tmp 58) (Go.Operand.tmp 60) (.slice (some ⟨G, 0, none⟩) L L) (.int .i64 ((k / 8 : Nat) : Int)) (fun v => by kernel_rfl) (fun v => by kernel_rfl) (idx_sl (P := Tryd.prog) Tryd.underlying35 (show (Tryd.prog.info? 5).map (·.size) = some 1 by kernel_rfl) G 0 L L (k / 8) (by omega)),
              owes_load 4 (some 62) [3] (v8 y) 5 (Go.Operand.tmp 61) (.pointer (some ⟨G, 0 + k / 8, none⟩)) (fun v => by kernel_rfl) (fun v => by kernel_rfl) (fun w' hb => load_u8' _ _ _ w' (HL w' (drB hb))),
              owes_move 5 (some 63) [] (.int .i64 k) (Go.Operand.tmp 11) (fun v => by kernel_rfl) (fun v => by kernel_rfl),
              owes_bin 6 (some 64) [5] (.int .i64 ((k % 8 : Nat) : Int)) Go.BinOp.rem 3 (Go.Operand.tmp 63) (Go.Operand.const (Go.Value.int Go.IntKind.i64 8)) 3 (.int .i64 k) (Go.Value.int Go.IntKind.i64 8) (fun v => by kernel_rfl) (fun v => by kernel_rfl) (rem_i64 _ _ _ k 8 (by omega) (by omega)),
              owes_cvt 7 (some 65) [6] (.int .u64 ((k % 8 : Nat) : Int)) 3 47 (Go.Operand.tmp 64) (.int .i64 ((k % 8 : Nat) : Int)) (fun v => by kernel_rfl) (fun v => by kernel_rfl) (cvt_uint (k % 8) (by omega)),
              owes_bin 8 (some 66) [4, 7] (v8 (y >>> (k % 8))) Go.BinOp.shr 5 (Go.Operand.tmp 62) (Go.Operand.tmp 65) 47 (v8 y) (.int .u64 ((k % 8 : Nat) : Int)) (fun v => by kernel_rfl) (fun v => by kernel_rfl) (shrU_u8 _ _ _ y (k % 8)),
              owes_bin 9 (some 67) [8] (v8 (y >>> (k % 8) &&& 1#8)) Go.BinOp.and 5 (Go.Operand.tmp 66) (Go.Operand.const (Go.Value.int Go.IntKind.u8 1)) 5 (v8 (y >>> (k % 8))) (Go.Value.int Go.IntKind.u8 1) (fun v => by kernel_rfl) (fun v => by kernel_rfl) (and_u8 _ _ _ _ 1#8),
              owes_bin 10 (some 68) [9] (.bool true) Go.BinOp.eql 5 (Go.Operand.tmp 67) (Go.Operand.const (Go.Value.int Go.IntKind.u8 1)) 5 (v8 (y >>> (k % 8) &&& 1#8)) (Go.Value.int Go.IntKind.u8 1) (fun v => by kernel_rfl) (fun v => by kernel_rfl) (bit_u8 _ _ _ y (k % 8) (by omega) true hbit),
              owes_move 11 (some 69) [] (.pointer (some ⟨b, 0, none⟩)) (Go.Operand.tmp 8) (fun v => by kernel_rfl) (fun v => by kernel_rfl),
              owes_move 12 (some 70) [] (.int .i64 k) (Go.Operand.tmp 11) (fun v => by kernel_rfl) (fun v => by kernel_rfl),
              owes_call 13 (some 71) [11, 12] (.bool true) 19 #[Go.Operand.tmp 69, Go.Operand.tmp 70] #[25, 3] (fun v => by kernel_rfl) (fun _ _ => by kernel_rfl) (fun v w' hb ho => by
                  exact ⟨#[.pointer (some ⟨b, 0, none⟩), .int .i64 k], by kernel_rfl, (HH w' (drB hb)).mono (fun _ _ h => h)⟩),
              owes_bin 14 (some 72) [10, 13] (.bool false) Go.BinOp.neq 4 (Go.Operand.tmp 68) (Go.Operand.tmp 71) 4 (.bool true) (.bool true) (fun v => by kernel_rfl) (fun v => by kernel_rfl) (fun w => by kernel_rfl), trivial⟩ ?_
            intro v w' hb' hall
            clear hall HL HH
            replace x := x.next (drB hb')
            clear hb'
            simp only [putsL_k, putsL_nil, List.set_cons_zero, List.set_cons_succ]
            go_wp2_with fail
            go_roundw
            case rel => exact ⟨k + 1, by go_num, by omega, x⟩
            case measure => simp [intOf]; omega
        · have hlt' : decide (k < n) = false := by simpa using hlt
          have hby := bytes_any (some ⟨G, 0, none⟩) (bys bs) L wr (HRD.out wr x) (by simp [bys]; have := HBL.out; omega)
          rw [show (bys bs).length = L by simp [bys]; exact HBL.out] at hby
          go_wp2_with fail
          refine hby.mono ?_
          rintro e Wb ⟨cv, rfl, hown, hbb⟩
          have hwr : w.heap.size ≤ wr.heap.size := x.bel.size
          have hGr : G < wr.heap.size := x.row.lt
          have hbr : b < wr.heap.size := x.map.st.lt
          have har : a < wr.heap.size := x.map.row.lt
          have hwb : wr.heap.size ≤ Wb.heap.size := hbb.size
          replace x := x.next hbb
          rw [← HBL.out] at hown
          clear hby hbb
          generalize wr.heap.size = C at *
          go_wp2_with fail
          refine (number_nat zw 3 mw Wb (by omega) HW.out).mono ?_
          rintro e Wn ⟨rfl, n9, rfl⟩
          replace x := x.next (Below.drewNr n9)
          replace hown : (Wb.drewN n9).ownsRow C 5 1 cv bs.length (ints .u8 (bys bs)) := ownsRow_via hown (fun g _ _ => rfl)
          replace hwb : C ≤ (Wb.drewN n9).heap.size := hwb
          generalize Wb.drewN n9 = Wb at *
          rcases (show mw = 0 ∨ mw = 1 ∨ mw = 2 by omega) with rfl | rfl | rfl
          · obtain ⟨v5, Wc, hr5, hown5, hb5⟩ := run_byte 35 Wb C cv bs 0#8 hown hwb (by have := HBL.out; omega)
            have hbsl := bsl_byte0 Wb
            replace x := x.base hb5 hGr hbr har hwr
            have hno : ¬ ((bs ++ [0#8]).length = (n + 7) / 8 ∧ NoMore (bs ++ [0#8]) n) := fun h => by have h1 := h.1; have h2 := HBL.out; have h3 := HL8.out; simp at h1; omega
            have hcl : (bs ++ [0#8]).length ≤ 1000 := by have := HBL.out; simp; omega
            obtain ⟨cs, hcs⟩ : ∃ cs, cs = bs ++ [0#8] := ⟨_, rfl⟩
            rw [← hcs] at hno hcl hown5
            have HNO := Lib.hid hno
            clear hno hcs
            obtain ⟨A5, c5, rfl, _⟩ := ownsRow_form hown5
            have CSR := SlRead.of_own hown5
            clear hown hown5 hb5 hwb
            go_upto_region 31 with (first | (refine wpl_bslB (by kernel_rfl) 35 1 _ rfl #[(0, .int .u8 0)] (by kernel_rfl) _ _ hbsl ?_) | (at_builtin; refine wpl_appB (by kernel_rfl) _ _ _ _ rfl _ _ rfl rfl _ _ hr5 ?_))
            clear hr5 hbsl
            have hno9 : ¬ ((cs).length = (sizeN (n : Int) + 7) / 8 ∧ NoMore (cs) (sizeN (n : Int))) := by rw [HSN.out]; exact HNO.out
            have hof := of_any E (n : Int) (cs) A5 c5 Wc (hE0.below x.bel) CSR (by omega)
            go_wp2_with fail
            refine hof.mono ?_
            intro e Wd hp
            clear hof
            rcases hp with ⟨q1, q2, _⟩ | ⟨_, rfl, hbd⟩
            · exact absurd ⟨q1, q2⟩ hno9
            clear hno9
            replace x := x.next hbd
            clear hbd
            have hof := of_any E (n : Int) bs (some ⟨G, 0, none⟩) L Wd (hE0.below x.bel) (HRD.out _ x) (by rw [HBL.out]; omega)
            rw [HBL.out] at hof
            go_wp2_with fail
            refine hof.mono ?_
            intro e We hp
            clear hof
            rcases Or.symm hp with ⟨q3, _, _⟩ | ⟨q1, q2, b2, a2, rfl, hm2, hbd, hA2, hB2⟩
            · exact absurd (by rw [HSN.out]; exact ⟨HBL.out.trans HL8.out, HRB.out.2⟩) q3
            clear q1 q2
            rw [HSN.out, HRB.out.1] at hm2
            have hGlt := x.row.lt
            have hGb2 : G ≠ b2 := by omega
            have hGa2 : G ≠ a2 := by omega
            replace x := x.next hbd
            clear hbd hA2 hB2
            have hx0 := x.row.cell (i := 0) (by omega)
            obtain ⟨x0, hx0e⟩ : ∃ x0, x0 = byteAt l n 0 := ⟨_, rfl⟩
            rw [← hx0e] at hx0
            have HX0 := Lib.hid hx0e; clear hx0e
            go_upto_region 35 with (fail)
            have HL : ∀ w', Below We.heap.size We w' → w'.cell? ⟨G, 0 + 0, none⟩ = some (v8 x0) := fun w' hb => (hb.cell (p := ⟨G, 0, none⟩) x.row.lt).trans hx0
            refine wp_region_text_tail 6 [Sp.k 0 (some 126) [] (.slice (some ⟨G, 0, none⟩) L L),
              Sp.k 1 (some 127) [] (.slice (some ⟨G, 0, none⟩) L L),
              Sp.k 2 (some 128) [1] (.pointer (some ⟨G, 0 + 0, none⟩)),
              Sp.k 3 (some 129) [2] (v8 x0),
              Sp.k 4 (some 130) [3] (v8 (~~~ x0)),
              Sp.k 5 (some 131) [0] (.pointer (some ⟨G, 0 + 0, none⟩))] (by kernel_rfl)
              ⟨owes_move 0 (some 126) [] (.slice (some ⟨G, 0, none⟩) L L) (Go.Operand.tmp 10) (fun v => by kernel_rfl) (fun v => by kernel_rfl),
              owes_move 1 (some 127) [] (.slice (some ⟨G, 0, none⟩) L L) (Go.Operand.tmp 10) (fun v => by kernel_rfl) (fun v => by kernel_rfl),
              owes_index 2 (some 128) [1] (.pointer (some ⟨G, 0 + 0, none⟩)) 35 (Go.Operand.tmp 127) (Go.Operand.const (Go.Value.int Go.IntKind.i64 0)) (.slice (some ⟨G, 0, none⟩) L L) (Go.Value.int Go.IntKind.i64 0) (fun v => by kernel_rfl) (fun v => by kernel_rfl) (idx_sl (P := Tryd.prog) Tryd.underlying35 (show (Tryd.prog.info? 5).map (·.size) = some 1 by kernel_rfl) G 0 L L 0 (by omega)),
              owes_load 3 (some 129) [2] (v8 x0) 5 (Go.Operand.tmp 128) (.pointer (some ⟨G, 0 + 0, none⟩)) (fun v => by kernel_rfl) (fun v => by kernel_rfl) (fun w' hb => load_u8' _ _ _ w' (HL w' hb)),
              owes_un 4 (some 130) [3] (v8 (~~~ x0)) Go.UnOp.xor 5 (Go.Operand.tmp 129) (v8 x0) (fun v => by kernel_rfl) (fun v => by kernel_rfl) (not_u8 x0),
              owes_index 5 (some 131) [0] (.pointer (some ⟨G, 0 + 0, none⟩)) 35 (Go.Operand.tmp 126) (Go.Operand.const (Go.Value.int Go.IntKind.i64 0)) (.slice (some ⟨G, 0, none⟩) L L) (Go.Value.int Go.IntKind.i64 0) (fun v => by kernel_rfl) (fun v => by kernel_rfl) (idx_sl (P := Tryd.prog) Tryd.underlying35 (show (Tryd.prog.info? 5).map (·.size) = some 1 by kernel_rfl) G 0 L L 0 (by omega)), trivial⟩ ?_
            intro v w' hb' hall
            clear hall HL
            have x2 := x.next hb'
            have hm3 := hm2.below' hb'
            have hf := x2.row.frozen 0
            have hc := x2.row.cell (i := 0) (by omega)
            have hset := x2.row.set 0 (v8 (~~~ x0))
            have hbS : Below w.heap.size w (w'.setCell ⟨G, 0, none⟩ (v8 (~~~ x0))) := x2.bel.setCell (p := ⟨G, 0, none⟩) hgw _
            have hmS : IsMap (w'.setCell ⟨G, 0, none⟩ (v8 (~~~ x0))) b a l := x2.map.other HG1.out HG2.out _
            have hm2S : IsMap (w'.setCell ⟨G, 0, none⟩ (v8 (~~~ x0))) b2 a2 l := hm3.other hGb2 hGa2 _
            clear x2 hm3 hm2 x hb' hx0 hGlt
            simp only [putsL_k, putsL_nil, List.set_cons_zero, List.set_cons_succ]
            simp only [List.drop_succ_cons, List.drop_zero, Nat.zero_add]
            go_upto_region 36 with (fail)
            refine wp_world (fun V => Below w.heap.size w V ∧ IsMap V b a l ∧ IsMap V b2 a2 l ∧ V.rowIs G 5 L (fun q => v8 (if q = 0 then ~~~ x0 else byteAt l n q))) ?_ ?_
            · exact ⟨hbS, hmS, hm2S, hset.congr fun q _ => by split <;> rfl⟩
            clear hc hf hset hbS hmS hm2S
            rintro W9 ⟨hbS, hmS, hm2S, hrow9⟩
            have hE := hE0.below hbS
            have HC1 := fun w' (hb : Below W9.heap.size W9 w') => quiet_below (count_any b a l w' (hmS.below' hb))
            have HC2 := fun w' (hb : Below W9.heap.size W9 w') => quiet_below (count_any b2 a2 l w' (hm2S.below' hb))
            obtain ⟨TR, hTR⟩ : ∃ TR : Int, TR = ((trues l : Nat) : Int) := ⟨_, rfl⟩
            simp only [← hTR] at HC1 HC2
            clear hTR
            have HMB : ∀ w', Below W9.heap.size W9 w' → Calls Tryd.prog 21 #[.pointer (some ⟨b, 0, none⟩)] w' fun e w'' => (∃ g, e = .returned (.slice (some ⟨g, 0, none⟩) bs.length bs.length) ∧ SlRead w'' (some ⟨g, 0, none⟩) (ints .u8 (bys bs))) ∧ Below w'.heap.size w' w'' := fun w' hb => by
              refine (mbytes_any b a _ w' (hmS.below' hb)).mono ?_
              rintro e w'' ⟨g, rfl, hrow, _, hb2⟩
              rw [HNL.out, ← HL8.out] at hrow ⊢
              rw [← HBL.out] at hrow ⊢
              exact ⟨⟨g, rfl, SlRead.of_bytes hrow rfl fun q hq => HBG.out q (by rw [← HBL.out]; exact hq)⟩, hb2⟩
            have HSB : ∀ w', Below W9.heap.size W9 w' → ∀ g, SlRead w' (some ⟨g, 0, none⟩) (ints .u8 (bys bs)) → Calls Tryd.prog 23 #[.slice (some ⟨g, 0, none⟩) bs.length bs.length, .slice (some ⟨G, 0, none⟩) L L] w' fun e w'' => e = .returned (.bool false) ∧ Below w'.heap.size w' w'' := fun w' hb g hg => by
              have hrd := SlRead.of_bytes (bs := bs.set 0 (~~~ x0)) (hrow9.of_block (hb.block _ hrow9.lt)) (by rw [List.length_set]; exact HBL.out) (fun q hq => by
                by_cases e : q = 0
                · subst e; simp [HBL.out, hL0]
                · rw [if_neg e, HBG.out q hq, List.getD_eq_getElem?_getD, List.getD_eq_getElem?_getD, List.getElem?_set_ne (Ne.symm e)])
              have h := quiet_below (sameBytes_any (some ⟨g, 0, none⟩) (some ⟨G, 0, none⟩) (bys bs) (bys (bs.set 0 (~~~ x0))) bs.length L w' hg hrd (by simp [bys]; have := HBL.out; omega) (by simp [bys]; have := HBL.out; omega))
              have hne : ¬ bys bs = bys (bs.set 0 (~~~ x0)) := fun e => by
                have e0 := congrArg (fun y => y[0]?) e
                have hb0 : bs[0]? = some x0 := by
                  have h0 := HBG.out 0 hL0
                  rw [← HX0.out] at h0
                  rw [h0, List.getD_eq_getElem?_getD]
                  rcases hq : bs[0]? with _ | y
                  · have := List.getElem?_eq_none_iff.1 hq; have := HBL.out; omega
                  · rfl
                have hb1 : (bs.set 0 (~~~ x0))[0]? = some (~~~ x0) := by simp [HBL.out, hL0]
                simp only [bys, List.getElem?_map, hb0, hb1, Option.map_some, Option.some.injEq] at e0
                exact not_same x0 e0
              rw [decide_eq_false hne] at h
              simpa [bys, HBL.out] using h
            clear hmS hm2S hrow9
            refine wp_region_text [Sp.k 0 (some 132) [] (.bool true),
              Sp.k 1 (some 133) [0] (.bool true),
              Sp.k 2 (some 134) [1] (errV (E 4)),
              Sp.k 3 (some 135) [1, 2] (.bool true),
              Sp.k 4 (some 136) [1, 3] (.bool true),
              Sp.k 5 (some 137) [4] (.bool true),
              Sp.k 6 (some 138) [5] (.pointer (some ⟨b2, 0, none⟩)),
              Sp.k 7 (some 139) [5, 6] (.int .i64 TR),
              Sp.k 8 (some 140) [5] (.pointer (some ⟨b, 0, none⟩)),
              Sp.k 9 (some 141) [5, 8] (.int .i64 TR),
              Sp.k 10 (some 142) [5, 7, 9] (.bool true),
              Sp.k 11 (some 143) [5, 10] (.bool true),
              Sp.k 12 (some 144) [11] (.bool true),
              Sp.k 13 (some 145) [12] (.pointer (some ⟨b, 0, none⟩)),
              Sp.o 14 (some 146) [12, 13] (SlVB (ints .u8 (bys bs)) bs.length),
              Sp.k 15 (some 147) [12] (.slice (some ⟨G, 0, none⟩) L L),
              Sp.k 16 (some 148) [12, 14, 15] (.bool false),
              Sp.k 17 (some 149) [12, 16] (.bool true),
              Sp.k 18 (some 150) [12, 17] (.bool true),
              Sp.k 19 (some 6) [18] (.bool true)] (by kernel_rfl)
              ⟨owes_move 0 (some 132) [] (.bool true) (Go.Operand.tmp 7) (fun v => by kernel_rfl) (fun v => by kernel_rfl),
              owes_move 1 (some 133) [0] (.bool true) (Go.Operand.tmp 132) (fun v => by kernel_rfl) (fun v => by kernel_rfl),
              owes_move 2 (some 134) [1] (errV (E 4)) (Go.Operand.tmp 14) (fun v => by kernel_rfl) (fun v => by kernel_rfl),
              owes_call 3 (some 135) [1, 2] (.bool true) 26 #[Go.Operand.tmp 134, Go.Operand.const (Go.Value.int Go.IntKind.i64 105)] #[38, 3] (fun v => by kernel_rfl) (fun _ _ => by kernel_rfl) (fun v w' hb ho => by
                  exact ⟨#[errV (E 4), Go.Value.int Go.IntKind.i64 105], by kernel_rfl, (is_any E (errV (E 4)) 105 105 (.inr ⟨4, by decide, rfl, rfl⟩) w' (hE.below hb)).mono (fun _ _ h => h)⟩),
              owes_pick 4 (some 136) [1, 3] (.bool true) (Go.Operand.tmp 133) (Go.Operand.tmp 135) (Go.Operand.const (Go.Value.bool false)) true (fun v => by kernel_rfl) (fun v => by kernel_rfl) (fun v => by kernel_rfl),
              owes_move 5 (some 137) [4] (.bool true) (Go.Operand.tmp 136) (fun v => by kernel_rfl) (fun v => by kernel_rfl),
              owes_move 6 (some 138) [5] (.pointer (some ⟨b2, 0, none⟩)) (Go.Operand.tmp 15) (fun v => by kernel_rfl) (fun v => by kernel_rfl),
              owes_call 7 (some 139) [5, 6] (.int .i64 TR) 13 #[Go.Operand.tmp 138] #[25] (fun v => by kernel_rfl) (fun _ _ => by kernel_rfl) (fun v w' hb ho => by
                  exact ⟨#[.pointer (some ⟨b2, 0, none⟩)], by kernel_rfl, (HC2 w' hb).mono (fun _ _ h => h)⟩),
              owes_move 8 (some 140) [5] (.pointer (some ⟨b, 0, none⟩)) (Go.Operand.tmp 8) (fun v => by kernel_rfl) (fun v => by kernel_rfl),
              owes_call 9 (some 141) [5, 8] (.int .i64 TR) 13 #[Go.Operand.tmp 140] #[25] (fun v => by kernel_rfl) (fun _ _ => by kernel_rfl) (fun v w' hb ho => by
                  exact ⟨#[.pointer (some ⟨b, 0, none⟩)], by kernel_rfl, (HC1 w' hb).mono (fun _ _ h => h)⟩),
              owes_bin 10 (some 142) [5, 7, 9] (.bool true) Go.BinOp.eql 3 (Go.Operand.tmp 139) (Go.Operand.tmp 141) 3 (.int .i64 TR) (.int .i64 TR) (fun v => by kernel_rfl) (fun v => by kernel_rfl) (fun w => eqs_i64 _ _ _ _ w),
              owes_pick 11 (some 143) [5, 10] (.bool true) (Go.Operand.tmp 137) (Go.Operand.tmp 142) (Go.Operand.const (Go.Value.bool false)) true (fun v => by kernel_rfl) (fun v => by kernel_rfl) (fun v => by kernel_rfl),
              owes_move 12 (some 144) [11] (.bool true) (Go.Operand.tmp 143) (fun v => by kernel_rfl) (fun v => by kernel_rfl),
              owes_move 13 (some 145) [12] (.pointer (some ⟨b, 0, none⟩)) (Go.Operand.tmp 8) (fun v => by kernel_rfl) (fun v => by kernel_rfl),
              owes_call_o 14 (some 146) [12, 13] (SlVB (ints .u8 (bys bs)) bs.length) 21 #[Go.Operand.tmp 145] #[25] (fun v => by kernel_rfl) (fun _ _ => by kernel_rfl) SlVB.mono (fun v w' hb ho => by
                  exact ⟨#[.pointer (some ⟨b, 0, none⟩)], by kernel_rfl, (HMB w' hb).mono (fun e w1 ⟨⟨g, h1, h2⟩, h3⟩ => ⟨_, h1, h3, g, rfl, h2⟩)⟩),
              owes_move 15 (some 147) [12] (.slice (some ⟨G, 0, none⟩) L L) (Go.Operand.tmp 10) (fun v => by kernel_rfl) (fun v => by kernel_rfl),
              owes_call 16 (some 148) [12, 14, 15] (.bool false) 23 #[Go.Operand.tmp 146, Go.Operand.tmp 147] #[35, 35] (fun v => by kernel_rfl) (fun _ _ => by kernel_rfl) (fun v w' hb ho => by
                  obtain ⟨g14, e14, r14⟩ := ho.get 14 _ _ (SlVB (ints .u8 (bys bs)) bs.length) rfl rfl
                  exact ⟨#[.slice (some ⟨g14, 0, none⟩) bs.length bs.length, .slice (some ⟨G, 0, none⟩) L L], Eq.trans (b := #[v 14, .slice (some ⟨G, 0, none⟩) L L]) (by kernel_rfl) (by rw [e14]), (HSB w' hb _ r14).mono (fun _ _ h => h)⟩),
              owes_un 17 (some 149) [12, 16] (.bool true) Go.UnOp.not 4 (Go.Operand.tmp 148) (.bool false) (fun v => by kernel_rfl) (fun v => by kernel_rfl) (fun w => by kernel_rfl),
              owes_pick 18 (some 150) [12, 17] (.bool true) (Go.Operand.tmp 144) (Go.Operand.tmp 149) (Go.Operand.const (Go.Value.bool false)) true (fun v => by kernel_rfl) (fun v => by kernel_rfl) (fun v => by kernel_rfl),
              owes_assign 19 (some 6) [18] (.bool true) (Go.Operand.tmp 150) (fun v => by kernel_rfl) (fun v => by kernel_rfl), trivial⟩ ?_
            intro v w' hb' hall
            clear hall HC1 HC2 HMB HSB
            have hbb := below_tr hbS hb'
            clear hb'
            simp only [putsL_k, putsL_o, putsL_nil, List.set_cons_zero, List.set_cons_succ]
            go_wp2_with fail
            go_ret
            exact ⟨rfl, hbb⟩
          · obtain ⟨AT, cT, hsl, CSR⟩ := tail_bytes hown (by have := HBL.out; omega)
            have hno : ¬ ((bs.tail).length = (n + 7) / 8 ∧ NoMore (bs.tail) n) := fun h => by have h1 := h.1; have h2 := HBL.out; have h3 := HL8.out; simp at h1; omega
            have hcl : (bs.tail).length ≤ 1000 := by have := HBL.out; simp; omega
            obtain ⟨cs, hcs⟩ : ∃ cs, cs = bs.tail := ⟨_, rfl⟩
            rw [← hcs] at hno hcl hsl CSR
            have HNO := Lib.hid hno
            clear hno hcs
            clear hown hwb
            go_upto_region 31 with (fail)
            refine wp_world (fun Wc => BbS w b a l G L n Wc ∧ SlRead Wc AT (ints .u8 (bys cs))) ⟨x, CSR⟩ ?_
            clear x CSR hsl
            rintro Wc ⟨x, CSR⟩
            have hno9 : ¬ ((cs).length = (sizeN (n : Int) + 7) / 8 ∧ NoMore (cs) (sizeN (n : Int))) := by rw [HSN.out]; exact HNO.out
            have hof := of_any E (n : Int) (cs) AT cT Wc (hE0.below x.bel) CSR (by omega)
            go_wp2_with fail
            refine hof.mono ?_
            intro e Wd hp
            clear hof
            rcases hp with ⟨q1, q2, _⟩ | ⟨_, rfl, hbd⟩
            · exact absurd ⟨q1, q2⟩ hno9
            clear hno9
            replace x := x.next hbd
            clear hbd
            have hof := of_any E (n : Int) bs (some ⟨G, 0, none⟩) L Wd (hE0.below x.bel) (HRD.out _ x) (by rw [HBL.out]; omega)
            rw [HBL.out] at hof
            go_wp2_with fail
            refine hof.mono ?_
            intro e We hp
            clear hof
            rcases Or.symm hp with ⟨q3, _, _⟩ | ⟨q1, q2, b2, a2, rfl, hm2, hbd, hA2, hB2⟩
            · exact absurd (by rw [HSN.out]; exact ⟨HBL.out.trans HL8.out, HRB.out.2⟩) q3
            clear q1 q2
            rw [HSN.out, HRB.out.1] at hm2
            have hGlt := x.row.lt
            have hGb2 : G ≠ b2 := by omega
            have hGa2 : G ≠ a2 := by omega
            replace x := x.next hbd
            clear hbd hA2 hB2
            have hx0 := x.row.cell (i := 0) (by omega)
            obtain ⟨x0, hx0e⟩ : ∃ x0, x0 = byteAt l n 0 := ⟨_, rfl⟩
            rw [← hx0e] at hx0
            have HX0 := Lib.hid hx0e; clear hx0e
            go_upto_region 35 with (fail)
            have HL : ∀ w', Below We.heap.size We w' → w'.cell? ⟨G, 0 + 0, none⟩ = some (v8 x0) := fun w' hb => (hb.cell (p := ⟨G, 0, none⟩) x.row.lt).trans hx0
            refine wp_region_text_tail 6 [Sp.k 0 (some 126) [] (.slice (some ⟨G, 0, none⟩) L L),
              Sp.k 1 (some 127) [] (.slice (some ⟨G, 0, none⟩) L L),
              Sp.k 2 (some 128) [1] (.pointer (some ⟨G, 0 + 0, none⟩)),
              Sp.k 3 (some 129) [2] (v8 x0),
              Sp.k 4 (some 130) [3] (v8 (~~~ x0)),
              Sp.k 5 (some 131) [0] (.pointer (some ⟨G, 0 + 0, none⟩))] (by kernel_rfl)
              ⟨owes_move 0 (some 126) [] (.slice (some ⟨G, 0, none⟩) L L) (Go.Operand.tmp 10) (fun v => by kernel_rfl) (fun v => by kernel_rfl),
              owes_move 1 (some 127) [] (.slice (some ⟨G, 0, none⟩) L L) (Go.Operand.tmp 10) (fun v => by kernel_rfl) (fun v => by kernel_rfl),
              owes_index 2 (some 128) [1] (.pointer (some ⟨G, 0 + 0, none⟩)) 35 (Go.Operand.tmp 127) (Go.Operand.const (Go.Value.int Go.IntKind.i64 0)) (.slice (some ⟨G, 0, none⟩) L L) (Go.Value.int Go.IntKind.i64 0) (fun v => by kernel_rfl) (fun v => by kernel_rfl) (idx_sl (P := Tryd.prog) Tryd.underlying35 (show (Tryd.prog.info? 5).map (·.size) = some 1 by kernel_rfl) G 0 L L 0 (by omega)),
              owes_load 3 (some 129) [2] (v8 x0) 5 (Go.Operand.tmp 128) (.pointer (some ⟨G, 0 + 0, none⟩)) (fun v => by kernel_rfl) (fun v => by kernel_rfl) (fun w' hb => load_u8' _ _ _ w' (HL w' hb)),
              owes_un 4 (some 130) [3] (v8 (~~~ x0)) Go.UnOp.xor 5 (Go.Operand.tmp 129) (v8 x0) (fun v => by kernel_rfl) (fun v => by kernel_rfl) (not_u8 x0),
              owes_index 5 (some 131) [0] (.pointer (some ⟨G, 0 + 0, none⟩)) 35 (Go.Operand.tmp 126) (Go.Operand.const (Go.Value.int Go.IntKind.i64 0)) (.slice (some ⟨G, 0, none⟩) L L) (Go.Value.int Go.IntKind.i64 0) (fun v => by kernel_rfl) (fun v => by kernel_rfl) (idx_sl (P := Tryd.prog) Tryd.underlying35 (show (Tryd.prog.info? 5).map (·.size) = some 1 by kernel_rfl) G 0 L L 0 (by omega)), trivial⟩ ?_
            intro v w' hb' hall
            clear hall HL
            have x2 := x.next hb'
            have hm3 := hm2.below' hb'
            have hf := x2.row.frozen 0
            have hc := x2.row.cell (i := 0) (by omega)
            have hset := x2.row.set 0 (v8 (~~~ x0))
            have hbS : Below w.heap.size w (w'.setCell ⟨G, 0, none⟩ (v8 (~~~ x0))) := x2.bel.setCell (p := ⟨G, 0, none⟩) hgw _
            have hmS : IsMap (w'.setCell ⟨G, 0, none⟩ (v8 (~~~ x0))) b a l := x2.map.other HG1.out HG2.out _
            have hm2S : IsMap (w'.setCell ⟨G, 0, none⟩ (v8 (~~~ x0))) b2 a2 l := hm3.other hGb2 hGa2 _
            clear x2 hm3 hm2 x hb' hx0 hGlt
            simp only [putsL_k, putsL_nil, List.set_cons_zero, List.set_cons_succ]
            simp only [List.drop_succ_cons, List.drop_zero, Nat.zero_add]
            go_upto_region 36 with (fail)
            refine wp_world (fun V => Below w.heap.size w V ∧ IsMap V b a l ∧ IsMap V b2 a2 l ∧ V.rowIs G 5 L (fun q => v8 (if q = 0 then ~~~ x0 else byteAt l n q))) ?_ ?_
            · exact ⟨hbS, hmS, hm2S, hset.congr fun q _ => by split <;> rfl⟩
            clear hc hf hset hbS hmS hm2S
            rintro W9 ⟨hbS, hmS, hm2S, hrow9⟩
            have hE := hE0.below hbS
            have HC1 := fun w' (hb : Below W9.heap.size W9 w') => quiet_below (count_any b a l w' (hmS.below' hb))
            have HC2 := fun w' (hb : Below W9.heap.size W9 w') => quiet_below (count_any b2 a2 l w' (hm2S.below' hb))
            obtain ⟨TR, hTR⟩ : ∃ TR : Int, TR = ((trues l : Nat) : Int) := ⟨_, rfl⟩
            simp only [← hTR] at HC1 HC2
            clear hTR
            have HMB : ∀ w', Below W9.heap.size W9 w' → Calls Tryd.prog 21 #[.pointer (some ⟨b, 0, none⟩)] w' fun e w'' => (∃ g, e = .returned (.slice (some ⟨g, 0, none⟩) bs.length bs.length) ∧ SlRead w'' (some ⟨g, 0, none⟩) (ints .u8 (bys bs))) ∧ Below w'.heap.size w' w'' := fun w' hb => by
              refine (mbytes_any b a _ w' (hmS.below' hb)).mono ?_
              rintro e w'' ⟨g, rfl, hrow, _, hb2⟩
              rw [HNL.out, ← HL8.out] at hrow ⊢
              rw [← HBL.out] at hrow ⊢
              exact ⟨⟨g, rfl, SlRead.of_bytes hrow rfl fun q hq => HBG.out q (by rw [← HBL.out]; exact hq)⟩, hb2⟩
            have HSB : ∀ w', Below W9.heap.size W9 w' → ∀ g, SlRead w' (some ⟨g, 0, none⟩) (ints .u8 (bys bs)) → Calls Tryd.prog 23 #[.slice (some ⟨g, 0, none⟩) bs.length bs.length, .slice (some ⟨G, 0, none⟩) L L] w' fun e w'' => e = .returned (.bool false) ∧ Below w'.heap.size w' w'' := fun w' hb g hg => by
              have hrd := SlRead.of_bytes (bs := bs.set 0 (~~~ x0)) (hrow9.of_block (hb.block _ hrow9.lt)) (by rw [List.length_set]; exact HBL.out) (fun q hq => by
                by_cases e : q = 0
                · subst e; simp [HBL.out, hL0]
                · rw [if_neg e, HBG.out q hq, List.getD_eq_getElem?_getD, List.getD_eq_getElem?_getD, List.getElem?_set_ne (Ne.symm e)])
              have h := quiet_below (sameBytes_any (some ⟨g, 0, none⟩) (some ⟨G, 0, none⟩) (bys bs) (bys (bs.set 0 (~~~ x0))) bs.length L w' hg hrd (by simp [bys]; have := HBL.out; omega) (by simp [bys]; have := HBL.out; omega))
              have hne : ¬ bys bs = bys (bs.set 0 (~~~ x0)) := fun e => by
                have e0 := congrArg (fun y => y[0]?) e
                have hb0 : bs[0]? = some x0 := by
                  have h0 := HBG.out 0 hL0
                  rw [← HX0.out] at h0
                  rw [h0, List.getD_eq_getElem?_getD]
                  rcases hq : bs[0]? with _ | y
                  · have := List.getElem?_eq_none_iff.1 hq; have := HBL.out; omega
                  · rfl
                have hb1 : (bs.set 0 (~~~ x0))[0]? = some (~~~ x0) := by simp [HBL.out, hL0]
                simp only [bys, List.getElem?_map, hb0, hb1, Option.map_some, Option.some.injEq] at e0
                exact not_same x0 e0
              rw [decide_eq_false hne] at h
              simpa [bys, HBL.out] using h
            clear hmS hm2S hrow9
            refine wp_region_text [Sp.k 0 (some 132) [] (.bool true),
              Sp.k 1 (some 133) [0] (.bool true),
              Sp.k 2 (some 134) [1] (errV (E 4)),
              Sp.k 3 (some 135) [1, 2] (.bool true),
              Sp.k 4 (some 136) [1, 3] (.bool true),
              Sp.k 5 (some 137) [4] (.bool true),
              Sp.k 6 (some 138) [5] (.pointer (some ⟨b2, 0, none⟩)),
              Sp.k 7 (some 139) [5, 6] (.int .i64 TR),
              Sp.k 8 (some 140) [5] (.pointer (some ⟨b, 0, none⟩)),
              Sp.k 9 (some 141) [5, 8] (.int .i64 TR),
              Sp.k 10 (some 142) [5, 7, 9] (.bool true),
              Sp.k 11 (some 143) [5, 10] (.bool true),
              Sp.k 12 (some 144) [11] (.bool true),
              Sp.k 13 (some 145) [12] (.pointer (some ⟨b, 0, none⟩)),
              Sp.o 14 (some 146) [12, 13] (SlVB (ints .u8 (bys bs)) bs.length),
              Sp.k 15 (some 147) [12] (.slice (some ⟨G, 0, none⟩) L L),
              Sp.k 16 (some 148) [12, 14, 15] (.bool false),
              Sp.k 17 (some 149) [12, 16] (.bool true),
              Sp.k 18 (some 150) [12, 17] (.bool true),
              Sp.k 19 (some 6) [18] (.bool true)] (by kernel_rfl)
              ⟨owes_move 0 (some 132) [] (.bool true) (Go.Operand.tmp 7) (fun v => by kernel_rfl) (fun v => by kernel_rfl),
              owes_move 1 (some 133) [0] (.bool true) (Go.Operand.tmp 132) (fun v => by kernel_rfl) (fun v => by kernel_rfl),
              owes_move 2 (some 134) [1] (errV (E 4)) (Go.Operand.tmp 14) (fun v => by kernel_rfl) (fun v => by kernel_rfl),
              owes_call 3 (some 135) [1, 2] (.bool true) 26 #[Go.Operand.tmp 134, Go.Operand.const (Go.Value.int Go.IntKind.i64 105)] #[38, 3] (fun v => by kernel_rfl) (fun _ _ => by kernel_rfl) (fun v w' hb ho => by
                  exact ⟨#[errV (E 4), Go.Value.int Go.IntKind.i64 105], by kernel_rfl, (is_any E (errV (E 4)) 105 105 (.inr ⟨4, by decide, rfl, rfl⟩) w' (hE.below hb)).mono (fun _ _ h => h)⟩),
              owes_pick 4 (some 136) [1, 3] (.bool true) (Go.Operand.tmp 133) (Go.Operand.tmp 135) (Go.Operand.const (Go.Value.bool false)) true (fun v => by kernel_rfl) (fun v => by kernel_rfl) (fun v => by kernel_rfl),
              owes_move 5 (some 137) [4] (.bool true) (Go.Operand.tmp 136) (fun v => by kernel_rfl) (fun v => by kernel_rfl),
              owes_move 6 (some 138) [5] (.pointer (some ⟨b2, 0, none⟩)) (Go.Operand.tmp 15) (fun v => by kernel_rfl) (fun v => by kernel_rfl),
              owes_call 7 (some 139) [5, 6] (.int .i64 TR) 13 #[Go.Operand.tmp 138] #[25] (fun v => by kernel_rfl) (fun _ _ => by kernel_rfl) (fun v w' hb ho => by
                  exact ⟨#[.pointer (some ⟨b2, 0, none⟩)], by kernel_rfl, (HC2 w' hb).mono (fun _ _ h => h)⟩),
              owes_move 8 (some 140) [5] (.pointer (some ⟨b, 0, none⟩)) (Go.Operand.tmp 8) (fun v => by kernel_rfl) (fun v => by kernel_rfl),
              owes_call 9 (some 141) [5, 8] (.int .i64 TR) 13 #[Go.Operand.tmp 140] #[25] (fun v => by kernel_rfl) (fun _ _ => by kernel_rfl) (fun v w' hb ho => by
                  exact ⟨#[.pointer (some ⟨b, 0, none⟩)], by kernel_rfl, (HC1 w' hb).mono (fun _ _ h => h)⟩),
              owes_bin 10 (some 142) [5, 7, 9] (.bool true) Go.BinOp.eql 3 (Go.Operand.tmp 139) (Go.Operand.tmp 141) 3 (.int .i64 TR) (.int .i64 TR) (fun v => by kernel_rfl) (fun v => by kernel_rfl) (fun w => eqs_i64 _ _ _ _ w),
              owes_pick 11 (some 143) [5, 10] (.bool true) (Go.Operand.tmp 137) (Go.Operand.tmp 142) (Go.Operand.const (Go.Value.bool false)) true (fun v => by kernel_rfl) (fun v => by kernel_rfl) (fun v => by kernel_rfl),
              owes_move 12 (some 144) [11] (.bool true) (Go.Operand.tmp 143) (fun v => by kernel_rfl) (fun v => by kernel_rfl),
              owes_move 13 (some 145) [12] (.pointer (some ⟨b, 0, none⟩)) (Go.Operand.tmp 8) (fun v => by kernel_rfl) (fun v => by kernel_rfl),
              owes_call_o 14 (some 146) [12, 13] (SlVB (ints .u8 (bys bs)) bs.length) 21 #[Go.Operand.tmp 145] #[25] (fun v => by kernel_rfl) (fun _ _ => by kernel_rfl) SlVB.mono (fun v w' hb ho => by
                  exact ⟨#[.pointer (some ⟨b, 0, none⟩)], by kernel_rfl, (HMB w' hb).mono (fun e w1 ⟨⟨g, h1, h2⟩, h3⟩ => ⟨_, h1, h3, g, rfl, h2⟩)⟩),
              owes_move 15 (some 147) [12] (.slice (some ⟨G, 0, none⟩) L L) (Go.Operand.tmp 10) (fun v => by kernel_rfl) (fun v => by kernel_rfl),
              owes_call 16 (some 148) [12, 14, 15] (.bool false) 23 #[Go.Operand.tmp 146, Go.Operand.tmp 147] #[35, 35] (fun v => by kernel_rfl) (fun _ _ => by kernel_rfl) (fun v w' hb ho => by
                  obtain ⟨g14, e14, r14⟩ := ho.get 14 _ _ (SlVB (ints .u8 (bys bs)) bs.length) rfl rfl
                  exact ⟨#[.slice (some ⟨g14, 0, none⟩) bs.length bs.length, .slice (some ⟨G, 0, none⟩) L L], Eq.trans (b := #[v 14, .slice (some ⟨G, 0, none⟩) L L]) (by kernel_rfl) (by rw [e14]), (HSB w' hb _ r14).mono (fun _ _ h => h)⟩),
              owes_un 17 (some 149) [12, 16] (.bool true) Go.UnOp.not 4 (Go.Operand.tmp 148) (.bool false) (fun v => by kernel_rfl) (fun v => by kernel_rfl) (fun w => by kernel_rfl),
              owes_pick 18 (some 150) [12, 17] (.bool true) (Go.Operand.tmp 144) (Go.Operand.tmp 149) (Go.Operand.const (Go.Value.bool false)) true (fun v => by kernel_rfl) (fun v => by kernel_rfl) (fun v => by kernel_rfl),
              owes_assign 19 (some 6) [18] (.bool true) (Go.Operand.tmp 150) (fun v => by kernel_rfl) (fun v => by kernel_rfl), trivial⟩ ?_
            intro v w' hb' hall
            clear hall HC1 HC2 HMB HSB
            have hbb := below_tr hbS hb'
            clear hb'
            simp only [putsL_k, putsL_o, putsL_nil, List.set_cons_zero, List.set_cons_succ]
            go_wp2_with fail
            go_ret
            exact ⟨rfl, hbb⟩
          · by_cases h8 : n % 8 = 0
            · have d8 : ((n : Int) % 8 == 0) = true := by simp; omega
              have d9 : decide ((n : Int) % 8 = 0) = true := by simp; omega
              obtain ⟨v5, Wc, hr5, hown5, hb5⟩ := run_byte 35 Wb C cv bs 1#8 hown hwb (by have := HBL.out; omega)
              have hbsl := bsl_byte1 Wb
              replace x := x.base hb5 hGr hbr har hwr
              have hno : ¬ ((bs ++ [1#8]).length = (n + 7) / 8 ∧ NoMore (bs ++ [1#8]) n) := fun h => by have h1 := h.1; have h2 := HBL.out; have h3 := HL8.out; simp at h1; omega
              have hcl : (bs ++ [1#8]).length ≤ 1000 := by have := HBL.out; simp; omega
              obtain ⟨cs, hcs⟩ : ∃ cs, cs = bs ++ [1#8] := ⟨_, rfl⟩
              rw [← hcs] at hno hcl hown5
              have HNO := Lib.hid hno
              clear hno hcs
              obtain ⟨A5, c5, rfl, _⟩ := ownsRow_form hown5
              have CSR := SlRead.of_own hown5
              clear hown hown5 hb5 hwb
              go_upto_region 31 with (first | (refine wpl_bslB (by kernel_rfl) 35 1 _ rfl #[(0, .int .u8 1)] (by kernel_rfl) _ _ hbsl ?_) | (at_builtin; refine wpl_appB (by kernel_rfl) _ _ _ _ rfl _ _ rfl rfl _ _ hr5 ?_))
              clear hr5 hbsl d8 d9
              have hno9 : ¬ ((cs).length = (sizeN (n : Int) + 7) / 8 ∧ NoMore (cs) (sizeN (n : Int))) := by rw [HSN.out]; exact HNO.out
              have hof := of_any E (n : Int) (cs) A5 c5 Wc (hE0.below x.bel) CSR (by omega)
              go_wp2_with fail
              refine hof.mono ?_
              intro e Wd hp
              clear hof
              rcases hp with ⟨q1, q2, _⟩ | ⟨_, rfl, hbd⟩
              · exact absurd ⟨q1, q2⟩ hno9
              clear hno9
              replace x := x.next hbd
              clear hbd
              have hof := of_any E (n : Int) bs (some ⟨G, 0, none⟩) L Wd (hE0.below x.bel) (HRD.out _ x) (by rw [HBL.out]; omega)
              rw [HBL.out] at hof
              go_wp2_with fail
              refine hof.mono ?_
              intro e We hp
              clear hof
              rcases Or.symm hp with ⟨q3, _, _⟩ | ⟨q1, q2, b2, a2, rfl, hm2, hbd, hA2, hB2⟩
              · exact absurd (by rw [HSN.out]; exact ⟨HBL.out.trans HL8.out, HRB.out.2⟩) q3
              clear q1 q2
              rw [HSN.out, HRB.out.1] at hm2
              have hGlt := x.row.lt
              have hGb2 : G ≠ b2 := by omega
              have hGa2 : G ≠ a2 := by omega
              replace x := x.next hbd
              clear hbd hA2 hB2
              have hx0 := x.row.cell (i := 0) (by omega)
              obtain ⟨x0, hx0e⟩ : ∃ x0, x0 = byteAt l n 0 := ⟨_, rfl⟩
              rw [← hx0e] at hx0
              have HX0 := Lib.hid hx0e; clear hx0e
              go_upto_region 35 with (fail)
              have HL : ∀ w', Below We.heap.size We w' → w'.cell? ⟨G, 0 + 0, none⟩ = some (v8 x0) := fun w' hb => (hb.cell (p := ⟨G, 0, none⟩) x.row.lt).trans hx0
              refine wp_region_text_tail 6 [Sp.k 0 (some 126) [] (.slice (some ⟨G, 0, none⟩) L L),
                Sp.k 1 (some 127) [] (.slice (some ⟨G, 0, none⟩) L L),
                Sp.k 2 (some 128) [1] (.pointer (some ⟨G, 0 + 0, none⟩)),
                Sp.k 3 (some 129) [2] (v8 x0),
                Sp.k 4 (some 130) [3] (v8 (~~~ x0)),
                Sp.k 5 (some 131) [0] (.pointer (some ⟨G, 0 + 0, none⟩))] (by kernel_rfl)
                ⟨owes_move 0 (some 126) [] (.slice (some ⟨G, 0, none⟩) L L) (Go.Operand.tmp 10) (fun v => by kernel_rfl) (fun v => by kernel_rfl),
                owes_move 1 (some 127) [] (.slice (some ⟨G, 0, none⟩) L L) (Go.Operand.tmp 10) (fun v => by kernel_rfl) (fun v => by kernel_rfl),
                owes_index 2 (some 128) [1] (.pointer (some ⟨G, 0 + 0, none⟩)) 35 (Go.Operand.tmp 127) (Go.Operand.const (Go.Value.int Go.IntKind.i64 0)) (.slice (some ⟨G, 0, none⟩) L L) (Go.Value.int Go.IntKind.i64 0) (fun v => by kernel_rfl) (fun v => by kernel_rfl) (idx_sl (P := Tryd.prog) Tryd.underlying35 (show (Tryd.prog.info? 5).map (·.size) = some 1 by kernel_rfl) G 0 L L 0 (by omega)),
                owes_load 3 (some 129) [2] (v8 x0) 5 (Go.Operand.tmp 128) (.pointer (some ⟨G, 0 + 0, none⟩)) (fun v => by kernel_rfl) (fun v => by kernel_rfl) (fun w' hb => load_u8' _ _ _ w' (HL w' hb)),
                owes_un 4 (some 130) [3] (v8 (~~~ x0)) Go.UnOp.xor 5 (Go.Operand.tmp 129) (v8 x0) (fun v => by kernel_rfl) (fun v => by kernel_rfl) (not_u8 x0),
                owes_index 5 (some 131) [0] (.pointer (some ⟨G, 0 + 0, none⟩)) 35 (Go.Operand.tmp 126) (Go.Operand.const (Go.Value.int Go.IntKind.i64 0)) (.slice (some ⟨G, 0, none⟩) L L) (Go.Value.int Go.IntKind.i64 0) (fun v => by kernel_rfl) (fun v => by kernel_rfl) (idx_sl (P := Tryd.prog) Tryd.underlying35 (show (Tryd.prog.info? 5).map (·.size) = some 1 by kernel_rfl) G 0 L L 0 (by omega)), trivial⟩ ?_
              intro v w' hb' hall
              clear hall HL
              have x2 := x.next hb'
              have hm3 := hm2.below' hb'
              have hf := x2.row.frozen 0
              have hc := x2.row.cell (i := 0) (by omega)
              have hset := x2.row.set 0 (v8 (~~~ x0))
              have hbS : Below w.heap.size w (w'.setCell ⟨G, 0, none⟩ (v8 (~~~ x0))) := x2.bel.setCell (p := ⟨G, 0, none⟩) hgw _
              have hmS : IsMap (w'.setCell ⟨G, 0, none⟩ (v8 (~~~ x0))) b a l := x2.map.other HG1.out HG2.out _
              have hm2S : IsMap (w'.setCell ⟨G, 0, none⟩ (v8 (~~~ x0))) b2 a2 l := hm3.other hGb2 hGa2 _
              clear x2 hm3 hm2 x hb' hx0 hGlt
              simp only [putsL_k, putsL_nil, List.set_cons_zero, List.set_cons_succ]
              simp only [List.drop_succ_cons, List.drop_zero, Nat.zero_add]
              go_upto_region 36 with (fail)
              refine wp_world (fun V => Below w.heap.size w V ∧ IsMap V b a l ∧ IsMap V b2 a2 l ∧ V.rowIs G 5 L (fun q => v8 (if q = 0 then ~~~ x0 else byteAt l n q))) ?_ ?_
              · exact ⟨hbS, hmS, hm2S, hset.congr fun q _ => by split <;> rfl⟩
              clear hc hf hset hbS hmS hm2S
              rintro W9 ⟨hbS, hmS, hm2S, hrow9⟩
              have hE := hE0.below hbS
              have HC1 := fun w' (hb : Below W9.heap.size W9 w') => quiet_below (count_any b a l w' (hmS.below' hb))
              have HC2 := fun w' (hb : Below W9.heap.size W9 w') => quiet_below (count_any b2 a2 l w' (hm2S.below' hb))
              obtain ⟨TR, hTR⟩ : ∃ TR : Int, TR = ((trues l : Nat) : Int) := ⟨_, rfl⟩
              simp only [← hTR] at HC1 HC2
              clear hTR
              have HMB : ∀ w', Below W9.heap.size W9 w' → Calls Tryd.prog 21 #[.pointer (some ⟨b, 0, none⟩)] w' fun e w'' => (∃ g, e = .returned (.slice (some ⟨g, 0, none⟩) bs.length bs.length) ∧ SlRead w'' (some ⟨g, 0, none⟩) (ints .u8 (bys bs))) ∧ Below w'.heap.size w' w'' := fun w' hb => by
                refine (mbytes_any b a _ w' (hmS.below' hb)).mono ?_
                rintro e w'' ⟨g, rfl, hrow, _, hb2⟩
                rw [HNL.out, ← HL8.out] at hrow ⊢
                rw [← HBL.out] at hrow ⊢
                exact ⟨⟨g, rfl, SlRead.of_bytes hrow rfl fun q hq => HBG.out q (by rw [← HBL.out]; exact hq)⟩, hb2⟩
              have HSB : ∀ w', Below W9.heap.size W9 w' → ∀ g, SlRead w' (some ⟨g, 0, none⟩) (ints .u8 (bys bs)) → Calls Tryd.prog 23 #[.slice (some ⟨g, 0, none⟩) bs.length bs.length, .slice (some ⟨G, 0, none⟩) L L] w' fun e w'' => e = .returned (.bool false) ∧ Below w'.heap.size w' w'' := fun w' hb g hg => by
                have hrd := SlRead.of_bytes (bs := bs.set 0 (~~~ x0)) (hrow9.of_block (hb.block _ hrow9.lt)) (by rw [List.length_set]; exact HBL.out) (fun q hq => by
                  by_cases e : q = 0
                  · subst e; simp [HBL.out, hL0]
                  · rw [if_neg e, HBG.out q hq, List.getD_eq_getElem?_getD, List.getD_eq_getElem?_getD, List.getElem?_set_ne (Ne.symm e)])
                have h := quiet_below (sameBytes_any (some ⟨g, 0, none⟩) (some ⟨G, 0, none⟩) (bys bs) (bys (bs.set 0 (~~~ x0))) bs.length L w' hg hrd (by simp [bys]; have := HBL.out; omega) (by simp [bys]; have := HBL.out; omega))
                have hne : ¬ bys bs = bys (bs.set 0 (~~~ x0)) := fun e => by
                  have e0 := congrArg (fun y => y[0]?) e
                  have hb0 : bs[0]? = some x0 := by
                    have h0 := HBG.out 0 hL0
                    rw [← HX0.out] at h0
                    rw [h0, List.getD_eq_getElem?_getD]
                    rcases hq : bs[0]? with _ | y
                    · have := List.getElem?_eq_none_iff.1 hq; have := HBL.out; omega
                    · rfl
                  have hb1 : (bs.set 0 (~~~ x0))[0]? = some (~~~ x0) := by simp [HBL.out, hL0]
                  simp only [bys, List.getElem?_map, hb0, hb1, Option.map_some, Option.some.injEq] at e0
                  exact not_same x0 e0
                rw [decide_eq_false hne] at h
                simpa [bys, HBL.out] using h
              clear hmS hm2S hrow9
              refine wp_region_text [Sp.k 0 (some 132) [] (.bool true),
                Sp.k 1 (some 133) [0] (.bool true),
                Sp.k 2 (some 134) [1] (errV (E 4)),
                Sp.k 3 (some 135) [1, 2] (.bool true),
                Sp.k 4 (some 136) [1, 3] (.bool true),
                Sp.k 5 (some 137) [4] (.bool true),
                Sp.k 6 (some 138) [5] (.pointer (some ⟨b2, 0, none⟩)),
                Sp.k 7 (some 139) [5, 6] (.int .i64 TR),
                Sp.k 8 (some 140) [5] (.pointer (some ⟨b, 0, none⟩)),
                Sp.k 9 (some 141) [5, 8] (.int .i64 TR),
                Sp.k 10 (some 142) [5, 7, 9] (.bool true),
                Sp.k 11 (some 143) [5, 10] (.bool true),
                Sp.k 12 (some 144) [11] (.bool true),
                Sp.k 13 (some 145) [12] (.pointer (some ⟨b, 0, none⟩)),
                Sp.o 14 (some 146) [12, 13] (SlVB (ints .u8 (bys bs)) bs.length),
                Sp.k 15 (some 147) [12] (.slice (some ⟨G, 0, none⟩) L L),
                Sp.k 16 (some 148) [12, 14, 15] (.bool false),
                Sp.k 17 (some 149) [12, 16] (.bool true),
                Sp.k 18 (some 150) [12, 17] (.bool true),
                Sp.k 19 (some 6) [18] (.bool true)] (by kernel_rfl)
                ⟨owes_move 0 (some 132) [] (.bool true) (Go.Operand.tmp 7) (fun v => by kernel_rfl) (fun v => by kernel_rfl),
                owes_move 1 (some 133) [0] (.bool true) (Go.Operand.tmp 132) (fun v => by kernel_rfl) (fun v => by kernel_rfl),
                owes_move 2 (some 134) [1] (errV (E 4)) (Go.Operand.tmp 14) (fun v => by kernel_rfl) (fun v => by kernel_rfl),
                owes_call 3 (some 135) [1, 2] (.bool true) 26 #[Go.Operand.tmp 134, Go.Operand.const (Go.Value.int Go.IntKind.i64 105)] #[38, 3] (fun v => by kernel_rfl) (fun _ _ => by kernel_rfl) (fun v w' hb ho => by
                    exact ⟨#[errV (E 4), Go.Value.int Go.IntKind.i64 105], by kernel_rfl, (is_any E (errV (E 4)) 105 105 (.inr ⟨4, by decide, rfl, rfl⟩) w' (hE.below hb)).mono (fun _ _ h => h)⟩),
                owes_pick 4 (some 136) [1, 3] (.bool true) (Go.Operand.tmp 133) (Go.Operand.tmp 135) (Go.Operand.const (Go.Value.bool false)) true (fun v => by kernel_rfl) (fun v => by kernel_rfl) (fun v => by kernel_rfl),
                owes_move 5 (some 137) [4] (.bool true) (Go.Operand.tmp 136) (fun v => by kernel_rfl) (fun v => by kernel_rfl),
                owes_move 6 (some 138) [5] (.pointer (some ⟨b2, 0, none⟩)) (Go.Operand.tmp 15) (fun v => by kernel_rfl) (fun v => by kernel_rfl),
                owes_call 7 (some 139) [5, 6] (.int .i64 TR) 13 #[Go.Operand.tmp 138] #[25] (fun v => by kernel_rfl) (fun _ _ => by kernel_rfl) (fun v w' hb ho => by
                    exact ⟨#[.pointer (some ⟨b2, 0, none⟩)], by kernel_rfl, (HC2 w' hb).mono (fun _ _ h => h)⟩),
                owes_move 8 (some 140) [5] (.pointer (some ⟨b, 0, none⟩)) (Go.Operand.tmp 8) (fun v => by kernel_rfl) (fun v => by kernel_rfl),
                owes_call 9 (some 141) [5, 8] (.int .i64 TR) 13 #[Go.Operand.tmp 140] #[25] (fun v => by kernel_rfl) (fun _ _ => by kernel_rfl) (fun v w' hb ho => by
                    exact ⟨#[.pointer (some ⟨b, 0, none⟩)], by kernel_rfl, (HC1 w' hb).mono (fun _ _ h => h)⟩),
                owes_bin 10 (some 142) [5, 7, 9] (.bool true) Go.BinOp.eql 3 (Go.Operand.tmp 139) (Go.Operand.tmp 141) 3 (.int .i64 TR) (.int .i64 TR) (fun v => by kernel_rfl) (fun v => by kernel_rfl) (fun w => eqs_i64 _ _ _ _ w),
                owes_pick 11 (some 143) [5, 10] (.bool true) (Go.Operand.tmp 137) (Go.Operand.tmp 142) (Go.Operand.const (Go.Value.bool false)) true (fun v => by kernel_rfl) (fun v => by kernel_rfl) (fun v => by kernel_rfl),
                owes_move 12 (some 144) [11] (.bool true) (Go.Operand.tmp 143) (fun v => by kernel_rfl) (fun v => by kernel_rfl),
                owes_move 13 (some 145) [12] (.pointer (some ⟨b, 0, none⟩)) (Go.Operand.tmp 8) (fun v => by kernel_rfl) (fun v => by kernel_rfl),
                owes_call_o 14 (some 146) [12, 13] (SlVB (ints .u8 (bys bs)) bs.length) 21 #[Go.Operand.tmp 145] #[25] (fun v => by kernel_rfl) (fun _ _ => by kernel_rfl) SlVB.mono (fun v w' hb ho => by
                    exact ⟨#[.pointer (some ⟨b, 0, none⟩)], by kernel_rfl, (HMB w' hb).mono (fun e w1 ⟨⟨g, h1, h2⟩, h3⟩ => ⟨_, h1, h3, g, rfl, h2⟩)⟩),
                owes_move 15 (some 147) [12] (.slice (some ⟨G, 0, none⟩) L L) (Go.Operand.tmp 10) (fun v => by kernel_rfl) (fun v => by kernel_rfl),
                owes_call 16 (some 148) [12, 14, 15] (.bool false) 23 #[Go.Operand.tmp 146, Go.Operand.tmp 147] #[35, 35] (fun v => by kernel_rfl) (fun _ _ => by kernel_rfl) (fun v w' hb ho => by
                    obtain ⟨g14, e14, r14⟩ := ho.get 14 _ _ (SlVB (ints .u8 (bys bs)) bs.length) rfl rfl
                    exact ⟨#[.slice (some ⟨g14, 0, none⟩) bs.length bs.length, .slice (some ⟨G, 0, none⟩) L L], Eq.trans (b := #[v 14, .slice (some ⟨G, 0, none⟩) L L]) (by kernel_rfl) (by rw [e14]), (HSB w' hb _ r14).mono (fun _ _ h => h)⟩),
                owes_un 17 (some 149) [12, 16] (.bool true) Go.UnOp.not 4 (Go.Operand.tmp 148) (.bool false) (fun v => by kernel_rfl) (fun v => by kernel_rfl) (fun w => by kernel_rfl),
                owes_pick 18 (some 150) [12, 17] (.bool true) (Go.Operand.tmp 144) (Go.Operand.tmp 149) (Go.Operand.const (Go.Value.bool false)) true (fun v => by kernel_rfl) (fun v => by kernel_rfl) (fun v => by kernel_rfl),
                owes_assign 19 (some 6) [18] (.bool true) (Go.Operand.tmp 150) (fun v => by kernel_rfl) (fun v => by kernel_rfl), trivial⟩ ?_
              intro v w' hb' hall
              clear hall HC1 HC2 HMB HSB
              have hbb := below_tr hbS hb'
              clear hb'
              simp only [putsL_k, putsL_o, putsL_nil, List.set_cons_zero, List.set_cons_succ]
              go_wp2_with fail
              go_ret
              exact ⟨rfl, hbb⟩
            · have d8 : ((n : Int) % 8 == 0) = false := by simp; omega
              have d9 : decide ((n : Int) % 8 = 0) = false := by simp; omega
              obtain ⟨cg, cc, rfl, hcb, hclt, hLc, hcells, hfroz⟩ := own_bytes hown (by have := HBL.out; omega)
              rw [HBL.out] at hcells hLc
              have hbl2 := HBL.out
              rw [hbl2]
              clear hown hbl2
              obtain ⟨y, hy⟩ : ∃ y, y = bs.getD (L - 1) 0#8 := ⟨_, rfl⟩
              have hyc := hcells (L - 1) (by omega)
              rw [← hy] at hyc
              have HY := Lib.hid hy; clear hy
              have HL : ∀ w', Below Wb.heap.size Wb w' → w'.cell? ⟨cg, 0 + (L - 1), none⟩ = some (v8 y) := fun w' hb' => by
                rw [Nat.zero_add]
                exact (hb'.cell (p := ⟨cg, L - 1, none⟩) hclt).trans hyc
              go_upto_region 26 with (fail)
              refine wp_region_text_tail 16 [Sp.k 0 (some 83) [] (.slice (some ⟨cg, 0, none⟩) L cc),
                Sp.k 1 (some 84) [] (.slice (some ⟨cg, 0, none⟩) L cc),
                Sp.k 2 (some 85) [1] (.int .i64 L),
                Sp.k 3 (some 86) [2] (.int .i64 ((L - 1 : Nat) : Int)),
                Sp.k 4 (some 87) [] (.slice (some ⟨cg, 0, none⟩) L cc),
                Sp.k 5 (some 88) [] (.slice (some ⟨cg, 0, none⟩) L cc),
                Sp.k 6 (some 89) [5] (.int .i64 L),
                Sp.k 7 (some 90) [6] (.int .i64 ((L - 1 : Nat) : Int)),
                Sp.k 8 (some 91) [4, 7] (.pointer (some ⟨cg, 0 + (L - 1), none⟩)),
                Sp.k 9 (some 92) [8] (v8 y),
                Sp.k 10 (some 93) [] (.int .i64 n),
                Sp.k 11 (some 94) [10] (.int .i64 ((n % 8 : Nat) : Int)),
                Sp.k 12 (some 95) [11] (.int .u64 ((n % 8 : Nat) : Int)),
                Sp.k 13 (some 96) [12] (v8 (1#8 <<< (n % 8))),
                Sp.k 14 (some 97) [9, 13] (v8 (y ||| (1#8 <<< (n % 8)))),
                Sp.k 15 (some 98) [0, 3] (.pointer (some ⟨cg, 0 + (L - 1), none⟩))] (by kernel_rfl)
                ⟨owes_move 0 (some 83) [] (.slice (some ⟨cg, 0, none⟩) L cc) (Go.Operand.tmp 12) (fun v => by kernel_rfl) (fun v => by kernel_rfl),
                owes_move 1 (some 84) [] (.slice (some ⟨cg, 0, none⟩) L cc) (Go.Operand.tmp 12) (fun v => by kernel_rfl) (fun v => by kernel_rfl),
                owes_lenB 2 (some 85) [1] (.int .i64 L) (.tmp 84) 35 3 (.slice (some ⟨cg, 0, none⟩) L cc) (fun v => by kernel_rfl) (by kernel_rfl) (fun v => by kernel_rfl) (fun w => by kernel_rfl),
                owes_bin 3 (some 86) [2] (.int .i64 ((L - 1 : Nat) : Int)) Go.BinOp.sub 3 (Go.Operand.tmp 85) (Go.Operand.const (Go.Value.int Go.IntKind.i64 1)) 3 (.int .i64 L) (Go.Value.int Go.IntKind.i64 1) (fun v => by kernel_rfl) (fun v => by kernel_rfl) (sub_i64B _ _ _ _ _ _ (by omega) (by omega) (by omega)),
                owes_move 4 (some 87) [] (.slice (some ⟨cg, 0, none⟩) L cc) (Go.Operand.tmp 12) (fun v => by kernel_rfl) (fun v => by kernel_rfl),
                owes_move 5 (some 88) [] (.slice (some ⟨cg, 0, none⟩) L cc) (Go.Operand.tmp 12) (fun v => by kernel_rfl) (fun v => by kernel_rfl),
                owes_lenB 6 (some 89) [5] (.int .i64 L) (.tmp 88) 35 3 (.slice (some ⟨cg, 0, none⟩) L cc) (fun v => by kernel_rfl) (by kernel_rfl) (fun v => by kernel_rfl) (fun w => by kernel_rfl),
                owes_bin 7 (some 90) [6] (.int .i64 ((L - 1 : Nat) : Int)) Go.BinOp.sub 3 (Go.Operand.tmp 89) (Go.Operand.const (Go.Value.int Go.IntKind.i64 1)) 3 (.int .i64 L) (Go.Value.int Go.IntKind.i64 1) (fun v => by kernel_rfl) (fun v => by kernel_rfl) (sub_i64B _ _ _ _ _ _ (by omega) (by omega) (by omega)),
                owes_index 8 (some 91) [4, 7] (.pointer (some ⟨cg, 0 + (L - 1), none⟩)) 35 (Go.Operand.tmp 87) (Go.Operand.tmp 90) (.slice (some ⟨cg, 0, none⟩) L cc) (.int .i64 ((L - 1 : Nat) : Int)) (fun v => by kernel_rfl) (fun v => by kernel_rfl) (idx_sl (P := Tryd.prog) Tryd.underlying35 (show (Tryd.prog.info? 5).map (·.size) = some 1 by kernel_rfl) cg 0 L cc (L - 1) (by omega)),
                owes_load 9 (some 92) [8] (v8 y) 5 (Go.Operand.tmp 91) (.pointer (some ⟨cg, 0 + (L - 1), none⟩)) (fun v => by kernel_rfl) (fun v => by kernel_rfl) (fun w' hb => load_u8' _ _ _ w' (HL w' hb)),
                owes_move 10 (some 93) [] (.int .i64 n) (Go.Operand.tmp 0) (fun v => by kernel_rfl) (fun v => by kernel_rfl),
                owes_bin 11 (some 94) [10] (.int .i64 ((n % 8 : Nat) : Int)) Go.BinOp.rem 3 (Go.Operand.tmp 93) (Go.Operand.const (Go.Value.int Go.IntKind.i64 8)) 3 (.int .i64 n) (Go.Value.int Go.IntKind.i64 8) (fun v => by kernel_rfl) (fun v => by kernel_rfl) (rem_i64 _ _ _ n 8 (by omega) (by omega)),
                owes_cvt 12 (some 95) [11] (.int .u64 ((n % 8 : Nat) : Int)) 3 47 (Go.Operand.tmp 94) (.int .i64 ((n % 8 : Nat) : Int)) (fun v => by kernel_rfl) (fun v => by kernel_rfl) (cvt_uint (n % 8) (by omega)),
                owes_bin 13 (some 96) [12] (v8 (1#8 <<< (n % 8))) Go.BinOp.shl 5 (Go.Operand.const (Go.Value.int Go.IntKind.u8 1)) (Go.Operand.tmp 95) 47 (Go.Value.int Go.IntKind.u8 1) (.int .u64 ((n % 8 : Nat) : Int)) (fun v => by kernel_rfl) (fun v => by kernel_rfl) (shlU_u8 _ _ _ (n % 8) (by omega)),
                owes_bin 14 (some 97) [9, 13] (v8 (y ||| (1#8 <<< (n % 8)))) Go.BinOp.or 5 (Go.Operand.tmp 92) (Go.Operand.tmp 96) 5 (v8 y) (v8 (1#8 <<< (n % 8))) (fun v => by kernel_rfl) (fun v => by kernel_rfl) (or_u8 _ _ _ _ _),
                owes_index 15 (some 98) [0, 3] (.pointer (some ⟨cg, 0 + (L - 1), none⟩)) 35 (Go.Operand.tmp 83) (Go.Operand.tmp 86) (.slice (some ⟨cg, 0, none⟩) L cc) (.int .i64 ((L - 1 : Nat) : Int)) (fun v => by kernel_rfl) (fun v => by kernel_rfl) (idx_sl (P := Tryd.prog) Tryd.underlying35 (show (Tryd.prog.info? 5).map (·.size) = some 1 by kernel_rfl) cg 0 L cc (L - 1) (by omega)), trivial⟩ ?_
              intro v w' hb' hall
              clear hall HL
              replace x := x.next hb'
              have hclt' : cg < w'.heap.size := Nat.lt_of_lt_of_le hclt hb'.size
              have hcells' : ∀ j, j < L → w'.cell? ⟨cg, j, none⟩ = some (v8 (bs.getD j 0#8)) := fun j hj => (hb'.cell (p := ⟨cg, j, none⟩) hclt).trans (hcells j hj)
              have hf : w'.frozen? ⟨cg, L - 1, none⟩ = false := by rw [World.frozen?_of_block (hb'.block _ hclt)]; exact hfroz _
              have hc := hcells' (L - 1) (by omega)
              have CSR0 := set_bytes hclt' hcells' (show L - 1 < L by omega) (y ||| (1#8 <<< (n % 8))) HBL.out
              have hno : ¬ ((bs.set (L - 1) (y ||| (1#8 <<< (n % 8)))).length = (n + 7) / 8 ∧ NoMore (bs.set (L - 1) (y ||| (1#8 <<< (n % 8)))) n) := fun h => by
                have hlset : (bs.set (L - 1) (y ||| (1#8 <<< (n % 8)))).length = L := by rw [List.length_set]; exact HBL.out
                have h1 := h.2 n (Nat.le_refl _) (by rw [hlset]; have := HL8.out; omega)
                rw [bit_last bs n L (y ||| (1#8 <<< (n % 8))) h8 HL8.out HBL.out, BitVec.getLsbD_or, one_bit (n % 8) (Nat.mod_lt _ (by omega)) (n % 8) (Nat.mod_lt _ (by omega))] at h1
                simp at h1
              have hcl : (bs.set (L - 1) (y ||| (1#8 <<< (n % 8)))).length ≤ 1000 := by have := HBL.out; simp; omega
              obtain ⟨cs, hcs⟩ : ∃ cs, cs = bs.set (L - 1) (y ||| (1#8 <<< (n % 8))) := ⟨_, rfl⟩
              have hcL : cs.length = L := by rw [hcs, List.length_set]; exact HBL.out
              rw [← hcs] at hno hcl CSR0
              have HNO := Lib.hid hno
              clear hno hcs
              have x9 : BbS w b a l G L n (w'.setCell ⟨cg, L - 1, none⟩ (v8 (y ||| (1#8 <<< (n % 8))))) := x.base ((Below.refl (max C 0) w').setCell (p := ⟨cg, L - 1, none⟩) (by simpa using hcb) _) (by simpa using hGr) (by simpa using hbr) (by simpa using har) (by simpa using hwr)
              clear hcells hcells' hyc hb' x hclt hclt' hfroz d8 d9
              simp only [putsL_k, putsL_nil, List.set_cons_zero, List.set_cons_succ]
              simp only [List.drop_succ_cons, List.drop_zero, Nat.zero_add]
              go_upto_region 31 with (fail)
              refine wp_world (fun Wc => BbS w b a l G L n Wc ∧ SlRead Wc (some ⟨cg, 0, none⟩) (ints .u8 (bys cs))) ⟨x9, CSR0⟩ ?_
              clear x9 CSR0 hc hf
              rintro Wc ⟨x, CSR⟩
              rw [show (Value.slice (some ⟨cg, 0, none⟩) L cc) = Value.slice (some ⟨cg, 0, none⟩) cs.length cc by rw [hcL]]
              clear hcL
              have hno9 : ¬ ((cs).length = (sizeN (n : Int) + 7) / 8 ∧ NoMore (cs) (sizeN (n : Int))) := by rw [HSN.out]; exact HNO.out
              have hof := of_any E (n : Int) (cs) (some ⟨cg, 0, none⟩) cc Wc (hE0.below x.bel) CSR (by omega)
              go_wp2_with fail
              refine hof.mono ?_
              intro e Wd hp
              clear hof
              rcases hp with ⟨q1, q2, _⟩ | ⟨_, rfl, hbd⟩
              · exact absurd ⟨q1, q2⟩ hno9
              clear hno9
              replace x := x.next hbd
              clear hbd
              have hof := of_any E (n : Int) bs (some ⟨G, 0, none⟩) L Wd (hE0.below x.bel) (HRD.out _ x) (by rw [HBL.out]; omega)
              rw [HBL.out] at hof
              go_wp2_with fail
              refine hof.mono ?_
              intro e We hp
              clear hof
              rcases Or.symm hp with ⟨q3, _, _⟩ | ⟨q1, q2, b2, a2, rfl, hm2, hbd, hA2, hB2⟩
              · exact absurd (by rw [HSN.out]; exact ⟨HBL.out.trans HL8.out, HRB.out.2⟩) q3
              clear q1 q2
              rw [HSN.out, HRB.out.1] at hm2
              have hGlt := x.row.lt
              have hGb2 : G ≠ b2 := by omega
              have hGa2 : G ≠ a2 := by omega
              replace x := x.next hbd
              clear hbd hA2 hB2
              have hx0 := x.row.cell (i := 0) (by omega)
              obtain ⟨x0, hx0e⟩ : ∃ x0, x0 = byteAt l n 0 := ⟨_, rfl⟩
              rw [← hx0e] at hx0
              have HX0 := Lib.hid hx0e; clear hx0e
              go_upto_region 35 with (fail)
              have HL : ∀ w', Below We.heap.size We w' → w'.cell? ⟨G, 0 + 0, none⟩ = some (v8 x0) := fun w' hb => (hb.cell (p := ⟨G, 0, none⟩) x.row.lt).trans hx0
              refine wp_region_text_tail 6 [Sp.k 0 (some 126) [] (.slice (some ⟨G, 0, none⟩) L L),
                Sp.k 1 (some 127) [] (.slice (some ⟨G, 0, none⟩) L L),
                Sp.k 2 (some 128) [1] (.pointer (some ⟨G, 0 + 0, none⟩)),
                Sp.k 3 (some 129) [2] (v8 x0),
                Sp.k 4 (some 130) [3] (v8 (~~~ x0)),
                Sp.k 5 (some 131) [0] (.pointer (some ⟨G, 0 + 0, none⟩))] (by kernel_rfl)
                ⟨owes_move 0 (some 126) [] (.slice (some ⟨G, 0, none⟩) L L) (Go.Operand.tmp 10) (fun v => by kernel_rfl) (fun v => by kernel_rfl),
                owes_move 1 (some 127) [] (.slice (some ⟨G, 0, none⟩) L L) (Go.Operand.tmp 10) (fun v => by kernel_rfl) (fun v => by kernel_rfl),
                owes_index 2 (some 128) [1] (.pointer (some ⟨G, 0 + 0, none⟩)) 35 (Go.Operand.tmp 127) (Go.Operand.const (Go.Value.int Go.IntKind.i64 0)) (.slice (some ⟨G, 0, none⟩) L L) (Go.Value.int Go.IntKind.i64 0) (fun v => by kernel_rfl) (fun v => by kernel_rfl) (idx_sl (P := Tryd.prog) Tryd.underlying35 (show (Tryd.prog.info? 5).map (·.size) = some 1 by kernel_rfl) G 0 L L 0 (by omega)),
                owes_load 3 (some 129) [2] (v8 x0) 5 (Go.Operand.tmp 128) (.pointer (some ⟨G, 0 + 0, none⟩)) (fun v => by kernel_rfl) (fun v => by kernel_rfl) (fun w' hb => load_u8' _ _ _ w' (HL w' hb)),
                owes_un 4 (some 130) [3] (v8 (~~~ x0)) Go.UnOp.xor 5 (Go.Operand.tmp 129) (v8 x0) (fun v => by kernel_rfl) (fun v => by kernel_rfl) (not_u8 x0),
                owes_index 5 (some 131) [0] (.pointer (some ⟨G, 0 + 0, none⟩)) 35 (Go.Operand.tmp 126) (Go.Operand.const (Go.Value.int Go.IntKind.i64 0)) (.slice (some ⟨G, 0, none⟩) L L) (Go.Value.int Go.IntKind.i64 0) (fun v => by kernel_rfl) (fun v => by kernel_rfl) (idx_sl (P := Tryd.prog) Tryd.underlying35 (show (Tryd.prog.info? 5).map (·.size) = some 1 by kernel_rfl) G 0 L L 0 (by omega)), trivial⟩ ?_
              intro v w' hb' hall
              clear hall HL
              have x2 := x.next hb'
              have hm3 := hm2.below' hb'
              have hf := x2.row.frozen 0
              have hc := x2.row.cell (i := 0) (by omega)
              have hset := x2.row.set 0 (v8 (~~~ x0))
              have hbS : Below w.heap.size w (w'.setCell ⟨G, 0, none⟩ (v8 (~~~ x0))) := x2.bel.setCell (p := ⟨G, 0, none⟩) hgw _
              have hmS : IsMap (w'.setCell ⟨G, 0, none⟩ (v8 (~~~ x0))) b a l := x2.map.other HG1.out HG2.out _
              have hm2S : IsMap (w'.setCell ⟨G, 0, none⟩ (v8 (~~~ x0))) b2 a2 l := hm3.other hGb2 hGa2 _
              clear x2 hm3 hm2 x hb' hx0 hGlt
              simp only [putsL_k, putsL_nil, List.set_cons_zero, List.set_cons_succ]
              simp only [List.drop_succ_cons, List.drop_zero, Nat.zero_add]
              go_upto_region 36 with (fail)
              refine wp_world (fun V => Below w.heap.size w V ∧ IsMap V b a l ∧ IsMap V b2 a2 l ∧ V.rowIs G 5 L (fun q => v8 (if q = 0 then ~~~ x0 else byteAt l n q))) ?_ ?_
              · exact ⟨hbS, hmS, hm2S, hset.congr fun q _ => by split <;> rfl⟩
              clear hc hf hset hbS hmS hm2S
              rintro W9 ⟨hbS, hmS, hm2S, hrow9⟩
              have hE := hE0.below hbS
              have HC1 := fun w' (hb : Below W9.heap.size W9 w') => quiet_below (count_any b a l w' (hmS.below' hb))
              have HC2 := fun w' (hb : Below W9.heap.size W9 w') => quiet_below (count_any b2 a2 l w' (hm2S.below' hb))
              obtain ⟨TR, hTR⟩ : ∃ TR : Int, TR = ((trues l : Nat) : Int) := ⟨_, rfl⟩
              simp only [← hTR] at HC1 HC2
              clear hTR
              have HMB : ∀ w', Below W9.heap.size W9 w' → Calls Tryd.prog 21 #[.pointer (some ⟨b, 0, none⟩)] w' fun e w'' => (∃ g, e = .returned (.slice (some ⟨g, 0, none⟩) bs.length bs.length) ∧ SlRead w'' (some ⟨g, 0, none⟩) (ints .u8 (bys bs))) ∧ Below w'.heap.size w' w'' := fun w' hb => by
                refine (mbytes_any b a _ w' (hmS.below' hb)).mono ?_
                rintro e w'' ⟨g, rfl, hrow, _, hb2⟩
                rw [HNL.out, ← HL8.out] at hrow ⊢
                rw [← HBL.out] at hrow ⊢
                exact ⟨⟨g, rfl, SlRead.of_bytes hrow rfl fun q hq => HBG.out q (by rw [← HBL.out]; exact hq)⟩, hb2⟩
              have HSB : ∀ w', Below W9.heap.size W9 w' → ∀ g, SlRead w' (some ⟨g, 0, none⟩) (ints .u8 (bys bs)) → Calls Tryd.prog 23 #[.slice (some ⟨g, 0, none⟩) bs.length bs.length, .slice (some ⟨G, 0, none⟩) L L] w' fun e w'' => e = .returned (.bool false) ∧ Below w'.heap.size w' w'' := fun w' hb g hg => by
                have hrd := SlRead.of_bytes (bs := bs.set 0 (~~~ x0)) (hrow9.of_block (hb.block _ hrow9.lt)) (by rw [List.length_set]; exact HBL.out) (fun q hq => by
                  by_cases e : q = 0
                  · subst e; simp [HBL.out, hL0]
                  · rw [if_neg e, HBG.out q hq, List.getD_eq_getElem?_getD, List.getD_eq_getElem?_getD, List.getElem?_set_ne (Ne.symm e)])
                have h := quiet_below (sameBytes_any (some ⟨g, 0, none⟩) (some ⟨G, 0, none⟩) (bys bs) (bys (bs.set 0 (~~~ x0))) bs.length L w' hg hrd (by simp [bys]; have := HBL.out; omega) (by simp [bys]; have := HBL.out; omega))
                have hne : ¬ bys bs = bys (bs.set 0 (~~~ x0)) := fun e => by
                  have e0 := congrArg (fun y => y[0]?) e
                  have hb0 : bs[0]? = some x0 := by
                    have h0 := HBG.out 0 hL0
                    rw [← HX0.out] at h0
                    rw [h0, List.getD_eq_getElem?_getD]
                    rcases hq : bs[0]? with _ | y
                    · have := List.getElem?_eq_none_iff.1 hq; have := HBL.out; omega
                    · rfl
                  have hb1 : (bs.set 0 (~~~ x0))[0]? = some (~~~ x0) := by simp [HBL.out, hL0]
                  simp only [bys, List.getElem?_map, hb0, hb1, Option.map_some, Option.some.injEq] at e0
                  exact not_same x0 e0
                rw [decide_eq_false hne] at h
                simpa [bys, HBL.out] using h
              clear hmS hm2S hrow9
              refine wp_region_text [Sp.k 0 (some 132) [] (.bool true),
                Sp.k 1 (some 133) [0] (.bool true),
                Sp.k 2 (some 134) [1] (errV (E 4)),
                Sp.k 3 (some 135) [1, 2] (.bool true),
                Sp.k 4 (some 136) [1, 3] (.bool true),
                Sp.k 5 (some 137) [4] (.bool true),
                Sp.k 6 (some 138) [5] (.pointer (some ⟨b2, 0, none⟩)),
                Sp.k 7 (some 139) [5, 6] (.int .i64 TR),
                Sp.k 8 (some 140) [5] (.pointer (some ⟨b, 0, none⟩)),
                Sp.k 9 (some 141) [5, 8] (.int .i64 TR),
                Sp.k 10 (some 142) [5, 7, 9] (.bool true),
                Sp.k 11 (some 143) [5, 10] (.bool true),
                Sp.k 12 (some 144) [11] (.bool true),
                Sp.k 13 (some 145) [12] (.pointer (some ⟨b, 0, none⟩)),
                Sp.o 14 (some 146) [12, 13] (SlVB (ints .u8 (bys bs)) bs.length),
                Sp.k 15 (some 147) [12] (.slice (some ⟨G, 0, none⟩) L L),
                Sp.k 16 (some 148) [12, 14, 15] (.bool false),
                Sp.k 17 (some 149) [12, 16] (.bool true),
                Sp.k 18 (some 150) [12, 17] (.bool true),
                Sp.k 19 (some 6) [18] (.bool true)] (by kernel_rfl)
                ⟨owes_move 0 (some 132) [] (.bool true) (Go.Operand.tmp 7) (fun v => by kernel_rfl) (fun v => by kernel_rfl),
                owes_move 1 (some 133) [0] (.bool true) (Go.Operand.tmp 132) (fun v => by kernel_rfl) (fun v => by kernel_rfl),
                owes_move 2 (some 134) [1] (errV (E 4)) (Go.Operand.tmp 14) (fun v => by kernel_rfl) (fun v => by kernel_rfl),
                owes_call 3 (some 135) [1, 2] (.bool true) 26 #[Go.Operand.tmp 134, Go.Operand.const (Go.Value.int Go.IntKind.i64 105)] #[38, 3] (fun v => by kernel_rfl) (fun _ _ => by kernel_rfl) (fun v w' hb ho => by
                    exact ⟨#[errV (E 4), Go.Value.int Go.IntKind.i64 105], by kernel_rfl, (is_any E (errV (E 4)) 105 105 (.inr ⟨4, by decide, rfl, rfl⟩) w' (hE.below hb)).mono (fun _ _ h => h)⟩),
                owes_pick 4 (some 136) [1, 3] (.bool true) (Go.Operand.tmp 133) (Go.Operand.tmp 135) (Go.Operand.const (Go.Value.bool false)) true (fun v => by kernel_rfl) (fun v => by kernel_rfl) (fun v => by kernel_rfl),
                owes_move 5 (some 137) [4] (.bool true) (Go.Operand.tmp 136) (fun v => by kernel_rfl) (fun v => by kernel_rfl),
                owes_move 6 (some 138) [5] (.pointer (some ⟨b2, 0, none⟩)) (Go.Operand.tmp 15) (fun v => by kernel_rfl) (fun v => by kernel_rfl),
                owes_call 7 (some 139) [5, 6] (.int .i64 TR) 13 #[Go.Operand.tmp 138] #[25] (fun v => by kernel_rfl) (fun _ _ => by kernel_rfl) (fun v w' hb ho => by
                    exact ⟨#[.pointer (some ⟨b2, 0, none⟩)], by kernel_rfl, (HC2 w' hb).mono (fun _ _ h => h)⟩),
                owes_move 8 (some 140) [5] (.pointer (some ⟨b, 0, none⟩)) (Go.Operand.tmp 8) (fun v => by kernel_rfl) (fun v => by kernel_rfl),
                owes_call 9 (some 141) [5, 8] (.int .i64 TR) 13 #[Go.Operand.tmp 140] #[25] (fun v => by kernel_rfl) (fun _ _ => by kernel_rfl) (fun v w' hb ho => by
                    exact ⟨#[.pointer (some ⟨b, 0, none⟩)], by kernel_rfl, (HC1 w' hb).mono (fun _ _ h => h)⟩),
                owes_bin 10 (some 142) [5, 7, 9] (.bool true) Go.BinOp.eql 3 (Go.Operand.tmp 139) (Go.Operand.tmp 141) 3 (.int .i64 TR) (.int .i64 TR) (fun v => by kernel_rfl) (fun v => by kernel_rfl) (fun w => eqs_i64 _ _ _ _ w),
                owes_pick 11 (some 143) [5, 10] (.bool true) (Go.Operand.tmp 137) (Go.Operand.tmp 142) (Go.Operand.const (Go.Value.bool false)) true (fun v => by kernel_rfl) (fun v => by kernel_rfl) (fun v => by kernel_rfl),
                owes_move 12 (some 144) [11] (.bool true) (Go.Operand.tmp 143) (fun v => by kernel_rfl) (fun v => by kernel_rfl),
                owes_move 13 (some 145) [12] (.pointer (some ⟨b, 0, none⟩)) (Go.Operand.tmp 8) (fun v => by kernel_rfl) (fun v => by kernel_rfl),
                owes_call_o 14 (some 146) [12, 13] (SlVB (ints .u8 (bys bs)) bs.length) 21 #[Go.Operand.tmp 145] #[25] (fun v => by kernel_rfl) (fun _ _ => by kernel_rfl) SlVB.mono (fun v w' hb ho => by
                    exact ⟨#[.pointer (some ⟨b, 0, none⟩)], by kernel_rfl, (HMB w' hb).mono (fun e w1 ⟨⟨g, h1, h2⟩, h3⟩ => ⟨_, h1, h3, g, rfl, h2⟩)⟩),
                owes_move 15 (some 147) [12] (.slice (some ⟨G, 0, none⟩) L L) (Go.Operand.tmp 10) (fun v => by kernel_rfl) (fun v => by kernel_rfl),
                owes_call 16 (some 148) [12, 14, 15] (.bool false) 23 #[Go.Operand.tmp 146, Go.Operand.tmp 147] #[35, 35] (fun v => by kernel_rfl) (fun _ _ => by kernel_rfl) (fun v w' hb ho => by
                    obtain ⟨g14, e14, r14⟩ := ho.get 14 _ _ (SlVB (ints .u8 (bys bs)) bs.length) rfl rfl
                    exact ⟨#[.slice (some ⟨g14, 0, none⟩) bs.length bs.length, .slice (some ⟨G, 0, none⟩) L L], Eq.trans (b := #[v 14, .slice (some ⟨G, 0, none⟩) L L]) (by kernel_rfl) (by rw [e14]), (HSB w' hb _ r14).mono (fun _ _ h => h)⟩),
                owes_un 17 (some 149) [12, 16] (.bool true) Go.UnOp.not 4 (Go.Operand.tmp 148) (.bool false) (fun v => by kernel_rfl) (fun v => by kernel_rfl) (fun w => by kernel_rfl),
                owes_pick 18 (some 150) [12, 17] (.bool true) (Go.Operand.tmp 144) (Go.Operand.tmp 149) (Go.Operand.const (Go.Value.bool false)) true (fun v => by kernel_rfl) (fun v => by kernel_rfl) (fun v => by kernel_rfl),
                owes_assign 19 (some 6) [18] (.bool true) (Go.Operand.tmp 150) (fun v => by kernel_rfl) (fun v => by kernel_rfl), trivial⟩ ?_
              intro v w' hb' hall
              clear hall HC1 HC2 HMB HSB
              have hbb := below_tr hbS hb'
              clear hb'
              simp only [putsL_k, putsL_o, putsL_nil, List.set_cons_zero, List.set_cons_succ]
              go_wp2_with fail
              go_ret
              exact ⟨rfl, hbb⟩
end Go.Proofs.YtplennobcbmccaaDoor
