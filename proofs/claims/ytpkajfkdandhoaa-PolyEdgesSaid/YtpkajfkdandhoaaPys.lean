import Derived.Test.YtpkajfkdandhoaaPyg
import Derived.Test.YtpkajfkdandhoaaRsq
import Derived.IntWalk
/-
  poly.Sum: a tag, as a number and its digits.
-/
namespace Go.Proofs.Ytpkajfkdandhoaa
open Go.RowKit

section
variable {P : Program} {ops : Array Oper} {l : List Sp} {a : Act} {w : World}
theorem owes_lenB (i : Nat) (dst : Option Tmp) (anc : List Nat) (r : Value) (x : Operand) (t ty : TypeId) (vx : Value) (hop : ∀ v, ops[i]?.map (fun o => (o.op, Region.wanted o (yielded ops (fr l anc a v).tmps))) = some (.call { callee := .builtin .len, args := #[x], argTypes := #[t] }, true)) (hty : ops[i]?.map (·.type) = some ty)
    (hx : ∀ v, (fr l anc a v).eval x = vx) (he : ∀ w, (Builtin.len_ #[t] ty #[vx]).run P w = .ok r w) : Owes P ops l a w (Sp.k i dst anc r) :=
  .mk_k fun v w' hb ho o hi => by
    have h := hop v
    rw [hi] at h hty
    simp only [Option.map_some, Option.some.injEq, Prod.mk.injEq] at h hty
    refine .value (v := r) (w' := w') h.2 ?_ ⟨Below.refl _ _, Cells.refl _, rfl⟩
    simp only [execOp, h.1, resolve, invoke, builtin, Sem.run_bind, Sem.run_pure, Result.andThen_ok, List.map_toArray, List.map_cons, List.map_nil, hx v, hty, he w']
theorem owes_min (i : Nat) (dst : Option Tmp) (anc : List Nat) (r : Value) (x y : Operand) (t u ty : TypeId) (vx vy : Value) (hop : ∀ v, ops[i]?.map (fun o => (o.op, Region.wanted o (yielded ops (fr l anc a v).tmps))) = some (.call { callee := .builtin .min, args := #[x, y], argTypes := #[t, u] }, true)) (hty : ops[i]?.map (·.type) = some ty)
    (hx : ∀ v, ((fr l anc a v).eval x, (fr l anc a v).eval y) = (vx, vy)) (he : ∀ w, (Builtin.min_ #[t, u] ty #[vx, vy]).run P w = .ok r w) : Owes P ops l a w (Sp.k i dst anc r) :=
  .mk_k fun v w' hb ho o hi => by
    have h := hop v
    have hx := hx v
    simp only [Prod.mk.injEq] at hx
    rw [hi] at h hty
    simp only [Option.map_some, Option.some.injEq, Prod.mk.injEq] at h hty
    refine .value (v := r) (w' := w') h.2 ?_ ⟨Below.refl _ _, Cells.refl _, rfl⟩
    simp only [execOp, h.1, resolve, invoke, builtin, Sem.run_bind, Sem.run_pure, Result.andThen_ok, List.map_toArray, List.map_cons, List.map_nil, hx.1, hx.2, hty, he w']
end
theorem add_i64P (t : TypeId) (x y : Operand) (a b c : Int) (h : a + b = c) (h1 : -9223372036854775808 ≤ c) (h2 : c ≤ 9223372036854775807) (w : World) : (do eqGuard .add t x y (.int .i64 a) (.int .i64 b); binOp .add t (.int .i64 a) (.int .i64 b) : Sem Value).run Try.prog w = .ok (.int .i64 c) w := by
  have hw : IntKind.i64.wrap (a + b) = c := by rw [h]; exact IntWalk.i64_in _ (by omega)
  simp [eqGuard, binOp, Op.intArith, hw]
theorem min_i64 (a b c : Int) (h : (if b < a then b else a) = c) (w : World) : (Builtin.min_ #[3, 3] 3 #[.int .i64 a, .int .i64 b]).run Try.prog w = .ok (.int .i64 c) w := by
  rw [run_min_int2, h]
theorem key_loadP {W : World} {b : Nat} {f : Nat → BitVec 8} (h : W.rowIs b 23 32 (fun i => v8 (f i))) : (Instr.loadAt 23 (.pointer (some ⟨b, 0, none⟩))).run Try.prog W = .ok (.agg (arr8 32 f)) W := by
  have := load_row (P := Try.prog) 23 b 0 (arr8 32 f).toList _ Try.underlying23 rfl (by simp only [Array.length_toList, arr8_size]; kernel_rfl) W (rangeAt_row h)
  simpa using this
theorem rangeAt_rowN {w : World} {g : Nat} {t : TypeId} {n : Nat} {k : IntKind} {f : Nat → Nat} (h : w.rowIs g t n (fun i => .int k (n64 (f i)))) : w.rangeAt g 0 (arrN k n f).toList := by
  intro j v hj
  have hjn : j < n := by
    have := (List.getElem?_eq_some_iff.1 hj).1
    simpa using this
  have e := arrN_get k n f j hjn
  rw [← Array.getElem?_toList, hj] at e
  rw [Option.some.inj e, Nat.zero_add]
  exact h.cell hjn
theorem num_load {W : World} {b : Nat} {f : Nat → Nat} (h : L5 W b f) : (Instr.loadAt 39 (.pointer (some ⟨b, 0, none⟩))).run Try.prog W = .ok (.agg (arrN .u64 5 f)) W := by
  have := load_row (P := Try.prog) 39 b 0 (arrN .u64 5 f).toList _ Try.underlying39 rfl (by simp only [Array.length_toList, arrN_size]; kernel_rfl) W (rangeAt_rowN h)
  simpa using this
/-- the blocks of bytes -/
def blk (bs : List (BitVec 8)) (k : Nat) : List (BitVec 8) := (bs.drop (16 * k)).take 16
/-- the sum behind k blocks -/
def acc (R : Nat) (bs : List (BitVec 8)) : Nat → Nat
  | 0 => 0
  | k + 1 => (acc R bs k + blockN (blk bs k)) * R % p5
def polyB (key : Nat → BitVec 8) (bs : List (BitVec 8)) : Nat → BitVec 8 := tagB (acc (keyR key) bs ((bs.length + 15) / 16)) key
theorem keyR_lt (key : Nat → BitVec 8) : keyR key < 340282366920938463463374607431768211456 := numB_lt _ 16
theorem blockN_lt (K : List (BitVec 8)) (h : K.length ≤ 16) : blockN K < 1361129467683753853853498429727072845824 := by
  unfold blockN numB
  rw [num_succ]
  have h1 := numB_lt (blockG K) 16
  unfold numB at h1
  have h2 : (blockG K 16).toNat ≤ 1 := by unfold blockG; split; omega; split <;> decide
  have : (blockG K 16).toNat * 256 ^ 16 ≤ 1 * 256 ^ 16 := Nat.mul_le_mul_right _ h2
  omega
theorem acc_step (R : Nat) (bs : List (BitVec 8)) (k : Nat) (f : Nat → Nat) (hR : R < 340282366920938463463374607431768211456) (hf : Near f) (he : val5 f % p5 = acc R bs k) (hk : (blk bs k).length ≤ 16) :
    Near (carried (mulTo (fun i => f i + limb (blockN (blk bs k)) i) (limb R) 25)) ∧ val5 (carried (mulTo (fun i => f i + limb (blockN (blk bs k)) i) (limb R) 25)) % p5 = acc R bs (k + 1) := by
  have hB := blockN_lt _ hk
  generalize hBe : blockN (blk bs k) = Bn at *
  constructor
  · apply carried_near
    intro i hi
    have hX : ∀ i j, i < 5 → j < 5 → (f i + limb Bn i) * limb R j ≤ 36028797018963968 := fun i j hi hj => by
      have a := hf.lt i hi
      have b := limb_lt Bn i
      have c := limb_lt R j
      have := Nat.mul_le_mul (show f i + limb Bn i ≤ 268435456 by omega) (show limb R j ≤ 134217728 by omega)
      omega
    have := mulTo_le (fun i => f i + limb Bn i) (limb R) _ hX 25 (by omega) i
    omega
  · rw [carried_mod, mul_mod5, val5_limb R (by omega)]
    have e : val5 (fun i => f i + limb Bn i) = val5 f + Bn := by
      have := val5_limb Bn hB
      unfold val5 at this ⊢
      dsimp only
      omega
    rw [e]
    show _ = (acc R bs k + blockN (blk bs k)) * R % p5
    rw [hBe, ← he, Nat.mul_mod, ← Nat.mod_add_mod (val5 f) p5 Bn, ← Nat.mul_mod]

/-- the key's box, the result's cell, the factor, the sum -/
structure PS (w : World) (B D R : Nat) (key : Nat → BitVec 8) (f : Nat → Nat) (W : World) : Prop where
  k : W.rowIs B 23 32 (fun i => v8 (key i))
  t : W.rowIs (B + 1) 26 16 (fun i => v8 ((fun _ => 0#8 : Nat → BitVec 8) i))
  h : B + 1 < D
  r : L5 W D (limb R)
  s : L5 W (D + 1) f
  b : Below B w W
theorem PS.next {w : World} {B D R : Nat} {key : Nat → BitVec 8} {f : Nat → Nat} {W W' : World} (x : PS w B D R key f W) (hb : Below W.heap.size W W') : PS w B D R key f W' :=
  ⟨x.k.of_block (hb.block _ x.k.lt), x.t.of_block (hb.block _ x.t.lt), x.h, x.r.of_block (hb.block _ x.r.lt), x.s.of_block (hb.block _ x.s.lt), x.b.trans (hb.mono (by have := x.k.lt; omega))⟩
theorem PS.put {w : World} {B D R : Nat} {key : Nat → BitVec 8} {f g : Nat → Nat} {W : World} (x : PS w B D R key f W) : PS w B D R key g (W.setRow (D + 1) (arrN .u64 5 g)) := by
  have hh := x.h
  obtain ⟨old, h1, _, _⟩ := x.s
  exact ⟨x.k.of_block (setRow_other _ _ _ _ (by omega)), x.t.of_block (setRow_other _ _ _ _ (by omega)), hh, x.r.of_block (setRow_other _ _ _ _ (by omega)), rowIs_arr (setRow_heap _ _ _ _ _ _ h1) (by simp) (fun i hi => arrN_get .u64 5 g i hi), below_setRow x.b (by omega) _⟩

set_option maxRecDepth 100000 in
set_option maxHeartbeats 3200000 in
theorem psum_any (key : Nat → BitVec 8) (A : Option Addr) (bs : List (BitVec 8)) (cap : Nat) (w : World) (hS : SlRead w A (ints .u8 (bys bs))) (hcap : bs.length ≤ cap) (hl : bs.length ≤ 140737488351232) :
    Calls Try.prog 9 #[.agg (arr8 32 key), .slice A bs.length cap] w fun e w' => e = .returned (.agg (arr8 16 (polyB key bs))) ∧ Below w.heap.size w w' := by
  have HF := Lib.hid (fun W => factor_any key W)
  have HR := Lib.hid (keyR_lt key)
  have HP : Hid (polyB key bs = tagB (acc (keyR key) bs ((bs.length + 15) / 16)) key) := Lib.hid rfl
  obtain ⟨R, hR⟩ : ∃ R, R = keyR key := ⟨_, rfl⟩
  rw [← hR] at HF HR HP
  clear hR
  go_enter Try.func9, Try.ntmps9
  go_upto_region 1 with (fail)
  refine wp_world (fun W => W.rowIs w.heap.size 23 32 (fun i => v8 (key i)) ∧ W.rowIs (w.heap.size + 1) 26 16 (fun i => v8 ((fun _ => 0#8 : Nat → BitVec 8) i)) ∧ Below w.heap.size w W) ?_ ?_
  · refine ⟨?_, ?_, ?_⟩
    · exact (rowIs_new _ _ _ _ _ _ (by simp) (by simp) (fun i hi => arr8_get 32 key i hi)).alloc _
    · exact rowIs_new _ _ _ _ _ _ (by simp) (by rfl) zero16
    · go_grown
  rintro W0 ⟨h1, h2, h3⟩
  generalize hB : w.heap.size = B at h1 h2 h3 ⊢
  have HB := Lib.hid hB; clear hB
  have hk0 := rowIs_heap8 h1
  go_wp2_with (refine wpList_load_row rfl 23 _ rfl _ rfl _ _ _ _ hk0 Try.underlying23 rfl (by kernel_rfl) ?_)
  refine (HF.out _).mono ?_
  rintro e W1 ⟨rfl, hb1⟩
  have g1 := h1.of_block (hb1.block _ h1.lt)
  have g2 := h2.of_block (hb1.block _ h2.lt)
  have g3 : Below B w W1 := h3.trans (hb1.mono (by have := h1.lt; omega))
  clear h1 h2 h3 hb1 hk0 HF
  go_upto_region 3 with (first | (refine wpList_store_row rfl 39 _ _ rfl _ (arrN .u64 5 (limb R)) rfl rfl _ _ (heap_alloc_new _ _) (by kernel_rfl) (by rfl) (arrN_one _ _ _) ?_; rw [alloc_setRow]))
  refine wp_world (PS w B W1.heap.size R key (fun _ => 0)) ?_ ?_
  · refine ⟨(g1.alloc _).alloc _, (g2.alloc _).alloc _, g2.lt, ?_, ?_, ?_⟩
    · exact (rowIs_new _ _ _ _ _ _ rfl (by simp) (fun i hi => arrN_get .u64 5 (limb R) i hi)).alloc _
    · exact (rowIs_new _ _ _ _ _ _ (by simp) (by rfl) zero5)
    · exact (g3.alloc (by have := g1.lt; omega) _).alloc (by have := g1.lt; simp; omega) _
  generalize W1.heap.size = D
  clear g1 g2 g3 W1 W0
  intro W2 hx
  go_wp2_with fail
  go_loopw [7] (fun i wr => ∃ k f, 16 * k < bs.length + 16 ∧ i = .int .i64 ((16 * k : Nat) : Int) ∧ Near f ∧ val5 f % p5 = acc R bs k ∧ PS w B D R key f wr) (fun i _ => bs.length + 16 - (intOf i).toNat)
  case atStart => exact ⟨0, _, by omega, rfl, ⟨by omega, fun i _ _ => by omega⟩, by simp [val5, acc], hx⟩
  clear hx
  case round =>
    obtain ⟨k, f, hk, rfl, hf, he, hx⟩ := hrel
    by_cases hlt : 16 * k < bs.length
    · have hkl : (blk bs k).length ≤ 16 := by unfold blk; simp; omega
      obtain ⟨m, hm⟩ : ∃ m, m = (blk bs k).length := ⟨_, rfl⟩
      have hm2 : m = min 16 (bs.length - 16 * k) := by rw [hm]; unfold blk; simp
      obtain ⟨gb, o, rfl, hgl, hgc⟩ := hS (by simp [bys]; omega)
      have hstep := acc_step R bs k f HR.out hf he hkl
      have HSR : Hid (∀ W', Below w.heap.size w W' → SlRead W' (some ⟨gb, o + 16 * k, none⟩) (ints .u8 (bys (blk bs k)))) := Lib.hid fun W' hb => by
        intro _
        refine ⟨gb, o + 16 * k, rfl, Nat.lt_of_lt_of_le hgl hb.size, fun j u hj => ?_⟩
        rw [bys_ints] at hj
        have hj2 : j < (blk bs k).length := by
          have := (List.getElem?_eq_some_iff.1 hj).1
          simpa using this
        rw [Nat.add_assoc, show W'.cell? ⟨gb, o + (16 * k + j), none⟩ = w.cell? ⟨gb, o + (16 * k + j), none⟩ from hb.cell (p := ⟨gb, o + (16 * k + j), none⟩) hgl]
        refine hgc (16 * k + j) u ?_
        rw [bys_ints, ← hj]
        unfold blk
        rw [List.getElem?_map, List.getElem?_map, List.getElem?_take_of_lt (by omega), List.getElem?_drop]
      obtain ⟨Bn, hBn⟩ : ∃ Bn, Bn = blockN (blk bs k) := ⟨_, rfl⟩
      have HBK : ∀ w', Below wr.drew.heap.size wr.drew w' → Calls Try.prog 16 #[.slice (some ⟨gb, o + 16 * k, none⟩) m (cap - 16 * k)] w' fun e w'' => e = .returned (.agg (arrN .u64 5 (limb Bn))) ∧ Below w'.heap.size w' w'' := fun w' hb => by
        have hbw : Below w.heap.size w w' := by
          rw [HB.out]
          exact hx.b.trans (((Below.drewNr (w := wr) 1).trans hb).mono (Nat.le_of_lt hx.k.lt))
        have := block_any (some ⟨gb, o + 16 * k, none⟩) (blk bs k) (cap - 16 * k) w' hkl (HSR.out w' hbw)
        rwa [← hm, ← hBn] at this
      have HAD : ∀ w', Calls Try.prog 15 #[.agg (arrN .u64 5 f), .agg (arrN .u64 5 (limb Bn))] w' fun e w'' => e = .returned (.agg (arrN .u64 5 (fun i => f i + limb Bn i))) ∧ Below w'.heap.size w' w'' := fun w' =>
        padd_any f (limb Bn) w' (fun i hi => by have := hf.lt i hi; omega) (fun i _ => by have := limb_lt Bn i; omega)
      obtain ⟨F2, hF2⟩ : ∃ F2, F2 = carried (mulTo (fun i => f i + limb Bn i) (limb R) 25) := ⟨_, rfl⟩
      have HTI : ∀ w', Calls Try.prog 17 #[.agg (arrN .u64 5 (fun i => f i + limb Bn i)), .agg (arrN .u64 5 (limb R))] w' fun e w'' => e = .returned (.agg (arrN .u64 5 F2)) ∧ Below w'.heap.size w' w'' := fun w' => by
        rw [hF2]
        exact times_any _ _ w' (fun i hi => by have := hf.lt i hi; have := limb_lt Bn i; omega) (fun i _ => by have := limb_lt R i; omega)
      rw [← hBn, ← hF2] at hstep
      have HX : ∀ w', Below wr.drew.heap.size wr.drew w' → PS w B D R key f w' := fun w' hb => hx.next ((Below.drewNr (w := wr) 1).trans hb)
      have HMIN := fun (W : World) => min_i64 ((16 * k + 16 : Nat) : Int) (bs.length : Int) ((16 * k : Nat) + m : Int) (by split <;> omega) W
      have HST := Lib.hid hstep
      have hmle : 16 * k + m ≤ bs.length := by omega
      have hb64 : 16 * k + 16 ≤ 140737488351268 := by omega
      clear hstep hf he hkl hm hm2 hBn hF2 hgl hgc HSR hx
      go_upto_region 6 with (fail)
      refine wp_region_spec_tail 13 [Sp.k 0 (some 16) [] (.agg (arrN .u64 5 f)),
        Sp.k 1 (some 17) [] (.slice (some ⟨gb, o, none⟩) bs.length cap),
        Sp.k 2 (some 18) [] (.int .i64 ((16 * k : Nat) : Int)),
        Sp.k 3 (some 19) [] (.int .i64 ((16 * k : Nat) : Int)),
        Sp.k 4 (some 20) [3] (.int .i64 ((16 * k + 16 : Nat) : Int)),
        Sp.k 5 (some 21) [] (.slice (some ⟨gb, o, none⟩) bs.length cap),
        Sp.k 6 (some 22) [5] (.int .i64 bs.length),
        Sp.k 7 (some 23) [4, 6] (.int .i64 ((16 * k : Nat) + m : Int)),
        Sp.k 8 (some 24) [1, 2, 7] (.slice (some ⟨gb, o + 16 * k, none⟩) m (cap - 16 * k)),
        Sp.k 9 (some 25) [8] (.agg (arrN .u64 5 (limb Bn))),
        Sp.k 10 (some 26) [0, 9] (.agg (arrN .u64 5 (fun i => f i + limb Bn i))),
        Sp.k 11 (some 27) [] (.agg (arrN .u64 5 (limb R))),
        Sp.k 12 (some 28) [10, 11] (.agg (arrN .u64 5 F2))] (by kernel_rfl) (by kernel_rfl)
        ⟨owes_load 0 (some 16) [] (.agg (arrN .u64 5 f)) 39 (Go.Operand.tmp 6) (.pointer (some ⟨D + 1, 0, none⟩)) (fun v => by kernel_rfl) (fun v => by kernel_rfl) (fun w' hb => num_load (HX w' hb).s),
        owes_move 1 (some 17) [] (.slice (some ⟨gb, o, none⟩) bs.length cap) (Go.Operand.tmp 1) (fun v => by kernel_rfl) (fun v => by kernel_rfl),
        owes_move 2 (some 18) [] (.int .i64 ((16 * k : Nat) : Int)) (Go.Operand.tmp 7) (fun v => by kernel_rfl) (fun v => by kernel_rfl),
        owes_move 3 (some 19) [] (.int .i64 ((16 * k : Nat) : Int)) (Go.Operand.tmp 7) (fun v => by kernel_rfl) (fun v => by kernel_rfl),
        owes_bin 4 (some 20) [3] (.int .i64 ((16 * k + 16 : Nat) : Int)) Go.BinOp.add 3 (Go.Operand.tmp 19) (Go.Operand.const (Go.Value.int Go.IntKind.i64 16)) 3 (.int .i64 ((16 * k : Nat) : Int)) (Go.Value.int Go.IntKind.i64 16) (fun v => by kernel_rfl) (fun v => by kernel_rfl) (add_i64P _ _ _ _ _ _ (by omega) (by omega) (by omega)),
        owes_move 5 (some 21) [] (.slice (some ⟨gb, o, none⟩) bs.length cap) (Go.Operand.tmp 1) (fun v => by kernel_rfl) (fun v => by kernel_rfl),
        owes_lenB 6 (some 22) [5] (.int .i64 bs.length) (.tmp 21) 24 3 (.slice (some ⟨gb, o, none⟩) bs.length cap) (fun v => by kernel_rfl) (by kernel_rfl) (fun v => by kernel_rfl) (fun w => by kernel_rfl),
        owes_min 7 (some 23) [4, 6] (.int .i64 ((16 * k : Nat) + m : Int)) (.tmp 20) (.tmp 22) 3 3 3 (.int .i64 ((16 * k + 16 : Nat) : Int)) (.int .i64 bs.length) (fun v => by kernel_rfl) (by kernel_rfl) (fun v => by kernel_rfl) HMIN,
        owes_slice 8 (some 24) [1, 2, 7] (.slice (some ⟨gb, o + 16 * k, none⟩) m (cap - 16 * k)) 24 (Go.Operand.tmp 17) (some (Go.Operand.tmp 18)) (some (Go.Operand.tmp 23)) none (.slice (some ⟨gb, o, none⟩) bs.length cap) (some (.int .i64 ((16 * k : Nat) : Int))) (some (.int .i64 ((16 * k : Nat) + m : Int))) none (fun v => by kernel_rfl) (fun v => by kernel_rfl) (fun w => slice_sl_lh (P := Try.prog) Try.underlying24 (show (Try.prog.info? 5).map (·.size) = some 1 by kernel_rfl) gb o bs.length cap (16 * k) m (by omega) (by omega) (by omega) w),
        owes_call 9 (some 25) [8] (.agg (arrN .u64 5 (limb Bn))) 16 #[Go.Operand.tmp 24] #[24] (fun v => by kernel_rfl) (fun _ _ => by kernel_rfl) (fun v w' hb ho => by
            exact ⟨#[.slice (some ⟨gb, o + 16 * k, none⟩) m (cap - 16 * k)], by kernel_rfl, (HBK w' hb).mono (fun _ _ h => h)⟩),
        owes_call 10 (some 26) [0, 9] (.agg (arrN .u64 5 (fun i => f i + limb Bn i))) 15 #[Go.Operand.tmp 16, Go.Operand.tmp 25] #[39, 39] (fun v => by kernel_rfl) (fun _ _ => by kernel_rfl) (fun v w' hb ho => by
            exact ⟨#[.agg (arrN .u64 5 f), .agg (arrN .u64 5 (limb Bn))], by kernel_rfl, (HAD w').mono (fun _ _ h => h)⟩),
        owes_load 11 (some 27) [] (.agg (arrN .u64 5 (limb R))) 39 (Go.Operand.tmp 5) (.pointer (some ⟨D, 0, none⟩)) (fun v => by kernel_rfl) (fun v => by kernel_rfl) (fun w' hb => num_load (HX w' hb).r),
        owes_call 12 (some 28) [10, 11] (.agg (arrN .u64 5 F2)) 17 #[Go.Operand.tmp 26, Go.Operand.tmp 27] #[39, 39] (fun v => by kernel_rfl) (fun _ _ => by kernel_rfl) (fun v w' hb ho => by
            exact ⟨#[.agg (arrN .u64 5 (fun i => f i + limb Bn i)), .agg (arrN .u64 5 (limb R))], by kernel_rfl, (HTI w').mono (fun _ _ h => h)⟩), trivial⟩ ?_
      intro v w' hb' hall
      have hx2 := HX w' hb'
      clear hall HX HBK HAD HTI HMIN hb'
      obtain ⟨old, hr1, hr2, _⟩ := hx2.s
      have HX2 := Lib.hid (hx2.put (g := F2)); clear hx2
      simp only [putsL_k, putsL_nil, List.set_cons_zero, List.set_cons_succ]
      simp only [List.drop_succ_cons, List.drop_zero]
      go_wp2_with (refine wpList_store_row rfl 39 _ _ rfl _ _ rfl rfl _ _ hr1 (by kernel_rfl) (by simpa using hr2) (arrN_one _ _ _) ?_)
      go_roundw
      case rel => exact ⟨k + 1, F2, by omega, by congr 1, HST.out.1, HST.out.2, HX2.out⟩
      case measure => simp [intOf]; omega
    · have hkk : k = (bs.length + 15) / 16 := by omega
      have HK := Lib.hid hkk
      rw [← hkk] at HP
      clear hkk
      obtain ⟨lv, ll⟩ := least_val f hf
      have HRE := fun w' => reduced_any f w' hf
      have HTA : ∀ w', Calls Try.prog 18 #[.agg (arrN .u64 5 (least f)), .agg (arr8 32 key)] w' fun e w'' => e = .returned (.agg (arr8 16 (polyB key bs))) ∧ Below w'.heap.size w' w'' := fun w' => by
        have := tag_any (least f) key w' ll
        rwa [lv, he, ← HP.out] at this
      obtain ⟨out, hout⟩ : ∃ out, out = polyB key bs := ⟨_, rfl⟩
      rw [← hout] at HTA
      have HO := Lib.hid hout
      have HX : ∀ w', Below wr.drew.heap.size wr.drew w' → PS w B D R key f w' := fun w' hb => hx.next ((Below.drewNr (w := wr) 1).trans hb)
      clear lv ll hf he hx hk hout HK HP hS
      go_upto_region 7 with (fail)
      refine wp_region_spec_tail 4 [Sp.k 0 (some 29) [] (.agg (arrN .u64 5 f)),
        Sp.k 1 (some 30) [0] (.agg (arrN .u64 5 (least f))),
        Sp.k 2 (some 31) [] (.agg (arr8 32 key)),
        Sp.k 3 (some 32) [1, 2] (.agg (arr8 16 out))] (by kernel_rfl) (by kernel_rfl)
        ⟨owes_load 0 (some 29) [] (.agg (arrN .u64 5 f)) 39 (Go.Operand.tmp 6) (.pointer (some ⟨D + 1, 0, none⟩)) (fun v => by kernel_rfl) (fun v => by kernel_rfl) (fun w' hb => num_load (HX w' hb).s),
        owes_call 1 (some 30) [0] (.agg (arrN .u64 5 (least f))) 19 #[Go.Operand.tmp 29] #[39] (fun v => by kernel_rfl) (fun _ _ => by kernel_rfl) (fun v w' hb ho => by
            exact ⟨#[.agg (arrN .u64 5 f)], by kernel_rfl, (HRE w').mono (fun _ _ h => h)⟩),
        owes_load 2 (some 31) [] (.agg (arr8 32 key)) 23 (Go.Operand.tmp 2) (.pointer (some ⟨B, 0, none⟩)) (fun v => by kernel_rfl) (fun v => by kernel_rfl) (fun w' hb => key_loadP (HX w' hb).k),
        owes_call 3 (some 32) [1, 2] (.agg (arr8 16 out)) 18 #[Go.Operand.tmp 30, Go.Operand.tmp 31] #[39, 23] (fun v => by kernel_rfl) (fun _ _ => by kernel_rfl) (fun v w' hb ho => by
            exact ⟨#[.agg (arrN .u64 5 (least f)), .agg (arr8 32 key)], by kernel_rfl, (HTA w').mono (fun _ _ h => h)⟩), trivial⟩ ?_
      intro v w' hb' hall
      have hx2 := HX w' hb'
      clear hall HX HRE HTA hb'
      obtain ⟨old, hr1, hr2, _⟩ := hx2.t
      have hb := below_setRow (g := B + 1) hx2.b (by omega) (arr8 16 out)
      have hres : (w'.setRow (B + 1) (arr8 16 out)).heap[B + 1]? = some (.cells (arr8 16 out) 26 (0, 0)) := setRow_heap _ _ _ _ _ _ hr1
      clear hx2
      simp only [putsL_k, putsL_nil, List.set_cons_zero, List.set_cons_succ]
      simp only [List.drop_succ_cons, List.drop_zero]
      go_wp2_with (refine wpList_store_row rfl 26 _ _ rfl _ _ rfl rfl _ _ hr1 (by kernel_rfl) (by simpa using hr2) (arr8_one _ _) ?_)
      refine bodyPost_ret (results_cell_row rfl _ _ _ _ _ _ _ rfl hres Try.underlying26 rfl (by kernel_rfl)) rfl ?_
      rw [HB.out, ← HO.out]
      exact ⟨rfl, hb⟩
end Go.Proofs.Ytpkajfkdandhoaa
