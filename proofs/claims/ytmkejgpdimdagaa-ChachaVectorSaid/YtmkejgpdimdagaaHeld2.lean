import Derived.Test.YtmkejgpdimdagaaHeld
namespace Go.Proofs.Ytmkejgpdimdagaa
open Go.RowKit

section
variable {P : Program} {md : Region.Mode} {ops : Array Oper} {Q : Exit → Act → World → Prop} {S : World → Prop} {fuel : Nat} {listed : Array Bool} {a : Act} {w : World}

theorem held_slice (i : Nat) (t : TypeId) (x : Operand) (lo hi mx : Option Operand) (dst : Option Tmp) (vx : Value) (l h m : Option Value) (v : Value) (ho : ops[i]?.map (fun o => (o.op, o.dst, Region.wanted o (yielded ops a.tmps))) = some (.slice t x lo hi mx, dst, true))
    (hx : (a.eval x, lo.map a.eval, hi.map a.eval, mx.map a.eval) = (vx, l, h, m)) (he : ∀ w, (Instr.sliceAt t vx l h m).run P w = .ok v w)
    (hs : Region.noSelect ops = true) (hf : Region.free md ops listed i = true) (hr : (Region.ready md ops listed).contains i = true)
    (hQ : ∀ c a v d w, Q (.panic c) (a.put d v) w → Q (.panic c) a w) (hw : S w)
    (h : wpAnyH P md ops Q S fuel (listed.setIfInBounds i true) (a.put dst v) w) : wpAnyH P md ops Q S (fuel + 1) listed a w := by
  simp only [Prod.mk.injEq] at hx
  exact held_any i _ dst _ ho hs hf hr hQ hw (fun oo ho w hw => by
    unfold execOp
    simp [ho, hx.1, hx.2.1, hx.2.2.1, hx.2.2.2, he, Result.andThen]) h

theorem held_min (i : Nat) (x y : Operand) (ts : Array TypeId) (dst : Option Tmp) (n c r : Int) (ho : ops[i]?.map (fun o => (o.op, o.dst, Region.wanted o (yielded ops a.tmps))) = some (.call { callee := .builtin .min, args := #[x, y], argTypes := ts }, dst, true))
    (hx : (a.eval x, a.eval y) = (.int .i64 n, .int .i64 c)) (he : (if c < n then c else n) = r)
    (hs : Region.noSelect ops = true) (hf : Region.free md ops listed i = true) (hr : (Region.ready md ops listed).contains i = true)
    (hQ : ∀ c a v d w, Q (.panic c) (a.put d v) w → Q (.panic c) a w) (hw : S w)
    (h : wpAnyH P md ops Q S fuel (listed.setIfInBounds i true) (a.put dst (.int .i64 r)) w) : wpAnyH P md ops Q S (fuel + 1) listed a w := by
  simp only [Prod.mk.injEq] at hx
  exact held_any i _ dst _ ho hs hf hr hQ hw (fun oo ho w hw => by
    unfold execOp
    simp [ho, hx.1, hx.2, he, resolve, invoke, builtin, run_min_int2, Result.andThen]) h

theorem held_bin (i : Nat) (op : BinOp) (t : TypeId) (x y : Operand) (r : TypeId) (dst : Option Tmp) (vx vy v : Value) (ho : ops[i]?.map (fun o => (o.op, o.dst, Region.wanted o (yielded ops a.tmps))) = some (.binOp op t x y r, dst, true))
    (hx : (a.eval x, a.eval y) = (vx, vy)) (he : ∀ w, (do eqGuard op t x y vx vy; binOp op t vx vy : Sem Value).run P w = .ok v w)
    (hs : Region.noSelect ops = true) (hf : Region.free md ops listed i = true) (hr : (Region.ready md ops listed).contains i = true)
    (hQ : ∀ c a v d w, Q (.panic c) (a.put d v) w → Q (.panic c) a w) (hw : S w)
    (h : wpAnyH P md ops Q S fuel (listed.setIfInBounds i true) (a.put dst v) w) : wpAnyH P md ops Q S (fuel + 1) listed a w := by
  simp only [Prod.mk.injEq] at hx
  exact held_any i _ dst _ ho hs hf hr hQ hw (fun oo ho w hw => by
    have := he w
    unfold execOp
    simp only [ho, hx.1, hx.2]
    rw [Sem.run_bind, this]
    rfl) h

/-- a slice made: it comes up alone -/
theorem held_make (i : Nat) (t e : TypeId) (l c : Operand) (dst : Option Tmp) (n : Nat) (inf : TypeInfo) (z : Value) (ho : ops[i]?.map (fun o => (o.op, o.dst, Region.wanted o (yielded ops a.tmps))) = some (.makeSlice t l c, dst, true))
    (hx : (a.eval l, a.eval c) = (.int .i64 n, .int .i64 n)) (ht : P.underlying t = some (.slice e)) (hi : P.info? e = some inf) (hz : inf.zero = some z) (hsize : inf.size = 1) (hz1 : z.cells = #[z])
    (hbytes : inf.bytes * n ≤ 281474976710656) (h63 : n ≤ 9223372036854775807) (hr : Region.ready md ops listed = [i])
    (hS : S (w.alloc (.cells (madeCells #[z] n) e)))
    (h : S (w.alloc (.cells (madeCells #[z] n) e)) → wpAnyH P md ops Q S fuel (listed.setIfInBounds i true) (a.put dst (.slice (some ⟨w.heap.size, 0, none⟩) n n)) (w.alloc (.cells (madeCells #[z] n) e))) : wpAnyH P md ops Q S (fuel + 1) listed a w := by
  obtain ⟨oi, ho, he⟩ := Option.map_eq_some_iff.1 ho
  simp only [Prod.mk.injEq] at he hx
  refine wpAnyH_ready (rs := [i]) hr (by simp) ?_
  refine AllReadyH.cons ho (fun K hK => ?_) AllReadyH.nil
  rw [if_pos he.2.2]
  have hrun := run_make_row (P := P) t e inf z ht hi hz hsize hz1 .i64 .i64 n hbytes h63 w
  unfold Oper.wp
  simp [execOp, he.1, hx.1, hx.2, hrun, Result.andThen]
  rw [Oper.upon_value, he.2.1]
  exact hK.out _ _ hS h
end

theorem SlRead.take {w : World} {A : Option Addr} {xs : List Int} {k : IntKind} (h : SlRead w A (ints k xs)) (c : Nat) : SlRead w A (ints k (xs.take c)) := by
  intro hn
  obtain ⟨b, o, rfl, hlt, hcell⟩ := h (by simp at hn ⊢; omega)
  refine ⟨b, o, rfl, hlt, fun j u hu => ?_⟩
  refine hcell j u ?_
  rw [← hu]
  have hj : j < c := by
    have := (List.getElem?_eq_some_iff.1 hu).1
    simp at this; omega
  simp [ints, hj]

theorem xr_zero (key non : Nat → BitVec 8) (ct : BitVec 32) (n i : Nat) : xr key ct non (List.replicate n 0) i = n8 (blk key (ct + BitVec.ofNat 32 (i / 64)) non (i % 64)) := by
  unfold xr
  have e : (List.replicate n (0 : Int)).getD i 0 = 0 := by
    by_cases h : i < n <;> simp [List.getD, h]
  rw [e]
  have h1 := n8_lo (blk key (ct + BitVec.ofNat 32 (i / 64)) non (i % 64))
  rw [u8_xor 0 _ (by omega) (by omega) h1 (n8_hi _)]
  simp
  omega
end Go.Proofs.Ytmkejgpdimdagaa
