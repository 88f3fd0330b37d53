import Derived.Test.YtocjmlncpjfnfaaDoorSlB
import Derived.StillTailTactics
import Derived.Lib.SliceRun
import Derived.Laws.CopyOwn
/-
  Copies, cuts, lists of bytes.
-/
namespace Go.Proofs.YtocjmlncpjfnfaaDoor
open Go.RowKit

theorem wpList_copy_cells {P : Program} {w : World} {ops : Array Oper} {rest : List Oper} {o : Oper} {a : Act} {Q : Exit → Act → World → Prop} (hgd : o.guard = none) (d s : Operand) (dT sT : TypeId)
    (ho : o.op = .call { callee := .builtin .copy, args := #[d, s], argTypes := #[dT, sT] }) (elem : TypeId) (hu : P.underlying dT = some (.slice elem)) (hsz : (P.info? elem).map (·.size) = some 1)
    (g off dLen dCap : Nat) (ad : Addr) (sLen sCap : Nat) (hd : a.eval d = .slice (some ⟨g, off, none⟩) dLen dCap) (hs : a.eval s = .slice (some ad) sLen sCap)
    (cs : List Value) (hn : cs.length = Nat.min sLen dLen)
    (hsrc : ∀ j v, cs[j]? = some v → w.cell? (ad.add j) = some v) (hc : ∀ j, j < cs.length → (w.cell? ⟨g, off + j, none⟩).isSome = true) (hf : ∀ j, j < cs.length → w.frozen? ⟨g, off + j, none⟩ = false) (h1 : ∀ v ∈ cs, v.oneCell' = true)
    (h : wpList P ops Q rest (a.put o.dst (goInt cs.length)) (w.setCells g off cs)) : wpList P ops Q (o :: rest) a w := by
  refine wpList_plain hgd fun K hK => ?_
  have hrun := run_copy_cells (P := P) w dT sT o.type elem g off dLen dCap ad sLen sCap cs hu hsz hn hsrc hc hf h1
  unfold Oper.wp
  simp [execOp, ho, resolve, invoke, builtin, hd, hs, hrun, Result.andThen]
  exact hK _ _ h

/-- a slice's address behind a cut -/
def cutA (A : Option Addr) (l cap : Nat) : Option Addr := if cap = l then A else A.map (·.add l)
theorem slice_sl_l {P : Program} {t e : TypeId} (hu : P.underlying t = some (.slice e)) (hs : (P.info? e).map (·.size) = some 1) (A : Option Addr) (n cap l : Nat) (z : Int) (hz : z = l) (h1 : l ≤ n) (w : World) :
    (Instr.slice t (.slice A n cap) (some (.int .i64 z)) none none).run P w = .ok (.slice (cutA A l cap) (n - l) (cap - l)) w := by
  subst hz
  have e2 : P.elem t = e := by simp [Program.elem, hu]
  rw [run_slice_l (P := P) w t A n cap (by rw [e2]; exact hu) .i64 (l : Int) (by omega) (by omega), e2]
  obtain ⟨i, hi, hz⟩ := Option.map_eq_some_iff.1 hs
  simp [sizeOf, typeInfo, hi, hz, Result.andThen, sliced, cutA]
theorem cutA_some {l cap n b o : Nat} (h : l < n) (hc : n ≤ cap) : cutA (some ⟨b, o, none⟩) l cap = some ⟨b, o + l, none⟩ := by
  unfold cutA
  rw [if_neg (by omega)]
  simp [add_eq]

@[simp] theorem bys_length (ys : List (BitVec 8)) : (bys ys).length = ys.length := by simp [bys]
theorem bys_drop (ys : List (BitVec 8)) (n : Nat) : (bys ys).drop n = bys (ys.drop n) := by simp [bys, List.map_drop]
theorem bys_ints (ys : List (BitVec 8)) : ints .u8 (bys ys) = ys.map fun y => v8 y := by simp [ints, bys]

theorem Only.setCells {g : Nat} {w : World} : ∀ (vs : List Value) (o : Nat) {w' : World}, Only g w w' → Only g w (w'.setCells g o vs)
  | [], _, _, h => h
  | v :: r, o, _, h => Only.setCells r (o + 1) (h.setCell o v)
theorem Only.cell {g : Nat} {w w' : World} (h : Only g w w') {b o : Nat} (hb : b < w.heap.size) (hne : b ≠ g) : w'.cell? ⟨b, o, none⟩ = w.cell? ⟨b, o, none⟩ :=
  World.cell?_of_block (h.block b hb hne)

theorem SlRead.cut {w : World} {A : Option Addr} {xs : List Int} {k : IntKind} (h : SlRead w A (ints k xs)) (c : Nat) (A' : Option Addr) (hA : c < xs.length → ∀ b o, A = some ⟨b, o, none⟩ → A' = some ⟨b, o + c, none⟩) : SlRead w A' (ints k (xs.drop c)) := by
  intro hn
  have hc : c < xs.length := by simp at hn; omega
  obtain ⟨b, o, rfl, hlt, hcell⟩ := h (by simp; omega)
  refine ⟨b, o + c, hA hc b o rfl, hlt, fun j u hu => ?_⟩
  rw [Nat.add_assoc]
  refine hcell (c + j) u ?_
  rw [← hu]
  simp [ints, List.getElem?_drop]

/-- not in that block -/
def OffB (A : Option Addr) (hb : Nat) : Prop := ∀ b o, A = some ⟨b, o, none⟩ → b ≠ hb
theorem SlRead.only {g : Nat} {w w' : World} {A : Option Addr} {xs : List Value} (h : SlRead w A xs) (ho : OffB A g) (hb : Only g w w') : SlRead w' A xs := by
  intro hn
  obtain ⟨b, o, rfl, hlt, hc⟩ := h hn
  exact ⟨b, o, rfl, Nat.lt_of_lt_of_le hlt hb.size, fun j u hu => (hb.cell hlt (ho b o rfl)).trans (hc j u hu)⟩

/-- an array's bytes as a list -/
def lst (n : Nat) (f : Nat → BitVec 8) : List (BitVec 8) := (List.range n).map f
@[simp] theorem lst_length (n : Nat) (f : Nat → BitVec 8) : (lst n f).length = n := by simp [lst]
theorem lst_get (n : Nat) (f : Nat → BitVec 8) (i : Nat) (h : i < n) : (lst n f)[i]? = some (f i) := by simp [lst, h]
theorem slread_row {w : World} {g : Nat} {t : TypeId} {n : Nat} {f : Nat → BitVec 8} (h : w.rowIs g t n (fun i => v8 (f i))) : SlRead w (some ⟨g, 0, none⟩) (ints .u8 (bys (lst n f))) := by
  intro _
  refine ⟨g, 0, rfl, h.lt, fun j u hj => ?_⟩
  rw [bys_ints] at hj
  have hjn : j < n := by
    have := (List.getElem?_eq_some_iff.1 hj).1
    simpa using this
  rw [Nat.zero_add, h.cell hjn, ← hj]
  simp [lst, hjn]

theorem rowIs_setCells {g : Nat} {t : TypeId} {n : Nat} : ∀ (xs : List (BitVec 8)) {w : World} {f : Nat → BitVec 8} (o : Nat), w.rowIs g t n (fun i => v8 (f i)) → (w.setCells g o (xs.map fun y => v8 y)).rowIs g t n (fun i => v8 (if o ≤ i ∧ i < o + xs.length then xs.getD (i - o) 0#8 else f i))
  | [], w, f, o, h => h.congr fun i _ => by rw [if_neg (by simp)]
  | x :: r, w, f, o, h => by
    have h1 : (w.setCell ⟨g, o, none⟩ (v8 x)).rowIs g t n (fun i => v8 (if i = o then x else f i)) := (h.set o (v8 x)).congr fun i _ => by split <;> rfl
    refine (rowIs_setCells r (o + 1) h1).congr fun i _ => ?_
    by_cases e : i = o
    · subst e
      have e1 : ¬ (i + 1 ≤ i ∧ i < i + 1 + r.length) := by omega
      have e2 : i ≤ i ∧ i < i + (x :: r).length := by simp
      rw [if_neg e1, if_pos rfl, if_pos e2]
      simp
    · by_cases e2 : o + 1 ≤ i ∧ i < o + 1 + r.length
      · have e3 : o ≤ i ∧ i < o + (x :: r).length := by simp; omega
        rw [if_pos e2, if_pos e3, show i - o = (i - (o + 1)) + 1 by omega]
        simp
      · have e3 : ¬ (o ≤ i ∧ i < o + (x :: r).length) := by simp; omega
        rw [if_neg e2, if_neg e3, if_neg e]
theorem wpList_copy_row {P : Program} {w : World} {ops : Array Oper} {rest : List Oper} {o : Oper} {a : Act} {Q : Exit → Act → World → Prop} (hgd : o.guard = none) (d s : Operand) (dT sT : TypeId)
    (ho : o.op = .call { callee := .builtin .copy, args := #[d, s], argTypes := #[dT, sT] }) (elem : TypeId) (hu : P.underlying dT = some (.slice elem)) (hsz : (P.info? elem).map (·.size) = some 1)
    (g n : Nat) (sp : Option Addr) (sLen sCap : Nat) (hd : a.eval d = .slice (some ⟨g, 0, none⟩) n n) (hs : a.eval s = .slice sp sLen sCap) (t : TypeId) (f : Nat → BitVec 8) (hr : w.rowIs g t n (fun i => v8 (f i)))
    (K : List (BitVec 8)) (hKl : K.length = sLen) (hn : sLen ≤ n) (hS : SlRead w sp (ints .u8 (bys K)))
    (h : ∀ W', W'.rowIs g t n (fun i => v8 (if i < K.length then K.getD i 0#8 else f i)) → Only g w W' → wpList P ops Q rest (a.put o.dst (goInt K.length)) W') : wpList P ops Q (o :: rest) a w := by
  by_cases h0 : K.length = 0
  · refine wpList_copy_nothing hgd d s dT sT ho elem hu hsz (some ⟨g, 0, none⟩) sp n n sLen sCap hd hs (by rw [← hKl, h0]; exact Nat.zero_min _) ?_
    have := h w (hr.congr fun i _ => by rw [if_neg (by omega)]) (Only.refl _ _)
    rwa [h0] at this
  · obtain ⟨b, o', rfl, _, hc⟩ := hS (by simp; omega)
    have hl : (K.map fun y => v8 y).length = K.length := by simp
    have h2 := h (w.setCells g 0 (K.map fun y => v8 y)) ((rowIs_setCells K 0 hr).congr fun i _ => by simp) (Only.setCells _ _ (Only.refl _ _))
    refine wpList_copy_cells hgd d s dT sT ho elem hu hsz g 0 n n ⟨b, o', none⟩ sLen sCap hd hs (K.map fun y => v8 y) (by rw [hl, hKl]; exact (Nat.min_eq_left hn).symm) ?_ ?_ ?_ ?_ (by rw [hl]; exact h2)
    · intro j v hv
      rw [add_eq]
      exact hc j v (by rw [bys_ints]; exact hv)
    · intro j hj
      rw [hl] at hj
      rw [Nat.zero_add]
      exact Option.isSome_of_eq_some (hr.cell (i := j) (by omega))
    · intro j _
      exact hr.frozen _
    · intro v hv
      obtain ⟨x, _, rfl⟩ := List.mem_map.1 hv
      rfl

section
variable {P : Program} {t e : TypeId}
theorem sliceAt_all (n : Nat) (hu : P.underlying t = some (.array n e)) (hs : (P.info? e).map (·.size) = some 1) (b : Nat) (hn : 0 < n) (w : World) :
    (Instr.sliceAt t (.pointer (some ⟨b, 0, none⟩)) none none none).run P w = .ok (.slice (some ⟨b, 0, none⟩) n n) w := sliceAt_arr n hu hs b hn w
end
theorem wpList_build {P : Program} {w : World} {ops : Array Oper} {rest : List Oper} {o : Oper} {a : Act} {Q : Exit → Act → World → Prop} (hgd : o.guard = none) (t : TypeId) (parts : Array (Nat × Operand)) (ho : o.op = .build t parts)
    (ps : Array (Nat × Value)) (hp : (parts.map fun (i, x) => (i, a.eval x)) = ps) (v : Value)
    (hz : ∀ w, (Instr.build t ps).run P w = .ok v w) (h : wpList P ops Q rest (a.put o.dst v) w) : wpList P ops Q (o :: rest) a w := by
  refine wpList_plain hgd fun K hK => ?_
  unfold Oper.wp execOp
  simp only [ho]
  simp [hp, hz, Result.andThen]
  exact hK _ _ h

theorem wpList_alloc_z {P : Program} {w : World} {ops : Array Oper} {rest : List Oper} {o : Oper} {a : Act} {Q : Exit → Act → World → Prop} (hgd : o.guard = none) (t : TypeId) (ho : o.op = .alloc t) (z : Array Value)
    (hz : ∀ w, (zeroValue t).run P w = .ok (.agg z) w) (h : wpList P ops Q rest (a.put o.dst (.pointer (some ⟨w.heap.size, 0, none⟩))) (w.alloc (.cells z t))) : wpList P ops Q (o :: rest) a w := by
  refine wpList_plain hgd fun K hK => ?_
  unfold Oper.wp execOp
  simp [ho, Instr.alloc, hz, newVar, newRow, Value.cells, Result.andThen]
  exact hK _ _ h

theorem wpStill_sliceAt {P : Program} {ops : Array Oper} {rest : List Oper} {o : Oper} {a : Act} {w : World} {Q : Act → Prop} (hgd : o.guard = none) (t : TypeId) (x : Operand) (lo hi mx : Option Operand) (ho : o.op = .slice t x lo hi mx)
    (va : Value) (vl vh vm : Option Value) (r : Value) (hx : (a.eval x, lo.map a.eval, hi.map a.eval, mx.map a.eval) = (va, vl, vh, vm)) (hr : (Instr.sliceAt t va vl vh vm).run P w = .ok r w)
    (h : wpStill P ops w Q rest (a.put o.dst r)) : wpStill P ops w Q (o :: rest) a := by
  simp only [Prod.mk.injEq] at hx
  refine wpStill_step fun K hK => ?_
  simp only [Region.wanted, hgd, if_true]
  unfold Oper.still execOp
  simp only [ho, hx.1, hx.2.1, hx.2.2.1, hx.2.2.2, Sem.run_bind, Sem.run_pure, hr, Result.andThen_ok]
  exact ⟨rfl, hK _ h⟩
theorem SlRead.byte {w : World} {A : Option Addr} {xs : List (BitVec 8)} (h : SlRead w A (ints .u8 (bys xs))) {j : Nat} (hj : j < xs.length) :
    ∃ b o, A = some ⟨b, o, none⟩ ∧ w.cell? ⟨b, o + j, none⟩ = some (v8 xs[j]) := by
  obtain ⟨b, o, rfl, _, hc⟩ := h (by simp; omega)
  exact ⟨b, o, rfl, hc j _ (by rw [bys_ints]; simp [hj])⟩

theorem slice_sl_lh {P : Program} {t e : TypeId} (hu : P.underlying t = some (.slice e)) (hs : (P.info? e).map (·.size) = some 1) (b o n cap l m : Nat) (hm : l + m ≤ n) (hc : n ≤ cap) (h0 : l < n) (w : World) :
    (Instr.slice t (.slice (some ⟨b, o, none⟩) n cap) (some (.int .i64 (l : Int))) (some (.int .i64 ((l : Int) + m))) none).run P w = .ok (.slice (some ⟨b, o + l, none⟩) m (cap - l)) w := by
  have e2 : P.elem t = e := by simp [Program.elem, hu]
  rw [run_slice_lh (P := P) w t (some ⟨b, o, none⟩) n cap (by rw [e2]; exact hu) .i64 .i64 (l : Int) ((l : Int) + m) (by omega) (by omega) (by omega), e2]
  obtain ⟨i, hi, hz⟩ := Option.map_eq_some_iff.1 hs
  have h1 : ((l : Int) + m).toNat = l + m := by omega
  have h2 : ¬ cap = l := by omega
  have h3 : l + m - l = m := by omega
  simp [sizeOf, typeInfo, hi, hz, Result.andThen, sliced, h1, h2, h3, add_eq]

end Go.Proofs.YtocjmlncpjfnfaaDoor
