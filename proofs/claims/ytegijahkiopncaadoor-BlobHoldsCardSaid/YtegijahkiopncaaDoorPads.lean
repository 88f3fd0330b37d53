import Derived.Test.YtegijahkiopncaaDoorMeq
import Derived.Lib.SliceRun
import Derived.Laws.CopyOwn
namespace Go.Proofs.YtegijahkiopncaaDoor
open Go.RowKit

/-- an array's bytes as a list -/
def lst (n : Nat) (f : Nat → BitVec 8) : List (BitVec 8) := (List.range n).map f
@[simp] theorem lst_length (n : Nat) (f : Nat → BitVec 8) : (lst n f).length = n := by simp [lst]
theorem lst_get (n : Nat) (f : Nat → BitVec 8) (i : Nat) (h : i < n) : (lst n f)[i]? = some (f i) := by simp [lst, h]
theorem slread_row {w : World} {g : Nat} {t : TypeId} {n : Nat} {f : Nat → BitVec 8} (h : w.rowIs g t n (fun i => v8 (f i))) : SlRead w (some ⟨g, 0, none⟩) (ints .u8 (bys (lst n f))) := by
  intro _
  refine ⟨g, 0, rfl, h.lt, fun j u hj => ?_⟩
  rw [bys_ints] at hj
  have hjn : j < n := by
    have := (List.getElem?_eq_some_iff.1 hj).1
    simpa using this
  rw [Nat.zero_add, h.cell hjn, ← hj]
  simp [lst, hjn]

section
variable {P : Program} {t e : TypeId}
theorem sliceAt_all (n : Nat) (hu : P.underlying t = some (.array n e)) (hs : (P.info? e).map (·.size) = some 1) (b : Nat) (hn : 0 < n) (w : World) :
    (Instr.sliceAt t (.pointer (some ⟨b, 0, none⟩)) none none none).run P w = .ok (.slice (some ⟨b, 0, none⟩) n n) w := sliceAt_arr n hu hs b hn w
end

/-- the key as it is used: its digest where it is longer than a block -/
def keyOf (key : List (BitVec 8)) : List (BitVec 8) := if 64 < key.length then lst 32 (shaOf key) else key
theorem keyOf_len (key : List (BitVec 8)) : (keyOf key).length ≤ 64 := by
  unfold keyOf
  split
  · simp
  · omega
/-- both pads -/
def inP (key : List (BitVec 8)) (i : Nat) : BitVec 8 := (keyOf key).getD i 0#8 ^^^ 54#8
def outP (key : List (BitVec 8)) (i : Nat) : BitVec 8 := (keyOf key).getD i 0#8 ^^^ 92#8
def padTo (k : List (BitVec 8)) (x : BitVec 8) (m : Nat) (i : Nat) : BitVec 8 := if i < m then k.getD i 0#8 ^^^ x else k.getD i 0#8
theorem padTo_step (k : List (BitVec 8)) (x : BitVec 8) (m : Nat) (j : Nat) : (if j = m then v8 (k.getD m 0#8 ^^^ x) else v8 (padTo k x m j)) = v8 (padTo k x (m + 1) j) := by
  unfold padTo
  by_cases e : j = m
  · subst e; simp
  · rw [if_neg e]
    by_cases h : j < m
    · rw [if_pos h, if_pos (by omega)]
    · rw [if_neg h, if_neg (by omega)]

theorem rowIs_setCells {g : Nat} {t : TypeId} {n : Nat} : ∀ (xs : List (BitVec 8)) {w : World} {f : Nat → BitVec 8} (o : Nat), w.rowIs g t n (fun i => v8 (f i)) → (w.setCells g o (xs.map fun y => v8 y)).rowIs g t n (fun i => v8 (if o ≤ i ∧ i < o + xs.length then xs.getD (i - o) 0#8 else f i))
  | [], w, f, o, h => h.congr fun i _ => by rw [if_neg (by simp)]
  | x :: r, w, f, o, h => by
    have h1 : (w.setCell ⟨g, o, none⟩ (v8 x)).rowIs g t n (fun i => v8 (if i = o then x else f i)) := (h.set o (v8 x)).congr fun i _ => by split <;> rfl
    refine (rowIs_setCells r (o + 1) h1).congr fun i _ => ?_
    by_cases e : i = o
    · subst e
      have e1 : ¬ (i + 1 ≤ i ∧ i < i + 1 + r.length) := by omega
      have e2 : i ≤ i ∧ i < i + (x :: r).length := by simp
      rw [if_neg e1, if_pos rfl, if_pos e2]
      simp
    · by_cases e2 : o + 1 ≤ i ∧ i < o + 1 + r.length
      · have e3 : o ≤ i ∧ i < o + (x :: r).length := by simp; omega
        rw [if_pos e2, if_pos e3, show i - o = (i - (o + 1)) + 1 by omega]
        simp
      · have e3 : ¬ (o ≤ i ∧ i < o + (x :: r).length) := by simp; omega
        rw [if_neg e2, if_neg e3, if_neg e]
theorem wpList_copy_row {P : Program} {w : World} {ops : Array Oper} {rest : List Oper} {o : Oper} {a : Act} {Q : Exit → Act → World → Prop} (hgd : o.guard = none) (d s : Operand) (dT sT : TypeId)
    (ho : o.op = .call { callee := .builtin .copy, args := #[d, s], argTypes := #[dT, sT] }) (elem : TypeId) (hu : P.underlying dT = some (.slice elem)) (hsz : (P.info? elem).map (·.size) = some 1)
    (g n : Nat) (sp : Option Addr) (sLen sCap : Nat) (hd : a.eval d = .slice (some ⟨g, 0, none⟩) n n) (hs : a.eval s = .slice sp sLen sCap) (t : TypeId) (f : Nat → BitVec 8) (hr : w.rowIs g t n (fun i => v8 (f i)))
    (K : List (BitVec 8)) (hKl : K.length = sLen) (hn : sLen ≤ n) (hS : SlRead w sp (ints .u8 (bys K)))
    (h : ∀ W', W'.rowIs g t n (fun i => v8 (if i < K.length then K.getD i 0#8 else f i)) → Only g w W' → wpList P ops Q rest (a.put o.dst (goInt K.length)) W') : wpList P ops Q (o :: rest) a w := by
  by_cases h0 : K.length = 0
  · refine wpList_copy_nothing hgd d s dT sT ho elem hu hsz (some ⟨g, 0, none⟩) sp n n sLen sCap hd hs (by rw [← hKl, h0]; exact Nat.zero_min _) ?_
    have := h w (hr.congr fun i _ => by rw [if_neg (by omega)]) (Only.refl _ _)
    rwa [h0] at this
  · obtain ⟨b, o', rfl, _, hc⟩ := hS (by simp; omega)
    have hl : (K.map fun y => v8 y).length = K.length := by simp
    have h2 := h (w.setCells g 0 (K.map fun y => v8 y)) ((rowIs_setCells K 0 hr).congr fun i _ => by simp) (Only.setCells _ _ (Only.refl _ _))
    refine wpList_copy_cells hgd d s dT sT ho elem hu hsz g 0 n n ⟨b, o', none⟩ sLen sCap hd hs (K.map fun y => v8 y) (by rw [hl, hKl]; exact (Nat.min_eq_left hn).symm) ?_ ?_ ?_ ?_ (by rw [hl]; exact h2)
    · intro j v hv
      rw [add_eq]
      exact hc j v (by rw [bys_ints]; exact hv)
    · intro j hj
      rw [hl] at hj
      rw [Nat.zero_add]
      exact Option.isSome_of_eq_some (hr.cell (i := j) (by omega))
    · intro j _
      exact hr.frozen _
    · intro v hv
      obtain ⟨x, _, rfl⟩ := List.mem_map.1 hv
      rfl

section
variable {P : Program} {md : Region.Mode} {ops : Array Oper} {Q : Exit → Act → World → Prop} {S : World → Prop} {fuel : Nat} {listed : Array Bool} {a : Act} {w : World}
/-- one of the operations that are ready: a store -/
theorem rdy_store {rs : List Nat} (i : Nat) (ty : TypeId) (x y : Operand) (dst : Option Tmp) (vx vy : Value) (w2 : World)
    (hi : ops[i]?.map (fun o => (o.op, o.dst, Region.wanted o (yielded ops a.tmps))) = some (.store ty x y, dst, true))
    (hx : (a.eval x, a.eval y) = (vx, vy)) (hrun : (Instr.storeAt ty vx vy).run P w = .ok () w2) (hS : S w2)
    (h : S w2 → wpAnyH P md ops Q S fuel (listed.setIfInBounds i true) (a.put dst undef) w2) (rest : AllReadyH P md ops Q S fuel listed a w rs) : AllReadyH P md ops Q S fuel listed a w (i :: rs) := by
  obtain ⟨oi, ho, he⟩ := Option.map_eq_some_iff.1 hi
  simp only [Prod.mk.injEq] at he hx
  refine AllReadyH.cons ho (fun K hK => ?_) rest
  rw [if_pos he.2.2]
  unfold Oper.wp
  simp [execOp, he.1, hx.1, hx.2, hrun, Result.andThen]
  show K (a.put oi.dst undef) w2
  rw [he.2.1]
  exact hK.out _ _ hS h
end
/-- what lies there is laid there again -/
theorem row_again {P : Program} {w : World} {g : Nat} {t ty : TypeId} {n : Nat} {f : Nat → BitVec 8} (h : w.rowIs g t n (fun i => v8 (f i))) (hi : (P.info? ty).map (·.size) = some n) :
    (Instr.storeAt ty (.pointer (some ⟨g, 0, none⟩)) (.agg (arr8 n f))).run P w = .ok () (w.setCells g 0 ((lst n f).map fun y => v8 y)) ∧ (w.setCells g 0 ((lst n f).map fun y => v8 y)).rowIs g t n (fun i => v8 (f i)) ∧ Only g w (w.setCells g 0 ((lst n f).map fun y => v8 y)) := by
  have he : (arr8 n f).toList = (lst n f).map fun y => v8 y := by simp [arr8, lst]
  refine ⟨?_, ?_, Only.setCells _ _ (Only.refl _ _)⟩
  · have := run_storeAt_mid (P := P) w g 0 ty (arr8 n f) (fun j hj => ⟨by rw [Nat.zero_add]; exact Option.isSome_of_eq_some (h.cell (i := j) (by simpa using hj)), h.frozen _⟩) (by rw [hi]; simp) (arr8_one n f)
    rwa [he] at this
  · refine (rowIs_setCells (lst n f) 0 h).congr fun i hi => ?_
    rw [if_pos (by simp; omega)]
    simp [List.getD, lst_get n f i hi]

theorem results_two_rows {P : Program} {fn : Func} {p q : Tmp} {ty : TypeId} (h : fn.results = #[.cell p ty, .cell q ty]) (tmps : Array Value) (w : World) (g g' : Nat) (t t' : TypeId) (cs cs' : Array Value) (fr fr' : Nat × Nat) (d : TypeDesc)
    (hp : tmps.getD p undef = .pointer (some ⟨g, 0, none⟩)) (hg : w.heap[g]? = some (.cells cs t fr)) (hq : tmps.getD q undef = .pointer (some ⟨g', 0, none⟩)) (hg' : w.heap[g']? = some (.cells cs' t' fr'))
    (hu : P.underlying ty = some d) (hd : (match d with | .struct _ | .array _ _ => true | _ => false) = true) (hi : (P.info? ty).map (·.size) = some cs.size) (hi' : (P.info? ty).map (·.size) = some cs'.size) :
    (results fn tmps).run P w = .ok (.tuple #[.agg cs, .agg cs']) w := by
  have hp' : tmps[p]?.getD undef = .pointer (some ⟨g, 0, none⟩) := by simpa using hp
  have hq' : tmps[q]?.getD undef = .pointer (some ⟨g', 0, none⟩) := by simpa using hq
  simp [results, h, hp', hq', asAddr, run_loadVar_row w g t ty cs fr d hg hu hd hi, run_loadVar_row w g' t' ty cs' fr' d hg' hu hd hi']

end Go.Proofs.YtegijahkiopncaaDoor
