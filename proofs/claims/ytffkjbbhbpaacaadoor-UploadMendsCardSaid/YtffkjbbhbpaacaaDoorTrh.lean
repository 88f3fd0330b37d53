import Derived.Test.YtffkjbbhbpaacaaDoorErr
import Derived.Defers
import Derived.Recover
import Derived.PanicsStand
import Derived.Laws.NewBlocks
import Derived.Test.YtffkjbbhbpaacaaDoorIdx
/-
  trap: what is thrown, what is caught.
  trap.Try.
  courierlaw2: what comes first.
  courierlaw2: errors by their numbers; TrapCalls.
  An error with its place: what is thrown, what it is as plain data.
  Try, where what is called turns what was there.
-/
namespace Go.Proofs.YtffkjbbhbpaacaaDoor
open Go.RowKit

abbrev entry (v : Value) : PanicEntry := { v := v, recovered := false }

/-- Try's own two variables, where f has come to its end or has fallen: as they were made -/
structure Kept (B : Nat) (w' : World) : Prop where
  c0 : w'.cell? ⟨B, 0, none⟩ = some .nilIface
  f0 : w'.frozen? ⟨B, 0, none⟩ = false
  c1 : w'.cell? ⟨B + 1, 0, none⟩ = some (.bool false)
  f1 : w'.frozen? ⟨B + 1, 0, none⟩ = false
/-- the world in which f is called -/
def tried (w : World) : World := (w.alloc (.cells #[.nilIface] 80)).alloc (.cells #[.bool false] 4)

/-- where nothing was there that has turned: Try's own variables are as they were made -/
theorem Kept.below {w w' : World} (h : Below (w.heap.size + 2) (tried w) w') : Kept w.heap.size w' := by
  have hs : (tried w).heap.size = w.heap.size + 2 := by simp [tried]
  refine ⟨?_, ?_, ?_, ?_⟩
  · rw [h.cell (p := ⟨w.heap.size, 0, none⟩) (show w.heap.size < w.heap.size + 2 by omega)]; simp [tried, go_sem]
  · rw [h.frozen (p := ⟨w.heap.size, 0, none⟩) (show w.heap.size < w.heap.size + 2 by omega)]; simp [tried, go_sem]
  · rw [h.cell (p := ⟨w.heap.size + 1, 0, none⟩) (show w.heap.size + 1 < w.heap.size + 2 by omega)]; simp [tried, go_sem]
  · rw [h.frozen (p := ⟨w.heap.size + 1, 0, none⟩) (show w.heap.size + 1 < w.heap.size + 2 by omega)]; simp [tried, go_sem]
theorem tried_below (w : World) : Below w.heap.size w (tried w) := ((Below.refl _ _).alloc (Nat.le_refl _) _).alloc (by simp) _
def eidx (j : Nat) : Nat := [0, 1, 2, 3, 4, 5, 6, 8, 9, 13].getD j 0
def errL (E : Nat → Addr) : List Value := [errV (E 0), errV (E 1), errV (E 2), errV (E 3), errV (E 4), errV (E 5), errV (E 6), errV (E 8), errV (E 9), errV (E 13)]
def codL : List Value := [.int .i64 101, .int .i64 102, .int .i64 103, .int .i64 104, .int .i64 105, .int .i64 106, .int .i64 107, .int .i64 109, .int .i64 110, .int .i64 114]
theorem errL_get (E : Nat → Addr) (j : Nat) (h : j < 10) : (errL E)[j]? = some (errV (E (eidx j))) := by
  rcases j with _ | _ | _ | _ | _ | _ | _ | _ | _ | _ | j
  all_goals first | rfl | omega
theorem codL_get (j : Nat) (h : j < 10) : codL[j]? = some (.int .i64 (101 + (eidx j : Int))) := by
  rcases j with _ | _ | _ | _ | _ | _ | _ | _ | _ | _ | j
  all_goals first | rfl | omega
theorem eidx_lt (j : Nat) : eidx j < 19 := by
  unfold eidx
  rcases j with _ | _ | _ | _ | _ | _ | _ | _ | _ | _ | j
  all_goals simp
/-- what errs answers -/
def ErrsPost (E : Nat → Addr) (n : Int) (w : World) (e : Ending) (w' : World) : Prop := e = .returned (.tuple #[errV (E (eidx (n % 10).toNat)), .int .i64 (101 + (eidx (n % 10).toNat : Int))]) ∧ Below w.heap.size w w'

/-- what TrapCalls' closure sees: the list, the place, the error -/
structure CallAt (A : Option Addr) (n c bl bi be : Nat) (k : Nat) (x : Int) (ev : Value) (w : World) : Prop where
  l : w.cell? ⟨bl, 0, none⟩ = some (.slice A n c)
  i : w.cell? ⟨bi, 0, none⟩ = some (.int .i64 k)
  e : w.cell? ⟨be, 0, none⟩ = some ev
  x : ∃ b o, A = some ⟨b, o, none⟩ ∧ w.cell? ⟨b, o + k, none⟩ = some (.int .i64 x)
  k : k < n
theorem CallAt.below {A : Option Addr} {n c bl bi be k : Nat} {x : Int} {ev : Value} {w w' : World} (h : CallAt A n c bl bi be k x ev w) (hb : Below w.heap.size w w') : CallAt A n c bl bi be k x ev w' := by
  obtain ⟨b, o, h1, h2⟩ := h.x
  exact ⟨(World.cell?_of_block (hb.block _ (World.block_lt_of_cell? w _ h.l))).trans h.l, (World.cell?_of_block (hb.block _ (World.block_lt_of_cell? w _ h.i))).trans h.i, (World.cell?_of_block (hb.block _ (World.block_lt_of_cell? w _ h.e))).trans h.e, ⟨b, o, h1, (World.cell?_of_block (hb.block _ (World.block_lt_of_cell? w _ h2))).trans h2⟩, h.k⟩
abbrev atV (b : Nat) : Value := .iface 115 (.pointer (some ⟨b, 0, none⟩))
/-- an At as it lies -/
structure AtAt (b : Nat) (z : Int) (e : Value) (W : World) : Prop where
  p : W.cell? ⟨b, 0, none⟩ = some (.int .i64 z)
  e : W.cell? ⟨b, 1, none⟩ = some e
theorem AtAt.below {b : Nat} {z : Int} {e : Value} {W W' : World} (h : AtAt b z e W) (hb : Below W.heap.size W W') : AtAt b z e W' :=
  ⟨(World.cell?_of_block (hb.block _ (World.block_lt_of_cell? W _ h.p))).trans h.p, (World.cell?_of_block (hb.block _ (World.block_lt_of_cell? W _ h.e))).trans h.e⟩
theorem AtAt.new (W : World) (z : Int) (e : Value) : AtAt W.heap.size z e (W.alloc (.cells #[.int .i64 z, e] 118)) := ⟨by simp [go_sem], by simp [go_sem]⟩

theorem drB {w w' : World} (h : Below w.drew.heap.size w.drew w') : Below w.heap.size w w' := (Below.drewNr (w := w) 1).trans h
theorem placed_any (c z : Int) (w : World) (hc : c ≠ 0) : Calls Tryd.prog 69 #[.int .i64 c, .int .i64 z] w fun e w' => e = .returned (.agg (frow c true z)) ∧ Below w.heap.size w w' := by
  have hc0 : (c == 0) = false := by simpa using hc
  have hr := heap_alloc_new w (.cells #[.int .i64 0, .bool false, .int .i64 0] 64)
  have hb0 : Below w.heap.size w (w.alloc (.cells #[.int .i64 0, .bool false, .int .i64 0] 64)) := (Below.refl _ _).alloc (Nat.le_refl _) _
  go_enter Tryd.func69, Tryd.ntmps69
  go_wp2_with (refine wpList_store_row rfl 64 _ _ rfl _ (frow c true z) rfl rfl _ _ hr (by kernel_rfl) rfl (frow_one _ _ _) ?_)
  refine bodyPost_ret (results_cell_row rfl _ _ _ _ _ _ _ rfl (setRow_heap _ _ _ _ _ _ hr) Tryd.underlying64 rfl (by kernel_rfl)) rfl ?_
  exact ⟨rfl, below_setRow hb0 (Nat.le_refl _) _⟩

section
variable {P : Program} {ops : Array Oper} {l : List Sp} {a : Act} {w : World}
theorem owes_nil (i : Nat) (dst : Option Tmp) (anc : List Nat) (x : Operand) (p : Addr) (hop : ∀ v, ops[i]?.map (fun o => (o.op, Region.wanted o (yielded ops (fr l anc a v).tmps))) = some (.nilCheck x, true))
    (hx : ∀ v, (fr l anc a v).eval x = .pointer (some p)) : Owes P ops l a w (Sp.k i dst anc (.pointer (some p))) :=
  owes_pure i dst anc _ _ hop fun v w' _ _ o ho => by unfold execOp; simp only [ho, hx v]; rfl
theorem owes_field (i : Nat) (dst : Option Tmp) (anc : List Nat) (r : Value) (t : TypeId) (x : Operand) (k : Nat) (vx : Value) (hop : ∀ v, ops[i]?.map (fun o => (o.op, Region.wanted o (yielded ops (fr l anc a v).tmps))) = some (.fieldAddr t x k, true))
    (hx : ∀ v, (fr l anc a v).eval x = vx) (he : ∀ w, (Instr.fieldAt t vx k).run P w = .ok r w) : Owes P ops l a w (Sp.k i dst anc r) :=
  owes_pure i dst anc r _ hop fun v w' _ _ o ho => by unfold execOp; simp only [ho, hx v, Sem.run_bind, he w']; rfl
end
theorem load_er (a : Addr) (v : Value) (w : World) (h : w.cell? a = some v) : (Instr.loadAt 80 (.pointer (some a))).run Tryd.prog w = .ok v w := by
  have h2 := Tryd.underlying80
  go_simp
theorem load_it (a : Addr) (v : Value) (w : World) (h : w.cell? a = some v) : (Instr.loadAt 3 (.pointer (some a))).run Tryd.prog w = .ok v w := by
  have h2 := Tryd.underlying3
  go_simp

theorem assert_at (b : Nat) (w : World) : (Instr.typeAssert (atV b) 80 115 true).run Tryd.prog w = .ok (.tuple #[.pointer (some ⟨b, 0, none⟩), .bool true]) w := by kernel_rfl
structure SameT (w : World) (B : Nat) (r : Array Value) (W : World) : Prop where
  r : W.rangeAt B 0 r.toList
  lt : B < W.heap.size
  b : Below w.heap.size w W
theorem SameT.below {w : World} {B : Nat} {d : Array Value} {W W' : World} (x : SameT w B d W) (hb : Below W.heap.size W W') : SameT w B d W' :=
  ⟨rangeAt_below x.r hb x.lt, Nat.lt_of_lt_of_le x.lt hb.size, x.b.trans (hb.mono x.b.size)⟩
/-- all of the first n blocks but S are as they were -/
structure Oth (S n : Nat) (w w' : World) : Prop where
  os : w'.os = w.os
  tape : w'.tape = w.tape
  output : w'.output = w.output
  size : w.heap.size ≤ w'.heap.size
  block : ∀ q, q < n → q ≠ S → w'.heap[q]? = w.heap[q]?
theorem Oth.of {S n : Nat} {w w' : World} (h : Below n w w') : Oth S n w w' := ⟨h.os, h.tape, h.output, h.size, fun q hq _ => h.block q hq⟩
theorem Oth.trans {S n m : Nat} {a b c : World} (h : Oth S n a b) (k : Oth S m b c) (hn : n ≤ m) : Oth S n a c :=
  ⟨k.os.trans h.os, k.tape.trans h.tape, k.output.trans h.output, Nat.le_trans h.size k.size, fun q hq hs => (k.block q (by omega) hs).trans (h.block q hq hs)⟩
theorem Oth.setCell {S n : Nat} {a w : World} (h : Oth S n a w) (p : Addr) (hp : p.block = S ∨ n ≤ p.block) (v : Value) : Oth S n a (w.setCell p v) := by
  refine ⟨h.os, h.tape, h.output, by simpa [World.setCell] using h.size, fun q hq hs => ?_⟩
  rw [Below.heap_setCell _ _ _ _ (by rcases hp with hp | hp <;> omega)]
  exact h.block q hq hs
theorem Oth.below {S n B : Nat} {a w : World} (h : Oth S n a w) (hS : B ≤ S) (hn : B ≤ n) : Below B a w := ⟨h.os, h.tape, h.output, h.size, fun q hq => h.block q (by omega) (by omega)⟩
theorem Oth.cell {S n : Nat} {a w : World} (h : Oth S n a w) {q : Nat} (i : Nat) (h1 : q < n) (h2 : q ≠ S) : w.cell? ⟨q, i, none⟩ = a.cell? ⟨q, i, none⟩ := World.cell?_of_block (h.block q h1 h2)
theorem Oth.frozen {S n : Nat} {a w : World} (h : Oth S n a w) {q : Nat} (h1 : q < n) (h2 : q ≠ S) : w.frozen? ⟨q, 0, none⟩ = a.frozen? ⟨q, 0, none⟩ := by
  have := h.block q h1 h2
  simp only [World.frozen?, this]
theorem tried_size (w : World) : (tried w).heap.size = w.heap.size + 2 := by simp [tried]
theorem Kept.oth {S : Nat} {w w' : World} (hS : S < w.heap.size) (h : Oth S (w.heap.size + 2) (tried w) w') : Kept w.heap.size w' := by
  refine ⟨(h.cell 0 (by omega) (by omega)).trans ?_, (h.frozen (by omega) (by omega)).trans ?_, (h.cell 0 (by omega) (by omega)).trans ?_, (h.frozen (by omega) (by omega)).trans ?_⟩ <;> simp [tried, go_sem]

end Go.Proofs.YtffkjbbhbpaacaaDoor
