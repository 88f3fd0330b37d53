import Derived.Test.YtocjmlncpjfnfaaDoorTrc
import Derived.Test.YtocjmlncpjfnfaaDoorIdx
/-
  courierlaw2: errors by their numbers; TrapCalls.
-/
namespace Go.Proofs.YtocjmlncpjfnfaaDoor
open Go.RowKit

def eidx (j : Nat) : Nat := [0, 1, 2, 3, 4, 5, 6, 8, 9, 13].getD j 0
def errL (E : Nat → Addr) : List Value := [errV (E 0), errV (E 1), errV (E 2), errV (E 3), errV (E 4), errV (E 5), errV (E 6), errV (E 8), errV (E 9), errV (E 13)]
def codL : List Value := [.int .i64 101, .int .i64 102, .int .i64 103, .int .i64 104, .int .i64 105, .int .i64 106, .int .i64 107, .int .i64 109, .int .i64 110, .int .i64 114]
theorem errL_get (E : Nat → Addr) (j : Nat) (h : j < 10) : (errL E)[j]? = some (errV (E (eidx j))) := by
  rcases j with _ | _ | _ | _ | _ | _ | _ | _ | _ | _ | j
  all_goals first | rfl | omega
theorem codL_get (j : Nat) (h : j < 10) : codL[j]? = some (.int .i64 (101 + (eidx j : Int))) := by
  rcases j with _ | _ | _ | _ | _ | _ | _ | _ | _ | _ | j
  all_goals first | rfl | omega
theorem eidx_lt (j : Nat) : eidx j < 19 := by
  unfold eidx
  rcases j with _ | _ | _ | _ | _ | _ | _ | _ | _ | _ | j
  all_goals simp
/-- what errs answers -/
def ErrsPost (E : Nat → Addr) (n : Int) (w : World) (e : Ending) (w' : World) : Prop := e = .returned (.tuple #[errV (E (eidx (n % 10).toNat)), .int .i64 (101 + (eidx (n % 10).toNat : Int))]) ∧ Below w.heap.size w w'

/-- what TrapCalls' closure sees: the list, the place, the error -/
structure CallAt (A : Option Addr) (n c bl bi be : Nat) (k : Nat) (x : Int) (ev : Value) (w : World) : Prop where
  l : w.cell? ⟨bl, 0, none⟩ = some (.slice A n c)
  i : w.cell? ⟨bi, 0, none⟩ = some (.int .i64 k)
  e : w.cell? ⟨be, 0, none⟩ = some ev
  x : ∃ b o, A = some ⟨b, o, none⟩ ∧ w.cell? ⟨b, o + k, none⟩ = some (.int .i64 x)
  k : k < n
theorem CallAt.below {A : Option Addr} {n c bl bi be k : Nat} {x : Int} {ev : Value} {w w' : World} (h : CallAt A n c bl bi be k x ev w) (hb : Below w.heap.size w w') : CallAt A n c bl bi be k x ev w' := by
  obtain ⟨b, o, h1, h2⟩ := h.x
  exact ⟨(World.cell?_of_block (hb.block _ (World.block_lt_of_cell? w _ h.l))).trans h.l, (World.cell?_of_block (hb.block _ (World.block_lt_of_cell? w _ h.i))).trans h.i, (World.cell?_of_block (hb.block _ (World.block_lt_of_cell? w _ h.e))).trans h.e, ⟨b, o, h1, (World.cell?_of_block (hb.block _ (World.block_lt_of_cell? w _ h2))).trans h2⟩, h.k⟩
end Go.Proofs.YtocjmlncpjfnfaaDoor
