import Derived.Test.YtocjmlncpjfnfaaDoorShl
import Derived.Stop.BytesEq
namespace Go.Proofs.YtocjmlncpjfnfaaDoor
open Go.RowKit

theorem arr8_cells (n : Nat) (f : Nat → BitVec 8) : arr8 n f = (((List.range n).map fun i => UInt8.ofBitVec (f i)).map Extern.Stop.cell).toArray := by
  unfold arr8
  rw [List.map_map]
  congr 1
theorem size_u8 (w : World) : (sizeOf 5).run Tryd.prog w = .ok 1 w := by
  obtain ⟨i, hi, hz⟩ := Option.map_eq_some_iff.1 (show (Tryd.prog.info? 5).map (·.size) = some 1 by kernel_rfl)
  simp [sizeOf, typeInfo, hi, hz, Result.andThen]
theorem equal32 (f : Nat → BitVec 8) (w : World) : (Op.equalIn 10000 23 (.agg (arr8 32 f)) (.agg (arr8 32 f))).run Tryd.prog w = .ok true w := by
  rw [arr8_cells, run_equalIn_bytes w 9998 23 5 32 Tryd.underlying23 Tryd.underlying5 size_u8 _ _ (by simp) (by simp)]
  simp
theorem wpList_eql_row {P : Program} {ops : Array Oper} {rest : List Oper} {o : Oper} {a : Act} {w : World} {Q : Exit → Act → World → Prop} (hw : Region.wanted o (yielded ops a.tmps) = true) (t t2 : TypeId) (x y : Operand) (ho : o.op = .binOp .eql t x y t2)
    (cx cy : Array Value) (hx : a.eval x = .agg cx) (hy : a.eval y = .agg cy) (b : Bool) (hgd : P.eqGuardType P.depth t = false) (he : ∀ w, (Op.equalIn 10000 t (.agg cx) (.agg cy)).run P w = .ok b w)
    (h : wpList P ops Q rest (a.put o.dst (.bool b)) w) : wpList P ops Q (o :: rest) a w :=
  BigFrame.wpList_want hw fun _ hK => by
    unfold Oper.wp execOp
    simp [ho, hx, hy, eqGuard, hgd, run_eql_struct, he, Result.andThen]
    exact hK _ _ h
theorem wpList_load_row_g {P : Program} {ops : Array Oper} {rest : List Oper} {o : Oper} {a : Act} {w : World} {Q : Exit → Act → World → Prop} (hw : Region.wanted o (yielded ops a.tmps) = true) (ty : TypeId) (x : Operand) (ho : o.op = .load ty x)
    (g : Nat) (hx : a.eval x = .pointer (some ⟨g, 0, none⟩)) (t : TypeId) (cs : Array Value) (fr : Nat × Nat) (d : TypeDesc) (hg : w.heap[g]? = some (.cells cs t fr))
    (hu : P.underlying ty = some d) (hd : (match d with | .struct _ | .array _ _ => true | _ => false) = true) (hi : (P.info? ty).map (·.size) = some cs.size)
    (h : wpList P ops Q rest (a.put o.dst (.agg cs)) w) : wpList P ops Q (o :: rest) a w :=
  BigFrame.wpList_want hw fun _ hK => wp_load_row ty x ho g hx t cs fr d hg hu hd hi (hK _ _ h)
/-- two rows of bytes, the same in each place -/
theorem equal32_of (f g : Nat → BitVec 8) (h : f = g) (w : World) : (Op.equalIn 10000 23 (.agg (arr8 32 f)) (.agg (arr8 32 g))).run Tryd.prog w = .ok true w := by
  subst h; exact equal32 f w
end Go.Proofs.YtocjmlncpjfnfaaDoor
