/-
  XRsp's laws with the frame behind the region as a variable: for the region that a function ends with.
-/
import Derived.Test.YtccchhfcoicgcaaDoorRso
namespace Go.Proofs.YtccchhfcoicgcaaDoor
open Go.RowKit
section
variable {P : Program} {ops : Array Oper} {Q : Exit → Act → World → Prop}
theorem wp_region_spec_v {id : Nat} {a : Act} {w : World} (l : List Sp) (hm : P.follows .mixedOrders = true) (hf : fitsB .any ops ops.size l = true)
    (howe : AllSp (Owes P ops l a w.drew) l)
    (h : ∀ (v : Nat → Value) (w' : World) (A : Act), A = putsK v l a → Below w.drew.heap.size w.drew w' → AllSp (fun s => s.hold (v s.i) w') l → Q .normal A w') : (Code.region id ops true).wp P Q a w :=
  wp_region_spec l hm hf howe fun v w' hb hall => h v w' _ rfl hb hall
theorem wp_region_text_v {id : Nat} {a : Act} {w : World} (l : List Sp) (hf : fitsB .any ops ops.size l = true)
    (howe : AllSp (Owes P ops l a w) l)
    (h : ∀ (v : Nat → Value) (w' : World) (A : Act), A = putsK v l a → Below w.heap.size w w' → AllSp (fun s => s.hold (v s.i) w') l → Q .normal A w') : (Code.region id ops false).wp P Q a w :=
  wp_region_text l hf howe fun v w' hb hall => h v w' _ rfl hb hall
theorem ret_slot {fn : Func} {R : Ending → World → Prop} {a : Act} {w : World} {v : Value} (t : Tmp) (hr : fn.results = #[.tmp t]) (hv : a.tmps.getD t undef = v) (hd : a.defers = []) (h : R (.returned v) w) : bodyPost P fn R .ret a w :=
  bodyPost_ret (v := v) (by rw [results_tmp hr, hv]) hd h
end
end Go.Proofs.YtccchhfcoicgcaaDoor
