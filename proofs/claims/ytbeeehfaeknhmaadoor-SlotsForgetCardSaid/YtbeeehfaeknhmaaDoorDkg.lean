import Derived.Test.YtbeeehfaeknhmaaDoorDkf
import Derived.Test.YtbeeehfaeknhmaaDoorHo
/-
  disk: what Write wants.
-/
namespace Go.Proofs.YtbeeehfaeknhmaaDoor
open Go.RowKit

def mkC (f : Nat → UInt8) : List UInt8 := (List.range 128).map f
theorem ofC (d : List UInt8) (h : d.length = 128) : d = mkC (fun i => d.getD i 0) := by
  apply List.ext_getElem
  · simp [mkC, h]
  · intro i h1 h2
    simp [mkC, h1]
theorem bsl_f (f : Nat → UInt8) (w : World) : (Instr.buildSlice 91 1 #[(0, .agg (bcells (mkC f)).toArray)]).run Tryd.prog w = .ok (.slice (some ⟨w.heap.size, 0, none⟩) 1 1) (w.alloc (.cells (bcells (mkC f)).toArray 90)) := by kernel_rfl
theorem bsl_C (d : List UInt8) (hd : d.length = 128) (w : World) : (Instr.buildSlice 91 1 #[(0, .agg (bcells d).toArray)]).run Tryd.prog w = .ok (.slice (some ⟨w.heap.size, 0, none⟩) 1 1) (w.alloc (.cells (bcells d).toArray 90)) := by
  rw [ofC d hd]
  exact bsl_f _ w
theorem arr_C (b o c : Nat) (w : World) : (Instr.arrayAt 90 (.slice (some ⟨b, o, none⟩) 128 c)).run Tryd.prog w = .ok (.pointer (some ⟨b, o, none⟩)) w := by
  have h2 := Tryd.underlying90
  simp [Instr.arrayAt, underlying, h2]
section
variable {P : Program} {o : Oper} {a : Act} {w : World}
theorem exec_arr {t : TypeId} {x : Operand} {vx v : Value} (ho : o.op = .sliceToArrayPointer t x) (hx : a.eval x = vx) (he : (Instr.arrayAt t vx).run P w = .ok v w) : (execOp a.eval o).run P w = .ok (.value v) w := by
  simp [execOp, ho, hx, he, Result.andThen]
end
theorem info_C2 : (Tryd.prog.info? 90).map (fun i => (i.size, i.bytes)) = some (128, 128) := by kernel_rfl
theorem zero_infoC (i : TypeInfo) (h : Tryd.prog.info? 90 = some i) : i.zero = some (.agg (bcells zc).toArray) := by
  have : (Tryd.prog.info? 90).bind (·.zero) = some (.agg (bcells zc).toArray) := by
    rw [zc_cells]
    kernel_rfl
  rw [h] at this
  exact this
/-- what Write turns in a sector's row -/
theorem run_app_C (ty : TypeId) (W : World) (base : Nat) (v : Value) (ps : List (List UInt8)) (k : Nat) (hk : ps.length = k) (hown : W.ownsRow base 90 128 v k (conts ps)) (B : List UInt8) (hB : B.length = 128) (a : Addr) (c : Nat)
    (hnews : ∀ j u, (bcells B)[j]? = some u → W.cell? (a.add j) = some u) (hn : k ≤ 2000) (hbase : base ≤ W.heap.size) :
    ∃ v' w', (Builtin.append_ #[91, 91] ty #[v, .slice (some a) 1 c]).run Tryd.prog W = .ok v' w' ∧ w'.ownsRow base 90 128 v' (ps ++ [B]).length (conts (ps ++ [B])) ∧ W.grownBy w' v.ownBlock ∧ (∀ q, v'.ownBlock = some q → v.ownBlock = some q ∨ W.heap.size ≤ q) := by
  obtain ⟨i, hi, hz⟩ := Option.map_eq_some_iff.1 info_C2
  simp only [Prod.mk.injEq] at hz
  obtain ⟨v', w', h1, h2, h3, _, h4⟩ := run_append_own2 (P := Tryd.prog) W base 91 ty 90 i (.agg (bcells zc).toArray) 128 128 Tryd.underlying91 hi (zero_infoC i hi) hz.1 hz.2 (by show (bcells zc).toArray.size = 128; simp [bcells_len, zc_len]) (by omega) v k (conts ps) hown a 1 c (bcells B) (by rw [bcells_len, hB]) hnews (bcells_one B) (by unfold maxLen; omega) (by omega) hbase
  refine ⟨v', w', h1, ?_, h3, h4⟩
  rw [conts_app, List.length_append, hk, show conts [B] = bcells B by simp [conts]]
  exact h2
theorem own_shapeC {w : World} {base n : Nat} {v : Value} {xs : List Value} (h : w.ownsRow base 90 128 v n xs) : ∃ A c, v = .slice A n c := by
  rcases h.2 with ⟨rfl, rfl⟩ | ⟨g, c, _, rfl, _⟩
  · exact ⟨none, 0, rfl⟩
  · exact ⟨_, c, rfl⟩
section
variable {w : World} {n D R : Nat} {ss : List Sec} {off : Bool} {fuse : Int} {pv : Nat → Value}
/-- what Write's region reads -/
def WrS (D R o len gb ob : Nat) (v : Value) (B : List UInt8) (w : World) : Prop := w.cell? ⟨D, 0, none⟩ = some (.slice (some ⟨R, 0, none⟩) len len) ∧ w.cell? ⟨R, o, none⟩ = some v ∧ w.rangeAt gb ob (bcells B)
theorem WrS.alc {D R o len gb ob : Nat} {v : Value} {B : List UInt8} {w : World} (h : WrS D R o len gb ob v B w) (hB : B.length = 128) (x : Obj) : WrS D R o len gb ob v B (w.alloc x) :=
  ⟨((below_alc w x).cell (p := ⟨D, 0, none⟩) (cell_lt h.1)).trans h.1, ((below_alc w x).cell (p := ⟨R, o, none⟩) (cell_lt h.2.1)).trans h.2.1, range_b h.2.2 (below_alc w x) (range_lt h.2.2 (by rw [bcells_len]; omega))⟩
/-- written -/
theorem DkS.wrote (h : DkS w n D R ss off fuse pv) (i : Nat) (s : Sec) (hs : ss[i]? = some s) (B : List UInt8) (hB : B.length = 128) {w3 : World} {v3 : Value}
    (hg : w.grownBy w3 (pv i).ownBlock) (ho : w3.ownsRow n 90 128 v3 (s.pend ++ [B]).length (conts (s.pend ++ [B]))) (hk : ∀ q, v3.ownBlock = some q → (pv i).ownBlock = some q ∨ w.heap.size ≤ q) :
    DkS (w3.setCell ⟨R, i * 129 + 128, none⟩ v3) n D R (ss.set i ⟨s.dur, s.pend ++ [B], s.hd, by intro p hp; rcases List.mem_append.1 hp with h1 | h1; exact s.hp p h1; rw [List.mem_singleton.1 h1]; exact hB⟩) off fuse (pvSet pv i v3)
      ∧ Turn (fun k => k = R ∨ (pv i).ownBlock = some k) w (w3.setCell ⟨R, i * 129 + 128, none⟩ v3) := by
  have hi := (List.getElem?_eq_some_iff.1 hs).1
  have hRn : (pv i).ownBlock ≠ some R := fun e => (h.sep i hi R e).2.1 rfl
  have hRb : w3.heap[R]? = w.heap[R]? := hg.block R h.ltR (fun e => hRn e.symm)
  have hv3R : v3.ownBlock ≠ some R := fun e => by
    rcases hk R e with h1 | h1
    · exact hRn h1
    · have := h.ltR; omega
  have hblk : ∀ k, k ≠ R → k < w.heap.size → (pv i).ownBlock ≠ some k → (w3.setCell ⟨R, i * 129 + 128, none⟩ v3).heap[k]? = w.heap[k]? := fun k hk hks hne =>
    (Below.heap_setCell _ _ _ _ hk).trans (hg.block k hks (fun e => hne e.symm))
  have hoth : ∀ o, o ≠ i * 129 + 128 → (w3.setCell ⟨R, i * 129 + 128, none⟩ v3).cell? ⟨R, o, none⟩ = w.cell? ⟨R, o, none⟩ := fun o ho => by
    rw [World.cell?_setCell_other _ _ _ _ (by intro e; have e2 := congrArg Addr.off e; simp only at e2; omega)]
    exact World.cell?_of_block hRb
  refine ⟨h.sec i s _ hs _ (fun o ho => hoth o (by omega)) (fun o => ?_) (fun j u hu => ?_) ?_ ?_ hblk hk, ?_⟩
  · rw [frozen_setCell]
    exact (World.frozen?_of_block hRb).trans (h.frz o).2
  · have hj := (List.getElem?_eq_some_iff.1 hu).1
    rw [bcells_len, s.hd] at hj
    exact (hoth _ (by omega)).trans (h.dur i s hs j u hu)
  · exact World.cell?_setCell_same _ _ _ (u := pv i) ((World.cell?_of_block hRb).trans (h.pnd i s hs))
  · exact own_kept ho fun k hk2 => Below.heap_setCell _ _ _ _ (fun e => hv3R (by rw [hk2]; exact congrArg some e))
  · exact (Turn.of_grown (F := fun k => k = R ∨ (pv i).ownBlock = some k) hg (fun k hk => .inr hk)).trans (Turn.of_grown (grown_setCell w3 _ _) (F := (· = R)) (fun k hk => (Option.some.inj hk).symm)) (fun q hq => .inl (.inl hq))
end
end Go.Proofs.YtbeeehfaeknhmaaDoor
