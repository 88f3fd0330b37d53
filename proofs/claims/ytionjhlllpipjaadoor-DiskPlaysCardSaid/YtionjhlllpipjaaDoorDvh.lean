import Derived.Test.YtionjhlllpipjaaDoorDvg
/-
  DiskPlays: the code's disk beside the document's.
-/
namespace Go.Proofs.YtionjhlllpipjaaDoor
open Go.RowKit

/-- both disks hold the same -/
structure BothS (w0 W : World) (D R X T cT : Nat) (ss : List Sec) (pv : Nat → Value) (off : Bool) (fuse : Int) (i : Nat) : Prop where
  d : DkS W w0.heap.size D R ss off fuse pv
  x : DdS W w0.heap.size X T cT (fun q => q ≠ X ∧ q ≠ T ∧ ¬ DFoot D R ss pv q) (allS ss) fuse off
  b : Below w0.heap.size w0 W
  nX : ¬ DFoot D R ss pv X
  nT : ¬ DFoot D R ss pv T
  pl : ∀ s ∈ ss, s.pend.length ≤ i
/-- where the document's blocks may be between the code's method and the document's -/
def MidP (D R X T : Nat) (ss ss' : List Sec) (pv pv' : Nat → Value) (q : Nat) : Prop := q ≠ X ∧ q ≠ T ∧ ¬ DFoot D R ss pv q ∧ ¬ DFoot D R ss' pv' q
section
variable {w0 W W1 W2 : World} {D R X T cT : Nat} {ss ss' : List Sec} {pv pv' : Nat → Value} {off off' : Bool} {fuse fuse' : Int} {i : Nat}
theorem BothS.below (h : BothS w0 W D R X T cT ss pv off fuse i) (hb : Below W.heap.size W W1) : BothS w0 W1 D R X T cT ss pv off fuse i :=
  ⟨h.d.below hb, h.x.below hb, h.b.trans (hb.mono h.b.size), h.nX, h.nT, h.pl⟩
theorem BothS.mono (h : BothS w0 W D R X T cT ss pv off fuse i) : BothS w0 W D R X T cT ss pv off fuse (i + 1) := ⟨h.d, h.x, h.b, h.nX, h.nT, fun s hs => Nat.le_succ_of_le (h.pl s hs)⟩
/-- behind the code's method -/
theorem BothS.mid (h : BothS w0 W D R X T cT ss pv off fuse i) (hd : DkS W1 w0.heap.size D R ss' off' fuse' pv') (ht : Turn (DFoot D R ss pv) W W1) (hf : Fresh W pv pv') (hl : ss'.length = ss.length) :
    DdS W1 w0.heap.size X T cT (MidP D R X T ss ss' pv pv') (allS ss) fuse off ∧ ¬ DFoot D R ss' pv' X ∧ ¬ DFoot D R ss' pv' T ∧ Below w0.heap.size w0 W1 ∧ ∀ q, W1.heap.size ≤ q → MidP D R X T ss ss' pv pv' q := by
  have nX' := foot_len hl (foot_fresh hf h.x.ltX h.nX)
  have nT' := foot_len hl (foot_fresh hf h.x.ltT h.nT)
  have hm : DdS W w0.heap.size X T cT (MidP D R X T ss ss' pv pv') (allS ss) fuse off := h.x.mono (fun q hq hlt => ⟨hq.1, hq.2.1, hq.2.2, foot_len hl (foot_fresh hf hlt hq.2.2)⟩) (fun q hq => ⟨hq.1, hq.2.1⟩)
  refine ⟨hm.turn ht h.nX h.nT (fun q hq => hq.2.2.1), nX', nT', ht.below h.b h.b.size (fun q hq => h.d.lowF hq), fun q hq => ⟨?_, ?_, ?_, ?_⟩⟩
  · have := h.x.ltX; have := ht.size; omega
  · have := h.x.ltT; have := ht.size; omega
  · intro hh; have := h.d.ltF hh; have := ht.size; omega
  · intro hh; have := hd.ltF hh; omega
/-- behind the document's method -/
theorem BothS.fin (nX' : ¬ DFoot D R ss' pv' X) (nT' : ¬ DFoot D R ss' pv' T) (hb1 : Below w0.heap.size w0 W1) (hd : DkS W1 w0.heap.size D R ss' off' fuse' pv') (hx : DdS W2 w0.heap.size X T cT (MidP D R X T ss ss' pv pv') (allS ss') fuse' off') (ht : Turn (fun q => q = X ∨ q = T) W1 W2) (hp : ∀ s ∈ ss', s.pend.length ≤ i) :
    BothS w0 W2 D R X T cT ss' pv' off' fuse' i :=
  ⟨hd.other ht (fun q hq e => e.elim (fun e => nX' (by rw [← e]; exact hq)) (fun e => nT' (by rw [← e]; exact hq))), hx.mono (fun q hq _ => ⟨hq.1, hq.2.1, hq.2.2.2⟩) (fun q hq => ⟨hq.1, hq.2.1⟩),
   ht.below hb1 hb1.size (fun q e => by
    rcases e with e | e
    · rw [e]; exact hx.low.1
    · rw [e]; exact hx.low.2), nX', nT', hp⟩
theorem fresh_refl (W : World) (pv : Nat → Value) : Fresh W pv pv := fun _ _ h => .inl h
theorem fresh_less (W : World) (h : Less pv pv') : Fresh W pv pv' := fun j q hq => .inl (h j q hq)
theorem pend_sync (ss : List Sec) (i : Nat) : ∀ s ∈ ss.map Sec.sync, s.pend.length ≤ i := fun s hs => by
  obtain ⟨t, _, rfl⟩ := List.mem_map.1 hs
  exact Nat.zero_le _
theorem pend_add (hp : ∀ s ∈ ss, s.pend.length ≤ i) (k : Nat) (s : Sec) (hs : ss[k]? = some s) (B : List UInt8) (hB : B.length = 128) : ∀ t ∈ ss.set k (s.add B hB), t.pend.length ≤ i + 1 := fun t ht => by
  rcases List.mem_or_eq_of_mem_set ht with h | h
  · exact Nat.le_succ_of_le (hp t h)
  · rw [h]
    have := hp s (List.mem_of_getElem? hs)
    show (s.pend ++ [B]).length ≤ i + 1
    simp
    omega
/-- both new -/
theorem BothS.new (hb : Below w0.heap.size w0 W) (M : Nat) (hd : DkS W w0.heap.size D R (List.replicate M secZ) false (-1) (fun _ => .slice none 0 0)) (hx : DdS W1 W.heap.size X T cT (fun q => W.heap.size ≤ q ∧ q ≠ X ∧ q ≠ T) (List.replicate M [zc]) (-1) false) (hb1 : Below W.heap.size W W1) :
    BothS w0 W1 D R X T cT (List.replicate M secZ) (fun _ => .slice none 0 0) false (-1) 0 := by
  have old : ∀ q, DFoot D R (List.replicate M secZ) (fun _ => Value.slice none 0 0) q → q < W.heap.size := fun q hq => hd.ltF hq
  have hx2 := hx.mono (P' := fun q => q ≠ X ∧ q ≠ T ∧ ¬ DFoot D R (List.replicate M secZ) (fun _ => Value.slice none 0 0) q) (fun q hq _ => ⟨hq.2.1, hq.2.2, fun hh => by have := old q hh; omega⟩) (fun q hq => ⟨hq.1, hq.2.1⟩)
  refine ⟨hd.below hb1, ?_, hb.trans (hb1.mono hb.size), fun hh => by have := old _ hh; have := hx.low.1; omega, fun hh => by have := old _ hh; have := hx.low.2; omega, fun s hs => by rw [List.eq_of_mem_replicate hs]; exact Nat.le_refl _⟩
  rw [allS_new]
  have hn := hb.size
  exact ⟨hx2.c0, hx2.c1, hx2.c2, hx2.fr, hx2.sec, hx2.pos, hx2.pn, hx2.ne, ⟨Nat.le_trans hn hx2.low.1, Nat.le_trans hn hx2.low.2⟩, hx2.len, hx2.ct, hx2.lf⟩
end
end Go.Proofs.YtionjhlllpipjaaDoor
