import Derived.Test.YtbeeehfaeknhmaaDoorTur
import Derived.Test.YtbeeehfaeknhmaaDoorErr
/-
  disk: what a disk is in memory.
-/
namespace Go.Proofs.YtbeeehfaeknhmaaDoor
open Go.RowKit

/-- the errors of disk and slots as they lie -/
structure ErrD (E : Nat → Addr) (W : World) : Prop where
  c : ∀ i, (i = 0 ∨ i = 1 ∨ i = 6 ∨ i = 7) → W.cell? ⟨gE i, 0, none⟩ = some (errV (E i))
theorem ErrD.ltG {E : Nat → Addr} {W : World} (h : ErrD E W) {i : Nat} (hi : i = 0 ∨ i = 1 ∨ i = 6 ∨ i = 7) : gE i < W.heap.size :=
  World.block_lt_of_cell? W _ (h.c i hi)
theorem ErrD.below {E : Nat → Addr} {W W' : World} (h : ErrD E W) (hb : Below W.heap.size W W') : ErrD E W' :=
  ⟨fun i hi => by rw [World.cell?_of_block (hb.block _ (h.ltG hi))]; exact h.c i hi⟩
theorem ErrsAt.toD {E : Nat → Addr} {W : World} (h : ErrsAt E W) : ErrD E W := ⟨fun i hi => h.c i (by omega)⟩

structure Sec where
  dur : List UInt8
  pend : List (List UInt8)
  hd : dur.length = 128
  hp : ∀ p ∈ pend, p.length = 128
def conts (ps : List (List UInt8)) : List Value := ps.flatMap bcells
theorem conts_app (a b : List (List UInt8)) : conts (a ++ b) = conts a ++ conts b := by simp [conts]
theorem conts_len : ∀ (ps : List (List UInt8)), (∀ p ∈ ps, p.length = 128) → (conts ps).length = ps.length * 128
  | [], _ => rfl
  | p :: ps, h => by
    have ih := conts_len ps (fun q hq => h q (List.mem_cons_of_mem _ hq))
    have hp := h p (List.mem_cons_self ..)
    simp only [conts, List.flatMap_cons, List.length_append, List.length_cons, bcells_len] at ih ⊢
    omega
theorem conts_one (ps : List (List UInt8)) : ∀ v ∈ conts ps, v.oneCell' = true := by
  intro v hv
  obtain ⟨p, _, hp⟩ := List.mem_flatMap.1 hv
  exact bcells_one p v hp
theorem conts_get : ∀ (ps : List (List UInt8)), (∀ p ∈ ps, p.length = 128) → ∀ (j : Nat) (p : List UInt8), ps[j]? = some p → ∀ i v, (bcells p)[i]? = some v → (conts ps)[j * 128 + i]? = some v
  | [], _, _, _, h, _, _, _ => by simp at h
  | q :: ps, h, 0, p, hp, i, v, hv => by
    simp only [List.getElem?_cons_zero, Option.some.injEq] at hp
    subst hp
    have hi := (List.getElem?_eq_some_iff.1 hv).1
    simp only [conts, List.flatMap_cons, Nat.zero_mul, Nat.zero_add]
    rw [List.getElem?_append_left hi]
    exact hv
  | q :: ps, h, j + 1, p, hp, i, v, hv => by
    have hq := h q (List.mem_cons_self ..)
    have ih := conts_get ps (fun r hr => h r (List.mem_cons_of_mem _ hr)) j p (by simpa using hp) i v hv
    simp only [conts, List.flatMap_cons] at ih ⊢
    rw [List.getElem?_append_right (by rw [bcells_len]; omega), bcells_len, hq, show (j + 1) * 128 + i - 128 = j * 128 + i by omega]
    exact ih
/-- what a sector reads as -/
def Sec.top (s : Sec) : List UInt8 := match s.pend.getLast? with | none => s.dur | some p => p
theorem Sec.top_len (s : Sec) : s.top.length = 128 := by
  unfold Sec.top
  cases h : s.pend.getLast? with
  | none => exact s.hd
  | some p => exact s.hp p (List.mem_of_getLast? h)

structure DkS (w : World) (n D R : Nat) (ss : List Sec) (off : Bool) (fuse : Int) (pv : Nat → Value) : Prop where
  hdr : w.cell? ⟨D, 0, none⟩ = some (.slice (some ⟨R, 0, none⟩) ss.length ss.length)
  offc : w.cell? ⟨D, 1, none⟩ = some (.bool off)
  fusc : w.cell? ⟨D, 2, none⟩ = some (.int .i64 fuse)
  frz : ∀ o, w.frozen? ⟨D, o, none⟩ = false ∧ w.frozen? ⟨R, o, none⟩ = false
  dur : ∀ i s, ss[i]? = some s → w.rangeAt R (i * 129) (bcells s.dur)
  pnd : ∀ i s, ss[i]? = some s → w.cell? ⟨R, i * 129 + 128, none⟩ = some (pv i)
  own : ∀ i s, ss[i]? = some s → w.ownsRow n 90 128 (pv i) s.pend.length (conts s.pend)
  ne : D ≠ R
  sep : ∀ i, i < ss.length → ∀ g, (pv i).ownBlock = some g → g ≠ D ∧ g ≠ R ∧ ∀ j, j < ss.length → j ≠ i → (pv j).ownBlock ≠ some g
  low : n ≤ D ∧ n ≤ R
  len : 0 < ss.length ∧ ss.length ≤ 400
  fz : -1 ≤ fuse ∧ fuse ≤ 9223372036854775807
/-- the blocks of a disk -/
def DFoot (D R : Nat) (ss : List Sec) (pv : Nat → Value) (k : Nat) : Prop := k = D ∨ k = R ∨ ∃ i, i < ss.length ∧ (pv i).ownBlock = some k
theorem DkS.ltD {w : World} {n D R : Nat} {ss : List Sec} {off : Bool} {fuse : Int} {pv : Nat → Value} (h : DkS w n D R ss off fuse pv) : D < w.heap.size := cell_lt h.hdr
theorem DkS.ltR {w : World} {n D R : Nat} {ss : List Sec} {off : Bool} {fuse : Int} {pv : Nat → Value} (h : DkS w n D R ss off fuse pv) : R < w.heap.size := by
  have hl := h.len.1
  exact cell_lt (h.pnd 0 ss[0] (List.getElem?_eq_getElem hl))
theorem DkS.ltF {w : World} {n D R : Nat} {ss : List Sec} {off : Bool} {fuse : Int} {pv : Nat → Value} (h : DkS w n D R ss off fuse pv) {k : Nat} (hk : DFoot D R ss pv k) : k < w.heap.size := by
  rcases hk with rfl | rfl | ⟨i, hi, hk⟩
  · exact h.ltD
  · exact h.ltR
  · exact ((h.own i ss[i] (List.getElem?_eq_getElem hi)).lt k hk).2
theorem DkS.lowF {w : World} {n D R : Nat} {ss : List Sec} {off : Bool} {fuse : Int} {pv : Nat → Value} (h : DkS w n D R ss off fuse pv) {k : Nat} (hk : DFoot D R ss pv k) : n ≤ k := by
  rcases hk with rfl | rfl | ⟨i, hi, hk⟩
  · exact h.low.1
  · exact h.low.2
  · exact ((h.own i ss[i] (List.getElem?_eq_getElem hi)).lt k hk).1
/-- a disk whose blocks are as they were is as it was -/
theorem DkS.same {w w' : World} {n D R : Nat} {ss : List Sec} {off : Bool} {fuse : Int} {pv : Nat → Value} (h : DkS w n D R ss off fuse pv) (hb : ∀ k, DFoot D R ss pv k → w'.heap[k]? = w.heap[k]?) : DkS w' n D R ss off fuse pv := by
  have hD := hb D (.inl rfl)
  have hR := hb R (.inr (.inl rfl))
  exact ⟨(World.cell?_of_block hD).trans h.hdr, (World.cell?_of_block hD).trans h.offc, (World.cell?_of_block hD).trans h.fusc, fun o => ⟨(World.frozen?_of_block hD).trans (h.frz o).1, (World.frozen?_of_block hR).trans (h.frz o).2⟩,
    fun i s hs j v hv => (World.cell?_of_block hR).trans (h.dur i s hs j v hv), fun i s hs => (World.cell?_of_block hR).trans (h.pnd i s hs),
    fun i s hs => own_kept (h.own i s hs) (fun k hk => hb k (.inr (.inr ⟨i, (List.getElem?_eq_some_iff.1 hs).1, hk⟩))), h.ne, h.sep, h.low, h.len, h.fz⟩
theorem DkS.below {w w' : World} {n D R : Nat} {ss : List Sec} {off : Bool} {fuse : Int} {pv : Nat → Value} (h : DkS w n D R ss off fuse pv) (hb : Below w.heap.size w w') : DkS w' n D R ss off fuse pv :=
  h.same fun k hk => hb.block k (h.ltF hk)
theorem DkS.other {F : Nat → Prop} {w w' : World} {n D R : Nat} {ss : List Sec} {off : Bool} {fuse : Int} {pv : Nat → Value} (h : DkS w n D R ss off fuse pv) (ht : Turn F w w') (hF : ∀ k, DFoot D R ss pv k → ¬ F k) : DkS w' n D R ss off fuse pv :=
  h.same fun k hk => ht.block k (h.ltF hk) (hF k hk)
/-- a store into one of the disk's own numbers -/
theorem DkS.set {w : World} {n D R : Nat} {ss : List Sec} {off off' : Bool} {fuse fuse' : Int} {pv : Nat → Value} (h : DkS w n D R ss off fuse pv) (p : Nat) (v : Value) (hp : (p = 1 ∧ v = .bool off' ∧ fuse' = fuse) ∨ (p = 2 ∧ v = .int .i64 fuse' ∧ off' = off ∧ -1 ≤ fuse' ∧ fuse' ≤ 9223372036854775807)) :
    DkS (w.setCell ⟨D, p, none⟩ v) n D R ss off' fuse' pv ∧ Turn (· = D) w (w.setCell ⟨D, p, none⟩ v) := by
  have ho : ∀ k, k ≠ D → (w.setCell ⟨D, p, none⟩ v).heap[k]? = w.heap[k]? := fun k hk => Below.heap_setCell _ _ _ _ hk
  have hR := ho R h.ne.symm
  have hc : ∀ q, q ≠ p → (w.setCell ⟨D, p, none⟩ v).cell? ⟨D, q, none⟩ = w.cell? ⟨D, q, none⟩ := fun q hq => World.cell?_setCell_other _ _ _ _ (by intro e; cases e; exact hq rfl)
  refine ⟨⟨?_, ?_, ?_, fun o => ⟨by rw [frozen_setCell]; exact (h.frz o).1, by rw [frozen_setCell]; exact (h.frz o).2⟩, fun i s hs j u hu => (World.cell?_of_block hR).trans (h.dur i s hs j u hu), fun i s hs => (World.cell?_of_block hR).trans (h.pnd i s hs),
    fun i s hs => own_kept (h.own i s hs) (fun k hk => ho k (h.sep i (List.getElem?_eq_some_iff.1 hs).1 k hk).1), h.ne, h.sep, h.low, h.len, ?_⟩, Turn.of_grown (grown_setCell w _ _) (fun k hk => (Option.some.inj hk).symm)⟩
  · rw [hc 0 (by omega)]; exact h.hdr
  · rcases hp with ⟨rfl, rfl, _⟩ | ⟨rfl, _, rfl, _⟩
    · exact World.cell?_setCell_same w _ _ h.offc
    · rw [hc 1 (by omega)]; exact h.offc
  · rcases hp with ⟨rfl, _, rfl⟩ | ⟨rfl, rfl, _⟩
    · rw [hc 2 (by omega)]; exact h.fusc
    · exact World.cell?_setCell_same w _ _ h.fusc
  · rcases hp with ⟨_, _, rfl⟩ | ⟨_, _, _, h2⟩
    · exact h.fz
    · exact h2
end Go.Proofs.YtbeeehfaeknhmaaDoor
