import Derived.Test.YtionjhlllpipjaaDoorDks
import Derived.Test.YtionjhlllpipjaaDoorDkl
import Derived.Test.YtionjhlllpipjaaDoorNum
import Derived.Test.YtionjhlllpipjaaDoorCpy
/-
  disk: what may be kept (for DiskKeeps): five lists of bytes beside the disk.
-/
namespace Go.Proofs.YtionjhlllpipjaaDoor
open Go.RowKit

theorem fillL_len (x : Int) : (fillL x).length = 128 := by simp [fillL]
theorem bcells_ints (l : List UInt8) : bcells l = ints .u8 (l.map fun b => (b.toNat : Int)) := by simp [bcells, ints, cellB]
theorem set_turn (w : World) (g k : Nat) (v : Value) : Turn (· = g) w (w.setCell ⟨g, k, none⟩ v) := Turn.of_grown (grown_setCell _ _ _) (fun _ hk => (Option.some.inj hk).symm)
def rep8 (b : UInt8) : List UInt8 := List.replicate 128 b
theorem rep8_fill (x : Int) : fillL x = rep8 (fillB x) := rfl
theorem fillB_back (b : UInt8) : fillB (b.toNat : Int) = b := by
  have := b.toNat_lt
  unfold fillB
  rw [show ((b.toNat : Int) % 256).toNat = b.toNat by omega]
  simp
theorem SlRead.turnM {F : Nat → Prop} {w w' : World} {A : Option Addr} {cs : List Value} (h : SlRead w A cs) (ht : Turn F w w') (hA : 0 < cs.length → ∀ a, A = some a → ¬ F a.block) : SlRead w' A cs := fun hn => by
  obtain ⟨b, o, e, hl, hc⟩ := h hn
  exact ⟨b, o, e, Nat.lt_of_lt_of_le hl ht.size, fun j u hj => (ht.cell hl (hA hn _ e)).trans (hc j u hj)⟩
def updM (m : Nat → List UInt8) (k : Nat) (l : List UInt8) : Nat → List UInt8 := fun j => if j = k then l else m j
/-- the array of lists as it lies; P: where the lists' blocks may be -/
structure MayAt (W : World) (B : Nat) (P : Nat → Prop) (m : Nat → List UInt8) : Prop where
  c : ∀ k, k < 5 → ∃ A c, W.cell? ⟨B, k, none⟩ = some (.slice A (m k).length c) ∧ SlRead W A (bcells (m k)) ∧ (m k).length ≤ c ∧ (∀ a, A = some a → P a.block ∧ a.block < W.heap.size)
  f : ∀ o, W.frozen? ⟨B, o, none⟩ = false
  b : B < W.heap.size
theorem MayAt.turn {F P : Nat → Prop} {W W' : World} {B : Nat} {m : Nat → List UInt8} (h : MayAt W B P m) (ht : Turn F W W') (hB : ¬ F B) (hP : ∀ q, P q → ¬ F q) : MayAt W' B P m :=
  ⟨fun k hk => by
    obtain ⟨A, c, h1, h2, h3, h4⟩ := h.c k hk
    exact ⟨A, c, (ht.cell h.b hB).trans h1, h2.turnM ht (fun _ a ha => hP _ (h4 a ha).1), h3, fun a ha => ⟨(h4 a ha).1, Nat.lt_of_lt_of_le (h4 a ha).2 ht.size⟩⟩,
   fun o => (World.frozen?_of_block (ht.block B h.b hB)).trans (h.f o), Nat.lt_of_lt_of_le h.b ht.size⟩
theorem MayAt.below {P : Nat → Prop} {W W' : World} {B : Nat} {m : Nat → List UInt8} (h : MayAt W B P m) (hb : Below W.heap.size W W') : MayAt W' B P m := h.turn (Turn.of_below (F := fun _ => False) hb) id (fun _ _ => id)
theorem MayAt.mono {P P' : Nat → Prop} {W : World} {B : Nat} {m : Nat → List UInt8} (h : MayAt W B P m) (hP : ∀ q, P q → q < W.heap.size → P' q) : MayAt W B P' m :=
  ⟨fun k hk => by
    obtain ⟨A, c, h1, h2, h3, h4⟩ := h.c k hk
    exact ⟨A, c, h1, h2, h3, fun a ha => ⟨hP _ (h4 a ha).1 (h4 a ha).2, (h4 a ha).2⟩⟩, h.f, h.b⟩
theorem MayAt.set {P : Nat → Prop} {W : World} {B : Nat} {m : Nat → List UInt8} (h : MayAt W B P m) (hP : ∀ q, P q → q ≠ B) (k : Nat) (hk : k < 5) (A : Option Addr) (c : Nat) (l : List UInt8) (hr : SlRead W A (bcells l)) (hc : l.length ≤ c) (ha : ∀ a, A = some a → P a.block ∧ a.block < W.heap.size) :
    MayAt (W.setCell ⟨B, k, none⟩ (.slice A l.length c)) B P (updM m k l) ∧ Turn (· = B) W (W.setCell ⟨B, k, none⟩ (.slice A l.length c)) := by
  have ht := set_turn W B k (.slice A l.length c)
  have hz : (W.setCell ⟨B, k, none⟩ (.slice A l.length c)).heap.size = W.heap.size := by simp
  refine ⟨⟨fun j hj => ?_, fun o => by rw [frozen_setCell]; exact h.f o, by rw [hz]; exact h.b⟩, ht⟩
  by_cases hjk : j = k
  · subst hjk
    obtain ⟨_, _, h1, _⟩ := h.c j hj
    have e : updM m j l j = l := by unfold updM; rw [if_pos rfl]
    rw [e]
    exact ⟨A, c, World.cell?_setCell_same W _ _ h1, hr.turnM ht (fun _ a e => hP _ (ha a e).1), hc, fun a e => by rw [hz]; exact ha a e⟩
  · obtain ⟨A', c', h1, h2, h3, h4⟩ := h.c j hj
    have e : updM m k l j = m j := by unfold updM; rw [if_neg hjk]
    rw [e]
    refine ⟨A', c', ?_, h2.turnM ht (fun _ a e => hP _ (h4 a e).1), h3, fun a e => by rw [hz]; exact h4 a e⟩
    rw [World.cell?_setCell_other _ _ _ _ (by intro e; have := congrArg Addr.off e; simp at this; omega)]
    exact h1
/-- the disk, and the lists of what its sectors may hold -/
structure KeepS (w0 W : World) (D R B : Nat) (ss : List Sec) (pv : Nat → Value) (m : Nat → List UInt8) (i : Nat) : Prop where
  d : DkS W w0.heap.size D R ss false (-1) pv
  b : Below w0.heap.size w0 W
  my : MayAt W B (fun q => q ≠ B ∧ ¬ DFoot D R ss pv q) m
  nb : ¬ DFoot D R ss pv B
  hB : w0.heap.size ≤ B
  l : ss.length = 5
  r : ∀ k, k < 5 → ∃ s, ss[k]? = some s ∧ s.all = (m k).map rep8 ∧ (m k).length ≤ i + 1
theorem KeepS.below {w0 W W' : World} {D R B : Nat} {ss : List Sec} {pv : Nat → Value} {m : Nat → List UInt8} {i : Nat} (h : KeepS w0 W D R B ss pv m i) (hb : Below W.heap.size W W') : KeepS w0 W' D R B ss pv m i :=
  ⟨h.d.below hb, h.b.trans (hb.mono h.b.size), h.my.below hb, h.nb, h.hB, h.l, h.r⟩
theorem foot_len {D R : Nat} {ss ss' : List Sec} {pv : Nat → Value} (h : ss'.length = ss.length) {q : Nat} (hq : ¬ DFoot D R ss pv q) : ¬ DFoot D R ss' pv q := fun hh => hq (by
  rcases hh with e | e | ⟨j, hj, e⟩
  · exact .inl e
  · exact .inr (.inl e)
  · exact .inr (.inr ⟨j, by omega, e⟩))
theorem foot_less {D R : Nat} {ss : List Sec} {pv pv' : Nat → Value} (h : Less pv pv') {q : Nat} (hq : ¬ DFoot D R ss pv q) : ¬ DFoot D R ss pv' q := fun hh => hq (by
  rcases hh with e | e | ⟨j, hj, e⟩
  · exact .inl e
  · exact .inr (.inl e)
  · exact .inr (.inr ⟨j, hj, h j q e⟩))
theorem foot_fresh {D R : Nat} {ss : List Sec} {pv pv' : Nat → Value} {w : World} (h : Fresh w pv pv') {q : Nat} (hl : q < w.heap.size) (hq : ¬ DFoot D R ss pv q) : ¬ DFoot D R ss pv' q := fun hh => hq (by
  rcases hh with e | e | ⟨j, hj, e⟩
  · exact .inl e
  · exact .inr (.inl e)
  · rcases h j q e with e2 | e2
    · exact .inr (.inr ⟨j, hj, e2⟩)
    · omega)
/-- the lists, the first so many cut to their last -/
def lastTo (m : Nat → List UInt8) (k : Nat) : Nat → List UInt8 := fun j => if j < k then (m j).drop ((m j).length - 1) else m j
theorem lastTo_step (m : Nat → List UInt8) (k : Nat) : updM (lastTo m k) k ((m k).drop ((m k).length - 1)) = lastTo m (k + 1) := by
  funext j
  unfold updM lastTo
  by_cases h : j = k
  · subst h; rw [if_pos rfl, if_pos (by omega)]
  · rw [if_neg h]
    by_cases h2 : j < k
    · rw [if_pos h2, if_pos (by omega)]
    · rw [if_neg h2, if_neg (by omega)]
theorem KeepS.pos {w0 W : World} {D R B : Nat} {ss : List Sec} {pv : Nat → Value} {m : Nat → List UInt8} {i : Nat} (h : KeepS w0 W D R B ss pv m i) {k : Nat} (hk : k < 5) : 0 < (m k).length := by
  obtain ⟨s, _, ha, _⟩ := h.r k hk
  have := congrArg List.length ha
  simp [Sec.all] at this
  omega
theorem KeepS.sync1 {w0 W W5 : World} {D R B : Nat} {ss : List Sec} {pv pv5 : Nat → Value} {m : Nat → List UInt8} {i : Nat} (h : KeepS w0 W D R B ss pv m i) (ht : Turn (fun k => k = D ∨ k = R) W W5) (hl : Less pv pv5) :
    MayAt W5 B (fun q => q ≠ B ∧ ¬ DFoot D R (ss.map Sec.sync) pv5 q) m ∧ ¬ DFoot D R (ss.map Sec.sync) pv5 B ∧ Below w0.heap.size w0 W5 := by
  refine ⟨(h.my.turn ht (fun e => h.nb (e.imp id .inl)) (fun q hq e => hq.2 (e.imp id .inl))).mono (fun q hq _ => ⟨hq.1, foot_len (by simp) (foot_less hl hq.2)⟩), foot_len (by simp) (foot_less hl h.nb), ht.below h.b h.b.size (fun q e => ?_)⟩
  rcases e with e | e
  · rw [e]; exact h.d.low.1
  · rw [e]; exact h.d.low.2
theorem KeepS.sync2 {w0 W W5 W7 : World} {D R B : Nat} {ss : List Sec} {pv pv5 : Nat → Value} {m : Nat → List UInt8} {i : Nat} (h : KeepS w0 W D R B ss pv m i) (hd5 : DkS W5 w0.heap.size D R (ss.map Sec.sync) false (-1) pv5) (ht : Turn (fun k => k = D ∨ k = R) W W5) (hl : Less pv pv5)
    (hm : MayAt W7 B (fun q => q ≠ B ∧ ¬ DFoot D R (ss.map Sec.sync) pv5 q) (lastTo m 5)) (ht7 : Turn (· = B) W5 W7) : KeepS w0 W7 D R B (ss.map Sec.sync) pv5 (lastTo m 5) i := by
  obtain ⟨_, hnb, hb5⟩ := h.sync1 ht hl
  refine ⟨hd5.other ht7 (fun q hq e => hnb (by rw [← e]; exact hq)), ht7.below hb5 hb5.size (fun q e => by rw [e]; exact h.hB), hm, hnb, h.hB, by rw [List.length_map]; exact h.l, fun k hk => ?_⟩
  obtain ⟨s, hs, ha, hle⟩ := h.r k hk
  have hp := h.pos hk
  refine ⟨s.sync, by rw [List.getElem?_map, hs]; rfl, ?_, ?_⟩
  · rw [Sec.sync_all]
    have ht := s.top_last
    rw [ha, List.getLast?_eq_getElem?, List.length_map, List.getElem?_map] at ht
    unfold lastTo
    rw [if_pos hk, List.map_drop]
    refine List.ext_getElem? fun j => ?_
    rcases j with _ | j
    · rw [List.getElem?_drop, Nat.add_zero, List.getElem?_map, ht]; rfl
    · rw [List.getElem?_eq_none (by simp), List.getElem?_eq_none (by simp; omega)]
  · unfold lastTo
    rw [if_pos hk]
    simp
    omega
theorem KeepS.wrote {w0 W W8 W9 : World} {D R B : Nat} {ss : List Sec} {pv pv' : Nat → Value} {m : Nat → List UInt8} {i : Nat} (h : KeepS w0 W D R B ss pv m i) (K : Nat) (s : Sec) (hs : ss[K]? = some s) (x : Int)
    (hd8 : DkS W8 w0.heap.size D R ss false (-1) pv) (hb8 : Below w0.heap.size w0 W8) (hm8 : MayAt W8 B (fun q => q ≠ B ∧ ¬ DFoot D R ss pv q) (updM m K (m K ++ [fillB x])))
    (hd9 : DkS W9 w0.heap.size D R (ss.set K (s.add (fillL x) (fillL_len x))) false (-1) pv') (ht9 : Turn (DFoot D R ss pv) W8 W9) (hf9 : Fresh W8 pv pv') : KeepS w0 W9 D R B (ss.set K (s.add (fillL x) (fillL_len x))) pv' (updM m K (m K ++ [fillB x])) (i + 1) := by
  have hlen : (ss.set K (s.add (fillL x) (fillL_len x))).length = ss.length := List.length_set ..
  refine ⟨hd9, ht9.below hb8 hb8.size (fun q hq => hd8.lowF hq), ((hm8.mono (P' := fun q => (q ≠ B ∧ ¬ DFoot D R ss pv q) ∧ ¬ DFoot D R (ss.set K (s.add (fillL x) (fillL_len x))) pv' q) (fun q hq hl => ⟨hq, foot_len hlen (foot_fresh hf9 hl hq.2)⟩)).turn ht9 h.nb (fun q hq => hq.1.2)).mono (fun q hq _ => ⟨hq.1.1, hq.2⟩), foot_len hlen (foot_fresh hf9 hm8.b h.nb), h.hB, by rw [hlen]; exact h.l, fun k hk => ?_⟩
  · obtain ⟨t, ht, ha, hle⟩ := h.r k hk
    by_cases hkK : k = K
    · subst hkK
      rw [hs] at ht
      cases ht
      refine ⟨_, List.getElem?_set_self (List.getElem?_eq_some_iff.1 hs).1, ?_, ?_⟩
      · unfold updM
        rw [if_pos rfl, Sec.add_all, ha, List.map_append]
        rfl
      · unfold updM
        rw [if_pos rfl]
        simp
        omega
    · refine ⟨t, by rw [List.getElem?_set_ne (by omega)]; exact ht, ?_, ?_⟩
      · unfold updM; rw [if_neg hkK]; exact ha
      · unfold updM; rw [if_neg hkK]; omega
end Go.Proofs.YtionjhlllpipjaaDoor
