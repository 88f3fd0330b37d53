import Derived.Test.YtocjmlncpjfnfaaDoorEq
import Derived.Test.YtocjmlncpjfnfaaDoorHd
namespace Go.Proofs.YtocjmlncpjfnfaaDoor
open Go.RowKit

theorem ownsRow_via {w w' : World} {base : Nat} {e : TypeId} {size : Nat} {v : Value} {n : Nat} {xs : List Value} (h : w.ownsRow base e size v n xs) (hg : ∀ g, base ≤ g → g < w.heap.size → w'.heap[g]? = w.heap[g]?) : w'.ownsRow base e size v n xs := by
  obtain ⟨h1, h2⟩ := h
  refine ⟨h1, ?_⟩
  rcases h2 with h2 | ⟨g, cap, cur, e1, e2, e3, e4⟩
  · exact .inl h2
  · have hlt : g < w.heap.size := by
      obtain ⟨hl, _⟩ := Array.getElem?_eq_some_iff.1 e3
      exact hl
    exact .inr ⟨g, cap, cur, e1, e2, (hg g e2 hlt).trans e3, e4⟩
theorem ownsRow_form {w : World} {base : Nat} {e : TypeId} {size : Nat} {v : Value} {n : Nat} {xs : List Value} (h : w.ownsRow base e size v n xs) : ∃ A c, v = .slice A n c ∧ (0 < n → n ≤ c) := by
  rcases h.2 with ⟨h1, h2⟩ | ⟨g, cap, cur, e1, _, _, e4, _⟩
  · subst h2; exact ⟨none, 0, h1, by omega⟩
  · exact ⟨_, cap, e1, fun _ => e4⟩
theorem slice_sl_one {P : Program} {t e : TypeId} (hu : P.underlying t = some (.slice e)) (hs : (P.info? e).map (·.size) = some 1) (b o n cap k : Nat) (hk : k < n) (hc : n ≤ cap) (w : World) :
    (Instr.slice t (.slice (some ⟨b, o, none⟩) n cap) (some (.int .i64 k)) (some (.int .i64 ((k : Int) + 1))) none).run P w = .ok (.slice (some ⟨b, o + k, none⟩) 1 (cap - k)) w := by
  have e2 : P.elem t = e := by simp [Program.elem, hu]
  rw [run_slice_lh (P := P) w t (some ⟨b, o, none⟩) n cap (by rw [e2]; exact hu) .i64 .i64 (k : Int) ((k : Int) + 1) (by omega) (by omega) (by omega), e2]
  obtain ⟨i, hi, hz⟩ := Option.map_eq_some_iff.1 hs
  have h1 : ((k : Int) + 1).toNat = k + 1 := by omega
  have h2 : ¬ cap = k := by omega
  simp [sizeOf, typeInfo, hi, hz, Result.andThen, sliced, h1, h2, add_eq]

theorem Tryd.info25 : (Tryd.prog.info? 25).map (fun i => (i.zero, i.size, i.bytes)) = some (some (.slice none 0 0), 1, 24) := by kernel_rfl

/-- sha.Sum of one slice -/
theorem suml_one (A : Option Addr) (ys : List (BitVec 8)) (cap : Nat) (w : World) (hA : SlRead w A (ints .u8 (bys ys))) (hc : ys.length ≤ cap) (hl : ys.length ≤ 4611686018427387904) (hk : KAt w) :
    Calls Tryd.prog 88 #[.slice (some ⟨w.heap.size, 0, none⟩) 1 1] (w.alloc (.cells #[.slice A ys.length cap] 25)) fun e w' => e = .returned (.agg (arr8 32 (shaOf ys))) ∧ Below w.heap.size w w' := by
  have hb : Below w.heap.size w (w.alloc (.cells #[.slice A ys.length cap] 25)) := (Below.refl _ _).alloc (Nat.le_refl _) _
  refine (suml_any (some ⟨w.heap.size, 0, none⟩) [(A, ys, cap)] 1 (w.alloc (.cells #[.slice A ys.length cap] 25)) ?_ ?_ (by simp) (hk.alloc _)).mono ?_
  · intro _
    refine ⟨w.heap.size, 0, rfl, by simp, fun j u hj => ?_⟩
    have hj0 : j = 0 := by
      have := (List.getElem?_eq_some_iff.1 hj).1
      simp at this
      omega
    subst hj0
    rw [World.cell?_alloc_new]
    simpa using hj
  · intro a ha
    simp at ha
    subst ha
    exact ⟨hA.below hb, hc, hl⟩
  · rintro e w' ⟨rfl, hb2⟩
    exact ⟨by simp [flat], hb.trans (hb2.mono hb.size)⟩

theorem HashR.below {w w' : World} {b : Nat} {s : Nat → BitVec 32} {m : Nat → BitVec 8} {us tt : Int} (h : HashR w b s m us tt) (hb : Below w.heap.size w w') : HashR w' b s m us tt := h.of_block (hb.block _ h.lt)
theorem KAt.below {w w' : World} (h : KAt w) (hb : Below w.heap.size w w') : KAt w' := h.of_block (hb.block _ h.lt)
theorem OffB.of_lt {w : World} {A : Option Addr} {xs : List Value} (h : SlRead w A xs) (hx : 0 < xs.length) {C : Nat} (hC : w.heap.size ≤ C) : OffB A C := h.offB hx hC

theorem bsl_u8 (z : Int) (w : World) : (Instr.buildSlice 25 1 #[(0, .int .u8 z)]).run Tryd.prog w = .ok (.slice (some ⟨w.heap.size, 0, none⟩) 1 1) (w.alloc (.cells #[.int .u8 z] 5)) := by kernel_rfl
theorem bsl_sl (A : Option Addr) (n c : Nat) (w : World) : (Instr.buildSlice 36 1 #[(0, .slice A n c)]).run Tryd.prog w = .ok (.slice (some ⟨w.heap.size, 0, none⟩) 1 1) (w.alloc (.cells #[.slice A n c] 25)) := by kernel_rfl
theorem rangeAt_row {w : World} {g : Nat} {t : TypeId} {n : Nat} {f : Nat → BitVec 8} (h : w.rowIs g t n (fun i => v8 (f i))) : w.rangeAt g 0 (arr8 n f).toList := by
  intro j v hv
  have hj : j < n := by
    have := (List.getElem?_eq_some_iff.1 hv).1
    simpa using this
  rw [Nat.zero_add, h.cell hj]
  rw [Array.getElem?_toList, arr8_get n f j hj] at hv
  exact hv
theorem rangeAt_below {w w' : World} {g o : Nat} {cs : List Value} (h : w.rangeAt g o cs) (hb : Below w.heap.size w w') (hg : g < w.heap.size) : w'.rangeAt g o cs := fun j v hv => (hb.cell (p := ⟨g, o + j, none⟩) hg).trans (h j v hv)

theorem SlRead.one_new {W : World} (v : Value) (t : TypeId) : SlRead (W.alloc (.cells #[v] t)) (some ⟨W.heap.size, 0, none⟩) [v] := by
  intro _
  refine ⟨W.heap.size, 0, rfl, by simp, fun j u hj => ?_⟩
  have hj0 : j = 0 := by
    have := (List.getElem?_eq_some_iff.1 hj).1
    simp at this
    omega
  subst hj0
  rw [World.cell?_alloc_new]
  exact hj
theorem suml_sing (g : Nat) (a : BSl) (w : World) (hs : SlRead w (some ⟨g, 0, none⟩) [slv a]) (ha : SlOk w a) (hk : KAt w) :
    Calls Tryd.prog 88 #[.slice (some ⟨g, 0, none⟩) 1 1] w fun e w' => e = .returned (.agg (arr8 32 (shaOf a.2.1))) ∧ Below w.heap.size w w' := by
  have := suml_any (some ⟨g, 0, none⟩) [a] 1 w hs (by intro b hb; simp at hb; subst hb; exact ha) (by simp) hk
  rwa [show flat [a] = a.2.1 by simp [flat]] at this

end Go.Proofs.YtocjmlncpjfnfaaDoor
