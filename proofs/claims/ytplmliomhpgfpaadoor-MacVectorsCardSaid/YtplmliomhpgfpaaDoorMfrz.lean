import Derived.Test.YtplmliomhpgfpaaDoorMeql
namespace Go.Proofs.YtplmliomhpgfpaaDoor
open Go.RowKit

theorem freeze_cell (w : World) (a : Addr) (n : Nat) (x : Addr) : (w.freeze a n).cell? x = w.cell? x := by
  unfold World.freeze
  by_cases hn : n = 0
  · rw [if_pos hn]
  · rw [if_neg hn]
    simp only [World.cell?, Array.getElem?_modify]
    by_cases e : a.block = x.block
    · rw [if_pos e]
      cases hh : w.heap[x.block]? with
      | none => simp
      | some o => cases o <;> simp
    · rw [if_neg e]
theorem freeze_only (w : World) (a : Addr) (n : Nat) : Only a.block w (w.freeze a n) := by
  unfold World.freeze
  by_cases hn : n = 0
  · rw [if_pos hn]; exact Only.refl _ _
  · rw [if_neg hn]
    refine ⟨rfl, rfl, rfl, by simp, fun k _ hk => ?_⟩
    simp only [Array.getElem?_modify]
    rw [if_neg (fun e => hk e.symm)]
/-- a slice of bytes that is turned into one: the same -/
theorem wpList_conv_bytes {P : Program} {w : World} {ops : Array Oper} {rest : List Oper} {o : Oper} {a : Act} {Q : Exit → Act → World → Prop} (hgd : o.guard = none) (t e : TypeId) (x : Operand) (ho : o.op = .convert t t x)
    (ht : P.underlying t = some (.slice e)) (he : P.underlying e = some (.int .u8)) (g n c : Nat) (hx : a.eval x = .slice (some ⟨g, 0, none⟩) n c)
    (h : ∀ w', Only g w w' → (∀ y, w'.cell? y = w.cell? y) → wpList P ops Q rest (a.put o.dst (.slice (some ⟨g, 0, none⟩) n c)) w') : wpList P ops Q (o :: rest) a w := by
  refine wpList_plain hgd fun K hK => ?_
  unfold Oper.wp
  cases hs : w.shape? g with
  | none =>
    have hrun : (convert t t (.slice (some ⟨g, 0, none⟩) n c)).run P w = .ok (.slice (some ⟨g, 0, none⟩) n c) w := by
      simp [convert, run_underlying ht, run_underlying he, markStringish, hs]
    simp [execOp, ho, hx, hrun, Result.andThen]
    exact hK _ _ (h w (Only.refl _ _) (fun _ => rfl))
  | some p =>
    have hrun : (convert t t (.slice (some ⟨g, 0, none⟩) n c)).run P w = .ok (.slice (some ⟨g, 0, none⟩) n c) (w.freeze ⟨g, p.2, none⟩ 1) := by
      simp [convert, run_underlying ht, run_underlying he, markStringish, hs]
    simp [execOp, ho, hx, hrun, Result.andThen]
    exact hK _ _ (h _ (freeze_only w ⟨g, p.2, none⟩ 1) (fun _ => freeze_cell _ _ _ _))
theorem SlRead.alike {w w' : World} {A : Option Addr} {xs : List Value} (h : SlRead w A xs) (hc : ∀ y, w'.cell? y = w.cell? y) (hs : w.heap.size ≤ w'.heap.size) : SlRead w' A xs := by
  intro hn
  obtain ⟨b, o, rfl, hlt, hcell⟩ := h hn
  exact ⟨b, o, rfl, Nat.lt_of_lt_of_le hlt hs, fun j u hj => (hc _).trans (hcell j u hj)⟩
theorem slread_new {W : World} {t : TypeId} (ys : List (BitVec 8)) (cs : Array Value) (h : cs.toList = ints .u8 (bys ys)) : SlRead (W.alloc (.cells cs t)) (some ⟨W.heap.size, 0, none⟩) (ints .u8 (bys ys)) := by
  intro _
  refine ⟨W.heap.size, 0, rfl, by simp, fun j u hj => ?_⟩
  rw [Nat.zero_add, World.cell?_alloc_new, ← hj, ← h, Array.getElem?_toList]
end Go.Proofs.YtplmliomhpgfpaaDoor
