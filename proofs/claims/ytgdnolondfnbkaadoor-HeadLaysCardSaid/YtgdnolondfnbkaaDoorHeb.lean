import Derived.Test.YtgdnolondfnbkaaDoorHea
/-
  head.Read's function within.
-/
namespace Go.Proofs.YtgdnolondfnbkaaDoor
open Go.RowKit

/-- a header's row, which is turned -/
structure HdM (w : World) (H : Nat) (dh : List Int) (pn n : Int) : Prop where
  r : w.rangeAt H 0 (hdC dh pn n)
  f : ∀ o, w.frozen? ⟨H, o, none⟩ = false
  l : dh.length = 32
/-- what is told of so many bytes -/
def hdO (k : Nat) : Option (Nat × Int) := if k < 32 then some (2, 0) else if k < 36 then some (2, 32) else if k < 40 then some (2, 36) else if k = 40 then none else some (3, 40)
/-- what Read knows behind it -/
def PH (H : Nat) (xs : List Int) (o : Option (Nat × Int)) (V : World) : Prop := o = hdO xs.length ∧ (xs.length = 40 → HdM V H (xs.take 32) (wordI xs 32) (wordI xs 36))
theorem hdC_len (dh : List Int) (pn n : Int) (h : dh.length = 32) : (hdC dh pn n).length = 34 := by simp [hdC, h]
theorem HdM.lt {w : World} {H : Nat} {dh : List Int} {pn n : Int} (h : HdM w H dh pn n) : H < w.heap.size := range_lt h.r (by rw [hdC_len _ _ _ h.l]; omega)
theorem HdM.turn {F : Nat → Prop} {w w' : World} {H : Nat} {dh : List Int} {pn n : Int} (h : HdM w H dh pn n) (ht : Turn F w w') (hF : ¬ F H) : HdM w' H dh pn n :=
  ⟨ht.range h.r h.lt hF, fun o => (World.frozen?_of_block (ht.block H h.lt hF)).trans (h.f o), h.l⟩
theorem HdM.there {w : World} {H : Nat} {dh : List Int} {pn n : Int} (h : HdM w H dh pn n) (k : Nat) (hk : k ≤ 34) : w.there H 0 k := fun j hj => by
  refine ⟨?_, h.f _⟩
  have hl : j < (hdC dh pn n).length := by rw [hdC_len _ _ _ h.l]; omega
  rw [h.r j _ (List.getElem?_eq_getElem hl)]
  rfl
/-- its key, laid anew -/
theorem HdM.key {w : World} {H : Nat} {dh : List Int} {pn n : Int} (h : HdM w H dh pn n) (ks : List Int) (hk : ks.length = 32) : HdM (w.setCells H 0 (ints .u8 ks)) H ks pn n ∧ Turn (· = H) w (w.setCells H 0 (ints .u8 ks)) := by
  have hil : (ints .u8 ks).length = 32 := by rw [ints_length, hk]
  refine ⟨⟨fun j v hv => ?_, fun o => by rw [World.frozen?_setCells]; exact h.f o, hk⟩, Turn.of_grown (grown_setCells w H 0 _) (fun k hk => (Option.some.inj hk).symm)⟩
  rcases Nat.lt_or_ge j 32 with hj | hj
  · have h1 : (ints .u8 ks)[j]? = some v := by rw [← hv, hdC, List.getElem?_append_left (by omega)]
    exact World.rangeAt_setCells_same w H 0 _ (by rw [hil]; exact h.there 32 (by omega)) j v h1
  · rw [World.cell?_setCells_out H _ _ _ _ (fun _ _ => by right; show 0 + _ ≤ 0 + j; omega)]
    refine h.r j v ?_
    have hil2 : (ints .u8 dh).length = 32 := by rw [ints_length, h.l]
    rw [← hv, hdC, hdC, List.getElem?_append_right (by omega), List.getElem?_append_right (by omega), hil, hil2]
/-- a word of it, laid anew -/
theorem HdM.word {w : World} {H : Nat} {dh : List Int} {pn n pn' n' : Int} (h : HdM w H dh pn n) (k : Nat) (v : Int) (hk : (k = 32 ∧ pn' = v ∧ n' = n) ∨ (k = 33 ∧ pn' = pn ∧ n' = v)) : HdM (w.setCell ⟨H, k, none⟩ (.int .u32 v)) H dh pn' n' ∧ Turn (· = H) w (w.setCell ⟨H, k, none⟩ (.int .u32 v)) := by
  have hil : (ints .u8 dh).length = 32 := by rw [ints_length, h.l]
  have hcell : ∀ u, (hdC dh pn n)[k]? = some u → w.cell? ⟨H, k, none⟩ = some u := fun u hu => by have := h.r k u hu; rwa [Nat.zero_add] at this
  refine ⟨⟨fun j u hu => ?_, fun o => by rw [frozen_setCell]; exact h.f o, h.l⟩, Turn.of_grown (grown_setCell w _ _) (fun k hk => (Option.some.inj hk).symm)⟩
  rw [Nat.zero_add]
  by_cases hj : j = k
  · subst hj
    have hl : j < (hdC dh pn n).length := by rw [hdC_len _ _ _ h.l]; omega
    rw [World.cell?_setCell_same w _ _ (hcell _ (List.getElem?_eq_getElem hl)), ← hu]
    rcases hk with ⟨rfl, rfl, rfl⟩ | ⟨rfl, rfl, rfl⟩
    · rw [hdC, List.getElem?_append_right (by omega), hil]; rfl
    · rw [hdC, List.getElem?_append_right (by omega), hil]; rfl
  · rw [World.cell?_setCell_other _ _ _ _ (by intro e; have := congrArg Addr.off e; simp at this; omega)]
    have h1 := h.r j u
    rw [Nat.zero_add] at h1
    refine h1 ?_
    rw [← hu, hdC, hdC]
    rcases Nat.lt_or_ge j 32 with hj2 | hj2
    · rw [List.getElem?_append_left (by omega), List.getElem?_append_left (by omega)]
    · rw [List.getElem?_append_right (by omega), List.getElem?_append_right (by omega), hil]
      rcases hk with ⟨rfl, rfl, rfl⟩ | ⟨rfl, rfl, rfl⟩
      · rcases Nat.lt_or_ge j 34 with h4 | h4
        · obtain rfl : j = 33 := by omega
          rfl
        · rw [List.getElem?_eq_none (by simp; omega), List.getElem?_eq_none (by simp; omega)]
      · obtain rfl | h4 : j = 32 ∨ 34 ≤ j := by omega
        · rfl
        · rw [List.getElem?_eq_none (by simp; omega), List.getElem?_eq_none (by simp; omega)]
end Go.Proofs.YtgdnolondfnbkaaDoor
