import Derived.Test.YtplennobcbmccaaDoorBits2
namespace Go.Proofs.YtplennobcbmccaaDoor
open Go.RowKit

theorem IsMap.below {w w' : World} {b a : Nat} {l : List Bool} {B : Nat} (h : IsMap w b a l) (hb : Below B w w') (ha : a < B) (hbb : b < B) : IsMap w' b a l :=
  ⟨h.st.of_block (hb.block _ hbb), h.row.of_block (hb.block _ ha), h.ne, h.hl⟩

/-- what one map keeps beside another -/
theorem IsMap.below' {w w' : World} {b a : Nat} {l : List Bool} (h : IsMap w b a l) (hb : Below w.heap.size w w') : IsMap w' b a l :=
  h.below hb h.row.lt h.st.lt

def Could (l : List Bool) (i : Int) : Prop := 0 ≤ i ∧ i < l.length ∧ l.getD i.toNat false = false
instance (l : List Bool) (i : Int) : Decidable (Could l i) := by unfold Could; infer_instance

/-- what Set leaves -/
def SetPost (w : World) (b a : Nat) (l : List Bool) (i : Int) (e : Ending) (w' : World) : Prop :=
  e = .returned (.bool (decide (Could l i))) ∧ IsMap w' b a (if Could l i then l.set i.toNat true else l) ∧ ∀ B, B ≤ a → B ≤ b → Below B w w'

theorem set_any (b a : Nat) (l : List Bool) (i : Int) (w : World) (h : IsMap w b a l) :
    Calls Tryd.prog 11 #[.pointer (some ⟨b, 0, none⟩), .int .i64 i] w (SetPost w b a l i) := by
  by_cases hc : Could l i
  · obtain ⟨h1, h2, h3⟩ := id hc
    obtain ⟨k, rfl⟩ := Int.eq_ofNat_of_zero_le h1
    refine (set_yes b a l k w h (by omega) (by simpa using h3)).mono ?_
    rintro e w' ⟨rfl, m, rfl⟩
    refine ⟨by simp [hc], ?_, fun B hBa hBb => ?_⟩
    · rw [if_pos hc]
      exact (h.drewN m).set k (by omega) (by simpa using h3)
    · exact ((Below.drewNr m).setCell hBa _).setCell hBb _
  · refine (set_no b a l i w h hc).mono ?_
    rintro e w' ⟨rfl, m, rfl⟩
    refine ⟨by simp [hc], ?_, fun B _ _ => Below.drewNr m⟩
    rw [if_neg hc]
    exact h.drewN m

theorem SetPost.yes {w : World} {b a : Nat} {l : List Bool} {k : Nat} {e : Ending} {w' : World} (h : SetPost w b a l k e w') (hk : k < l.length) (hf : l.getD k false = false) :
    e = .returned (.bool true) ∧ IsMap w' b a (l.set k true) ∧ ∀ B, B ≤ a → B ≤ b → Below B w w' := by
  have hc : Could l k := ⟨by omega, by omega, by simpa using hf⟩
  obtain ⟨h1, h2, h3⟩ := h
  rw [if_pos hc] at h2
  exact ⟨by simpa [hc] using h1, by simpa using h2, h3⟩

theorem SetPost.no {w : World} {b a : Nat} {l : List Bool} {i : Int} {e : Ending} {w' : World} (h : SetPost w b a l i e w') (hc : ¬ Could l i) :
    e = .returned (.bool false) ∧ IsMap w' b a l ∧ ∀ B, B ≤ a → B ≤ b → Below B w w' := by
  obtain ⟨h1, h2, h3⟩ := h
  rw [if_neg hc] at h2
  exact ⟨by simpa [hc] using h1, h2, h3⟩

theorem trues_le (l : List Bool) : trues l ≤ l.length := List.countP_le_length

theorem exists_false (l : List Bool) (h : trues l < l.length) : ∃ j, j < l.length ∧ l.getD j true = false := by
  refine Classical.byContradiction fun hn => ?_
  have : trues l = l.length := by
    unfold trues
    rw [List.countP_eq_length]
    intro x hx
    obtain ⟨j, hj, rfl⟩ := List.mem_iff_getElem.1 hx
    cases e : l[j] with
    | true => rfl
    | false => exact absurd ⟨j, hj, by simp [hj, e]⟩ hn
  omega

theorem exists_next (l : List Bool) (s : Nat) (h : trues l < l.length) : ∃ d, NextAt l s d := by
  obtain ⟨j, hj, hf⟩ := exists_false l h
  have hp : ∃ d, l.getD ((s + d) % l.length) true = false := by
    refine ⟨j + l.length - s % l.length, ?_⟩
    have h1 := Nat.mod_lt s (show 0 < l.length by omega)
    have : (s + (j + l.length - s % l.length)) % l.length = j := by
      have h2 := Nat.div_add_mod s l.length
      have : s + (j + l.length - s % l.length) = j + l.length * (s / l.length + 1) := by
        rw [Nat.mul_add]; omega
      rw [this, Nat.add_mul_mod_self_left, Nat.mod_eq_of_lt hj]
    rw [this]; exact hf
  obtain ⟨d, hd, hmin⟩ := Go.exists_least hp
  have hn : 0 < l.length := by omega
  refine ⟨d, ?_, hd, fun i hi => ?_⟩
  · refine Classical.byContradiction fun hge => ?_
    have := hmin (d - l.length) (by
      have e : s + d = (s + (d - l.length)) + l.length := by omega
      rw [e, Nat.add_mod_right] at hd; exact hd)
    omega
  · have hlt := Nat.mod_lt (s + i) hn
    cases e : l.getD ((s + i) % l.length) false with
    | true => rfl
    | false =>
      have := hmin i (by simp [hlt] at e ⊢; exact e)
      omega

end Go.Proofs.YtplennobcbmccaaDoor
