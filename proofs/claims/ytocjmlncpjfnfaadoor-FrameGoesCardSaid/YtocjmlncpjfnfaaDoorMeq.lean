import Derived.Test.YtocjmlncpjfnfaaDoorSl
namespace Go.Proofs.YtocjmlncpjfnfaaDoor
open Go.RowKit

theorem n8_nat (x : BitVec 8) : n8 x = (x.toNat : Int) := by
  unfold n8 n32
  simp only [BitVec.toNat_setWidth]
  have := x.isLt
  omega
theorem n8_xor (x y : BitVec 8) : bits .xor .u8 (n8 x) (n8 y) = n8 (x ^^^ y) := by
  rw [u8_xor _ _ (n8_lo _) (n8_hi _) (n8_lo _) (n8_hi _), n8_nat, n8_nat, n8_nat, BitVec.toNat_xor]
  simp
theorem n8_or (x y : BitVec 8) : bits .or .u8 (n8 x) (n8 y) = n8 (x ||| y) := by
  rw [u8_or _ _ (n8_lo _) (n8_hi _) (n8_lo _) (n8_hi _), n8_nat, n8_nat, n8_nat, BitVec.toNat_or]
  simp
theorem n8_zero (x : BitVec 8) : (n8 x == 0) = decide (x = 0#8) := by
  rw [n8_nat, Bool.eq_iff_iff]
  simp only [beq_iff_eq, decide_eq_true_eq]
  constructor
  · intro h
    apply BitVec.eq_of_toNat_eq
    simpa using h
  · intro h; subst h; rfl
theorem or_zero (x y z : BitVec 8) : (x ||| (y ^^^ z)) = 0#8 ↔ x = 0#8 ∧ y = z := by
  constructor
  · intro h
    have h1 : x = 0#8 := by
      apply BitVec.eq_of_getLsbD_eq
      intro i hi
      have := congrArg (·.getLsbD i) h
      simp at this ⊢
      simp [this]
    refine ⟨h1, ?_⟩
    subst h1
    apply BitVec.eq_of_getLsbD_eq
    intro i hi
    have := congrArg (·.getLsbD i) h
    simpa using this
  · rintro ⟨rfl, rfl⟩; simp

def SameN (xs ys : List (BitVec 8)) (k : Nat) : Prop := ∀ j, j < k → xs[j]? = ys[j]?

theorem SlRead.byte {w : World} {A : Option Addr} {xs : List (BitVec 8)} (h : SlRead w A (ints .u8 (bys xs))) {j : Nat} (hj : j < xs.length) :
    ∃ b o, A = some ⟨b, o, none⟩ ∧ w.cell? ⟨b, o + j, none⟩ = some (v8 xs[j]) := by
  obtain ⟨b, o, rfl, _, hc⟩ := h (by simp; omega)
  exact ⟨b, o, rfl, hc j _ (by rw [bys_ints]; simp [hj])⟩

end Go.Proofs.YtocjmlncpjfnfaaDoor
