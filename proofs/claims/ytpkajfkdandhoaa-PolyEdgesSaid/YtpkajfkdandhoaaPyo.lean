import Derived.Test.YtpkajfkdandhoaaPyn
import Derived.Test.YtpkajfkdandhoaaPym
/-
  A byte more among limbs of 26 bits.
-/
namespace Go.Proofs.Ytpkajfkdandhoaa
theorem or_add (a y s : Nat) (h : a < 2 ^ s) (hd : y % 2 ^ s = 0) : a ||| y = a + y := by
  have e : y = 2 ^ s * (y / 2 ^ s) := by
    have := Nat.div_add_mod y (2 ^ s); omega
  rw [e, Nat.or_comm, ← Nat.two_pow_add_eq_or_of_lt h]
  omega
/-- the limbs with a byte more -/
def withByte (F : Nat → Nat) (k x : Nat) : Nat → Nat :=
  updN (updN F (8 * k / 26) (F (8 * k / 26) ||| x * 2 ^ (8 * k % 26) % 67108864)) (8 * k / 26 + 1) (F (8 * k / 26 + 1) ||| x * 2 ^ (8 * k % 26) / 67108864)
theorem limb_low (N k : Nat) (hN : N < 256 ^ k) : limb N (8 * k / 26) < 2 ^ (8 * k % 26) := by
  have e : 67108864 ^ (8 * k / 26) * 2 ^ (8 * k % 26) = 256 ^ k := by
    rw [show 67108864 = 2 ^ 26 from rfl, ← Nat.pow_mul, ← Nat.pow_add, show 256 = 2 ^ 8 from rfl, ← Nat.pow_mul]
    congr 1; omega
  have : N / 67108864 ^ (8 * k / 26) < 2 ^ (8 * k % 26) := Nat.div_lt_of_lt_mul (by rw [e]; exact hN)
  unfold limb
  exact Nat.lt_of_le_of_lt (Nat.mod_le _ _) this
theorem limb_high (N k j : Nat) (hN : N < 256 ^ k) (hj : 8 * k / 26 < j) : limb N j = 0 := by
  have e : 256 ^ k ≤ 67108864 ^ j := by
    rw [show 67108864 = 2 ^ 26 from rfl, ← Nat.pow_mul, show 256 = 2 ^ 8 from rfl, ← Nat.pow_mul]
    exact Nat.pow_le_pow_right (by omega) (by omega)
  unfold limb
  rw [Nat.div_eq_of_lt (Nat.lt_of_lt_of_le hN e)]
theorem mul_low (x s : Nat) (hs : s ≤ 26) : x * 2 ^ s % 67108864 % 2 ^ s = 0 := by
  have e : 67108864 = 2 ^ s * 2 ^ (26 - s) := by rw [← Nat.pow_add, show s + (26 - s) = 26 by omega]
  rw [e, Nat.mul_comm x, Nat.mul_mod_mul_left, Nat.mul_mod_right]
theorem limb_with (N k x : Nat) (hN : N < 256 ^ k) (hx : x < 256) (hk : k < 17) (h16 : k = 16 → x < 4) : ∀ i, i < 5 → limb (N + x * 256 ^ k) i = withByte (limb N) k x i := by
  intro i hi
  have a1 := limb_low N k hN
  have a2 := limb_high N k (8 * k / 26 + 1) hN (by omega)
  have e0 : ∀ j, 8 * k / 26 < j → limb N j = 0 := fun j h => limb_high N k j hN h
  have e1 := or_add _ (x * 2 ^ (8 * k % 26) % 67108864) _ a1 (mul_low x (8 * k % 26) (by omega))
  unfold withByte
  rw [e1, a2, Nat.zero_or]
  clear e1 a2
  by_cases h1 : i = 8 * k / 26 + 1
  · subst h1
    rw [show updN _ (8 * k / 26 + 1) (x * 2 ^ (8 * k % 26) / 67108864) (8 * k / 26 + 1) = x * 2 ^ (8 * k % 26) / 67108864 by simp [updN]]
    rcases k with _ | _ | _ | _ | _ | _ | _ | _ | _ | _ | _ | _ | _ | _ | _ | _ | _ | k
    all_goals first | omega | (simp only [limb, Nat.reduceMul, Nat.reduceAdd, Nat.reduceDiv, Nat.reduceMod, Nat.reducePow, Nat.zero_add, Nat.mul_zero, Nat.zero_div, Nat.zero_mod] at hN a1 ⊢; omega)
  · by_cases h2 : i = 8 * k / 26
    · subst h2
      rw [show updN (updN (limb N) (8 * k / 26) (limb N (8 * k / 26) + x * 2 ^ (8 * k % 26) % 67108864)) (8 * k / 26 + 1) (x * 2 ^ (8 * k % 26) / 67108864) (8 * k / 26) = limb N (8 * k / 26) + x * 2 ^ (8 * k % 26) % 67108864 by simp [updN]]
      rcases k with _ | _ | _ | _ | _ | _ | _ | _ | _ | _ | _ | _ | _ | _ | _ | _ | _ | k
      all_goals first | omega | (simp only [limb, Nat.reduceMul, Nat.reduceAdd, Nat.reduceDiv, Nat.reduceMod, Nat.reducePow, Nat.zero_add, Nat.mul_zero, Nat.zero_div, Nat.zero_mod] at hN a1 ⊢; omega)
    · rw [show updN (updN (limb N) (8 * k / 26) (limb N (8 * k / 26) + x * 2 ^ (8 * k % 26) % 67108864)) (8 * k / 26 + 1) (x * 2 ^ (8 * k % 26) / 67108864) i = limb N i by unfold updN; rw [if_neg h1, if_neg h2]]
      by_cases h3 : 8 * k / 26 < i
      · rw [e0 i h3]
        have : N + x * 256 ^ k < 67108864 ^ i := by
          have e : 67108864 ^ (8 * k / 26 + 2) ≤ 67108864 ^ i := Nat.pow_le_pow_right (by omega) (by omega)
          have e2 : 256 ^ k * 256 ≤ 67108864 ^ (8 * k / 26 + 2) := by
            rw [show 67108864 = 2 ^ 26 from rfl, ← Nat.pow_mul, show 256 = 2 ^ 8 from rfl, ← Nat.pow_mul, ← Nat.pow_add]
            exact Nat.pow_le_pow_right (by omega) (by omega)
          have e3 : x * 256 ^ k ≤ 255 * 256 ^ k := Nat.mul_le_mul_right _ (by omega)
          omega
        unfold limb
        rw [Nat.div_eq_of_lt this]
      · rcases k with _ | _ | _ | _ | _ | _ | _ | _ | _ | _ | _ | _ | _ | _ | _ | _ | _ | k
        all_goals first | omega | (rcases i with _ | _ | _ | _ | _ | i <;> first | omega | (simp only [limb, Nat.reduceAdd, Nat.reducePow, Nat.zero_add] at hN ⊢; omega))
end Go.Proofs.Ytpkajfkdandhoaa
