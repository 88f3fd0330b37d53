/-
  The arithmetic of Poly1305 over plain numbers: limbs of 26 bits, digits of a byte, the modulus.
-/
namespace Go.Proofs.Ytpkajfkdandhoaa

def p5 : Nat := 1361129467683753853853498429727072845819
/-- the sum of the first n -/
def sm (f : Nat → Nat) : Nat → Nat
  | 0 => 0
  | n + 1 => sm f n + f n
theorem sm_congr {f g : Nat → Nat} : ∀ n, (∀ i, i < n → f i = g i) → sm f n = sm g n
  | 0, _ => rfl
  | n + 1, h => by simp only [sm]; rw [sm_congr n (fun i hi => h i (by omega)), h n (by omega)]
theorem sm_add (f g : Nat → Nat) : ∀ n, sm (fun i => f i + g i) n = sm f n + sm g n
  | 0 => rfl
  | n + 1 => by simp only [sm]; rw [sm_add f g n]; omega
theorem sm_mul (c : Nat) (f : Nat → Nat) : ∀ n, sm (fun i => c * f i) n = c * sm f n
  | 0 => by simp [sm]
  | n + 1 => by simp only [sm]; rw [sm_mul c f n, Nat.mul_add]
theorem sm_le {f : Nat → Nat} {c : Nat} : ∀ n, (∀ i, i < n → f i ≤ c) → sm f n ≤ n * c
  | 0, _ => by simp [sm]
  | n + 1, h => by
    simp only [sm]
    have := sm_le n (fun i hi => h i (by omega))
    have := h n (by omega)
    rw [Nat.succ_mul]; omega
theorem sm_swap (f : Nat → Nat → Nat) (m : Nat) : ∀ n, sm (fun i => sm (fun j => f i j) m) n = sm (fun j => sm (fun i => f i j) n) m
  | 0 => by
    simp only [sm]
    induction m with
    | zero => rfl
    | succ m ih => simp only [sm]; omega
  | n + 1 => by simp only [sm]; rw [sm_swap f m n, ← sm_add]

/-- the number of five limbs -/
def val5 (n : Nat → Nat) : Nat := n 0 + n 1 * 67108864 + n 2 * 4503599627370496 + n 3 * 302231454903657293676544 + n 4 * 20282409603651670423947251286016
def limb (N k : Nat) : Nat := N / 67108864 ^ k % 67108864
theorem limb_lt (N k : Nat) : limb N k < 67108864 := Nat.mod_lt _ (by omega)
theorem val5_limb (N : Nat) (h : N < 1361129467683753853853498429727072845824) : val5 (limb N) = N := by
  simp only [val5, limb, Nat.reducePow]
  omega
theorem limb_val5 (n : Nat → Nat) (h : ∀ i, i < 5 → n i < 67108864) : ∀ k, k < 5 → limb (val5 n) k = n k := by
  have h0 := h 0 (by omega)
  have h1 := h 1 (by omega)
  have h2 := h 2 (by omega)
  have h3 := h 3 (by omega)
  have h4 := h 4 (by omega)
  intro k hk
  simp only [val5, limb]
  rcases k with _ | _ | _ | _ | _ | k
  · simp only [Nat.reducePow]; omega
  · simp only [Nat.zero_add, Nat.reducePow]; omega
  · simp only [Nat.zero_add, Nat.reduceAdd, Nat.reducePow]; omega
  · simp only [Nat.zero_add, Nat.reduceAdd, Nat.reducePow]; omega
  · simp only [Nat.zero_add, Nat.reduceAdd, Nat.reducePow]; omega
  · omega

def updN (s : Nat → Nat) (i x : Nat) : Nat → Nat := fun j => if j = i then x else s j

/-- one pass of the carries: the limbs, the carry -/
def passTo (n : Nat → Nat) : Nat → (Nat → Nat) × Nat
  | 0 => (n, 0)
  | k + 1 => (updN (passTo n k).1 k (((passTo n k).1 k + (passTo n k).2) % 67108864), ((passTo n k).1 k + (passTo n k).2) / 67108864)
def pass (n : Nat → Nat) : Nat → Nat := updN (passTo n 5).1 0 ((passTo n 5).1 0 + 5 * (passTo n 5).2)
theorem passTo_rest (n : Nat → Nat) : ∀ k j, k ≤ j → (passTo n k).1 j = n j
  | 0, _, _ => rfl
  | k + 1, j, h => by simp only [passTo, updN]; rw [if_neg (by omega), passTo_rest n k j (by omega)]
theorem passTo_low (n : Nat → Nat) : ∀ k j, j < k → (passTo n k).1 j < 67108864
  | 0, _, h => by omega
  | k + 1, j, h => by
    simp only [passTo, updN]
    split
    · exact Nat.mod_lt _ (by omega)
    · exact passTo_low n k j (by omega)
theorem passTo_carry (n : Nat → Nat) (M : Nat) (hM : ∀ i, i < 5 → n i ≤ M) : ∀ k, k ≤ 5 → (passTo n k).2 ≤ M / 67108863
  | 0, _ => by simp [passTo]
  | k + 1, h => by
    simp only [passTo]
    have h1 := passTo_carry n M hM k (by omega)
    have h2 := hM k (by omega)
    rw [passTo_rest n k k (Nat.le_refl _)]
    omega
theorem val5_pass (n : Nat → Nat) : val5 (pass n) + p5 * (passTo n 5).2 = val5 n := by
  simp only [pass, passTo, updN, val5, p5]
  simp
  omega
theorem pass_high (n : Nat → Nat) (j : Nat) (h : 0 < j) (hj : j < 5) : pass n j < 67108864 := by
  unfold pass updN
  rw [if_neg (by omega)]
  exact passTo_low n 5 j hj
theorem pass_zero (n : Nat → Nat) : pass n 0 < 67108864 + 5 * (passTo n 5).2 := by
  unfold pass updN
  rw [if_pos rfl]
  have := passTo_low n 5 0 (by omega)
  omega
def carried (n : Nat → Nat) : Nat → Nat := pass (pass n)
theorem carried_mod (n : Nat → Nat) : val5 (carried n) % p5 = val5 n % p5 := by
  have h1 := val5_pass n
  have h2 := val5_pass (pass n)
  unfold carried
  rw [← h1, ← h2]
  rw [Nat.add_mul_mod_self_left, Nat.add_mul_mod_self_left]
/-- limbs that are nearly of 26 bits -/
def Near (n : Nat → Nat) : Prop := n 0 < 67108874 ∧ ∀ i, 0 < i → i < 5 → n i < 67108864
theorem Near.lt {n : Nat → Nat} (h : Near n) (i : Nat) (hi : i < 5) : n i < 67108874 := by
  rcases Nat.eq_zero_or_pos i with rfl | h0
  · exact h.1
  · have := h.2 i h0 hi; omega
theorem carry_small (n : Nat → Nat) (h0 : n 0 ≤ 4503599627370496) (h : ∀ i, 0 < i → i < 5 → n i < 67108864) : (passTo n 5).2 ≤ 1 := by
  have h1 := h 1 (by omega) (by omega)
  have h2 := h 2 (by omega) (by omega)
  have h3 := h 3 (by omega) (by omega)
  have h4 := h 4 (by omega) (by omega)
  simp only [passTo, updN]
  simp
  omega
theorem carried_near (n : Nat → Nat) (h : ∀ i, i < 5 → n i ≤ 9223372036854775807) : Near (carried n) := by
  have c1 := passTo_carry n _ h 5 (by omega)
  have z := pass_zero n
  have s := carry_small (pass n) (by omega) (fun i h0 hi => pass_high n i h0 hi)
  refine ⟨?_, fun i h0 hi => pass_high _ i h0 hi⟩
  have := pass_zero (pass n)
  unfold carried
  omega

/-- the least number: behind both passes, with 5 more -/
theorem carried_low (n : Nat → Nat) (h : Near n) : val5 (carried n) < 1361129467683753853853498429727072845824 ∧ ∀ i, i < 5 → carried n i < 67108864 := by
  have hh0 := h.1
  have h1 := h.2 1 (by omega) (by omega)
  have h2 := h.2 2 (by omega) (by omega)
  have h3 := h.2 3 (by omega) (by omega)
  have h4 := h.2 4 (by omega) (by omega)
  have c1 := carry_small n (by omega) h.2
  have hv : val5 n < 2 * p5 := by unfold val5 p5; omega
  have e1 := val5_pass n
  have hz := pass_zero n
  have hh := fun i h0 hi => pass_high n i h0 hi
  have hall : ∀ i, i < 5 → pass n i < 67108864 := by
    intro i hi
    rcases Nat.eq_zero_or_pos i with rfl | hp
    · rcases Nat.eq_zero_or_pos (passTo n 5).2 with e | e
      · rw [e] at hz; omega
      · have e2 : (passTo n 5).2 = 1 := by omega
        rw [e2] at e1
        have a1 := hh 1 (by omega) (by omega)
        have : val5 (pass n) < p5 := by omega
        have hvn : val5 n < 1361129467683753853853498429727072845824 + 10 := by unfold val5; omega
        have : val5 (pass n) < 15 := by unfold p5 at e1; omega
        unfold val5 at this; omega
    · exact hh i hp hi
  have hlt : val5 (pass n) < 1361129467683753853853498429727072845824 := by
    have a0 := hall 0 (by omega)
    have a1 := hall 1 (by omega)
    have a2 := hall 2 (by omega)
    have a3 := hall 3 (by omega)
    have a4 := hall 4 (by omega)
    unfold val5; omega
  have c2 : (passTo (pass n) 5).2 = 0 := by
    have a0 := hall 0 (by omega)
    have a1 := hall 1 (by omega)
    have a2 := hall 2 (by omega)
    have a3 := hall 3 (by omega)
    have a4 := hall 4 (by omega)
    simp only [passTo, updN]
    simp
    omega
  have e2 := val5_pass (pass n)
  have z2 := pass_zero (pass n)
  rw [c2] at e2 z2
  refine ⟨by unfold carried; omega, fun i hi => ?_⟩
  rcases Nat.eq_zero_or_pos i with rfl | hp
  · unfold carried; omega
  · exact pass_high _ i hp hi

/-- the products, one by one -/
def mix (k : Nat) : Nat := if k / 5 + k % 5 < 5 then k / 5 + k % 5 else k / 5 + k % 5 - 5
def mterm (n m : Nat → Nat) (k : Nat) : Nat := if k / 5 + k % 5 < 5 then n (k / 5) * m (k % 5) else 5 * n (k / 5) * m (k % 5)
def mulTo (n m : Nat → Nat) (k t : Nat) : Nat := sm (fun k => if mix k = t then mterm n m k else 0) k
theorem mulTo_succ (n m : Nat → Nat) (k : Nat) : mulTo n m (k + 1) = updN (mulTo n m k) (mix k) (mulTo n m k (mix k) + mterm n m k) := by
  funext t
  unfold updN
  show mulTo n m k t + (if mix k = t then mterm n m k else 0) = _
  by_cases h : t = mix k
  · rw [if_pos h.symm, if_pos h, h]
  · rw [if_neg (fun e => h e.symm), if_neg h, Nat.add_zero]
theorem mulTo_le (n m : Nat → Nat) (X : Nat) (h : ∀ i j, i < 5 → j < 5 → n i * m j ≤ X) (k : Nat) (hk : k ≤ 25) (t : Nat) : mulTo n m k t ≤ k * (5 * X) := by
  unfold mulTo
  refine sm_le k fun i hi => ?_
  have hp := h (i / 5) (i % 5) (by omega) (by omega)
  unfold mterm
  split
  · split
    · omega
    · rw [Nat.mul_assoc 5 (n (i / 5)) (m (i % 5))]; omega
  · omega
theorem mterm_le (n m : Nat → Nat) (X : Nat) (h : ∀ i j, i < 5 → j < 5 → n i * m j ≤ X) (k : Nat) (hk : k < 25) : mterm n m k ≤ 5 * X := by
  have hp := h (k / 5) (k % 5) (by omega) (by omega)
  unfold mterm
  split
  · omega
  · rw [Nat.mul_assoc 5 (n (k / 5)) (m (k % 5))]; omega
theorem val5_row (a : Nat) (m : Nat → Nat) : a * val5 m = a * m 0 + a * m 1 * 67108864 + a * m 2 * 4503599627370496 + a * m 3 * 302231454903657293676544 + a * m 4 * 20282409603651670423947251286016 := by
  unfold val5
  simp only [Nat.mul_add, ← Nat.mul_assoc]
theorem val5_col (n : Nat → Nat) (V : Nat) : val5 n * V = n 0 * V + n 1 * V * 67108864 + n 2 * V * 4503599627370496 + n 3 * V * 302231454903657293676544 + n 4 * V * 20282409603651670423947251286016 := by
  unfold val5
  rw [Nat.add_mul, Nat.add_mul, Nat.add_mul, Nat.add_mul, Nat.mul_right_comm (n 1), Nat.mul_right_comm (n 2), Nat.mul_right_comm (n 3), Nat.mul_right_comm (n 4)]
theorem five_mul (x y : Nat) : 5 * x * y = 5 * (x * y) := Nat.mul_assoc 5 x y
theorem out0 (n m : Nat → Nat) : mulTo n m 25 0 = n 0 * m 0 + 5 * (n 1 * m 4) + 5 * (n 2 * m 3) + 5 * (n 3 * m 2) + 5 * (n 4 * m 1) := by
  simp [mulTo, sm, mix, mterm, five_mul]
theorem out1 (n m : Nat → Nat) : mulTo n m 25 1 = n 0 * m 1 + n 1 * m 0 + 5 * (n 2 * m 4) + 5 * (n 3 * m 3) + 5 * (n 4 * m 2) := by
  simp [mulTo, sm, mix, mterm, five_mul]
theorem out2 (n m : Nat → Nat) : mulTo n m 25 2 = n 0 * m 2 + n 1 * m 1 + n 2 * m 0 + 5 * (n 3 * m 4) + 5 * (n 4 * m 3) := by
  simp [mulTo, sm, mix, mterm, five_mul]
theorem out3 (n m : Nat → Nat) : mulTo n m 25 3 = n 0 * m 3 + n 1 * m 2 + n 2 * m 1 + n 3 * m 0 + 5 * (n 4 * m 4) := by
  simp [mulTo, sm, mix, mterm, five_mul]
theorem out4 (n m : Nat → Nat) : mulTo n m 25 4 = n 0 * m 4 + n 1 * m 3 + n 2 * m 2 + n 3 * m 1 + n 4 * m 0 := by
  simp [mulTo, sm, mix, mterm]
theorem val5_mul (n m : Nat → Nat) : val5 n * val5 m = val5 (mulTo n m 25) + p5 * (n 1 * m 4 + n 2 * m 3 + n 3 * m 2 + n 4 * m 1 + 67108864 * (n 2 * m 4 + n 3 * m 3 + n 4 * m 2) + 4503599627370496 * (n 3 * m 4 + n 4 * m 3) + 302231454903657293676544 * (n 4 * m 4)) := by
  have hv : val5 (mulTo n m 25) = _ := rfl
  rw [val5_col, val5_row, val5_row, val5_row, val5_row, val5_row]
  unfold val5 p5
  rw [out0, out1, out2, out3, out4]
  clear hv
  generalize n 0 * m 0 = a00
  generalize n 0 * m 1 = a01
  generalize n 0 * m 2 = a02
  generalize n 0 * m 3 = a03
  generalize n 0 * m 4 = a04
  generalize n 1 * m 0 = a10
  generalize n 1 * m 1 = a11
  generalize n 1 * m 2 = a12
  generalize n 1 * m 3 = a13
  generalize n 1 * m 4 = a14
  generalize n 2 * m 0 = a20
  generalize n 2 * m 1 = a21
  generalize n 2 * m 2 = a22
  generalize n 2 * m 3 = a23
  generalize n 2 * m 4 = a24
  generalize n 3 * m 0 = a30
  generalize n 3 * m 1 = a31
  generalize n 3 * m 2 = a32
  generalize n 3 * m 3 = a33
  generalize n 3 * m 4 = a34
  generalize n 4 * m 0 = a40
  generalize n 4 * m 1 = a41
  generalize n 4 * m 2 = a42
  generalize n 4 * m 3 = a43
  generalize n 4 * m 4 = a44
  omega
theorem mul_mod5 (n m : Nat → Nat) : val5 (mulTo n m 25) % p5 = val5 n * val5 m % p5 := by
  rw [val5_mul, Nat.add_mul_mod_self_left]
end Go.Proofs.Ytpkajfkdandhoaa
