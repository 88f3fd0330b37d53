import Derived.Test.YtpkajfkdandhoaaPym
/-
  The arithmetic of Poly1305 over digits of a byte: seventeen of them, as the document has it.
-/
namespace Go.Proofs.Ytpkajfkdandhoaa

/-- digit t -/
def dg (N t : Nat) : Nat := N / 256 ^ t % 256
theorem dg_lt (N t : Nat) : dg N t < 256 := Nat.mod_lt _ (by omega)
/-- the number of digits -/
def num (h : Nat → Nat) (n : Nat) : Nat := sm (fun t => h t * 256 ^ t) n
theorem num_succ (h : Nat → Nat) (n : Nat) : num h (n + 1) = num h n + h n * 256 ^ n := rfl
theorem pow_pos8 (n : Nat) : 0 < 256 ^ n := Nat.pow_pos (by omega)
theorem num_dg (N : Nat) : ∀ n, num (dg N) n = N % 256 ^ n
  | 0 => by simp [num, sm, Nat.mod_one]
  | n + 1 => by
    rw [num_succ, num_dg N n]
    unfold dg
    rw [Nat.pow_succ, Nat.mod_mul, Nat.mul_comm (256 ^ n)]
theorem num_congr {f g : Nat → Nat} (n : Nat) (h : ∀ i, i < n → f i = g i) : num f n = num g n := sm_congr n fun i hi => by rw [h i hi]
theorem num_lt (h : Nat → Nat) : ∀ n, (∀ i, i < n → h i < 256) → num h n < 256 ^ n
  | 0, _ => by simp [num, sm]
  | n + 1, hh => by
    rw [num_succ, Nat.pow_succ]
    have h1 := num_lt h n (fun i hi => hh i (by omega))
    have h2 := hh n (by omega)
    have : h n * 256 ^ n ≤ 255 * 256 ^ n := Nat.mul_le_mul_right _ (by omega)
    omega
theorem dg_add (A x j t : Nat) (h : t < j) : dg (A + x * 256 ^ j) t = dg A t := by
  obtain ⟨d, rfl⟩ : ∃ d, j = t + 1 + d := ⟨j - t - 1, by omega⟩
  unfold dg
  rw [show x * 256 ^ (t + 1 + d) = 256 ^ t * (256 * (x * 256 ^ d)) by rw [Nat.pow_add, Nat.pow_succ]; simp [Nat.mul_comm, Nat.mul_left_comm, Nat.mul_assoc]]
  rw [Nat.add_mul_div_left _ _ (pow_pos8 t), Nat.add_mul_mod_self_left]
theorem div_add (A x j : Nat) : (A + x * 256 ^ j) / 256 ^ j = A / 256 ^ j + x := by
  rw [Nat.add_mul_div_right _ _ (pow_pos8 j)]
theorem dg_num (h : Nat → Nat) (n t : Nat) (hh : ∀ i, i < n → h i < 256) (ht : t < n) : dg (num h n) t = h t := by
  induction n with
  | zero => omega
  | succ n ih =>
    rw [num_succ]
    by_cases e : t < n
    · rw [dg_add _ _ _ _ e, ih (fun i hi => hh i (by omega)) e]
    · have e2 : t = n := by omega
      subst e2
      unfold dg
      rw [div_add, Nat.div_eq_of_lt (num_lt h t (fun i hi => hh i (by omega))), Nat.zero_add]
      exact Nat.mod_eq_of_lt (hh t (by omega))

/-- sums with a carry: the digits so far, the carry -/
theorem carry_step (f : Nat → Nat) (j : Nat) : (num f j / 256 ^ j + f j) / 256 = num f (j + 1) / 256 ^ (j + 1) ∧ (num f j / 256 ^ j + f j) % 256 = dg (num f (j + 1)) j := by
  rw [num_succ]
  unfold dg
  rw [div_add]
  refine ⟨?_, rfl⟩
  rw [Nat.pow_succ, ← Nat.div_div_eq_div_mul, div_add]
theorem carry_keep (f : Nat → Nat) (j t : Nat) (h : t < j) : dg (num f (j + 1)) t = dg (num f j) t := by rw [num_succ, dg_add _ _ _ _ h]
theorem num_le (f : Nat → Nat) (M : Nat) : ∀ n, (∀ i, i < n → f i ≤ M) → num f n / 256 ^ n ≤ M / 255
  | 0, _ => by simp [num, sm]
  | n + 1, h => by
    have ih := num_le f M n (fun i hi => h i (by omega))
    have := h n (by omega)
    rw [← (carry_step f n).1]
    omega

/-- digits of a number, the last one whole -/
def rep (Y t : Nat) : Nat := if t < 16 then dg Y t else Y / 340282366920938463463374607431768211456
theorem num_rep (Y : Nat) : num (rep Y) 17 = Y := by
  rw [num_succ, num_congr (g := dg Y) 16 (fun i hi => by unfold rep; rw [if_pos hi]), num_dg]
  unfold rep
  simp only [Nat.lt_irrefl, if_false, Nat.reducePow]
  omega

/-- product number i, as far as digit j -/
def prd (h r : Nat → Nat) (i j : Nat) : Nat := sm (fun j => if j ≤ i then h j * r (i - j) else h j * 320 * r (i + 17 - j)) j
theorem prd_le (h r : Nat → Nat) (hh : ∀ i, i < 17 → h i < 256) (hr : ∀ i, i < 17 → r i < 256) (i : Nat) (hi : i < 17) (j : Nat) (hj : j ≤ 17) : prd h r i j ≤ j * 20808000 := by
  unfold prd
  refine sm_le j fun t ht => ?_
  have a := hh t (by omega)
  split
  · have b := hr (i - t) (by omega)
    have : h t * r (i - t) ≤ 255 * 255 := Nat.mul_le_mul (by omega) (by omega)
    omega
  · have b := hr (i + 17 - t) (by omega)
    have : h t * 320 * r (i + 17 - t) ≤ 255 * 320 * 255 := Nat.mul_le_mul (by omega) (by omega)
    omega
def prdN (h r : Nat → Nat) : Nat := num (fun i => prd h r i 17) 17

theorem sm_shift (g : Nat → Nat) : ∀ n, sm g (n + 1) = g 0 + sm (fun i => g (i + 1)) n
  | 0 => by simp [sm]
  | n + 1 => by
    rw [show sm g (n + 1 + 1) = sm g (n + 1) + g (n + 1) from rfl, sm_shift g n]
    simp only [sm]; omega
/-- the key's digits, turned round by j places -/
def turnD (r : Nat → Nat) (j i : Nat) : Nat := if j ≤ i then r (i - j) else 320 * r (i + 17 - j)
theorem pow17 : 256 ^ 17 = p5 * 64 + 320 := by decide +kernel
theorem turn_step (r : Nat → Nat) (j : Nat) (hj : j < 16) : 256 * sm (fun i => turnD r j i * 256 ^ i) 17 = sm (fun i => turnD r (j + 1) i * 256 ^ i) 17 + p5 * (64 * r (16 - j)) := by
  rw [← sm_mul]
  rw [show sm (fun i => 256 * (turnD r j i * 256 ^ i)) 17 = sm (fun i => 256 * (turnD r j i * 256 ^ i)) 16 + 256 * (turnD r j 16 * 256 ^ 16) from rfl]
  rw [sm_shift (fun i => turnD r (j + 1) i * 256 ^ i) 16]
  have e1 : sm (fun i => 256 * (turnD r j i * 256 ^ i)) 16 = sm (fun i => turnD r (j + 1) (i + 1) * 256 ^ (i + 1)) 16 := by
    refine sm_congr 16 fun i _ => ?_
    have : turnD r (j + 1) (i + 1) = turnD r j i := by
      unfold turnD
      by_cases h : j ≤ i
      · rw [if_pos h, if_pos (by omega), show i + 1 - (j + 1) = i - j by omega]
      · rw [if_neg h, if_neg (by omega), show i + 1 + 17 - (j + 1) = i + 17 - j by omega]
    rw [this, Nat.pow_succ, Nat.mul_comm 256, Nat.mul_assoc]
  have e2 : turnD r j 16 = r (16 - j) := by unfold turnD; rw [if_pos (by omega)]
  have e3 : turnD r (j + 1) 0 = 320 * r (16 - j) := by unfold turnD; rw [if_neg (by omega), show 0 + 17 - (j + 1) = 16 - j by omega]
  rw [e1, e2, e3, Nat.mul_comm 256, Nat.mul_assoc, ← Nat.pow_succ, pow17]
  generalize sm (fun i => turnD r (j + 1) (i + 1) * 256 ^ (i + 1)) 16 = s
  generalize r (16 - j) = x
  rw [Nat.mul_add, show x * (p5 * 64) = p5 * (64 * x) by simp [Nat.mul_comm, Nat.mul_left_comm]]
  generalize p5 * (64 * x) = y
  omega
theorem rot_one (r : Nat → Nat) : ∀ j, j < 17 → ∃ K, 256 ^ j * num r 17 = sm (fun i => turnD r j i * 256 ^ i) 17 + p5 * K
  | 0, _ => ⟨0, by
    rw [Nat.pow_zero, Nat.one_mul, Nat.mul_zero, Nat.add_zero]
    unfold num
    exact sm_congr 17 fun i _ => by unfold turnD; rw [if_pos (by omega), Nat.sub_zero]⟩
  | j + 1, h => by
    obtain ⟨K, hK⟩ := rot_one r j (by omega)
    refine ⟨64 * r (16 - j) + 256 * K, ?_⟩
    rw [Nat.pow_succ, Nat.mul_comm (256 ^ j), Nat.mul_assoc, hK, Nat.mul_add, turn_step r j (by omega), Nat.mul_add, Nat.add_assoc]
    congr 2
    simp [Nat.mul_left_comm]

theorem prd_mod (h r : Nat → Nat) : prdN h r % p5 = num h 17 * num r 17 % p5 := by
  obtain ⟨Kf, hK⟩ : ∃ Kf : Nat → Nat, ∀ j, j < 17 → 256 ^ j * num r 17 = sm (fun i => turnD r j i * 256 ^ i) 17 + p5 * Kf j := by
    refine ⟨fun j => if hj : j < 17 then Classical.choose (rot_one r j hj) else 0, fun j hj => ?_⟩
    have := Classical.choose_spec (rot_one r j hj)
    simpa [hj] using this
  have e1 : prdN h r = sm (fun j => h j * sm (fun i => turnD r j i * 256 ^ i) 17) 17 := by
    unfold prdN num prd
    have : ∀ i, sm (fun j => if j ≤ i then h j * r (i - j) else h j * 320 * r (i + 17 - j)) 17 * 256 ^ i = sm (fun j => h j * (turnD r j i * 256 ^ i)) 17 := by
      intro i
      rw [Nat.mul_comm, ← sm_mul]
      refine sm_congr 17 fun j _ => ?_
      unfold turnD
      split <;> simp [Nat.mul_comm, Nat.mul_left_comm, Nat.mul_assoc]
    rw [sm_congr 17 (fun i _ => this i), sm_swap]
    exact sm_congr 17 fun j _ => sm_mul _ _ _
  have e2 : num h 17 * num r 17 = prdN h r + p5 * sm (fun j => h j * Kf j) 17 := by
    rw [e1, ← sm_mul, ← sm_add]
    unfold num
    rw [Nat.mul_comm, ← sm_mul]
    refine sm_congr 17 fun j hj => ?_
    have := hK j hj
    unfold num at this
    rw [show sm (fun t => r t * 256 ^ t) 17 * (h j * 256 ^ j) = h j * (256 ^ j * sm (fun t => r t * 256 ^ t) 17) by simp [Nat.mul_comm, Nat.mul_assoc], this, Nat.mul_add]
    simp [Nat.mul_comm, Nat.mul_left_comm]
  rw [e2, Nat.add_mul_mod_self_left]

/-- what goes beyond 2^130 comes back five times -/
def redu (X : Nat) : Nat := X % 1361129467683753853853498429727072845824 + 5 * (X / 1361129467683753853853498429727072845824)
theorem redu_mod (X : Nat) : redu X % p5 = X % p5 := by
  have : X = redu X + p5 * (X / 1361129467683753853853498429727072845824) := by unfold redu p5; omega
  have h2 : X % p5 = (redu X + p5 * (X / 1361129467683753853853498429727072845824)) % p5 := congrArg (· % p5) this
  rw [h2, Nat.add_mul_mod_self_left]
end Go.Proofs.Ytpkajfkdandhoaa
