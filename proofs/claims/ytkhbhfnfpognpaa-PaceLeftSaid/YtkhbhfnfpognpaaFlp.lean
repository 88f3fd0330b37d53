import Derived.Test.YtkhbhfnfpognpaaFlo
/-
  The quotient of two small whole numbers, written.
-/
namespace Go.Proofs.Ytkhbhfnfpognpaa
open Go.RowKit Ieee

/-- a written fraction: what is kept of it -/
theorem near_frac (mag lam drop s A : Nat) (hlam : lam = drop + 52) (hd : 1 ≤ drop ∧ drop ≤ 3) (hs : 2 ≤ s ∧ s ≤ 60) (g1 : 2 ^ lam ≤ mag) (g2 : mag < 2 ^ (lam + 1)) (h2 : mag ≤ A * 2 ^ drop) (B : Nat) (h1 : B * 2 ^ drop + 8 ≤ mag) :
    ∃ K, B < K ∧ K ≤ A ∧ ((FloatKind.f64.format.read (FloatKind.f64.format.nearest false mag (-(s : Int) - drop)) = .number false K (-(s : Int)) ∧ K < 9007199254740992) ∨ (K = 9007199254740992 ∧ FloatKind.f64.format.read (FloatKind.f64.format.nearest false mag (-(s : Int) - drop)) = .number false 4503599627370496 (-((s - 1 : Nat) : Int)))) := by
  have hl := log_is mag lam g1 g2
  have hp : 0 < 2 ^ lam := Nat.pow_pos (by omega)
  have hdl : drop ≤ mag.log2 + 2 := by rw [hl]; omega
  have hpd : 2 ^ drop ≤ 2 ^ 3 := Nat.pow_le_pow_right (by omega) hd.2
  have hpp : 0 < 2 ^ drop := Nat.pow_pos (by omega)
  have k1 : B < Toward.even.cut false mag drop := by
    refine Nat.lt_of_lt_of_le ?_ (even_ge mag drop hdl)
    have : B + 1 ≤ mag / 2 ^ drop := (Nat.le_div_iff_mul_le hpp).2 (by rw [Nat.add_mul]; omega)
    omega
  have k2 := even_le mag drop A hdl h2
  have k3 : 4503599627370496 ≤ Toward.even.cut false mag drop := by
    refine Nat.le_trans ?_ (even_ge mag drop hdl)
    refine (Nat.le_div_iff_mul_le hpp).2 ?_
    rw [hlam, Nat.pow_add, Nat.mul_comm] at g1
    exact g1
  have k4 : Toward.even.cut false mag drop ≤ 9007199254740992 := by
    refine even_le mag drop _ hdl ?_
    rw [hlam, show drop + 52 + 1 = 53 + drop by omega, Nat.pow_add] at g2
    exact Nat.le_of_lt g2
  have hm : max (-(s : Int) - drop + (lam : Int) - ((52 : Nat) : Int)) (-1074) = -(s : Int) := by omega
  have a1 : (-(s : Int) - drop - (-(s : Int))).toNat = 0 := by omega
  have a2 : (-(s : Int) - (-(s : Int) - drop)).toNat = drop := by omega
  have a3 : (-(s : Int) - (-1074)).toNat = 1074 - s := by omega
  have hn : FloatKind.f64.format.nearest false mag (-(s : Int) - drop) = (1074 - s) * 4503599627370496 + Toward.even.cut false mag drop := by
    unfold Format.nearest
    rw [if_neg (by omega)]
    simp only [hl, ffb, flp, fbi, fif]
    rw [hm, a1, a2, a3, Nat.shiftLeft_zero]
    unfold Format.word
    simp only [Bool.false_eq_true, if_false]
    clear a1 a2 a3 hm hl hp g1 g2 h1 h2 k1 k2 hdl hpd hpp hlam
    generalize Toward.even.cut false mag drop = C at *
    exact Nat.min_eq_left (by omega)
  rw [hn]
  clear hn a1 a2 a3 hm hl hp g1 g2 h1 h2 hdl hpd hpp hlam
  generalize Toward.even.cut false mag drop = K at *
  refine ⟨K, k1, k2, ?_⟩
  by_cases hK : K < 9007199254740992
  · left
    have e : -1074 + ((1074 - s : Nat) : Int) = -(s : Int) := by omega
    rw [read_pos (1074 - s) K (by omega) k3 hK, e]
    exact ⟨rfl, hK⟩
  · right
    have hK2 : K = 9007199254740992 := by omega
    have e : -1074 + ((1074 - s + 1 : Nat) : Int) = -((s - 1 : Nat) : Int) := by omega
    have e2 : (1074 - s) * 4503599627370496 + K = (1074 - s + 1) * 4503599627370496 + 4503599627370496 := by omega
    rw [e2, read_pos (1074 - s + 1) 4503599627370496 (by omega) (by omega) (by omega), e]
    exact ⟨hK2, rfl⟩
theorem tick_frac (mag lam drop s c : Nat) (hlam : lam = drop + 52) (hd : 1 ≤ drop ∧ drop ≤ 3) (hs : 2 ≤ s ∧ s ≤ 60) (g1 : 2 ^ lam ≤ mag) (g2 : mag < 2 ^ (lam + 1)) (hc : 0 < c) (hc2 : c < 65536) (h2 : mag ≤ c * 2 ^ (s + drop)) (h1 : (c - 1) * 2 ^ (s + drop) + 8 ≤ mag) :
    tickF (FloatKind.f64.format.nearest false mag (-(s : Int) - drop)) = c := by
  obtain ⟨K, k1, k2, ⟨hr, hK⟩ | ⟨hK, hr⟩⟩ := near_frac mag lam drop s (c * 2 ^ s) hlam hd hs g1 g2 (by rw [Nat.mul_assoc, ← Nat.pow_add]; exact h2) ((c - 1) * 2 ^ s) (by rw [Nat.mul_assoc, ← Nat.pow_add]; exact h1)
  · exact tick_num _ K s c hr hK hc hc2 k1 k2
  · obtain ⟨u, rfl⟩ : ∃ u, s = u + 1 := ⟨s - 1, by omega⟩
    rw [Nat.pow_succ] at k1 k2
    have e1 : (c - 1) * (2 ^ u * 2) = (c - 1) * 2 ^ u * 2 := by rw [Nat.mul_assoc]
    have e2 : c * (2 ^ u * 2) = c * 2 ^ u * 2 := by rw [Nat.mul_assoc]
    rw [e1] at k1
    rw [e2] at k2
    generalize hX : (c - 1) * 2 ^ u = X at k1
    generalize hY : c * 2 ^ u = Y at k2
    exact tick_num _ 4503599627370496 u c hr (by omega) hc hc2 (by rw [hX]; omega) (by rw [hY]; omega)
end Go.Proofs.Ytkhbhfnfpognpaa
