import Derived.Test.YtccchhfcoicgcaaDoorKit
namespace Go.Proofs.YtccchhfcoicgcaaDoor
open Go.RowKit

theorem mod_neg (x n : Int) (hn : 0 < n) (h : x.tmod n < 0) : x.tmod n + n = x % n := by
  have h1 := Int.emod_nonneg x (show n ≠ 0 by omega)
  have h2 := Int.emod_lt_of_pos x hn
  have h3 := Int.tmod_eq_emod (a := x) (b := n)
  split at h3 <;> omega
theorem mod_pos (x n : Int) (hn : 0 < n) (h : ¬ x.tmod n < 0) : x.tmod n = x % n := by
  have h1 := Int.emod_nonneg x (show n ≠ 0 by omega)
  have h2 := Int.emod_lt_of_pos x hn
  have h3 := Int.tmod_eq_emod (a := x) (b := n)
  have h4 := Int.lt_tmod_of_pos x hn
  split at h3
  · omega
  · rename_i hd
    have h5 : x % n ≠ 0 := fun e => hd (Or.inr (Int.dvd_of_emod_eq_zero e))
    omega

theorem exists_mod (x n : Int) (hn : 0 < n) : ∃ N : Nat, x % n = N ∧ (N : Int) < n :=
  ⟨(x % n).toNat, by have := Int.emod_nonneg x (show n ≠ 0 by omega); omega, by have := Int.emod_lt_of_pos x hn; have := Int.emod_nonneg x (show n ≠ 0 by omega); omega⟩
end Go.Proofs.YtccchhfcoicgcaaDoor
