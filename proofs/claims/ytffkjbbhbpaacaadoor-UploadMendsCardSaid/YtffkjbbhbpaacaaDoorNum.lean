import Derived.Test.YtffkjbbhbpaacaaDoorKit
namespace Go.Proofs.YtffkjbbhbpaacaaDoor
open Go.RowKit

theorem mod_neg (x n : Int) (hn : 0 < n) (h : x.tmod n < 0) : x.tmod n + n = x % n := by
  have h1 := Int.emod_nonneg x (show n ≠ 0 by omega)
  have h2 := Int.emod_lt_of_pos x hn
  have h3 := Int.tmod_eq_emod (a := x) (b := n)
  split at h3 <;> omega
theorem mod_pos (x n : Int) (hn : 0 < n) (h : ¬ x.tmod n < 0) : x.tmod n = x % n := by
  have h1 := Int.emod_nonneg x (show n ≠ 0 by omega)
  have h2 := Int.emod_lt_of_pos x hn
  have h3 := Int.tmod_eq_emod (a := x) (b := n)
  have h4 := Int.lt_tmod_of_pos x hn
  split at h3
  · omega
  · rename_i hd
    have h5 : x % n ≠ 0 := fun e => hd (Or.inr (Int.dvd_of_emod_eq_zero e))
    omega

set_option maxHeartbeats 400000 in
theorem number_any (x n : Int) (w : World) (hn : 0 < n ∧ n ≤ 4611686018427387904) :
    Quiets Tryd.prog 7 #[.int .i64 x, .int .i64 n] w (.int .i64 (x % n)) := by
  unfold Quiets
  have hb := Int.lt_tmod_of_pos x hn.1
  have hb2 := Int.tmod_lt_of_pos x hn.1
  by_cases hneg : x.tmod n < 0
  · have e := mod_neg x n hn.1 hneg
    have E := Lib.hid e; clear e
    go_enter Tryd.func7, Tryd.ntmps7
    go_wp2
    go_ret
    exact ⟨by simp [E.out], 0, rfl⟩
  · have e := mod_pos x n hn.1 hneg
    have E := Lib.hid e; clear e
    go_enter Tryd.func7, Tryd.ntmps7
    go_wp2
    go_ret
    exact ⟨by simp [E.out], 0, rfl⟩


theorem number_nat (x n : Int) (N : Nat) (w : World) (hn : 0 < n ∧ n ≤ 4611686018427387904) (hN : x % n = N) : Quiets Tryd.prog 7 #[.int .i64 x, .int .i64 n] w (.int .i64 N) := by
  have := number_any x n w hn
  rwa [hN] at this
theorem exists_mod (x n : Int) (hn : 0 < n) : ∃ N : Nat, x % n = N ∧ (N : Int) < n :=
  ⟨(x % n).toNat, by have := Int.emod_nonneg x (show n ≠ 0 by omega); omega, by have := Int.emod_lt_of_pos x hn; have := Int.emod_nonneg x (show n ≠ 0 by omega); omega⟩
end Go.Proofs.YtffkjbbhbpaacaaDoor
