import Derived.Test.YtplmliomhpgfpaaDoorMfst
import Derived.Test.YtplmliomhpgfpaaDoorErr
import Derived.Test.YtplmliomhpgfpaaDoorDdr
namespace Go.Proofs.YtplmliomhpgfpaaDoor
open Go.RowKit

theorem derive_bad (va vb vc : Value) (z : Int) (hz : z < 0 ∨ 8160 < z) (E : Nat → Addr) (w : World) (hE : ErrsAt E w) :
    Calls Tryd.prog 11 #[va, vb, vc, .int .i64 z] w fun e w' => e = .returned (.tuple #[.slice none 0 0, errV (E 1)]) ∧ ∃ n, w' = w.drewN n := by
  have c1 : w.cell? ⟨0, 0, none⟩ = some (errV (E 1)) := hE.c 1 (by decide)
  clear hE
  go_enter Tryd.func11, Tryd.ntmps11
  rcases hz with hz | hz
  · have h0 : decide (z < 0) = true := by simp; omega
    go_wp2_with fail
    go_quiet (fail)
    go_wp2_with fail
    refine bodyPost_ret (results_tmp2 rfl _ _ _) rfl ?_
    exact ⟨rfl, _, rfl⟩
  · have h0 : decide (z < 0) = false := by simp; omega
    have h1 : decide (8160 < z) = true := by simp; omega
    go_wp2_with fail
    go_quiet (fail)
    go_wp2_with fail
    refine bodyPost_ret (results_tmp2 rfl _ _ _) rfl ?_
    exact ⟨rfl, _, rfl⟩
theorem dder_bad (va vb vc : Value) (z : Int) (hz : z < 0 ∨ 8160 < z) (w : World) :
    Calls Tryd.prog 12 #[va, vb, vc, .int .i64 z] w fun e w' => e = .returned (.tuple #[.slice none 0 0, .bool false]) ∧ w' = w := by
  go_enter Tryd.func12, Tryd.ntmps12
  rcases hz with hz | hz
  · have h0 : decide (z < 0) = true := by simp; omega
    go_wp2_with fail
    refine bodyPost_ret (results_tmp2 rfl _ _ _) rfl ?_
    exact ⟨rfl, rfl⟩
  · have h0 : decide (z < 0) = false := by simp; omega
    have h1 : decide (8160 < z) = true := by simp; omega
    go_wp2_with fail
    refine bodyPost_ret (results_tmp2 rfl _ _ _) rfl ?_
    exact ⟨rfl, rfl⟩
end Go.Proofs.YtplmliomhpgfpaaDoor
