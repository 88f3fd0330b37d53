import Derived.Test.YtocjmlncpjfnfaaDoorW32
namespace Go.Proofs.YtocjmlncpjfnfaaDoor
open Go.RowKit

/-- three rotations of a word -/
def big_e (x : BitVec 32) : BitVec 32 := x.rotateRight 6 ^^^ x.rotateRight 11 ^^^ x.rotateRight 25
set_option maxHeartbeats 400000 in
theorem turn_e (x : BitVec 32) (w : World) : Calls Tryd.prog 100 #[v32 x, .int .i64 6, .int .i64 11, .int .i64 25] w fun e w' => e = .returned (v32 (big_e x)) ∧ w' = w := by
  have h1 := n32_xor (x.rotateRight 6) (x.rotateRight 11)
  have h2 := n32_xor (x.rotateRight 6 ^^^ x.rotateRight 11) (x.rotateRight 25)
  have h3 : x.rotateRight 6 ^^^ x.rotateRight 11 ^^^ x.rotateRight 25 = big_e x := rfl
  go_enter Tryd.func100, Tryd.ntmps100
  go_wp2_with fail
  refine (rr_6 _ _).mono ?_
  rintro e w1 ⟨rfl, rfl⟩
  go_wp2_with fail
  refine (rr_11 _ _).mono ?_
  rintro e w1 ⟨rfl, rfl⟩
  go_wp2_with fail
  refine (rr_25 _ _).mono ?_
  rintro e w1 ⟨rfl, rfl⟩
  go_wp2_with fail
  go_ret
  exact ⟨rfl, rfl⟩

/-- three rotations of a word -/
def big_a (x : BitVec 32) : BitVec 32 := x.rotateRight 2 ^^^ x.rotateRight 13 ^^^ x.rotateRight 22
set_option maxHeartbeats 400000 in
theorem turn_a (x : BitVec 32) (w : World) : Calls Tryd.prog 100 #[v32 x, .int .i64 2, .int .i64 13, .int .i64 22] w fun e w' => e = .returned (v32 (big_a x)) ∧ w' = w := by
  have h1 := n32_xor (x.rotateRight 2) (x.rotateRight 13)
  have h2 := n32_xor (x.rotateRight 2 ^^^ x.rotateRight 13) (x.rotateRight 22)
  have h3 : x.rotateRight 2 ^^^ x.rotateRight 13 ^^^ x.rotateRight 22 = big_a x := rfl
  go_enter Tryd.func100, Tryd.ntmps100
  go_wp2_with fail
  refine (rr_2 _ _).mono ?_
  rintro e w1 ⟨rfl, rfl⟩
  go_wp2_with fail
  refine (rr_13 _ _).mono ?_
  rintro e w1 ⟨rfl, rfl⟩
  go_wp2_with fail
  refine (rr_22 _ _).mono ?_
  rintro e w1 ⟨rfl, rfl⟩
  go_wp2_with fail
  go_ret
  exact ⟨rfl, rfl⟩
end Go.Proofs.YtocjmlncpjfnfaaDoor
