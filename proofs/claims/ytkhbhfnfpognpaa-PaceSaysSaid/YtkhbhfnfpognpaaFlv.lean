import Derived.Test.YtkhbhfnfpognpaaFlu
/-
  PaceSays.
-/
namespace Go.Proofs.Ytkhbhfnfpognpaa
open Go.RowKit Ieee

set_option maxRecDepth 100000 in
theorem says_walk (tries hv al : Int) (r : Nat) (hh : -9223372036854775808 ≤ hv ∧ hv ≤ 9223372036854775807) (ha : -9223372036854775808 ≤ al ∧ al ≤ 9223372036854775807) (w : World) :
    Calls Try.prog 3 #[.int .i64 tries, .int .i64 hv, .int .i64 al, .int .u64 (r : Int)] w fun e w' => e = .returned (.bool true) ∧ Below w.heap.size w w' := by
  have hfr := ext_from r
  obtain ⟨h2, hh2⟩ : ∃ h2, h2 = hv / 2 := ⟨_, rfl⟩
  obtain ⟨a2, ha2⟩ : ∃ a2, a2 = al / 2 := ⟨_, rfl⟩
  have bh : -4611686018427387904 ≤ h2 ∧ h2 < 4611686018427387904 := by omega
  have ba : -4611686018427387904 ≤ a2 ∧ a2 < 4611686018427387904 := by omega
  go_enter Try.func3, Try.ntmps3
  go_wp2_with fail
  refine (first_any w).mono ?_
  rintro e W1 ⟨rfl, hb1⟩
  have hs1 := hb1.size
  have hd := delay_any tries W1
  have hd2 := fun W => ddelay_any tries W
  obtain ⟨D, hD⟩ : ∃ D, D = delayN tries := ⟨_, rfl⟩
  rw [← hD] at hd hd2
  clear hD
  go_wp2_with fail
  rw [← hh2, ← ha2]
  clear hfr hh2 ha2 hh ha
  refine hd.mono ?_
  rintro e W2 ⟨rfl, hb2⟩
  replace hb2 := hb1.trans (hb2.mono hs1)
  have hs2 := hb2.size
  clear hb1 hs1 hd
  go_wp2_with fail
  refine (hd2 W2).mono ?_
  rintro e W2 ⟨rfl, rfl⟩
  clear hd2
  go_wp2_with fail
  refine (progress_any h2 a2 W2).mono ?_
  rintro e W3 ⟨⟨x, rfl, hx⟩, hb3⟩
  replace hx : RateR h2 a2 (.returned (.float .f64 x)) := ⟨x, rfl, hx⟩
  replace hb3 := hb2.trans (hb3.mono hs2)
  have hs3 := hb3.size
  clear hb2 hs2
  go_wp2_with fail
  refine (drate_any h2 a2 W3).mono ?_
  rintro e W4 ⟨⟨y, rfl, hy⟩, hb4⟩
  replace hy : RateR h2 a2 (.returned (.float .f64 y)) := ⟨y, rfl, hy⟩
  replace hb4 := hb3.trans (hb4.mono hs3)
  clear hb3 hs3
  have hsm := same_any h2 a2 x y hx hy W4
  clear hx hy
  go_wp2_with fail
  refine hsm.mono ?_
  rintro e W5 ⟨rfl, rfl⟩
  clear hsm
  have hl := left_any h2 a2 r bh ba W5
  have hl2 := dleft_any h2 a2 r bh ba W5
  generalize leftN h2 a2 r = L at hl hl2
  go_wp2_with fail
  refine hl.mono ?_
  rintro e W6 ⟨rfl, rfl⟩
  go_wp2_with fail
  refine hl2.mono ?_
  rintro e W7 ⟨rfl, rfl⟩
  go_wp2_with fail
  go_ret
  exact ⟨rfl, hb4⟩
theorem says_walkI (tries hv al r : Int) (hh : (Lit.int .i64 hv).wf = true) (ha : (Lit.int .i64 al).wf = true) (hr : (Lit.int .u64 r).wf = true) (w : World) :
    Calls Try.prog 3 #[.int .i64 tries, .int .i64 hv, .int .i64 al, .int .u64 r] w fun e w' => e = .returned (.bool true) ∧ Below w.heap.size w w' := by
  have m1 : IntKind.i64.min = -9223372036854775808 := by decide +kernel
  have m2 : IntKind.i64.max = 9223372036854775807 := by decide +kernel
  have m3 : IntKind.u64.min = 0 := by decide +kernel
  simp [Lit.wf, m1, m2, m3] at hh ha hr
  obtain ⟨x, rfl⟩ : ∃ x : Nat, r = x := ⟨r.toNat, by omega⟩
  exact says_walk tries hv al x hh ha w
end Go.Proofs.Ytkhbhfnfpognpaa
