import Derived.Test.YtffkjbbhbpaacaaDoorFrm
/-
  frame.Code.
-/
namespace Go.Proofs.YtffkjbbhbpaacaaDoor
open Go.RowKit
set_option maxRecDepth 100000 in
theorem errlist_any (E : Nat → Addr) (w : World) (h : ErrsAt E w) :
    Calls Tryd.prog 39 #[] w fun e w' => e = .returned (.slice (some ⟨w.heap.size, 0, none⟩) 19 19) ∧ w' = w.alloc (.cells (errRow E) 80) := by
  have c0 : w.cell? ⟨0, 0, none⟩ = some (errV (E 0)) := h.c 0 (by decide)
  have c1 : w.cell? ⟨1, 0, none⟩ = some (errV (E 1)) := h.c 1 (by decide)
  have c2 : w.cell? ⟨2, 0, none⟩ = some (errV (E 2)) := h.c 2 (by decide)
  have c3 : w.cell? ⟨3, 0, none⟩ = some (errV (E 3)) := h.c 3 (by decide)
  have c4 : w.cell? ⟨4, 0, none⟩ = some (errV (E 4)) := h.c 4 (by decide)
  have c5 : w.cell? ⟨5, 0, none⟩ = some (errV (E 5)) := h.c 5 (by decide)
  have c6 : w.cell? ⟨6, 0, none⟩ = some (errV (E 6)) := h.c 6 (by decide)
  have c7 : w.cell? ⟨7, 0, none⟩ = some (errV (E 7)) := h.c 7 (by decide)
  have c8 : w.cell? ⟨8, 0, none⟩ = some (errV (E 8)) := h.c 8 (by decide)
  have c9 : w.cell? ⟨9, 0, none⟩ = some (errV (E 9)) := h.c 9 (by decide)
  have c10 : w.cell? ⟨10, 0, none⟩ = some (errV (E 10)) := h.c 10 (by decide)
  have c11 : w.cell? ⟨11, 0, none⟩ = some (errV (E 11)) := h.c 11 (by decide)
  have c12 : w.cell? ⟨12, 0, none⟩ = some (errV (E 12)) := h.c 12 (by decide)
  have c13 : w.cell? ⟨13, 0, none⟩ = some (errV (E 13)) := h.c 13 (by decide)
  have c14 : w.cell? ⟨14, 0, none⟩ = some (errV (E 14)) := h.c 14 (by decide)
  have c15 : w.cell? ⟨15, 0, none⟩ = some (errV (E 15)) := h.c 15 (by decide)
  have c16 : w.cell? ⟨16, 0, none⟩ = some (errV (E 16)) := h.c 16 (by decide)
  have c17 : w.cell? ⟨17, 0, none⟩ = some (errV (E 17)) := h.c 17 (by decide)
  have c18 : w.cell? ⟨18, 0, none⟩ = some (errV (E 18)) := h.c 18 (by decide)
  have hr : ∀ w : World, (Instr.buildSlice 82 19 #[(0, errV (E 0)), (1, errV (E 1)), (2, errV (E 2)), (3, errV (E 3)), (4, errV (E 4)), (5, errV (E 5)), (6, errV (E 6)), (7, errV (E 7)), (8, errV (E 8)), (9, errV (E 9)), (10, errV (E 10)), (11, errV (E 11)), (12, errV (E 12)), (13, errV (E 13)), (14, errV (E 14)), (15, errV (E 15)), (16, errV (E 16)), (17, errV (E 17)), (18, errV (E 18))]).run Tryd.prog w = .ok (.slice (some ⟨w.heap.size, 0, none⟩) 19 19) (w.alloc (.cells (errRow E) 80)) := fun w => by kernel_rfl
  clear h
  go_enter Tryd.func39, Tryd.ntmps39
  go_wp2
  go_ret
  exact ⟨rfl, rfl⟩


theorem assert_errF (a : Addr) (w : World) : (Instr.typeAssert (errV a) 80 115 true).run Tryd.prog w = .ok (.tuple #[.pointer none, .bool false]) w := by kernel_rfl
theorem bare_e (x : Addr) (w : World) : Calls Tryd.prog 38 #[errV x] w fun e w' => e = .returned (errV x) ∧ w' = w := by
  have has := assert_errF x
  go_enter Tryd.func38, Tryd.ntmps38
  go_wp2_with fail
  go_loopw [0, 5] (fun x0 i wr => x0 = errV x ∧ i = .int .i64 0 ∧ wr = w) (fun _ _ _ => 0)
  case atStart => exact ⟨rfl, rfl, rfl⟩
  case round =>
    obtain ⟨rfl, rfl, rfl⟩ := hrel
    go_wp2_with fail
    go_ret
    exact ⟨rfl, rfl⟩
theorem code_nil (w : World) : Calls Tryd.prog 16 #[.nilIface] w fun e w' => e = .returned (.int .i64 0) ∧ w' = w := by
  go_enter Tryd.func16, Tryd.ntmps16
  go_wp2_with fail
  go_ret
  exact ⟨rfl, rfl⟩
set_option maxRecDepth 100000 in
theorem code_e (E : Nat → Addr) (k : Nat) (hk : k < 19) (w : World) (h : ErrsAt E w) :
    Calls Tryd.prog 16 #[errV (E k)] w fun e w' => e = .returned (.int .i64 ((k : Int) + 1)) ∧ Below w.heap.size w w' := by
  have hb : Below w.heap.size w (w.alloc (.cells (errRow E) 80)) := (Below.refl _ _).alloc (Nat.le_refl _) _
  have h1 := h.below hb
  have hba := bare_e (E k) w
  have hli := errlist_any E w h
  go_enter Tryd.func16, Tryd.ntmps16
  go_upto_region 5 with (first | (go_at_call 38; refine hba.mono ?_; rintro e w ⟨rfl, rfl⟩; clear hba) | (go_at_call 39; refine hli.mono ?_; rintro e W ⟨rfl, rfl⟩; clear hli))
  have hc : ∀ j, j < 19 → (w.alloc (.cells (errRow E) 80)).cell? ⟨w.heap.size, j, none⟩ = some (errV (E j)) := fun j hj => by rw [World.cell?_alloc_new]; exact errRow_get E j hj
  generalize w.alloc (.cells (errRow E) 80) = W at *
  clear h
  generalize hO : w.heap.size = O at *
  have HO := Lib.hid hO; clear hO
  go_loopw [11] (fun i wr => ∃ j : Nat, j ≤ k ∧ i = .int .i64 j ∧ wr = W) (fun i _ => 19 - (intOf i).toNat)
  case atStart => exact ⟨0, by omega, rfl, rfl⟩
  case round =>
    obtain ⟨j, hj, rfl, rfl⟩ := hrel
    have cj := hc j (by omega)
    have hal := eql_err (E k) (E j) wr (h1.b k hk) (h1.b j (by omega))
    have hj0 : (j : Int) < 19 := by omega
    have hw1 : wrap64 ((j : Int) + 1) = (j : Int) + 1 := by unfold wrap64; omega
    by_cases e : j = k
    · subst e
      rw [show decide (E j = E j) = true by simp] at hal
      go_wp2_with fail
      go_ret
      exact ⟨rfl, by rw [HO.out]; exact hb⟩
    · rw [show decide (E k = E j) = false by simp; exact fun h => e (h1.n k hk j (by omega) h).symm] at hal
      go_wp2_with fail
      go_roundw
      case rel => exact ⟨j + 1, by omega, by go_num, trivial⟩
      case measure => simp [intOf]; omega
end Go.Proofs.YtffkjbbhbpaacaaDoor
