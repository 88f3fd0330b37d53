import Derived.Test.YthfpmjmgdeefdaaDoorTrc
import Derived.Test.YthfpmjmgdeefdaaDoorIdx
/-
  courierlaw2: errors by their numbers; TrapCalls.
-/
namespace Go.Proofs.YthfpmjmgdeefdaaDoor
open Go.RowKit

def eidx (j : Nat) : Nat := [0, 1, 2, 3, 4, 5, 6, 8, 9, 13].getD j 0
def errL (E : Nat → Addr) : List Value := [errV (E 0), errV (E 1), errV (E 2), errV (E 3), errV (E 4), errV (E 5), errV (E 6), errV (E 8), errV (E 9), errV (E 13)]
def codL : List Value := [.int .i64 101, .int .i64 102, .int .i64 103, .int .i64 104, .int .i64 105, .int .i64 106, .int .i64 107, .int .i64 109, .int .i64 110, .int .i64 114]
theorem errL_get (E : Nat → Addr) (j : Nat) (h : j < 10) : (errL E)[j]? = some (errV (E (eidx j))) := by
  rcases j with _ | _ | _ | _ | _ | _ | _ | _ | _ | _ | j
  all_goals first | rfl | omega
theorem codL_get (j : Nat) (h : j < 10) : codL[j]? = some (.int .i64 (101 + (eidx j : Int))) := by
  rcases j with _ | _ | _ | _ | _ | _ | _ | _ | _ | _ | j
  all_goals first | rfl | omega
theorem eidx_lt (j : Nat) : eidx j < 19 := by
  unfold eidx
  rcases j with _ | _ | _ | _ | _ | _ | _ | _ | _ | _ | j
  all_goals simp
/-- what errs answers -/
def ErrsPost (E : Nat → Addr) (n : Int) (w : World) (e : Ending) (w' : World) : Prop := e = .returned (.tuple #[errV (E (eidx (n % 10).toNat)), .int .i64 (101 + (eidx (n % 10).toNat : Int))]) ∧ Below w.heap.size w w'

set_option maxRecDepth 100000 in
set_option maxHeartbeats 800000 in
theorem errs_any (E : Nat → Addr) (n : Int) (w : World) (h : ErrsAt E w) : Calls Tryd.prog 8 #[.int .i64 n] w (ErrsPost E n w) := by
  obtain ⟨j, hj, hj10⟩ := exists_mod n 10 (by omega)
  have HJ : Hid ((n % 10).toNat = j) := Lib.hid (by rw [hj]; omega)
  have c0 : w.cell? ⟨1, 0, none⟩ = some (errV (E 0)) := h.c 0 (by decide)
  have c1 : w.cell? ⟨2, 0, none⟩ = some (errV (E 1)) := h.c 1 (by decide)
  have c2 : w.cell? ⟨3, 0, none⟩ = some (errV (E 2)) := h.c 2 (by decide)
  have c3 : w.cell? ⟨4, 0, none⟩ = some (errV (E 3)) := h.c 3 (by decide)
  have c4 : w.cell? ⟨5, 0, none⟩ = some (errV (E 4)) := h.c 4 (by decide)
  have c5 : w.cell? ⟨6, 0, none⟩ = some (errV (E 5)) := h.c 5 (by decide)
  have c6 : w.cell? ⟨7, 0, none⟩ = some (errV (E 6)) := h.c 6 (by decide)
  have c8 : w.cell? ⟨0, 0, none⟩ = some (errV (E 8)) := h.c 8 (by decide)
  have c9 : w.cell? ⟨8, 0, none⟩ = some (errV (E 9)) := h.c 9 (by decide)
  have c13 : w.cell? ⟨9, 0, none⟩ = some (errV (E 13)) := h.c 13 (by decide)
  go_enter Tryd.func8, Tryd.ntmps8
  go_upto_region 3 with (fail)
  refine wp_world (fun W => Below w.heap.size w W ∧ (∀ i u, (errL E)[i]? = some u → W.cell? ⟨w.heap.size, i, none⟩ = some u) ∧ (∀ i u, codL[i]? = some u → W.cell? ⟨w.heap.size + 1, i, none⟩ = some u)) ?_ ?_
  · refine ⟨((Below.refl _ _).alloc (Nat.le_refl _) _).alloc (by simp) _, ?_, ?_⟩
    · intro i u hu
      have hu2 : (errL E).toArray[i]? = some u := by simpa using hu
      rw [World.cell?_alloc_past _ _ _ (by simp), World.cell?_alloc_new]
      exact hu2
    · intro i u hu
      have hu2 : codL.toArray[i]? = some u := by simpa using hu
      have e : (w.alloc (.cells (errL E).toArray 25)).heap.size = w.heap.size + 1 := by simp
      have e2 : ((w.alloc (.cells (errL E).toArray 25)).alloc (.cells codL.toArray 3)).cell? ⟨(w.alloc (.cells (errL E).toArray 25)).heap.size, i, none⟩ = some u := by
        rw [World.cell?_alloc_new]; exact hu2
      rw [e] at e2
      exact e2
  clear c0 c1 c2 c3 c4 c5 c6 c8 c9 c13 h
  rintro W ⟨hb, hA, hB⟩
  have hlt10 : j < 10 := by omega
  have ca := hA j _ (errL_get E j hlt10)
  have cb := hB j _ (codL_get j hlt10)
  obtain ⟨i, hi⟩ : ∃ i, i = eidx j := ⟨_, rfl⟩
  rw [← hi] at ca cb
  have HI := Lib.hid hi
  clear hA hB hi
  go_wp2_with fail
  refine (number_nat n 10 j _ (by omega) hj).mono ?_
  rintro e W1 ⟨rfl, m, rfl⟩
  have ca' : (W.drewN m).cell? ⟨w.heap.size, j, none⟩ = some (errV (E i)) := ca
  have cb' : (W.drewN m).cell? ⟨w.heap.size + 1, j, none⟩ = some (.int .i64 (101 + (i : Int))) := cb
  have hb' : Below w.heap.size w (W.drewN m) := hb.trans ((Below.drewNr m).mono hb.size)
  generalize W.drewN m = W2 at *
  clear ca cb hb
  go_wp2_with fail
  go_quiet (fail)
  go_wp2_with fail
  go_ret2
  refine ⟨?_, hb'.trans ((Below.drewNr _).mono hb'.size)⟩
  rw [HJ.out, ← HI.out]
  rfl

/-- what TrapCalls' closure sees: the list, the place, the error -/
structure CallAt (A : Option Addr) (n c bl bi be : Nat) (k : Nat) (x : Int) (ev : Value) (w : World) : Prop where
  l : w.cell? ⟨bl, 0, none⟩ = some (.slice A n c)
  i : w.cell? ⟨bi, 0, none⟩ = some (.int .i64 k)
  e : w.cell? ⟨be, 0, none⟩ = some ev
  x : ∃ b o, A = some ⟨b, o, none⟩ ∧ w.cell? ⟨b, o + k, none⟩ = some (.int .i64 x)
  k : k < n
set_option maxRecDepth 100000 in
theorem calls1_odd (A : Option Addr) (n c bl bi be k : Nat) (x : Int) (ev : Value) (w : World) (h : CallAt A n c bl bi be k x ev w) (hp : ¬ bits .and .i64 x 1 = 0) :
    Calls Tryd.prog 32 #[.pointer (some ⟨bl, 0, none⟩), .pointer (some ⟨bi, 0, none⟩), .pointer (some ⟨be, 0, none⟩)] w fun e w' => e = .returned (.tuple #[]) ∧ w' = w := by
  obtain ⟨b, o, rfl, hx⟩ := h.x
  have hl := h.l
  have hi := h.i
  have hk := h.k
  go_enter Tryd.func32, Tryd.ntmps32
  go_wp2_with fail
  go_end0
  exact ⟨rfl, rfl⟩
set_option maxRecDepth 100000 in
theorem calls1_even (A : Option Addr) (n c bl bi be k : Nat) (x : Int) (a : Addr) (w : World) (h : CallAt A n c bl bi be k x (errV a) w) (hp : bits .and .i64 x 1 = 0) :
    Calls Tryd.prog 32 #[.pointer (some ⟨bl, 0, none⟩), .pointer (some ⟨bi, 0, none⟩), .pointer (some ⟨be, 0, none⟩)] w fun e w' => e = .panicked [entry (thrownV (errV a))] ∧ w' = w := by
  obtain ⟨b, o, rfl, hx⟩ := h.x
  have hl := h.l
  have hi := h.i
  have hk := h.k
  have he := h.e
  go_enter Tryd.func32, Tryd.ntmps32
  go_wp2_with fail
  refine (must_err _ _ _).mono ?_
  rintro e w' ⟨rfl, rfl⟩
  go_wp2
  exact ⟨rfl, rfl, rfl⟩
theorem CallAt.below {A : Option Addr} {n c bl bi be k : Nat} {x : Int} {ev : Value} {w w' : World} (h : CallAt A n c bl bi be k x ev w) (hb : Below w.heap.size w w') : CallAt A n c bl bi be k x ev w' := by
  obtain ⟨b, o, h1, h2⟩ := h.x
  exact ⟨(World.cell?_of_block (hb.block _ (World.block_lt_of_cell? w _ h.l))).trans h.l, (World.cell?_of_block (hb.block _ (World.block_lt_of_cell? w _ h.i))).trans h.i, (World.cell?_of_block (hb.block _ (World.block_lt_of_cell? w _ h.e))).trans h.e, ⟨b, o, h1, (World.cell?_of_block (hb.block _ (World.block_lt_of_cell? w _ h2))).trans h2⟩, h.k⟩
end Go.Proofs.YthfpmjmgdeefdaaDoor
