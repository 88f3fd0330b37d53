import Derived.Test.YtihnpcoiadbpiaaDoorTky
namespace Go.Proofs.YtihnpcoiadbpiaaDoor
open Go.RowKit

/-- numbers that are taken one by one -/
structure SeqAt (w : World) (g i : Nat) (A : Option Addr) (xs : List Int) (cap : Nat) : Prop where
  blk : w.heap[g]? = some (.cells #[.slice A xs.length cap, .int .i64 i] 30 (0, 0))
  l : SlRead w A (ints .i64 xs)
  off : 0 < xs.length → ∀ b o, A = some ⟨b, o, none⟩ → b < g
theorem SeqAt.below {w w' : World} {g i : Nat} {A : Option Addr} {xs : List Int} {cap : Nat} (h : SeqAt w g i A xs cap) (hb : Below w.heap.size w w') : SeqAt w' g i A xs cap :=
  ⟨by rw [hb.block _ (Array.getElem?_eq_some_iff.1 h.blk).1]; exact h.blk, h.l.below hb, h.off⟩
theorem SeqAt.lt {w : World} {g i : Nat} {A : Option Addr} {xs : List Int} {cap : Nat} (h : SeqAt w g i A xs cap) : g < w.heap.size := (Array.getElem?_eq_some_iff.1 h.blk).1
def SomeNext (w : World) (g i : Nat) (A : Option Addr) (xs : List Int) (cap below : Nat) (e : Ending) (w' : World) : Prop :=
  ∃ m : Nat, m < below ∧ e = .returned (.int .i64 m) ∧ Only g w w' ∧ SeqAt w' g (i + 1) A xs cap

theorem SeqAt.step {w : World} {g i : Nat} {A : Option Addr} {xs : List Int} {cap : Nat} (h : SeqAt w g i A xs cap) (n m : Nat) :
    Only g w (((w.drewN n).setCell ⟨g, 1, none⟩ (.int .i64 ((i : Int) + 1))).drewN m) ∧ SeqAt (((w.drewN n).setCell ⟨g, 1, none⟩ (.int .i64 ((i : Int) + 1))).drewN m) g (i + 1) A xs cap := by
  have ho : Only g w (((w.drewN n).setCell ⟨g, 1, none⟩ (.int .i64 ((i : Int) + 1))).drewN m) := ((Only.drewN (g := g) (w := w) n).setCell 1 _).trans (Only.drewN m)
  refine ⟨ho, ?_, fun hn => h.l.only (fun b o e => by have := h.off (by simpa using hn) b o e; omega) ho hn, h.off⟩
  show ((w.drewN n).setCell ⟨g, 1, none⟩ (.int .i64 ((i : Int) + 1))).heap[g]? = _
  unfold World.setCell
  simp [Array.getElem?_modify]
  exact ⟨_, h.blk, rfl⟩

set_option maxRecDepth 100000 in
set_option maxHeartbeats 800000 in
theorem next_any (g i : Nat) (A : Option Addr) (xs : List Int) (cap below : Nat) (w : World) (h : SeqAt w g i A xs cap) (hi : i ≤ 4611686018427387904) (hb : 0 < below) (hb2 : below ≤ 4611686018427387904) (hx : ∀ x ∈ xs, -9223372036854775808 ≤ x ∧ x ≤ 9223372036854775807) :
    Calls Tryd.prog 21 #[.pointer (some ⟨g, 0, none⟩), .int .i64 (below : Int)] w (SomeNext w g i A xs cap below) := by
  have c0 : w.cell? ⟨g, 0, none⟩ = some (.slice A xs.length cap) := by simp [World.cell?, h.blk]
  have c1 : w.cell? ⟨g, 1, none⟩ = some (.int .i64 i) := by simp [World.cell?, h.blk]
  have f1 : w.frozen? ⟨g, 1, none⟩ = false := by simp [World.frozen?, h.blk]
  go_enter Tryd.func21, Tryd.ntmps21
  by_cases hlt : i < xs.length
  · have hlt' : decide ((i : Int) < (xs.length : Int)) = true := by simp; omega
    obtain ⟨b, o, x, rfl, hc, hxi⟩ := h.l.at_ hlt
    have hxb := hx x (List.mem_of_getElem? hxi)
    obtain ⟨m, hm1, hm2⟩ := exists_mod x below (by omega)
    have HM := Lib.hid hm1; clear hm1 hxi
    go_wp2_with fail
    go_quiet (fail)
    go_wp2_with fail
    go_quiet (fail)
    go_wp2_with fail
    refine (number_nat x below m _ (by omega) HM.out).mono ?_
    rintro e w' ⟨rfl, n2, rfl⟩
    go_wp2_with fail
    go_ret
    obtain ⟨h1, h2⟩ := h.step _ n2
    exact ⟨m, by omega, rfl, h1, h2⟩
  · have hlt' : decide ((i : Int) < (xs.length : Int)) = false := by simp; omega
    obtain ⟨m, hm1, hm2⟩ := exists_mod 0 below (by omega)
    have HM := Lib.hid hm1; clear hm1
    go_wp2_with fail
    go_quiet (fail)
    go_wp2_with fail
    refine (number_nat 0 below m _ (by omega) HM.out).mono ?_
    rintro e w' ⟨rfl, n2, rfl⟩
    go_wp2_with fail
    go_ret
    obtain ⟨h1, h2⟩ := h.step _ n2
    exact ⟨m, by omega, rfl, h1, h2⟩
end Go.Proofs.YtihnpcoiadbpiaaDoor
