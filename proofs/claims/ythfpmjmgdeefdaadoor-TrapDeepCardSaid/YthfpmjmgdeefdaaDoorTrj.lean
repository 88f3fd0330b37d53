import Derived.Test.YthfpmjmgdeefdaaDoorTri
import Derived.Test.YthfpmjmgdeefdaaDoorTrdoor
import Derived.Laws.EntriesVeiled
/-
  TrapDeep: what it says.
-/
namespace Go.Proofs.YthfpmjmgdeefdaaDoor
open Go.RowKit

set_option maxRecDepth 100000 in
/-- what is called first -/
theorem clo2_falls {E : Nat → Addr} {w0 : World} {B : Nat} {z : Int} {again : Bool} {i k : Nat} (h : Falls E w0 B (k : Int) z again i k) (s : Nat) (W : World) (hs : s + k ≤ 1000) (hN : NS E w0 B (k : Int) z again i s W) :
    Calls Tryd.prog 31 #[.pointer (some ⟨B + 5, 0, none⟩), .pointer (some ⟨B, 0, none⟩)] W fun e W' =>
      ∃ b, W.heap.size ≤ b ∧ e = .panicked [entry (thrownV (atV b))] ∧ AtAt b z (errV (E i)) W' ∧ NS E w0 B (k : Int) z again i (s + k) W' ∧ Oth (B + 4) W.heap.size W W' := by
  have hf := hN.fn
  have hd := hN.dp
  have hcf : ∀ args w, (callFunc 29 args).run Tryd.prog w = .ok (.enter 29 args) w := fun _ _ => by kernel_rfl
  go_enter Tryd.func31, Tryd.ntmps31
  go_wp2_with fail
  refine (h s W hs hN).mono ?_
  rintro e W' ⟨b, h1, rfl, h2, h3, h4⟩
  go_wp2_with fail
  exact ⟨rfl, b, h1, rfl, h2, h3, h4⟩
set_option maxRecDepth 100000 in
theorem clo2_ends {E : Nat → Addr} {w0 : World} {B : Nat} {z : Int} {again : Bool} {i k : Nat} (h : Ends E w0 B (k : Int) z again i k) (s : Nat) (W : World) (hs : s + k ≤ 1000) (hN : NS E w0 B (k : Int) z again i s W) :
    Calls Tryd.prog 31 #[.pointer (some ⟨B + 5, 0, none⟩), .pointer (some ⟨B, 0, none⟩)] W fun e W' =>
      e = .returned (.tuple #[]) ∧ NS E w0 B (k : Int) z again i (s + k) W' ∧ Oth (B + 4) W.heap.size W W' := by
  have hf := hN.fn
  have hd := hN.dp
  have hcf : ∀ args w, (callFunc 29 args).run Tryd.prog w = .ok (.enter 29 args) w := fun _ _ => by kernel_rfl
  go_enter Tryd.func31, Tryd.ntmps31
  go_wp2_with fail
  refine (h s W hs hN).mono ?_
  rintro e W' ⟨rfl, h3, h4⟩
  go_wp2_with fail
  go_end0
  exact ⟨rfl, h3, h4⟩

set_option maxRecDepth 100000 in
set_option maxHeartbeats 1600000 in
theorem nested_any (E : Nat → Addr) (k i : Nat) (z : Int) (again : Bool) (w : World) (hk1 : 0 < k) (hk2 : k ≤ 20) (hi : i < 19) (hE : ErrsAt E w) :
    Calls Tryd.prog 13 #[.int .i64 (k : Int), .int .i64 (101 + (i : Int)), .int .i64 z, .bool again, errV (E i)] w fun e w' => e = .returned (.bool true) ∧ Below w.heap.size w w' := by
  have hmf : ∀ (fn : Fn) (first cap : Array Value) (w : World), (Instr.makeFunc fn first cap).run Tryd.prog w = .ok (.func fn first cap) w := fun _ _ _ _ => rfl
  go_enter Tryd.func13, Tryd.ntmps13
  go_upto_region 4 with (fail)
  refine wp_world (fun W => NS E w w.heap.size (k : Int) z again i 0 W) ?_ ?_
  · refine ⟨?_, ?_, ?_, ?_, ?_, ?_, ?_, ?_, by go_grown⟩
    all_goals simp [go_sem]
  rintro W hN
  simp only [Nat.add_assoc, Nat.reduceAdd]
  have hl := hN.lt
  have hbt : Below W.heap.size W (tried W) := tried_below W
  have hNt := hN.below (by omega) hbt
  cases again
  · have hT := tri_ends 31 #[.pointer (some ⟨w.heap.size + 5, 0, none⟩), .pointer (some ⟨w.heap.size, 0, none⟩)] (0 + k) W (by omega) (fun _ _ => by kernel_rfl)
      (clo2_ends (by obtain ⟨j, rfl⟩ : ∃ j, k = j + 1 := ⟨k - 1, by omega⟩; exact ends_all j) 0 (tried W) (by omega) hNt)
    rw [Nat.zero_add] at hT
    clear hN hbt hNt hl
    generalize hB : w.heap.size = B at *
    have HB := Lib.hid hB
    clear hB
    go_wp2_with fail
    refine hT.mono ?_
    rintro e W2 ⟨rfl, h3, h4⟩
    clear hT h4
    have hE2 : ErrsAt E W2 := hE.below (by rw [HB.out]; exact h3.b)
    go_wp2_with fail
    refine (try_nil E W2 hE2).mono ?_
    rintro e W3 ⟨rfl, hb3⟩
    have h5 := h3.below h3.lt hb3
    have hE3 := hE2.below hb3
    have c4 := h5.st
    have c0 := h5.dp
    have c2 := h5.ag
    have HBW := Lib.hid h5.b
    clear h3 h5 hE2 hb3 hE
    go_wp2_with fail
    refine (is_any E (errV (E 5)) 106 106 (.inr ⟨5, by decide, rfl, rfl⟩) W3 hE3).mono ?_
    rintro e W4 ⟨rfl, hb4⟩
    go_wp2_with fail
    go_ret
    rw [HB.out]
    exact ⟨rfl, HBW.out.trans (hb4.mono (by have := HBW.out.size; rw [HB.out] at this; exact this))⟩
  · have hT := tri_falls 31 #[.pointer (some ⟨w.heap.size + 5, 0, none⟩), .pointer (some ⟨w.heap.size, 0, none⟩)] (0 + k) W (by omega) (fun _ _ => by kernel_rfl)
      (clo2_falls (falls_again k) 0 (tried W) (by omega) hNt)
    rw [Nat.zero_add] at hT
    clear hN hbt hNt hl
    generalize hB : w.heap.size = B at *
    have HB := Lib.hid hB
    clear hB
    go_wp2_with fail
    refine hT.mono ?_
    rintro e W2 ⟨b, _, rfl, h2, h3, h4⟩
    clear hT h4
    have hE2 : ErrsAt E W2 := hE.below (by rw [HB.out]; exact h3.b)
    go_wp2_with fail
    refine (try_nil E W2 hE2).mono ?_
    rintro e W3 ⟨rfl, hb3⟩
    have h5 := h3.below h3.lt hb3
    have h6 := h2.below hb3
    have hE3 := hE2.below hb3
    clear h3 h2 hE2 hb3 hE
    have c1 := h5.at_
    have c2 := h5.ag
    go_wp2_with fail
    refine (placed_any (101 + (i : Int)) z W3 (by omega)).mono ?_
    rintro e W4 ⟨rfl, hb4⟩
    have h7 := h5.below h5.lt hb4
    have h8 := h6.below hb4
    have hE4 := hE3.below hb4
    clear h5 h6 hE3 hb4 c1 c2
    go_wp2_with fail
    refine (same_at E b i z hi W4 hE4 h8).mono ?_
    rintro e W5 ⟨rfl, hb5⟩
    have h9 := h7.below h7.lt hb5
    have hE5 := hE4.below hb5
    clear h7 h8 hE4 hb5
    have c4 := h9.st
    have c0 := h9.dp
    have HBW := Lib.hid h9.b
    clear h9
    go_wp2_with fail
    refine (is_any E (errV (E 5)) 106 106 (.inr ⟨5, by decide, rfl, rfl⟩) W5 hE5).mono ?_
    rintro e W6 ⟨rfl, hb6⟩
    go_wp2_with fail
    go_ret
    rw [HB.out]
    exact ⟨rfl, HBW.out.trans (hb6.mono (by have := HBW.out.size; rw [HB.out] at this; exact this))⟩
end Go.Proofs.YthfpmjmgdeefdaaDoor
