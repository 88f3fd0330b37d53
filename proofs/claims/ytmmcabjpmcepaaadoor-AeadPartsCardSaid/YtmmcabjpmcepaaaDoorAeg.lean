import Derived.Test.YtmmcabjpmcepaaaDoorAef
/-
  courierlaw7: what comes first.
-/
namespace Go.Proofs.YtmmcabjpmcepaaaDoor
open Go.RowKit

set_option maxRecDepth 100000 in
set_option maxHeartbeats 800000 in
theorem first_any (E : Nat → Addr) (w : World) (hE : ErrsAt E w) :
    Calls Tryd.prog 8 #[] w fun e w' => e = .returned (.bool true) ∧ Below w.heap.size w w' := by
  have ho := open_any E (fun _ => 0#8) (fun _ => 0#8) none none [] [] 0 0 w hE SlRead.nil_ SlRead.nil_ (by simp) (by simp) (by simp)
  rw [show openGot (fun _ => 0#8) (fun _ => 0#8) [] [] = ([], 103) by unfold openGot; rw [if_pos (by simp)]] at ho
  have hs := fun W => seal_any (fun _ => 0#8) (fun _ => 0#8) none none [] [] 0 0 W SlRead.nil_ SlRead.nil_ (by simp) (by simp)
  have hl := sealB_length (fun _ => 0#8) (fun _ => 0#8) [] []
  generalize sealB (fun _ => 0#8) (fun _ => 0#8) [] [] = sb at hs hl
  have HS := Lib.hid hs
  have HL := Lib.hid hl
  clear hs hl
  go_enter Tryd.func8, Tryd.ntmps8
  go_wp2_with fail
  refine ho.mono ?_
  rintro e W ⟨v, rfl, h1⟩
  have hE1 := hE.below h1.b
  have hb := h1.b
  have hsz := h1.s
  have hi := is_any E (errV (E 2)) 103 103 (.inr ⟨2, by decide, rfl, rfl⟩) W hE1
  rw [show decide ((103 : Int) = 103) = true by decide] at hi
  clear ho h1 hE
  go_wp2_with fail
  refine hi.mono ?_
  rintro e W1 ⟨rfl, hb1⟩
  have hb2 := hb.trans (hb1.mono hsz)
  have hsz2 : w.heap.size ≤ W1.heap.size := hb2.size
  clear hi hE1 hb hb1 hsz
  go_wp2_with fail
  refine (HS.out W1).mono ?_
  rintro e W2 ⟨v2, rfl, h2⟩
  obtain ⟨Av, cv, rfl, hcv⟩ := ownsRow_form h2.own
  have hb3 := hb2.trans (h2.b.mono hsz2)
  clear h2 hcv
  rw [HL.out]
  go_wp2_with fail
  go_ret
  exact ⟨rfl, hb3⟩
end Go.Proofs.YtmmcabjpmcepaaaDoor
