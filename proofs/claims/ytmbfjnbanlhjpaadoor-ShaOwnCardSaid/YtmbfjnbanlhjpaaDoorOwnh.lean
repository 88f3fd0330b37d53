/-
  ShaOwn answers true at every input and leaves its arguments as they were, with the digest's round numbers as the program's text lays them. No other conditions.
-/
import Derived.Test.YtmbfjnbanlhjpaaDoorOwn
import Derived.Test.YtmbfjnbanlhjpaaDoorDoor
import Derived.Test.YtmbfjnbanlhjpaaDoorTie
import Derived.Test.YtmbfjnbanlhjpaaDoorCards
import Derived.SevenTiedAt
namespace Go.Proofs.YtmbfjnbanlhjpaaDoor
open Go.ChangeShapes Go.WideShapes Go.ChangeAt Go.RowKit

set_option maxRecDepth 100000 in
theorem shaOwn_lifted (os : Os) (started : os.Started) (H : Type) (enc : TypeId × Value → H) :
    ReturnsInHanded {} Tryd.checked os 5 .any (fun w args => (Rows.shaOwnSpec.pre enc Tryd.prog Tryd.f5 [] false w args ∧ laidMetH Tryd.prog laidV w) ∧ sizedMet enc Tryd.prog Tryd.f5 (OpenSpec.ofChange Rows.shaOwnSpec) false w args) (Rows.shaOwnSpec.post enc Tryd.prog Tryd.f5 false true false false) := by
  refine returnsInHanded_of_change_and (C := Tryd.checked) (X := fun w _ => laidMetH Tryd.prog laidV w) (fun _ _ _ hh h => h.of_heap hh) Tryd.own started (by kernel_rfl) Tryd.func5
    (ChangeSpec.witness_shaped (enc := enc) (C := Tryd.checked) (os := os) (X := fun w _ => laidMetH Tryd.prog laidV w) false (World.doorLaid Tryd.prog 400 os) #[.slice none 0 0, .int .i64 0] 8 rfl (World.shaped_of_RefB (by kernel_rfl) (by kernel_rfl)) (by kernel_rfl) (by kernel_rfl) (by kernel_rfl) (door_met os _)) ?_
  intro W base args ds gs before hval0 hW _ _ hL _
  have hval : ∀ (j : Nat) t v, Tryd.f5.params[j]? = some t → args[j]? = some v → Value.okWide Tryd.prog W .any base t v := hval0
  have hW' := hW
  obtain ⟨p, q, hA0, hV, rfl, hfz, hnd⟩ := hW
  have hA : DataW.TrodAll enc Tryd.prog W 0 (fun _ => true) true Tryd.f5.params.toList args.toList ds p := hA0
  rw [Tryd.params5] at hA hval
  obtain ⟨v0, v1, d0, d1, p0, p1, rfl, rfl, rfl, h0, h1⟩ := trodAll_two hA
  obtain ⟨rfl, rfl⟩ := trodVars_none hV
  obtain ⟨A_ys, z_ys, cap_ys, rfl, hr_ys, hx_ys, hlc_ys, hcap_ys⟩ := open_ints_rd Tryd.underlying22 Tryd.underlying5 (show Tryd.prog.cellsOf 5 = 1 by kernel_rfl) (hval 0 22 v0 rfl rfl) h0
  obtain ⟨ys, rfl⟩ := bys_of z_ys hx_ys
  rw [bys_length] at hW' hlc_ys ⊢
  obtain ⟨z, rfl, _, _, w_z⟩ := open_int Tryd.underlying3 (hval 1 3 v1 rfl rfl) h1
  refine (own_walk A_ys ys cap_ys z W hr_ys hlc_ys (by unfold maxLen at hcap_ys; omega) (kat_of_laid hL)).mono fun e W' ⟨he, hw⟩ => ?_
  subst he
  exact ⟨_, rfl, law_post (tb := 4) Tryd.laidOut rfl Tryd.underlying4 (by intro t ht; rw [Tryd.params5] at ht; revert t; decide +kernel) rfl rfl rfl rfl hW' hw⟩

theorem shaOwn_holds : Rows.ShaOwnSaid :=
  OpenClaim.holds_of_wide 5 Tryd.f5 rfl rfl rfl rfl rfl rfl rfl ⟨rfl, rfl, rfl, rfl, rfl⟩ rfl rfl rfl rfl rfl (by kernel_rfl) Tryd.func5 (by kernel_rfl)
    (of_decide_eq_true (by kernel_rfl)) (by unfold Func.isWrapper; first | (rw [if_pos (by decide +kernel)]; kernel_rfl) | (rw [if_neg (by decide +kernel)]; exact ⟨rfl, rfl⟩))
    (fun os started H enc _ => shaOwn_lifted os started H enc)

set_option maxRecDepth 100000 in
theorem shaOwn_card : Rows.ShaOwnCardSaid :=
  Claim7.holds_tied_plain_at .later [] [.data] true (true, "fc0e460245fd224d9c9be1dc92760e001c9b8203abb6e20e1070d2ed79b7cf68") false
    shaOwn_holds (fun _ h => by cases h) (by kernel_rfl) (fun _ h => by cases h) shaOwn_row_tie rfl ⟨rfl, rfl⟩ (by kernel_rfl) rfl
    (fun f fn hf hfn => by
      obtain rfl : f = 5 := Option.some.inj ((show Tryd.prog.funcNamed "courier/courierlaw3.ShaOwn" = some 5 by kernel_rfl).symm.trans hf) |>.symm
      obtain rfl : fn = Tryd.f5 := (Option.some.inj (Tryd.func5.symm.trans hfn)).symm
      exact ⟨by kernel_rfl, fun j t ht => by
        rw [Tryd.params5] at ht
        have hm : t ∈ [22, 3] := by simpa using Array.mem_of_getElem? ht
        have hall : ([22, 3].all fun u => !Tryd.prog.wantsStandIn u) = true := by kernel_rfl
        exact (show Tryd.prog.wantsStandIn t = false by simpa using List.all_eq_true.1 hall t hm)⟩)
    (by kernel_rfl)
#print axioms shaOwn_card
end Go.Proofs.YtmbfjnbanlhjpaaDoor
