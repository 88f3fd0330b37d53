/-
  AeadParts answers true at every input and leaves its arguments as they were, with the package's errors as the program's text lays them. No other conditions.
-/
import Derived.Test.YtmmcabjpmcepaaaDoorAeq
import Derived.Test.YtmmcabjpmcepaaaDoorAedoor
import Derived.Test.YtmmcabjpmcepaaaDoorTie
import Derived.Test.YtmmcabjpmcepaaaDoorCards
import Derived.SevenTiedAt
namespace Go.Proofs.YtmmcabjpmcepaaaDoor
open Go.ChangeShapes Go.WideShapes Go.ChangeAt Go.RowKit

set_option maxRecDepth 100000 in
theorem aeadParts_lifted (os : Os) (started : os.Started) (H : Type) (enc : TypeId × Value → H) :
    ReturnsInHanded {} Tryd.checked os 6 .any (fun w args => (Rows.aeadPartsSpec.pre enc Tryd.prog Tryd.f6 [] false w args ∧ laidMetH Tryd.prog laidV w) ∧ sizedMet enc Tryd.prog Tryd.f6 (OpenSpec.ofChange Rows.aeadPartsSpec) false w args) (Rows.aeadPartsSpec.post enc Tryd.prog Tryd.f6 false true false false) := by
  refine returnsInHanded_of_change_and (C := Tryd.checked) (X := fun w _ => laidMetH Tryd.prog laidV w) (fun _ _ _ hh h => h.of_heap hh) Tryd.own started (by kernel_rfl) Tryd.func6
    (ChangeSpec.witness_shaped (enc := enc) (C := Tryd.checked) (os := os) (X := fun w _ => laidMetH Tryd.prog laidV w) false (World.doorLaid Tryd.prog 400 os) #[.agg #[.int .u8 0, .int .u8 0, .int .u8 0, .int .u8 0, .int .u8 0, .int .u8 0, .int .u8 0, .int .u8 0, .int .u8 0, .int .u8 0, .int .u8 0, .int .u8 0, .int .u8 0, .int .u8 0, .int .u8 0, .int .u8 0, .int .u8 0, .int .u8 0, .int .u8 0, .int .u8 0, .int .u8 0, .int .u8 0, .int .u8 0, .int .u8 0, .int .u8 0, .int .u8 0, .int .u8 0, .int .u8 0, .int .u8 0, .int .u8 0, .int .u8 0, .int .u8 0], .agg #[.int .u8 0, .int .u8 0, .int .u8 0, .int .u8 0, .int .u8 0, .int .u8 0, .int .u8 0, .int .u8 0, .int .u8 0, .int .u8 0, .int .u8 0, .int .u8 0], .slice none 0 0, .slice none 0 0] 8 rfl (World.shaped_of_RefB (by kernel_rfl) (by kernel_rfl)) (by kernel_rfl) (by kernel_rfl) (by kernel_rfl) (door_met os _)) ?_
  intro W base args ds gs before hval0 hW _ _ hL _
  have hval : ∀ (j : Nat) t v, Tryd.f6.params[j]? = some t → args[j]? = some v → Value.okWide Tryd.prog W .any base t v := hval0
  have hW' := hW
  obtain ⟨p, q, hA0, hV, rfl, hfz, hnd⟩ := hW
  have hA : DataW.TrodAll enc Tryd.prog W 0 (fun _ => true) true Tryd.f6.params.toList args.toList ds p := hA0
  rw [Tryd.params6] at hA hval
  obtain ⟨v0, v1, v2, v3, d0, d1, d2, d3, p0, p1, p2, p3, rfl, rfl, rfl, h0, h1, h2, h3⟩ := trodAll_four hA
  obtain ⟨rfl, rfl⟩ := trodVars_none hV
  obtain ⟨l_key, hl_key, rfl, hw_key⟩ := open_arr Tryd.underlying23 Tryd.underlying5 (show Tryd.prog.cellsOf 5 = 1 by kernel_rfl) (show Tryd.prog.cellsOf 23 = 32 by kernel_rfl) (hval 0 23 v0 rfl rfl) h0
  obtain ⟨key, e_key⟩ := arr8_of l_key 32 hl_key hw_key
  rw [e_key] at hW' ⊢
  obtain ⟨l_non, hl_non, rfl, hw_non⟩ := open_arr Tryd.underlying24 Tryd.underlying5 (show Tryd.prog.cellsOf 5 = 1 by kernel_rfl) (show Tryd.prog.cellsOf 24 = 12 by kernel_rfl) (hval 1 24 v1 rfl rfl) h1
  obtain ⟨non, e_non⟩ := arr8_of l_non 12 hl_non hw_non
  rw [e_non] at hW' ⊢
  obtain ⟨A_ad, z_ad, cap_ad, rfl, hr_ad, hx_ad, hlc_ad, hcap_ad⟩ := open_ints_rd Tryd.underlying25 Tryd.underlying5 (show Tryd.prog.cellsOf 5 = 1 by kernel_rfl) (hval 2 25 v2 rfl rfl) h2
  obtain ⟨ad, rfl⟩ := bys_of z_ad hx_ad
  rw [bys_length] at hW' hlc_ad ⊢
  obtain ⟨A_b, z_b, cap_b, rfl, hr_b, hx_b, hlc_b, hcap_b⟩ := open_ints_rd Tryd.underlying25 Tryd.underlying5 (show Tryd.prog.cellsOf 5 = 1 by kernel_rfl) (hval 3 25 v3 rfl rfl) h3
  obtain ⟨b, rfl⟩ := bys_of z_b hx_b
  rw [bys_length] at hW' hlc_b ⊢
  refine ((errs_laid hL).elim fun E hE => parts_walk E key non A_ad ad cap_ad A_b b cap_b W hr_ad hr_b hE).mono fun e W' ⟨he, hw⟩ => ?_
  subst he
  exact ⟨_, rfl, law_post (tb := 4) Tryd.laidOut rfl Tryd.underlying4 (by intro t ht; rw [Tryd.params6] at ht; revert t; decide +kernel) rfl rfl rfl rfl hW' hw⟩

theorem aeadParts_holds : Rows.AeadPartsSaid :=
  OpenClaim.holds_of_wide 6 Tryd.f6 rfl rfl rfl rfl rfl rfl rfl ⟨rfl, rfl, rfl, rfl, rfl⟩ rfl rfl rfl rfl rfl (by kernel_rfl) Tryd.func6 (by kernel_rfl)
    (of_decide_eq_true (by kernel_rfl)) (by unfold Func.isWrapper; first | (rw [if_pos (by decide +kernel)]; kernel_rfl) | (rw [if_neg (by decide +kernel)]; exact ⟨rfl, rfl⟩))
    (fun os started H enc _ => aeadParts_lifted os started H enc)

set_option maxRecDepth 100000 in
theorem aeadParts_card : Rows.AeadPartsCardSaid :=
  Claim7.holds_tied_plain_at .later [] [.sentinel, .sentinel, .sentinel, .sentinel, .sentinel, .sentinel, .sentinel, .sentinel, .sentinel, .sentinel, .sentinel, .sentinel, .sentinel, .sentinel, .sentinel, .sentinel, .sentinel, .sentinel, .sentinel] true (true, "7d9a4c85b5f26ef50af68f9eb09fc54f0feb77626b0282db0b9e8b63bb86c2d8") true
    aeadParts_holds (fun _ h => by cases h) (by kernel_rfl) (fun _ h => by cases h) aeadParts_row_tie rfl ⟨rfl, rfl⟩ (by kernel_rfl) rfl
    (fun f fn hf hfn => by
      obtain rfl : f = 6 := Option.some.inj ((show Tryd.prog.funcNamed "courier/courierlaw7.AeadParts" = some 6 by kernel_rfl).symm.trans hf) |>.symm
      obtain rfl : fn = Tryd.f6 := (Option.some.inj (Tryd.func6.symm.trans hfn)).symm
      exact ⟨by kernel_rfl, fun j t ht => by
        rw [Tryd.params6] at ht
        have hm : t ∈ [23, 24, 25, 25] := by simpa using Array.mem_of_getElem? ht
        have hall : ([23, 24, 25, 25].all fun u => !Tryd.prog.wantsStandIn u) = true := by kernel_rfl
        exact (show Tryd.prog.wantsStandIn t = false by simpa using List.all_eq_true.1 hall t hm)⟩)
    (by kernel_rfl)
#print axioms aeadParts_card
end Go.Proofs.YtmmcabjpmcepaaaDoor
