/-
  MacPrefixes answers true at every input and leaves its arguments as they were, with the digest's round numbers and the error of the range as the program's text lays them. No other conditions.
-/
import Derived.Test.YtplmliomhpgfpaaDoorMpre
import Derived.Test.YtplmliomhpgfpaaDoorMdoor
import Derived.Test.YtplmliomhpgfpaaDoorTie
import Derived.Test.YtplmliomhpgfpaaDoorCards
import Derived.SevenTiedAt
namespace Go.Proofs.YtplmliomhpgfpaaDoor
open Go.ChangeShapes Go.WideShapes Go.ChangeAt Go.RowKit

set_option maxRecDepth 100000 in
theorem macPrefixes_lifted (os : Os) (started : os.Started) (H : Type) (enc : TypeId × Value → H) :
    ReturnsInHanded {} Tryd.checked os 6 .any (fun w args => (Rows.macPrefixesSpec.pre enc Tryd.prog Tryd.f6 [] false w args ∧ laidMetH Tryd.prog laidV w) ∧ sizedMet enc Tryd.prog Tryd.f6 (OpenSpec.ofChange Rows.macPrefixesSpec) false w args) (Rows.macPrefixesSpec.post enc Tryd.prog Tryd.f6 false true false false) := by
  refine returnsInHanded_of_change_and (C := Tryd.checked) (X := fun w _ => laidMetH Tryd.prog laidV w) (fun _ _ _ hh h => h.of_heap hh) Tryd.own started (by kernel_rfl) Tryd.func6
    (ChangeSpec.witness_shaped (enc := enc) (C := Tryd.checked) (os := os) (X := fun w _ => laidMetH Tryd.prog laidV w) false (World.doorLaid Tryd.prog 400 os) #[.slice none 0 0, .slice none 0 0, .slice none 0 0, .int .i64 0, .int .i64 0] 8 rfl (World.shaped_of_RefB (by kernel_rfl) (by kernel_rfl)) (by kernel_rfl) (by kernel_rfl) (by kernel_rfl) (door_met os _)) ?_
  intro W base args ds gs before hval0 hW _ _ hL _
  have hval : ∀ (j : Nat) t v, Tryd.f6.params[j]? = some t → args[j]? = some v → Value.okWide Tryd.prog W .any base t v := hval0
  have hW' := hW
  obtain ⟨p, q, hA0, hV, rfl, hfz, hnd⟩ := hW
  have hA : DataW.TrodAll enc Tryd.prog W 0 (fun _ => true) true Tryd.f6.params.toList args.toList ds p := hA0
  rw [Tryd.params6] at hA hval
  obtain ⟨v0, v1, v2, v3, v4, d0, d1, d2, d3, d4, p0, p1, p2, p3, p4, rfl, rfl, rfl, h0, h1, h2, h3, h4⟩ := trodAll_five hA
  obtain ⟨rfl, rfl⟩ := trodVars_none hV
  obtain ⟨A_salt, z_salt, cap_salt, rfl, hr_salt, hx_salt, hlc_salt, hcap_salt⟩ := open_ints_rd Tryd.underlying22 Tryd.underlying5 (show Tryd.prog.cellsOf 5 = 1 by kernel_rfl) (hval 0 22 v0 rfl rfl) h0
  obtain ⟨salt, rfl⟩ := bys_of z_salt hx_salt
  rw [bys_length] at hW' hlc_salt ⊢
  obtain ⟨A_key, z_key, cap_key, rfl, hr_key, hx_key, hlc_key, hcap_key⟩ := open_ints_rd Tryd.underlying22 Tryd.underlying5 (show Tryd.prog.cellsOf 5 = 1 by kernel_rfl) (hval 1 22 v1 rfl rfl) h1
  obtain ⟨key, rfl⟩ := bys_of z_key hx_key
  rw [bys_length] at hW' hlc_key ⊢
  obtain ⟨A_info, z_info, cap_info, rfl, hr_info, hx_info, hlc_info, hcap_info⟩ := open_ints_rd Tryd.underlying22 Tryd.underlying5 (show Tryd.prog.cellsOf 5 = 1 by kernel_rfl) (hval 2 22 v2 rfl rfl) h2
  obtain ⟨info, rfl⟩ := bys_of z_info hx_info
  rw [bys_length] at hW' hlc_info ⊢
  obtain ⟨z1, rfl, _, _, w_z1⟩ := open_int Tryd.underlying3 (hval 3 3 v3 rfl rfl) h3
  obtain ⟨z2, rfl, _, _, w_z2⟩ := open_int Tryd.underlying3 (hval 4 3 v4 rfl rfl) h4
  refine (prefix_walk A_salt salt cap_salt A_key key cap_key A_info info cap_info z1 z2 W hr_salt hlc_salt (by unfold maxLen at hcap_salt; omega) hr_key hlc_key (by unfold maxLen at hcap_key; omega) hr_info hlc_info (by unfold maxLen at hcap_info; omega) (kat_of_laid hL)).mono fun e W' ⟨he, hw⟩ => ?_
  subst he
  exact ⟨_, rfl, law_post (tb := 4) Tryd.laidOut rfl Tryd.underlying4 (by intro t ht; rw [Tryd.params6] at ht; revert t; decide +kernel) rfl rfl rfl rfl hW' hw⟩

theorem macPrefixes_holds : Rows.MacPrefixesSaid :=
  OpenClaim.holds_of_wide 6 Tryd.f6 rfl rfl rfl rfl rfl rfl rfl ⟨rfl, rfl, rfl, rfl, rfl⟩ rfl rfl rfl rfl rfl (by kernel_rfl) Tryd.func6 (by kernel_rfl)
    (of_decide_eq_true (by kernel_rfl)) (by unfold Func.isWrapper; first | (rw [if_pos (by decide +kernel)]; kernel_rfl) | (rw [if_neg (by decide +kernel)]; exact ⟨rfl, rfl⟩))
    (fun os started H enc _ => macPrefixes_lifted os started H enc)

set_option maxRecDepth 100000 in
theorem macPrefixes_card : Rows.MacPrefixesCardSaid :=
  Claim7.holds_tied_plain_at .later [] [.sentinel, .data] true (true, "1532f1f2c6109dc20e596fff23fcc93e4b1d84512f5c0b38b367cf27ab2e44aa") true
    macPrefixes_holds (fun _ h => by cases h) (by kernel_rfl) (fun _ h => by cases h) macPrefixes_row_tie rfl ⟨rfl, rfl⟩ (by kernel_rfl) rfl
    (fun f fn hf hfn => by
      obtain rfl : f = 6 := Option.some.inj ((show Tryd.prog.funcNamed "courier/courierlaw4.MacPrefixes" = some 6 by kernel_rfl).symm.trans hf) |>.symm
      obtain rfl : fn = Tryd.f6 := (Option.some.inj (Tryd.func6.symm.trans hfn)).symm
      exact ⟨by kernel_rfl, fun j t ht => by
        rw [Tryd.params6] at ht
        have hm : t ∈ [22, 22, 22, 3, 3] := by simpa using Array.mem_of_getElem? ht
        have hall : ([22, 22, 22, 3, 3].all fun u => !Tryd.prog.wantsStandIn u) = true := by kernel_rfl
        exact (show Tryd.prog.wantsStandIn t = false by simpa using List.all_eq_true.1 hall t hm)⟩)
    (by kernel_rfl)
#print axioms macPrefixes_card
end Go.Proofs.YtplmliomhpgfpaaDoor
