/-
  MacSays answers true at every input and leaves its arguments as they were, with the digest's round numbers and the errors as the program's text lays them. No other conditions.
-/
import Derived.Test.YtplmliomhpgfpaaDoorMsz
import Derived.Test.YtplmliomhpgfpaaDoorEdoor
import Derived.Test.YtplmliomhpgfpaaDoorTie
import Derived.Test.YtplmliomhpgfpaaDoorCards
import Derived.SevenTiedAt
namespace Go.Proofs.YtplmliomhpgfpaaDoor
open Go.ChangeShapes Go.WideShapes Go.ChangeAt Go.RowKit

set_option maxRecDepth 100000 in
theorem macSays_lifted (os : Os) (started : os.Started) (H : Type) (enc : TypeId × Value → H) :
    ReturnsInHanded {} Tryd.checked os 3 .any (fun w args => (Rows.macSaysSpec.pre enc Tryd.prog Tryd.f3 [] false w args ∧ laidMetH Tryd.prog laidV w) ∧ sizedMet enc Tryd.prog Tryd.f3 (OpenSpec.ofChange Rows.macSaysSpec) false w args) (Rows.macSaysSpec.post enc Tryd.prog Tryd.f3 false true false false) := by
  refine returnsInHanded_of_change_and (C := Tryd.checked) (X := fun w _ => laidMetH Tryd.prog laidV w) (fun _ _ _ hh h => h.of_heap hh) Tryd.own started (by kernel_rfl) Tryd.func3
    (ChangeSpec.witness_shaped (enc := enc) (C := Tryd.checked) (os := os) (X := fun w _ => laidMetH Tryd.prog laidV w) false (World.doorLaid Tryd.prog 400 os) #[.slice none 0 0, .slice none 0 0, .slice none 0 0, .slice none 0 0, .int .i64 0] 8 rfl (World.shaped_of_RefB (by kernel_rfl) (by kernel_rfl)) (by kernel_rfl) (by kernel_rfl) (by kernel_rfl) (door_met os _)) ?_
  intro W base args ds gs before hval0 hW _ _ hL _
  have hval : ∀ (j : Nat) t v, Tryd.f3.params[j]? = some t → args[j]? = some v → Value.okWide Tryd.prog W .any base t v := hval0
  have hW' := hW
  obtain ⟨p, q, hA0, hV, rfl, hfz, hnd⟩ := hW
  have hA : DataW.TrodAll enc Tryd.prog W 0 (fun _ => true) true Tryd.f3.params.toList args.toList ds p := hA0
  rw [Tryd.params3] at hA hval
  obtain ⟨v0, v1, v2, v3, v4, d0, d1, d2, d3, d4, p0, p1, p2, p3, p4, rfl, rfl, rfl, h0, h1, h2, h3, h4⟩ := trodAll_five hA
  obtain ⟨rfl, rfl⟩ := trodVars_none hV
  obtain ⟨A_ks, z_ks, cap_ks, rfl, hr_ks, hx_ks, hlc_ks, hcap_ks⟩ := open_ints_rd Tryd.underlying22 Tryd.underlying5 (show Tryd.prog.cellsOf 5 = 1 by kernel_rfl) (hval 0 22 v0 rfl rfl) h0
  obtain ⟨ks, rfl⟩ := bys_of z_ks hx_ks
  rw [bys_length] at hW' hlc_ks ⊢
  obtain ⟨A_es, z_es, cap_es, rfl, hr_es, hx_es, hlc_es, hcap_es⟩ := open_ints_rd Tryd.underlying22 Tryd.underlying5 (show Tryd.prog.cellsOf 5 = 1 by kernel_rfl) (hval 1 22 v1 rfl rfl) h1
  obtain ⟨es, rfl⟩ := bys_of z_es hx_es
  rw [bys_length] at hW' hlc_es ⊢
  obtain ⟨A_bs, z_bs, cap_bs, rfl, hr_bs, hx_bs, hlc_bs, hcap_bs⟩ := open_ints_rd Tryd.underlying22 Tryd.underlying5 (show Tryd.prog.cellsOf 5 = 1 by kernel_rfl) (hval 2 22 v2 rfl rfl) h2
  obtain ⟨bs, rfl⟩ := bys_of z_bs hx_bs
  rw [bys_length] at hW' hlc_bs ⊢
  obtain ⟨A_fs, z_fs, cap_fs, rfl, hr_fs, hx_fs, hlc_fs, hcap_fs⟩ := open_ints_rd Tryd.underlying22 Tryd.underlying5 (show Tryd.prog.cellsOf 5 = 1 by kernel_rfl) (hval 3 22 v3 rfl rfl) h3
  obtain ⟨fs, rfl⟩ := bys_of z_fs hx_fs
  rw [bys_length] at hW' hlc_fs ⊢
  obtain ⟨z, rfl, _, _, w_z⟩ := open_int Tryd.underlying3 (hval 4 3 v4 rfl rfl) h4
  refine (((errs_laid hL).elim fun E hE => msays_walk A_ks ks cap_ks A_es es cap_es A_bs bs cap_bs A_fs fs cap_fs z E W hr_ks hlc_ks (by unfold maxLen at hcap_ks; omega) hr_es hlc_es (by unfold maxLen at hcap_es; omega) hr_bs hlc_bs (by unfold maxLen at hcap_bs; omega) hr_fs hlc_fs (by unfold maxLen at hcap_fs; omega) (kat_of_laid hL) hE)).mono fun e W' ⟨he, hw⟩ => ?_
  subst he
  exact ⟨_, rfl, law_post (tb := 4) Tryd.laidOut rfl Tryd.underlying4 (by intro t ht; rw [Tryd.params3] at ht; revert t; decide +kernel) rfl rfl rfl rfl hW' hw⟩

theorem macSays_holds : Rows.MacSaysSaid :=
  OpenClaim.holds_of_wide 3 Tryd.f3 rfl rfl rfl rfl rfl rfl rfl ⟨rfl, rfl, rfl, rfl, rfl⟩ rfl rfl rfl rfl rfl (by kernel_rfl) Tryd.func3 (by kernel_rfl)
    (of_decide_eq_true (by kernel_rfl)) (by unfold Func.isWrapper; first | (rw [if_pos (by decide +kernel)]; kernel_rfl) | (rw [if_neg (by decide +kernel)]; exact ⟨rfl, rfl⟩))
    (fun os started H enc _ => macSays_lifted os started H enc)

set_option maxRecDepth 100000 in
theorem macSays_card : Rows.MacSaysCardSaid :=
  Claim7.holds_tied_plain_at .later [] [.sentinel, .sentinel, .sentinel, .sentinel, .sentinel, .sentinel, .sentinel, .sentinel, .sentinel, .sentinel, .sentinel, .sentinel, .sentinel, .sentinel, .sentinel, .sentinel, .sentinel, .sentinel, .sentinel, .data] true (true, "1532f1f2c6109dc20e596fff23fcc93e4b1d84512f5c0b38b367cf27ab2e44aa") true
    macSays_holds (fun _ h => by cases h) (by kernel_rfl) (fun _ h => by cases h) macSays_row_tie rfl ⟨rfl, rfl⟩ (by kernel_rfl) rfl
    (fun f fn hf hfn => by
      obtain rfl : f = 3 := Option.some.inj ((show Tryd.prog.funcNamed "courier/courierlaw4.MacSays" = some 3 by kernel_rfl).symm.trans hf) |>.symm
      obtain rfl : fn = Tryd.f3 := (Option.some.inj (Tryd.func3.symm.trans hfn)).symm
      exact ⟨by kernel_rfl, fun j t ht => by
        rw [Tryd.params3] at ht
        have hm : t ∈ [22, 22, 22, 22, 3] := by simpa using Array.mem_of_getElem? ht
        have hall : ([22, 22, 22, 22, 3].all fun u => !Tryd.prog.wantsStandIn u) = true := by kernel_rfl
        exact (show Tryd.prog.wantsStandIn t = false by simpa using List.all_eq_true.1 hall t hm)⟩)
    (by kernel_rfl)
#print axioms macSays_card
end Go.Proofs.YtplmliomhpgfpaaDoor
