/-
  TreeSays answers true at every input and leaves its arguments as they were, with the digest's round numbers as the program's text lays them. No other conditions.
-/
import Derived.Test.YtelggkgfpaadfaaDoorTsy
import Derived.Test.YtelggkgfpaadfaaDoorTdoor
import Derived.Test.YtelggkgfpaadfaaDoorTie
import Derived.Test.YtelggkgfpaadfaaDoorCards
import Derived.SevenTiedAt
namespace Go.Proofs.YtelggkgfpaadfaaDoor
open Go.ChangeShapes Go.WideShapes Go.ChangeAt Go.RowKit

set_option maxRecDepth 100000 in
theorem treeSays_lifted (os : Os) (started : os.Started) (H : Type) (enc : TypeId × Value → H) :
    ReturnsInHanded {} Tryd.checked os 3 .any (fun w args => (Rows.treeSaysSpec.pre enc Tryd.prog Tryd.f3 [] false w args ∧ laidMetH Tryd.prog laidV w) ∧ sizedMet enc Tryd.prog Tryd.f3 (OpenSpec.ofChange Rows.treeSaysSpec) false w args) (Rows.treeSaysSpec.post enc Tryd.prog Tryd.f3 false true false false) := by
  refine returnsInHanded_of_change_and (C := Tryd.checked) (X := fun w _ => laidMetH Tryd.prog laidV w) (fun _ _ _ hh h => h.of_heap hh) Tryd.own started (by kernel_rfl) Tryd.func3
    (ChangeSpec.witness_shaped (enc := enc) (C := Tryd.checked) (os := os) (X := fun w _ => laidMetH Tryd.prog laidV w) false (World.doorLaid Tryd.prog 400 os) #[.slice none 0 0, .slice none 0 0, .agg #[.int .u8 0, .int .u8 0, .int .u8 0, .int .u8 0, .int .u8 0, .int .u8 0, .int .u8 0, .int .u8 0, .int .u8 0, .int .u8 0, .int .u8 0, .int .u8 0, .int .u8 0, .int .u8 0, .int .u8 0, .int .u8 0, .int .u8 0, .int .u8 0, .int .u8 0, .int .u8 0, .int .u8 0, .int .u8 0, .int .u8 0, .int .u8 0, .int .u8 0, .int .u8 0, .int .u8 0, .int .u8 0, .int .u8 0, .int .u8 0, .int .u8 0, .int .u8 0], .agg #[.int .u8 0, .int .u8 0, .int .u8 0, .int .u8 0, .int .u8 0, .int .u8 0, .int .u8 0, .int .u8 0, .int .u8 0, .int .u8 0, .int .u8 0, .int .u8 0, .int .u8 0, .int .u8 0, .int .u8 0, .int .u8 0, .int .u8 0, .int .u8 0, .int .u8 0, .int .u8 0, .int .u8 0, .int .u8 0, .int .u8 0, .int .u8 0, .int .u8 0, .int .u8 0, .int .u8 0, .int .u8 0, .int .u8 0, .int .u8 0, .int .u8 0, .int .u8 0], .int .i64 0] 8 rfl (World.shaped_of_RefB (by kernel_rfl) (by kernel_rfl)) (by kernel_rfl) (by kernel_rfl) (by kernel_rfl) (door_met os _)) ?_
  intro W base args ds gs before hval0 hW _ _ hL _
  have hval : ∀ (j : Nat) t v, Tryd.f3.params[j]? = some t → args[j]? = some v → Value.okWide Tryd.prog W .any base t v := hval0
  have hW' := hW
  obtain ⟨p, q, hA0, hV, rfl, hfz, hnd⟩ := hW
  have hA : DataW.TrodAll enc Tryd.prog W 0 (fun _ => true) true Tryd.f3.params.toList args.toList ds p := hA0
  rw [Tryd.params3] at hA hval
  obtain ⟨v0, v1, v2, v3, v4, d0, d1, d2, d3, d4, p0, p1, p2, p3, p4, rfl, rfl, rfl, h0, h1, h2, h3, h4⟩ := trodAll_five hA
  obtain ⟨rfl, rfl⟩ := trodVars_none hV
  obtain ⟨A_xs, xs, cap_xs, rfl, hr_xs, hx_xs, hlc_xs, hcap_xs⟩ := open_ints_rd Tryd.underlying22 Tryd.underlying3 (show Tryd.prog.cellsOf 3 = 1 by kernel_rfl) (hval 0 22 v0 rfl rfl) h0
  obtain ⟨A_bs, z_bs, cap_bs, rfl, hr_bs, hx_bs, hlc_bs, hcap_bs⟩ := open_ints_rd Tryd.underlying23 Tryd.underlying5 (show Tryd.prog.cellsOf 5 = 1 by kernel_rfl) (hval 1 23 v1 rfl rfl) h1
  obtain ⟨bs, rfl⟩ := bys_of z_bs hx_bs
  rw [bys_length] at hW' hlc_bs ⊢
  obtain ⟨l_x, hl_x, rfl, hw_x⟩ := open_arr Tryd.underlying25 Tryd.underlying5 (show Tryd.prog.cellsOf 5 = 1 by kernel_rfl) (show Tryd.prog.cellsOf 25 = 32 by kernel_rfl) (hval 2 25 v2 rfl rfl) h2
  obtain ⟨x, e_x⟩ := arr8_of l_x 32 hl_x hw_x
  rw [e_x] at hW' ⊢
  obtain ⟨l_y, hl_y, rfl, hw_y⟩ := open_arr Tryd.underlying25 Tryd.underlying5 (show Tryd.prog.cellsOf 5 = 1 by kernel_rfl) (show Tryd.prog.cellsOf 25 = 32 by kernel_rfl) (hval 3 25 v3 rfl rfl) h3
  obtain ⟨y, e_y⟩ := arr8_of l_y 32 hl_y hw_y
  rw [e_y] at hW' ⊢
  obtain ⟨z, rfl, _, _, w_z⟩ := open_int Tryd.underlying3 (hval 4 3 v4 rfl rfl) h4
  refine (tsay_walk A_xs xs cap_xs A_bs bs cap_bs x y z W hr_xs (fun q hq => wf_i64 (hx_xs q hq)) (by unfold maxLen at hcap_xs; omega) hr_bs hlc_bs (by unfold maxLen at hcap_bs; omega) (kat_of_laid hL)).mono fun e W' ⟨he, hw⟩ => ?_
  subst he
  exact ⟨_, rfl, law_post (tb := 4) Tryd.laidOut rfl Tryd.underlying4 (by intro t ht; rw [Tryd.params3] at ht; revert t; decide +kernel) rfl rfl rfl rfl hW' hw⟩

theorem treeSays_holds : Rows.TreeSaysSaid :=
  OpenClaim.holds_of_wide 3 Tryd.f3 rfl rfl rfl rfl rfl rfl rfl ⟨rfl, rfl, rfl, rfl, rfl⟩ rfl rfl rfl rfl rfl (by kernel_rfl) Tryd.func3 (by kernel_rfl)
    (of_decide_eq_true (by kernel_rfl)) (by unfold Func.isWrapper; first | (rw [if_pos (by decide +kernel)]; kernel_rfl) | (rw [if_neg (by decide +kernel)]; exact ⟨rfl, rfl⟩))
    (fun os started H enc _ => treeSays_lifted os started H enc)

set_option maxRecDepth 100000 in
theorem treeSays_card : Rows.TreeSaysCardSaid :=
  Claim7.holds_tied_plain_at .later [] [.data] true (true, "0f07099abf923f9da567689a85172c201ee46600bfb1f6e149766b4e3118d155") false
    treeSays_holds (fun _ h => by cases h) (by kernel_rfl) (fun _ h => by cases h) treeSays_row_tie rfl ⟨rfl, rfl⟩ (by kernel_rfl) rfl
    (fun f fn hf hfn => by
      obtain rfl : f = 3 := Option.some.inj ((show Tryd.prog.funcNamed "courier/courierlaw17.TreeSays" = some 3 by kernel_rfl).symm.trans hf) |>.symm
      obtain rfl : fn = Tryd.f3 := (Option.some.inj (Tryd.func3.symm.trans hfn)).symm
      exact ⟨by kernel_rfl, fun j t ht => by
        rw [Tryd.params3] at ht
        have hm : t ∈ [22, 23, 25, 25, 3] := by simpa using Array.mem_of_getElem? ht
        have hall : ([22, 23, 25, 25, 3].all fun u => !Tryd.prog.wantsStandIn u) = true := by kernel_rfl
        exact (show Tryd.prog.wantsStandIn t = false by simpa using List.all_eq_true.1 hall t hm)⟩)
    (by kernel_rfl)
#print axioms treeSays_card
end Go.Proofs.YtelggkgfpaadfaaDoor
