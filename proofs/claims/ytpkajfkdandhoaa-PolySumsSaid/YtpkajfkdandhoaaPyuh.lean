/-
  PolySums answers true at every input and leaves its arguments as they were. No conditions.
-/
import Derived.Test.YtpkajfkdandhoaaPyu
namespace Go.Proofs.Ytpkajfkdandhoaa
open Go.ChangeShapes Go.WideShapes Go.ChangeAt Go.RowKit

set_option maxRecDepth 100000 in
theorem polySums_lifted (os : Os) (started : os.Started) (H : Type) (enc : TypeId × Value → H) :
    ReturnsInHanded {} Try.checked os 5 .any (Rows.polySumsSpec.pre6 enc Try.prog Try.f5 Rows.polySumsRow.domain false) (Rows.polySumsSpec.post enc Try.prog Try.f5 false true false false) := by
  refine returnsInHanded_of_change (C := Try.checked) Try.own started (by kernel_rfl) Try.func5
    (ChangeSpec.witness6 (enc := enc) (C := Try.checked) false ⟨#[], #[.agg #[.int .u8 0, .int .u8 0, .int .u8 0, .int .u8 0, .int .u8 0, .int .u8 0, .int .u8 0, .int .u8 0, .int .u8 0, .int .u8 0, .int .u8 0, .int .u8 0, .int .u8 0, .int .u8 0, .int .u8 0, .int .u8 0, .int .u8 0, .int .u8 0, .int .u8 0, .int .u8 0, .int .u8 0, .int .u8 0, .int .u8 0, .int .u8 0, .int .u8 0, .int .u8 0, .int .u8 0, .int .u8 0, .int .u8 0, .int .u8 0, .int .u8 0, .int .u8 0], .slice none 0 0, .int .u8 0], []⟩ 8 (by kernel_rfl) (by kernel_rfl) (by kernel_rfl) (by kernel_rfl)) ?_
  intro W base args ds gs before hval0 hW hcnd _
  have hval : ∀ (j : Nat) t v, Try.f5.params[j]? = some t → args[j]? = some v → Value.okWide Try.prog W .any base t v := hval0
  have hW' := hW
  obtain ⟨p, q, hA0, hV, rfl, hfz, hnd⟩ := hW
  have hA : DataW.TrodAll enc Try.prog W 0 (fun _ => true) true Try.f5.params.toList args.toList ds p := hA0
  rw [Try.params5] at hA hval
  obtain ⟨v0, v1, v2, d0, d1, d2, p0, p1, p2, rfl, rfl, rfl, h0, h1, h2⟩ := trodAll_three hA
  obtain ⟨rfl, rfl⟩ := trodVars_none hV
  obtain ⟨l_key, hl_key, rfl, hw_key⟩ := open_arr Try.underlying23 Try.underlying5 (show Try.prog.cellsOf 5 = 1 by kernel_rfl) (show Try.prog.cellsOf 23 = 32 by kernel_rfl) (hval 0 23 v0 rfl rfl) h0
  obtain ⟨key, e_key⟩ := arr8_of l_key 32 hl_key hw_key
  rw [e_key] at hW' ⊢
  obtain ⟨A_bs, z_bs, cap_bs, rfl, hr_bs, hx_bs, hlc_bs, hcap_bs⟩ := open_ints_rd Try.underlying24 Try.underlying5 (show Try.prog.cellsOf 5 = 1 by kernel_rfl) (hval 1 24 v1 rfl rfl) h1
  obtain ⟨bs, rfl⟩ := bys_of z_bs hx_bs
  rw [bys_length] at hW' hlc_bs ⊢
  obtain ⟨z_y, rfl, _, _, w_y⟩ := open_int Try.underlying5 (hval 2 5 v2 rfl rfl) h2
  obtain ⟨y, rfl⟩ := v8_of z_y w_y
  refine (sums_walk key A_bs bs cap_bs y W hr_bs hlc_bs).mono fun e W' ⟨he, hw⟩ => ?_
  subst he
  exact ⟨_, rfl, law_post (tb := 4) Try.laidOut rfl Try.underlying4 (by intro t ht; rw [Try.params5] at ht; revert t; decide +kernel) rfl rfl rfl rfl hW' hw⟩

theorem polySums_holds : Rows.PolySumsSaid :=
  OpenClaim.holds_of_wide 5 Try.f5 rfl rfl rfl rfl rfl rfl rfl ⟨rfl, rfl, rfl, rfl, rfl⟩ rfl rfl rfl rfl rfl (by kernel_rfl) Try.func5 (by kernel_rfl)
    (of_decide_eq_true (by kernel_rfl)) (by unfold Func.isWrapper; first | (rw [if_pos (by decide +kernel)]; kernel_rfl) | (rw [if_neg (by decide +kernel)]; exact ⟨rfl, rfl⟩))
    (fun os started H enc _ => polySums_lifted os started H enc)
#print axioms polySums_holds
end Go.Proofs.Ytpkajfkdandhoaa
