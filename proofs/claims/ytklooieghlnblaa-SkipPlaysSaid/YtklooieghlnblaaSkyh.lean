/-
  SkipPlays: whatever the input, it answers true; the input reads as it did.
-/
import Derived.Test.YtklooieghlnblaaSky
namespace Go.Proofs.Ytklooieghlnblaa
open Go.ChangeShapes Go.WideShapes Go.ChangeAt Go.RowKit

set_option maxRecDepth 100000 in
theorem skipPlays_lifted (os : Os) (started : os.Started) (H : Type) (enc : TypeId × Value → H) :
    ReturnsInHanded {} Try.checked os 3 .any (Rows.skipPlaysSpec.pre6 enc Try.prog Try.f3 Rows.skipPlaysRow.domain false) (Rows.skipPlaysSpec.post enc Try.prog Try.f3 false true false false) := by
  refine returnsInHanded_of_change (C := Try.checked) Try.own started (by kernel_rfl) Try.func3
    (ChangeSpec.witness6 (enc := enc) (C := Try.checked) false ⟨#[], #[.slice none 0 0], []⟩ 8 (by kernel_rfl) (by kernel_rfl) (by kernel_rfl) (by kernel_rfl)) ?_
  intro W base args ds gs before hval0 hW hcnd _
  have hval : ∀ (j : Nat) t v, Try.f3.params[j]? = some t → args[j]? = some v → Value.okWide Try.prog W .any base t v := hval0
  have hW' := hW
  obtain ⟨p, q, hA0, hV, rfl, hfz, hnd⟩ := hW
  have hA : DataW.TrodAll enc Try.prog W 0 (fun _ => true) true Try.f3.params.toList args.toList ds p := hA0
  rw [Try.params3] at hA hval
  obtain ⟨v0, d0, rfl, rfl, h0⟩ := trodAll_one hA
  obtain ⟨rfl, rfl⟩ := trodVars_none hV
  obtain ⟨A_l, len_l, cap_l, g_l, rfl, hr_l, hlc_l, hcap_l⟩ := open_fi (k := .i64) Try.underlying22 Try.underlying35 (show Try.prog.cellsOf 35 = 4 by kernel_rfl) (by decide) (fun j f hj => by
    rcases j with _ | _ | _ | _ | j
    all_goals simp at hj
    all_goals (subst hj; exact ⟨rfl, (show Try.prog.cellsOf 3 = 1 by kernel_rfl), Try.underlying3⟩)) (hval 0 22 v0 rfl rfl) h0
  refine (plays_walk A_l len_l cap_l g_l W hr_l).mono fun e W' ⟨he, hw⟩ => ?_
  subst he
  exact ⟨_, rfl, law_post (tb := 4) Try.laidOut rfl Try.underlying4 (by intro t ht; rw [Try.params3] at ht; revert t; decide +kernel) rfl rfl rfl rfl hW' hw⟩

theorem skipPlays_holds : Rows.SkipPlaysSaid :=
  OpenClaim.holds_of_wide 3 Try.f3 rfl rfl rfl rfl rfl rfl rfl ⟨rfl, rfl, rfl, rfl, rfl⟩ rfl rfl rfl rfl rfl (by kernel_rfl) Try.func3 (by kernel_rfl)
    (of_decide_eq_true (by kernel_rfl)) (by unfold Func.isWrapper; first | (rw [if_pos (by decide +kernel)]; kernel_rfl) | (rw [if_neg (by decide +kernel)]; exact ⟨rfl, rfl⟩))
    (fun os started H enc _ => skipPlays_lifted os started H enc)
#print axioms skipPlays_holds
end Go.Proofs.Ytklooieghlnblaa
