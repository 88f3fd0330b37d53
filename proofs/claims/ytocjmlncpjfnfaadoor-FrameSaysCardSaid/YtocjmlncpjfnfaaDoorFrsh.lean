/-
  FrameSays: P21.1: any request's, any response's bytes, what any bytes are as one, or why not: are what the chapter says (300 bytes).
-/
import Derived.Test.YtocjmlncpjfnfaaDoorFrs
import Derived.Test.YtocjmlncpjfnfaaDoorFrp
import Derived.Test.YtocjmlncpjfnfaaDoorFrdoor
import Derived.Test.YtocjmlncpjfnfaaDoorTie
import Derived.Test.YtocjmlncpjfnfaaDoorCards
import Derived.SevenTiedAt
namespace Go.Proofs.YtocjmlncpjfnfaaDoor
open Go.ChangeShapes Go.WideShapes Go.ChangeAt Go.RowKit


set_option maxRecDepth 100000 in
theorem frameSays_lifted (os : Os) (started : os.Started) (H : Type) (enc : TypeId × Value → H) :
    ReturnsInHanded {} Tryd.checked os 3 .any (fun w args => (Rows.frameSaysSpec.pre enc Tryd.prog Tryd.f3 [] false w args ∧ laidMetH Tryd.prog laidV w) ∧ sizedMet enc Tryd.prog Tryd.f3 (OpenSpec.ofChange Rows.frameSaysSpec) false w args) (Rows.frameSaysSpec.post enc Tryd.prog Tryd.f3 false true false false) := by
  refine returnsInHanded_of_change_and (C := Tryd.checked) (X := fun w _ => laidMetH Tryd.prog laidV w) (fun _ _ _ hh h => h.of_heap hh) Tryd.own started (by kernel_rfl) Tryd.func3
    (ChangeSpec.witness_shaped (enc := enc) (C := Tryd.checked) (os := os) (X := fun w _ => laidMetH Tryd.prog laidV w) false (World.doorLaid Tryd.prog 400 os) #[.agg #[.int .i64 0, .int .u8 0, .int .u8 0, .int .u8 0, .int .u8 0, .int .u8 0, .int .u8 0, .int .u8 0, .int .u8 0, .int .u8 0, .int .u8 0, .int .u8 0, .int .u8 0, .int .u8 0, .int .u8 0, .int .u8 0, .int .u8 0, .int .u8 0, .int .u8 0, .int .u8 0, .int .u8 0, .int .u8 0, .int .u8 0, .int .u8 0, .int .u8 0, .int .u8 0, .int .u8 0, .int .u8 0, .int .u8 0, .int .u8 0, .int .u8 0, .int .u8 0, .int .u8 0, .int .u32 0, .int .u32 0, .slice none 0 0], .agg #[.int .i64 0, .int .u32 0, .slice none 0 0], .slice none 0 0, .int .i64 0, .int .u8 0, .bool false] 8 rfl (World.shaped_of_RefB (by kernel_rfl) (by kernel_rfl)) (by kernel_rfl) (by kernel_rfl) (by kernel_rfl) (door_met os _)) ?_
  intro W base args ds gs before hval0 hW _ _ hL _
  have hval : ∀ (j : Nat) t v, Tryd.f3.params[j]? = some t → args[j]? = some v → Value.okWide Tryd.prog W .any base t v := hval0
  have hW' := hW
  obtain ⟨p, q, hA0, hV, rfl, hfz, hnd⟩ := hW
  have hA : DataW.TrodAll enc Tryd.prog W 0 (fun _ => true) true Tryd.f3.params.toList args.toList ds p := hA0
  rw [Tryd.params3] at hA hval
  obtain ⟨v0, v1, v2, v3, v4, v5, d0, d1, d2, d3, d4, d5, p0, p1, p2, p3, p4, p5, rfl, rfl, rfl, h0, h1, h2, h3, h4, h5⟩ := trodAll_six hA
  obtain ⟨rfl, rfl⟩ := trodVars_none hV
  obtain ⟨op_q, f_q, off_q, n_q, A_q, q, cap_q, rfl, hr_q, hx_q, hlc_q, hcap_q, wo_q, wf_q, wn_q⟩ := open_req Tryd.underlying27 Tryd.underlying3 Tryd.underlying23 Tryd.underlying5 Tryd.underlying24 Tryd.underlying25 (show Tryd.prog.cellsOf 5 = 1 by kernel_rfl) (show Tryd.prog.cellsOf 3 = 1 by kernel_rfl) (show Tryd.prog.cellsOf 23 = 32 by kernel_rfl) (show Tryd.prog.cellsOf 24 = 1 by kernel_rfl) (show Tryd.prog.cellsOf 25 = 1 by kernel_rfl) (show Tryd.prog.cellsOf 27 = 36 by kernel_rfl) ⟨_, rfl, rfl, rfl⟩ ⟨_, rfl, rfl, rfl⟩ ⟨_, rfl, rfl, rfl⟩ ⟨_, rfl, rfl, rfl⟩ ⟨_, rfl, rfl, rfl⟩ (hval 0 27 v0 rfl rfl) h0
  obtain ⟨code_r, n_r, A_r, r, cap_r, rfl, hr_r, hx_r, hlc_r, hcap_r, wc_r, wn_r⟩ := open_rsp Tryd.underlying29 Tryd.underlying3 Tryd.underlying5 Tryd.underlying24 Tryd.underlying25 (show Tryd.prog.cellsOf 5 = 1 by kernel_rfl) (show Tryd.prog.cellsOf 3 = 1 by kernel_rfl) (show Tryd.prog.cellsOf 24 = 1 by kernel_rfl) (show Tryd.prog.cellsOf 25 = 1 by kernel_rfl) (show Tryd.prog.cellsOf 29 = 3 by kernel_rfl) ⟨_, rfl, rfl, rfl⟩ ⟨_, rfl, rfl, rfl⟩ ⟨_, rfl, rfl, rfl⟩ (hval 1 29 v1 rfl rfl) h1
  obtain ⟨A_b, b, cap_b, rfl, hr_b, hx_b, hlc_b, hcap_b⟩ := open_ints_rd Tryd.underlying25 Tryd.underlying5 (show Tryd.prog.cellsOf 5 = 1 by kernel_rfl) (hval 2 25 v2 rfl rfl) h2
  obtain ⟨at', rfl, _, _, w_at'⟩ := open_int Tryd.underlying3 (hval 3 3 v3 rfl rfl) h3
  obtain ⟨by', rfl, _, _, w_by'⟩ := open_int Tryd.underlying5 (hval 4 5 v4 rfl rfl) h4
  obtain ⟨cut, rfl⟩ := okWide_bool Tryd.underlying4 (hval 5 4 v5 rfl rfl)
  refine ((errs_laid hL).elim fun E hE => fsays_walk E op_q off_q n_q f_q A_q q q.length cap_q code_r n_r A_r r r.length cap_r A_b b b.length cap_b at' by' cut W hE hr_q (fun x hx => by have := hx_q x hx; simp [Lit.wf, IntKind.min, IntKind.max, IntKind.signed, IntKind.bits] at this; omega) rfl hr_r (fun x hx => by have := hx_r x hx; simp [Lit.wf, IntKind.min, IntKind.max, IntKind.signed, IntKind.bits] at this; omega) rfl hr_b (fun x hx => by have := hx_b x hx; simp [Lit.wf, IntKind.min, IntKind.max, IntKind.signed, IntKind.bits] at this; omega) rfl hlc_b (by have := w_by'; simp [Lit.wf, IntKind.min, IntKind.max, IntKind.signed, IntKind.bits] at this; omega)).mono fun e W' ⟨he, hw⟩ => ?_
  subst he
  exact ⟨_, rfl, law_post (tb := 4) Tryd.laidOut rfl Tryd.underlying4 (by intro t ht; rw [Tryd.params3] at ht; revert t; decide +kernel) rfl rfl rfl rfl hW' hw⟩

theorem frameSays_holds : Rows.FrameSaysSaid :=
  OpenClaim.holds_of_wide 3 Tryd.f3 rfl rfl rfl rfl rfl rfl rfl ⟨rfl, rfl, rfl, rfl, rfl⟩ rfl rfl rfl rfl rfl (by kernel_rfl) Tryd.func3 (by kernel_rfl)
    (of_decide_eq_true (by kernel_rfl)) (by unfold Func.isWrapper; first | (rw [if_pos (by decide +kernel)]; kernel_rfl) | (rw [if_neg (by decide +kernel)]; exact ⟨rfl, rfl⟩))
    (fun os started H enc _ => frameSays_lifted os started H enc)

set_option maxRecDepth 100000 in
theorem frameSays_card : Rows.FrameSaysCardSaid :=
  Claim7.holds_tied_plain_at .later [] [.sentinel, .sentinel, .sentinel, .sentinel, .sentinel, .sentinel, .sentinel, .sentinel, .sentinel, .sentinel, .sentinel, .sentinel, .sentinel, .sentinel, .sentinel, .sentinel, .sentinel, .sentinel, .sentinel, .data] true (true, "bcb5a6d89906ac3e9a0841ec4160ac46af200873be0d70290424c75b1cb04599") true
    frameSays_holds (fun _ h => by cases h) (by kernel_rfl) (fun _ h => by cases h) frameSays_row_tie rfl ⟨rfl, rfl⟩ (by kernel_rfl) rfl
    (fun f fn hf hfn => by
      obtain rfl : f = 3 := Option.some.inj ((show Tryd.prog.funcNamed "courier/courierlaw21.FrameSays" = some 3 by kernel_rfl).symm.trans hf) |>.symm
      obtain rfl : fn = Tryd.f3 := (Option.some.inj (Tryd.func3.symm.trans hfn)).symm
      exact ⟨by kernel_rfl, fun j t ht => by
        rw [Tryd.params3] at ht
        have hm : t ∈ [27, 29, 25, 3, 5, 4] := by simpa using Array.mem_of_getElem? ht
        have hall : ([27, 29, 25, 3, 5, 4].all fun u => !Tryd.prog.wantsStandIn u) = true := by kernel_rfl
        exact (show Tryd.prog.wantsStandIn t = false by simpa using List.all_eq_true.1 hall t hm)⟩)
    (by kernel_rfl)
#print axioms frameSays_card
end Go.Proofs.YtocjmlncpjfnfaaDoor
