import Derived.Test.YtgdnolondfnbkaaDoorHee
/-
  courierlaw13: what comes first.
-/
namespace Go.Proofs.YtgdnolondfnbkaaDoor
open Go.RowKit

set_option maxRecDepth 100000 in
set_option maxHeartbeats 3200000 in
theorem hfirst_any (E : Nat → Addr) (w : World) (hE : ErrsAt E w) : Calls Tryd.prog 6 #[] w fun e w' => e = .returned (.bool true) ∧ Below w.heap.size w w' := by
  have hinf : (Tryd.prog.info? 26).map (·.size) = some 34 := by kernel_rfl
  have HR := hread_any E none [] 0 w SlRead.nil_ (fun x h => absurd h (by simp)) (by simp) hE
  rw [show hdR [] = hdC zdh 0 0 by unfold hdR; rw [if_neg (by simp)]] at HR
  have hone : (hdC zdh 0 0).toArray.all (·.oneCell') = true := all_oneCell_toArray (hdC_one _ _ _)
  have hcl : (hdC zdh 0 0).length = 34 := hdC_len _ _ _ zdh_len
  obtain ⟨cs, hcs⟩ : ∃ cs, cs = hdC zdh 0 0 := ⟨_, rfl⟩
  rw [← hcs] at HR hone hcl
  have HL := Lib.hid hcl
  clear hcs hcl
  go_enter Tryd.func6, Tryd.ntmps6
  go_wp2_with fail
  refine HR.mono ?_
  rintro e W1 ⟨u, rfl, htell, hb1⟩
  obtain ⟨_, bt, rfl, hat⟩ := (show TellR E (some (2, 0)) u W1 from htell)
  clear HR
  go_upto_region 2 with (refine wpList_store_row rfl 26 _ _ rfl W1.heap.size cs.toArray rfl rfl _ _ (heap_alloc_new _ _) (by rw [List.size_toArray, HL.out]; exact hinf) (by simp [HL.out]) (all_oneCell_toArray (by simpa using hone)) ?_)
  refine wp_world (fun U => Below W1.heap.size W1 U) ?_ ?_
  · rw [alloc_setRow]; exact below_alc W1 _
  intro U hbU
  have hbw := hb1.trans (hbU.mono hb1.size)
  have hatU := hat.below hbU
  clear hb1 hbU hat
  go_wp2_with fail
  refine (placed_any 103 0 U (by decide)).mono ?_
  rintro e U2 ⟨rfl, hb2⟩
  have hbw2 := hbw.trans (hb2.mono hbw.size)
  have HS := same_at E bt 2 0 (by decide) U2 (hE.below hbw2) (hatU.below hb2)
  clear hbw hb2 hatU
  go_wp2_with fail
  refine HS.mono ?_
  rintro e U3 ⟨rfl, hb3⟩
  have hbw3 := hbw2.trans (hb3.mono hbw2.size)
  have HB := hbytes_any zdh 0 0 U3 zdh_len
  clear hbw2 hb3 HS
  go_wp2_with fail
  refine HB.mono ?_
  rintro e U4 ⟨v, rfl, hown, hb4⟩
  obtain ⟨Av, cv, rfl, _⟩ := ownsRow_form hown
  have HF := Lib.hid (hbw3.trans (hb4.mono hbw3.size))
  clear hown hb4 HB
  go_wp2_with fail
  go_ret
  exact ⟨rfl, HF.out⟩
end Go.Proofs.YtgdnolondfnbkaaDoor
