import Derived.Test.YtplennobcbmccaaDoorBits3
namespace Go.Proofs.YtplennobcbmccaaDoor
open Go.RowKit

set_option maxHeartbeats 800000 in
theorem first_any (w : World) : Calls Tryd.prog 6 #[] w fun e w' => e = .returned (.bool true) ∧ Below w.heap.size w w' := by
  go_enter Tryd.func6, Tryd.ntmps6
  go_wp2_with fail
  refine (new_any 0 _ (by omega)).mono ?_
  rintro e w1 ⟨b, a, rfl, h1, hb1, ha1, hbb1⟩
  go_wp2_with fail
  refine (new_any 3 _ (by omega)).mono ?_
  rintro e w2 ⟨d, c, rfl, h2, hb2, ha2, hbb2⟩
  have h1' := h1.below' hb2
  have B2 := hb1.trans (hb2.mono (by have := hb1.size; omega))
  have hs1 := hb1.size
  go_wp2_with fail
  refine (next_full _ _ _ _ _ h1' (by rfl)).mono ?_
  rintro e w' ⟨rfl, m, rfl⟩
  go_wp2_with fail
  refine (set_any d c _ 0 _ (h2.drewN m)).mono ?_
  intro e w3 h3
  obtain ⟨rfl, h3, hb3⟩ := h3.yes (k := 0) (by simp) (by rfl)
  have B3 := (B2.trans (Below.drewNr m)).trans (hb3 w.heap.size (by omega) (by omega))
  clear B2 hb3
  go_wp2_with fail
  refine (set_any d c _ 0 _ h3).mono ?_
  intro e w4 h4
  obtain ⟨rfl, h4, hb4⟩ := h4.no (by rintro ⟨_, _, h⟩; simp at h)
  have B4 := B3.trans (hb4 w.heap.size (by omega) (by omega))
  clear B3 hb4
  go_wp2_with fail
  refine (front_any d c _ _ h4).mono ?_
  rintro e w' ⟨rfl, m2, rfl⟩
  go_wp2_with fail
  refine (next_at d c _ _ 1 _ (h4.drewN m2) (by decide) ⟨by decide, by decide, by decide⟩ (by omega)).mono ?_
  rintro e w' ⟨rfl, m3, rfl⟩
  go_wp2_with fail
  go_ret
  exact ⟨rfl, B4.trans (Below.drewNr _)⟩
end Go.Proofs.YtplennobcbmccaaDoor
