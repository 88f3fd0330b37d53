import Derived.Test.YtionjhlllpipjaaDoorDkk
/-
  disk: first.
-/
namespace Go.Proofs.YtionjhlllpipjaaDoor
open Go.RowKit

theorem rng_get {w : World} {g o : Nat} {l : List UInt8} (h : w.rangeAt g o (bcells l)) (k : Nat) (hk : k < l.length) : w.cell? ⟨g, o + k, none⟩ = some (cellB l[k]) := by
  refine h k _ ?_
  simp [bcells, hk]
theorem own_rng {w : World} {base n : Nat} {v : Value} {l : List UInt8} (h : w.ownsRow base 5 1 v n (bcells l)) (hn : 0 < n) : ∃ g c, v = .slice (some ⟨g, 0, none⟩) n c ∧ base ≤ g ∧ g < w.heap.size ∧ w.rangeAt g 0 (bcells l) := by
  rcases own_cells h with ⟨e, _⟩ | ⟨g, c, e, h1, h2, h3, _⟩
  · omega
  · exact ⟨g, c, e, h1, h2, h3⟩
theorem repl_get (x i : Nat) (h : i < x) : (List.replicate x secZ)[i]? = some secZ := by
  rw [List.getElem?_replicate, if_pos h]
theorem secZ_top : secZ.top = zc := rfl
set_option maxRecDepth 100000 in
set_option maxHeartbeats 1600000 in
theorem first_any (w : World) : Calls Tryd.prog 7 #[] w fun e w' => e = .returned (.bool true) ∧ Below w.heap.size w w' := by
  have hnew := new_any 2 (by omega) w.heap.size w (Nat.le_refl _)
  go_enter Tryd.func7, Tryd.ntmps7
  go_upto_region 4 with (go_at_call 9; refine hnew.mono ?_; rintro e w1 ⟨D, R, rfl, hd, _, _, hb1⟩)
  have hrd := read_in hd 0 secZ (repl_get 2 0 (by omega))
  have HD := Lib.hid hd
  have HB1 := Lib.hid hb1
  clear hnew hd hb1
  go_upto_region 5 with (go_at_call 21; refine hrd.mono ?_; rintro e w2 ⟨g, rfl, hg, hr, hb2⟩)
  rw [secZ_top] at hr
  have hd2 := HD.out.below hb2
  have hsz := size_any hd2
  rw [List.length_replicate] at hsz
  have him := fun w3 (h3 : DkS w3 w.heap.size D R (List.replicate 2 secZ) false (-1) (fun _ => .slice none 0 0)) => image_any h3
  rw [List.length_replicate] at him
  have hc0 : w2.cell? ⟨g, 0, none⟩ = some (.int .u8 0) := rng_get (range_new hr) 0 (by rw [zc_len]; omega)
  have HB2 := Lib.hid (HB1.out.trans (hb2.mono HB1.out.size))
  have HD2 := Lib.hid hd2
  clear hrd hb2 hd2 hr
  go_wp2_with (first | (go_at_call 27; refine hsz.mono ?_; rintro e w3 ⟨rfl, hb3⟩; have HB3 := Lib.hid hb3; clear hb3) | (go_at_call 25; refine (him w3 (HD2.out.below HB3.out)).mono ?_; rintro e w4 ⟨v, rfl, ho, hb4⟩; obtain ⟨g4, c4, rfl, _, _, _⟩ := own_rng ho (by omega); have HB4 := Lib.hid hb4; clear hb4 ho))
  go_ret
  exact ⟨rfl, (HB2.out.trans (HB3.out.mono HB2.out.size)).trans (HB4.out.mono (Nat.le_trans HB2.out.size HB3.out.size))⟩
end Go.Proofs.YtionjhlllpipjaaDoor
