import Derived.Test.YtjgjaefbbhffbaaDoorCoe
import Derived.Test.YtjgjaefbbhffbaaDoorIdx
/-
  courierlaw11: what comes first.
-/
namespace Go.Proofs.YtjgjaefbbhffbaaDoor
open Go.RowKit
set_option maxRecDepth 100000 in
set_option maxHeartbeats 800000 in
theorem first_any (w : World) : Calls Tryd.prog 9 #[] w fun e w' => e = .returned (.bool true) ∧ Below w.heap.size w w' := by
  have hb0 := below_alc w (.cells #[.slice none 0 0] 26)
  have hw : WrS (w.alloc (.cells #[.slice none 0 0] 26)) w.heap.size w.heap.size [] (.slice none 0 0) := ⟨by simp [go_sem], by simp [go_sem], World.ownsRow_nil _ _ _ _, by simp [Value.ownBlock], Nat.le_refl _⟩
  go_enter Tryd.func9, Tryd.ntmps9
  go_wp2_with fail
  refine (wu32_any 258 w.heap.size w.heap.size [] _ _ hw (by simp) (by simp)).mono ?_
  rintro e W1 ⟨rfl, v1, hw1, ht1, _⟩
  have hb1 : Below w.heap.size w W1 := ht1.below hb0 (by simp) (fun q hq => (hw.ltF hq).1)
  clear hw hb0 ht1
  rw [show ([] : List Int) ++ le4 258 = [2, 1, 0, 0] by decide] at hw1
  have hs1 := hb1.size
  go_wp2_with fail
  refine (wbytes_any _ _ [2, 1, 0, 0] v1 W1 hw1 (by decide)).mono ?_
  rintro e W ⟨v2, rfl, hown, hb2⟩
  obtain ⟨A, c, rfl, _⟩ := ownsRow_form hown
  obtain ⟨b, o, rfl, hlt, hcell⟩ := SlRead.of_own hown (by simp [ints])
  have hfin := Lib.hid (hb1.trans (hb2.mono hs1))
  clear hown hw1 hb1 hb2
  go_wp2_with fail
  refine (read_first _).mono ?_
  rintro e Y1 ⟨rfl, hbY⟩
  have hc0 := (hbY.cell (p := ⟨b, o + 0, none⟩) hlt).trans (hcell 0 _ rfl)
  have hc1 := (hbY.cell (p := ⟨b, o + 1, none⟩) hlt).trans (hcell 1 _ rfl)
  rw [Nat.add_zero] at hc0
  have hbY := Lib.hid hbY
  go_wp2_with fail
  go_ret
  exact ⟨rfl, hfin.out.trans (hbY.out.mono hfin.out.size)⟩
end Go.Proofs.YtjgjaefbbhffbaaDoor
