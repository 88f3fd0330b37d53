import Derived.Test.YtffkjbbhbpaacaaDoorBla
import Derived.Test.YtffkjbbhbpaacaaDoorSlB
import Derived.Test.YtffkjbbhbpaacaaDoorCpy
import Derived.Test.YtffkjbbhbpaacaaDoorTur
import Derived.Test.YtffkjbbhbpaacaaDoorFlc
import Derived.Test.YtffkjbbhbpaacaaDoorErr
/-
  upload.Up in memory; its pace.
-/
namespace Go.Proofs.YtffkjbbhbpaacaaDoor
open Go.RowKit

/-- an Up's cells -/
def uv (ph at' a b : Int) : Array Value := #[.int .i64 ph, .int .i64 at', .int .i64 a, .int .i64 b]
theorem uv_size (ph at' a b : Int) : (uv ph at' a b).size = 4 := rfl
theorem uv_one (ph at' a b : Int) : (uv ph at' a b).all (·.oneCell') = true := by kernel_rfl
/-- it lies there -/
def UpH (W : World) (g : Nat) (ph at' a b : Int) : Prop := W.heap[g]? = some (.cells (uv ph at' a b) 31 (0, 0))
section
variable {W W' : World} {g : Nat} {ph at' a b : Int}
theorem UpH.lt (h : UpH W g ph at' a b) : g < W.heap.size := lt_heap h
theorem UpH.c0 (h : UpH W g ph at' a b) : W.cell? ⟨g, 0, none⟩ = some (.int .i64 ph) := cell_heap h rfl
theorem UpH.c1 (h : UpH W g ph at' a b) : W.cell? ⟨g, 1, none⟩ = some (.int .i64 at') := cell_heap h rfl
theorem UpH.c2 (h : UpH W g ph at' a b) : W.cell? ⟨g, 2, none⟩ = some (.int .i64 a) := cell_heap h rfl
theorem UpH.c3 (h : UpH W g ph at' a b) : W.cell? ⟨g, 3, none⟩ = some (.int .i64 b) := cell_heap h rfl
theorem UpH.f (h : UpH W g ph at' a b) (i : Nat) : W.frozen? ⟨g, i, none⟩ = false := thaw_heap h i
theorem UpH.below (h : UpH W g ph at' a b) (hb : Below W.heap.size W W') : UpH W' g ph at' a b := heap_below h hb
theorem UpH.turn {F : Nat → Prop} (h : UpH W g ph at' a b) (ht : Turn F W W') (hF : ¬ F g) : UpH W' g ph at' a b := (ht.block g h.lt hF).trans h
theorem UpH.s0 (h : UpH W g ph at' a b) (c : Int) : UpH (W.setCell ⟨g, 0, none⟩ (.int .i64 c)) g c at' a b := heap_setCell_same W g 0 _ _ _ h
theorem UpH.s1 (h : UpH W g ph at' a b) (c : Int) : UpH (W.setCell ⟨g, 1, none⟩ (.int .i64 c)) g ph c a b := heap_setCell_same W g 1 _ _ _ h
theorem UpH.s2 (h : UpH W g ph at' a b) (c : Int) : UpH (W.setCell ⟨g, 2, none⟩ (.int .i64 c)) g ph at' c b := heap_setCell_same W g 2 _ _ _ h
theorem UpH.s3 (h : UpH W g ph at' a b) (c : Int) : UpH (W.setCell ⟨g, 3, none⟩ (.int .i64 c)) g ph at' a c := heap_setCell_same W g 3 _ _ _ h
theorem info_Up (ph at' a b : Int) : (Tryd.prog.info? 31).map (·.size) = some (uv ph at' a b).size := by kernel_rfl
theorem ready_u (w : World) (h : UpH w g ph at' a b) : Calls Tryd.prog 29 #[.pointer (some ⟨g, 2, none⟩)] w fun e w' => e = .returned (.bool (b == 0)) ∧ w' = w := by
  have c3 := h.c3
  go_enter Tryd.func29, Tryd.ntmps29
  go_wp2_with fail
  go_ret
  exact ⟨rfl, rfl⟩
theorem good_u (w : World) (h : UpH w g ph at' a b) : Calls Tryd.prog 35 #[.pointer (some ⟨g, 2, none⟩)] w fun e w' => e = .returned (.tuple #[]) ∧ UpH w' g ph at' 0 0 ∧ Turn (· = g) w w' := by
  have hst : UpH (w.setCells g 2 [.int .i64 0, .int .i64 0]) g ph at' 0 0 := UpH.s3 (UpH.s2 h 0) 0
  have ht : Turn (· = g) w (w.setCells g 2 [.int .i64 0, .int .i64 0]) := Turn.of_grown (grown_setCells w g 2 _) (fun _ hk => (Option.some.inj hk).symm)
  have hth : w.there g 2 2 := fun j hj => by
    obtain rfl | rfl : j = 0 ∨ j = 1 := by omega
    · exact ⟨by rw [h.c2]; rfl, h.f 2⟩
    · exact ⟨by rw [h.c3]; rfl, h.f 3⟩
  have HT := Lib.hid (And.intro hst ht)
  clear hst ht h
  go_enter Tryd.func35, Tryd.ntmps35
  go_wp2_with (first | (refine wpList_build rfl 29 _ rfl #[] (by kernel_rfl) (.agg #[.int .i64 0, .int .i64 0]) (fun _ => by kernel_rfl) ?_) | (refine wpList_store_mid rfl 29 _ _ rfl g 2 #[.int .i64 0, .int .i64 0] rfl rfl hth (by kernel_rfl) (by kernel_rfl) ?_))
  go_end0
  exact ⟨rfl, HT.out⟩
set_option maxRecDepth 100000 in
theorem fail_u (w : World) (h : UpH w g ph at' a b) (ha : -1000000 ≤ a ∧ a ≤ 1000000) : Calls Tryd.prog 34 #[.pointer (some ⟨g, 2, none⟩)] w fun e w' => e = .returned (.bool (decide (10 < a + 1))) ∧ UpH w' g ph at' (a + 1) (delayN (a + 1)) ∧ Turn (· = g) w w' := by
  have c2 := h.c2
  have f2 := h.f 2
  go_enter Tryd.func34, Tryd.ntmps34
  have d0 : decide (a < 9223372036854775807) = true := by simp; omega
  have hw1 : wrap64 (a + 1) = a + 1 := by unfold wrap64; omega
  have HT : Hid (UpH (w.setCell ⟨g, 2, none⟩ (.int .i64 (a + 1))) g ph at' (a + 1) b ∧ Turn (· = g) w (w.setCell ⟨g, 2, none⟩ (.int .i64 (a + 1)))) := Lib.hid ⟨h.s2 _, set_turnH w g 2 _⟩
  clear h
  go_upto_region 3 with (fail)
  obtain ⟨h, ho⟩ := HT.out
  try rw [hw1]
  generalize (w.setCell ⟨g, 2, none⟩ (.int .i64 (a + 1))) = W1 at *
  clear HT c2 f2 d0 hw1
  have c2 := h.c2
  have hd := delay_any (a + 1) W1
  obtain ⟨D, hD⟩ : ∃ D, D = delayN (a + 1) := ⟨_, rfl⟩
  rw [← hD] at hd
  have HD := Lib.hid hD
  clear hD
  go_wp2_with fail
  refine hd.mono ?_
  rintro e W2 ⟨rfl, hb⟩
  have h2 := h.below hb
  have ho2 : Turn (· = g) w W2 := ho.trans (Turn.of_below (F := (· = g)) hb) (fun q hq => .inl hq)
  clear h ho hb hd c2
  have c2 := h2.c2
  have c3 := h2.c3
  have f3 := h2.f 3
  have HT : Hid (UpH (W2.setCell ⟨g, 3, none⟩ (.int .i64 D)) g ph at' (a + 1) D ∧ Turn (· = g) w (W2.setCell ⟨g, 3, none⟩ (.int .i64 D))) := Lib.hid ⟨h2.s3 _, ho2.trans (set_turnH W2 g 3 _) (fun q hq => .inl hq)⟩
  clear h2 ho2
  go_upto_region 4 with (fail)
  obtain ⟨h, ho⟩ := HT.out
  generalize (W2.setCell ⟨g, 3, none⟩ (.int .i64 D)) = W3 at *
  clear HT c2 c3 f3
  have c2 := h.c2
  go_wp2_with fail
  go_ret
  rw [← HD.out]
  exact ⟨rfl, h, ho⟩
end
end Go.Proofs.YtffkjbbhbpaacaaDoor
