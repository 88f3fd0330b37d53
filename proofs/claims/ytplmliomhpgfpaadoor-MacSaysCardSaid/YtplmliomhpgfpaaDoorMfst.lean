import Derived.Test.YtplmliomhpgfpaaDoorDer
namespace Go.Proofs.YtplmliomhpgfpaaDoor
open Go.RowKit

set_option maxRecDepth 100000 in
set_option maxHeartbeats 800000 in
theorem first_any (w : World) (hk : KAt w) :
    Calls Tryd.prog 9 #[] w fun e w' => e = .returned (.bool true) ∧ Below w.heap.size w w' := by
  have hd := derive_any none [] 0 none [] 0 none [] 0 5 w SlRead.nil_ (by simp) (by simp) SlRead.nil_ (by simp) (by simp) SlRead.nil_ (by simp) (by simp) (by omega) hk
  go_enter Tryd.func9, Tryd.ntmps9
  go_wp2_with fail
  refine hd.mono ?_
  rintro e W ⟨O, rfl, hO, hb⟩
  clear hd
  go_wp2_with fail
  have he := meq_any none none [] [] 0 0 W SlRead.nil_ SlRead.nil_ (by simp) (by simp)
  refine he.mono ?_
  rintro e W1 ⟨rfl, m, rfl⟩
  clear he
  go_wp2_with fail
  have hbb := hb.trans ((Below.drewNr (w := W) m).mono hb.size)
  have h1 : SlRead (((W.drewN m).alloc (.cells #[.int .u8 1] 5)).alloc (.cells #[.int .u8 2] 5)) (some ⟨W.heap.size, 0, none⟩) (ints .u8 (bys [1#8])) :=
    (SlRead.one_new (W := W.drewN m) (.int .u8 1) 5).below ((Below.refl _ _).alloc (Nat.le_refl _) (.cells #[.int .u8 2] 5))
  have h2 : SlRead (((W.drewN m).alloc (.cells #[.int .u8 1] 5)).alloc (.cells #[.int .u8 2] 5)) (some ⟨W.heap.size + 1, 0, none⟩) (ints .u8 (bys [2#8])) := by
    have := SlRead.one_new (W := (W.drewN m).alloc (.cells #[.int .u8 1] 5)) (.int .u8 2) 5
    rwa [show ((W.drewN m).alloc (.cells #[.int .u8 1] 5)).heap.size = W.heap.size + 1 by simp [World.drewN]] at this
  have he := meq_any (some ⟨W.heap.size, 0, none⟩) (some ⟨W.heap.size + 1, 0, none⟩) [1#8] [2#8] 1 1 _ h1 h2 (by simp) (by simp)
  rw [show decide ([1#8] = [2#8]) = false by decide] at he
  refine he.mono ?_
  rintro e W2 ⟨rfl, m2, rfl⟩
  have hb2 : Below w.heap.size w (((W.drewN m).alloc (.cells #[.int .u8 1] 5)).alloc (.cells #[.int .u8 2] 5)) := (hbb.alloc hbb.size _).alloc (Nat.le_trans hbb.size (by simp)) _
  have hb3 := hb2.trans ((Below.drewNr (w := ((W.drewN m).alloc (.cells #[.int .u8 1] 5)).alloc (.cells #[.int .u8 2] 5)) m2).mono hb2.size)
  clear he h1 h2 hb2 hbb
  go_wp2_with fail
  go_ret
  exact ⟨rfl, hb3⟩
end Go.Proofs.YtplmliomhpgfpaaDoor
