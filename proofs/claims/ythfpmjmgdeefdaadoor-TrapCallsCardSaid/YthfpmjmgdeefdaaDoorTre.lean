import Derived.Test.YthfpmjmgdeefdaaDoorTrd
/-
  TrapCalls: its walk.
-/
namespace Go.Proofs.YthfpmjmgdeefdaaDoor
open Go.RowKit

/-- the list's box, the place's cell, the errors, and the rest -/
structure CL (E : Nat → Addr) (w : World) (B bi k : Nat) (v : Value) (W : World) : Prop where
  l : W.cell? ⟨B, 0, none⟩ = some v
  i : W.cell? ⟨bi, 0, none⟩ = some (.int .i64 k)
  f : W.frozen? ⟨bi, 0, none⟩ = false
  lt : B < bi ∧ bi < W.heap.size
  b : Below B w W
  e : ErrsAt E W
theorem CL.next {E : Nat → Addr} {w : World} {B bi k : Nat} {v : Value} {W W' : World} (h : CL E w B bi k v W) (hb : Below W.heap.size W W') : CL E w B bi k v W' :=
  ⟨(World.cell?_of_block (hb.block _ (World.block_lt_of_cell? W _ h.l))).trans h.l, (World.cell?_of_block (hb.block _ h.lt.2)).trans h.i, (hb.frozen (p := ⟨bi, 0, none⟩) h.lt.2).trans h.f, ⟨h.lt.1, Nat.lt_of_lt_of_le h.lt.2 hb.size⟩, h.b.trans (hb.mono (by have := h.lt; omega)), h.e.below hb⟩

theorem CL.turn {E : Nat → Addr} {w : World} {B bi k : Nat} {v : Value} {W : World} (h : CL E w B bi k v W) : CL E w B W.heap.size (k + 1) v (W.alloc (.cells #[.int .i64 ((k : Int) + 1)] 3)) := by
  have hb : Below W.heap.size W (W.alloc (.cells #[.int .i64 ((k : Int) + 1)] 3)) := (Below.refl _ _).alloc (Nat.le_refl _) _
  have h2 := h.next hb
  exact ⟨h2.l, by simp [go_sem], by simp [go_sem], ⟨by have := h.lt; omega, by simp⟩, h2.b, h2.e⟩

set_option maxRecDepth 100000 in
set_option maxHeartbeats 1600000 in
theorem calls_any (E : Nat → Addr) (A : Option Addr) (xs : List Int) (cap : Nat) (w : World) (hS : SlRead w A (ints .i64 xs)) (hE : ErrsAt E w) (hlen : xs.length ≤ 30) :
    Calls Tryd.prog 15 #[.slice A xs.length cap] w fun e w' => e = .returned (.bool true) ∧ Below w.heap.size w w' := by
  go_enter Tryd.func15, Tryd.ntmps15
  go_wp2_with fail
  go_loopw [3] (fun p wr => ∃ k bi : Nat, k ≤ xs.length ∧ p = .pointer (some ⟨bi, 0, none⟩) ∧ CL E w w.heap.size bi k (.slice A xs.length cap) wr) (fun p wr => xs.length - (intOf ((wr.cell? (match p with | .pointer (some a) => a | _ => ⟨0, 0, none⟩)).getD undef)).toNat)
  case atStart =>
    refine ⟨0, w.heap.size + 1, by omega, rfl, ?_⟩
    refine ⟨by simp [go_sem], by simp [go_sem], by simp [go_sem], by simp, by go_grown, hE.below (by go_grown)⟩
  case round =>
    obtain ⟨k, bi, hk, rfl, hx⟩ := hrel
    generalize hB : w.heap.size = B at hx ⊢
    have HB := Lib.hid hB; clear hB
    have cl := hx.l
    have ci := hx.i
    have hi0 := hx.i
    by_cases hlt : k < xs.length
    · obtain ⟨x, hxk⟩ : ∃ x, xs[k]? = some x := ⟨xs[k], by simp [hlt]⟩
      have hxc := (hS.below (by rw [HB.out]; exact hx.b : Below w.heap.size w wr)).at_ hlt
      obtain ⟨gb, o, x', hA, hcx, hx'⟩ := hxc
      obtain rfl : x' = x := Option.some.inj (hx'.symm.trans hxk)
      clear hx' hxk
      have hgl := World.block_lt_of_cell? wr _ hcx
      subst hA
      go_wp2_with fail
      refine (errs_any E x' wr hx.e).mono ?_
      rintro e W1 ⟨rfl, hb1⟩
      obtain ⟨i, hi⟩ : ∃ i, i = eidx (x' % 10).toNat := ⟨_, rfl⟩
      have hi19 : i < 19 := by rw [hi]; exact eidx_lt _
      rw [← hi]
      clear hi
      have hx1 := hx.next hb1
      have hcx1 := (World.cell?_of_block (hb1.block _ hgl)).trans hcx
      have hgl1 := Nat.lt_of_lt_of_le hgl hb1.size
      clear hx hb1 hcx hgl cl ci
      go_upto_region 5 with (fail)
      refine wp_world (fun W => CL E w B bi k (.slice (some ⟨gb, o, none⟩) xs.length cap) W ∧ W.cell? ⟨gb, o + k, none⟩ = some (.int .i64 x') ∧ W.cell? ⟨W1.heap.size, 0, none⟩ = some (errV (E i)) ∧ W1.heap.size < W.heap.size) ?_ ?_
      · have hbA : Below W1.heap.size W1 (W1.alloc (.cells #[errV (E i)] 25)) := (Below.refl _ _).alloc (Nat.le_refl _) _
        exact ⟨hx1.next hbA, (World.cell?_of_block (hbA.block _ hgl1)).trans hcx1, by simp [go_sem], by simp⟩
      have hbe : bi < W1.heap.size := hx1.lt.2
      clear hx1 hcx1
      generalize W1.heap.size = be at *
      rintro W2 ⟨hx2, hcx2, hce2, hbe2⟩
      have hca : ∀ W, Below W2.heap.size W2 W → CallAt (some ⟨gb, o, none⟩) xs.length cap B bi be k x' (errV (E i)) W := fun W hb =>
        (⟨hx2.l, hx2.i, hce2, ⟨gb, o, rfl, hcx2⟩, hlt⟩ : CallAt (some ⟨gb, o, none⟩) xs.length cap B bi be k x' (errV (E i)) W2).below hb
      by_cases hp : bits .and .i64 x' 1 = 0
      · go_wp2_with fail
        refine (try_must E i _ _ _ hx2.e (fun _ _ => by kernel_rfl) ((calls1_even _ _ _ _ _ _ _ _ _ _ (hca _ (tried_below _)) hp).mono ?_)).mono ?_
        · rintro e w' ⟨rfl, rfl⟩
          exact ⟨rfl, Below.refl _ _⟩
        rintro e W3 ⟨rfl, hb3⟩
        have hx3 := hx2.next hb3
        have hc3 := hca W3 hb3
        clear hx2 hca hb3 hcx2 hce2
        have HX : ∀ W, Below W3.heap.size W3 W → CL E w B bi k (.slice (some ⟨gb, o, none⟩) xs.length cap) W ∧ CallAt (some ⟨gb, o, none⟩) xs.length cap B bi be k x' (errV (E i)) W := fun W hb => ⟨hx3.next hb, hc3.below hb⟩
        have HX := Lib.hid HX
        clear hx3 hc3
        go_wp2_with fail
        refine (none_any _).mono ?_
        rintro e W4 ⟨rfl, hb4⟩
        go_upto_region 7 with (refine wpList_store_row rfl 45 _ _ rfl _ (frow 0 false 0) rfl rfl _ _ (heap_alloc_new _ _) (by kernel_rfl) (by rfl) (frow_one _ _ _) ?_; rw [alloc_setRow])
        have hb5 : Below W3.heap.size W3 (W4.alloc (.cells (frow 0 false 0) 45)) := hb4.alloc hb4.size _
        have hr5 : (W4.alloc (.cells (frow 0 false 0) 45)).heap[W4.heap.size]? = some (.cells (frow 0 false 0) 45 (0, 0)) := heap_alloc_new _ _
        have hD : W3.heap.size ≤ W4.heap.size := hb4.size
        have hD5 : W4.heap.size < (W4.alloc (.cells (frow 0 false 0) 45)).heap.size := by simp
        generalize W4.alloc (.cells (frow 0 false 0) 45) = W5 at *
        generalize W4.heap.size = D at *
        clear hb4
        have hl5 := (HX.out W5 hb5).2.l
        have hi5 := (HX.out W5 hb5).2.i
        obtain ⟨gb5, o5, hA5, hc5⟩ := (HX.out W5 hb5).2.x
        injection hA5 with hA5; injection hA5 with hA5 hA6; subst hA5; subst hA6
        go_wp2_with fail
        refine (bare_any _ _).mono ?_
        rintro e W6 ⟨rfl, hb6⟩
        have hr6 := (hb6.block _ hD5).trans hr5
        have hb7 : Below W3.heap.size W3 (W6.setRow D (frow (101 + (i : Int)) false 0)) := below_setRow (hb5.trans (hb6.mono hb5.size)) hD _
        have hr7 : (W6.setRow D (frow (101 + (i : Int)) false 0)).heap[D]? = some (.cells (frow (101 + (i : Int)) false 0) 45 (0, 0)) := setRow_heap _ _ _ _ _ _ hr6
        go_upto_region 9 with (refine wpList_store_row rfl 45 _ _ rfl _ _ rfl rfl _ _ hr6 (by kernel_rfl) (by rfl) (frow_one _ _ _) ?_)
        generalize W6.setRow D (frow (101 + (i : Int)) false 0) = W7 at *
        clear hr6 hb6 hr5 hb5 hD5 hl5 hi5 hc5
        go_wp2_with (refine wpList_load_row rfl 45 _ rfl _ rfl _ _ _ _ hr7 Tryd.underlying45 rfl (by kernel_rfl) ?_)
        refine (same_any E (errV (E i)) (101 + (i : Int)) (101 + (i : Int)) (.inr ⟨i, hi19, rfl, rfl⟩) _ (HX.out W7 hb7).1.e).mono ?_
        rintro e W8 ⟨rfl, hb8⟩
        have hb8' := hb7.trans (hb8.mono hb7.size)
        have hx8 := (HX.out W8 hb8').1
        have ci8 := hx8.i
        have HT := Lib.hid hx8.turn
        have hk31 : k < 31 := by omega
        clear hx8 hb8 hb8' HX
        go_wp2_with fail
        go_roundw
        case rel => exact ⟨k + 1, _, by omega, rfl, HT.out⟩
        case measure => have hm := HT.out.i; simp only [hm, hi0, Option.getD_some, intOf] ; omega
      · go_wp2_with fail
        refine (try_calm_below _ _ _ (fun _ _ => by kernel_rfl) ((calls1_odd _ _ _ _ _ _ _ _ _ _ (hca _ (tried_below _)) hp).mono ?_)).mono ?_
        · rintro e w' ⟨rfl, rfl⟩
          exact ⟨rfl, Below.refl _ _⟩
        rintro e W3 ⟨rfl, hb3⟩
        have hx3 := hx2.next hb3
        have hc3 := hca W3 hb3
        clear hx2 hca hb3 hcx2 hce2
        have HX : ∀ W, Below W3.heap.size W3 W → CL E w B bi k (.slice (some ⟨gb, o, none⟩) xs.length cap) W ∧ CallAt (some ⟨gb, o, none⟩) xs.length cap B bi be k x' (errV (E i)) W := fun W hb => ⟨hx3.next hb, hc3.below hb⟩
        have HX := Lib.hid HX
        clear hx3 hc3
        go_wp2_with fail
        refine (none_any _).mono ?_
        rintro e W4 ⟨rfl, hb4⟩
        go_upto_region 7 with (refine wpList_store_row rfl 45 _ _ rfl _ (frow 0 false 0) rfl rfl _ _ (heap_alloc_new _ _) (by kernel_rfl) (by rfl) (frow_one _ _ _) ?_; rw [alloc_setRow])
        have hb5 : Below W3.heap.size W3 (W4.alloc (.cells (frow 0 false 0) 45)) := hb4.alloc hb4.size _
        have hr5 : (W4.alloc (.cells (frow 0 false 0) 45)).heap[W4.heap.size]? = some (.cells (frow 0 false 0) 45 (0, 0)) := heap_alloc_new _ _
        have hD : W3.heap.size ≤ W4.heap.size := hb4.size
        have hD5 : W4.heap.size < (W4.alloc (.cells (frow 0 false 0) 45)).heap.size := by simp
        generalize W4.alloc (.cells (frow 0 false 0) 45) = W5 at *
        generalize W4.heap.size = D at *
        clear hb4
        have hl5 := (HX.out W5 hb5).2.l
        have hi5 := (HX.out W5 hb5).2.i
        obtain ⟨gb5, o5, hA5, hc5⟩ := (HX.out W5 hb5).2.x
        injection hA5 with hA5; injection hA5 with hA5 hA6; subst hA5; subst hA6
        go_wp2_with (refine wpList_load_row rfl 45 _ rfl _ rfl _ _ _ _ hr5 Tryd.underlying45 rfl (by kernel_rfl) ?_)
        refine (same_any E .nilIface 0 0 (.inl ⟨rfl, rfl⟩) _ (HX.out W5 hb5).1.e).mono ?_
        rintro e W8 ⟨rfl, hb8⟩
        have hb8' := hb5.trans (hb8.mono hb5.size)
        have hx8 := (HX.out W8 hb8').1
        have ci8 := hx8.i
        have HT := Lib.hid hx8.turn
        have hk31 : k < 31 := by omega
        clear hx8 hb8 hb8' HX
        go_wp2_with fail
        go_roundw
        case rel => exact ⟨k + 1, _, by omega, rfl, HT.out⟩
        case measure => have hm := HT.out.i; simp only [hm, hi0, Option.getD_some, intOf] ; omega
    · have hb := hx.b
      clear hx
      go_wp2_with fail
      go_ret
      rw [HB.out]
      exact ⟨rfl, hb⟩
end Go.Proofs.YthfpmjmgdeefdaaDoor
