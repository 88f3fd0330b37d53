import Derived.Test.YtegijahkiopncaaDoorBlj
/-
  blob: Tick.
-/
namespace Go.Proofs.YtegijahkiopncaaDoor
open Go.RowKit
/-- an entry behind a tick -/
def Be.tick (e : Be) : Be := ⟨e.g, e.f, e.n, e.D, e.bs, e.done, e.idle + 1⟩
/-- gone by that tick -/
def Be.gone (l : Int) (e : Be) : Bool := decide (l ≤ e.idle + 1)
set_option maxRecDepth 100000 in
set_option maxHeartbeats 1600000 in
theorem tick1 (w : World) (e : Be) (X S : Nat) (q l : Int) (V : Value) (h : e.at w) (hX : w.heap[X]? = some (.cells #[.pointer (some ⟨S, 0, none⟩)] 30 (0, 0))) (hS : w.heap[S]? = some (.cells (stA q l V) 59 (0, 0))) (hi : 0 ≤ e.idle ∧ e.idle ≤ 1000) :
    Calls Tryd.prog 34 #[e.ptr, .pointer (some ⟨X, 0, none⟩)] w fun r w' => r = .returned (.bool (e.gone l)) ∧ ∃ m, w' = (w.setCell ⟨e.g, 35, none⟩ (.int .i64 (e.idle + 1))).drewN m := by
  have hptr : e.ptr = .pointer (some ⟨e.g, 0, none⟩) := rfl
  rw [hptr]
  have hc : w.cell? ⟨e.g, 35, none⟩ = some (.int .i64 e.idle) := cell_heap h (en_c35 _ _ _ _ _)
  have hfz := thaw_heap h 35
  have hw : wrap64 (e.idle + 1) = e.idle + 1 := by unfold wrap64; omega
  have hne1 : X ≠ e.g := ty_ne hX h (by decide)
  have hne2 : S ≠ e.g := ty_ne hS h (by decide)
  have hs : (w.setCell ⟨e.g, 35, none⟩ (.int .i64 (e.idle + 1))).heap[e.g]? = some (.cells ((enA e.f e.n e.D e.done e.idle).setIfInBounds 35 (.int .i64 (e.idle + 1))) 63 (0, 0)) := heap_setCell_same w e.g 35 _ _ _ h
  obtain ⟨w1, hw1⟩ : ∃ w1, w1 = w.setCell ⟨e.g, 35, none⟩ (.int .i64 (e.idle + 1)) := ⟨_, rfl⟩
  have hcx : w1.cell? ⟨X, 0, none⟩ = some (.pointer (some ⟨S, 0, none⟩)) := by
    rw [hw1]
    exact (w.cell?_setCell_other ⟨e.g, 35, none⟩ ⟨X, 0, none⟩ _ (fun y => hne1 (congrArg Addr.block y).symm)).trans (cell_heap hX rfl)
  have hcl : w1.cell? ⟨S, 1, none⟩ = some (.int .i64 l) := by
    rw [hw1]
    exact (w.cell?_setCell_other ⟨e.g, 35, none⟩ ⟨S, 1, none⟩ _ (fun y => hne2 (congrArg Addr.block y).symm)).trans (cell_heap hS rfl)
  have hci : w1.cell? ⟨e.g, 35, none⟩ = some (.int .i64 (e.idle + 1)) := by
    rw [hw1]
    rw [hw1] at *
    rw [en_set35] at hs
    exact cell_heap hs (en_c35 _ _ _ _ _)
  have HW1 := Lib.hid hw1
  clear hs hX hS h hptr hne1 hne2
  go_enter Tryd.func34, Tryd.ntmps34
  go_upto_region 2 with (fail)
  rw [← hw1]
  clear hw1
  go_quiet (fail)
  go_wp2_with fail
  go_ret
  exact ⟨rfl, _, by rw [← HW1.out]⟩
/-- the blocks that a tick turns -/
def tF (es : List Be) (x : Nat) : Prop := ∃ (j : Nat) (e : Be), es[j]? = some e ∧ x = e.g
/-- behind the first kk ticks -/
structure TkS (es : List Be) (w W : World) (kk : Nat) : Prop where
  tu : Turn (tF es) w W
  at' : ∀ (j : Nat) (e : Be), es[j]? = some e → (if j < kk then e.tick else e).at W
theorem TkS.step {es : List Be} {w W : World} {kk : Nat} {e : Be} (h : TkS es w W kk) (hk : es[kk]? = some e) (hg : ∀ (i j : Nat) (e e' : Be), i ≠ j → es[i]? = some e → es[j]? = some e' → e.g ≠ e'.g) (m : Nat) : TkS es w ((W.setCell ⟨e.g, 35, none⟩ (.int .i64 (e.idle + 1))).drewN m) (kk + 1) := by
  have ht : Turn (· = e.g) W ((W.setCell ⟨e.g, 35, none⟩ (.int .i64 (e.idle + 1))).drewN m) := (set_turnH W e.g 35 _).trans (Turn.of_below (F := fun _ => False) (below_drewN (Below.refl _ _) m)) (fun _ h => h.elim)
  refine ⟨h.tu.trans ht (fun x hx => .inl ⟨kk, e, hk, hx⟩), fun j x hx => ?_⟩
  have hj := h.at' j x hx
  by_cases e1 : j = kk
  · subst e1
    obtain rfl := Option.some.inj (hx.symm.trans hk)
    rw [if_neg (by omega)] at hj
    rw [if_pos (by omega)]
    show (W.setCell ⟨x.g, 35, none⟩ (.int .i64 (x.idle + 1))).heap[x.g]? = some (.cells (enA x.f x.n x.D x.done (x.idle + 1)) 63 (0, 0))
    rw [← en_set35 x.f x.n x.D x.done x.idle (x.idle + 1)]
    exact heap_setCell_same W x.g 35 _ _ _ hj
  · have h2 : (if j < kk + 1 then x.tick else x) = (if j < kk then x.tick else x) := by
      by_cases h3 : j < kk
      · rw [if_pos h3, if_pos (by omega)]
      · rw [if_neg h3, if_neg (by omega)]
    rw [h2]
    have h4 : (if j < kk then x.tick else x).g = x.g := by split <;> rfl
    exact (ht.block _ (lt_heap hj) (by rw [h4]; exact hg j kk x e e1 hx hk)).trans hj
section
variable {es : List Be} {g X S : Nat} {q l : Int} {V : Value} {w : World}
/-- what a walk over the entries wants -/
structure TkR (es : List Be) (g X S : Nat) (q l : Int) (V : Value) (w : World) : Prop where
  len : es.length ≤ 1000
  lt : g < w.heap.size
  gty : ∃ cur, w.heap[g]? = some (.cells cur 60 (0, 0))
  hX : w.heap[X]? = some (.cells #[.pointer (some ⟨S, 0, none⟩)] 30 (0, 0))
  hS : w.heap[S]? = some (.cells (stA q l V) 59 (0, 0))
  gne : ∀ (i j : Nat) (e e' : Be), i ≠ j → es[i]? = some e → es[j]? = some e' → e.g ≠ e'.g
  idl : ∀ (j : Nat) (e : Be), es[j]? = some e → 0 ≤ e.idle ∧ e.idle ≤ 1000
  ats : ∀ (j : Nat) (e : Be), es[j]? = some e → e.at w
theorem TkR.not_g (h : TkR es g X S q l V w) : ¬ tF es g := by
  rintro ⟨j, e, he, hx⟩
  obtain ⟨cur, hc⟩ := h.gty
  exact ty_ne hc (h.ats j e he) (by decide) hx
theorem TkR.xs (h : TkR es g X S q l V w) {W : World} (t : Turn (tF es) w W) : W.heap[X]? = some (.cells #[.pointer (some ⟨S, 0, none⟩)] 30 (0, 0)) ∧ W.heap[S]? = some (.cells (stA q l V) 59 (0, 0)) := by
  constructor
  · refine (t.block X (lt_heap h.hX) ?_).trans h.hX
    rintro ⟨j, e, he, hx⟩
    exact ty_ne h.hX (h.ats j e he) (by decide) hx
  · refine (t.block S (lt_heap h.hS) ?_).trans h.hS
    rintro ⟨j, e, he, hx⟩
    exact ty_ne h.hS (h.ats j e he) (by decide) hx
set_option maxRecDepth 100000 in
set_option maxHeartbeats 1600000 in
theorem index_t (h : TkR es g X S q l V w) (c : Nat) (hrow : ∀ (j : Nat) (e : Be), es[j]? = some e → w.cell? ⟨g, j, none⟩ = some e.ptr) :
    Calls Tryd.prog 43 #[.slice (some ⟨g, 0, none⟩) es.length c, .func (.func 34) #[] #[.pointer (some ⟨X, 0, none⟩)]] w fun r w' => ∃ z : Int, r = .returned (.int .i64 z) ∧ ((z = -1 ∧ TkS es w w' es.length ∧ ∀ (j : Nat) (e : Be), es[j]? = some e → e.gone l = false) ∨ (∃ (i : Nat) (e : Be), z = (i : Int) ∧ es[i]? = some e ∧ e.gone l = true ∧ TkS es w w' (i + 1) ∧ ∀ (j : Nat) (e' : Be), j < i → es[j]? = some e' → e'.gone l = false)) := by
  obtain ⟨len, hlen⟩ : ∃ n, n = es.length := ⟨_, rfl⟩
  rw [← hlen]
  have HL := Lib.hid hlen
  have hl' : len ≤ 1000 := by have := h.len; omega
  have HR := Lib.hid (And.intro h hrow)
  have hself : TkS es w w 0 := ⟨Turn.of_below (Below.refl _ _), fun j e he => by rw [if_neg (by omega)]; exact h.ats j e he⟩
  clear hlen h hrow
  go_enter Tryd.func43, Tryd.ntmps43
  go_wp2_with fail
  go_loopg [5, 8] len (fun gg _ s8 wr => ∃ kk : Nat, kk ≤ len ∧ len - kk ≤ gg ∧ s8 = .int .i64 kk ∧ TkS es w wr kk ∧ Hid (∀ (j : Nat) (e' : Be), j < kk → es[j]? = some e' → e'.gone l = false))
  case atStart => exact ⟨0, Nat.zero_le _, by omega, rfl, hself, fun j _ hj => absurd hj (Nat.not_lt_zero _)⟩
  case round =>
    obtain ⟨kk, hkk, hgg, rfl, hb, hM⟩ := hrel
    by_cases hlt : kk < len
    · have hk1 : (kk : Int) < (len : Int) := by omega
      obtain ⟨e, he⟩ : ∃ e, es[kk]? = some e := ⟨es[kk]'(by rw [← HL.out]; exact hlt), List.getElem?_eq_getElem _⟩
      have HE := Lib.hid he
      have hc : wr.cell? ⟨g, kk, none⟩ = some e.ptr := (hb.tu.cell HR.out.1.lt HR.out.1.not_g).trans (HR.out.2 kk e he)
      have ha : e.at wr := by
        have := hb.at' kk e he
        rwa [if_neg (by omega)] at this
      have hxs := HR.out.1.xs hb.tu
      have hcon := Lib.hid (tick1 wr e X S q l V ha hxs.1 hxs.2 (HR.out.1.idl kk e he))
      have hptr : e.ptr = .pointer (some ⟨e.g, 0, none⟩) := rfl
      rw [hptr] at hc hcon
      obtain ⟨b, hbv⟩ : ∃ b, b = e.gone l := ⟨_, rfl⟩
      rw [← hbv] at hcon
      have HV := Lib.hid hbv
      have HB := Lib.hid hb
      clear he ha hbv hxs hptr hb
      cases b with
      | true =>
        go_wp2_with (refine (hcon.out).mono ?_; rintro r w' ⟨rfl, m, rfl⟩)
        go_ret
        exact ⟨_, rfl, .inr ⟨kk, e, rfl, HE.out, HV.out.symm, HB.out.step HE.out HR.out.1.gne _, hM.out⟩⟩
      | false =>
        go_wp2_with (refine (hcon.out).mono ?_; rintro r w' ⟨rfl, m, rfl⟩)
        go_roundg (len - (kk + 1))
        case measure => omega
        case rel =>
          refine ⟨kk + 1, by omega, by omega, by go_num, HB.out.step HE.out HR.out.1.gne _, fun j e' hj he' => ?_⟩
          by_cases e2 : j = kk
          · subst e2
            obtain rfl := Option.some.inj (HE.out.symm.trans he')
            exact HV.out.symm
          · exact hM.out j e' (by omega) he'
    · have hk1 : ¬ (kk : Int) < (len : Int) := by omega
      obtain rfl : kk = len := by omega
      go_wp2
      go_ret
      exact ⟨_, rfl, .inl ⟨rfl, hb, fun j e' he' => hM.out j e' (by have := (List.getElem?_eq_some_iff.1 he').1; rw [← HL.out] at this; exact this) he'⟩⟩
end
end Go.Proofs.YtegijahkiopncaaDoor
