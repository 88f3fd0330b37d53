import Derived.Test.YtegijahkiopncaaDoorBlm
import Derived.Laws.CopyRow
/-
  blob: Tick.
-/
namespace Go.Proofs.YtegijahkiopncaaDoor
open Go.RowKit
theorem zero_P (w : World) : (zeroValue 60).run Tryd.prog w = .ok (.pointer none) w := by kernel_rfl
theorem clear_p (w : World) (ty : TypeId) (g o n c : Nat) (cur : Array Value) (hg : w.heap[g]? = some (.cells cur 60 (0, 0))) (hfit : o + n ≤ cur.size) (hn : 0 < n) :
    (Builtin.clear_ #[57] ty #[.slice (some ⟨g, o, none⟩) n c]).run Tryd.prog w = .ok (.tuple #[]) (w.setRow g (cur.toList.take o ++ List.replicate n (Value.pointer none) ++ cur.toList.drop (o + n)).toArray) := by
  have hzc : (Builtin.zeroCells (Value.pointer none).cells n).toList = List.replicate n (.pointer none) := by
    simp only [Builtin.zeroCells, Value.cells]
    simp [Nat.mod_one]
    rw [List.map_const', List.length_range]
  have hst := run_storeCells_at Tryd.prog g o 60 (List.replicate n (.pointer none)) 0 cur w hg (by simpa using hfit) (by intro v hv; rw [List.eq_of_mem_replicate hv]; rfl)
  simp only [Nat.add_zero, List.length_replicate] at hst
  have hu := Tryd.underlying57
  obtain ⟨m, rfl⟩ : ∃ m, n = m + 1 := ⟨n - 1, by omega⟩
  simp only [List.append_assoc] at hst
  simp [Builtin.clear_, run_underlying hu, zero_P, hzc, hst]
theorem exec_clear {P : Program} {a : Act} {o : Oper} {x : Operand} {t : TypeId} {vx : Value} {w w' : World} (ho : o.op = .call { callee := .builtin .clear, args := #[x], argTypes := #[t] }) (hx : a.eval x = vx)
    (he : (Builtin.clear_ #[t] o.type #[vx]).run P w = .ok (.tuple #[]) w') : (execOp a.eval o).run P w = .ok (.value (.tuple #[])) w' := by
  simp only [execOp, ho, resolve, invoke, builtin, Sem.run_bind, Sem.run_pure, Result.andThen_ok, List.map_toArray, List.map_cons, List.map_nil, hx, he]
/-- which stay -/
def Be.stays (l : Int) (e : Be) : Bool := !(e.gone l)
def kept (es : List Be) (l : Int) (kk : Nat) : List Be := (es.take kk).filter (Be.stays l)
theorem kept_step {es : List Be} {l : Int} {kk : Nat} {e : Be} (h : es[kk]? = some e) : kept es l (kk + 1) = kept es l kk ++ (if e.gone l then [] else [e]) := by
  unfold kept
  rw [List.take_add_one, h, List.filter_append]
  congr 1
  cases h2 : e.gone l <;> simp [Be.stays, h2]
theorem kept_len (es : List Be) (l : Int) (kk : Nat) : (kept es l kk).length ≤ kk := Nat.le_trans (List.length_filter_le _ _) (by rw [List.length_take]; exact Nat.min_le_left _ _)
/-- the first of them all stay -/
theorem kept_all {es : List Be} {l : Int} {i : Nat} (h : ∀ (j : Nat) (e : Be), j < i → es[j]? = some e → e.gone l = false) : kept es l i = es.take i := by
  unfold kept
  rw [List.filter_eq_self]
  intro e he
  obtain ⟨j, hj, rfl⟩ := List.getElem_of_mem he
  have hj2 : j < i := by rw [List.length_take] at hj; omega
  have hj3 : j < es.length := by rw [List.length_take] at hj; omega
  have h5 := h j es[j] hj2 (List.getElem?_eq_getElem hj3)
  rw [List.getElem_take]
  unfold Be.stays
  rw [h5]
  rfl
section
variable {es : List Be} {g X S : Nat} {q l : Int} {V : Value} {w : World}
/-- the row while it is shortened: its first are those kept, from kk on it is as it was -/
structure RowK (es : List Be) (l : Int) (g c kk : Nat) (W : World) (cr : Array Value) : Prop where
  at' : W.heap[g]? = some (.cells cr 60 (0, 0))
  sz : cr.size = c
  lo : ∀ (t : Nat) (e : Be), (kept es l kk)[t]? = some e → cr[t]? = some e.ptr
  hi : ∀ (t : Nat) (e : Be), kk ≤ t → es[t]? = some e → cr[t]? = some e.ptr
set_option maxRecDepth 100000 in
set_option maxHeartbeats 1600000 in
theorem delete_t (h : TkR es g X S q l V w) (c : Nat) (hown : w.ownsRow 0 60 1 (.slice (some ⟨g, 0, none⟩) es.length c) es.length (es.map Be.ptr)) :
    Calls Tryd.prog 33 #[.slice (some ⟨g, 0, none⟩) es.length c, .func (.func 34) #[] #[.pointer (some ⟨X, 0, none⟩)]] w fun r w' => r = .returned (.slice (some ⟨g, 0, none⟩) (kept es l es.length).length c) ∧ w'.ownsRow 0 60 1 (.slice (some ⟨g, 0, none⟩) (kept es l es.length).length c) (kept es l es.length).length ((kept es l es.length).map Be.ptr) ∧ (∀ (j : Nat) (e : Be), es[j]? = some e → e.tick.at w') ∧ Turn (fun x => x = g ∨ tF es x) w w' := by
  have hrow : ∀ (j : Nat) (e : Be), es[j]? = some e → w.cell? ⟨g, j, none⟩ = some e.ptr := fun j e he => row_cell hown he
  have hix := Lib.hid (index_t h c hrow)
  obtain ⟨cur, hcur, hnc, hcm, hcs, htk⟩ : ∃ cur, w.heap[g]? = some (.cells cur 60 (0, 0)) ∧ es.length ≤ c ∧ c ≤ maxLen ∧ cur.size = c * 1 ∧ cur.toList.take (es.length * 1) = es.map Be.ptr := by
    rcases hown.2 with ⟨h2, _⟩ | ⟨g', c', cur, e1, _, h1, h2, h3, h4, h5⟩
    · cases h2
    · simp only [Value.slice.injEq, Option.some.injEq, Addr.mk.injEq, and_true, true_and] at e1
      obtain ⟨rfl, rfl⟩ := e1
      exact ⟨cur, h1, h2, h3, h4, h5⟩
  rw [Nat.mul_one] at hcs htk
  have hcell : ∀ (t : Nat) (e : Be), es[t]? = some e → cur[t]? = some e.ptr := fun t e he => by
    have h1 : (cur.toList.take es.length)[t]? = some e.ptr := by rw [htk, List.getElem?_map, he]; rfl
    rw [List.getElem?_take, if_pos (List.getElem?_eq_some_iff.1 he).1] at h1
    simpa using h1
  have HW := Lib.hid (And.intro h (And.intro hown (And.intro hcur (And.intro hcs hcell))))
  have HCM := Lib.hid hcm
  obtain ⟨len, hlen⟩ : ∃ n, n = es.length := ⟨_, rfl⟩
  rw [← hlen] at hnc
  have HC := Lib.hid hnc
  have HL := Lib.hid hlen
  have hl' : len ≤ 1000 := by have := h.len; omega
  rw [← hlen] at hix
  rw [← hlen]
  clear hlen h hrow hown hcur hcs hcell htk hnc hcm
  go_enter Tryd.func33, Tryd.ntmps33
  go_upto_region 2 with (go_at_call 43; refine hix.out.mono ?_; rintro r w1 ⟨z, rfl, hr⟩)
  rcases hr with ⟨rfl, hk1, hno⟩ | ⟨i, e, rfl, he, hgo, hk1, hno⟩
  · have HK := Lib.hid (And.intro hk1 hno)
    clear hk1 hno
    go_wp2_with fail
    go_ret
    obtain ⟨hk1, hno⟩ := HK.out
    have hall : kept es l len = es := by
      rw [kept_all (fun j e _ he => hno j e he), HL.out, List.take_length]
    rw [hall, ← HL.out]
    refine ⟨rfl, ?_, fun j e he => ?_, hk1.tu.mono (fun _ h => .inr h)⟩
    · have hown := HW.out.2.1
      rw [← HL.out] at hown
      refine own_keep hown fun k hk => ?_
      obtain rfl : g = k := Option.some.inj hk
      exact hk1.tu.block g HW.out.1.lt HW.out.1.not_g
    · have := hk1.at' j e he
      rwa [if_pos (by have := (List.getElem?_eq_some_iff.1 he).1; have := HL.out; omega)] at this
  · have hil : i < len := by rw [HL.out]; exact (List.getElem?_eq_some_iff.1 he).1
    have hki : kept es l (i + 1) = es.take i := by
      rw [kept_step he, hgo, kept_all hno]
      simp
    have hkl : (kept es l (i + 1)).length = i := by
      rw [hki, List.length_take]
      have := HL.out
      omega
    have hself : ∃ cr, RowK es l g c (i + 1) w1 cr := by
      obtain ⟨hR, hown, hcur, hcs, hcell⟩ := HW.out
      refine ⟨cur, (hk1.tu.block g hR.lt hR.not_g).trans hcur, hcs, fun t x hx => ?_, fun t x _ hx => hcell t x hx⟩
      rw [hki, List.getElem?_take] at hx
      split at hx
      · exact hcell t x hx
      · cases hx
    have ht0 : Turn (fun x => x = g ∨ tF es x) w w1 := hk1.tu.mono (fun _ h => .inr h)
    have hat0 : Hid (∀ (j : Nat) (e : Be), es[j]? = some e → (if j < i + 1 then e.tick else e).at w1) := hk1.at'
    have hkl' : (kept es l (i + 1)).length < i + 1 := by omega
    obtain ⟨zi, hzi⟩ : ∃ z : Nat, z = (kept es l (i + 1)).length := ⟨_, rfl⟩
    have HZI := Lib.hid hzi
    have hii : (i : Int) = (zi : Int) := by rw [hzi, hkl]
    have hi0 : ¬ (i : Int) = -1 := by omega
    have hw2 : wrap64 ((i : Int) + 1) = ((i + 1 : Nat) : Int) := by unfold wrap64; omega
    clear hki hkl hk1 hno hgo he hzi hix
    have hw3 : ((i + 1 : Nat) : Int) = (i : Int) + 1 := by omega
    go_upto_region 5 with (fail)
    go_loopg [5, 6] len (fun gg s5 s6 wr => ∃ kk : Nat, kk ≤ len ∧ len - kk ≤ gg ∧ s6 = .int .i64 (kk : Int) ∧ s5 = .int .i64 ((kept es l kk).length : Int) ∧ (kept es l kk).length < kk ∧ Turn (fun x => x = g ∨ tF es x) w wr ∧ Hid (∀ (j : Nat) (e : Be), es[j]? = some e → (if j < kk then e.tick else e).at wr) ∧ ∃ cr, Hid (RowK es l g c kk wr cr))
    case atStart => exact ⟨i + 1, by omega, by omega, by rw [hw3, hii], by rw [hii, HZI.out], hkl', ht0, hat0, hself.elim fun cr h => ⟨cr, h⟩⟩
    clear hself hat0 ht0 hkl' hii hi0 hw2 hw3 HZI
    case round =>
      obtain ⟨kk, hkk, hgg, rfl, rfl, hik, ht, hat, cr, hrk⟩ := hrel
      obtain ⟨i1, hi1⟩ : ∃ x, x = (kept es l kk).length := ⟨_, rfl⟩
      rw [← hi1] at hik ⊢
      have HI := Lib.hid hi1
      clear hi1
      have hcz : cr.size = c := hrk.out.sz
      by_cases hlt : kk < len
      · have hk1 : (kk : Int) < (len : Int) := by omega
        have hi2 : (i1 : Int) < (len : Int) := by omega
        obtain ⟨e, he⟩ : ∃ e, es[kk]? = some e := ⟨es[kk]'(by rw [← HL.out]; exact hlt), List.getElem?_eq_getElem _⟩
        have hc : wr.cell? ⟨g, kk, none⟩ = some e.ptr := cell_heap hrk.out.at' (hrk.out.hi kk e (Nat.le_refl _) he)
        have ha : e.at wr := by
          have := hat.out kk e he
          rwa [if_neg (by omega)] at this
        obtain ⟨cur0, hg0⟩ := HW.out.1.gty
        have hX : wr.heap[X]? = some (.cells #[.pointer (some ⟨S, 0, none⟩)] 30 (0, 0)) := (ht.block X (lt_heap HW.out.1.hX) (by
          rintro (hx | ⟨j, y, hy, hx⟩)
          · exact ty_ne HW.out.1.hX hg0 (by decide) hx
          · exact ty_ne HW.out.1.hX (HW.out.1.ats j y hy) (by decide) hx)).trans HW.out.1.hX
        have hS : wr.heap[S]? = some (.cells (stA q l V) 59 (0, 0)) := (ht.block S (lt_heap HW.out.1.hS) (by
          rintro (hx | ⟨j, y, hy, hx⟩)
          · exact ty_ne HW.out.1.hS hg0 (by decide) hx
          · exact ty_ne HW.out.1.hS (HW.out.1.ats j y hy) (by decide) hx)).trans HW.out.1.hS
        have hcon := Lib.hid (tick1 wr e X S q l V ha hX hS (HW.out.1.idl kk e he))
        have hptr : e.ptr = .pointer (some ⟨e.g, 0, none⟩) := rfl
        have hge : g ≠ e.g := ty_ne hrk.out.at' ha (by decide)
        rw [hptr] at hc hcon
        have hks := kept_step (l := l) he
        obtain ⟨b, hbv⟩ : ∃ b, b = e.gone l := ⟨_, rfl⟩
        rw [← hbv] at hcon hks
        have HV := Lib.hid (And.intro hks (And.intro ht (And.intro hge he)))
        have hfac : ∀ m, ((wr.setCell ⟨e.g, 35, none⟩ (.int .i64 (e.idle + 1))).drewN m).heap[g]? = some (.cells cr 60 (0, 0)) := fun m => (heap_setCell_other wr ⟨e.g, 35, none⟩ g _ hge).trans hrk.out.at'
        have HF := Lib.hid hfac
        obtain ⟨u, hu⟩ : ∃ u, cr[i1]? = some u := ⟨cr[i1]'(by have := HC.out; omega), Array.getElem?_eq_getElem _⟩
        have HU := Lib.hid hu
        clear he ha hbv hX hS hptr hks ht hge hfac hu hg0
        cases b with
        | false =>
          go_wp2_with (refine (hcon.out).mono ?_; rintro r w2 ⟨rfl, m, hw2⟩; have hg2 := HF.out m; rw [← hw2] at hg2; have hc2 : w2.cell? ⟨g, i1, none⟩ = some u := cell_heap hg2 HU.out; have hf2 := thaw_heap hg2 i1; have HW2 := Lib.hid (And.intro hw2 hg2); clear hw2 hg2)
          go_roundg (len - (kk + 1))
          case measure => omega
          case rel =>
            obtain ⟨hks, ht, hge, he⟩ := HV.out
            obtain ⟨hw2, hg2⟩ := HW2.out
            have hst : TkS es wr w2 (kk + 1) := by rw [hw2]; exact TkS.step ⟨Turn.of_below (Below.refl _ _), hat.out⟩ he HW.out.1.gne m
            have ht3 : Turn (· = g) w2 (w2.setCell ⟨g, i1, none⟩ e.ptr) := set_turnH w2 g i1 _
            simp only [Bool.false_eq_true, if_false] at hks
            have hkl : (kept es l (kk + 1)).length = i1 + 1 := by rw [hks, List.length_append, ← HI.out]; rfl
            refine ⟨kk + 1, by omega, by omega, by go_num, by rw [hkl]; go_num, by omega, (ht.trans hst.tu (fun x hx => .inl (.inr hx))).trans ht3 (fun x hx => .inl (.inl hx)), fun j x hx => ?_, cr.setIfInBounds i1 e.ptr, ⟨heap_setCell_same w2 g i1 _ _ _ hg2, by rw [Array.size_setIfInBounds]; exact hcz, fun t x hx => ?_, fun t x ht1 hx => ?_⟩⟩
            · have h1 := hst.at' j x hx
              refine (ht3.block _ (lt_heap h1) ?_).trans h1
              intro y
              exact ty_ne hg2 h1 (by decide) y.symm
            · rw [Array.getElem?_setIfInBounds]
              by_cases h1 : i1 = t
              · subst h1
                have hsz : i1 < cr.size := by have := HC.out; omega
                rw [if_pos rfl, if_pos hsz]
                rw [hks, List.getElem?_append_right (by rw [← HI.out]; exact Nat.le_refl _), ← HI.out, Nat.sub_self] at hx
                obtain rfl := Option.some.inj hx
                rfl
              · rw [if_neg h1]
                have hlt2 := (List.getElem?_eq_some_iff.1 hx).1
                rw [hkl] at hlt2
                rw [hks, List.getElem?_append_left (by rw [← HI.out]; omega)] at hx
                exact hrk.out.lo t x hx
            · rw [Array.getElem?_setIfInBounds, if_neg (by omega)]
              exact hrk.out.hi t x (by omega) hx
        | true =>
          go_wp2_with (refine (hcon.out).mono ?_; rintro r w2 ⟨rfl, m, hw2⟩; have hg2 := HF.out m; rw [← hw2] at hg2; have HW2 := Lib.hid (And.intro hw2 hg2); clear hw2 hg2)
          go_roundg (len - (kk + 1))
          case measure => omega
          case rel =>
            obtain ⟨hks, ht, hge, he⟩ := HV.out
            obtain ⟨hw2, hg2⟩ := HW2.out
            have hst : TkS es wr w2 (kk + 1) := by rw [hw2]; exact TkS.step ⟨Turn.of_below (Below.refl _ _), hat.out⟩ he HW.out.1.gne m
            simp only [if_true, List.append_nil] at hks
            refine ⟨kk + 1, by omega, by omega, by go_num, by rw [hks, ← HI.out], by rw [hks, ← HI.out]; omega, ht.trans hst.tu (fun x hx => .inl (.inr hx)), hst.at', cr, ⟨hg2, hcz, fun t x hx => ?_, fun t x ht1 hx => hrk.out.hi t x (by omega) hx⟩⟩
            rw [hks] at hx
            exact hrk.out.lo t x hx
      · have hk1 : ¬ (kk : Int) < (len : Int) := by omega
        obtain rfl : kk = len := by omega
        have hcr := hrk.out.at'
        have hi2 : i1 < kk := hik
        have hcl : kk ≤ cr.size := by rw [hcz]; exact HC.out
        have HT := Lib.hid (And.intro ht hat.out)
        clear ht hat
        go_upto_region 11 with (fail)
        refine wp_region_lit ?_
        try simp only [put_list, List.set_cons_zero, List.set_cons_succ]
        refine wpList_run (by kernel_rfl) (.slice (some ⟨g, 0, none⟩) kk c) (wr) (exec_move rfl (by kernel_rfl)) ?_
        try simp only [put_list, List.set_cons_zero, List.set_cons_succ]
        refine wpList_run (by kernel_rfl) (.int .i64 (i1 : Int)) (wr) (exec_move rfl (by kernel_rfl)) ?_
        try simp only [put_list, List.set_cons_zero, List.set_cons_succ]
        refine wpList_run (by kernel_rfl) (.slice (some ⟨g, i1, none⟩) (kk - i1) (c - i1)) (wr) (exec_slice (vx := .slice (some ⟨g, 0, none⟩) kk c) (l := some (.int .i64 (i1 : Int))) (h := none) (m := none) rfl (by kernel_rfl) (by have h3 := slice_sl_l (P := Tryd.prog) (t := 57) (e := 60) Tryd.underlying57 (by kernel_rfl) (some ⟨g, 0, none⟩) kk c i1 _ rfl (by omega) wr; rw [cutA_some (n := kk) (by omega) HC.out, Nat.zero_add] at h3; exact h3)) ?_
        try simp only [put_list, List.set_cons_zero, List.set_cons_succ]
        refine wpList_run (by kernel_rfl) (.tuple #[]) ((wr.setRow g (cr.toList.take i1 ++ List.replicate (kk - i1) (Value.pointer none) ++ cr.toList.drop (i1 + (kk - i1))).toArray)) (exec_clear rfl (by kernel_rfl) (clear_p wr _ g i1 (kk - i1) (c - i1) cr hcr (by omega) (by omega))) ?_
        refine wpList_nil ?_
        simp only [put_list, put_none, List.set_cons_zero, List.set_cons_succ]
        have hi4 : (i1 : Int) ≤ (c : Int) := by have := HC.out; omega
        have HCR := Lib.hid hcr
        obtain ⟨W5, hW5⟩ : ∃ W5, W5 = (wr.setRow g (cr.toList.take i1 ++ List.replicate (kk - i1) (Value.pointer none) ++ cr.toList.drop (i1 + (kk - i1))).toArray) := ⟨_, rfl⟩
        rw [← hW5]
        have HW5 := Lib.hid hW5
        clear hW5 hcr
        go_wp2_with fail
        go_ret
        have hW5 := HW5.out
        have hcr := HCR.out
        obtain ⟨ht, hat⟩ := HT.out
        have h5 : W5.heap[g]? = some (.cells (cr.toList.take i1 ++ List.replicate (kk - i1) (Value.pointer none) ++ cr.toList.drop (i1 + (kk - i1))).toArray 60 (0, 0)) := by rw [hW5]; exact setRow_heap wr g cr _ _ _ hcr
        have ht5 : Turn (· = g) wr W5 := by
          rw [hW5]
          exact ⟨rfl, rfl, rfl, by simp [World.setRow], fun k _ hk => setRow_other wr g k _ hk⟩
        have hctl : cr.toList.length = c := by rw [Array.length_toList]; exact hcz
        rw [← HI.out]
        refine ⟨rfl, ⟨by simp [HI.out], .inr ⟨g, c, _, rfl, Nat.zero_le _, h5, by have := HC.out; omega, HCM.out, ?_, ?_⟩⟩, fun j e he => ?_, ht.trans ht5 (fun x hx => .inl (.inl hx))⟩
        · simp only [List.size_toArray, List.length_append, List.length_take, List.length_drop, List.length_replicate]
          omega
        · rw [Nat.mul_one]
          show (cr.toList.take i1 ++ List.replicate (kk - i1) (Value.pointer none) ++ cr.toList.drop (i1 + (kk - i1))).take i1 = _
          rw [List.append_assoc, List.take_left' (by rw [List.length_take]; omega)]
          apply List.ext_getElem?
          intro t
          rw [List.getElem?_take, List.getElem?_map]
          by_cases h1 : t < i1
          · rw [if_pos h1]
            obtain ⟨x, hx⟩ : ∃ x, (kept es l kk)[t]? = some x := ⟨(kept es l kk)[t]'(by rw [← HI.out]; exact h1), List.getElem?_eq_getElem _⟩
            rw [hx, Array.getElem?_toList]
            exact hrk.out.lo t x hx
          · rw [if_neg h1, List.getElem?_eq_none (by rw [← HI.out]; omega)]
            rfl
        · have h1 := hat j e he
          rw [if_pos (by have := (List.getElem?_eq_some_iff.1 he).1; have := HL.out; omega)] at h1
          refine (ht5.block _ (lt_heap h1) ?_).trans h1
          intro y
          exact ty_ne hcr h1 (by decide) y.symm
end
end Go.Proofs.YtegijahkiopncaaDoor
