import Derived.Test.YtegijahkiopncaaDoorBlj
import Derived.Laws.CopyRow
/-
  blob: Tick.
  blob: Tick.
  blob: Tick, All.
-/
namespace Go.Proofs.YtegijahkiopncaaDoor
open Go.RowKit

/-- an entry behind a tick -/
def Be.tick (e : Be) : Be := ⟨e.g, e.f, e.n, e.D, e.bs, e.done, e.idle + 1⟩
/-- gone by that tick -/
def Be.gone (l : Int) (e : Be) : Bool := decide (l ≤ e.idle + 1)
set_option maxRecDepth 100000 in
set_option maxHeartbeats 1600000 in
theorem tick1 (w : World) (e : Be) (X S : Nat) (q l : Int) (V : Value) (h : e.at w) (hX : w.heap[X]? = some (.cells #[.pointer (some ⟨S, 0, none⟩)] 30 (0, 0))) (hS : w.heap[S]? = some (.cells (stA q l V) 59 (0, 0))) (hi : 0 ≤ e.idle ∧ e.idle ≤ 1000) :
    Calls Tryd.prog 34 #[e.ptr, .pointer (some ⟨X, 0, none⟩)] w fun r w' => r = .returned (.bool (e.gone l)) ∧ ∃ m, w' = (w.setCell ⟨e.g, 35, none⟩ (.int .i64 (e.idle + 1))).drewN m := by
  have hptr : e.ptr = .pointer (some ⟨e.g, 0, none⟩) := rfl
  rw [hptr]
  have hc : w.cell? ⟨e.g, 35, none⟩ = some (.int .i64 e.idle) := cell_heap h (en_c35 _ _ _ _ _)
  have hfz := thaw_heap h 35
  have hw : wrap64 (e.idle + 1) = e.idle + 1 := by unfold wrap64; omega
  have hne1 : X ≠ e.g := ty_ne hX h (by decide)
  have hne2 : S ≠ e.g := ty_ne hS h (by decide)
  have hs : (w.setCell ⟨e.g, 35, none⟩ (.int .i64 (e.idle + 1))).heap[e.g]? = some (.cells ((enA e.f e.n e.D e.done e.idle).setIfInBounds 35 (.int .i64 (e.idle + 1))) 63 (0, 0)) := heap_setCell_same w e.g 35 _ _ _ h
  obtain ⟨w1, hw1⟩ : ∃ w1, w1 = w.setCell ⟨e.g, 35, none⟩ (.int .i64 (e.idle + 1)) := ⟨_, rfl⟩
  have hcx : w1.cell? ⟨X, 0, none⟩ = some (.pointer (some ⟨S, 0, none⟩)) := by
    rw [hw1]
    exact (w.cell?_setCell_other ⟨e.g, 35, none⟩ ⟨X, 0, none⟩ _ (fun y => hne1 (congrArg Addr.block y).symm)).trans (cell_heap hX rfl)
  have hcl : w1.cell? ⟨S, 1, none⟩ = some (.int .i64 l) := by
    rw [hw1]
    exact (w.cell?_setCell_other ⟨e.g, 35, none⟩ ⟨S, 1, none⟩ _ (fun y => hne2 (congrArg Addr.block y).symm)).trans (cell_heap hS rfl)
  have hci : w1.cell? ⟨e.g, 35, none⟩ = some (.int .i64 (e.idle + 1)) := by
    rw [hw1]
    rw [hw1] at *
    rw [en_set35] at hs
    exact cell_heap hs (en_c35 _ _ _ _ _)
  have HW1 := Lib.hid hw1
  clear hs hX hS h hptr hne1 hne2
  go_enter Tryd.func34, Tryd.ntmps34
  go_upto_region 2 with (fail)
  rw [← hw1]
  clear hw1
  go_quiet (fail)
  go_wp2_with fail
  go_ret
  exact ⟨rfl, _, by rw [← HW1.out]⟩
/-- the blocks that a tick turns -/
def tF (es : List Be) (x : Nat) : Prop := ∃ (j : Nat) (e : Be), es[j]? = some e ∧ x = e.g
/-- behind the first kk ticks -/
structure TkS (es : List Be) (w W : World) (kk : Nat) : Prop where
  tu : Turn (tF es) w W
  at' : ∀ (j : Nat) (e : Be), es[j]? = some e → (if j < kk then e.tick else e).at W
theorem TkS.step {es : List Be} {w W : World} {kk : Nat} {e : Be} (h : TkS es w W kk) (hk : es[kk]? = some e) (hg : ∀ (i j : Nat) (e e' : Be), i ≠ j → es[i]? = some e → es[j]? = some e' → e.g ≠ e'.g) (m : Nat) : TkS es w ((W.setCell ⟨e.g, 35, none⟩ (.int .i64 (e.idle + 1))).drewN m) (kk + 1) := by
  have ht : Turn (· = e.g) W ((W.setCell ⟨e.g, 35, none⟩ (.int .i64 (e.idle + 1))).drewN m) := (set_turnH W e.g 35 _).trans (Turn.of_below (F := fun _ => False) (below_drewN (Below.refl _ _) m)) (fun _ h => h.elim)
  refine ⟨h.tu.trans ht (fun x hx => .inl ⟨kk, e, hk, hx⟩), fun j x hx => ?_⟩
  have hj := h.at' j x hx
  by_cases e1 : j = kk
  · subst e1
    obtain rfl := Option.some.inj (hx.symm.trans hk)
    rw [if_neg (by omega)] at hj
    rw [if_pos (by omega)]
    show (W.setCell ⟨x.g, 35, none⟩ (.int .i64 (x.idle + 1))).heap[x.g]? = some (.cells (enA x.f x.n x.D x.done (x.idle + 1)) 63 (0, 0))
    rw [← en_set35 x.f x.n x.D x.done x.idle (x.idle + 1)]
    exact heap_setCell_same W x.g 35 _ _ _ hj
  · have h2 : (if j < kk + 1 then x.tick else x) = (if j < kk then x.tick else x) := by
      by_cases h3 : j < kk
      · rw [if_pos h3, if_pos (by omega)]
      · rw [if_neg h3, if_neg (by omega)]
    rw [h2]
    have h4 : (if j < kk then x.tick else x).g = x.g := by split <;> rfl
    exact (ht.block _ (lt_heap hj) (by rw [h4]; exact hg j kk x e e1 hx hk)).trans hj
section
variable {es : List Be} {g X S : Nat} {q l : Int} {V : Value} {w : World}
/-- what a walk over the entries wants -/
structure TkR (es : List Be) (g X S : Nat) (q l : Int) (V : Value) (w : World) : Prop where
  len : es.length ≤ 1000
  lt : g < w.heap.size
  gty : ∃ cur, w.heap[g]? = some (.cells cur 60 (0, 0))
  hX : w.heap[X]? = some (.cells #[.pointer (some ⟨S, 0, none⟩)] 30 (0, 0))
  hS : w.heap[S]? = some (.cells (stA q l V) 59 (0, 0))
  gne : ∀ (i j : Nat) (e e' : Be), i ≠ j → es[i]? = some e → es[j]? = some e' → e.g ≠ e'.g
  idl : ∀ (j : Nat) (e : Be), es[j]? = some e → 0 ≤ e.idle ∧ e.idle ≤ 1000
  ats : ∀ (j : Nat) (e : Be), es[j]? = some e → e.at w
theorem TkR.not_g (h : TkR es g X S q l V w) : ¬ tF es g := by
  rintro ⟨j, e, he, hx⟩
  obtain ⟨cur, hc⟩ := h.gty
  exact ty_ne hc (h.ats j e he) (by decide) hx
theorem TkR.xs (h : TkR es g X S q l V w) {W : World} (t : Turn (tF es) w W) : W.heap[X]? = some (.cells #[.pointer (some ⟨S, 0, none⟩)] 30 (0, 0)) ∧ W.heap[S]? = some (.cells (stA q l V) 59 (0, 0)) := by
  constructor
  · refine (t.block X (lt_heap h.hX) ?_).trans h.hX
    rintro ⟨j, e, he, hx⟩
    exact ty_ne h.hX (h.ats j e he) (by decide) hx
  · refine (t.block S (lt_heap h.hS) ?_).trans h.hS
    rintro ⟨j, e, he, hx⟩
    exact ty_ne h.hS (h.ats j e he) (by decide) hx
set_option maxRecDepth 100000 in
set_option maxHeartbeats 1600000 in
theorem index_t (h : TkR es g X S q l V w) (c : Nat) (hrow : ∀ (j : Nat) (e : Be), es[j]? = some e → w.cell? ⟨g, j, none⟩ = some e.ptr) :
    Calls Tryd.prog 43 #[.slice (some ⟨g, 0, none⟩) es.length c, .func (.func 34) #[] #[.pointer (some ⟨X, 0, none⟩)]] w fun r w' => ∃ z : Int, r = .returned (.int .i64 z) ∧ ((z = -1 ∧ TkS es w w' es.length ∧ ∀ (j : Nat) (e : Be), es[j]? = some e → e.gone l = false) ∨ (∃ (i : Nat) (e : Be), z = (i : Int) ∧ es[i]? = some e ∧ e.gone l = true ∧ TkS es w w' (i + 1) ∧ ∀ (j : Nat) (e' : Be), j < i → es[j]? = some e' → e'.gone l = false)) := by
  obtain ⟨len, hlen⟩ : ∃ n, n = es.length := ⟨_, rfl⟩
  rw [← hlen]
  have HL := Lib.hid hlen
  have hl' : len ≤ 1000 := by have := h.len; omega
  have HR := Lib.hid (And.intro h hrow)
  have hself : TkS es w w 0 := ⟨Turn.of_below (Below.refl _ _), fun j e he => by rw [if_neg (by omega)]; exact h.ats j e he⟩
  clear hlen h hrow
  go_enter Tryd.func43, Tryd.ntmps43
  go_wp2_with fail
  go_loopg [5, 8] len (fun gg _ s8 wr => ∃ kk : Nat, kk ≤ len ∧ len - kk ≤ gg ∧ s8 = .int .i64 kk ∧ TkS es w wr kk ∧ Hid (∀ (j : Nat) (e' : Be), j < kk → es[j]? = some e' → e'.gone l = false))
  case atStart => exact ⟨0, Nat.zero_le _, by omega, rfl, hself, fun j _ hj => absurd hj (Nat.not_lt_zero _)⟩
  case round =>
    obtain ⟨kk, hkk, hgg, rfl, hb, hM⟩ := hrel
    by_cases hlt : kk < len
    · have hk1 : (kk : Int) < (len : Int) := by omega
      obtain ⟨e, he⟩ : ∃ e, es[kk]? = some e := ⟨es[kk]'(by rw [← HL.out]; exact hlt), List.getElem?_eq_getElem _⟩
      have HE := Lib.hid he
      have hc : wr.cell? ⟨g, kk, none⟩ = some e.ptr := (hb.tu.cell HR.out.1.lt HR.out.1.not_g).trans (HR.out.2 kk e he)
      have ha : e.at wr := by
        have := hb.at' kk e he
        rwa [if_neg (by omega)] at this
      have hxs := HR.out.1.xs hb.tu
      have hcon := Lib.hid (tick1 wr e X S q l V ha hxs.1 hxs.2 (HR.out.1.idl kk e he))
      have hptr : e.ptr = .pointer (some ⟨e.g, 0, none⟩) := rfl
      rw [hptr] at hc hcon
      obtain ⟨b, hbv⟩ : ∃ b, b = e.gone l := ⟨_, rfl⟩
      rw [← hbv] at hcon
      have HV := Lib.hid hbv
      have HB := Lib.hid hb
      clear he ha hbv hxs hptr hb
      cases b with
      | true =>
        go_wp2_with (refine (hcon.out).mono ?_; rintro r w' ⟨rfl, m, rfl⟩)
        go_ret
        exact ⟨_, rfl, .inr ⟨kk, e, rfl, HE.out, HV.out.symm, HB.out.step HE.out HR.out.1.gne _, hM.out⟩⟩
      | false =>
        go_wp2_with (refine (hcon.out).mono ?_; rintro r w' ⟨rfl, m, rfl⟩)
        go_roundg (len - (kk + 1))
        case measure => omega
        case rel =>
          refine ⟨kk + 1, by omega, by omega, by go_num, HB.out.step HE.out HR.out.1.gne _, fun j e' hj he' => ?_⟩
          by_cases e2 : j = kk
          · subst e2
            obtain rfl := Option.some.inj (HE.out.symm.trans he')
            exact HV.out.symm
          · exact hM.out j e' (by omega) he'
    · have hk1 : ¬ (kk : Int) < (len : Int) := by omega
      obtain rfl : kk = len := by omega
      go_wp2
      go_ret
      exact ⟨_, rfl, .inl ⟨rfl, hb, fun j e' he' => hM.out j e' (by have := (List.getElem?_eq_some_iff.1 he').1; rw [← HL.out] at this; exact this) he'⟩⟩
end
theorem zero_P (w : World) : (zeroValue 60).run Tryd.prog w = .ok (.pointer none) w := by kernel_rfl
theorem clear_p (w : World) (ty : TypeId) (g o n c : Nat) (cur : Array Value) (hg : w.heap[g]? = some (.cells cur 60 (0, 0))) (hfit : o + n ≤ cur.size) (hn : 0 < n) :
    (Builtin.clear_ #[57] ty #[.slice (some ⟨g, o, none⟩) n c]).run Tryd.prog w = .ok (.tuple #[]) (w.setRow g (cur.toList.take o ++ List.replicate n (Value.pointer none) ++ cur.toList.drop (o + n)).toArray) := by
  have hzc : (Builtin.zeroCells (Value.pointer none).cells n).toList = List.replicate n (.pointer none) := by
    simp only [Builtin.zeroCells, Value.cells]
    simp [Nat.mod_one]
    rw [List.map_const', List.length_range]
  have hst := run_storeCells_at Tryd.prog g o 60 (List.replicate n (.pointer none)) 0 cur w hg (by simpa using hfit) (by intro v hv; rw [List.eq_of_mem_replicate hv]; rfl)
  simp only [Nat.add_zero, List.length_replicate] at hst
  have hu := Tryd.underlying57
  obtain ⟨m, rfl⟩ : ∃ m, n = m + 1 := ⟨n - 1, by omega⟩
  simp only [List.append_assoc] at hst
  simp [Builtin.clear_, run_underlying hu, hzc, hst]
theorem exec_clear {P : Program} {a : Act} {o : Oper} {x : Operand} {t : TypeId} {vx : Value} {w w' : World} (ho : o.op = .call { callee := .builtin .clear, args := #[x], argTypes := #[t] }) (hx : a.eval x = vx)
    (he : (Builtin.clear_ #[t] o.type #[vx]).run P w = .ok (.tuple #[]) w') : (execOp a.eval o).run P w = .ok (.value (.tuple #[])) w' := by
  simp only [execOp, ho, resolve, invoke, builtin, Sem.run_bind, Sem.run_pure, Result.andThen_ok, List.map_toArray, List.map_cons, List.map_nil, hx, he]
/-- which stay -/
def Be.stays (l : Int) (e : Be) : Bool := !(e.gone l)
def kept (es : List Be) (l : Int) (kk : Nat) : List Be := (es.take kk).filter (Be.stays l)
theorem kept_step {es : List Be} {l : Int} {kk : Nat} {e : Be} (h : es[kk]? = some e) : kept es l (kk + 1) = kept es l kk ++ (if e.gone l then [] else [e]) := by
  unfold kept
  rw [List.take_add_one, h, List.filter_append]
  congr 1
  cases h2 : e.gone l <;> simp [Be.stays, h2]
theorem kept_len (es : List Be) (l : Int) (kk : Nat) : (kept es l kk).length ≤ kk := Nat.le_trans (List.length_filter_le _ _) (by rw [List.length_take]; exact Nat.min_le_left _ _)
/-- the first of them all stay -/
theorem kept_all {es : List Be} {l : Int} {i : Nat} (h : ∀ (j : Nat) (e : Be), j < i → es[j]? = some e → e.gone l = false) : kept es l i = es.take i := by
  unfold kept
  rw [List.filter_eq_self]
  intro e he
  obtain ⟨j, hj, rfl⟩ := List.getElem_of_mem he
  have hj2 : j < i := by rw [List.length_take] at hj; omega
  have hj3 : j < es.length := by rw [List.length_take] at hj; omega
  have h5 := h j es[j] hj2 (List.getElem?_eq_getElem hj3)
  rw [List.getElem_take]
  unfold Be.stays
  rw [h5]
  rfl
section
variable {es : List Be} {g X S : Nat} {q l : Int} {V : Value} {w : World}
/-- the row while it is shortened: its first are those kept, from kk on it is as it was -/
structure RowK (es : List Be) (l : Int) (g c kk : Nat) (W : World) (cr : Array Value) : Prop where
  at' : W.heap[g]? = some (.cells cr 60 (0, 0))
  sz : cr.size = c
  lo : ∀ (t : Nat) (e : Be), (kept es l kk)[t]? = some e → cr[t]? = some e.ptr
  hi : ∀ (t : Nat) (e : Be), kk ≤ t → es[t]? = some e → cr[t]? = some e.ptr
set_option maxRecDepth 100000 in
set_option maxHeartbeats 1600000 in
theorem delete_t (h : TkR es g X S q l V w) (c : Nat) (hown : w.ownsRow 0 60 1 (.slice (some ⟨g, 0, none⟩) es.length c) es.length (es.map Be.ptr)) :
    Calls Tryd.prog 33 #[.slice (some ⟨g, 0, none⟩) es.length c, .func (.func 34) #[] #[.pointer (some ⟨X, 0, none⟩)]] w fun r w' => r = .returned (.slice (some ⟨g, 0, none⟩) (kept es l es.length).length c) ∧ w'.ownsRow 0 60 1 (.slice (some ⟨g, 0, none⟩) (kept es l es.length).length c) (kept es l es.length).length ((kept es l es.length).map Be.ptr) ∧ (∀ (j : Nat) (e : Be), es[j]? = some e → e.tick.at w') ∧ Turn (fun x => x = g ∨ tF es x) w w' := by
  have hrow : ∀ (j : Nat) (e : Be), es[j]? = some e → w.cell? ⟨g, j, none⟩ = some e.ptr := fun j e he => row_cell hown he
  have hix := Lib.hid (index_t h c hrow)
  obtain ⟨cur, hcur, hnc, hcm, hcs, htk⟩ : ∃ cur, w.heap[g]? = some (.cells cur 60 (0, 0)) ∧ es.length ≤ c ∧ c ≤ maxLen ∧ cur.size = c * 1 ∧ cur.toList.take (es.length * 1) = es.map Be.ptr := by
    rcases hown.2 with ⟨h2, _⟩ | ⟨g', c', cur, e1, _, h1, h2, h3, h4, h5⟩
    · cases h2
    · simp only [Value.slice.injEq, Option.some.injEq, Addr.mk.injEq, and_true, true_and] at e1
      obtain ⟨rfl, rfl⟩ := e1
      exact ⟨cur, h1, h2, h3, h4, h5⟩
  rw [Nat.mul_one] at hcs htk
  have hcell : ∀ (t : Nat) (e : Be), es[t]? = some e → cur[t]? = some e.ptr := fun t e he => by
    have h1 : (cur.toList.take es.length)[t]? = some e.ptr := by rw [htk, List.getElem?_map, he]; rfl
    rw [List.getElem?_take, if_pos (List.getElem?_eq_some_iff.1 he).1] at h1
    simpa using h1
  have HW := Lib.hid (And.intro h (And.intro hown (And.intro hcur (And.intro hcs hcell))))
  have HCM := Lib.hid hcm
  obtain ⟨len, hlen⟩ : ∃ n, n = es.length := ⟨_, rfl⟩
  rw [← hlen] at hnc
  have HC := Lib.hid hnc
  have HL := Lib.hid hlen
  have hl' : len ≤ 1000 := by have := h.len; omega
  rw [← hlen] at hix
  rw [← hlen]
  clear hlen h hrow hown hcur hcs hcell htk hnc hcm
  go_enter Tryd.func33, Tryd.ntmps33
  go_upto_region 2 with (go_at_call 43; refine hix.out.mono ?_; rintro r w1 ⟨z, rfl, hr⟩)
  rcases hr with ⟨rfl, hk1, hno⟩ | ⟨i, e, rfl, he, hgo, hk1, hno⟩
  · have HK := Lib.hid (And.intro hk1 hno)
    clear hk1 hno
    go_wp2_with fail
    go_ret
    obtain ⟨hk1, hno⟩ := HK.out
    have hall : kept es l len = es := by
      rw [kept_all (fun j e _ he => hno j e he), HL.out, List.take_length]
    rw [hall, ← HL.out]
    refine ⟨rfl, ?_, fun j e he => ?_, hk1.tu.mono (fun _ h => .inr h)⟩
    · have hown := HW.out.2.1
      rw [← HL.out] at hown
      refine own_keep hown fun k hk => ?_
      obtain rfl : g = k := Option.some.inj hk
      exact hk1.tu.block g HW.out.1.lt HW.out.1.not_g
    · have := hk1.at' j e he
      rwa [if_pos (by have := (List.getElem?_eq_some_iff.1 he).1; have := HL.out; omega)] at this
  · have hil : i < len := by rw [HL.out]; exact (List.getElem?_eq_some_iff.1 he).1
    have hki : kept es l (i + 1) = es.take i := by
      rw [kept_step he, hgo, kept_all hno]
      simp
    have hkl : (kept es l (i + 1)).length = i := by
      rw [hki, List.length_take]
      have := HL.out
      omega
    have hself : ∃ cr, RowK es l g c (i + 1) w1 cr := by
      obtain ⟨hR, hown, hcur, hcs, hcell⟩ := HW.out
      refine ⟨cur, (hk1.tu.block g hR.lt hR.not_g).trans hcur, hcs, fun t x hx => ?_, fun t x _ hx => hcell t x hx⟩
      rw [hki, List.getElem?_take] at hx
      split at hx
      · exact hcell t x hx
      · cases hx
    have ht0 : Turn (fun x => x = g ∨ tF es x) w w1 := hk1.tu.mono (fun _ h => .inr h)
    have hat0 : Hid (∀ (j : Nat) (e : Be), es[j]? = some e → (if j < i + 1 then e.tick else e).at w1) := hk1.at'
    have hkl' : (kept es l (i + 1)).length < i + 1 := by omega
    obtain ⟨zi, hzi⟩ : ∃ z : Nat, z = (kept es l (i + 1)).length := ⟨_, rfl⟩
    have HZI := Lib.hid hzi
    have hii : (i : Int) = (zi : Int) := by rw [hzi, hkl]
    have hi0 : ¬ (i : Int) = -1 := by omega
    have hw2 : wrap64 ((i : Int) + 1) = ((i + 1 : Nat) : Int) := by unfold wrap64; omega
    clear hki hkl hk1 hno hgo he hzi hix
    have hw3 : ((i + 1 : Nat) : Int) = (i : Int) + 1 := by omega
    go_upto_region 5 with (fail)
    go_loopg [5, 6] len (fun gg s5 s6 wr => ∃ kk : Nat, kk ≤ len ∧ len - kk ≤ gg ∧ s6 = .int .i64 (kk : Int) ∧ s5 = .int .i64 ((kept es l kk).length : Int) ∧ (kept es l kk).length < kk ∧ Turn (fun x => x = g ∨ tF es x) w wr ∧ Hid (∀ (j : Nat) (e : Be), es[j]? = some e → (if j < kk then e.tick else e).at wr) ∧ ∃ cr, Hid (RowK es l g c kk wr cr))
    case atStart => exact ⟨i + 1, by omega, by omega, by rw [hw3, hii], by rw [hii, HZI.out], hkl', ht0, hat0, hself.elim fun cr h => ⟨cr, h⟩⟩
    clear hself hat0 ht0 hkl' hii hi0 hw2 hw3 HZI
    case round =>
      obtain ⟨kk, hkk, hgg, rfl, rfl, hik, ht, hat, cr, hrk⟩ := hrel
      obtain ⟨i1, hi1⟩ : ∃ x, x = (kept es l kk).length := ⟨_, rfl⟩
      rw [← hi1] at hik ⊢
      have HI := Lib.hid hi1
      clear hi1
      have hcz : cr.size = c := hrk.out.sz
      by_cases hlt : kk < len
      · have hk1 : (kk : Int) < (len : Int) := by omega
        have hi2 : (i1 : Int) < (len : Int) := by omega
        obtain ⟨e, he⟩ : ∃ e, es[kk]? = some e := ⟨es[kk]'(by rw [← HL.out]; exact hlt), List.getElem?_eq_getElem _⟩
        have hc : wr.cell? ⟨g, kk, none⟩ = some e.ptr := cell_heap hrk.out.at' (hrk.out.hi kk e (Nat.le_refl _) he)
        have ha : e.at wr := by
          have := hat.out kk e he
          rwa [if_neg (by omega)] at this
        obtain ⟨cur0, hg0⟩ := HW.out.1.gty
        have hX : wr.heap[X]? = some (.cells #[.pointer (some ⟨S, 0, none⟩)] 30 (0, 0)) := (ht.block X (lt_heap HW.out.1.hX) (by
          rintro (hx | ⟨j, y, hy, hx⟩)
          · exact ty_ne HW.out.1.hX hg0 (by decide) hx
          · exact ty_ne HW.out.1.hX (HW.out.1.ats j y hy) (by decide) hx)).trans HW.out.1.hX
        have hS : wr.heap[S]? = some (.cells (stA q l V) 59 (0, 0)) := (ht.block S (lt_heap HW.out.1.hS) (by
          rintro (hx | ⟨j, y, hy, hx⟩)
          · exact ty_ne HW.out.1.hS hg0 (by decide) hx
          · exact ty_ne HW.out.1.hS (HW.out.1.ats j y hy) (by decide) hx)).trans HW.out.1.hS
        have hcon := Lib.hid (tick1 wr e X S q l V ha hX hS (HW.out.1.idl kk e he))
        have hptr : e.ptr = .pointer (some ⟨e.g, 0, none⟩) := rfl
        have hge : g ≠ e.g := ty_ne hrk.out.at' ha (by decide)
        rw [hptr] at hc hcon
        have hks := kept_step (l := l) he
        obtain ⟨b, hbv⟩ : ∃ b, b = e.gone l := ⟨_, rfl⟩
        rw [← hbv] at hcon hks
        have HV := Lib.hid (And.intro hks (And.intro ht (And.intro hge he)))
        have hfac : ∀ m, ((wr.setCell ⟨e.g, 35, none⟩ (.int .i64 (e.idle + 1))).drewN m).heap[g]? = some (.cells cr 60 (0, 0)) := fun m => (heap_setCell_other wr ⟨e.g, 35, none⟩ g _ hge).trans hrk.out.at'
        have HF := Lib.hid hfac
        obtain ⟨u, hu⟩ : ∃ u, cr[i1]? = some u := ⟨cr[i1]'(by have := HC.out; omega), Array.getElem?_eq_getElem _⟩
        have HU := Lib.hid hu
        clear he ha hbv hX hS hptr hks ht hge hfac hu hg0
        cases b with
        | false =>
          go_wp2_with (refine (hcon.out).mono ?_; rintro r w2 ⟨rfl, m, hw2⟩; have hg2 := HF.out m; rw [← hw2] at hg2; have hc2 : w2.cell? ⟨g, i1, none⟩ = some u := cell_heap hg2 HU.out; have hf2 := thaw_heap hg2 i1; have HW2 := Lib.hid (And.intro hw2 hg2); clear hw2 hg2)
          go_roundg (len - (kk + 1))
          case measure => omega
          case rel =>
            obtain ⟨hks, ht, hge, he⟩ := HV.out
            obtain ⟨hw2, hg2⟩ := HW2.out
            have hst : TkS es wr w2 (kk + 1) := by rw [hw2]; exact TkS.step ⟨Turn.of_below (Below.refl _ _), hat.out⟩ he HW.out.1.gne m
            have ht3 : Turn (· = g) w2 (w2.setCell ⟨g, i1, none⟩ e.ptr) := set_turnH w2 g i1 _
            simp only [Bool.false_eq_true, if_false] at hks
            have hkl : (kept es l (kk + 1)).length = i1 + 1 := by rw [hks, List.length_append, ← HI.out]; rfl
            refine ⟨kk + 1, by omega, by omega, by go_num, by rw [hkl]; go_num, by omega, (ht.trans hst.tu (fun x hx => .inl (.inr hx))).trans ht3 (fun x hx => .inl (.inl hx)), fun j x hx => ?_, cr.setIfInBounds i1 e.ptr, ⟨heap_setCell_same w2 g i1 _ _ _ hg2, by rw [Array.size_setIfInBounds]; exact hcz, fun t x hx => ?_, fun t x ht1 hx => ?_⟩⟩
            · have h1 := hst.at' j x hx
              refine (ht3.block _ (lt_heap h1) ?_).trans h1
              intro y
              exact ty_ne hg2 h1 (by decide) y.symm
            · rw [Array.getElem?_setIfInBounds]
              by_cases h1 : i1 = t
              · subst h1
                have hsz : i1 < cr.size := by have := HC.out; omega
                rw [if_pos rfl, if_pos hsz]
                rw [hks, List.getElem?_append_right (by rw [← HI.out]; exact Nat.le_refl _), ← HI.out, Nat.sub_self] at hx
                obtain rfl := Option.some.inj hx
                rfl
              · rw [if_neg h1]
                have hlt2 := (List.getElem?_eq_some_iff.1 hx).1
                rw [hkl] at hlt2
                rw [hks, List.getElem?_append_left (by rw [← HI.out]; omega)] at hx
                exact hrk.out.lo t x hx
            · rw [Array.getElem?_setIfInBounds, if_neg (by omega)]
              exact hrk.out.hi t x (by omega) hx
        | true =>
          go_wp2_with (refine (hcon.out).mono ?_; rintro r w2 ⟨rfl, m, hw2⟩; have hg2 := HF.out m; rw [← hw2] at hg2; have HW2 := Lib.hid (And.intro hw2 hg2); clear hw2 hg2)
          go_roundg (len - (kk + 1))
          case measure => omega
          case rel =>
            obtain ⟨hks, ht, hge, he⟩ := HV.out
            obtain ⟨hw2, hg2⟩ := HW2.out
            have hst : TkS es wr w2 (kk + 1) := by rw [hw2]; exact TkS.step ⟨Turn.of_below (Below.refl _ _), hat.out⟩ he HW.out.1.gne m
            simp only [if_true, List.append_nil] at hks
            refine ⟨kk + 1, by omega, by omega, by go_num, by rw [hks, ← HI.out], by rw [hks, ← HI.out]; omega, ht.trans hst.tu (fun x hx => .inl (.inr hx)), hst.at', cr, ⟨hg2, hcz, fun t x hx => ?_, fun t x ht1 hx => hrk.out.hi t x (by omega) hx⟩⟩
            rw [hks] at hx
            exact hrk.out.lo t x hx
      · have hk1 : ¬ (kk : Int) < (len : Int) := by omega
        obtain rfl : kk = len := by omega
        have hcr := hrk.out.at'
        have hi2 : i1 < kk := hik
        have hcl : kk ≤ cr.size := by rw [hcz]; exact HC.out
        have HT := Lib.hid (And.intro ht hat.out)
        clear ht hat
        go_upto_region 11 with (fail)
        refine wp_region_lit ?_
        try simp only [put_list, List.set_cons_zero, List.set_cons_succ]
        refine wpList_run (by kernel_rfl) (.slice (some ⟨g, 0, none⟩) kk c) (wr) (exec_move rfl (by kernel_rfl)) ?_
        try simp only [put_list, List.set_cons_zero, List.set_cons_succ]
        refine wpList_run (by kernel_rfl) (.int .i64 (i1 : Int)) (wr) (exec_move rfl (by kernel_rfl)) ?_
        try simp only [put_list, List.set_cons_zero, List.set_cons_succ]
        refine wpList_run (by kernel_rfl) (.slice (some ⟨g, i1, none⟩) (kk - i1) (c - i1)) (wr) (exec_slice (vx := .slice (some ⟨g, 0, none⟩) kk c) (l := some (.int .i64 (i1 : Int))) (h := none) (m := none) rfl (by kernel_rfl) (by have h3 := slice_sl_l (P := Tryd.prog) (t := 57) (e := 60) Tryd.underlying57 (by kernel_rfl) (some ⟨g, 0, none⟩) kk c i1 _ rfl (by omega) wr; rw [cutA_some (n := kk) (by omega) HC.out, Nat.zero_add] at h3; exact h3)) ?_
        try simp only [put_list, List.set_cons_zero, List.set_cons_succ]
        refine wpList_run (by kernel_rfl) (.tuple #[]) ((wr.setRow g (cr.toList.take i1 ++ List.replicate (kk - i1) (Value.pointer none) ++ cr.toList.drop (i1 + (kk - i1))).toArray)) (exec_clear rfl (by kernel_rfl) (clear_p wr _ g i1 (kk - i1) (c - i1) cr hcr (by omega) (by omega))) ?_
        refine wpList_nil ?_
        try simp only [put_none]
        have hi4 : (i1 : Int) ≤ (c : Int) := by have := HC.out; omega
        have HCR := Lib.hid hcr
        obtain ⟨W5, hW5⟩ : ∃ W5, W5 = (wr.setRow g (cr.toList.take i1 ++ List.replicate (kk - i1) (Value.pointer none) ++ cr.toList.drop (i1 + (kk - i1))).toArray) := ⟨_, rfl⟩
        rw [← hW5]
        have HW5 := Lib.hid hW5
        clear hW5 hcr
        go_wp2_with fail
        go_ret
        have hW5 := HW5.out
        have hcr := HCR.out
        obtain ⟨ht, hat⟩ := HT.out
        have h5 : W5.heap[g]? = some (.cells (cr.toList.take i1 ++ List.replicate (kk - i1) (Value.pointer none) ++ cr.toList.drop (i1 + (kk - i1))).toArray 60 (0, 0)) := by rw [hW5]; exact setRow_heap wr g cr _ _ _ hcr
        have ht5 : Turn (· = g) wr W5 := by
          rw [hW5]
          exact ⟨rfl, rfl, rfl, by simp [World.setRow], fun k _ hk => setRow_other wr g k _ hk⟩
        have hctl : cr.toList.length = c := by rw [Array.length_toList]; exact hcz
        rw [← HI.out]
        refine ⟨rfl, ⟨by simp [HI.out], .inr ⟨g, c, _, rfl, Nat.zero_le _, h5, by have := HC.out; omega, HCM.out, ?_, ?_⟩⟩, fun j e he => ?_, ht.trans ht5 (fun x hx => .inl (.inl hx))⟩
        · simp only [List.size_toArray, List.length_append, List.length_take, List.length_drop, List.length_replicate]
          omega
        · rw [Nat.mul_one]
          show (cr.toList.take i1 ++ List.replicate (kk - i1) (Value.pointer none) ++ cr.toList.drop (i1 + (kk - i1))).take i1 = _
          rw [List.append_assoc, List.take_left' (by rw [List.length_take]; omega)]
          apply List.ext_getElem?
          intro t
          rw [List.getElem?_take, List.getElem?_map]
          by_cases h1 : t < i1
          · rw [if_pos h1]
            obtain ⟨x, hx⟩ : ∃ x, (kept es l kk)[t]? = some x := ⟨(kept es l kk)[t]'(by rw [← HI.out]; exact h1), List.getElem?_eq_getElem _⟩
            rw [hx, Array.getElem?_toList]
            exact hrk.out.lo t x hx
          · rw [if_neg h1, List.getElem?_eq_none (by rw [← HI.out]; omega)]
            rfl
        · have h1 := hat j e he
          rw [if_pos (by have := (List.getElem?_eq_some_iff.1 he).1; have := HL.out; omega)] at h1
          refine (ht5.block _ (lt_heap h1) ?_).trans h1
          intro y
          exact ty_ne hcr h1 (by decide) y.symm
end
theorem exec_mkf {P : Program} {a : Act} {o : Oper} {fn : Fn} {x : Operand} {vx : Value} {w : World} (ho : o.op = .makeFunc fn #[] #[x]) (hx : a.eval x = vx) : (execOp a.eval o).run P w = .ok (.value (.func fn #[] #[vx])) w := by
  unfold execOp
  simp [ho, hx, Instr.makeFunc]
theorem load_x {W : World} {X S : Nat} (h : W.heap[X]? = some (.cells #[.pointer (some ⟨S, 0, none⟩)] 30 (0, 0))) : (Instr.loadAt 30 (.pointer (some ⟨X, 0, none⟩))).run Tryd.prog W = .ok (.pointer (some ⟨S, 0, none⟩)) W := by
  have h1 : W.cell? ⟨X, 0, none⟩ = some (.pointer (some ⟨S, 0, none⟩)) := cell_heap h rfl
  have h2 := Tryd.underlying30
  go_simp
/-- what Tick's region wants -/
def TkP (X S : Nat) (q l : Int) (V : Value) (W : World) : Prop := W.heap[X]? = some (.cells #[.pointer (some ⟨S, 0, none⟩)] 30 (0, 0)) ∧ W.heap[S]? = some (.cells (stA q l V) 59 (0, 0))
theorem TkP.turn {X S : Nat} {q l : Int} {V : Value} {W W' w : World} {es : List Be} {g : Nat} (h : TkP X S q l V W) (ht : Turn (fun x => x = g ∨ tF es x) W W') (hR : TkR es g X S q l V w) : TkP X S q l V W' := by
  obtain ⟨cur0, hg0⟩ := hR.gty
  refine ⟨(ht.block X (lt_heap h.1) ?_).trans h.1, (ht.block S (lt_heap h.2) ?_).trans h.2⟩
  · rintro (hx | ⟨j, y, hy, hx⟩)
    · exact ty_ne hR.hX hg0 (by decide) hx
    · exact ty_ne hR.hX (hR.ats j y hy) (by decide) hx
  · rintro (hx | ⟨j, y, hy, hx⟩)
    · exact ty_ne hR.hS hg0 (by decide) hx
    · exact ty_ne hR.hS (hR.ats j y hy) (by decide) hx
theorem pw_iff {R : Be → Be → Prop} (hs : ∀ a b, R a b → R b a) (es : List Be) : (∀ (i j : Nat) (a b : Be), i ≠ j → es[i]? = some a → es[j]? = some b → R a b) ↔ es.Pairwise R := by
  rw [List.pairwise_iff_getElem]
  constructor
  · intro h i j hi hj hij
    exact h i j _ _ (by omega) (List.getElem?_eq_getElem hi) (List.getElem?_eq_getElem hj)
  · intro h i j a b hij ha hb
    obtain ⟨hi, rfl⟩ := List.getElem?_eq_some_iff.1 ha
    obtain ⟨hj, rfl⟩ := List.getElem?_eq_some_iff.1 hb
    rcases Nat.lt_or_gt_of_ne hij with h1 | h1
    · exact h i j hi hj h1
    · exact hs _ _ (h j i hj hi h1)
/-- what stays, behind its tick -/
def ticked (es : List Be) (l : Int) : List Be := (es.filter (Be.stays l)).map Be.tick
theorem ticked_get {es : List Be} {l : Int} {i : Nat} {x : Be} (h : (ticked es l)[i]? = some x) : ∃ (j : Nat) (e : Be), es[j]? = some e ∧ x = e.tick := by
  have hm := List.mem_of_getElem? h
  obtain ⟨e, he, rfl⟩ := List.mem_map.1 hm
  obtain ⟨j, hj⟩ := List.getElem?_of_mem (List.mem_filter.1 he).1
  exact ⟨j, e, hj, rfl⟩
theorem kept_whole (es : List Be) (l : Int) : kept es l es.length = es.filter (Be.stays l) := by unfold kept; rw [List.take_length]
section
variable {E : Nat → Addr} {w0 w : World} {S : Nat} {q l : Int} {V : Value} {es : List Be}
set_option maxRecDepth 100000 in
set_option maxHeartbeats 1600000 in
theorem s_tick (h : Sto E w0 w S q l V es) (hl : es.length ≤ 16) (hpos : 0 < es.length) (hid : ∀ (j : Nat) (e : Be), es[j]? = some e → 0 ≤ e.idle ∧ e.idle ≤ 1000) :
    Calls Tryd.prog 21 #[.pointer (some ⟨S, 0, none⟩)] w fun r w' => r = .returned (.int .i64 ((es.length : Int) - ((ticked es l).length : Int))) ∧ ∃ V', Sto E w0 w' S q l V' (ticked es l) ∧ Turn (stF S V es) w w' ∧ V'.ownBlock = V.ownBlock := by
  obtain ⟨g, c, hV⟩ : ∃ g c, V = .slice (some ⟨g, 0, none⟩) es.length c := by
    rcases h.st.own.2 with ⟨_, h2⟩ | ⟨g, c, cur, e1, _⟩
    · omega
    · exact ⟨g, c, e1⟩
  obtain ⟨X, hXe⟩ : ∃ X, X = w.heap.size := ⟨_, rfl⟩
  have hb0 := below_alc w (.cells #[.pointer (some ⟨S, 0, none⟩)] 30)
  obtain ⟨W2, hW2⟩ : ∃ W2, W2 = w.alloc (.cells #[.pointer (some ⟨S, 0, none⟩)] 30) := ⟨_, rfl⟩
  rw [← hW2] at hb0
  have h2 := h.below hb0
  have hX2 : W2.heap[X]? = some (.cells #[.pointer (some ⟨S, 0, none⟩)] 30 (0, 0)) := by rw [hW2, hXe]; exact heap1_0 w _
  have hown2 := h2.st.own
  rw [hV] at hown2
  have hTR : ∀ W, TkP X S q l V W → W2.heap.size ≤ W.heap.size → (∀ k, k < W2.heap.size → W.heap[k]? = W2.heap[k]?) → TkR es g X S q l V W := fun W hw hsz hk => by
    obtain ⟨cur, hc⟩ := own_cells hown2 (k := g) rfl
    exact ⟨by omega, Nat.lt_of_lt_of_le (lt_heap hc) hsz, ⟨cur, (hk g (lt_heap hc)).trans hc⟩, hw.1, hw.2, h2.st.gne, hid, fun j e he => (hk e.g (lt_heap (h2.st.ent j e he))).trans (h2.st.ent j e he)⟩
  have hS : TkP X S q l V W2.drew := ⟨hX2, h2.st.st⟩
  have HR := Lib.hid (hTR W2.drew hS (Nat.le_refl _) (fun _ _ => rfl))
  have hdel := Lib.hid (delete_t HR.out c hown2)
  rw [kept_whole] at hdel
  obtain ⟨len, hlen⟩ : ∃ x, x = es.length := ⟨_, rfl⟩
  obtain ⟨k1, hk1⟩ : ∃ x, x = (es.filter (Be.stays l)).length := ⟨_, rfl⟩
  rw [← hlen] at hV
  rw [← hlen, ← hk1] at hdel
  have hkl : k1 ≤ len := by rw [hk1, hlen]; exact List.length_filter_le _ _
  have HV := Lib.hid hV
  have H2 := Lib.hid (And.intro h h2)
  have HB := Lib.hid hb0
  have HL := Lib.hid (And.intro hlen hk1)
  have hl16 : len ≤ 16 := by omega
  have hcV : W2.cell? ⟨S, 2, none⟩ = some (.slice (some ⟨g, 0, none⟩) len c) := by rw [← hV]; exact load_st2 S W2 q l V h2.st.st
  have hcX : W2.cell? ⟨X, 0, none⟩ = some (.pointer (some ⟨S, 0, none⟩)) := cell_heap hX2 rfl
  have htl : ((es.length : Int) - ((ticked es l).length : Int)) = (len : Int) - (k1 : Int) := by rw [hlen, hk1]; simp [ticked]
  rw [htl]
  clear h h2 hl hpos hid hTR hlen hk1 hX2 hown2 htl
  go_enter Tryd.func21, Tryd.ntmps21
  go_upto_region 1 with (fail)
  rw [← hW2, ← hXe]
  clear hW2 hXe
  go_upto_region 2 with (fail)
  refine wp_region_held_cut (S := TkP X S q l V) 7 (by kernel_rfl) (by kernel_rfl) (hS) (fun hHeld => ?_)
  refine held_cell 0 30 (Go.Operand.tmp 1) (some 9) (.pointer (some ⟨X, 0, none⟩)) (.pointer (some ⟨S, 0, none⟩)) (by kernel_rfl) (by kernel_rfl) (fun W hw => load_x hw.1) (by kernel_rfl) (by kernel_rfl) (by kernel_rfl) (fun _ _ _ _ _ h => h) hHeld ?_
  refine held_cell 1 30 (Go.Operand.tmp 1) (some 10) (.pointer (some ⟨X, 0, none⟩)) (.pointer (some ⟨S, 0, none⟩)) (by kernel_rfl) (by kernel_rfl) (fun W hw => load_x hw.1) (by kernel_rfl) (by kernel_rfl) (by kernel_rfl) (fun _ _ _ _ _ h => h) hHeld ?_
  refine held_nil 2 (Go.Operand.tmp 10) (some 11) ⟨S, 0, none⟩ (by kernel_rfl) (by kernel_rfl) (by kernel_rfl) (by kernel_rfl) (by kernel_rfl) (fun _ _ _ _ _ h => h) hHeld ?_
  refine held_field 3 59 (Go.Operand.tmp 11) 2 (some 12) (.pointer (some ⟨S, 0, none⟩)) (.pointer (some ⟨S, 2, none⟩)) (by kernel_rfl) (by kernel_rfl) (fun w => by kernel_rfl) (by kernel_rfl) (by kernel_rfl) (by kernel_rfl) (fun _ _ _ _ _ h => h) hHeld ?_
  refine held_cell 4 57 (Go.Operand.tmp 12) (some 13) (.pointer (some ⟨S, 2, none⟩)) (.slice (some ⟨g, 0, none⟩) len c) (by kernel_rfl) (by kernel_rfl) (fun W hw => by rw [← HV.out]; exact load_stV hw.2) (by kernel_rfl) (by kernel_rfl) (by kernel_rfl) (fun _ _ _ _ _ h => h) hHeld ?_
  refine held_any 5 (Go.Op.makeFunc (Go.Fn.func 34) #[] #[Go.Operand.tmp 1]) (some 14) (.func (.func 34) #[] #[.pointer (some ⟨X, 0, none⟩)]) (by kernel_rfl) (by kernel_rfl) (by kernel_rfl) (by kernel_rfl) (fun _ _ _ _ _ h => h) hHeld (fun o ho w hw => exec_mkf ho (by kernel_rfl)) ?_
  refine held_call 6 33 #[Go.Operand.tmp 13, Go.Operand.tmp 14] #[57, 71] (some 15) #[.slice (some ⟨g, 0, none⟩) len c, .func (.func 34) #[] #[.pointer (some ⟨X, 0, none⟩)]] _ (by kernel_rfl) (by kernel_rfl) (by kernel_rfl) (by kernel_rfl) (hdel.out) ?_
  rintro r W4 ⟨rfl, hown4, hat4, ht4⟩
  refine ⟨_, rfl, hHeld.turn ht4 HR.out, fun hHeld => ?_⟩
  refine wpAnyH_done (by kernel_rfl) ?_ _
  show wpList _ _ _ _ _ _
  simp only [Act.put, List.setIfInBounds_toArray, List.set_cons_zero, List.set_cons_succ, List.drop_succ_cons, List.drop_zero]
  have HT4 := Lib.hid (And.intro hown4 (And.intro hat4 ht4))
  have hst4 := hHeld.2
  have hfz := thaw_heap hst4 2
  have hc4 := load_st2 S W4 q l V hst4
  have hcX4 : W4.cell? ⟨X, 0, none⟩ = some (.pointer (some ⟨S, 0, none⟩)) := cell_heap hHeld.1 rfl
  have hne : X ≠ S := ty_ne hHeld.1 hHeld.2 (by decide)
  have hcX5 : ∀ u, (W4.setCell ⟨S, 2, none⟩ u).cell? ⟨X, 0, none⟩ = some (.pointer (some ⟨S, 0, none⟩)) := fun u => (W4.cell?_setCell_other ⟨S, 2, none⟩ ⟨X, 0, none⟩ _ (fun y => hne (congrArg Addr.block y).symm)).trans hcX4
  have hw5 : wrap64 ((len : Int) - (k1 : Int)) = (len : Int) - (k1 : Int) := by unfold wrap64; omega
  have HST4 := Lib.hid hst4
  clear hown4 hat4 ht4 hHeld hst4 hS hcV hcX hdel hne
  go_wp2_with fail
  go_ret
  obtain ⟨hown4, hat4, ht4⟩ := HT4.out
  obtain ⟨h, h2⟩ := H2.out
  have hst4 := HST4.out
  have hset : Turn (· = S) W4 (W4.setCell ⟨S, 2, none⟩ (.slice (some ⟨g, 0, none⟩) k1 c)) := set_turnH W4 S 2 _
  have hVo : V.ownBlock = some g := by rw [HV.out]; rfl
  have hF : ∀ x, ((x = g ∨ tF es x) ∨ x = S) → stF S V es x := by
    rintro x ((rfl | ⟨j, e, he, hx⟩) | rfl)
    · exact .inr (.inl hVo)
    · exact .inr (.inr ⟨j, e, he, .inl hx⟩)
    · exact .inl rfl
  have t24 : Turn (fun x => (x = g ∨ tF es x) ∨ x = S) W2 (W4.setCell ⟨S, 2, none⟩ (.slice (some ⟨g, 0, none⟩) k1 c)) :=
    ((Turn.of_below (F := fun x => (x = g ∨ tF es x) ∨ x = S) ((Below.refl W2.heap.size W2).drew)).trans ht4 (fun x hx => .inl (.inl hx))).trans hset (fun x hx => .inl (.inr hx))
  have hkp : ∀ (k : Nat) (cs : Array Value) (t : TypeId), W4.heap[k]? = some (.cells cs t (0, 0)) → t ≠ 59 → (W4.setCell ⟨S, 2, none⟩ (.slice (some ⟨g, 0, none⟩) k1 c)).heap[k]? = some (.cells cs t (0, 0)) := fun k cs t hk hn => (hset.block k (lt_heap hk) (ty_ne hk hst4 hn)).trans hk
  have hsts : StS (W4.setCell ⟨S, 2, none⟩ (.slice (some ⟨g, 0, none⟩) k1 c)) S q l (.slice (some ⟨g, 0, none⟩) k1 c) (ticked es l) := by
    have e1 : (ticked es l).length = k1 := by rw [HL.out.2]; simp [ticked]
    have e2 : (ticked es l).map Be.ptr = (es.filter (Be.stays l)).map Be.ptr := by
      unfold ticked
      rw [List.map_map]
      rfl
    refine ⟨st_set hst4 _, ?_, fun i x hx => ?_, fun i x hx => ?_, ?_, ?_⟩
    · rw [e1, e2]
      refine own_keep hown4 fun k hk => ?_
      obtain ⟨cur, hc⟩ := own_cells hown4 hk
      exact (hkp k _ _ hc (by decide)).trans hc.symm
    · obtain ⟨j, e, he, rfl⟩ := ticked_get hx
      exact hkp _ _ _ (hat4 j e he) (by decide)
    · obtain ⟨j, e, he, rfl⟩ := ticked_get hx
      show (W4.setCell ⟨S, 2, none⟩ (.slice (some ⟨g, 0, none⟩) k1 c)).ownsRow 0 5 1 e.D e.bs.length (ints .u8 e.bs)
      have hb := h2.st.byt j e he
      refine own_keep hb fun k hk => t24.block k (hb.lt k hk).2 (fun hx => ?_)
      obtain ⟨cur, hc⟩ := own_cells hb hk
      rcases hx with (hx | ⟨m, y, hy, hx⟩) | hx
      · obtain ⟨cur2, hc2⟩ := own_cells h2.st.own hVo
        exact ty_ne hc hc2 (by decide) hx
      · exact ty_ne hc (h2.st.ent m y hy) (by decide) hx
      · exact ty_ne hc h2.st.st (by decide) hx
    · rw [pw_iff (R := fun a b => a.g ≠ b.g) (fun a b h => Ne.symm h)]
      unfold ticked
      rw [List.pairwise_map]
      exact ((pw_iff (R := fun a b => a.g ≠ b.g) (fun a b h => Ne.symm h) es).1 h2.st.gne).sublist List.filter_sublist
    · rw [pw_iff (R := fun a b => ∀ k, a.D.ownBlock = some k → b.D.ownBlock ≠ some k) (fun a b h k hk hk2 => h k hk2 hk)]
      unfold ticked
      rw [List.pairwise_map]
      exact ((pw_iff (R := fun a b => ∀ k, a.D.ownBlock = some k → b.D.ownBlock ≠ some k) (fun a b h k hk hk2 => h k hk2 hk) es).1 h2.st.dne).sublist List.filter_sublist
  refine ⟨rfl, .slice (some ⟨g, 0, none⟩) k1 c, h2.step hsts t24 hF (fun x hx => .inl ?_), (Turn.of_below (F := stF S V es) HB.out).trans t24 (fun x hx => .inl (hF x hx)), hVo.symm⟩
  rcases hx with hx | hx | ⟨i, y, hy, hx⟩
  · exact .inl hx
  · exact .inr (.inl (hVo.trans hx))
  · obtain ⟨j, e, he, rfl⟩ := ticked_get hy
    exact .inr (.inr ⟨j, e, he, hx⟩)
/-- the ids, cell by cell -/
def idsOf (es : List Be) : List Value := es.flatMap fun e => (arr8 32 e.f).toList
theorem push_id (ty : TypeId) (W : World) (base : Nat) (v : Value) (n : Nat) (xs : List Value) (hown : W.ownsRow base 26 32 v n xs) (a : Addr) (c : Nat) (f : Nat → BitVec 8)
    (hnews : ∀ j u, (arr8 32 f).toList[j]? = some u → W.cell? (a.add j) = some u) (hn : n ≤ 1000) (hbase : base ≤ W.heap.size) :
    ∃ v' w', (Builtin.append_ #[48, 48] ty #[v, .slice (some a) 1 c]).run Tryd.prog W = .ok v' w' ∧ w'.ownsRow base 26 32 v' (n + 1) (xs ++ (arr8 32 f).toList) ∧ W.grownBy w' v.ownBlock ∧ (∀ k, v'.ownBlock = some k → v.ownBlock = some k ∨ W.heap.size ≤ k) := by
  obtain ⟨i, hi, hz⟩ := Option.map_eq_some_iff.1 (show (Tryd.prog.info? 26).map (fun i => (i.size, i.bytes, i.zero)) = some (32, 32, some (.agg (arr8 32 k0))) by kernel_rfl)
  simp only [Prod.mk.injEq] at hz
  obtain ⟨v', w', h1, h2, h3, _, h4⟩ := run_append_own2 (P := Tryd.prog) W base 48 ty 26 i (.agg (arr8 32 k0)) 32 32 Tryd.underlying48 hi hz.2.2 hz.1 hz.2.1 (by show (arr8 32 k0).size = 32; rw [arr8_size]) (by omega) v n xs hown a 1 c (arr8 32 f).toList (by rw [Array.length_toList, arr8_size]) hnews (by
    intro u hu
    have := @arr8_all 32 f
    rw [Array.all_eq_true] at this
    obtain ⟨j, hj, rfl⟩ := List.getElem_of_mem hu
    simpa using this j (by simpa using hj)) (by unfold maxLen; omega) (by omega) hbase
  exact ⟨v', w', h1, h2, h3, h4⟩
set_option maxRecDepth 100000 in
set_option maxHeartbeats 1600000 in
theorem s_all (h : Sto E w0 w S q l V es) (hl : es.length ≤ 16) :
    Calls Tryd.prog 22 #[.pointer (some ⟨S, 0, none⟩)] w fun r w' => ∃ v, r = .returned v ∧ w'.ownsRow w.heap.size 26 32 v es.length (idsOf es) ∧ Below w.heap.size w w' := by
  obtain ⟨A, c, hV, _⟩ := own_slice h.st.own
  have hst : w.cell? ⟨S, 2, none⟩ = some V := load_st2 S w q l V h.st.st
  have hrow : ∀ (i : Nat) (e : Be), es[i]? = some e → ∃ g, A = some ⟨g, 0, none⟩ ∧ w.cell? ⟨g, i, none⟩ = some (.pointer (some ⟨e.g, 0, none⟩)) ∧ g < w.heap.size := by
    intro i e he
    have hlt := (List.getElem?_eq_some_iff.1 he).1
    rcases h.st.own.2 with ⟨_, h0⟩ | ⟨g, c', cur, e1, _, hg, _⟩
    · omega
    · rw [hV] at e1
      simp only [Value.slice.injEq] at e1
      have ho := h.st.own
      rw [hV, e1.1] at ho
      exact ⟨g, e1.1, row_cell ho he, lt_heap hg⟩
  have HR := Lib.hid (And.intro hrow h.st.ent)
  obtain ⟨len, hlen⟩ : ∃ x, x = es.length := ⟨_, rfl⟩
  rw [hV, ← hlen] at hst
  have HL := Lib.hid hlen
  have hl16 : len ≤ 16 := by omega
  rw [← hlen]
  clear h hrow hlen hl hV
  go_enter Tryd.func22, Tryd.ntmps22
  go_wp2_with fail
  go_loopg [3, 11] len (fun gg s3 s11 wr => ∃ kk : Nat, kk ≤ len ∧ len - kk ≤ gg ∧ s11 = .int .i64 (kk : Int) ∧ (∃ v : Value, s3 = v ∧ Hid (wr.ownsRow w.heap.size 26 32 v kk (idsOf (es.take kk)))) ∧ Below w.heap.size w wr)
  case atStart => exact ⟨0, Nat.zero_le _, by omega, rfl, ⟨_, rfl, by rw [List.take_zero]; exact World.ownsRow_nil _ _ _ _⟩, Below.refl _ _⟩
  case round =>
    obtain ⟨kk, hkk, hgg, rfl, ⟨v, hv, hown⟩, hb⟩ := hrel
    obtain rfl := hv.symm
    clear hv
    by_cases hlt : kk < len
    · have hk1 : (kk : Int) < (len : Int) := by omega
      obtain ⟨e, he⟩ : ∃ e, es[kk]? = some e := ⟨es[kk]'(by rw [← HL.out]; exact hlt), List.getElem?_eq_getElem _⟩
      obtain ⟨g, rfl, hc1, hg⟩ := HR.out.1 kk e he
      have hc : wr.cell? ⟨g, kk, none⟩ = some (.pointer (some ⟨e.g, 0, none⟩)) := (hb.cell (p := ⟨g, kk, none⟩) hg).trans hc1
      have ha : e.at wr := heap_below (HR.out.2 kk e he) hb
      have HB := Lib.hid (And.intro hown.out hb)
      have HE := Lib.hid he
      clear hc1 hown he
      go_upto_region 5 with (fail)
      obtain ⟨hown, hb⟩ := HB.out
      obtain ⟨ids0, hids⟩ : ∃ x, x = idsOf (es.take kk) := ⟨_, rfl⟩
      rw [← hids] at hown
      refine wp_region_lit ?_
      try simp only [put_list, List.set_cons_zero, List.set_cons_succ]
      refine wpList_run (by kernel_rfl) (v) (wr) (exec_move rfl (by kernel_rfl)) ?_
      try simp only [put_list, List.set_cons_zero, List.set_cons_succ]
      refine wpList_run (by kernel_rfl) (.pointer (some ⟨e.g, 0, none⟩)) (wr) (exec_move rfl (by kernel_rfl)) ?_
      try simp only [put_list, List.set_cons_zero, List.set_cons_succ]
      refine wpList_run (by kernel_rfl) (.pointer (some ⟨e.g, 0, none⟩)) (wr) (exec_nil rfl (by kernel_rfl)) ?_
      try simp only [put_list, List.set_cons_zero, List.set_cons_succ]
      refine wpList_run (by kernel_rfl) (.pointer (some ⟨e.g, 0, none⟩)) (wr) (exec_field (vx := .pointer (some ⟨e.g, 0, none⟩)) rfl (by kernel_rfl) (by kernel_rfl)) ?_
      try simp only [put_list, List.set_cons_zero, List.set_cons_succ]
      refine wpList_run (by kernel_rfl) (.agg (arr8 32 e.f)) (wr) (exec_load (vx := .pointer (some ⟨e.g, 0, none⟩)) rfl (by kernel_rfl) (load_idB wr e.g e.f (en_id ha))) ?_
      try simp only [put_list, List.set_cons_zero, List.set_cons_succ]
      refine wpList_run (by kernel_rfl) (.slice (some ⟨wr.heap.size, 0, none⟩) 1 1) ((wr.alloc (.cells (arr8 32 e.f) 26))) (exec_bsl (vs := #[(0, .agg (arr8 32 e.f))]) rfl (by kernel_rfl) (by kernel_rfl)) ?_
      obtain ⟨v3, W3, hr3, ho3, hg3, hk3⟩ := push_id 48 (wr.alloc (.cells (arr8 32 e.f) 26)) w.heap.size v kk ids0 (hown.alloc _) ⟨wr.heap.size, 0, none⟩ 1 e.f (fun j u hu => by rw [Addr.add_lit]; exact range_new (cs := (arr8 32 e.f).toList) (by simpa using heap1_0 wr _) j u hu) (by omega) (by have := hb.size; simp; omega)
      try simp only [put_list, List.set_cons_zero, List.set_cons_succ]
      refine wpList_run (by kernel_rfl) (v3) (W3) (exec_append rfl rfl (vs := v) (vx := .slice (some ⟨wr.heap.size, 0, none⟩) 1 1) (by kernel_rfl) (hr3)) ?_
      try simp only [put_list, List.set_cons_zero, List.set_cons_succ]
      refine wpList_run (by kernel_rfl) (v3) (W3) (exec_assign rfl (by kernel_rfl)) ?_
      refine wpList_nil ?_
      simp only [put_list, List.set_cons_zero, List.set_cons_succ]
      have hfin : Below w.heap.size w W3 := (hb.trans ((below_alc wr _).mono hb.size)).grown hg3 (Nat.le_trans hb.size (below_alc wr _).size) (fun k hk => by
        have hk' : v.ownBlock = some k := hk
        exact (hown.lt k hk').1)
      have hids2 : idsOf (es.take (kk + 1)) = ids0 ++ (arr8 32 e.f).toList := by
        rw [hids, List.take_add_one, HE.out]
        simp [idsOf]
      rw [← hids2] at ho3
      have H3 := Lib.hid (And.intro ho3 hfin)
      clear ho3 hfin hg3 hk3 hr3 hown hb hids hids2 ha hc
      go_wp2_with fail
      go_roundg (len - (kk + 1))
      case measure => omega
      case rel => exact ⟨kk + 1, by omega, by omega, by go_num, ⟨_, rfl, H3.out.1⟩, H3.out.2⟩
    · have hk1 : ¬ (kk : Int) < (len : Int) := by omega
      obtain rfl : kk = len := by omega
      have ht : es.take kk = es := List.take_of_length_le (by have := HL.out; omega)
      rw [ht] at hown
      go_wp2
      go_ret
      exact ⟨_, rfl, hown.out, hb⟩
end
end Go.Proofs.YtegijahkiopncaaDoor
