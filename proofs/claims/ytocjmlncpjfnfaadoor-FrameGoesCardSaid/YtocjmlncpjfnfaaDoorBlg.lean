import Derived.Test.YtocjmlncpjfnfaaDoorBla
import Derived.Test.YtocjmlncpjfnfaaDoorHo
/-
  blob: place's closure.
  blob: the store in memory; place, use.
  blob: Used, Open.
  blob: Open, full or not.
  blob: Open of what is new.
  blob: Stat; what is told.
-/
namespace Go.Proofs.YtocjmlncpjfnfaaDoor
open Go.RowKit

/-- an id's bytes -/
def idl (f : Nat → BitVec 8) : List UInt8 := (List.range 32).map fun i => UInt8.ofBitVec (f i)
theorem arr8_idl (f : Nat → BitVec 8) : arr8 32 f = ((idl f).map Extern.Stop.cell).toArray := by
  unfold arr8 idl
  rw [List.map_map]
  congr 1
theorem eq_ids (f k : Nat → BitVec 8) (w : World) : (Op.equalIn 10000 23 (.agg (arr8 32 f)) (.agg (arr8 32 k))).run Tryd.prog w = .ok (idl f == idl k) w := by
  rw [arr8_idl, arr8_idl, run_equalIn_bytes w 9998 23 5 32 Tryd.underlying23 Tryd.underlying5 (fun w => by kernel_rfl) _ _ (by simp [idl]) (by simp [idl])]
theorem load_idB (W : World) (g : Nat) (f : Nat → BitVec 8) (h : W.rangeAt g 0 (arr8 32 f).toList) : (Instr.loadAt 23 (.pointer (some ⟨g, 0, none⟩))).run Tryd.prog W = .ok (.agg (arr8 32 f)) W := by
  have := load_row (P := Tryd.prog) 23 g 0 (arr8 32 f).toList _ Tryd.underlying23 rfl (by simp only [Array.length_toList, arr8_size]; kernel_rfl) W h
  simpa using this
theorem pred_b (w : World) (e c : Nat) (f k : Nat → BitVec 8) (n : Int) (D : Value) (done : Bool) (idle : Int) (h : EnH w e f n D done idle) (hc : w.heap[c]? = some (.cells (arr8 32 k) 23 (0, 0))) :
    Calls Tryd.prog 96 #[.pointer (some ⟨e, 0, none⟩), .pointer (some ⟨c, 0, none⟩)] w fun r w' => r = .returned (.bool (idl f == idl k)) ∧ w' = w.drew := by
  go_enter Tryd.func96, Tryd.ntmps96
  have hd : EnH w.drew e f n D done idle := h
  have hc' : w.drew.heap[c]? = some (.cells (arr8 32 k) 23 (0, 0)) := hc
  go_upto_region 1 with (fail)
  refine wp_region_noPanic ?_
  refine wp_region_held_drew (S := fun w' => w' = w.drew) (by kernel_rfl) (rfl) (fun hHeld => ?_)
  refine held_move 0 (Go.Operand.tmp 0) (some 4) (.pointer (some ⟨e, 0, none⟩)) (by kernel_rfl) (by kernel_rfl) (by kernel_rfl) (by kernel_rfl) (by kernel_rfl) (fun _ _ _ _ _ h => h) hHeld ?_
  refine held_nil 1 (Go.Operand.tmp 4) (some 5) ⟨e, 0, none⟩ (by kernel_rfl) (by kernel_rfl) (by kernel_rfl) (by kernel_rfl) (by kernel_rfl) (fun _ _ _ _ _ h => h) hHeld ?_
  refine held_field 2 109 (Go.Operand.tmp 5) 0 (some 6) (.pointer (some ⟨e, 0, none⟩)) (.pointer (some ⟨e, 0, none⟩)) (by kernel_rfl) (by kernel_rfl) (fun w => by kernel_rfl) (by kernel_rfl) (by kernel_rfl) (by kernel_rfl) (fun _ _ _ _ _ h => h) hHeld ?_
  refine held_cell 3 23 (Go.Operand.tmp 6) (some 7) (.pointer (some ⟨e, 0, none⟩)) (.agg (arr8 32 f)) (by kernel_rfl) (by kernel_rfl) (fun W h => by rw [h]; exact load_idB w.drew e f (en_id hd)) (by kernel_rfl) (by kernel_rfl) (by kernel_rfl) (fun _ _ _ _ _ h => h) hHeld ?_
  refine held_cell 4 23 (Go.Operand.tmp 1) (some 8) (.pointer (some ⟨c, 0, none⟩)) (.agg (arr8 32 k)) (by kernel_rfl) (by kernel_rfl) (fun W h => by rw [h]; exact load_idB w.drew c k (range_new (cs := (arr8 32 k).toList) (by simpa using hc'))) (by kernel_rfl) (by kernel_rfl) (by kernel_rfl) (fun _ _ _ _ _ h => h) hHeld ?_
  refine held_any 5 (Go.Op.binOp Go.BinOp.eql 23 (Go.Operand.tmp 7) (Go.Operand.tmp 8) 23) (some 9) (.bool (idl f == idl k)) (by kernel_rfl) (by kernel_rfl) (by kernel_rfl) (by kernel_rfl) (fun _ _ _ _ _ h => h) hHeld (fun o ho w hw => exec_eqrow (k := .eql) (cx := arr8 32 f) (cy := arr8 32 k) (b := idl f == idl k) (.inl rfl) ho (by kernel_rfl) (by kernel_rfl) (eq_ids f k w)) ?_
  refine held_assign 6 (Go.Operand.tmp 9) (some 3) (.bool (idl f == idl k)) (by kernel_rfl) (by kernel_rfl) (by kernel_rfl) (by kernel_rfl) (by kernel_rfl) (fun _ _ _ _ _ h => h) hHeld ?_
  refine wpAnyH_done (by kernel_rfl) ?_ _
  refine NoPanic.normal ?_
  try simp only [Act.put, List.setIfInBounds_toArray, List.set_cons_zero, List.set_cons_succ]
  go_wp2_with fail
  go_ret
  exact ⟨rfl, rfl⟩
/-- an entry of the store: its block, whose it is, how long, what has come, whether it is whole, since when -/
structure Be where
  g : Nat
  f : Nat → BitVec 8
  n : Int
  D : Value
  bs : List Int
  done : Bool
  idle : Int
def Be.is (k : Nat → BitVec 8) (e : Be) : Bool := idl e.f == idl k
def Be.at (W : World) (e : Be) : Prop := EnH W e.g e.f e.n e.D e.done e.idle
def Be.ptr (e : Be) : Value := .pointer (some ⟨e.g, 0, none⟩)
/-- at which place -/
def bix (es : List Be) (k : Nat → BitVec 8) : Int := match es.findIdx? (Be.is k) with | some i => i | none => -1
theorem bix_hit {es : List Be} {k : Nat → BitVec 8} {i : Nat} {e : Be} (h : es[i]? = some e) (hp : e.is k = true) (hn : ∀ (j : Nat) (e' : Be), j < i → es[j]? = some e' → e'.is k = false) : bix es k = i := by
  have hi := (List.getElem?_eq_some_iff.1 h).1
  have h1 : es.findIdx? (Be.is k) = some i := by
    rw [List.findIdx?_eq_some_iff_getElem]
    refine ⟨hi, ?_, fun j hj => ?_⟩
    · have := (List.getElem?_eq_some_iff.1 h).2
      rw [this]; exact hp
    · have hj' : j < es.length := by omega
      have := hn j es[j] hj (List.getElem?_eq_getElem hj')
      simp [this]
  unfold bix
  rw [h1]
theorem bix_miss {es : List Be} {k : Nat → BitVec 8} (hn : ∀ (j : Nat) (e' : Be), es[j]? = some e' → e'.is k = false) : bix es k = -1 := by
  have h1 : es.findIdx? (Be.is k) = none := by
    rw [List.findIdx?_eq_none_iff]
    intro e he
    obtain ⟨j, hj, rfl⟩ := List.getElem_of_mem he
    exact hn j _ (List.getElem?_eq_getElem hj)
  unfold bix
  rw [h1]
theorem index_b (es : List Be) (k : Nat → BitVec 8) (g c box : Nat) (w : World) (hl : es.length ≤ 1000) (hg : g < w.heap.size)
    (hrow : ∀ j e, es[j]? = some e → w.cell? ⟨g, j, none⟩ = some e.ptr ∧ e.at w) (hbox : w.heap[box]? = some (.cells (arr8 32 k) 23 (0, 0))) :
    Calls Tryd.prog 95 #[.slice (some ⟨g, 0, none⟩) es.length c, .func (.func 96) #[] #[.pointer (some ⟨box, 0, none⟩)]] w fun r w' => r = .returned (.int .i64 (bix es k)) ∧ Below w.heap.size w w' := by
  obtain ⟨len, hlen⟩ : ∃ n, n = es.length := ⟨_, rfl⟩
  rw [← hlen]
  have HL := Lib.hid hlen
  have hl' : len ≤ 1000 := by omega
  have HR := Lib.hid hrow
  have HB := Lib.hid hbox
  have hself := Below.refl w.heap.size w
  clear hlen hl hrow hbox
  obtain ⟨n0, hn0⟩ : ∃ n, n = w.heap.size := ⟨_, rfl⟩
  have HS := Lib.hid hn0
  rw [← hn0] at hself
  rw [← hn0] at hg
  rw [← hn0]
  clear hn0
  go_enter Tryd.func95, Tryd.ntmps95
  go_wp2_with fail
  go_loopg [5, 8] len (fun gg _ s8 wr => ∃ kk : Nat, kk ≤ len ∧ len - kk ≤ gg ∧ s8 = .int .i64 kk ∧ Below n0 w wr ∧ Hid (∀ (j : Nat) (e' : Be), j < kk → es[j]? = some e' → e'.is k = false))
  case atStart => exact ⟨0, Nat.zero_le _, by omega, rfl, hself, fun j _ hj => absurd hj (Nat.not_lt_zero _)⟩
  case round =>
    obtain ⟨kk, hkk, hgg, rfl, hb, hM⟩ := hrel
    by_cases hlt : kk < len
    · have hk1 : (kk : Int) < (len : Int) := by omega
      obtain ⟨e, he⟩ : ∃ e, es[kk]? = some e := ⟨es[kk]'(by rw [← HL.out]; exact hlt), List.getElem?_eq_getElem _⟩
      have HE := Lib.hid he
      have hc : wr.cell? ⟨g, kk, none⟩ = some e.ptr := (hb.cell (p := ⟨g, kk, none⟩) hg).trans (HR.out kk e he).1
      have ha : e.at wr := by
        have h1 := (HR.out kk e he).2
        exact heap_below h1 (by rw [← HS.out]; exact hb)
      have hbx : wr.heap[box]? = some (.cells (arr8 32 k) 23 (0, 0)) := heap_below HB.out (by rw [← HS.out]; exact hb)
      have hcon := Lib.hid (pred_b wr e.g box e.f k e.n e.D e.done e.idle ha hbx)
      have hst : n0 ≤ wr.heap.size := by rw [HS.out]; exact hb.size
      have hbd : Below n0 w wr.drew := hb.drew
      have hptr : e.ptr = .pointer (some ⟨e.g, 0, none⟩) := rfl
      rw [hptr] at hc
      obtain ⟨b, hbv⟩ : ∃ b, b = (idl e.f == idl k) := ⟨_, rfl⟩
      rw [← hbv] at hcon
      have HV := Lib.hid hbv
      clear he hbx ha hbv
      cases b with
      | true =>
        go_wp2_with (refine (hcon.out).mono ?_; rintro r w' ⟨rfl, rfl⟩)
        go_ret
        refine ⟨?_, by assumption⟩
        rw [bix_hit HE.out HV.out.symm hM.out]
        rfl
      | false =>
        go_wp2_with (refine (hcon.out).mono ?_; rintro r w' ⟨rfl, rfl⟩)
        go_roundg (len - (kk + 1))
        case measure => omega
        case rel =>
          refine ⟨kk + 1, by omega, by omega, by go_num, by assumption, fun j e' hj he' => ?_⟩
          by_cases e2 : j = kk
          · subst e2
            obtain rfl := Option.some.inj (HE.out.symm.trans he')
            exact HV.out.symm
          · exact hM.out j e' (by omega) he'
    · have hk1 : ¬ (kk : Int) < (len : Int) := by omega
      obtain rfl : kk = len := by omega
      go_wp2
      go_ret
      refine ⟨?_, hb⟩
      rw [bix_miss (fun j e' he' => hM.out j e' (by have := (List.getElem?_eq_some_iff.1 he').1; rw [← HL.out] at this; exact this) he')]
      rfl
theorem index_bn (k : Value) (w : World) :
    Calls Tryd.prog 95 #[.slice none 0 0, k] w fun r w' => r = .returned (.int .i64 (-1)) ∧ w' = w := by
  go_enter Tryd.func95, Tryd.ntmps95
  go_wp2
  refine wp_loop_rounds 1 ?_
  rw [rounds_succ]
  go_wp2
  go_ret
  exact ⟨rfl, rfl⟩
theorem own_cells {w : World} {base n size : Nat} {t : TypeId} {v : Value} {xs : List Value} (h : w.ownsRow base t size v n xs) {k : Nat} (hk : v.ownBlock = some k) : ∃ cur, w.heap[k]? = some (.cells cur t (0, 0)) := by
  rcases h.2 with ⟨rfl, _⟩ | ⟨g, c, cur, rfl, _, hg, _⟩
  · cases hk
  · obtain rfl := Option.some.inj hk
    exact ⟨cur, hg⟩
theorem own_keep {w w' : World} {base n size : Nat} {t : TypeId} {v : Value} {xs : List Value} (h : w.ownsRow base t size v n xs) (hk : ∀ k, v.ownBlock = some k → w'.heap[k]? = w.heap[k]?) : w'.ownsRow base t size v n xs := by
  refine ⟨h.1, ?_⟩
  rcases h.2 with h2 | ⟨g, c, cur, e1, e2, hg, e3⟩
  · exact .inl h2
  · exact .inr ⟨g, c, cur, e1, e2, (hk g (by rw [e1]; rfl)).trans hg, e3⟩
/-- the store: quota, life, its row, its entries -/
structure StS (W : World) (S : Nat) (q l : Int) (V : Value) (es : List Be) : Prop where
  st : W.heap[S]? = some (.cells (stA q l V) 103 (0, 0))
  own : W.ownsRow 0 107 1 V es.length (es.map Be.ptr)
  ent : ∀ (i : Nat) (e : Be), es[i]? = some e → e.at W
  byt : ∀ (i : Nat) (e : Be), es[i]? = some e → W.ownsRow 0 5 1 e.D e.bs.length (ints .u8 e.bs)
  gne : ∀ (i j : Nat) (e e' : Be), i ≠ j → es[i]? = some e → es[j]? = some e' → e.g ≠ e'.g
  dne : ∀ (i j : Nat) (e e' : Be), i ≠ j → es[i]? = some e → es[j]? = some e' → ∀ k, e.D.ownBlock = some k → e'.D.ownBlock ≠ some k
/-- its blocks -/
def stF (S : Nat) (V : Value) (es : List Be) (k : Nat) : Prop := k = S ∨ V.ownBlock = some k ∨ ∃ (i : Nat) (e : Be), es[i]? = some e ∧ (k = e.g ∨ e.D.ownBlock = some k)
theorem StS.lt {W : World} {S : Nat} {q l : Int} {V : Value} {es : List Be} (h : StS W S q l V es) {k : Nat} (hk : stF S V es k) : k < W.heap.size := by
  rcases hk with rfl | hk | ⟨i, e, he, rfl | hk⟩
  · exact lt_heap h.st
  · exact (h.own.lt k hk).2
  · exact lt_heap (h.ent i e he)
  · exact ((h.byt i e he).lt k hk).2
theorem StS.keep {W W' : World} {S : Nat} {q l : Int} {V : Value} {es : List Be} (h : StS W S q l V es) (hk : ∀ k, stF S V es k → W'.heap[k]? = W.heap[k]?) : StS W' S q l V es :=
  ⟨(hk S (.inl rfl)).trans h.st, own_keep h.own fun k e => hk k (.inr (.inl e)), fun i e he => (hk e.g (.inr (.inr ⟨i, e, he, .inl rfl⟩))).trans (h.ent i e he),
   fun i e he => own_keep (h.byt i e he) fun k hd => hk k (.inr (.inr ⟨i, e, he, .inr hd⟩)), h.gne, h.dne⟩
theorem StS.below {W W' : World} {S : Nat} {q l : Int} {V : Value} {es : List Be} (h : StS W S q l V es) (hb : Below W.heap.size W W') : StS W' S q l V es := h.keep fun k hk => hb.block k (h.lt hk)
theorem StS.turn {W W' : World} {S : Nat} {q l : Int} {V : Value} {es : List Be} {F : Nat → Prop} (h : StS W S q l V es) (ht : Turn F W W') (hF : ∀ k, stF S V es k → ¬ F k) : StS W' S q l V es := h.keep fun k hk => ht.block k (h.lt hk) (hF k hk)
theorem ty_ne {W : World} {a b : Nat} {c d : Array Value} {t u : TypeId} (h : W.heap[a]? = some (.cells c t (0, 0))) (k : W.heap[b]? = some (.cells d u (0, 0))) (hn : t ≠ u) : a ≠ b := by
  rintro rfl
  rw [h] at k
  simp at k
  exact hn k.2
/-- one entry is turned, the others are not -/
theorem StS.ent1 {W W' : World} {S : Nat} {q l : Int} {V : Value} {es : List Be} (h : StS W S q l V es) {i : Nat} {e e' : Be} (he : es[i]? = some e) (hg : e'.g = e.g) (ha : e'.at W') (hd : W'.ownsRow 0 5 1 e'.D e'.bs.length (ints .u8 e'.bs))
    (hD : ∀ k, e'.D.ownBlock = some k → e.D.ownBlock = some k ∨ W.heap.size ≤ k) (hk : ∀ k, k < W.heap.size → k ≠ e.g → e.D.ownBlock ≠ some k → W'.heap[k]? = W.heap[k]?) : StS W' S q l V (es.set i e') := by
  have hi := (List.getElem?_eq_some_iff.1 he).1
  have hgS : S ≠ e.g := ty_ne h.st (h.ent i e he) (by decide)
  have hdS : e.D.ownBlock ≠ some S := fun x => by
    obtain ⟨cur, hc⟩ := own_cells (h.byt i e he) x
    exact ty_ne h.st hc (by decide) rfl
  have hmap : (es.set i e').map Be.ptr = es.map Be.ptr := by
    rw [List.map_set]
    have : e'.ptr = (es.map Be.ptr)[i]'(by simpa using hi) := by
      have h2 := (List.getElem?_eq_some_iff.1 he).2
      simp only [List.getElem_map, h2]
      unfold Be.ptr
      rw [hg]
    rw [this, List.set_getElem_self]
  have hoth : ∀ (j : Nat) (x : Be), j ≠ i → es[j]? = some x → (W'.heap[x.g]? = W.heap[x.g]?) ∧ ∀ k, x.D.ownBlock = some k → W'.heap[k]? = W.heap[k]? := by
    intro j x hj hx
    have hxl := lt_heap (h.ent j x hx)
    refine ⟨hk _ hxl (h.gne j i x e hj hx he) (fun y => ?_), fun k hxk => hk k ((h.byt j x hx).lt k hxk).2 (fun y => ?_) (fun y => h.dne i j e x (fun z => hj z.symm) he hx k y hxk)⟩
    · obtain ⟨cur, hc⟩ := own_cells (h.byt i e he) y
      exact ty_ne (h.ent j x hx) hc (by decide) rfl
    · obtain ⟨cur, hc⟩ := own_cells (h.byt j x hx) hxk
      exact ty_ne hc (h.ent i e he) (by decide) y
  have get : ∀ (j : Nat) (x : Be), (es.set i e')[j]? = some x → (j = i ∧ x = e') ∨ (j ≠ i ∧ es[j]? = some x) := by
    intro j x hx
    rw [List.getElem?_set] at hx
    by_cases hj : i = j
    · subst hj
      rw [if_pos rfl, if_pos hi] at hx
      exact .inl ⟨rfl, (Option.some.inj hx).symm⟩
    · rw [if_neg hj] at hx
      exact .inr ⟨fun y => hj y.symm, hx⟩
  refine ⟨(hk S (lt_heap h.st) hgS hdS).trans h.st, ?_, fun j x hx => ?_, fun j x hx => ?_, fun j m x y hjm hx hy => ?_, fun j m x y hjm hx hy k hxk => ?_⟩
  · rw [List.length_set, hmap]
    refine own_keep h.own fun k hv => hk k (h.own.lt k hv).2 (fun y => ?_) (fun y => ?_)
    · obtain ⟨cur, hc⟩ := own_cells h.own hv
      exact ty_ne hc (h.ent i e he) (by decide) y
    · obtain ⟨cur, hc⟩ := own_cells h.own hv
      obtain ⟨cur2, hc2⟩ := own_cells (h.byt i e he) y
      exact ty_ne hc hc2 (by decide) rfl
  · rcases get j x hx with ⟨_, rfl⟩ | ⟨hj, hx⟩
    · exact ha
    · exact (hoth j x hj hx).1.trans (h.ent j x hx)
  · rcases get j x hx with ⟨_, rfl⟩ | ⟨hj, hx⟩
    · exact hd
    · exact own_keep (h.byt j x hx) (hoth j x hj hx).2
  · rcases get j x hx with ⟨rfl, rfl⟩ | ⟨hj, hx2⟩ <;> rcases get m y hy with ⟨hm, hy'⟩ | ⟨hm, hy2⟩
    · exact absurd hm.symm hjm
    · rw [hg]; exact h.gne j m e y hjm he hy2
    · subst hm; rw [hy', hg]; exact h.gne j m x e hjm hx2 he
    · exact h.gne j m x y hjm hx2 hy2
  · rcases get j x hx with ⟨rfl, rfl⟩ | ⟨hj, hx2⟩ <;> rcases get m y hy with ⟨hm, hy'⟩ | ⟨hm, hy2⟩
    · exact absurd hm.symm hjm
    · rcases hD k hxk with h1 | h1
      · exact h.dne j m e y hjm he hy2 k h1
      · intro h2
        have := ((h.byt m y hy2).lt k h2).2
        omega
    · subst hm
      subst hy'
      intro h2
      rcases hD k h2 with h1 | h1
      · exact h.dne j m x e hjm hx2 he k hxk h1
      · have := ((h.byt j x hx2).lt k hxk).2
        omega
    · exact h.dne j m x y hjm hx2 hy2 k hxk
theorem load_st2 (S : Nat) (W : World) (q l : Int) (V : Value) (h : W.heap[S]? = some (.cells (stA q l V) 103 (0, 0))) : W.cell? ⟨S, 2, none⟩ = some V := cell_heap h rfl
theorem row_cell {W : World} {es : List Be} {g c : Nat} (h : W.ownsRow 0 107 1 (.slice (some ⟨g, 0, none⟩) es.length c) es.length (es.map Be.ptr)) {i : Nat} {e : Be} (he : es[i]? = some e) : W.cell? ⟨g, i, none⟩ = some e.ptr := by
  have := h.cells (g := g) rfl i e.ptr (by rw [List.getElem?_map, he]; rfl)
  rw [Addr.add_lit] at this
  simpa using this
set_option maxRecDepth 100000 in
set_option maxHeartbeats 800000 in
theorem place_b {w : World} {S : Nat} {q l : Int} {V : Value} {es : List Be} (h : StS w S q l V es) (hn : es.length ≤ 1000) (k : Nat → BitVec 8) :
    Calls Tryd.prog 90 #[.pointer (some ⟨S, 0, none⟩), .agg (arr8 32 k)] w fun r w' => r = .returned (.int .i64 (bix es k)) ∧ Below w.heap.size w w' := by
  obtain ⟨W2, hW2⟩ : ∃ W2, W2 = w.alloc (Obj.cells (arr8 32 k) 23) := ⟨_, rfl⟩
  have hb2 : Below w.heap.size w W2 := by rw [hW2]; exact below_alc w _
  have hs := h.below hb2
  have hbox : W2.heap[w.heap.size]? = some (.cells (arr8 32 k) 23 (0, 0)) := by rw [hW2]; exact heap1_0 _ _
  have hcon : Calls Tryd.prog 95 #[V, .func (.func 96) #[] #[.pointer (some ⟨w.heap.size, 0, none⟩)]] W2 fun r w' => r = .returned (.int .i64 (bix es k)) ∧ Below w.heap.size w w' := by
    rcases hs.own.2 with ⟨rfl, h0⟩ | ⟨g, c, cur, rfl, _, hg, _⟩
    · obtain rfl : es = [] := List.eq_nil_of_length_eq_zero h0
      exact (index_bn _ _).mono fun e w' ⟨he, hw⟩ => ⟨he, by rw [hw]; exact hb2⟩
    · exact (index_b es k g c w.heap.size W2 hn (Array.getElem?_eq_some_iff.1 hg).1 (fun j e he => ⟨row_cell hs.own he, hs.ent j e he⟩) hbox).mono fun e w' ⟨he, hb⟩ => ⟨he, hb2.trans (hb.mono hb2.size)⟩
  have hcl2 : (w.alloc (Obj.cells (arr8 32 k) 23)).cell? ⟨S, 2, none⟩ = some V := by rw [← hW2]; exact load_st2 S W2 q l V hs.st
  rw [hW2] at hcon
  obtain ⟨A, nn, c, hV⟩ : ∃ A nn c, V = .slice A nn c := by
    obtain ⟨A, c, e, _⟩ := own_slice h.own
    exact ⟨A, _, c, e⟩
  subst hV
  generalize bix es k = r at hcon ⊢
  have HC := Lib.hid hcon
  clear hs hbox hb2 hW2 h hcon
  go_enter Tryd.func90, Tryd.ntmps90
  go_wp2_with (go_at_call 95; refine HC.out.mono ?_; rintro e w' ⟨rfl, hb'⟩)
  go_ret
  exact ⟨rfl, hb'⟩
theorem bix_none {es : List Be} {k : Nat → BitVec 8} (h : es.findIdx? (Be.is k) = none) : bix es k = -1 := by unfold bix; rw [h]
theorem bix_some {es : List Be} {k : Nat → BitVec 8} {i : Nat} (h : es.findIdx? (Be.is k) = some i) : bix es k = (i : Int) := by unfold bix; rw [h]
theorem use_none {w : World} {S : Nat} {q l : Int} {V : Value} {es : List Be} (h : StS w S q l V es) (hn : es.length ≤ 1000) (k : Nat → BitVec 8) (hf : es.findIdx? (Be.is k) = none) :
    Calls Tryd.prog 87 #[.pointer (some ⟨S, 0, none⟩), .agg (arr8 32 k)] w fun r w' => r = .returned (.pointer none) ∧ Below w.heap.size w w' := by
  have hb0 := below_alc w (.cells (arr8 32 k) 23)
  have hpl := Lib.hid (place_b (h.below hb0) hn k)
  rw [bix_none hf] at hpl
  clear h
  go_enter Tryd.func87, Tryd.ntmps87
  go_wp2_with (first | (refine wpList_load_row rfl 23 _ rfl w.heap.size rfl _ _ _ _ (heap_alloc_new _ _) Tryd.underlying23 rfl (by rw [arr8_size]; kernel_rfl) ?_) | (go_at_call 90; refine hpl.out.mono ?_; rintro e w' ⟨rfl, hb'⟩))
  go_ret
  exact ⟨rfl, hb0.trans (hb'.mono hb0.size)⟩
/-- an entry that was used -/
def Be.used (e : Be) : Be := ⟨e.g, e.f, e.n, e.D, e.bs, e.done, 0⟩
set_option maxRecDepth 100000 in
set_option maxHeartbeats 800000 in
theorem use_some {w : World} {S : Nat} {q l : Int} {V : Value} {es : List Be} (h : StS w S q l V es) (hn : es.length ≤ 1000) (k : Nat → BitVec 8) {i : Nat} {e : Be} (hf : es.findIdx? (Be.is k) = some i) (he : es[i]? = some e) :
    Calls Tryd.prog 87 #[.pointer (some ⟨S, 0, none⟩), .agg (arr8 32 k)] w fun r w' => r = .returned e.ptr ∧ StS w' S q l V (es.set i e.used) ∧ Turn (· = e.g) w w' := by
  have hb0 := below_alc w (.cells (arr8 32 k) 23)
  have hpl := Lib.hid (place_b (h.below hb0) hn k)
  rw [bix_some hf] at hpl
  have hlt := (List.getElem?_eq_some_iff.1 he).1
  obtain ⟨g, c, rfl⟩ : ∃ g c, V = .slice (some ⟨g, 0, none⟩) es.length c := by
    rcases h.own.2 with ⟨_, h0⟩ | ⟨g, c, _, h1, _⟩
    · omega
    · exact ⟨g, c, h1⟩
  have H := Lib.hid h
  have hfac : ∀ w1 : World, Below (w.alloc (.cells (arr8 32 k) 23)).heap.size (w.alloc (.cells (arr8 32 k) 23)) w1 → w1.cell? ⟨S, 2, none⟩ = some (.slice (some ⟨g, 0, none⟩) es.length c) ∧ w1.cell? ⟨g, i, none⟩ = some (.pointer (some ⟨e.g, 0, none⟩)) ∧ w1.heap[e.g]? = some (.cells (enA e.f e.n e.D e.done e.idle) 109 (0, 0)) ∧ Hid (StS w1 S q l (.slice (some ⟨g, 0, none⟩) es.length c) es ∧ Below w.heap.size w w1) := by
    intro w1 hb1
    have hb2 := hb0.trans (hb1.mono hb0.size)
    have h1 := H.out.below hb2
    exact ⟨load_st2 S w1 q l _ h1.st, row_cell h1.own he, h1.ent i e he, h1, hb2⟩
  have HF := Lib.hid hfac
  have hne : S ≠ e.g := ty_ne h.st (h.ent i e he) (by decide)
  have hge : g ≠ e.g := by
    obtain ⟨cur, hc⟩ := own_cells h.own (k := g) rfl
    exact ty_ne hc (h.ent i e he) (by decide)
  have hi0 : ¬ (i : Int) < 0 := by omega
  have hil : (i : Int) < (es.length : Int) := by omega
  have HE := Lib.hid he
  clear h hfac he hf
  obtain ⟨eg, heg⟩ : ∃ x, x = e.g := ⟨_, rfl⟩
  have HG := Lib.hid heg
  have hptr : e.ptr = .pointer (some ⟨eg, 0, none⟩) := by rw [heg]; rfl
  rw [hptr, ← heg]
  rw [← heg] at hne hge HF
  obtain ⟨len, hlen⟩ : ∃ x, x = es.length := ⟨_, rfl⟩
  rw [← hlen] at hil HF
  have HL := Lib.hid hlen
  clear heg hptr hlen hlt hn
  go_enter Tryd.func87, Tryd.ntmps87
  go_upto_region 4 with (first | (refine wpList_load_row rfl 23 _ rfl w.heap.size rfl _ _ _ _ (heap_alloc_new _ _) Tryd.underlying23 rfl (by rw [arr8_size]; kernel_rfl) ?_) | (go_at_call 90; refine hpl.out.mono ?_; rintro r w1 ⟨rfl, hb'⟩))
  obtain ⟨hc1, hc2, hen, hX⟩ := HF.out w1 hb'
  have hfz := thaw_heap hen 35
  have hc3 : w1.cell? ⟨eg, 35, none⟩ = some (.int .i64 e.idle) := cell_heap hen (en_c35 _ _ _ _ _)
  have hd1 : (w1.setCell ⟨eg, 35, none⟩ (.int .i64 0)).cell? ⟨S, 2, none⟩ = some (.slice (some ⟨g, 0, none⟩) len c) := (w1.cell?_setCell_other ⟨eg, 35, none⟩ ⟨S, 2, none⟩ _ (fun y => hne (congrArg Addr.block y).symm)).trans hc1
  have hd2 : (w1.setCell ⟨eg, 35, none⟩ (.int .i64 0)).cell? ⟨g, i, none⟩ = some (.pointer (some ⟨eg, 0, none⟩)) := (w1.cell?_setCell_other ⟨eg, 35, none⟩ ⟨g, i, none⟩ _ (fun y => hge (congrArg Addr.block y).symm)).trans hc2
  have HN := Lib.hid hen
  clear hen
  go_wp2_with fail
  go_ret
  obtain ⟨hs1, hb1⟩ := hX.out
  have hen := HN.out
  have ht : Turn (· = eg) w1 (w1.setCell ⟨eg, 35, none⟩ (.int .i64 0)) := set_turnH w1 eg 35 _
  rw [← HL.out]
  refine ⟨rfl, hs1.ent1 HE.out (e' := e.used) rfl ?_ ?_ (fun k hk => .inl hk) (fun k hk h1 _ => ht.block k hk (by rw [HG.out]; exact h1)), (Turn.of_below hb1).trans ht (fun k hk => .inl hk)⟩
  · show (w1.setCell ⟨eg, 35, none⟩ (.int .i64 0)).heap[e.g]? = some (.cells (enA e.f e.n e.D e.done 0) 109 (0, 0))
    rw [← HG.out, ← en_set35 e.f e.n e.D e.done e.idle 0]
    exact heap_setCell_same w1 eg 35 _ _ _ hen
  · refine own_keep (hs1.byt i e HE.out) fun k hk => ht.block k ((hs1.byt i e HE.out).lt k hk).2 (fun hx => ?_)
    obtain ⟨cur, hc⟩ := own_cells (hs1.byt i e HE.out) hk
    exact ty_ne hc hen (by decide) hx
def sumN (es : List Be) : Int := (es.map Be.n).sum
theorem sumN_take (es : List Be) (i : Nat) (e : Be) (h : es[i]? = some e) : sumN (es.take (i + 1)) = sumN (es.take i) + e.n := by
  unfold sumN
  rw [List.take_add_one, h, List.map_append, List.sum_append]
  simp
/-- few entries, none of them long -/
def Few (es : List Be) : Prop := es.length ≤ 16 ∧ ∀ (i : Nat) (e : Be), es[i]? = some e → 0 ≤ e.n ∧ e.n ≤ 30000
theorem sumN_bound {es : List Be} (h : ∀ (i : Nat) (e : Be), es[i]? = some e → 0 ≤ e.n ∧ e.n ≤ 30000) : 0 ≤ sumN es ∧ sumN es ≤ 30000 * es.length := by
  induction es with
  | nil => simp [sumN]
  | cons x xs ih =>
    have h1 := ih (fun i e he => h (i + 1) e (by simpa using he))
    have h2 := h 0 x (by simp)
    have e3 : sumN (x :: xs) = x.n + sumN xs := by simp [sumN]
    rw [e3]
    simp only [List.length_cons] at h1 ⊢
    constructor <;> omega
theorem sumN_tb {es : List Be} (h : Few es) (i : Nat) : 0 ≤ sumN (es.take i) ∧ sumN (es.take i) ≤ 480000 := by
  have := sumN_bound (es := es.take i) (fun j e he => by
    rw [List.getElem?_take] at he
    split at he
    · exact h.2 j e he
    · cases he)
  have hl : (es.take i).length ≤ 16 := Nat.le_trans (by rw [List.length_take]; exact Nat.min_le_right _ _) h.1
  omega
theorem load_n {W : World} {e : Be} (h : e.at W) : W.cell? ⟨e.g, 32, none⟩ = some (.int .i64 e.n) := cell_heap h (en_c32 _ _ _ _ _)
set_option maxRecDepth 100000 in
set_option maxHeartbeats 800000 in
theorem used_b {w : World} {S : Nat} {q l : Int} {V : Value} {es : List Be} (h : StS w S q l V es) (hn : es.length ≤ 16) (hF : Few es) :
    Calls Tryd.prog 29 #[.pointer (some ⟨S, 0, none⟩)] w fun r w' => r = .returned (.int .i64 (sumN es)) ∧ w' = w := by
  obtain ⟨A, c, hV, _⟩ := own_slice h.own
  have hst := load_st2 S w q l V h.st
  have hrow : ∀ (i : Nat) (e : Be), es[i]? = some e → ∃ g, A = some ⟨g, 0, none⟩ ∧ w.cell? ⟨g, i, none⟩ = some (.pointer (some ⟨e.g, 0, none⟩)) ∧ w.cell? ⟨e.g, 32, none⟩ = some (.int .i64 e.n) := by
    intro i e he
    have hlt := (List.getElem?_eq_some_iff.1 he).1
    rcases h.own.2 with ⟨_, h0⟩ | ⟨g, c', cur, e1, _⟩
    · omega
    · rw [hV] at e1
      simp only [Value.slice.injEq] at e1
      have ho := h.own
      rw [hV, e1.1] at ho
      exact ⟨g, e1.1, row_cell ho he, load_n (h.ent i e he)⟩
  have HR := Lib.hid hrow
  have HF := Lib.hid hF
  obtain ⟨len, hlen⟩ : ∃ x, x = es.length := ⟨_, rfl⟩
  rw [hV, ← hlen] at hst
  have HL := Lib.hid hlen
  have hl16 : len ≤ 16 := by omega
  clear h hrow hF hlen hn hV
  go_enter Tryd.func29, Tryd.ntmps29
  go_wp2_with fail
  go_loopg [3, 5, 11] len (fun gg s3 _ s11 wr => ∃ kk : Nat, kk ≤ len ∧ len - kk ≤ gg ∧ s3 = .int .i64 (sumN (es.take kk)) ∧ s11 = .int .i64 (kk : Int) ∧ wr = w)
  case atStart => exact ⟨0, Nat.zero_le _, by omega, rfl, rfl, rfl⟩
  case round =>
    obtain ⟨kk, hkk, hgg, rfl, rfl, rfl⟩ := hrel
    by_cases hlt : kk < len
    · have hk1 : (kk : Int) < (len : Int) := by omega
      obtain ⟨e, he⟩ : ∃ e, es[kk]? = some e := ⟨es[kk]'(by rw [← HL.out]; exact hlt), List.getElem?_eq_getElem _⟩
      obtain ⟨g, rfl, hc1, hc2⟩ := HR.out kk e he
      have hb1 := sumN_tb HF.out kk
      have hb2 := HF.out.2 kk e he
      have hE := Lib.hid (sumN_take es kk e he)
      generalize sumN (es.take kk) = s at *
      generalize e.n = x at *
      clear he
      go_wp2_with fail
      go_roundg (len - (kk + 1))
      case measure => omega
      case rel =>
        refine ⟨kk + 1, by omega, by omega, ?_, by go_num, rfl⟩
        rw [hE.out]
    · have hk1 : ¬ (kk : Int) < (len : Int) := by omega
      obtain rfl : kk = len := by omega
      have ht : es.take kk = es := List.take_of_length_le (by have := HL.out; omega)
      rw [ht]
      go_wp2
      go_ret
      exact ⟨rfl, rfl⟩
theorem add_i (t : TypeId) (x y : Operand) (a b : Int) (h1 : -9223372036854775808 ≤ a + b) (h2 : a + b ≤ 9223372036854775807) (w : World) : (do eqGuard .add t x y (.int .i64 a) (.int .i64 b); binOp .add t (.int .i64 a) (.int .i64 b) : Sem Value).run Tryd.prog w = .ok (.int .i64 (a + b)) w := by
  have hw : IntKind.i64.wrap (a + b) = a + b := IntWalk.i64_in _ (by omega)
  simp [eqGuard, binOp, Op.intArith, hw]
theorem load_i0 {W : World} {S : Nat} {q l : Int} {V : Value} (h : W.heap[S]? = some (.cells (stA q l V) 103 (0, 0))) : (Instr.loadAt 3 (.pointer (some ⟨S, 0, none⟩))).run Tryd.prog W = .ok (.int .i64 q) W := by
  have h1 : W.cell? ⟨S, 0, none⟩ = some (.int .i64 q) := cell_heap h rfl
  have h2 := Tryd.underlying3
  go_simp
theorem load_stV {W : World} {S : Nat} {q l : Int} {V : Value} (h : W.heap[S]? = some (.cells (stA q l V) 103 (0, 0))) : (Instr.loadAt 101 (.pointer (some ⟨S, 2, none⟩))).run Tryd.prog W = .ok V W := by
  have h1 : W.cell? ⟨S, 2, none⟩ = some V := cell_heap h rfl
  have h2 := Tryd.underlying101
  go_simp
theorem exec_boxE {P : Program} {a : Act} {o : Oper} {t : TypeId} {x : Operand} {w w' : World} {vx v : Value} (ho : o.op = .box t x) (hx : a.eval x = vx) (hr : (Instr.box t vx).run P w = .ok v w') : (execOp a.eval o).run P w = .ok (.value v) w' := by
  unfold execOp
  simp [ho, hx, hr, Result.andThen]
theorem heap_grown {W W' : World} {g : Nat} {o : Obj} {row : Option Nat} (h : W.heap[g]? = some o) (hg : W.grownBy W' row) (hn : some g ≠ row) : W'.heap[g]? = some o := (hg.block g (lt_heap h) hn).trans h
theorem own_ne {W : World} {n size g : Nat} {t u : TypeId} {v : Value} {xs : List Value} {cs : Array Value} (h : W.ownsRow 0 t size v n xs) (k : W.heap[g]? = some (.cells cs u (0, 0))) (hne : t ≠ u) : some g ≠ v.ownBlock := fun e => by
  obtain ⟨cur, hc⟩ := own_cells h e.symm
  exact ty_ne hc k hne rfl
/-- what Open's last region wants -/
def OpP (S bx : Nat) (q l : Int) (V : Value) (k : Nat → BitVec 8) (W : World) : Prop := W.heap[S]? = some (.cells (stA q l V) 103 (0, 0)) ∧ W.heap[bx]? = some (.cells (arr8 32 k) 23 (0, 0))
theorem OpP.alc {S bx : Nat} {q l : Int} {V : Value} {k : Nat → BitVec 8} {W : World} (h : OpP S bx q l V k W) (o : Obj) : OpP S bx q l V k (W.alloc o) := ⟨heap_below h.1 (below_alc W o), heap_below h.2 (below_alc W o)⟩
theorem OpP.grown {S bx : Nat} {q l : Int} {V : Value} {k : Nat → BitVec 8} {W W' : World} {row : Option Nat} (h : OpP S bx q l V k W) (hg : W.grownBy W' row) (h1 : some S ≠ row) (h2 : some bx ≠ row) : OpP S bx q l V k W' := ⟨heap_grown h.1 hg h1, heap_grown h.2 hg h2⟩
theorem push_p (ty : TypeId) (W : World) (V : Value) (es : List Be) (x : Be) (hown : W.ownsRow 0 107 1 V es.length (es.map Be.ptr)) (a : Addr) (c : Nat)
    (hnews : ∀ j u, ([x.ptr] : List Value)[j]? = some u → W.cell? (a.add j) = some u) (hn : es.length ≤ 1000) :
    ∃ v' w', (Builtin.append_ #[101, 101] ty #[V, .slice (some a) 1 c]).run Tryd.prog W = .ok v' w' ∧ w'.ownsRow 0 107 1 v' (es ++ [x]).length ((es ++ [x]).map Be.ptr) ∧ W.grownBy w' V.ownBlock ∧ (∀ k, v'.ownBlock = some k → V.ownBlock = some k ∨ W.heap.size ≤ k) := by
  obtain ⟨i, hi, hz⟩ := Option.map_eq_some_iff.1 (show (Tryd.prog.info? 107).map (fun i => (i.size, i.bytes, i.zero)) = some (1, 8, some (.pointer none)) by kernel_rfl)
  simp only [Prod.mk.injEq] at hz
  obtain ⟨v', w', h1, h2, h3, _, h4⟩ := run_append_own2 (P := Tryd.prog) W 0 101 ty 107 i (.pointer none) 1 8 Tryd.underlying101 hi hz.2.2 hz.1 hz.2.1 rfl (by omega) V es.length (es.map Be.ptr) hown a 1 c [x.ptr] rfl hnews (by intro u hu; rw [List.mem_singleton.1 hu]; rfl) (by unfold maxLen; omega) (by omega) (Nat.zero_le _)
  exact ⟨v', w', h1, by rw [List.length_append, List.map_append]; exact h2, h3, h4⟩
/-- an entry of no bytes more -/
theorem StS.push {W W' : World} {S : Nat} {q l : Int} {V V' : Value} {es : List Be} (h : StS W S q l V es) (e : Be) (hst : W'.heap[S]? = some (.cells (stA q l V') 103 (0, 0))) (hown : W'.ownsRow 0 107 1 V' (es ++ [e]).length ((es ++ [e]).map Be.ptr)) (he : e.at W') (hD : e.D = .slice none 0 0) (hbs : e.bs = []) (hge : W.heap.size ≤ e.g)
    (hk : ∀ k, k < W.heap.size → k ≠ S → V.ownBlock ≠ some k → W'.heap[k]? = W.heap[k]?) : StS W' S q l V' (es ++ [e]) := by
  have get : ∀ (j : Nat) (x : Be), (es ++ [e])[j]? = some x → (j = es.length ∧ x = e) ∨ (j < es.length ∧ es[j]? = some x) := by
    intro j x hx
    by_cases hj : j < es.length
    · rw [List.getElem?_append_left hj] at hx
      exact .inr ⟨hj, hx⟩
    · rw [List.getElem?_append_right (by omega)] at hx
      have hlt := (List.getElem?_eq_some_iff.1 hx).1
      simp only [List.length_singleton] at hlt
      have h0 : j - es.length = 0 := by omega
      rw [h0] at hx
      exact .inl ⟨by omega, (Option.some.inj hx).symm⟩
  have hnd : e.D.ownBlock = none := by rw [hD]; rfl
  have old : ∀ (j : Nat) (x : Be), es[j]? = some x → W'.heap[x.g]? = W.heap[x.g]? ∧ ∀ k, x.D.ownBlock = some k → W'.heap[k]? = W.heap[k]? := by
    intro j x hx
    refine ⟨hk _ (lt_heap (h.ent j x hx)) (ty_ne (h.ent j x hx) h.st (by decide)) (fun y => own_ne h.own (h.ent j x hx) (by decide) y.symm), fun k hxk => ?_⟩
    obtain ⟨cur, hc⟩ := own_cells (h.byt j x hx) hxk
    exact hk k (lt_heap hc) (ty_ne hc h.st (by decide)) (fun y => own_ne h.own hc (by decide) y.symm)
  refine ⟨hst, hown, fun j x hx => ?_, fun j x hx => ?_, fun j m x y hjm hx hy => ?_, fun j m x y hjm hx hy k hxk => ?_⟩
  · rcases get j x hx with ⟨_, rfl⟩ | ⟨_, hx2⟩
    · exact he
    · exact (old j x hx2).1.trans (h.ent j x hx2)
  · rcases get j x hx with ⟨_, rfl⟩ | ⟨_, hx2⟩
    · rw [hD, hbs]; exact World.ownsRow_nil _ _ _ _
    · exact own_keep (h.byt j x hx2) (old j x hx2).2
  · rcases get j x hx with ⟨hj, rfl⟩ | ⟨_, hx2⟩ <;> rcases get m y hy with ⟨hm, hy'⟩ | ⟨_, hy2⟩
    · omega
    · have := lt_heap (h.ent m y hy2)
      omega
    · have := lt_heap (h.ent j x hx2)
      rw [hy']
      omega
    · exact h.gne j m x y hjm hx2 hy2
  · rcases get j x hx with ⟨hj, rfl⟩ | ⟨_, hx2⟩ <;> rcases get m y hy with ⟨hm, hy'⟩ | ⟨_, hy2⟩
    · omega
    · rw [hnd] at hxk; cases hxk
    · rw [hy', hnd]; exact fun z => by cases z
    · exact h.dne j m x y hjm hx2 hy2 k hxk
section
variable {w : World} {S : Nat} {q l : Int} {V : Value} {es : List Be}
set_option maxRecDepth 100000 in
set_option maxHeartbeats 800000 in
theorem open_range (E : Nat → Addr) (hE : ErrsAt E w) (k : Nat → BitVec 8) (n : Int) (hn : n < 1 ∨ 30000 < n) : Calls Tryd.prog 79 #[.pointer (some ⟨S, 0, none⟩), .agg (arr8 32 k), .int .i64 n] w fun r w' => r = .returned (errV (E 1)) ∧ Below w.heap.size w w' := by
  have hb0 := below_alc w (.cells (arr8 32 k) 23)
  have he : (w.alloc (.cells (arr8 32 k) 23)).cell? ⟨6, 0, none⟩ = some (errV (E 1)) := (hE.below hb0).c 1 (by decide)
  clear hE
  by_cases h1 : n < 1
  · go_enter Tryd.func79, Tryd.ntmps79
    go_wp2_with fail
    go_ret
    exact ⟨rfl, hb0⟩
  · have h2 : 30000 < n := by omega
    go_enter Tryd.func79, Tryd.ntmps79
    go_wp2_with fail
    go_ret
    exact ⟨rfl, hb0⟩
set_option maxRecDepth 100000 in
set_option maxHeartbeats 800000 in
theorem open_open (E : Nat → Addr) (hE : ErrsAt E w) (h : StS w S q l V es) (hl : es.length ≤ 16) (k : Nat → BitVec 8) (n : Int) (h1 : 1 ≤ n) (h2 : n ≤ 30000) {i : Nat} {e : Be} (hf : es.findIdx? (Be.is k) = some i) (hi : es[i]? = some e) (hgE : Hid (∀ j, j < 19 → gE j ≠ e.g)) :
    Calls Tryd.prog 79 #[.pointer (some ⟨S, 0, none⟩), .agg (arr8 32 k), .int .i64 n] w fun r w' => r = .returned (errV (E 14)) ∧ StS w' S q l V (es.set i e.used) ∧ Turn (· = e.g) w w' := by
  have hb0 := below_alc w (.cells (arr8 32 k) 23)
  have hus := Lib.hid (use_some (h.below hb0) (by omega) k hf hi)
  have hptr : e.ptr = .pointer (some ⟨e.g, 0, none⟩) := rfl
  rw [hptr] at hus
  have he : (w.alloc (.cells (arr8 32 k) 23)).cell? ⟨15, 0, none⟩ = some (errV (E 14)) := (hE.below hb0).c 14 (by decide)
  have heg : 15 ≠ e.g := hgE.out 14 (by decide)
  clear hE h hf hi hptr
  generalize e.g = eg at *
  go_enter Tryd.func79, Tryd.ntmps79
  go_wp2_with (first | (refine wpList_load_row rfl 23 _ rfl w.heap.size rfl _ _ _ _ (heap_alloc_new _ _) Tryd.underlying23 rfl (by rw [arr8_size]; kernel_rfl) ?_) | (go_at_call 87; refine hus.out.mono ?_; rintro r W1 ⟨rfl, hs1, ht1⟩; have HS := Lib.hid (And.intro hs1 ht1); have he2 := (ht1.cell (o := 0) (World.block_lt_of_cell? _ _ he) heg).trans he; clear hs1 ht1 he))
  go_ret
  obtain ⟨s1, t1⟩ := HS.out
  exact ⟨rfl, s1, (Turn.of_below hb0).trans t1 (fun k hk => .inl hk)⟩
set_option maxRecDepth 100000 in
set_option maxHeartbeats 800000 in
theorem open_limit (E : Nat → Addr) (hE : ErrsAt E w) (h : StS w S q l V es) (hl : es.length = 16) (k : Nat → BitVec 8) (n : Int) (h1 : 1 ≤ n) (h2 : n ≤ 30000) (hf : es.findIdx? (Be.is k) = none) :
    Calls Tryd.prog 79 #[.pointer (some ⟨S, 0, none⟩), .agg (arr8 32 k), .int .i64 n] w fun r w' => r = .returned (errV (E 17)) ∧ Below w.heap.size w w' := by
  have hb0 := below_alc w (.cells (arr8 32 k) 23)
  have hus := Lib.hid (use_none (h.below hb0) (by omega) k hf)
  obtain ⟨A, c, hV, _⟩ := own_slice h.own
  rw [hl] at hV
  subst hV
  have HF : Hid (∀ W1, Below (w.alloc (.cells (arr8 32 k) 23)).heap.size (w.alloc (.cells (arr8 32 k) 23)) W1 → W1.cell? ⟨S, 2, none⟩ = some (.slice A 16 c) ∧ W1.cell? ⟨17, 0, none⟩ = some (errV (E 17))) := fun W1 hb => ⟨load_st2 S W1 q l _ ((h.below hb0).below hb).st, ((hE.below hb0).below hb).c 17 (by decide)⟩
  clear hE h hf
  go_enter Tryd.func79, Tryd.ntmps79
  go_wp2_with (first | (refine wpList_load_row rfl 23 _ rfl w.heap.size rfl _ _ _ _ (heap_alloc_new _ _) Tryd.underlying23 rfl (by rw [arr8_size]; kernel_rfl) ?_) | (go_at_call 87; refine hus.out.mono ?_; rintro r W1 ⟨rfl, hb'⟩; obtain ⟨hc1, hc2⟩ := HF.out W1 hb'))
  go_ret
  exact ⟨rfl, hb0.trans (hb'.mono hb0.size)⟩
end
theorem open_gr (W : World) (x y : Obj) {W3 : World} {row : Option Nat} (hg : ((W.drew.alloc x).alloc y).grownBy W3 row) : W.grownBy W3 row :=
  ⟨hg.os, hg.tape, hg.output, Nat.le_trans (by simp; omega) hg.size, fun k hk hr => (hg.block k (by simp; omega) hr).trans (by
    have h1 := (below_alc (W.drew.alloc x) y).block k (by simp; omega)
    have h2 := (below_alc W.drew x).block k hk
    exact h1.trans h2)⟩
theorem st_set {W : World} {S : Nat} {q l : Int} {V : Value} (h : W.heap[S]? = some (.cells (stA q l V) 103 (0, 0))) (V' : Value) : (W.setCell ⟨S, 2, none⟩ V').heap[S]? = some (.cells (stA q l V') 103 (0, 0)) := heap_setCell_same W S 2 _ _ _ h
section
variable {w : World} {S : Nat} {q l : Int} {V : Value} {es : List Be}
set_option maxRecDepth 100000 in
set_option maxHeartbeats 800000 in
theorem open_full (E : Nat → Addr) (hE : ErrsAt E w) (h : StS w S q l V es) (hl : es.length < 16) (hF : Few es) (k : Nat → BitVec 8) (n : Int) (h1 : 1 ≤ n) (h2 : n ≤ 30000) (hf : es.findIdx? (Be.is k) = none) (hq : q < sumN es + n) :
    Calls Tryd.prog 79 #[.pointer (some ⟨S, 0, none⟩), .agg (arr8 32 k), .int .i64 n] w fun r w' => r = .returned (errV (E 6)) ∧ Below w.heap.size w w' := by
  have hb0 := below_alc w (.cells (arr8 32 k) 23)
  have hus := Lib.hid (use_none (h.below hb0) (by omega) k hf)
  have hsb := sumN_bound hF.2
  have hs1 : -9223372036854775808 ≤ sumN es + n := by omega
  have hs2 : sumN es + n ≤ 9223372036854775807 := by omega
  have HN := Lib.hid (show es.length ≤ 16 by omega)
  have HBb := Lib.hid hF
  have HQ := Lib.hid (decide_eq_true hq)
  obtain ⟨A, c, hV, _⟩ := own_slice h.own
  have H := Lib.hid h
  have HE := Lib.hid hE
  have hl2 : (es.length : Int) < 16 := by omega
  obtain ⟨len, hlen⟩ : ∃ x, x = es.length := ⟨_, rfl⟩
  rw [← hlen] at hl2 hV
  have HF : Hid (∀ W1, Below (w.alloc (.cells (arr8 32 k) 23)).heap.size (w.alloc (.cells (arr8 32 k) 23)) W1 → W1.cell? ⟨S, 2, none⟩ = some (.slice A len c)) := fun W1 hb => by rw [← hV]; exact load_st2 S W1 q l V ((h.below hb0).below hb).st
  clear hE h hf hsb hl hV hlen hF hq
  go_enter Tryd.func79, Tryd.ntmps79
  go_upto_region 7 with (first | (refine wpList_load_row rfl 23 _ rfl w.heap.size rfl _ _ _ _ (heap_alloc_new _ _) Tryd.underlying23 rfl (by rw [arr8_size]; kernel_rfl) ?_) | (go_at_call 87; refine hus.out.mono ?_; rintro r W1 ⟨rfl, hb'⟩; have hc1 := HF.out W1 hb'))
  have hb1 := hb0.trans (hb'.mono hb0.size)
  have HS := Lib.hid (H.out.below hb1)
  have hst := HS.out.st
  have he : W1.drew.cell? ⟨8, 0, none⟩ = some (errV (E 6)) := (HE.out.below hb1).c 6 (by decide)
  clear hc1 hus
  refine wp_region_noPanic ?_
  refine wp_region_held_drew (S := fun w' => w' = W1.drew) (by kernel_rfl) (rfl) (fun hHeld => ?_)
  refine held_move 0 (Go.Operand.tmp 0) (some 30) (.pointer (some ⟨S, 0, none⟩)) (by kernel_rfl) (by kernel_rfl) (by kernel_rfl) (by kernel_rfl) (by kernel_rfl) (fun _ _ _ _ _ h => h) hHeld ?_
  refine held_move 2 (Go.Operand.tmp 2) (some 32) (.int .i64 n) (by kernel_rfl) (by kernel_rfl) (by kernel_rfl) (by kernel_rfl) (by kernel_rfl) (fun _ _ _ _ _ h => h) hHeld ?_
  refine held_move 4 (Go.Operand.tmp 0) (some 34) (.pointer (some ⟨S, 0, none⟩)) (by kernel_rfl) (by kernel_rfl) (by kernel_rfl) (by kernel_rfl) (by kernel_rfl) (fun _ _ _ _ _ h => h) hHeld ?_
  refine held_nil 5 (Go.Operand.tmp 34) (some 35) ⟨S, 0, none⟩ (by kernel_rfl) (by kernel_rfl) (by kernel_rfl) (by kernel_rfl) (by kernel_rfl) (fun _ _ _ _ _ h => h) hHeld ?_
  refine held_field 6 103 (Go.Operand.tmp 35) 0 (some 36) (.pointer (some ⟨S, 0, none⟩)) (.pointer (some ⟨S, 0, none⟩)) (by kernel_rfl) (by kernel_rfl) (fun w => by kernel_rfl) (by kernel_rfl) (by kernel_rfl) (by kernel_rfl) (fun _ _ _ _ _ h => h) hHeld ?_
  refine held_cell 7 3 (Go.Operand.tmp 36) (some 37) (.pointer (some ⟨S, 0, none⟩)) (.int .i64 q) (by kernel_rfl) (by kernel_rfl) (fun W hw => by rw [hw]; exact load_i0 hst) (by kernel_rfl) (by kernel_rfl) (by kernel_rfl) (fun _ _ _ _ _ h => h) hHeld ?_
  refine held_call 1 29 #[Go.Operand.tmp 30] #[58] (some 31) #[.pointer (some ⟨S, 0, none⟩)] _ (by kernel_rfl) (by kernel_rfl) (by kernel_rfl) (by kernel_rfl) (used_b (HS.out.keep (W' := W1.drew) (fun _ _ => rfl)) HN.out HBb.out) ?_
  rintro r Y ⟨rfl, rfl⟩
  refine ⟨_, rfl, hHeld, fun hHeld => ?_⟩
  refine held_bin 3 Go.BinOp.add 3 (Go.Operand.tmp 31) (Go.Operand.tmp 32) 3 (some 33) (.int .i64 (sumN es)) (.int .i64 n) (.int .i64 (sumN es + n)) (by kernel_rfl) (by kernel_rfl) (fun w => add_i _ _ _ _ _ hs1 hs2 w) (by kernel_rfl) (by kernel_rfl) (by kernel_rfl) (fun _ _ _ _ _ h => h) hHeld ?_
  refine held_bin 8 Go.BinOp.gtr 3 (Go.Operand.tmp 33) (Go.Operand.tmp 37) 3 (some 38) (.int .i64 (sumN es + n)) (.int .i64 q) (.bool (decide (q < sumN es + n))) (by kernel_rfl) (by kernel_rfl) (fun w => by kernel_rfl) (by kernel_rfl) (by kernel_rfl) (by kernel_rfl) (fun _ _ _ _ _ h => h) hHeld ?_
  refine held_assign 9 (Go.Operand.tmp 38) (some 29) (.bool (decide (q < sumN es + n))) (by kernel_rfl) (by kernel_rfl) (by kernel_rfl) (by kernel_rfl) (by kernel_rfl) (fun _ _ _ _ _ h => h) hHeld ?_
  refine wpAnyH_done (by kernel_rfl) ?_ _
  refine NoPanic.normal ?_
  try simp only [Act.put, List.setIfInBounds_toArray, List.set_cons_zero, List.set_cons_succ]
  rw [HQ.out]
  clear hst hHeld
  go_wp2_with fail
  go_ret
  exact ⟨rfl, hb1.drew⟩
end
section
variable {w : World} {S : Nat} {q l : Int} {V : Value} {es : List Be}
set_option maxRecDepth 100000 in
set_option maxHeartbeats 1600000 in
theorem open_ok (h : StS w S q l V es) (hl : es.length < 16) (hF : Few es) (k : Nat → BitVec 8) (n : Int) (h1 : 1 ≤ n) (h2 : n ≤ 30000) (hf : es.findIdx? (Be.is k) = none) (hq : sumN es + n ≤ q) :
    Calls Tryd.prog 79 #[.pointer (some ⟨S, 0, none⟩), .agg (arr8 32 k), .int .i64 n] w fun r w' => r = .returned .nilIface ∧ ∃ V' g, w.heap.size ≤ g ∧ StS w' S q l V' (es ++ [⟨g, k, n, .slice none 0 0, [], false, 0⟩]) ∧ Turn (fun x => x = S ∨ V.ownBlock = some x) w w' ∧ (∀ x, V'.ownBlock = some x → V.ownBlock = some x ∨ w.heap.size ≤ x) := by
  have hb0 := below_alc w (.cells (arr8 32 k) 23)
  have hus := Lib.hid (use_none (h.below hb0) (by omega) k hf)
  have hsb := sumN_bound hF.2
  have hs1 : -9223372036854775808 ≤ sumN es + n := by omega
  have hs2 : sumN es + n ≤ 9223372036854775807 := by omega
  have HN := Lib.hid (show es.length ≤ 16 by omega)
  have HBb := Lib.hid hF
  have HQ := Lib.hid (decide_eq_false (show ¬ q < sumN es + n by omega))
  obtain ⟨A, c, hV, _⟩ := own_slice h.own
  have H := Lib.hid h
  have hl2 : (es.length : Int) < 16 := by omega
  obtain ⟨len, hlen⟩ : ∃ x, x = es.length := ⟨_, rfl⟩
  rw [← hlen] at hl2 hV
  have HF : Hid (∀ W1, Below (w.alloc (.cells (arr8 32 k) 23)).heap.size (w.alloc (.cells (arr8 32 k) 23)) W1 → W1.cell? ⟨S, 2, none⟩ = some (.slice A len c)) := fun W1 hb => by rw [← hV]; exact load_st2 S W1 q l V ((h.below hb0).below hb).st
  have HV := Lib.hid hV
  clear h hf hsb hl hV hlen hF hq
  go_enter Tryd.func79, Tryd.ntmps79
  go_upto_region 7 with (first | (refine wpList_load_row rfl 23 _ rfl w.heap.size rfl _ _ _ _ (heap_alloc_new _ _) Tryd.underlying23 rfl (by rw [arr8_size]; kernel_rfl) ?_) | (go_at_call 87; refine hus.out.mono ?_; rintro r W1 ⟨rfl, hb'⟩; have hc1 := HF.out W1 hb'))
  have hb1 := hb0.trans (hb'.mono hb0.size)
  have HS := Lib.hid (H.out.below hb1)
  have hst := HS.out.st
  have hbx1 : W1.heap[w.heap.size]? = some (.cells (arr8 32 k) 23 (0, 0)) := heap_below (heap1_0 w _) hb'
  clear hc1 hus
  refine wp_region_noPanic ?_
  refine wp_region_held_drew (S := fun w' => w' = W1.drew) (by kernel_rfl) (rfl) (fun hHeld => ?_)
  refine held_move 0 (Go.Operand.tmp 0) (some 30) (.pointer (some ⟨S, 0, none⟩)) (by kernel_rfl) (by kernel_rfl) (by kernel_rfl) (by kernel_rfl) (by kernel_rfl) (fun _ _ _ _ _ h => h) hHeld ?_
  refine held_move 2 (Go.Operand.tmp 2) (some 32) (.int .i64 n) (by kernel_rfl) (by kernel_rfl) (by kernel_rfl) (by kernel_rfl) (by kernel_rfl) (fun _ _ _ _ _ h => h) hHeld ?_
  refine held_move 4 (Go.Operand.tmp 0) (some 34) (.pointer (some ⟨S, 0, none⟩)) (by kernel_rfl) (by kernel_rfl) (by kernel_rfl) (by kernel_rfl) (by kernel_rfl) (fun _ _ _ _ _ h => h) hHeld ?_
  refine held_nil 5 (Go.Operand.tmp 34) (some 35) ⟨S, 0, none⟩ (by kernel_rfl) (by kernel_rfl) (by kernel_rfl) (by kernel_rfl) (by kernel_rfl) (fun _ _ _ _ _ h => h) hHeld ?_
  refine held_field 6 103 (Go.Operand.tmp 35) 0 (some 36) (.pointer (some ⟨S, 0, none⟩)) (.pointer (some ⟨S, 0, none⟩)) (by kernel_rfl) (by kernel_rfl) (fun w => by kernel_rfl) (by kernel_rfl) (by kernel_rfl) (by kernel_rfl) (fun _ _ _ _ _ h => h) hHeld ?_
  refine held_cell 7 3 (Go.Operand.tmp 36) (some 37) (.pointer (some ⟨S, 0, none⟩)) (.int .i64 q) (by kernel_rfl) (by kernel_rfl) (fun W hw => by rw [hw]; exact load_i0 hst) (by kernel_rfl) (by kernel_rfl) (by kernel_rfl) (fun _ _ _ _ _ h => h) hHeld ?_
  refine held_call 1 29 #[Go.Operand.tmp 30] #[58] (some 31) #[.pointer (some ⟨S, 0, none⟩)] _ (by kernel_rfl) (by kernel_rfl) (by kernel_rfl) (by kernel_rfl) (used_b (HS.out.keep (W' := W1.drew) (fun _ _ => rfl)) HN.out HBb.out) ?_
  rintro r Y ⟨rfl, rfl⟩
  refine ⟨_, rfl, hHeld, fun hHeld => ?_⟩
  refine held_bin 3 Go.BinOp.add 3 (Go.Operand.tmp 31) (Go.Operand.tmp 32) 3 (some 33) (.int .i64 (sumN es)) (.int .i64 n) (.int .i64 (sumN es + n)) (by kernel_rfl) (by kernel_rfl) (fun w => add_i _ _ _ _ _ hs1 hs2 w) (by kernel_rfl) (by kernel_rfl) (by kernel_rfl) (fun _ _ _ _ _ h => h) hHeld ?_
  refine held_bin 8 Go.BinOp.gtr 3 (Go.Operand.tmp 33) (Go.Operand.tmp 37) 3 (some 38) (.int .i64 (sumN es + n)) (.int .i64 q) (.bool (decide (q < sumN es + n))) (by kernel_rfl) (by kernel_rfl) (fun w => by kernel_rfl) (by kernel_rfl) (by kernel_rfl) (by kernel_rfl) (fun _ _ _ _ _ h => h) hHeld ?_
  refine held_assign 9 (Go.Operand.tmp 38) (some 29) (.bool (decide (q < sumN es + n))) (by kernel_rfl) (by kernel_rfl) (by kernel_rfl) (by kernel_rfl) (by kernel_rfl) (fun _ _ _ _ _ h => h) hHeld ?_
  refine wpAnyH_done (by kernel_rfl) ?_ _
  refine NoPanic.normal ?_
  try simp only [Act.put, List.setIfInBounds_toArray, List.set_cons_zero, List.set_cons_succ]
  rw [HQ.out]
  clear hst hHeld
  go_upto_region 9 with (fail)
  obtain ⟨bx, hbx⟩ : ∃ b, b = w.heap.size := ⟨_, rfl⟩
  obtain ⟨W2, hW2⟩ : ∃ W, W = W1.drew := ⟨_, rfl⟩
  have hb2 : Below w.heap.size w W2 := by rw [hW2]; exact hb1.drew
  replace HS : Hid (StS W2 S q l V es) := by rw [hW2]; exact HS.out.keep (fun _ _ => rfl)
  have hbx2 : W2.heap[bx]? = some (.cells (arr8 32 k) 23 (0, 0)) := by rw [hW2, hbx]; exact hbx1
  rw [← hbx, ← hW2]
  have hS : OpP S bx q l V k W2.drew := ⟨HS.out.st, hbx2⟩
  have hbV : some bx ≠ V.ownBlock := own_ne HS.out.own hbx2 (by decide)
  have HBX := Lib.hid hbx
  clear hbx hW2 hb1 hb' hbx1 hb0
  refine wp_region_held_cut (S := OpP S bx q l V k) 11 (by kernel_rfl) (by kernel_rfl) (hS) (fun hHeld => ?_)
  refine held_move 0 (Go.Operand.tmp 0) (some 40) (.pointer (some ⟨S, 0, none⟩)) (by kernel_rfl) (by kernel_rfl) (by kernel_rfl) (by kernel_rfl) (by kernel_rfl) (fun _ _ _ _ _ h => h) hHeld ?_
  refine held_move 1 (Go.Operand.tmp 0) (some 41) (.pointer (some ⟨S, 0, none⟩)) (by kernel_rfl) (by kernel_rfl) (by kernel_rfl) (by kernel_rfl) (by kernel_rfl) (fun _ _ _ _ _ h => h) hHeld ?_
  refine held_nil 2 (Go.Operand.tmp 41) (some 42) ⟨S, 0, none⟩ (by kernel_rfl) (by kernel_rfl) (by kernel_rfl) (by kernel_rfl) (by kernel_rfl) (fun _ _ _ _ _ h => h) hHeld ?_
  refine held_field 3 103 (Go.Operand.tmp 42) 2 (some 43) (.pointer (some ⟨S, 0, none⟩)) (.pointer (some ⟨S, 2, none⟩)) (by kernel_rfl) (by kernel_rfl) (fun w => by kernel_rfl) (by kernel_rfl) (by kernel_rfl) (by kernel_rfl) (fun _ _ _ _ _ h => h) hHeld ?_
  refine held_cell 4 101 (Go.Operand.tmp 43) (some 44) (.pointer (some ⟨S, 2, none⟩)) (V) (by kernel_rfl) (by kernel_rfl) (fun W hw => load_stV hw.1) (by kernel_rfl) (by kernel_rfl) (by kernel_rfl) (fun _ _ _ _ _ h => h) hHeld ?_
  refine held_cell 5 23 (Go.Operand.tmp 4) (some 45) (.pointer (some ⟨bx, 0, none⟩)) (.agg (arr8 32 k)) (by kernel_rfl) (by kernel_rfl) (fun W hw => load_idB W bx k (range_new (cs := (arr8 32 k).toList) (by simpa using hw.2))) (by kernel_rfl) (by kernel_rfl) (by kernel_rfl) (fun _ _ _ _ _ h => h) hHeld ?_
  refine held_move 6 (Go.Operand.tmp 2) (some 46) (.int .i64 n) (by kernel_rfl) (by kernel_rfl) (by kernel_rfl) (by kernel_rfl) (by kernel_rfl) (fun _ _ _ _ _ h => h) hHeld ?_
  refine held_build 7 109 #[(0, Go.Operand.tmp 45), (1, Go.Operand.tmp 46)] (some 47) #[(0, .agg (arr8 32 k)), (1, .int .i64 n)] (.agg (enA k n (.slice none 0 0) false 0)) (by kernel_rfl) (by kernel_rfl) (fun w => en_build k n w) (by kernel_rfl) (by kernel_rfl) (by kernel_rfl) (fun _ _ _ _ _ h => h) hHeld ?_
  refine held_run 8 (Go.Op.box 109 (Go.Operand.tmp 47)) 107 (some 48) (.pointer (some ⟨W2.heap.size, 0, none⟩)) ((W2.drew.alloc (.cells (enA k n (.slice none 0 0) false 0) 109))) (by kernel_rfl) (by kernel_rfl) (by kernel_rfl) (fun o ho ht => exec_boxE ho (vx := .agg (enA k n (.slice none 0 0) false 0)) (by kernel_rfl) (by kernel_rfl)) (hHeld.alc _) ?_
  intro hHeld
  refine held_run 9 (Go.Op.buildSlice 101 1 #[(0, Go.Operand.tmp 48)]) 101 (some 49) (.slice (some ⟨(W2.drew.alloc (.cells (enA k n (.slice none 0 0) false 0) 109)).heap.size, 0, none⟩) 1 1) (((W2.drew.alloc (.cells (enA k n (.slice none 0 0) false 0) 109)).alloc (.cells #[.pointer (some ⟨W2.heap.size, 0, none⟩)] 107))) (by kernel_rfl) (by kernel_rfl) (by kernel_rfl) (fun o ho ht => exec_bsl (vs := #[(0, .pointer (some ⟨W2.heap.size, 0, none⟩))]) ho (by kernel_rfl) (by kernel_rfl)) (hHeld.alc _) ?_
  intro hHeld
  obtain ⟨V3, W3, hr3, ho3, hg3, hk3⟩ := push_p 101 ((W2.drew.alloc (.cells (enA k n (.slice none 0 0) false 0) 109)).alloc (.cells #[.pointer (some ⟨W2.heap.size, 0, none⟩)] 107)) V es ⟨W2.heap.size, k, n, .slice none 0 0, [], false, 0⟩ (((HS.out.keep (W' := W2.drew) (fun _ _ => rfl)).own.alloc _).alloc _) ⟨(W2.drew.alloc (.cells (enA k n (.slice none 0 0) false 0) 109)).heap.size, 0, none⟩ 1 (fun j u hu => by rw [Addr.add_lit]; exact range_new (heap1_0 (W2.drew.alloc (.cells (enA k n (.slice none 0 0) false 0) 109)) _) j u hu) (by have := HN.out; omega)
  refine held_run 10 (Go.Op.call { callee := Go.Callee.builtin Go.Builtin.append, args := #[Go.Operand.tmp 44, Go.Operand.tmp 49], argTypes := #[101, 101] }) 101 (some 50) (V3) (W3) (by kernel_rfl) (by kernel_rfl) (by kernel_rfl) (fun o ho ht => exec_append ho ht (vs := V) (vx := .slice (some ⟨(W2.drew.alloc (.cells (enA k n (.slice none 0 0) false 0) 109)).heap.size, 0, none⟩) 1 1) (by kernel_rfl) (hr3)) (hHeld.grown hg3 (by have := HS.out; exact own_ne this.own this.st (by decide)) hbV) ?_
  intro hHeld
  refine wpAnyH_done (by kernel_rfl) ?_ _
  show wpList _ _ _ _ _ _
  simp only [Act.put, List.setIfInBounds_toArray, List.set_cons_zero, List.set_cons_succ, List.drop_succ_cons, List.drop_zero]
  have hst3 := hHeld.1
  have hfz := thaw_heap hst3 2
  have hc3 := load_st2 S W3 q l V hst3
  have H3 := Lib.hid (And.intro ho3 (And.intro hg3 hk3))
  have HST := Lib.hid hst3
  obtain ⟨A3, c3, hV3, _⟩ := own_slice ho3
  obtain ⟨n3, hn3⟩ : ∃ x, x = (es ++ [(⟨W2.heap.size, k, n, .slice none 0 0, [], false, 0⟩ : Be)]).length := ⟨_, rfl⟩
  rw [← hn3] at hV3
  have HV3 := Lib.hid hV3
  subst hV3
  clear hn3 ho3 hg3 hk3 hHeld hr3 hst3 hbV hbx2 hS
  go_wp2_with fail
  go_ret
  obtain ⟨ho3, hg3, hk3⟩ := H3.out
  have hgr : W2.grownBy W3 V.ownBlock := open_gr W2 _ _ hg3
  have hset : Turn (· = S) W3 (W3.setCell ⟨S, 2, none⟩ (.slice A3 n3 c3)) := set_turnH W3 S 2 _
  have hsz := hgr.size
  have hnS : some S ≠ (Value.slice A3 n3 c3).ownBlock := own_ne ho3 HST.out (by decide)
  have hfin : Turn (fun x => x = S ∨ V.ownBlock = some x) w (W3.setCell ⟨S, 2, none⟩ (.slice A3 n3 c3)) :=
    ((Turn.of_below hb2).trans (Turn.of_grown (F := fun x => V.ownBlock = some x) hgr (fun k hk => hk)) (fun x hx => .inl (.inr hx))).trans hset (fun x hx => .inl (.inl hx))
  have hent : W3.heap[W2.heap.size]? = some (.cells (enA k n (.slice none 0 0) false 0) 109 (0, 0)) := by
    refine heap_grown (heap_below (heap1_0 W2.drew _) (below_alc _ _)) hg3 ?_
    intro y
    have := (HS.out.own.lt _ y.symm).2
    omega
  refine ⟨rfl, .slice A3 n3 c3, W2.heap.size, hb2.size, ?_, hfin, fun x hx => ?_⟩
  · refine HS.out.push ⟨W2.heap.size, k, n, .slice none 0 0, [], false, 0⟩ (st_set HST.out _) (own_keep ho3 fun x hx => hset.block x (ho3.lt x hx).2 (fun y => hnS (by rw [← y]; exact hx.symm))) ?_ rfl rfl (Nat.le_refl _) (fun x hx h1 h2 => (hset.block x (by omega) h1).trans (hgr.block x hx (fun y => h2 y.symm)))
    exact (hset.block _ (lt_heap hent) (fun y => by have := lt_heap HS.out.st; omega)).trans hent
  · rcases hk3 x hx with h1 | h1
    · exact .inl h1
    · have := hb2.size
      refine .inr ?_
      simp at h1
      omega
end
theorem set_get {es : List Be} {i : Nat} {e e' : Be} (h : es[i]? = some e) : (es.set i e')[i]? = some e' := by
  have hi := (List.getElem?_eq_some_iff.1 h).1
  rw [List.getElem?_set, if_pos rfl, if_pos hi]
theorem StS.cells {W1 : World} {S : Nat} {q l : Int} {V : Value} {es : List Be} {i : Nat} {e : Be} (hs : StS W1 S q l V (es.set i e.used)) (hi : es[i]? = some e) : W1.cell? ⟨e.g, 32, none⟩ = some (.int .i64 e.n) ∧ W1.cell? ⟨e.g, 33, none⟩ = some e.D ∧ W1.cell? ⟨e.g, 34, none⟩ = some (.bool e.done) := by
  have := hs.ent i e.used (set_get hi)
  exact ⟨cell_heap this (en_c32 _ _ _ _ _), cell_heap this (en_c33 _ _ _ _ _), cell_heap this (en_c34 _ _ _ _ _)⟩
section
variable {w : World} {S : Nat} {q l : Int} {V : Value} {es : List Be}
set_option maxRecDepth 100000 in
set_option maxHeartbeats 800000 in
theorem statN (E : Nat → Addr) (hE : ErrsAt E w) (h : StS w S q l V es) (hl : es.length ≤ 16) (k : Nat → BitVec 8)  (hf : es.findIdx? (Be.is k) = none) :
    Calls Tryd.prog 89 #[.pointer (some ⟨S, 0, none⟩), .agg (arr8 32 k)] w fun r w' => r = .returned (.tuple #[.int .i64 0, .bool false, errV (E 13)]) ∧ Below w.heap.size w w' := by
  have hb0 := below_alc w (.cells (arr8 32 k) 23)
  have hus := Lib.hid (use_none (h.below hb0) (by omega) k hf)
  have HE := Lib.hid (hE.below hb0)
  clear h hE
  go_enter Tryd.func89, Tryd.ntmps89
  go_wp2_with (first | (refine wpList_load_row rfl 23 _ rfl w.heap.size rfl _ _ _ _ (heap_alloc_new _ _) Tryd.underlying23 rfl (by rw [arr8_size]; kernel_rfl) ?_) | (go_at_call 87; refine hus.out.mono ?_; rintro r W1 ⟨rfl, hb'⟩; have he := (HE.out.below hb').c 13 (by decide); have he2 : W1.drew.cell? ⟨gE 13, 0, none⟩ = some (errV (E 13)) := he; simp only [gE] at he he2))
  go_quiet (fail)
  go_wp2_with fail
  go_ret3
  have hb2 := hb0.trans (hb'.mono hb0.size)
  exact ⟨rfl, by first | exact hb2 | exact below_drewN hb2 _⟩
set_option maxRecDepth 100000 in
set_option maxHeartbeats 800000 in
theorem putN (E : Nat → Addr) (hE : ErrsAt E w) (h : StS w S q l V es) (hl : es.length ≤ 16) (k : Nat → BitVec 8) (off : Int) (A : Option Addr) (m cb : Nat) (hf : es.findIdx? (Be.is k) = none) :
    Calls Tryd.prog 80 #[.pointer (some ⟨S, 0, none⟩), .agg (arr8 32 k), .int .i64 off, .slice A m cb] w fun r w' => r = .returned (.tuple #[.int .i64 0, errV (E 13)]) ∧ Below w.heap.size w w' := by
  have hb0 := below_alc w (.cells (arr8 32 k) 23)
  have hus := Lib.hid (use_none (h.below hb0) (by omega) k hf)
  have HE := Lib.hid (hE.below hb0)
  clear h hE
  go_enter Tryd.func80, Tryd.ntmps80
  go_wp2_with (first | (refine wpList_load_row rfl 23 _ rfl w.heap.size rfl _ _ _ _ (heap_alloc_new _ _) Tryd.underlying23 rfl (by rw [arr8_size]; kernel_rfl) ?_) | (go_at_call 87; refine hus.out.mono ?_; rintro r W1 ⟨rfl, hb'⟩; have he := (HE.out.below hb').c 13 (by decide); have he2 : W1.drew.cell? ⟨gE 13, 0, none⟩ = some (errV (E 13)) := he; simp only [gE] at he he2))
  go_quiet (fail)
  go_wp2_with fail
  go_ret2
  have hb2 := hb0.trans (hb'.mono hb0.size)
  exact ⟨rfl, by first | exact hb2 | exact below_drewN hb2 _⟩
set_option maxRecDepth 100000 in
set_option maxHeartbeats 800000 in
theorem getN (E : Nat → Addr) (hE : ErrsAt E w) (h : StS w S q l V es) (hl : es.length ≤ 16) (k : Nat → BitVec 8) (off n : Int) (hf : es.findIdx? (Be.is k) = none) :
    Calls Tryd.prog 82 #[.pointer (some ⟨S, 0, none⟩), .agg (arr8 32 k), .int .i64 off, .int .i64 n] w fun r w' => r = .returned (.tuple #[.slice none 0 0, errV (E 13)]) ∧ Below w.heap.size w w' := by
  have hb0 := below_alc w (.cells (arr8 32 k) 23)
  have hus := Lib.hid (use_none (h.below hb0) (by omega) k hf)
  have HE := Lib.hid (hE.below hb0)
  clear h hE
  go_enter Tryd.func82, Tryd.ntmps82
  go_wp2_with (first | (refine wpList_load_row rfl 23 _ rfl w.heap.size rfl _ _ _ _ (heap_alloc_new _ _) Tryd.underlying23 rfl (by rw [arr8_size]; kernel_rfl) ?_) | (go_at_call 87; refine hus.out.mono ?_; rintro r W1 ⟨rfl, hb'⟩; have he := (HE.out.below hb').c 13 (by decide); have he2 : W1.drew.cell? ⟨gE 13, 0, none⟩ = some (errV (E 13)) := he; simp only [gE] at he he2))
  go_quiet (fail)
  go_wp2_with fail
  go_ret2
  have hb2 := hb0.trans (hb'.mono hb0.size)
  exact ⟨rfl, by first | exact hb2 | exact below_drewN hb2 _⟩
set_option maxRecDepth 100000 in
set_option maxHeartbeats 800000 in
theorem commitN (E : Nat → Addr) (hE : ErrsAt E w) (h : StS w S q l V es) (hl : es.length ≤ 16) (k : Nat → BitVec 8)  (hf : es.findIdx? (Be.is k) = none) :
    Calls Tryd.prog 81 #[.pointer (some ⟨S, 0, none⟩), .agg (arr8 32 k)] w fun r w' => r = .returned (errV (E 13)) ∧ Below w.heap.size w w' := by
  have hb0 := below_alc w (.cells (arr8 32 k) 23)
  have hus := Lib.hid (use_none (h.below hb0) (by omega) k hf)
  have HE := Lib.hid (hE.below hb0)
  clear h hE
  go_enter Tryd.func81, Tryd.ntmps81
  go_wp2_with (first | (refine wpList_load_row rfl 23 _ rfl w.heap.size rfl _ _ _ _ (heap_alloc_new _ _) Tryd.underlying23 rfl (by rw [arr8_size]; kernel_rfl) ?_) | (go_at_call 87; refine hus.out.mono ?_; rintro r W1 ⟨rfl, hb'⟩; have he := (HE.out.below hb').c 13 (by decide); have he2 : W1.drew.cell? ⟨gE 13, 0, none⟩ = some (errV (E 13)) := he; simp only [gE] at he he2))
  go_ret
  have hb2 := hb0.trans (hb'.mono hb0.size)
  exact ⟨rfl, by first | exact hb2 | exact below_drewN hb2 _⟩
set_option maxRecDepth 100000 in
set_option maxHeartbeats 800000 in
theorem stat_some (h : StS w S q l V es) (hl : es.length ≤ 16) (k : Nat → BitVec 8) {i : Nat} {e : Be} (hf : es.findIdx? (Be.is k) = some i) (hi : es[i]? = some e)  :
    Calls Tryd.prog 89 #[.pointer (some ⟨S, 0, none⟩), .agg (arr8 32 k)] w fun r w' => r = .returned (.tuple #[.int .i64 e.bs.length, .bool e.done, .nilIface]) ∧ StS w' S q l V (es.set i e.used) ∧ Turn (· = e.g) w w' := by
  have hb0 := below_alc w (.cells (arr8 32 k) 23)
  have hus := Lib.hid (use_some (h.below hb0) (by omega) k hf hi)
  have hptr : e.ptr = .pointer (some ⟨e.g, 0, none⟩) := rfl
  rw [hptr] at hus
  obtain ⟨A, c, hD, hbc, hcm, _⟩ := own_slice (h.byt i e hi)
  have HC : Hid (∀ W1, StS W1 S q l V (es.set i e.used) → W1.cell? ⟨e.g, 32, none⟩ = some (.int .i64 e.n) ∧ W1.cell? ⟨e.g, 33, none⟩ = some (.slice A e.bs.length c) ∧ W1.cell? ⟨e.g, 34, none⟩ = some (.bool e.done)) := fun W1 hs => by
    rw [← hD]
    exact hs.cells hi
  clear h hD hf
  go_enter Tryd.func89, Tryd.ntmps89
  go_wp2_with (first | (refine wpList_load_row rfl 23 _ rfl w.heap.size rfl _ _ _ _ (heap_alloc_new _ _) Tryd.underlying23 rfl (by rw [arr8_size]; kernel_rfl) ?_) | (go_at_call 87; refine hus.out.mono ?_; rintro r W1 ⟨rfl, hs1, ht1⟩; obtain ⟨c32, c33, c34⟩ := HC.out W1 hs1; have d32 : W1.drew.cell? ⟨e.g, 32, none⟩ = _ := c32; have d33 : W1.drew.cell? ⟨e.g, 33, none⟩ = _ := c33; have d34 : W1.drew.cell? ⟨e.g, 34, none⟩ = _ := c34; have HS := Lib.hid (And.intro hs1 ht1); clear hs1 ht1))
  go_quiet (fail)
  go_wp2_with fail
  go_ret3
  obtain ⟨s1, t1⟩ := HS.out
  have t2 : Turn (· = e.g) w W1 := (Turn.of_below hb0).trans t1 (fun k hk => .inl hk)
  first
  | exact ⟨rfl, s1, t2⟩
  | exact ⟨rfl, s1.keep (fun _ _ => rfl), t2.trans (Turn.of_below (below_drewN (Below.refl _ _) _)) (fun k hk => .inl hk)⟩
set_option maxRecDepth 100000 in
set_option maxHeartbeats 800000 in
theorem put_state (h : StS w S q l V es) (hl : es.length ≤ 16) (k : Nat → BitVec 8) {i : Nat} {e : Be} (hf : es.findIdx? (Be.is k) = some i) (hi : es[i]? = some e) (E : Nat → Addr) (hE : ErrsAt E w) (hgE : ∀ j, j < 19 → gE j ≠ e.g) (hd : e.done = true) (off : Int) (A : Option Addr) (m cb : Nat) :
    Calls Tryd.prog 80 #[.pointer (some ⟨S, 0, none⟩), .agg (arr8 32 k), .int .i64 off, .slice A m cb] w fun r w' => r = .returned (.tuple #[.int .i64 0, errV (E 16)]) ∧ StS w' S q l V (es.set i e.used) ∧ Turn (· = e.g) w w' := by
  have hb0 := below_alc w (.cells (arr8 32 k) 23)
  have hus := Lib.hid (use_some (h.below hb0) (by omega) k hf hi)
  have hptr : e.ptr = .pointer (some ⟨e.g, 0, none⟩) := rfl
  rw [hptr] at hus
  obtain ⟨A, c, hD, hbc, hcm, _⟩ := own_slice (h.byt i e hi)
  have HE := Lib.hid hE
  have HC : Hid (∀ W1, StS W1 S q l V (es.set i e.used) → W1.cell? ⟨e.g, 32, none⟩ = some (.int .i64 e.n) ∧ W1.cell? ⟨e.g, 33, none⟩ = some (.slice A e.bs.length c) ∧ W1.cell? ⟨e.g, 34, none⟩ = some (.bool e.done)) := fun W1 hs => by
    rw [← hD]
    exact hs.cells hi
  clear h hD hf hE
  rw [hd] at HC
  go_enter Tryd.func80, Tryd.ntmps80
  go_wp2_with (first | (refine wpList_load_row rfl 23 _ rfl w.heap.size rfl _ _ _ _ (heap_alloc_new _ _) Tryd.underlying23 rfl (by rw [arr8_size]; kernel_rfl) ?_) | (go_at_call 87; refine hus.out.mono ?_; rintro r W1 ⟨rfl, hs1, ht1⟩; have he := (ht1.cell (o := 0) ((HE.out.below hb0).ltG (i := 16) (by decide)) (hgE 16 (by decide))).trans ((HE.out.below hb0).c 16 (by decide)); have he2 : W1.drew.cell? ⟨gE 16, 0, none⟩ = some (errV (E 16)) := he; simp only [gE] at he he2; obtain ⟨c32, c33, c34⟩ := HC.out W1 hs1; have d32 : W1.drew.cell? ⟨e.g, 32, none⟩ = _ := c32; have d33 : W1.drew.cell? ⟨e.g, 33, none⟩ = _ := c33; have d34 : W1.drew.cell? ⟨e.g, 34, none⟩ = _ := c34; have HS := Lib.hid (And.intro hs1 ht1); clear hs1 ht1))
  go_quiet (fail)
  go_wp2_with fail
  go_ret2
  obtain ⟨s1, t1⟩ := HS.out
  have t2 : Turn (· = e.g) w W1 := (Turn.of_below hb0).trans t1 (fun k hk => .inl hk)
  first
  | exact ⟨rfl, s1, t2⟩
  | exact ⟨rfl, s1.keep (fun _ _ => rfl), t2.trans (Turn.of_below (below_drewN (Below.refl _ _) _)) (fun k hk => .inl hk)⟩
set_option maxRecDepth 100000 in
set_option maxHeartbeats 800000 in
theorem put_neg (h : StS w S q l V es) (hl : es.length ≤ 16) (k : Nat → BitVec 8) {i : Nat} {e : Be} (hf : es.findIdx? (Be.is k) = some i) (hi : es[i]? = some e) (E : Nat → Addr) (hE : ErrsAt E w) (hgE : ∀ j, j < 19 → gE j ≠ e.g) (hd : e.done = false) (off : Int) (A : Option Addr) (m cb : Nat) (ho : off < 0) :
    Calls Tryd.prog 80 #[.pointer (some ⟨S, 0, none⟩), .agg (arr8 32 k), .int .i64 off, .slice A m cb] w fun r w' => r = .returned (.tuple #[.int .i64 0, errV (E 1)]) ∧ StS w' S q l V (es.set i e.used) ∧ Turn (· = e.g) w w' := by
  have hb0 := below_alc w (.cells (arr8 32 k) 23)
  have hus := Lib.hid (use_some (h.below hb0) (by omega) k hf hi)
  have hptr : e.ptr = .pointer (some ⟨e.g, 0, none⟩) := rfl
  rw [hptr] at hus
  obtain ⟨A, c, hD, hbc, hcm, _⟩ := own_slice (h.byt i e hi)
  have HE := Lib.hid hE
  have HC : Hid (∀ W1, StS W1 S q l V (es.set i e.used) → W1.cell? ⟨e.g, 32, none⟩ = some (.int .i64 e.n) ∧ W1.cell? ⟨e.g, 33, none⟩ = some (.slice A e.bs.length c) ∧ W1.cell? ⟨e.g, 34, none⟩ = some (.bool e.done)) := fun W1 hs => by
    rw [← hD]
    exact hs.cells hi
  clear h hD hf hE
  rw [hd] at HC
  go_enter Tryd.func80, Tryd.ntmps80
  go_wp2_with (first | (refine wpList_load_row rfl 23 _ rfl w.heap.size rfl _ _ _ _ (heap_alloc_new _ _) Tryd.underlying23 rfl (by rw [arr8_size]; kernel_rfl) ?_) | (go_at_call 87; refine hus.out.mono ?_; rintro r W1 ⟨rfl, hs1, ht1⟩; have he := (ht1.cell (o := 0) ((HE.out.below hb0).ltG (i := 1) (by decide)) (hgE 1 (by decide))).trans ((HE.out.below hb0).c 1 (by decide)); have he2 : W1.drew.cell? ⟨gE 1, 0, none⟩ = some (errV (E 1)) := he; simp only [gE] at he he2; obtain ⟨c32, c33, c34⟩ := HC.out W1 hs1; have d32 : W1.drew.cell? ⟨e.g, 32, none⟩ = _ := c32; have d33 : W1.drew.cell? ⟨e.g, 33, none⟩ = _ := c33; have d34 : W1.drew.cell? ⟨e.g, 34, none⟩ = _ := c34; have HS := Lib.hid (And.intro hs1 ht1); clear hs1 ht1))
  go_quiet (fail)
  go_wp2_with fail
  go_ret2
  obtain ⟨s1, t1⟩ := HS.out
  have t2 : Turn (· = e.g) w W1 := (Turn.of_below hb0).trans t1 (fun k hk => .inl hk)
  first
  | exact ⟨rfl, s1, t2⟩
  | exact ⟨rfl, s1.keep (fun _ _ => rfl), t2.trans (Turn.of_below (below_drewN (Below.refl _ _) _)) (fun k hk => .inl hk)⟩
set_option maxRecDepth 100000 in
set_option maxHeartbeats 800000 in
theorem put_far (h : StS w S q l V es) (hl : es.length ≤ 16) (k : Nat → BitVec 8) {i : Nat} {e : Be} (hf : es.findIdx? (Be.is k) = some i) (hi : es[i]? = some e) (E : Nat → Addr) (hE : ErrsAt E w) (hgE : ∀ j, j < 19 → gE j ≠ e.g) (hd : e.done = false) (off : Int) (A : Option Addr) (m cb : Nat) (ho : 0 ≤ off) (hb : (e.bs.length : Int) < off) :
    Calls Tryd.prog 80 #[.pointer (some ⟨S, 0, none⟩), .agg (arr8 32 k), .int .i64 off, .slice A m cb] w fun r w' => r = .returned (.tuple #[.int .i64 0, errV (E 1)]) ∧ StS w' S q l V (es.set i e.used) ∧ Turn (· = e.g) w w' := by
  have hb0 := below_alc w (.cells (arr8 32 k) 23)
  have hus := Lib.hid (use_some (h.below hb0) (by omega) k hf hi)
  have hptr : e.ptr = .pointer (some ⟨e.g, 0, none⟩) := rfl
  rw [hptr] at hus
  obtain ⟨A, c, hD, hbc, hcm, _⟩ := own_slice (h.byt i e hi)
  have HE := Lib.hid hE
  have HC : Hid (∀ W1, StS W1 S q l V (es.set i e.used) → W1.cell? ⟨e.g, 32, none⟩ = some (.int .i64 e.n) ∧ W1.cell? ⟨e.g, 33, none⟩ = some (.slice A e.bs.length c) ∧ W1.cell? ⟨e.g, 34, none⟩ = some (.bool e.done)) := fun W1 hs => by
    rw [← hD]
    exact hs.cells hi
  clear h hD hf hE
  rw [hd] at HC
  have ho2 : ¬ off < 0 := by omega
  go_enter Tryd.func80, Tryd.ntmps80
  go_wp2_with (first | (refine wpList_load_row rfl 23 _ rfl w.heap.size rfl _ _ _ _ (heap_alloc_new _ _) Tryd.underlying23 rfl (by rw [arr8_size]; kernel_rfl) ?_) | (go_at_call 87; refine hus.out.mono ?_; rintro r W1 ⟨rfl, hs1, ht1⟩; have he := (ht1.cell (o := 0) ((HE.out.below hb0).ltG (i := 1) (by decide)) (hgE 1 (by decide))).trans ((HE.out.below hb0).c 1 (by decide)); have he2 : W1.drew.cell? ⟨gE 1, 0, none⟩ = some (errV (E 1)) := he; simp only [gE] at he he2; obtain ⟨c32, c33, c34⟩ := HC.out W1 hs1; have d32 : W1.drew.cell? ⟨e.g, 32, none⟩ = _ := c32; have d33 : W1.drew.cell? ⟨e.g, 33, none⟩ = _ := c33; have d34 : W1.drew.cell? ⟨e.g, 34, none⟩ = _ := c34; have HS := Lib.hid (And.intro hs1 ht1); clear hs1 ht1))
  go_quiet (fail)
  go_wp2_with fail
  go_ret2
  obtain ⟨s1, t1⟩ := HS.out
  have t2 : Turn (· = e.g) w W1 := (Turn.of_below hb0).trans t1 (fun k hk => .inl hk)
  first
  | exact ⟨rfl, s1, t2⟩
  | exact ⟨rfl, s1.keep (fun _ _ => rfl), t2.trans (Turn.of_below (below_drewN (Below.refl _ _) _)) (fun k hk => .inl hk)⟩
set_option maxRecDepth 100000 in
set_option maxHeartbeats 800000 in
theorem put_long (h : StS w S q l V es) (hl : es.length ≤ 16) (k : Nat → BitVec 8) {i : Nat} {e : Be} (hf : es.findIdx? (Be.is k) = some i) (hi : es[i]? = some e) (E : Nat → Addr) (hE : ErrsAt E w) (hgE : ∀ j, j < 19 → gE j ≠ e.g) (hd : e.done = false) (off : Int) (A : Option Addr) (m cb : Nat) (ho : 0 ≤ off) (hb : off ≤ (e.bs.length : Int)) (hn : e.n < off + m) (hn0 : 0 ≤ e.n ∧ e.n ≤ 30000 ∧ off ≤ 30000) :
    Calls Tryd.prog 80 #[.pointer (some ⟨S, 0, none⟩), .agg (arr8 32 k), .int .i64 off, .slice A m cb] w fun r w' => r = .returned (.tuple #[.int .i64 0, errV (E 1)]) ∧ StS w' S q l V (es.set i e.used) ∧ Turn (· = e.g) w w' := by
  have hb0 := below_alc w (.cells (arr8 32 k) 23)
  have hus := Lib.hid (use_some (h.below hb0) (by omega) k hf hi)
  have hptr : e.ptr = .pointer (some ⟨e.g, 0, none⟩) := rfl
  rw [hptr] at hus
  obtain ⟨A, c, hD, hbc, hcm, _⟩ := own_slice (h.byt i e hi)
  have HE := Lib.hid hE
  have HC : Hid (∀ W1, StS W1 S q l V (es.set i e.used) → W1.cell? ⟨e.g, 32, none⟩ = some (.int .i64 e.n) ∧ W1.cell? ⟨e.g, 33, none⟩ = some (.slice A e.bs.length c) ∧ W1.cell? ⟨e.g, 34, none⟩ = some (.bool e.done)) := fun W1 hs => by
    rw [← hD]
    exact hs.cells hi
  clear h hD hf hE
  rw [hd] at HC
  have ho2 : ¬ off < 0 := by omega
  have hb2 : ¬ (e.bs.length : Int) < off := by omega
  have hn2 : e.n - off < (m : Int) := by omega
  go_enter Tryd.func80, Tryd.ntmps80
  go_wp2_with (first | (refine wpList_load_row rfl 23 _ rfl w.heap.size rfl _ _ _ _ (heap_alloc_new _ _) Tryd.underlying23 rfl (by rw [arr8_size]; kernel_rfl) ?_) | (go_at_call 87; refine hus.out.mono ?_; rintro r W1 ⟨rfl, hs1, ht1⟩; have he := (ht1.cell (o := 0) ((HE.out.below hb0).ltG (i := 1) (by decide)) (hgE 1 (by decide))).trans ((HE.out.below hb0).c 1 (by decide)); have he2 : W1.drew.cell? ⟨gE 1, 0, none⟩ = some (errV (E 1)) := he; simp only [gE] at he he2; obtain ⟨c32, c33, c34⟩ := HC.out W1 hs1; have d32 : W1.drew.cell? ⟨e.g, 32, none⟩ = _ := c32; have d33 : W1.drew.cell? ⟨e.g, 33, none⟩ = _ := c33; have d34 : W1.drew.cell? ⟨e.g, 34, none⟩ = _ := c34; have HS := Lib.hid (And.intro hs1 ht1); clear hs1 ht1))
  go_quiet (fail)
  go_wp2_with fail
  go_ret2
  obtain ⟨s1, t1⟩ := HS.out
  have t2 : Turn (· = e.g) w W1 := (Turn.of_below hb0).trans t1 (fun k hk => .inl hk)
  first
  | exact ⟨rfl, s1, t2⟩
  | exact ⟨rfl, s1.keep (fun _ _ => rfl), t2.trans (Turn.of_below (below_drewN (Below.refl _ _) _)) (fun k hk => .inl hk)⟩
end
end Go.Proofs.YtocjmlncpjfnfaaDoor
