import Derived.Test.YtegijahkiopncaaDoorBlb
import Derived.Test.YtegijahkiopncaaDoorHo
/-
  blob: the store in memory; place, use.
-/
namespace Go.Proofs.YtegijahkiopncaaDoor
open Go.RowKit
theorem own_cells {w : World} {base n size : Nat} {t : TypeId} {v : Value} {xs : List Value} (h : w.ownsRow base t size v n xs) {k : Nat} (hk : v.ownBlock = some k) : ∃ cur, w.heap[k]? = some (.cells cur t (0, 0)) := by
  rcases h.2 with ⟨rfl, _⟩ | ⟨g, c, cur, rfl, _, hg, _⟩
  · cases hk
  · obtain rfl := Option.some.inj hk
    exact ⟨cur, hg⟩
theorem own_keep {w w' : World} {base n size : Nat} {t : TypeId} {v : Value} {xs : List Value} (h : w.ownsRow base t size v n xs) (hk : ∀ k, v.ownBlock = some k → w'.heap[k]? = w.heap[k]?) : w'.ownsRow base t size v n xs := by
  refine ⟨h.1, ?_⟩
  rcases h.2 with h2 | ⟨g, c, cur, e1, e2, hg, e3⟩
  · exact .inl h2
  · exact .inr ⟨g, c, cur, e1, e2, (hk g (by rw [e1]; rfl)).trans hg, e3⟩
/-- the store: quota, life, its row, its entries -/
structure StS (W : World) (S : Nat) (q l : Int) (V : Value) (es : List Be) : Prop where
  st : W.heap[S]? = some (.cells (stA q l V) 59 (0, 0))
  own : W.ownsRow 0 60 1 V es.length (es.map Be.ptr)
  ent : ∀ (i : Nat) (e : Be), es[i]? = some e → e.at W
  byt : ∀ (i : Nat) (e : Be), es[i]? = some e → W.ownsRow 0 5 1 e.D e.bs.length (ints .u8 e.bs)
  gne : ∀ (i j : Nat) (e e' : Be), i ≠ j → es[i]? = some e → es[j]? = some e' → e.g ≠ e'.g
  dne : ∀ (i j : Nat) (e e' : Be), i ≠ j → es[i]? = some e → es[j]? = some e' → ∀ k, e.D.ownBlock = some k → e'.D.ownBlock ≠ some k
/-- its blocks -/
def stF (S : Nat) (V : Value) (es : List Be) (k : Nat) : Prop := k = S ∨ V.ownBlock = some k ∨ ∃ (i : Nat) (e : Be), es[i]? = some e ∧ (k = e.g ∨ e.D.ownBlock = some k)
theorem StS.lt {W : World} {S : Nat} {q l : Int} {V : Value} {es : List Be} (h : StS W S q l V es) {k : Nat} (hk : stF S V es k) : k < W.heap.size := by
  rcases hk with rfl | hk | ⟨i, e, he, rfl | hk⟩
  · exact lt_heap h.st
  · exact (h.own.lt k hk).2
  · exact lt_heap (h.ent i e he)
  · exact ((h.byt i e he).lt k hk).2
theorem StS.keep {W W' : World} {S : Nat} {q l : Int} {V : Value} {es : List Be} (h : StS W S q l V es) (hk : ∀ k, stF S V es k → W'.heap[k]? = W.heap[k]?) : StS W' S q l V es :=
  ⟨(hk S (.inl rfl)).trans h.st, own_keep h.own fun k e => hk k (.inr (.inl e)), fun i e he => (hk e.g (.inr (.inr ⟨i, e, he, .inl rfl⟩))).trans (h.ent i e he),
   fun i e he => own_keep (h.byt i e he) fun k hd => hk k (.inr (.inr ⟨i, e, he, .inr hd⟩)), h.gne, h.dne⟩
theorem StS.below {W W' : World} {S : Nat} {q l : Int} {V : Value} {es : List Be} (h : StS W S q l V es) (hb : Below W.heap.size W W') : StS W' S q l V es := h.keep fun k hk => hb.block k (h.lt hk)
theorem StS.turn {W W' : World} {S : Nat} {q l : Int} {V : Value} {es : List Be} {F : Nat → Prop} (h : StS W S q l V es) (ht : Turn F W W') (hF : ∀ k, stF S V es k → ¬ F k) : StS W' S q l V es := h.keep fun k hk => ht.block k (h.lt hk) (hF k hk)
theorem ty_ne {W : World} {a b : Nat} {c d : Array Value} {t u : TypeId} (h : W.heap[a]? = some (.cells c t (0, 0))) (k : W.heap[b]? = some (.cells d u (0, 0))) (hn : t ≠ u) : a ≠ b := by
  rintro rfl
  rw [h] at k
  simp at k
  exact hn k.2
/-- one entry is turned, the others are not -/
theorem StS.ent1 {W W' : World} {S : Nat} {q l : Int} {V : Value} {es : List Be} (h : StS W S q l V es) {i : Nat} {e e' : Be} (he : es[i]? = some e) (hg : e'.g = e.g) (ha : e'.at W') (hd : W'.ownsRow 0 5 1 e'.D e'.bs.length (ints .u8 e'.bs))
    (hD : ∀ k, e'.D.ownBlock = some k → e.D.ownBlock = some k ∨ W.heap.size ≤ k) (hk : ∀ k, k < W.heap.size → k ≠ e.g → e.D.ownBlock ≠ some k → W'.heap[k]? = W.heap[k]?) : StS W' S q l V (es.set i e') := by
  have hi := (List.getElem?_eq_some_iff.1 he).1
  have hgS : S ≠ e.g := ty_ne h.st (h.ent i e he) (by decide)
  have hdS : e.D.ownBlock ≠ some S := fun x => by
    obtain ⟨cur, hc⟩ := own_cells (h.byt i e he) x
    exact ty_ne h.st hc (by decide) rfl
  have hmap : (es.set i e').map Be.ptr = es.map Be.ptr := by
    rw [List.map_set]
    have : e'.ptr = (es.map Be.ptr)[i]'(by simpa using hi) := by
      have h2 := (List.getElem?_eq_some_iff.1 he).2
      simp only [List.getElem_map, h2]
      unfold Be.ptr
      rw [hg]
    rw [this, List.set_getElem_self]
  have hoth : ∀ (j : Nat) (x : Be), j ≠ i → es[j]? = some x → (W'.heap[x.g]? = W.heap[x.g]?) ∧ ∀ k, x.D.ownBlock = some k → W'.heap[k]? = W.heap[k]? := by
    intro j x hj hx
    have hxl := lt_heap (h.ent j x hx)
    refine ⟨hk _ hxl (h.gne j i x e hj hx he) (fun y => ?_), fun k hxk => hk k ((h.byt j x hx).lt k hxk).2 (fun y => ?_) (fun y => h.dne i j e x (fun z => hj z.symm) he hx k y hxk)⟩
    · obtain ⟨cur, hc⟩ := own_cells (h.byt i e he) y
      exact ty_ne (h.ent j x hx) hc (by decide) rfl
    · obtain ⟨cur, hc⟩ := own_cells (h.byt j x hx) hxk
      exact ty_ne hc (h.ent i e he) (by decide) y
  have get : ∀ (j : Nat) (x : Be), (es.set i e')[j]? = some x → (j = i ∧ x = e') ∨ (j ≠ i ∧ es[j]? = some x) := by
    intro j x hx
    rw [List.getElem?_set] at hx
    by_cases hj : i = j
    · subst hj
      rw [if_pos rfl, if_pos hi] at hx
      exact .inl ⟨rfl, (Option.some.inj hx).symm⟩
    · rw [if_neg hj] at hx
      exact .inr ⟨fun y => hj y.symm, hx⟩
  refine ⟨(hk S (lt_heap h.st) hgS hdS).trans h.st, ?_, fun j x hx => ?_, fun j x hx => ?_, fun j m x y hjm hx hy => ?_, fun j m x y hjm hx hy k hxk => ?_⟩
  · rw [List.length_set, hmap]
    refine own_keep h.own fun k hv => hk k (h.own.lt k hv).2 (fun y => ?_) (fun y => ?_)
    · obtain ⟨cur, hc⟩ := own_cells h.own hv
      exact ty_ne hc (h.ent i e he) (by decide) y
    · obtain ⟨cur, hc⟩ := own_cells h.own hv
      obtain ⟨cur2, hc2⟩ := own_cells (h.byt i e he) y
      exact ty_ne hc hc2 (by decide) rfl
  · rcases get j x hx with ⟨_, rfl⟩ | ⟨hj, hx⟩
    · exact ha
    · exact (hoth j x hj hx).1.trans (h.ent j x hx)
  · rcases get j x hx with ⟨_, rfl⟩ | ⟨hj, hx⟩
    · exact hd
    · exact own_keep (h.byt j x hx) (hoth j x hj hx).2
  · rcases get j x hx with ⟨rfl, rfl⟩ | ⟨hj, hx2⟩ <;> rcases get m y hy with ⟨hm, hy'⟩ | ⟨hm, hy2⟩
    · exact absurd hm.symm hjm
    · rw [hg]; exact h.gne j m e y hjm he hy2
    · subst hm; rw [hy', hg]; exact h.gne j m x e hjm hx2 he
    · exact h.gne j m x y hjm hx2 hy2
  · rcases get j x hx with ⟨rfl, rfl⟩ | ⟨hj, hx2⟩ <;> rcases get m y hy with ⟨hm, hy'⟩ | ⟨hm, hy2⟩
    · exact absurd hm.symm hjm
    · rcases hD k hxk with h1 | h1
      · exact h.dne j m e y hjm he hy2 k h1
      · intro h2
        have := ((h.byt m y hy2).lt k h2).2
        omega
    · subst hm
      subst hy'
      intro h2
      rcases hD k h2 with h1 | h1
      · exact h.dne j m x e hjm hx2 he k hxk h1
      · have := ((h.byt j x hx2).lt k hxk).2
        omega
    · exact h.dne j m x y hjm hx2 hy2 k hxk
theorem load_st2 (S : Nat) (W : World) (q l : Int) (V : Value) (h : W.heap[S]? = some (.cells (stA q l V) 59 (0, 0))) : W.cell? ⟨S, 2, none⟩ = some V := cell_heap h rfl
theorem row_cell {W : World} {es : List Be} {g c : Nat} (h : W.ownsRow 0 60 1 (.slice (some ⟨g, 0, none⟩) es.length c) es.length (es.map Be.ptr)) {i : Nat} {e : Be} (he : es[i]? = some e) : W.cell? ⟨g, i, none⟩ = some e.ptr := by
  have := h.cells (g := g) rfl i e.ptr (by rw [List.getElem?_map, he]; rfl)
  rw [Addr.add_lit] at this
  simpa using this
set_option maxRecDepth 100000 in
set_option maxHeartbeats 800000 in
theorem place_b {w : World} {S : Nat} {q l : Int} {V : Value} {es : List Be} (h : StS w S q l V es) (hn : es.length ≤ 1000) (k : Nat → BitVec 8) :
    Calls Tryd.prog 35 #[.pointer (some ⟨S, 0, none⟩), .agg (arr8 32 k)] w fun r w' => r = .returned (.int .i64 (bix es k)) ∧ Below w.heap.size w w' := by
  obtain ⟨W2, hW2⟩ : ∃ W2, W2 = w.alloc (Obj.cells (arr8 32 k) 26) := ⟨_, rfl⟩
  have hb2 : Below w.heap.size w W2 := by rw [hW2]; exact below_alc w _
  have hs := h.below hb2
  have hbox : W2.heap[w.heap.size]? = some (.cells (arr8 32 k) 26 (0, 0)) := by rw [hW2]; exact heap1_0 _ _
  have hcon : Calls Tryd.prog 43 #[V, .func (.func 44) #[] #[.pointer (some ⟨w.heap.size, 0, none⟩)]] W2 fun r w' => r = .returned (.int .i64 (bix es k)) ∧ Below w.heap.size w w' := by
    rcases hs.own.2 with ⟨rfl, h0⟩ | ⟨g, c, cur, rfl, _, hg, _⟩
    · obtain rfl : es = [] := List.eq_nil_of_length_eq_zero h0
      exact (index_bn _ _).mono fun e w' ⟨he, hw⟩ => ⟨he, by rw [hw]; exact hb2⟩
    · exact (index_b es k g c w.heap.size W2 hn (Array.getElem?_eq_some_iff.1 hg).1 (fun j e he => ⟨row_cell hs.own he, hs.ent j e he⟩) hbox).mono fun e w' ⟨he, hb⟩ => ⟨he, hb2.trans (hb.mono hb2.size)⟩
  have hcl2 : (w.alloc (Obj.cells (arr8 32 k) 26)).cell? ⟨S, 2, none⟩ = some V := by rw [← hW2]; exact load_st2 S W2 q l V hs.st
  rw [hW2] at hcon
  obtain ⟨A, nn, c, hV⟩ : ∃ A nn c, V = .slice A nn c := by
    obtain ⟨A, c, e, _⟩ := own_slice h.own
    exact ⟨A, _, c, e⟩
  subst hV
  generalize bix es k = r at hcon ⊢
  have HC := Lib.hid hcon
  clear hs hbox hb2 hW2 h hcon
  go_enter Tryd.func35, Tryd.ntmps35
  go_wp2_with (go_at_call 43; refine HC.out.mono ?_; rintro e w' ⟨rfl, hb'⟩)
  go_ret
  exact ⟨rfl, hb'⟩
theorem bix_none {es : List Be} {k : Nat → BitVec 8} (h : es.findIdx? (Be.is k) = none) : bix es k = -1 := by unfold bix; rw [h]
theorem bix_some {es : List Be} {k : Nat → BitVec 8} {i : Nat} (h : es.findIdx? (Be.is k) = some i) : bix es k = (i : Int) := by unfold bix; rw [h]
theorem use_none {w : World} {S : Nat} {q l : Int} {V : Value} {es : List Be} (h : StS w S q l V es) (hn : es.length ≤ 1000) (k : Nat → BitVec 8) (hf : es.findIdx? (Be.is k) = none) :
    Calls Tryd.prog 28 #[.pointer (some ⟨S, 0, none⟩), .agg (arr8 32 k)] w fun r w' => r = .returned (.pointer none) ∧ Below w.heap.size w w' := by
  have hb0 := below_alc w (.cells (arr8 32 k) 26)
  have hpl := Lib.hid (place_b (h.below hb0) hn k)
  rw [bix_none hf] at hpl
  clear h
  go_enter Tryd.func28, Tryd.ntmps28
  go_wp2_with (first | (refine wpList_load_row rfl 26 _ rfl w.heap.size rfl _ _ _ _ (heap_alloc_new _ _) Tryd.underlying26 rfl (by rw [arr8_size]; kernel_rfl) ?_) | (go_at_call 35; refine hpl.out.mono ?_; rintro e w' ⟨rfl, hb'⟩))
  go_ret
  exact ⟨rfl, hb0.trans (hb'.mono hb0.size)⟩
/-- an entry that was used -/
def Be.used (e : Be) : Be := ⟨e.g, e.f, e.n, e.D, e.bs, e.done, 0⟩
set_option maxRecDepth 100000 in
set_option maxHeartbeats 800000 in
theorem use_some {w : World} {S : Nat} {q l : Int} {V : Value} {es : List Be} (h : StS w S q l V es) (hn : es.length ≤ 1000) (k : Nat → BitVec 8) {i : Nat} {e : Be} (hf : es.findIdx? (Be.is k) = some i) (he : es[i]? = some e) :
    Calls Tryd.prog 28 #[.pointer (some ⟨S, 0, none⟩), .agg (arr8 32 k)] w fun r w' => r = .returned e.ptr ∧ StS w' S q l V (es.set i e.used) ∧ Turn (· = e.g) w w' := by
  have hb0 := below_alc w (.cells (arr8 32 k) 26)
  have hpl := Lib.hid (place_b (h.below hb0) hn k)
  rw [bix_some hf] at hpl
  have hlt := (List.getElem?_eq_some_iff.1 he).1
  obtain ⟨g, c, rfl⟩ : ∃ g c, V = .slice (some ⟨g, 0, none⟩) es.length c := by
    rcases h.own.2 with ⟨_, h0⟩ | ⟨g, c, _, h1, _⟩
    · omega
    · exact ⟨g, c, h1⟩
  have H := Lib.hid h
  have hfac : ∀ w1 : World, Below (w.alloc (.cells (arr8 32 k) 26)).heap.size (w.alloc (.cells (arr8 32 k) 26)) w1 → w1.cell? ⟨S, 2, none⟩ = some (.slice (some ⟨g, 0, none⟩) es.length c) ∧ w1.cell? ⟨g, i, none⟩ = some (.pointer (some ⟨e.g, 0, none⟩)) ∧ w1.heap[e.g]? = some (.cells (enA e.f e.n e.D e.done e.idle) 63 (0, 0)) ∧ Hid (StS w1 S q l (.slice (some ⟨g, 0, none⟩) es.length c) es ∧ Below w.heap.size w w1) := by
    intro w1 hb1
    have hb2 := hb0.trans (hb1.mono hb0.size)
    have h1 := H.out.below hb2
    exact ⟨load_st2 S w1 q l _ h1.st, row_cell h1.own he, h1.ent i e he, h1, hb2⟩
  have HF := Lib.hid hfac
  have hne : S ≠ e.g := ty_ne h.st (h.ent i e he) (by decide)
  have hge : g ≠ e.g := by
    obtain ⟨cur, hc⟩ := own_cells h.own (k := g) rfl
    exact ty_ne hc (h.ent i e he) (by decide)
  have hi0 : ¬ (i : Int) < 0 := by omega
  have hil : (i : Int) < (es.length : Int) := by omega
  have HE := Lib.hid he
  clear h hfac he hf
  obtain ⟨eg, heg⟩ : ∃ x, x = e.g := ⟨_, rfl⟩
  have HG := Lib.hid heg
  have hptr : e.ptr = .pointer (some ⟨eg, 0, none⟩) := by rw [heg]; rfl
  rw [hptr, ← heg]
  rw [← heg] at hne hge HF
  obtain ⟨len, hlen⟩ : ∃ x, x = es.length := ⟨_, rfl⟩
  rw [← hlen] at hil HF
  have HL := Lib.hid hlen
  clear heg hptr hlen hlt hn
  go_enter Tryd.func28, Tryd.ntmps28
  go_upto_region 4 with (first | (refine wpList_load_row rfl 26 _ rfl w.heap.size rfl _ _ _ _ (heap_alloc_new _ _) Tryd.underlying26 rfl (by rw [arr8_size]; kernel_rfl) ?_) | (go_at_call 35; refine hpl.out.mono ?_; rintro r w1 ⟨rfl, hb'⟩))
  obtain ⟨hc1, hc2, hen, hX⟩ := HF.out w1 hb'
  have hfz := thaw_heap hen 35
  have hc3 : w1.cell? ⟨eg, 35, none⟩ = some (.int .i64 e.idle) := cell_heap hen (en_c35 _ _ _ _ _)
  have hd1 : (w1.setCell ⟨eg, 35, none⟩ (.int .i64 0)).cell? ⟨S, 2, none⟩ = some (.slice (some ⟨g, 0, none⟩) len c) := (w1.cell?_setCell_other ⟨eg, 35, none⟩ ⟨S, 2, none⟩ _ (fun y => hne (congrArg Addr.block y).symm)).trans hc1
  have hd2 : (w1.setCell ⟨eg, 35, none⟩ (.int .i64 0)).cell? ⟨g, i, none⟩ = some (.pointer (some ⟨eg, 0, none⟩)) := (w1.cell?_setCell_other ⟨eg, 35, none⟩ ⟨g, i, none⟩ _ (fun y => hge (congrArg Addr.block y).symm)).trans hc2
  have HN := Lib.hid hen
  clear hen
  go_wp2_with fail
  go_ret
  obtain ⟨hs1, hb1⟩ := hX.out
  have hen := HN.out
  have ht : Turn (· = eg) w1 (w1.setCell ⟨eg, 35, none⟩ (.int .i64 0)) := set_turnH w1 eg 35 _
  rw [← HL.out]
  refine ⟨rfl, hs1.ent1 HE.out (e' := e.used) rfl ?_ ?_ (fun k hk => .inl hk) (fun k hk h1 _ => ht.block k hk (by rw [HG.out]; exact h1)), (Turn.of_below hb1).trans ht (fun k hk => .inl hk)⟩
  · show (w1.setCell ⟨eg, 35, none⟩ (.int .i64 0)).heap[e.g]? = some (.cells (enA e.f e.n e.D e.done 0) 63 (0, 0))
    rw [← HG.out, ← en_set35 e.f e.n e.D e.done e.idle 0]
    exact heap_setCell_same w1 eg 35 _ _ _ hen
  · refine own_keep (hs1.byt i e HE.out) fun k hk => ht.block k ((hs1.byt i e HE.out).lt k hk).2 (fun hx => ?_)
    obtain ⟨cur, hc⟩ := own_cells (hs1.byt i e HE.out) hk
    exact ty_ne hc hen (by decide) hx
end Go.Proofs.YtegijahkiopncaaDoor
