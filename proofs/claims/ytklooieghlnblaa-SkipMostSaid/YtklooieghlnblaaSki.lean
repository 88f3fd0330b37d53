import Derived.Test.YtklooieghlnblaaSkh
/-
  skip: Put.
-/
namespace Go.Proofs.Ytklooieghlnblaa
open Go.RowKit

def putL (es : List Ent) (e : Ent) : List Ent := (if (es.eraseP (Ent.is e.d e.n)).length = 40 then (es.eraseP (Ent.is e.d e.n)).eraseIdx 0 else es.eraseP (Ent.is e.d e.n)) ++ [e]
theorem below_alc (w : World) (x : Obj) : Below w.heap.size w (w.alloc x) := (Below.refl _ _).alloc (Nat.le_refl _) _
theorem stP_alc {b1 b2 B o : Nat} {d k : List UInt8} {v : Value} {w : World} (h : StP b1 b2 B o d k v w) (x : Obj) (h1 : b1 < w.heap.size) (h2 : b2 < w.heap.size) (h3 : B < w.heap.size) : StP b1 b2 B o d k v (w.alloc x) :=
  ⟨rangeAt_below h.1 (below_alc _ _) h1, rangeAt_below h.2.1 (below_alc _ _) h2, ((below_alc _ _).cell (p := ⟨B, o, none⟩) h3).trans h.2.2⟩
theorem stP_grown {b1 b2 B o : Nat} {d k : List UInt8} {v : Value} {w w' : World} {row : Option Nat} (h : StP b1 b2 B o d k v w) (hg : w.grownBy w' row) (h1 : b1 < w.heap.size) (h2 : b2 < w.heap.size) (h3 : B < w.heap.size) (r1 : some b1 ≠ row) (r2 : some b2 ≠ row) (r3 : some B ≠ row) : StP b1 b2 B o d k v w' :=
  ⟨fun j u hu => (World.cell?_of_block (hg.block b1 h1 r1)).trans (h.1 j u hu), fun j u hu => (World.cell?_of_block (hg.block b2 h2 r2)).trans (h.2.1 j u hu), (World.cell?_of_block (hg.block B h3 r3)).trans h.2.2⟩
theorem alc_new (W : World) (d k : List UInt8) (m : Int) (hd : d.length = 32) (hk : k.length = 32) : ∀ j u, (cells [⟨d, k, m, hd, hk⟩])[j]? = some u → (W.drew.alloc (.cells (ceT d k m).toArray 46)).cell? ((⟨W.heap.size, 0, none⟩ : Addr).add j) = some u := by
  intro j u hu
  rw [Addr.add_lit]
  refine range_new (heap1_0 W.drew _) j u ?_
  simpa [cells, Ent.ce] using hu
theorem grown_trans {a b c : World} {row : Option Nat} (h : a.grownBy b row) (k : b.grownBy c row) : a.grownBy c row :=
  ⟨k.os.trans h.os, k.tape.trans h.tape, k.output.trans h.output, Nat.le_trans h.size k.size, fun q hq hr => (k.block q (Nat.lt_of_lt_of_le hq h.size) hr).trans (h.block q hq hr)⟩
theorem grown_new (W : World) (x : Obj) (row : Option Nat) : W.grownBy (W.drew.alloc x) row := ⟨rfl, rfl, rfl, by simp, fun k hk _ => Below.heap_alloc W.drew x k (by exact hk)⟩
theorem put_frz {W w3 : World} {base B o : Nat} {v : Value} {l : List Ent} {x : Obj} (h : SkAt W base B o v l) (hg : (W.drew.alloc x).grownBy w3 v.ownBlock) : w3.frozen? ⟨B, o, none⟩ = false :=
  (World.frozen?_of_block ((grown_trans (grown_new W x _) hg).block B h.lt (fun e => h.ne e.symm))).trans h.frz
def PutPost (w : World) (base B o : Nat) (v : Value) (l : List Ent) (e : Ending) (w' : World) : Prop :=
  e = .returned (.tuple #[]) ∧ ∃ v', SkAt w' base B o v' l ∧ Mod B o v.ownBlock w w' ∧ (∀ q, v'.ownBlock = some q → v.ownBlock = some q ∨ w.heap.size ≤ q)
theorem put_end (E : Ent) {PL : List Ent} {w W w3 : World} {base B o : Nat} {v v2 v3 : Value} {es l2 : List Ent} (h : SkAt w base B o v es) (hl : l2 ++ [E] = PL) (h2 : SkAt W base B o v2 l2) (hM : Mod B o v.ownBlock w W) (hrow : v2.ownBlock = v.ownBlock)
    (hg : W.grownBy w3 v2.ownBlock) (hown : w3.ownsRow base 46 65 v3 (l2 ++ [E]).length (cells (l2 ++ [E]))) (hk : ∀ q, v3.ownBlock = some q → v2.ownBlock = some q ∨ w.heap.size ≤ q) :
    PutPost w base B o v PL (.returned (.tuple #[])) (w3.setCell ⟨B, o, none⟩ v3) := by
  rw [← hl]
  have hne : v3.ownBlock ≠ some B := fun e => by
    rcases hk B e with h' | h'
    · exact h2.ne h'
    · have := h.lt
      omega
  obtain ⟨s1, s2⟩ := h2.stored hg hown hne
  exact ⟨rfl, v3, s1, hM.trans s2 (.inl hrow), fun q hq => by rw [← hrow]; exact hk q hq⟩
theorem ent_ne {w : World} {base B o : Nat} {v : Value} {es : List Ent} (h : SkAt w base B o v es) (b : Nat) (hb : w.heap.size ≤ b) : b ≠ B ∧ some b ≠ v.ownBlock := by
  refine ⟨?_, fun e => ?_⟩
  · have := h.lt
    omega
  · have := (h.own.lt b e.symm).2
    omega
theorem own_shape0 {w : World} {base n : Nat} {v : Value} {xs : List Value} (h : w.ownsRow base 46 65 v n xs) : ∃ A n c, v = .slice A n c := by
  obtain ⟨A, c, e⟩ := own_shape h
  exact ⟨A, n, c, e⟩
theorem put_facts {w W : World} {base B o : Nat} {v v2 : Value} {es l2 : List Ent} (d k : List UInt8) (h : SkAt w base B o v es) (hM0 : Mod B o v.ownBlock ((w.alloc (Obj.cells (d.map cellB).toArray 31)).alloc (Obj.cells (k.map cellB).toArray 31)) W) (hs2 : SkAt W base B o v2 l2) (hrow : v2.ownBlock = v.ownBlock) (hbase : base ≤ w.heap.size) :
    w.heap.size < W.heap.size ∧ w.heap.size + 1 < W.heap.size ∧ some w.heap.size ≠ v2.ownBlock ∧ some (w.heap.size + 1) ≠ v2.ownBlock ∧ base ≤ W.heap.size ∧ Mod B o v.ownBlock w W ∧ StP w.heap.size (w.heap.size + 1) B o d k v2 W.drew := by
  have hsz := hM0.size
  simp only [World.alloc, Array.size_push] at hsz
  obtain ⟨e1, e2⟩ := ent_ne h w.heap.size (Nat.le_refl _)
  obtain ⟨f1, f2⟩ := ent_ne h (w.heap.size + 1) (by omega)
  have hb0 : Below w.heap.size w ((w.alloc (Obj.cells (d.map cellB).toArray 31)).alloc (Obj.cells (k.map cellB).toArray 31)) := ((Below.refl _ _).alloc (Nat.le_refl _) _).alloc (by simp) _
  refine ⟨by omega, by omega, by rw [hrow]; exact e2, by rw [hrow]; exact f2, by omega, (Mod.of_below _ h.lt hb0).trans hM0 (.inl rfl), ?_⟩
  exact ⟨hM0.range (range_new (heap2_0 _ _ _)) (by simp; omega) e1 e2, hM0.range (range_new (heap2_1 _ _ _)) (by simp) f1 f2, hs2.cell⟩
set_option maxRecDepth 100000 in
set_option maxHeartbeats 1600000 in
theorem put_any (es : List Ent) (d k : List UInt8) (m : Int) (hd : d.length = 32) (hk : k.length = 32) (hn : es.length ≤ 1000) (base B o : Nat) (v : Value) (w : World) (hbase : base ≤ w.heap.size) (h : SkAt w base B o v es) :
    Calls Try.prog 13 #[.pointer (some ⟨B, o, none⟩), .agg (d.map cellB).toArray, .int .u32 m, .agg (k.map cellB).toArray] w (PutPost w base B o v (putL es ⟨d, k, m, hd, hk⟩)) := by
  have hb0 : Below w.heap.size w ((w.alloc (Obj.cells (d.map cellB).toArray 31)).alloc (Obj.cells (k.map cellB).toArray 31)) := ((Below.refl _ _).alloc (Nat.le_refl _) _).alloc (by simp) _
  have h0 := h.below hb0
  have hr0 := heap2_0 w (Obj.cells (d.map cellB).toArray 31) (Obj.cells (k.map cellB).toArray 31)
  have hr1 := heap2_1 w (Obj.cells (d.map cellB).toArray 31) (Obj.cells (k.map cellB).toArray 31)
  have htk := take_any es d m hd hn base B o v _ h0
  have hsz := key_size d hd
  have hl : (es.eraseP (Ent.is d m)).length ≤ 1000 := Nat.le_trans (List.length_eraseP_le) hn
  have HL : Hid ((if (es.eraseP (Ent.is d m)).length = 40 then (es.eraseP (Ent.is d m)).eraseIdx 0 else es.eraseP (Ent.is d m)) ++ [⟨d, k, m, hd, hk⟩] = putL es ⟨d, k, m, hd, hk⟩) := (rfl : _ = putL es ⟨d, k, m, hd, hk⟩)
  unfold TakePost at htk
  generalize putL es ⟨d, k, m, hd, hk⟩ = PL at HL ⊢
  generalize es.eraseP (Ent.is d m) = l at htk hl HL
  have H := Lib.hid h
  have hdz := Lib.hid hd
  have hkz := Lib.hid hk
  clear h h0
  by_cases h40 : l.length = 40
  · have q40 : ((l.length : Int) == 40) = true := by simp; omega
    rw [if_pos h40] at HL
    have hpos : 0 < l.length := by omega
    have hl0 := Lib.hid hl
    clear h40 hl
    go_enter Try.func13, Try.ntmps13
    go_upto_region 4 with (first | (refine wpList_load_row rfl 31 _ rfl w.heap.size rfl _ _ _ _ hr0 Try.underlying31 rfl (by rw [hsz]; exact info_key) ?_) | (go_at_call 9; refine htk.mono ?_; rintro e w1 ⟨rfl, v1, hs, hm, ho⟩; obtain ⟨A, c, hv⟩ := own_shape hs.own; subst hv; have hc1 := hs.cell; have hs1 := Lib.hid hs; have hm1 := Lib.hid hm; have ho1 := Lib.hid ho; clear hs hm ho) | (go_at_call 19; refine (remove_any l 0 hpos hl0.out base B o _ w1 hs1.out).mono ?_; rintro e w2 ⟨rfl, hx2⟩; have HX2 := Lib.hid hx2; clear hx2))
    obtain ⟨v2, hs2, hm2, ho2⟩ := HX2.out
    have hrow := ho2.trans ho1.out
    obtain ⟨hb1, hb2, h1r, h2r, hbW, hM, hS⟩ := put_facts d k H.out (hm1.out.trans hm2 (.inl ho1.out)) hs2 hrow hbase
    have hd := hdz.out
    have hk := hkz.out
    have hl2 : (l.eraseIdx 0).length ≤ 1000 := by rw [List.length_eraseIdx_of_lt hpos]; have := hl0.out; omega
    clear hs1 hm1 ho1 HX2 hm2 ho2 htk hr0 hr1 hb0 hc1
    refine wp_region_held_cut (S := StP w.heap.size (w.heap.size + 1) B o d k v2) 11 (by kernel_rfl) (by kernel_rfl) (hS) (fun hHeld => ?_)
    refine held_move 0 (Go.Operand.tmp 0) (some 20) (.pointer (some ⟨B, o, none⟩)) (by kernel_rfl) (by kernel_rfl) (by kernel_rfl) (by kernel_rfl) (by kernel_rfl) (fun _ _ _ _ _ h => h) hHeld ?_
    refine held_move 1 (Go.Operand.tmp 0) (some 21) (.pointer (some ⟨B, o, none⟩)) (by kernel_rfl) (by kernel_rfl) (by kernel_rfl) (by kernel_rfl) (by kernel_rfl) (fun _ _ _ _ _ h => h) hHeld ?_
    refine held_nil 2 (Go.Operand.tmp 21) (some 22) ⟨B, o, none⟩ (by kernel_rfl) (by kernel_rfl) (by kernel_rfl) (by kernel_rfl) (by kernel_rfl) (fun _ _ _ _ _ h => h) hHeld ?_
    refine held_field 3 26 (Go.Operand.tmp 22) 0 (some 23) (.pointer (some ⟨B, o, none⟩)) (.pointer (some ⟨B, o, none⟩)) (by kernel_rfl) (by kernel_rfl) (field_S B o) (by kernel_rfl) (by kernel_rfl) (by kernel_rfl) (fun _ _ _ _ _ h => h) hHeld ?_
    refine held_cell 4 24 (Go.Operand.tmp 23) (some 24) (.pointer (some ⟨B, o, none⟩)) (v2) (by kernel_rfl) (by kernel_rfl) (fun w h => load_sl B o v2 w h.2.2) (by kernel_rfl) (by kernel_rfl) (by kernel_rfl) (fun _ _ _ _ _ h => h) hHeld ?_
    refine held_load 5 31 (Go.Operand.tmp 5) (some 25) (w.heap.size) (0) (d.map cellB) _ (by kernel_rfl) (by kernel_rfl) (fun w h => h.1) Try.underlying31 rfl (by rw [List.length_map, hd]; exact info_key) (by kernel_rfl) (by kernel_rfl) (by kernel_rfl) (fun _ _ _ _ _ h => h) hHeld ?_
    refine held_load 6 31 (Go.Operand.tmp 7) (some 26) (w.heap.size + 1) (0) (k.map cellB) _ (by kernel_rfl) (by kernel_rfl) (fun w h => h.2.1) Try.underlying31 rfl (by rw [List.length_map, hk]; exact info_key) (by kernel_rfl) (by kernel_rfl) (by kernel_rfl) (fun _ _ _ _ _ h => h) hHeld ?_
    refine held_move 7 (Go.Operand.tmp 2) (some 27) (.int .u32 m) (by kernel_rfl) (by kernel_rfl) (by kernel_rfl) (by kernel_rfl) (by kernel_rfl) (fun _ _ _ _ _ h => h) hHeld ?_
    refine held_build 8 46 #[(0, Go.Operand.tmp 25), (1, Go.Operand.tmp 26), (2, Go.Operand.tmp 27)] (some 28) #[(0, .agg (d.map cellB).toArray), (1, .agg (k.map cellB).toArray), (2, .int .u32 m)] (.agg (ceT d k m).toArray) (by kernel_rfl) (by kernel_rfl) (build_E d k m hd hk) (by kernel_rfl) (by kernel_rfl) (by kernel_rfl) (fun _ _ _ _ _ h => h) hHeld ?_
    refine held_run 9 (Go.Op.buildSlice 24 1 #[(0, Go.Operand.tmp 28)]) 24 (some 29) (.slice (some ⟨w2.heap.size, 0, none⟩) 1 1) ((w2.drew.alloc (.cells (ceT d k m).toArray 46))) (by kernel_rfl) (by kernel_rfl) (by kernel_rfl) (fun o ho ht => exec_bsl (vs := #[(0, .agg (ceT d k m).toArray)]) ho (by kernel_rfl) (bsl_E d k m hd hk _)) (stP_alc hHeld _ hb1 hb2 hs2.lt) ?_
    intro hHeld
    have hp9 := alc_new w2 d k m hd hk
    obtain ⟨v3, w3, hr3, ho3, hg3, hk3⟩ := run_app_own 24 (w2.drew.alloc (.cells (ceT d k m).toArray 46)) base v2 (l.eraseIdx 0) [⟨d, k, m, hd, hk⟩] (hs2.own.alloc (w := w2.drew) _) ⟨w2.heap.size, 0, none⟩ 1 hp9 (by show (l.eraseIdx 0).length + 1 ≤ 2000; omega) (by simp; omega)
    refine held_run 10 (Go.Op.call { callee := Go.Callee.builtin Go.Builtin.append, args := #[Go.Operand.tmp 24, Go.Operand.tmp 29], argTypes := #[24, 24] }) 24 (some 30) (v3) (w3) (by kernel_rfl) (by kernel_rfl) (by kernel_rfl) (fun o ho ht => exec_append ho ht (vs := v2) (vx := .slice (some ⟨w2.heap.size, 0, none⟩) 1 1) (by kernel_rfl) (hr3)) (stP_grown hHeld hg3 (by simp; omega) (by simp; omega) (by have := hs2.lt; simp; omega) h1r h2r (fun e => hs2.ne e.symm)) ?_
    intro hHeld
    refine wpAnyH_done (by kernel_rfl) ?_ _
    show wpList _ _ _ _ _ _
    simp only [Act.put, List.setIfInBounds_toArray, List.set_cons_zero, List.set_cons_succ, List.drop_succ_cons, List.drop_zero]
    obtain ⟨A3, n3, c3, rfl⟩ := own_shape0 ho3
    have hcB := hHeld.2.2
    have hfB := put_frz hs2 hg3
    have H3 := Lib.hid ho3
    have G3 := Lib.hid hg3
    have K3 := Lib.hid hk3
    clear hHeld hr3 ho3 hg3 hk3 hp9
    go_wp2_with fail
    go_end0
    exact put_end ⟨d, k, m, hd, hk⟩ H.out HL.out hs2 hM hrow (grown_trans (grown_new w2 _ _) G3.out) H3.out (fun q hq => (K3.out q hq).imp id (fun h => by have : w2.heap.size ≤ q := by { have h' := h; simp at h'; omega }; have := hM.size; omega))
  · have q40 : ((l.length : Int) == 40) = false := by simp; omega
    rw [if_neg h40] at HL
    have hl0 := Lib.hid hl
    clear h40 hl
    go_enter Try.func13, Try.ntmps13
    go_upto_region 4 with (first | (refine wpList_load_row rfl 31 _ rfl w.heap.size rfl _ _ _ _ hr0 Try.underlying31 rfl (by rw [hsz]; exact info_key) ?_) | (go_at_call 9; refine htk.mono ?_; rintro e w1 ⟨rfl, v1, hs, hm, ho⟩; obtain ⟨A, c, hv⟩ := own_shape hs.own; subst hv; have hc1 := hs.cell; have hs1 := Lib.hid hs; have hm1 := Lib.hid hm; have ho1 := Lib.hid ho; clear hs hm ho))
    have hs2 := hs1.out
    have hrow := ho1.out
    obtain ⟨hb1, hb2, h1r, h2r, hbW, hM, hS⟩ := put_facts d k H.out hm1.out hs2 hrow hbase
    have hd := hdz.out
    have hk := hkz.out
    have hl2 := hl0.out
    obtain ⟨v2, hv2⟩ : ∃ v2, v2 = Value.slice A l.length c := ⟨_, rfl⟩
    rw [← hv2] at hs2 hrow hS h1r h2r
    clear hv2 hs1 hm1 ho1 htk hr0 hr1 hb0 hc1
    refine wp_region_held_cut (S := StP w.heap.size (w.heap.size + 1) B o d k v2) 11 (by kernel_rfl) (by kernel_rfl) (hS) (fun hHeld => ?_)
    refine held_move 0 (Go.Operand.tmp 0) (some 20) (.pointer (some ⟨B, o, none⟩)) (by kernel_rfl) (by kernel_rfl) (by kernel_rfl) (by kernel_rfl) (by kernel_rfl) (fun _ _ _ _ _ h => h) hHeld ?_
    refine held_move 1 (Go.Operand.tmp 0) (some 21) (.pointer (some ⟨B, o, none⟩)) (by kernel_rfl) (by kernel_rfl) (by kernel_rfl) (by kernel_rfl) (by kernel_rfl) (fun _ _ _ _ _ h => h) hHeld ?_
    refine held_nil 2 (Go.Operand.tmp 21) (some 22) ⟨B, o, none⟩ (by kernel_rfl) (by kernel_rfl) (by kernel_rfl) (by kernel_rfl) (by kernel_rfl) (fun _ _ _ _ _ h => h) hHeld ?_
    refine held_field 3 26 (Go.Operand.tmp 22) 0 (some 23) (.pointer (some ⟨B, o, none⟩)) (.pointer (some ⟨B, o, none⟩)) (by kernel_rfl) (by kernel_rfl) (field_S B o) (by kernel_rfl) (by kernel_rfl) (by kernel_rfl) (fun _ _ _ _ _ h => h) hHeld ?_
    refine held_cell 4 24 (Go.Operand.tmp 23) (some 24) (.pointer (some ⟨B, o, none⟩)) (v2) (by kernel_rfl) (by kernel_rfl) (fun w h => load_sl B o v2 w h.2.2) (by kernel_rfl) (by kernel_rfl) (by kernel_rfl) (fun _ _ _ _ _ h => h) hHeld ?_
    refine held_load 5 31 (Go.Operand.tmp 5) (some 25) (w.heap.size) (0) (d.map cellB) _ (by kernel_rfl) (by kernel_rfl) (fun w h => h.1) Try.underlying31 rfl (by rw [List.length_map, hd]; exact info_key) (by kernel_rfl) (by kernel_rfl) (by kernel_rfl) (fun _ _ _ _ _ h => h) hHeld ?_
    refine held_load 6 31 (Go.Operand.tmp 7) (some 26) (w.heap.size + 1) (0) (k.map cellB) _ (by kernel_rfl) (by kernel_rfl) (fun w h => h.2.1) Try.underlying31 rfl (by rw [List.length_map, hk]; exact info_key) (by kernel_rfl) (by kernel_rfl) (by kernel_rfl) (fun _ _ _ _ _ h => h) hHeld ?_
    refine held_move 7 (Go.Operand.tmp 2) (some 27) (.int .u32 m) (by kernel_rfl) (by kernel_rfl) (by kernel_rfl) (by kernel_rfl) (by kernel_rfl) (fun _ _ _ _ _ h => h) hHeld ?_
    refine held_build 8 46 #[(0, Go.Operand.tmp 25), (1, Go.Operand.tmp 26), (2, Go.Operand.tmp 27)] (some 28) #[(0, .agg (d.map cellB).toArray), (1, .agg (k.map cellB).toArray), (2, .int .u32 m)] (.agg (ceT d k m).toArray) (by kernel_rfl) (by kernel_rfl) (build_E d k m hd hk) (by kernel_rfl) (by kernel_rfl) (by kernel_rfl) (fun _ _ _ _ _ h => h) hHeld ?_
    refine held_run 9 (Go.Op.buildSlice 24 1 #[(0, Go.Operand.tmp 28)]) 24 (some 29) (.slice (some ⟨w1.heap.size, 0, none⟩) 1 1) ((w1.drew.alloc (.cells (ceT d k m).toArray 46))) (by kernel_rfl) (by kernel_rfl) (by kernel_rfl) (fun o ho ht => exec_bsl (vs := #[(0, .agg (ceT d k m).toArray)]) ho (by kernel_rfl) (bsl_E d k m hd hk _)) (stP_alc hHeld _ hb1 hb2 hs2.lt) ?_
    intro hHeld
    have hp9 := alc_new w1 d k m hd hk
    obtain ⟨v3, w3, hr3, ho3, hg3, hk3⟩ := run_app_own 24 (w1.drew.alloc (.cells (ceT d k m).toArray 46)) base v2 l [⟨d, k, m, hd, hk⟩] (hs2.own.alloc (w := w1.drew) _) ⟨w1.heap.size, 0, none⟩ 1 hp9 (by show l.length + 1 ≤ 2000; omega) (by simp; omega)
    refine held_run 10 (Go.Op.call { callee := Go.Callee.builtin Go.Builtin.append, args := #[Go.Operand.tmp 24, Go.Operand.tmp 29], argTypes := #[24, 24] }) 24 (some 30) (v3) (w3) (by kernel_rfl) (by kernel_rfl) (by kernel_rfl) (fun o ho ht => exec_append ho ht (vs := v2) (vx := .slice (some ⟨w1.heap.size, 0, none⟩) 1 1) (by kernel_rfl) (hr3)) (stP_grown hHeld hg3 (by simp; omega) (by simp; omega) (by have := hs2.lt; simp; omega) h1r h2r (fun e => hs2.ne e.symm)) ?_
    intro hHeld
    refine wpAnyH_done (by kernel_rfl) ?_ _
    show wpList _ _ _ _ _ _
    simp only [Act.put, List.setIfInBounds_toArray, List.set_cons_zero, List.set_cons_succ, List.drop_succ_cons, List.drop_zero]
    obtain ⟨A3, n3, c3, rfl⟩ := own_shape0 ho3
    have hcB := hHeld.2.2
    have hfB := put_frz hs2 hg3
    have H3 := Lib.hid ho3
    have G3 := Lib.hid hg3
    have K3 := Lib.hid hk3
    clear hHeld hr3 ho3 hg3 hk3 hp9
    go_wp2_with fail
    go_end0
    exact put_end ⟨d, k, m, hd, hk⟩ H.out HL.out hs2 hM hrow (grown_trans (grown_new w1 _ _) G3.out) H3.out (fun q hq => (K3.out q hq).imp id (fun h => by have : w1.heap.size ≤ q := by { have h' := h; simp at h'; omega }; have := hM.size; omega))
end Go.Proofs.Ytklooieghlnblaa
