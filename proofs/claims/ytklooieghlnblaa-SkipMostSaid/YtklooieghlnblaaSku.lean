import Derived.Test.YtklooieghlnblaaSkt
/-
  skip: the document's Put, Find.
-/
namespace Go.Proofs.Ytklooieghlnblaa
open Go.RowKit

theorem buildD_f (f g : Nat → UInt8) (n : Int) (w : World) : (Instr.build 56 #[(0, .agg ((mk32 f).map cellB).toArray), (1, .agg ((mk32 g).map cellB).toArray), (2, .int .u32 n)]).run Try.prog w = .ok (.agg (ceT (mk32 f) (mk32 g) n).toArray) w := by kernel_rfl
theorem build_D (d k : List UInt8) (n : Int) (hd : d.length = 32) (hk : k.length = 32) (w : World) : (Instr.build 56 #[(0, .agg (d.map cellB).toArray), (1, .agg (k.map cellB).toArray), (2, .int .u32 n)]).run Try.prog w = .ok (.agg (ceT d k n).toArray) w := by
  rw [of32 d hd, of32 k hk]
  exact buildD_f _ _ n w
theorem bslD_f (f g : Nat → UInt8) (n : Int) (w : World) : (Instr.buildSlice 27 1 #[(0, .agg (ceT (mk32 f) (mk32 g) n).toArray)]).run Try.prog w = .ok (.slice (some ⟨w.heap.size, 0, none⟩) 1 1) (w.alloc (.cells (ceT (mk32 f) (mk32 g) n).toArray 56)) := by kernel_rfl
theorem bsl_D (d k : List UInt8) (n : Int) (hd : d.length = 32) (hk : k.length = 32) (w : World) : (Instr.buildSlice 27 1 #[(0, .agg (ceT d k n).toArray)]).run Try.prog w = .ok (.slice (some ⟨w.heap.size, 0, none⟩) 1 1) (w.alloc (.cells (ceT d k n).toArray 56)) := by
  rw [of32 d hd, of32 k hk]
  exact bslD_f _ _ n w
theorem dk_tail {w : World} {B g p c : Nat} {es : List Ent} (h : DkAt w B (some ⟨g, p, none⟩) c es) (hl : 0 < es.length) :
    DkAt (w.setCell ⟨B, 0, none⟩ (.slice (some (frA g p c 1)) (es.length - 1) (c - 1))) B (some (frA g p c 1)) (c - 1) (es.drop 1) ∧ Mod B 0 none w (w.setCell ⟨B, 0, none⟩ (.slice (some (frA g p c 1)) (es.length - 1) (c - 1))) := by
  have hgB : g ≠ B := h.ne _ rfl hl
  have hfb : (frA g p c 1).block = g := by unfold frA; split <;> rfl
  refine ⟨⟨?_, ?_, ?_, ?_, ?_, fun e => by cases e⟩, ⟨rfl, rfl, rfl, by simp [World.setCell], ?_, ?_, ?_⟩⟩
  · rw [List.length_drop]
    exact World.cell?_setCell_same w _ _ h.cell
  · rw [frozen_setCell]; exact h.frz
  · intro hx
    obtain ⟨b, o, e, hlt, hr⟩ := read_from (k := 1) h.row hl h.cap.1 hx
    have hb : b = g := by
      have := congrArg (fun a => a.map Addr.block) e
      simp only [Option.map_some, Option.some.injEq] at this
      rw [← this, hfb]
    refine ⟨b, o, e, by simpa [World.setCell] using hlt, fun j u hu => ?_⟩
    rw [World.cell?_setCell_other _ _ _ _ (fun e => hgB (hb.symm.trans (congrArg Addr.block e).symm))]
    exact hr j u hu
  · intro a ha _
    obtain rfl := Option.some.inj ha
    rw [hfb]
    exact hgB
  · rw [List.length_drop]
    have := h.cap
    exact ⟨by omega, by unfold maxLen at *; omega⟩
  · intro k hk h1 _
    exact Below.heap_setCell _ _ _ _ h1
  · intro j hj
    exact World.cell?_setCell_other _ _ _ _ (by intro e; cases e; exact hj rfl)
  · intro j
    rw [frozen_setCell]
theorem putL_of {es l : List Ent} {E : Ent} (he : es.eraseP (Ent.is E.d E.n) = l) (hn : es.length ≤ 40) : (if l.length + 1 > 40 then (l ++ [E]).drop 1 else l ++ [E]) = putL es E := by
  subst he
  have hl : (es.eraseP (Ent.is E.d E.n)).length ≤ es.length := List.length_eraseP_le
  unfold putL
  by_cases h : (es.eraseP (Ent.is E.d E.n)).length = 40
  · rw [if_pos (by omega), if_pos h]
    rcases hx : es.eraseP (Ent.is E.d E.n) with _ | ⟨x, xs⟩
    · rw [hx] at h; simp at h
    · rfl
  · rw [if_neg (by omega), if_neg h]
set_option maxRecDepth 100000 in
set_option maxHeartbeats 1600000 in
theorem dput_any (es : List Ent) (d k : List UInt8) (m : Int) (hd : d.length = 32) (hk : k.length = 32) (hn : es.length ≤ 40) (B : Nat) (A : Option Addr) (c : Nat) (w : World) (h : DkAt w B A c es) :
    Calls Try.prog 14 #[.pointer (some ⟨B, 0, none⟩), .agg (d.map cellB).toArray, .int .u32 m, .agg (k.map cellB).toArray] w (DPost w B A es (putL es ⟨d, k, m, hd, hk⟩) (.tuple #[])) := by
  have hb0 : Below w.heap.size w ((w.alloc (Obj.cells (d.map cellB).toArray 31)).alloc (Obj.cells (k.map cellB).toArray 31)) := ((Below.refl _ _).alloc (Nat.le_refl _) _).alloc (by simp) _
  have h0 := h.below hb0
  have hr0 := heap2_0 w (Obj.cells (d.map cellB).toArray 31) (Obj.cells (k.map cellB).toArray 31)
  have htk := dtake_any es d m hd (by omega) B A c _ h0
  have hsz := key_size d hd
  have hl : (es.eraseP (Ent.is d m)).length ≤ 40 := Nat.le_trans (List.length_eraseP_le) hn
  have HL := Lib.hid (putL_of (E := ⟨d, k, m, hd, hk⟩) (l := es.eraseP (Ent.is d m)) rfl hn)
  unfold DPost at htk
  generalize putL es ⟨d, k, m, hd, hk⟩ = PL at HL ⊢
  generalize es.eraseP (Ent.is d m) = l at htk hl HL
  have H := Lib.hid h
  have HN := Lib.hid hl
  clear h h0 hl
  go_enter Try.func14, Try.ntmps14
  go_upto_region 2 with (first | (refine wpList_load_row rfl 31 _ rfl w.heap.size rfl _ _ _ _ hr0 Try.underlying31 rfl (by rw [hsz]; exact info_key) ?_) | (go_at_call 10; refine htk.mono ?_; rintro e w1 ⟨rfl, A1, c1, hd1, hm1, hf1⟩))
  have hl := HN.out
  have hM1 : Mod B 0 none w w1 := (Mod.of_below none H.out.lt hb0).trans hm1 (.inl rfl)
  have hB := H.out.lt
  have ne1 : w.heap.size ≠ B := by omega
  have ne2 : w.heap.size + 1 ≠ B := by omega
  have hs01 : w.heap.size + 1 < w1.heap.size := by have := hm1.size; simp only [World.alloc, Array.size_push] at this; omega
  have rk1 : w1.rangeAt w.heap.size 0 (d.map cellB) := hm1.range (range_new (heap2_0 _ _ _)) (by simp; omega) ne1 (by simp)
  have rk2 : w1.rangeAt (w.heap.size + 1) 0 (k.map cellB) := hm1.range (range_new (heap2_1 _ _ _)) (by simp) ne2 (by simp)
  have hw1s := hM1.size
  clear htk hr0 hb0 hm1
  obtain ⟨W2, hW2⟩ : ∃ W2, W2 = w1.alloc (.cells #[] 56) := ⟨_, rfl⟩
  have hw1 := bsl_zero w1
  rw [← hW2] at hw1
  have hb2 : Below w1.heap.size w1 W2 := by rw [hW2]; exact below_alc _ _
  have hD2 := hd1.below hb2
  obtain ⟨v3, W3, hr3, ho3, hg3⟩ := run_app_D 27 W2 w1.heap.size (.slice (some ⟨w1.heap.size, 0, none⟩) 0 0) [] l (by rw [hW2]; exact World.ownsRow_made w1 #[] 0 (Nat.le_refl _) (by unfold maxLen; omega) (by simp)) A1 c1 hD2.row (by simp; omega) hb2.size hd1.nil
  simp only [List.nil_append] at ho3
  have hb3 : Below w1.heap.size w1 W3 := hb2.grown hg3 hb2.size (by intro k hk; simp [Value.ownBlock] at hk; omega)
  obtain ⟨W4, hW4⟩ : ∃ W4, W4 = W3.alloc (.cells (ceT d k m).toArray 56) := ⟨_, rfl⟩
  have hw4 := bsl_D d k m hd hk W3
  rw [← hW4] at hw4
  have hb4 : Below w1.heap.size w1 W4 := by rw [hW4]; exact hb3.alloc hb3.size _
  obtain ⟨v5, W5, hr5, ho5, hg5⟩ := run_app_D 27 W4 w1.heap.size v3 l [⟨d, k, m, hd, hk⟩] (by rw [hW4]; exact ho3.alloc _) (some ⟨W3.heap.size, 0, none⟩) 1 (by
    intro _
    refine ⟨W3.heap.size, 0, rfl, by rw [hW4]; simp, fun j u hu => ?_⟩
    rw [hW4]
    refine range_new (heap1_0 W3 _) j u ?_
    simpa [cells, Ent.ce] using hu) (by show l.length + 1 ≤ 2000; omega) hb4.size (fun e => by cases e)
  have hb5 : Below w1.heap.size w1 W5 := hb4.grown hg5 hb4.size (fun k hk => (ho3.lt k hk).1)
  obtain ⟨A5, n5, c5, rfl, hn5⟩ : ∃ A n c, v5 = .slice A n c ∧ n = (l ++ [(⟨d, k, m, hd, hk⟩ : Ent)]).length := by
    obtain ⟨A, c, e, _⟩ := own_slice ho5
    exact ⟨A, _, c, e, rfl⟩
  rw [← hn5] at ho5
  obtain ⟨d1, d2, d3⟩ := dk_of hd1 hb5 hn5 ho5
  have ld2 := load_dsl B _ W2 hD2.cell
  have lk1 := load_row 31 w.heap.size 0 (d.map cellB) _ Try.underlying31 rfl (by rw [List.length_map, hd]; exact info_key) W3 (rangeAt_below rk1 hb3 (by omega))
  have lk2 := load_row 31 (w.heap.size + 1) 0 (k.map cellB) _ Try.underlying31 rfl (by rw [List.length_map, hk]; exact info_key) W3 (rangeAt_below rk2 hb3 (by omega))
  have hf5 := (hb5.frozen (p := ⟨B, 0, none⟩) hd1.lt).trans hd1.frz
  have hc5 := (hb5.cell (p := ⟨B, 0, none⟩) hd1.lt).trans hd1.cell
  have hnn : n5 = l.length + 1 := by rw [hn5]; simp
  have HD1 := Lib.hid d1
  have HM := Lib.hid (hM1.trans d2 (.inl rfl))
  have HD3 := Lib.hid d3
  have HS1 := Lib.hid hw1s
  have HNN := Lib.hid hnn
  have HN5 := Lib.hid hn5
  clear hW2 hb2 hD2 ho3 hg3 hb3 hW4 hb4 ho5 hg5 hb5 d1 d2 d3 rk1 rk2 hM1 hnn hn5 hd1 hf1 ne1 ne2 hs01 hw1s
  refine wp_region_lit ?_
  refine wpList_run (by kernel_rfl) (.slice (some ⟨w1.heap.size, 0, none⟩) 0 0) (W2) (exec_bsl (vs := #[]) rfl (by kernel_rfl) (hw1)) ?_
  refine wpList_run (by kernel_rfl) (.pointer (some ⟨B, 0, none⟩)) (W2) (exec_move rfl (by kernel_rfl)) ?_
  refine wpList_run (by kernel_rfl) (.pointer (some ⟨B, 0, none⟩)) (W2) (exec_nil rfl (by kernel_rfl)) ?_
  refine wpList_run (by kernel_rfl) (.pointer (some ⟨B, 0, none⟩)) (W2) (exec_field (vx := .pointer (some ⟨B, 0, none⟩)) rfl (by kernel_rfl) (by kernel_rfl)) ?_
  refine wpList_run (by kernel_rfl) (.slice A1 l.length c1) (W2) (exec_load (vx := .pointer (some ⟨B, 0, none⟩)) rfl (by kernel_rfl) (ld2)) ?_
  refine wpList_run (by kernel_rfl) (v3) (W3) (exec_append rfl rfl (vs := .slice (some ⟨w1.heap.size, 0, none⟩) 0 0) (vx := .slice A1 l.length c1) (by kernel_rfl) (hr3)) ?_
  refine wpList_run (by kernel_rfl) (v3) (W3) (exec_assign rfl (by kernel_rfl)) ?_
  refine wpList_nil ?_
  simp only [put_list, List.set_cons_zero, List.set_cons_succ]
  go_upto_region 3 with (fail)
  refine wp_region_lit ?_
  refine wpList_run (by kernel_rfl) (.pointer (some ⟨B, 0, none⟩)) (W3) (exec_move rfl (by kernel_rfl)) ?_
  refine wpList_run (by kernel_rfl) (v3) (W3) (exec_move rfl (by kernel_rfl)) ?_
  refine wpList_run (by kernel_rfl) (.agg (d.map cellB).toArray) (W3) (exec_load (vx := .pointer (some ⟨w.heap.size, 0, none⟩)) rfl (by kernel_rfl) (lk1)) ?_
  refine wpList_run (by kernel_rfl) (.agg (k.map cellB).toArray) (W3) (exec_load (vx := .pointer (some ⟨w.heap.size + 1, 0, none⟩)) rfl (by kernel_rfl) (lk2)) ?_
  refine wpList_run (by kernel_rfl) (.int .u32 m) (W3) (exec_move rfl (by kernel_rfl)) ?_
  refine wpList_run (by kernel_rfl) (.agg (ceT d k m).toArray) (W3) (exec_build (vs := #[(0, .agg (d.map cellB).toArray), (1, .agg (k.map cellB).toArray), (2, .int .u32 m)]) rfl (by kernel_rfl) (build_D d k m hd hk _)) ?_
  refine wpList_run (by kernel_rfl) (.slice (some ⟨W3.heap.size, 0, none⟩) 1 1) (W4) (exec_bsl (vs := #[(0, .agg (ceT d k m).toArray)]) rfl (by kernel_rfl) (hw4)) ?_
  refine wpList_run (by kernel_rfl) (.slice A5 n5 c5) (W5) (exec_append rfl rfl (vs := v3) (vx := .slice (some ⟨W3.heap.size, 0, none⟩) 1 1) (by kernel_rfl) (hr5)) ?_
  refine wpList_run (by kernel_rfl) (.pointer (some ⟨B, 0, none⟩)) (W5) (exec_nil rfl (by kernel_rfl)) ?_
  refine wpList_run (by kernel_rfl) (.pointer (some ⟨B, 0, none⟩)) (W5) (exec_field (vx := .pointer (some ⟨B, 0, none⟩)) rfl (by kernel_rfl) (by kernel_rfl)) ?_
  refine wpList_skip rfl ((W5.setCell ⟨B, 0, none⟩ (.slice A5 n5 c5))) (exec_store (vx := .pointer (some ⟨B, 0, none⟩)) (vy := .slice A5 n5 c5) rfl (by kernel_rfl) (store_dsl B _ _ hc5 hf5)) ?_
  refine wpList_nil ?_
  simp only [put_list, put_none, List.set_cons_zero, List.set_cons_succ]
  obtain ⟨W6, hW6⟩ : ∃ W6, W6 = W5.setCell ⟨B, 0, none⟩ (.slice A5 n5 c5) := ⟨_, rfl⟩
  rw [← hW6]
  have hD6 : DkAt W6 B A5 c5 (l ++ [⟨d, k, m, hd, hk⟩]) := by rw [hW6]; exact HD1.out
  have hM6 : Mod B 0 none w W6 := by rw [hW6]; exact HM.out
  have hc6 := hD6.cell
  have hf6 := hD6.frz
  rw [← HN5.out] at hc6
  have ld6 := load_dsl B _ W6 hc6
  have HD6 := Lib.hid hD6
  have HM6 := Lib.hid hM6
  clear hW6 hD6 hM6 ld2 lk1 lk2 hf5 hc5 hw1 hw4 hr3 hr5
  have hlen := HNN.out
  by_cases h40 : l.length + 1 > 40
  · have q40 : decide ((40 : Int) < (n5 : Int)) = true := by simp; omega
    have HL' := HL.out
    rw [if_pos h40] at HL'
    have HLL := Lib.hid HL'
    obtain ⟨g, p, rfl⟩ : ∃ g p, A5 = some ⟨g, p, none⟩ := by
      obtain ⟨g, p, e, _⟩ := HD6.out.row (by rw [cells_len]; simp)
      exact ⟨g, p, e⟩
    have s6 := slD_from g p n5 c5 1 (by omega)
    have S6 := Lib.hid s6
    clear HL' s6 h40 hlen
    go_upto_region 5 with (fail)
    refine wp_region_lit ?_
    refine wpList_run (by kernel_rfl) (.pointer (some ⟨B, 0, none⟩)) (W6) (exec_move rfl (by kernel_rfl)) ?_
    refine wpList_run (by kernel_rfl) (.pointer (some ⟨B, 0, none⟩)) (W6) (exec_move rfl (by kernel_rfl)) ?_
    refine wpList_run (by kernel_rfl) (.pointer (some ⟨B, 0, none⟩)) (W6) (exec_nil rfl (by kernel_rfl)) ?_
    refine wpList_run (by kernel_rfl) (.pointer (some ⟨B, 0, none⟩)) (W6) (exec_field (vx := .pointer (some ⟨B, 0, none⟩)) rfl (by kernel_rfl) (by kernel_rfl)) ?_
    refine wpList_run (by kernel_rfl) (.slice (some ⟨g, p, none⟩) n5 c5) (W6) (exec_load (vx := .pointer (some ⟨B, 0, none⟩)) rfl (by kernel_rfl) (ld6)) ?_
    refine wpList_run (by kernel_rfl) (.slice (some (frA g p c5 1)) (n5 - 1) (c5 - 1)) (W6) (exec_slice (vx := .slice (some ⟨g, p, none⟩) n5 c5) (l := some (Go.Value.int Go.IntKind.i64 1)) (h := none) (m := none) rfl (by kernel_rfl) (S6.out _)) ?_
    refine wpList_run (by kernel_rfl) (.pointer (some ⟨B, 0, none⟩)) (W6) (exec_nil rfl (by kernel_rfl)) ?_
    refine wpList_run (by kernel_rfl) (.pointer (some ⟨B, 0, none⟩)) (W6) (exec_field (vx := .pointer (some ⟨B, 0, none⟩)) rfl (by kernel_rfl) (by kernel_rfl)) ?_
    refine wpList_skip rfl ((W6.setCell ⟨B, 0, none⟩ (.slice (some (frA g p c5 1)) (n5 - 1) (c5 - 1)))) (exec_store (vx := .pointer (some ⟨B, 0, none⟩)) (vy := .slice (some (frA g p c5 1)) (n5 - 1) (c5 - 1)) rfl (by kernel_rfl) (store_dsl B _ _ hc6 hf6)) ?_
    refine wpList_nil ?_
    simp only [put_list, put_none, List.set_cons_zero, List.set_cons_succ]
    go_wp2_with fail
    go_end0
    obtain ⟨t1, t2⟩ := dk_tail HD6.out (by simp)
    rw [← HN5.out] at t1 t2
    refine ⟨rfl, _, _, by rw [← HLL.out]; exact t1, HM6.out.trans t2 (.inl rfl), fun a ha _ => .inl ?_⟩
    obtain rfl := Option.some.inj ha
    have := HD3.out _ rfl
    have hfb : (frA g p c5 1).block = g := by unfold frA; split <;> rfl
    rw [hfb]
    exact Nat.le_trans HS1.out this
  · have q40 : decide ((40 : Int) < (n5 : Int)) = false := by simp; omega
    have HL' := HL.out
    rw [if_neg h40] at HL'
    have HLL := Lib.hid HL'
    clear HL' h40 hlen
    go_wp2_with fail
    go_end0
    exact ⟨rfl, _, _, by rw [← HLL.out]; exact HD6.out, HM6.out, fun a ha _ => .inl (Nat.le_trans HS1.out (HD3.out a ha))⟩
theorem dkey_range {w : World} {g p : Nat} {es : List Ent} (h : SlRead w (some ⟨g, p, none⟩) (cells es)) {i : Nat} (hi : i < es.length) : w.rangeAt g (p + 65 * i + 32) (es[i]!.k.map cellB) := by
  obtain ⟨b, o, e, _, hr⟩ := h (by rw [cells_len]; omega)
  cases e
  exact (ent_ranges hr hi rfl).2.1
set_option maxRecDepth 100000 in
set_option maxHeartbeats 1600000 in
theorem dfind_any (es : List Ent) (q : List UInt8) (m : Int) (hq : q.length = 32) (hn : es.length ≤ 1000) (B : Nat) (A : Option Addr) (c : Nat) (w : World) (h : DkAt w B A c es) :
    Calls Try.prog 16 #[.pointer (some ⟨B, 0, none⟩), .agg (q.map cellB).toArray, .int .u32 m] w (KeyPost w (findK es (Ent.is q m)) (es.any (Ent.is q m))) := by
  have hb1 : Below w.heap.size w ((w.alloc (Obj.cells (q.map cellB).toArray 31)).alloc (Obj.cells (zkey.map cellB).toArray 31)) := ((Below.refl _ _).alloc (Nat.le_refl _) _).alloc (by simp) _
  have h1 := h.below hb1
  have hr0 := heap2_0 w (Obj.cells (q.map cellB).toArray 31) (Obj.cells (zkey.map cellB).toArray 31)
  have hr1 := heap2_1 w (Obj.cells (q.map cellB).toArray 31) (Obj.cells (zkey.map cellB).toArray 31)
  have hpl := dplace_any es q m hq hn B A c _ h1
  have hsz := key_size q hq
  have hB := h.lt
  have H1 := Lib.hid h1
  have hz32 : ∀ w, (Instr.build 31 #[]).run Try.prog w = .ok (.agg (zkey.map cellB).toArray) w := fun _ => by kernel_rfl
  clear h h1
  cases hp : es.findIdx? (Ent.is q m) with
  | none =>
    have HA := Lib.hid (none_any hp).1
    have HE := Lib.hid (find_none hp)
    rw [show plc es q m = -1 by unfold plc; rw [hp]] at hpl
    clear hp
    go_enter Try.func16, Try.ntmps16
    go_wp2_with (first | (refine wpList_allocV rfl 31 rfl (zkey.map cellB).toArray (fun _ => by kernel_rfl) ?_) | (refine wpList_load_row rfl 31 _ rfl w.heap.size rfl _ _ _ _ hr0 Try.underlying31 rfl (by rw [hsz]; exact info_key) ?_) | (go_at_call 20; refine hpl.mono ?_; rintro e w1 ⟨rfl, hb'⟩; have hrr := (hb'.block (w.heap.size + 1) (by simp)).trans hr1) | (refine wpList_buildV rfl 31 _ rfl #[] (by kernel_rfl) _ hz32 ?_) | (refine wpList_store_row rfl 31 _ _ rfl (w.heap.size + 1) _ rfl rfl _ _ hrr (by rw [key_size _ (by simp [zkey])]; exact info_key) rfl (cellB_one _) ?_))
    refine bodyPost_ret (results_row_tmp rfl _ _ _ _ _ _ _ rfl (setRow_heap w1 _ _ _ _ _ hrr) _ rfl Try.underlying31 rfl (by rw [key_size _ (by simp [zkey])]; exact info_key)) rfl ?_
    exact ⟨by rw [HA.out, HE.out]; rfl, setRow_below (hb1.trans (hb'.mono (by simp; omega))) _ (by omega) _⟩
  | some i =>
    have hi := find_lt hp
    have HA := Lib.hid (any_find hp)
    have HE := Lib.hid (find_of hp)
    rw [show plc es q m = (i : Int) by unfold plc; rw [hp]] at hpl
    clear hp
    obtain ⟨g, p, rfl⟩ : ∃ g p, A = some ⟨g, p, none⟩ := by
      obtain ⟨g, p, e, _⟩ := H1.out.row (by rw [cells_len]; omega)
      exact ⟨g, p, e⟩
    have hidx := idx_D g p es.length c i hi
    obtain ⟨K, hK⟩ : ∃ K, K = es[i]!.k := ⟨_, rfl⟩
    have hKl : K.length = 32 := by rw [hK, Ent.hk]
    rw [← hK] at HE
    have HK := Lib.hid hK
    clear hK
    have hkl : (K.map cellB).length = 32 := by rw [List.length_map, hKl]
    have HI := Lib.hid hi
    have HKl := Lib.hid hKl
    clear hi hKl
    go_enter Try.func16, Try.ntmps16
    go_wp2_with (first | (refine wpList_allocV rfl 31 rfl (zkey.map cellB).toArray (fun _ => by kernel_rfl) ?_) | (refine wpList_load_row rfl 31 _ rfl w.heap.size rfl _ _ _ _ hr0 Try.underlying31 rfl (by rw [hsz]; exact info_key) ?_) | (go_at_call 20; refine hpl.mono ?_; rintro e w1 ⟨rfl, hb'⟩; have hrr := (hb'.block (w.heap.size + 1) (by simp)).trans hr1; have hsk := H1.out.below hb'; have hc1 := hsk.cell; have hkr : Hid (w1.rangeAt g (p + 65 * i + 32) (K.map cellB)) := (by rw [HK.out]; exact dkey_range hsk.row HI.out); clear hsk) | (refine wpList_load_mid rfl 31 _ rfl g (p + 65 * i + 32) rfl _ _ hkr.out Try.underlying31 rfl (by rw [hkl]; exact info_key) ?_) | (refine wpList_store_row rfl 31 _ _ rfl (w.heap.size + 1) _ rfl rfl _ _ hrr (by rw [key_size _ HKl.out]; exact info_key) (by rw [key_size _ HKl.out, key_size _ (by simp [zkey])]) (cellB_one _) ?_))
    refine bodyPost_ret (results_row_tmp rfl _ _ _ _ _ _ _ rfl (setRow_heap w1 _ _ _ _ _ hrr) _ rfl Try.underlying31 rfl (by rw [key_size _ HKl.out]; exact info_key)) rfl ?_
    exact ⟨by rw [HA.out, HE.out]; rfl, setRow_below (hb1.trans (hb'.mono (by simp; omega))) _ (by omega) _⟩

end Go.Proofs.Ytklooieghlnblaa
