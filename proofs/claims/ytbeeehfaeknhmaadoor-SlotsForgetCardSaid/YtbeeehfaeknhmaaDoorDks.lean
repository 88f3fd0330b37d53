import Derived.Test.YtbeeehfaeknhmaaDoorDkr
/-
  disk: Write and Sync while there is power.
-/
namespace Go.Proofs.YtbeeehfaeknhmaaDoor
open Go.RowKit

section
variable {w : World} {n D R : Nat} {ss : List Sec} {off : Bool} {fuse : Int} {pv : Nat → Value}
set_option maxRecDepth 100000 in
set_option maxHeartbeats 800000 in
theorem draw_nil (h : DkS w n D R ss false fuse pv) (h0 : fuse ≠ 0) :
    Calls Tryd.prog 55 #[.pointer (some ⟨D, 0, none⟩)] w fun e w' => e = .returned .nilIface ∧ DkS w' n D R ss false (drawF fuse) pv ∧ Turn (· = D) w w' := by
  generalize hZ : drawF fuse = Z
  have hc := h.fusc
  have hf := (h.frz 2).1
  have hz := h.fz
  have hb := Turn.of_below (F := (· = D)) (Below.refl w.heap.size w)
  unfold drawF at hZ
  by_cases h1 : fuse = -1
  · subst h1
    rw [if_neg (by decide)] at hZ
    subst hZ
    have H := Lib.hid h
    clear h h0
    go_enter Tryd.func55, Tryd.ntmps55
    go_wp2_with fail
    go_ret
    exact ⟨rfl, H.out, hb⟩
  · rw [if_pos (by omega)] at hZ
    have H := Lib.hid (h.set (off' := false) (fuse' := fuse - 1) 2 (.int .i64 (fuse - 1)) (.inr ⟨rfl, rfl, rfl, by omega, by omega⟩))
    have HZ := Lib.hid hZ
    clear h hZ
    have q1 : (fuse == -1) = false := by simpa using h1
    have q0 : (fuse == 0) = false := by simpa using h0
    go_enter Tryd.func55, Tryd.ntmps55
    go_wp2_with fail
    go_ret
    rw [← HZ.out]
    exact ⟨rfl, H.out⟩
set_option maxRecDepth 100000 in
set_option maxHeartbeats 1600000 in
theorem sync_nil (h : DkS w n D R ss false fuse pv) (hf : fuse ≠ 0) : Calls Tryd.prog 33 #[.pointer (some ⟨D, 0, none⟩)] w fun e w' =>
    e = .returned .nilIface ∧ ∃ pv', DkS w' n D R (ss.map Sec.sync) false (drawF fuse) pv' ∧ Turn (fun k => k = D ∨ k = R) w w' ∧ Less pv pv' := by
  have hc := h.offc
  have hdr := draw_nil h hf
  have hlen := h.len
  generalize drawF fuse = fz at hdr ⊢
  clear h hf
  go_enter Tryd.func33, Tryd.ntmps33
  go_upto_region 6 with (go_at_call 55; refine hdr.mono ?_; rintro e wd ⟨rfl, hd, ht⟩)
  have hhd := hd.hdr
  have HD := Lib.hid hd
  have HT := Lib.hid ht
  clear hd ht
  go_wp2_with fail
  go_loopw [21] (fun i wr => ∃ (k : Nat) (pv' : Nat → Value), i = .int .i64 (k : Int) ∧ k ≤ ss.length ∧ DkS wr n D R (syncTo ss k) false fz pv' ∧ Turn (· = R) wd wr ∧ Less pv pv') (fun i _ => ss.length - (intOf i).toNat)
  case atStart => exact ⟨0, pv, rfl, by omega, by rw [syncTo_zero]; exact HD.out, Turn.of_below (Below.refl _ _), fun _ _ h => h⟩
  case round =>
    obtain ⟨k, pv', rfl, hk, hd, ht, hl⟩ := hrel
    by_cases hlt : k < ss.length
    · have hlt' : decide (k < ss.length) = true := by simpa using hlt
      obtain ⟨s, hs⟩ : ∃ s, ss[k]? = some s := ⟨_, List.getElem?_eq_getElem hlt⟩
      have hs' : (syncTo ss k)[k]? = some s := (syncTo_get ss k hlt).trans hs
      obtain ⟨A, c, hv⟩ := own_shapeC (hd.own k s hs')
      have hp := hd.pnd k s hs'
      rw [hv] at hp
      have hh := hd.hdr
      rw [syncTo_len _ _ hk] at hh
      have hx := idx_S R ss.length ss.length k hlt
      have h1 := agg_secs
      have h2 := agg_pend
      have hk4 : k < 400 := by omega
      have HTr := Lib.hid ht
      have HL := Lib.hid hl
      have HLN := Lib.hid hlen
      have HS := Lib.hid hs
      by_cases h0 : s.pend.length = 0
      · rw [h0] at hp
        have HN : Hid (DkS wr n D R (syncTo ss (k + 1)) false fz pv') := by
          rw [← syncTo_set ss k s hs, s.sync_none h0]
          have e := (List.getElem?_eq_some_iff.1 hs').2
          rw [← e, List.set_getElem_self]
          exact hd
        clear hd hv hs hs' h0 ht hl hlen
        go_wp2_with fail
        go_roundw
        case rel => exact ⟨k + 1, pv', by go_num, by omega, HN.out, HTr.out, HL.out⟩
        case measure => simp [intOf]; omega
      · have hpos : 0 < s.pend.length := by omega
        have hla := last_any hd k s hs'
        have hst := fun w1 (h1 : DkS w1 n D R (syncTo ss k) false fz pv') => settle_any h1 k s hs' s.top s.top_len
        rw [show (⟨s.top, [], s.top_len, by simp⟩ : Sec) = s.sync from rfl, syncTo_set ss k s hs] at hst
        have HD0 := Lib.hid hd
        clear hd hv hs hs' h0 ht hl hlen
        generalize s.pend.length = m at hp hpos
        go_wp2_with (first | (go_at_call 56; refine hla.mono ?_; rintro e w1 ⟨rfl, hb1⟩; have HB1 := Lib.hid hb1; clear hb1) | (go_at_call 48; refine (hst _ (HD0.out.below HB1.out)).mono ?_; rintro e w2 ⟨rfl, hd2, ht2⟩; have HD2 := Lib.hid hd2; have HT2 := Lib.hid ht2; clear hd2 ht2))
        go_roundw
        case rel => exact ⟨k + 1, _, by go_num, by omega, HD2.out, HTr.out.trans ((Turn.of_below HB1.out : Turn (· = R) wr w1).trans HT2.out (fun q hq => .inl hq)) (fun q hq => .inl hq), fun j q hq => by
          unfold pvSet at hq
          split at hq
          · cases hq
          · exact HL.out j q hq⟩
        case measure => simp [intOf]; omega
    · have hk' : k = ss.length := by omega
      subst hk'
      rw [syncTo_all] at hd
      have HD1 := Lib.hid hd
      clear hd
      go_wp2_with fail
      go_ret
      exact ⟨rfl, pv', HD1.out, (HT.out.mono (fun q hq => .inl hq) : Turn (fun k => k = D ∨ k = R) w wd).trans ht (fun q hq => .inl (.inr hq)), hl⟩
def WrOk (w w0 : World) (D R : Nat) (ss : List Sec) (fuse : Int) (pv : Nat → Value) (ss' : List Sec) (e : Ending) (w' : World) : Prop :=
  e = .returned .nilIface ∧ ∃ pv', DkS w' w0.heap.size D R ss' false (drawF fuse) pv' ∧ Turn (DFoot D R ss pv) w w' ∧ Fresh w pv pv'
set_option maxRecDepth 100000 in
set_option maxHeartbeats 1600000 in
theorem write_ok (hf : fuse ≠ 0) (w0 : World) (hb : Below w0.heap.size w0 w) (h : DkS w w0.heap.size D R ss false fuse pv) (i : Nat) (s : Sec) (hs : ss[i]? = some s) (B : List UInt8) (hB : B.length = 128) (gb ob cb : Nat)
    (hr : w.rangeAt gb ob (bcells B)) (hgb : (pv i).ownBlock ≠ some gb) (hn : s.pend.length ≤ 2000) :
    Calls Tryd.prog 32 #[.pointer (some ⟨D, 0, none⟩), .int .i64 (i : Int), .slice (some ⟨gb, ob, none⟩) 128 cb] w (WrOk w w0 D R ss fuse pv (ss.set i (s.add B hB))) := by
  have hc := h.offc
  have hi := (List.getElem?_eq_some_iff.1 hs).1
  have hh := has_any h (i : Int)
  rw [decide_eq_true (by omega), decide_eq_true (by omega), Bool.and_self] at hh
  have hx := idx_S R ss.length ss.length i hi
  have H := Lib.hid h
  have HI := Lib.hid hi
  have HR := Lib.hid hr
  have HB0 := Lib.hid hb
  have HN := Lib.hid hn
  have h1 := agg_secs
  have h2 := one_pend
  clear h hi hr hb hn
  go_enter Tryd.func32, Tryd.ntmps32
  go_upto_region 5 with (go_at_call 54; refine hh.mono ?_; rintro e w1 ⟨rfl, hb1⟩; have HB1 := Lib.hid hb1; clear hb1)
  have hi := HI.out
  have hn := HN.out
  have hd1 := H.out.below HB1.out
  have hb1 : Below w0.heap.size w0 w1 := HB0.out.trans (HB1.out.mono HB0.out.size)
  have h16 : DkS (w1.drew.alloc (.cells (bcells B).toArray 90)) w0.heap.size D R ss false fuse pv := (hd1.same (w' := w1.drew) (fun _ _ => rfl)).below (below_alc _ _)
  have hbd : Below w.heap.size w w1.drew := ⟨HB1.out.os, HB1.out.tape, HB1.out.output, HB1.out.size, HB1.out.block⟩
  have hS : WrS D R (i * 129 + 128) ss.length gb ob (pv i) B w1.drew := ⟨hd1.hdr, hd1.pnd i s hs, range_b HR.out hbd (range_lt HR.out (by rw [bcells_len]; omega))⟩
  have rD : some D ≠ (pv i).ownBlock := fun e => (hd1.sep i hi D e.symm).1 rfl
  have rR : some R ≠ (pv i).ownBlock := fun e => (hd1.sep i hi R e.symm).2.1 rfl
  have rb : some gb ≠ (pv i).ownBlock := fun e => hgb e.symm
  refine wp_region_held_cut (S := WrS D R (i * 129 + 128) ss.length gb ob (pv i) B) 18 (by kernel_rfl) (by kernel_rfl) (hS) (fun hHeld => ?_)
  refine held_move 0 (Go.Operand.tmp 0) (some 22) (.pointer (some ⟨D, 0, none⟩)) (by kernel_rfl) (by kernel_rfl) (by kernel_rfl) (by kernel_rfl) (by kernel_rfl) (fun _ _ _ _ _ h => h) hHeld ?_
  refine held_nil 1 (Go.Operand.tmp 22) (some 23) ⟨D, 0, none⟩ (by kernel_rfl) (by kernel_rfl) (by kernel_rfl) (by kernel_rfl) (by kernel_rfl) (fun _ _ _ _ _ h => h) hHeld ?_
  refine held_field 2 72 (Go.Operand.tmp 23) 0 (some 24) (.pointer (some ⟨D, 0, none⟩)) (.pointer (some ⟨D, 0, none⟩)) (by kernel_rfl) (by kernel_rfl) (field_D0 D) (by kernel_rfl) (by kernel_rfl) (by kernel_rfl) (fun _ _ _ _ _ h => h) hHeld ?_
  refine held_cell 3 70 (Go.Operand.tmp 24) (some 25) (.pointer (some ⟨D, 0, none⟩)) (.slice (some ⟨R, 0, none⟩) ss.length ss.length) (by kernel_rfl) (by kernel_rfl) (fun w h => load_slice D 0 w 70 agg_secs _ h.1) (by kernel_rfl) (by kernel_rfl) (by kernel_rfl) (fun _ _ _ _ _ h => h) hHeld ?_
  refine held_move 4 (Go.Operand.tmp 1) (some 26) (.int .i64 (i : Int)) (by kernel_rfl) (by kernel_rfl) (by kernel_rfl) (by kernel_rfl) (by kernel_rfl) (fun _ _ _ _ _ h => h) hHeld ?_
  refine held_move 5 (Go.Operand.tmp 0) (some 27) (.pointer (some ⟨D, 0, none⟩)) (by kernel_rfl) (by kernel_rfl) (by kernel_rfl) (by kernel_rfl) (by kernel_rfl) (fun _ _ _ _ _ h => h) hHeld ?_
  refine held_nil 6 (Go.Operand.tmp 27) (some 28) ⟨D, 0, none⟩ (by kernel_rfl) (by kernel_rfl) (by kernel_rfl) (by kernel_rfl) (by kernel_rfl) (fun _ _ _ _ _ h => h) hHeld ?_
  refine held_field 7 72 (Go.Operand.tmp 28) 0 (some 29) (.pointer (some ⟨D, 0, none⟩)) (.pointer (some ⟨D, 0, none⟩)) (by kernel_rfl) (by kernel_rfl) (field_D0 D) (by kernel_rfl) (by kernel_rfl) (by kernel_rfl) (fun _ _ _ _ _ h => h) hHeld ?_
  refine held_cell 8 70 (Go.Operand.tmp 29) (some 30) (.pointer (some ⟨D, 0, none⟩)) (.slice (some ⟨R, 0, none⟩) ss.length ss.length) (by kernel_rfl) (by kernel_rfl) (fun w h => load_slice D 0 w 70 agg_secs _ h.1) (by kernel_rfl) (by kernel_rfl) (by kernel_rfl) (fun _ _ _ _ _ h => h) hHeld ?_
  refine held_move 9 (Go.Operand.tmp 1) (some 31) (.int .i64 (i : Int)) (by kernel_rfl) (by kernel_rfl) (by kernel_rfl) (by kernel_rfl) (by kernel_rfl) (fun _ _ _ _ _ h => h) hHeld ?_
  refine held_index 10 70 (Go.Operand.tmp 30) (Go.Operand.tmp 31) (some 32) (.slice (some ⟨R, 0, none⟩) ss.length ss.length) (.int .i64 (i : Int)) (.pointer (some ⟨R, i * 129, none⟩)) (by kernel_rfl) (by kernel_rfl) (idx_S R ss.length ss.length i hi) (by kernel_rfl) (by kernel_rfl) (by kernel_rfl) (fun _ _ _ _ _ h => h) hHeld ?_
  refine held_field 11 93 (Go.Operand.tmp 32) 1 (some 33) (.pointer (some ⟨R, i * 129, none⟩)) (.pointer (some ⟨R, i * 129 + 128, none⟩)) (by kernel_rfl) (by kernel_rfl) (field_S1 R (i * 129)) (by kernel_rfl) (by kernel_rfl) (by kernel_rfl) (fun _ _ _ _ _ h => h) hHeld ?_
  refine held_cell 12 91 (Go.Operand.tmp 33) (some 34) (.pointer (some ⟨R, i * 129 + 128, none⟩)) (pv i) (by kernel_rfl) (by kernel_rfl) (fun w h => load_slice R (i * 129 + 128) w 91 agg_pend _ h.2.1) (by kernel_rfl) (by kernel_rfl) (by kernel_rfl) (fun _ _ _ _ _ h => h) hHeld ?_
  refine held_move 13 (Go.Operand.tmp 2) (some 35) (.slice (some ⟨gb, ob, none⟩) 128 cb) (by kernel_rfl) (by kernel_rfl) (by kernel_rfl) (by kernel_rfl) (by kernel_rfl) (fun _ _ _ _ _ h => h) hHeld ?_
  refine held_any 14 (Go.Op.sliceToArrayPointer 90 (Go.Operand.tmp 35)) (some 36) (.pointer (some ⟨gb, ob, none⟩)) (by kernel_rfl) (by kernel_rfl) (by kernel_rfl) (by kernel_rfl) (fun _ _ _ _ _ h => h) hHeld (fun o ho w h => exec_arr (vx := .slice (some ⟨gb, ob, none⟩) 128 cb) ho (by kernel_rfl) (arr_C gb ob cb w)) ?_
  refine held_load 15 90 (Go.Operand.tmp 36) (some 37) (gb) (ob) (bcells B) _ (by kernel_rfl) (by kernel_rfl) (fun w h => h.2.2) Tryd.underlying90 rfl (by rw [bcells_len, hB]; exact info_C) (by kernel_rfl) (by kernel_rfl) (by kernel_rfl) (fun _ _ _ _ _ h => h) hHeld ?_
  refine held_run 16 (Go.Op.buildSlice 91 1 #[(0, Go.Operand.tmp 37)]) 91 (some 38) (.slice (some ⟨w1.heap.size, 0, none⟩) 1 1) ((w1.drew.alloc (.cells (bcells B).toArray 90))) (by kernel_rfl) (by kernel_rfl) (by kernel_rfl) (fun o ho ht => exec_bsl (vs := #[(0, .agg (bcells B).toArray)]) ho (by kernel_rfl) (bsl_C B hB _)) (WrS.alc hHeld hB _) ?_
  intro hHeld
  obtain ⟨v3, w3, hr3, ho3, hg3, hk3⟩ := run_app_C 91 (w1.drew.alloc (.cells (bcells B).toArray 90)) w0.heap.size (pv i) s.pend s.pend.length rfl (h16.own i s hs) B hB ⟨w1.heap.size, 0, none⟩ 1 (alc_newC w1 B) hn (Nat.le_trans hb1.size (by simp))
  refine held_run 17 (Go.Op.call { callee := Go.Callee.builtin Go.Builtin.append, args := #[Go.Operand.tmp 34, Go.Operand.tmp 38], argTypes := #[91, 91] }) 91 (some 39) (v3) (w3) (by kernel_rfl) (by kernel_rfl) (by kernel_rfl) (fun o ho ht => exec_append ho ht (vs := pv i) (vx := .slice (some ⟨w1.heap.size, 0, none⟩) 1 1) (by kernel_rfl) (hr3)) (hHeld.grown hg3 rD rR rb hB) ?_
  intro hHeld
  refine wpAnyH_done (by kernel_rfl) ?_ _
  show wpList _ _ _ _ _ _
  simp only [Act.put, List.setIfInBounds_toArray, List.set_cons_zero, List.set_cons_succ, List.drop_succ_cons, List.drop_zero]
  obtain ⟨A3, n3, c3, rfl⟩ := own_shape0C ho3
  have hcB := hHeld.2.1
  have hfB : w3.frozen? ⟨R, i * 129 + 128, none⟩ = false := (World.frozen?_of_block (hg3.block R h16.ltR rR)).trans (h16.frz _).2
  have HW := Lib.hid (h16.wrote i s hs B hB hg3 ho3 hk3)
  have HK := Lib.hid hk3
  have hT1 : Turn (DFoot D R ss pv) w (w3.setCell ⟨R, i * 129 + 128, none⟩ (.slice A3 n3 c3)) := by
    have a1 : Turn (DFoot D R ss pv) w (w1.drew.alloc (.cells (bcells B).toArray 90)) := Turn.of_below ((HB1.out.trans (Below.drewNr (w := w1) 1)).trans ((below_alc w1.drew _).mono HB1.out.size))
    exact a1.trans HW.out.2 (fun q hq => .inl (hq.elim (fun e => .inr (.inl e)) (fun e => .inr (.inr ⟨i, hi, e⟩))))
  have HT1 := Lib.hid hT1
  have hdr := draw_nil HW.out.1 hf
  clear hHeld hr3 ho3 hg3 hk3 hT1 hd1 hb1 h16 hS rD rR rb hn hi hgb
  go_wp2_with (go_at_call 55; refine hdr.mono ?_; rintro e w5 ⟨rfl, hd5, ht5⟩; have HD5 := Lib.hid hd5; have HT5 := Lib.hid ht5; clear hd5 ht5)
  go_ret
  refine ⟨rfl, _, HD5.out, HT1.out.trans HT5.out (fun q hq => .inl (.inl hq)), fun j q hq => ?_⟩
  unfold pvSet at hq
  split at hq
  · rename_i e
    subst e
    exact (HK.out q hq).imp id (fun h => by have h' : w1.heap.size ≤ q := by { have h' := h; simp at h'; omega }; have := HB1.out.size; omega)
  · exact .inl hq
end
end Go.Proofs.YtbeeehfaeknhmaaDoor
