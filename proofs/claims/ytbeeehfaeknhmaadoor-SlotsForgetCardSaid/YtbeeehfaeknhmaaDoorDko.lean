import Derived.Test.YtbeeehfaeknhmaaDoorDkn
import Derived.Test.YtbeeehfaeknhmaaDoorDkj
/-
  disk: Crash.
-/
namespace Go.Proofs.YtbeeehfaeknhmaaDoor
open Go.RowKit

theorem idx_I (b o n c : Nat) (h : 0 < n) (w : World) : (Instr.indexAt 38 (.slice (some ⟨b, o, none⟩) n c) (.int .i64 0)).run Tryd.prog w = .ok (.pointer (some ⟨b, o, none⟩)) w := by
  have e := idx_slice 38 3 1 Tryd.underlying38 (fun w => by kernel_rfl) b o n c 0 h w
  rw [Nat.zero_mul, Nat.add_zero] at e
  exact e
theorem pend_max {w : World} {n D R : Nat} {ss : List Sec} {off : Bool} {fuse : Int} {pv : Nat → Value} (h : DkS w n D R ss off fuse pv) (i : Nat) (s : Sec) (hs : ss[i]? = some s) : s.pend.length ≤ 9223372036854775807 := by
  rcases own_cells (h.own i s hs) with ⟨e, _⟩ | ⟨_, _, _, _, _, _, e⟩
  · omega
  · exact e
/-- a sector settled to what is picked, whose content lies at an address -/
def CrPost (w : World) (n D R : Nat) (ss : List Sec) (keep : List Int) (pv : Nat → Value) (e : Ending) (w' : World) : Prop :=
  e = .returned (.tuple #[]) ∧ ∃ pv', DkS w' n D R (crashTo ss keep ss.length).1 false (-1) pv' ∧ Turn (fun k => k = D ∨ k = R) w w' ∧ Less pv pv'
section
variable {w : World} {n D R : Nat} {ss : List Sec} {off : Bool} {fuse : Int} {pv : Nat → Value}
theorem pick_lies {s : Sec} {g j : Nat} (hr : w.rangeAt g 0 (conts s.pend)) (hj : 0 < j) (hjm : j ≤ s.pend.length) : w.rangeAt g ((j - 1) * 128) (bcells (s.pick j)) := by
  have hl : s.pend[j - 1]? = some (s.pick j) := by
    unfold Sec.pick
    rw [if_neg (by omega), List.getD_eq_getElem?_getD, List.getElem?_eq_getElem (by omega)]
    rfl
  have hq := rng_sub hr ((j - 1) * 128) (bcells (s.pick j)) (fun q v hv => conts_get s.pend s.hp _ _ hl q v hv)
  rw [Nat.zero_add] at hq
  exact hq
set_option maxRecDepth 100000 in
set_option maxHeartbeats 3200000 in
theorem crash_any (h : DkS w n D R ss off fuse pv) (keep : List Int) (v : Value) (hk : KeepAt w R keep v) (hsm : ∀ s ∈ ss, s.pend.length ≤ 2000) : Calls Tryd.prog 21 #[.pointer (some ⟨D, 0, none⟩), v] w (CrPost w n D R ss keep pv) := by
  have hhd := h.hdr
  have hlen := h.len
  have H := Lib.hid h
  have HK := Lib.hid hk
  clear h hk
  go_enter Tryd.func21, Tryd.ntmps21
  go_wp2_with fail
  go_loopw [1, 12] (fun y i wr => ∃ (k : Nat) (v' : Value) (pv' : Nat → Value), v' = y ∧ i = .int .i64 (k : Int) ∧ k ≤ ss.length ∧ DkS wr n D R (crashTo ss keep k).1 off fuse pv' ∧ KeepAt wr R (crashTo ss keep k).2 v' ∧ Turn (· = R) w wr ∧ Less pv pv') (fun _ i _ => ss.length - (intOf i).toNat)
  case atStart => exact ⟨0, _, pv, rfl, rfl, by omega, H.out, HK.out, Turn.of_below (Below.refl _ _), fun _ _ h => h⟩
  case round =>
    obtain ⟨k, v', pv', rfl, rfl, hk, hd, hkp, ht, hl⟩ := hrel
    by_cases hlt : k < ss.length
    · have hlt' : decide (k < ss.length) = true := by simpa using hlt
      obtain ⟨s, hs⟩ : ∃ s, ss[k]? = some s := ⟨_, List.getElem?_eq_getElem hlt⟩
      have hs' : (crashTo ss keep k).1[k]? = some s := (crashTo_get ss keep k k (Nat.le_refl _)).trans hs
      obtain ⟨A, c2, hv⟩ := own_shapeC (hd.own k s hs')
      have hp := hd.pnd k s hs'
      rw [hv] at hp
      have hh := hd.hdr
      rw [crashTo_len] at hh
      have hx := idx_S R ss.length ss.length k hlt
      have h1 := agg_secs
      have h2 := agg_pend
      have hk4 : k < 400 := by omega
      have HTr := Lib.hid ht
      have HL := Lib.hid hl
      have HLN := Lib.hid hlen
      by_cases h0 : s.pend.length = 0
      · rw [h0] at hp
        have HN := Lib.hid hd
        have HKp := Lib.hid hkp
        rw [← crashTo_none ss keep k s hs h0] at HN HKp
        clear hd hv hs hs' h0 ht hl hlen hkp
        go_wp2_with fail
        go_roundw
        case rel => exact ⟨k + 1, _, pv', rfl, by go_num, by omega, HN.out, HKp.out, HTr.out, HL.out⟩
        case measure => simp [intOf]; omega
      · have hpos : 0 < s.pend.length := by omega
        rcases own_cells (hd.own k s hs') with ⟨e, _⟩ | ⟨g, c2, e2, _, _, hr, hpm⟩
        · omega
        replace hp := hd.pnd k s hs'
        rw [e2] at hp
        replace hpm : s.pend.length ≤ 2000 := hsm s (List.mem_of_getElem? hs)
        have hkn := crashTo_some ss keep k s hs h0
        have hdur := hd.dur k s hs'
        have HD0 := Lib.hid hd
        cases hq : (crashTo ss keep k).2 with
        | nil =>
          rw [hq] at hkp hkn
          obtain ⟨A', c', rfl, _⟩ := hkp
          have hset := settle_any hd k s hs' (s.pick 0) (s.pick_len 0)
          rw [show (⟨s.pick 0, [], s.pick_len 0, by simp⟩ : Sec) = s.settled (choice [] s.pend.length) from rfl] at hset
          rw [show (crashTo ss keep k).1.set k (s.settled (choice [] s.pend.length)) = (crashTo ss keep (k + 1)).1 by rw [hkn]] at hset
          have HKn : Hid (KeepAt wr R (crashTo ss keep (k + 1)).2 (.slice A' 0 c')) := by
            rw [hkn]
            exact ⟨A', c', rfl, by simp, by simp, fun h => absurd rfl h⟩
          have hT : Hid ((bcells (s.pick 0)).length = 128) := by rw [bcells_len]; exact s.pick_len 0
          rw [show bcells s.dur = bcells (s.pick 0) from rfl] at hdur
          clear hd hv hs hs' h0 ht hl hlen hr e2 hkn hq
          generalize s.pend.length = m at hp hpos hpm
          generalize bcells (s.pick 0) = C at *
          go_wp2_with (first | (refine wpList_load_mid rfl 90 _ rfl R (k * 129) rfl _ _ hdur Tryd.underlying90 rfl (by rw [hT.out]; exact info_C) ?_) | (go_at_call 48; refine hset.mono ?_; rintro e w2 ⟨rfl, hd2, ht2⟩; have HD2 := Lib.hid hd2; have HT2 := Lib.hid ht2; clear hd2 ht2))
          go_roundw
          case rel => exact ⟨k + 1, _, _, rfl, by go_num, by omega, HD2.out, HKn.out.turn HT2.out, HTr.out.trans HT2.out (fun q hq => .inl hq), fun j q hq => by
            unfold pvSet at hq
            split at hq
            · cases hq
            · exact HL.out j q hq⟩
          case measure => simp [intOf]; omega
        | cons x q =>
          rw [hq] at hkp hkn
          obtain ⟨b, o, c', rfl, hbl, hcx, hxm, hkt⟩ := hkp.cons
          have hsl := slice_1 b o (q.length + 1) c' (by omega)
          have HKt := Lib.hid hkt
          have hj : ∃ j, j = (max x 0).toNat % (1 + s.pend.length) := ⟨_, rfl⟩
          obtain ⟨j, hj⟩ := hj
          have hjm : j ≤ s.pend.length := by rw [hj]; exact choice_le (x :: q) _
          have hset0 := fun W (hW : DkS W n D R (crashTo ss keep k).1 off fuse pv') => settle_any hW k s hs' (s.pick j) (s.pick_len j)
          rw [show (⟨s.pick j, [], s.pick_len j, by simp⟩ : Sec) = s.settled (choice (x :: q) s.pend.length) by rw [hj]; rfl] at hset0
          rw [show (crashTo ss keep k).1.set k (s.settled (choice (x :: q) s.pend.length)) = (crashTo ss keep (k + 1)).1 by rw [hkn]] at hset0
          have hkq : (crashTo ss keep (k + 1)).2 = q := by rw [hkn]; rfl
          have HKq := Lib.hid hkq
          have hpl : ∀ W : World, W.rangeAt g 0 (conts s.pend) → 0 < j → W.rangeAt g ((j - 1) * 128) (bcells (s.pick j)) := fun W hW h1 => pick_lies hW h1 hjm
          have hT : Hid ((bcells (s.pick j)).length = 128) := by rw [bcells_len]; exact s.pick_len j
          have hd0 : j = 0 → bcells s.dur = bcells (s.pick j) := fun e => by rw [e]; rfl
          have hset := hset0 wr.drew (hd.same (fun _ _ => rfl))
          have hixC : 0 < j → ∀ w, (Instr.indexAt 91 (.slice (some ⟨g, 0, none⟩) s.pend.length c2) (.int .i64 ((j : Int) - 1))).run Tryd.prog w = .ok (.pointer (some ⟨g, (j - 1) * 128, none⟩)) w := fun h w => by
            rw [show ((j : Int) - 1) = ((j - 1 : Nat) : Int) by omega]
            exact idx_C g c2 _ _ (by omega) w
          have hpd := hpl wr.drew hr
          clear hd hs hs' h0 ht hl hlen e2 hkn hq hkp hkt hset0 hpl hkq hr
          generalize s.pend.length = m at hp hpos hpm hj hjm hixC
          generalize bcells (s.pick j) = C at *
          generalize bcells s.dur = C0 at *
          go_upto_region 7 with (fail)
          refine wp_region_noPanic ?_
          refine wp_region_held_drew (S := fun w => w.cell? ⟨b, o, none⟩ = some (.int .i64 x) ∧ w.cell? ⟨R, k * 129 + 128, none⟩ = some (.slice (some ⟨g, 0, none⟩) m c2)) (by kernel_rfl) (⟨hcx, hp⟩) (fun hHeld => ?_)
          refine held_move 0 (Go.Operand.tmp 1) (some 30) (.slice (some ⟨b, o, none⟩) (q.length + 1) c') (by kernel_rfl) (by kernel_rfl) (by kernel_rfl) (by kernel_rfl) (by kernel_rfl) (fun _ _ _ _ _ h => h) hHeld ?_
          refine held_index 1 38 (Go.Operand.tmp 30) (Go.Operand.const (Go.Value.int Go.IntKind.i64 0)) (some 31) (.slice (some ⟨b, o, none⟩) (q.length + 1) c') (Go.Value.int Go.IntKind.i64 0) (.pointer (some ⟨b, o, none⟩)) (by kernel_rfl) (by kernel_rfl) (idx_I b o _ c' (by omega)) (by kernel_rfl) (by kernel_rfl) (by kernel_rfl) (fun _ _ _ _ _ h => h) hHeld ?_
          refine held_cell 2 3 (Go.Operand.tmp 31) (some 32) (.pointer (some ⟨b, o, none⟩)) (.int .i64 x) (by kernel_rfl) (by kernel_rfl) (fun w h => load_i64 b o w _ h.1) (by kernel_rfl) (by kernel_rfl) (by kernel_rfl) (fun _ _ _ _ _ h => h) hHeld ?_
          refine held_any 3 (Go.Op.call { callee := Go.Callee.builtin Go.Builtin.max, args := #[Go.Operand.tmp 32, Go.Operand.const (Go.Value.int Go.IntKind.i64 0)], argTypes := #[3, 3] }) (some 33) (.int .i64 (((max x 0).toNat : Nat) : Int)) (by kernel_rfl) (by kernel_rfl) (by kernel_rfl) (by kernel_rfl) (fun _ _ _ _ _ h => h) hHeld (fun o ho w h => exec_max (vx := .int .i64 x) (vy := .int .i64 0) ho (by kernel_rfl) (fun _ => max_i64 _ _ x w)) ?_
          refine held_move 4 (Go.Operand.tmp 5) (some 34) (.pointer (some ⟨R, k * 129, none⟩)) (by kernel_rfl) (by kernel_rfl) (by kernel_rfl) (by kernel_rfl) (by kernel_rfl) (fun _ _ _ _ _ h => h) hHeld ?_
          refine held_nil 5 (Go.Operand.tmp 34) (some 35) ⟨R, k * 129, none⟩ (by kernel_rfl) (by kernel_rfl) (by kernel_rfl) (by kernel_rfl) (by kernel_rfl) (fun _ _ _ _ _ h => h) hHeld ?_
          refine held_field 6 93 (Go.Operand.tmp 35) 1 (some 36) (.pointer (some ⟨R, k * 129, none⟩)) (.pointer (some ⟨R, k * 129 + 128, none⟩)) (by kernel_rfl) (by kernel_rfl) (field_S1 R (k * 129)) (by kernel_rfl) (by kernel_rfl) (by kernel_rfl) (fun _ _ _ _ _ h => h) hHeld ?_
          refine held_cell 7 91 (Go.Operand.tmp 36) (some 37) (.pointer (some ⟨R, k * 129 + 128, none⟩)) (.slice (some ⟨g, 0, none⟩) m c2) (by kernel_rfl) (by kernel_rfl) (fun w h => load_slice R (k * 129 + 128) w 91 agg_pend _ h.2) (by kernel_rfl) (by kernel_rfl) (by kernel_rfl) (fun _ _ _ _ _ h => h) hHeld ?_
          refine held_any 8 (Go.Op.call { callee := Go.Callee.builtin Go.Builtin.len, args := #[Go.Operand.tmp 37], argTypes := #[91] }) (some 38) (.int .i64 (m : Int)) (by kernel_rfl) (by kernel_rfl) (by kernel_rfl) (by kernel_rfl) (fun _ _ _ _ _ h => h) hHeld (fun o ho w h => exec_lenA (vx := .slice (some ⟨g, 0, none⟩) m c2) ho (by kernel_rfl) (fun _ => len_slice _ 90 _ Tryd.underlying91 (some ⟨g, 0, none⟩) m c2 w)) ?_
          refine held_bin 9 Go.BinOp.add 3 (Go.Operand.const (Go.Value.int Go.IntKind.i64 1)) (Go.Operand.tmp 38) 3 (some 39) (Go.Value.int Go.IntKind.i64 1) (.int .i64 (m : Int)) (.int .i64 ((1 + m : Nat) : Int)) (by kernel_rfl) (by kernel_rfl) (fun w => add_int _ _ _ w 1 (m : Int) _ (by omega) (by omega) (by omega)) (by kernel_rfl) (by kernel_rfl) (by kernel_rfl) (fun _ _ _ _ _ h => h) hHeld ?_
          refine held_bin 10 Go.BinOp.rem 3 (Go.Operand.tmp 33) (Go.Operand.tmp 39) 3 (some 40) (.int .i64 (((max x 0).toNat : Nat) : Int)) (.int .i64 ((1 + m : Nat) : Int)) (.int .i64 (((max x 0).toNat % (1 + m) : Nat) : Int)) (by kernel_rfl) (by kernel_rfl) (rem_nat _ _ _ _ _ (by omega) (by omega)) (by kernel_rfl) (by kernel_rfl) (by kernel_rfl) (fun _ _ _ _ _ h => h) hHeld ?_
          refine held_assign 11 (Go.Operand.tmp 40) (some 6) (.int .i64 (((max x 0).toNat % (1 + m) : Nat) : Int)) (by kernel_rfl) (by kernel_rfl) (by kernel_rfl) (by kernel_rfl) (by kernel_rfl) (fun _ _ _ _ _ h => h) hHeld ?_
          refine wpAnyH_done (by kernel_rfl) ?_ _
          refine NoPanic.normal ?_
          rw [← hj]
          clear hj hHeld
          by_cases hj0 : j = 0
          · subst hj0
            have hdur' : wr.drew.rangeAt R (k * 129) C := by rw [← hd0 rfl]; exact hdur
            clear hdur hixC hpd hd0
            go_wp2_with (first | (refine wpList_load_mid rfl 90 _ rfl R (k * 129) rfl _ _ hdur' Tryd.underlying90 rfl (by rw [hT.out]; exact info_C) ?_) | (go_at_call 48; refine hset.mono ?_; rintro e w2 ⟨rfl, hd2, ht2⟩; have HD2 := Lib.hid hd2; have HT2 := Lib.hid ht2; clear hd2 ht2))
            go_roundw
            case rel => exact ⟨k + 1, _, _, rfl, by go_num, by omega, HD2.out, by rw [HKq.out]; exact (KeepAt.turn (w := wr) HKt.out ((fun h => ⟨h.os, h.tape, h.output, h.size, h.block⟩ : Turn (· = R) wr.drew w2 → Turn (· = R) wr w2) HT2.out)), HTr.out.trans ((fun h => ⟨h.os, h.tape, h.output, h.size, h.block⟩ : Turn (· = R) wr.drew w2 → Turn (· = R) wr w2) HT2.out) (fun q hq => .inl hq), fun j q hq => by
              unfold pvSet at hq
              split at hq
              · cases hq
              · exact HL.out j q hq⟩
            case measure => simp [intOf]; omega
          · have hjp : 0 < j := by omega
            have hix := hixC hjp
            have hr' := hpd hjp
            have q0 : ((j : Int) == 0) = false := by simpa using hj0
            clear hixC hpd hd0 hj0
            go_wp2_with (first | (refine wpList_load_mid rfl 90 _ rfl g ((j - 1) * 128) rfl _ _ hr' Tryd.underlying90 rfl (by rw [hT.out]; exact info_C) ?_) | (go_at_call 48; refine hset.mono ?_; rintro e w2 ⟨rfl, hd2, ht2⟩; have HD2 := Lib.hid hd2; have HT2 := Lib.hid ht2; clear hd2 ht2))
            go_roundw
            case rel => exact ⟨k + 1, _, _, rfl, by go_num, by omega, HD2.out, by rw [HKq.out]; exact (KeepAt.turn (w := wr) HKt.out ((fun h => ⟨h.os, h.tape, h.output, h.size, h.block⟩ : Turn (· = R) wr.drew w2 → Turn (· = R) wr w2) HT2.out)), HTr.out.trans ((fun h => ⟨h.os, h.tape, h.output, h.size, h.block⟩ : Turn (· = R) wr.drew w2 → Turn (· = R) wr w2) HT2.out) (fun q hq => .inl hq), fun j q hq => by
              unfold pvSet at hq
              split at hq
              · cases hq
              · exact HL.out j q hq⟩
            case measure => simp [intOf]; omega
    · have hk' : k = ss.length := by omega
      subst hk'
      have HD1 := Lib.hid hd
      have HTr := Lib.hid ht
      have HL := Lib.hid hl
      have hc1 := hd.offc
      have hc2 := hd.fusc
      have hf1 := (hd.frz 1).1
      have hf2 := (hd.frz 2).1
      have hA := hd.set (off' := false) (fuse' := fuse) 1 (.bool false) (.inl ⟨rfl, rfl, rfl⟩)
      have hB := hA.1.set (off' := false) (fuse' := -1) 2 (.int .i64 (-1)) (.inr ⟨rfl, rfl, rfl, by omega, by omega⟩)
      have hc3 := hA.1.fusc
      have hf3 := (hA.1.frz 2).1
      have HA := Lib.hid hA.2
      have HB := Lib.hid hB
      clear hd hkp ht hl hA hB
      go_wp2_with fail
      go_end0
      exact ⟨rfl, pv', HB.out.1, ((HTr.out.mono (fun q hq => .inr hq) : Turn (fun k => k = D ∨ k = R) w wr).trans HA.out (fun q hq => .inl (.inl hq))).trans HB.out.2 (fun q hq => .inl (.inl hq)), HL.out⟩
end
end Go.Proofs.YtbeeehfaeknhmaaDoor
