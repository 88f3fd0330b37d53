import Derived.Test.YtplennobcbmccaaDoorBrb
namespace Go.Proofs.YtplennobcbmccaaDoor
open Go.RowKit

/-- ErrForm as it lies -/
structure FormAt (E : Nat → Addr) (W : World) : Prop where
  c4 : W.cell? ⟨gE 4, 0, none⟩ = some (errV (E 4))
theorem FormAt.c {E : Nat → Addr} {W : World} (h : FormAt E W) (i : Nat) (hi : i = 4) : W.cell? ⟨gE i, 0, none⟩ = some (errV (E i)) := hi ▸ h.c4
theorem FormAt.below {E : Nat → Addr} {W W' : World} (h : FormAt E W) (hb : Below W.heap.size W W') : FormAt E W' :=
  ⟨by rw [World.cell?_of_block (hb.block _ (World.block_lt_of_cell? W _ h.c4))]; exact h.c4⟩

set_option maxRecDepth 100000 in
set_option maxHeartbeats 3200000 in
theorem of_form (E : Nat → Addr) (z : Int) (bs : List (BitVec 8)) (X : Option Addr) (cb : Nat) (w : World) (hE : FormAt E w) (hX : SlRead w X (ints .u8 (bys bs))) (hbs : bs.length ≤ 4611686018427387) :
    Calls Tryd.prog 22 #[.int .i64 z, .slice X bs.length cb] w (OfPost E z bs w) := by
  have hsz := sizeN_le z
  go_enter Tryd.func22, Tryd.ntmps22
  go_wp2_with fail
  refine (newz_any z w).mono ?_
  rintro e W1 ⟨b, a, rfl, hm, hb1, ha, hb⟩
  obtain ⟨N, hN⟩ : ∃ N, N = sizeN z := ⟨_, rfl⟩
  rw [← hN] at hm hsz
  have HN := Lib.hid hN; clear hN
  go_wp2_with fail
  refine (mbytes_any b a _ W1 hm).mono ?_
  rintro e W2 ⟨g, rfl, _, hg, hb2⟩
  rw [List.length_replicate]
  replace hm := hm.below' hb2
  replace hb1 := below_tr hb1 hb2
  have hE2 := hE.below hb1
  clear hb2
  by_cases hlen : bs.length = (N + 7) / 8
  · have d1 : decide (bs.length = (N + 7) / 8) = true := by simpa using hlen
    rw [← hlen]
    have hm0 : IsMap W2 b a (readOf bs N 0) := by rw [readOf_zero]; exact hm
    have HLEN := Lib.hid hlen
    clear hm d1 hE2 hlen
    go_wp2_with fail
    go_loopw [20] (fun p wr => ∃ k : Nat, p = .int .i64 k ∧ k ≤ 8 * bs.length ∧ IsMap wr b a (readOf bs N k) ∧ Below w.heap.size w wr ∧ Hid (∀ i, i < k → N ≤ i → bitOf bs i = false)) (fun p _ => 8 * bs.length - (intOf p).toNat)
    case atStart => exact ⟨0, rfl, by omega, hm0, hb1, Lib.hid (fun i h => absurd h (by omega))⟩
    clear hm0 hb1
    case round =>
      obtain ⟨k, rfl, hkl, hm, hbw, HF⟩ := hrel
      by_cases hlt : k < 8 * bs.length
      · have hlt' : (k : Int) < 8 * (bs.length : Int) := by omega
        have hk8 : k / 8 < bs.length := by omega
        obtain ⟨xb, xo, rfl, hxb, hxc⟩ := hX (by simp [ints, bys]; omega)
        obtain ⟨x, hx⟩ : ∃ x, bs[k / 8]? = some x := ⟨bs[k / 8], by simp [hk8]⟩
        have hxcell := hxc (k / 8) (v8 x) (by simp [ints, bys, hx])
        have HL : ∀ w', Below wr.heap.size wr w' → w'.cell? ⟨xb, xo + k / 8, none⟩ = some (v8 x) := fun w' hb' =>
          (hb'.cell (p := ⟨xb, xo + k / 8, none⟩) (Nat.lt_of_lt_of_le hxb hbw.size)).trans ((hbw.cell (p := ⟨xb, xo + k / 8, none⟩) hxb).trans hxcell)
        have hbo : bitOf bs k = x.getLsbD (k % 8) := by unfold bitOf; rw [List.getD_eq_getElem?_getD, hx]; rfl
        have HBO := Lib.hid hbo
        clear hxcell hxc hx hbo
        rcases hbit : x.getLsbD (k % 8) with _ | _
        · go_upto_region 7 with (fail)
          refine wp_region_text [Sp.k 0 (some 23) [] (.slice (some ⟨xb, xo, none⟩) bs.length cb),
            Sp.k 1 (some 24) [] (.int .i64 k),
            Sp.k 2 (some 25) [1] (.int .i64 ((k / 8 : Nat) : Int)),
            Sp.k 3 (some 26) [0, 2] (.pointer (some ⟨xb, xo + k / 8, none⟩)),
            Sp.k 4 (some 27) [3] (v8 x),
            Sp.k 5 (some 28) [] (.int .i64 k),
            Sp.k 6 (some 29) [5] (.int .i64 ((k % 8 : Nat) : Int)),
            Sp.k 7 (some 30) [4, 6] (v8 (x >>> (k % 8))),
            Sp.k 8 (some 31) [7] (v8 (x >>> (k % 8) &&& 1#8)),
            Sp.k 9 (some 32) [8] (.bool false),
            Sp.k 10 (some 33) [9] (.bool false),
            Sp.k 11 (some 34) [10] (undef),
            Sp.k 12 (some 35) [10] (undef),
            Sp.k 13 (some 36) [10, 11, 12] (undef),
            Sp.k 14 (some 37) [10, 13] (undef),
            Sp.k 15 (some 38) [10, 14] (Go.Value.bool false)] (by kernel_rfl)
            ⟨owes_move 0 (some 23) [] (.slice (some ⟨xb, xo, none⟩) bs.length cb) (Go.Operand.tmp 1) (fun v => by kernel_rfl) (fun v => by kernel_rfl),
            owes_move 1 (some 24) [] (.int .i64 k) (Go.Operand.tmp 7) (fun v => by kernel_rfl) (fun v => by kernel_rfl),
            owes_bin 2 (some 25) [1] (.int .i64 ((k / 8 : Nat) : Int)) Go.BinOp.quo 3 (Go.Operand.tmp 24) (Go.Operand.const (Go.Value.int Go.IntKind.i64 8)) 3 (.int .i64 k) (Go.Value.int Go.IntKind.i64 8) (fun v => by kernel_rfl) (fun v => by kernel_rfl) (quo_i64 _ _ _ k 8 (by omega) (by omega)),
            owes_index 3 (some 26) [0, 2] (.pointer (some ⟨xb, xo + k / 8, none⟩)) 35 (Go.Operand.tmp 23) (Go.Operand.tmp 25) (.slice (some ⟨xb, xo, none⟩) bs.length cb) (.int .i64 ((k / 8 : Nat) : Int)) (fun v => by kernel_rfl) (fun v => by kernel_rfl) (idx_sl (P := Tryd.prog) Tryd.underlying35 (show (Tryd.prog.info? 5).map (·.size) = some 1 by kernel_rfl) xb xo bs.length cb (k / 8) (by omega)),
            owes_load 4 (some 27) [3] (v8 x) 5 (Go.Operand.tmp 26) (.pointer (some ⟨xb, xo + k / 8, none⟩)) (fun v => by kernel_rfl) (fun v => by kernel_rfl) (fun w' hb => load_u8' _ _ _ w' (HL w' hb)),
            owes_move 5 (some 28) [] (.int .i64 k) (Go.Operand.tmp 7) (fun v => by kernel_rfl) (fun v => by kernel_rfl),
            owes_bin 6 (some 29) [5] (.int .i64 ((k % 8 : Nat) : Int)) Go.BinOp.rem 3 (Go.Operand.tmp 28) (Go.Operand.const (Go.Value.int Go.IntKind.i64 8)) 3 (.int .i64 k) (Go.Value.int Go.IntKind.i64 8) (fun v => by kernel_rfl) (fun v => by kernel_rfl) (rem_i64 _ _ _ k 8 (by omega) (by omega)),
            owes_bin 7 (some 30) [4, 6] (v8 (x >>> (k % 8))) Go.BinOp.shr 5 (Go.Operand.tmp 27) (Go.Operand.tmp 29) 3 (v8 x) (.int .i64 ((k % 8 : Nat) : Int)) (fun v => by kernel_rfl) (fun v => by kernel_rfl) (shr_u8 _ _ _ x (k % 8)),
            owes_bin 8 (some 31) [7] (v8 (x >>> (k % 8) &&& 1#8)) Go.BinOp.and 5 (Go.Operand.tmp 30) (Go.Operand.const (Go.Value.int Go.IntKind.u8 1)) 5 (v8 (x >>> (k % 8))) (Go.Value.int Go.IntKind.u8 1) (fun v => by kernel_rfl) (fun v => by kernel_rfl) (and_u8 _ _ _ _ 1#8),
            owes_bin 9 (some 32) [8] (.bool false) Go.BinOp.eql 5 (Go.Operand.tmp 31) (Go.Operand.const (Go.Value.int Go.IntKind.u8 1)) 5 (v8 (x >>> (k % 8) &&& 1#8)) (Go.Value.int Go.IntKind.u8 1) (fun v => by kernel_rfl) (fun v => by kernel_rfl) (bit_u8 _ _ _ x (k % 8) (by omega) false hbit),
            owes_move 10 (some 33) [9] (.bool false) (Go.Operand.tmp 32) (fun v => by kernel_rfl) (fun v => by kernel_rfl),
            owes_skip 11 (some 34) [10] (fun v => by kernel_rfl),
            owes_skip 12 (some 35) [10] (fun v => by kernel_rfl),
            owes_skip 13 (some 36) [10, 11, 12] (fun v => by kernel_rfl),
            owes_skip 14 (some 37) [10, 13] (fun v => by kernel_rfl),
            owes_pick 15 (some 38) [10, 14] (Go.Value.bool false) (Go.Operand.tmp 33) (Go.Operand.tmp 37) (Go.Operand.const (Go.Value.bool false)) false (fun v => by kernel_rfl) (fun v => by kernel_rfl) (fun v => by kernel_rfl), trivial⟩ ?_
          intro v w' hb' hall
          clear hall HL
          have hm2 := hm.below' hb'
          have hbb := below_tr hbw hb'
          clear hb' hm hbw
          simp only [putsL_k, putsL_nil, List.set_cons_zero, List.set_cons_succ]
          have hbf : bitOf bs k = false := HBO.out.trans hbit
          rw [← readOf_no bs N k hbf] at hm2
          have HBF := Lib.hid hbf; clear hbf
          go_wp2_with fail
          go_roundw
          case rel => exact ⟨k + 1, by go_num, by omega, hm2, hbb, Lib.hid (fun i hi hn => by
            rcases Nat.lt_or_ge i k with h | h
            · exact HF.out i h hn
            · obtain rfl : i = k := by omega
              exact HBF.out)⟩
          case measure => simp [intOf]; omega
        · go_upto_region 7 with (fail)
          refine wp_region_text_tail 13 [Sp.k 0 (some 23) [] (.slice (some ⟨xb, xo, none⟩) bs.length cb),
            Sp.k 1 (some 24) [] (.int .i64 k),
            Sp.k 2 (some 25) [1] (.int .i64 ((k / 8 : Nat) : Int)),
            Sp.k 3 (some 26) [0, 1, 2] (.pointer (some ⟨xb, xo + k / 8, none⟩)),
            Sp.k 4 (some 27) [0, 1, 2, 3] (v8 x),
            Sp.k 5 (some 28) [] (.int .i64 k),
            Sp.k 6 (some 29) [5] (.int .i64 ((k % 8 : Nat) : Int)),
            Sp.k 7 (some 30) [0, 1, 2, 3, 4, 5, 6] (v8 (x >>> (k % 8))),
            Sp.k 8 (some 31) [0, 1, 2, 3, 4, 5, 6, 7] (v8 (x >>> (k % 8) &&& 1#8)),
            Sp.k 9 (some 32) [0, 1, 2, 3, 4, 5, 6, 7, 8] (.bool true),
            Sp.k 10 (some 33) [0, 1, 2, 3, 4, 5, 6, 7, 8, 9] (.bool true),
            Sp.k 11 (some 34) [0, 1, 2, 3, 4, 5, 6, 7, 8, 9, 10] (.pointer (some ⟨b, 0, none⟩)),
            Sp.k 12 (some 35) [0, 1, 2, 3, 4, 5, 6, 7, 8, 9, 10] (.int .i64 k)] (by kernel_rfl)
            ⟨owes_move 0 (some 23) [] (.slice (some ⟨xb, xo, none⟩) bs.length cb) (Go.Operand.tmp 1) (fun v => by kernel_rfl) (fun v => by kernel_rfl),
            owes_move 1 (some 24) [] (.int .i64 k) (Go.Operand.tmp 7) (fun v => by kernel_rfl) (fun v => by kernel_rfl),
            owes_bin 2 (some 25) [1] (.int .i64 ((k / 8 : Nat) : Int)) Go.BinOp.quo 3 (Go.Operand.tmp 24) (Go.Operand.const (Go.Value.int Go.IntKind.i64 8)) 3 (.int .i64 k) (Go.Value.int Go.IntKind.i64 8) (fun v => by kernel_rfl) (fun v => by kernel_rfl) (quo_i64 _ _ _ k 8 (by omega) (by omega)),
            owes_index 3 (some 26) [0, 1, 2] (.pointer (some ⟨xb, xo + k / 8, none⟩)) 35 (Go.Operand.tmp 23) (Go.Operand.tmp 25) (.slice (some ⟨xb, xo, none⟩) bs.length cb) (.int .i64 ((k / 8 : Nat) : Int)) (fun v => by kernel_rfl) (fun v => by kernel_rfl) (idx_sl (P := Tryd.prog) Tryd.underlying35 (show (Tryd.prog.info? 5).map (·.size) = some 1 by kernel_rfl) xb xo bs.length cb (k / 8) (by omega)),
            owes_load 4 (some 27) [0, 1, 2, 3] (v8 x) 5 (Go.Operand.tmp 26) (.pointer (some ⟨xb, xo + k / 8, none⟩)) (fun v => by kernel_rfl) (fun v => by kernel_rfl) (fun w' hb => load_u8' _ _ _ w' (HL w' hb)),
            owes_move 5 (some 28) [] (.int .i64 k) (Go.Operand.tmp 7) (fun v => by kernel_rfl) (fun v => by kernel_rfl),
            owes_bin 6 (some 29) [5] (.int .i64 ((k % 8 : Nat) : Int)) Go.BinOp.rem 3 (Go.Operand.tmp 28) (Go.Operand.const (Go.Value.int Go.IntKind.i64 8)) 3 (.int .i64 k) (Go.Value.int Go.IntKind.i64 8) (fun v => by kernel_rfl) (fun v => by kernel_rfl) (rem_i64 _ _ _ k 8 (by omega) (by omega)),
            owes_bin 7 (some 30) [0, 1, 2, 3, 4, 5, 6] (v8 (x >>> (k % 8))) Go.BinOp.shr 5 (Go.Operand.tmp 27) (Go.Operand.tmp 29) 3 (v8 x) (.int .i64 ((k % 8 : Nat) : Int)) (fun v => by kernel_rfl) (fun v => by kernel_rfl) (shr_u8 _ _ _ x (k % 8)),
            owes_bin 8 (some 31) [0, 1, 2, 3, 4, 5, 6, 7] (v8 (x >>> (k % 8) &&& 1#8)) Go.BinOp.and 5 (Go.Operand.tmp 30) (Go.Operand.const (Go.Value.int Go.IntKind.u8 1)) 5 (v8 (x >>> (k % 8))) (Go.Value.int Go.IntKind.u8 1) (fun v => by kernel_rfl) (fun v => by kernel_rfl) (and_u8 _ _ _ _ 1#8),
            owes_bin 9 (some 32) [0, 1, 2, 3, 4, 5, 6, 7, 8] (.bool true) Go.BinOp.eql 5 (Go.Operand.tmp 31) (Go.Operand.const (Go.Value.int Go.IntKind.u8 1)) 5 (v8 (x >>> (k % 8) &&& 1#8)) (Go.Value.int Go.IntKind.u8 1) (fun v => by kernel_rfl) (fun v => by kernel_rfl) (bit_u8 _ _ _ x (k % 8) (by omega) true hbit),
            owes_move 10 (some 33) [0, 1, 2, 3, 4, 5, 6, 7, 8, 9] (.bool true) (Go.Operand.tmp 32) (fun v => by kernel_rfl) (fun v => by kernel_rfl),
            owes_move 11 (some 34) [0, 1, 2, 3, 4, 5, 6, 7, 8, 9, 10] (.pointer (some ⟨b, 0, none⟩)) (Go.Operand.tmp 6) (fun v => by kernel_rfl) (fun v => by kernel_rfl),
            owes_move 12 (some 35) [0, 1, 2, 3, 4, 5, 6, 7, 8, 9, 10] (.int .i64 k) (Go.Operand.tmp 7) (fun v => by kernel_rfl) (fun v => by kernel_rfl), trivial⟩ ?_
          intro v w' hb' hall
          clear hall HL
          have hm2 := hm.below' hb'
          have hbb := below_tr hbw hb'
          clear hb' hm hbw
          simp only [putsL_k, putsL_nil, List.set_cons_zero, List.set_cons_succ]
          simp only [List.drop_succ_cons, List.drop_zero]
          have hbt : bitOf bs k = true := HBO.out.trans hbit
          have HBT := Lib.hid hbt; clear hbt
          by_cases hkN : k < N
          · have hfree : (readOf bs N k).getD k false = false := by rw [readOf_get _ _ _ _ hkN]; simp
            go_wp2_with fail
            refine (set_any b a _ k w' hm2).mono ?_
            intro e W3 hp
            obtain ⟨rfl, hm3, hb3⟩ := hp.yes (by simpa using hkN) hfree
            rw [← readOf_yes bs N k HBT.out hkN] at hm3
            have hbb3 := hbb.trans (hb3 w.heap.size ha hb)
            clear hp hb3 hm2 hbb
            go_wp2_with fail
            go_roundw
            case rel => exact ⟨k + 1, by go_num, by omega, hm3, hbb3, Lib.hid (fun i hi hn => by
              rcases Nat.lt_or_ge i k with h | h
              · exact HF.out i h hn
              · omega)⟩
            case measure => simp [intOf]; omega
          · go_wp2_with fail
            refine (set_any b a _ k w' hm2).mono ?_
            intro e W3 hp
            obtain ⟨rfl, hm3, hb3⟩ := hp.no (fun hc => hkN (by have := hc.2.1; simp at this; omega))
            have hbb3 := hbb.trans (hb3 w.heap.size ha hb)
            clear hp hb3 hm2 hbb
            have c4 : W3.cell? ⟨0, 0, none⟩ = some (errV (E 4)) := (hE.below hbb3).c 4 (by decide)
            go_wp2_with fail
            go_quiet (fail)
            go_wp2_with fail
            go_ret2
            have hno : ¬ (bs.length = (sizeN z + 7) / 8 ∧ NoMore bs (sizeN z)) := fun hx => by
              have := hx.2 k (by rw [← HN.out]; omega) hlt
              rw [HBT.out] at this
              cases this
            exact .inr ⟨hno, rfl, below_tr hbb3 (Below.drewNr _)⟩
      · have hlt' : ¬ (k : Int) < 8 * (bs.length : Int) := by omega
        obtain rfl : k = 8 * bs.length := by omega
        go_wp2_with fail
        go_ret2
        refine .inl ⟨by rw [← HN.out]; exact HLEN.out, fun i h1 h2 => HF.out i h2 (by rw [HN.out]; exact h1), b, a, rfl, by rw [← HN.out]; exact hm, hbw, ha, hb⟩
  · have d1 : decide (bs.length = (N + 7) / 8) = false := by simpa using hlen
    have c4 : W2.cell? ⟨0, 0, none⟩ = some (errV (E 4)) := hE2.c 4 (by decide)
    go_wp2_with fail
    go_quiet (fail)
    go_wp2_with fail
    go_ret2
    exact .inr ⟨fun hx => hlen (by rw [HN.out]; exact hx.1), rfl, below_tr hb1 (Below.drewNr _)⟩
end Go.Proofs.YtplennobcbmccaaDoor
