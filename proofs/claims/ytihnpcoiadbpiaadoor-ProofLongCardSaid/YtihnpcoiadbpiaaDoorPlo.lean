import Derived.Test.YtihnpcoiadbpiaaDoorPer
import Derived.Laws.OwnMore
namespace Go.Proofs.YtihnpcoiadbpiaaDoor
open Go.RowKit

def subl (hs : List (Nat → BitVec 8)) (lo hi : Nat) : List (Nat → BitVec 8) := (hs.drop lo).take (hi - lo)
theorem subl_length (hs : List (Nat → BitVec 8)) (lo hi : Nat) (h : hi ≤ hs.length) : (subl hs lo hi).length = hi - lo := by
  unfold subl; rw [List.length_take, List.length_drop]; omega
theorem subl_take (hs : List (Nat → BitVec 8)) (lo hi s : Nat) (h : s ≤ hi - lo) : (subl hs lo hi).take s = subl hs lo (lo + s) := by
  unfold subl; rw [List.take_take, Nat.min_eq_left h]; congr 1; omega
theorem subl_drop (hs : List (Nat → BitVec 8)) (lo hi s : Nat) (_h : s ≤ hi - lo) : (subl hs lo hi).drop s = subl hs (lo + s) hi := by
  unfold subl; rw [List.drop_take, List.drop_drop]; congr 1; omega
theorem pathOf_nil (i : Nat) (hs : List (Nat → BitVec 8)) (h : (pathOf i hs).length = 0) : hs.length ≤ 1 := by
  rcases Nat.lt_or_ge 1 hs.length with h2 | h2
  · by_cases hi : i < spl hs.length
    · rw [pathOf_left i hs h2 hi] at h; simp at h
    · rw [pathOf_right i hs h2 hi] at h; simp at h
  · exact h2
theorem slH_lh (b o n cap k h : Nat) (hk : k < cap) (hkh : k ≤ h) (hh : h ≤ cap) (w : World) : (Instr.sliceAt 26 (.slice (some ⟨b, o, none⟩) n cap) (some (.int .i64 (k : Int))) (some (.int .i64 (h : Int))) none).run Tryd.prog w = .ok (.slice (some ⟨b, o + 32 * k, none⟩) (h - k) (cap - k)) w := by
  have hu := Tryd.underlying26
  have e2 : Tryd.prog.elem 26 = 24 := by simp [Program.elem, hu]
  have := run_slice_lh (P := Tryd.prog) w 26 (some ⟨b, o, none⟩) n cap (by rw [e2]; exact hu) .i64 .i64 (k : Int) (h : Int) (by omega) (by omega) (by omega)
  rw [e2] at this
  obtain ⟨i, hi, hz⟩ := Option.map_eq_some_iff.1 info32
  rw [run_sliceAt_slice (h := by rw [e2]; exact hu), this]
  have hne : ¬ cap = k := by omega
  simp [sizeOf, typeInfo, hi, hz, Result.andThen, sliced, Addr.add, hne]
  try (split <;> simp <;> omega)
set_option maxRecDepth 100000 in
set_option maxHeartbeats 6400000 in
theorem long_walk (E : Nat → Addr) (zn zi : Int) (w : World) (hE0 : ErrsAt E w) (hk0 : KAt w) :
    Calls Tryd.prog 5 #[.int .i64 zn, .int .i64 zi] w fun e w' => e = .returned (.bool true) ∧ Below w.heap.size w w' := by
  obtain ⟨m, hn1, hn2⟩ := exists_mod zn 60 (by omega)
  have HN := Lib.hid hn1
  clear hn1
  go_enter Tryd.func5, Tryd.ntmps5
  go_wp2_with fail
  refine (pfirst_any E w hE0 hk0).mono ?_
  rintro e W1 ⟨rfl, hb1⟩
  go_wp2_with fail
  refine (number_nat zn 60 m W1 (by omega) HN.out).mono ?_
  rintro e W2 ⟨rfl, n2, rfl⟩
  replace hb1 := below_tr hb1 (Below.drewNr n2)
  generalize W1.drewN n2 = W1 at *
  go_upto_region 5 with (fail)
  rw [show ((m : Int) + 1) = ((m + 1 : Nat) : Int) by omega]
  obtain ⟨n, hn⟩ : ∃ n, n = m + 1 := ⟨_, rfl⟩
  rw [← hn]
  have hn0 : 0 < n := by omega
  have hn3 : n ≤ 60 := by omega
  clear hn hn2 HN
  obtain ⟨i, hi1, hi2⟩ := exists_mod zi n (by omega)
  have HI := Lib.hid hi1; clear hi1
  go_wp2_with fail
  refine (number_nat zi n i W1 (by omega) HI.out).mono ?_
  rintro e W3 ⟨rfl, n3, rfl⟩
  replace hb1 := below_tr hb1 (Below.drewNr n3)
  generalize W1.drewN n3 = W1 at *
  have hat : PaAt w [] (.slice none 0 0) W1 := ⟨World.ownsRow_nil _ _ _ _, hb1⟩
  clear hb1 HI
  go_wp2_with fail
  go_loopw [6, 7] (fun v p wr => ∃ (k : Nat) (hs : List (Nat → BitVec 8)), p = .int .i64 k ∧ k ≤ n ∧ hs.length = k ∧ PaAt w hs v wr) (fun _ p _ => n - (intOf p).toNat)
  case atStart => exact ⟨0, [], rfl, by omega, rfl, hat⟩
  clear hat
  case round =>
    obtain ⟨k, hs, rfl, hkn, hlen, hat⟩ := hrel
    by_cases hlt : k < n
    · have hlt' : decide (k < n) = true := by simpa using hlt
      go_wp2_with fail
      refine (key_any _ wr).mono ?_
      rintro e W4 ⟨f, rfl, hb4⟩
      have ho4 := hat.ext hb4
      obtain ⟨v5, W5, hr5, hown5, hg5⟩ := run_hash 26 W4 w.heap.size _ hs f ho4.own ho4.bel.size (by omega)
      have hat5 := hat.step hb4 hown5 hg5
      have hbs := bsl_hash f W4
      clear hat ho4 hown5 hg5 hb4
      go_wp2_with (first | (refine wpList_bsl_run (by kernel_rfl) 26 1 _ rfl #[(0, .agg (arr8 32 f))] (by kernel_rfl) _ _ hbs ?_) | (at_builtin; refine wpList_append_run_g (by kernel_rfl) _ _ _ _ rfl _ _ rfl rfl _ _ hr5 ?_))
      go_roundw
      case rel => exact ⟨k + 1, hs ++ [f], by go_num, by omega, by simp; omega, hat5⟩
      case measure => simp [intOf]; omega
    · have hlt' : decide (k < n) = false := by simpa using hlt
      obtain rfl : k = n := by omega
      subst hlen
      obtain ⟨A, c, rfl, hc⟩ := ownsRow_form hat.own
      have hO := SlRead.of_own32 hat.own
      have hbw0 := hat.bel
      clear hat
      obtain ⟨b, o, rfl, _, _⟩ := hO (by rw [hcells_length]; omega)
      replace hc := hc hn0
      go_wp2_with fail
      refine (path_any i hs _ c wr hO hc (by omega) (by omega) (hk0.below hbw0)).mono ?_
      rintro e W9 ⟨vp, rfl, hop, hb9⟩
      obtain ⟨AP, c1, rfl, hc1⟩ := ownsRow_form hop
      have hP := SlRead.of_own32 hop
      replace hO := hO.below hb9
      replace hbw0 := below_tr hbw0 hb9
      clear hop hb9
      have hfull : subl hs 0 hs.length = hs := by unfold subl; simp
      obtain ⟨PL, hPL⟩ : ∃ PL, PL = pathOf i hs := ⟨_, rfl⟩
      have hpl : PL.length ≤ 20 := by rw [hPL, pathOf_length hs.length i hs (Nat.le_refl _)]; exact turnsOf_short 20 i hs.length (by omega)
      rw [← hPL] at hP hc1 ⊢
      have hst : Hid (PL = pathOf (i - 0) (subl hs 0 hs.length) ++ []) := Lib.hid (by rw [hfull, hPL]; simp)
      have hsz : Hid ((PL.length : Int) - 1 + 1 = ((pathOf (i - 0) (subl hs 0 hs.length)).length : Int)) := Lib.hid (by rw [hfull, Nat.sub_zero, ← hPL]; omega)
      clear hPL hfull
      go_wp2_with fail
      go_loopw [10, 11, 12] (fun p q r wr => ∃ (lo hi : Nat) (z : Int) (rest : List (Nat → BitVec 8)), p = .int .i64 lo ∧ q = .int .i64 hi ∧ r = .int .i64 z ∧ lo ≤ i ∧ i < hi ∧ hi ≤ hs.length ∧ Hid (PL = pathOf (i - lo) (subl hs lo hi) ++ rest) ∧ Hid (z + 1 = ((pathOf (i - lo) (subl hs lo hi)).length : Int)) ∧ Below W9.heap.size W9 wr) (fun _ _ r _ => (intOf r + 1).toNat)
      case atStart => exact ⟨0, hs.length, (PL.length : Int) - 1, [], rfl, rfl, by go_num, by omega, by omega, by omega, hst, hsz, Below.refl _ _⟩
      clear hst hsz
      case round =>
        obtain ⟨lo, hi, z, rest, rfl, rfl, rfl, hlo, hhi, hhs, hrest, hz, hbw⟩ := hrel
        have hsl := subl_length hs lo hi hhs
        by_cases hz0 : 0 ≤ z
        · obtain ⟨k, rfl⟩ : ∃ k : Nat, z = (k : Int) := ⟨z.toNat, by omega⟩
          have h2 : 2 ≤ hi - lo := by
            rcases Nat.lt_or_ge (hi - lo) 2 with h2 | h2
            · have := hz.out
              rw [pathOf_one _ _ (by rw [hsl]; omega)] at this
              simp at this
              omega
            · exact h2
          have hPr := hP
          obtain ⟨bp, op, rfl, _, _⟩ := hPr (by
            have h1 := hz.out
            have h3 := congrArg List.length hrest.out
            rw [List.length_append] at h3
            rw [hcells_length]
            omega)
          have hsp := spl_spec (hi - lo) h2
          have hsp0 := spl_pos (hi - lo) h2
          have HSP := fun w' => dsplit_any ((hi - lo : Nat) : Int) (by omega) w'
          simp only [Int.toNat_natCast] at HSP
          obtain ⟨s, hs'⟩ : ∃ s, s = spl (hi - lo) := ⟨_, rfl⟩
          simp only [← hs'] at HSP hsp hsp0
          have HS := Lib.hid hs'; clear hs' hPr
          go_upto_region 19 with (fail)
          refine wp_region_text [Sp.k 0 (some 50) [] (.int .i64 hi),
            Sp.k 1 (some 51) [] (.int .i64 lo),
            Sp.k 2 (some 52) [0, 1] (.int .i64 ((hi - lo : Nat) : Int)),
            Sp.k 3 (some 53) [2] (.bool false)] (by kernel_rfl)
            ⟨owes_move 0 (some 50) [] (.int .i64 hi) (Go.Operand.tmp 11) (fun v => by kernel_rfl) (fun v => by kernel_rfl),
            owes_move 1 (some 51) [] (.int .i64 lo) (Go.Operand.tmp 10) (fun v => by kernel_rfl) (fun v => by kernel_rfl),
            owes_bin 2 (some 52) [0, 1] (.int .i64 ((hi - lo : Nat) : Int)) Go.BinOp.sub 3 (Go.Operand.tmp 50) (Go.Operand.tmp 51) 3 (.int .i64 hi) (.int .i64 lo) (fun v => by kernel_rfl) (fun v => by kernel_rfl) (sub_i64 _ _ _ _ _ _ (by omega) (by omega) (by omega)),
            owes_bin 3 (some 53) [2] (.bool false) Go.BinOp.lss 3 (Go.Operand.tmp 52) (Go.Operand.const (Go.Value.int Go.IntKind.i64 2)) 3 (.int .i64 ((hi - lo : Nat) : Int)) (Go.Value.int Go.IntKind.i64 2) (fun v => by kernel_rfl) (fun v => by kernel_rfl) (fun w => by rw [lt_i64, decide_eq_false (by omega)]), trivial⟩ ?_
          intro v wq hbq hall
          clear hall
          simp only [putsL_k, putsL_nil, List.set_cons_zero, List.set_cons_succ]
          replace hbw := below_tr hbw hbq
          clear hbq
          go_upto_region 21 with (fail)
          refine wp_region_text [Sp.k 0 (some 54) [] (.int .i64 lo),
            Sp.k 1 (some 55) [] (.int .i64 hi),
            Sp.k 2 (some 56) [] (.int .i64 lo),
            Sp.k 3 (some 57) [1, 2] (.int .i64 ((hi - lo : Nat) : Int)),
            Sp.k 4 (some 58) [3] (.int .i64 s),
            Sp.k 5 (some 59) [0, 4] (.int .i64 ((lo + s : Nat) : Int)),
            Sp.k 6 (some 13) [5] (.int .i64 ((lo + s : Nat) : Int))] (by kernel_rfl)
            ⟨owes_move 0 (some 54) [] (.int .i64 lo) (Go.Operand.tmp 10) (fun v => by kernel_rfl) (fun v => by kernel_rfl),
            owes_move 1 (some 55) [] (.int .i64 hi) (Go.Operand.tmp 11) (fun v => by kernel_rfl) (fun v => by kernel_rfl),
            owes_move 2 (some 56) [] (.int .i64 lo) (Go.Operand.tmp 10) (fun v => by kernel_rfl) (fun v => by kernel_rfl),
            owes_bin 3 (some 57) [1, 2] (.int .i64 ((hi - lo : Nat) : Int)) Go.BinOp.sub 3 (Go.Operand.tmp 55) (Go.Operand.tmp 56) 3 (.int .i64 hi) (.int .i64 lo) (fun v => by kernel_rfl) (fun v => by kernel_rfl) (sub_i64 _ _ _ _ _ _ (by omega) (by omega) (by omega)),
            owes_call 4 (some 58) [3] (.int .i64 s) 20 #[Go.Operand.tmp 57] #[3] (fun v => by kernel_rfl) (fun _ _ => by kernel_rfl) (fun v w' hb ho => by
                exact ⟨#[.int .i64 ((hi - lo : Nat) : Int)], by kernel_rfl, (HSP w').mono (fun _ _ h => h)⟩),
            owes_bin 5 (some 59) [0, 4] (.int .i64 ((lo + s : Nat) : Int)) Go.BinOp.add 3 (Go.Operand.tmp 54) (Go.Operand.tmp 58) 3 (.int .i64 lo) (.int .i64 s) (fun v => by kernel_rfl) (fun v => by kernel_rfl) (add_i64 _ _ _ _ _ _ (by omega) (by omega) (by omega)),
            owes_assign 6 (some 13) [5] (.int .i64 ((lo + s : Nat) : Int)) (Go.Operand.tmp 59) (fun v => by kernel_rfl) (fun v => by kernel_rfl), trivial⟩ ?_
          intro v wq2 hbq hall
          clear hall HSP
          simp only [putsL_k, putsL_nil, List.set_cons_zero, List.set_cons_succ]
          replace hbw := below_tr hbw hbq
          clear hbq
          by_cases hib : i < lo + s
          · go_upto_region 22 with (fail)
            refine wp_region_text [Sp.k 0 (some 60) [] (.int .i64 i),
              Sp.k 1 (some 61) [] (.int .i64 ((lo + s : Nat) : Int)),
              Sp.k 2 (some 62) [0, 1] (.bool true)] (by kernel_rfl)
              ⟨owes_move 0 (some 60) [] (.int .i64 i) (Go.Operand.tmp 1) (fun v => by kernel_rfl) (fun v => by kernel_rfl),
              owes_move 1 (some 61) [] (.int .i64 ((lo + s : Nat) : Int)) (Go.Operand.tmp 13) (fun v => by kernel_rfl) (fun v => by kernel_rfl),
              owes_bin 2 (some 62) [0, 1] (.bool true) Go.BinOp.lss 3 (Go.Operand.tmp 60) (Go.Operand.tmp 61) 3 (.int .i64 i) (.int .i64 ((lo + s : Nat) : Int)) (fun v => by kernel_rfl) (fun v => by kernel_rfl) (fun w => by rw [lt_i64, decide_eq_true (by omega)]), trivial⟩ ?_
            intro v wr hbq hall
            clear hall
            simp only [putsL_k, putsL_nil, List.set_cons_zero, List.set_cons_succ]
            replace hbw := below_tr hbw hbq
            clear hbq
            have hps := pathOf_left (i - lo) (subl hs lo hi) (by rw [hsl]; omega) (by rw [hsl, ← HS.out]; omega)
            rw [hsl, ← HS.out, subl_take hs lo hi s (by omega), subl_drop hs lo hi s (by omega)] at hps
            have hpq : PL[k]? = some (rootOf (subl hs (lo + s) (hi))) := by
              have hz' := hz.out
              rw [hps, List.length_append] at hz'
              rw [hrest.out, hps, List.append_assoc, List.getElem?_append_right (by simp at hz'; omega)]
              rw [show k - (pathOf (i - lo) (subl hs (lo) (lo + s))).length = 0 by simp at hz'; omega]
              rfl
            have hq1 := hrange hP hpq
            have HQ : ∀ w', Below wr.heap.size wr w' → w'.rangeAt bp (op + 32 * k) (arr8 32 (rootOf (subl hs (lo + s) (hi)))).toList := fun w' hb' =>
              rangeAt_below (rangeAt_below hq1.2 hbw hq1.1) hb' (Nat.lt_of_lt_of_le hq1.1 hbw.size)
            have hkl : k < PL.length := (List.getElem?_eq_some_iff.1 hpq).1
            have hsl2 : (subl hs (lo + s) (hi)).length = hi - (lo + s) := subl_length hs _ _ (by omega)
            have HRT : ∀ w', Below wr.heap.size wr w' → Calls Tryd.prog 16 #[.slice (some ⟨b, o + 32 * (lo + s), none⟩) (hi - (lo + s)) (c - (lo + s))] w' fun e w'' => e = .returned (.agg (arr8 32 (rootOf (subl hs (lo + s) (hi))))) ∧ Below w'.heap.size w' w'' := fun w' hb' => by
              have h := drootn_any (subl hs (lo + s) (hi)).length (subl hs (lo + s) (hi)) (some ⟨b, o + 32 * (lo + s), none⟩) (c - (lo + s)) w' (Nat.le_refl _) ((((hO.below hbw).below hb').hdrop (lo + s) (by omega)).htake (hi - (lo + s)) (by rw [List.length_drop]; omega)) (by rw [hsl2]; omega) (by rw [hsl2]; omega)
              rwa [hsl2] at h
            have HPS := Lib.hid hps
            clear hps hpq hq1 hsl2
            generalize rootOf (subl hs (lo + s) (hi)) = q at *
            go_upto_region 23 with (fail)
            refine wp_region_spec [Sp.k 0 (some 63) [] (.slice (some ⟨bp, op, none⟩) PL.length c1),
              Sp.k 1 (some 64) [] (.int .i64 k),
              Sp.k 2 (some 65) [0, 1] (.pointer (some ⟨bp, op + 32 * k, none⟩)),
              Sp.k 3 (some 66) [2] (.agg (arr8 32 q)),
              Sp.k 4 (some 67) [] (.slice (some ⟨b, o, none⟩) hs.length c),
              Sp.k 5 (some 68) [] (.int .i64 ((lo + s : Nat) : Int)),
              Sp.k 6 (some 69) [] (.int .i64 hi),
              Sp.k 7 (some 70) [4, 5, 6] (.slice (some ⟨b, o + 32 * (lo + s), none⟩) (hi - (lo + s)) (c - (lo + s))),
              Sp.k 8 (some 71) [7] (.agg (arr8 32 q)),
              Sp.k 9 (some 72) [3, 8] (.bool false)] (by kernel_rfl) (by kernel_rfl)
              ⟨owes_move 0 (some 63) [] (.slice (some ⟨bp, op, none⟩) PL.length c1) (Go.Operand.tmp 8) (fun v => by kernel_rfl) (fun v => by kernel_rfl),
              owes_move 1 (some 64) [] (.int .i64 k) (Go.Operand.tmp 12) (fun v => by kernel_rfl) (fun v => by kernel_rfl),
              owes_index 2 (some 65) [0, 1] (.pointer (some ⟨bp, op + 32 * k, none⟩)) 26 (Go.Operand.tmp 63) (Go.Operand.tmp 64) (.slice (some ⟨bp, op, none⟩) PL.length c1) (.int .i64 k) (fun v => by kernel_rfl) (fun v => by kernel_rfl) (idxH bp op _ c1 k (by omega)),
              owes_load 3 (some 66) [2] (.agg (arr8 32 q)) 24 (Go.Operand.tmp 65) (.pointer (some ⟨bp, op + 32 * k, none⟩)) (fun v => by kernel_rfl) (fun v => by kernel_rfl) (fun w' hb => load_hash _ _ _ w' (HQ w' (drB hb))),
              owes_move 4 (some 67) [] (.slice (some ⟨b, o, none⟩) hs.length c) (Go.Operand.tmp 6) (fun v => by kernel_rfl) (fun v => by kernel_rfl),
              owes_move 5 (some 68) [] (.int .i64 ((lo + s : Nat) : Int)) (Go.Operand.tmp 13) (fun v => by kernel_rfl) (fun v => by kernel_rfl),
              owes_move 6 (some 69) [] (.int .i64 hi) (Go.Operand.tmp 11) (fun v => by kernel_rfl) (fun v => by kernel_rfl),
              owes_slice 7 (some 70) [4, 5, 6] (.slice (some ⟨b, o + 32 * (lo + s), none⟩) (hi - (lo + s)) (c - (lo + s))) 26 (Go.Operand.tmp 67) (some (Go.Operand.tmp 68)) (some (Go.Operand.tmp 69)) none (.slice (some ⟨b, o, none⟩) hs.length c) (some (.int .i64 ((lo + s : Nat) : Int))) (some (.int .i64 hi)) none (fun v => by kernel_rfl) (fun v => by kernel_rfl) (slH_lh b o _ c (lo + s) (hi) (by omega) (by omega) (by omega)),
              owes_call 8 (some 71) [7] (.agg (arr8 32 q)) 16 #[Go.Operand.tmp 70] #[26] (fun v => by kernel_rfl) (fun _ _ => by kernel_rfl) (fun v w' hb ho => by
                  exact ⟨#[.slice (some ⟨b, o + 32 * (lo + s), none⟩) (hi - (lo + s)) (c - (lo + s))], by kernel_rfl, (HRT w' (drB hb)).mono (fun _ _ h => h)⟩),
              owes_neq 9 (some 72) [3, 8] 24 (Go.Operand.tmp 66) (Go.Operand.tmp 71) 24 (arr8 32 q) (arr8 32 q) true (fun v => by kernel_rfl) (fun v => by kernel_rfl) (by kernel_rfl) (hash_same q q rfl), trivial⟩ ?_
            intro v w' hb' hall
            clear hall HQ HRT
            have hbb := below_tr hbw (drB hb')
            clear hb'
            simp only [putsL_k, putsL_nil, List.set_cons_zero, List.set_cons_succ]
            go_wp2_with fail
            go_roundw
            case rel =>
              refine ⟨lo, lo + s, (k : Int) - 1, [q] ++ rest, rfl, rfl, by go_num, by omega, by omega, by omega, ?_, ?_, hbb⟩
              · exact Lib.hid (by rw [hrest.out, HPS.out]; simp)
              · have hz' := hz.out
                rw [HPS.out, List.length_append] at hz'
                exact Lib.hid (by simp at hz' ⊢; omega)
            case measure => simp [intOf]
          · go_upto_region 22 with (fail)
            refine wp_region_text [Sp.k 0 (some 60) [] (.int .i64 i),
              Sp.k 1 (some 61) [] (.int .i64 ((lo + s : Nat) : Int)),
              Sp.k 2 (some 62) [0, 1] (.bool false)] (by kernel_rfl)
              ⟨owes_move 0 (some 60) [] (.int .i64 i) (Go.Operand.tmp 1) (fun v => by kernel_rfl) (fun v => by kernel_rfl),
              owes_move 1 (some 61) [] (.int .i64 ((lo + s : Nat) : Int)) (Go.Operand.tmp 13) (fun v => by kernel_rfl) (fun v => by kernel_rfl),
              owes_bin 2 (some 62) [0, 1] (.bool false) Go.BinOp.lss 3 (Go.Operand.tmp 60) (Go.Operand.tmp 61) 3 (.int .i64 i) (.int .i64 ((lo + s : Nat) : Int)) (fun v => by kernel_rfl) (fun v => by kernel_rfl) (fun w => by rw [lt_i64, decide_eq_false (by omega)]), trivial⟩ ?_
            intro v wr hbq hall
            clear hall
            simp only [putsL_k, putsL_nil, List.set_cons_zero, List.set_cons_succ]
            replace hbw := below_tr hbw hbq
            clear hbq
            have hps := pathOf_right (i - lo) (subl hs lo hi) (by rw [hsl]; omega) (by rw [hsl, ← HS.out]; omega)
            rw [hsl, ← HS.out, subl_take hs lo hi s (by omega), subl_drop hs lo hi s (by omega)] at hps
            have hpq : PL[k]? = some (rootOf (subl hs (lo) (lo + s))) := by
              have hz' := hz.out
              rw [hps, List.length_append] at hz'
              rw [hrest.out, hps, List.append_assoc, List.getElem?_append_right (by simp at hz'; omega)]
              rw [show k - (pathOf (i - lo - s) (subl hs (lo + s) (hi))).length = 0 by simp at hz'; omega]
              rfl
            have hq1 := hrange hP hpq
            have HQ : ∀ w', Below wr.heap.size wr w' → w'.rangeAt bp (op + 32 * k) (arr8 32 (rootOf (subl hs (lo) (lo + s)))).toList := fun w' hb' =>
              rangeAt_below (rangeAt_below hq1.2 hbw hq1.1) hb' (Nat.lt_of_lt_of_le hq1.1 hbw.size)
            have hkl : k < PL.length := (List.getElem?_eq_some_iff.1 hpq).1
            have hsl2 : (subl hs (lo) (lo + s)).length = lo + s - (lo) := subl_length hs _ _ (by omega)
            have HRT : ∀ w', Below wr.heap.size wr w' → Calls Tryd.prog 16 #[.slice (some ⟨b, o + 32 * (lo), none⟩) (lo + s - (lo)) (c - (lo))] w' fun e w'' => e = .returned (.agg (arr8 32 (rootOf (subl hs (lo) (lo + s))))) ∧ Below w'.heap.size w' w'' := fun w' hb' => by
              have h := drootn_any (subl hs (lo) (lo + s)).length (subl hs (lo) (lo + s)) (some ⟨b, o + 32 * (lo), none⟩) (c - (lo)) w' (Nat.le_refl _) ((((hO.below hbw).below hb').hdrop (lo) (by omega)).htake (lo + s - (lo)) (by rw [List.length_drop]; omega)) (by rw [hsl2]; omega) (by rw [hsl2]; omega)
              rwa [hsl2] at h
            have HPS := Lib.hid hps
            clear hps hpq hq1 hsl2
            generalize rootOf (subl hs (lo) (lo + s)) = q at *
            go_upto_region 26 with (fail)
            refine wp_region_spec [Sp.k 0 (some 74) [] (.slice (some ⟨bp, op, none⟩) PL.length c1),
              Sp.k 1 (some 75) [] (.int .i64 k),
              Sp.k 2 (some 76) [0, 1] (.pointer (some ⟨bp, op + 32 * k, none⟩)),
              Sp.k 3 (some 77) [2] (.agg (arr8 32 q)),
              Sp.k 4 (some 78) [] (.slice (some ⟨b, o, none⟩) hs.length c),
              Sp.k 5 (some 79) [] (.int .i64 lo),
              Sp.k 6 (some 80) [] (.int .i64 ((lo + s : Nat) : Int)),
              Sp.k 7 (some 81) [4, 5, 6] (.slice (some ⟨b, o + 32 * (lo), none⟩) (lo + s - (lo)) (c - (lo))),
              Sp.k 8 (some 82) [7] (.agg (arr8 32 q)),
              Sp.k 9 (some 83) [3, 8] (.bool false)] (by kernel_rfl) (by kernel_rfl)
              ⟨owes_move 0 (some 74) [] (.slice (some ⟨bp, op, none⟩) PL.length c1) (Go.Operand.tmp 8) (fun v => by kernel_rfl) (fun v => by kernel_rfl),
              owes_move 1 (some 75) [] (.int .i64 k) (Go.Operand.tmp 12) (fun v => by kernel_rfl) (fun v => by kernel_rfl),
              owes_index 2 (some 76) [0, 1] (.pointer (some ⟨bp, op + 32 * k, none⟩)) 26 (Go.Operand.tmp 74) (Go.Operand.tmp 75) (.slice (some ⟨bp, op, none⟩) PL.length c1) (.int .i64 k) (fun v => by kernel_rfl) (fun v => by kernel_rfl) (idxH bp op _ c1 k (by omega)),
              owes_load 3 (some 77) [2] (.agg (arr8 32 q)) 24 (Go.Operand.tmp 76) (.pointer (some ⟨bp, op + 32 * k, none⟩)) (fun v => by kernel_rfl) (fun v => by kernel_rfl) (fun w' hb => load_hash _ _ _ w' (HQ w' (drB hb))),
              owes_move 4 (some 78) [] (.slice (some ⟨b, o, none⟩) hs.length c) (Go.Operand.tmp 6) (fun v => by kernel_rfl) (fun v => by kernel_rfl),
              owes_move 5 (some 79) [] (.int .i64 lo) (Go.Operand.tmp 10) (fun v => by kernel_rfl) (fun v => by kernel_rfl),
              owes_move 6 (some 80) [] (.int .i64 ((lo + s : Nat) : Int)) (Go.Operand.tmp 13) (fun v => by kernel_rfl) (fun v => by kernel_rfl),
              owes_slice 7 (some 81) [4, 5, 6] (.slice (some ⟨b, o + 32 * (lo), none⟩) (lo + s - (lo)) (c - (lo))) 26 (Go.Operand.tmp 78) (some (Go.Operand.tmp 79)) (some (Go.Operand.tmp 80)) none (.slice (some ⟨b, o, none⟩) hs.length c) (some (.int .i64 lo)) (some (.int .i64 ((lo + s : Nat) : Int))) none (fun v => by kernel_rfl) (fun v => by kernel_rfl) (slH_lh b o _ c (lo) (lo + s) (by omega) (by omega) (by omega)),
              owes_call 8 (some 82) [7] (.agg (arr8 32 q)) 16 #[Go.Operand.tmp 81] #[26] (fun v => by kernel_rfl) (fun _ _ => by kernel_rfl) (fun v w' hb ho => by
                  exact ⟨#[.slice (some ⟨b, o + 32 * (lo), none⟩) (lo + s - (lo)) (c - (lo))], by kernel_rfl, (HRT w' (drB hb)).mono (fun _ _ h => h)⟩),
              owes_neq 9 (some 83) [3, 8] 24 (Go.Operand.tmp 77) (Go.Operand.tmp 82) 24 (arr8 32 q) (arr8 32 q) true (fun v => by kernel_rfl) (fun v => by kernel_rfl) (by kernel_rfl) (hash_same q q rfl), trivial⟩ ?_
            intro v w' hb' hall
            clear hall HQ HRT
            have hbb := below_tr hbw (drB hb')
            clear hb'
            simp only [putsL_k, putsL_nil, List.set_cons_zero, List.set_cons_succ]
            go_wp2_with fail
            go_roundw
            case rel =>
              refine ⟨lo + s, hi, (k : Int) - 1, [q] ++ rest, rfl, rfl, by go_num, by omega, by omega, by omega, ?_, ?_, hbb⟩
              · exact Lib.hid (by rw [hrest.out, HPS.out]; rw [show i - (lo + s) = i - lo - s by omega]; simp)
              · have hz' := hz.out
                rw [HPS.out, List.length_append] at hz'
                exact Lib.hid (by rw [show i - (lo + s) = i - lo - s by omega]; simp at hz' ⊢; omega)
            case measure => simp [intOf]
        · have hp0 := pathOf_nil (i - lo) (subl hs lo hi) (by have := hz.out; omega)
          rw [hsl] at hp0
          clear hsl
          go_upto_region 29 with (fail)
          refine wp_region_text [Sp.k 0 (some 85) [] (.bool true),
            Sp.k 1 (some 86) [0] (.bool true),
            Sp.k 2 (some 87) [1] (.int .i64 hi),
            Sp.k 3 (some 88) [1] (.int .i64 lo),
            Sp.k 4 (some 89) [1, 2, 3] (.int .i64 1),
            Sp.k 5 (some 90) [1, 4] (.bool true),
            Sp.k 6 (some 91) [1, 5] (.bool true),
            Sp.k 7 (some 92) [6] (.bool true),
            Sp.k 8 (some 93) [7] (.int .i64 lo),
            Sp.k 9 (some 94) [7] (.int .i64 i),
            Sp.k 10 (some 95) [7, 8, 9] (.bool true),
            Sp.k 11 (some 96) [7, 10] (.bool true),
            Sp.k 12 (some 4) [11] (.bool true)] (by kernel_rfl)
            ⟨owes_move 0 (some 85) [] (.bool true) (Go.Operand.tmp 5) (fun v => by kernel_rfl) (fun v => by kernel_rfl),
            owes_move 1 (some 86) [0] (.bool true) (Go.Operand.tmp 85) (fun v => by kernel_rfl) (fun v => by kernel_rfl),
            owes_move 2 (some 87) [1] (.int .i64 hi) (Go.Operand.tmp 11) (fun v => by kernel_rfl) (fun v => by kernel_rfl),
            owes_move 3 (some 88) [1] (.int .i64 lo) (Go.Operand.tmp 10) (fun v => by kernel_rfl) (fun v => by kernel_rfl),
            owes_bin 4 (some 89) [1, 2, 3] (.int .i64 1) Go.BinOp.sub 3 (Go.Operand.tmp 87) (Go.Operand.tmp 88) 3 (.int .i64 hi) (.int .i64 lo) (fun v => by kernel_rfl) (fun v => by kernel_rfl) (sub_i64 _ _ _ _ _ _ (by omega) (by omega) (by omega)),
            owes_bin 5 (some 90) [1, 4] (.bool true) Go.BinOp.eql 3 (Go.Operand.tmp 89) (Go.Operand.const (Go.Value.int Go.IntKind.i64 1)) 3 (.int .i64 1) (Go.Value.int Go.IntKind.i64 1) (fun v => by kernel_rfl) (fun v => by kernel_rfl) (fun w => by kernel_rfl),
            owes_pick 6 (some 91) [1, 5] (.bool true) (Go.Operand.tmp 86) (Go.Operand.tmp 90) (Go.Operand.const (Go.Value.bool false)) true (fun v => by kernel_rfl) (fun v => by kernel_rfl) (fun v => by kernel_rfl),
            owes_move 7 (some 92) [6] (.bool true) (Go.Operand.tmp 91) (fun v => by kernel_rfl) (fun v => by kernel_rfl),
            owes_move 8 (some 93) [7] (.int .i64 lo) (Go.Operand.tmp 10) (fun v => by kernel_rfl) (fun v => by kernel_rfl),
            owes_move 9 (some 94) [7] (.int .i64 i) (Go.Operand.tmp 1) (fun v => by kernel_rfl) (fun v => by kernel_rfl),
            owes_bin 10 (some 95) [7, 8, 9] (.bool true) Go.BinOp.eql 3 (Go.Operand.tmp 93) (Go.Operand.tmp 94) 3 (.int .i64 lo) (.int .i64 i) (fun v => by kernel_rfl) (fun v => by kernel_rfl) (fun w => by rw [eq_i64, beq_iff_eq.2 (by omega)]),
            owes_pick 11 (some 96) [7, 10] (.bool true) (Go.Operand.tmp 92) (Go.Operand.tmp 95) (Go.Operand.const (Go.Value.bool false)) true (fun v => by kernel_rfl) (fun v => by kernel_rfl) (fun v => by kernel_rfl),
            owes_assign 12 (some 4) [11] (.bool true) (Go.Operand.tmp 96) (fun v => by kernel_rfl) (fun v => by kernel_rfl), trivial⟩ ?_
          intro v w' hb' hall
          clear hall
          have hbb := below_tr hbw0 (below_tr hbw hb')
          clear hb'
          simp only [putsL_k, putsL_nil, List.set_cons_zero, List.set_cons_succ]
          go_wp2_with fail
          go_ret
          exact ⟨rfl, hbb⟩
end Go.Proofs.YtihnpcoiadbpiaaDoor
