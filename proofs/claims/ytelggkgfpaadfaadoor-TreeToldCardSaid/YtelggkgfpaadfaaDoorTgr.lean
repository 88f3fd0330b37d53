import Derived.Test.YtelggkgfpaadfaaDoorTpt
namespace Go.Proofs.YtelggkgfpaadfaaDoor
open Go.RowKit

theorem owes_len {P : Program} {ops : Array Oper} {l : List Sp} {a : Act} {w : World} (i : Nat) (dst : Option Tmp) (anc : List Nat) (r : Value) (x : Operand) (t ty : TypeId) (vx : Value) (hop : ∀ v, ops[i]?.map (fun o => (o.op, Region.wanted o (yielded ops (fr l anc a v).tmps))) = some (.call { callee := .builtin .len, args := #[x], argTypes := #[t] }, true)) (hty : ops[i]?.map (·.type) = some ty)
    (hx : ∀ v, (fr l anc a v).eval x = vx) (he : ∀ w, (Builtin.len_ #[t] ty #[vx]).run P w = .ok r w) : Owes P ops l a w (Sp.k i dst anc r) :=
  .mk_k fun v w' hb ho o hi => by
    have h := hop v
    rw [hi] at h hty
    simp only [Option.map_some, Option.some.injEq, Prod.mk.injEq] at h hty
    refine .value (v := r) (w' := w') h.2 ?_ ⟨Below.refl _ _, Cells.refl _, rfl⟩
    simp only [execOp, h.1, resolve, invoke, builtin, Sem.run_bind, Sem.run_pure, Result.andThen_ok, List.map_toArray, List.map_cons, List.map_nil, hx v, hty, he w']
theorem eq_false (t : TypeId) (x y : Operand) {a b : Int} (h : ¬ a = b) (w : World) : (do eqGuard .eql t x y (.int .i64 a) (.int .i64 b); binOp .eql t (.int .i64 a) (.int .i64 b) : Sem Value).run Tryd.prog w = .ok (.bool false) w := by
  have hb : (a == b) = false := by simpa using h
  simp [eqGuard, binOp, Op.intCmp, hb]
theorem sl32_lh (b o n cap k h : Nat) (hk : k < cap) (hkh : k ≤ h) (hh : h ≤ cap) (w : World) : (Instr.sliceAt 27 (.slice (some ⟨b, o, none⟩) n cap) (some (.int .i64 (k : Int))) (some (.int .i64 (h : Int))) none).run Tryd.prog w = .ok (.slice (some ⟨b, o + 32 * k, none⟩) (h - k) (cap - k)) w := by
  have hu := Tryd.underlying27
  have e2 : Tryd.prog.elem 27 = 25 := by simp [Program.elem, hu]
  have := run_slice_lh (P := Tryd.prog) w 27 (some ⟨b, o, none⟩) n cap (by rw [e2]; exact hu) .i64 .i64 (k : Int) (h : Int) (by omega) (by omega) (by omega)
  rw [e2] at this
  obtain ⟨i, hi, hz⟩ := Option.map_eq_some_iff.1 info32
  rw [run_sliceAt_slice (h := by rw [e2]; exact hu), this]
  have hne : ¬ cap = k := by omega
  simp [sizeOf, typeInfo, hi, hz, Result.andThen, sliced, Addr.add, hne]
  try (split <;> simp <;> omega)
structure GrAt (w : World) (A : Option Addr) (xs : List Int) (v : Value) (hs : List (Nat → BitVec 8)) (wr : World) : Prop where
  own : wr.ownsRow w.heap.size 25 32 v hs.length (hcells hs)
  l : SlRead wr A (ints .i64 xs)
  k : KAt wr
  b : Below w.heap.size w wr
structure Gr2 (w : World) (O : Option Addr) (hs : List (Nat → BitVec 8)) (wr : World) : Prop where
  l : SlRead wr O (hcells hs)
  k : KAt wr
  b : Below w.heap.size w wr
theorem Gr2.below {w : World} {O : Option Addr} {hs : List (Nat → BitVec 8)} {wr w' : World} (h : Gr2 w O hs wr) (hb : Below wr.heap.size wr w') : Gr2 w O hs w' := ⟨h.l.below hb, h.k.below hb, h.b.trans (hb.mono h.b.size)⟩

set_option maxRecDepth 100000 in
set_option maxHeartbeats 1600000 in
theorem grows_walk (A : Option Addr) (xs : List Int) (ca : Nat) (w : World) (hA : SlRead w A (ints .i64 xs)) (hla : xs.length ≤ 9223372036854775807) (hk : KAt w) :
    Calls Tryd.prog 7 #[.slice A xs.length ca] w fun e w' => e = .returned (.bool true) ∧ Below w.heap.size w w' := by
  go_enter Tryd.func7, Tryd.ntmps7
  go_wp2_with fail
  refine (first_any w hk).mono ?_
  rintro e W1 ⟨rfl, hB1⟩
  have hA1 := hA.below hB1
  have hk1 := hk.below hB1
  have hkk := fun wr (hb : Below w.heap.size w wr) => hk.below hb
  have hAll : ∀ wr, Below w.heap.size w wr → SlRead wr A (ints .i64 xs) := fun wr hb => hA.below hb
  clear hA hk
  by_cases h1 : 40 < xs.length
  · have b1 : decide ((40 : Int) < (xs.length : Int)) = true := by simp; omega
    go_wp2_with fail
    go_ret
    exact ⟨rfl, hB1⟩
  have b1 : decide ((40 : Int) < (xs.length : Int)) = false := by simp; omega
  have hat : GrAt w A xs (.slice none 0 0) [] W1 := ⟨World.ownsRow_nil W1 _ _ _, hA1, hk1, hB1⟩
  clear hA1 hk1 hB1
  go_wp2_with fail
  go_loopw [4, 5] (fun v i' wr => ∃ (k : Nat) (hs : List (Nat → BitVec 8)), i' = .int .i64 k ∧ k ≤ xs.length ∧ hs.length = k ∧ GrAt w A xs v hs wr) (fun _ i' _ => (xs.length - (intOf i').toNat))
  case atStart => exact ⟨0, [], rfl, by omega, rfl, hat⟩
  clear hat
  case round =>
    obtain ⟨k, hs, rfl, hkx, hhs, hat⟩ := hrel
    have HHS := Lib.hid hhs; clear hhs
    by_cases hlt : k < xs.length
    · obtain ⟨b, o, x, rfl, hc, _⟩ := hat.l.at_ hlt
      have hk0 : decide ((k : Int) < (xs.length : Int)) = true := by simp; omega
      go_wp2_with fail
      refine (key_any x wr).mono ?_
      rintro e W3 ⟨f, rfl, hb3⟩
      have hsz := hat.b.size
      have hown3 : W3.ownsRow w.heap.size 25 32 _ hs.length (hcells hs) := ownsRow_via hat.own (fun q _ hl => hb3.block q hl)
      have hB3 : Below w.heap.size w W3 := hat.b.trans (hb3.mono hsz)
      obtain ⟨v5, W5, hr5, hown5, hg5⟩ := run_hash 27 W3 w.heap.size _ hs f hown3 hB3.size (by rw [HHS.out]; omega)
      have hbslf := bsl_hash f W3
      have hat5 : GrAt w (some ⟨b, o, none⟩) xs v5 (hs ++ [f]) W5 := by
        have hb4 : Below W3.heap.size W3 (W3.alloc (.cells (arr8 32 f) 25)) := (Below.refl _ _).alloc (Nat.le_refl _) _
        have hb5 : Below w.heap.size (W3.alloc (.cells (arr8 32 f) 25)) W5 := (Below.refl _ _).grown hg5 (by have := hB3.size; simp; omega) (fun q hq => (hown3.lt q hq).1)
        have hbw : Below w.heap.size w W5 := hB3.trans ((hb4.mono hB3.size).trans hb5)
        exact ⟨hown5, hAll W5 hbw, hkk W5 hbw, hbw⟩
      clear hat hb3 hown3 hown5 hg5 hB3
      go_wp2_with (first | (refine wpList_bsl_run (by kernel_rfl) 27 1 _ rfl #[(0, .agg (arr8 32 f))] (by kernel_rfl) _ _ hbslf ?_) | (at_builtin; refine wpList_append_run_g (by kernel_rfl) _ _ _ _ rfl _ _ rfl rfl _ _ hr5 ?_))
      go_roundw
      case rel => exact ⟨k + 1, hs ++ [f], by go_num, by omega, by simp [HHS.out], hat5⟩
      case measure => simp [intOf]; omega
    · have hke : k = xs.length := by omega
      have hk0 : decide ((k : Int) < (xs.length : Int)) = false := by simp; omega
      obtain ⟨own, _, hkr, hbr⟩ := hat
      clear hkk hAll
      rcases own.2 with ⟨rfl, h0⟩ | ⟨b, c, cur, rfl, _, _, h3, h4, _, _⟩
      · obtain rfl := List.eq_nil_of_length_eq_zero h0
        clear own
        have hsl : decide ((2 : Int) ≤ 0) = false := by decide
        go_wp2_with fail
        go_loopw [6, 7] (fun i _ wr' => i = .int .i64 2 ∧ wr' = wr) (fun _ _ _ => 0)
        case atStart => exact ⟨rfl, rfl⟩
        case round =>
          obtain ⟨rfl, rfl⟩ := hrel
          go_upto_region 19 with (fail)
          refine wp_region_spec_v [Sp.k 0 (some 59) [] (.bool true),
            Sp.k 1 (some 60) [0] (.bool true),
            Sp.k 2 (some 61) [1] (.slice none 0 0),
            Sp.k 3 (some 62) [1, 2] (.int .i64 0),
            Sp.k 4 (some 63) [1, 3] (.bool true),
            Sp.k 5 (some 64) [1, 4] (.bool true),
            Sp.k 6 (some 65) [5] (undef),
            Sp.k 7 (some 66) [5, 6] (undef),
            Sp.k 8 (some 67) [5, 7] (undef),
            Sp.k 9 (some 68) [5] (undef),
            Sp.k 10 (some 69) [5, 9] (undef),
            Sp.k 11 (some 70) [5, 10] (undef),
            Sp.k 12 (some 71) [5, 8, 11] (undef),
            Sp.k 13 (some 72) [1, 5, 12] (Go.Value.bool true),
            Sp.k 14 (some 73) [1, 13] (Go.Value.bool true),
            Sp.k 15 (some 2) [14] (Go.Value.bool true)] (by kernel_rfl) (by kernel_rfl)
            ⟨owes_move 0 (some 59) [] (.bool true) (Go.Operand.tmp 3) (fun v => by kernel_rfl) (fun v => by kernel_rfl),
            owes_move 1 (some 60) [0] (.bool true) (Go.Operand.tmp 59) (fun v => by kernel_rfl) (fun v => by kernel_rfl),
            owes_move 2 (some 61) [1] (.slice none 0 0) (Go.Operand.tmp 4) (fun v => by kernel_rfl) (fun v => by kernel_rfl),
            owes_len 3 (some 62) [1, 2] (.int .i64 0) (.tmp 61) 27 3 (.slice none 0 0) (fun v => by kernel_rfl) (by kernel_rfl) (fun v => by kernel_rfl) (fun w => by kernel_rfl),
            owes_bin 4 (some 63) [1, 3] (.bool true) Go.BinOp.eql 3 (Go.Operand.tmp 62) (Go.Operand.const (Go.Value.int Go.IntKind.i64 0)) 3 (.int .i64 0) (Go.Value.int Go.IntKind.i64 0) (fun v => by kernel_rfl) (fun v => by kernel_rfl) (fun w => by kernel_rfl),
            owes_move 5 (some 64) [1, 4] (.bool true) (Go.Operand.tmp 63) (fun v => by kernel_rfl) (fun v => by kernel_rfl),
            owes_skip 6 (some 65) [5] (fun v => by kernel_rfl),
            owes_skip 7 (some 66) [5, 6] (fun v => by kernel_rfl),
            owes_skip 8 (some 67) [5, 7] (fun v => by kernel_rfl),
            owes_skip 9 (some 68) [5] (fun v => by kernel_rfl),
            owes_skip 10 (some 69) [5, 9] (fun v => by kernel_rfl),
            owes_skip 11 (some 70) [5, 10] (fun v => by kernel_rfl),
            owes_skip 12 (some 71) [5, 8, 11] (fun v => by kernel_rfl),
            owes_pick 13 (some 72) [1, 5, 12] (Go.Value.bool true) (Go.Operand.tmp 64) (Go.Operand.const (Go.Value.bool true)) (Go.Operand.tmp 71) true (fun v => by kernel_rfl) (fun v => by kernel_rfl) (fun v => by kernel_rfl),
            owes_pick 14 (some 73) [1, 13] (Go.Value.bool true) (Go.Operand.tmp 60) (Go.Operand.tmp 72) (Go.Operand.const (Go.Value.bool false)) true (fun v => by kernel_rfl) (fun v => by kernel_rfl) (fun v => by kernel_rfl),
            owes_assign 15 (some 2) [14] (Go.Value.bool true) (Go.Operand.tmp 73) (fun v => by kernel_rfl) (fun v => by kernel_rfl), trivial⟩ ?_
          intro v w' A' hA' hb hall
          have hs2 : A'.tmps.getD 2 undef = .bool true := by rw [hA']; kernel_rfl
          have hd2 : A'.defers = [] := by rw [hA']; kernel_rfl
          have hbe := hbr.trans ((Below.drewNr 1).trans (hb.mono hbr.size))
          clear hall hb hA'
          go_wp2_with fail
          exact ret_slot 2 rfl hs2 hd2 ⟨rfl, hbe⟩
      · have hsr := SlRead.of_own32 own
        have hg2 : Gr2 w (some ⟨b, 0, none⟩) hs wr := ⟨hsr, hkr, hbr⟩
        clear own hsr hkr hbr h4
        have hm40 : hs.length ≤ 40 := by rw [HHS.out]; omega
        clear hke hkx hk0 HHS
        go_wp2_with fail
        go_loopw [6, 7] (fun i _ wr' => ∃ n : Nat, 2 ≤ n ∧ n ≤ 42 ∧ i = .int .i64 n ∧ Gr2 w (some ⟨b, 0, none⟩) hs wr') (fun i _ _ => 42 - (intOf i).toNat)
        case atStart => exact ⟨2, by omega, by omega, rfl, hg2⟩
        clear hg2
        case round =>
          obtain ⟨n, hn2, hn42, rfl, hg⟩ := hrel
          by_cases hle : n ≤ hs.length
          · have hle' : decide ((n : Int) ≤ (hs.length : Int)) = true := by simp; omega
            have htn : (hs.take n).length = n := by rw [List.length_take]; omega
            have hspc := spl_spec n hn2
            have hrt := rootOf_two (hs.take n) (by omega)
            rw [htn] at hrt
            have hsp := fun w' => split_any (n : Int) (by omega) w'
            rw [Int.toNat_natCast] at hsp
            have RA := fun w' (hg : Gr2 w (some ⟨b, 0, none⟩) hs w') => root_any n (hs.take n) (some ⟨b, 0, none⟩) c w' (by omega) (hg.l.htake n hle) (by omega) (by omega) hg.k
            have RL := fun w' (hg : Gr2 w (some ⟨b, 0, none⟩) hs w') => root_any n ((hs.take n).take (spl n)) (some ⟨b, 0, none⟩) c w' (by rw [List.length_take]; omega) ((hg.l.htake n hle).htake (spl n) (by omega)) (by rw [List.length_take]; omega) (by rw [List.length_take]; omega) hg.k
            have RR := fun w' (hg : Gr2 w (some ⟨b, 0, none⟩) hs w') => root_any n ((hs.take n).drop (spl n)) (some ⟨b, 0 + 32 * spl n, none⟩) (c - spl n) w' (by rw [List.length_drop]; omega) ((hg.l.htake n hle).hdrop (spl n) (by omega)) (by rw [List.length_drop]; omega) (by rw [List.length_drop]; omega) hg.k
            rw [hrt, htn] at RA
            rw [show ((hs.take n).take (spl n)).length = spl n by rw [List.length_take]; omega] at RL
            rw [show ((hs.take n).drop (spl n)).length = n - spl n by rw [List.length_drop, htn]] at RR
            generalize rootOf ((hs.take n).take (spl n)) = FL at *
            generalize rootOf ((hs.take n).drop (spl n)) = FR at *
            clear hrt htn
            generalize spl n = k at *
            generalize hm : hs.length = m at *
            clear hm
            have bk1 : decide ((k : Int) < 1) = false := by simp; omega
            have bk2 : decide ((n : Int) ≤ (k : Int)) = false := by simp; omega
            go_wp2_with fail
            refine (hsp wr).mono ?_
            rintro e W3 ⟨rfl, hb3⟩
            have hg3 := hg.below hb3
            clear hg hb3 hsp
            go_wp2_with fail
            go_upto_region 17 with (fail)
            have hgd := hg3.below (Below.drewNr (w := W3) 1)
            have HRT := fun w' (hb : Below W3.drew.heap.size W3.drew w') => RA w' (hgd.below hb)
            have HL := fun w' (hb : Below W3.drew.heap.size W3.drew w') => RL w' (hgd.below hb)
            have HR := fun w' (hb : Below W3.drew.heap.size W3.drew w') => RR w' (hgd.below hb)
            have HN := fun w' => dnode_any FL FR w'
            generalize nodeOf FL FR = ND at *
            clear RA RL RR hg3
            refine wp_region_spec [Sp.k 0 (some 44) [] (.slice (some ⟨b, 0, none⟩) m c),
              Sp.k 1 (some 45) [] (.int .i64 n),
              Sp.k 2 (some 46) [0, 1] (.slice (some ⟨b, 0, none⟩) n c),
              Sp.k 3 (some 47) [2] (.agg (arr8 32 ND)),
              Sp.k 4 (some 48) [] (.slice (some ⟨b, 0, none⟩) m c),
              Sp.k 5 (some 49) [] (.int .i64 k),
              Sp.k 6 (some 50) [4, 5] (.slice (some ⟨b, 0, none⟩) k c),
              Sp.k 7 (some 51) [6] (.agg (arr8 32 FL)),
              Sp.k 8 (some 52) [] (.slice (some ⟨b, 0, none⟩) m c),
              Sp.k 9 (some 53) [] (.int .i64 k),
              Sp.k 10 (some 54) [] (.int .i64 n),
              Sp.k 11 (some 55) [8, 9, 10] (.slice (some ⟨b, 0 + 32 * k, none⟩) (n - k) (c - k)),
              Sp.k 12 (some 56) [11] (.agg (arr8 32 FR)),
              Sp.k 13 (some 57) [7, 12] (.agg (arr8 32 ND)),
              Sp.k 14 (some 58) [3, 13] (.bool false)] (by kernel_rfl) (by kernel_rfl)
              ⟨owes_move 0 (some 44) [] (.slice (some ⟨b, 0, none⟩) m c) (Go.Operand.tmp 4) (fun v => by kernel_rfl) (fun v => by kernel_rfl),
              owes_move 1 (some 45) [] (.int .i64 n) (Go.Operand.tmp 6) (fun v => by kernel_rfl) (fun v => by kernel_rfl),
              owes_slice 2 (some 46) [0, 1] (.slice (some ⟨b, 0, none⟩) n c) 27 (Go.Operand.tmp 44) none (some (Go.Operand.tmp 45)) none (.slice (some ⟨b, 0, none⟩) m c) none (some (.int .i64 n)) none (fun v => by kernel_rfl) (fun v => by kernel_rfl) (sl32_h b 0 _ c n (by omega)),
              owes_call 3 (some 47) [2] (.agg (arr8 32 ND)) 17 #[Go.Operand.tmp 46] #[27] (fun v => by kernel_rfl) (fun _ _ => by kernel_rfl) (fun v w' hb ho => by
                  exact ⟨#[.slice (some ⟨b, 0, none⟩) n c], by kernel_rfl, (HRT w' hb).mono (fun _ _ h => h)⟩),
              owes_move 4 (some 48) [] (.slice (some ⟨b, 0, none⟩) m c) (Go.Operand.tmp 4) (fun v => by kernel_rfl) (fun v => by kernel_rfl),
              owes_move 5 (some 49) [] (.int .i64 k) (Go.Operand.tmp 7) (fun v => by kernel_rfl) (fun v => by kernel_rfl),
              owes_slice 6 (some 50) [4, 5] (.slice (some ⟨b, 0, none⟩) k c) 27 (Go.Operand.tmp 48) none (some (Go.Operand.tmp 49)) none (.slice (some ⟨b, 0, none⟩) m c) none (some (.int .i64 k)) none (fun v => by kernel_rfl) (fun v => by kernel_rfl) (sl32_h b 0 _ c k (by omega)),
              owes_call 7 (some 51) [6] (.agg (arr8 32 FL)) 17 #[Go.Operand.tmp 50] #[27] (fun v => by kernel_rfl) (fun _ _ => by kernel_rfl) (fun v w' hb ho => by
                  exact ⟨#[.slice (some ⟨b, 0, none⟩) k c], by kernel_rfl, (HL w' hb).mono (fun _ _ h => h)⟩),
              owes_move 8 (some 52) [] (.slice (some ⟨b, 0, none⟩) m c) (Go.Operand.tmp 4) (fun v => by kernel_rfl) (fun v => by kernel_rfl),
              owes_move 9 (some 53) [] (.int .i64 k) (Go.Operand.tmp 7) (fun v => by kernel_rfl) (fun v => by kernel_rfl),
              owes_move 10 (some 54) [] (.int .i64 n) (Go.Operand.tmp 6) (fun v => by kernel_rfl) (fun v => by kernel_rfl),
              owes_slice 11 (some 55) [8, 9, 10] (.slice (some ⟨b, 0 + 32 * k, none⟩) (n - k) (c - k)) 27 (Go.Operand.tmp 52) (some (Go.Operand.tmp 53)) (some (Go.Operand.tmp 54)) none (.slice (some ⟨b, 0, none⟩) m c) (some (.int .i64 k)) (some (.int .i64 n)) none (fun v => by kernel_rfl) (fun v => by kernel_rfl) (sl32_lh b 0 m c k n (by omega) (by omega) (by omega)),
              owes_call 12 (some 56) [11] (.agg (arr8 32 FR)) 17 #[Go.Operand.tmp 55] #[27] (fun v => by kernel_rfl) (fun _ _ => by kernel_rfl) (fun v w' hb ho => by
                  exact ⟨#[.slice (some ⟨b, 0 + 32 * k, none⟩) (n - k) (c - k)], by kernel_rfl, (HR w' hb).mono (fun _ _ h => h)⟩),
              owes_call 13 (some 57) [7, 12] (.agg (arr8 32 ND)) 14 #[Go.Operand.tmp 51, Go.Operand.tmp 56] #[25, 25] (fun v => by kernel_rfl) (fun _ _ => by kernel_rfl) (fun v w' hb ho => by
                  exact ⟨#[.agg (arr8 32 FL), .agg (arr8 32 FR)], by kernel_rfl, (HN w').mono (fun _ _ h => h)⟩),
              owes_neq 14 (some 58) [3, 13] 25 (Go.Operand.tmp 47) (Go.Operand.tmp 57) 25 (arr8 32 ND) (arr8 32 ND) true (fun v => by kernel_rfl) (fun v => by kernel_rfl) (by kernel_rfl) (equal32 ND), trivial⟩ ?_
            intro v w' hb hall
            have hgn := hgd.below hb
            clear hall hb hgd HRT HL HR HN
            simp only [putsL_k, putsL_nil, List.set_cons_zero, List.set_cons_succ]
            go_wp2_with fail
            go_roundw
            case rel => exact ⟨n + 1, by omega, by omega, by go_num, hgn⟩
            case measure => simp [intOf]; omega
          · have hle' : decide ((n : Int) ≤ (hs.length : Int)) = false := by simp; omega
            rcases hs with _ | ⟨h0, hs⟩
            · simp only [List.length_nil] at hle' ⊢
              go_upto_region 19 with (fail)
              refine wp_region_spec_v [Sp.k 0 (some 59) [] (.bool true),
                Sp.k 1 (some 60) [0] (.bool true),
                Sp.k 2 (some 61) [1] (.slice (some ⟨b, 0, none⟩) 0 c),
                Sp.k 3 (some 62) [1, 2] (.int .i64 0),
                Sp.k 4 (some 63) [1, 3] (.bool true),
                Sp.k 5 (some 64) [1, 4] (.bool true),
                Sp.k 6 (some 65) [5] (undef),
                Sp.k 7 (some 66) [5, 6] (undef),
                Sp.k 8 (some 67) [5, 7] (undef),
                Sp.k 9 (some 68) [5] (undef),
                Sp.k 10 (some 69) [5, 9] (undef),
                Sp.k 11 (some 70) [5, 10] (undef),
                Sp.k 12 (some 71) [5, 8, 11] (undef),
                Sp.k 13 (some 72) [1, 5, 12] (Go.Value.bool true),
                Sp.k 14 (some 73) [1, 13] (Go.Value.bool true),
                Sp.k 15 (some 2) [14] (Go.Value.bool true)] (by kernel_rfl) (by kernel_rfl)
                ⟨owes_move 0 (some 59) [] (.bool true) (Go.Operand.tmp 3) (fun v => by kernel_rfl) (fun v => by kernel_rfl),
                owes_move 1 (some 60) [0] (.bool true) (Go.Operand.tmp 59) (fun v => by kernel_rfl) (fun v => by kernel_rfl),
                owes_move 2 (some 61) [1] (.slice (some ⟨b, 0, none⟩) 0 c) (Go.Operand.tmp 4) (fun v => by kernel_rfl) (fun v => by kernel_rfl),
                owes_len 3 (some 62) [1, 2] (.int .i64 0) (.tmp 61) 27 3 (.slice (some ⟨b, 0, none⟩) 0 c) (fun v => by kernel_rfl) (by kernel_rfl) (fun v => by kernel_rfl) (fun w => by kernel_rfl),
                owes_bin 4 (some 63) [1, 3] (.bool true) Go.BinOp.eql 3 (Go.Operand.tmp 62) (Go.Operand.const (Go.Value.int Go.IntKind.i64 0)) 3 (.int .i64 0) (Go.Value.int Go.IntKind.i64 0) (fun v => by kernel_rfl) (fun v => by kernel_rfl) (fun w => by kernel_rfl),
                owes_move 5 (some 64) [1, 4] (.bool true) (Go.Operand.tmp 63) (fun v => by kernel_rfl) (fun v => by kernel_rfl),
                owes_skip 6 (some 65) [5] (fun v => by kernel_rfl),
                owes_skip 7 (some 66) [5, 6] (fun v => by kernel_rfl),
                owes_skip 8 (some 67) [5, 7] (fun v => by kernel_rfl),
                owes_skip 9 (some 68) [5] (fun v => by kernel_rfl),
                owes_skip 10 (some 69) [5, 9] (fun v => by kernel_rfl),
                owes_skip 11 (some 70) [5, 10] (fun v => by kernel_rfl),
                owes_skip 12 (some 71) [5, 8, 11] (fun v => by kernel_rfl),
                owes_pick 13 (some 72) [1, 5, 12] (Go.Value.bool true) (Go.Operand.tmp 64) (Go.Operand.const (Go.Value.bool true)) (Go.Operand.tmp 71) true (fun v => by kernel_rfl) (fun v => by kernel_rfl) (fun v => by kernel_rfl),
                owes_pick 14 (some 73) [1, 13] (Go.Value.bool true) (Go.Operand.tmp 60) (Go.Operand.tmp 72) (Go.Operand.const (Go.Value.bool false)) true (fun v => by kernel_rfl) (fun v => by kernel_rfl) (fun v => by kernel_rfl),
                owes_assign 15 (some 2) [14] (Go.Value.bool true) (Go.Operand.tmp 73) (fun v => by kernel_rfl) (fun v => by kernel_rfl), trivial⟩ ?_
              intro v w' A' hA' hb hall
              have hs2 : A'.tmps.getD 2 undef = .bool true := by rw [hA']; kernel_rfl
              have hd2 : A'.defers = [] := by rw [hA']; kernel_rfl
              have hbe := ((hg.below (Below.drewNr (w := wr) 1)).below hb).b
              clear hall hb hA'
              go_wp2_with fail
              exact ret_slot 2 rfl hs2 hd2 ⟨rfl, hbe⟩
            · have hgd := hg.below (Below.drewNr (w := wr) 1)
              have htk := hgd.l.htake 1 (by simp)
              obtain ⟨b', o', hbo, hbd, hcell⟩ := hgd.l (by rw [hcells_length]; simp)
              simp only [Option.some.injEq, Addr.mk.injEq, and_true] at hbo
              obtain ⟨eb, eo⟩ := hbo
              rw [← eb] at hbd hcell
              rw [← eo] at hcell
              clear eb eo
              have hrg : wr.drew.rangeAt b 0 (arr8 32 h0).toList := fun j v hv => hcell j v (by
                simp only [hcells, List.flatMap_cons]
                rw [List.getElem?_append_left (by exact (List.getElem?_eq_some_iff.1 hv).1)]
                exact hv)
              have RA := fun w' (hg : Gr2 w (some ⟨b, 0, none⟩) (h0 :: hs) w') => root_any 1 [h0] (some ⟨b, 0, none⟩) c w' (Nat.le_refl _) (hg.l.htake 1 (by simp)) (by simp at h3 ⊢; omega) (by simp) hg.k
              have HRT : ∀ w', Below wr.drew.heap.size wr.drew w' → Calls Tryd.prog 17 #[.slice (some ⟨b, 0, none⟩) 1 c] w' fun e w'' => e = .returned (.agg (arr8 32 h0)) ∧ Below w'.heap.size w' w'' := fun w' hb => RA w' (hgd.below hb)
              have HLD : ∀ w', Below wr.drew.heap.size wr.drew w' → (Instr.loadAt 25 (.pointer (some ⟨b, 0, none⟩))).run Tryd.prog w' = .ok (.agg (arr8 32 h0)) w' := by
                intro w' hb
                have := load_row (P := Tryd.prog) 25 b 0 (arr8 32 h0).toList _ Tryd.underlying25 rfl (by simp only [Array.length_toList, arr8_size]; kernel_rfl) w' (fun j v hv => (hb.cell (p := ⟨b, 0 + j, none⟩) hbd).trans (hrg j v hv))
                simpa using this
              clear hrg hcell htk RA
              have hm1 : 1 ≤ (h0 :: hs).length := by simp
              generalize (h0 :: hs).length = m at *
              go_upto_region 19 with (fail)
              refine wp_region_spec_v [Sp.k 0 (some 59) [] (.bool true),
                Sp.k 1 (some 60) [0] (.bool true),
                Sp.k 2 (some 61) [1] (.slice (some ⟨b, 0, none⟩) m c),
                Sp.k 3 (some 62) [1, 2] (.int .i64 m),
                Sp.k 4 (some 63) [1, 3] (.bool false),
                Sp.k 5 (some 64) [1, 4] (.bool false),
                Sp.k 6 (some 65) [5] (.slice (some ⟨b, 0, none⟩) m c),
                Sp.k 7 (some 66) [5, 6] (.slice (some ⟨b, 0, none⟩) 1 c),
                Sp.k 8 (some 67) [5, 7] (.agg (arr8 32 h0)),
                Sp.k 9 (some 68) [5] (.slice (some ⟨b, 0, none⟩) m c),
                Sp.k 10 (some 69) [5, 9] (.pointer (some ⟨b, 0, none⟩)),
                Sp.k 11 (some 70) [5, 10] (.agg (arr8 32 h0)),
                Sp.k 12 (some 71) [5, 8, 11] (.bool true),
                Sp.k 13 (some 72) [1, 5, 12] (.bool true),
                Sp.k 14 (some 73) [1, 13] (.bool true),
                Sp.k 15 (some 2) [14] (.bool true)] (by kernel_rfl) (by kernel_rfl)
                ⟨owes_move 0 (some 59) [] (.bool true) (Go.Operand.tmp 3) (fun v => by kernel_rfl) (fun v => by kernel_rfl),
                owes_move 1 (some 60) [0] (.bool true) (Go.Operand.tmp 59) (fun v => by kernel_rfl) (fun v => by kernel_rfl),
                owes_move 2 (some 61) [1] (.slice (some ⟨b, 0, none⟩) m c) (Go.Operand.tmp 4) (fun v => by kernel_rfl) (fun v => by kernel_rfl),
                owes_len 3 (some 62) [1, 2] (.int .i64 m) (.tmp 61) 27 3 (.slice (some ⟨b, 0, none⟩) m c) (fun v => by kernel_rfl) (by kernel_rfl) (fun v => by kernel_rfl) (fun w => by kernel_rfl),
                owes_bin 4 (some 63) [1, 3] (.bool false) Go.BinOp.eql 3 (Go.Operand.tmp 62) (Go.Operand.const (Go.Value.int Go.IntKind.i64 0)) 3 (.int .i64 m) (Go.Value.int Go.IntKind.i64 0) (fun v => by kernel_rfl) (fun v => by kernel_rfl) (eq_false _ _ _ (by omega)),
                owes_move 5 (some 64) [1, 4] (.bool false) (Go.Operand.tmp 63) (fun v => by kernel_rfl) (fun v => by kernel_rfl),
                owes_move 6 (some 65) [5] (.slice (some ⟨b, 0, none⟩) m c) (Go.Operand.tmp 4) (fun v => by kernel_rfl) (fun v => by kernel_rfl),
                owes_slice 7 (some 66) [5, 6] (.slice (some ⟨b, 0, none⟩) 1 c) 27 (Go.Operand.tmp 65) none (some (Go.Operand.const (Go.Value.int Go.IntKind.i64 1))) none (.slice (some ⟨b, 0, none⟩) m c) none (some (Go.Value.int Go.IntKind.i64 1)) none (fun v => by kernel_rfl) (fun v => by kernel_rfl) (sl32_h b 0 _ c 1 (by omega)),
                owes_call 8 (some 67) [5, 7] (.agg (arr8 32 h0)) 17 #[Go.Operand.tmp 66] #[27] (fun v => by kernel_rfl) (fun _ _ => by kernel_rfl) (fun v w' hb ho => by
                    exact ⟨#[.slice (some ⟨b, 0, none⟩) 1 c], by kernel_rfl, (HRT w' hb).mono (fun _ _ h => h)⟩),
                owes_move 9 (some 68) [5] (.slice (some ⟨b, 0, none⟩) m c) (Go.Operand.tmp 4) (fun v => by kernel_rfl) (fun v => by kernel_rfl),
                owes_index 10 (some 69) [5, 9] (.pointer (some ⟨b, 0, none⟩)) 27 (Go.Operand.tmp 68) (Go.Operand.const (Go.Value.int Go.IntKind.i64 0)) (.slice (some ⟨b, 0, none⟩) m c) (Go.Value.int Go.IntKind.i64 0) (fun v => by kernel_rfl) (fun v => by kernel_rfl) (idx32_0 b 0 m c (by omega)),
                owes_load 11 (some 70) [5, 10] (.agg (arr8 32 h0)) 25 (Go.Operand.tmp 69) (.pointer (some ⟨b, 0, none⟩)) (fun v => by kernel_rfl) (fun v => by kernel_rfl) (fun w' hb => HLD w' hb),
                owes_eql 12 (some 71) [5, 8, 11] 25 (Go.Operand.tmp 67) (Go.Operand.tmp 70) 25 (arr8 32 h0) (arr8 32 h0) true (fun v => by kernel_rfl) (fun v => by kernel_rfl) (by kernel_rfl) (equal32 h0),
                owes_pick 13 (some 72) [1, 5, 12] (.bool true) (Go.Operand.tmp 64) (Go.Operand.const (Go.Value.bool true)) (Go.Operand.tmp 71) false (fun v => by kernel_rfl) (fun v => by kernel_rfl) (fun v => by kernel_rfl),
                owes_pick 14 (some 73) [1, 13] (.bool true) (Go.Operand.tmp 60) (Go.Operand.tmp 72) (Go.Operand.const (Go.Value.bool false)) true (fun v => by kernel_rfl) (fun v => by kernel_rfl) (fun v => by kernel_rfl),
                owes_assign 15 (some 2) [14] (.bool true) (Go.Operand.tmp 73) (fun v => by kernel_rfl) (fun v => by kernel_rfl), trivial⟩ ?_
              intro v w' A' hA' hb hall
              have hs2 : A'.tmps.getD 2 undef = .bool true := by rw [hA']; kernel_rfl
              have hd2 : A'.defers = [] := by rw [hA']; kernel_rfl
              have hbe := (hgd.below hb).b
              clear hall hb hA'
              go_wp2_with fail
              exact ret_slot 2 rfl hs2 hd2 ⟨rfl, hbe⟩
end Go.Proofs.YtelggkgfpaadfaaDoor
