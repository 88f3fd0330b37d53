import Derived.Test.YtionjhlllpipjaaDoorDkt
/-
  DiskKeeps' walk.
-/
namespace Go.Proofs.YtionjhlllpipjaaDoor
open Go.RowKit

theorem sliceAt_lK {P : Program} {t e : TypeId} (hu : P.underlying t = some (.slice e)) (hs : (P.info? e).map (·.size) = some 1) (A : Option Addr) (n cap l : Nat) (h1 : l ≤ n) (w : World) :
    (Instr.sliceAt t (.slice A n cap) (some (.int .i64 (l : Int))) none none).run P w = .ok (.slice (cutA A l cap) (n - l) (cap - l)) w := by
  have e2 : P.elem t = e := by simp [Program.elem, hu]
  rw [run_sliceAt_slice (h := by rw [e2]; exact hu)]
  exact slice_sl_l hu hs A n cap l _ rfl h1 w
theorem idx_may (B k : Nat) (hk : k < 5) (w : World) : (Instr.indexAt 54 (.pointer (some ⟨B, 0, none⟩)) (.int .i64 (k : Int))).run Tryd.prog w = .ok (.pointer (some ⟨B, k, none⟩)) w := by
  obtain rfl | rfl | rfl | rfl | rfl : k = 0 ∨ k = 1 ∨ k = 2 ∨ k = 3 ∨ k = 4 := by omega
  all_goals kernel_rfl
theorem slread_cutB {w : World} {A : Option Addr} {l : List UInt8} (h : SlRead w A (bcells l)) (c cap : Nat) (hc : l.length ≤ cap) : SlRead w (cutA A c cap) (bcells (l.drop c)) := by
  intro hn
  have hlt : c < l.length := by simp [bcells] at hn; omega
  obtain ⟨b, o, e, hl, hcell⟩ := h (by simp [bcells]; omega)
  subst e
  refine ⟨b, o + c, cutA_some hlt hc, hl, fun j u hj => ?_⟩
  rw [Nat.add_assoc]
  refine hcell (c + j) u ?_
  rw [← hj]
  simp [bcells, List.getElem?_drop]
theorem bsl_U (x : UInt8) (w : World) : (Instr.buildSlice 32 1 #[(0, cellB x)]).run Tryd.prog w = .ok (.slice (some ⟨w.heap.size, 0, none⟩) 1 1) (w.alloc (.cells #[cellB x] 5)) := by kernel_rfl
theorem same_two (l1 l2 : List UInt8) (h1 : l1.length = 128) (h2 : l2.length = 128) (g h c c' : Nat) (w : World) (hg : w.rangeAt g 0 (bcells l1)) (hh : w.rangeAt h 0 (bcells l2)) :
    Calls Tryd.prog 23 #[.slice (some ⟨g, 0, none⟩) 128 c, .slice (some ⟨h, 0, none⟩) 128 c'] w fun e w' => e = .returned (.bool (decide (l1 = l2))) ∧ Below w.heap.size w w' := by
  have hlt := range_lt hg (by rw [bcells_len]; omega)
  have hlt2 := range_lt hh (by rw [bcells_len]; omega)
  have hi : decide (l1.map (fun b => (b.toNat : Int)) = l2.map (fun b => (b.toNat : Int))) = decide (l1 = l2) := by
    refine decide_eq_decide.2 ⟨fun e => ?_, fun e => by rw [e]⟩
    exact (List.map_inj_right (fun a b hab => UInt8.toNat_inj.1 (by have h : (a.toNat : Int) = (b.toNat : Int) := hab; omega))).1 e
  have e1 : (l1.map fun b => (b.toNat : Int)).length = 128 := by simp [h1]
  have e2 : (l2.map fun b => (b.toNat : Int)).length = 128 := by simp [h2]
  have q := sameBytes_any (some ⟨g, 0, none⟩) (some ⟨h, 0, none⟩) (l1.map fun b => (b.toNat : Int)) (l2.map fun b => (b.toNat : Int)) c c' w (by rw [← bcells_ints]; exact fun _ => ⟨g, 0, rfl, hlt, hg⟩) (by rw [← bcells_ints]; exact fun _ => ⟨h, 0, rfl, hlt2, hh⟩) (by omega) (by omega)
  rw [e1, e2, hi] at q
  refine q.mono ?_
  rintro e w' ⟨rfl, m, rfl⟩
  exact ⟨rfl, Below.drewNr m⟩
def fnd (l : List UInt8) (top : List UInt8) (j : Nat) : Bool := (l.take j).any fun b => decide (top = rep8 b)
theorem fnd_step (l : List UInt8) (top : List UInt8) (j : Nat) (b : UInt8) (hb : l[j]? = some b) : fnd l top (j + 1) = (fnd l top j || decide (top = rep8 b)) := by
  unfold fnd
  rw [List.take_add_one, hb, List.any_append]
  simp
theorem fnd_all (l : List UInt8) (top : List UInt8) (h : top ∈ l.map rep8) : fnd l top l.length = true := by
  obtain ⟨b, hb, e⟩ := List.mem_map.1 h
  unfold fnd
  rw [List.take_length, List.any_eq_true]
  exact ⟨b, hb, by simp [e]⟩
def m1 (k : Nat) : Nat → List UInt8 := fun j => if j < k then [0] else []
theorem m1_step (k : Nat) : updM (m1 k) k [0] = m1 (k + 1) := by
  funext j
  unfold updM m1
  by_cases h : j = k
  · subst h; simp
  · rw [if_neg h]
    by_cases h2 : j < k
    · rw [if_pos h2, if_pos (by omega)]
    · rw [if_neg h2, if_neg (by omega)]
theorem one_new (W : World) : SlRead (W.alloc (.cells #[.int .u8 0] 5)) (some ⟨W.heap.size, 0, none⟩) (bcells [0]) := fun _ => ⟨W.heap.size, 0, rfl, by simp, fun j u hj => by
  rcases j with _ | j
  · simp [bcells, cellB] at hj; subst hj; simp [go_sem]
  · simp [bcells] at hj⟩
set_option maxRecDepth 100000 in
set_option maxHeartbeats 6400000 in
theorem keeps_walk (A : Option Addr) (l : List Int) (ca : Nat) (AK : Option Addr) (keep : List Int) (ck : Nat) (z : Int) (w0 : World) (hl0 : SlRead w0 A (ints .i64 l)) (hk0 : SlRead w0 AK (ints .i64 keep)) (hkc : keep.length ≤ ck) (hkx : ∀ x ∈ keep, x ≤ 9223372036854775807) :
    Calls Tryd.prog 4 #[.slice A l.length ca, .slice AK keep.length ck, .int .i64 z] w0 fun e w' => e = .returned (.bool true) ∧ Below w0.heap.size w0 w' := by
  have hfi := first_any w0
  go_enter Tryd.func4, Tryd.ntmps4
  go_upto_region 4 with (go_at_call 7; refine hfi.mono ?_; rintro e w1 ⟨rfl, hb1⟩)
  have HB1 := Lib.hid hb1
  clear hb1 hfi
  by_cases hb : 40 < l.length ∨ 20 < keep.length
  · have hd : decide ((40 : Int) < (l.length : Int)) = true ∨ decide ((20 : Int) < (keep.length : Int)) = true := by rcases hb with h | h; exact .inl (decide_eq_true (by omega)); exact .inr (decide_eq_true (by omega))
    by_cases h1 : 40 < l.length
    · have d1 : (40 : Int) < (l.length : Int) := by omega
      clear hd hb h1
      go_wp2_with fail
      go_ret
      exact ⟨rfl, HB1.out⟩
    · have d1 : ¬ (40 : Int) < (l.length : Int) := by omega
      have d2 : (20 : Int) < (keep.length : Int) := by omega
      clear hd hb h1
      go_wp2_with fail
      go_ret
      exact ⟨rfl, HB1.out⟩
  have hl40 : l.length ≤ 40 := by omega
  have hk20 : keep.length ≤ 20 := by omega
  have d1 : ¬ (40 : Int) < (l.length : Int) := by omega
  have d2 : ¬ (20 : Int) < (keep.length : Int) := by omega
  clear hb
  obtain ⟨N, hN, hNl⟩ := exists_mod z ((l.length : Int) + 1) (by omega)
  have hnu := fun w => number_nat z ((l.length : Int) + 1) N w (by omega) hN
  have hnew := new_any 5 (by omega) w0.heap.size w1 HB1.out.size
  clear hN hNl
  go_upto_region 9 with (go_at_call 9; refine hnew.mono ?_; rintro e w3 ⟨D, R, rfl, hd3, _, _, hb3⟩)
  clear hnew d1 d2
  have hb3' := HB1.out.trans (hb3.mono HB1.out.size)
  go_upto_region 10 with (go_at_call 8; refine (hnu _).mono ?_; rintro e w1c ⟨rfl, q2, rfl⟩)
  clear hnu hb3
  have hbd : Below w3.heap.size w3 (w3.drewN q2) := Below.drewNr q2
  generalize w3.drewN q2 = w4 at *
  go_upto_region 11 with (fail)
  obtain ⟨B, hB⟩ : ∃ B, B = w4.heap.size := ⟨_, rfl⟩
  refine wp_world (fun W => Below w0.heap.size w0 W ∧ DkS W w0.heap.size D R (List.replicate 5 secZ) false (-1) (fun _ => .slice none 0 0) ∧ MayAt W B (fun q => q ≠ B ∧ ¬ DFoot D R (List.replicate 5 secZ) (fun _ => .slice none 0 0) q) (m1 0) ∧ ¬ DFoot D R (List.replicate 5 secZ) (fun _ => .slice none 0 0) B ∧ w0.heap.size ≤ B) ?_ ?_
  · have hd4 := hd3.below hbd
    have hb4 := hb3'.trans (hbd.mono hb3'.size)
    have hbb := below_alc w4 (.cells #[.slice none 0 0, .slice none 0 0, .slice none 0 0, .slice none 0 0, .slice none 0 0] 54)
    refine ⟨hb4.trans (hbb.mono hb4.size), hd4.below hbb, ⟨fun k hk => ⟨none, 0, ?_, SlRead.nil_, Nat.le_refl _, fun a ha => by cases ha⟩, fun o => by rw [hB]; simp [go_sem], by rw [hB]; simp⟩, fun hh => by have := hd4.ltF hh; omega, by rw [hB]; exact hb4.size⟩
    rw [hB]
    obtain rfl | rfl | rfl | rfl | rfl : k = 0 ∨ k = 1 ∨ k = 2 ∨ k = 3 ∨ k = 4 := by omega
    all_goals simp [go_sem, m1]
  rintro W1 ⟨hb1, hd1, hm1, hnb, hBw⟩
  rw [← hB]
  clear hB hd3 hb3' HB1 hbd
  have HB1 := Lib.hid hb1
  have HD1 := Lib.hid hd1
  have HNB := Lib.hid hnb
  clear hb1 hd1 hnb
  generalize hP : (fun q => q ≠ B ∧ ¬ DFoot D R (List.replicate 5 secZ) (fun _ => Value.slice none 0 0) q) = P at hm1
  have HP := Lib.hid hP
  clear hP
  go_wp2_with fail
  go_loopw [10] (fun i wr => ∃ k : Nat, k ≤ 5 ∧ i = .int .i64 k ∧ MayAt wr B P (m1 k) ∧ Turn (· = B) W1 wr) (fun i _ => 5 - (intOf i).toNat)
  case atStart => exact ⟨0, by omega, rfl, hm1, Turn.of_below (Below.refl _ _)⟩
  clear hm1
  case round =>
    obtain ⟨k, hk, rfl, hm, ht⟩ := hrel
    by_cases hlt : k < 5
    · have hk5 : (k : Int) < 5 := by omega
      have hma := hm.below (below_alc wr (.cells #[.int .u8 0] 5))
      obtain ⟨A1, c1, hc, _⟩ := hma.c k hlt
      have hf := hma.f k
      have hset := hma.set (fun q hq => by rw [← HP.out] at hq; exact hq.1) k hlt (some ⟨wr.heap.size, 0, none⟩) 1 [0] (one_new wr) (by simp) (fun a ha => by
        cases ha
        refine ⟨?_, by simp⟩
        rw [← HP.out]
        have hBl := hm.b
        exact ⟨fun e => by simp at e; omega, fun hh => absurd (HD1.out.ltF hh) (Nat.not_lt.2 ht.size)⟩)
      rw [m1_step] at hset
      have HS := Lib.hid (And.intro hset.1 ((ht.trans (Turn.of_below (F := (· = B)) (below_alc wr _)) (fun q hq => .inl hq)).trans hset.2 (fun q hq => .inl hq)))
      clear hset hm hma ht
      go_wp2_with fail
      go_roundw
      case rel => exact ⟨k + 1, by omega, by go_num, HS.out⟩
      case measure => simp [intOf] <;> omega
    · obtain rfl : k = 5 := by omega
      clear hlt hk
      have hK : KeepS w0 wr D R B (List.replicate 5 secZ) (fun _ => .slice none 0 0) (m1 5) 0 := by
        refine ⟨HD1.out.other ht (fun q hq e => HNB.out (by rw [← e]; exact hq)), ht.below HB1.out HB1.out.size (fun q e => by rw [e]; exact hBw), by rw [HP.out]; exact hm, HNB.out, hBw, rfl, fun k hk => ⟨secZ, repl_get 5 k hk, ?_, ?_⟩⟩
        · unfold m1; rw [if_pos hk]; rfl
        · unfold m1; rw [if_pos hk]; simp
      clear hm ht HB1 HD1 HNB HP
      go_wp2_with fail
      go_loopw [11] (fun i wr => ∃ (k : Nat) (ss : List Sec) (pv : Nat → Value) (m : Nat → List UInt8), k ≤ l.length ∧ i = .int .i64 (k : Int) ∧ KeepS w0 wr D R B ss pv m k) (fun i _ => l.length - (intOf i).toNat)
      case atStart => exact ⟨0, _, _, _, by omega, rfl, hK⟩
      clear hK
      case round =>
        obtain ⟨i, ss, pv, m, hi, rfl, hK⟩ := hrel
        by_cases hlt : i < l.length
        · have hi40 : i < 40 := by omega
          have hilt : (i : Int) < (l.length : Int) := by omega
          by_cases hs : i = N
          · subst hs
            have hsy := sync_nil hK.d (by decide)
            rw [show drawF (-1) = -1 by unfold drawF; rw [if_neg (by decide)]] at hsy
            go_upto_region 21 with (go_at_call 15; refine hsy.mono ?_; rintro e W5 ⟨rfl, pv5, hd5, ht5, hl5⟩)
            obtain ⟨hm5, hnb5, hb5⟩ := hK.sync1 ht5 hl5
            have HK5 := Lib.hid (fun W7 h1 h2 => hK.sync2 (W7 := W7) hd5 ht5 hl5 h1 h2)
            have hpos := fun k (hk : k < 5) => hK.pos hk
            have hBs := hm5.b
            have hle : ∀ k, k < 5 → (m k).length ≤ 100 := fun k hk => by obtain ⟨_, _, _, h⟩ := hK.r k hk; omega
            clear hsy hd5 ht5 hl5 hK
            go_wp2_with fail
            go_loopw [12] (fun x wr => ∃ k : Nat, k ≤ 5 ∧ x = .int .i64 (k : Int) ∧ MayAt wr B (fun q => q ≠ B ∧ ¬ DFoot D R (ss.map Sec.sync) pv5 q) (lastTo m k) ∧ Turn (· = B) W5 wr) (fun x _ => 5 - (intOf x).toNat)
            case atStart => exact ⟨0, by omega, rfl, hm5, Turn.of_below (Below.refl _ _)⟩
            clear hm5
            case round =>
              obtain ⟨k, hk, rfl, hm, ht⟩ := hrel
              by_cases hk5 : k < 5
              · obtain ⟨A1, c1, hc, hrd, hlc, hap⟩ := hm.c k hk5
                have hn1 : lastTo m k k = m k := by unfold lastTo; rw [if_neg (by omega)]
                rw [hn1] at hc hrd hlc
                have hnp := hpos k hk5
                have hnl := hle k hk5
                have hBl := hm.b
                have hf := hm.f k
                have hset := (hm.below (Below.drewNr (w := wr) 1)).set (fun q hq => hq.1) k hk5 (cutA A1 ((m k).length - 1) c1) (c1 - ((m k).length - 1)) ((m k).drop ((m k).length - 1)) ((slread_cutB hrd _ _ hlc).below (Below.drewNr (w := wr) 1)) (by simp; omega) (fun a ha => by
                  obtain ⟨b, o, e, _, _⟩ := hrd (by simp [bcells]; omega)
                  subst e
                  rw [cutA_some (by omega) hlc] at ha
                  cases ha
                  exact hap ⟨b, o, none⟩ rfl)
                rw [lastTo_step, List.length_drop] at hset
                have HS := Lib.hid (And.intro hset.1 ((ht.trans (Turn.of_below (F := (· = B)) (Below.drewNr (w := wr) 1)) (fun q hq => .inl hq)).trans hset.2 (fun q hq => .inl hq)))
                have hk5' : (k : Int) < 5 := by omega
                obtain ⟨n, hn⟩ : ∃ n, n = (m k).length := ⟨_, rfl⟩
                rw [← hn] at hc hnp hnl hlc HS
                clear hset hrd hap hm ht hn
                go_upto_region 24 with (fail)
                refine wp_region_held_cut (S := fun V => Below wr.heap.size wr V) 10 (by kernel_rfl) (by kernel_rfl) (Below.drewNr (w := wr) 1) (fun hHeld => ?_)
                refine held_move 0 (Go.Operand.tmp 12) (some 62) (.int .i64 (k : Int)) (by kernel_rfl) (by kernel_rfl) (by kernel_rfl) (by kernel_rfl) (by kernel_rfl) (fun _ _ _ _ _ h => h) hHeld ?_
                refine held_move 1 (Go.Operand.tmp 12) (some 63) (.int .i64 (k : Int)) (by kernel_rfl) (by kernel_rfl) (by kernel_rfl) (by kernel_rfl) (by kernel_rfl) (fun _ _ _ _ _ h => h) hHeld ?_
                refine held_index 2 54 (Go.Operand.tmp 9) (Go.Operand.tmp 63) (some 64) (.pointer (some ⟨B, 0, none⟩)) (.int .i64 (k : Int)) (.pointer (some ⟨B, k, none⟩)) (by kernel_rfl) (by kernel_rfl) (fun w => idx_may B k hk5 w) (by kernel_rfl) (by kernel_rfl) (by kernel_rfl) (fun _ _ _ _ _ h => h) hHeld ?_
                refine held_cell 3 32 (Go.Operand.tmp 64) (some 65) (.pointer (some ⟨B, k, none⟩)) (.slice A1 n c1) (by kernel_rfl) (by kernel_rfl) (fun V hV => load_slice B k V 32 (fun w => by kernel_rfl) _ ((hV.cell (p := ⟨B, k, none⟩) hBl).trans hc)) (by kernel_rfl) (by kernel_rfl) (by kernel_rfl) (fun _ _ _ _ _ h => h) hHeld ?_
                refine held_move 4 (Go.Operand.tmp 12) (some 66) (.int .i64 (k : Int)) (by kernel_rfl) (by kernel_rfl) (by kernel_rfl) (by kernel_rfl) (by kernel_rfl) (fun _ _ _ _ _ h => h) hHeld ?_
                refine held_index 5 54 (Go.Operand.tmp 9) (Go.Operand.tmp 66) (some 67) (.pointer (some ⟨B, 0, none⟩)) (.int .i64 (k : Int)) (.pointer (some ⟨B, k, none⟩)) (by kernel_rfl) (by kernel_rfl) (fun w => idx_may B k hk5 w) (by kernel_rfl) (by kernel_rfl) (by kernel_rfl) (fun _ _ _ _ _ h => h) hHeld ?_
                refine held_cell 6 32 (Go.Operand.tmp 67) (some 68) (.pointer (some ⟨B, k, none⟩)) (.slice A1 n c1) (by kernel_rfl) (by kernel_rfl) (fun V hV => load_slice B k V 32 (fun w => by kernel_rfl) _ ((hV.cell (p := ⟨B, k, none⟩) hBl).trans hc)) (by kernel_rfl) (by kernel_rfl) (by kernel_rfl) (fun _ _ _ _ _ h => h) hHeld ?_
                refine held_any 7 (Go.Op.call { callee := Go.Callee.builtin Go.Builtin.len, args := #[Go.Operand.tmp 68], argTypes := #[32] }) (some 69) (.int .i64 (n : Int)) (by kernel_rfl) (by kernel_rfl) (by kernel_rfl) (by kernel_rfl) (fun _ _ _ _ _ h => h) hHeld (fun o ho w _ => exec_lenA (vx := .slice A1 n c1) ho (by kernel_rfl) (fun _ => len_slice _ 5 _ Tryd.underlying32 A1 n c1 _)) ?_
                refine held_bin 8 Go.BinOp.sub 3 (Go.Operand.tmp 69) (Go.Operand.const (Go.Value.int Go.IntKind.i64 1)) 3 (some 70) (.int .i64 (n : Int)) (Go.Value.int Go.IntKind.i64 1) (.int .i64 ((n - 1 : Nat) : Int)) (by kernel_rfl) (by kernel_rfl) (fun w => sub_int _ _ _ w _ _ _ (by omega) (by omega) (by omega)) (by kernel_rfl) (by kernel_rfl) (by kernel_rfl) (fun _ _ _ _ _ h => h) hHeld ?_
                refine held_slice 9 32 (Go.Operand.tmp 65) (some (Go.Operand.tmp 70)) none none (some 71) (.slice A1 n c1) (some (.int .i64 ((n - 1 : Nat) : Int))) none none (.slice (cutA A1 (n - 1) c1) (n - (n - 1)) (c1 - (n - 1))) (by kernel_rfl) (by kernel_rfl) (fun w => sliceAt_lK Tryd.underlying32 (by kernel_rfl) A1 n c1 (n - 1) (by omega) w) (by kernel_rfl) (by kernel_rfl) (by kernel_rfl) (fun _ _ _ _ _ h => h) hHeld ?_
                refine wpAnyH_done (by kernel_rfl) ?_ _
                show wpList _ _ _ _ _ _
                simp only [Act.put, List.setIfInBounds_toArray, List.set_cons_zero, List.set_cons_succ, List.drop_succ_cons, List.drop_zero]
                have hc2 := (hHeld.cell (p := ⟨B, k, none⟩) hBl).trans hc
                have hf2 : wr.drew.frozen? ⟨B, k, none⟩ = false := hf
                clear hc hf hHeld
                go_wp2_with fail
                go_roundw
                case rel => exact ⟨k + 1, by omega, by go_num, HS.out⟩
                case measure => simp [intOf] <;> omega
              · obtain rfl : k = 5 := by omega
                have hK := HK5.out _ hm ht
                clear HK5 hm ht hpos hBs hle hnb5 hb5 hk hk5
                go_upto_region 25 with (fail)
                obtain ⟨ss6, pv6, m6, hK6⟩ : ∃ ss6 pv6 m6, KeepS w0 wr D R B ss6 pv6 m6 i := ⟨_, _, _, hK⟩
                clear hK
                have hlW := hl0.below hK6.b
                obtain ⟨bl, ol, x, hOl, hcl, _⟩ := hlW.at_ (j := i) hlt
                obtain ⟨K, hKx, hK5⟩ := exists_mod x 5 (by omega)
                have hnu := fun w => number_nat x 5 K w (by omega) hKx
                clear hlW hKx
                subst hOl
                go_upto_region 26 with (go_at_call 8; refine (hnu _).mono ?_; rintro e W6 ⟨rfl, q6, rfl⟩)
                refine wp_world (fun V => KeepS w0 V D R B ss6 pv6 m6 i) (hK6.below (Below.drewNr q6)) ?_
                rintro V hK7
                clear hK6 hnu hcl
                have hK5n : K < 5 := by omega
                obtain ⟨Ak, ck2, hck, hrk, hlk, hapk⟩ := hK7.my.c K hK5n
                obtain ⟨s, hs, hsa, hle⟩ := hK7.r K hK5n
                have hBl := hK7.my.b
                have hsp : s.pend.length ≤ 2000 := by have := congrArg List.length hsa; simp [Sec.all] at this; omega
                have HBy : Calls Tryd.prog 28 #[.slice Ak (m6 K).length ck2] V fun e w' => ∃ v, e = .returned v ∧ w'.ownsRow V.heap.size 5 1 v (m6 K).length (bcells (m6 K)) ∧ Below V.heap.size V w' := by
                  have h := bytes_any Ak ((m6 K).map fun b => (b.toNat : Int)) ck2 V (by rw [← bcells_ints]; exact hrk) (by simp; omega)
                  rw [List.length_map, ← bcells_ints] at h
                  exact h
                clear hrk hlk hapk hsa
                refine wp_region_lit ?_
                refine wpList_run (by kernel_rfl) (.int .i64 (K : Int)) (V) (exec_move rfl (by kernel_rfl)) ?_
                refine wpList_run (by kernel_rfl) (.int .i64 (K : Int)) (V) (exec_move rfl (by kernel_rfl)) ?_
                refine wpList_run (by kernel_rfl) (.pointer (some ⟨B, K, none⟩)) (V) (exec_index (vx := .pointer (some ⟨B, 0, none⟩)) (vy := .int .i64 (K : Int)) rfl (by kernel_rfl) (idx_may B K hK5n V)) ?_
                refine wpList_run (by kernel_rfl) (.slice Ak (m6 K).length ck2) (V) (exec_load (vx := .pointer (some ⟨B, K, none⟩)) rfl (by kernel_rfl) (load_slice B K V 32 (fun w => by kernel_rfl) _ hck)) ?_
                refine wpList_call (by kernel_rfl) 28 #[Go.Operand.tmp 81] #[32] #[.slice Ak (m6 K).length ck2] _ rfl (by kernel_rfl) (by kernel_rfl) (HBy) ?_
                rintro e V6 ⟨v6, rfl, hown6, hb6⟩
                obtain ⟨v7, V7, hap, hown7, hg7, hat7⟩ := run_app_U 32 (V6.alloc (.cells #[cellB (fillB ((i : Int) + 1))] 5)) V.heap.size v6 _ (m6 K) (hown6.alloc _) [fillB ((i : Int) + 1)] ⟨V6.heap.size, 0, none⟩ 1 1 rfl (fun q u hu => by rw [Addr.add_mid]; exact range_new (heap1_0 V6 _) q u hu) (by omega) (Nat.le_trans hb6.size (by simp))
                obtain ⟨A7, c7, rfl, hc7, _, hA7⟩ := own_slice hown7
                refine ⟨_, rfl, ?_⟩
                simp only [put_list, List.set_cons_zero, List.set_cons_succ]
                refine wpList_run (by kernel_rfl) (.int .i64 (i : Int)) (V6) (exec_move rfl (by kernel_rfl)) ?_
                refine wpList_run (by kernel_rfl) (.int .i64 ((i : Int) + 1)) (V6) (exec_bin (vx := .int .i64 (i : Int)) (vy := Go.Value.int Go.IntKind.i64 1) rfl (by kernel_rfl) (add_int _ _ _ V6 _ _ _ rfl (by omega) (by omega))) ?_
                refine wpList_run (by kernel_rfl) (cellB (fillB ((i : Int) + 1))) (V6) (exec_cvt (vx := .int .i64 ((i : Int) + 1)) rfl (by kernel_rfl) (cvt_u8 ((i : Int) + 1) V6)) ?_
                refine wpList_run (by kernel_rfl) (.slice (some ⟨V6.heap.size, 0, none⟩) 1 1) ((V6.alloc (.cells #[cellB (fillB ((i : Int) + 1))] 5))) (exec_bsl (vs := #[(0, cellB (fillB ((i : Int) + 1)))]) rfl (by kernel_rfl) (bsl_U _ V6)) ?_
                refine wpList_run (by kernel_rfl) (.slice A7 ((m6 K).length + 1) c7) (V7) (exec_append rfl rfl (vs := v6) (vx := .slice (some ⟨V6.heap.size, 0, none⟩) 1 1) (by kernel_rfl) (hap)) ?_
                simp only [put_list, List.set_cons_zero, List.set_cons_succ]
                refine wpList_run (by kernel_rfl) (.pointer (some ⟨B, K, none⟩)) (V7) (exec_index (vx := .pointer (some ⟨B, 0, none⟩)) (vy := .int .i64 (K : Int)) rfl (by kernel_rfl) (idx_may B K hK5n V7)) ?_
                have htV : Turn (fun q => V.heap.size ≤ q) V V7 := ((Turn.of_below hb6).trans (Turn.of_below (below_alc V6 _)) (fun q hq => .inl hq)).trans (Turn.of_grown (F := fun q => V.heap.size ≤ q) hg7 (fun q hq => (hown6.lt q hq).1)) (fun q hq => .inl hq)
                have hbV : Below V.heap.size V V7 := htV.below (Below.refl _ V) (Nat.le_refl _) (fun q hq => hq)
                have hK8 := hK7.below hbV
                obtain ⟨_, _, hc7B, _⟩ := hK8.my.c K hK5n
                have hf7 := hK8.my.f K
                have hset := hK8.my.set (fun q hq => hq.1) K hK5n A7 c7 (m6 K ++ [fillB ((i : Int) + 1)]) (by have := SlRead.of_own hown7; exact this) (by simpa using hc7) (fun a ha => ⟨⟨fun e => by have h1 := (hA7 a ha).1; have h3 : V.heap.size ≤ a.block := h1; omega, fun hh => by have h1 := (hA7 a ha).1; have h2 := hK7.d.ltF hh; have h3 : V.heap.size ≤ a.block := h1; omega⟩, (hA7 a ha).2⟩)
                rw [List.length_append, List.length_singleton] at hset
                refine wpList_skip rfl (V7.setCell ⟨B, K, none⟩ (.slice A7 ((m6 K).length + 1) c7)) (exec_store (vx := .pointer (some ⟨B, K, none⟩)) (vy := .slice A7 ((m6 K).length + 1) c7) rfl (by kernel_rfl) (store_slice B K V7 hc7B hf7 32 (fun w => by kernel_rfl) A7 _ c7)) ?_
                have hm8 := hset.1
                have hd8 := hK8.d.other hset.2 (fun q hq e => hK8.nb (by rw [← e]; exact hq))
                have hb8 := hset.2.below hK8.b hK8.b.size (fun q e => by rw [e]; exact hK8.hB)
                refine wpList_nil ?_
                simp only [put_list, put_none, List.set_cons_zero, List.set_cons_succ]
                go_upto_region 27 with (fail)
                refine wp_world (fun W => DkS W w0.heap.size D R ss6 false (-1) pv6 ∧ Below w0.heap.size w0 W ∧ MayAt W B (fun q => q ≠ B ∧ ¬ DFoot D R ss6 pv6 q) (updM m6 K (m6 K ++ [fillB ((i : Int) + 1)]))) ⟨hd8, hb8, hm8⟩ ?_
                clear hset hm8 hd8 hb8 hap hown6 hown7 hg7 hat7 hb6 hc7B hf7 hK8 htV hbV hA7 hc7 hck HBy
                rintro V8 ⟨hd8, hb8, hm8⟩
                have hfl := filled_any ((i : Int) + 1) V8
                have hne : (pv6 K).ownBlock ≠ some V8.heap.size := fun e => by have := ((hd8.own K s hs).lt _ e).2; omega
                have HK7 := Lib.hid hK7
                have HS := Lib.hid hs
                have HDM := Lib.hid (And.intro hd8 (And.intro hb8 hm8))
                clear hK7 hd8 hb8 hm8 hs
                go_wp2_with (first | (go_at_call 11; refine hfl.mono ?_; rintro e V9 ⟨rfl, hr9, hb9⟩; have hd9 := HDM.out.1.below hb9; have hb9w := HDM.out.2.1.trans (hb9.mono HDM.out.2.1.size); have HM9 := Lib.hid (HDM.out.2.2.below hb9); have hwr9 := write_ok (by decide) w0 hb9w hd9 K s HS.out (fillL ((i : Int) + 1)) (fillL_len _) V8.heap.size 0 128 (range_new hr9) hne hsp; have HD9 := Lib.hid hd9; have HB9 := Lib.hid hb9w; clear hd9 hb9w hb9 hr9) | (go_at_call 13; refine hwr9.mono ?_; rintro e Va ⟨rfl, pva, hda, hta, hfa⟩; rw [show drawF (-1) = -1 by unfold drawF; rw [if_neg (by decide)]] at hda; have HF := Lib.hid (HK7.out.wrote K s HS.out ((i : Int) + 1) HD9.out HB9.out HM9.out hda hta hfa); clear hda hta hfa hwr9))
                refine ⟨⟨_, _, _, _, _, _, _, _, _, _, _, _, _, _, _, _, _, _, _, _, _, _, _, _, _, _, _, _, _, _, _, _, _, _, _, _, _, _, _, _, _, _, _, _, _, _, _, _, _, _, _, _, _, _, ?rel, rfl⟩, ?measure⟩
                case rel => exact ⟨i + 1, _, pva, _, by omega, by go_num, HF.out⟩
                case measure => simp [intOf] <;> omega
          · have hs' : ¬ (i : Int) = (N : Int) := by omega
            clear hs
            go_upto_region 25 with (fail)
            obtain ⟨ss6, pv6, m6, hK6⟩ : ∃ ss6 pv6 m6, KeepS w0 wr D R B ss6 pv6 m6 i := ⟨_, _, _, hK⟩
            clear hK
            have hlW := hl0.below hK6.b
            obtain ⟨bl, ol, x, hOl, hcl, _⟩ := hlW.at_ (j := i) hlt
            obtain ⟨K, hKx, hK5⟩ := exists_mod x 5 (by omega)
            have hnu := fun w => number_nat x 5 K w (by omega) hKx
            clear hlW hKx
            subst hOl
            go_upto_region 26 with (go_at_call 8; refine (hnu _).mono ?_; rintro e W6 ⟨rfl, q6, rfl⟩)
            refine wp_world (fun V => KeepS w0 V D R B ss6 pv6 m6 i) (hK6.below (Below.drewNr q6)) ?_
            rintro V hK7
            clear hK6 hnu hcl
            have hK5n : K < 5 := by omega
            obtain ⟨Ak, ck2, hck, hrk, hlk, hapk⟩ := hK7.my.c K hK5n
            obtain ⟨s, hs, hsa, hle⟩ := hK7.r K hK5n
            have hBl := hK7.my.b
            have hsp : s.pend.length ≤ 2000 := by have := congrArg List.length hsa; simp [Sec.all] at this; omega
            have HBy : Calls Tryd.prog 28 #[.slice Ak (m6 K).length ck2] V fun e w' => ∃ v, e = .returned v ∧ w'.ownsRow V.heap.size 5 1 v (m6 K).length (bcells (m6 K)) ∧ Below V.heap.size V w' := by
              have h := bytes_any Ak ((m6 K).map fun b => (b.toNat : Int)) ck2 V (by rw [← bcells_ints]; exact hrk) (by simp; omega)
              rw [List.length_map, ← bcells_ints] at h
              exact h
            clear hrk hlk hapk hsa
            refine wp_region_lit ?_
            refine wpList_run (by kernel_rfl) (.int .i64 (K : Int)) (V) (exec_move rfl (by kernel_rfl)) ?_
            refine wpList_run (by kernel_rfl) (.int .i64 (K : Int)) (V) (exec_move rfl (by kernel_rfl)) ?_
            refine wpList_run (by kernel_rfl) (.pointer (some ⟨B, K, none⟩)) (V) (exec_index (vx := .pointer (some ⟨B, 0, none⟩)) (vy := .int .i64 (K : Int)) rfl (by kernel_rfl) (idx_may B K hK5n V)) ?_
            refine wpList_run (by kernel_rfl) (.slice Ak (m6 K).length ck2) (V) (exec_load (vx := .pointer (some ⟨B, K, none⟩)) rfl (by kernel_rfl) (load_slice B K V 32 (fun w => by kernel_rfl) _ hck)) ?_
            refine wpList_call (by kernel_rfl) 28 #[Go.Operand.tmp 81] #[32] #[.slice Ak (m6 K).length ck2] _ rfl (by kernel_rfl) (by kernel_rfl) (HBy) ?_
            rintro e V6 ⟨v6, rfl, hown6, hb6⟩
            obtain ⟨v7, V7, hap, hown7, hg7, hat7⟩ := run_app_U 32 (V6.alloc (.cells #[cellB (fillB ((i : Int) + 1))] 5)) V.heap.size v6 _ (m6 K) (hown6.alloc _) [fillB ((i : Int) + 1)] ⟨V6.heap.size, 0, none⟩ 1 1 rfl (fun q u hu => by rw [Addr.add_mid]; exact range_new (heap1_0 V6 _) q u hu) (by omega) (Nat.le_trans hb6.size (by simp))
            obtain ⟨A7, c7, rfl, hc7, _, hA7⟩ := own_slice hown7
            refine ⟨_, rfl, ?_⟩
            simp only [put_list, List.set_cons_zero, List.set_cons_succ]
            refine wpList_run (by kernel_rfl) (.int .i64 (i : Int)) (V6) (exec_move rfl (by kernel_rfl)) ?_
            refine wpList_run (by kernel_rfl) (.int .i64 ((i : Int) + 1)) (V6) (exec_bin (vx := .int .i64 (i : Int)) (vy := Go.Value.int Go.IntKind.i64 1) rfl (by kernel_rfl) (add_int _ _ _ V6 _ _ _ rfl (by omega) (by omega))) ?_
            refine wpList_run (by kernel_rfl) (cellB (fillB ((i : Int) + 1))) (V6) (exec_cvt (vx := .int .i64 ((i : Int) + 1)) rfl (by kernel_rfl) (cvt_u8 ((i : Int) + 1) V6)) ?_
            refine wpList_run (by kernel_rfl) (.slice (some ⟨V6.heap.size, 0, none⟩) 1 1) ((V6.alloc (.cells #[cellB (fillB ((i : Int) + 1))] 5))) (exec_bsl (vs := #[(0, cellB (fillB ((i : Int) + 1)))]) rfl (by kernel_rfl) (bsl_U _ V6)) ?_
            refine wpList_run (by kernel_rfl) (.slice A7 ((m6 K).length + 1) c7) (V7) (exec_append rfl rfl (vs := v6) (vx := .slice (some ⟨V6.heap.size, 0, none⟩) 1 1) (by kernel_rfl) (hap)) ?_
            simp only [put_list, List.set_cons_zero, List.set_cons_succ]
            refine wpList_run (by kernel_rfl) (.pointer (some ⟨B, K, none⟩)) (V7) (exec_index (vx := .pointer (some ⟨B, 0, none⟩)) (vy := .int .i64 (K : Int)) rfl (by kernel_rfl) (idx_may B K hK5n V7)) ?_
            have htV : Turn (fun q => V.heap.size ≤ q) V V7 := ((Turn.of_below hb6).trans (Turn.of_below (below_alc V6 _)) (fun q hq => .inl hq)).trans (Turn.of_grown (F := fun q => V.heap.size ≤ q) hg7 (fun q hq => (hown6.lt q hq).1)) (fun q hq => .inl hq)
            have hbV : Below V.heap.size V V7 := htV.below (Below.refl _ V) (Nat.le_refl _) (fun q hq => hq)
            have hK8 := hK7.below hbV
            obtain ⟨_, _, hc7B, _⟩ := hK8.my.c K hK5n
            have hf7 := hK8.my.f K
            have hset := hK8.my.set (fun q hq => hq.1) K hK5n A7 c7 (m6 K ++ [fillB ((i : Int) + 1)]) (by have := SlRead.of_own hown7; exact this) (by simpa using hc7) (fun a ha => ⟨⟨fun e => by have h1 := (hA7 a ha).1; have h3 : V.heap.size ≤ a.block := h1; omega, fun hh => by have h1 := (hA7 a ha).1; have h2 := hK7.d.ltF hh; have h3 : V.heap.size ≤ a.block := h1; omega⟩, (hA7 a ha).2⟩)
            rw [List.length_append, List.length_singleton] at hset
            refine wpList_skip rfl (V7.setCell ⟨B, K, none⟩ (.slice A7 ((m6 K).length + 1) c7)) (exec_store (vx := .pointer (some ⟨B, K, none⟩)) (vy := .slice A7 ((m6 K).length + 1) c7) rfl (by kernel_rfl) (store_slice B K V7 hc7B hf7 32 (fun w => by kernel_rfl) A7 _ c7)) ?_
            have hm8 := hset.1
            have hd8 := hK8.d.other hset.2 (fun q hq e => hK8.nb (by rw [← e]; exact hq))
            have hb8 := hset.2.below hK8.b hK8.b.size (fun q e => by rw [e]; exact hK8.hB)
            refine wpList_nil ?_
            simp only [put_list, put_none, List.set_cons_zero, List.set_cons_succ]
            go_upto_region 27 with (fail)
            refine wp_world (fun W => DkS W w0.heap.size D R ss6 false (-1) pv6 ∧ Below w0.heap.size w0 W ∧ MayAt W B (fun q => q ≠ B ∧ ¬ DFoot D R ss6 pv6 q) (updM m6 K (m6 K ++ [fillB ((i : Int) + 1)]))) ⟨hd8, hb8, hm8⟩ ?_
            clear hset hm8 hd8 hb8 hap hown6 hown7 hg7 hat7 hb6 hc7B hf7 hK8 htV hbV hA7 hc7 hck HBy
            rintro V8 ⟨hd8, hb8, hm8⟩
            have hfl := filled_any ((i : Int) + 1) V8
            have hne : (pv6 K).ownBlock ≠ some V8.heap.size := fun e => by have := ((hd8.own K s hs).lt _ e).2; omega
            have HK7 := Lib.hid hK7
            have HS := Lib.hid hs
            have HDM := Lib.hid (And.intro hd8 (And.intro hb8 hm8))
            clear hK7 hd8 hb8 hm8 hs
            go_wp2_with (first | (go_at_call 11; refine hfl.mono ?_; rintro e V9 ⟨rfl, hr9, hb9⟩; have hd9 := HDM.out.1.below hb9; have hb9w := HDM.out.2.1.trans (hb9.mono HDM.out.2.1.size); have HM9 := Lib.hid (HDM.out.2.2.below hb9); have hwr9 := write_ok (by decide) w0 hb9w hd9 K s HS.out (fillL ((i : Int) + 1)) (fillL_len _) V8.heap.size 0 128 (range_new hr9) hne hsp; have HD9 := Lib.hid hd9; have HB9 := Lib.hid hb9w; clear hd9 hb9w hb9 hr9) | (go_at_call 13; refine hwr9.mono ?_; rintro e Va ⟨rfl, pva, hda, hta, hfa⟩; rw [show drawF (-1) = -1 by unfold drawF; rw [if_neg (by decide)]] at hda; have HF := Lib.hid (HK7.out.wrote K s HS.out ((i : Int) + 1) HD9.out HB9.out HM9.out hda hta hfa); clear hda hta hfa hwr9))
            refine ⟨⟨_, _, _, _, _, _, _, _, _, _, _, _, _, _, _, _, _, _, _, _, _, _, _, _, _, _, _, _, _, _, _, _, _, _, _, _, _, _, _, _, _, _, _, _, _, _, _, _, _, _, _, _, _, _, ?rel, rfl⟩, ?measure⟩
            case rel => exact ⟨i + 1, _, pva, _, by omega, by go_num, HF.out⟩
            case measure => simp [intOf] <;> omega
        · obtain rfl : i = l.length := by omega
          clear hlt hi
          have hsm : ∀ s ∈ ss, s.pend.length ≤ 2000 := fun s hs => by
            obtain ⟨q, hq, e⟩ := List.getElem_of_mem hs
            obtain ⟨s2, hs2, ha, hle⟩ := hK.r q (by have := hK.l; omega)
            rw [List.getElem?_eq_getElem hq, e] at hs2
            cases hs2
            have := congrArg List.length ha
            simp [Sec.all] at this
            omega
          have hkeep : KeepAt wr R keep (.slice AK keep.length ck) := ⟨AK, ck, rfl, hkc, hkx, fun hne => by
            obtain ⟨b, o, e, hb, hc⟩ := hk0 (by have := List.length_pos_iff.2 hne; simpa using this)
            exact ⟨b, o, e, by have := hK.d.low.2; omega, Nat.lt_of_lt_of_le hb hK.b.size, fun j v hv => (hK.b.cell (p := ⟨b, o + j, none⟩) hb).trans (hc j v hv)⟩⟩
          have hcr := crash_any hK.d keep (.slice AK keep.length ck) hkeep hsm
          unfold CrPost at hcr
          have hin : ∀ k, k < 5 → ∃ s', (crashTo ss keep ss.length).1[k]? = some s' ∧ s'.top ∈ (m k).map rep8 := fun k hk => by
            obtain ⟨s, hs, ha, _⟩ := hK.r k hk
            obtain ⟨j, hj, e⟩ := crash_each ss keep ss.length k (by have := hK.l; omega) s hs
            exact ⟨_, e, by rw [Sec.settled_top, ← ha]; exact s.pick_mem j hj⟩
          have hle : ∀ k, k < 5 → (m k).length ≤ 100 := fun k hk => by obtain ⟨_, _, _, h⟩ := hK.r k hk; omega
          generalize hSC : (crashTo ss keep ss.length).1 = sc at *
          clear hSC
          go_upto_region 30 with (go_at_call 19; refine hcr.mono ?_; rintro e Wc ⟨rfl, pvc, hdc, htc, hlc⟩)
          have hmc := hK.my.turn htc (fun e => hK.nb (e.imp id .inl)) (fun q hq e => hq.2 (e.imp id .inl))
          have hbc : Below w0.heap.size w0 Wc := htc.below hK.b hK.b.size (fun q e => by
            rcases e with e | e
            · rw [e]; exact hK.d.low.1
            · rw [e]; exact hK.d.low.2)
          clear hcr htc hlc hK hkeep hsm hk0 hkc hkx hk20 hl40
          go_wp2_with fail
          go_loopw [14] (fun i wr => ∃ k : Nat, k ≤ 5 ∧ i = .int .i64 (k : Int) ∧ Below Wc.heap.size Wc wr) (fun i _ => 5 - (intOf i).toNat)
          case atStart => exact ⟨0, by omega, rfl, Below.refl _ _⟩
          case round =>
            obtain ⟨k, hk, rfl, hb⟩ := hrel
            by_cases hk5 : k < 5
            · have hk5' : (k : Int) < 5 := by omega
              obtain ⟨s', hs', hmem⟩ := hin k hk5
              have hrd := read_in (hdc.below hb) k s' hs'
              have hn100 := hle k hk5
              go_upto_region 34 with (go_at_call 21; refine hrd.mono ?_; rintro e Wr ⟨g, rfl, hgl, hrow, hbr⟩)
              have hbcr : Below Wc.heap.size Wc Wr := hb.trans (hbr.mono hb.size)
              obtain ⟨A1, c1, hc, hsl, hlc, _⟩ := (hmc.below hbcr).c k hk5
              have hBl := (hmc.below hbcr).b
              have hgr := range_new hrow
              have hgl2 : g < Wr.heap.size := range_lt hgr (by rw [bcells_len, s'.top_len]; omega)
              have htl := s'.top_len
              have hfa := fnd_all (m k) s'.top hmem
              obtain ⟨ls, hls⟩ : ∃ ls, ls = m k := ⟨_, rfl⟩
              rw [← hls] at hc hsl hlc hfa hn100
              generalize s'.top = tp at *
              clear hrd hrow hmem hls hbr hgl hs'
              go_wp2_with fail
              go_loopw [17, 18] (fun x i wr => ∃ j : Nat, j ≤ ls.length ∧ x = .bool (fnd ls tp j) ∧ i = .int .i64 (j : Int) ∧ Below Wr.heap.size Wr wr) (fun _ i _ => ls.length - (intOf i).toNat)
              case atStart => exact ⟨0, by omega, rfl, rfl, Below.refl _ _⟩
              case round =>
                obtain ⟨j, hj, rfl, rfl, hbw⟩ := hrel
                have hcw := (hbw.cell (p := ⟨B, k, none⟩) hBl).trans hc
                by_cases hjl : j < ls.length
                · obtain ⟨b, hbj⟩ : ∃ b, ls[j]? = some b := ⟨ls[j], List.getElem?_eq_getElem hjl⟩
                  have hst := fnd_step ls tp j b hbj
                  have hjn : (j : Int) < (ls.length : Int) := by omega
                  obtain ⟨b1, o1, e1, hbl, hcel⟩ := hsl (by rw [bcells_len]; omega)
                  subst e1
                  have hcj := (hbw.cell (p := ⟨b1, o1 + j, none⟩) hbl).trans (hcel j (cellB b) (by simp [bcells, hbj]))
                  cases hfj : fnd ls tp j with
                  | true =>
                    rw [hfj, Bool.true_or] at hst
                    go_wp2_with fail
                    go_roundw
                    case rel => exact ⟨j + 1, by omega, by rw [hst], by go_num, hbw⟩
                    case measure => simp [intOf] <;> omega
                  | false =>
                    rw [hfj, Bool.false_or] at hst
                    obtain ⟨y, hy⟩ : ∃ y : Int, y = (b.toNat : Int) := ⟨_, rfl⟩
                    have hyb : 0 ≤ y ∧ y < 256 := by have := b.toNat_lt; omega
                    have hcy : wr.cell? ⟨b1, o1 + j, none⟩ = some (.int .u8 y) := by rw [hcj, hy]; rfl
                    have hfy : fillL y = rep8 b := by rw [rep8_fill, hy, fillB_back]
                    have HY := Lib.hid hfy
                    have hwr : wrap64 y = y := by unfold wrap64; omega
                    have hfl := filled_any y
                    have hg2 := (Turn.of_below (F := fun _ => False) hbw).range hgr hgl2 id
                    have hgl3 : g < wr.heap.size := Nat.lt_of_lt_of_le hgl2 hbw.size
                    clear hy hfy hcj hcel hfa hin
                    go_wp2_with (first | (go_at_call 11; refine (hfl _).mono ?_; rintro e Wa ⟨rfl, hra, hba⟩; have hga := (Turn.of_below (F := fun _ => False) hba).range hg2 hgl3 id; have hsm := same_two tp (fillL y) htl (fillL_len y) g wr.heap.size 128 128 Wa hga (range_new hra); rw [HY.out, ← hst] at hsm; have HBa := Lib.hid (hbw.trans (hba.mono hbw.size)); clear hga hra hba) | (go_at_call 23; refine hsm.mono ?_; rintro e Wb ⟨rfl, hbb⟩; have HBb := Lib.hid (HBa.out.trans (hbb.mono HBa.out.size)); clear hbb hsm))
                    go_roundw
                    case rel => exact ⟨j + 1, by omega, by rw [hst], by go_num, HBb.out⟩
                    case measure => simp [intOf] <;> omega
                · obtain rfl : j = ls.length := by omega
                  rw [hfa]
                  have HB := Lib.hid (hbcr.trans (hbw.mono hbcr.size))
                  have hd3 : ¬ ((ls.length : Int) < (ls.length : Int)) := by omega
                  clear hj hjl hfa hbw hbcr
                  go_wp2_with fail
                  refine ⟨?rel, ?measure⟩
                  case rel => exact ⟨k + 1, by omega, by go_num, HB.out⟩
                  case measure => simp [intOf] <;> omega
            · obtain rfl : k = 5 := by omega
              have hof := off_any (hdc.below hb)
              have HB := Lib.hid (hbc.trans (hb.mono hbc.size))
              clear hin hle hmc hdc hb hk
              go_wp2_with (go_at_call 24; refine hof.mono ?_; rintro e Wz ⟨rfl, hbz⟩; have HZ := Lib.hid hbz; clear hbz)
              go_ret
              exact ⟨rfl, HB.out.trans (HZ.out.mono HB.out.size)⟩
end Go.Proofs.YtionjhlllpipjaaDoor
