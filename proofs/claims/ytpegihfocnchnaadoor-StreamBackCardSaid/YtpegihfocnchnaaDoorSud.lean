import Derived.Test.YtpegihfocnchnaaDoorSua
/-
  The document's chunks: one, Count, Piece, the nonce, Seal, Open.
-/
namespace Go.Proofs.YtpegihfocnchnaaDoor
open Go.RowKit

theorem lss_true (t : TypeId) (x y : Operand) (a b : Int) (h : a < b) (w : World) : (do eqGuard .lss t x y (.int .i64 a) (.int .i64 b); binOp .lss t (.int .i64 a) (.int .i64 b) : Sem Value).run Tryd.prog w = .ok (.bool true) w := by
  simp [eqGuard, binOp, Op.intCmp]
  try omega
theorem lss_false (t : TypeId) (x y : Operand) (a b : Int) (h : b ≤ a) (w : World) : (do eqGuard .lss t x y (.int .i64 a) (.int .i64 b); binOp .lss t (.int .i64 a) (.int .i64 b) : Sem Value).run Tryd.prog w = .ok (.bool false) w := by
  simp [eqGuard, binOp, Op.intCmp]
  try omega
theorem gtr_true (t : TypeId) (x y : Operand) (a b : Int) (h : b < a) (w : World) : (do eqGuard .gtr t x y (.int .i64 a) (.int .i64 b); binOp .gtr t (.int .i64 a) (.int .i64 b) : Sem Value).run Tryd.prog w = .ok (.bool true) w := by
  simp [eqGuard, binOp, Op.intCmp]
  try omega
theorem gtr_false (t : TypeId) (x y : Operand) (a b : Int) (h : a ≤ b) (w : World) : (do eqGuard .gtr t x y (.int .i64 a) (.int .i64 b); binOp .gtr t (.int .i64 a) (.int .i64 b) : Sem Value).run Tryd.prog w = .ok (.bool false) w := by
  simp [eqGuard, binOp, Op.intCmp]
  try omega
theorem geq_true (t : TypeId) (x y : Operand) (a b : Int) (h : b ≤ a) (w : World) : (do eqGuard .geq t x y (.int .i64 a) (.int .i64 b); binOp .geq t (.int .i64 a) (.int .i64 b) : Sem Value).run Tryd.prog w = .ok (.bool true) w := by
  simp [eqGuard, binOp, Op.intCmp]
  try omega
theorem geq_false (t : TypeId) (x y : Operand) (a b : Int) (h : a < b) (w : World) : (do eqGuard .geq t x y (.int .i64 a) (.int .i64 b); binOp .geq t (.int .i64 a) (.int .i64 b) : Sem Value).run Tryd.prog w = .ok (.bool false) w := by
  simp [eqGuard, binOp, Op.intCmp]
  try omega
theorem leq_true (t : TypeId) (x y : Operand) (a b : Int) (h : a ≤ b) (w : World) : (do eqGuard .leq t x y (.int .i64 a) (.int .i64 b); binOp .leq t (.int .i64 a) (.int .i64 b) : Sem Value).run Tryd.prog w = .ok (.bool true) w := by
  simp [eqGuard, binOp, Op.intCmp]
  try omega
theorem leq_false (t : TypeId) (x y : Operand) (a b : Int) (h : b < a) (w : World) : (do eqGuard .leq t x y (.int .i64 a) (.int .i64 b); binOp .leq t (.int .i64 a) (.int .i64 b) : Sem Value).run Tryd.prog w = .ok (.bool false) w := by
  simp [eqGuard, binOp, Op.intCmp]
  try omega

theorem rem_i64S (t : TypeId) (x y : Operand) (a b : Nat) (hb : 0 < b) (h2 : a ≤ 9223372036854775807) (w : World) : (do eqGuard .rem t x y (.int .i64 (a : Int)) (.int .i64 (b : Int)); binOp .rem t (.int .i64 (a : Int)) (.int .i64 (b : Int)) : Sem Value).run Tryd.prog w = .ok (.int .i64 ((a % b : Nat) : Int)) w := by
  have hm : ((a : Int).tmod (b : Int)) = ((a % b : Nat) : Int) := by rw [Int.tmod_eq_emod_of_nonneg (by omega)]; simp
  have hl : a % b ≤ a := Nat.mod_le _ _
  have hb1 : ¬ b = 0 := by omega
  obtain ⟨q, hq⟩ : ∃ q, q = a % b := ⟨_, rfl⟩
  rw [← hq] at hm hl ⊢
  have hw : IntKind.i64.wrap (q : Int) = (q : Int) := IntWalk.i64_in _ (by omega)
  simp [eqGuard, binOp, Op.intDiv, hb1, hm]
  try exact hw
set_option maxRecDepth 100000 in
theorem done_any (ch : Int) (w : World) :
    Calls Tryd.prog 23 #[.int .i64 ch] w fun e w' => e = .returned (.int .i64 (oneN ch : Int)) ∧ Below w.heap.size w w' := by
  have hd := oneN_max ch
  go_enter Tryd.func23, Tryd.ntmps23
  go_upto_region 1 with (fail)
  refine wp_region_text [Sp.k 0 (some 3) [] (.int .i64 ch),
    Sp.k 1 (some 4) [0] (.int .i64 (oneN ch : Int)),
    Sp.k 2 (some 2) [1] (.int .i64 (oneN ch : Int))] (by kernel_rfl)
    ⟨owes_move 0 (some 3) [] (.int .i64 ch) (Go.Operand.tmp 0) (fun v => by kernel_rfl) (fun v => by kernel_rfl),
    owes_max 1 (some 4) [0] (.int .i64 (oneN ch : Int)) (.tmp 3) (.const (.int .i64 1)) 3 3 3 (.int .i64 ch) (.int .i64 1) (fun v => by kernel_rfl) (by kernel_rfl) (fun v => by kernel_rfl) (fun w => max_i64 _ _ _ hd w),
    owes_assign 2 (some 2) [1] (.int .i64 (oneN ch : Int)) (Go.Operand.tmp 4) (fun v => by kernel_rfl) (fun v => by kernel_rfl), trivial⟩ ?_
  intro v w1 hb1 hall
  clear hall hd
  simp only [putsL_k, putsL_nil, List.set_cons_zero, List.set_cons_succ]
  go_wp2_with fail
  go_ret
  exact ⟨rfl, hb1⟩
theorem countN_split (s d : Nat) (ch : Int) (hd : oneN ch = d) (hp : 0 < d) : (s % d = 0 → countN (s : Int) ch = max (s / d) 1) ∧ (0 < s % d → countN (s : Int) ch = s / d + 1) := by
  have h1 := Nat.div_add_mod s d
  have h2 := Nat.mod_lt s hp
  unfold countN
  rw [hd]
  by_cases hs : (s : Int) < 1
  · have : s = 0 := by omega
    subst this
    simp
  · rw [if_neg hs]
    have hs1 : ((s : Int)).toNat - 1 = s - 1 := by omega
    rw [hs1]
    constructor
    · intro h
      have hq : 1 ≤ s / d := by
        rcases Nat.eq_zero_or_pos (s / d) with h0 | h0
        · rw [h0] at h1; simp at h1; omega
        · exact h0
      have he : (s - 1) / d = s / d - 1 := by
        obtain ⟨q, hq1⟩ : ∃ q, s / d = q + 1 := ⟨s / d - 1, by omega⟩
        rw [hq1] at h1 ⊢
        have hm : d * (q + 1) = q * d + d := by rw [Nat.mul_add, Nat.mul_one, Nat.mul_comm]
        apply Nat.div_eq_of_lt_le
        · show (q + 1 - 1) * d ≤ s - 1
          simp; omega
        · show s - 1 < (q + 1 - 1 + 1) * d
          have : (q + 1 - 1 + 1) * d = q * d + d := by simp [Nat.add_mul]
          omega
      omega
    · intro h
      have he : (s - 1) / d = s / d := by
        have hm : d * (s / d) = s / d * d := Nat.mul_comm _ _
        have hm2 : (s / d + 1) * d = s / d * d + d := by rw [Nat.add_mul, Nat.one_mul]
        apply Nat.div_eq_of_lt_le
        · omega
        · show s - 1 < (s / d + 1) * d
          omega
      omega
set_option maxRecDepth 100000 in
theorem dcount_any (s : Nat) (ch : Int) (w : World) (hs : s ≤ 4611686018427387904) :
    Calls Tryd.prog 11 #[.int .i64 (s : Int), .int .i64 ch] w fun e w' => e = .returned (.int .i64 (countN (s : Int) ch : Int)) ∧ Below w.heap.size w w' := by
  go_enter Tryd.func11, Tryd.ntmps11
  have HD := done_any ch
  obtain ⟨d, hd⟩ : ∃ d, oneN ch = d := ⟨_, rfl⟩
  have hp : 0 < d := by rw [← hd]; exact oneN_pos ch
  rw [hd] at HD
  have hsp := countN_split s d ch hd hp
  have hq := fun t x y => quo_i64S t x y s d hp (by omega)
  have hr := fun t x y => rem_i64S t x y s d hp (by omega)
  have hql := Nat.div_le_self s d
  have hrl := Nat.mod_le s d
  generalize countN (s : Int) ch = N at hsp ⊢
  generalize s / d = q at hq hql hsp
  generalize s % d = r at hr hrl hsp
  replace hq := fun w => hq 3 (.tmp 6) (.tmp 8) w
  replace hr := fun w => hr 3 (.tmp 10) (.tmp 12) w
  have HSP := Lib.hid hsp
  clear hd hsp
  go_upto_region 1 with (fail)
  refine wp_region_text [Sp.k 0 (some 6) [] (.int .i64 (s : Int)),
    Sp.k 1 (some 7) [] (.int .i64 ch),
    Sp.k 2 (some 8) [1] (.int .i64 (d : Int)),
    Sp.k 3 (some 9) [0, 2] (.int .i64 (q : Int)),
    Sp.k 4 (some 5) [3] (.int .i64 (q : Int))] (by kernel_rfl)
    ⟨owes_move 0 (some 6) [] (.int .i64 (s : Int)) (Go.Operand.tmp 0) (fun v => by kernel_rfl) (fun v => by kernel_rfl),
    owes_move 1 (some 7) [] (.int .i64 ch) (Go.Operand.tmp 1) (fun v => by kernel_rfl) (fun v => by kernel_rfl),
    owes_call 2 (some 8) [1] (.int .i64 (d : Int)) 23 #[Go.Operand.tmp 7] #[3] (fun v => by kernel_rfl) (fun _ _ => by kernel_rfl) (fun v w' hb ho => by
        exact ⟨#[.int .i64 ch], by kernel_rfl, (HD w').mono (fun _ _ h => h)⟩),
    owes_bin 3 (some 9) [0, 2] (.int .i64 (q : Int)) Go.BinOp.quo 3 (Go.Operand.tmp 6) (Go.Operand.tmp 8) 3 (.int .i64 (s : Int)) (.int .i64 (d : Int)) (fun v => by kernel_rfl) (fun v => by kernel_rfl) (hq),
    owes_assign 4 (some 5) [3] (.int .i64 (q : Int)) (Go.Operand.tmp 9) (fun v => by kernel_rfl) (fun v => by kernel_rfl), trivial⟩ ?_
  intro v w1 hb1 hall
  clear hall hq
  simp only [putsL_k, putsL_nil, List.set_cons_zero, List.set_cons_succ]
  by_cases h0 : r = 0
  · have hN : max q 1 = N := (HSP.out.1 h0).symm
    go_upto_region 2 with (fail)
    refine wp_region_text [Sp.k 0 (some 10) [] (.int .i64 (s : Int)),
      Sp.k 1 (some 11) [] (.int .i64 ch),
      Sp.k 2 (some 12) [1] (.int .i64 (d : Int)),
      Sp.k 3 (some 13) [0, 2] (.int .i64 (r : Int)),
      Sp.k 4 (some 14) [3] (.bool false)] (by kernel_rfl)
      ⟨owes_move 0 (some 10) [] (.int .i64 (s : Int)) (Go.Operand.tmp 0) (fun v => by kernel_rfl) (fun v => by kernel_rfl),
      owes_move 1 (some 11) [] (.int .i64 ch) (Go.Operand.tmp 1) (fun v => by kernel_rfl) (fun v => by kernel_rfl),
      owes_call 2 (some 12) [1] (.int .i64 (d : Int)) 23 #[Go.Operand.tmp 11] #[3] (fun v => by kernel_rfl) (fun _ _ => by kernel_rfl) (fun v w' hb ho => by
          exact ⟨#[.int .i64 ch], by kernel_rfl, (HD w').mono (fun _ _ h => h)⟩),
      owes_bin 3 (some 13) [0, 2] (.int .i64 (r : Int)) Go.BinOp.rem 3 (Go.Operand.tmp 10) (Go.Operand.tmp 12) 3 (.int .i64 (s : Int)) (.int .i64 (d : Int)) (fun v => by kernel_rfl) (fun v => by kernel_rfl) (hr),
      owes_bin 4 (some 14) [3] (.bool false) Go.BinOp.gtr 3 (Go.Operand.tmp 13) (Go.Operand.const (Go.Value.int Go.IntKind.i64 0)) 3 (.int .i64 (r : Int)) (Go.Value.int Go.IntKind.i64 0) (fun v => by kernel_rfl) (fun v => by kernel_rfl) (gtr_false _ _ _ _ _ (by omega)), trivial⟩ ?_
    intro v w2 hb2 hall
    clear hall HD hr
    simp only [putsL_k, putsL_nil, List.set_cons_zero, List.set_cons_succ]
    have HN := Lib.hid hN
    clear hN HSP
    have hb := hb1.trans (hb2.mono hb1.size)
    clear hb1 hb2
    go_upto_region 4 with (fail)
    have hN := HN.out
    refine wp_region_text [Sp.k 0 (some 17) [] (.int .i64 (q : Int)),
      Sp.k 1 (some 18) [0] (.int .i64 (N : Int)),
      Sp.k 2 (some 4) [1] (.int .i64 (N : Int))] (by kernel_rfl)
      ⟨owes_move 0 (some 17) [] (.int .i64 (q : Int)) (Go.Operand.tmp 5) (fun v => by kernel_rfl) (fun v => by kernel_rfl),
      owes_max 1 (some 18) [0] (.int .i64 (N : Int)) (.tmp 17) (.const (.int .i64 1)) 3 3 3 (.int .i64 q) (.int .i64 1) (fun v => by kernel_rfl) (by kernel_rfl) (fun v => by kernel_rfl) (fun w => max_i64 _ _ _ (by split <;> omega) w),
      owes_assign 2 (some 4) [1] (.int .i64 (N : Int)) (Go.Operand.tmp 18) (fun v => by kernel_rfl) (fun v => by kernel_rfl), trivial⟩ ?_
    intro v w3 hb3 hall
    clear hall hN
    simp only [putsL_k, putsL_nil, List.set_cons_zero, List.set_cons_succ]
    go_wp2_with fail
    go_ret
    exact ⟨rfl, hb.trans (hb3.mono hb.size)⟩
  · have hN : q + 1 = N := (HSP.out.2 (by omega)).symm
    go_upto_region 2 with (fail)
    refine wp_region_text [Sp.k 0 (some 10) [] (.int .i64 (s : Int)),
      Sp.k 1 (some 11) [] (.int .i64 ch),
      Sp.k 2 (some 12) [1] (.int .i64 (d : Int)),
      Sp.k 3 (some 13) [0, 2] (.int .i64 (r : Int)),
      Sp.k 4 (some 14) [3] (.bool true)] (by kernel_rfl)
      ⟨owes_move 0 (some 10) [] (.int .i64 (s : Int)) (Go.Operand.tmp 0) (fun v => by kernel_rfl) (fun v => by kernel_rfl),
      owes_move 1 (some 11) [] (.int .i64 ch) (Go.Operand.tmp 1) (fun v => by kernel_rfl) (fun v => by kernel_rfl),
      owes_call 2 (some 12) [1] (.int .i64 (d : Int)) 23 #[Go.Operand.tmp 11] #[3] (fun v => by kernel_rfl) (fun _ _ => by kernel_rfl) (fun v w' hb ho => by
          exact ⟨#[.int .i64 ch], by kernel_rfl, (HD w').mono (fun _ _ h => h)⟩),
      owes_bin 3 (some 13) [0, 2] (.int .i64 (r : Int)) Go.BinOp.rem 3 (Go.Operand.tmp 10) (Go.Operand.tmp 12) 3 (.int .i64 (s : Int)) (.int .i64 (d : Int)) (fun v => by kernel_rfl) (fun v => by kernel_rfl) (hr),
      owes_bin 4 (some 14) [3] (.bool true) Go.BinOp.gtr 3 (Go.Operand.tmp 13) (Go.Operand.const (Go.Value.int Go.IntKind.i64 0)) 3 (.int .i64 (r : Int)) (Go.Value.int Go.IntKind.i64 0) (fun v => by kernel_rfl) (fun v => by kernel_rfl) (gtr_true _ _ _ _ _ (by omega)), trivial⟩ ?_
    intro v w2 hb2 hall
    clear hall HD hr
    simp only [putsL_k, putsL_nil, List.set_cons_zero, List.set_cons_succ]
    have HN := Lib.hid hN
    clear hN HSP
    have hb := hb1.trans (hb2.mono hb1.size)
    clear hb1 hb2
    go_upto_region 3 with (fail)
    refine wp_region_text [Sp.k 0 (some 15) [] (.int .i64 (q : Int)),
      Sp.k 1 (some 16) [0] (.int .i64 ((q + 1 : Nat) : Int)),
      Sp.k 2 (some 5) [0, 1] (.int .i64 ((q + 1 : Nat) : Int))] (by kernel_rfl)
      ⟨owes_move 0 (some 15) [] (.int .i64 (q : Int)) (Go.Operand.tmp 5) (fun v => by kernel_rfl) (fun v => by kernel_rfl),
      owes_bin 1 (some 16) [0] (.int .i64 ((q + 1 : Nat) : Int)) Go.BinOp.add 3 (Go.Operand.tmp 15) (Go.Operand.const (Go.Value.int Go.IntKind.i64 1)) 3 (.int .i64 (q : Int)) (Go.Value.int Go.IntKind.i64 1) (fun v => by kernel_rfl) (fun v => by kernel_rfl) (add_i64 _ _ _ _ _ _ (by omega) (by omega) (by omega)),
      owes_assign 2 (some 5) [0, 1] (.int .i64 ((q + 1 : Nat) : Int)) (Go.Operand.tmp 16) (fun v => by kernel_rfl) (fun v => by kernel_rfl), trivial⟩ ?_
    intro v w3 hb3 hall
    clear hall
    simp only [putsL_k, putsL_nil, List.set_cons_zero, List.set_cons_succ]
    have hb4 := hb.trans (hb3.mono hb.size)
    clear hb hb3
    go_upto_region 4 with (fail)
    have hN := HN.out
    refine wp_region_text [Sp.k 0 (some 17) [] (.int .i64 (((q + 1 : Nat) : Int) : Int)),
      Sp.k 1 (some 18) [0] (.int .i64 (N : Int)),
      Sp.k 2 (some 4) [1] (.int .i64 (N : Int))] (by kernel_rfl)
      ⟨owes_move 0 (some 17) [] (.int .i64 (((q + 1 : Nat) : Int) : Int)) (Go.Operand.tmp 5) (fun v => by kernel_rfl) (fun v => by kernel_rfl),
      owes_max 1 (some 18) [0] (.int .i64 (N : Int)) (.tmp 17) (.const (.int .i64 1)) 3 3 3 (.int .i64 ((q + 1 : Nat) : Int)) (.int .i64 1) (fun v => by kernel_rfl) (by kernel_rfl) (fun v => by kernel_rfl) (fun w => max_i64 _ _ _ (by split <;> omega) w),
      owes_assign 2 (some 4) [1] (.int .i64 (N : Int)) (Go.Operand.tmp 18) (fun v => by kernel_rfl) (fun v => by kernel_rfl), trivial⟩ ?_
    intro v w4 hb5 hall
    clear hall hN
    simp only [putsL_k, putsL_nil, List.set_cons_zero, List.set_cons_succ]
    go_wp2_with fail
    go_ret
    exact ⟨rfl, hb4.trans (hb5.mono hb4.size)⟩

theorem pieceL_ref (file : List (BitVec 8)) (ch i : Int) (d : Nat) (hd : oneN ch = d) (hp : 0 < d) :
    pieceL file ch i = if i < 0 ∨ ((file.length / d : Nat) : Int) < i ∨ file.length ≤ i.toNat * d then [] else (file.drop (i.toNat * d)).take (min d (file.length - i.toNat * d)) := by
  unfold pieceL
  rw [hd]
  have hc := countN_split file.length d ch hd hp
  have h1 := Nat.div_add_mod file.length d
  have h2 := Nat.mod_lt file.length hp
  by_cases hi : i < 0
  · rw [if_pos (.inl hi), if_pos (.inl hi)]
  obtain ⟨k, rfl⟩ : ∃ k : Nat, i = (k : Int) := ⟨i.toNat, by omega⟩
  simp only [Int.toNat_natCast]
  by_cases hk : file.length ≤ k * d
  · rw [if_pos (show (k : Int) < 0 ∨ ((file.length / d : Nat) : Int) < (k : Int) ∨ file.length ≤ k * d from .inr (.inr hk))]
    split
    · rfl
    · rw [List.drop_eq_nil_of_le hk]; simp
  · have hq : k ≤ file.length / d := by rw [Nat.le_div_iff_mul_le hp]; omega
    rw [if_neg (show ¬ ((k : Int) < 0 ∨ (countN (file.length : Int) ch : Int) ≤ (k : Int)) from ?_), if_neg (show ¬ ((k : Int) < 0 ∨ ((file.length / d : Nat) : Int) < (k : Int) ∨ file.length ≤ k * d) from ?_)]
    · rw [← List.length_drop, ← List.take_eq_take_min]
    · rintro (h | h | h)
      · omega
      · have := Int.ofNat_lt.1 h; omega
      · exact hk h
    · rintro (h | h)
      · omega
      · have h3 := Int.ofNat_le.1 h
        rcases Nat.eq_zero_or_pos (file.length % d) with h0 | h0
        · have h4 := hc.1 h0
          have h5 : k < file.length / d ∨ k = file.length / d := by omega
          rcases h5 with h5 | h5
          · omega
          · rw [h0] at h1
            have : d * (file.length / d) = k * d := by rw [← h5, Nat.mul_comm]
            omega
        · have h4 := hc.2 h0
          omega
set_option maxRecDepth 100000 in
set_option maxHeartbeats 1600000 in
theorem dpiece_any (A : Option Addr) (file : List (BitVec 8)) (ca : Nat) (ch i : Int) (w : World) (hA : SlRead w A (ints .u8 (bys file))) (hca : file.length ≤ ca) (hl : file.length ≤ 1000) (hi1 : i ≤ 100000) (hch : ch ≤ 100000) :
    Calls Tryd.prog 14 #[.slice A file.length ca, .int .i64 ch, .int .i64 i] w fun e w' => ∃ r, e = .returned r ∧ Below w.heap.size w w' ∧ SlIsA (pieceL file ch i) r w' := by
  go_enter Tryd.func14, Tryd.ntmps14
  have HD := done_any ch
  obtain ⟨d, hd⟩ : ∃ d, oneN ch = d := ⟨_, rfl⟩
  have hp : 0 < d := by rw [← hd]; exact oneN_pos ch
  have hdl : d ≤ 100000 := by rw [← hd]; unfold oneN; split <;> omega
  rw [hd] at HD
  have hpl := pieceL_ref file ch i d hd hp
  generalize pieceL file ch i = PL at hpl ⊢
  have hq := fun w => quo_i64S 3 (.tmp 15) (.tmp 16) file.length d hp (by omega) w
  generalize file.length / d = q at hpl hq
  have HPL := Lib.hid hpl
  clear hpl hd
  obtain ⟨n, hn⟩ : ∃ n, n = file.length := ⟨_, rfl⟩
  rw [← hn] at hq hl hca ⊢
  have HN := Lib.hid hn
  clear hn
  go_upto_region 1 with (fail)
  refine wp_region_text [Sp.k 0 (some 8) [] (.int .i64 ch),
    Sp.k 1 (some 9) [0] (.int .i64 (d : Int)),
    Sp.k 2 (some 7) [1] (.int .i64 (d : Int))] (by kernel_rfl)
    ⟨owes_move 0 (some 8) [] (.int .i64 ch) (Go.Operand.tmp 1) (fun v => by kernel_rfl) (fun v => by kernel_rfl),
    owes_call 1 (some 9) [0] (.int .i64 (d : Int)) 23 #[Go.Operand.tmp 8] #[3] (fun v => by kernel_rfl) (fun _ _ => by kernel_rfl) (fun v w' hb ho => by
        exact ⟨#[.int .i64 ch], by kernel_rfl, (HD w').mono (fun _ _ h => h)⟩),
    owes_assign 2 (some 7) [1] (.int .i64 (d : Int)) (Go.Operand.tmp 9) (fun v => by kernel_rfl) (fun v => by kernel_rfl), trivial⟩ ?_
  intro v w1 hb1 hall
  clear hall HD
  simp only [putsL_k, putsL_nil, List.set_cons_zero, List.set_cons_succ]
  by_cases hi : i < 0
  · go_upto_region 2 with (fail)
    refine wp_region_text [Sp.k 0 (some 10) [] (.int .i64 i),
      Sp.k 1 (some 11) [0] (.bool true),
      Sp.k 2 (some 12) [1] (.bool true),
      Sp.k 3 (some 13) [2] (undef),
      Sp.k 4 (some 14) [2] (undef),
      Sp.k 5 (some 15) [2, 4] (undef),
      Sp.k 6 (some 16) [2] (undef),
      Sp.k 7 (some 17) [2, 5, 6] (undef),
      Sp.k 8 (some 18) [2, 3, 7] (undef),
      Sp.k 9 (some 19) [2, 8] (Go.Value.bool true),
      Sp.k 10 (some 20) [9] (Go.Value.bool true),
      Sp.k 11 (some 21) [10] (undef),
      Sp.k 12 (some 22) [10] (undef),
      Sp.k 13 (some 23) [10, 11, 12] (undef),
      Sp.k 14 (some 24) [10] (undef),
      Sp.k 15 (some 25) [10, 14] (undef),
      Sp.k 16 (some 26) [10, 13, 15] (undef),
      Sp.k 17 (some 27) [10, 16] (Go.Value.bool true)] (by kernel_rfl)
      ⟨owes_move 0 (some 10) [] (.int .i64 i) (Go.Operand.tmp 2) (fun v => by kernel_rfl) (fun v => by kernel_rfl),
      owes_bin 1 (some 11) [0] (.bool true) Go.BinOp.lss 3 (Go.Operand.tmp 10) (Go.Operand.const (Go.Value.int Go.IntKind.i64 0)) 3 (.int .i64 i) (Go.Value.int Go.IntKind.i64 0) (fun v => by kernel_rfl) (fun v => by kernel_rfl) (lss_true _ _ _ _ _ (by omega)),
      owes_move 2 (some 12) [1] (.bool true) (Go.Operand.tmp 11) (fun v => by kernel_rfl) (fun v => by kernel_rfl),
      owes_skip 3 (some 13) [2] (fun v => by kernel_rfl),
      owes_skip 4 (some 14) [2] (fun v => by kernel_rfl),
      owes_skip 5 (some 15) [2, 4] (fun v => by kernel_rfl),
      owes_skip 6 (some 16) [2] (fun v => by kernel_rfl),
      owes_skip 7 (some 17) [2, 5, 6] (fun v => by kernel_rfl),
      owes_skip 8 (some 18) [2, 3, 7] (fun v => by kernel_rfl),
      owes_pick 9 (some 19) [2, 8] (Go.Value.bool true) (Go.Operand.tmp 12) (Go.Operand.const (Go.Value.bool true)) (Go.Operand.tmp 18) true (fun v => by kernel_rfl) (fun v => by kernel_rfl) (fun v => by kernel_rfl),
      owes_move 10 (some 20) [9] (Go.Value.bool true) (Go.Operand.tmp 19) (fun v => by kernel_rfl) (fun v => by kernel_rfl),
      owes_skip 11 (some 21) [10] (fun v => by kernel_rfl),
      owes_skip 12 (some 22) [10] (fun v => by kernel_rfl),
      owes_skip 13 (some 23) [10, 11, 12] (fun v => by kernel_rfl),
      owes_skip 14 (some 24) [10] (fun v => by kernel_rfl),
      owes_skip 15 (some 25) [10, 14] (fun v => by kernel_rfl),
      owes_skip 16 (some 26) [10, 13, 15] (fun v => by kernel_rfl),
      owes_pick 17 (some 27) [10, 16] (Go.Value.bool true) (Go.Operand.tmp 20) (Go.Operand.const (Go.Value.bool true)) (Go.Operand.tmp 26) true (fun v => by kernel_rfl) (fun v => by kernel_rfl) (fun v => by kernel_rfl), trivial⟩ ?_
    intro v w2 hb2 hall
    clear hall hq
    simp only [putsL_k, putsL_nil, List.set_cons_zero, List.set_cons_succ]
    have e1 : PL = [] := by rw [HPL.out, if_pos (.inl hi)]
    have E1 := Lib.hid e1
    clear e1
    have hb := hb1.trans (hb2.mono hb1.size)
    go_wp2_with fail
    go_ret
    rw [E1.out]
    exact ⟨_, rfl, hb, none, 0, rfl, by simp, SlRead.nil_⟩
  obtain ⟨i, rfl⟩ : ∃ k : Nat, i = (k : Int) := ⟨i.toNat, by omega⟩
  by_cases hiq : (q : Int) < (i : Int)
  · go_upto_region 2 with (fail)
    refine wp_region_text [Sp.k 0 (some 10) [] (.int .i64 (i : Int)),
      Sp.k 1 (some 11) [0] (.bool false),
      Sp.k 2 (some 12) [1] (.bool false),
      Sp.k 3 (some 13) [2] (.int .i64 (i : Int)),
      Sp.k 4 (some 14) [2] (.slice A n ca),
      Sp.k 5 (some 15) [2, 4] (.int .i64 (n : Int)),
      Sp.k 6 (some 16) [2] (.int .i64 (d : Int)),
      Sp.k 7 (some 17) [2, 5, 6] (.int .i64 (q : Int)),
      Sp.k 8 (some 18) [2, 3, 7] (.bool true),
      Sp.k 9 (some 19) [2, 8] (.bool true),
      Sp.k 10 (some 20) [9] (.bool true),
      Sp.k 11 (some 21) [10] (undef),
      Sp.k 12 (some 22) [10] (undef),
      Sp.k 13 (some 23) [10, 11, 12] (undef),
      Sp.k 14 (some 24) [10] (undef),
      Sp.k 15 (some 25) [10, 14] (undef),
      Sp.k 16 (some 26) [10, 13, 15] (undef),
      Sp.k 17 (some 27) [10, 16] (Go.Value.bool true)] (by kernel_rfl)
      ⟨owes_move 0 (some 10) [] (.int .i64 (i : Int)) (Go.Operand.tmp 2) (fun v => by kernel_rfl) (fun v => by kernel_rfl),
      owes_bin 1 (some 11) [0] (.bool false) Go.BinOp.lss 3 (Go.Operand.tmp 10) (Go.Operand.const (Go.Value.int Go.IntKind.i64 0)) 3 (.int .i64 (i : Int)) (Go.Value.int Go.IntKind.i64 0) (fun v => by kernel_rfl) (fun v => by kernel_rfl) (lss_false _ _ _ _ _ (by omega)),
      owes_move 2 (some 12) [1] (.bool false) (Go.Operand.tmp 11) (fun v => by kernel_rfl) (fun v => by kernel_rfl),
      owes_move 3 (some 13) [2] (.int .i64 (i : Int)) (Go.Operand.tmp 2) (fun v => by kernel_rfl) (fun v => by kernel_rfl),
      owes_move 4 (some 14) [2] (.slice A n ca) (Go.Operand.tmp 0) (fun v => by kernel_rfl) (fun v => by kernel_rfl),
      owes_lenB 5 (some 15) [2, 4] (.int .i64 (n : Int)) (.tmp 14) 24 3 (.slice A n ca) (fun v => by kernel_rfl) (by kernel_rfl) (fun v => by kernel_rfl) (fun w => by kernel_rfl),
      owes_move 6 (some 16) [2] (.int .i64 (d : Int)) (Go.Operand.tmp 7) (fun v => by kernel_rfl) (fun v => by kernel_rfl),
      owes_bin 7 (some 17) [2, 5, 6] (.int .i64 (q : Int)) Go.BinOp.quo 3 (Go.Operand.tmp 15) (Go.Operand.tmp 16) 3 (.int .i64 (n : Int)) (.int .i64 (d : Int)) (fun v => by kernel_rfl) (fun v => by kernel_rfl) (hq),
      owes_bin 8 (some 18) [2, 3, 7] (.bool true) Go.BinOp.gtr 3 (Go.Operand.tmp 13) (Go.Operand.tmp 17) 3 (.int .i64 (i : Int)) (.int .i64 (q : Int)) (fun v => by kernel_rfl) (fun v => by kernel_rfl) (gtr_true _ _ _ _ _ (by omega)),
      owes_pick 9 (some 19) [2, 8] (.bool true) (Go.Operand.tmp 12) (Go.Operand.const (Go.Value.bool true)) (Go.Operand.tmp 18) false (fun v => by kernel_rfl) (fun v => by kernel_rfl) (fun v => by kernel_rfl),
      owes_move 10 (some 20) [9] (.bool true) (Go.Operand.tmp 19) (fun v => by kernel_rfl) (fun v => by kernel_rfl),
      owes_skip 11 (some 21) [10] (fun v => by kernel_rfl),
      owes_skip 12 (some 22) [10] (fun v => by kernel_rfl),
      owes_skip 13 (some 23) [10, 11, 12] (fun v => by kernel_rfl),
      owes_skip 14 (some 24) [10] (fun v => by kernel_rfl),
      owes_skip 15 (some 25) [10, 14] (fun v => by kernel_rfl),
      owes_skip 16 (some 26) [10, 13, 15] (fun v => by kernel_rfl),
      owes_pick 17 (some 27) [10, 16] (Go.Value.bool true) (Go.Operand.tmp 20) (Go.Operand.const (Go.Value.bool true)) (Go.Operand.tmp 26) true (fun v => by kernel_rfl) (fun v => by kernel_rfl) (fun v => by kernel_rfl), trivial⟩ ?_
    intro v w2 hb2 hall
    clear hall hq
    simp only [putsL_k, putsL_nil, List.set_cons_zero, List.set_cons_succ]
    have e1 : PL = [] := by rw [HPL.out, if_pos (.inr (.inl hiq))]
    have E1 := Lib.hid e1
    clear e1
    have hb := hb1.trans (hb2.mono hb1.size)
    go_wp2_with fail
    go_ret
    rw [E1.out]
    exact ⟨_, rfl, hb, none, 0, rfl, by simp, SlRead.nil_⟩
  have hKb : i * d ≤ 100000 * 100000 := Nat.mul_le_mul (by omega) hdl
  obtain ⟨KK, hKe⟩ : ∃ KK, KK = i * d := ⟨_, rfl⟩
  have hKK : (i : Int) * (d : Int) = (KK : Int) := by rw [hKe]; simp
  rw [← hKe] at hKb
  have HKE := Lib.hid hKe
  clear hKe
  by_cases hK : n ≤ KK
  · go_upto_region 2 with (fail)
    refine wp_region_text [Sp.k 0 (some 10) [] (.int .i64 (i : Int)),
      Sp.k 1 (some 11) [0] (.bool false),
      Sp.k 2 (some 12) [1] (.bool false),
      Sp.k 3 (some 13) [2] (.int .i64 (i : Int)),
      Sp.k 4 (some 14) [2] (.slice A n ca),
      Sp.k 5 (some 15) [2, 4] (.int .i64 (n : Int)),
      Sp.k 6 (some 16) [2] (.int .i64 (d : Int)),
      Sp.k 7 (some 17) [2, 5, 6] (.int .i64 (q : Int)),
      Sp.k 8 (some 18) [2, 3, 7] (.bool false),
      Sp.k 9 (some 19) [2, 8] (.bool false),
      Sp.k 10 (some 20) [9] (.bool false),
      Sp.k 11 (some 21) [10] (.int .i64 (i : Int)),
      Sp.k 12 (some 22) [10] (.int .i64 (d : Int)),
      Sp.k 13 (some 23) [10, 11, 12] (.int .i64 (KK : Int)),
      Sp.k 14 (some 24) [10] (.slice A n ca),
      Sp.k 15 (some 25) [10, 14] (.int .i64 (n : Int)),
      Sp.k 16 (some 26) [10, 13, 15] (.bool true),
      Sp.k 17 (some 27) [10, 16] (.bool true)] (by kernel_rfl)
      ⟨owes_move 0 (some 10) [] (.int .i64 (i : Int)) (Go.Operand.tmp 2) (fun v => by kernel_rfl) (fun v => by kernel_rfl),
      owes_bin 1 (some 11) [0] (.bool false) Go.BinOp.lss 3 (Go.Operand.tmp 10) (Go.Operand.const (Go.Value.int Go.IntKind.i64 0)) 3 (.int .i64 (i : Int)) (Go.Value.int Go.IntKind.i64 0) (fun v => by kernel_rfl) (fun v => by kernel_rfl) (lss_false _ _ _ _ _ (by omega)),
      owes_move 2 (some 12) [1] (.bool false) (Go.Operand.tmp 11) (fun v => by kernel_rfl) (fun v => by kernel_rfl),
      owes_move 3 (some 13) [2] (.int .i64 (i : Int)) (Go.Operand.tmp 2) (fun v => by kernel_rfl) (fun v => by kernel_rfl),
      owes_move 4 (some 14) [2] (.slice A n ca) (Go.Operand.tmp 0) (fun v => by kernel_rfl) (fun v => by kernel_rfl),
      owes_lenB 5 (some 15) [2, 4] (.int .i64 (n : Int)) (.tmp 14) 24 3 (.slice A n ca) (fun v => by kernel_rfl) (by kernel_rfl) (fun v => by kernel_rfl) (fun w => by kernel_rfl),
      owes_move 6 (some 16) [2] (.int .i64 (d : Int)) (Go.Operand.tmp 7) (fun v => by kernel_rfl) (fun v => by kernel_rfl),
      owes_bin 7 (some 17) [2, 5, 6] (.int .i64 (q : Int)) Go.BinOp.quo 3 (Go.Operand.tmp 15) (Go.Operand.tmp 16) 3 (.int .i64 (n : Int)) (.int .i64 (d : Int)) (fun v => by kernel_rfl) (fun v => by kernel_rfl) (hq),
      owes_bin 8 (some 18) [2, 3, 7] (.bool false) Go.BinOp.gtr 3 (Go.Operand.tmp 13) (Go.Operand.tmp 17) 3 (.int .i64 (i : Int)) (.int .i64 (q : Int)) (fun v => by kernel_rfl) (fun v => by kernel_rfl) (gtr_false _ _ _ _ _ (by omega)),
      owes_pick 9 (some 19) [2, 8] (.bool false) (Go.Operand.tmp 12) (Go.Operand.const (Go.Value.bool true)) (Go.Operand.tmp 18) false (fun v => by kernel_rfl) (fun v => by kernel_rfl) (fun v => by kernel_rfl),
      owes_move 10 (some 20) [9] (.bool false) (Go.Operand.tmp 19) (fun v => by kernel_rfl) (fun v => by kernel_rfl),
      owes_move 11 (some 21) [10] (.int .i64 (i : Int)) (Go.Operand.tmp 2) (fun v => by kernel_rfl) (fun v => by kernel_rfl),
      owes_move 12 (some 22) [10] (.int .i64 (d : Int)) (Go.Operand.tmp 7) (fun v => by kernel_rfl) (fun v => by kernel_rfl),
      owes_bin 13 (some 23) [10, 11, 12] (.int .i64 (KK : Int)) Go.BinOp.mul 3 (Go.Operand.tmp 21) (Go.Operand.tmp 22) 3 (.int .i64 (i : Int)) (.int .i64 (d : Int)) (fun v => by kernel_rfl) (fun v => by kernel_rfl) (mul_i64S _ _ _ _ _ _ hKK (by omega) (by omega)),
      owes_move 14 (some 24) [10] (.slice A n ca) (Go.Operand.tmp 0) (fun v => by kernel_rfl) (fun v => by kernel_rfl),
      owes_lenB 15 (some 25) [10, 14] (.int .i64 (n : Int)) (.tmp 24) 24 3 (.slice A n ca) (fun v => by kernel_rfl) (by kernel_rfl) (fun v => by kernel_rfl) (fun w => by kernel_rfl),
      owes_bin 16 (some 26) [10, 13, 15] (.bool true) Go.BinOp.geq 3 (Go.Operand.tmp 23) (Go.Operand.tmp 25) 3 (.int .i64 (KK : Int)) (.int .i64 (n : Int)) (fun v => by kernel_rfl) (fun v => by kernel_rfl) (geq_true _ _ _ _ _ (by omega)),
      owes_pick 17 (some 27) [10, 16] (.bool true) (Go.Operand.tmp 20) (Go.Operand.const (Go.Value.bool true)) (Go.Operand.tmp 26) false (fun v => by kernel_rfl) (fun v => by kernel_rfl) (fun v => by kernel_rfl), trivial⟩ ?_
    intro v w2 hb2 hall
    clear hall hq
    simp only [putsL_k, putsL_nil, List.set_cons_zero, List.set_cons_succ]
    have e1 : PL = [] := by rw [HPL.out, if_pos (.inr (.inr (by rw [Int.toNat_natCast, ← HN.out, ← HKE.out]; exact hK)))]
    have E1 := Lib.hid e1
    clear e1
    have hb := hb1.trans (hb2.mono hb1.size)
    go_wp2_with fail
    go_ret
    rw [E1.out]
    exact ⟨_, rfl, hb, none, 0, rfl, by simp, SlRead.nil_⟩
  · go_upto_region 2 with (fail)
    refine wp_region_text [Sp.k 0 (some 10) [] (.int .i64 (i : Int)),
      Sp.k 1 (some 11) [0] (.bool false),
      Sp.k 2 (some 12) [1] (.bool false),
      Sp.k 3 (some 13) [2] (.int .i64 (i : Int)),
      Sp.k 4 (some 14) [2] (.slice A n ca),
      Sp.k 5 (some 15) [2, 4] (.int .i64 (n : Int)),
      Sp.k 6 (some 16) [2] (.int .i64 (d : Int)),
      Sp.k 7 (some 17) [2, 5, 6] (.int .i64 (q : Int)),
      Sp.k 8 (some 18) [2, 3, 7] (.bool false),
      Sp.k 9 (some 19) [2, 8] (.bool false),
      Sp.k 10 (some 20) [9] (.bool false),
      Sp.k 11 (some 21) [10] (.int .i64 (i : Int)),
      Sp.k 12 (some 22) [10] (.int .i64 (d : Int)),
      Sp.k 13 (some 23) [10, 11, 12] (.int .i64 (KK : Int)),
      Sp.k 14 (some 24) [10] (.slice A n ca),
      Sp.k 15 (some 25) [10, 14] (.int .i64 (n : Int)),
      Sp.k 16 (some 26) [10, 13, 15] (.bool false),
      Sp.k 17 (some 27) [10, 16] (.bool false)] (by kernel_rfl)
      ⟨owes_move 0 (some 10) [] (.int .i64 (i : Int)) (Go.Operand.tmp 2) (fun v => by kernel_rfl) (fun v => by kernel_rfl),
      owes_bin 1 (some 11) [0] (.bool false) Go.BinOp.lss 3 (Go.Operand.tmp 10) (Go.Operand.const (Go.Value.int Go.IntKind.i64 0)) 3 (.int .i64 (i : Int)) (Go.Value.int Go.IntKind.i64 0) (fun v => by kernel_rfl) (fun v => by kernel_rfl) (lss_false _ _ _ _ _ (by omega)),
      owes_move 2 (some 12) [1] (.bool false) (Go.Operand.tmp 11) (fun v => by kernel_rfl) (fun v => by kernel_rfl),
      owes_move 3 (some 13) [2] (.int .i64 (i : Int)) (Go.Operand.tmp 2) (fun v => by kernel_rfl) (fun v => by kernel_rfl),
      owes_move 4 (some 14) [2] (.slice A n ca) (Go.Operand.tmp 0) (fun v => by kernel_rfl) (fun v => by kernel_rfl),
      owes_lenB 5 (some 15) [2, 4] (.int .i64 (n : Int)) (.tmp 14) 24 3 (.slice A n ca) (fun v => by kernel_rfl) (by kernel_rfl) (fun v => by kernel_rfl) (fun w => by kernel_rfl),
      owes_move 6 (some 16) [2] (.int .i64 (d : Int)) (Go.Operand.tmp 7) (fun v => by kernel_rfl) (fun v => by kernel_rfl),
      owes_bin 7 (some 17) [2, 5, 6] (.int .i64 (q : Int)) Go.BinOp.quo 3 (Go.Operand.tmp 15) (Go.Operand.tmp 16) 3 (.int .i64 (n : Int)) (.int .i64 (d : Int)) (fun v => by kernel_rfl) (fun v => by kernel_rfl) (hq),
      owes_bin 8 (some 18) [2, 3, 7] (.bool false) Go.BinOp.gtr 3 (Go.Operand.tmp 13) (Go.Operand.tmp 17) 3 (.int .i64 (i : Int)) (.int .i64 (q : Int)) (fun v => by kernel_rfl) (fun v => by kernel_rfl) (gtr_false _ _ _ _ _ (by omega)),
      owes_pick 9 (some 19) [2, 8] (.bool false) (Go.Operand.tmp 12) (Go.Operand.const (Go.Value.bool true)) (Go.Operand.tmp 18) false (fun v => by kernel_rfl) (fun v => by kernel_rfl) (fun v => by kernel_rfl),
      owes_move 10 (some 20) [9] (.bool false) (Go.Operand.tmp 19) (fun v => by kernel_rfl) (fun v => by kernel_rfl),
      owes_move 11 (some 21) [10] (.int .i64 (i : Int)) (Go.Operand.tmp 2) (fun v => by kernel_rfl) (fun v => by kernel_rfl),
      owes_move 12 (some 22) [10] (.int .i64 (d : Int)) (Go.Operand.tmp 7) (fun v => by kernel_rfl) (fun v => by kernel_rfl),
      owes_bin 13 (some 23) [10, 11, 12] (.int .i64 (KK : Int)) Go.BinOp.mul 3 (Go.Operand.tmp 21) (Go.Operand.tmp 22) 3 (.int .i64 (i : Int)) (.int .i64 (d : Int)) (fun v => by kernel_rfl) (fun v => by kernel_rfl) (mul_i64S _ _ _ _ _ _ hKK (by omega) (by omega)),
      owes_move 14 (some 24) [10] (.slice A n ca) (Go.Operand.tmp 0) (fun v => by kernel_rfl) (fun v => by kernel_rfl),
      owes_lenB 15 (some 25) [10, 14] (.int .i64 (n : Int)) (.tmp 24) 24 3 (.slice A n ca) (fun v => by kernel_rfl) (by kernel_rfl) (fun v => by kernel_rfl) (fun w => by kernel_rfl),
      owes_bin 16 (some 26) [10, 13, 15] (.bool false) Go.BinOp.geq 3 (Go.Operand.tmp 23) (Go.Operand.tmp 25) 3 (.int .i64 (KK : Int)) (.int .i64 (n : Int)) (fun v => by kernel_rfl) (fun v => by kernel_rfl) (geq_false _ _ _ _ _ (by omega)),
      owes_pick 17 (some 27) [10, 16] (.bool false) (Go.Operand.tmp 20) (Go.Operand.const (Go.Value.bool true)) (Go.Operand.tmp 26) false (fun v => by kernel_rfl) (fun v => by kernel_rfl) (fun v => by kernel_rfl), trivial⟩ ?_
    intro v w2 hb2 hall
    clear hall hq
    simp only [putsL_k, putsL_nil, List.set_cons_zero, List.set_cons_succ]
    have hb := hb1.trans (hb2.mono hb1.size)
    clear hb1 hb2
    have e1 : PL = (file.drop KK).take (min d (n - KK)) := by
      rw [HPL.out, Int.toNat_natCast, ← HN.out, ← HKE.out, if_neg]
      rintro (h | h | h)
      · omega
      · exact hiq h
      · exact hK h
    have hA2 := hA.below hb
    obtain ⟨gb, o, rfl, _⟩ := hA2 (by rw [show (ints .u8 (bys file)).length = file.length by simp, ← HN.out]; omega)
    obtain ⟨m, hm0⟩ : ∃ m, m = min d (n - KK) := ⟨_, rfl⟩
    have hm : (if ((n - KK : Nat) : Int) < (d : Int) then ((n - KK : Nat) : Int) else (d : Int)) = (m : Int) := by rw [hm0]; split <;> omega
    have hmn : KK + m ≤ n := by omega
    have hA3 := hA2.cut KK (some ⟨gb, o + KK, none⟩) (fun _ b' o' e => by cases e; rfl)
    rw [bys_drop] at hA3
    replace hA3 := hA3.front m
    have hPm : m = ((file.drop KK).take m).length := by rw [List.length_take, List.length_drop, ← HN.out]; omega
    obtain ⟨P, hP⟩ : ∃ P, P = (file.drop KK).take m := ⟨_, rfl⟩
    rw [← hm0, ← hP] at e1
    have HE := Lib.hid e1
    have HC : ∀ w', Below w2.heap.size w2 w' → Calls Tryd.prog 22 #[.slice (some ⟨gb, o + KK, none⟩) m (ca - KK)] w' fun e w'' => ∃ r, e = .returned r ∧ Below w'.heap.size w' w'' ∧ SlIsA P r w'' := fun w' hb' => by
      have h := bytes_own (some ⟨gb, o + KK, none⟩) ((file.drop KK).take m) (ca - KK) w' (hA3.below hb') (by rw [← hPm]; omega)
      rw [← hPm] at h
      rw [hP]
      exact h.mono fun e w'' ⟨v, h1, h2⟩ => ⟨v, h1, h2.b, h2.is⟩
    clear e1 hA2 hA3 hPm hP hm0
    go_upto_region 4 with (fail)
    refine wp_region_text [Sp.k 0 (some 28) [] (.slice (some ⟨gb, o, none⟩) n ca),
      Sp.k 1 (some 29) [] (.int .i64 (i : Int)),
      Sp.k 2 (some 30) [] (.int .i64 (d : Int)),
      Sp.k 3 (some 31) [1, 2] (.int .i64 ((KK : Nat) : Int)),
      Sp.k 4 (some 32) [] (.int .i64 (i : Int)),
      Sp.k 5 (some 33) [] (.int .i64 (d : Int)),
      Sp.k 6 (some 34) [4, 5] (.int .i64 ((KK : Nat) : Int)),
      Sp.k 7 (some 35) [] (.int .i64 (d : Int)),
      Sp.k 8 (some 36) [] (.slice (some ⟨gb, o, none⟩) n ca),
      Sp.k 9 (some 37) [8] (.int .i64 (n : Int)),
      Sp.k 10 (some 38) [] (.int .i64 (i : Int)),
      Sp.k 11 (some 39) [] (.int .i64 (d : Int)),
      Sp.k 12 (some 40) [10, 11] (.int .i64 ((KK : Nat) : Int)),
      Sp.k 13 (some 41) [9, 12] (.int .i64 ((n - KK : Nat) : Int)),
      Sp.k 14 (some 42) [7, 13] (.int .i64 (m : Int)),
      Sp.k 15 (some 43) [6, 14] (.int .i64 ((KK : Nat) + m : Int)),
      Sp.k 16 (some 44) [0, 3, 15] (.slice (some ⟨gb, o + KK, none⟩) m (ca - KK)),
      Sp.o 17 (some 45) [16] (SlIsA (P)),
      Sp.o 18 (some 6) [17] (SlIsA (P))] (by kernel_rfl)
      ⟨owes_move 0 (some 28) [] (.slice (some ⟨gb, o, none⟩) n ca) (Go.Operand.tmp 0) (fun v => by kernel_rfl) (fun v => by kernel_rfl),
      owes_move 1 (some 29) [] (.int .i64 (i : Int)) (Go.Operand.tmp 2) (fun v => by kernel_rfl) (fun v => by kernel_rfl),
      owes_move 2 (some 30) [] (.int .i64 (d : Int)) (Go.Operand.tmp 7) (fun v => by kernel_rfl) (fun v => by kernel_rfl),
      owes_bin 3 (some 31) [1, 2] (.int .i64 ((KK : Nat) : Int)) Go.BinOp.mul 3 (Go.Operand.tmp 29) (Go.Operand.tmp 30) 3 (.int .i64 (i : Int)) (.int .i64 (d : Int)) (fun v => by kernel_rfl) (fun v => by kernel_rfl) (mul_i64S _ _ _ _ _ _ hKK (by omega) (by omega)),
      owes_move 4 (some 32) [] (.int .i64 (i : Int)) (Go.Operand.tmp 2) (fun v => by kernel_rfl) (fun v => by kernel_rfl),
      owes_move 5 (some 33) [] (.int .i64 (d : Int)) (Go.Operand.tmp 7) (fun v => by kernel_rfl) (fun v => by kernel_rfl),
      owes_bin 6 (some 34) [4, 5] (.int .i64 ((KK : Nat) : Int)) Go.BinOp.mul 3 (Go.Operand.tmp 32) (Go.Operand.tmp 33) 3 (.int .i64 (i : Int)) (.int .i64 (d : Int)) (fun v => by kernel_rfl) (fun v => by kernel_rfl) (mul_i64S _ _ _ _ _ _ hKK (by omega) (by omega)),
      owes_move 7 (some 35) [] (.int .i64 (d : Int)) (Go.Operand.tmp 7) (fun v => by kernel_rfl) (fun v => by kernel_rfl),
      owes_move 8 (some 36) [] (.slice (some ⟨gb, o, none⟩) n ca) (Go.Operand.tmp 0) (fun v => by kernel_rfl) (fun v => by kernel_rfl),
      owes_lenB 9 (some 37) [8] (.int .i64 (n : Int)) (.tmp 36) 24 3 (.slice (some ⟨gb, o, none⟩) n ca) (fun v => by kernel_rfl) (by kernel_rfl) (fun v => by kernel_rfl) (fun w => by kernel_rfl),
      owes_move 10 (some 38) [] (.int .i64 (i : Int)) (Go.Operand.tmp 2) (fun v => by kernel_rfl) (fun v => by kernel_rfl),
      owes_move 11 (some 39) [] (.int .i64 (d : Int)) (Go.Operand.tmp 7) (fun v => by kernel_rfl) (fun v => by kernel_rfl),
      owes_bin 12 (some 40) [10, 11] (.int .i64 ((KK : Nat) : Int)) Go.BinOp.mul 3 (Go.Operand.tmp 38) (Go.Operand.tmp 39) 3 (.int .i64 (i : Int)) (.int .i64 (d : Int)) (fun v => by kernel_rfl) (fun v => by kernel_rfl) (mul_i64S _ _ _ _ _ _ hKK (by omega) (by omega)),
      owes_bin 13 (some 41) [9, 12] (.int .i64 ((n - KK : Nat) : Int)) Go.BinOp.sub 3 (Go.Operand.tmp 37) (Go.Operand.tmp 40) 3 (.int .i64 (n : Int)) (.int .i64 ((KK : Nat) : Int)) (fun v => by kernel_rfl) (fun v => by kernel_rfl) (sub_i64A _ _ _ _ _ _ (by omega) (by omega) (by omega)),
      owes_min 14 (some 42) [7, 13] (.int .i64 (m : Int)) (.tmp 35) (.tmp 41) 3 3 3 (.int .i64 (d : Int)) (.int .i64 ((n - KK : Nat) : Int)) (fun v => by kernel_rfl) (by kernel_rfl) (fun v => by kernel_rfl) (fun w => min_i64 _ _ _ hm w),
      owes_bin 15 (some 43) [6, 14] (.int .i64 ((KK : Nat) + m : Int)) Go.BinOp.add 3 (Go.Operand.tmp 34) (Go.Operand.tmp 42) 3 (.int .i64 ((KK : Nat) : Int)) (.int .i64 (m : Int)) (fun v => by kernel_rfl) (fun v => by kernel_rfl) (add_i64 _ _ _ _ _ _ rfl (by omega) (by omega)),
      owes_slice 16 (some 44) [0, 3, 15] (.slice (some ⟨gb, o + KK, none⟩) m (ca - KK)) 24 (Go.Operand.tmp 28) (some (Go.Operand.tmp 31)) (some (Go.Operand.tmp 43)) none (.slice (some ⟨gb, o, none⟩) n ca) (some (.int .i64 ((KK : Nat) : Int))) (some (.int .i64 ((KK : Nat) + m : Int))) none (fun v => by kernel_rfl) (fun v => by kernel_rfl) (fun w => slice_sl_lh (P := Tryd.prog) Tryd.underlying24 (show (Tryd.prog.info? 5).map (·.size) = some 1 by kernel_rfl) gb o n ca KK m (by omega) (by omega) (by omega) w),
      owes_call_o 17 (some 45) [16] (SlIsA (P)) 22 #[Go.Operand.tmp 44] #[24] (fun v => by kernel_rfl) (fun _ _ => by kernel_rfl) SlIsA.mono (fun v w' hb ho => by
          exact ⟨#[.slice (some ⟨gb, o + KK, none⟩) m (ca - KK)], by kernel_rfl, (HC w' hb).mono (fun _ _ h => h)⟩),
      owes_assign_o 18 (some 6) [17] (SlIsA (P)) (Go.Operand.tmp 45) 17 (fun v => by kernel_rfl) SlIsA.mono (fun v => by kernel_rfl) (fun v w' hb ho => ho.get 17 _ _ (SlIsA (P)) rfl rfl), trivial⟩ ?_
    intro v w4 hb4 hall
    have h7 := hall.open_ 18 _ _ (SlIsA (P)) rfl
    clear hall HC
    have hfin := hb.trans (hb4.mono hb.size)
    simp only [putsL_k, putsL_o, putsL_nil, List.set_cons_zero, List.set_cons_succ]
    generalize v 18 = v7 at h7 ⊢
    go_wp2_with fail
    go_ret
    rw [HE.out]
    exact ⟨_, rfl, hfin, h7⟩

set_option maxRecDepth 100000 in
set_option maxHeartbeats 1600000 in
theorem dnonce_any (i : BitVec 32) (last : Bool) (w : World) :
    Calls Tryd.prog 28 #[v32 i, .bool last] w fun e w' => e = .returned (.agg (arr8 12 (nonB i last))) ∧ Below w.heap.size w w' := by
  have h00 : n32 i % 256 = n8 (i.setWidth 8) := n32_byte i
  go_enter Tryd.func28, Tryd.ntmps28
  go_upto_region 1 with (fail)
  refine wp_world (fun W => W.rowIs w.heap.size 48 12 (fun i => v8 ((fun _ => 0#8 : Nat → BitVec 8) i)) ∧ Below w.heap.size w W ∧ W.heap.size = w.heap.size + 1) ⟨rowIs_new _ _ _ _ _ _ rfl (by rfl) zero12, by go_grown, by simp⟩ ?_
  rintro W0 ⟨h0, h1, hs⟩
  generalize hB : w.heap.size = B at h0 h1 hs ⊢
  have HB := Lib.hid hB; clear hB
  have HS := Lib.hid hs; clear hs
  go_upto_region 2 with (refine wpList_store_row rfl 48 _ _ rfl _ _ rfl rfl _ _ (heap_alloc_new _ _) (by kernel_rfl) (by simp) (by simp [Value.oneCell']) ?_; rw [alloc_setRow])
  rw [HS.out]
  refine wp_world (fun W => W.rowIs B 48 12 (fun i => v8 ((fun _ => 0#8 : Nat → BitVec 8) i)) ∧ W.rowIs (B + 1) 48 12 (fun k => v8 (nonB i false k)) ∧ Below B w W) ⟨h0.alloc _, rowIs_new _ _ _ _ _ _ HS.out.symm (by rfl) (nonce_row2 i), h1.alloc (by rw [HS.out]; omega) _⟩ ?_
  clear h0 h1 HS h00
  rintro W1 ⟨h0, h1, hb⟩
  cases last with
  | false =>
    have hh := rowIs_heap8 h1
    obtain ⟨old, hr1, hr2, _⟩ := h0
    have hb2 := below_setRow (g := B) hb (Nat.le_refl _) (arr8 12 (nonB i false))
    have hres : (W1.setRow B (arr8 12 (nonB i false))).heap[B]? = some (.cells (arr8 12 (nonB i false)) 48 (0, 0)) := setRow_heap _ _ _ _ _ _ hr1
    go_wp2_with (first | (refine wpList_load_row rfl 48 _ rfl _ rfl _ _ _ _ hh Tryd.underlying48 rfl (by kernel_rfl) ?_) | (refine wpList_store_row rfl 48 _ _ rfl _ _ rfl rfl _ _ hr1 (by kernel_rfl) (by simpa using hr2) (arr8_one _ _) ?_))
    refine bodyPost_ret (results_cell_row rfl _ _ _ _ _ _ _ rfl hres Tryd.underlying48 rfl (by kernel_rfl)) rfl ?_
    rw [HB.out]
    exact ⟨rfl, hb2⟩
  | true =>
    have c11 := h1.cell (i := 11) (by omega)
    have f11 := h1.frozen 11
    have h1' : (W1.setCell ⟨B + 1, 11, none⟩ (v8 1#8)).rowIs (B + 1) 48 12 (fun k => v8 (nonB i true k)) := (h1.set 11 _).congr fun k hk => by
      by_cases e : k = 11
      · rw [if_pos e, e]; rfl
      · rw [if_neg e]; simp [nonB, e]
    have h0' := h0.setOther (a := ⟨B + 1, 11, none⟩) (by simp only; omega) (v8 1#8)
    have hb' : Below B w (W1.setCell ⟨B + 1, 11, none⟩ (v8 1#8)) := hb.setCell (by simp only; omega) _
    go_upto_region 4 with (fail)
    refine wp_world (fun W => W.rowIs B 48 12 (fun i => v8 ((fun _ => 0#8 : Nat → BitVec 8) i)) ∧ W.rowIs (B + 1) 48 12 (fun k => v8 (nonB i true k)) ∧ Below B w W) ⟨h0', h1', hb'⟩ ?_
    clear h0 h1 hb c11 f11 h1' h0' hb'
    rintro W1 ⟨h0, h1, hb⟩
    have hh := rowIs_heap8 h1
    obtain ⟨old, hr1, hr2, _⟩ := h0
    have hb2 := below_setRow (g := B) hb (Nat.le_refl _) (arr8 12 (nonB i true))
    have hres : (W1.setRow B (arr8 12 (nonB i true))).heap[B]? = some (.cells (arr8 12 (nonB i true)) 48 (0, 0)) := setRow_heap _ _ _ _ _ _ hr1
    go_wp2_with (first | (refine wpList_load_row rfl 48 _ rfl _ rfl _ _ _ _ hh Tryd.underlying48 rfl (by kernel_rfl) ?_) | (refine wpList_store_row rfl 48 _ _ rfl _ _ rfl rfl _ _ hr1 (by kernel_rfl) (by simpa using hr2) (arr8_one _ _) ?_))
    refine bodyPost_ret (results_cell_row rfl _ _ _ _ _ _ _ rfl hres Tryd.underlying48 rfl (by kernel_rfl)) rfl ?_
    rw [HB.out]
    exact ⟨rfl, hb2⟩




set_option maxRecDepth 100000 in
set_option maxHeartbeats 1600000 in
theorem dsseal_any (key : Nat → BitVec 8) (i : BitVec 32) (last : Bool) (X : Option Addr) (b : List (BitVec 8)) (cx : Nat) (w : World) (hX : SlRead w X (ints .u8 (bys b))) (hlx : b.length ≤ 1000) :
    Calls Tryd.prog 17 #[.agg (arr8 32 key), v32 i, .bool last, .slice X b.length cx] w fun e w' => ∃ v, e = .returned v ∧ OwnB w w.heap.size (sealB key (nonB i last) [] b) v w' := by
  go_enter Tryd.func17, Tryd.ntmps17
  go_upto_region 1 with (fail)
  refine wp_world (fun W => W.rowIs w.heap.size 23 32 (fun i => v8 (key i)) ∧ Below w.heap.size w W) ⟨rowIs_new _ _ _ _ _ _ rfl (by simp) (fun i hi => arr8_get 32 key i hi), by go_grown⟩ ?_
  rintro W0 ⟨hk, h2⟩
  generalize hB : w.heap.size = B at hk h2 ⊢
  have HB := Lib.hid hB; clear hB
  refine wp_region_spec_tail 5 [Sp.k 0 (some 9) [] (.agg (arr8 32 key)),
    Sp.k 1 (some 10) [] (v32 i),
    Sp.k 2 (some 11) [] (.bool last),
    Sp.k 3 (some 12) [1, 2] (.agg (arr8 12 (nonB i last))),
    Sp.k 4 (some 13) [] (.slice X b.length cx)] (by kernel_rfl) (by kernel_rfl)
    ⟨owes_load 0 (some 9) [] (.agg (arr8 32 key)) 23 (Go.Operand.tmp 4) (.pointer (some ⟨B, 0, none⟩)) (fun v => by kernel_rfl) (fun v => by kernel_rfl) (fun w' hb => key_load (hk.of_block ((drB hb).block _ hk.lt))),
    owes_move 1 (some 10) [] (v32 i) (Go.Operand.tmp 1) (fun v => by kernel_rfl) (fun v => by kernel_rfl),
    owes_move 2 (some 11) [] (.bool last) (Go.Operand.tmp 2) (fun v => by kernel_rfl) (fun v => by kernel_rfl),
    owes_call 3 (some 12) [1, 2] (.agg (arr8 12 (nonB i last))) 28 #[Go.Operand.tmp 10, Go.Operand.tmp 11] #[25, 4] (fun v => by kernel_rfl) (fun _ _ => by kernel_rfl) (fun v w' hb ho => by
        exact ⟨#[v32 i, .bool last], by kernel_rfl, (dnonce_any i last w').mono (fun _ _ h => h)⟩),
    owes_move 4 (some 13) [] (.slice X b.length cx) (Go.Operand.tmp 3) (fun v => by kernel_rfl) (fun v => by kernel_rfl), trivial⟩ ?_
  intro v W1 hb' hall
  clear hall
  replace hb' := drB hb'
  have hB0 : B ≤ W0.heap.size := Nat.le_of_lt hk.lt
  have hb1 := h2.trans (hb'.mono hB0)
  have hB1 : B ≤ W1.heap.size := by rw [← HB.out]; exact hb1.size
  have hX1 : SlRead W1 X (ints .u8 (bys b)) := hX.below (by rw [HB.out]; exact hb1)
  clear hb' hk h2 hB0
  simp only [putsL_k, putsL_nil, List.set_cons_zero, List.set_cons_succ, List.drop_succ_cons, List.drop_zero]
  go_wp2_with fail
  refine (dseal_any key (nonB i last) none X [] b 0 cx W1 SlRead.nil_ hX1 (by simp) hlx).mono ?_
  rintro e W2 ⟨v2, rfl, h⟩
  go_wp2_with fail
  go_ret
  rw [HB.out]
  exact ⟨v2, rfl, own_mono h.own hB1, hb1.trans (h.b.mono hB1), Nat.le_trans hB1 h.s⟩


set_option maxRecDepth 100000 in
set_option maxHeartbeats 1600000 in
theorem dsopen_any (key : Nat → BitVec 8) (i : BitVec 32) (last : Bool) (X : Option Addr) (b : List (BitVec 8)) (cx : Nat) (w : World) (hX : SlRead w X (ints .u8 (bys b))) (hlx : b.length ≤ 1000) (hcx : b.length ≤ cx) :
    Calls Tryd.prog 19 #[.agg (arr8 32 key), v32 i, .bool last, .slice X b.length cx] w fun e w' => ∃ v, e = .returned (.tuple #[v, .int .i64 ((openGot key (nonB i last) [] b).2 : Int)]) ∧ OwnB w w.heap.size (openGot key (nonB i last) [] b).1 v w' := by
  go_enter Tryd.func19, Tryd.ntmps19
  go_upto_region 1 with (fail)
  refine wp_world (fun W => W.rowIs w.heap.size 23 32 (fun i => v8 (key i)) ∧ Below w.heap.size w W) ⟨rowIs_new _ _ _ _ _ _ rfl (by simp) (fun i hi => arr8_get 32 key i hi), by go_grown⟩ ?_
  rintro W0 ⟨hk, h2⟩
  generalize hB : w.heap.size = B at hk h2 ⊢
  have HB := Lib.hid hB; clear hB
  have hr0 : W0.drew.rowIs B 23 32 (fun i => v8 (key i)) := hk.of_block ((Below.drewNr (w := W0) 1).block _ hk.lt)
  refine wp_region_noPanic ?_
  refine wp_region_held_drew (S := fun W' => W'.rowIs B 23 32 (fun i => v8 (key i)) ∧ Below W0.drew.heap.size W0.drew W') (by kernel_rfl) ⟨hr0, Below.refl _ _⟩ (fun hHeld => ?_)
  refine held_move 1 (.tmp 1) (some 11) (v32 i) (by kernel_rfl) (by kernel_rfl) (by kernel_rfl) (by kernel_rfl) (by kernel_rfl) (fun _ _ _ _ _ h => h) hHeld ?_
  refine held_move 2 (.tmp 2) (some 12) (.bool last) (by kernel_rfl) (by kernel_rfl) (by kernel_rfl) (by kernel_rfl) (by kernel_rfl) (fun _ _ _ _ _ h => h) hHeld ?_
  refine held_move 4 (.tmp 3) (some 14) (.slice X b.length cx) (by kernel_rfl) (by kernel_rfl) (by kernel_rfl) (by kernel_rfl) (by kernel_rfl) (fun _ _ _ _ _ h => h) hHeld ?_
  refine held_load 0 23 (.tmp 4) (some 10) B 0 (arr8 32 key).toList _ (by kernel_rfl) (by kernel_rfl) (fun w h => rangeAt_row h.1) Tryd.underlying23 rfl (by simp only [Array.length_toList, arr8_size]; kernel_rfl) (by kernel_rfl) (by kernel_rfl) (by kernel_rfl) (fun _ _ _ _ _ h => h) hHeld ?_
  refine held_call 3 28 (#[Go.Operand.tmp 11, Go.Operand.tmp 12]) (#[25, 4]) (some 13) #[v32 i, .bool last] _ (by kernel_rfl) (by kernel_rfl) (by kernel_rfl) (by kernel_rfl) (dnonce_any i last _) ?_
  rintro e Y1 ⟨rfl, hbY1⟩
  refine ⟨_, rfl, ⟨hHeld.1.of_block (hbY1.block _ hHeld.1.lt), hHeld.2.trans (hbY1.mono hHeld.2.size)⟩, fun hHeld => ?_⟩
  have hB0 : B ≤ W0.heap.size := Nat.le_of_lt hk.lt
  have hb1 : Below B w Y1 := h2.trans ((drB hHeld.2).mono hB0)
  have hX1 : SlRead Y1 X (ints .u8 (bys b)) := hX.below (by rw [HB.out]; exact hb1)
  refine held_call 5 30 (#[Go.Operand.tmp 10, Go.Operand.tmp 13, Go.Operand.const (Go.Value.slice none 0 0), Go.Operand.tmp 14]) (#[23, 48, 24, 24]) (some 15) #[.agg (arr8 32 key), .agg (arr8 12 (nonB i last)), .slice none 0 0, .slice X b.length cx] _ (by kernel_rfl) (by kernel_rfl) (by kernel_rfl) (by kernel_rfl) (dopen_any key (nonB i last) none X [] b 0 cx Y1 SlRead.nil_ hX1 (by simp) hlx hcx) ?_
  rintro e Y2 ⟨v2, rfl, h⟩
  refine ⟨_, rfl, ⟨hHeld.1.of_block (h.b.block _ hHeld.1.lt), hHeld.2.trans (h.b.mono hHeld.2.size)⟩, fun hHeld => ?_⟩
  obtain ⟨R, hR⟩ : ∃ R : Value, R = .int .i64 ((openGot key (nonB i last) [] b).2 : Int) := ⟨_, rfl⟩
  rw [← hR]
  refine held_extractS 6 (.tmp 15) 0 (some 16) #[v2, R] (v2) (by kernel_rfl) (by kernel_rfl) (fun _ => by kernel_rfl) (by kernel_rfl) (by kernel_rfl) (by kernel_rfl) (fun _ _ _ _ _ h => h) hHeld ?_
  refine held_extractS 7 (.tmp 15) 1 (some 17) #[v2, R] (R) (by kernel_rfl) (by kernel_rfl) (fun _ => by kernel_rfl) (by kernel_rfl) (by kernel_rfl) (by kernel_rfl) (fun _ _ _ _ _ h => h) hHeld ?_
  refine held_assign 8 (.tmp 16) (some 8) (v2) (by kernel_rfl) (by kernel_rfl) (by kernel_rfl) (by kernel_rfl) (by kernel_rfl) (fun _ _ _ _ _ h => h) hHeld ?_
  refine held_assign 9 (.tmp 17) (some 9) (R) (by kernel_rfl) (by kernel_rfl) (by kernel_rfl) (by kernel_rfl) (by kernel_rfl) (fun _ _ _ _ _ h => h) hHeld ?_
  refine wpAnyH_done (by kernel_rfl) ?_ _
  refine NoPanic.normal ?_
  simp only [Act.put, List.setIfInBounds_toArray, List.set_cons_zero, List.set_cons_succ]
  have hB1 : B ≤ Y1.heap.size := by rw [← HB.out]; exact hb1.size
  have hown := own_mono h.own hB1
  have hbb := hb1.trans (h.b.mono hB1)
  have hsz : B ≤ Y2.heap.size := Nat.le_trans hB1 h.s
  have HR := Lib.hid hR
  clear hHeld h hR hX1 hb1 hk h2 hr0
  go_wp2_with fail
  go_ret2
  rw [HB.out, HR.out]
  exact ⟨v2, rfl, hown, hbb, hsz⟩

end Go.Proofs.YtpegihfocnchnaaDoor
