import Derived.Test.YtpegihfocnchnaaSub
/-
  StreamPieces.
-/
namespace Go.Proofs.Ytpegihfocnchnaa
open Go.RowKit

theorem wf_u8 {z : Int} (h : (Lit.int .u8 z).wf = true) : 0 ≤ z ∧ z < 256 := by
  simp [Lit.wf, IntKind.min, IntKind.max, IntKind.bits, IntKind.signed] at h
  omega
theorem n8_of (z : Int) (h0 : 0 ≤ z) (h1 : z < 256) : n8 (BitVec.ofInt 8 z) = z := by
  unfold n8 n32
  rw [BitVec.toNat_setWidth, BitVec.toNat_ofInt]
  omega
theorem v8_of (z : Int) (hw : (Lit.int .u8 z).wf = true) : ∃ x : BitVec 8, z = n8 x := by
  obtain ⟨h0, h1⟩ := wf_u8 hw
  refine ⟨BitVec.ofNat 8 z.toNat, ?_⟩
  unfold n8 n32
  simp only [BitVec.toNat_setWidth, BitVec.toNat_ofNat]
  omega
theorem bys_of (xs : List Int) (hw : ∀ x ∈ xs, (Lit.int .u8 x).wf = true) : ∃ ys, xs = bys ys := by
  induction xs with
  | nil => exact ⟨[], rfl⟩
  | cons a r ih =>
    obtain ⟨ys, rfl⟩ := ih fun x hx => hw x (by simp [hx])
    obtain ⟨y, rfl⟩ := v8_of a (hw a (by simp))
    exact ⟨y :: ys, rfl⟩
theorem lss_true (t : TypeId) (x y : Operand) (a b : Int) (h : a < b) (w : World) : (do eqGuard .lss t x y (.int .i64 a) (.int .i64 b); binOp .lss t (.int .i64 a) (.int .i64 b) : Sem Value).run Try.prog w = .ok (.bool true) w := by
  simp [eqGuard, binOp, Op.intCmp]
  try omega
theorem lss_false (t : TypeId) (x y : Operand) (a b : Int) (h : b ≤ a) (w : World) : (do eqGuard .lss t x y (.int .i64 a) (.int .i64 b); binOp .lss t (.int .i64 a) (.int .i64 b) : Sem Value).run Try.prog w = .ok (.bool false) w := by
  simp [eqGuard, binOp, Op.intCmp]
  try omega
theorem gtr_true (t : TypeId) (x y : Operand) (a b : Int) (h : b < a) (w : World) : (do eqGuard .gtr t x y (.int .i64 a) (.int .i64 b); binOp .gtr t (.int .i64 a) (.int .i64 b) : Sem Value).run Try.prog w = .ok (.bool true) w := by
  simp [eqGuard, binOp, Op.intCmp]
  try omega
theorem gtr_false (t : TypeId) (x y : Operand) (a b : Int) (h : a ≤ b) (w : World) : (do eqGuard .gtr t x y (.int .i64 a) (.int .i64 b); binOp .gtr t (.int .i64 a) (.int .i64 b) : Sem Value).run Try.prog w = .ok (.bool false) w := by
  simp [eqGuard, binOp, Op.intCmp]
  try omega
theorem eql_true (t : TypeId) (x y : Operand) (a b : Int) (h : a = b) (w : World) : (do eqGuard .eql t x y (.int .i64 a) (.int .i64 b); binOp .eql t (.int .i64 a) (.int .i64 b) : Sem Value).run Try.prog w = .ok (.bool true) w := by
  simp [eqGuard, binOp, Op.intCmp]
  try omega
theorem eql_false (t : TypeId) (x y : Operand) (a b : Int) (h : a ≠ b) (w : World) : (do eqGuard .eql t x y (.int .i64 a) (.int .i64 b); binOp .eql t (.int .i64 a) (.int .i64 b) : Sem Value).run Try.prog w = .ok (.bool false) w := by
  simp [eqGuard, binOp, Op.intCmp]
  try omega
theorem neq_true (t : TypeId) (x y : Operand) (a b : Int) (h : a ≠ b) (w : World) : (do eqGuard .neq t x y (.int .i64 a) (.int .i64 b); binOp .neq t (.int .i64 a) (.int .i64 b) : Sem Value).run Try.prog w = .ok (.bool true) w := by
  simp [eqGuard, binOp, Op.intCmp]
  try omega
theorem neq_false (t : TypeId) (x y : Operand) (a b : Int) (h : a = b) (w : World) : (do eqGuard .neq t x y (.int .i64 a) (.int .i64 b); binOp .neq t (.int .i64 a) (.int .i64 b) : Sem Value).run Try.prog w = .ok (.bool false) w := by
  simp [eqGuard, binOp, Op.intCmp]
  try omega

theorem neg_i64 (a : Int) (h1 : -9223372036854775808 ≤ -a) (h2 : -a ≤ 9223372036854775807) (w : World) : (Op.unary .neg (.int .i64 a)).run Try.prog w = .ok (.int .i64 (-a)) w := by
  have hw : IntKind.i64.wrap (-a) = -a := IntWalk.i64_in _ (by omega)
  simp [Op.unary, Op.intArith, hw]
section
variable {P : Program} {ops : Array Oper} {l : List Sp} {a : Act} {w : World}
theorem owes_len_o (i : Nat) (dst : Option Tmp) (anc : List Nat) (n : Nat) (x : Operand) (t ty : TypeId) (hop : ∀ v, ops[i]?.map (fun o => (o.op, Region.wanted o (yielded ops (fr l anc a v).tmps))) = some (.call { callee := .builtin .len, args := #[x], argTypes := #[t] }, true)) (hty : ops[i]?.map (·.type) = some ty)
    (he : ∀ A c w, (Builtin.len_ #[t] ty #[.slice A n c]).run P w = .ok (.int .i64 (n : Int)) w)
    (h : ∀ v w', Below w.heap.size w w' → Opens l anc v w' → ∃ A c, (fr l anc a v).eval x = .slice A n c) : Owes P ops l a w (Sp.k i dst anc (.int .i64 (n : Int))) :=
  .mk_k fun v w' hb ho o hi => by
    have hh := hop v
    rw [hi] at hh hty
    simp only [Option.map_some, Option.some.injEq, Prod.mk.injEq] at hh hty
    obtain ⟨A, c, hx⟩ := h v w' hb ho
    refine .value (v := .int .i64 (n : Int)) (w' := w') hh.2 ?_ ⟨Below.refl _ _, Cells.refl _, rfl⟩
    simp only [execOp, hh.1, resolve, invoke, builtin, Sem.run_bind, Sem.run_pure, Result.andThen_ok, List.map_toArray, List.map_cons, List.map_nil, hx, hty, he A c w']
end
theorem countN_low (s d : Nat) (ch : Int) (hd : oneN ch = d) (hp : 0 < d) : (((countN (s : Int) ch - 1) * d ≤ s ∧ s ≤ countN (s : Int) ch * d) ∧ (0 < s → (countN (s : Int) ch - 1) * d < s)) := by
  unfold countN
  rw [hd]
  by_cases hs : (s : Int) < 1
  · rw [if_pos hs]
    have : s = 0 := by omega
    subst this
    simp
  · rw [if_neg hs, show ((s : Int)).toNat - 1 = s - 1 by omega, Nat.add_sub_cancel_left]
    have h1 := Nat.div_add_mod (s - 1) d
    have h2 := Nat.mod_lt (s - 1) hp
    rw [Nat.add_mul, Nat.one_mul, Nat.mul_comm]
    omega
theorem pieces_join (b : List (BitVec 8)) (ch : Int) (d k : Nat) (hd : oneN ch = d) (hk : k < countN b.length ch) : b.take (k * d) ++ pieceL b ch (k : Int) = b.take ((k + 1) * d) := by
  unfold pieceL
  rw [hd, if_neg (by omega), Int.toNat_natCast, Nat.add_mul, Nat.one_mul, List.take_add]
theorem pieceL_size (b : List (BitVec 8)) (ch : Int) (d k : Nat) (hd : oneN ch = d) (hk : k < countN b.length ch) : (pieceL b ch (k : Int)).length = min d (b.length - k * d) := by
  unfold pieceL
  rw [hd, if_neg (by omega), Int.toNat_natCast, List.length_take, List.length_drop]

set_option maxRecDepth 100000 in
set_option maxHeartbeats 6400000 in
theorem pieces_walk (X : Option Addr) (b : List (BitVec 8)) (cx : Nat) (chunk far : Int) (w : World) (hX : SlRead w X (ints .u8 (bys b))) (hcx : b.length ≤ cx) :
    Calls Try.prog 3 #[.slice X b.length cx, .int .i64 chunk, .int .i64 far] w fun e w' => e = .returned (.bool true) ∧ Below w.heap.size w w' := by
  go_enter Try.func3, Try.ntmps3
  go_wp2_with fail
  refine (first_any w).mono ?_
  rintro e W1 ⟨rfl, hb1⟩
  generalize hB : w.heap.size = B at hb1 ⊢
  have HB := Lib.hid hB; clear hB
  by_cases h1 : 200 < b.length
  · have d1 : decide ((200 : Int) < (b.length : Int)) = true := by simp; omega
    go_wp2_with fail
    go_ret
    exact ⟨rfl, by rw [HB.out]; exact hb1⟩
  have d1 : decide ((200 : Int) < (b.length : Int)) = false := by simp; omega
  have hlx : b.length ≤ 200 := by omega
  clear h1
  have hB1 : B ≤ W1.heap.size := by rw [← HB.out]; exact hb1.size
  obtain ⟨K1, hK1, hK1l⟩ := exists_mod chunk 70 (by omega)
  have HK1 := Lib.hid hK1
  clear hK1
  go_upto_region 6 with (fail)
  refine wp_region_text [Sp.k 0 (some 19) [] (.int .i64 chunk),
    Sp.k 1 (some 20) [0] (.int .i64 (K1 : Int)),
    Sp.k 2 (some 21) [1] (.int .i64 ((K1 + 1 : Nat) : Int)),
    Sp.k 3 (some 1) [0, 2] (.int .i64 ((K1 + 1 : Nat) : Int))] (by kernel_rfl)
    ⟨owes_move 0 (some 19) [] (.int .i64 chunk) (Go.Operand.tmp 1) (fun v => by kernel_rfl) (fun v => by kernel_rfl),
    owes_call 1 (some 20) [0] (.int .i64 (K1 : Int)) 5 #[Go.Operand.tmp 19, Go.Operand.const (Go.Value.int Go.IntKind.i64 70)] #[3, 3] (fun v => by kernel_rfl) (fun _ _ => by kernel_rfl) (fun v w' hb ho => by
        exact ⟨#[.int .i64 chunk, Go.Value.int Go.IntKind.i64 70], by kernel_rfl, (quietB (number_nat chunk 70 K1 w' (by omega) HK1.out)).mono (fun _ _ h => h)⟩),
    owes_bin 2 (some 21) [1] (.int .i64 ((K1 + 1 : Nat) : Int)) Go.BinOp.add 3 (Go.Operand.tmp 20) (Go.Operand.const (Go.Value.int Go.IntKind.i64 1)) 3 (.int .i64 (K1 : Int)) (Go.Value.int Go.IntKind.i64 1) (fun v => by kernel_rfl) (fun v => by kernel_rfl) (add_i64 _ _ _ _ _ _ (by omega) (by omega) (by omega)),
    owes_assign 3 (some 1) [0, 2] (.int .i64 ((K1 + 1 : Nat) : Int)) (Go.Operand.tmp 21) (fun v => by kernel_rfl) (fun v => by kernel_rfl), trivial⟩ ?_
  intro v W2 hb' hall
  clear hall HK1 d1
  simp only [putsL_k, putsL_nil, List.set_cons_zero, List.set_cons_succ]
  replace hb1 := hb1.trans (hb'.mono hB1)
  have hB2 : B ≤ W2.heap.size := by rw [← HB.out]; exact hb1.size
  clear hb' hB1 W1
  obtain ⟨d, hd⟩ : ∃ d : Nat, d = K1 + 1 := ⟨_, rfl⟩
  rw [← hd]
  have hd1 : 1 ≤ d := by omega
  have hd2 : d ≤ 70 := by omega
  have hod : oneN (d : Int) = d := by
    unfold oneN
    rw [if_neg (by omega)]
    simp
  clear hd hK1l
  have hcn := count_any (b.length : Int) (d : Int) W2 (by omega)
  obtain ⟨N, hNN⟩ : ∃ N, N = countN b.length (d : Int) := ⟨_, rfl⟩
  have hbd := countN_low b.length d (d : Int) hod hd1
  have hjn := fun k => pieces_join b (d : Int) d k hod
  have hpn := fun k => pieceL_size b (d : Int) d k hod
  rw [← hNN] at hcn hbd
  simp only [← hNN] at hjn hpn
  have hNl : N ≤ 201 := by
    have : (N - 1) * 1 ≤ (N - 1) * d := Nat.mul_le_mul_left _ hd1
    omega
  have hPf : ∀ q : Int, (N : Int) ≤ q → pieceL b (d : Int) q = [] := fun q hq => by
    unfold pieceL
    rw [← hNN, if_pos (.inr hq)]
  have hPn : ∀ q : Int, q < 0 → pieceL b (d : Int) q = [] := fun q hq => by
    unfold pieceL
    rw [if_pos (.inl hq)]
  have HJN := Lib.hid hjn
  have HPN := Lib.hid hpn
  have HPF := Lib.hid hPf
  have HPM := Lib.hid hPn
  have HBD := Lib.hid hbd
  clear hNN hod hjn hpn hPf hPn
  go_wp2_with fail
  refine hcn.mono ?_
  rintro e W7 ⟨rfl, hb6⟩
  have hw7 := hb1.trans (hb6.mono hB2)
  clear hcn hb6 hb1 hB2 W2
  have hn0 : W7.ownsRow W7.heap.size 5 1 (.slice none 0 0) 0 [] := World.ownsRow_nil W7 _ _ _
  go_wp2_with fail
  go_loopw [9, 10] (fun v i wr => ∃ k : Nat, k ≤ N ∧ i = .int .i64 k ∧ wr.ownsRow W7.heap.size 5 1 v (b.take (k * d)).length (ints .u8 (bys (b.take (k * d)))) ∧ Below W7.heap.size W7 wr) (fun _ i _ => N - (intOf i).toNat)
  case atStart => exact ⟨0, by omega, rfl, by simpa [ints, bys] using hn0, Below.refl _ _⟩
  clear hn0
  case round =>
    obtain ⟨k, hkN, rfl, hown, hbr⟩ := hrel
    have hwr := hw7.trans (hbr.mono (by rw [← HB.out]; exact hw7.size))
    have hXr : SlRead wr X (ints .u8 (bys b)) := hX.below (by rw [HB.out]; exact hwr)
    by_cases hlt : k < N
    · have hpc := piece_any X b cx (d : Int) (k : Int) wr hXr hcx (by omega)
      have HJ := HJN.out k hlt
      have h3 := HPN.out k hlt
      generalize pieceL b (d : Int) (k : Int) = P at hpc HJ h3
      replace HJ := Lib.hid HJ
      have h4 := HBD.out
      have hPd : P.length ≤ d := by rw [h3]; exact Nat.min_le_left _ _
      have hPb : P.length ≤ 200 := by rw [h3]; exact Nat.le_trans (Nat.min_le_right _ _) (by omega)
      have hPA : k + 1 < N → d ≤ P.length := fun hl => by
        have : (k + 1) * d ≤ (N - 1) * d := Nat.mul_le_mul_right _ (by omega)
        rw [Nat.add_mul, Nat.one_mul] at this
        omega
      have hPB : ¬ k + 1 < N → P.length ≤ 0 → b.length ≤ 0 := fun hl he => by
        rcases Nat.eq_zero_or_pos b.length with h0 | h0
        · omega
        · have h5 := h4.2 h0
          rw [show N - 1 = k by omega] at h5
          omega
      clear h3 h4
      go_wp2_with fail
      refine hpc.mono ?_
      rintro e w1 ⟨rp, rfl, hbp, Ap, cp, rfl, lp, qp⟩
      replace hown := ownsRow_via hown (fun g _ hlt => hbp.block g hlt)
      replace hbr := hbr.trans (hbp.mono hbr.size)
      clear hpc hbp hXr hwr
      by_cases hl : k + 1 < N
      · have hPe := hPA hl
        clear hPA hPB
        go_upto_region 13 with (fail)
        refine wp_region_text [Sp.k 0 (some 35) [] (.int .i64 ((k : Nat) : Int)),
          Sp.k 1 (some 36) [] (.int .i64 (N : Int)),
          Sp.k 2 (some 37) [1] (.int .i64 ((N : Int) - 1)),
          Sp.k 3 (some 38) [0, 2] (.bool true),
          Sp.k 4 (some 39) [3] (.bool true),
          Sp.k 5 (some 40) [4] (.slice Ap P.length cp),
          Sp.k 6 (some 41) [4, 5] (.int .i64 (P.length : Int)),
          Sp.k 7 (some 42) [4] (.int .i64 (d : Int)),
          Sp.k 8 (some 43) [4, 6, 7] (.bool false),
          Sp.k 9 (some 44) [4, 8] (.bool false),
          Sp.k 10 (some 45) [9] (.bool false),
          Sp.k 11 (some 46) [10] (.int .i64 ((k : Nat) : Int)),
          Sp.k 12 (some 47) [10] (.int .i64 (N : Int)),
          Sp.k 13 (some 48) [10, 12] (.int .i64 ((N : Int) - 1)),
          Sp.k 14 (some 49) [10, 11, 13] (.bool false),
          Sp.k 15 (some 50) [10, 14] (.bool false),
          Sp.k 16 (some 51) [15] (undef),
          Sp.k 17 (some 52) [15, 16] (undef),
          Sp.k 18 (some 53) [15, 17] (undef),
          Sp.k 19 (some 54) [10, 15, 18] (Go.Value.bool false),
          Sp.k 20 (some 55) [10, 19] (Go.Value.bool false),
          Sp.k 21 (some 56) [20] (undef),
          Sp.k 22 (some 57) [20, 21] (undef),
          Sp.k 23 (some 58) [20, 22] (undef),
          Sp.k 24 (some 59) [10, 20, 23] (Go.Value.bool false),
          Sp.k 25 (some 60) [10, 24] (Go.Value.bool false),
          Sp.k 26 (some 61) [25] (Go.Value.bool false),
          Sp.k 27 (some 62) [26] (.slice Ap P.length cp),
          Sp.k 28 (some 63) [26, 27] (.int .i64 (P.length : Int)),
          Sp.k 29 (some 64) [26] (.int .i64 (d : Int)),
          Sp.k 30 (some 65) [26, 28, 29] (.bool false),
          Sp.k 31 (some 66) [26, 30] (.bool false)] (by kernel_rfl)
          ⟨owes_move 0 (some 35) [] (.int .i64 ((k : Nat) : Int)) (Go.Operand.tmp 10) (fun v => by kernel_rfl) (fun v => by kernel_rfl),
          owes_move 1 (some 36) [] (.int .i64 (N : Int)) (Go.Operand.tmp 8) (fun v => by kernel_rfl) (fun v => by kernel_rfl),
          owes_bin 2 (some 37) [1] (.int .i64 ((N : Int) - 1)) Go.BinOp.sub 3 (Go.Operand.tmp 36) (Go.Operand.const (Go.Value.int Go.IntKind.i64 1)) 3 (.int .i64 (N : Int)) (Go.Value.int Go.IntKind.i64 1) (fun v => by kernel_rfl) (fun v => by kernel_rfl) (sub_i64A _ _ _ _ _ _ rfl (by omega) (by omega)),
          owes_bin 3 (some 38) [0, 2] (.bool true) Go.BinOp.lss 3 (Go.Operand.tmp 35) (Go.Operand.tmp 37) 3 (.int .i64 ((k : Nat) : Int)) (.int .i64 ((N : Int) - 1)) (fun v => by kernel_rfl) (fun v => by kernel_rfl) (lss_true _ _ _ _ _ (by omega)),
          owes_move 4 (some 39) [3] (.bool true) (Go.Operand.tmp 38) (fun v => by kernel_rfl) (fun v => by kernel_rfl),
          owes_move 5 (some 40) [4] (.slice Ap P.length cp) (Go.Operand.tmp 11) (fun v => by kernel_rfl) (fun v => by kernel_rfl),
          owes_lenB 6 (some 41) [4, 5] (.int .i64 (P.length : Int)) (.tmp 40) 22 3 (.slice Ap P.length cp) (fun v => by kernel_rfl) (by kernel_rfl) (fun v => by kernel_rfl) (fun w => by kernel_rfl),
          owes_move 7 (some 42) [4] (.int .i64 (d : Int)) (Go.Operand.tmp 1) (fun v => by kernel_rfl) (fun v => by kernel_rfl),
          owes_bin 8 (some 43) [4, 6, 7] (.bool false) Go.BinOp.neq 3 (Go.Operand.tmp 41) (Go.Operand.tmp 42) 3 (.int .i64 (P.length : Int)) (.int .i64 (d : Int)) (fun v => by kernel_rfl) (fun v => by kernel_rfl) (neq_false _ _ _ _ _ (by omega)),
          owes_pick 9 (some 44) [4, 8] (.bool false) (Go.Operand.tmp 39) (Go.Operand.tmp 43) (Go.Operand.const (Go.Value.bool false)) true (fun v => by kernel_rfl) (fun v => by kernel_rfl) (fun v => by kernel_rfl),
          owes_move 10 (some 45) [9] (.bool false) (Go.Operand.tmp 44) (fun v => by kernel_rfl) (fun v => by kernel_rfl),
          owes_move 11 (some 46) [10] (.int .i64 ((k : Nat) : Int)) (Go.Operand.tmp 10) (fun v => by kernel_rfl) (fun v => by kernel_rfl),
          owes_move 12 (some 47) [10] (.int .i64 (N : Int)) (Go.Operand.tmp 8) (fun v => by kernel_rfl) (fun v => by kernel_rfl),
          owes_bin 13 (some 48) [10, 12] (.int .i64 ((N : Int) - 1)) Go.BinOp.sub 3 (Go.Operand.tmp 47) (Go.Operand.const (Go.Value.int Go.IntKind.i64 1)) 3 (.int .i64 (N : Int)) (Go.Value.int Go.IntKind.i64 1) (fun v => by kernel_rfl) (fun v => by kernel_rfl) (sub_i64A _ _ _ _ _ _ rfl (by omega) (by omega)),
          owes_bin 14 (some 49) [10, 11, 13] (.bool false) Go.BinOp.eql 3 (Go.Operand.tmp 46) (Go.Operand.tmp 48) 3 (.int .i64 ((k : Nat) : Int)) (.int .i64 ((N : Int) - 1)) (fun v => by kernel_rfl) (fun v => by kernel_rfl) (eql_false _ _ _ _ _ (by omega)),
          owes_move 15 (some 50) [10, 14] (.bool false) (Go.Operand.tmp 49) (fun v => by kernel_rfl) (fun v => by kernel_rfl),
          owes_skip 16 (some 51) [15] (fun v => by kernel_rfl),
          owes_skip 17 (some 52) [15, 16] (fun v => by kernel_rfl),
          owes_skip 18 (some 53) [15, 17] (fun v => by kernel_rfl),
          owes_pick 19 (some 54) [10, 15, 18] (Go.Value.bool false) (Go.Operand.tmp 50) (Go.Operand.tmp 53) (Go.Operand.const (Go.Value.bool false)) false (fun v => by kernel_rfl) (fun v => by kernel_rfl) (fun v => by kernel_rfl),
          owes_move 20 (some 55) [10, 19] (Go.Value.bool false) (Go.Operand.tmp 54) (fun v => by kernel_rfl) (fun v => by kernel_rfl),
          owes_skip 21 (some 56) [20] (fun v => by kernel_rfl),
          owes_skip 22 (some 57) [20, 21] (fun v => by kernel_rfl),
          owes_skip 23 (some 58) [20, 22] (fun v => by kernel_rfl),
          owes_pick 24 (some 59) [10, 20, 23] (Go.Value.bool false) (Go.Operand.tmp 55) (Go.Operand.tmp 58) (Go.Operand.const (Go.Value.bool false)) false (fun v => by kernel_rfl) (fun v => by kernel_rfl) (fun v => by kernel_rfl),
          owes_pick 25 (some 60) [10, 24] (Go.Value.bool false) (Go.Operand.tmp 45) (Go.Operand.const (Go.Value.bool true)) (Go.Operand.tmp 59) false (fun v => by kernel_rfl) (fun v => by kernel_rfl) (fun v => by kernel_rfl),
          owes_move 26 (some 61) [25] (Go.Value.bool false) (Go.Operand.tmp 60) (fun v => by kernel_rfl) (fun v => by kernel_rfl),
          owes_move 27 (some 62) [26] (.slice Ap P.length cp) (Go.Operand.tmp 11) (fun v => by kernel_rfl) (fun v => by kernel_rfl),
          owes_lenB 28 (some 63) [26, 27] (.int .i64 (P.length : Int)) (.tmp 62) 22 3 (.slice Ap P.length cp) (fun v => by kernel_rfl) (by kernel_rfl) (fun v => by kernel_rfl) (fun w => by kernel_rfl),
          owes_move 29 (some 64) [26] (.int .i64 (d : Int)) (Go.Operand.tmp 1) (fun v => by kernel_rfl) (fun v => by kernel_rfl),
          owes_bin 30 (some 65) [26, 28, 29] (.bool false) Go.BinOp.gtr 3 (Go.Operand.tmp 63) (Go.Operand.tmp 64) 3 (.int .i64 (P.length : Int)) (.int .i64 (d : Int)) (fun v => by kernel_rfl) (fun v => by kernel_rfl) (gtr_false _ _ _ _ _ (by omega)),
          owes_pick 31 (some 66) [26, 30] (.bool false) (Go.Operand.tmp 61) (Go.Operand.const (Go.Value.bool true)) (Go.Operand.tmp 65) false (fun v => by kernel_rfl) (fun v => by kernel_rfl) (fun v => by kernel_rfl), trivial⟩ ?_
        intro v w2 hb' hall
        clear hall
        simp only [putsL_k, putsL_nil, List.set_cons_zero, List.set_cons_succ]
        replace hown := ownsRow_via hown (fun g _ hlt => hb'.block g hlt)
        replace qp := qp.below hb'
        replace hbr := hbr.trans (hb'.mono hbr.size)
        obtain ⟨xs, hxs⟩ : ∃ xs, xs = b.take (k * d) := ⟨_, rfl⟩
        rw [← hxs] at hown HJ
        have hle : xs.length + P.length ≤ 140737488352000 := by rw [hxs, List.length_take]; omega
        obtain ⟨Ao, co, rfl, hco⟩ := ownsRow_form hown
        have hbs := hbr.size
        clear hb' hxs
        go_upto_region 11 with (at_builtin; refine push_many rfl _ _ rfl w2 W7.heap.size (.slice Ao xs.length co) xs Ap P cp rfl rfl hown qp hbs hle ?_; intro v' w3 hown1 hb1 hg1 hg2; clear hg1 hg2)
        rw [HJ.out] at hown1
        replace hbr := hbr.trans hb1
        clear hown hb1 qp hle hbs
        go_wp2_with fail
        go_roundw
        case rel => exact ⟨k + 1, by omega, by go_num, hown1, hbr⟩
        case measure => simp [intOf]; omega
      have hkl : (N : Int) ≤ (k : Int) + 1 := by omega
      have hb0 := hPB hl
      clear hPA hPB
      by_cases he : P.length ≤ 0
      · replace hb0 := hb0 he
        go_upto_region 13 with (fail)
        refine wp_region_text [Sp.k 0 (some 35) [] (.int .i64 ((k : Nat) : Int)),
          Sp.k 1 (some 36) [] (.int .i64 (N : Int)),
          Sp.k 2 (some 37) [1] (.int .i64 ((N : Int) - 1)),
          Sp.k 3 (some 38) [0, 2] (.bool false),
          Sp.k 4 (some 39) [3] (.bool false),
          Sp.k 5 (some 40) [4] (undef),
          Sp.k 6 (some 41) [4, 5] (undef),
          Sp.k 7 (some 42) [4] (undef),
          Sp.k 8 (some 43) [4, 6, 7] (undef),
          Sp.k 9 (some 44) [4, 8] (Go.Value.bool false),
          Sp.k 10 (some 45) [9] (Go.Value.bool false),
          Sp.k 11 (some 46) [10] (.int .i64 ((k : Nat) : Int)),
          Sp.k 12 (some 47) [10] (.int .i64 (N : Int)),
          Sp.k 13 (some 48) [10, 12] (.int .i64 ((N : Int) - 1)),
          Sp.k 14 (some 49) [10, 11, 13] (.bool true),
          Sp.k 15 (some 50) [10, 14] (.bool true),
          Sp.k 16 (some 51) [15] (.slice Ap P.length cp),
          Sp.k 17 (some 52) [15, 16] (.int .i64 (P.length : Int)),
          Sp.k 18 (some 53) [15, 17] (.bool true),
          Sp.k 19 (some 54) [10, 15, 18] (.bool true),
          Sp.k 20 (some 55) [10, 19] (.bool true),
          Sp.k 21 (some 56) [20] (.slice X b.length cx),
          Sp.k 22 (some 57) [20, 21] (.int .i64 (b.length : Int)),
          Sp.k 23 (some 58) [20, 22] (.bool false),
          Sp.k 24 (some 59) [10, 20, 23] (.bool false),
          Sp.k 25 (some 60) [10, 24] (.bool false),
          Sp.k 26 (some 61) [25] (.bool false),
          Sp.k 27 (some 62) [26] (.slice Ap P.length cp),
          Sp.k 28 (some 63) [26, 27] (.int .i64 (P.length : Int)),
          Sp.k 29 (some 64) [26] (.int .i64 (d : Int)),
          Sp.k 30 (some 65) [26, 28, 29] (.bool false),
          Sp.k 31 (some 66) [26, 30] (.bool false)] (by kernel_rfl)
          ⟨owes_move 0 (some 35) [] (.int .i64 ((k : Nat) : Int)) (Go.Operand.tmp 10) (fun v => by kernel_rfl) (fun v => by kernel_rfl),
          owes_move 1 (some 36) [] (.int .i64 (N : Int)) (Go.Operand.tmp 8) (fun v => by kernel_rfl) (fun v => by kernel_rfl),
          owes_bin 2 (some 37) [1] (.int .i64 ((N : Int) - 1)) Go.BinOp.sub 3 (Go.Operand.tmp 36) (Go.Operand.const (Go.Value.int Go.IntKind.i64 1)) 3 (.int .i64 (N : Int)) (Go.Value.int Go.IntKind.i64 1) (fun v => by kernel_rfl) (fun v => by kernel_rfl) (sub_i64A _ _ _ _ _ _ rfl (by omega) (by omega)),
          owes_bin 3 (some 38) [0, 2] (.bool false) Go.BinOp.lss 3 (Go.Operand.tmp 35) (Go.Operand.tmp 37) 3 (.int .i64 ((k : Nat) : Int)) (.int .i64 ((N : Int) - 1)) (fun v => by kernel_rfl) (fun v => by kernel_rfl) (lss_false _ _ _ _ _ (by omega)),
          owes_move 4 (some 39) [3] (.bool false) (Go.Operand.tmp 38) (fun v => by kernel_rfl) (fun v => by kernel_rfl),
          owes_skip 5 (some 40) [4] (fun v => by kernel_rfl),
          owes_skip 6 (some 41) [4, 5] (fun v => by kernel_rfl),
          owes_skip 7 (some 42) [4] (fun v => by kernel_rfl),
          owes_skip 8 (some 43) [4, 6, 7] (fun v => by kernel_rfl),
          owes_pick 9 (some 44) [4, 8] (Go.Value.bool false) (Go.Operand.tmp 39) (Go.Operand.tmp 43) (Go.Operand.const (Go.Value.bool false)) false (fun v => by kernel_rfl) (fun v => by kernel_rfl) (fun v => by kernel_rfl),
          owes_move 10 (some 45) [9] (Go.Value.bool false) (Go.Operand.tmp 44) (fun v => by kernel_rfl) (fun v => by kernel_rfl),
          owes_move 11 (some 46) [10] (.int .i64 ((k : Nat) : Int)) (Go.Operand.tmp 10) (fun v => by kernel_rfl) (fun v => by kernel_rfl),
          owes_move 12 (some 47) [10] (.int .i64 (N : Int)) (Go.Operand.tmp 8) (fun v => by kernel_rfl) (fun v => by kernel_rfl),
          owes_bin 13 (some 48) [10, 12] (.int .i64 ((N : Int) - 1)) Go.BinOp.sub 3 (Go.Operand.tmp 47) (Go.Operand.const (Go.Value.int Go.IntKind.i64 1)) 3 (.int .i64 (N : Int)) (Go.Value.int Go.IntKind.i64 1) (fun v => by kernel_rfl) (fun v => by kernel_rfl) (sub_i64A _ _ _ _ _ _ rfl (by omega) (by omega)),
          owes_bin 14 (some 49) [10, 11, 13] (.bool true) Go.BinOp.eql 3 (Go.Operand.tmp 46) (Go.Operand.tmp 48) 3 (.int .i64 ((k : Nat) : Int)) (.int .i64 ((N : Int) - 1)) (fun v => by kernel_rfl) (fun v => by kernel_rfl) (eql_true _ _ _ _ _ (by omega)),
          owes_move 15 (some 50) [10, 14] (.bool true) (Go.Operand.tmp 49) (fun v => by kernel_rfl) (fun v => by kernel_rfl),
          owes_move 16 (some 51) [15] (.slice Ap P.length cp) (Go.Operand.tmp 11) (fun v => by kernel_rfl) (fun v => by kernel_rfl),
          owes_lenB 17 (some 52) [15, 16] (.int .i64 (P.length : Int)) (.tmp 51) 22 3 (.slice Ap P.length cp) (fun v => by kernel_rfl) (by kernel_rfl) (fun v => by kernel_rfl) (fun w => by kernel_rfl),
          owes_bin 18 (some 53) [15, 17] (.bool true) Go.BinOp.eql 3 (Go.Operand.tmp 52) (Go.Operand.const (Go.Value.int Go.IntKind.i64 0)) 3 (.int .i64 (P.length : Int)) (Go.Value.int Go.IntKind.i64 0) (fun v => by kernel_rfl) (fun v => by kernel_rfl) (eql_true _ _ _ _ _ (by omega)),
          owes_pick 19 (some 54) [10, 15, 18] (.bool true) (Go.Operand.tmp 50) (Go.Operand.tmp 53) (Go.Operand.const (Go.Value.bool false)) true (fun v => by kernel_rfl) (fun v => by kernel_rfl) (fun v => by kernel_rfl),
          owes_move 20 (some 55) [10, 19] (.bool true) (Go.Operand.tmp 54) (fun v => by kernel_rfl) (fun v => by kernel_rfl),
          owes_move 21 (some 56) [20] (.slice X b.length cx) (Go.Operand.tmp 0) (fun v => by kernel_rfl) (fun v => by kernel_rfl),
          owes_lenB 22 (some 57) [20, 21] (.int .i64 (b.length : Int)) (.tmp 56) 22 3 (.slice X b.length cx) (fun v => by kernel_rfl) (by kernel_rfl) (fun v => by kernel_rfl) (fun w => by kernel_rfl),
          owes_bin 23 (some 58) [20, 22] (.bool false) Go.BinOp.gtr 3 (Go.Operand.tmp 57) (Go.Operand.const (Go.Value.int Go.IntKind.i64 0)) 3 (.int .i64 (b.length : Int)) (Go.Value.int Go.IntKind.i64 0) (fun v => by kernel_rfl) (fun v => by kernel_rfl) (gtr_false _ _ _ _ _ (by omega)),
          owes_pick 24 (some 59) [10, 20, 23] (.bool false) (Go.Operand.tmp 55) (Go.Operand.tmp 58) (Go.Operand.const (Go.Value.bool false)) true (fun v => by kernel_rfl) (fun v => by kernel_rfl) (fun v => by kernel_rfl),
          owes_pick 25 (some 60) [10, 24] (.bool false) (Go.Operand.tmp 45) (Go.Operand.const (Go.Value.bool true)) (Go.Operand.tmp 59) false (fun v => by kernel_rfl) (fun v => by kernel_rfl) (fun v => by kernel_rfl),
          owes_move 26 (some 61) [25] (.bool false) (Go.Operand.tmp 60) (fun v => by kernel_rfl) (fun v => by kernel_rfl),
          owes_move 27 (some 62) [26] (.slice Ap P.length cp) (Go.Operand.tmp 11) (fun v => by kernel_rfl) (fun v => by kernel_rfl),
          owes_lenB 28 (some 63) [26, 27] (.int .i64 (P.length : Int)) (.tmp 62) 22 3 (.slice Ap P.length cp) (fun v => by kernel_rfl) (by kernel_rfl) (fun v => by kernel_rfl) (fun w => by kernel_rfl),
          owes_move 29 (some 64) [26] (.int .i64 (d : Int)) (Go.Operand.tmp 1) (fun v => by kernel_rfl) (fun v => by kernel_rfl),
          owes_bin 30 (some 65) [26, 28, 29] (.bool false) Go.BinOp.gtr 3 (Go.Operand.tmp 63) (Go.Operand.tmp 64) 3 (.int .i64 (P.length : Int)) (.int .i64 (d : Int)) (fun v => by kernel_rfl) (fun v => by kernel_rfl) (gtr_false _ _ _ _ _ (by omega)),
          owes_pick 31 (some 66) [26, 30] (.bool false) (Go.Operand.tmp 61) (Go.Operand.const (Go.Value.bool true)) (Go.Operand.tmp 65) false (fun v => by kernel_rfl) (fun v => by kernel_rfl) (fun v => by kernel_rfl), trivial⟩ ?_
        intro v w2 hb' hall
        clear hall
        simp only [putsL_k, putsL_nil, List.set_cons_zero, List.set_cons_succ]
        replace hown := ownsRow_via hown (fun g _ hlt => hb'.block g hlt)
        replace qp := qp.below hb'
        replace hbr := hbr.trans (hb'.mono hbr.size)
        obtain ⟨xs, hxs⟩ : ∃ xs, xs = b.take (k * d) := ⟨_, rfl⟩
        rw [← hxs] at hown HJ
        have hle : xs.length + P.length ≤ 140737488352000 := by rw [hxs, List.length_take]; omega
        obtain ⟨Ao, co, rfl, hco⟩ := ownsRow_form hown
        have hbs := hbr.size
        clear hb' hxs
        go_upto_region 11 with (at_builtin; refine push_many rfl _ _ rfl w2 W7.heap.size (.slice Ao xs.length co) xs Ap P cp rfl rfl hown qp hbs hle ?_; intro v' w3 hown1 hb1 hg1 hg2; clear hg1 hg2)
        rw [HJ.out] at hown1
        replace hbr := hbr.trans hb1
        clear hown hb1 qp hle hbs
        go_wp2_with fail
        go_roundw
        case rel => exact ⟨k + 1, by omega, by go_num, hown1, hbr⟩
        case measure => simp [intOf]; omega
      · clear hb0
        go_upto_region 13 with (fail)
        refine wp_region_text [Sp.k 0 (some 35) [] (.int .i64 ((k : Nat) : Int)),
          Sp.k 1 (some 36) [] (.int .i64 (N : Int)),
          Sp.k 2 (some 37) [1] (.int .i64 ((N : Int) - 1)),
          Sp.k 3 (some 38) [0, 2] (.bool false),
          Sp.k 4 (some 39) [3] (.bool false),
          Sp.k 5 (some 40) [4] (undef),
          Sp.k 6 (some 41) [4, 5] (undef),
          Sp.k 7 (some 42) [4] (undef),
          Sp.k 8 (some 43) [4, 6, 7] (undef),
          Sp.k 9 (some 44) [4, 8] (Go.Value.bool false),
          Sp.k 10 (some 45) [9] (Go.Value.bool false),
          Sp.k 11 (some 46) [10] (.int .i64 ((k : Nat) : Int)),
          Sp.k 12 (some 47) [10] (.int .i64 (N : Int)),
          Sp.k 13 (some 48) [10, 12] (.int .i64 ((N : Int) - 1)),
          Sp.k 14 (some 49) [10, 11, 13] (.bool true),
          Sp.k 15 (some 50) [10, 14] (.bool true),
          Sp.k 16 (some 51) [15] (.slice Ap P.length cp),
          Sp.k 17 (some 52) [15, 16] (.int .i64 (P.length : Int)),
          Sp.k 18 (some 53) [15, 17] (.bool false),
          Sp.k 19 (some 54) [10, 15, 18] (.bool false),
          Sp.k 20 (some 55) [10, 19] (.bool false),
          Sp.k 21 (some 56) [20] (undef),
          Sp.k 22 (some 57) [20, 21] (undef),
          Sp.k 23 (some 58) [20, 22] (undef),
          Sp.k 24 (some 59) [10, 20, 23] (Go.Value.bool false),
          Sp.k 25 (some 60) [10, 24] (Go.Value.bool false),
          Sp.k 26 (some 61) [25] (Go.Value.bool false),
          Sp.k 27 (some 62) [26] (.slice Ap P.length cp),
          Sp.k 28 (some 63) [26, 27] (.int .i64 (P.length : Int)),
          Sp.k 29 (some 64) [26] (.int .i64 (d : Int)),
          Sp.k 30 (some 65) [26, 28, 29] (.bool false),
          Sp.k 31 (some 66) [26, 30] (.bool false)] (by kernel_rfl)
          ⟨owes_move 0 (some 35) [] (.int .i64 ((k : Nat) : Int)) (Go.Operand.tmp 10) (fun v => by kernel_rfl) (fun v => by kernel_rfl),
          owes_move 1 (some 36) [] (.int .i64 (N : Int)) (Go.Operand.tmp 8) (fun v => by kernel_rfl) (fun v => by kernel_rfl),
          owes_bin 2 (some 37) [1] (.int .i64 ((N : Int) - 1)) Go.BinOp.sub 3 (Go.Operand.tmp 36) (Go.Operand.const (Go.Value.int Go.IntKind.i64 1)) 3 (.int .i64 (N : Int)) (Go.Value.int Go.IntKind.i64 1) (fun v => by kernel_rfl) (fun v => by kernel_rfl) (sub_i64A _ _ _ _ _ _ rfl (by omega) (by omega)),
          owes_bin 3 (some 38) [0, 2] (.bool false) Go.BinOp.lss 3 (Go.Operand.tmp 35) (Go.Operand.tmp 37) 3 (.int .i64 ((k : Nat) : Int)) (.int .i64 ((N : Int) - 1)) (fun v => by kernel_rfl) (fun v => by kernel_rfl) (lss_false _ _ _ _ _ (by omega)),
          owes_move 4 (some 39) [3] (.bool false) (Go.Operand.tmp 38) (fun v => by kernel_rfl) (fun v => by kernel_rfl),
          owes_skip 5 (some 40) [4] (fun v => by kernel_rfl),
          owes_skip 6 (some 41) [4, 5] (fun v => by kernel_rfl),
          owes_skip 7 (some 42) [4] (fun v => by kernel_rfl),
          owes_skip 8 (some 43) [4, 6, 7] (fun v => by kernel_rfl),
          owes_pick 9 (some 44) [4, 8] (Go.Value.bool false) (Go.Operand.tmp 39) (Go.Operand.tmp 43) (Go.Operand.const (Go.Value.bool false)) false (fun v => by kernel_rfl) (fun v => by kernel_rfl) (fun v => by kernel_rfl),
          owes_move 10 (some 45) [9] (Go.Value.bool false) (Go.Operand.tmp 44) (fun v => by kernel_rfl) (fun v => by kernel_rfl),
          owes_move 11 (some 46) [10] (.int .i64 ((k : Nat) : Int)) (Go.Operand.tmp 10) (fun v => by kernel_rfl) (fun v => by kernel_rfl),
          owes_move 12 (some 47) [10] (.int .i64 (N : Int)) (Go.Operand.tmp 8) (fun v => by kernel_rfl) (fun v => by kernel_rfl),
          owes_bin 13 (some 48) [10, 12] (.int .i64 ((N : Int) - 1)) Go.BinOp.sub 3 (Go.Operand.tmp 47) (Go.Operand.const (Go.Value.int Go.IntKind.i64 1)) 3 (.int .i64 (N : Int)) (Go.Value.int Go.IntKind.i64 1) (fun v => by kernel_rfl) (fun v => by kernel_rfl) (sub_i64A _ _ _ _ _ _ rfl (by omega) (by omega)),
          owes_bin 14 (some 49) [10, 11, 13] (.bool true) Go.BinOp.eql 3 (Go.Operand.tmp 46) (Go.Operand.tmp 48) 3 (.int .i64 ((k : Nat) : Int)) (.int .i64 ((N : Int) - 1)) (fun v => by kernel_rfl) (fun v => by kernel_rfl) (eql_true _ _ _ _ _ (by omega)),
          owes_move 15 (some 50) [10, 14] (.bool true) (Go.Operand.tmp 49) (fun v => by kernel_rfl) (fun v => by kernel_rfl),
          owes_move 16 (some 51) [15] (.slice Ap P.length cp) (Go.Operand.tmp 11) (fun v => by kernel_rfl) (fun v => by kernel_rfl),
          owes_lenB 17 (some 52) [15, 16] (.int .i64 (P.length : Int)) (.tmp 51) 22 3 (.slice Ap P.length cp) (fun v => by kernel_rfl) (by kernel_rfl) (fun v => by kernel_rfl) (fun w => by kernel_rfl),
          owes_bin 18 (some 53) [15, 17] (.bool false) Go.BinOp.eql 3 (Go.Operand.tmp 52) (Go.Operand.const (Go.Value.int Go.IntKind.i64 0)) 3 (.int .i64 (P.length : Int)) (Go.Value.int Go.IntKind.i64 0) (fun v => by kernel_rfl) (fun v => by kernel_rfl) (eql_false _ _ _ _ _ (by omega)),
          owes_pick 19 (some 54) [10, 15, 18] (.bool false) (Go.Operand.tmp 50) (Go.Operand.tmp 53) (Go.Operand.const (Go.Value.bool false)) true (fun v => by kernel_rfl) (fun v => by kernel_rfl) (fun v => by kernel_rfl),
          owes_move 20 (some 55) [10, 19] (.bool false) (Go.Operand.tmp 54) (fun v => by kernel_rfl) (fun v => by kernel_rfl),
          owes_skip 21 (some 56) [20] (fun v => by kernel_rfl),
          owes_skip 22 (some 57) [20, 21] (fun v => by kernel_rfl),
          owes_skip 23 (some 58) [20, 22] (fun v => by kernel_rfl),
          owes_pick 24 (some 59) [10, 20, 23] (Go.Value.bool false) (Go.Operand.tmp 55) (Go.Operand.tmp 58) (Go.Operand.const (Go.Value.bool false)) false (fun v => by kernel_rfl) (fun v => by kernel_rfl) (fun v => by kernel_rfl),
          owes_pick 25 (some 60) [10, 24] (Go.Value.bool false) (Go.Operand.tmp 45) (Go.Operand.const (Go.Value.bool true)) (Go.Operand.tmp 59) false (fun v => by kernel_rfl) (fun v => by kernel_rfl) (fun v => by kernel_rfl),
          owes_move 26 (some 61) [25] (Go.Value.bool false) (Go.Operand.tmp 60) (fun v => by kernel_rfl) (fun v => by kernel_rfl),
          owes_move 27 (some 62) [26] (.slice Ap P.length cp) (Go.Operand.tmp 11) (fun v => by kernel_rfl) (fun v => by kernel_rfl),
          owes_lenB 28 (some 63) [26, 27] (.int .i64 (P.length : Int)) (.tmp 62) 22 3 (.slice Ap P.length cp) (fun v => by kernel_rfl) (by kernel_rfl) (fun v => by kernel_rfl) (fun w => by kernel_rfl),
          owes_move 29 (some 64) [26] (.int .i64 (d : Int)) (Go.Operand.tmp 1) (fun v => by kernel_rfl) (fun v => by kernel_rfl),
          owes_bin 30 (some 65) [26, 28, 29] (.bool false) Go.BinOp.gtr 3 (Go.Operand.tmp 63) (Go.Operand.tmp 64) 3 (.int .i64 (P.length : Int)) (.int .i64 (d : Int)) (fun v => by kernel_rfl) (fun v => by kernel_rfl) (gtr_false _ _ _ _ _ (by omega)),
          owes_pick 31 (some 66) [26, 30] (.bool false) (Go.Operand.tmp 61) (Go.Operand.const (Go.Value.bool true)) (Go.Operand.tmp 65) false (fun v => by kernel_rfl) (fun v => by kernel_rfl) (fun v => by kernel_rfl), trivial⟩ ?_
        intro v w2 hb' hall
        clear hall
        simp only [putsL_k, putsL_nil, List.set_cons_zero, List.set_cons_succ]
        replace hown := ownsRow_via hown (fun g _ hlt => hb'.block g hlt)
        replace qp := qp.below hb'
        replace hbr := hbr.trans (hb'.mono hbr.size)
        obtain ⟨xs, hxs⟩ : ∃ xs, xs = b.take (k * d) := ⟨_, rfl⟩
        rw [← hxs] at hown HJ
        have hle : xs.length + P.length ≤ 140737488352000 := by rw [hxs, List.length_take]; omega
        obtain ⟨Ao, co, rfl, hco⟩ := ownsRow_form hown
        have hbs := hbr.size
        clear hb' hxs
        go_upto_region 11 with (at_builtin; refine push_many rfl _ _ rfl w2 W7.heap.size (.slice Ao xs.length co) xs Ap P cp rfl rfl hown qp hbs hle ?_; intro v' w3 hown1 hb1 hg1 hg2; clear hg1 hg2)
        rw [HJ.out] at hown1
        replace hbr := hbr.trans hb1
        clear hown hb1 qp hle hbs
        go_wp2_with fail
        go_roundw
        case rel => exact ⟨k + 1, by omega, by go_num, hown1, hbr⟩
        case measure => simp [intOf]; omega
    · obtain rfl : k = N := by omega
      have hbb : b.take (k * d) = b := by
        rcases Nat.eq_zero_or_pos b.length with h0 | h0
        · rw [List.length_eq_zero_iff.1 h0]; simp
        · exact List.take_of_length_le (HBD.out.1.2)
      rw [hbb] at hown
      obtain ⟨Ao, co, rfl, hco⟩ := ownsRow_form hown
      have hSo := SlRead.of_own hown
      have hBr : B ≤ wr.heap.size := by rw [← HB.out]; exact hwr.size
      obtain ⟨K, hK, hKl⟩ := exists_mod far 1000 (by omega)
      have HK := Lib.hid hK
      clear hlt hkN hown hbb hK hbr hw7 HJN HPN HBD hbd hco
      go_wp2_with fail
      refine (number_nat far 1000 K wr (by omega) HK.out).mono ?_
      rintro e wa ⟨rfl, q, rfl⟩
      have hba : Below wr.heap.size wr (wr.drewN q) := Below.drewNr q
      generalize wr.drewN q = wa at hba ⊢
      replace hSo := hSo.below hba
      replace hXr := hXr.below hba
      replace hwr := hwr.trans (hba.mono hBr)
      have hBa : B ≤ wa.heap.size := by rw [← HB.out]; exact hwr.size
      clear hba hBr wr
      have HP1 : ∀ w', Below wa.heap.size wa w' → Calls Try.prog 7 #[.slice X b.length cx, .int .i64 (d : Int), .int .i64 (((k + K : Nat)) : Int)] w' fun e w'' => ∃ r, e = .returned r ∧ Below w'.heap.size w' w'' ∧ SlIsA [] r w'' := fun w' hb' => by
        have h := piece_any X b cx (d : Int) (((k + K : Nat)) : Int) w' (hXr.below hb') hcx (by omega)
        rwa [HPF.out _ (by omega)] at h
      have HP2 : ∀ w', Below wa.heap.size wa w' → Calls Try.prog 7 #[.slice X b.length cx, .int .i64 (d : Int), .int .i64 (-1 - (K : Int))] w' fun e w'' => ∃ r, e = .returned r ∧ Below w'.heap.size w' w'' ∧ SlIsA [] r w'' := fun w' hb' => by
        have h := piece_any X b cx (d : Int) (-1 - (K : Int)) w' (hXr.below hb') hcx (by omega)
        rwa [HPM.out _ (by omega)] at h
      have HC1 := fun w' => count_any (b.length : Int) 0 w' (by omega)
      have HC2 := fun w' => count_any (-(K : Int) - 1) (d : Int) w' (by omega)
      rw [show countN (-(K : Int) - 1) (d : Int) = 1 by unfold countN; rw [if_pos (by omega)]] at HC2
      rw [show ((1 : Nat) : Int) = 1 from rfl] at HC2
      obtain ⟨C0, hC0e⟩ : ∃ C0, C0 = countN (b.length : Int) 0 := ⟨_, rfl⟩
      rw [← hC0e] at HC1
      have hC0 : (if (b.length : Int) < 1 then (1 : Int) else (b.length : Int)) = (C0 : Int) := by
        rw [hC0e]
        unfold countN
        rw [show oneN 0 = 1 from rfl, Nat.div_one]
        split
        · rfl
        · omega
      clear hC0e HPF HPM HK
      go_upto_region 17 with (fail)
      refine wp_region_text [Sp.k 0 (some 72) [] (.bool true),
        Sp.k 1 (some 73) [0] (.bool true),
        Sp.k 2 (some 74) [1] (.slice Ao b.length co),
        Sp.k 3 (some 75) [1] (.slice X b.length cx),
        Sp.k 4 (some 76) [1, 2, 3] (.bool true),
        Sp.k 5 (some 77) [1, 4] (.bool true),
        Sp.k 6 (some 78) [5] (.bool true),
        Sp.k 7 (some 79) [6] (.slice X b.length cx),
        Sp.k 8 (some 80) [6] (.int .i64 (d : Int)),
        Sp.k 9 (some 81) [6] (.int .i64 (k : Int)),
        Sp.k 10 (some 82) [6] (.int .i64 (K : Int)),
        Sp.k 11 (some 83) [6, 9, 10] (.int .i64 (((k + K : Nat)) : Int)),
        Sp.o 12 (some 84) [6, 7, 8, 11] (SlIsA ([])),
        Sp.k 13 (some 85) [6, 12] (.int .i64 0),
        Sp.k 14 (some 86) [6, 13] (.bool true),
        Sp.k 15 (some 87) [6, 14] (.bool true),
        Sp.k 16 (some 88) [15] (.bool true),
        Sp.k 17 (some 89) [16] (.slice X b.length cx),
        Sp.k 18 (some 90) [16] (.int .i64 (d : Int)),
        Sp.k 19 (some 91) [16] (.int .i64 (K : Int)),
        Sp.k 20 (some 92) [16, 19] (.int .i64 (-1 - (K : Int))),
        Sp.o 21 (some 93) [16, 17, 18, 20] (SlIsA ([])),
        Sp.k 22 (some 94) [16, 21] (.int .i64 0),
        Sp.k 23 (some 95) [16, 22] (.bool true),
        Sp.k 24 (some 96) [16, 23] (.bool true),
        Sp.k 25 (some 97) [24] (.bool true),
        Sp.k 26 (some 98) [25] (.slice X b.length cx),
        Sp.k 27 (some 99) [25, 26] (.int .i64 (b.length : Int)),
        Sp.k 28 (some 100) [25, 27] (.int .i64 (C0 : Int)),
        Sp.k 29 (some 101) [25] (.slice X b.length cx),
        Sp.k 30 (some 102) [25, 29] (.int .i64 (b.length : Int)),
        Sp.k 31 (some 103) [25, 30] (.int .i64 (C0 : Int)),
        Sp.k 32 (some 104) [25, 28, 31] (.bool true),
        Sp.k 33 (some 105) [25, 32] (.bool true),
        Sp.k 34 (some 106) [33] (.bool true),
        Sp.k 35 (some 107) [34] (.int .i64 (K : Int)),
        Sp.k 36 (some 108) [34, 35] (.int .i64 (-(K : Int))),
        Sp.k 37 (some 109) [34, 36] (.int .i64 (-(K : Int) - 1)),
        Sp.k 38 (some 110) [34] (.int .i64 (d : Int)),
        Sp.k 39 (some 111) [34, 37, 38] (.int .i64 1),
        Sp.k 40 (some 112) [34, 39] (.bool true),
        Sp.k 41 (some 113) [34, 40] (.bool true),
        Sp.k 42 (some 6) [41] (.bool true)] (by kernel_rfl)
        ⟨owes_move 0 (some 72) [] (.bool true) (Go.Operand.tmp 7) (fun v => by kernel_rfl) (fun v => by kernel_rfl),
        owes_move 1 (some 73) [0] (.bool true) (Go.Operand.tmp 72) (fun v => by kernel_rfl) (fun v => by kernel_rfl),
        owes_move 2 (some 74) [1] (.slice Ao b.length co) (Go.Operand.tmp 9) (fun v => by kernel_rfl) (fun v => by kernel_rfl),
        owes_move 3 (some 75) [1] (.slice X b.length cx) (Go.Operand.tmp 0) (fun v => by kernel_rfl) (fun v => by kernel_rfl),
        owes_call 4 (some 76) [1, 2, 3] (.bool true) 8 #[Go.Operand.tmp 74, Go.Operand.tmp 75] #[22, 22] (fun v => by kernel_rfl) (fun _ _ => by kernel_rfl) (fun v w' hb ho => by
            exact ⟨#[.slice Ao b.length co, .slice X b.length cx], by kernel_rfl, (quietB (same_true Ao X b co cx w' (hSo.below hb) (hXr.below hb) (by omega))).mono (fun _ _ h => h)⟩),
        owes_pick 5 (some 77) [1, 4] (.bool true) (Go.Operand.tmp 73) (Go.Operand.tmp 76) (Go.Operand.const (Go.Value.bool false)) true (fun v => by kernel_rfl) (fun v => by kernel_rfl) (fun v => by kernel_rfl),
        owes_move 6 (some 78) [5] (.bool true) (Go.Operand.tmp 77) (fun v => by kernel_rfl) (fun v => by kernel_rfl),
        owes_move 7 (some 79) [6] (.slice X b.length cx) (Go.Operand.tmp 0) (fun v => by kernel_rfl) (fun v => by kernel_rfl),
        owes_move 8 (some 80) [6] (.int .i64 (d : Int)) (Go.Operand.tmp 1) (fun v => by kernel_rfl) (fun v => by kernel_rfl),
        owes_move 9 (some 81) [6] (.int .i64 (k : Int)) (Go.Operand.tmp 8) (fun v => by kernel_rfl) (fun v => by kernel_rfl),
        owes_move 10 (some 82) [6] (.int .i64 (K : Int)) (Go.Operand.tmp 2) (fun v => by kernel_rfl) (fun v => by kernel_rfl),
        owes_bin 11 (some 83) [6, 9, 10] (.int .i64 (((k + K : Nat)) : Int)) Go.BinOp.add 3 (Go.Operand.tmp 81) (Go.Operand.tmp 82) 3 (.int .i64 (k : Int)) (.int .i64 (K : Int)) (fun v => by kernel_rfl) (fun v => by kernel_rfl) (add_i64 _ _ _ _ _ _ (by omega) (by omega) (by omega)),
        owes_call_o 12 (some 84) [6, 7, 8, 11] (SlIsA ([])) 7 #[Go.Operand.tmp 79, Go.Operand.tmp 80, Go.Operand.tmp 83] #[22, 3, 3] (fun v => by kernel_rfl) (fun _ _ => by kernel_rfl) SlIsA.mono (fun v w' hb ho => by
            exact ⟨#[.slice X b.length cx, .int .i64 (d : Int), .int .i64 (((k + K : Nat)) : Int)], by kernel_rfl, (HP1 w' hb).mono (fun _ _ h => h)⟩),
        owes_len_o 13 (some 85) [6, 12] 0 (.tmp 84) 22 3 (fun v => by kernel_rfl) (by kernel_rfl) (fun A c w => by kernel_rfl) (fun v w' hb ho => by
            obtain ⟨A12, c12, e12, l12, r12⟩ := ho.get 12 _ _ (SlIsA ([])) rfl rfl
            exact ⟨A12, c12, Eq.trans (b := v 12) (by kernel_rfl) e12⟩),
        owes_bin 14 (some 86) [6, 13] (.bool true) Go.BinOp.eql 3 (Go.Operand.tmp 85) (Go.Operand.const (Go.Value.int Go.IntKind.i64 0)) 3 (.int .i64 0) (Go.Value.int Go.IntKind.i64 0) (fun v => by kernel_rfl) (fun v => by kernel_rfl) (fun w => by kernel_rfl),
        owes_pick 15 (some 87) [6, 14] (.bool true) (Go.Operand.tmp 78) (Go.Operand.tmp 86) (Go.Operand.const (Go.Value.bool false)) true (fun v => by kernel_rfl) (fun v => by kernel_rfl) (fun v => by kernel_rfl),
        owes_move 16 (some 88) [15] (.bool true) (Go.Operand.tmp 87) (fun v => by kernel_rfl) (fun v => by kernel_rfl),
        owes_move 17 (some 89) [16] (.slice X b.length cx) (Go.Operand.tmp 0) (fun v => by kernel_rfl) (fun v => by kernel_rfl),
        owes_move 18 (some 90) [16] (.int .i64 (d : Int)) (Go.Operand.tmp 1) (fun v => by kernel_rfl) (fun v => by kernel_rfl),
        owes_move 19 (some 91) [16] (.int .i64 (K : Int)) (Go.Operand.tmp 2) (fun v => by kernel_rfl) (fun v => by kernel_rfl),
        owes_bin 20 (some 92) [16, 19] (.int .i64 (-1 - (K : Int))) Go.BinOp.sub 3 (Go.Operand.const (Go.Value.int Go.IntKind.i64 (-1))) (Go.Operand.tmp 91) 3 (Go.Value.int Go.IntKind.i64 (-1)) (.int .i64 (K : Int)) (fun v => by kernel_rfl) (fun v => by kernel_rfl) (sub_i64A _ _ _ _ _ _ rfl (by omega) (by omega)),
        owes_call_o 21 (some 93) [16, 17, 18, 20] (SlIsA ([])) 7 #[Go.Operand.tmp 89, Go.Operand.tmp 90, Go.Operand.tmp 92] #[22, 3, 3] (fun v => by kernel_rfl) (fun _ _ => by kernel_rfl) SlIsA.mono (fun v w' hb ho => by
            exact ⟨#[.slice X b.length cx, .int .i64 (d : Int), .int .i64 (-1 - (K : Int))], by kernel_rfl, (HP2 w' hb).mono (fun _ _ h => h)⟩),
        owes_len_o 22 (some 94) [16, 21] 0 (.tmp 93) 22 3 (fun v => by kernel_rfl) (by kernel_rfl) (fun A c w => by kernel_rfl) (fun v w' hb ho => by
            obtain ⟨A21, c21, e21, l21, r21⟩ := ho.get 21 _ _ (SlIsA ([])) rfl rfl
            exact ⟨A21, c21, Eq.trans (b := v 21) (by kernel_rfl) e21⟩),
        owes_bin 23 (some 95) [16, 22] (.bool true) Go.BinOp.eql 3 (Go.Operand.tmp 94) (Go.Operand.const (Go.Value.int Go.IntKind.i64 0)) 3 (.int .i64 0) (Go.Value.int Go.IntKind.i64 0) (fun v => by kernel_rfl) (fun v => by kernel_rfl) (fun w => by kernel_rfl),
        owes_pick 24 (some 96) [16, 23] (.bool true) (Go.Operand.tmp 88) (Go.Operand.tmp 95) (Go.Operand.const (Go.Value.bool false)) true (fun v => by kernel_rfl) (fun v => by kernel_rfl) (fun v => by kernel_rfl),
        owes_move 25 (some 97) [24] (.bool true) (Go.Operand.tmp 96) (fun v => by kernel_rfl) (fun v => by kernel_rfl),
        owes_move 26 (some 98) [25] (.slice X b.length cx) (Go.Operand.tmp 0) (fun v => by kernel_rfl) (fun v => by kernel_rfl),
        owes_lenB 27 (some 99) [25, 26] (.int .i64 (b.length : Int)) (.tmp 98) 22 3 (.slice X b.length cx) (fun v => by kernel_rfl) (by kernel_rfl) (fun v => by kernel_rfl) (fun w => by kernel_rfl),
        owes_call 28 (some 100) [25, 27] (.int .i64 (C0 : Int)) 6 #[Go.Operand.tmp 99, Go.Operand.const (Go.Value.int Go.IntKind.i64 0)] #[3, 3] (fun v => by kernel_rfl) (fun _ _ => by kernel_rfl) (fun v w' hb ho => by
            exact ⟨#[.int .i64 (b.length : Int), Go.Value.int Go.IntKind.i64 0], by kernel_rfl, (HC1 w').mono (fun _ _ h => h)⟩),
        owes_move 29 (some 101) [25] (.slice X b.length cx) (Go.Operand.tmp 0) (fun v => by kernel_rfl) (fun v => by kernel_rfl),
        owes_lenB 30 (some 102) [25, 29] (.int .i64 (b.length : Int)) (.tmp 101) 22 3 (.slice X b.length cx) (fun v => by kernel_rfl) (by kernel_rfl) (fun v => by kernel_rfl) (fun w => by kernel_rfl),
        owes_max 31 (some 103) [25, 30] (.int .i64 (C0 : Int)) (.tmp 102) (.const (.int .i64 1)) 3 3 3 (.int .i64 (b.length : Int)) (.int .i64 1) (fun v => by kernel_rfl) (by kernel_rfl) (fun v => by kernel_rfl) (fun w => max_i64 _ _ _ hC0 w),
        owes_bin 32 (some 104) [25, 28, 31] (.bool true) Go.BinOp.eql 3 (Go.Operand.tmp 100) (Go.Operand.tmp 103) 3 (.int .i64 (C0 : Int)) (.int .i64 (C0 : Int)) (fun v => by kernel_rfl) (fun v => by kernel_rfl) (eql_true _ _ _ _ _ rfl),
        owes_pick 33 (some 105) [25, 32] (.bool true) (Go.Operand.tmp 97) (Go.Operand.tmp 104) (Go.Operand.const (Go.Value.bool false)) true (fun v => by kernel_rfl) (fun v => by kernel_rfl) (fun v => by kernel_rfl),
        owes_move 34 (some 106) [33] (.bool true) (Go.Operand.tmp 105) (fun v => by kernel_rfl) (fun v => by kernel_rfl),
        owes_move 35 (some 107) [34] (.int .i64 (K : Int)) (Go.Operand.tmp 2) (fun v => by kernel_rfl) (fun v => by kernel_rfl),
        owes_un 36 (some 108) [34, 35] (.int .i64 (-(K : Int))) Go.UnOp.neg 3 (Go.Operand.tmp 107) (.int .i64 (K : Int)) (fun v => by kernel_rfl) (fun v => by kernel_rfl) (fun w => neg_i64 _ (by omega) (by omega) w),
        owes_bin 37 (some 109) [34, 36] (.int .i64 (-(K : Int) - 1)) Go.BinOp.sub 3 (Go.Operand.tmp 108) (Go.Operand.const (Go.Value.int Go.IntKind.i64 1)) 3 (.int .i64 (-(K : Int))) (Go.Value.int Go.IntKind.i64 1) (fun v => by kernel_rfl) (fun v => by kernel_rfl) (sub_i64A _ _ _ _ _ _ rfl (by omega) (by omega)),
        owes_move 38 (some 110) [34] (.int .i64 (d : Int)) (Go.Operand.tmp 1) (fun v => by kernel_rfl) (fun v => by kernel_rfl),
        owes_call 39 (some 111) [34, 37, 38] (.int .i64 1) 6 #[Go.Operand.tmp 109, Go.Operand.tmp 110] #[3, 3] (fun v => by kernel_rfl) (fun _ _ => by kernel_rfl) (fun v w' hb ho => by
            exact ⟨#[.int .i64 (-(K : Int) - 1), .int .i64 (d : Int)], by kernel_rfl, (HC2 w').mono (fun _ _ h => h)⟩),
        owes_bin 40 (some 112) [34, 39] (.bool true) Go.BinOp.eql 3 (Go.Operand.tmp 111) (Go.Operand.const (Go.Value.int Go.IntKind.i64 1)) 3 (.int .i64 1) (Go.Value.int Go.IntKind.i64 1) (fun v => by kernel_rfl) (fun v => by kernel_rfl) (fun w => by kernel_rfl),
        owes_pick 41 (some 113) [34, 40] (.bool true) (Go.Operand.tmp 106) (Go.Operand.tmp 112) (Go.Operand.const (Go.Value.bool false)) true (fun v => by kernel_rfl) (fun v => by kernel_rfl) (fun v => by kernel_rfl),
        owes_assign 42 (some 6) [41] (.bool true) (Go.Operand.tmp 113) (fun v => by kernel_rfl) (fun v => by kernel_rfl), trivial⟩ ?_
      intro v w4 hb4 hall
      clear hall HP1 HP2 HC1 HC2 hC0
      simp only [putsL_k, putsL_o, putsL_nil, List.set_cons_zero, List.set_cons_succ]
      have hfin := hwr.trans (hb4.mono hBa)
      go_wp2_with fail
      go_ret
      exact ⟨rfl, by rw [HB.out]; exact hfin⟩
end Go.Proofs.Ytpegihfocnchnaa
