import Derived.Test.YtpegihfocnchnaaDoorSus
import Derived.Test.YtpegihfocnchnaaDoorTky
/-
  StreamBack.
-/
namespace Go.Proofs.YtpegihfocnchnaaDoor
open Go.RowKit

theorem neq_i64g (t : TypeId) (x y : Operand) (a b : Int) (w : World) : (do eqGuard .neq t x y (.int .i64 a) (.int .i64 b); binOp .neq t (.int .i64 a) (.int .i64 b) : Sem Value).run Tryd.prog w = .ok (.bool (a != b)) w := by
  simp [eqGuard, binOp, Op.intCmp, bne]
/-- so many chunks of such a length: no more than there is, and enough -/
theorem countN_bounds (s d : Nat) (ch : Int) (hd : oneN ch = d) (hp : 0 < d) : 1 ≤ countN (s : Int) ch ∧ (countN (s : Int) ch - 1) * d ≤ s ∧ s ≤ countN (s : Int) ch * d := by
  have hc := countN_split s d ch hd hp
  have h1 := Nat.div_add_mod s d
  have h2 := Nat.mod_lt s hp
  refine ⟨countN_pos _ _, ?_⟩
  rcases Nat.eq_zero_or_pos (s % d) with h0 | h0
  · rw [hc.1 h0]
    rcases Nat.eq_zero_or_pos (s / d) with hq | hq
    · rw [hq] at h1 ⊢
      simp at h1 ⊢
      omega
    · rw [Nat.max_eq_left hq, Nat.mul_comm (s / d)]
      have : (s / d - 1) * d ≤ s / d * d := Nat.mul_le_mul_right _ (by omega)
      rw [Nat.mul_comm (s / d)] at this
      omega
  · rw [hc.2 h0]
    have e : (s / d + 1 - 1) * d = d * (s / d) := by rw [Nat.add_sub_cancel, Nat.mul_comm]
    have e2 : (s / d + 1) * d = d * (s / d) + d := by rw [Nat.add_mul, Nat.one_mul, Nat.mul_comm]
    omega
theorem pieces_join (b : List (BitVec 8)) (ch : Int) (d k : Nat) (hd : oneN ch = d) (hk : k < countN b.length ch) : b.take (k * d) ++ pieceL b ch (k : Int) = b.take ((k + 1) * d) := by
  unfold pieceL
  rw [hd, if_neg (by omega), Int.toNat_natCast, Nat.add_mul, Nat.one_mul, List.take_add]
theorem sealC_got (key : Nat → BitVec 8) (b : List (BitVec 8)) (ch : Int) (k : Nat) : openGot key (nonB (BitVec.ofNat 32 k) ((k : Int) == ((countN b.length ch : Int) - 1))) [] (sealC key b ch k) = (pieceL b ch (k : Int), 0) := openGot_sealB _ _ _ _
/-- the key and the sealed chunks -/
structure BkF (KB : Nat) (key : Nat → BitVec 8) (G N : Nat) (L : Nat → List (BitVec 8)) (As : Nat → Option Addr) (cs : Nat → Nat) (W : World) : Prop where
  k : W.rowIs KB 23 32 (fun i => v8 (key i))
  p : PkAt G N N L As cs W
theorem BkF.next {KB : Nat} {key : Nat → BitVec 8} {G N : Nat} {L : Nat → List (BitVec 8)} {As : Nat → Option Addr} {cs : Nat → Nat} {W W' : World} (h : BkF KB key G N L As cs W) (hb : Below W.heap.size W W') : BkF KB key G N L As cs W' :=
  ⟨h.k.of_block (hb.block _ h.k.lt), h.p.below hb⟩
theorem BkF.cell {KB : Nat} {key : Nat → BitVec 8} {G N : Nat} {L : Nat → List (BitVec 8)} {As : Nat → Option Addr} {cs : Nat → Nat} {W : World} (h : BkF KB key G N L As cs W) {k : Nat} (hk : k < N) : W.cell? ⟨G, 0 + k, none⟩ = some (.slice (As k) (L k).length (cs k)) := by
  have := h.p.row.cell hk
  rw [if_pos hk] at this
  rw [Nat.zero_add]
  exact this

set_option maxRecDepth 100000 in
set_option maxHeartbeats 6400000 in
theorem back_walk (E : Nat → Addr) (z : Int) (X : Option Addr) (b : List (BitVec 8)) (cx : Nat) (chunk i : Int) (w : World) (hX : SlRead w X (ints .u8 (bys b))) (hcx : b.length ≤ cx) (hE : ErrsAt E w) :
    Calls Tryd.prog 4 #[.int .i64 z, .slice X b.length cx, .int .i64 chunk, .int .i64 i] w fun e w' => e = .returned (.bool true) ∧ Below w.heap.size w w' := by
  go_enter Tryd.func4, Tryd.ntmps4
  go_wp2_with fail
  refine (first_any w).mono ?_
  rintro e W1 ⟨rfl, hb1⟩
  generalize hB : w.heap.size = B at hb1 ⊢
  have HB := Lib.hid hB; clear hB
  by_cases h1 : 200 < b.length
  · have d1 : decide ((200 : Int) < (b.length : Int)) = true := by simp; omega
    go_wp2_with fail
    go_ret
    exact ⟨rfl, by rw [HB.out]; exact hb1⟩
  have d1 : decide ((200 : Int) < (b.length : Int)) = false := by simp; omega
  have hlx : b.length ≤ 200 := by omega
  clear h1
  have hB1 : B ≤ W1.heap.size := by rw [← HB.out]; exact hb1.size
  obtain ⟨K1, hK1, hK1l⟩ := exists_mod chunk 60 (by omega)
  have HK1 := Lib.hid hK1
  clear hK1
  go_upto_region 6 with (fail)
  refine wp_region_text [Sp.k 0 (some 32) [] (.int .i64 chunk),
    Sp.k 1 (some 33) [0] (.int .i64 (K1 : Int)),
    Sp.k 2 (some 34) [1] (.int .i64 ((K1 + 1 : Nat) : Int)),
    Sp.k 3 (some 2) [0, 2] (.int .i64 ((K1 + 1 : Nat) : Int))] (by kernel_rfl)
    ⟨owes_move 0 (some 32) [] (.int .i64 chunk) (Go.Operand.tmp 2) (fun v => by kernel_rfl) (fun v => by kernel_rfl),
    owes_call 1 (some 33) [0] (.int .i64 (K1 : Int)) 7 #[Go.Operand.tmp 32, Go.Operand.const (Go.Value.int Go.IntKind.i64 60)] #[3, 3] (fun v => by kernel_rfl) (fun _ _ => by kernel_rfl) (fun v w' hb ho => by
        exact ⟨#[.int .i64 chunk, Go.Value.int Go.IntKind.i64 60], by kernel_rfl, (quietB (number_nat chunk 60 K1 w' (by omega) HK1.out)).mono (fun _ _ h => h)⟩),
    owes_bin 2 (some 34) [1] (.int .i64 ((K1 + 1 : Nat) : Int)) Go.BinOp.add 3 (Go.Operand.tmp 33) (Go.Operand.const (Go.Value.int Go.IntKind.i64 1)) 3 (.int .i64 (K1 : Int)) (Go.Value.int Go.IntKind.i64 1) (fun v => by kernel_rfl) (fun v => by kernel_rfl) (add_i64 _ _ _ _ _ _ (by omega) (by omega) (by omega)),
    owes_assign 3 (some 2) [0, 2] (.int .i64 ((K1 + 1 : Nat) : Int)) (Go.Operand.tmp 34) (fun v => by kernel_rfl) (fun v => by kernel_rfl), trivial⟩ ?_
  intro v W2 hb' hall
  clear hall HK1 d1
  simp only [putsL_k, putsL_nil, List.set_cons_zero, List.set_cons_succ]
  replace hb1 := hb1.trans (hb'.mono hB1)
  have hB2 : B ≤ W2.heap.size := by rw [← HB.out]; exact hb1.size
  clear hb' hB1 W1
  obtain ⟨d, hd⟩ : ∃ d : Nat, d = K1 + 1 := ⟨_, rfl⟩
  rw [← hd]
  have hd1 : 1 ≤ d := by omega
  have hd2 : d ≤ 60 := by omega
  have hod : oneN (d : Int) = d := by
    unfold oneN
    rw [if_neg (by omega)]
    simp
  clear hd hK1l
  go_upto_region 8 with (first | (go_at_call 21; refine (key_any z W2).mono ?_; rintro e W3 ⟨key, rfl, hb3⟩) | (refine wpList_store_row rfl 23 _ _ rfl _ _ rfl rfl _ _ (heap_alloc_new _ _) (by kernel_rfl) (by simp) (arr8_one _ _) ?_; rw [alloc_setRow]))
  replace hb1 := hb1.trans (hb3.mono hB2)
  have hB3 : B ≤ W3.heap.size := by rw [← HB.out]; exact hb1.size
  refine wp_world (fun W => W.rowIs W3.heap.size 23 32 (fun i => v8 (key i)) ∧ Below B w W) ⟨rowIs_new _ _ _ _ _ _ rfl (by simp) (fun i hi => arr8_get 32 key i hi), hb1.alloc hB3 _⟩ ?_
  generalize W3.heap.size = KB at hB3 ⊢
  clear hb1 hb3 hB2 W2 W3
  rintro W4 ⟨hk4, hw4⟩
  have hX4 : SlRead W4 X (ints .u8 (bys b)) := hX.below (by rw [HB.out]; exact hw4)
  have hal := all_any key X b cx (d : Int) W4 hX4 hcx (by omega)
  obtain ⟨N, hNN⟩ : ∃ N, N = countN b.length (d : Int) := ⟨_, rfl⟩
  have hcn := fun W => count_any (b.length : Int) (d : Int) W (by omega)
  have hbd := countN_bounds b.length d (d : Int) hod hd1
  have hjn := fun k => pieces_join b (d : Int) d k hod
  have hgot := fun k => sealC_got key b (d : Int) k
  rw [← hNN] at hal hcn hbd
  simp only [← hNN] at hjn hgot
  have hNl : N ≤ 201 := by
    have : (N - 1) * 1 ≤ (N - 1) * d := Nat.mul_le_mul_left _ hd1
    omega
  have hsl : ∀ k, (sealC key b (d : Int) k).length = (pieceL b (d : Int) (k : Int)).length + 16 := fun k => by unfold sealC; rw [sealB_length]
  have hpl : ∀ k : Nat, (pieceL b (d : Int) (k : Int)).length ≤ 200 := fun k => Nat.le_trans (pieceL_len _ _ _) hlx
  generalize sealC key b (d : Int) = L at hal hsl hgot
  have hPe : pieceL b (d : Int) (N : Int) = [] := by
    unfold pieceL
    rw [← hNN, if_pos (.inr (by omega))]
  have hPi : ∀ q : Nat, (pieceL b (d : Int) (q : Int)).length ≤ d := fun q => by
    unfold pieceL
    split
    · simp
    · rw [hod, List.length_take]; omega
  have HJN := Lib.hid hjn
  have HGOT := Lib.hid hgot
  have HSLL := Lib.hid hsl
  have HPLL := Lib.hid hpl
  have HPI := Lib.hid hPi
  have HPE := Lib.hid hPe
  have HCN := Lib.hid hcn
  have HOD := Lib.hid hod
  clear hNN hsl hod hjn hgot hpl hPi hPe hcn
  have hk := rowIs_heap8 hk4
  go_wp2_with (first | (refine wpList_load_row rfl 23 _ rfl _ rfl _ _ _ _ hk Tryd.underlying23 rfl (by kernel_rfl) ?_))
  refine hal.mono ?_
  rintro e W5 ⟨G, As, cs, rfl, hpk, hG, hb5⟩
  have hKB4 : KB < W4.heap.size := hk4.lt
  have hF : BkF KB key G N L As cs W5 := ⟨hk4.of_block (hb5.block _ hKB4), hpk⟩
  have hw5 := hw4.trans (hb5.mono (by omega))
  clear hal hk hX4 hk4 hw4 hpk hG hb5 hKB4 W4
  have hcn := HCN.out W5
  go_wp2_with fail
  refine hcn.mono ?_
  rintro e W6 ⟨rfl, hb6⟩
  replace hF := hF.next hb6
  have hw6 := hw5.trans (hb6.mono (by rw [← HB.out]; exact hw5.size))
  clear hcn HCN hb6 hw5 W5
  obtain ⟨M1, hM1e⟩ : ∃ M1, M1 = (N - 1) * d := ⟨_, rfl⟩
  obtain ⟨M2, hM2e⟩ : ∃ M2, M2 = N * d := ⟨_, rfl⟩
  have hM1 : ((N : Int) - 1) * (d : Int) = (M1 : Int) := by
    rw [hM1e, show (N : Int) - 1 = ((N - 1 : Nat) : Int) by omega]; simp
  have hM2 : (N : Int) * (d : Int) = (M2 : Int) := by rw [hM2e]; simp
  have hM2b : M2 ≤ 201 * 60 := by rw [hM2e]; exact Nat.mul_le_mul hNl hd2
  rw [← hM1e, ← hM2e] at hbd
  have HM2 := Lib.hid hM2e
  clear hM1e hM2e
  go_upto_region 10 with (fail)
  refine wp_region_text [Sp.k 0 (some 45) [] (.slice (some ⟨G, 0, none⟩) N N),
    Sp.k 1 (some 46) [0] (.int .i64 (N : Int)),
    Sp.k 2 (some 47) [] (.int .i64 (N : Int)),
    Sp.k 3 (some 48) [1, 2] (.bool false),
    Sp.k 4 (some 49) [3] (.bool false),
    Sp.k 5 (some 50) [4] (.int .i64 (N : Int)),
    Sp.k 6 (some 51) [4, 5] (.bool false),
    Sp.k 7 (some 52) [4, 6] (.bool false),
    Sp.k 8 (some 53) [7] (.bool false),
    Sp.k 9 (some 54) [8] (.int .i64 (N : Int)),
    Sp.k 10 (some 55) [8, 9] (.int .i64 ((N : Int) - 1)),
    Sp.k 11 (some 56) [8] (.int .i64 (d : Int)),
    Sp.k 12 (some 57) [8, 10, 11] (.int .i64 (M1 : Int)),
    Sp.k 13 (some 58) [8] (.slice X b.length cx),
    Sp.k 14 (some 59) [8, 13] (.int .i64 (b.length : Int)),
    Sp.k 15 (some 60) [8, 12, 14] (.bool false),
    Sp.k 16 (some 61) [8, 15] (.bool false),
    Sp.k 17 (some 62) [16] (.bool false),
    Sp.k 18 (some 63) [17] (.int .i64 (N : Int)),
    Sp.k 19 (some 64) [17] (.int .i64 (d : Int)),
    Sp.k 20 (some 65) [17, 18, 19] (.int .i64 (M2 : Int)),
    Sp.k 21 (some 66) [17] (.slice X b.length cx),
    Sp.k 22 (some 67) [17, 21] (.int .i64 (b.length : Int)),
    Sp.k 23 (some 68) [17, 20, 22] (.bool false),
    Sp.k 24 (some 69) [17, 23] (.bool false)] (by kernel_rfl)
    ⟨owes_move 0 (some 45) [] (.slice (some ⟨G, 0, none⟩) N N) (Go.Operand.tmp 11) (fun v => by kernel_rfl) (fun v => by kernel_rfl),
    owes_lenB 1 (some 46) [0] (.int .i64 (N : Int)) (.tmp 45) 28 3 (.slice (some ⟨G, 0, none⟩) N N) (fun v => by kernel_rfl) (by kernel_rfl) (fun v => by kernel_rfl) (fun w => by kernel_rfl),
    owes_move 2 (some 47) [] (.int .i64 (N : Int)) (Go.Operand.tmp 12) (fun v => by kernel_rfl) (fun v => by kernel_rfl),
    owes_bin 3 (some 48) [1, 2] (.bool false) Go.BinOp.neq 3 (Go.Operand.tmp 46) (Go.Operand.tmp 47) 3 (.int .i64 (N : Int)) (.int .i64 (N : Int)) (fun v => by kernel_rfl) (fun v => by kernel_rfl) (neq_i64s _ _ _ _),
    owes_move 4 (some 49) [3] (.bool false) (Go.Operand.tmp 48) (fun v => by kernel_rfl) (fun v => by kernel_rfl),
    owes_move 5 (some 50) [4] (.int .i64 (N : Int)) (Go.Operand.tmp 12) (fun v => by kernel_rfl) (fun v => by kernel_rfl),
    owes_bin 6 (some 51) [4, 5] (.bool false) Go.BinOp.lss 3 (Go.Operand.tmp 50) (Go.Operand.const (Go.Value.int Go.IntKind.i64 1)) 3 (.int .i64 (N : Int)) (Go.Value.int Go.IntKind.i64 1) (fun v => by kernel_rfl) (fun v => by kernel_rfl) (lss_false _ _ _ _ _ (by omega)),
    owes_pick 7 (some 52) [4, 6] (.bool false) (Go.Operand.tmp 49) (Go.Operand.const (Go.Value.bool true)) (Go.Operand.tmp 51) false (fun v => by kernel_rfl) (fun v => by kernel_rfl) (fun v => by kernel_rfl),
    owes_move 8 (some 53) [7] (.bool false) (Go.Operand.tmp 52) (fun v => by kernel_rfl) (fun v => by kernel_rfl),
    owes_move 9 (some 54) [8] (.int .i64 (N : Int)) (Go.Operand.tmp 12) (fun v => by kernel_rfl) (fun v => by kernel_rfl),
    owes_bin 10 (some 55) [8, 9] (.int .i64 ((N : Int) - 1)) Go.BinOp.sub 3 (Go.Operand.tmp 54) (Go.Operand.const (Go.Value.int Go.IntKind.i64 1)) 3 (.int .i64 (N : Int)) (Go.Value.int Go.IntKind.i64 1) (fun v => by kernel_rfl) (fun v => by kernel_rfl) (sub_i64A _ _ _ _ _ _ rfl (by omega) (by omega)),
    owes_move 11 (some 56) [8] (.int .i64 (d : Int)) (Go.Operand.tmp 2) (fun v => by kernel_rfl) (fun v => by kernel_rfl),
    owes_bin 12 (some 57) [8, 10, 11] (.int .i64 (M1 : Int)) Go.BinOp.mul 3 (Go.Operand.tmp 55) (Go.Operand.tmp 56) 3 (.int .i64 ((N : Int) - 1)) (.int .i64 (d : Int)) (fun v => by kernel_rfl) (fun v => by kernel_rfl) (mul_i64S _ _ _ _ _ _ hM1 (by omega) (by omega)),
    owes_move 13 (some 58) [8] (.slice X b.length cx) (Go.Operand.tmp 1) (fun v => by kernel_rfl) (fun v => by kernel_rfl),
    owes_lenB 14 (some 59) [8, 13] (.int .i64 (b.length : Int)) (.tmp 58) 24 3 (.slice X b.length cx) (fun v => by kernel_rfl) (by kernel_rfl) (fun v => by kernel_rfl) (fun w => by kernel_rfl),
    owes_bin 15 (some 60) [8, 12, 14] (.bool false) Go.BinOp.gtr 3 (Go.Operand.tmp 57) (Go.Operand.tmp 59) 3 (.int .i64 (M1 : Int)) (.int .i64 (b.length : Int)) (fun v => by kernel_rfl) (fun v => by kernel_rfl) (gtr_false _ _ _ _ _ (by omega)),
    owes_pick 16 (some 61) [8, 15] (.bool false) (Go.Operand.tmp 53) (Go.Operand.const (Go.Value.bool true)) (Go.Operand.tmp 60) false (fun v => by kernel_rfl) (fun v => by kernel_rfl) (fun v => by kernel_rfl),
    owes_move 17 (some 62) [16] (.bool false) (Go.Operand.tmp 61) (fun v => by kernel_rfl) (fun v => by kernel_rfl),
    owes_move 18 (some 63) [17] (.int .i64 (N : Int)) (Go.Operand.tmp 12) (fun v => by kernel_rfl) (fun v => by kernel_rfl),
    owes_move 19 (some 64) [17] (.int .i64 (d : Int)) (Go.Operand.tmp 2) (fun v => by kernel_rfl) (fun v => by kernel_rfl),
    owes_bin 20 (some 65) [17, 18, 19] (.int .i64 (M2 : Int)) Go.BinOp.mul 3 (Go.Operand.tmp 63) (Go.Operand.tmp 64) 3 (.int .i64 (N : Int)) (.int .i64 (d : Int)) (fun v => by kernel_rfl) (fun v => by kernel_rfl) (mul_i64S _ _ _ _ _ _ hM2 (by omega) (by omega)),
    owes_move 21 (some 66) [17] (.slice X b.length cx) (Go.Operand.tmp 1) (fun v => by kernel_rfl) (fun v => by kernel_rfl),
    owes_lenB 22 (some 67) [17, 21] (.int .i64 (b.length : Int)) (.tmp 66) 24 3 (.slice X b.length cx) (fun v => by kernel_rfl) (by kernel_rfl) (fun v => by kernel_rfl) (fun w => by kernel_rfl),
    owes_bin 23 (some 68) [17, 20, 22] (.bool false) Go.BinOp.lss 3 (Go.Operand.tmp 65) (Go.Operand.tmp 67) 3 (.int .i64 (M2 : Int)) (.int .i64 (b.length : Int)) (fun v => by kernel_rfl) (fun v => by kernel_rfl) (lss_false _ _ _ _ _ (by omega)),
    owes_pick 24 (some 69) [17, 23] (.bool false) (Go.Operand.tmp 62) (Go.Operand.const (Go.Value.bool true)) (Go.Operand.tmp 68) false (fun v => by kernel_rfl) (fun v => by kernel_rfl) (fun v => by kernel_rfl), trivial⟩ ?_
  intro v W7 hb' hall
  clear hall
  simp only [putsL_k, putsL_nil, List.set_cons_zero, List.set_cons_succ]
  replace hF := hF.next hb'
  have hw7 := hw6.trans (hb'.mono (by rw [← HB.out]; exact hw6.size))
  clear hb' hw6 hM1 hM2 W6
  go_wp2_with fail
  have hn0 : W7.ownsRow W7.heap.size 5 1 (.slice none 0 0) 0 [] := World.ownsRow_nil W7 _ _ _
  have hF7 := hF
  go_loopw [13, 14] (fun v i wr => ∃ k : Nat, k ≤ N ∧ i = .int .i64 k ∧ wr.ownsRow W7.heap.size 5 1 v (b.take (k * d)).length (ints .u8 (bys (b.take (k * d)))) ∧ Below W7.heap.size W7 wr) (fun _ i _ => N - (intOf i).toNat)
  case atStart => exact ⟨0, by omega, rfl, by simpa [ints, bys] using hn0, Below.refl _ _⟩
  clear hn0 hF
  case round =>
    obtain ⟨k, hkN, rfl, hown, hbr⟩ := hrel
    have hF := hF7.next hbr
    by_cases hlt : k < N
    · have hE0 : ErrsAt E wr := hE.below (by rw [HB.out]; exact hw7.trans (hbr.mono (by rw [← HB.out]; exact hw7.size)))
      obtain ⟨P, hP⟩ : ∃ P, P = pieceL b (d : Int) (k : Int) := ⟨_, rfl⟩
      have hPl : P.length ≤ 200 := by rw [hP]; exact HPLL.out k
      have hLP : (P.length : Int) + 16 = ((L k).length : Int) := by rw [HSLL.out k, hP]; omega
      have hL300 : (L k).length ≤ 300 := by omega
      have hL16 : 16 ≤ (L k).length := by omega
      have HSO : ∀ (w' : World), BkF KB key G N L As cs w' → ErrsAt E w' → ∀ (i : BitVec 32) (last : Bool), Calls Tryd.prog 18 #[.agg (arr8 32 key), v32 i, .bool last, .slice (As k) (L k).length (cs k)] w' fun e w'' => ∃ r, e = .returned r ∧ Below w'.heap.size w' w'' ∧ TupS (openGot key (nonB i last) [] (L k)).1 (errC E (openGot key (nonB i last) [] (L k)).2) r w'' := fun w' h hE i last => by
        refine (sopen_any E key i last (As k) (L k) (cs k) w' hE (h.p.rd k hlt).1 (by omega) (h.p.rd k hlt).2.1).mono ?_
        rintro e w'' ⟨v, rfl, h⟩
        obtain ⟨O, c, rfl, h2, h3⟩ := h.is
        exact ⟨_, rfl, h.b, O, c, rfl, h2, h3⟩
      have HDO : ∀ (w' : World), BkF KB key G N L As cs w' → ∀ (i : BitVec 32) (last : Bool), Calls Tryd.prog 19 #[.agg (arr8 32 key), v32 i, .bool last, .slice (As k) (L k).length (cs k)] w' fun e w'' => ∃ r, e = .returned r ∧ Below w'.heap.size w' w'' ∧ TupS (openGot key (nonB i last) [] (L k)).1 (.int .i64 ((openGot key (nonB i last) [] (L k)).2 : Int)) r w'' := fun w' h i last => by
        refine (dsopen_any key i last (As k) (L k) (cs k) w' (h.p.rd k hlt).1 (by omega) (h.p.rd k hlt).2.1).mono ?_
        rintro e w'' ⟨v, rfl, h⟩
        obtain ⟨O, c, rfl, h2, h3⟩ := h.is
        exact ⟨_, rfl, h.b, O, c, rfl, h2, h3⟩
      have HO1 : ∀ w', Below wr.heap.size wr w' → Calls Tryd.prog 18 #[.agg (arr8 32 key), v32 (BitVec.ofNat 32 k), .bool ((k : Int) == ((N : Int) - 1)), .slice (As k) (L k).length (cs k)] w' fun e w'' => ∃ r, e = .returned r ∧ Below w'.heap.size w' w'' ∧ TupS P .nilIface r w'' := fun w' hb' => by
        have h := HSO w' (hF.next hb') (hE0.below hb') (BitVec.ofNat 32 k) ((k : Int) == ((N : Int) - 1))
        rw [HGOT.out k, ← hP] at h
        exact h
      have hOc2 := openGot_long key (nonB (BitVec.ofNat 32 k) ((k : Int) != ((N : Int) - 1))) [] (L k) hL16
      have hOc3 := openGot_long key (nonB (BitVec.ofNat 32 (k + 1)) ((k : Int) == ((N : Int) - 1))) [] (L k) hL16
      have HO2 := fun (w' : World) (h : BkF KB key G N L As cs w') (hE : ErrsAt E w') => HSO w' h hE (BitVec.ofNat 32 k) ((k : Int) != ((N : Int) - 1))
      have HO3 := fun (w' : World) (h : BkF KB key G N L As cs w') (hE : ErrsAt E w') => HSO w' h hE (BitVec.ofNat 32 (k + 1)) ((k : Int) == ((N : Int) - 1))
      have HD2 := fun (w' : World) (h : BkF KB key G N L As cs w') => HDO w' h (BitVec.ofNat 32 k) ((k : Int) != ((N : Int) - 1))
      have HD3 := fun (w' : World) (h : BkF KB key G N L As cs w') => HDO w' h (BitVec.ofNat 32 (k + 1)) ((k : Int) == ((N : Int) - 1))
      generalize openGot key (nonB (BitVec.ofNat 32 k) ((k : Int) != ((N : Int) - 1))) [] (L k) = T2 at hOc2 HO2 HD2
      generalize openGot key (nonB (BitVec.ofNat 32 (k + 1)) ((k : Int) == ((N : Int) - 1))) [] (L k) = T3 at hOc3 HO3 HD3
      obtain ⟨O2, E2⟩ := T2
      obtain ⟨O3, E3⟩ := T3
      replace hOc2 : E2 = 0 ∨ E2 = 109 := by
        rcases hOc2 with h | h
        · exact .inl h
        · exact .inr (Prod.mk.inj h).2
      replace hOc3 : E3 = 0 ∨ E3 = 109 := by
        rcases hOc3 with h | h
        · exact .inl h
        · exact .inr (Prod.mk.inj h).2
      simp only at HO2 HO3 HD2 HD3
      have HJ : b.take (k * d) ++ P = b.take ((k + 1) * d) := by rw [hP]; exact HJN.out k hlt
      replace HJ := Lib.hid HJ
      have HC2 := Lib.hid hOc2
      have HC3 := Lib.hid hOc3
      have hO2 := Lib.hid HO2
      have hO3 := Lib.hid HO3
      have hD2 := Lib.hid HD2
      have hD3 := Lib.hid HD3
      clear HSO HDO hP hOc2 hOc3 HO2 HO3 HD2 HD3
      go_upto_region 16 with (fail)
      refine wp_region_spec [Sp.k 0 (some 76) [] (.agg (arr8 32 key)),
        Sp.k 1 (some 77) [] (.int .i64 ((k : Nat) : Int)),
        Sp.k 2 (some 78) [1] (v32 (BitVec.ofNat 32 k)),
        Sp.k 3 (some 79) [] (.int .i64 ((k : Nat) : Int)),
        Sp.k 4 (some 80) [] (.int .i64 (N : Int)),
        Sp.k 5 (some 81) [4] (.int .i64 ((N : Int) - 1)),
        Sp.k 6 (some 82) [3, 5] (.bool ((k : Int) == ((N : Int) - 1))),
        Sp.k 7 (some 83) [] (.slice (some ⟨G, 0, none⟩) N N),
        Sp.k 8 (some 84) [] (.int .i64 ((k : Nat) : Int)),
        Sp.k 9 (some 85) [7, 8] (.pointer (some ⟨G, 0 + k, none⟩)),
        Sp.k 10 (some 86) [9] (.slice (As k) (L k).length (cs k)),
        Sp.o 11 (some 87) [0, 2, 6, 10] (TupS (P) (.nilIface)),
        Sp.o 12 (some 75) [11] (TupS (P) (.nilIface)),
        Sp.o 13 (some 88) [12] (SlIsA (P)),
        Sp.o 14 (some 89) [12] (fun y _ => y = .nilIface),
        Sp.o 15 (some 15) [13] (SlIsA (P)),
        Sp.o 16 (some 16) [14] (fun y _ => y = .nilIface)] (by kernel_rfl) (by kernel_rfl)
        ⟨owes_load 0 (some 76) [] (.agg (arr8 32 key)) 23 (Go.Operand.tmp 10) (.pointer (some ⟨KB, 0, none⟩)) (fun v => by kernel_rfl) (fun v => by kernel_rfl) (fun w' hb => key_load (hF.next (drB hb)).k),
        owes_move 1 (some 77) [] (.int .i64 ((k : Nat) : Int)) (Go.Operand.tmp 14) (fun v => by kernel_rfl) (fun v => by kernel_rfl),
        owes_cvt 2 (some 78) [1] (v32 (BitVec.ofNat 32 k)) 3 25 (Go.Operand.tmp 77) (.int .i64 ((k : Nat) : Int)) (fun v => by kernel_rfl) (fun v => by kernel_rfl) (cvt_u32 k),
        owes_move 3 (some 79) [] (.int .i64 ((k : Nat) : Int)) (Go.Operand.tmp 14) (fun v => by kernel_rfl) (fun v => by kernel_rfl),
        owes_move 4 (some 80) [] (.int .i64 (N : Int)) (Go.Operand.tmp 12) (fun v => by kernel_rfl) (fun v => by kernel_rfl),
        owes_bin 5 (some 81) [4] (.int .i64 ((N : Int) - 1)) Go.BinOp.sub 3 (Go.Operand.tmp 80) (Go.Operand.const (Go.Value.int Go.IntKind.i64 1)) 3 (.int .i64 (N : Int)) (Go.Value.int Go.IntKind.i64 1) (fun v => by kernel_rfl) (fun v => by kernel_rfl) (sub_i64A _ _ _ _ _ _ rfl (by omega) (by omega)),
        owes_bin 6 (some 82) [3, 5] (.bool ((k : Int) == ((N : Int) - 1))) Go.BinOp.eql 3 (Go.Operand.tmp 79) (Go.Operand.tmp 81) 3 (.int .i64 ((k : Nat) : Int)) (.int .i64 ((N : Int) - 1)) (fun v => by kernel_rfl) (fun v => by kernel_rfl) (eq_i64 _ _ _ _ _),
        owes_move 7 (some 83) [] (.slice (some ⟨G, 0, none⟩) N N) (Go.Operand.tmp 11) (fun v => by kernel_rfl) (fun v => by kernel_rfl),
        owes_move 8 (some 84) [] (.int .i64 ((k : Nat) : Int)) (Go.Operand.tmp 14) (fun v => by kernel_rfl) (fun v => by kernel_rfl),
        owes_index 9 (some 85) [7, 8] (.pointer (some ⟨G, 0 + k, none⟩)) 28 (Go.Operand.tmp 83) (Go.Operand.tmp 84) (.slice (some ⟨G, 0, none⟩) N N) (.int .i64 ((k : Nat) : Int)) (fun v => by kernel_rfl) (fun v => by kernel_rfl) (idx_sl (P := Tryd.prog) Tryd.underlying28 (show (Tryd.prog.info? 24).map (·.size) = some 1 by kernel_rfl) G 0 N N k hlt),
        owes_load 10 (some 86) [9] (.slice (As k) (L k).length (cs k)) 24 (Go.Operand.tmp 85) (.pointer (some ⟨G, 0 + k, none⟩)) (fun v => by kernel_rfl) (fun v => by kernel_rfl) (fun w' hb => slc_load _ _ _ w' ((hF.next (drB hb)).cell hlt)),
        owes_call_o 11 (some 87) [0, 2, 6, 10] (TupS (P) (.nilIface)) 18 #[Go.Operand.tmp 76, Go.Operand.tmp 78, Go.Operand.tmp 82, Go.Operand.tmp 86] #[23, 25, 4, 24] (fun v => by kernel_rfl) (fun _ _ => by kernel_rfl) TupS.mono (fun v w' hb ho => by
            exact ⟨#[.agg (arr8 32 key), v32 (BitVec.ofNat 32 k), .bool ((k : Int) == ((N : Int) - 1)), .slice (As k) (L k).length (cs k)], by kernel_rfl, (HO1 w' (drB hb)).mono (fun _ _ h => h)⟩),
        owes_move_o 12 (some 75) [11] (TupS (P) (.nilIface)) (Go.Operand.tmp 87) 11 (fun v => by kernel_rfl) TupS.mono (fun v => by kernel_rfl) (fun v w' hb ho => ho.get 11 _ _ (TupS (P) (.nilIface)) rfl rfl),
        owes_extract_o 13 (some 88) [12] (SlIsA (P)) (.tmp 75) 0 (fun v => by kernel_rfl) SlIsA.mono (fun v w' hb ho => by
              obtain ⟨O, c, e, l, q⟩ := ho.get 12 _ _ (TupS (P) (.nilIface)) rfl rfl
              exact ⟨#[.slice O (P).length c, .nilIface], _, Eq.trans (b := v 12) (by kernel_rfl) e, by kernel_rfl, O, c, rfl, l, q⟩),
        owes_extract_o 14 (some 89) [12] (fun y _ => y = .nilIface) (.tmp 75) 1 (fun v => by kernel_rfl) (fun _ _ _ h _ => h) (fun v w' hb ho => by
              obtain ⟨O, c, e, l, q⟩ := ho.get 12 _ _ (TupS (P) (.nilIface)) rfl rfl
              exact ⟨#[.slice O (P).length c, .nilIface], _, Eq.trans (b := v 12) (by kernel_rfl) e, by kernel_rfl, rfl⟩),
        owes_assign_o 15 (some 15) [13] (SlIsA (P)) (Go.Operand.tmp 88) 13 (fun v => by kernel_rfl) SlIsA.mono (fun v => by kernel_rfl) (fun v w' hb ho => ho.get 13 _ _ (SlIsA (P)) rfl rfl),
        owes_assign_o 16 (some 16) [14] (fun y _ => y = .nilIface) (Go.Operand.tmp 89) 14 (fun v => by kernel_rfl) (fun _ _ _ h _ => h) (fun v => by kernel_rfl) (fun v w' hb ho => ho.get 14 _ _ (fun y _ => y = .nilIface) rfl rfl), trivial⟩ ?_
      intro v w1 hb' hall
      obtain ⟨A15, c15, e15, l15, r15⟩ := hall.open_ 15 _ _ (SlIsA (P)) rfl
      have e16 : v 16 = .nilIface := hall.open_ 16 _ _ (fun y _ => y = .nilIface) rfl
      clear hall
      simp only [putsL_k, putsL_o, putsL_nil, List.set_cons_zero, List.set_cons_succ]
      rw [e15, e16]
      clear e15 e16
      replace hb' := drB hb'
      replace hF := hF.next hb'
      replace hbr := hbr.trans (hb'.mono hbr.size)
      replace hE0 := hE0.below hb'
      replace hown := ownsRow_via hown (fun g _ hlt => hb'.block g hlt)
      clear hb'
      clear HO1
      go_upto_region 17 with (fail)
      refine wp_region_text [Sp.k 0 (some 90) [] (.nilIface),
        Sp.k 1 (some 91) [0] (.bool false),
        Sp.k 2 (some 92) [1] (.bool false),
        Sp.k 3 (some 93) [2] (.slice (some ⟨G, 0, none⟩) N N),
        Sp.k 4 (some 94) [2] (.int .i64 ((k : Nat) : Int)),
        Sp.k 5 (some 95) [2, 3, 4] (.pointer (some ⟨G, 0 + k, none⟩)),
        Sp.k 6 (some 96) [2, 5] (.slice (As k) (L k).length (cs k)),
        Sp.k 7 (some 97) [2, 6] (.int .i64 ((L k).length : Int)),
        Sp.k 8 (some 98) [2] (.slice A15 P.length c15),
        Sp.k 9 (some 99) [2, 8] (.int .i64 (P.length : Int)),
        Sp.k 10 (some 100) [2, 9] (.int .i64 ((L k).length : Int)),
        Sp.k 11 (some 101) [2, 7, 10] (.bool false),
        Sp.k 12 (some 102) [2, 11] (.bool false)] (by kernel_rfl)
        ⟨owes_move 0 (some 90) [] (.nilIface) (Go.Operand.tmp 16) (fun v => by kernel_rfl) (fun v => by kernel_rfl),
        owes_bin 1 (some 91) [0] (.bool false) Go.BinOp.neq 35 (Go.Operand.tmp 90) (Go.Operand.const Go.Value.nilIface) 35 (.nilIface) (Go.Value.nilIface) (fun v => by kernel_rfl) (fun v => by kernel_rfl) (fun w => by kernel_rfl),
        owes_move 2 (some 92) [1] (.bool false) (Go.Operand.tmp 91) (fun v => by kernel_rfl) (fun v => by kernel_rfl),
        owes_move 3 (some 93) [2] (.slice (some ⟨G, 0, none⟩) N N) (Go.Operand.tmp 11) (fun v => by kernel_rfl) (fun v => by kernel_rfl),
        owes_move 4 (some 94) [2] (.int .i64 ((k : Nat) : Int)) (Go.Operand.tmp 14) (fun v => by kernel_rfl) (fun v => by kernel_rfl),
        owes_index 5 (some 95) [2, 3, 4] (.pointer (some ⟨G, 0 + k, none⟩)) 28 (Go.Operand.tmp 93) (Go.Operand.tmp 94) (.slice (some ⟨G, 0, none⟩) N N) (.int .i64 ((k : Nat) : Int)) (fun v => by kernel_rfl) (fun v => by kernel_rfl) (idx_sl (P := Tryd.prog) Tryd.underlying28 (show (Tryd.prog.info? 24).map (·.size) = some 1 by kernel_rfl) G 0 N N k hlt),
        owes_load 6 (some 96) [2, 5] (.slice (As k) (L k).length (cs k)) 24 (Go.Operand.tmp 95) (.pointer (some ⟨G, 0 + k, none⟩)) (fun v => by kernel_rfl) (fun v => by kernel_rfl) (fun w' hb => slc_load _ _ _ w' ((hF.next hb).cell hlt)),
        owes_lenB 7 (some 97) [2, 6] (.int .i64 ((L k).length : Int)) (.tmp 96) 24 3 (.slice (As k) (L k).length (cs k)) (fun v => by kernel_rfl) (by kernel_rfl) (fun v => by kernel_rfl) (fun w => by kernel_rfl),
        owes_move 8 (some 98) [2] (.slice A15 P.length c15) (Go.Operand.tmp 15) (fun v => by kernel_rfl) (fun v => by kernel_rfl),
        owes_lenB 9 (some 99) [2, 8] (.int .i64 (P.length : Int)) (.tmp 98) 24 3 (.slice A15 P.length c15) (fun v => by kernel_rfl) (by kernel_rfl) (fun v => by kernel_rfl) (fun w => by kernel_rfl),
        owes_bin 10 (some 100) [2, 9] (.int .i64 ((L k).length : Int)) Go.BinOp.add 3 (Go.Operand.tmp 99) (Go.Operand.const (Go.Value.int Go.IntKind.i64 16)) 3 (.int .i64 (P.length : Int)) (Go.Value.int Go.IntKind.i64 16) (fun v => by kernel_rfl) (fun v => by kernel_rfl) (add_i64 _ _ _ _ _ _ hLP (by omega) (by omega)),
        owes_bin 11 (some 101) [2, 7, 10] (.bool false) Go.BinOp.neq 3 (Go.Operand.tmp 97) (Go.Operand.tmp 100) 3 (.int .i64 ((L k).length : Int)) (.int .i64 ((L k).length : Int)) (fun v => by kernel_rfl) (fun v => by kernel_rfl) (neq_i64s _ _ _ _),
        owes_pick 12 (some 102) [2, 11] (.bool false) (Go.Operand.tmp 92) (Go.Operand.const (Go.Value.bool true)) (Go.Operand.tmp 101) false (fun v => by kernel_rfl) (fun v => by kernel_rfl) (fun v => by kernel_rfl), trivial⟩ ?_
      intro v w2 hb' hall
      clear hall
      simp only [putsL_k, putsL_nil, List.set_cons_zero, List.set_cons_succ]
      replace hF := hF.next hb'
      replace hbr := hbr.trans (hb'.mono hbr.size)
      replace hE0 := hE0.below hb'
      replace hown := ownsRow_via hown (fun g _ hlt => hb'.block g hlt)
      replace r15 := r15.below hb'
      clear hb' wr w1
      obtain ⟨xs, hxs⟩ : ∃ xs, xs = b.take (k * d) := ⟨_, rfl⟩
      rw [← hxs] at hown HJ
      have hle : xs.length + P.length ≤ 140737488352000 := by rw [hxs, List.length_take]; omega
      obtain ⟨Ao, co, rfl, hco⟩ := ownsRow_form hown
      have hbs := hbr.size
      have hown0 := hown
      clear hxs
      go_upto_region 20 with (at_builtin; refine push_many rfl _ _ rfl w2 W7.heap.size (.slice Ao xs.length co) xs A15 P c15 rfl rfl hown r15 hbs hle ?_; intro v' w3 hown1 hb1 hg1 hg2; clear hg1 hg2)
      replace hbr := hbr.trans hb1
      replace hF := hF7.next hbr
      replace hE0 : ErrsAt E w3 := hE.below (by rw [HB.out]; exact hw7.trans (hbr.mono (by rw [← HB.out]; exact hw7.size)))
      clear hown hown0 hb1 hle r15 l15 hbs w2
      have hown := hown1
      clear hown1
      have HO2 : ∀ w', Below w3.heap.size w3 w' → _ := fun w' hb' => hO2.out w' (hF.next hb') (hE0.below hb')
      refine wp_region_spec [Sp.k 0 (some 107) [] (.agg (arr8 32 key)),
        Sp.k 1 (some 108) [] (.int .i64 ((k : Nat) : Int)),
        Sp.k 2 (some 109) [1] (v32 (BitVec.ofNat 32 k)),
        Sp.k 3 (some 110) [] (.int .i64 ((k : Nat) : Int)),
        Sp.k 4 (some 111) [] (.int .i64 (N : Int)),
        Sp.k 5 (some 112) [4] (.int .i64 ((N : Int) - 1)),
        Sp.k 6 (some 113) [3, 5] (.bool ((k : Int) != ((N : Int) - 1))),
        Sp.k 7 (some 114) [] (.slice (some ⟨G, 0, none⟩) N N),
        Sp.k 8 (some 115) [] (.int .i64 ((k : Nat) : Int)),
        Sp.k 9 (some 116) [7, 8] (.pointer (some ⟨G, 0 + k, none⟩)),
        Sp.k 10 (some 117) [9] (.slice (As k) (L k).length (cs k)),
        Sp.o 11 (some 118) [0, 2, 6, 10] (TupS (O2) (errC E E2)),
        Sp.o 12 (some 106) [11] (TupS (O2) (errC E E2)),
        Sp.o 13 (some 119) [12] (SlIsA (O2)),
        Sp.o 14 (some 120) [12] (fun y _ => y = errC E E2),
        Sp.o 15 (some 17) [13] (SlIsA (O2)),
        Sp.o 16 (some 18) [14] (fun y _ => y = errC E E2)] (by kernel_rfl) (by kernel_rfl)
        ⟨owes_load 0 (some 107) [] (.agg (arr8 32 key)) 23 (Go.Operand.tmp 10) (.pointer (some ⟨KB, 0, none⟩)) (fun v => by kernel_rfl) (fun v => by kernel_rfl) (fun w' hb => key_load (hF.next (drB hb)).k),
        owes_move 1 (some 108) [] (.int .i64 ((k : Nat) : Int)) (Go.Operand.tmp 14) (fun v => by kernel_rfl) (fun v => by kernel_rfl),
        owes_cvt 2 (some 109) [1] (v32 (BitVec.ofNat 32 k)) 3 25 (Go.Operand.tmp 108) (.int .i64 ((k : Nat) : Int)) (fun v => by kernel_rfl) (fun v => by kernel_rfl) (cvt_u32 k),
        owes_move 3 (some 110) [] (.int .i64 ((k : Nat) : Int)) (Go.Operand.tmp 14) (fun v => by kernel_rfl) (fun v => by kernel_rfl),
        owes_move 4 (some 111) [] (.int .i64 (N : Int)) (Go.Operand.tmp 12) (fun v => by kernel_rfl) (fun v => by kernel_rfl),
        owes_bin 5 (some 112) [4] (.int .i64 ((N : Int) - 1)) Go.BinOp.sub 3 (Go.Operand.tmp 111) (Go.Operand.const (Go.Value.int Go.IntKind.i64 1)) 3 (.int .i64 (N : Int)) (Go.Value.int Go.IntKind.i64 1) (fun v => by kernel_rfl) (fun v => by kernel_rfl) (sub_i64A _ _ _ _ _ _ rfl (by omega) (by omega)),
        owes_bin 6 (some 113) [3, 5] (.bool ((k : Int) != ((N : Int) - 1))) Go.BinOp.neq 3 (Go.Operand.tmp 110) (Go.Operand.tmp 112) 3 (.int .i64 ((k : Nat) : Int)) (.int .i64 ((N : Int) - 1)) (fun v => by kernel_rfl) (fun v => by kernel_rfl) (neq_i64g _ _ _ _ _),
        owes_move 7 (some 114) [] (.slice (some ⟨G, 0, none⟩) N N) (Go.Operand.tmp 11) (fun v => by kernel_rfl) (fun v => by kernel_rfl),
        owes_move 8 (some 115) [] (.int .i64 ((k : Nat) : Int)) (Go.Operand.tmp 14) (fun v => by kernel_rfl) (fun v => by kernel_rfl),
        owes_index 9 (some 116) [7, 8] (.pointer (some ⟨G, 0 + k, none⟩)) 28 (Go.Operand.tmp 114) (Go.Operand.tmp 115) (.slice (some ⟨G, 0, none⟩) N N) (.int .i64 ((k : Nat) : Int)) (fun v => by kernel_rfl) (fun v => by kernel_rfl) (idx_sl (P := Tryd.prog) Tryd.underlying28 (show (Tryd.prog.info? 24).map (·.size) = some 1 by kernel_rfl) G 0 N N k hlt),
        owes_load 10 (some 117) [9] (.slice (As k) (L k).length (cs k)) 24 (Go.Operand.tmp 116) (.pointer (some ⟨G, 0 + k, none⟩)) (fun v => by kernel_rfl) (fun v => by kernel_rfl) (fun w' hb => slc_load _ _ _ w' ((hF.next (drB hb)).cell hlt)),
        owes_call_o 11 (some 118) [0, 2, 6, 10] (TupS (O2) (errC E E2)) 18 #[Go.Operand.tmp 107, Go.Operand.tmp 109, Go.Operand.tmp 113, Go.Operand.tmp 117] #[23, 25, 4, 24] (fun v => by kernel_rfl) (fun _ _ => by kernel_rfl) TupS.mono (fun v w' hb ho => by
            exact ⟨#[.agg (arr8 32 key), v32 (BitVec.ofNat 32 k), .bool ((k : Int) != ((N : Int) - 1)), .slice (As k) (L k).length (cs k)], by kernel_rfl, (HO2 w' (drB hb)).mono (fun _ _ h => h)⟩),
        owes_move_o 12 (some 106) [11] (TupS (O2) (errC E E2)) (Go.Operand.tmp 118) 11 (fun v => by kernel_rfl) TupS.mono (fun v => by kernel_rfl) (fun v w' hb ho => ho.get 11 _ _ (TupS (O2) (errC E E2)) rfl rfl),
        owes_extract_o 13 (some 119) [12] (SlIsA (O2)) (.tmp 106) 0 (fun v => by kernel_rfl) SlIsA.mono (fun v w' hb ho => by
              obtain ⟨O, c, e, l, q⟩ := ho.get 12 _ _ (TupS (O2) (errC E E2)) rfl rfl
              exact ⟨#[.slice O (O2).length c, errC E E2], _, Eq.trans (b := v 12) (by kernel_rfl) e, by kernel_rfl, O, c, rfl, l, q⟩),
        owes_extract_o 14 (some 120) [12] (fun y _ => y = errC E E2) (.tmp 106) 1 (fun v => by kernel_rfl) (fun _ _ _ h _ => h) (fun v w' hb ho => by
              obtain ⟨O, c, e, l, q⟩ := ho.get 12 _ _ (TupS (O2) (errC E E2)) rfl rfl
              exact ⟨#[.slice O (O2).length c, errC E E2], _, Eq.trans (b := v 12) (by kernel_rfl) e, by kernel_rfl, rfl⟩),
        owes_assign_o 15 (some 17) [13] (SlIsA (O2)) (Go.Operand.tmp 119) 13 (fun v => by kernel_rfl) SlIsA.mono (fun v => by kernel_rfl) (fun v w' hb ho => ho.get 13 _ _ (SlIsA (O2)) rfl rfl),
        owes_assign_o 16 (some 18) [14] (fun y _ => y = errC E E2) (Go.Operand.tmp 120) 14 (fun v => by kernel_rfl) (fun _ _ _ h _ => h) (fun v => by kernel_rfl) (fun v w' hb ho => ho.get 14 _ _ (fun y _ => y = errC E E2) rfl rfl), trivial⟩ ?_
      intro v w4 hb' hall
      obtain ⟨A15, c15, e15, l15, r15⟩ := hall.open_ 15 _ _ (SlIsA (O2)) rfl
      have e16 : v 16 = errC E E2 := hall.open_ 16 _ _ (fun y _ => y = errC E E2) rfl
      clear hall
      simp only [putsL_k, putsL_o, putsL_nil, List.set_cons_zero, List.set_cons_succ]
      rw [e15, e16]
      clear e15 e16
      replace hb' := drB hb'
      replace hF := hF.next hb'
      replace hbr := hbr.trans (hb'.mono hbr.size)
      replace hE0 := hE0.below hb'
      replace hown := ownsRow_via hown (fun g _ hlt => hb'.block g hlt)
      clear hb'
      clear HO2 hO2 r15 l15 w3
      have HO3 : ∀ w', Below w4.heap.size w4 w' → _ := fun w' hb' => hO3.out w' (hF.next hb') (hE0.below hb')
      go_upto_region 21 with (fail)
      refine wp_region_spec [Sp.k 0 (some 122) [] (.agg (arr8 32 key)),
        Sp.k 1 (some 123) [] (.int .i64 ((k : Nat) : Int)),
        Sp.k 2 (some 124) [1] (.int .i64 ((k + 1 : Nat) : Int)),
        Sp.k 3 (some 125) [2] (v32 (BitVec.ofNat 32 (k + 1))),
        Sp.k 4 (some 126) [] (.int .i64 ((k : Nat) : Int)),
        Sp.k 5 (some 127) [] (.int .i64 (N : Int)),
        Sp.k 6 (some 128) [5] (.int .i64 ((N : Int) - 1)),
        Sp.k 7 (some 129) [4, 6] (.bool ((k : Int) == ((N : Int) - 1))),
        Sp.k 8 (some 130) [] (.slice (some ⟨G, 0, none⟩) N N),
        Sp.k 9 (some 131) [] (.int .i64 ((k : Nat) : Int)),
        Sp.k 10 (some 132) [8, 9] (.pointer (some ⟨G, 0 + k, none⟩)),
        Sp.k 11 (some 133) [10] (.slice (As k) (L k).length (cs k)),
        Sp.o 12 (some 134) [0, 3, 7, 11] (TupS (O3) (errC E E3)),
        Sp.o 13 (some 121) [12] (TupS (O3) (errC E E3)),
        Sp.o 14 (some 135) [13] (SlIsA (O3)),
        Sp.o 15 (some 136) [13] (fun y _ => y = errC E E3),
        Sp.o 16 (some 19) [14] (SlIsA (O3)),
        Sp.o 17 (some 20) [15] (fun y _ => y = errC E E3)] (by kernel_rfl) (by kernel_rfl)
        ⟨owes_load 0 (some 122) [] (.agg (arr8 32 key)) 23 (Go.Operand.tmp 10) (.pointer (some ⟨KB, 0, none⟩)) (fun v => by kernel_rfl) (fun v => by kernel_rfl) (fun w' hb => key_load (hF.next (drB hb)).k),
        owes_move 1 (some 123) [] (.int .i64 ((k : Nat) : Int)) (Go.Operand.tmp 14) (fun v => by kernel_rfl) (fun v => by kernel_rfl),
        owes_bin 2 (some 124) [1] (.int .i64 ((k + 1 : Nat) : Int)) Go.BinOp.add 3 (Go.Operand.tmp 123) (Go.Operand.const (Go.Value.int Go.IntKind.i64 1)) 3 (.int .i64 ((k : Nat) : Int)) (Go.Value.int Go.IntKind.i64 1) (fun v => by kernel_rfl) (fun v => by kernel_rfl) (add_i64 _ _ _ _ _ _ (by omega) (by omega) (by omega)),
        owes_cvt 3 (some 125) [2] (v32 (BitVec.ofNat 32 (k + 1))) 3 25 (Go.Operand.tmp 124) (.int .i64 ((k + 1 : Nat) : Int)) (fun v => by kernel_rfl) (fun v => by kernel_rfl) (cvt_u32 (k + 1)),
        owes_move 4 (some 126) [] (.int .i64 ((k : Nat) : Int)) (Go.Operand.tmp 14) (fun v => by kernel_rfl) (fun v => by kernel_rfl),
        owes_move 5 (some 127) [] (.int .i64 (N : Int)) (Go.Operand.tmp 12) (fun v => by kernel_rfl) (fun v => by kernel_rfl),
        owes_bin 6 (some 128) [5] (.int .i64 ((N : Int) - 1)) Go.BinOp.sub 3 (Go.Operand.tmp 127) (Go.Operand.const (Go.Value.int Go.IntKind.i64 1)) 3 (.int .i64 (N : Int)) (Go.Value.int Go.IntKind.i64 1) (fun v => by kernel_rfl) (fun v => by kernel_rfl) (sub_i64A _ _ _ _ _ _ rfl (by omega) (by omega)),
        owes_bin 7 (some 129) [4, 6] (.bool ((k : Int) == ((N : Int) - 1))) Go.BinOp.eql 3 (Go.Operand.tmp 126) (Go.Operand.tmp 128) 3 (.int .i64 ((k : Nat) : Int)) (.int .i64 ((N : Int) - 1)) (fun v => by kernel_rfl) (fun v => by kernel_rfl) (eq_i64 _ _ _ _ _),
        owes_move 8 (some 130) [] (.slice (some ⟨G, 0, none⟩) N N) (Go.Operand.tmp 11) (fun v => by kernel_rfl) (fun v => by kernel_rfl),
        owes_move 9 (some 131) [] (.int .i64 ((k : Nat) : Int)) (Go.Operand.tmp 14) (fun v => by kernel_rfl) (fun v => by kernel_rfl),
        owes_index 10 (some 132) [8, 9] (.pointer (some ⟨G, 0 + k, none⟩)) 28 (Go.Operand.tmp 130) (Go.Operand.tmp 131) (.slice (some ⟨G, 0, none⟩) N N) (.int .i64 ((k : Nat) : Int)) (fun v => by kernel_rfl) (fun v => by kernel_rfl) (idx_sl (P := Tryd.prog) Tryd.underlying28 (show (Tryd.prog.info? 24).map (·.size) = some 1 by kernel_rfl) G 0 N N k hlt),
        owes_load 11 (some 133) [10] (.slice (As k) (L k).length (cs k)) 24 (Go.Operand.tmp 132) (.pointer (some ⟨G, 0 + k, none⟩)) (fun v => by kernel_rfl) (fun v => by kernel_rfl) (fun w' hb => slc_load _ _ _ w' ((hF.next (drB hb)).cell hlt)),
        owes_call_o 12 (some 134) [0, 3, 7, 11] (TupS (O3) (errC E E3)) 18 #[Go.Operand.tmp 122, Go.Operand.tmp 125, Go.Operand.tmp 129, Go.Operand.tmp 133] #[23, 25, 4, 24] (fun v => by kernel_rfl) (fun _ _ => by kernel_rfl) TupS.mono (fun v w' hb ho => by
            exact ⟨#[.agg (arr8 32 key), v32 (BitVec.ofNat 32 (k + 1)), .bool ((k : Int) == ((N : Int) - 1)), .slice (As k) (L k).length (cs k)], by kernel_rfl, (HO3 w' (drB hb)).mono (fun _ _ h => h)⟩),
        owes_move_o 13 (some 121) [12] (TupS (O3) (errC E E3)) (Go.Operand.tmp 134) 12 (fun v => by kernel_rfl) TupS.mono (fun v => by kernel_rfl) (fun v w' hb ho => ho.get 12 _ _ (TupS (O3) (errC E E3)) rfl rfl),
        owes_extract_o 14 (some 135) [13] (SlIsA (O3)) (.tmp 121) 0 (fun v => by kernel_rfl) SlIsA.mono (fun v w' hb ho => by
              obtain ⟨O, c, e, l, q⟩ := ho.get 13 _ _ (TupS (O3) (errC E E3)) rfl rfl
              exact ⟨#[.slice O (O3).length c, errC E E3], _, Eq.trans (b := v 13) (by kernel_rfl) e, by kernel_rfl, O, c, rfl, l, q⟩),
        owes_extract_o 15 (some 136) [13] (fun y _ => y = errC E E3) (.tmp 121) 1 (fun v => by kernel_rfl) (fun _ _ _ h _ => h) (fun v w' hb ho => by
              obtain ⟨O, c, e, l, q⟩ := ho.get 13 _ _ (TupS (O3) (errC E E3)) rfl rfl
              exact ⟨#[.slice O (O3).length c, errC E E3], _, Eq.trans (b := v 13) (by kernel_rfl) e, by kernel_rfl, rfl⟩),
        owes_assign_o 16 (some 19) [14] (SlIsA (O3)) (Go.Operand.tmp 135) 14 (fun v => by kernel_rfl) SlIsA.mono (fun v => by kernel_rfl) (fun v w' hb ho => ho.get 14 _ _ (SlIsA (O3)) rfl rfl),
        owes_assign_o 17 (some 20) [15] (fun y _ => y = errC E E3) (Go.Operand.tmp 136) 15 (fun v => by kernel_rfl) (fun _ _ _ h _ => h) (fun v => by kernel_rfl) (fun v w' hb ho => ho.get 15 _ _ (fun y _ => y = errC E E3) rfl rfl), trivial⟩ ?_
      intro v w5 hb' hall
      obtain ⟨A16, c16, e16, l16, r16⟩ := hall.open_ 16 _ _ (SlIsA (O3)) rfl
      have e17 : v 17 = errC E E3 := hall.open_ 17 _ _ (fun y _ => y = errC E E3) rfl
      clear hall
      simp only [putsL_k, putsL_o, putsL_nil, List.set_cons_zero, List.set_cons_succ]
      rw [e16, e17]
      clear e16 e17
      replace hb' := drB hb'
      replace hF := hF.next hb'
      replace hbr := hbr.trans (hb'.mono hbr.size)
      replace hE0 := hE0.below hb'
      replace hown := ownsRow_via hown (fun g _ hlt => hb'.block g hlt)
      clear hb'
      clear HO3 hO3 r16 l16 w4
      have HD2 : ∀ w', Below w5.heap.size w5 w' → _ := fun w' hb' => hD2.out w' (hF.next hb')
      go_upto_region 22 with (fail)
      refine wp_region_spec [Sp.k 0 (some 138) [] (.agg (arr8 32 key)),
        Sp.k 1 (some 139) [] (.int .i64 ((k : Nat) : Int)),
        Sp.k 2 (some 140) [1] (v32 (BitVec.ofNat 32 k)),
        Sp.k 3 (some 141) [] (.int .i64 ((k : Nat) : Int)),
        Sp.k 4 (some 142) [] (.int .i64 (N : Int)),
        Sp.k 5 (some 143) [4] (.int .i64 ((N : Int) - 1)),
        Sp.k 6 (some 144) [3, 5] (.bool ((k : Int) != ((N : Int) - 1))),
        Sp.k 7 (some 145) [] (.slice (some ⟨G, 0, none⟩) N N),
        Sp.k 8 (some 146) [] (.int .i64 ((k : Nat) : Int)),
        Sp.k 9 (some 147) [7, 8] (.pointer (some ⟨G, 0 + k, none⟩)),
        Sp.k 10 (some 148) [9] (.slice (As k) (L k).length (cs k)),
        Sp.o 11 (some 149) [0, 2, 6, 10] (TupS (O2) (.int .i64 (E2 : Int))),
        Sp.o 12 (some 137) [11] (TupS (O2) (.int .i64 (E2 : Int))),
        Sp.o 13 (some 150) [12] (SlIsA (O2)),
        Sp.o 14 (some 151) [12] (fun y _ => y = .int .i64 (E2 : Int)),
        Sp.o 15 (some 21) [13] (SlIsA (O2)),
        Sp.o 16 (some 22) [14] (fun y _ => y = .int .i64 (E2 : Int))] (by kernel_rfl) (by kernel_rfl)
        ⟨owes_load 0 (some 138) [] (.agg (arr8 32 key)) 23 (Go.Operand.tmp 10) (.pointer (some ⟨KB, 0, none⟩)) (fun v => by kernel_rfl) (fun v => by kernel_rfl) (fun w' hb => key_load (hF.next (drB hb)).k),
        owes_move 1 (some 139) [] (.int .i64 ((k : Nat) : Int)) (Go.Operand.tmp 14) (fun v => by kernel_rfl) (fun v => by kernel_rfl),
        owes_cvt 2 (some 140) [1] (v32 (BitVec.ofNat 32 k)) 3 25 (Go.Operand.tmp 139) (.int .i64 ((k : Nat) : Int)) (fun v => by kernel_rfl) (fun v => by kernel_rfl) (cvt_u32 k),
        owes_move 3 (some 141) [] (.int .i64 ((k : Nat) : Int)) (Go.Operand.tmp 14) (fun v => by kernel_rfl) (fun v => by kernel_rfl),
        owes_move 4 (some 142) [] (.int .i64 (N : Int)) (Go.Operand.tmp 12) (fun v => by kernel_rfl) (fun v => by kernel_rfl),
        owes_bin 5 (some 143) [4] (.int .i64 ((N : Int) - 1)) Go.BinOp.sub 3 (Go.Operand.tmp 142) (Go.Operand.const (Go.Value.int Go.IntKind.i64 1)) 3 (.int .i64 (N : Int)) (Go.Value.int Go.IntKind.i64 1) (fun v => by kernel_rfl) (fun v => by kernel_rfl) (sub_i64A _ _ _ _ _ _ rfl (by omega) (by omega)),
        owes_bin 6 (some 144) [3, 5] (.bool ((k : Int) != ((N : Int) - 1))) Go.BinOp.neq 3 (Go.Operand.tmp 141) (Go.Operand.tmp 143) 3 (.int .i64 ((k : Nat) : Int)) (.int .i64 ((N : Int) - 1)) (fun v => by kernel_rfl) (fun v => by kernel_rfl) (neq_i64g _ _ _ _ _),
        owes_move 7 (some 145) [] (.slice (some ⟨G, 0, none⟩) N N) (Go.Operand.tmp 11) (fun v => by kernel_rfl) (fun v => by kernel_rfl),
        owes_move 8 (some 146) [] (.int .i64 ((k : Nat) : Int)) (Go.Operand.tmp 14) (fun v => by kernel_rfl) (fun v => by kernel_rfl),
        owes_index 9 (some 147) [7, 8] (.pointer (some ⟨G, 0 + k, none⟩)) 28 (Go.Operand.tmp 145) (Go.Operand.tmp 146) (.slice (some ⟨G, 0, none⟩) N N) (.int .i64 ((k : Nat) : Int)) (fun v => by kernel_rfl) (fun v => by kernel_rfl) (idx_sl (P := Tryd.prog) Tryd.underlying28 (show (Tryd.prog.info? 24).map (·.size) = some 1 by kernel_rfl) G 0 N N k hlt),
        owes_load 10 (some 148) [9] (.slice (As k) (L k).length (cs k)) 24 (Go.Operand.tmp 147) (.pointer (some ⟨G, 0 + k, none⟩)) (fun v => by kernel_rfl) (fun v => by kernel_rfl) (fun w' hb => slc_load _ _ _ w' ((hF.next (drB hb)).cell hlt)),
        owes_call_o 11 (some 149) [0, 2, 6, 10] (TupS (O2) (.int .i64 (E2 : Int))) 19 #[Go.Operand.tmp 138, Go.Operand.tmp 140, Go.Operand.tmp 144, Go.Operand.tmp 148] #[23, 25, 4, 24] (fun v => by kernel_rfl) (fun _ _ => by kernel_rfl) TupS.mono (fun v w' hb ho => by
            exact ⟨#[.agg (arr8 32 key), v32 (BitVec.ofNat 32 k), .bool ((k : Int) != ((N : Int) - 1)), .slice (As k) (L k).length (cs k)], by kernel_rfl, (HD2 w' (drB hb)).mono (fun _ _ h => h)⟩),
        owes_move_o 12 (some 137) [11] (TupS (O2) (.int .i64 (E2 : Int))) (Go.Operand.tmp 149) 11 (fun v => by kernel_rfl) TupS.mono (fun v => by kernel_rfl) (fun v w' hb ho => ho.get 11 _ _ (TupS (O2) (.int .i64 (E2 : Int))) rfl rfl),
        owes_extract_o 13 (some 150) [12] (SlIsA (O2)) (.tmp 137) 0 (fun v => by kernel_rfl) SlIsA.mono (fun v w' hb ho => by
              obtain ⟨O, c, e, l, q⟩ := ho.get 12 _ _ (TupS (O2) (.int .i64 (E2 : Int))) rfl rfl
              exact ⟨#[.slice O (O2).length c, .int .i64 (E2 : Int)], _, Eq.trans (b := v 12) (by kernel_rfl) e, by kernel_rfl, O, c, rfl, l, q⟩),
        owes_extract_o 14 (some 151) [12] (fun y _ => y = .int .i64 (E2 : Int)) (.tmp 137) 1 (fun v => by kernel_rfl) (fun _ _ _ h _ => h) (fun v w' hb ho => by
              obtain ⟨O, c, e, l, q⟩ := ho.get 12 _ _ (TupS (O2) (.int .i64 (E2 : Int))) rfl rfl
              exact ⟨#[.slice O (O2).length c, .int .i64 (E2 : Int)], _, Eq.trans (b := v 12) (by kernel_rfl) e, by kernel_rfl, rfl⟩),
        owes_assign_o 15 (some 21) [13] (SlIsA (O2)) (Go.Operand.tmp 150) 13 (fun v => by kernel_rfl) SlIsA.mono (fun v => by kernel_rfl) (fun v w' hb ho => ho.get 13 _ _ (SlIsA (O2)) rfl rfl),
        owes_assign_o 16 (some 22) [14] (fun y _ => y = .int .i64 (E2 : Int)) (Go.Operand.tmp 151) 14 (fun v => by kernel_rfl) (fun _ _ _ h _ => h) (fun v => by kernel_rfl) (fun v w' hb ho => ho.get 14 _ _ (fun y _ => y = .int .i64 (E2 : Int)) rfl rfl), trivial⟩ ?_
      intro v w7 hb' hall
      obtain ⟨A15, c15, e15, l15, r15⟩ := hall.open_ 15 _ _ (SlIsA (O2)) rfl
      have e16 : v 16 = .int .i64 (E2 : Int) := hall.open_ 16 _ _ (fun y _ => y = .int .i64 (E2 : Int)) rfl
      clear hall
      simp only [putsL_k, putsL_o, putsL_nil, List.set_cons_zero, List.set_cons_succ]
      rw [e15, e16]
      clear e15 e16
      replace hb' := drB hb'
      replace hF := hF.next hb'
      replace hbr := hbr.trans (hb'.mono hbr.size)
      replace hE0 := hE0.below hb'
      replace hown := ownsRow_via hown (fun g _ hlt => hb'.block g hlt)
      clear hb'
      clear HD2 hD2 r15 l15 w5
      have HD3 : ∀ w', Below w7.heap.size w7 w' → _ := fun w' hb' => hD3.out w' (hF.next hb')
      go_upto_region 23 with (fail)
      refine wp_region_spec [Sp.k 0 (some 153) [] (.agg (arr8 32 key)),
        Sp.k 1 (some 154) [] (.int .i64 ((k : Nat) : Int)),
        Sp.k 2 (some 155) [1] (.int .i64 ((k + 1 : Nat) : Int)),
        Sp.k 3 (some 156) [2] (v32 (BitVec.ofNat 32 (k + 1))),
        Sp.k 4 (some 157) [] (.int .i64 ((k : Nat) : Int)),
        Sp.k 5 (some 158) [] (.int .i64 (N : Int)),
        Sp.k 6 (some 159) [5] (.int .i64 ((N : Int) - 1)),
        Sp.k 7 (some 160) [4, 6] (.bool ((k : Int) == ((N : Int) - 1))),
        Sp.k 8 (some 161) [] (.slice (some ⟨G, 0, none⟩) N N),
        Sp.k 9 (some 162) [] (.int .i64 ((k : Nat) : Int)),
        Sp.k 10 (some 163) [8, 9] (.pointer (some ⟨G, 0 + k, none⟩)),
        Sp.k 11 (some 164) [10] (.slice (As k) (L k).length (cs k)),
        Sp.o 12 (some 165) [0, 3, 7, 11] (TupS (O3) (.int .i64 (E3 : Int))),
        Sp.o 13 (some 152) [12] (TupS (O3) (.int .i64 (E3 : Int))),
        Sp.o 14 (some 166) [13] (SlIsA (O3)),
        Sp.o 15 (some 167) [13] (fun y _ => y = .int .i64 (E3 : Int)),
        Sp.o 16 (some 23) [14] (SlIsA (O3)),
        Sp.o 17 (some 24) [15] (fun y _ => y = .int .i64 (E3 : Int))] (by kernel_rfl) (by kernel_rfl)
        ⟨owes_load 0 (some 153) [] (.agg (arr8 32 key)) 23 (Go.Operand.tmp 10) (.pointer (some ⟨KB, 0, none⟩)) (fun v => by kernel_rfl) (fun v => by kernel_rfl) (fun w' hb => key_load (hF.next (drB hb)).k),
        owes_move 1 (some 154) [] (.int .i64 ((k : Nat) : Int)) (Go.Operand.tmp 14) (fun v => by kernel_rfl) (fun v => by kernel_rfl),
        owes_bin 2 (some 155) [1] (.int .i64 ((k + 1 : Nat) : Int)) Go.BinOp.add 3 (Go.Operand.tmp 154) (Go.Operand.const (Go.Value.int Go.IntKind.i64 1)) 3 (.int .i64 ((k : Nat) : Int)) (Go.Value.int Go.IntKind.i64 1) (fun v => by kernel_rfl) (fun v => by kernel_rfl) (add_i64 _ _ _ _ _ _ (by omega) (by omega) (by omega)),
        owes_cvt 3 (some 156) [2] (v32 (BitVec.ofNat 32 (k + 1))) 3 25 (Go.Operand.tmp 155) (.int .i64 ((k + 1 : Nat) : Int)) (fun v => by kernel_rfl) (fun v => by kernel_rfl) (cvt_u32 (k + 1)),
        owes_move 4 (some 157) [] (.int .i64 ((k : Nat) : Int)) (Go.Operand.tmp 14) (fun v => by kernel_rfl) (fun v => by kernel_rfl),
        owes_move 5 (some 158) [] (.int .i64 (N : Int)) (Go.Operand.tmp 12) (fun v => by kernel_rfl) (fun v => by kernel_rfl),
        owes_bin 6 (some 159) [5] (.int .i64 ((N : Int) - 1)) Go.BinOp.sub 3 (Go.Operand.tmp 158) (Go.Operand.const (Go.Value.int Go.IntKind.i64 1)) 3 (.int .i64 (N : Int)) (Go.Value.int Go.IntKind.i64 1) (fun v => by kernel_rfl) (fun v => by kernel_rfl) (sub_i64A _ _ _ _ _ _ rfl (by omega) (by omega)),
        owes_bin 7 (some 160) [4, 6] (.bool ((k : Int) == ((N : Int) - 1))) Go.BinOp.eql 3 (Go.Operand.tmp 157) (Go.Operand.tmp 159) 3 (.int .i64 ((k : Nat) : Int)) (.int .i64 ((N : Int) - 1)) (fun v => by kernel_rfl) (fun v => by kernel_rfl) (eq_i64 _ _ _ _ _),
        owes_move 8 (some 161) [] (.slice (some ⟨G, 0, none⟩) N N) (Go.Operand.tmp 11) (fun v => by kernel_rfl) (fun v => by kernel_rfl),
        owes_move 9 (some 162) [] (.int .i64 ((k : Nat) : Int)) (Go.Operand.tmp 14) (fun v => by kernel_rfl) (fun v => by kernel_rfl),
        owes_index 10 (some 163) [8, 9] (.pointer (some ⟨G, 0 + k, none⟩)) 28 (Go.Operand.tmp 161) (Go.Operand.tmp 162) (.slice (some ⟨G, 0, none⟩) N N) (.int .i64 ((k : Nat) : Int)) (fun v => by kernel_rfl) (fun v => by kernel_rfl) (idx_sl (P := Tryd.prog) Tryd.underlying28 (show (Tryd.prog.info? 24).map (·.size) = some 1 by kernel_rfl) G 0 N N k hlt),
        owes_load 11 (some 164) [10] (.slice (As k) (L k).length (cs k)) 24 (Go.Operand.tmp 163) (.pointer (some ⟨G, 0 + k, none⟩)) (fun v => by kernel_rfl) (fun v => by kernel_rfl) (fun w' hb => slc_load _ _ _ w' ((hF.next (drB hb)).cell hlt)),
        owes_call_o 12 (some 165) [0, 3, 7, 11] (TupS (O3) (.int .i64 (E3 : Int))) 19 #[Go.Operand.tmp 153, Go.Operand.tmp 156, Go.Operand.tmp 160, Go.Operand.tmp 164] #[23, 25, 4, 24] (fun v => by kernel_rfl) (fun _ _ => by kernel_rfl) TupS.mono (fun v w' hb ho => by
            exact ⟨#[.agg (arr8 32 key), v32 (BitVec.ofNat 32 (k + 1)), .bool ((k : Int) == ((N : Int) - 1)), .slice (As k) (L k).length (cs k)], by kernel_rfl, (HD3 w' (drB hb)).mono (fun _ _ h => h)⟩),
        owes_move_o 13 (some 152) [12] (TupS (O3) (.int .i64 (E3 : Int))) (Go.Operand.tmp 165) 12 (fun v => by kernel_rfl) TupS.mono (fun v => by kernel_rfl) (fun v w' hb ho => ho.get 12 _ _ (TupS (O3) (.int .i64 (E3 : Int))) rfl rfl),
        owes_extract_o 14 (some 166) [13] (SlIsA (O3)) (.tmp 152) 0 (fun v => by kernel_rfl) SlIsA.mono (fun v w' hb ho => by
              obtain ⟨O, c, e, l, q⟩ := ho.get 13 _ _ (TupS (O3) (.int .i64 (E3 : Int))) rfl rfl
              exact ⟨#[.slice O (O3).length c, .int .i64 (E3 : Int)], _, Eq.trans (b := v 13) (by kernel_rfl) e, by kernel_rfl, O, c, rfl, l, q⟩),
        owes_extract_o 15 (some 167) [13] (fun y _ => y = .int .i64 (E3 : Int)) (.tmp 152) 1 (fun v => by kernel_rfl) (fun _ _ _ h _ => h) (fun v w' hb ho => by
              obtain ⟨O, c, e, l, q⟩ := ho.get 13 _ _ (TupS (O3) (.int .i64 (E3 : Int))) rfl rfl
              exact ⟨#[.slice O (O3).length c, .int .i64 (E3 : Int)], _, Eq.trans (b := v 13) (by kernel_rfl) e, by kernel_rfl, rfl⟩),
        owes_assign_o 16 (some 23) [14] (SlIsA (O3)) (Go.Operand.tmp 166) 14 (fun v => by kernel_rfl) SlIsA.mono (fun v => by kernel_rfl) (fun v w' hb ho => ho.get 14 _ _ (SlIsA (O3)) rfl rfl),
        owes_assign_o 17 (some 24) [15] (fun y _ => y = .int .i64 (E3 : Int)) (Go.Operand.tmp 167) 15 (fun v => by kernel_rfl) (fun _ _ _ h _ => h) (fun v => by kernel_rfl) (fun v w' hb ho => ho.get 15 _ _ (fun y _ => y = .int .i64 (E3 : Int)) rfl rfl), trivial⟩ ?_
      intro v w8 hb' hall
      obtain ⟨A16, c16, e16, l16, r16⟩ := hall.open_ 16 _ _ (SlIsA (O3)) rfl
      have e17 : v 17 = .int .i64 (E3 : Int) := hall.open_ 17 _ _ (fun y _ => y = .int .i64 (E3 : Int)) rfl
      clear hall
      simp only [putsL_k, putsL_o, putsL_nil, List.set_cons_zero, List.set_cons_succ]
      rw [e16, e17]
      clear e16 e17
      replace hb' := drB hb'
      replace hF := hF.next hb'
      replace hbr := hbr.trans (hb'.mono hbr.size)
      replace hE0 := hE0.below hb'
      replace hown := ownsRow_via hown (fun g _ hlt => hb'.block g hlt)
      clear hb'
      clear HD3 hD3 r16 l16 w7
      have HIS : ∀ w', Below w8.heap.size w8 w' → Calls Tryd.prog 20 #[errV (E 8), .int .i64 109] w' fun e w'' => e = .returned (.bool true) ∧ Below w'.heap.size w' w'' := fun w' hb' => by
        have h := is_any E (errV (E 8)) 109 109 (.inr ⟨8, by decide, rfl, rfl⟩) w' (hE0.below hb')
        rwa [show decide ((109 : Int) = 109) = true from rfl] at h
      rcases HC2.out with rfl | rfl <;> rcases HC3.out with rfl | rfl
      · rw [show errC E 0 = .nilIface from rfl, show ((0 : Nat) : Int) = 0 from rfl]
        clear HC2 HC3
        go_upto_region 24 with (fail)
        refine wp_region_text [Sp.k 0 (some 168) [] (.int .i64 0),
          Sp.k 1 (some 169) [0] (.bool false),
          Sp.k 2 (some 170) [1] (.bool false),
          Sp.k 3 (some 171) [2] (undef),
          Sp.k 4 (some 172) [2, 3] (undef),
          Sp.k 5 (some 173) [2, 4] (undef),
          Sp.k 6 (some 174) [2, 5] (Go.Value.bool false),
          Sp.k 7 (some 175) [6] (Go.Value.bool false),
          Sp.k 8 (some 176) [7] (.int .i64 0),
          Sp.k 9 (some 177) [7, 8] (.bool false),
          Sp.k 10 (some 178) [7, 9] (.bool false),
          Sp.k 11 (some 179) [10] (undef),
          Sp.k 12 (some 180) [10, 11] (undef),
          Sp.k 13 (some 181) [10, 12] (undef),
          Sp.k 14 (some 182) [7, 10, 13] (Go.Value.bool false),
          Sp.k 15 (some 183) [7, 14] (Go.Value.bool false)] (by kernel_rfl)
          ⟨owes_move 0 (some 168) [] (.int .i64 0) (Go.Operand.tmp 22) (fun v => by kernel_rfl) (fun v => by kernel_rfl),
          owes_bin 1 (some 169) [0] (.bool false) Go.BinOp.neq 3 (Go.Operand.tmp 168) (Go.Operand.const (Go.Value.int Go.IntKind.i64 0)) 3 (.int .i64 0) (Go.Value.int Go.IntKind.i64 0) (fun v => by kernel_rfl) (fun v => by kernel_rfl) (fun w => by kernel_rfl),
          owes_move 2 (some 170) [1] (.bool false) (Go.Operand.tmp 169) (fun v => by kernel_rfl) (fun v => by kernel_rfl),
          owes_skip 3 (some 171) [2] (fun v => by kernel_rfl),
          owes_skip 4 (some 172) [2, 3] (fun v => by kernel_rfl),
          owes_skip 5 (some 173) [2, 4] (fun v => by kernel_rfl),
          owes_pick 6 (some 174) [2, 5] (Go.Value.bool false) (Go.Operand.tmp 170) (Go.Operand.tmp 173) (Go.Operand.const (Go.Value.bool false)) false (fun v => by kernel_rfl) (fun v => by kernel_rfl) (fun v => by kernel_rfl),
          owes_move 7 (some 175) [6] (Go.Value.bool false) (Go.Operand.tmp 174) (fun v => by kernel_rfl) (fun v => by kernel_rfl),
          owes_move 8 (some 176) [7] (.int .i64 0) (Go.Operand.tmp 24) (fun v => by kernel_rfl) (fun v => by kernel_rfl),
          owes_bin 9 (some 177) [7, 8] (.bool false) Go.BinOp.neq 3 (Go.Operand.tmp 176) (Go.Operand.const (Go.Value.int Go.IntKind.i64 0)) 3 (.int .i64 0) (Go.Value.int Go.IntKind.i64 0) (fun v => by kernel_rfl) (fun v => by kernel_rfl) (fun w => by kernel_rfl),
          owes_move 10 (some 178) [7, 9] (.bool false) (Go.Operand.tmp 177) (fun v => by kernel_rfl) (fun v => by kernel_rfl),
          owes_skip 11 (some 179) [10] (fun v => by kernel_rfl),
          owes_skip 12 (some 180) [10, 11] (fun v => by kernel_rfl),
          owes_skip 13 (some 181) [10, 12] (fun v => by kernel_rfl),
          owes_pick 14 (some 182) [7, 10, 13] (Go.Value.bool false) (Go.Operand.tmp 178) (Go.Operand.tmp 181) (Go.Operand.const (Go.Value.bool false)) false (fun v => by kernel_rfl) (fun v => by kernel_rfl) (fun v => by kernel_rfl),
          owes_pick 15 (some 183) [7, 14] (Go.Value.bool false) (Go.Operand.tmp 175) (Go.Operand.const (Go.Value.bool true)) (Go.Operand.tmp 182) false (fun v => by kernel_rfl) (fun v => by kernel_rfl) (fun v => by kernel_rfl), trivial⟩ ?_
        intro v w6 hb6 hall
        clear hall HIS
        simp only [putsL_k, putsL_nil, List.set_cons_zero, List.set_cons_succ]
        replace hbr := hbr.trans (hb6.mono hbr.size)
        have hown := ownsRow_via hown (fun g _ hlt => hb6.block g hlt)
        rw [HJ.out] at hown
        clear hF hb6
        go_wp2_with fail
        go_roundw
        case rel => exact ⟨k + 1, by omega, by go_num, hown, hbr⟩
        case measure => simp [intOf]; omega
      · rw [show errC E 0 = .nilIface from rfl, show errC E 109 = errV (E 8) from rfl, show ((0 : Nat) : Int) = 0 from rfl, show ((109 : Nat) : Int) = 109 from rfl]
        clear HC2 HC3
        go_upto_region 24 with (fail)
        refine wp_region_text [Sp.k 0 (some 168) [] (.int .i64 0),
          Sp.k 1 (some 169) [0] (.bool false),
          Sp.k 2 (some 170) [1] (.bool false),
          Sp.k 3 (some 171) [2] (undef),
          Sp.k 4 (some 172) [2, 3] (undef),
          Sp.k 5 (some 173) [2, 4] (undef),
          Sp.k 6 (some 174) [2, 5] (Go.Value.bool false),
          Sp.k 7 (some 175) [6] (Go.Value.bool false),
          Sp.k 8 (some 176) [7] (.int .i64 109),
          Sp.k 9 (some 177) [7, 8] (.bool true),
          Sp.k 10 (some 178) [7, 9] (.bool true),
          Sp.k 11 (some 179) [10] (errV (E 8)),
          Sp.k 12 (some 180) [10, 11] (.bool true),
          Sp.k 13 (some 181) [10, 12] (.bool false),
          Sp.k 14 (some 182) [7, 10, 13] (.bool false),
          Sp.k 15 (some 183) [7, 14] (.bool false)] (by kernel_rfl)
          ⟨owes_move 0 (some 168) [] (.int .i64 0) (Go.Operand.tmp 22) (fun v => by kernel_rfl) (fun v => by kernel_rfl),
          owes_bin 1 (some 169) [0] (.bool false) Go.BinOp.neq 3 (Go.Operand.tmp 168) (Go.Operand.const (Go.Value.int Go.IntKind.i64 0)) 3 (.int .i64 0) (Go.Value.int Go.IntKind.i64 0) (fun v => by kernel_rfl) (fun v => by kernel_rfl) (fun w => by kernel_rfl),
          owes_move 2 (some 170) [1] (.bool false) (Go.Operand.tmp 169) (fun v => by kernel_rfl) (fun v => by kernel_rfl),
          owes_skip 3 (some 171) [2] (fun v => by kernel_rfl),
          owes_skip 4 (some 172) [2, 3] (fun v => by kernel_rfl),
          owes_skip 5 (some 173) [2, 4] (fun v => by kernel_rfl),
          owes_pick 6 (some 174) [2, 5] (Go.Value.bool false) (Go.Operand.tmp 170) (Go.Operand.tmp 173) (Go.Operand.const (Go.Value.bool false)) false (fun v => by kernel_rfl) (fun v => by kernel_rfl) (fun v => by kernel_rfl),
          owes_move 7 (some 175) [6] (Go.Value.bool false) (Go.Operand.tmp 174) (fun v => by kernel_rfl) (fun v => by kernel_rfl),
          owes_move 8 (some 176) [7] (.int .i64 109) (Go.Operand.tmp 24) (fun v => by kernel_rfl) (fun v => by kernel_rfl),
          owes_bin 9 (some 177) [7, 8] (.bool true) Go.BinOp.neq 3 (Go.Operand.tmp 176) (Go.Operand.const (Go.Value.int Go.IntKind.i64 0)) 3 (.int .i64 109) (Go.Value.int Go.IntKind.i64 0) (fun v => by kernel_rfl) (fun v => by kernel_rfl) (fun w => by kernel_rfl),
          owes_move 10 (some 178) [7, 9] (.bool true) (Go.Operand.tmp 177) (fun v => by kernel_rfl) (fun v => by kernel_rfl),
          owes_move 11 (some 179) [10] (errV (E 8)) (Go.Operand.tmp 20) (fun v => by kernel_rfl) (fun v => by kernel_rfl),
          owes_call 12 (some 180) [10, 11] (.bool true) 20 #[Go.Operand.tmp 179, Go.Operand.const (Go.Value.int Go.IntKind.i64 109)] #[35, 3] (fun v => by kernel_rfl) (fun _ _ => by kernel_rfl) (fun v w' hb ho => by
              exact ⟨#[errV (E 8), Go.Value.int Go.IntKind.i64 109], by kernel_rfl, (HIS w' hb).mono (fun _ _ h => h)⟩),
          owes_un 13 (some 181) [10, 12] (.bool false) Go.UnOp.not 4 (Go.Operand.tmp 180) (.bool true) (fun v => by kernel_rfl) (fun v => by kernel_rfl) (fun w => by kernel_rfl),
          owes_pick 14 (some 182) [7, 10, 13] (.bool false) (Go.Operand.tmp 178) (Go.Operand.tmp 181) (Go.Operand.const (Go.Value.bool false)) true (fun v => by kernel_rfl) (fun v => by kernel_rfl) (fun v => by kernel_rfl),
          owes_pick 15 (some 183) [7, 14] (.bool false) (Go.Operand.tmp 175) (Go.Operand.const (Go.Value.bool true)) (Go.Operand.tmp 182) false (fun v => by kernel_rfl) (fun v => by kernel_rfl) (fun v => by kernel_rfl), trivial⟩ ?_
        intro v w6 hb6 hall
        clear hall HIS
        simp only [putsL_k, putsL_nil, List.set_cons_zero, List.set_cons_succ]
        replace hbr := hbr.trans (hb6.mono hbr.size)
        have hown := ownsRow_via hown (fun g _ hlt => hb6.block g hlt)
        rw [HJ.out] at hown
        clear hF hb6
        go_wp2_with fail
        go_roundw
        case rel => exact ⟨k + 1, by omega, by go_num, hown, hbr⟩
        case measure => simp [intOf]; omega
      · rw [show errC E 0 = .nilIface from rfl, show errC E 109 = errV (E 8) from rfl, show ((0 : Nat) : Int) = 0 from rfl, show ((109 : Nat) : Int) = 109 from rfl]
        clear HC2 HC3
        go_upto_region 24 with (fail)
        refine wp_region_text [Sp.k 0 (some 168) [] (.int .i64 109),
          Sp.k 1 (some 169) [0] (.bool true),
          Sp.k 2 (some 170) [1] (.bool true),
          Sp.k 3 (some 171) [2] (errV (E 8)),
          Sp.k 4 (some 172) [2, 3] (.bool true),
          Sp.k 5 (some 173) [2, 4] (.bool false),
          Sp.k 6 (some 174) [2, 5] (.bool false),
          Sp.k 7 (some 175) [6] (.bool false),
          Sp.k 8 (some 176) [7] (.int .i64 0),
          Sp.k 9 (some 177) [7, 8] (.bool false),
          Sp.k 10 (some 178) [7, 9] (.bool false),
          Sp.k 11 (some 179) [10] (undef),
          Sp.k 12 (some 180) [10, 11] (undef),
          Sp.k 13 (some 181) [10, 12] (undef),
          Sp.k 14 (some 182) [7, 10, 13] (Go.Value.bool false),
          Sp.k 15 (some 183) [7, 14] (Go.Value.bool false)] (by kernel_rfl)
          ⟨owes_move 0 (some 168) [] (.int .i64 109) (Go.Operand.tmp 22) (fun v => by kernel_rfl) (fun v => by kernel_rfl),
          owes_bin 1 (some 169) [0] (.bool true) Go.BinOp.neq 3 (Go.Operand.tmp 168) (Go.Operand.const (Go.Value.int Go.IntKind.i64 0)) 3 (.int .i64 109) (Go.Value.int Go.IntKind.i64 0) (fun v => by kernel_rfl) (fun v => by kernel_rfl) (fun w => by kernel_rfl),
          owes_move 2 (some 170) [1] (.bool true) (Go.Operand.tmp 169) (fun v => by kernel_rfl) (fun v => by kernel_rfl),
          owes_move 3 (some 171) [2] (errV (E 8)) (Go.Operand.tmp 18) (fun v => by kernel_rfl) (fun v => by kernel_rfl),
          owes_call 4 (some 172) [2, 3] (.bool true) 20 #[Go.Operand.tmp 171, Go.Operand.const (Go.Value.int Go.IntKind.i64 109)] #[35, 3] (fun v => by kernel_rfl) (fun _ _ => by kernel_rfl) (fun v w' hb ho => by
              exact ⟨#[errV (E 8), Go.Value.int Go.IntKind.i64 109], by kernel_rfl, (HIS w' hb).mono (fun _ _ h => h)⟩),
          owes_un 5 (some 173) [2, 4] (.bool false) Go.UnOp.not 4 (Go.Operand.tmp 172) (.bool true) (fun v => by kernel_rfl) (fun v => by kernel_rfl) (fun w => by kernel_rfl),
          owes_pick 6 (some 174) [2, 5] (.bool false) (Go.Operand.tmp 170) (Go.Operand.tmp 173) (Go.Operand.const (Go.Value.bool false)) true (fun v => by kernel_rfl) (fun v => by kernel_rfl) (fun v => by kernel_rfl),
          owes_move 7 (some 175) [6] (.bool false) (Go.Operand.tmp 174) (fun v => by kernel_rfl) (fun v => by kernel_rfl),
          owes_move 8 (some 176) [7] (.int .i64 0) (Go.Operand.tmp 24) (fun v => by kernel_rfl) (fun v => by kernel_rfl),
          owes_bin 9 (some 177) [7, 8] (.bool false) Go.BinOp.neq 3 (Go.Operand.tmp 176) (Go.Operand.const (Go.Value.int Go.IntKind.i64 0)) 3 (.int .i64 0) (Go.Value.int Go.IntKind.i64 0) (fun v => by kernel_rfl) (fun v => by kernel_rfl) (fun w => by kernel_rfl),
          owes_move 10 (some 178) [7, 9] (.bool false) (Go.Operand.tmp 177) (fun v => by kernel_rfl) (fun v => by kernel_rfl),
          owes_skip 11 (some 179) [10] (fun v => by kernel_rfl),
          owes_skip 12 (some 180) [10, 11] (fun v => by kernel_rfl),
          owes_skip 13 (some 181) [10, 12] (fun v => by kernel_rfl),
          owes_pick 14 (some 182) [7, 10, 13] (Go.Value.bool false) (Go.Operand.tmp 178) (Go.Operand.tmp 181) (Go.Operand.const (Go.Value.bool false)) false (fun v => by kernel_rfl) (fun v => by kernel_rfl) (fun v => by kernel_rfl),
          owes_pick 15 (some 183) [7, 14] (Go.Value.bool false) (Go.Operand.tmp 175) (Go.Operand.const (Go.Value.bool true)) (Go.Operand.tmp 182) false (fun v => by kernel_rfl) (fun v => by kernel_rfl) (fun v => by kernel_rfl), trivial⟩ ?_
        intro v w6 hb6 hall
        clear hall HIS
        simp only [putsL_k, putsL_nil, List.set_cons_zero, List.set_cons_succ]
        replace hbr := hbr.trans (hb6.mono hbr.size)
        have hown := ownsRow_via hown (fun g _ hlt => hb6.block g hlt)
        rw [HJ.out] at hown
        clear hF hb6
        go_wp2_with fail
        go_roundw
        case rel => exact ⟨k + 1, by omega, by go_num, hown, hbr⟩
        case measure => simp [intOf]; omega
      · rw [show errC E 109 = errV (E 8) from rfl, show ((109 : Nat) : Int) = 109 from rfl]
        clear HC2 HC3
        go_upto_region 24 with (fail)
        refine wp_region_text [Sp.k 0 (some 168) [] (.int .i64 109),
          Sp.k 1 (some 169) [0] (.bool true),
          Sp.k 2 (some 170) [1] (.bool true),
          Sp.k 3 (some 171) [2] (errV (E 8)),
          Sp.k 4 (some 172) [2, 3] (.bool true),
          Sp.k 5 (some 173) [2, 4] (.bool false),
          Sp.k 6 (some 174) [2, 5] (.bool false),
          Sp.k 7 (some 175) [6] (.bool false),
          Sp.k 8 (some 176) [7] (.int .i64 109),
          Sp.k 9 (some 177) [7, 8] (.bool true),
          Sp.k 10 (some 178) [7, 9] (.bool true),
          Sp.k 11 (some 179) [10] (errV (E 8)),
          Sp.k 12 (some 180) [10, 11] (.bool true),
          Sp.k 13 (some 181) [10, 12] (.bool false),
          Sp.k 14 (some 182) [7, 10, 13] (.bool false),
          Sp.k 15 (some 183) [7, 14] (.bool false)] (by kernel_rfl)
          ⟨owes_move 0 (some 168) [] (.int .i64 109) (Go.Operand.tmp 22) (fun v => by kernel_rfl) (fun v => by kernel_rfl),
          owes_bin 1 (some 169) [0] (.bool true) Go.BinOp.neq 3 (Go.Operand.tmp 168) (Go.Operand.const (Go.Value.int Go.IntKind.i64 0)) 3 (.int .i64 109) (Go.Value.int Go.IntKind.i64 0) (fun v => by kernel_rfl) (fun v => by kernel_rfl) (fun w => by kernel_rfl),
          owes_move 2 (some 170) [1] (.bool true) (Go.Operand.tmp 169) (fun v => by kernel_rfl) (fun v => by kernel_rfl),
          owes_move 3 (some 171) [2] (errV (E 8)) (Go.Operand.tmp 18) (fun v => by kernel_rfl) (fun v => by kernel_rfl),
          owes_call 4 (some 172) [2, 3] (.bool true) 20 #[Go.Operand.tmp 171, Go.Operand.const (Go.Value.int Go.IntKind.i64 109)] #[35, 3] (fun v => by kernel_rfl) (fun _ _ => by kernel_rfl) (fun v w' hb ho => by
              exact ⟨#[errV (E 8), Go.Value.int Go.IntKind.i64 109], by kernel_rfl, (HIS w' hb).mono (fun _ _ h => h)⟩),
          owes_un 5 (some 173) [2, 4] (.bool false) Go.UnOp.not 4 (Go.Operand.tmp 172) (.bool true) (fun v => by kernel_rfl) (fun v => by kernel_rfl) (fun w => by kernel_rfl),
          owes_pick 6 (some 174) [2, 5] (.bool false) (Go.Operand.tmp 170) (Go.Operand.tmp 173) (Go.Operand.const (Go.Value.bool false)) true (fun v => by kernel_rfl) (fun v => by kernel_rfl) (fun v => by kernel_rfl),
          owes_move 7 (some 175) [6] (.bool false) (Go.Operand.tmp 174) (fun v => by kernel_rfl) (fun v => by kernel_rfl),
          owes_move 8 (some 176) [7] (.int .i64 109) (Go.Operand.tmp 24) (fun v => by kernel_rfl) (fun v => by kernel_rfl),
          owes_bin 9 (some 177) [7, 8] (.bool true) Go.BinOp.neq 3 (Go.Operand.tmp 176) (Go.Operand.const (Go.Value.int Go.IntKind.i64 0)) 3 (.int .i64 109) (Go.Value.int Go.IntKind.i64 0) (fun v => by kernel_rfl) (fun v => by kernel_rfl) (fun w => by kernel_rfl),
          owes_move 10 (some 178) [7, 9] (.bool true) (Go.Operand.tmp 177) (fun v => by kernel_rfl) (fun v => by kernel_rfl),
          owes_move 11 (some 179) [10] (errV (E 8)) (Go.Operand.tmp 20) (fun v => by kernel_rfl) (fun v => by kernel_rfl),
          owes_call 12 (some 180) [10, 11] (.bool true) 20 #[Go.Operand.tmp 179, Go.Operand.const (Go.Value.int Go.IntKind.i64 109)] #[35, 3] (fun v => by kernel_rfl) (fun _ _ => by kernel_rfl) (fun v w' hb ho => by
              exact ⟨#[errV (E 8), Go.Value.int Go.IntKind.i64 109], by kernel_rfl, (HIS w' hb).mono (fun _ _ h => h)⟩),
          owes_un 13 (some 181) [10, 12] (.bool false) Go.UnOp.not 4 (Go.Operand.tmp 180) (.bool true) (fun v => by kernel_rfl) (fun v => by kernel_rfl) (fun w => by kernel_rfl),
          owes_pick 14 (some 182) [7, 10, 13] (.bool false) (Go.Operand.tmp 178) (Go.Operand.tmp 181) (Go.Operand.const (Go.Value.bool false)) true (fun v => by kernel_rfl) (fun v => by kernel_rfl) (fun v => by kernel_rfl),
          owes_pick 15 (some 183) [7, 14] (.bool false) (Go.Operand.tmp 175) (Go.Operand.const (Go.Value.bool true)) (Go.Operand.tmp 182) false (fun v => by kernel_rfl) (fun v => by kernel_rfl) (fun v => by kernel_rfl), trivial⟩ ?_
        intro v w6 hb6 hall
        clear hall HIS
        simp only [putsL_k, putsL_nil, List.set_cons_zero, List.set_cons_succ]
        replace hbr := hbr.trans (hb6.mono hbr.size)
        have hown := ownsRow_via hown (fun g _ hlt => hb6.block g hlt)
        rw [HJ.out] at hown
        clear hF hb6
        go_wp2_with fail
        go_roundw
        case rel => exact ⟨k + 1, by omega, by go_num, hown, hbr⟩
        case measure => simp [intOf]; omega
    · obtain rfl : k = N := by omega
      have hbb : b.take (k * d) = b := List.take_of_length_le (by rw [← HM2.out]; omega)
      rw [hbb] at hown
      obtain ⟨Ao, co, rfl, hco⟩ := ownsRow_form hown
      have hSo := SlRead.of_own hown
      have hwr := hw7.trans (hbr.mono (by rw [← HB.out]; exact hw7.size))
      have hBr : B ≤ wr.heap.size := by rw [← HB.out]; exact hwr.size
      have hXr : SlRead wr X (ints .u8 (bys b)) := hX.below (by rw [HB.out]; exact hwr)
      obtain ⟨K, hK, hKl⟩ := exists_mod i k (by omega)
      have HK := Lib.hid hK
      clear hF hlt hkN hown hbb hK hF7 hbr hw7 HJN HGOT HSLL HPLL
      go_wp2_with fail
      refine (number_nat i k K wr (by omega) HK.out).mono ?_
      rintro e wa ⟨rfl, q, rfl⟩
      have hba : Below wr.heap.size wr (wr.drewN q) := Below.drewNr q
      generalize wr.drewN q = wa at hba ⊢
      have hSa := hSo.below hba
      have hXa := hXr.below hba
      have hwa := hwr.trans (hba.mono hBr)
      have hBa : B ≤ wa.heap.size := by rw [← HB.out]; exact hwa.size
      clear hba hSo hXr hwr hBr wr
      have hsm := same_true Ao X b co cx wa hSa hXa (by omega)
      go_wp2_with fail
      refine hsm.mono ?_
      rintro e wb ⟨rfl, q, rfl⟩
      have hba : Below wa.heap.size wa (wa.drewN q) := Below.drewNr q
      generalize wa.drewN q = wb at hba ⊢
      have hXb := hXa.below hba
      have hwb := hwa.trans (hba.mono hBa)
      have hBb : B ≤ wb.heap.size := by rw [← HB.out]; exact hwb.size
      clear hsm hba hSa hXa hwa hBa wa
      have hpc := piece_any X b cx (d : Int) (k : Int) wb hXb hcx (by omega)
      rw [HPE.out] at hpc
      go_wp2_with fail
      refine hpc.mono ?_
      rintro e wc ⟨rc, rfl, hbc, Ac, cc, rfl, lc, qc⟩
      have hXc := hXb.below hbc
      have hwc := hwb.trans (hbc.mono hBb)
      have hBc : B ≤ wc.heap.size := by rw [← HB.out]; exact hwc.size
      clear hpc hbc hXb hwb hBb qc lc wb
      have hpc := piece_any X b cx (d : Int) (K : Int) wc hXc hcx (by omega)
      have hpi := HPI.out K
      generalize pieceL b (d : Int) (K : Int) = PK at hpc hpi
      have dpi : decide ((PK.length : Int) ≤ (d : Int)) = true := by simp; omega
      go_wp2_with fail
      refine hpc.mono ?_
      rintro e we ⟨re, rfl, hbe, Ae, ce, rfl, le, qe⟩
      have hwe := hwc.trans (hbe.mono hBc)
      clear hpc hbe hXc hwc hBc qe le wc
      go_wp2_with fail
      go_ret
      exact ⟨rfl, by rw [HB.out]; exact hwe⟩
end Go.Proofs.YtpegihfocnchnaaDoor
