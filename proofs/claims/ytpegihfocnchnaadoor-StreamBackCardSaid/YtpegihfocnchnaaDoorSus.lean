import Derived.Test.YtpegihfocnchnaaDoorSue
/-
  StreamSays.
-/
namespace Go.Proofs.YtpegihfocnchnaaDoor
open Go.RowKit

/-- the key lies there -/
structure SsF (w : World) (B : Nat) (key : Nat → BitVec 8) (W : World) : Prop where
  k : W.rowIs B 23 32 (fun i => v8 (key i))
  b : Below B w W
theorem SsF.later {w : World} {B : Nat} {key : Nat → BitVec 8} {W W' : World} {C : Nat} (h : SsF w B key W) (hb : Below C W W') (hC : B < C) : SsF w B key W' := ⟨h.k.of_block (hb.block _ hC), h.b.trans (hb.mono (Nat.le_of_lt hC))⟩
theorem SsF.next {w : World} {B : Nat} {key : Nat → BitVec 8} {W W' : World} (h : SsF w B key W) (hb : Below W.heap.size W W') : SsF w B key W' := h.later hb h.k.lt
theorem neq_i64s (t : TypeId) (x y : Operand) (a : Int) (w : World) : (do eqGuard .neq t x y (.int .i64 a) (.int .i64 a); binOp .neq t (.int .i64 a) (.int .i64 a) : Sem Value).run Tryd.prog w = .ok (.bool false) w := by
  simp [eqGuard, binOp, Op.intCmp]
theorem eq0_false (t : TypeId) (x y : Operand) (n : Nat) (h : 0 < n) (w : World) : (do eqGuard .eql t x y (.int .i64 (n : Int)) (.int .i64 0); binOp .eql t (.int .i64 (n : Int)) (.int .i64 0) : Sem Value).run Tryd.prog w = .ok (.bool false) w := by
  simp [eqGuard, binOp, Op.intCmp]
  omega

set_option maxRecDepth 100000 in
set_option maxHeartbeats 3200000 in
theorem says_walk (E : Nat → Addr) (key : Nat → BitVec 8) (X : Option Addr) (b : List (BitVec 8)) (cx : Nat) (size chunk i : Int) (n : BitVec 32) (last : Bool) (at_ : Int) (y : BitVec 8) (w : World) (hX : SlRead w X (ints .u8 (bys b))) (hcx : b.length ≤ cx) (hE : ErrsAt E w) :
    Calls Tryd.prog 3 #[.agg (arr8 32 key), .slice X b.length cx, .int .i64 size, .int .i64 chunk, .int .i64 i, v32 n, .bool last, .int .i64 at_, v8 y] w fun e w' => e = .returned (.bool true) ∧ Below w.heap.size w w' := by
  go_enter Tryd.func3, Tryd.ntmps3
  go_upto_region 1 with (fail)
  refine wp_world (SsF w w.heap.size key) ⟨rowIs_new _ _ _ _ _ _ rfl (by simp) (fun i hi => arr8_get 32 key i hi), by go_grown⟩ ?_
  rintro W0 hF
  generalize hB : w.heap.size = B at hF ⊢
  have HB := Lib.hid hB; clear hB
  go_wp2_with fail
  refine (first_any W0).mono ?_
  rintro e W1 ⟨rfl, hb1⟩
  replace hF := hF.next hb1
  clear hb1 W0
  by_cases h1 : 300 < b.length
  · have d1 : decide ((300 : Int) < (b.length : Int)) = true := by simp; omega
    go_wp2_with fail
    go_ret
    exact ⟨rfl, by rw [HB.out]; exact hF.b⟩
  have d1 : decide ((300 : Int) < (b.length : Int)) = false := by simp; omega
  have hlx : b.length ≤ 300 := by omega
  clear h1
  obtain ⟨K1, hK1, hK1l⟩ := exists_mod chunk 70 (by omega)
  obtain ⟨K2, hK2, hK2l⟩ := exists_mod size 5000 (by omega)
  obtain ⟨K3, hK3, hK3l⟩ := exists_mod i 310 (by omega)
  have HK1 := Lib.hid hK1
  have HK2 := Lib.hid hK2
  have HK3 := Lib.hid hK3
  clear hK1 hK2 hK3
  go_upto_region 6 with (fail)
  refine wp_region_text [Sp.k 0 (some 35) [] (.int .i64 chunk),
    Sp.k 1 (some 36) [0] (.int .i64 (K1 : Int)),
    Sp.k 2 (some 37) [1] (.int .i64 ((K1 : Int) - 2)),
    Sp.k 3 (some 3) [0, 2] (.int .i64 ((K1 : Int) - 2))] (by kernel_rfl)
    ⟨owes_move 0 (some 35) [] (.int .i64 chunk) (Go.Operand.tmp 3) (fun v => by kernel_rfl) (fun v => by kernel_rfl),
    owes_call 1 (some 36) [0] (.int .i64 (K1 : Int)) 7 #[Go.Operand.tmp 35, Go.Operand.const (Go.Value.int Go.IntKind.i64 70)] #[3, 3] (fun v => by kernel_rfl) (fun _ _ => by kernel_rfl) (fun v w' hb ho => by
        exact ⟨#[.int .i64 chunk, Go.Value.int Go.IntKind.i64 70], by kernel_rfl, (quietB (number_nat chunk 70 K1 w' (by omega) HK1.out)).mono (fun _ _ h => h)⟩),
    owes_bin 2 (some 37) [1] (.int .i64 ((K1 : Int) - 2)) Go.BinOp.sub 3 (Go.Operand.tmp 36) (Go.Operand.const (Go.Value.int Go.IntKind.i64 2)) 3 (.int .i64 (K1 : Int)) (Go.Value.int Go.IntKind.i64 2) (fun v => by kernel_rfl) (fun v => by kernel_rfl) (sub_i64A _ _ _ _ _ _ rfl (by omega) (by omega)),
    owes_assign 3 (some 3) [0, 2] (.int .i64 ((K1 : Int) - 2)) (Go.Operand.tmp 37) (fun v => by kernel_rfl) (fun v => by kernel_rfl), trivial⟩ ?_
  intro v W2 hb' hall
  clear hall
  simp only [putsL_k, putsL_nil, List.set_cons_zero, List.set_cons_succ]
  replace hF := hF.next hb'
  clear hb' W1
  go_upto_region 7 with (fail)
  refine wp_region_text [Sp.k 0 (some 38) [] (.int .i64 size),
    Sp.k 1 (some 39) [0] (.int .i64 (K2 : Int)),
    Sp.k 2 (some 2) [0, 1] (.int .i64 (K2 : Int))] (by kernel_rfl)
    ⟨owes_move 0 (some 38) [] (.int .i64 size) (Go.Operand.tmp 2) (fun v => by kernel_rfl) (fun v => by kernel_rfl),
    owes_call 1 (some 39) [0] (.int .i64 (K2 : Int)) 7 #[Go.Operand.tmp 38, Go.Operand.const (Go.Value.int Go.IntKind.i64 5000)] #[3, 3] (fun v => by kernel_rfl) (fun _ _ => by kernel_rfl) (fun v w' hb ho => by
        exact ⟨#[.int .i64 size, Go.Value.int Go.IntKind.i64 5000], by kernel_rfl, (quietB (number_nat size 5000 K2 w' (by omega) HK2.out)).mono (fun _ _ h => h)⟩),
    owes_assign 2 (some 2) [0, 1] (.int .i64 (K2 : Int)) (Go.Operand.tmp 39) (fun v => by kernel_rfl) (fun v => by kernel_rfl), trivial⟩ ?_
  intro v W3 hb' hall
  clear hall
  simp only [putsL_k, putsL_nil, List.set_cons_zero, List.set_cons_succ]
  replace hF := hF.next hb'
  clear hb' W2
  go_upto_region 8 with (fail)
  refine wp_region_text [Sp.k 0 (some 40) [] (.int .i64 i),
    Sp.k 1 (some 41) [0] (.int .i64 (K3 : Int)),
    Sp.k 2 (some 42) [1] (.int .i64 ((K3 : Int) - 3)),
    Sp.k 3 (some 4) [0, 2] (.int .i64 ((K3 : Int) - 3))] (by kernel_rfl)
    ⟨owes_move 0 (some 40) [] (.int .i64 i) (Go.Operand.tmp 4) (fun v => by kernel_rfl) (fun v => by kernel_rfl),
    owes_call 1 (some 41) [0] (.int .i64 (K3 : Int)) 7 #[Go.Operand.tmp 40, Go.Operand.const (Go.Value.int Go.IntKind.i64 310)] #[3, 3] (fun v => by kernel_rfl) (fun _ _ => by kernel_rfl) (fun v w' hb ho => by
        exact ⟨#[.int .i64 i, Go.Value.int Go.IntKind.i64 310], by kernel_rfl, (quietB (number_nat i 310 K3 w' (by omega) HK3.out)).mono (fun _ _ h => h)⟩),
    owes_bin 2 (some 42) [1] (.int .i64 ((K3 : Int) - 3)) Go.BinOp.sub 3 (Go.Operand.tmp 41) (Go.Operand.const (Go.Value.int Go.IntKind.i64 3)) 3 (.int .i64 (K3 : Int)) (Go.Value.int Go.IntKind.i64 3) (fun v => by kernel_rfl) (fun v => by kernel_rfl) (sub_i64A _ _ _ _ _ _ rfl (by omega) (by omega)),
    owes_assign 3 (some 4) [0, 2] (.int .i64 ((K3 : Int) - 3)) (Go.Operand.tmp 42) (fun v => by kernel_rfl) (fun v => by kernel_rfl), trivial⟩ ?_
  intro v W4 hb' hall
  clear hall
  simp only [putsL_k, putsL_nil, List.set_cons_zero, List.set_cons_succ]
  replace hF := hF.next hb'
  clear hb' W3
  clear HK1 HK2 HK3 d1
  obtain ⟨ch, hch⟩ : ∃ ch, ch = (K1 : Int) - 2 := ⟨_, rfl⟩
  obtain ⟨ii, hii⟩ : ∃ ii, ii = (K3 : Int) - 3 := ⟨_, rfl⟩
  rw [← hch, ← hii]
  have hch1 : ch ≤ 100000 := by omega
  have hii1 : ii ≤ 100000 := by omega
  clear hch hii hK1l hK3l
  have hX4 : SlRead W4 X (ints .u8 (bys b)) := hX.below (by rw [HB.out]; exact hF.b)
  have hal := all_any key X b cx ch W4 hX4 hcx (by omega)
  have hdal := fun W (h : SlRead W X (ints .u8 (bys b))) => dall_any key X b cx ch W h hcx (by omega) hch1
  obtain ⟨NN, hNN⟩ : ∃ NN, NN = countN b.length ch := ⟨_, rfl⟩
  have hNl : NN ≤ 1001 := by
    rw [hNN]
    unfold countN
    split
    · omega
    · have := Nat.div_le_self (((b.length : Nat) : Int).toNat - 1) (oneN ch)
      simp at this ⊢
      omega
  have hsl : ∀ q, (sealC key b ch q).length ≤ 100000 := fun q => by
    unfold sealC
    rw [sealB_length]
    have := pieceL_len b ch (q : Int)
    omega
  rw [← hNN] at hal hdal
  generalize sealC key b ch = L at hal hdal hsl
  have HDAL := Lib.hid hdal
  have HSL := Lib.hid hsl
  clear hdal hNN hsl
  have hk := rowIs_heap8 hF.k
  go_wp2_with (first | (refine wpList_load_row rfl 23 _ rfl _ rfl _ _ _ _ hk Tryd.underlying23 rfl (by kernel_rfl) ?_))
  refine hal.mono ?_
  rintro e W5 ⟨G, As, cs, rfl, hpk, hG, hb5⟩
  have hb5' := hb5
  have hrd := hpk.rds
  clear hal hX4 hk hpk hG
  replace hF := hF.next hb5'
  clear hb5 hb5'
  have hX5 : SlRead W5 X (ints .u8 (bys b)) := hX.below (by rw [HB.out]; exact hF.b)
  have hk := rowIs_heap8 hF.k
  have hdal := HDAL.out W5 hX5
  go_wp2_with (first | (refine wpList_load_row rfl 23 _ rfl _ rfl _ _ _ _ hk Tryd.underlying23 rfl (by kernel_rfl) ?_))
  refine hdal.mono ?_
  rintro e W6 ⟨O, cO, Bs, ds, rfl, hrd2, hb6⟩
  replace hrd := hrd.below hb6
  replace hF := hF.next hb6
  clear hdal hX5 hk hb6 HDAL W4 W5
  have hX6 : SlRead W6 X (ints .u8 (bys b)) := hX.below (by rw [HB.out]; exact hF.b)
  have HC1 := fun W => count_any (K2 : Int) ch W (by omega)
  have HC2 := fun W => dcount_any K2 ch W (by omega)
  generalize countN (K2 : Int) ch = N2 at HC1 HC2
  have hPL := pieceL_len b ch ii
  have HP1 : ∀ w', Below W6.heap.size W6 w' → _ := fun w' hb' => piece_any X b cx ch ii w' (hX6.below hb') hcx (by omega)
  have HP2 : ∀ w', Below W6.heap.size W6 w' → _ := fun w' hb' => dpiece_any X b cx ch ii w' (hX6.below hb') hcx (by omega) hii1 hch1
  generalize pieceL b ch ii = PL at hPL HP1 HP2
  replace hPL : PL.length ≤ 100000 := by omega
  have HSP : ∀ w', Below W6.heap.size W6 w' → _ := fun w' hb' => samepk_any (some ⟨G, 0, none⟩) O NN NN cO L As Bs cs ds w' (hrd.below hb') (hrd2.below hb') (by omega) (fun i _ => HSL.out i)
  clear hrd hrd2 HSL hX6
  go_upto_region 11 with (fail)
  refine wp_region_text [Sp.k 0 (some 51) [] (.int .i64 (K2 : Int)),
    Sp.k 1 (some 52) [] (.int .i64 ch),
    Sp.k 2 (some 53) [0, 1] (.int .i64 (N2 : Int)),
    Sp.k 3 (some 54) [] (.int .i64 (K2 : Int)),
    Sp.k 4 (some 55) [] (.int .i64 ch),
    Sp.k 5 (some 56) [3, 4] (.int .i64 (N2 : Int)),
    Sp.k 6 (some 57) [2, 5] (.bool false),
    Sp.k 7 (some 58) [6] (.bool false),
    Sp.k 8 (some 59) [7] (.slice X b.length cx),
    Sp.k 9 (some 60) [7] (.int .i64 ch),
    Sp.k 10 (some 61) [7] (.int .i64 ii),
    Sp.o 11 (some 62) [7, 8, 9, 10] (SlIsA (PL)),
    Sp.k 12 (some 63) [7] (.slice X b.length cx),
    Sp.k 13 (some 64) [7] (.int .i64 ch),
    Sp.k 14 (some 65) [7] (.int .i64 ii),
    Sp.o 15 (some 66) [7, 12, 13, 14] (SlIsA (PL)),
    Sp.k 16 (some 67) [7, 11, 15] (.bool true),
    Sp.k 17 (some 68) [7, 16] (.bool false),
    Sp.k 18 (some 69) [7, 17] (.bool false),
    Sp.k 19 (some 70) [18] (.bool false),
    Sp.k 20 (some 71) [19] (.slice (some ⟨G, 0, none⟩) NN NN),
    Sp.k 21 (some 72) [19] (.slice O NN cO),
    Sp.k 22 (some 73) [19, 20, 21] (.bool true),
    Sp.k 23 (some 74) [19, 22] (.bool false),
    Sp.k 24 (some 75) [19, 23] (.bool false)] (by kernel_rfl)
    ⟨owes_move 0 (some 51) [] (.int .i64 (K2 : Int)) (Go.Operand.tmp 2) (fun v => by kernel_rfl) (fun v => by kernel_rfl),
    owes_move 1 (some 52) [] (.int .i64 ch) (Go.Operand.tmp 3) (fun v => by kernel_rfl) (fun v => by kernel_rfl),
    owes_call 2 (some 53) [0, 1] (.int .i64 (N2 : Int)) 10 #[Go.Operand.tmp 51, Go.Operand.tmp 52] #[3, 3] (fun v => by kernel_rfl) (fun _ _ => by kernel_rfl) (fun v w' hb ho => by
        exact ⟨#[.int .i64 (K2 : Int), .int .i64 ch], by kernel_rfl, (HC1 w').mono (fun _ _ h => h)⟩),
    owes_move 3 (some 54) [] (.int .i64 (K2 : Int)) (Go.Operand.tmp 2) (fun v => by kernel_rfl) (fun v => by kernel_rfl),
    owes_move 4 (some 55) [] (.int .i64 ch) (Go.Operand.tmp 3) (fun v => by kernel_rfl) (fun v => by kernel_rfl),
    owes_call 5 (some 56) [3, 4] (.int .i64 (N2 : Int)) 11 #[Go.Operand.tmp 54, Go.Operand.tmp 55] #[3, 3] (fun v => by kernel_rfl) (fun _ _ => by kernel_rfl) (fun v w' hb ho => by
        exact ⟨#[.int .i64 (K2 : Int), .int .i64 ch], by kernel_rfl, (HC2 w').mono (fun _ _ h => h)⟩),
    owes_bin 6 (some 57) [2, 5] (.bool false) Go.BinOp.neq 3 (Go.Operand.tmp 53) (Go.Operand.tmp 56) 3 (.int .i64 (N2 : Int)) (.int .i64 (N2 : Int)) (fun v => by kernel_rfl) (fun v => by kernel_rfl) (neq_i64s _ _ _ _),
    owes_move 7 (some 58) [6] (.bool false) (Go.Operand.tmp 57) (fun v => by kernel_rfl) (fun v => by kernel_rfl),
    owes_move 8 (some 59) [7] (.slice X b.length cx) (Go.Operand.tmp 1) (fun v => by kernel_rfl) (fun v => by kernel_rfl),
    owes_move 9 (some 60) [7] (.int .i64 ch) (Go.Operand.tmp 3) (fun v => by kernel_rfl) (fun v => by kernel_rfl),
    owes_move 10 (some 61) [7] (.int .i64 ii) (Go.Operand.tmp 4) (fun v => by kernel_rfl) (fun v => by kernel_rfl),
    owes_call_o 11 (some 62) [7, 8, 9, 10] (SlIsA (PL)) 13 #[Go.Operand.tmp 59, Go.Operand.tmp 60, Go.Operand.tmp 61] #[24, 3, 3] (fun v => by kernel_rfl) (fun _ _ => by kernel_rfl) SlIsA.mono (fun v w' hb ho => by
        exact ⟨#[.slice X b.length cx, .int .i64 ch, .int .i64 ii], by kernel_rfl, (HP1 w' hb).mono (fun _ _ h => h)⟩),
    owes_move 12 (some 63) [7] (.slice X b.length cx) (Go.Operand.tmp 1) (fun v => by kernel_rfl) (fun v => by kernel_rfl),
    owes_move 13 (some 64) [7] (.int .i64 ch) (Go.Operand.tmp 3) (fun v => by kernel_rfl) (fun v => by kernel_rfl),
    owes_move 14 (some 65) [7] (.int .i64 ii) (Go.Operand.tmp 4) (fun v => by kernel_rfl) (fun v => by kernel_rfl),
    owes_call_o 15 (some 66) [7, 12, 13, 14] (SlIsA (PL)) 14 #[Go.Operand.tmp 63, Go.Operand.tmp 64, Go.Operand.tmp 65] #[24, 3, 3] (fun v => by kernel_rfl) (fun _ _ => by kernel_rfl) SlIsA.mono (fun v w' hb ho => by
        exact ⟨#[.slice X b.length cx, .int .i64 ch, .int .i64 ii], by kernel_rfl, (HP2 w' hb).mono (fun _ _ h => h)⟩),
    owes_call 16 (some 67) [7, 11, 15] (.bool true) 12 #[Go.Operand.tmp 62, Go.Operand.tmp 66] #[24, 24] (fun v => by kernel_rfl) (fun _ _ => by kernel_rfl) (fun v w' hb ho => by
        obtain ⟨A11, c11, e11, l11, r11⟩ := ho.get 11 _ _ (SlIsA (PL)) rfl rfl
        obtain ⟨A15, c15, e15, l15, r15⟩ := ho.get 15 _ _ (SlIsA (PL)) rfl rfl
        exact ⟨#[.slice A11 (PL).length c11, .slice A15 (PL).length c15], Eq.trans (b := #[v 11, v 15]) (by kernel_rfl) (by rw [e11, e15]), (quietB (same_true A11 A15 PL c11 c15 w' r11 r15 hPL)).mono (fun _ _ h => h)⟩),
    owes_un 17 (some 68) [7, 16] (.bool false) Go.UnOp.not 4 (Go.Operand.tmp 67) (.bool true) (fun v => by kernel_rfl) (fun v => by kernel_rfl) (fun w => by kernel_rfl),
    owes_pick 18 (some 69) [7, 17] (.bool false) (Go.Operand.tmp 58) (Go.Operand.const (Go.Value.bool true)) (Go.Operand.tmp 68) false (fun v => by kernel_rfl) (fun v => by kernel_rfl) (fun v => by kernel_rfl),
    owes_move 19 (some 70) [18] (.bool false) (Go.Operand.tmp 69) (fun v => by kernel_rfl) (fun v => by kernel_rfl),
    owes_move 20 (some 71) [19] (.slice (some ⟨G, 0, none⟩) NN NN) (Go.Operand.tmp 20) (fun v => by kernel_rfl) (fun v => by kernel_rfl),
    owes_move 21 (some 72) [19] (.slice O NN cO) (Go.Operand.tmp 21) (fun v => by kernel_rfl) (fun v => by kernel_rfl),
    owes_call 22 (some 73) [19, 20, 21] (.bool true) 15 #[Go.Operand.tmp 71, Go.Operand.tmp 72] #[28, 28] (fun v => by kernel_rfl) (fun _ _ => by kernel_rfl) (fun v w' hb ho => by
        exact ⟨#[.slice (some ⟨G, 0, none⟩) NN NN, .slice O NN cO], by kernel_rfl, (HSP w' hb).mono (fun _ _ h => h)⟩),
    owes_un 23 (some 74) [19, 22] (.bool false) Go.UnOp.not 4 (Go.Operand.tmp 73) (.bool true) (fun v => by kernel_rfl) (fun v => by kernel_rfl) (fun w => by kernel_rfl),
    owes_pick 24 (some 75) [19, 23] (.bool false) (Go.Operand.tmp 70) (Go.Operand.const (Go.Value.bool true)) (Go.Operand.tmp 74) false (fun v => by kernel_rfl) (fun v => by kernel_rfl) (fun v => by kernel_rfl), trivial⟩ ?_
  intro v W7 hb' hall
  clear hall
  simp only [putsL_k, putsL_o, putsL_nil, List.set_cons_zero, List.set_cons_succ]
  replace hF := hF.next hb'
  generalize v 11 = v11
  generalize v 15 = v15
  clear hb' HC1 HC2 HP1 HP2 HSP W6
  have hX7 : SlRead W7 X (ints .u8 (bys b)) := hX.below (by rw [HB.out]; exact hF.b)
  have hk := rowIs_heap8 hF.k
  go_wp2_with (first | (refine wpList_load_row rfl 23 _ rfl _ rfl _ _ _ _ hk Tryd.underlying23 rfl (by kernel_rfl) ?_))
  refine (sseal_any key n last X b cx W7 hX7 (by omega)).mono ?_
  rintro e W8 ⟨v8', rfl, h8⟩
  have hb8 := h8.b
  have hF8 := hF.next hb8
  have hBW : B < W7.heap.size := hF.k.lt
  have HDS0 : ∀ w', SlRead w' X (ints .u8 (bys b)) → _ := fun w' h => dsseal_any key n last X b cx w' h (by omega)
  obtain ⟨c, hc⟩ : ∃ c, c = sealB key (nonB n last) [] b := ⟨_, rfl⟩
  have hcl : c.length = b.length + 16 := by rw [hc, sealB_length]
  rw [← hc] at h8 HDS0
  have hcl1 : c.length ≤ 316 := by omega
  have hcl2 : 0 < c.length := by omega
  obtain ⟨g, cap2, rfl, hgB, hgW⟩ := h8.own.form hcl2
  have hown := h8.own
  have hcap : c.length ≤ cap2 := by
    obtain ⟨O', c', e, l, _⟩ := h8.is
    simp only [Value.slice.injEq] at e
    omega
  clear hc hcl h8 hF hX7 hk hb8
  have hSc : SlRead W8 (some ⟨g, 0, none⟩) (ints .u8 (bys c)) := SlRead.of_own hown
  have hX8 : SlRead W8 X (ints .u8 (bys b)) := hX.below (by rw [HB.out]; exact hF8.b)
  have HDS : ∀ w', Below W8.heap.size W8 w' → Calls Tryd.prog 17 #[.agg (arr8 32 key), v32 n, .bool last, .slice X b.length cx] w' fun e w'' => ∃ r, e = .returned r ∧ Below w'.heap.size w' w'' ∧ SlIsA c r w'' := fun w' hb' =>
    (HDS0 w' (hX8.below hb')).mono fun e w'' ⟨v, h1, h2⟩ => ⟨v, h1, h2.b, h2.is⟩
  have hk := hF8.k
  clear HDS0 hX8
  go_upto_region 14 with (fail)
  refine wp_region_text [Sp.k 0 (some 81) [] (.slice (some ⟨g, 0, none⟩) c.length cap2),
    Sp.k 1 (some 82) [] (.agg (arr8 32 key)),
    Sp.k 2 (some 83) [] (v32 n),
    Sp.k 3 (some 84) [] (.bool last),
    Sp.k 4 (some 85) [] (.slice X b.length cx),
    Sp.o 5 (some 86) [1, 2, 3, 4] (SlIsA (c)),
    Sp.k 6 (some 87) [0, 5] (.bool true),
    Sp.k 7 (some 88) [6] (.bool false),
    Sp.k 8 (some 89) [7] (.bool false),
    Sp.k 9 (some 90) [8] (.slice (some ⟨g, 0, none⟩) c.length cap2),
    Sp.k 10 (some 91) [8, 9] (.int .i64 (c.length : Int)),
    Sp.k 11 (some 92) [8, 10] (.bool false),
    Sp.k 12 (some 93) [8, 11] (.bool false)] (by kernel_rfl)
    ⟨owes_move 0 (some 81) [] (.slice (some ⟨g, 0, none⟩) c.length cap2) (Go.Operand.tmp 22) (fun v => by kernel_rfl) (fun v => by kernel_rfl),
    owes_load 1 (some 82) [] (.agg (arr8 32 key)) 23 (Go.Operand.tmp 9) (.pointer (some ⟨B, 0, none⟩)) (fun v => by kernel_rfl) (fun v => by kernel_rfl) (fun w' hb => key_load (hk.of_block (hb.block _ hk.lt))),
    owes_move 2 (some 83) [] (v32 n) (Go.Operand.tmp 5) (fun v => by kernel_rfl) (fun v => by kernel_rfl),
    owes_move 3 (some 84) [] (.bool last) (Go.Operand.tmp 6) (fun v => by kernel_rfl) (fun v => by kernel_rfl),
    owes_move 4 (some 85) [] (.slice X b.length cx) (Go.Operand.tmp 1) (fun v => by kernel_rfl) (fun v => by kernel_rfl),
    owes_call_o 5 (some 86) [1, 2, 3, 4] (SlIsA (c)) 17 #[Go.Operand.tmp 82, Go.Operand.tmp 83, Go.Operand.tmp 84, Go.Operand.tmp 85] #[23, 25, 4, 24] (fun v => by kernel_rfl) (fun _ _ => by kernel_rfl) SlIsA.mono (fun v w' hb ho => by
        exact ⟨#[.agg (arr8 32 key), v32 n, .bool last, .slice X b.length cx], by kernel_rfl, (HDS w' hb).mono (fun _ _ h => h)⟩),
    owes_call 6 (some 87) [0, 5] (.bool true) 12 #[Go.Operand.tmp 81, Go.Operand.tmp 86] #[24, 24] (fun v => by kernel_rfl) (fun _ _ => by kernel_rfl) (fun v w' hb ho => by
        obtain ⟨A5, c5, e5, l5, r5⟩ := ho.get 5 _ _ (SlIsA (c)) rfl rfl
        exact ⟨#[.slice (some ⟨g, 0, none⟩) c.length cap2, .slice A5 (c).length c5], Eq.trans (b := #[.slice (some ⟨g, 0, none⟩) c.length cap2, v 5]) (by kernel_rfl) (by rw [e5]), (quietB (same_true (some ⟨g, 0, none⟩) A5 c cap2 c5 w' (hSc.below hb) r5 (by omega))).mono (fun _ _ h => h)⟩),
    owes_un 7 (some 88) [6] (.bool false) Go.UnOp.not 4 (Go.Operand.tmp 87) (.bool true) (fun v => by kernel_rfl) (fun v => by kernel_rfl) (fun w => by kernel_rfl),
    owes_move 8 (some 89) [7] (.bool false) (Go.Operand.tmp 88) (fun v => by kernel_rfl) (fun v => by kernel_rfl),
    owes_move 9 (some 90) [8] (.slice (some ⟨g, 0, none⟩) c.length cap2) (Go.Operand.tmp 22) (fun v => by kernel_rfl) (fun v => by kernel_rfl),
    owes_lenB 10 (some 91) [8, 9] (.int .i64 (c.length : Int)) (.tmp 90) 24 3 (.slice (some ⟨g, 0, none⟩) c.length cap2) (fun v => by kernel_rfl) (by kernel_rfl) (fun v => by kernel_rfl) (fun w => by kernel_rfl),
    owes_bin 11 (some 92) [8, 10] (.bool false) Go.BinOp.eql 3 (Go.Operand.tmp 91) (Go.Operand.const (Go.Value.int Go.IntKind.i64 0)) 3 (.int .i64 (c.length : Int)) (Go.Value.int Go.IntKind.i64 0) (fun v => by kernel_rfl) (fun v => by kernel_rfl) (eq0_false _ _ _ _ (by omega)),
    owes_pick 12 (some 93) [8, 11] (.bool false) (Go.Operand.tmp 89) (Go.Operand.const (Go.Value.bool true)) (Go.Operand.tmp 92) false (fun v => by kernel_rfl) (fun v => by kernel_rfl) (fun v => by kernel_rfl), trivial⟩ ?_
  intro v W9 hb' hall
  clear hall HDS hk
  simp only [putsL_k, putsL_o, putsL_nil, List.set_cons_zero, List.set_cons_succ]
  generalize v 5 = v5
  have hF := hF8.next hb'
  have hown9 := ownsRow_via hown (fun g _ hlt => hb'.block g hlt)
  clear hSc hown hF8 hb' hgW W8
  obtain ⟨K, hK, hKl⟩ := exists_mod at_ c.length (by omega)
  have HK := Lib.hid hK
  clear hK
  go_wp2_with fail
  refine (number_nat at_ c.length K W9 (by omega) HK.out).mono ?_
  rintro e W10 ⟨rfl, q, rfl⟩
  have hb10 : Below W9.heap.size W9 (W9.drewN q) := Below.drewNr q
  generalize W9.drewN q = W10 at hb10 ⊢
  replace hF := hF.next hb10
  have hown10 := ownsRow_via hown9 (fun g _ hlt => hb10.block g hlt)
  have hKn : K < c.length := by omega
  obtain ⟨x, hx⟩ : ∃ x, c[K]? = some x := ⟨c[K], by simp [hKn]⟩
  have cc : W10.cell? ⟨g, K, none⟩ = some (v8 x) := by rw [hown10.cellAt K (by omega), bys_ints]; simp [hx]
  have fc := hown10.frozenAt K
  have hxy := n8_xorR x y
  have hst := own_set hown10 K (x ^^^ y)
  obtain ⟨d, hd⟩ : ∃ d, d = c.set K (x ^^^ y) := ⟨_, rfl⟩
  have hdl : d.length = c.length := by rw [hd, List.length_set]
  rw [← hd, hdl] at hst
  have hbs : Below W7.heap.size W10 (W10.setCell ⟨g, K, none⟩ (v8 (x ^^^ y))) := (Below.refl _ _).setCell hgB _
  have hF11 := hF.later hbs hBW
  have HDL := Lib.hid hdl
  clear hdl hd hx hown9 hown10 hF hb10 HK hbs
  go_upto_region 18 with (fail)
  refine wp_world (fun W => SsF w B key W ∧ SlRead W (some ⟨g, 0, none⟩) (ints .u8 (bys d))) ⟨hF11, SlRead.of_own hst⟩ ?_
  clear hF11 hst cc fc hxy hBW hgB W7 W9 W10
  rintro W11 ⟨hF, hSd⟩
  have hO := sopen_any E key n last (some ⟨g, 0, none⟩) d cap2 W11 (hE.below (by rw [HB.out]; exact hF.b)) hSd (by rw [HDL.out]; omega) (by rw [HDL.out]; omega)
  have hD := fun W (h : SlRead W (some ⟨g, 0, none⟩) (ints .u8 (bys d))) => dsopen_any key n last (some ⟨g, 0, none⟩) d cap2 W h (by rw [HDL.out]; omega) (by rw [HDL.out]; omega)
  rw [HDL.out] at hO
  simp only [HDL.out] at hD
  have hOc := openGot_code key (nonB n last) [] d
  have hOl := openGot_len key (nonB n last) [] d
  rw [HDL.out] at hOl
  generalize (openGot key (nonB n last) [] d).1 = O1 at hO hD hOl
  generalize (openGot key (nonB n last) [] d).2 = On at hO hD hOc
  have HD := Lib.hid hD
  have HOC := Lib.hid hOc
  clear hD hOc
  have hk := rowIs_heap8 hF.k
  go_wp2_with (first | (refine wpList_load_row rfl 23 _ rfl _ rfl _ _ _ _ hk Tryd.underlying23 rfl (by kernel_rfl) ?_))
  refine hO.mono ?_
  rintro e W12 ⟨v12, rfl, h12⟩
  obtain ⟨A12, c12, rfl, l12, r12⟩ := h12.is
  replace hSd := hSd.below h12.b
  replace hF := hF.next h12.b
  clear hO hk h12 W11
  have hD := HD.out W12 hSd
  have hk := rowIs_heap8 hF.k
  go_wp2_with (first | (refine wpList_load_row rfl 23 _ rfl _ rfl _ _ _ _ hk Tryd.underlying23 rfl (by kernel_rfl) ?_))
  refine hD.mono ?_
  rintro e W13 ⟨v13, rfl, h13⟩
  obtain ⟨A13, c13, rfl, l13, r13⟩ := h13.is
  replace r12 := r12.below h13.b
  replace hF := hF.next h13.b
  clear hD hk h13 HD hSd W12
  have hsm := same_true A12 A13 O1 c12 c13 W13 r12 r13 (by omega)
  go_wp2_with fail
  refine hsm.mono ?_
  rintro e W14 ⟨rfl, q, rfl⟩
  have hb14 : Below W13.heap.size W13 (W13.drewN q) := Below.drewNr q
  generalize W13.drewN q = W14 at hb14 ⊢
  replace hF := hF.next hb14
  clear hsm hb14 r12 r13
  have hi := is_any E (errC E On) (On : Int) (On : Int) (errC_reads E On HOC.out) W14 (hE.below (by rw [HB.out]; exact hF.b))
  rw [show decide ((On : Int) = (On : Int)) = true by simp] at hi
  go_wp2_with fail
  refine hi.mono ?_
  rintro e W15 ⟨rfl, hb15⟩
  replace hF := hF.next hb15
  clear hi hb15
  go_wp2_with fail
  go_ret
  exact ⟨rfl, by rw [HB.out]; exact hF.b⟩
end Go.Proofs.YtpegihfocnchnaaDoor
