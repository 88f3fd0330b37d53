import Derived.Test.YtplmliomhpgfpaaDoorMsy
import Derived.Test.YtplmliomhpgfpaaDoorRso
import Derived.Test.YtplmliomhpgfpaaDoorBc
import Derived.Test.YtplmliomhpgfpaaDoorMky
namespace Go.Proofs.YtplmliomhpgfpaaDoor
open Go.RowKit

/-- behind a call that only reads nothing has turned -/
theorem Quiets.below {P : Program} {f : FuncId} {args : Array Value} {w : World} {v : Value} (h : Quiets P f args w v) : Calls P f args w fun e w' => e = .returned v ∧ Below w.heap.size w w' :=
  h.mono fun _ _ ⟨h1, m, h2⟩ => ⟨h1, by rw [h2]; exact Below.drewNr m⟩
theorem bys_inj {xs ys : List (BitVec 8)} : bys xs = bys ys ↔ xs = ys := by
  constructor
  · intro h
    unfold bys at h
    refine (List.map_inj_right ?_).1 h
    intro a b h
    have h' : (a.toNat : Int) = b.toNat := h
    exact BitVec.eq_of_toNat_eq (by omega)
  · rintro rfl; rfl
theorem same_bys (A B : Option Addr) (xs ys : List (BitVec 8)) (ca cb : Nat) (w : World) (hA : SlRead w A (ints .u8 (bys xs))) (hB : SlRead w B (ints .u8 (bys ys))) (hx : xs.length ≤ 9223372036854775807) (hy : ys.length ≤ 9223372036854775807) :
    Quiets Tryd.prog 16 #[.slice A xs.length ca, .slice B ys.length cb] w (.bool (decide (xs = ys))) := by
  have h := sameBytes_any A B (bys xs) (bys ys) ca cb w hA hB (by simpa using hx) (by simpa using hy)
  rw [bys_length, bys_length] at h
  rwa [show decide (bys xs = bys ys) = decide (xs = ys) by simp only [bys_inj]] at h
theorem bytes_cap' (A : Option Addr) (xs : List (BitVec 8)) (ca : Nat) (w : World) (hA : SlRead w A (ints .u8 (bys xs))) (hx : xs.length ≤ 140737488351232) :
    Calls Tryd.prog 15 #[.slice A xs.length ca] w fun e w' => e = .returned (.slice (some ⟨w.heap.size, 0, none⟩) xs.length xs.length) ∧ SlRead w' (some ⟨w.heap.size, 0, none⟩) (ints .u8 (bys xs)) ∧ Below w.heap.size w w' := by
  have h := bytes_cap A (bys xs) ca w hA (by simpa using hx)
  rwa [bys_length] at h
theorem eql_bool (x y : Operand) (b : Bool) (w : World) : (do eqGuard .eql 4 x y (.bool b) (.bool b); binOp .eql 4 (.bool b) (.bool b) : Sem Value).run Tryd.prog w = .ok (.bool true) w := by
  cases b <;> kernel_rfl
theorem SlRead.new_row {W : World} (cs : Array Value) (t : TypeId) (vs : List Value) (h : vs = cs.toList) : SlRead (W.alloc (.cells cs t)) (some ⟨W.heap.size, 0, none⟩) vs := by
  subst h
  intro _
  refine ⟨W.heap.size, 0, rfl, by simp, fun j u hj => ?_⟩
  rw [Nat.zero_add, World.cell?_alloc_new]
  simpa using hj
set_option maxRecDepth 100000 in
set_option maxHeartbeats 1600000 in
theorem msays_walk (A : Option Addr) (ks : List (BitVec 8)) (ca : Nat) (B : Option Addr) (es : List (BitVec 8)) (cb : Nat) (C : Option Addr) (bs : List (BitVec 8)) (cc : Nat) (D : Option Addr) (fs : List (BitVec 8)) (cd : Nat) (z : Int) (E : Nat → Addr) (w : World)
    (hA : SlRead w A (ints .u8 (bys ks))) (hca : ks.length ≤ ca) (hma : ks.length ≤ 9223372036854775807) (hB : SlRead w B (ints .u8 (bys es))) (hcb : es.length ≤ cb) (hmb : es.length ≤ 9223372036854775807)
    (hC : SlRead w C (ints .u8 (bys bs))) (hcc : bs.length ≤ cc) (hmc : bs.length ≤ 9223372036854775807) (hD : SlRead w D (ints .u8 (bys fs))) (hcd : fs.length ≤ cd) (hmd : fs.length ≤ 9223372036854775807) (hk : KAt w) (hE : ErrsAt E w) :
    Calls Tryd.prog 3 #[.slice A ks.length ca, .slice B es.length cb, .slice C bs.length cc, .slice D fs.length cd, .int .i64 z] w fun e w' => e = .returned (.bool true) ∧ Below w.heap.size w w' := by
  go_enter Tryd.func3, Tryd.ntmps3
  go_wp2_with fail
  refine (first_any _ hk).mono ?_
  rintro e W ⟨rfl, hb⟩
  by_cases h1 : 200 < ks.length
  · have b1 : decide ((200 : Int) < (ks.length : Int)) = true := by simp; omega
    go_wp2_with fail
    go_ret
    exact ⟨rfl, hb⟩
  have b1 : decide ((200 : Int) < (ks.length : Int)) = false := by simp; omega
  by_cases h2 : 200 < es.length
  · have b2 : decide ((200 : Int) < (es.length : Int)) = true := by simp; omega
    go_wp2_with fail
    go_ret
    exact ⟨rfl, hb⟩
  have b2 : decide ((200 : Int) < (es.length : Int)) = false := by simp; omega
  by_cases h3 : 200 < bs.length
  · have b3 : decide ((200 : Int) < (bs.length : Int)) = true := by simp; omega
    go_wp2_with fail
    go_ret
    exact ⟨rfl, hb⟩
  have b3 : decide ((200 : Int) < (bs.length : Int)) = false := by simp; omega
  by_cases h4 : 100 < fs.length
  · have b4 : decide ((100 : Int) < (fs.length : Int)) = true := by simp; omega
    go_wp2_with fail
    go_ret
    exact ⟨rfl, hb⟩
  have b4 : decide ((100 : Int) < (fs.length : Int)) = false := by simp; omega
  have hAW := hA.below hb
  have hBW := hB.below hb
  have hCW := hC.below hb
  have hDW := hD.below hb
  have hkW := hk.below hb
  have hEW := hE.below hb
  clear hA hB hC hD hk hE
  obtain ⟨m, hm1, hm2⟩ := exists_mod z 300 (by omega)
  go_wp2_with fail
  refine (number_nat z 300 m W (by omega) hm1).mono ?_
  rintro e Wn ⟨rfl, mn, rfl⟩
  have hb' := hb.trans ((Below.drewNr (w := W) mn).mono hb.size)
  have hA1 := hAW.below (Below.drewNr mn)
  have hB1 := hBW.below (Below.drewNr mn)
  have hC1 := hCW.below (Below.drewNr mn)
  have hD1 := hDW.below (Below.drewNr mn)
  have hk1 : KAt (W.drewN mn) := hkW.of_block rfl
  have hE1 : ErrsAt E (W.drewN mn) := hEW.of_heap rfl
  generalize W.drewN mn = W1 at *
  clear hb hAW hBW hCW hDW hkW hEW hm1
  by_cases hneg : m < 2
  · have hN : (m : Int) - 2 < 0 := by omega
    go_wp2_with fail
    refine (derive_bad _ _ _ ((m : Int) - 2) (.inl hN) E W1 hE1).mono ?_
    rintro e W2 ⟨rfl, n2, rfl⟩
    go_wp2_with fail
    refine (dder_bad _ _ _ ((m : Int) - 2) (.inl hN) _).mono ?_
    rintro e W3 ⟨rfl, rfl⟩
    go_wp2_with fail
    refine (derive_bad _ _ _ 8161 (.inr (by decide)) E (W1.drewN n2) (hE1.of_heap rfl)).mono ?_
    rintro e W4 ⟨rfl, n4, rfl⟩
    go_upto_region 13 with (fail)
    have hbX : Below W1.heap.size W1 (W1.drewN (n2 + n4)) := Below.drewNr (w := W1) (n2 + n4)
    have hAX := hA1.below hbX
    have hBX := hB1.below hbX
    have hCX := hC1.below hbX
    have hkX := hk1.below hbX
    have hEX := hE1.below hbX
    have hbw := hb'.trans (hbX.mono hb'.size)
    generalize W1.drewN (n2 + n4) = WX at *
    clear hA1 hB1 hC1 hD1 hk1 hE1 hb' hbX hN
    have HMS : ∀ w', Below WX.heap.size WX w' → ∀ g, SlRead w' (some ⟨g, 0, none⟩) [.slice B es.length cb, .slice none 0 0, .slice C bs.length cc] →
        Calls Tryd.prog 13 #[.slice A ks.length ca, .slice (some ⟨g, 0, none⟩) 3 3] w' fun e w'' => e = .returned (.agg (arr8 32 (macOf ks (es ++ bs)))) ∧ Below w'.heap.size w' w'' := by
      intro w' hb g hs
      have hms := msum_any A ks ca (some ⟨g, 0, none⟩) [(B, es, cb), (none, [], 0), (C, bs, cc)] 3 w' (hAX.below hb) hca (by omega) hs (by
        intro a ha
        simp at ha
        rcases ha with rfl | rfl | rfl
        · exact ⟨hBX.below hb, hcb, by simp only; omega⟩
        · exact ⟨SlRead.nil_, by simp, by simp⟩
        · exact ⟨hCX.below hb, hcc, by simp only; omega⟩) (by simp) (hkX.below hb)
      rwa [show flat [(B, es, cb), (none, [], 0), (C, bs, cc)] = es ++ bs by simp [flat]] at hms
    have HMD : ∀ w', Below WX.heap.size WX w' → ∀ (A11 : Option Addr) c11, SlRead w' A11 (ints .u8 (bys (es ++ bs))) →
        Calls Tryd.prog 14 #[.slice A ks.length ca, .slice A11 (es ++ bs).length c11] w' fun e w'' => e = .returned (.agg (arr8 32 (macOf ks (es ++ bs)))) ∧ Below w'.heap.size w' w'' :=
      fun w' hb A11 c11 hs => dmac_any A ks ca A11 (es ++ bs) c11 w' (hAX.below hb) (by omega) hs (by simp; omega)
    generalize macOf ks (es ++ bs) = F at *
    have HEQ : ∀ w', Below WX.heap.size WX w' → ∀ g, SlRead w' (some ⟨g, 0, none⟩) (ints .u8 (bys es)) →
        Calls Tryd.prog 18 #[.slice B es.length cb, .slice (some ⟨g, 0, none⟩) es.length es.length] w' fun e w'' => e = .returned (.bool true) ∧ Below w'.heap.size w' w'' := by
      intro w' hb g hs
      have h := (meq_any B (some ⟨g, 0, none⟩) es es cb es.length w' (hBX.below hb) hs (by omega) (by omega)).below
      rwa [show decide (es = es) = true by simp] at h
    have HFAR : ∀ w', Below WX.heap.size WX w' → Calls Tryd.prog 17 #[errV (E 1), .int .i64 102] w' fun e w'' => e = .returned (.bool true) ∧ Below w'.heap.size w' w'' :=
      fun w' hb => is_any E (errV (E 1)) 102 102 (.inr ⟨1, by decide, rfl, rfl⟩) w' (hEX.below hb)
    refine wp_region_text [Sp.k 0 (some 69) [] (.bool true),
      Sp.k 1 (some 70) [0] (.bool true),
      Sp.k 2 (some 71) [0, 1] (.slice A ks.length ca),
      Sp.k 3 (some 72) [0, 1] (.slice B es.length cb),
      Sp.k 4 (some 73) [0, 1] (.slice C bs.length cc),
      Sp.o 5 (some 74) [0, 1, 3, 4] (SlV [.slice B es.length cb, Go.Value.slice none 0 0, .slice C bs.length cc] 3),
      Sp.k 6 (some 75) [0, 1, 2, 3, 4, 5] (.agg (arr8 32 F)),
      Sp.k 7 (some 76) [0, 1] (.slice A ks.length ca),
      Sp.k 8 (some 77) [0, 1] (.slice B es.length cb),
      Sp.o 9 (some 78) [0, 1, 2, 3, 4, 5, 6, 8] (SlEx (es)),
      Sp.k 10 (some 79) [0, 1] (.slice C bs.length cc),
      Sp.o 11 (some 80) [0, 1, 2, 3, 4, 5, 6, 8, 9, 10] (SlIs (es ++ bs)),
      Sp.k 12 (some 81) [0, 1, 2, 3, 4, 5, 6, 7, 8, 9, 10, 11] (.agg (arr8 32 F)),
      Sp.k 13 (some 82) [0, 1, 2, 3, 4, 5, 6, 7, 8, 9, 10, 11, 12] (.bool true),
      Sp.k 14 (some 83) [0, 1, 2, 3, 4, 5, 6, 7, 8, 9, 10, 11, 12, 13] (.bool true),
      Sp.k 15 (some 84) [0, 1, 2, 3, 4, 5, 6, 7, 8, 9, 10, 11, 12, 13, 14] (.bool true),
      Sp.k 16 (some 85) [0, 1, 2, 3, 4, 5, 6, 7, 8, 9, 10, 11, 12, 13, 14, 15] (.slice none 0 0),
      Sp.k 17 (some 86) [0, 1, 2, 3, 4, 5, 6, 7, 8, 9, 10, 11, 12, 13, 14, 15] (.slice none 0 0),
      Sp.k 18 (some 87) [0, 1, 2, 3, 4, 5, 6, 7, 8, 9, 10, 11, 12, 13, 14, 15, 16, 17] (.bool true),
      Sp.k 19 (some 88) [0, 1, 2, 3, 4, 5, 6, 7, 8, 9, 10, 11, 12, 13, 14, 15, 16, 17, 18] (.bool true),
      Sp.k 20 (some 89) [0, 1, 2, 3, 4, 5, 6, 7, 8, 9, 10, 11, 12, 13, 14, 15, 16, 17, 18, 19] (.bool true),
      Sp.k 21 (some 90) [0, 1, 2, 3, 4, 5, 6, 7, 8, 9, 10, 11, 12, 13, 14, 15, 16, 17, 18, 19, 20] (errV (E 1)),
      Sp.k 22 (some 91) [0, 1, 2, 3, 4, 5, 6, 7, 8, 9, 10, 11, 12, 13, 14, 15, 16, 17, 18, 19, 20] (.int .i64 102),
      Sp.k 23 (some 92) [0, 1, 2, 3, 4, 5, 6, 7, 8, 9, 10, 11, 12, 13, 14, 15, 16, 17, 18, 19, 20, 21, 22] (.bool true),
      Sp.k 24 (some 93) [0, 1, 2, 3, 4, 5, 6, 7, 8, 9, 10, 11, 12, 13, 14, 15, 16, 17, 18, 19, 20, 21, 22, 23] (.bool true),
      Sp.k 25 (some 94) [0, 1, 2, 3, 4, 5, 6, 7, 8, 9, 10, 11, 12, 13, 14, 15, 16, 17, 18, 19, 20, 21, 22, 23, 24] (.bool true),
      Sp.k 26 (some 95) [0, 1, 2, 3, 4, 5, 6, 7, 8, 9, 10, 11, 12, 13, 14, 15, 16, 17, 18, 19, 20, 21, 22, 23, 24, 25] (.slice B es.length cb),
      Sp.k 27 (some 96) [0, 1, 2, 3, 4, 5, 6, 7, 8, 9, 10, 11, 12, 13, 14, 15, 16, 17, 18, 19, 20, 21, 22, 23, 24, 25] (.slice C bs.length cc),
      Sp.k 28 (some 97) [0, 1, 2, 3, 4, 5, 6, 7, 8, 9, 10, 11, 12, 13, 14, 15, 16, 17, 18, 19, 20, 21, 22, 23, 24, 25, 26, 27] (.bool (decide (es = bs))),
      Sp.k 29 (some 98) [0, 1, 2, 3, 4, 5, 6, 7, 8, 9, 10, 11, 12, 13, 14, 15, 16, 17, 18, 19, 20, 21, 22, 23, 24, 25] (.slice B es.length cb),
      Sp.k 30 (some 99) [0, 1, 2, 3, 4, 5, 6, 7, 8, 9, 10, 11, 12, 13, 14, 15, 16, 17, 18, 19, 20, 21, 22, 23, 24, 25] (.slice C bs.length cc),
      Sp.k 31 (some 100) [0, 1, 2, 3, 4, 5, 6, 7, 8, 9, 10, 11, 12, 13, 14, 15, 16, 17, 18, 19, 20, 21, 22, 23, 24, 25, 26, 27, 28, 29, 30] (.bool (decide (es = bs))),
      Sp.k 32 (some 101) [0, 1, 2, 3, 4, 5, 6, 7, 8, 9, 10, 11, 12, 13, 14, 15, 16, 17, 18, 19, 20, 21, 22, 23, 24, 25, 26, 27, 28, 29, 30, 31] (.bool true),
      Sp.k 33 (some 102) [0, 1, 2, 3, 4, 5, 6, 7, 8, 9, 10, 11, 12, 13, 14, 15, 16, 17, 18, 19, 20, 21, 22, 23, 24, 25, 26, 27, 28, 29, 30, 31, 32] (.bool true),
      Sp.k 34 (some 103) [0, 1, 2, 3, 4, 5, 6, 7, 8, 9, 10, 11, 12, 13, 14, 15, 16, 17, 18, 19, 20, 21, 22, 23, 24, 25, 26, 27, 28, 29, 30, 31, 32, 33] (.bool true),
      Sp.k 35 (some 104) [0, 1, 2, 3, 4, 5, 6, 7, 8, 9, 10, 11, 12, 13, 14, 15, 16, 17, 18, 19, 20, 21, 22, 23, 24, 25, 26, 27, 28, 29, 30, 31, 32, 33, 34] (.slice B es.length cb),
      Sp.k 36 (some 105) [0, 1, 2, 3, 4, 5, 6, 7, 8, 9, 10, 11, 12, 13, 14, 15, 16, 17, 18, 19, 20, 21, 22, 23, 24, 25, 26, 27, 28, 29, 30, 31, 32, 33, 34] (.slice B es.length cb),
      Sp.o 37 (some 106) [0, 1, 2, 3, 4, 5, 6, 7, 8, 9, 10, 11, 12, 13, 14, 15, 16, 17, 18, 19, 20, 21, 22, 23, 24, 25, 26, 27, 28, 29, 30, 31, 32, 33, 34, 36] (SlEx (es)),
      Sp.k 38 (some 107) [0, 1, 2, 3, 4, 5, 6, 7, 8, 9, 10, 11, 12, 13, 14, 15, 16, 17, 18, 19, 20, 21, 22, 23, 24, 25, 26, 27, 28, 29, 30, 31, 32, 33, 34, 35, 36, 37] (.bool true),
      Sp.k 39 (some 108) [0, 1, 2, 3, 4, 5, 6, 7, 8, 9, 10, 11, 12, 13, 14, 15, 16, 17, 18, 19, 20, 21, 22, 23, 24, 25, 26, 27, 28, 29, 30, 31, 32, 33, 34, 35, 36, 37, 38] (.bool true),
      Sp.k 40 (some 109) [0, 1, 2, 3, 4, 5, 6, 7, 8, 9, 10, 11, 12, 13, 14, 15, 16, 17, 18, 19, 20, 21, 22, 23, 24, 25, 26, 27, 28, 29, 30, 31, 32, 33, 34, 35, 36, 37, 38, 39] (.bool true),
      Sp.k 41 (some 110) [0, 1, 2, 3, 4, 5, 6, 7, 8, 9, 10, 11, 12, 13, 14, 15, 16, 17, 18, 19, 20, 21, 22, 23, 24, 25, 26, 27, 28, 29, 30, 31, 32, 33, 34, 35, 36, 37, 38, 39, 40] (errV (E 1)),
      Sp.k 42 (some 111) [0, 1, 2, 3, 4, 5, 6, 7, 8, 9, 10, 11, 12, 13, 14, 15, 16, 17, 18, 19, 20, 21, 22, 23, 24, 25, 26, 27, 28, 29, 30, 31, 32, 33, 34, 35, 36, 37, 38, 39, 40, 41] (.bool true),
      Sp.k 43 (some 112) [0, 1, 2, 3, 4, 5, 6, 7, 8, 9, 10, 11, 12, 13, 14, 15, 16, 17, 18, 19, 20, 21, 22, 23, 24, 25, 26, 27, 28, 29, 30, 31, 32, 33, 34, 35, 36, 37, 38, 39, 40, 41, 42] (.bool true),
      Sp.k 44 (some 10) [0, 1, 2, 3, 4, 5, 6, 7, 8, 9, 10, 11, 12, 13, 14, 15, 16, 17, 18, 19, 20, 21, 22, 23, 24, 25, 26, 27, 28, 29, 30, 31, 32, 33, 34, 35, 36, 37, 38, 39, 40, 41, 42, 43] (.bool true)] (by kernel_rfl)
      ⟨owes_move 0 (some 69) [] (.bool true) (Go.Operand.tmp 11) (fun v => by kernel_rfl) (fun v => by kernel_rfl),
      owes_move 1 (some 70) [0] (.bool true) (Go.Operand.tmp 69) (fun v => by kernel_rfl) (fun v => by kernel_rfl),
      owes_move 2 (some 71) [0, 1] (.slice A ks.length ca) (Go.Operand.tmp 0) (fun v => by kernel_rfl) (fun v => by kernel_rfl),
      owes_move 3 (some 72) [0, 1] (.slice B es.length cb) (Go.Operand.tmp 1) (fun v => by kernel_rfl) (fun v => by kernel_rfl),
      owes_move 4 (some 73) [0, 1] (.slice C bs.length cc) (Go.Operand.tmp 2) (fun v => by kernel_rfl) (fun v => by kernel_rfl),
      owes_bsl 5 (some 74) [0, 1, 3, 4] (SlV [.slice B es.length cb, Go.Value.slice none 0 0, .slice C bs.length cc] 3) 46 22 3 #[(0, Go.Operand.tmp 72), (1, Go.Operand.const (Go.Value.slice none 0 0)), (2, Go.Operand.tmp 73)] (#[(0, .slice B es.length cb), (1, Go.Value.slice none 0 0), (2, .slice C bs.length cc)]) (#[.slice B es.length cb, Go.Value.slice none 0 0, .slice C bs.length cc]) (fun v => by kernel_rfl) (fun v => by kernel_rfl) (fun w => by kernel_rfl) SlV.mono (fun w' hb => ⟨_, rfl, SlRead.new_row _ _ _ rfl⟩),
      owes_call 6 (some 75) [0, 1, 2, 3, 4, 5] (.agg (arr8 32 F)) 13 #[Go.Operand.tmp 71, Go.Operand.tmp 74] #[22, 46] (fun v => by kernel_rfl) (fun _ _ => by kernel_rfl) (fun v w' hb ho => by
          obtain ⟨g5, e5, r5⟩ := ho.get 5 (some 74) [0, 1, 3, 4] (SlV [.slice B es.length cb, Go.Value.slice none 0 0, .slice C bs.length cc] 3) rfl rfl
          exact ⟨#[.slice A ks.length ca, .slice (some ⟨g5, 0, none⟩) 3 3], Eq.trans (b := #[.slice A ks.length ca, v 5]) (by kernel_rfl) (by rw [e5]), (HMS w' hb _ r5).mono (fun _ _ h => h)⟩),
      owes_move 7 (some 76) [0, 1] (.slice A ks.length ca) (Go.Operand.tmp 0) (fun v => by kernel_rfl) (fun v => by kernel_rfl),
      owes_move 8 (some 77) [0, 1] (.slice B es.length cb) (Go.Operand.tmp 1) (fun v => by kernel_rfl) (fun v => by kernel_rfl),
      owes_call_o 9 (some 78) [0, 1, 2, 3, 4, 5, 6, 8] (SlEx (es)) 15 #[Go.Operand.tmp 77] #[22] (fun v => by kernel_rfl) (fun _ _ => by kernel_rfl) SlEx.mono (fun v w' hb ho => by
          exact ⟨#[.slice B es.length cb], by kernel_rfl, (bytes_cap' B es cb w' (hBX.below hb) (by omega)).mono (fun e w1 h => ⟨_, h.1, h.2.2, _, rfl, h.2.1⟩)⟩),
      owes_move 10 (some 79) [0, 1] (.slice C bs.length cc) (Go.Operand.tmp 2) (fun v => by kernel_rfl) (fun v => by kernel_rfl),
      owes_append 11 (some 80) [0, 1, 2, 3, 4, 5, 6, 8, 9, 10] (SlIs (es ++ bs)) (Go.Operand.tmp 78) (Go.Operand.tmp 79) 22 22 22 (fun v => by kernel_rfl) (by kernel_rfl) SlIs.mono (fun v w' hb ho => by
          obtain ⟨g9, e9, r9⟩ := ho.get 9 (some 78) [0, 1, 2, 3, 4, 5, 6, 8] (SlEx (es)) rfl rfl
          obtain ⟨A11, c11, w11, h1, h2, h3, h4⟩ := run_app_full 22 w' g9 es C bs cc r9 (hCX.below hb) (by omega)
          exact ⟨_, _, _, _, Eq.trans (b := v 9) (by kernel_rfl) e9, by kernel_rfl, h1, h4, A11, c11, rfl, h2, h3⟩),
      owes_call 12 (some 81) [0, 1, 2, 3, 4, 5, 6, 7, 8, 9, 10, 11] (.agg (arr8 32 F)) 14 #[Go.Operand.tmp 76, Go.Operand.tmp 80] #[22, 22] (fun v => by kernel_rfl) (fun _ _ => by kernel_rfl) (fun v w' hb ho => by
          obtain ⟨A11, c11, e11, l11, r11⟩ := ho.get 11 (some 80) [0, 1, 2, 3, 4, 5, 6, 8, 9, 10] (SlIs (es ++ bs)) rfl rfl
          exact ⟨#[.slice A ks.length ca, .slice A11 (es ++ bs).length c11], Eq.trans (b := #[.slice A ks.length ca, v 11]) (by kernel_rfl) (by rw [e11]), (HMD w' hb _ _ r11).mono (fun _ _ h => h)⟩),
      owes_eql 13 (some 82) [0, 1, 2, 3, 4, 5, 6, 7, 8, 9, 10, 11, 12] 32 (Go.Operand.tmp 75) (Go.Operand.tmp 81) 32 (arr8 32 F) (arr8 32 F) true (fun v => by kernel_rfl) (fun v => by kernel_rfl) (by kernel_rfl) (equal32 F),
      owes_pick 14 (some 83) [0, 1, 2, 3, 4, 5, 6, 7, 8, 9, 10, 11, 12, 13] (.bool true) (Go.Operand.tmp 70) (Go.Operand.tmp 82) (Go.Operand.const (Go.Value.bool false)) true (fun v => by kernel_rfl) (fun v => by kernel_rfl) (fun v => by kernel_rfl),
      owes_move 15 (some 84) [0, 1, 2, 3, 4, 5, 6, 7, 8, 9, 10, 11, 12, 13, 14] (.bool true) (Go.Operand.tmp 83) (fun v => by kernel_rfl) (fun v => by kernel_rfl),
      owes_move 16 (some 85) [0, 1, 2, 3, 4, 5, 6, 7, 8, 9, 10, 11, 12, 13, 14, 15] (.slice none 0 0) (Go.Operand.tmp 12) (fun v => by kernel_rfl) (fun v => by kernel_rfl),
      owes_move 17 (some 86) [0, 1, 2, 3, 4, 5, 6, 7, 8, 9, 10, 11, 12, 13, 14, 15] (.slice none 0 0) (Go.Operand.tmp 14) (fun v => by kernel_rfl) (fun v => by kernel_rfl),
      owes_call 18 (some 87) [0, 1, 2, 3, 4, 5, 6, 7, 8, 9, 10, 11, 12, 13, 14, 15, 16, 17] (.bool true) 16 #[Go.Operand.tmp 85, Go.Operand.tmp 86] #[22, 22] (fun v => by kernel_rfl) (fun _ _ => by kernel_rfl) (fun v w' hb ho => by
          exact ⟨#[.slice none 0 0, .slice none 0 0], by kernel_rfl, ((same_bys none none [] [] 0 0 w' SlRead.nil_ SlRead.nil_ (by simp) (by simp)).below).mono (fun _ _ h => h)⟩),
      owes_pick 19 (some 88) [0, 1, 2, 3, 4, 5, 6, 7, 8, 9, 10, 11, 12, 13, 14, 15, 16, 17, 18] (.bool true) (Go.Operand.tmp 84) (Go.Operand.tmp 87) (Go.Operand.const (Go.Value.bool false)) true (fun v => by kernel_rfl) (fun v => by kernel_rfl) (fun v => by kernel_rfl),
      owes_move 20 (some 89) [0, 1, 2, 3, 4, 5, 6, 7, 8, 9, 10, 11, 12, 13, 14, 15, 16, 17, 18, 19] (.bool true) (Go.Operand.tmp 88) (fun v => by kernel_rfl) (fun v => by kernel_rfl),
      owes_move 21 (some 90) [0, 1, 2, 3, 4, 5, 6, 7, 8, 9, 10, 11, 12, 13, 14, 15, 16, 17, 18, 19, 20] (errV (E 1)) (Go.Operand.tmp 13) (fun v => by kernel_rfl) (fun v => by kernel_rfl),
      owes_move 22 (some 91) [0, 1, 2, 3, 4, 5, 6, 7, 8, 9, 10, 11, 12, 13, 14, 15, 16, 17, 18, 19, 20] (.int .i64 102) (Go.Operand.tmp 16) (fun v => by kernel_rfl) (fun v => by kernel_rfl),
      owes_call 23 (some 92) [0, 1, 2, 3, 4, 5, 6, 7, 8, 9, 10, 11, 12, 13, 14, 15, 16, 17, 18, 19, 20, 21, 22] (.bool true) 17 #[Go.Operand.tmp 90, Go.Operand.tmp 91] #[26, 3] (fun v => by kernel_rfl) (fun _ _ => by kernel_rfl) (fun v w' hb ho => by
          exact ⟨#[errV (E 1), .int .i64 102], by kernel_rfl, (HFAR w' hb).mono (fun _ _ h => h)⟩),
      owes_pick 24 (some 93) [0, 1, 2, 3, 4, 5, 6, 7, 8, 9, 10, 11, 12, 13, 14, 15, 16, 17, 18, 19, 20, 21, 22, 23] (.bool true) (Go.Operand.tmp 89) (Go.Operand.tmp 92) (Go.Operand.const (Go.Value.bool false)) true (fun v => by kernel_rfl) (fun v => by kernel_rfl) (fun v => by kernel_rfl),
      owes_move 25 (some 94) [0, 1, 2, 3, 4, 5, 6, 7, 8, 9, 10, 11, 12, 13, 14, 15, 16, 17, 18, 19, 20, 21, 22, 23, 24] (.bool true) (Go.Operand.tmp 93) (fun v => by kernel_rfl) (fun v => by kernel_rfl),
      owes_move 26 (some 95) [0, 1, 2, 3, 4, 5, 6, 7, 8, 9, 10, 11, 12, 13, 14, 15, 16, 17, 18, 19, 20, 21, 22, 23, 24, 25] (.slice B es.length cb) (Go.Operand.tmp 1) (fun v => by kernel_rfl) (fun v => by kernel_rfl),
      owes_move 27 (some 96) [0, 1, 2, 3, 4, 5, 6, 7, 8, 9, 10, 11, 12, 13, 14, 15, 16, 17, 18, 19, 20, 21, 22, 23, 24, 25] (.slice C bs.length cc) (Go.Operand.tmp 2) (fun v => by kernel_rfl) (fun v => by kernel_rfl),
      owes_call 28 (some 97) [0, 1, 2, 3, 4, 5, 6, 7, 8, 9, 10, 11, 12, 13, 14, 15, 16, 17, 18, 19, 20, 21, 22, 23, 24, 25, 26, 27] (.bool (decide (es = bs))) 18 #[Go.Operand.tmp 95, Go.Operand.tmp 96] #[22, 22] (fun v => by kernel_rfl) (fun _ _ => by kernel_rfl) (fun v w' hb ho => by
          exact ⟨#[.slice B es.length cb, .slice C bs.length cc], by kernel_rfl, ((meq_any B C es bs cb cc w' (hBX.below hb) (hCX.below hb) (by omega) (by omega)).below).mono (fun _ _ h => h)⟩),
      owes_move 29 (some 98) [0, 1, 2, 3, 4, 5, 6, 7, 8, 9, 10, 11, 12, 13, 14, 15, 16, 17, 18, 19, 20, 21, 22, 23, 24, 25] (.slice B es.length cb) (Go.Operand.tmp 1) (fun v => by kernel_rfl) (fun v => by kernel_rfl),
      owes_move 30 (some 99) [0, 1, 2, 3, 4, 5, 6, 7, 8, 9, 10, 11, 12, 13, 14, 15, 16, 17, 18, 19, 20, 21, 22, 23, 24, 25] (.slice C bs.length cc) (Go.Operand.tmp 2) (fun v => by kernel_rfl) (fun v => by kernel_rfl),
      owes_call 31 (some 100) [0, 1, 2, 3, 4, 5, 6, 7, 8, 9, 10, 11, 12, 13, 14, 15, 16, 17, 18, 19, 20, 21, 22, 23, 24, 25, 26, 27, 28, 29, 30] (.bool (decide (es = bs))) 16 #[Go.Operand.tmp 98, Go.Operand.tmp 99] #[22, 22] (fun v => by kernel_rfl) (fun _ _ => by kernel_rfl) (fun v w' hb ho => by
          exact ⟨#[.slice B es.length cb, .slice C bs.length cc], by kernel_rfl, ((same_bys B C es bs cb cc w' (hBX.below hb) (hCX.below hb) (by omega) (by omega)).below).mono (fun _ _ h => h)⟩),
      owes_bin 32 (some 101) [0, 1, 2, 3, 4, 5, 6, 7, 8, 9, 10, 11, 12, 13, 14, 15, 16, 17, 18, 19, 20, 21, 22, 23, 24, 25, 26, 27, 28, 29, 30, 31] (.bool true) Go.BinOp.eql 4 (Go.Operand.tmp 97) (Go.Operand.tmp 100) 4 (.bool (decide (es = bs))) (.bool (decide (es = bs))) (fun v => by kernel_rfl) (fun v => by kernel_rfl) (eql_bool _ _ _),
      owes_pick 33 (some 102) [0, 1, 2, 3, 4, 5, 6, 7, 8, 9, 10, 11, 12, 13, 14, 15, 16, 17, 18, 19, 20, 21, 22, 23, 24, 25, 26, 27, 28, 29, 30, 31, 32] (.bool true) (Go.Operand.tmp 94) (Go.Operand.tmp 101) (Go.Operand.const (Go.Value.bool false)) true (fun v => by kernel_rfl) (fun v => by kernel_rfl) (fun v => by kernel_rfl),
      owes_move 34 (some 103) [0, 1, 2, 3, 4, 5, 6, 7, 8, 9, 10, 11, 12, 13, 14, 15, 16, 17, 18, 19, 20, 21, 22, 23, 24, 25, 26, 27, 28, 29, 30, 31, 32, 33] (.bool true) (Go.Operand.tmp 102) (fun v => by kernel_rfl) (fun v => by kernel_rfl),
      owes_move 35 (some 104) [0, 1, 2, 3, 4, 5, 6, 7, 8, 9, 10, 11, 12, 13, 14, 15, 16, 17, 18, 19, 20, 21, 22, 23, 24, 25, 26, 27, 28, 29, 30, 31, 32, 33, 34] (.slice B es.length cb) (Go.Operand.tmp 1) (fun v => by kernel_rfl) (fun v => by kernel_rfl),
      owes_move 36 (some 105) [0, 1, 2, 3, 4, 5, 6, 7, 8, 9, 10, 11, 12, 13, 14, 15, 16, 17, 18, 19, 20, 21, 22, 23, 24, 25, 26, 27, 28, 29, 30, 31, 32, 33, 34] (.slice B es.length cb) (Go.Operand.tmp 1) (fun v => by kernel_rfl) (fun v => by kernel_rfl),
      owes_call_o 37 (some 106) [0, 1, 2, 3, 4, 5, 6, 7, 8, 9, 10, 11, 12, 13, 14, 15, 16, 17, 18, 19, 20, 21, 22, 23, 24, 25, 26, 27, 28, 29, 30, 31, 32, 33, 34, 36] (SlEx (es)) 15 #[Go.Operand.tmp 105] #[22] (fun v => by kernel_rfl) (fun _ _ => by kernel_rfl) SlEx.mono (fun v w' hb ho => by
          exact ⟨#[.slice B es.length cb], by kernel_rfl, (bytes_cap' B es cb w' (hBX.below hb) (by omega)).mono (fun e w1 h => ⟨_, h.1, h.2.2, _, rfl, h.2.1⟩)⟩),
      owes_call 38 (some 107) [0, 1, 2, 3, 4, 5, 6, 7, 8, 9, 10, 11, 12, 13, 14, 15, 16, 17, 18, 19, 20, 21, 22, 23, 24, 25, 26, 27, 28, 29, 30, 31, 32, 33, 34, 35, 36, 37] (.bool true) 18 #[Go.Operand.tmp 104, Go.Operand.tmp 106] #[22, 22] (fun v => by kernel_rfl) (fun _ _ => by kernel_rfl) (fun v w' hb ho => by
          obtain ⟨g37, e37, r37⟩ := ho.get 37 (some 106) [0, 1, 2, 3, 4, 5, 6, 7, 8, 9, 10, 11, 12, 13, 14, 15, 16, 17, 18, 19, 20, 21, 22, 23, 24, 25, 26, 27, 28, 29, 30, 31, 32, 33, 34, 36] (SlEx (es)) rfl rfl
          exact ⟨#[.slice B es.length cb, .slice (some ⟨g37, 0, none⟩) (es).length (es).length], Eq.trans (b := #[.slice B es.length cb, v 37]) (by kernel_rfl) (by rw [e37]), (HEQ w' hb _ r37).mono (fun _ _ h => h)⟩),
      owes_pick 39 (some 108) [0, 1, 2, 3, 4, 5, 6, 7, 8, 9, 10, 11, 12, 13, 14, 15, 16, 17, 18, 19, 20, 21, 22, 23, 24, 25, 26, 27, 28, 29, 30, 31, 32, 33, 34, 35, 36, 37, 38] (.bool true) (Go.Operand.tmp 103) (Go.Operand.tmp 107) (Go.Operand.const (Go.Value.bool false)) true (fun v => by kernel_rfl) (fun v => by kernel_rfl) (fun v => by kernel_rfl),
      owes_move 40 (some 109) [0, 1, 2, 3, 4, 5, 6, 7, 8, 9, 10, 11, 12, 13, 14, 15, 16, 17, 18, 19, 20, 21, 22, 23, 24, 25, 26, 27, 28, 29, 30, 31, 32, 33, 34, 35, 36, 37, 38, 39] (.bool true) (Go.Operand.tmp 108) (fun v => by kernel_rfl) (fun v => by kernel_rfl),
      owes_move 41 (some 110) [0, 1, 2, 3, 4, 5, 6, 7, 8, 9, 10, 11, 12, 13, 14, 15, 16, 17, 18, 19, 20, 21, 22, 23, 24, 25, 26, 27, 28, 29, 30, 31, 32, 33, 34, 35, 36, 37, 38, 39, 40] (errV (E 1)) (Go.Operand.tmp 18) (fun v => by kernel_rfl) (fun v => by kernel_rfl),
      owes_call 42 (some 111) [0, 1, 2, 3, 4, 5, 6, 7, 8, 9, 10, 11, 12, 13, 14, 15, 16, 17, 18, 19, 20, 21, 22, 23, 24, 25, 26, 27, 28, 29, 30, 31, 32, 33, 34, 35, 36, 37, 38, 39, 40, 41] (.bool true) 17 #[Go.Operand.tmp 110, Go.Operand.const (Go.Value.int Go.IntKind.i64 102)] #[26, 3] (fun v => by kernel_rfl) (fun _ _ => by kernel_rfl) (fun v w' hb ho => by
          exact ⟨#[errV (E 1), Go.Value.int Go.IntKind.i64 102], by kernel_rfl, (HFAR w' hb).mono (fun _ _ h => h)⟩),
      owes_pick 43 (some 112) [0, 1, 2, 3, 4, 5, 6, 7, 8, 9, 10, 11, 12, 13, 14, 15, 16, 17, 18, 19, 20, 21, 22, 23, 24, 25, 26, 27, 28, 29, 30, 31, 32, 33, 34, 35, 36, 37, 38, 39, 40, 41, 42] (.bool true) (Go.Operand.tmp 109) (Go.Operand.tmp 111) (Go.Operand.const (Go.Value.bool false)) true (fun v => by kernel_rfl) (fun v => by kernel_rfl) (fun v => by kernel_rfl),
      owes_assign 44 (some 10) [0, 1, 2, 3, 4, 5, 6, 7, 8, 9, 10, 11, 12, 13, 14, 15, 16, 17, 18, 19, 20, 21, 22, 23, 24, 25, 26, 27, 28, 29, 30, 31, 32, 33, 34, 35, 36, 37, 38, 39, 40, 41, 42, 43] (.bool true) (Go.Operand.tmp 112) (fun v => by kernel_rfl) (fun v => by kernel_rfl), trivial⟩ ?_
    intro v w' hb hall
    clear hall HMS HMD HEQ HFAR
    simp only [putsK_k, putsK_o, putsK_nil, Act.put, List.setIfInBounds_toArray, List.set_cons_zero, List.set_cons_succ]
    go_wp2_with fail
    go_ret
    exact ⟨rfl, hbw.trans (hb.mono hbw.size)⟩
  · obtain ⟨n, hn⟩ : ∃ n : Nat, (m : Int) - 2 = n := ⟨m - 2, by omega⟩
    have hn8 : n ≤ 8160 := by omega
    have hder := derive_any B es cb A ks ca D fs cd n W1 hB1 hcb (by omega) hA1 hca (by omega) hD1 hcd (by omega) (by omega) hk1
    go_upto_region 7 with (fail)
    try rw [hn]
    go_wp2_with fail
    refine hder.mono ?_
    rintro e W2 ⟨O, rfl, hO, hb2⟩
    have hdd := dder_any B es cb A ks ca D fs cd n W2 (hB1.below hb2) (by omega) (hA1.below hb2) (by omega) (hD1.below hb2) (by omega) (by omega)
    go_wp2_with fail
    refine hdd.mono ?_
    rintro e W3 ⟨O2, c2, rfl, hO2, hb3⟩
    have hE3 := (hE1.below hb2).below hb3
    go_wp2_with fail
    refine (derive_bad _ _ _ 8161 (.inr (by decide)) E W3 hE3).mono ?_
    rintro e W4 ⟨rfl, n4, rfl⟩
    have hbX : Below W1.heap.size W1 (W3.drewN n4) := (hb2.trans (hb3.mono hb2.size)).trans ((Below.drewNr (w := W3) n4).mono (hb2.trans (hb3.mono hb2.size)).size)
    have hAX := hA1.below hbX
    have hBX := hB1.below hbX
    have hCX := hC1.below hbX
    have hkX := hk1.below hbX
    have hEX := hE1.below hbX
    have hOX : SlRead (W3.drewN n4) O (ints .u8 (bys (hkdf es ks fs n))) := (hO.below hb3).below (Below.drewNr n4)
    have hYX : SlRead (W3.drewN n4) O2 (ints .u8 (bys (hkdf es ks fs n))) := hO2.below (Below.drewNr n4)
    have hbw := hb'.trans (hbX.mono hb'.size)
    have hxl := hkdf_len es ks fs n
    generalize W3.drewN n4 = WX at *
    generalize hkdf es ks fs n = xs at *
    have HXL := Lib.hid hxl; clear hxl
    have HN := Lib.hid hn; clear hn
    clear hA1 hB1 hC1 hD1 hk1 hE1 hO hO2 hb2 hb3 hE3 hdd hder hb' hbX
    have HMS : ∀ w', Below WX.heap.size WX w' → ∀ g, SlRead w' (some ⟨g, 0, none⟩) [.slice B es.length cb, .slice none 0 0, .slice C bs.length cc] →
        Calls Tryd.prog 13 #[.slice A ks.length ca, .slice (some ⟨g, 0, none⟩) 3 3] w' fun e w'' => e = .returned (.agg (arr8 32 (macOf ks (es ++ bs)))) ∧ Below w'.heap.size w' w'' := by
      intro w' hb g hs
      have hms := msum_any A ks ca (some ⟨g, 0, none⟩) [(B, es, cb), (none, [], 0), (C, bs, cc)] 3 w' (hAX.below hb) hca (by omega) hs (by
        intro a ha
        simp at ha
        rcases ha with rfl | rfl | rfl
        · exact ⟨hBX.below hb, hcb, by simp only; omega⟩
        · exact ⟨SlRead.nil_, by simp, by simp⟩
        · exact ⟨hCX.below hb, hcc, by simp only; omega⟩) (by simp) (hkX.below hb)
      rwa [show flat [(B, es, cb), (none, [], 0), (C, bs, cc)] = es ++ bs by simp [flat]] at hms
    have HMD : ∀ w', Below WX.heap.size WX w' → ∀ (A11 : Option Addr) c11, SlRead w' A11 (ints .u8 (bys (es ++ bs))) →
        Calls Tryd.prog 14 #[.slice A ks.length ca, .slice A11 (es ++ bs).length c11] w' fun e w'' => e = .returned (.agg (arr8 32 (macOf ks (es ++ bs)))) ∧ Below w'.heap.size w' w'' :=
      fun w' hb A11 c11 hs => dmac_any A ks ca A11 (es ++ bs) c11 w' (hAX.below hb) (by omega) hs (by simp; omega)
    generalize macOf ks (es ++ bs) = F at *
    have HEQ : ∀ w', Below WX.heap.size WX w' → ∀ g, SlRead w' (some ⟨g, 0, none⟩) (ints .u8 (bys es)) →
        Calls Tryd.prog 18 #[.slice B es.length cb, .slice (some ⟨g, 0, none⟩) es.length es.length] w' fun e w'' => e = .returned (.bool true) ∧ Below w'.heap.size w' w'' := by
      intro w' hb g hs
      have h := (meq_any B (some ⟨g, 0, none⟩) es es cb es.length w' (hBX.below hb) hs (by omega) (by omega)).below
      rwa [show decide (es = es) = true by simp] at h
    have HFAR : ∀ w', Below WX.heap.size WX w' → Calls Tryd.prog 17 #[errV (E 1), .int .i64 102] w' fun e w'' => e = .returned (.bool true) ∧ Below w'.heap.size w' w'' :=
      fun w' hb => is_any E (errV (E 1)) 102 102 (.inr ⟨1, by decide, rfl, rfl⟩) w' (hEX.below hb)
    have HSM : ∀ w', Below WX.heap.size WX w' → Calls Tryd.prog 16 #[.slice O n n, .slice O2 n c2] w' fun e w'' => e = .returned (.bool true) ∧ Below w'.heap.size w' w'' := by
      intro w' hb
      have h := (same_bys O O2 xs xs n c2 w' (hOX.below hb) (hYX.below hb) (by rw [HXL.out]; omega) (by rw [HXL.out]; omega)).below
      rwa [HXL.out, show decide (xs = xs) = true by simp] at h
    have HNIL : ∀ w', Below WX.heap.size WX w' → Calls Tryd.prog 17 #[Value.nilIface, .int .i64 0] w' fun e w'' => e = .returned (.bool true) ∧ Below w'.heap.size w' w'' :=
      fun w' hb => is_any E Value.nilIface 0 0 (.inl ⟨rfl, rfl⟩) w' (hEX.below hb)
    go_upto_region 13 with (fail)
    refine wp_region_text [Sp.k 0 (some 69) [] (.bool true),
      Sp.k 1 (some 70) [0] (.bool true),
      Sp.k 2 (some 71) [0, 1] (.slice A ks.length ca),
      Sp.k 3 (some 72) [0, 1] (.slice B es.length cb),
      Sp.k 4 (some 73) [0, 1] (.slice C bs.length cc),
      Sp.o 5 (some 74) [0, 1, 3, 4] (SlV [.slice B es.length cb, Go.Value.slice none 0 0, .slice C bs.length cc] 3),
      Sp.k 6 (some 75) [0, 1, 2, 3, 4, 5] (.agg (arr8 32 F)),
      Sp.k 7 (some 76) [0, 1] (.slice A ks.length ca),
      Sp.k 8 (some 77) [0, 1] (.slice B es.length cb),
      Sp.o 9 (some 78) [0, 1, 2, 3, 4, 5, 6, 8] (SlEx (es)),
      Sp.k 10 (some 79) [0, 1] (.slice C bs.length cc),
      Sp.o 11 (some 80) [0, 1, 2, 3, 4, 5, 6, 8, 9, 10] (SlIs (es ++ bs)),
      Sp.k 12 (some 81) [0, 1, 2, 3, 4, 5, 6, 7, 8, 9, 10, 11] (.agg (arr8 32 F)),
      Sp.k 13 (some 82) [0, 1, 2, 3, 4, 5, 6, 7, 8, 9, 10, 11, 12] (.bool true),
      Sp.k 14 (some 83) [0, 1, 2, 3, 4, 5, 6, 7, 8, 9, 10, 11, 12, 13] (.bool true),
      Sp.k 15 (some 84) [0, 1, 2, 3, 4, 5, 6, 7, 8, 9, 10, 11, 12, 13, 14] (.bool true),
      Sp.k 16 (some 85) [0, 1, 2, 3, 4, 5, 6, 7, 8, 9, 10, 11, 12, 13, 14, 15] (.slice O n n),
      Sp.k 17 (some 86) [0, 1, 2, 3, 4, 5, 6, 7, 8, 9, 10, 11, 12, 13, 14, 15] (.slice O2 n c2),
      Sp.k 18 (some 87) [0, 1, 2, 3, 4, 5, 6, 7, 8, 9, 10, 11, 12, 13, 14, 15, 16, 17] (.bool true),
      Sp.k 19 (some 88) [0, 1, 2, 3, 4, 5, 6, 7, 8, 9, 10, 11, 12, 13, 14, 15, 16, 17, 18] (.bool true),
      Sp.k 20 (some 89) [0, 1, 2, 3, 4, 5, 6, 7, 8, 9, 10, 11, 12, 13, 14, 15, 16, 17, 18, 19] (.bool true),
      Sp.k 21 (some 90) [0, 1, 2, 3, 4, 5, 6, 7, 8, 9, 10, 11, 12, 13, 14, 15, 16, 17, 18, 19, 20] (Value.nilIface),
      Sp.k 22 (some 91) [0, 1, 2, 3, 4, 5, 6, 7, 8, 9, 10, 11, 12, 13, 14, 15, 16, 17, 18, 19, 20] (.int .i64 0),
      Sp.k 23 (some 92) [0, 1, 2, 3, 4, 5, 6, 7, 8, 9, 10, 11, 12, 13, 14, 15, 16, 17, 18, 19, 20, 21, 22] (.bool true),
      Sp.k 24 (some 93) [0, 1, 2, 3, 4, 5, 6, 7, 8, 9, 10, 11, 12, 13, 14, 15, 16, 17, 18, 19, 20, 21, 22, 23] (.bool true),
      Sp.k 25 (some 94) [0, 1, 2, 3, 4, 5, 6, 7, 8, 9, 10, 11, 12, 13, 14, 15, 16, 17, 18, 19, 20, 21, 22, 23, 24] (.bool true),
      Sp.k 26 (some 95) [0, 1, 2, 3, 4, 5, 6, 7, 8, 9, 10, 11, 12, 13, 14, 15, 16, 17, 18, 19, 20, 21, 22, 23, 24, 25] (.slice B es.length cb),
      Sp.k 27 (some 96) [0, 1, 2, 3, 4, 5, 6, 7, 8, 9, 10, 11, 12, 13, 14, 15, 16, 17, 18, 19, 20, 21, 22, 23, 24, 25] (.slice C bs.length cc),
      Sp.k 28 (some 97) [0, 1, 2, 3, 4, 5, 6, 7, 8, 9, 10, 11, 12, 13, 14, 15, 16, 17, 18, 19, 20, 21, 22, 23, 24, 25, 26, 27] (.bool (decide (es = bs))),
      Sp.k 29 (some 98) [0, 1, 2, 3, 4, 5, 6, 7, 8, 9, 10, 11, 12, 13, 14, 15, 16, 17, 18, 19, 20, 21, 22, 23, 24, 25] (.slice B es.length cb),
      Sp.k 30 (some 99) [0, 1, 2, 3, 4, 5, 6, 7, 8, 9, 10, 11, 12, 13, 14, 15, 16, 17, 18, 19, 20, 21, 22, 23, 24, 25] (.slice C bs.length cc),
      Sp.k 31 (some 100) [0, 1, 2, 3, 4, 5, 6, 7, 8, 9, 10, 11, 12, 13, 14, 15, 16, 17, 18, 19, 20, 21, 22, 23, 24, 25, 26, 27, 28, 29, 30] (.bool (decide (es = bs))),
      Sp.k 32 (some 101) [0, 1, 2, 3, 4, 5, 6, 7, 8, 9, 10, 11, 12, 13, 14, 15, 16, 17, 18, 19, 20, 21, 22, 23, 24, 25, 26, 27, 28, 29, 30, 31] (.bool true),
      Sp.k 33 (some 102) [0, 1, 2, 3, 4, 5, 6, 7, 8, 9, 10, 11, 12, 13, 14, 15, 16, 17, 18, 19, 20, 21, 22, 23, 24, 25, 26, 27, 28, 29, 30, 31, 32] (.bool true),
      Sp.k 34 (some 103) [0, 1, 2, 3, 4, 5, 6, 7, 8, 9, 10, 11, 12, 13, 14, 15, 16, 17, 18, 19, 20, 21, 22, 23, 24, 25, 26, 27, 28, 29, 30, 31, 32, 33] (.bool true),
      Sp.k 35 (some 104) [0, 1, 2, 3, 4, 5, 6, 7, 8, 9, 10, 11, 12, 13, 14, 15, 16, 17, 18, 19, 20, 21, 22, 23, 24, 25, 26, 27, 28, 29, 30, 31, 32, 33, 34] (.slice B es.length cb),
      Sp.k 36 (some 105) [0, 1, 2, 3, 4, 5, 6, 7, 8, 9, 10, 11, 12, 13, 14, 15, 16, 17, 18, 19, 20, 21, 22, 23, 24, 25, 26, 27, 28, 29, 30, 31, 32, 33, 34] (.slice B es.length cb),
      Sp.o 37 (some 106) [0, 1, 2, 3, 4, 5, 6, 7, 8, 9, 10, 11, 12, 13, 14, 15, 16, 17, 18, 19, 20, 21, 22, 23, 24, 25, 26, 27, 28, 29, 30, 31, 32, 33, 34, 36] (SlEx (es)),
      Sp.k 38 (some 107) [0, 1, 2, 3, 4, 5, 6, 7, 8, 9, 10, 11, 12, 13, 14, 15, 16, 17, 18, 19, 20, 21, 22, 23, 24, 25, 26, 27, 28, 29, 30, 31, 32, 33, 34, 35, 36, 37] (.bool true),
      Sp.k 39 (some 108) [0, 1, 2, 3, 4, 5, 6, 7, 8, 9, 10, 11, 12, 13, 14, 15, 16, 17, 18, 19, 20, 21, 22, 23, 24, 25, 26, 27, 28, 29, 30, 31, 32, 33, 34, 35, 36, 37, 38] (.bool true),
      Sp.k 40 (some 109) [0, 1, 2, 3, 4, 5, 6, 7, 8, 9, 10, 11, 12, 13, 14, 15, 16, 17, 18, 19, 20, 21, 22, 23, 24, 25, 26, 27, 28, 29, 30, 31, 32, 33, 34, 35, 36, 37, 38, 39] (.bool true),
      Sp.k 41 (some 110) [0, 1, 2, 3, 4, 5, 6, 7, 8, 9, 10, 11, 12, 13, 14, 15, 16, 17, 18, 19, 20, 21, 22, 23, 24, 25, 26, 27, 28, 29, 30, 31, 32, 33, 34, 35, 36, 37, 38, 39, 40] (errV (E 1)),
      Sp.k 42 (some 111) [0, 1, 2, 3, 4, 5, 6, 7, 8, 9, 10, 11, 12, 13, 14, 15, 16, 17, 18, 19, 20, 21, 22, 23, 24, 25, 26, 27, 28, 29, 30, 31, 32, 33, 34, 35, 36, 37, 38, 39, 40, 41] (.bool true),
      Sp.k 43 (some 112) [0, 1, 2, 3, 4, 5, 6, 7, 8, 9, 10, 11, 12, 13, 14, 15, 16, 17, 18, 19, 20, 21, 22, 23, 24, 25, 26, 27, 28, 29, 30, 31, 32, 33, 34, 35, 36, 37, 38, 39, 40, 41, 42] (.bool true),
      Sp.k 44 (some 10) [0, 1, 2, 3, 4, 5, 6, 7, 8, 9, 10, 11, 12, 13, 14, 15, 16, 17, 18, 19, 20, 21, 22, 23, 24, 25, 26, 27, 28, 29, 30, 31, 32, 33, 34, 35, 36, 37, 38, 39, 40, 41, 42, 43] (.bool true)] (by kernel_rfl)
      ⟨owes_move 0 (some 69) [] (.bool true) (Go.Operand.tmp 11) (fun v => by kernel_rfl) (fun v => by kernel_rfl),
      owes_move 1 (some 70) [0] (.bool true) (Go.Operand.tmp 69) (fun v => by kernel_rfl) (fun v => by kernel_rfl),
      owes_move 2 (some 71) [0, 1] (.slice A ks.length ca) (Go.Operand.tmp 0) (fun v => by kernel_rfl) (fun v => by kernel_rfl),
      owes_move 3 (some 72) [0, 1] (.slice B es.length cb) (Go.Operand.tmp 1) (fun v => by kernel_rfl) (fun v => by kernel_rfl),
      owes_move 4 (some 73) [0, 1] (.slice C bs.length cc) (Go.Operand.tmp 2) (fun v => by kernel_rfl) (fun v => by kernel_rfl),
      owes_bsl 5 (some 74) [0, 1, 3, 4] (SlV [.slice B es.length cb, Go.Value.slice none 0 0, .slice C bs.length cc] 3) 46 22 3 #[(0, Go.Operand.tmp 72), (1, Go.Operand.const (Go.Value.slice none 0 0)), (2, Go.Operand.tmp 73)] (#[(0, .slice B es.length cb), (1, Go.Value.slice none 0 0), (2, .slice C bs.length cc)]) (#[.slice B es.length cb, Go.Value.slice none 0 0, .slice C bs.length cc]) (fun v => by kernel_rfl) (fun v => by kernel_rfl) (fun w => by kernel_rfl) SlV.mono (fun w' hb => ⟨_, rfl, SlRead.new_row _ _ _ rfl⟩),
      owes_call 6 (some 75) [0, 1, 2, 3, 4, 5] (.agg (arr8 32 F)) 13 #[Go.Operand.tmp 71, Go.Operand.tmp 74] #[22, 46] (fun v => by kernel_rfl) (fun _ _ => by kernel_rfl) (fun v w' hb ho => by
          obtain ⟨g5, e5, r5⟩ := ho.get 5 (some 74) [0, 1, 3, 4] (SlV [.slice B es.length cb, Go.Value.slice none 0 0, .slice C bs.length cc] 3) rfl rfl
          exact ⟨#[.slice A ks.length ca, .slice (some ⟨g5, 0, none⟩) 3 3], Eq.trans (b := #[.slice A ks.length ca, v 5]) (by kernel_rfl) (by rw [e5]), (HMS w' hb _ r5).mono (fun _ _ h => h)⟩),
      owes_move 7 (some 76) [0, 1] (.slice A ks.length ca) (Go.Operand.tmp 0) (fun v => by kernel_rfl) (fun v => by kernel_rfl),
      owes_move 8 (some 77) [0, 1] (.slice B es.length cb) (Go.Operand.tmp 1) (fun v => by kernel_rfl) (fun v => by kernel_rfl),
      owes_call_o 9 (some 78) [0, 1, 2, 3, 4, 5, 6, 8] (SlEx (es)) 15 #[Go.Operand.tmp 77] #[22] (fun v => by kernel_rfl) (fun _ _ => by kernel_rfl) SlEx.mono (fun v w' hb ho => by
          exact ⟨#[.slice B es.length cb], by kernel_rfl, (bytes_cap' B es cb w' (hBX.below hb) (by omega)).mono (fun e w1 h => ⟨_, h.1, h.2.2, _, rfl, h.2.1⟩)⟩),
      owes_move 10 (some 79) [0, 1] (.slice C bs.length cc) (Go.Operand.tmp 2) (fun v => by kernel_rfl) (fun v => by kernel_rfl),
      owes_append 11 (some 80) [0, 1, 2, 3, 4, 5, 6, 8, 9, 10] (SlIs (es ++ bs)) (Go.Operand.tmp 78) (Go.Operand.tmp 79) 22 22 22 (fun v => by kernel_rfl) (by kernel_rfl) SlIs.mono (fun v w' hb ho => by
          obtain ⟨g9, e9, r9⟩ := ho.get 9 (some 78) [0, 1, 2, 3, 4, 5, 6, 8] (SlEx (es)) rfl rfl
          obtain ⟨A11, c11, w11, h1, h2, h3, h4⟩ := run_app_full 22 w' g9 es C bs cc r9 (hCX.below hb) (by omega)
          exact ⟨_, _, _, _, Eq.trans (b := v 9) (by kernel_rfl) e9, by kernel_rfl, h1, h4, A11, c11, rfl, h2, h3⟩),
      owes_call 12 (some 81) [0, 1, 2, 3, 4, 5, 6, 7, 8, 9, 10, 11] (.agg (arr8 32 F)) 14 #[Go.Operand.tmp 76, Go.Operand.tmp 80] #[22, 22] (fun v => by kernel_rfl) (fun _ _ => by kernel_rfl) (fun v w' hb ho => by
          obtain ⟨A11, c11, e11, l11, r11⟩ := ho.get 11 (some 80) [0, 1, 2, 3, 4, 5, 6, 8, 9, 10] (SlIs (es ++ bs)) rfl rfl
          exact ⟨#[.slice A ks.length ca, .slice A11 (es ++ bs).length c11], Eq.trans (b := #[.slice A ks.length ca, v 11]) (by kernel_rfl) (by rw [e11]), (HMD w' hb _ _ r11).mono (fun _ _ h => h)⟩),
      owes_eql 13 (some 82) [0, 1, 2, 3, 4, 5, 6, 7, 8, 9, 10, 11, 12] 32 (Go.Operand.tmp 75) (Go.Operand.tmp 81) 32 (arr8 32 F) (arr8 32 F) true (fun v => by kernel_rfl) (fun v => by kernel_rfl) (by kernel_rfl) (equal32 F),
      owes_pick 14 (some 83) [0, 1, 2, 3, 4, 5, 6, 7, 8, 9, 10, 11, 12, 13] (.bool true) (Go.Operand.tmp 70) (Go.Operand.tmp 82) (Go.Operand.const (Go.Value.bool false)) true (fun v => by kernel_rfl) (fun v => by kernel_rfl) (fun v => by kernel_rfl),
      owes_move 15 (some 84) [0, 1, 2, 3, 4, 5, 6, 7, 8, 9, 10, 11, 12, 13, 14] (.bool true) (Go.Operand.tmp 83) (fun v => by kernel_rfl) (fun v => by kernel_rfl),
      owes_move 16 (some 85) [0, 1, 2, 3, 4, 5, 6, 7, 8, 9, 10, 11, 12, 13, 14, 15] (.slice O n n) (Go.Operand.tmp 12) (fun v => by kernel_rfl) (fun v => by kernel_rfl),
      owes_move 17 (some 86) [0, 1, 2, 3, 4, 5, 6, 7, 8, 9, 10, 11, 12, 13, 14, 15] (.slice O2 n c2) (Go.Operand.tmp 14) (fun v => by kernel_rfl) (fun v => by kernel_rfl),
      owes_call 18 (some 87) [0, 1, 2, 3, 4, 5, 6, 7, 8, 9, 10, 11, 12, 13, 14, 15, 16, 17] (.bool true) 16 #[Go.Operand.tmp 85, Go.Operand.tmp 86] #[22, 22] (fun v => by kernel_rfl) (fun _ _ => by kernel_rfl) (fun v w' hb ho => by
          exact ⟨#[.slice O n n, .slice O2 n c2], by kernel_rfl, (HSM w' hb).mono (fun _ _ h => h)⟩),
      owes_pick 19 (some 88) [0, 1, 2, 3, 4, 5, 6, 7, 8, 9, 10, 11, 12, 13, 14, 15, 16, 17, 18] (.bool true) (Go.Operand.tmp 84) (Go.Operand.tmp 87) (Go.Operand.const (Go.Value.bool false)) true (fun v => by kernel_rfl) (fun v => by kernel_rfl) (fun v => by kernel_rfl),
      owes_move 20 (some 89) [0, 1, 2, 3, 4, 5, 6, 7, 8, 9, 10, 11, 12, 13, 14, 15, 16, 17, 18, 19] (.bool true) (Go.Operand.tmp 88) (fun v => by kernel_rfl) (fun v => by kernel_rfl),
      owes_move 21 (some 90) [0, 1, 2, 3, 4, 5, 6, 7, 8, 9, 10, 11, 12, 13, 14, 15, 16, 17, 18, 19, 20] (Value.nilIface) (Go.Operand.tmp 13) (fun v => by kernel_rfl) (fun v => by kernel_rfl),
      owes_move 22 (some 91) [0, 1, 2, 3, 4, 5, 6, 7, 8, 9, 10, 11, 12, 13, 14, 15, 16, 17, 18, 19, 20] (.int .i64 0) (Go.Operand.tmp 16) (fun v => by kernel_rfl) (fun v => by kernel_rfl),
      owes_call 23 (some 92) [0, 1, 2, 3, 4, 5, 6, 7, 8, 9, 10, 11, 12, 13, 14, 15, 16, 17, 18, 19, 20, 21, 22] (.bool true) 17 #[Go.Operand.tmp 90, Go.Operand.tmp 91] #[26, 3] (fun v => by kernel_rfl) (fun _ _ => by kernel_rfl) (fun v w' hb ho => by
          exact ⟨#[Value.nilIface, .int .i64 0], by kernel_rfl, (HNIL w' hb).mono (fun _ _ h => h)⟩),
      owes_pick 24 (some 93) [0, 1, 2, 3, 4, 5, 6, 7, 8, 9, 10, 11, 12, 13, 14, 15, 16, 17, 18, 19, 20, 21, 22, 23] (.bool true) (Go.Operand.tmp 89) (Go.Operand.tmp 92) (Go.Operand.const (Go.Value.bool false)) true (fun v => by kernel_rfl) (fun v => by kernel_rfl) (fun v => by kernel_rfl),
      owes_move 25 (some 94) [0, 1, 2, 3, 4, 5, 6, 7, 8, 9, 10, 11, 12, 13, 14, 15, 16, 17, 18, 19, 20, 21, 22, 23, 24] (.bool true) (Go.Operand.tmp 93) (fun v => by kernel_rfl) (fun v => by kernel_rfl),
      owes_move 26 (some 95) [0, 1, 2, 3, 4, 5, 6, 7, 8, 9, 10, 11, 12, 13, 14, 15, 16, 17, 18, 19, 20, 21, 22, 23, 24, 25] (.slice B es.length cb) (Go.Operand.tmp 1) (fun v => by kernel_rfl) (fun v => by kernel_rfl),
      owes_move 27 (some 96) [0, 1, 2, 3, 4, 5, 6, 7, 8, 9, 10, 11, 12, 13, 14, 15, 16, 17, 18, 19, 20, 21, 22, 23, 24, 25] (.slice C bs.length cc) (Go.Operand.tmp 2) (fun v => by kernel_rfl) (fun v => by kernel_rfl),
      owes_call 28 (some 97) [0, 1, 2, 3, 4, 5, 6, 7, 8, 9, 10, 11, 12, 13, 14, 15, 16, 17, 18, 19, 20, 21, 22, 23, 24, 25, 26, 27] (.bool (decide (es = bs))) 18 #[Go.Operand.tmp 95, Go.Operand.tmp 96] #[22, 22] (fun v => by kernel_rfl) (fun _ _ => by kernel_rfl) (fun v w' hb ho => by
          exact ⟨#[.slice B es.length cb, .slice C bs.length cc], by kernel_rfl, ((meq_any B C es bs cb cc w' (hBX.below hb) (hCX.below hb) (by omega) (by omega)).below).mono (fun _ _ h => h)⟩),
      owes_move 29 (some 98) [0, 1, 2, 3, 4, 5, 6, 7, 8, 9, 10, 11, 12, 13, 14, 15, 16, 17, 18, 19, 20, 21, 22, 23, 24, 25] (.slice B es.length cb) (Go.Operand.tmp 1) (fun v => by kernel_rfl) (fun v => by kernel_rfl),
      owes_move 30 (some 99) [0, 1, 2, 3, 4, 5, 6, 7, 8, 9, 10, 11, 12, 13, 14, 15, 16, 17, 18, 19, 20, 21, 22, 23, 24, 25] (.slice C bs.length cc) (Go.Operand.tmp 2) (fun v => by kernel_rfl) (fun v => by kernel_rfl),
      owes_call 31 (some 100) [0, 1, 2, 3, 4, 5, 6, 7, 8, 9, 10, 11, 12, 13, 14, 15, 16, 17, 18, 19, 20, 21, 22, 23, 24, 25, 26, 27, 28, 29, 30] (.bool (decide (es = bs))) 16 #[Go.Operand.tmp 98, Go.Operand.tmp 99] #[22, 22] (fun v => by kernel_rfl) (fun _ _ => by kernel_rfl) (fun v w' hb ho => by
          exact ⟨#[.slice B es.length cb, .slice C bs.length cc], by kernel_rfl, ((same_bys B C es bs cb cc w' (hBX.below hb) (hCX.below hb) (by omega) (by omega)).below).mono (fun _ _ h => h)⟩),
      owes_bin 32 (some 101) [0, 1, 2, 3, 4, 5, 6, 7, 8, 9, 10, 11, 12, 13, 14, 15, 16, 17, 18, 19, 20, 21, 22, 23, 24, 25, 26, 27, 28, 29, 30, 31] (.bool true) Go.BinOp.eql 4 (Go.Operand.tmp 97) (Go.Operand.tmp 100) 4 (.bool (decide (es = bs))) (.bool (decide (es = bs))) (fun v => by kernel_rfl) (fun v => by kernel_rfl) (eql_bool _ _ _),
      owes_pick 33 (some 102) [0, 1, 2, 3, 4, 5, 6, 7, 8, 9, 10, 11, 12, 13, 14, 15, 16, 17, 18, 19, 20, 21, 22, 23, 24, 25, 26, 27, 28, 29, 30, 31, 32] (.bool true) (Go.Operand.tmp 94) (Go.Operand.tmp 101) (Go.Operand.const (Go.Value.bool false)) true (fun v => by kernel_rfl) (fun v => by kernel_rfl) (fun v => by kernel_rfl),
      owes_move 34 (some 103) [0, 1, 2, 3, 4, 5, 6, 7, 8, 9, 10, 11, 12, 13, 14, 15, 16, 17, 18, 19, 20, 21, 22, 23, 24, 25, 26, 27, 28, 29, 30, 31, 32, 33] (.bool true) (Go.Operand.tmp 102) (fun v => by kernel_rfl) (fun v => by kernel_rfl),
      owes_move 35 (some 104) [0, 1, 2, 3, 4, 5, 6, 7, 8, 9, 10, 11, 12, 13, 14, 15, 16, 17, 18, 19, 20, 21, 22, 23, 24, 25, 26, 27, 28, 29, 30, 31, 32, 33, 34] (.slice B es.length cb) (Go.Operand.tmp 1) (fun v => by kernel_rfl) (fun v => by kernel_rfl),
      owes_move 36 (some 105) [0, 1, 2, 3, 4, 5, 6, 7, 8, 9, 10, 11, 12, 13, 14, 15, 16, 17, 18, 19, 20, 21, 22, 23, 24, 25, 26, 27, 28, 29, 30, 31, 32, 33, 34] (.slice B es.length cb) (Go.Operand.tmp 1) (fun v => by kernel_rfl) (fun v => by kernel_rfl),
      owes_call_o 37 (some 106) [0, 1, 2, 3, 4, 5, 6, 7, 8, 9, 10, 11, 12, 13, 14, 15, 16, 17, 18, 19, 20, 21, 22, 23, 24, 25, 26, 27, 28, 29, 30, 31, 32, 33, 34, 36] (SlEx (es)) 15 #[Go.Operand.tmp 105] #[22] (fun v => by kernel_rfl) (fun _ _ => by kernel_rfl) SlEx.mono (fun v w' hb ho => by
          exact ⟨#[.slice B es.length cb], by kernel_rfl, (bytes_cap' B es cb w' (hBX.below hb) (by omega)).mono (fun e w1 h => ⟨_, h.1, h.2.2, _, rfl, h.2.1⟩)⟩),
      owes_call 38 (some 107) [0, 1, 2, 3, 4, 5, 6, 7, 8, 9, 10, 11, 12, 13, 14, 15, 16, 17, 18, 19, 20, 21, 22, 23, 24, 25, 26, 27, 28, 29, 30, 31, 32, 33, 34, 35, 36, 37] (.bool true) 18 #[Go.Operand.tmp 104, Go.Operand.tmp 106] #[22, 22] (fun v => by kernel_rfl) (fun _ _ => by kernel_rfl) (fun v w' hb ho => by
          obtain ⟨g37, e37, r37⟩ := ho.get 37 (some 106) [0, 1, 2, 3, 4, 5, 6, 7, 8, 9, 10, 11, 12, 13, 14, 15, 16, 17, 18, 19, 20, 21, 22, 23, 24, 25, 26, 27, 28, 29, 30, 31, 32, 33, 34, 36] (SlEx (es)) rfl rfl
          exact ⟨#[.slice B es.length cb, .slice (some ⟨g37, 0, none⟩) (es).length (es).length], Eq.trans (b := #[.slice B es.length cb, v 37]) (by kernel_rfl) (by rw [e37]), (HEQ w' hb _ r37).mono (fun _ _ h => h)⟩),
      owes_pick 39 (some 108) [0, 1, 2, 3, 4, 5, 6, 7, 8, 9, 10, 11, 12, 13, 14, 15, 16, 17, 18, 19, 20, 21, 22, 23, 24, 25, 26, 27, 28, 29, 30, 31, 32, 33, 34, 35, 36, 37, 38] (.bool true) (Go.Operand.tmp 103) (Go.Operand.tmp 107) (Go.Operand.const (Go.Value.bool false)) true (fun v => by kernel_rfl) (fun v => by kernel_rfl) (fun v => by kernel_rfl),
      owes_move 40 (some 109) [0, 1, 2, 3, 4, 5, 6, 7, 8, 9, 10, 11, 12, 13, 14, 15, 16, 17, 18, 19, 20, 21, 22, 23, 24, 25, 26, 27, 28, 29, 30, 31, 32, 33, 34, 35, 36, 37, 38, 39] (.bool true) (Go.Operand.tmp 108) (fun v => by kernel_rfl) (fun v => by kernel_rfl),
      owes_move 41 (some 110) [0, 1, 2, 3, 4, 5, 6, 7, 8, 9, 10, 11, 12, 13, 14, 15, 16, 17, 18, 19, 20, 21, 22, 23, 24, 25, 26, 27, 28, 29, 30, 31, 32, 33, 34, 35, 36, 37, 38, 39, 40] (errV (E 1)) (Go.Operand.tmp 18) (fun v => by kernel_rfl) (fun v => by kernel_rfl),
      owes_call 42 (some 111) [0, 1, 2, 3, 4, 5, 6, 7, 8, 9, 10, 11, 12, 13, 14, 15, 16, 17, 18, 19, 20, 21, 22, 23, 24, 25, 26, 27, 28, 29, 30, 31, 32, 33, 34, 35, 36, 37, 38, 39, 40, 41] (.bool true) 17 #[Go.Operand.tmp 110, Go.Operand.const (Go.Value.int Go.IntKind.i64 102)] #[26, 3] (fun v => by kernel_rfl) (fun _ _ => by kernel_rfl) (fun v w' hb ho => by
          exact ⟨#[errV (E 1), Go.Value.int Go.IntKind.i64 102], by kernel_rfl, (HFAR w' hb).mono (fun _ _ h => h)⟩),
      owes_pick 43 (some 112) [0, 1, 2, 3, 4, 5, 6, 7, 8, 9, 10, 11, 12, 13, 14, 15, 16, 17, 18, 19, 20, 21, 22, 23, 24, 25, 26, 27, 28, 29, 30, 31, 32, 33, 34, 35, 36, 37, 38, 39, 40, 41, 42] (.bool true) (Go.Operand.tmp 109) (Go.Operand.tmp 111) (Go.Operand.const (Go.Value.bool false)) true (fun v => by kernel_rfl) (fun v => by kernel_rfl) (fun v => by kernel_rfl),
      owes_assign 44 (some 10) [0, 1, 2, 3, 4, 5, 6, 7, 8, 9, 10, 11, 12, 13, 14, 15, 16, 17, 18, 19, 20, 21, 22, 23, 24, 25, 26, 27, 28, 29, 30, 31, 32, 33, 34, 35, 36, 37, 38, 39, 40, 41, 42, 43] (.bool true) (Go.Operand.tmp 112) (fun v => by kernel_rfl) (fun v => by kernel_rfl), trivial⟩ ?_
    intro v w' hb hall
    clear hall HMS HMD HEQ HFAR HSM HNIL
    simp only [putsK_k, putsK_o, putsK_nil, Act.put, List.setIfInBounds_toArray, List.set_cons_zero, List.set_cons_succ]
    go_wp2_with fail
    go_ret
    exact ⟨rfl, hbw.trans (hb.mono hbw.size)⟩
end Go.Proofs.YtplmliomhpgfpaaDoor
