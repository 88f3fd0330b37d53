import Derived.Test.YtihnpcoiadbpiaaDoorTrt
namespace Go.Proofs.YtihnpcoiadbpiaaDoor
open Go.RowKit

theorem spl_eq (n q j : Nat) (hq : q = 2 ^ j) (h1 : q < n) (h2 : n ≤ 2 * q) : spl n = q := by
  have hl : IsLen (n - 1) (j + 1) := ⟨by rw [Nat.pow_succ, ← hq]; omega, .inr (by rw [Nat.add_sub_cancel, ← hq]; omega)⟩
  have hb := IsLen.uniq (isLen_bl8 (n - 1)) hl
  have hn : ¬ n < 2 := by
    have : 0 < q := by rw [hq]; exact Nat.two_pow_pos j
    omega
  unfold spl
  rw [if_neg hn, hb, Nat.add_sub_cancel, hq]
set_option maxHeartbeats 800000 in
theorem dsplit_any (n : Int) (hn : n ≤ 4611686018427387904) (w : World) :
    Calls Tryd.prog 20 #[.int .i64 n] w fun e w' => e = .returned (.int .i64 (spl n.toNat : Int)) ∧ Below w.heap.size w w' := by
  by_cases h2 : n < 2
  · have hs : spl n.toNat = 0 := by unfold spl; rw [if_pos (by omega)]
    rw [hs]
    clear hs
    go_enter Tryd.func20, Tryd.ntmps20
    go_wp2_with fail
    go_ret
    exact ⟨rfl, Below.refl _ _⟩
  · obtain ⟨x, rfl⟩ : ∃ x : Nat, n = (x : Int) := ⟨n.toNat, by omega⟩
    rw [Int.toNat_natCast]
    have b2 : decide ((x : Int) < 2) = false := by simp; omega
    go_enter Tryd.func20, Tryd.ntmps20
    go_wp2_with fail
    go_loop [3] (fun p => ∃ q : Nat, p = .int .i64 q ∧ q < x ∧ ∃ j, q = 2 ^ j) (fun p => x - (intOf p).toNat)
    case atStart => exact ⟨1, rfl, by omega, 0, rfl⟩
    case round =>
      obtain ⟨q, rfl, hq, hj⟩ := hrel
      have hq0 : 0 < q := by
        obtain ⟨j, e⟩ := hj
        rw [e]; exact Nat.two_pow_pos j
      by_cases hlt : (q : Int) < (x : Int) - q
      · go_wp2_with fail
        go_round
        case rel =>
          obtain ⟨j, e⟩ := hj
          exact ⟨2 * q, by go_num, by omega, j + 1, by rw [Nat.pow_succ, e]; omega⟩
        case measure => simp [intOf]; omega
      · have hfin : spl x = q := by
          obtain ⟨j, e⟩ := hj
          exact spl_eq x q j e hq (by omega)
        have HF := Lib.hid hfin; clear hfin
        go_wp2_with fail
        go_ret
        exact ⟨by rw [HF.out]; rfl, Below.refl _ _⟩

set_option maxRecDepth 100000 in
set_option maxHeartbeats 800000 in
theorem drootn_any_small (hs : List (Nat → BitVec 8)) (A : Option Addr) (cap : Nat) (w : World) (hn : hs.length < 2) (hA : SlRead w A (hcells hs)) (hc : hs.length ≤ cap) (_hcap : hs.length ≤ 4611686018427387904) :
    Calls Tryd.prog 16 #[.slice A hs.length cap] w fun e w' => e = .returned (.agg (arr8 32 (rootOf hs))) ∧ Below w.heap.size w w' := by
  rcases hs with _ | ⟨h, hs⟩
  · have hr : rootOf [] = shaOf [] := rfl
    rw [hr]
    have e0 : (((0 : Nat) : Int) == 0) = true := by decide
    simp only [List.length_nil]
    go_enter Tryd.func16, Tryd.ntmps16
    go_wp2_with fail
    refine (dsum_any none [] 0 _ SlRead.nil_ (by simp)).mono ?_
    rintro e W ⟨rfl, hb⟩
    have hx := (rowIs_new w (Array.replicate 32 (.int .u8 0)) 24 w.heap.size 32 (fun _ => .int .u8 0) rfl (by simp) (fun i hi => by simp [hi])).of_block (hb.block _ (by simp))
    have hbb : Below w.heap.size w W := ((Below.refl _ _).alloc (Nat.le_refl _) _).trans (hb.mono (by simp))
    obtain ⟨ox, hx3, hx4, _⟩ := hx
    generalize hF : shaOf [] = F at *
    have HF := Lib.hid hF; clear hF
    have hbs := below_setRow (g := w.heap.size) hbb (Nat.le_refl _) (arr8 32 F)
    clear hb hbb
    go_wp2_with (refine wpList_store_row rfl 24 _ _ rfl _ (arr8 32 F) rfl rfl _ _ hx3 (by kernel_rfl) (by simpa using hx4) (arr8_one _ _) ?_)
    refine bodyPost_ret (results_cell_row rfl _ _ _ _ _ _ _ rfl (setRow_heap _ _ _ _ _ _ hx3) Tryd.underlying24 rfl (by kernel_rfl)) rfl ?_
    rw [HF.out]
    exact ⟨rfl, hbs⟩
  · obtain rfl : hs = [] := List.eq_nil_of_length_eq_zero (by simp at hn; omega)
    have hr : rootOf [h] = h := rfl
    rw [hr]
    clear hr
    simp only [List.length_cons, List.length_nil, Nat.zero_add] at hc ⊢
    obtain ⟨b, o, rfl, hblt, hcell⟩ := hA (by rw [hcells_length]; simp)
    have hrg : w.rangeAt b o (arr8 32 h).toList := fun j v hv => hcell j v (by simpa [hcells] using hv)
    clear hA hcell
    have e0 : (((1 : Nat) : Int) == 0) = false := by decide
    have e1 : (((1 : Nat) : Int) == 1) = true := by decide
    go_enter Tryd.func16, Tryd.ntmps16
    go_upto_region 5 with (fail)
    refine wp_world (fun W => Below w.heap.size w W ∧ W.rowIs w.heap.size 24 32 (fun _ => .int .u8 0) ∧ W.rangeAt b o (arr8 32 h).toList ∧ b < W.heap.size) ?_ ?_
    · have hb0 : Below w.heap.size w (w.alloc (.cells (Array.replicate 32 (.int .u8 0)) 24)) := (Below.refl _ _).alloc (Nat.le_refl _) _
      exact ⟨hb0, rowIs_new w (Array.replicate 32 (.int .u8 0)) 24 w.heap.size 32 (fun _ => .int .u8 0) rfl (by simp) (fun i hi => by simp [hi]), fun j v hv => (hb0.cell (p := ⟨b, o + j, none⟩) hblt).trans (hrg j v hv), Nat.lt_of_lt_of_le hblt hb0.size⟩
    rintro W ⟨hb0, hx, hrg0, hbW⟩
    have HLD : ∀ w', Below W.heap.size W w' → (Instr.loadAt 24 (.pointer (some ⟨b, o, none⟩))).run Tryd.prog w' = .ok (.agg (arr8 32 h)) w' := by
      intro w' hb
      have := load_row (P := Tryd.prog) 24 b o (arr8 32 h).toList _ Tryd.underlying24 rfl (by simp only [Array.length_toList, arr8_size]; kernel_rfl) w' (fun j v hv => (hb.cell (p := ⟨b, o + j, none⟩) hbW).trans (hrg0 j v hv))
      simpa using this
    clear hrg hrg0
    refine wp_region_text_tail 3 [Sp.k 0 (some 11) [] (.slice (some ⟨b, o, none⟩) 1 cap),
      Sp.k 1 (some 12) [0] (.pointer (some ⟨b, o, none⟩)),
      Sp.k 2 (some 13) [1] (.agg (arr8 32 h))] (by kernel_rfl)
      ⟨owes_move 0 (some 11) [] (.slice (some ⟨b, o, none⟩) 1 cap) (Go.Operand.tmp 0) (fun v => by kernel_rfl) (fun v => by kernel_rfl),
      owes_index 1 (some 12) [0] (.pointer (some ⟨b, o, none⟩)) 26 (Go.Operand.tmp 11) (Go.Operand.const (Go.Value.int Go.IntKind.i64 0)) (.slice (some ⟨b, o, none⟩) 1 cap) (Go.Value.int Go.IntKind.i64 0) (fun v => by kernel_rfl) (fun v => by kernel_rfl) (idx32_0 b o 1 cap (by omega)),
      owes_load 2 (some 13) [1] (.agg (arr8 32 h)) 24 (Go.Operand.tmp 12) (.pointer (some ⟨b, o, none⟩)) (fun v => by kernel_rfl) (fun v => by kernel_rfl) (fun w' hb => HLD w' hb), trivial⟩ ?_
    intro v w' hb' hall
    clear hall HLD
    simp only [putsL_k, putsL_nil, List.set_cons_zero, List.set_cons_succ]
    simp only [List.drop_succ_cons, List.drop_zero]
    have hbb : Below w.heap.size w w' := hb0.trans (hb'.mono hb0.size)
    obtain ⟨ox, hx3, hx4, _⟩ := hx.of_block (hb'.block _ hx.lt)
    have hbs := below_setRow (g := w.heap.size) hbb (Nat.le_refl _) (arr8 32 h)
    clear hbb hb' hb0 hx
    refine wpList_store_row rfl 24 _ _ rfl w.heap.size (arr8 32 h) rfl rfl _ _ hx3 (by kernel_rfl) (by simpa using hx4) (arr8_one _ _) ?_
    go_wp2_with fail
    refine bodyPost_ret (results_cell_row rfl _ _ _ _ _ _ _ rfl (setRow_heap _ _ _ _ _ _ hx3) Tryd.underlying24 rfl (by kernel_rfl)) rfl ?_
    exact ⟨rfl, hbs⟩

set_option maxRecDepth 100000 in
set_option maxHeartbeats 1600000 in
theorem drootn_any (n : Nat) : ∀ (hs : List (Nat → BitVec 8)) (A : Option Addr) (cap : Nat) (w : World), hs.length ≤ n → SlRead w A (hcells hs) → hs.length ≤ cap → hs.length ≤ 4611686018427387904 → 
    Calls Tryd.prog 16 #[.slice A hs.length cap] w fun e w' => e = .returned (.agg (arr8 32 (rootOf hs))) ∧ Below w.heap.size w w' := by
  induction n with
  | zero => exact fun hs A cap w h1 h2 h3 h4 => drootn_any_small hs A cap w (by omega) h2 h3 h4
  | succ n ih =>
  intro hs A cap w hn hA hc hcap
  by_cases hsm : hs.length < 2
  · exact drootn_any_small hs A cap w hsm hA hc hcap
  obtain ⟨b, o, rfl, hblt, hcell⟩ := hA (by rw [hcells_length]; omega)
  have hA : SlRead w (some ⟨b, o, none⟩) (hcells hs) := fun _ => ⟨b, o, rfl, hblt, hcell⟩
  clear hblt hcell
  have hsp := spl_spec hs.length (by omega)
  have hrt := rootOf_two hs (by omega)
  have htl : (hs.take (spl hs.length)).length = spl hs.length := by rw [List.length_take]; omega
  have hdl : (hs.drop (spl hs.length)).length = hs.length - spl hs.length := by rw [List.length_drop]
  have hkpos : 0 < spl hs.length := by omega
  have ihL := fun w' h => ih (hs.take (spl hs.length)) (some ⟨b, o, none⟩) cap w' (by omega) h (by omega) (by omega)
  have ihR := fun w' h => ih (hs.drop (spl hs.length)) (some ⟨b, o + 32 * spl hs.length, none⟩) (cap - spl hs.length) w' (by omega) h (by omega) (by omega)
  rw [htl] at ihL
  rw [hdl] at ihR
  have hAL := fun w' (h : SlRead w' (some ⟨b, o, none⟩) (hcells hs)) => h.htake (spl hs.length) (by omega)
  have hAR := fun w' (h : SlRead w' (some ⟨b, o, none⟩) (hcells hs)) => h.hdrop (spl hs.length) (by omega)
  rw [hrt]
  generalize hm : hs.length = m at *
  generalize hkk : spl m = k at *
  generalize rootOf (hs.take k) = FL at *
  generalize rootOf (hs.drop k) = FR at *
  have HK := Lib.hid hkk
  have hspl : ∀ W : World, Calls Tryd.prog 20 #[.int .i64 (m : Int)] W fun e w' => e = .returned (.int .i64 (k : Int)) ∧ Below W.heap.size W w' := by
    intro W
    have := dsplit_any (m : Int) (by omega) W
    rwa [Int.toNat_natCast, HK.out] at this
  clear hkk hm htl hdl hrt ih hsm
  have e0 : ((m : Int) == 0) = false := by simp; omega
  have e1 : ((m : Int) == 1) = false := by simp; omega
  go_enter Tryd.func16, Tryd.ntmps16
  go_upto_region 6 with (fail)
  refine wp_world (fun W => Below w.heap.size w W ∧ W.rowIs w.heap.size 24 32 (fun _ => .int .u8 0)) ?_ ?_
  · exact ⟨(Below.refl _ _).alloc (Nat.le_refl _) _, rowIs_new w (Array.replicate 32 (.int .u8 0)) 24 w.heap.size 32 (fun _ => .int .u8 0) rfl (by simp) (fun i hi => by simp [hi])⟩
  rintro W ⟨hb, hx⟩
  have hA := hA.below hb
  skip
  generalize hB : w.heap.size = B at *
  have HB := Lib.hid hB; clear hB
  go_wp2_with fail
  refine (hspl W).mono ?_
  rintro e W1 ⟨rfl, hb1⟩
  have hBW : B ≤ W.heap.size := by have := hx.lt; omega
  have hA := hA.below hb1
  skip
  have hx := hx.of_block (hb1.block _ hx.lt)
  have hb := hb.trans (hb1.mono hBW)
  clear hspl hb1
  go_upto_region 7 with (fail)
  have hAd : SlRead W1.drew (some ⟨b, o, none⟩) (hcells hs) := hA.below (Below.drewNr (w := W1) 1)
  skip
  have HL : ∀ w', Below W1.drew.heap.size W1.drew w' → Calls Tryd.prog 16 #[.slice (some ⟨b, o, none⟩) k cap] w' fun e w'' => e = .returned (.agg (arr8 32 FL)) ∧ Below w'.heap.size w' w'' := fun w' hb => ihL w' (hAL w' (hAd.below hb))
  have HR : ∀ w', Below W1.drew.heap.size W1.drew w' → Calls Tryd.prog 16 #[.slice (some ⟨b, o + 32 * k, none⟩) (m - k) (cap - k)] w' fun e w'' => e = .returned (.agg (arr8 32 FR)) ∧ Below w'.heap.size w' w'' := fun w' hb => ihR w' (hAR w' (hAd.below hb))
  have HN : ∀ w', Below W1.drew.heap.size W1.drew w' → Calls Tryd.prog 29 #[.agg (arr8 32 FL), .agg (arr8 32 FR)] w' fun e w'' => e = .returned (.agg (arr8 32 (nodeOf FL FR))) ∧ Below w'.heap.size w' w'' := fun w' hb => dnode_any FL FR w'
  generalize hF : nodeOf FL FR = F at *
  have HF := Lib.hid hF; clear hF
  clear ihL ihR hAL hAR
  refine wp_region_spec_tail 9 [Sp.k 0 (some 17) [] (.slice (some ⟨b, o, none⟩) m cap),
    Sp.k 1 (some 18) [] (.int .i64 k),
    Sp.k 2 (some 19) [0, 1] (.slice (some ⟨b, o, none⟩) k cap),
    Sp.k 3 (some 20) [2] (.agg (arr8 32 FL)),
    Sp.k 4 (some 21) [] (.slice (some ⟨b, o, none⟩) m cap),
    Sp.k 5 (some 22) [] (.int .i64 k),
    Sp.k 6 (some 23) [4, 5] (.slice (some ⟨b, o + 32 * k, none⟩) (m - k) (cap - k)),
    Sp.k 7 (some 24) [6] (.agg (arr8 32 FR)),
    Sp.k 8 (some 25) [3, 7] (.agg (arr8 32 F))] (by kernel_rfl) (by kernel_rfl)
    ⟨owes_move 0 (some 17) [] (.slice (some ⟨b, o, none⟩) m cap) (Go.Operand.tmp 0) (fun v => by kernel_rfl) (fun v => by kernel_rfl),
    owes_move 1 (some 18) [] (.int .i64 k) (Go.Operand.tmp 3) (fun v => by kernel_rfl) (fun v => by kernel_rfl),
    owes_slice 2 (some 19) [0, 1] (.slice (some ⟨b, o, none⟩) k cap) 26 (Go.Operand.tmp 17) none (some (Go.Operand.tmp 18)) none (.slice (some ⟨b, o, none⟩) m cap) none (some (.int .i64 k)) none (fun v => by kernel_rfl) (fun v => by kernel_rfl) (sl32_h b o _ cap k (by omega)),
    owes_call 3 (some 20) [2] (.agg (arr8 32 FL)) 16 #[Go.Operand.tmp 19] #[26] (fun v => by kernel_rfl) (fun _ _ => by kernel_rfl) (fun v w' hb ho => by
        exact ⟨#[.slice (some ⟨b, o, none⟩) k cap], by kernel_rfl, (HL w' hb).mono (fun _ _ h => h)⟩),
    owes_move 4 (some 21) [] (.slice (some ⟨b, o, none⟩) m cap) (Go.Operand.tmp 0) (fun v => by kernel_rfl) (fun v => by kernel_rfl),
    owes_move 5 (some 22) [] (.int .i64 k) (Go.Operand.tmp 3) (fun v => by kernel_rfl) (fun v => by kernel_rfl),
    owes_slice 6 (some 23) [4, 5] (.slice (some ⟨b, o + 32 * k, none⟩) (m - k) (cap - k)) 26 (Go.Operand.tmp 21) (some (Go.Operand.tmp 22)) none none (.slice (some ⟨b, o, none⟩) m cap) (some (.int .i64 k)) none none (fun v => by kernel_rfl) (fun v => by kernel_rfl) (sl32_l b o m cap k (by omega) (by omega)),
    owes_call 7 (some 24) [6] (.agg (arr8 32 FR)) 16 #[Go.Operand.tmp 23] #[26] (fun v => by kernel_rfl) (fun _ _ => by kernel_rfl) (fun v w' hb ho => by
        exact ⟨#[.slice (some ⟨b, o + 32 * k, none⟩) (m - k) (cap - k)], by kernel_rfl, (HR w' hb).mono (fun _ _ h => h)⟩),
    owes_call 8 (some 25) [3, 7] (.agg (arr8 32 F)) 29 #[Go.Operand.tmp 20, Go.Operand.tmp 24] #[24, 24] (fun v => by kernel_rfl) (fun _ _ => by kernel_rfl) (fun v w' hb ho => by
        exact ⟨#[.agg (arr8 32 FL), .agg (arr8 32 FR)], by kernel_rfl, (HN w' hb).mono (fun _ _ h => h)⟩), trivial⟩ ?_
  intro v w' hb' hall
  clear hall HL HR HN
  have hbb : Below B w w' := hb.trans ((Below.drewNr (w := W1) 1).trans (hb'.mono (show B ≤ W1.heap.size by have := hx.lt; omega)))
  simp only [putsL_k, putsL_nil, List.set_cons_zero, List.set_cons_succ]
  simp only [List.drop_succ_cons, List.drop_zero]
  have hx2 := hx.of_block (hb'.block _ hx.lt)
  obtain ⟨ox, hx3, hx4, _⟩ := hx2
  have hbs := below_setRow (g := B) hbb (by omega) (arr8 32 F)
  clear hbb hb'
  refine wpList_store_row rfl 24 _ _ rfl B (arr8 32 F) rfl rfl _ _ hx3 (by kernel_rfl) (by simpa using hx4) (arr8_one _ _) ?_
  go_wp2_with fail
  refine bodyPost_ret (results_cell_row rfl _ _ _ _ _ _ _ rfl (setRow_heap _ _ _ _ _ _ hx3) Tryd.underlying24 rfl (by kernel_rfl)) rfl ?_
  rw [HB.out, HF.out]
  exact ⟨rfl, hbs⟩
end Go.Proofs.YtihnpcoiadbpiaaDoor
