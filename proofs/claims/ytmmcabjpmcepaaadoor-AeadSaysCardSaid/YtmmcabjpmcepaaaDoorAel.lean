import Derived.Test.YtmmcabjpmcepaaaDoorAek
/-
  AeadSays.
-/
namespace Go.Proofs.YtmmcabjpmcepaaaDoor
open Go.RowKit

/-- what the loop reads -/
structure SayF (w : World) (B : Nat) (key non : Nat → BitVec 8) (As : Nat → Option Addr) (ls : Nat → List (BitVec 8)) (cs : Nat → Nat) (G : Nat) (W : World) : Prop where
  h : HdA w B key non W
  row : W.rowIs G 25 3 (fun i => .slice (As i) (ls i).length (cs i))
  rd : ∀ i, i < 3 → SlRead W (As i) (ints .u8 (bys (ls i)))
theorem SayF.below {w : World} {B : Nat} {key non : Nat → BitVec 8} {As : Nat → Option Addr} {ls : Nat → List (BitVec 8)} {cs : Nat → Nat} {G : Nat} {W W' : World} (h : SayF w B key non As ls cs G W) (hb : Below W.heap.size W W') : SayF w B key non As ls cs G W' :=
  ⟨h.h.next hb, h.row.of_block (hb.block _ h.row.lt), fun i hi => (h.rd i hi).below hb⟩

set_option maxRecDepth 100000 in
set_option maxHeartbeats 3200000 in
theorem says_walk (E : Nat → Addr) (key non : Nat → BitVec 8) (A : Option Addr) (ad : List (BitVec 8)) (ca : Nat) (X : Option Addr) (b : List (BitVec 8)) (cx : Nat) (z : Int) (y : BitVec 8) (w : World)
    (hA : SlRead w A (ints .u8 (bys ad))) (hX : SlRead w X (ints .u8 (bys b))) (hcx : b.length ≤ cx) (hE : ErrsAt E w) :
    Calls Tryd.prog 3 #[.agg (arr8 32 key), .agg (arr8 12 non), .slice A ad.length ca, .slice X b.length cx, .int .i64 z, v8 y] w fun e w' => e = .returned (.bool true) ∧ Below w.heap.size w w' := by
  go_enter Tryd.func3, Tryd.ntmps3
  go_upto_region 1 with (fail)
  refine wp_world (HdA w w.heap.size key non) ?_ ?_
  · refine ⟨?_, ?_, ?_⟩
    · exact (rowIs_new _ _ _ _ _ _ (by simp) (by simp) (fun i hi => arr8_get 32 key i hi)).alloc _
    · exact rowIs_new _ _ _ _ _ _ (by simp) (by simp) (fun i hi => arr8_get 12 non i hi)
    · go_grown
  rintro W hW
  have hE0 := hE.below hW.b
  generalize hB : w.heap.size = B at hW ⊢
  have HB := Lib.hid hB; clear hB
  go_wp2_with fail
  refine (first_any E W hE0).mono ?_
  rintro e W1 ⟨rfl, hb1⟩
  have hW1 := hW.next hb1
  clear hW hb1 hE0
  by_cases h1 : 200 < ad.length
  · have d1 : decide ((200 : Int) < (ad.length : Int)) = true := by simp; omega
    go_wp2_with fail
    go_ret
    exact ⟨rfl, by rw [HB.out]; exact hW1.b⟩
  have d1 : decide ((200 : Int) < (ad.length : Int)) = false := by simp; omega
  by_cases h2 : 200 < b.length
  · have d2 : decide ((200 : Int) < (b.length : Int)) = true := by simp; omega
    go_wp2_with fail
    go_ret
    exact ⟨rfl, by rw [HB.out]; exact hW1.b⟩
  have d2 : decide ((200 : Int) < (b.length : Int)) = false := by simp; omega
  have hla : ad.length ≤ 1000 := by omega
  have hlx : b.length ≤ 1000 := by omega
  have hA1 : SlRead W1 A (ints .u8 (bys ad)) := hA.below (by rw [HB.out]; exact hW1.b)
  have hX1 : SlRead W1 X (ints .u8 (bys b)) := hX.below (by rw [HB.out]; exact hW1.b)
  have hk := rowIs_heap8 hW1.k
  have hn := rowIs_heap8 hW1.n
  go_wp2_with (first | (refine wpList_load_row rfl 23 _ rfl _ rfl _ _ _ _ hk Tryd.underlying23 rfl (by kernel_rfl) ?_) | (refine wpList_load_row rfl 24 _ rfl _ rfl _ _ _ _ hn Tryd.underlying24 rfl (by kernel_rfl) ?_))
  refine (seal_any key non A X ad b ca cx W1 hA1 hX1 hla hlx).mono ?_
  rintro e W2 ⟨v2, rfl, h2⟩
  clear d1 d2 h1 hk hn
  have hW2 := hW1.next h2.b
  have hBB := hW1.lt
  obtain ⟨c, hc⟩ : ∃ c, c = sealB key non ad b := ⟨_, rfl⟩
  have hcl : c.length = b.length + 16 := by rw [hc, sealB_length]
  rw [← hc] at h2
  have hcl1 : c.length ≤ 216 := by omega
  have hcl2 : 0 < c.length := by omega
  clear hcl
  obtain ⟨Ac, cc, rfl, hcc, hSc⟩ := h2.is
  have hA2 : SlRead W2 A (ints .u8 (bys ad)) := hA.below (by rw [HB.out]; exact hW2.b)
  have hX2 : SlRead W2 X (ints .u8 (bys b)) := hX.below (by rw [HB.out]; exact hW2.b)
  have hds := dseal_any key non A X ad b ca cx W2 hA2 hX2 hla hlx
  rw [← hc] at hds
  have HC := Lib.hid hc
  clear hc h2 hA1 hX1 hW1
  have hk := rowIs_heap8 hW2.k
  have hn := rowIs_heap8 hW2.n
  go_wp2_with (first | (refine wpList_load_row rfl 23 _ rfl _ rfl _ _ _ _ hk Tryd.underlying23 rfl (by kernel_rfl) ?_) | (refine wpList_load_row rfl 24 _ rfl _ rfl _ _ _ _ hn Tryd.underlying24 rfl (by kernel_rfl) ?_))
  refine hds.mono ?_
  rintro e W3 ⟨v3, rfl, h3⟩
  have hW3 := hW2.next h3.b
  have hSc3 := hSc.below h3.b
  obtain ⟨Ad, cd, rfl, hcd, hSd⟩ := h3.is
  have hsm := same_true Ac Ad c cc cd W3 hSc3 hSd (by omega)
  clear hds hk hn h3 hSc hW2 hA2 hX2
  go_wp2_with fail
  refine hsm.mono ?_
  rintro e W4 ⟨rfl, q, rfl⟩
  have hb4 : Below W3.heap.size W3 (W3.drewN q) := Below.drewNr q
  generalize W3.drewN q = W4 at hb4 ⊢
  have hW4 := hW3.next hb4
  have hSc4 := hSc3.below hb4
  clear hsm hW3 hSc3 hSd hb4 hcd
  go_wp2_with fail
  refine (bytes_own Ac c cc W4 hSc4 (by omega)).mono ?_
  rintro e W5 ⟨v5, rfl, h5⟩
  have hW5 := hW4.next h5.b
  have hSc5 := hSc4.below h5.b
  have hB5 := hW4.lt
  have hAc5 : ∀ bb o, Ac = some ⟨bb, o, none⟩ → bb < W4.heap.size := by
    intro bb o e
    obtain ⟨b', o', e2, hlt, _⟩ := hSc4 (by rw [bys_ints]; simpa using hcl2)
    rw [e] at e2
    simp only [Option.some.injEq, Addr.mk.injEq] at e2
    rw [e2.1]; exact hlt
  obtain ⟨g, cap2, rfl, hgB, hgW⟩ := h5.own.form hcl2
  have hown := h5.own
  have hcap : c.length ≤ cap2 := by
    obtain ⟨O, c', e, l, _⟩ := h5.is
    simp only [Value.slice.injEq] at e
    omega
  clear h5 hW4 hSc4
  obtain ⟨K, hK, hKl⟩ := exists_mod z c.length (by omega)
  have HK := Lib.hid hK
  clear hK
  go_wp2_with fail
  refine (number_nat z c.length K W5 (by omega) HK.out).mono ?_
  rintro e W6 ⟨rfl, q, rfl⟩
  have hb6 : Below W5.heap.size W5 (W5.drewN q) := Below.drewNr q
  generalize W5.drewN q = W6 at hb6 ⊢
  have hW6 := hW5.next hb6
  have hSc6 := hSc5.below hb6
  have hown6 := ownsRow_via hown (fun g _ hlt => hb6.block g hlt)
  have hKn : K < c.length := by omega
  obtain ⟨x, hx⟩ : ∃ x, c[K]? = some x := ⟨c[K], by simp [hKn]⟩
  have cc : W6.cell? ⟨g, K, none⟩ = some (v8 x) := by rw [hown6.cellAt K (by omega), bys_ints]; simp [hx]
  have fc := hown6.frozenAt K
  have hxy := n8_xorR x y
  have hst := own_set hown6 K (x ^^^ y)
  obtain ⟨d, hd⟩ : ∃ d, d = c.set K (x ^^^ y) := ⟨_, rfl⟩
  have hdl : d.length = c.length := by rw [hd, List.length_set]
  rw [← hd, hdl] at hst
  have hbs : Below W4.heap.size W6 (W6.setCell ⟨g, K, none⟩ (v8 (x ^^^ y))) := (Below.refl _ _).setCell hgB _
  have hW7 := hW6.later hbs hB5
  have hSc7 : SlRead (W6.setCell ⟨g, K, none⟩ (v8 (x ^^^ y))) Ac (ints .u8 (bys c)) := hSc6.only (fun bb o e => by have := hAc5 bb o e; omega) ((Only.refl g W6).setCell K _)
  have HDL := Lib.hid hdl
  clear hdl hd hx hown hown6 hW5 hW6 hSc5 hSc6 hb6 HK hbs
  go_upto_region 12 with (fail)
  refine wp_world (fun W => HdA w B key non W ∧ SlRead W Ac (ints .u8 (bys c)) ∧ SlRead W (some ⟨g, 0, none⟩) (ints .u8 (bys d))) ⟨hW7, hSc7, SlRead.of_own hst⟩ ?_
  clear hW7 hSc7 hst cc fc hxy hB5 hAc5 hgB hgW
  rintro W7 ⟨hW7, hSc7, hSd7⟩
  have hX7 : SlRead W7 X (ints .u8 (bys b)) := hX.below (by rw [HB.out]; exact hW7.b)
  go_upto_region 13 with (fail)
  have ha : Below W7.heap.size W7 (W7.alloc (.cells #[.slice X b.length cx, .slice Ac c.length cc, .slice (some ⟨g, 0, none⟩) c.length cap2] 25)) := (Below.refl _ _).alloc (Nat.le_refl _) _
  refine wp_world (fun W => ∃ As ls cs, SayF w B key non As ls cs W7.heap.size W ∧ (∀ i, i < 3 → (ls i).length ≤ 1000) ∧ ∀ i, i < 3 → (ls i).length ≤ cs i) ?_ ?_
  · have hdl := HDL.out
    refine ⟨fun i => if i = 0 then X else if i = 1 then Ac else some ⟨g, 0, none⟩, fun i => if i = 0 then b else if i = 1 then c else d, fun i => if i = 0 then cx else if i = 1 then cc else cap2, ⟨hW7.next ha, ?_, ?_⟩, ?_, ?_⟩
    · refine rowIs_new _ _ _ _ _ _ rfl (by simp) (fun i hi => ?_)
      rcases i with _ | _ | _ | i
      · rfl
      · rfl
      · simp [hdl]
      · omega
    · intro i hi
      rcases i with _ | _ | _ | i
      · exact hX7.below ha
      · exact hSc7.below ha
      · exact hSd7.below ha
      · omega
    · intro i hi
      rcases i with _ | _ | _ | i
      · simp; omega
      · simp; omega
      · simp; omega
      · omega
    · intro i hi
      rcases i with _ | _ | _ | i
      · simpa using hcx
      · simpa using hcc
      · simpa [hdl] using hcap
      · omega
  clear ha hW7 hSc7 hSd7 hX7
  rintro W8 ⟨As, ls, cs, hF8, hL, hC⟩
  have hG : W7.heap.size < W8.heap.size := hF8.row.lt
  generalize W7.heap.size = G at hF8 hG ⊢
  clear W7 hcl1 hcl2 hcc hcap HC HDL
  go_wp2_with fail
  go_loopw [18] (fun i wr => ∃ k : Nat, k ≤ 3 ∧ i = .int .i64 k ∧ Below W8.heap.size W8 wr) (fun i _ => 3 - (intOf i).toNat)
  case atStart => exact ⟨0, by omega, rfl, Below.refl _ _⟩
  case round =>
    obtain ⟨k, hk, rfl, hbr⟩ := hrel
    have hF := hF8.below hbr
    by_cases hlt : k < 3
    · go_upto_region 16 with (fail)
      obtain ⟨O1, hO1⟩ : ∃ O1, O1 = (openGot key non ad (ls k)).1 := ⟨_, rfl⟩
      obtain ⟨On, hOn⟩ : ∃ On, On = (openGot key non ad (ls k)).2 := ⟨_, rfl⟩
      have hOc := openGot_code key non ad (ls k)
      have hOl : O1.length ≤ 1000 := by have := openGot_len key non ad (ls k); have := hL k hlt; rw [hO1]; omega
      rw [← hOn] at hOc
      have HO : ∀ w', Below wr.heap.size wr w' → Calls Tryd.prog 14 #[.agg (arr8 32 key), .agg (arr8 12 non), .slice A ad.length ca, .slice (As k) (ls k).length (cs k)] w' fun e w'' => ∃ v, e = .returned v ∧ TupS O1 (errC E On) v w'' ∧ Below w'.heap.size w' w'' := fun w' hb => by
        have hF' := hF.below hb
        rw [hO1, hOn]
        exact openT (hE.below (by rw [HB.out]; exact hF'.h.b)) (hA.below (by rw [HB.out]; exact hF'.h.b)) (hF'.rd k hlt) hla (hL k hlt) (hC k hlt)
      have HD : ∀ w', Below wr.heap.size wr w' → Calls Tryd.prog 15 #[.agg (arr8 32 key), .agg (arr8 12 non), .slice A ad.length ca, .slice (As k) (ls k).length (cs k)] w' fun e w'' => ∃ v, e = .returned v ∧ TupS O1 (.int .i64 (On : Int)) v w'' ∧ Below w'.heap.size w' w'' := fun w' hb => by
        have hF' := hF.below hb
        rw [hO1, hOn]
        exact dopenT (hA.below (by rw [HB.out]; exact hF'.h.b)) (hF'.rd k hlt) hla (hL k hlt) (hC k hlt)
      clear hO1 hOn
      refine wp_region_spec [Sp.k 0 (some 72) [] (.agg (arr8 32 key)),
        Sp.k 1 (some 73) [] (.agg (arr8 12 non)),
        Sp.k 2 (some 74) [] (.slice A ad.length ca),
        Sp.k 3 (some 75) [] (.slice (some ⟨G, 0, none⟩) 3 3),
        Sp.k 4 (some 76) [] (.int .i64 ((k : Nat) : Int)),
        Sp.k 5 (some 77) [3, 4] (.pointer (some ⟨G, 0 + k, none⟩)),
        Sp.k 6 (some 78) [5] (.slice (As k) (ls k).length (cs k)),
        Sp.o 7 (some 79) [0, 1, 2, 6] (TupS (O1) (errC E On)),
        Sp.o 8 (some 71) [7] (TupS (O1) (errC E On)),
        Sp.o 9 (some 80) [8] (SlIsA (O1)),
        Sp.o 10 (some 81) [8] (fun y _ => y = errC E On),
        Sp.o 11 (some 19) [9] (SlIsA (O1)),
        Sp.o 12 (some 20) [10] (fun y _ => y = errC E On)] (by kernel_rfl) (by kernel_rfl)
        ⟨owes_load 0 (some 72) [] (.agg (arr8 32 key)) 23 (Go.Operand.tmp 6) (.pointer (some ⟨B, 0, none⟩)) (fun v => by kernel_rfl) (fun v => by kernel_rfl) (fun w' hb => key_load (hF.below (drB hb)).h.k),
        owes_load 1 (some 73) [] (.agg (arr8 12 non)) 24 (Go.Operand.tmp 7) (.pointer (some ⟨B + 1, 0, none⟩)) (fun v => by kernel_rfl) (fun v => by kernel_rfl) (fun w' hb => non_load (hF.below (drB hb)).h.n),
        owes_move 2 (some 74) [] (.slice A ad.length ca) (Go.Operand.tmp 2) (fun v => by kernel_rfl) (fun v => by kernel_rfl),
        owes_move 3 (some 75) [] (.slice (some ⟨G, 0, none⟩) 3 3) (Go.Operand.tmp 17) (fun v => by kernel_rfl) (fun v => by kernel_rfl),
        owes_move 4 (some 76) [] (.int .i64 ((k : Nat) : Int)) (Go.Operand.tmp 18) (fun v => by kernel_rfl) (fun v => by kernel_rfl),
        owes_index 5 (some 77) [3, 4] (.pointer (some ⟨G, 0 + k, none⟩)) 31 (Go.Operand.tmp 75) (Go.Operand.tmp 76) (.slice (some ⟨G, 0, none⟩) 3 3) (.int .i64 ((k : Nat) : Int)) (fun v => by kernel_rfl) (fun v => by kernel_rfl) (idx_sl (P := Tryd.prog) Tryd.underlying31 (show (Tryd.prog.info? 25).map (·.size) = some 1 by kernel_rfl) G 0 3 3 k (by omega)),
        owes_load 6 (some 78) [5] (.slice (As k) (ls k).length (cs k)) 25 (Go.Operand.tmp 77) (.pointer (some ⟨G, 0 + k, none⟩)) (fun v => by kernel_rfl) (fun v => by kernel_rfl) (fun w' hb => slc_load _ _ _ w' (by rw [Nat.zero_add]; exact (hF.below (drB hb)).row.cell hlt)),
        owes_call_o 7 (some 79) [0, 1, 2, 6] (TupS (O1) (errC E On)) 14 #[Go.Operand.tmp 72, Go.Operand.tmp 73, Go.Operand.tmp 74, Go.Operand.tmp 78] #[23, 24, 25, 25] (fun v => by kernel_rfl) (fun _ _ => by kernel_rfl) TupS.mono (fun v w' hb ho => by
            exact ⟨#[.agg (arr8 32 key), .agg (arr8 12 non), .slice A ad.length ca, .slice (As k) (ls k).length (cs k)], by kernel_rfl, (HO w' (drB hb)).mono (fun _ _ ⟨v, h1, h2, h3⟩ => ⟨v, h1, h3, h2⟩)⟩),
        owes_move_o 8 (some 71) [7] (TupS (O1) (errC E On)) (Go.Operand.tmp 79) 7 (fun v => by kernel_rfl) TupS.mono (fun v => by kernel_rfl) (fun v w' hb ho => ho.get 7 _ _ (TupS (O1) (errC E On)) rfl rfl),
        owes_extract_o 9 (some 80) [8] (SlIsA (O1)) (.tmp 71) 0 (fun v => by kernel_rfl) SlIsA.mono (fun v w' hb ho => by
              obtain ⟨O, c, e, l, q⟩ := ho.get 8 _ _ (TupS (O1) (errC E On)) rfl rfl
              exact ⟨#[.slice O (O1).length c, errC E On], _, Eq.trans (b := v 8) (by kernel_rfl) e, by kernel_rfl, O, c, rfl, l, q⟩),
        owes_extract_o 10 (some 81) [8] (fun y _ => y = errC E On) (.tmp 71) 1 (fun v => by kernel_rfl) (fun _ _ _ h _ => h) (fun v w' hb ho => by
              obtain ⟨O, c, e, l, q⟩ := ho.get 8 _ _ (TupS (O1) (errC E On)) rfl rfl
              exact ⟨#[.slice O (O1).length c, errC E On], _, Eq.trans (b := v 8) (by kernel_rfl) e, by kernel_rfl, rfl⟩),
        owes_assign_o 11 (some 19) [9] (SlIsA (O1)) (Go.Operand.tmp 80) 9 (fun v => by kernel_rfl) SlIsA.mono (fun v => by kernel_rfl) (fun v w' hb ho => ho.get 9 _ _ (SlIsA (O1)) rfl rfl),
        owes_assign_o 12 (some 20) [10] (fun y _ => y = errC E On) (Go.Operand.tmp 81) 10 (fun v => by kernel_rfl) (fun _ _ _ h _ => h) (fun v => by kernel_rfl) (fun v w' hb ho => ho.get 10 _ _ (fun y _ => y = errC E On) rfl rfl), trivial⟩ ?_
      intro v w1 hb' hall
      obtain ⟨A11, c11, e11, l11, r11⟩ := hall.open_ 11 _ _ (SlIsA (O1)) rfl
      have e12 : v 12 = errC E On := hall.open_ 12 _ _ (fun y _ => y = errC E On) rfl
      clear hall
      simp only [putsL_k, putsL_o, putsL_nil, List.set_cons_zero, List.set_cons_succ]
      rw [e11, e12]
      clear e11 e12
      replace hb' := drB hb'
      replace HD := fun w' (hb : Below w1.heap.size w1 w') => HD w' (hb'.trans (hb.mono hb'.size))
      have hF1 := hF.below hb'
      have hbk := hb'
      clear hF HO hb'
      rename SayF w B key non As ls cs G w1 => hF
      go_upto_region 17 with (fail)
      refine wp_region_spec [Sp.k 0 (some 83) [] (.agg (arr8 32 key)),
        Sp.k 1 (some 84) [] (.agg (arr8 12 non)),
        Sp.k 2 (some 85) [] (.slice A ad.length ca),
        Sp.k 3 (some 86) [] (.slice (some ⟨G, 0, none⟩) 3 3),
        Sp.k 4 (some 87) [] (.int .i64 ((k : Nat) : Int)),
        Sp.k 5 (some 88) [3, 4] (.pointer (some ⟨G, 0 + k, none⟩)),
        Sp.k 6 (some 89) [5] (.slice (As k) (ls k).length (cs k)),
        Sp.o 7 (some 90) [0, 1, 2, 6] (TupS (O1) (.int .i64 (On : Int))),
        Sp.o 8 (some 82) [7] (TupS (O1) (.int .i64 (On : Int))),
        Sp.o 9 (some 91) [8] (SlIsA (O1)),
        Sp.o 10 (some 92) [8] (fun y _ => y = .int .i64 (On : Int)),
        Sp.o 11 (some 21) [9] (SlIsA (O1)),
        Sp.o 12 (some 22) [10] (fun y _ => y = .int .i64 (On : Int))] (by kernel_rfl) (by kernel_rfl)
        ⟨owes_load 0 (some 83) [] (.agg (arr8 32 key)) 23 (Go.Operand.tmp 6) (.pointer (some ⟨B, 0, none⟩)) (fun v => by kernel_rfl) (fun v => by kernel_rfl) (fun w' hb => key_load (hF.below (drB hb)).h.k),
        owes_load 1 (some 84) [] (.agg (arr8 12 non)) 24 (Go.Operand.tmp 7) (.pointer (some ⟨B + 1, 0, none⟩)) (fun v => by kernel_rfl) (fun v => by kernel_rfl) (fun w' hb => non_load (hF.below (drB hb)).h.n),
        owes_move 2 (some 85) [] (.slice A ad.length ca) (Go.Operand.tmp 2) (fun v => by kernel_rfl) (fun v => by kernel_rfl),
        owes_move 3 (some 86) [] (.slice (some ⟨G, 0, none⟩) 3 3) (Go.Operand.tmp 17) (fun v => by kernel_rfl) (fun v => by kernel_rfl),
        owes_move 4 (some 87) [] (.int .i64 ((k : Nat) : Int)) (Go.Operand.tmp 18) (fun v => by kernel_rfl) (fun v => by kernel_rfl),
        owes_index 5 (some 88) [3, 4] (.pointer (some ⟨G, 0 + k, none⟩)) 31 (Go.Operand.tmp 86) (Go.Operand.tmp 87) (.slice (some ⟨G, 0, none⟩) 3 3) (.int .i64 ((k : Nat) : Int)) (fun v => by kernel_rfl) (fun v => by kernel_rfl) (idx_sl (P := Tryd.prog) Tryd.underlying31 (show (Tryd.prog.info? 25).map (·.size) = some 1 by kernel_rfl) G 0 3 3 k (by omega)),
        owes_load 6 (some 89) [5] (.slice (As k) (ls k).length (cs k)) 25 (Go.Operand.tmp 88) (.pointer (some ⟨G, 0 + k, none⟩)) (fun v => by kernel_rfl) (fun v => by kernel_rfl) (fun w' hb => slc_load _ _ _ w' (by rw [Nat.zero_add]; exact (hF.below (drB hb)).row.cell hlt)),
        owes_call_o 7 (some 90) [0, 1, 2, 6] (TupS (O1) (.int .i64 (On : Int))) 15 #[Go.Operand.tmp 83, Go.Operand.tmp 84, Go.Operand.tmp 85, Go.Operand.tmp 89] #[23, 24, 25, 25] (fun v => by kernel_rfl) (fun _ _ => by kernel_rfl) TupS.mono (fun v w' hb ho => by
            exact ⟨#[.agg (arr8 32 key), .agg (arr8 12 non), .slice A ad.length ca, .slice (As k) (ls k).length (cs k)], by kernel_rfl, (HD w' (drB hb)).mono (fun _ _ ⟨v, h1, h2, h3⟩ => ⟨v, h1, h3, h2⟩)⟩),
        owes_move_o 8 (some 82) [7] (TupS (O1) (.int .i64 (On : Int))) (Go.Operand.tmp 90) 7 (fun v => by kernel_rfl) TupS.mono (fun v => by kernel_rfl) (fun v w' hb ho => ho.get 7 _ _ (TupS (O1) (.int .i64 (On : Int))) rfl rfl),
        owes_extract_o 9 (some 91) [8] (SlIsA (O1)) (.tmp 82) 0 (fun v => by kernel_rfl) SlIsA.mono (fun v w' hb ho => by
              obtain ⟨O, c, e, l, q⟩ := ho.get 8 _ _ (TupS (O1) (.int .i64 (On : Int))) rfl rfl
              exact ⟨#[.slice O (O1).length c, .int .i64 (On : Int)], _, Eq.trans (b := v 8) (by kernel_rfl) e, by kernel_rfl, O, c, rfl, l, q⟩),
        owes_extract_o 10 (some 92) [8] (fun y _ => y = .int .i64 (On : Int)) (.tmp 82) 1 (fun v => by kernel_rfl) (fun _ _ _ h _ => h) (fun v w' hb ho => by
              obtain ⟨O, c, e, l, q⟩ := ho.get 8 _ _ (TupS (O1) (.int .i64 (On : Int))) rfl rfl
              exact ⟨#[.slice O (O1).length c, .int .i64 (On : Int)], _, Eq.trans (b := v 8) (by kernel_rfl) e, by kernel_rfl, rfl⟩),
        owes_assign_o 11 (some 21) [9] (SlIsA (O1)) (Go.Operand.tmp 91) 9 (fun v => by kernel_rfl) SlIsA.mono (fun v => by kernel_rfl) (fun v w' hb ho => ho.get 9 _ _ (SlIsA (O1)) rfl rfl),
        owes_assign_o 12 (some 22) [10] (fun y _ => y = .int .i64 (On : Int)) (Go.Operand.tmp 92) 10 (fun v => by kernel_rfl) (fun _ _ _ h _ => h) (fun v => by kernel_rfl) (fun v w' hb ho => ho.get 10 _ _ (fun y _ => y = .int .i64 (On : Int)) rfl rfl), trivial⟩ ?_
      intro v w2 hb' hall
      obtain ⟨A13, c13, e13, l13, r13⟩ := hall.open_ 11 _ _ (SlIsA (O1)) rfl
      have e14 : v 12 = .int .i64 (On : Int) := hall.open_ 12 _ _ (fun y _ => y = .int .i64 (On : Int)) rfl
      clear hall
      simp only [putsL_k, putsL_o, putsL_nil, List.set_cons_zero, List.set_cons_succ]
      rw [e13, e14]
      clear e13 e14
      replace hb' := drB hb'
      have hF2 := hF.below hb'
      have hr11 := r11.below hb'
      have hbb := hbk.trans (hb'.mono hbk.size)
      clear hF HD hb' hbk r11
      have hs := same_true A11 A13 O1 c11 c13 w2 hr11 r13 (by omega)
      have hE2 := hE.below (show Below w.heap.size w w2 by rw [HB.out]; exact hF2.h.b)
      have HE2 := Lib.hid hE2
      clear hE2 hr11 r13
      go_wp2_with fail
      refine hs.mono ?_
      rintro e w3 ⟨rfl, q, rfl⟩
      have hb3 : Below w2.heap.size w2 (w2.drewN q) := Below.drewNr q
      generalize w2.drewN q = w3 at hb3 ⊢
      have hE3 := HE2.out.below hb3
      have hi := is_any E (errC E On) (On : Int) (On : Int) (errC_reads E On hOc) w3 hE3
      rw [show decide ((On : Int) = (On : Int)) = true by simp] at hi
      have hbb3 := hbb.trans (hb3.mono hbb.size)
      clear hs hbb hb3 hE3 HE2 hF2
      go_wp2_with fail
      refine hi.mono ?_
      rintro e w4 ⟨rfl, hb4⟩
      have hbb4 := hbb3.trans (hb4.mono hbb3.size)
      clear hi hbb3 hb4
      go_wp2_with fail
      go_roundw
      case rel => exact ⟨k + 1, by omega, by go_num, hbr.trans (hbb4.mono hbr.size)⟩
      case measure => simp [intOf]; omega
    · obtain rfl : k = 3 := by omega
      have hfin := hF.h.b
      clear hF hL hC
      go_wp2_with fail
      go_ret
      rw [HB.out]
      exact ⟨rfl, hfin⟩
end Go.Proofs.YtmmcabjpmcepaaaDoor
