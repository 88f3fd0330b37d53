import Derived.Test.YtjgjaefbbhffbaaDoorCom
import Derived.Test.YtjgjaefbbhffbaaDoorCog
/-
  CodeFalls.
-/
namespace Go.Proofs.YtjgjaefbbhffbaaDoor
open Go.RowKit

theorem wpList_load_rowG {P : Program} {ops : Array Oper} {rest : List Oper} {o : Oper} {a : Act} {w : World} {Q : Exit → Act → World → Prop} (hw : Region.wanted o (yielded ops a.tmps) = true) (ty : TypeId) (x : Operand) (ho : o.op = .load ty x)
    (g : Nat) (hx : a.eval x = .pointer (some ⟨g, 0, none⟩)) (t : TypeId) (cs : Array Value) (fr : Nat × Nat) (d : TypeDesc) (hg : w.heap[g]? = some (.cells cs t fr))
    (hu : P.underlying ty = some d) (hd : (match d with | .struct _ | .array _ _ => true | _ => false) = true) (hi : (P.info? ty).map (·.size) = some cs.size)
    (h : wpList P ops Q rest (a.put o.dst (.agg cs)) w) : wpList P ops Q (o :: rest) a w :=
  BigFrame.wpList_want hw fun _ hK => wp_load_row ty x ho g hx t cs fr d hg hu hd hi (hK _ _ h)
def falK (j : Nat) : Nat := if j = 1 then 1 else 2
def falZ (j : Nat) (n : Nat) : Int := if j = 2 then n else 0
def falC (j n : Nat) : Option (Nat × Int) := some (falK j, falZ j n)
set_option maxRecDepth 100000 in
set_option maxHeartbeats 800000 in
theorem falls0_any {E : Nat → Addr} {w : World} {R Hb Sb Db c ca : Nat} {A A0 : Option Addr} {xs : List Int} (hR : RdS w R A xs 0 c) (hE : ErrsAt E w) (hl : xs.length ≤ 50) (hH : VarS w Hb (.int .i64 0)) (hS : VarS w Sb (.slice A0 xs.length ca)) :
    Calls Tryd.prog 41 #[.pointer (some ⟨R, 0, none⟩), .pointer (some ⟨Hb, 0, none⟩), .pointer (some ⟨Sb, 0, none⟩), .pointer (some ⟨Db, 0, none⟩)] w fun e w2 => ∃ o, Turn (fun q => False ∨ q = R) w w2 ∧ EndsAs E R A xs c w.heap.size o e w2 ∧ o = falC 0 xs.length := by
  have cH := hH.c
  have cS := hS.c
  have H := rraw_no hR hE (by omega) ((xs.length : Int) + 1) (by omega) (by omega)
  have HT : ∀ W1, Below w.heap.size w W1 → Turn (fun q => False ∨ q = R) w W1 := fun W1 hb => Turn.of_below hb
  have HS : w.heap.size ≤ w.heap.size := Nat.le_refl _
  clear hR hE
  go_enter Tryd.func41, Tryd.ntmps41
  go_wp2_with fail
  refine H.mono ?_
  intro e W1 hf
  have hfin : ∃ o, Turn (fun q => False ∨ q = R) w W1 ∧ EndsAs E R A xs c w.heap.size o e W1 ∧ o = falC 0 xs.length := ⟨_, HT W1 hf.below, EndsAs.fell hf (by decide) HS, by simp [falC, falK, falZ]⟩
  obtain ⟨bt, rfl, _⟩ := hf
  have hfin := Lib.hid hfin
  go_wp2_with fail
  exact ⟨rfl, hfin.out⟩
set_option maxRecDepth 100000 in
set_option maxHeartbeats 800000 in
theorem falls1_any {E : Nat → Addr} {w : World} {R Hb Sb Db c ca : Nat} {A A0 : Option Addr} {xs : List Int} (hR : RdS w R A xs 0 c) (hE : ErrsAt E w) (hH : VarS w Hb (.int .i64 1)) (hS : VarS w Sb (.slice A0 xs.length ca)) :
    Calls Tryd.prog 41 #[.pointer (some ⟨R, 0, none⟩), .pointer (some ⟨Hb, 0, none⟩), .pointer (some ⟨Sb, 0, none⟩), .pointer (some ⟨Db, 0, none⟩)] w fun e w2 => ∃ o, Turn (fun q => False ∨ q = R) w w2 ∧ EndsAs E R A xs c w.heap.size o e w2 ∧ o = falC 1 xs.length := by
  have cH := hH.c
  have cS := hS.c
  have H := rraw_neg hR hE (-1) (by omega)
  have HT : ∀ W1, Below w.heap.size w W1 → Turn (fun q => False ∨ q = R) w W1 := fun W1 hb => Turn.of_below hb
  have HS : w.heap.size ≤ w.heap.size := Nat.le_refl _
  clear hR hE
  go_enter Tryd.func41, Tryd.ntmps41
  go_wp2_with fail
  refine H.mono ?_
  intro e W1 hf
  have hfin : ∃ o, Turn (fun q => False ∨ q = R) w W1 ∧ EndsAs E R A xs c w.heap.size o e W1 ∧ o = falC 1 xs.length := ⟨_, HT W1 hf.below, EndsAs.fell hf (by decide) HS, by simp [falC, falK, falZ]⟩
  obtain ⟨bt, rfl, _⟩ := hf
  have hfin := Lib.hid hfin
  go_wp2_with fail
  exact ⟨rfl, hfin.out⟩
set_option maxRecDepth 100000 in
set_option maxHeartbeats 800000 in
theorem falls2_any {E : Nat → Addr} {w : World} {R Hb Sb Db c ca : Nat} {A A0 : Option Addr} {xs : List Int} (hR : RdS w R A xs 0 c) (hl : xs.length ≤ 50) (hE2 : ∀ V, Turn (· = R) w V → ErrsAt E V) (hH : VarS w Hb (.int .i64 2)) (hS : VarS w Sb (.slice A0 xs.length ca)) :
    Calls Tryd.prog 41 #[.pointer (some ⟨R, 0, none⟩), .pointer (some ⟨Hb, 0, none⟩), .pointer (some ⟨Sb, 0, none⟩), .pointer (some ⟨Db, 0, none⟩)] w fun e w2 => ∃ o, Turn (fun q => False ∨ q = R) w w2 ∧ EndsAs E R A xs c w.heap.size o e w2 ∧ o = falC 2 xs.length := by
  have cH := hH.c
  have cS := hS.c
  have H0 := rraw_ok hR (by omega) xs.length (by omega)
  go_enter Tryd.func41, Tryd.ntmps41
  go_wp2_with fail
  refine H0.mono ?_
  rintro e V ⟨v, rfl, _, hRV, hTV⟩
  have hEV : ErrsAt E V := hE2 V hTV
  have H := ru8_no hRV hEV (by omega) (by omega)
  have HT : ∀ W1, Below V.heap.size V W1 → Turn (fun q => False ∨ q = R) w W1 := fun W1 hb => (hTV.sub (fun q hq => .inr hq)).and (Turn.of_below hb)
  have HS : w.heap.size ≤ V.heap.size := hTV.size
  clear H0 hR hRV hTV hEV hE2
  go_wp2_with fail
  refine H.mono ?_
  intro e W1 hf
  have hfin : ∃ o, Turn (fun q => False ∨ q = R) w W1 ∧ EndsAs E R A xs c w.heap.size o e W1 ∧ o = falC 2 xs.length := ⟨_, HT W1 hf.below, EndsAs.fell hf (by decide) HS, by simp [falC, falK, falZ]⟩
  obtain ⟨bt, rfl, _⟩ := hf
  have hfin := Lib.hid hfin
  go_wp2_with fail
  exact ⟨rfl, hfin.out⟩
set_option maxRecDepth 100000 in
set_option maxHeartbeats 3200000 in
theorem falls_walk (E : Nat → Addr) (A : Option Addr) (xs : List Int) (ca : Nat) (how : Int) (w : World) (hA : SlRead w A (ints .u8 xs)) (hcap : xs.length ≤ maxLen) (hE : ErrsAt E w) :
    Calls Tryd.prog 6 #[.slice A xs.length ca, .int .i64 how] w fun e w' => e = .returned (.bool true) ∧ Below w.heap.size w w' := by
  unfold maxLen at hcap
  have hAlt : 0 < xs.length → ∀ a, A = some a → a.block < w.heap.size := fun h0 a ha => by
    obtain ⟨b, o, e, hlt, _⟩ := hA (by simpa using h0)
    rw [e] at ha; cases ha; exact hlt
  go_enter Tryd.func6, Tryd.ntmps6
  go_upto_region 1 with (fail)
  refine wp_world (fun V => Below w.heap.size w V ∧ VarS V w.heap.size (.slice A xs.length ca) ∧ VarS V (w.heap.size + 1) (.int .i64 how) ∧ SlRead V A (ints .u8 xs)) ?_ ?_
  · have hbb : Below w.heap.size w ((w.alloc (.cells #[.slice A xs.length ca] 23)).alloc (.cells #[.int .i64 how] 3)) := (below_alc w _).alloc (by simp) _
    exact ⟨hbb, ⟨by simp [go_sem], by simp [go_sem]⟩, ⟨by simp [go_sem], by simp [go_sem]⟩, hA.below hbb⟩
  rintro W0 ⟨hb0, hS0, hH0, hr0⟩
  go_wp2_with fail
  refine (first_any W0).mono ?_
  rintro e W1 ⟨rfl, hb⟩
  have hS1 := hS0.below hb
  have hH1 := hH0.below hb
  have hr1 := hr0.below hb
  have hb1 := hb0.trans (hb.mono hb0.size)
  have cS := hS1.c
  have cH := hH1.c
  clear hS0 hH0 hr0 hb hb0 hA
  by_cases hl : xs.length ≤ 50
  case neg =>
    go_wp2_with fail
    go_ret
    exact ⟨rfl, hb1⟩
  rcases (show how % 3 = 0 ∨ how % 3 = 1 ∨ how % 3 = 2 by omega) with hj | hj | hj
  · have HN := num_lit how 3 0 W1 (by omega) hj
    have HC : falC 0 xs.length = falC 0 xs.length := rfl
    clear hj
    go_wp2_with fail
    refine HN.mono ?_
    rintro e W2 ⟨rfl, m, rfl⟩
    have hb2 : Below w.heap.size w (W1.drewN m) := hb1.trans ((Below.drewNr m).mono hb1.size)
    have hH2 := hH1.below (Below.drewNr m)
    have hS2 := hS1.below (Below.drewNr m)
    have hr2 := hr1.below (Below.drewNr m)
    generalize W1.drewN m = W2 at *
    have cH := hH2.c
    have fH := hH2.f
    clear HN HC hb1 hH1 hS1 hr1
    go_upto_region 8 with (fail)
    obtain ⟨D, hD⟩ : ∃ D, D = W2.heap.size := ⟨_, rfl⟩
    have hst := set_turn W2 (w.heap.size + 1) 0 (.int .i64 0)
    have hsn := (below_alc (W2.setCell ⟨w.heap.size + 1, 0, none⟩ (.int .i64 0)) (.cells #[.bool false] 4))
    have hss : (W2.setCell ⟨w.heap.size + 1, 0, none⟩ (.int .i64 0)).heap.size = W2.heap.size := by simp [World.setCell]
    refine wp_world (fun V => Below w.heap.size w V ∧ SlRead V A (ints .u8 xs) ∧ VarS V (w.heap.size + 1) (.int .i64 0) ∧ VarS V w.heap.size (.slice A xs.length ca) ∧ VarS V D (.bool false) ∧ V.heap.size = D + 1) ?_ ?_
    · have hw0 := hb2.size
      refine ⟨(hst.below hb2 hw0 (fun q hq => by omega)).trans (hsn.mono (by rw [hss]; exact hw0)), ?_, ((hH2.set _).below hsn), (hS2.turn hst (by omega)).below hsn, ?_, ?_⟩
      · exact (hr2.turn hst (fun h0 a ha => by have := hAlt (by simpa using h0) a ha; omega)).below hsn
      · rw [hD, ← hss]; exact ⟨by simp [go_sem], by simp [go_sem]⟩
      · rw [hD, ← hss]; simp
    rintro V ⟨hbV, hrV, hVH, hVS, hVD, hVs⟩
    have hDw : w.heap.size + 1 < D := by rw [hD]; exact hH2.lt
    rw [show W2.heap.size = D from hD.symm]
    clear hst hsn hss hH2 hS2 hr2 hb2 cH fH hD
    have hEV := hE.below hbV
    have cS := hVS.c
    go_wp2_with fail
    refine (lread_any E 41 #[.pointer (some ⟨w.heap.size + 1, 0, none⟩), .pointer (some ⟨w.heap.size, 0, none⟩), .pointer (some ⟨D, 0, none⟩)] A xs ca V (fun _ => False) (fun o _ => o = falC 0 xs.length) (fun _ _ => by kernel_rfl) hrV (by omega) (fun _ => hEV.c 3 (by decide))
      id (fun _ h => h.elim) (fun _ _ _ h _ _ => h) ?_).mono ?_
    · intro w1 R A1 c1 hb1 hR hRV _
      exact falls0_any hR (hEV.below hb1) hl (hVH.below hb1) (hVS.below hb1)
    rintro e W4 ⟨u, rfl, o, htell, rfl, ht⟩
    have hb4 : Below V.heap.size V W4 := ⟨ht.os, ht.tape, ht.output, ht.size, fun q hq => ht.block q hq id⟩
    obtain ⟨_, bt, rfl, hat⟩ := htell
    have cH := (hVH.below hb4).c
    have cD := (hVD.below hb4).c
    have cS := (hVS.below hb4).c
    have hE4 := hEV.below hb4
    have hbw := hbV.trans (hb4.mono hbV.size)
    have hs4 := hb4.size
    clear ht hVH hVD hVS hEV hb4 hrV
    go_wp2_with fail
    refine (placed_any 103 0 W4 (by decide)).mono ?_
    rintro e W5 ⟨rfl, hb5⟩
    have hs5 := hb5.size
    have hz := heap_alloc_new W5 (.cells #[.int .i64 0, .bool false, .int .i64 0] 42)
    go_upto_region 10 with (refine wpList_store_row rfl 42 _ _ rfl _ (frow 103 true 0) rfl rfl _ _ hz (by kernel_rfl) rfl (frow_one _ _ _) ?_)
    refine wp_world (fun V => Below W4.heap.size W4 V ∧ V.heap[W5.heap.size]? = some (.cells (frow 103 true 0) 42 (0, 0)) ∧ W5.heap.size < V.heap.size) ⟨?_, ?_, ?_⟩ ?_
    · rw [alloc_setRow]; exact hb5.alloc hs5 _
    · rw [alloc_setRow]; exact heap_alloc_new _ _
    · rw [alloc_setRow]; simp
    rintro W6 ⟨hb6, hz6, hl6⟩
    have hQw : w.heap.size ≤ W5.heap.size := by have := hbw.size; omega
    have hQD : D < W5.heap.size := by omega
    generalize W5.heap.size = Q at *
    clear hz hb5
    have cH := (hb6.cell (p := ⟨w.heap.size + 1, 0, none⟩) (cell_lt cH)).trans cH
    have cD := (hb6.cell (p := ⟨D, 0, none⟩) (cell_lt cD)).trans cD
    have cS := (hb6.cell (p := ⟨w.heap.size, 0, none⟩) (cell_lt cS)).trans cS
    have hE6 := hE4.below hb6
    have hat6 := hat.below hb6
    have hbw6 := hbw.trans (hb6.mono hbw.size)
    clear hE4 hat hbw hb6
    have HB := Lib.hid hbw6
    have hsm := same_at E bt 2 0 (by decide) W6 hE6 hat6
    clear hbw6 hE6
    go_wp2_with (refine wpList_load_rowG (by kernel_rfl) 42 (.tmp 8) rfl Q rfl _ _ _ _ hz6 Tryd.underlying42 rfl (by kernel_rfl) ?_)
    refine hsm.mono ?_
    rintro e W9 ⟨rfl, hb9⟩
    have HB2 := Lib.hid (HB.out.trans (hb9.mono HB.out.size))
    clear hb9 hsm
    go_wp2_with fail
    go_ret
    exact ⟨rfl, HB2.out⟩
  · have HN := num_lit how 3 1 W1 (by omega) hj
    have HC : falC 1 xs.length = falC 1 xs.length := rfl
    clear hj
    go_wp2_with fail
    refine HN.mono ?_
    rintro e W2 ⟨rfl, m, rfl⟩
    have hb2 : Below w.heap.size w (W1.drewN m) := hb1.trans ((Below.drewNr m).mono hb1.size)
    have hH2 := hH1.below (Below.drewNr m)
    have hS2 := hS1.below (Below.drewNr m)
    have hr2 := hr1.below (Below.drewNr m)
    generalize W1.drewN m = W2 at *
    have cH := hH2.c
    have fH := hH2.f
    clear HN HC hb1 hH1 hS1 hr1
    go_upto_region 8 with (fail)
    obtain ⟨D, hD⟩ : ∃ D, D = W2.heap.size := ⟨_, rfl⟩
    have hst := set_turn W2 (w.heap.size + 1) 0 (.int .i64 1)
    have hsn := (below_alc (W2.setCell ⟨w.heap.size + 1, 0, none⟩ (.int .i64 1)) (.cells #[.bool false] 4))
    have hss : (W2.setCell ⟨w.heap.size + 1, 0, none⟩ (.int .i64 1)).heap.size = W2.heap.size := by simp [World.setCell]
    refine wp_world (fun V => Below w.heap.size w V ∧ SlRead V A (ints .u8 xs) ∧ VarS V (w.heap.size + 1) (.int .i64 1) ∧ VarS V w.heap.size (.slice A xs.length ca) ∧ VarS V D (.bool false) ∧ V.heap.size = D + 1) ?_ ?_
    · have hw0 := hb2.size
      refine ⟨(hst.below hb2 hw0 (fun q hq => by omega)).trans (hsn.mono (by rw [hss]; exact hw0)), ?_, ((hH2.set _).below hsn), (hS2.turn hst (by omega)).below hsn, ?_, ?_⟩
      · exact (hr2.turn hst (fun h0 a ha => by have := hAlt (by simpa using h0) a ha; omega)).below hsn
      · rw [hD, ← hss]; exact ⟨by simp [go_sem], by simp [go_sem]⟩
      · rw [hD, ← hss]; simp
    rintro V ⟨hbV, hrV, hVH, hVS, hVD, hVs⟩
    have hDw : w.heap.size + 1 < D := by rw [hD]; exact hH2.lt
    rw [show W2.heap.size = D from hD.symm]
    clear hst hsn hss hH2 hS2 hr2 hb2 cH fH hD
    have hEV := hE.below hbV
    have cS := hVS.c
    go_wp2_with fail
    refine (lread_any E 41 #[.pointer (some ⟨w.heap.size + 1, 0, none⟩), .pointer (some ⟨w.heap.size, 0, none⟩), .pointer (some ⟨D, 0, none⟩)] A xs ca V (fun _ => False) (fun o _ => o = falC 1 xs.length) (fun _ _ => by kernel_rfl) hrV (by omega) (fun _ => hEV.c 3 (by decide))
      id (fun _ h => h.elim) (fun _ _ _ h _ _ => h) ?_).mono ?_
    · intro w1 R A1 c1 hb1 hR hRV _
      exact falls1_any hR (hEV.below hb1) (hVH.below hb1) (hVS.below hb1)
    rintro e W4 ⟨u, rfl, o, htell, rfl, ht⟩
    have hb4 : Below V.heap.size V W4 := ⟨ht.os, ht.tape, ht.output, ht.size, fun q hq => ht.block q hq id⟩
    obtain ⟨_, bt, rfl, hat⟩ := htell
    have cH := (hVH.below hb4).c
    have cD := (hVD.below hb4).c
    have cS := (hVS.below hb4).c
    have hE4 := hEV.below hb4
    have hbw := hbV.trans (hb4.mono hbV.size)
    have hs4 := hb4.size
    clear ht hVH hVD hVS hEV hb4 hrV
    go_wp2_with fail
    refine (placed_any 103 0 W4 (by decide)).mono ?_
    rintro e W5 ⟨rfl, hb5⟩
    have hs5 := hb5.size
    have hz := heap_alloc_new W5 (.cells #[.int .i64 0, .bool false, .int .i64 0] 42)
    go_upto_region 10 with (refine wpList_store_row rfl 42 _ _ rfl _ (frow 103 true 0) rfl rfl _ _ hz (by kernel_rfl) rfl (frow_one _ _ _) ?_)
    refine wp_world (fun V => Below W4.heap.size W4 V ∧ V.heap[W5.heap.size]? = some (.cells (frow 103 true 0) 42 (0, 0)) ∧ W5.heap.size < V.heap.size) ⟨?_, ?_, ?_⟩ ?_
    · rw [alloc_setRow]; exact hb5.alloc hs5 _
    · rw [alloc_setRow]; exact heap_alloc_new _ _
    · rw [alloc_setRow]; simp
    rintro W6 ⟨hb6, hz6, hl6⟩
    have hQw : w.heap.size ≤ W5.heap.size := by have := hbw.size; omega
    have hQD : D < W5.heap.size := by omega
    generalize W5.heap.size = Q at *
    clear hz hb5
    have cH := (hb6.cell (p := ⟨w.heap.size + 1, 0, none⟩) (cell_lt cH)).trans cH
    have cD := (hb6.cell (p := ⟨D, 0, none⟩) (cell_lt cD)).trans cD
    have cS := (hb6.cell (p := ⟨w.heap.size, 0, none⟩) (cell_lt cS)).trans cS
    have hE6 := hE4.below hb6
    have hat6 := hat.below hb6
    have hbw6 := hbw.trans (hb6.mono hbw.size)
    clear hE4 hat hbw hb6
    go_wp2_with fail
    refine (placed_any 102 0 W6 (by decide)).mono ?_
    rintro e W7 ⟨rfl, hb7⟩
    have hz7 := (hb7.block Q hl6).trans hz6
    have hs7 := hb7.size
    have cH7 := (hb7.cell (p := ⟨w.heap.size + 1, 0, none⟩) (cell_lt cH)).trans cH
    have cD7 := (hb7.cell (p := ⟨D, 0, none⟩) (cell_lt cD)).trans cD
    have hE7 := hE6.below hb7
    have hat7 := hat6.below hb7
    have hbw7 := hbw6.trans (hb7.mono hbw6.size)
    have hl7 : Q < W7.heap.size := by omega
    clear hE6 hat6 hbw6 hb7 cS cH cD
    go_upto_region 12 with (refine wpList_store_row rfl 42 _ _ rfl _ (frow 102 true 0) rfl rfl _ _ hz7 (by kernel_rfl) rfl (frow_one _ _ _) ?_)
    have hoQ : ∀ q, q ≠ Q → (W7.setRow Q (frow 102 true 0)).heap[q]? = W7.heap[q]? := fun q hq => setRow_other W7 Q q _ hq
    have hQb : Q ≠ bt := fun e => by have h9 := hat7.e; rw [← e] at h9; simp [World.cell?, hz7, frow] at h9
    refine wp_world (fun V => V.heap[Q]? = some (.cells (frow 102 true 0) 42 (0, 0)) ∧ ErrsAt E V ∧ AtAt bt (falZ 1 xs.length) (errV (E (falK 1))) V ∧ Below w.heap.size w V ∧ V.cell? ⟨w.heap.size + 1, 0, none⟩ = some (.int .i64 1) ∧ V.cell? ⟨D, 0, none⟩ = some (.bool false)) ⟨setRow_heap _ _ _ _ _ _ hz7, ?_, ?_, below_setRow hbw7 hQw _, ?_, ?_⟩ ?_
    · exact hE.below (below_setRow hbw7 hQw _)
    · exact ⟨(World.cell?_of_block (hoQ bt (Ne.symm hQb))).trans hat7.p, (World.cell?_of_block (hoQ bt (Ne.symm hQb))).trans hat7.e⟩
    · exact (World.cell?_of_block (hoQ (w.heap.size + 1) (by omega))).trans cH7
    · exact (World.cell?_of_block (hoQ D (by omega))).trans cD7
    clear hoQ hz7 hE7 hat7 hbw7 cH7 cD7 hz6
    rintro W8 ⟨hz8, hE8, hat8, hbw8, cH, cD⟩
    have HB := Lib.hid hbw8
    have hsm := same_at E bt 1 0 (by decide) W8 hE8 hat8
    clear hbw8 hE8
    go_wp2_with (refine wpList_load_rowG (by kernel_rfl) 42 (.tmp 8) rfl Q rfl _ _ _ _ hz8 Tryd.underlying42 rfl (by kernel_rfl) ?_)
    refine hsm.mono ?_
    rintro e W9 ⟨rfl, hb9⟩
    have HB2 := Lib.hid (HB.out.trans (hb9.mono HB.out.size))
    clear hb9 hsm
    go_wp2_with fail
    go_ret
    exact ⟨rfl, HB2.out⟩
  · have HN := num_lit how 3 2 W1 (by omega) hj
    have HC : falC 2 xs.length = falC 2 xs.length := rfl
    clear hj
    go_wp2_with fail
    refine HN.mono ?_
    rintro e W2 ⟨rfl, m, rfl⟩
    have hb2 : Below w.heap.size w (W1.drewN m) := hb1.trans ((Below.drewNr m).mono hb1.size)
    have hH2 := hH1.below (Below.drewNr m)
    have hS2 := hS1.below (Below.drewNr m)
    have hr2 := hr1.below (Below.drewNr m)
    generalize W1.drewN m = W2 at *
    have cH := hH2.c
    have fH := hH2.f
    clear HN HC hb1 hH1 hS1 hr1
    go_upto_region 8 with (fail)
    obtain ⟨D, hD⟩ : ∃ D, D = W2.heap.size := ⟨_, rfl⟩
    have hst := set_turn W2 (w.heap.size + 1) 0 (.int .i64 2)
    have hsn := (below_alc (W2.setCell ⟨w.heap.size + 1, 0, none⟩ (.int .i64 2)) (.cells #[.bool false] 4))
    have hss : (W2.setCell ⟨w.heap.size + 1, 0, none⟩ (.int .i64 2)).heap.size = W2.heap.size := by simp [World.setCell]
    refine wp_world (fun V => Below w.heap.size w V ∧ SlRead V A (ints .u8 xs) ∧ VarS V (w.heap.size + 1) (.int .i64 2) ∧ VarS V w.heap.size (.slice A xs.length ca) ∧ VarS V D (.bool false) ∧ V.heap.size = D + 1) ?_ ?_
    · have hw0 := hb2.size
      refine ⟨(hst.below hb2 hw0 (fun q hq => by omega)).trans (hsn.mono (by rw [hss]; exact hw0)), ?_, ((hH2.set _).below hsn), (hS2.turn hst (by omega)).below hsn, ?_, ?_⟩
      · exact (hr2.turn hst (fun h0 a ha => by have := hAlt (by simpa using h0) a ha; omega)).below hsn
      · rw [hD, ← hss]; exact ⟨by simp [go_sem], by simp [go_sem]⟩
      · rw [hD, ← hss]; simp
    rintro V ⟨hbV, hrV, hVH, hVS, hVD, hVs⟩
    have hDw : w.heap.size + 1 < D := by rw [hD]; exact hH2.lt
    rw [show W2.heap.size = D from hD.symm]
    clear hst hsn hss hH2 hS2 hr2 hb2 cH fH hD
    have hEV := hE.below hbV
    have cS := hVS.c
    go_wp2_with fail
    refine (lread_any E 41 #[.pointer (some ⟨w.heap.size + 1, 0, none⟩), .pointer (some ⟨w.heap.size, 0, none⟩), .pointer (some ⟨D, 0, none⟩)] A xs ca V (fun _ => False) (fun o _ => o = falC 2 xs.length) (fun _ _ => by kernel_rfl) hrV (by omega) (fun _ => hEV.c 3 (by decide))
      id (fun _ h => h.elim) (fun _ _ _ h _ _ => h) ?_).mono ?_
    · intro w1 R A1 c1 hb1 hR hRV _
      exact falls2_any hR hl (fun U hU => hE.below (hU.below (hbV.trans (hb1.mono hbV.size)) (Nat.le_trans hbV.size hb1.size) (fun q hq => by have := hbV.size; omega))) (hVH.below hb1) (hVS.below hb1)
    rintro e W4 ⟨u, rfl, o, htell, rfl, ht⟩
    have hb4 : Below V.heap.size V W4 := ⟨ht.os, ht.tape, ht.output, ht.size, fun q hq => ht.block q hq id⟩
    obtain ⟨_, bt, rfl, hat⟩ := htell
    have cH := (hVH.below hb4).c
    have cD := (hVD.below hb4).c
    have cS := (hVS.below hb4).c
    have hE4 := hEV.below hb4
    have hbw := hbV.trans (hb4.mono hbV.size)
    have hs4 := hb4.size
    clear ht hVH hVD hVS hEV hb4 hrV
    go_wp2_with fail
    refine (placed_any 103 0 W4 (by decide)).mono ?_
    rintro e W5 ⟨rfl, hb5⟩
    have hs5 := hb5.size
    have hz := heap_alloc_new W5 (.cells #[.int .i64 0, .bool false, .int .i64 0] 42)
    go_upto_region 10 with (refine wpList_store_row rfl 42 _ _ rfl _ (frow 103 true 0) rfl rfl _ _ hz (by kernel_rfl) rfl (frow_one _ _ _) ?_)
    refine wp_world (fun V => Below W4.heap.size W4 V ∧ V.heap[W5.heap.size]? = some (.cells (frow 103 true 0) 42 (0, 0)) ∧ W5.heap.size < V.heap.size) ⟨?_, ?_, ?_⟩ ?_
    · rw [alloc_setRow]; exact hb5.alloc hs5 _
    · rw [alloc_setRow]; exact heap_alloc_new _ _
    · rw [alloc_setRow]; simp
    rintro W6 ⟨hb6, hz6, hl6⟩
    have hQw : w.heap.size ≤ W5.heap.size := by have := hbw.size; omega
    have hQD : D < W5.heap.size := by omega
    generalize W5.heap.size = Q at *
    clear hz hb5
    have cH := (hb6.cell (p := ⟨w.heap.size + 1, 0, none⟩) (cell_lt cH)).trans cH
    have cD := (hb6.cell (p := ⟨D, 0, none⟩) (cell_lt cD)).trans cD
    have cS := (hb6.cell (p := ⟨w.heap.size, 0, none⟩) (cell_lt cS)).trans cS
    have hE6 := hE4.below hb6
    have hat6 := hat.below hb6
    have hbw6 := hbw.trans (hb6.mono hbw.size)
    clear hE4 hat hbw hb6
    go_wp2_with fail
    refine (placed_any 103 (xs.length : Int) W6 (by decide)).mono ?_
    rintro e W7 ⟨rfl, hb7⟩
    have hz7 := (hb7.block Q hl6).trans hz6
    have hs7 := hb7.size
    have cH7 := (hb7.cell (p := ⟨w.heap.size + 1, 0, none⟩) (cell_lt cH)).trans cH
    have cD7 := (hb7.cell (p := ⟨D, 0, none⟩) (cell_lt cD)).trans cD
    have hE7 := hE6.below hb7
    have hat7 := hat6.below hb7
    have hbw7 := hbw6.trans (hb7.mono hbw6.size)
    have hl7 : Q < W7.heap.size := by omega
    clear hE6 hat6 hbw6 hb7 cS cH cD
    go_upto_region 14 with (refine wpList_store_row rfl 42 _ _ rfl _ (frow 103 true (xs.length : Int)) rfl rfl _ _ hz7 (by kernel_rfl) rfl (frow_one _ _ _) ?_)
    have hoQ : ∀ q, q ≠ Q → (W7.setRow Q (frow 103 true (xs.length : Int))).heap[q]? = W7.heap[q]? := fun q hq => setRow_other W7 Q q _ hq
    have hQb : Q ≠ bt := fun e => by have h9 := hat7.e; rw [← e] at h9; simp [World.cell?, hz7, frow] at h9
    refine wp_world (fun V => V.heap[Q]? = some (.cells (frow 103 true (xs.length : Int)) 42 (0, 0)) ∧ ErrsAt E V ∧ AtAt bt (falZ 2 xs.length) (errV (E (falK 2))) V ∧ Below w.heap.size w V ∧ V.cell? ⟨w.heap.size + 1, 0, none⟩ = some (.int .i64 2) ∧ V.cell? ⟨D, 0, none⟩ = some (.bool false)) ⟨setRow_heap _ _ _ _ _ _ hz7, ?_, ?_, below_setRow hbw7 hQw _, ?_, ?_⟩ ?_
    · exact hE.below (below_setRow hbw7 hQw _)
    · exact ⟨(World.cell?_of_block (hoQ bt (Ne.symm hQb))).trans hat7.p, (World.cell?_of_block (hoQ bt (Ne.symm hQb))).trans hat7.e⟩
    · exact (World.cell?_of_block (hoQ (w.heap.size + 1) (by omega))).trans cH7
    · exact (World.cell?_of_block (hoQ D (by omega))).trans cD7
    clear hoQ hz7 hE7 hat7 hbw7 cH7 cD7 hz6
    rintro W8 ⟨hz8, hE8, hat8, hbw8, cH, cD⟩
    have HB := Lib.hid hbw8
    have hsm := same_at E bt 2 (xs.length : Int) (by decide) W8 hE8 hat8
    clear hbw8 hE8
    go_wp2_with (refine wpList_load_rowG (by kernel_rfl) 42 (.tmp 8) rfl Q rfl _ _ _ _ hz8 Tryd.underlying42 rfl (by kernel_rfl) ?_)
    refine hsm.mono ?_
    rintro e W9 ⟨rfl, hb9⟩
    have HB2 := Lib.hid (HB.out.trans (hb9.mono HB.out.size))
    clear hb9 hsm
    go_wp2_with fail
    go_ret
    exact ⟨rfl, HB2.out⟩
end Go.Proofs.YtjgjaefbbhffbaaDoor
