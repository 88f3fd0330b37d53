import Derived.Test.YtgdnolondfnbkaaDoorHei
/-
  The document's Cut.
-/
namespace Go.Proofs.YtgdnolondfnbkaaDoor
open Go.RowKit

theorem results_rtr {P : Program} {fn : Func} {p q u : Tmp} {ty ty2 : TypeId} (h : fn.results = #[.cell p ty, .tmp u, .cell q ty2]) (tmps : Array Value) (w : World) (g g2 : Nat) (t t2 : TypeId) (cs cs2 : Array Value) (fr fr2 : Nat × Nat) (d d2 : TypeDesc)
    (hp : tmps.getD p undef = .pointer (some ⟨g, 0, none⟩)) (hg : w.heap[g]? = some (.cells cs t fr)) (v : Value) (hv : tmps.getD u undef = v) (hq : tmps.getD q undef = .pointer (some ⟨g2, 0, none⟩)) (hg2 : w.heap[g2]? = some (.cells cs2 t2 fr2))
    (hu : P.underlying ty = some d) (hd : (match d with | .struct _ | .array _ _ => true | _ => false) = true) (hi : (P.info? ty).map (·.size) = some cs.size)
    (hu2 : P.underlying ty2 = some d2) (hd2 : (match d2 with | .struct _ | .array _ _ => true | _ => false) = true) (hi2 : (P.info? ty2).map (·.size) = some cs2.size) :
    (results fn tmps).run P w = .ok (.tuple #[.agg cs, v, .agg cs2]) w := by
  have hp' : tmps[p]?.getD undef = .pointer (some ⟨g, 0, none⟩) := by simpa using hp
  have hq' : tmps[q]?.getD undef = .pointer (some ⟨g2, 0, none⟩) := by simpa using hq
  have hv' : tmps[u]?.getD undef = v := by simpa using hv
  simp [results, h, hp', hq', hv', asAddr, run_loadVar_row w g t ty cs fr d hg hu hd hi, run_loadVar_row w g2 t2 ty2 cs2 fr2 d2 hg2 hu2 hd2 hi2]
theorem flt_form (k : Nat) : ∃ fc fl fz, fltR (hdO k) = frow fc fl fz ∧ (fc = 0 ↔ k = 40) := by
  unfold hdO
  by_cases h1 : k < 32
  · rw [if_pos h1]; exact ⟨_, _, _, rfl, by constructor <;> intro h <;> omega⟩
  · rw [if_neg h1]
    by_cases h2 : k < 36
    · rw [if_pos h2]; exact ⟨_, _, _, rfl, by constructor <;> intro h <;> omega⟩
    · rw [if_neg h2]
      by_cases h3 : k < 40
      · rw [if_pos h3]; exact ⟨_, _, _, rfl, by constructor <;> intro h <;> omega⟩
      · rw [if_neg h3]
        by_cases h4 : k = 40
        · rw [if_pos h4]; exact ⟨_, _, _, rfl, by constructor <;> intro h <;> omega⟩
        · rw [if_neg h4]; exact ⟨_, _, _, rfl, by constructor <;> intro h <;> omega⟩
set_option maxRecDepth 100000 in
set_option maxHeartbeats 6400000 in
theorem dcut_any (A : Option Addr) (xs : List Int) (ca : Nat) (w : World) (hA : SlRead w A (ints .u8 xs)) (hca : xs.length ≤ ca) (hx : Byts xs) (hl : xs.length ≤ 1000) :
    Calls Tryd.prog 10 #[.slice A xs.length ca] w fun e w' => ∃ r, e = .returned (.tuple #[.agg (hdR (xs.take 40)).toArray, r, .agg (fltR (hdO (min 40 xs.length)))]) ∧ RestP xs r w' ∧ Below w.heap.size w w' := by
  have hinf : (Tryd.prog.info? 26).map (·.size) = some 34 := by kernel_rfl
  obtain ⟨m, hm⟩ : ∃ m, m = min 40 xs.length := ⟨_, rfl⟩
  have hml : (xs.take 40).length = m := by rw [hm]; simp
  have hmn : m ≤ 40 ∧ m ≤ xs.length ∧ (m = 40 ∨ m = xs.length) := by omega
  have hsl := fun w => sliceAt_hkH (P := Tryd.prog) Tryd.underlying27 (by kernel_rfl) A xs.length ca m (by omega) w
  have hrt : SlRead w A (ints .u8 (xs.take 40)) := hA.take 40
  have hmin : (if (40 : Int) < (xs.length : Int) then (40 : Int) else (xs.length : Int)) = (m : Int) := by split <;> omega
  obtain ⟨fc, fl, fz, hfc, hiff⟩ := flt_form m
  rw [← hm]
  have HFC := Lib.hid hfc
  obtain ⟨cs, hcs⟩ : ∃ cs, cs = hdR (xs.take 40) := ⟨_, rfl⟩
  have hone : ∀ v ∈ cs, v.oneCell' = true := by rw [hcs]; exact hdR_one _
  have hcl : cs.length = 34 := by rw [hcs]; exact hdR_len _
  have HCS := Lib.hid hcs
  have HL := Lib.hid hcl
  have HO := Lib.hid hone
  have HM := Lib.hid hml
  have HI := Lib.hid hiff
  have hR : ∀ V, Below w.heap.size w V → Calls Tryd.prog 8 #[.slice A m ca] V fun e w' => e = .returned (.tuple #[.agg cs.toArray, .agg (frow fc fl fz)]) ∧ Below V.heap.size V w' := fun V hb => by
    have h := drhead_any A (xs.take 40) ca V (hrt.below hb) (by rw [hml]; omega) (fun x h => hx x (List.mem_of_mem_take h)) (by rw [hml]; omega)
    rw [hml, ← hcs, hfc] at h
    exact h
  clear hm hml hfc hcs hcl hone hiff
  go_enter Tryd.func10, Tryd.ntmps10
  go_upto_region 2 with (fail)
  obtain ⟨Zh, hZh⟩ : ∃ Z, Z = w.heap.size := ⟨_, rfl⟩
  obtain ⟨Zf, hZf⟩ : ∃ Z, Z = Zh + 1 := ⟨_, rfl⟩
  refine wp_world (fun V => Below w.heap.size w V ∧ V.heap[Zh]? = some (.cells (hdC zdh 0 0).toArray 26 (0, 0)) ∧ V.heap[Zf]? = some (.cells (frow 0 false 0) 34 (0, 0)) ∧ V.heap.size = Zf + 1) ?_ ?_
  · subst hZf hZh
    exact ⟨(below_alc w _).alloc (by simp) _, (heap_alloc_old _ _ (by simp)).trans ((heap_alloc_new _ _).trans rfl), (heap_eq _ _ _ (by simp)).trans rfl, by simp⟩
  rintro V ⟨hbV, hZh0, hZf0, hVs⟩
  rw [← hZh, ← hZf]
  try rw [hmin]
  clear hmin
  have hnum : w.heap.size ≤ Zh ∧ Zh < Zf ∧ Zf < V.heap.size := by omega
  clear hZh hZf hVs
  go_wp2_with fail
  refine (hR V hbV).mono ?_
  rintro e V1 ⟨rfl, hb1⟩
  have hs1 := hb1.size
  have hZh1 := (hb1.block Zh (by omega)).trans hZh0
  have hZf1 := (hb1.block Zf (by omega)).trans hZf0
  have hbw1 := hbV.trans (hb1.mono hbV.size)
  obtain ⟨HH, hHH⟩ : ∃ H, H = V1.heap.size := ⟨_, rfl⟩
  obtain ⟨FB, hFB⟩ : ∃ H, H = HH + 1 := ⟨_, rfl⟩
  clear hR hbV hb1 hZh0 hZf0
  go_upto_region 3 with (first | (refine wpList_store_row rfl 26 _ _ rfl V1.heap.size cs.toArray rfl rfl _ _ (heap2_0 _ _ _) (by rw [List.size_toArray, HL.out]; exact hinf) (by simp [HL.out]) (all_oneCell_toArray HO.out) ?_) | (refine wpList_store_row rfl 34 _ _ rfl (V1.heap.size + 1) (frow fc fl fz) rfl rfl _ _ ((setRow_other _ _ _ _ (by omega)).trans (heap2_1 _ _ _)) (by kernel_rfl) rfl (frow_one _ _ _) ?_))
  refine wp_world (fun U => Below V1.heap.size V1 U ∧ U.rangeAt HH 0 cs ∧ U.rangeAt FB 0 (frow fc fl fz).toList ∧ U.heap.size = FB + 1) ?_ ?_
  · subst hFB hHH
    have h0 := (setRow_other _ (V1.heap.size + 1) V1.heap.size (frow fc fl fz) (by omega)).trans (setRow_heap _ V1.heap.size _ cs.toArray _ _ (heap2_0 V1 (.cells (hdC zdh 0 0).toArray 26 ) (.cells (frow 0 false 0) 34 )))
    have h1 := setRow_heap _ (V1.heap.size + 1) _ (frow fc fl fz) _ _ ((setRow_other _ V1.heap.size (V1.heap.size + 1) cs.toArray (by omega)).trans (heap2_1 V1 (.cells (hdC zdh 0 0).toArray 26 ) (.cells (frow 0 false 0) 34 )))
    exact ⟨setRow_below (setRow_below ((below_alc V1 _).alloc (by simp) _) _ (by omega) _) _ (by omega) _, range_new h0, range_new h1, by simp [World.setRow]⟩
  rintro U ⟨hbU, hrg0, hfb0, hsU⟩
  rw [← hHH, ← hFB]
  have hZh2 := (hbU.block Zh (by omega)).trans hZh1
  have hZf2 := (hbU.block Zf (by omega)).trans hZf1
  have hbw2 := hbw1.trans (hbU.mono hbw1.size)
  have hnum2 : Zf < HH ∧ HH < FB ∧ FB < U.heap.size := by omega
  clear hHH hFB hsU hbU hs1 hZh1 hZf1 hbw1
  go_wp2_with (refine wpList_load_mid rfl 34 _ rfl FB 0 rfl _ _ hfb0 Tryd.underlying34 rfl (info_F _ _ _) ?_)
  by_cases h40 : 40 ≤ xs.length
  · have hm40 : m = 40 := by omega
    have hfc0 : fc = 0 := HI.out.2 hm40
    refine (bad_no fc fl fz U hfc0).mono ?_
    rintro e W5 ⟨rfl, hb9⟩
    have hzh := (hb9.block Zh (by omega)).trans hZh2
    have hzf := (hb9.block Zf (by omega)).trans hZf2
    have hrg := (Turn.of_below (F := fun _ => False) hb9).range hrg0 (by omega) id
    have hfb := (Turn.of_below (F := fun _ => False) hb9).range hfb0 (by omega) id
    have h9 := hb9.size
    have hHl : HH < W5.heap.size := by omega
    have hfbl : FB < W5.heap.size := by omega
    have hbw := hbw2.trans (hb9.mono hbw2.size)
    have hsl2 := fun w => sliceAt_l0 (P := Tryd.prog) Tryd.underlying27 (by kernel_rfl) A xs.length ca m (by omega) w
    have hrd : SlRead W5 (cutA A m ca) (ints .u8 (xs.drop m)) := (hA.below hbw).cut m (cutA A m ca) (fun hh b o e => by subst e; exact cutA_some hh hca)
    have hdl : (xs.drop m).length = xs.length - m := by simp
    have HC : ∀ Y, Below W5.heap.size W5 Y → _ := fun Y hY => bytes_any (cutA A m ca) (xs.drop m) (ca - m) Y (hrd.below hY) (by omega)
    rw [hdl] at HC
    have H40 := Lib.hid h40
    have HM40 := Lib.hid hm40
    clear h40 hm40 hdl hb9 hZh2 hZf2 hrg0 hfb0 hbw2 hfc0 hsl
    go_upto_region 5 with (fail)
    refine wp_region_noPanic ?_
    refine wp_region_held_drew (S := fun V => Turn (fun q => q = Zh ∨ q = Zf) W5 V) (by kernel_rfl) (Turn.of_below (Below.drewNr (w := W5) 1)) (fun hHeld => ?_)
    refine held_load 0 26 (Go.Operand.tmp 6) (some 22) (HH) (0) (cs) _ (by kernel_rfl) (by kernel_rfl) (fun w h => h.range hrg hHl (by omega)) Tryd.underlying26 rfl (by rw [HL.out]; exact hinf) (by kernel_rfl) (by kernel_rfl) (by kernel_rfl) (fun _ _ _ _ _ h => h) hHeld ?_
    refine held_move 1 (Go.Operand.tmp 0) (some 23) (.slice A xs.length ca) (by kernel_rfl) (by kernel_rfl) (by kernel_rfl) (by kernel_rfl) (by kernel_rfl) (fun _ _ _ _ _ h => h) hHeld ?_
    refine held_move 2 (Go.Operand.tmp 5) (some 24) (.int .i64 (m : Int)) (by kernel_rfl) (by kernel_rfl) (by kernel_rfl) (by kernel_rfl) (by kernel_rfl) (fun _ _ _ _ _ h => h) hHeld ?_
    refine held_slice 3 27 (Go.Operand.tmp 23) (some (Go.Operand.tmp 24)) none none (some 25) (.slice A xs.length ca) (some (.int .i64 (m : Int))) none none (.slice (cutA A m ca) (xs.length - m) (ca - m)) (by kernel_rfl) (by kernel_rfl) (hsl2) (by kernel_rfl) (by kernel_rfl) (by kernel_rfl) (fun _ _ _ _ _ h => h) hHeld ?_
    refine held_load 5 34 (Go.Operand.tmp 7) (some 27) (FB) (0) ((frow fc fl fz).toList) _ (by kernel_rfl) (by kernel_rfl) (fun w h => h.range hfb hfbl (by omega)) Tryd.underlying34 rfl (info_F _ _ _) (by kernel_rfl) (by kernel_rfl) (by kernel_rfl) (fun _ _ _ _ _ h => h) hHeld ?_
    refine held_call 4 26 #[Go.Operand.tmp 25] #[27] (some 26) #[.slice (cutA A m ca) (xs.length - m) (ca - m)] _ (by kernel_rfl) (by kernel_rfl) (by kernel_rfl) (by kernel_rfl) (HC W5.drew (Below.drewNr (w := W5) 1)) ?_
    rintro e Y1 ⟨v1, rfl, hown, hbY⟩
    obtain ⟨Av, cv, rfl, _, _, hAv⟩ := own_slice hown
    have hbY2 : Below W5.heap.size W5 Y1 := (Below.drewNr (w := W5) 1).trans hbY
    refine ⟨_, rfl, Turn.of_below hbY2, fun hHeld => ?_⟩
    have hzh := (hbY2.block Zh (by omega)).trans hzh
    have hzf := (hbY2.block Zf (by omega)).trans hzf
    refine held_skip 6 (Go.Op.store 26 (Go.Operand.tmp 2) (Go.Operand.tmp 22)) none (Y1.setRow Zh cs.toArray) (by kernel_rfl) (by kernel_rfl) (fun o ho => exec_store (vx := .pointer (some ⟨Zh, 0, none⟩)) (vy := .agg cs.toArray) ho (by kernel_rfl) (store_rowH _ _ _ _ _ _ hzh (by rw [List.size_toArray, HL.out]; exact hinf) (by simp [HL.out, hdC_len _ _ _ zdh_len]) (all_oneCell_toArray HO.out))) (row_turn hHeld (.inl rfl) _) ?_
    intro hHeld
    refine held_assign 7 (Go.Operand.tmp 26) (some 3) (.slice Av (xs.length - m) cv) (by kernel_rfl) (by kernel_rfl) (by kernel_rfl) (by kernel_rfl) (by kernel_rfl) (fun _ _ _ _ _ h => h) hHeld ?_
    refine held_skip 8 (Go.Op.store 34 (Go.Operand.tmp 4) (Go.Operand.tmp 27)) none ((Y1.setRow Zh cs.toArray).setRow Zf (frow fc fl fz)) (by kernel_rfl) (by kernel_rfl) (fun o ho => exec_store (vx := .pointer (some ⟨Zf, 0, none⟩)) (vy := .agg (frow fc fl fz)) ho (by kernel_rfl) (store_rowH _ _ _ _ _ _ ((setRow_other _ Zh Zf _ (by omega)).trans hzf) (by kernel_rfl) rfl (frow_one _ _ _))) (row_turn hHeld (.inr rfl) _) ?_
    intro hHeld
    refine wpAnyH_done (by kernel_rfl) ?_ _
    refine NoPanic.normal ?_
    simp only [put_list, put_none, List.set_cons_zero, List.set_cons_succ]
    have rzf := setRow_heap (Y1.setRow Zh cs.toArray) Zf _ (frow fc fl fz) _ _ ((setRow_other _ Zh Zf _ (by omega)).trans hzf)
    have rzh := (setRow_other (Y1.setRow Zh cs.toArray) Zf Zh (frow fc fl fz) (by omega)).trans (setRow_heap Y1 Zh _ cs.toArray _ _ hzh)
    have hbF : Below w.heap.size w ((Y1.setRow Zh cs.toArray).setRow Zf (frow fc fl fz)) := hHeld.below hbw hbw.size (fun q hq => by omega)
    have hRe : RestP xs (.slice Av (xs.length - m) cv) ((Y1.setRow Zh cs.toArray).setRow Zf (frow fc fl fz)) := by
      unfold RestP
      rw [if_pos H40.out]
      refine ⟨Av, cv, by rw [HM40.out], ?_⟩
      have h1 := SlRead.of_own hown
      rw [HM40.out] at h1
      have ht : Turn (fun q => q = Zh ∨ q = Zf) Y1 ((Y1.setRow Zh cs.toArray).setRow Zf (frow fc fl fz)) := row_turn (row_turn (Turn.of_below (Below.refl _ Y1)) (.inl rfl) _) (.inr rfl) _
      exact h1.turn ht (fun _ a ha => by have h2 := (hAv a ha).1; have h3 : W5.heap.size ≤ a.block := h2; omega)
    have HF := Lib.hid (And.intro hbF hRe)
    clear hbF hRe hHeld
    go_wp2_with fail
    refine bodyPost_ret (results_rtr rfl _ _ _ _ _ _ _ _ _ _ _ _ rfl rzh _ rfl rfl rzf Tryd.underlying26 rfl (by rw [List.size_toArray, HL.out]; exact hinf) Tryd.underlying34 rfl (by kernel_rfl)) rfl ?_
    rw [HFC.out, ← HCS.out]
    exact ⟨_, rfl, HF.out.2, HF.out.1⟩
  · have hm40 : ¬ m = 40 := by omega
    have hfc0 : fc ≠ 0 := fun h => hm40 (HI.out.1 h)
    refine (bad_yes fc fl fz U hfc0).mono ?_
    rintro e W5 ⟨rfl, hb9⟩
    have hzh := (hb9.block Zh (by omega)).trans hZh2
    have hzf := (hb9.block Zf (by omega)).trans hZf2
    have hrg := (Turn.of_below (F := fun _ => False) hb9).range hrg0 (by omega) id
    have hfb := (Turn.of_below (F := fun _ => False) hb9).range hfb0 (by omega) id
    have h9 := hb9.size
    have hHl : HH < W5.heap.size := by omega
    have hfbl : FB < W5.heap.size := by omega
    have hbw := hbw2.trans (hb9.mono hbw2.size)
    have H40 := Lib.hid h40
    clear h40 hm40 hb9 hZh2 hZf2 hrg0 hfb0 hbw2 hfc0 hsl
    go_upto_region 4 with (fail)
    refine wp_region_noPanic ?_
    refine wp_region_held_drew (S := fun V => Turn (fun q => q = Zh ∨ q = Zf) W5 V) (by kernel_rfl) (Turn.of_below (Below.drewNr (w := W5) 1)) (fun hHeld => ?_)
    refine held_load 0 26 (Go.Operand.tmp 6) (some 20) (HH) (0) (cs) _ (by kernel_rfl) (by kernel_rfl) (fun w h => h.range hrg hHl (by omega)) Tryd.underlying26 rfl (by rw [HL.out]; exact hinf) (by kernel_rfl) (by kernel_rfl) (by kernel_rfl) (fun _ _ _ _ _ h => h) hHeld ?_
    refine held_load 1 34 (Go.Operand.tmp 7) (some 21) (FB) (0) ((frow fc fl fz).toList) _ (by kernel_rfl) (by kernel_rfl) (fun w h => h.range hfb hfbl (by omega)) Tryd.underlying34 rfl (info_F _ _ _) (by kernel_rfl) (by kernel_rfl) (by kernel_rfl) (fun _ _ _ _ _ h => h) hHeld ?_
    refine held_skip 2 (Go.Op.store 26 (Go.Operand.tmp 2) (Go.Operand.tmp 20)) none (W5.drew.setRow Zh cs.toArray) (by kernel_rfl) (by kernel_rfl) (fun o ho => exec_store (vx := .pointer (some ⟨Zh, 0, none⟩)) (vy := .agg cs.toArray) ho (by kernel_rfl) (store_rowH _ _ _ _ _ _ hzh (by rw [List.size_toArray, HL.out]; exact hinf) (by simp [HL.out, hdC_len _ _ _ zdh_len]) (all_oneCell_toArray HO.out))) (row_turn hHeld (.inl rfl) _) ?_
    intro hHeld
    refine held_assign 3 (Go.Operand.const (Go.Value.slice none 0 0)) (some 3) (Go.Value.slice none 0 0) (by kernel_rfl) (by kernel_rfl) (by kernel_rfl) (by kernel_rfl) (by kernel_rfl) (fun _ _ _ _ _ h => h) hHeld ?_
    refine held_skip 4 (Go.Op.store 34 (Go.Operand.tmp 4) (Go.Operand.tmp 21)) none ((W5.drew.setRow Zh cs.toArray).setRow Zf (frow fc fl fz)) (by kernel_rfl) (by kernel_rfl) (fun o ho => exec_store (vx := .pointer (some ⟨Zf, 0, none⟩)) (vy := .agg (frow fc fl fz)) ho (by kernel_rfl) (store_rowH _ _ _ _ _ _ ((setRow_other _ Zh Zf _ (by omega)).trans hzf) (by kernel_rfl) rfl (frow_one _ _ _))) (row_turn hHeld (.inr rfl) _) ?_
    intro hHeld
    refine wpAnyH_done (by kernel_rfl) ?_ _
    refine NoPanic.normal ?_
    simp only [put_list, put_none, List.set_cons_zero, List.set_cons_succ]
    have rzf := setRow_heap (W5.drew.setRow Zh cs.toArray) Zf _ (frow fc fl fz) _ _ ((setRow_other _ Zh Zf _ (by omega)).trans hzf)
    have rzh := (setRow_other (W5.drew.setRow Zh cs.toArray) Zf Zh (frow fc fl fz) (by omega)).trans (setRow_heap W5.drew Zh _ cs.toArray _ _ hzh)
    have hbF : Below w.heap.size w ((W5.drew.setRow Zh cs.toArray).setRow Zf (frow fc fl fz)) := hHeld.below hbw hbw.size (fun q hq => by omega)
    have hRe : RestP xs (.slice none 0 0) ((W5.drew.setRow Zh cs.toArray).setRow Zf (frow fc fl fz)) := by
      unfold RestP
      rw [if_neg H40.out]
    have HF := Lib.hid (And.intro hbF hRe)
    clear hbF hRe hHeld
    go_wp2_with fail
    refine bodyPost_ret (results_rtr rfl _ _ _ _ _ _ _ _ _ _ _ _ rfl rzh _ rfl rfl rzf Tryd.underlying26 rfl (by rw [List.size_toArray, HL.out]; exact hinf) Tryd.underlying34 rfl (by kernel_rfl)) rfl ?_
    rw [HFC.out, ← HCS.out]
    exact ⟨_, rfl, HF.out.2, HF.out.1⟩
end Go.Proofs.YtgdnolondfnbkaaDoor
