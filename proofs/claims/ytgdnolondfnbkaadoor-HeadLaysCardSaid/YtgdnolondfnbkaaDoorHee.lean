import Derived.Test.YtgdnolondfnbkaaDoorHed
/-
  head.Cut.
-/
namespace Go.Proofs.YtgdnolondfnbkaaDoor
open Go.RowKit

theorem results_row_tmp2 {P : Program} {fn : Func} {p q q2 : Tmp} {ty : TypeId} (h : fn.results = #[.cell p ty, .tmp q, .tmp q2]) (tmps : Array Value) (w : World) (g : Nat) (t : TypeId) (cs : Array Value) (fr : Nat × Nat) (d : TypeDesc)
    (hp : tmps.getD p undef = .pointer (some ⟨g, 0, none⟩)) (hg : w.heap[g]? = some (.cells cs t fr)) (v : Value) (hq : tmps.getD q undef = v) (v2 : Value) (hq2 : tmps.getD q2 undef = v2)
    (hu : P.underlying ty = some d) (hd : (match d with | .struct _ | .array _ _ => true | _ => false) = true) (hi : (P.info? ty).map (·.size) = some cs.size) :
    (results fn tmps).run P w = .ok (.tuple #[.agg cs, v, v2]) w := by
  have hp' : tmps[p]?.getD undef = .pointer (some ⟨g, 0, none⟩) := by simpa using hp
  have hq' : tmps[q]?.getD undef = v := by simpa using hq
  have hq2' : tmps[q2]?.getD undef = v2 := by simpa using hq2
  simp [results, h, hp', hq', hq2', asAddr, run_loadVar_row w g t ty cs fr d hg hu hd hi]
theorem sliceAt_hkH {P : Program} {t e : TypeId} (hu : P.underlying t = some (.slice e)) (hs : (P.info? e).map (·.size) = some 1) (A : Option Addr) (n cap k : Nat) (hk : k ≤ cap) (w : World) :
    (Instr.sliceAt t (.slice A n cap) none (some (.int .i64 (k : Int))) none).run P w = .ok (.slice A k cap) w := by
  have e2 : P.elem t = e := by simp [Program.elem, hu]
  rw [run_sliceAt_slice (h := by rw [e2]; exact hu), run_slice_h (P := P) w t A n cap (by rw [e2]; exact hu) .i64 (k : Int) (by omega) (by omega), e2]
  obtain ⟨i, hi, hz⟩ := Option.map_eq_some_iff.1 hs
  cases A <;> simp [sizeOf, typeInfo, hi, hz, Result.andThen, sliced, Addr.add]
theorem hdR_len (xs : List Int) : (hdR xs).length = 34 := by
  unfold hdR
  split
  · exact hdC_len _ _ _ (by simp; omega)
  · exact hdC_len _ _ _ zdh_len
theorem hdR_one (xs : List Int) : ∀ v ∈ hdR xs, v.oneCell' = true := by
  unfold hdR
  split
  · exact hdC_one _ _ _
  · exact hdC_one _ _ _
theorem store_rowH {P : Program} (ty : TypeId) (w : World) (g : Nat) (t : TypeId) (old cells : Array Value) (hg : w.heap[g]? = some (.cells old t (0, 0))) (hi : (P.info? ty).map (·.size) = some cells.size) (hold : old.size = cells.size) (h1 : cells.all (·.oneCell') = true) :
    (Instr.storeAt ty (.pointer (some ⟨g, 0, none⟩)) (.agg cells)).run P w = .ok () (w.setRow g cells) := by
  simp only [Instr.storeAt, Instr.sureAddr, Sem.run_bind, Sem.run_pure, Result.andThen_ok, run_storeVar_row w g t ty old cells hg hi hold h1]
/-- what is behind a header -/
def RestP (xs : List Int) (r : Value) (w : World) : Prop := if 40 ≤ xs.length then ∃ A c, r = .slice A (xs.length - 40) c ∧ SlRead w A (ints .u8 (xs.drop 40)) else r = .slice none 0 0
set_option maxRecDepth 100000 in
set_option maxHeartbeats 6400000 in
theorem hcut_any (E : Nat → Addr) (A : Option Addr) (xs : List Int) (ca : Nat) (w : World) (hA : SlRead w A (ints .u8 xs)) (hca : xs.length ≤ ca) (hx : Byts xs) (hl : xs.length ≤ 1000) (hE : ErrsAt E w) :
    Calls Tryd.prog 9 #[.slice A xs.length ca] w fun e w' => ∃ r u, e = .returned (.tuple #[.agg (hdR (xs.take 40)).toArray, r, u]) ∧ TellR E (hdO (min 40 xs.length)) u w' ∧ RestP xs r w' ∧ Below w.heap.size w w' := by
  have hinf : (Tryd.prog.info? 26).map (·.size) = some 34 := by kernel_rfl
  obtain ⟨m, hm⟩ : ∃ m, m = min 40 xs.length := ⟨_, rfl⟩
  have hml : (xs.take 40).length = m := by rw [hm]; simp
  have hmn : m ≤ 40 ∧ m ≤ xs.length ∧ (m = 40 ∨ m = xs.length) := by omega
  have hsl := fun w => sliceAt_hkH (P := Tryd.prog) Tryd.underlying27 (by kernel_rfl) A xs.length ca m (by omega) w
  have hrt : SlRead w A (ints .u8 (xs.take 40)) := hA.take 40
  have hmin : (if (xs.length : Int) < 40 then (xs.length : Int) else 40) = (m : Int) := by split <;> omega
  have HM := Lib.hid (And.intro hm hml)
  clear hm hml
  go_enter Tryd.func9, Tryd.ntmps9
  go_upto_region 2 with (fail)
  obtain ⟨Z, hZ⟩ : ∃ Z, Z = w.heap.size := ⟨_, rfl⟩
  refine wp_world (fun V => Below w.heap.size w V ∧ V.heap[Z]? = some (.cells (hdC zdh 0 0).toArray 26 (0, 0)) ∧ V.heap.size = w.heap.size + 1) ⟨below_alc w _, by rw [hZ]; exact (heap1_0 w _).trans rfl, by simp⟩ ?_
  rintro V ⟨hbV, hZV, hVs⟩
  rw [← hZ]
  try rw [hmin]
  clear hmin
  have hnum : w.heap.size ≤ Z ∧ Z < V.heap.size := by omega
  have HR := hread_any E A (xs.take 40) ca V (hrt.below hbV) (fun x h => hx x (List.mem_of_mem_take h)) (by rw [HM.out.2]; omega) (hE.below hbV)
  rw [HM.out.2] at HR
  obtain ⟨cs, hcs⟩ : ∃ cs, cs = hdR (xs.take 40) := ⟨_, rfl⟩
  have hone : ∀ v ∈ cs, v.oneCell' = true := by rw [hcs]; exact hdR_one _
  have hcl : cs.length = 34 := by rw [hcs]; exact hdR_len _
  rw [← hcs] at HR
  have HCS := Lib.hid hcs
  have HL := Lib.hid hcl
  clear hZ hVs hcs hcl
  go_wp2_with fail
  refine HR.mono ?_
  rintro e V2 ⟨u, rfl, htell, hb2⟩
  have hZ2 := (hb2.block Z hnum.2).trans hZV
  have hs2 := hb2.size
  have hbw2 := hbV.trans (hb2.mono hbV.size)
  obtain ⟨HH, hHH⟩ : ∃ H, H = V2.heap.size := ⟨_, rfl⟩
  clear HR hZV hbV hb2 hsl
  go_upto_region 3 with (refine wpList_store_row rfl 26 _ _ rfl V2.heap.size cs.toArray rfl rfl _ _ (heap_alloc_new _ _) (by rw [List.size_toArray, HL.out]; exact hinf) (by simp [HL.out]) (all_oneCell_toArray hone) ?_)
  refine wp_world (fun U => Below V2.heap.size V2 U ∧ U.rangeAt HH 0 cs) ?_ ?_
  · rw [alloc_setRow, hHH]
    exact ⟨below_alc V2 _, range_new (heap1_0 V2 _)⟩
  rintro U ⟨hbU, hrg⟩
  have hZU := (hbU.block Z (by omega)).trans hZ2
  have hZl : Z < U.heap.size := by have := hbU.size; omega
  have hbwU := hbw2.trans (hbU.mono hbw2.size)
  have hHl : HH < U.heap.size := range_lt hrg (by rw [HL.out]; omega)
  have hHZ : ¬ HH = Z := by omega
  rw [← hHH]
  by_cases h40 : 40 ≤ xs.length
  · have hm40 : m = 40 := by omega
    have ho : hdO m = none := by rw [hm40]; rfl
    rw [ho] at htell
    obtain rfl : u = .nilIface := htell
    have hsl2 := fun w => sliceAt_l0 (P := Tryd.prog) Tryd.underlying27 (by kernel_rfl) A xs.length ca m (by omega) w
    have hrd : SlRead U (cutA A m ca) (ints .u8 (xs.drop m)) := (hA.below hbwU).cut m (cutA A m ca) (fun hh b o e => by subst e; exact cutA_some hh hca)
    have hdl : (xs.drop m).length = xs.length - m := by simp
    have HC : ∀ Y, Below U.heap.size U Y → _ := fun Y hY => cloneI_any (cutA A m ca) (xs.drop m) (ca - m) Y (hrd.below hY) (by omega)
    rw [hdl] at HC
    have HF := Lib.hid (And.intro hm40 (And.intro ho hbwU))
    clear hm40 ho hdl hbw2 hbU hZ2 hHH
    go_upto_region 5 with (fail)
    refine wp_region_noPanic ?_
    refine wp_region_held_drew (S := fun V => Turn (fun q => q = Z) U V) (by kernel_rfl) (Turn.of_below (Below.drewNr (w := U) 1)) (fun hHeld => ?_)
    refine held_load 0 26 (Go.Operand.tmp 6) (some 22) (HH) (0) (cs) _ (by kernel_rfl) (by kernel_rfl) (fun w h => h.range hrg hHl hHZ) Tryd.underlying26 rfl (by rw [HL.out]; exact hinf) (by kernel_rfl) (by kernel_rfl) (by kernel_rfl) (fun _ _ _ _ _ h => h) hHeld ?_
    refine held_move 1 (Go.Operand.tmp 0) (some 23) (.slice A xs.length ca) (by kernel_rfl) (by kernel_rfl) (by kernel_rfl) (by kernel_rfl) (by kernel_rfl) (fun _ _ _ _ _ h => h) hHeld ?_
    refine held_move 2 (Go.Operand.tmp 5) (some 24) (.int .i64 (m : Int)) (by kernel_rfl) (by kernel_rfl) (by kernel_rfl) (by kernel_rfl) (by kernel_rfl) (fun _ _ _ _ _ h => h) hHeld ?_
    refine held_slice 3 27 (Go.Operand.tmp 23) (some (Go.Operand.tmp 24)) none none (some 25) (.slice A xs.length ca) (some (.int .i64 (m : Int))) none none (.slice (cutA A m ca) (xs.length - m) (ca - m)) (by kernel_rfl) (by kernel_rfl) (hsl2) (by kernel_rfl) (by kernel_rfl) (by kernel_rfl) (fun _ _ _ _ _ h => h) hHeld ?_
    refine held_call 4 25 #[Go.Operand.tmp 25] #[27] (some 26) #[.slice (cutA A m ca) (xs.length - m) (ca - m)] _ (by kernel_rfl) (by kernel_rfl) (by kernel_rfl) (by kernel_rfl) (HC U.drew (Below.drewNr (w := U) 1)) ?_
    rintro e Y1 ⟨v1, rfl, hown, hbY⟩
    obtain ⟨Av, cv, rfl, _, _, hAv⟩ := own_slice hown
    have hbY2 : Below U.heap.size U Y1 := (Below.drewNr (w := U) 1).trans hbY
    refine ⟨_, rfl, Turn.of_below hbY2, fun hHeld => ?_⟩
    have hZY := (hbY2.block Z hZl).trans hZU
    refine held_skip 5 (Go.Op.store 26 (Go.Operand.tmp 2) (Go.Operand.tmp 22)) none (Y1.setRow Z cs.toArray) (by kernel_rfl) (by kernel_rfl) (fun o ho => exec_store (vx := .pointer (some ⟨Z, 0, none⟩)) (vy := .agg cs.toArray) ho (by kernel_rfl) (store_rowH _ _ _ _ _ _ hZY (by rw [List.size_toArray, HL.out]; exact hinf) (by simp [HL.out, hdC_len _ _ _ zdh_len]) (all_oneCell_toArray hone))) (⟨hHeld.os, hHeld.tape, hHeld.output, by simpa [World.setRow] using hHeld.size, fun q hq hF => (setRow_other Y1 Z q _ hF).trans (hHeld.block q hq hF)⟩) ?_
    intro hHeld
    refine held_assign 6 (Go.Operand.tmp 26) (some 3) (.slice Av (xs.length - m) cv) (by kernel_rfl) (by kernel_rfl) (by kernel_rfl) (by kernel_rfl) (by kernel_rfl) (fun _ _ _ _ _ h => h) hHeld ?_
    refine held_assign 7 (Go.Operand.const Go.Value.nilIface) (some 4) (Go.Value.nilIface) (by kernel_rfl) (by kernel_rfl) (by kernel_rfl) (by kernel_rfl) (by kernel_rfl) (fun _ _ _ _ _ h => h) hHeld ?_
    refine wpAnyH_done (by kernel_rfl) ?_ _
    refine NoPanic.normal ?_
    simp only [put_list, put_none, List.set_cons_zero, List.set_cons_succ]
    have hRe : RestP xs (.slice Av (xs.length - m) cv) (Y1.setRow Z cs.toArray) := by
      unfold RestP
      rw [if_pos h40]
      refine ⟨Av, cv, by rw [HF.out.1], ?_⟩
      have h1 := SlRead.of_own hown
      rw [HF.out.1] at h1
      have ht : Turn (fun q => q = Z) Y1 (Y1.setRow Z cs.toArray) := ⟨rfl, rfl, rfl, by simp [World.setRow], fun q _ hF => setRow_other Y1 Z q _ hF⟩
      exact h1.turn ht (fun _ a ha => by have h2 := (hAv a ha).1; have h3 : U.heap.size ≤ a.block := h2; omega)
    have hbF : Below w.heap.size w (Y1.setRow Z cs.toArray) := setRow_below (HF.out.2.2.trans (hbY2.mono HF.out.2.2.size)) Z hnum.1 _
    have HG := Lib.hid (And.intro hRe hbF)
    clear hRe hbF hHeld
    go_wp2_with fail
    refine bodyPost_ret (results_row_tmp2 rfl _ _ Z _ _ _ _ rfl (setRow_heap _ _ _ _ _ _ hZY) _ rfl _ rfl Tryd.underlying26 rfl (by rw [List.size_toArray, HL.out]; exact hinf)) rfl ?_
    rw [← HCS.out, ← HM.out.1, HF.out.2.1]
    exact ⟨_, _, rfl, rfl, HG.out.1, HG.out.2⟩
  · have hm40 : ¬ m = 40 := by omega
    obtain ⟨j, z, ho⟩ := hdO_some m hm40
    have hr : hdR (xs.take 40) = hdC zdh 0 0 := by unfold hdR; rw [if_neg (by rw [HM.out.2]; exact hm40)]
    have ho2 := ho
    rw [ho] at htell
    obtain ⟨hj, bt, rfl, hat⟩ := htell
    have hatU := hat.below hbU
    have hne : ¬ bt = Z := fun e => by
      have h1 := hatU.p
      have h2 : U.cell? ⟨Z, 0, none⟩ = some (.int .u8 0) := by
        unfold World.cell?
        simp only [hZU]
        rfl
      rw [e, h2] at h1
      cases h1
    have hat2 : AtAt bt z (errV (E j)) (U.setRow Z (hdC zdh 0 0).toArray) := ⟨(World.cell?_of_block (setRow_other U Z bt _ hne)).trans hatU.p, (World.cell?_of_block (setRow_other U Z bt _ hne)).trans hatU.e⟩
    have HF := Lib.hid (And.intro hr (And.intro ho2 (And.intro hj (And.intro hat2 (setRow_below hbwU Z hnum.1 (hdC zdh 0 0).toArray)))))
    have hone : (hdC zdh 0 0).toArray.all (·.oneCell') = true := all_oneCell_toArray (hdC_one _ _ _)
    have H40 := Lib.hid h40
    clear hr ho ho2 hat hatU hat2 hne hm40 hrg hbU hbw2 hZ2 hHH h40
    go_wp2_with (refine wpList_store_row rfl 26 _ _ rfl Z (hdC zdh 0 0).toArray rfl (by kernel_rfl) _ _ hZU (by kernel_rfl) rfl hone ?_)
    refine bodyPost_ret (results_row_tmp2 rfl _ _ Z _ _ _ _ rfl (setRow_heap _ _ _ _ _ _ hZU) _ rfl _ rfl Tryd.underlying26 rfl (by kernel_rfl)) rfl ?_
    rw [← HM.out.1, HF.out.1, HF.out.2.1]
    exact ⟨.slice none 0 0, atV bt, rfl, ⟨HF.out.2.2.1, bt, rfl, HF.out.2.2.2.1⟩, by unfold RestP; rw [if_neg H40.out], HF.out.2.2.2.2⟩
end Go.Proofs.YtgdnolondfnbkaaDoor
