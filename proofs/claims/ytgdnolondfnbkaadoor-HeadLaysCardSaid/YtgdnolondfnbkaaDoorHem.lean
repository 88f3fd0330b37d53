import Derived.Test.YtgdnolondfnbkaaDoorHel
/-
  HeadLays.
-/
namespace Go.Proofs.YtgdnolondfnbkaaDoor
open Go.RowKit

theorem same32 (dh : List Int) (A B : Option Addr) (ca cb : Nat) (w : World) (hl : dh.length = 32) (hA : SlRead w A (ints .u8 dh)) (hB : SlRead w B (ints .u8 dh)) :
    Quiets Tryd.prog 11 #[.slice A 32 ca, .slice B 32 cb] w (.bool true) := by
  have h := same_eqH A B dh ca cb w hA hB (by rw [hl]; omega)
  rw [hl] at h
  exact h
theorem load_u32H (b o : Nat) (w : World) (v : Value) (h : w.cell? ⟨b, o, none⟩ = some v) : (Instr.loadAt 24 (.pointer (some ⟨b, o, none⟩))).run Tryd.prog w = .ok v w := by
  have h2 := Tryd.underlying24
  go_simp
theorem load_rowF (b : Nat) (W : World) (fr : Array Value) (h : W.rangeAt b 0 fr.toList) (hl : fr.size = 3 := by rfl) : (Instr.loadAt 34 (.pointer (some ⟨b, 0, none⟩))).run Tryd.prog W = .ok (.agg fr) W := by
  simp only [Instr.loadAt, Instr.sureAddr, Sem.run_bind, Sem.run_pure, Result.andThen_ok, run_loadVar_mid W b 0 34 fr.toList _ h Tryd.underlying34 rfl (by rw [Array.length_toList, hl]; kernel_rfl)]
theorem or8 (q x : Int) (hq : 0 ≤ q ∧ q < 16777216) (hx : 0 ≤ x ∧ x < 256) : bits .or .u32 (q * 256) x = q * 256 + x := by
  obtain ⟨q, rfl⟩ := Int.eq_ofNat_of_zero_le hq.1
  obtain ⟨x, rfl⟩ := Int.eq_ofNat_of_zero_le hx.1
  rw [show ((q : Int) * 256) = ((q * 256 : Nat) : Int) by simp, u32_or_nat _ _ (by omega) (by omega), Nat.or_comm, or_low x q 8 (by omega)]
  omega
theorem hdB_cells (dh : List Int) (pn n : Int) (hl : dh.length = 32) (j : Nat) (hj : j < 4) : (hdB dh pn n)[32 + j]? = (le4 pn)[j]? ∧ (hdB dh pn n)[36 + j]? = (le4 n)[j]? := by
  have h36 : (dh ++ le4 pn).length = 36 := by simp [le4, hl]
  have h4 : (le4 pn).length = 4 := rfl
  unfold hdB
  constructor
  · rw [List.append_assoc, List.getElem?_append_right (by omega), List.getElem?_append_left (by omega)]
    congr 1
    omega
  · rw [List.getElem?_append_right (by omega)]
    congr 1
    omega
theorem le4_at (n : Int) (hn : 0 ≤ n ∧ n < 4294967296) (j : Nat) (hj : j < 4) : ∃ q x p : Int, (le4 n)[j]? = some x ∧ q = n / (256 ^ (j + 1) : Nat) ∧ p = n / (256 ^ j : Nat) ∧ p = q * 256 + x ∧ (0 ≤ q ∧ q < 16777216) ∧ (0 ≤ x ∧ x < 256) := by
  obtain rfl | rfl | rfl | rfl : j = 0 ∨ j = 1 ∨ j = 2 ∨ j = 3 := by omega
  · exact ⟨_, _, _, rfl, rfl, rfl, by simp; omega, by simp; omega, by omega⟩
  · exact ⟨_, _, _, rfl, rfl, rfl, by simp; omega, by simp; omega, by omega⟩
  · exact ⟨_, _, _, rfl, rfl, rfl, by simp; omega, by simp; omega, by omega⟩
  · exact ⟨_, _, _, rfl, rfl, rfl, by simp; omega, by simp; omega, by omega⟩
theorem hdO_below (c : Nat) (hc : c < 40) : hdO c = some (2, if c < 32 then 0 else if c < 36 then 32 else 36) := by
  unfold hdO
  by_cases h1 : c < 32
  · rw [if_pos h1, if_pos h1]
  · rw [if_neg h1, if_neg h1]
    by_cases h2 : c < 36
    · rw [if_pos h2, if_pos h2]
    · rw [if_neg h2, if_neg h2, if_pos hc]
set_option maxRecDepth 100000 in
set_option maxHeartbeats 6400000 in
theorem lays_walk (E : Nat → Addr) (dh : List Int) (pn n cut : Int) (w : World) (hdl : dh.length = 32) (hdb : Byts dh) (hp : 0 ≤ pn ∧ pn < 4294967296) (hn : 0 ≤ n ∧ n < 4294967296) (hE : ErrsAt E w) :
    Calls Tryd.prog 5 #[hdV dh pn n, .int .i64 cut] w fun e w' => e = .returned (.bool true) ∧ Below w.heap.size w w' := by
  have hinf : (Tryd.prog.info? 26 ).map (·.size) = some 34 := by kernel_rfl
  go_enter Tryd.func5, Tryd.ntmps5
  go_upto_region 1 with (fail)
  obtain ⟨P0, hP0⟩ : ∃ P, P = w.heap.size := ⟨_, rfl⟩
  refine wp_world (fun V => Below w.heap.size w V ∧ V.rangeAt P0 0 (hdC dh pn n) ∧ V.heap.size = P0 + 1) ⟨below_alc w _, by rw [hP0]; exact range_new (heap1_0 w _), by rw [hP0]; simp⟩ ?_
  rintro V0 ⟨hb0, rP0, hs0⟩
  rw [← hP0]
  have hnP : w.heap.size ≤ P0 := by omega
  clear hP0
  go_wp2_with fail
  refine (hfirst_any E V0 (hE.below hb0)).mono ?_
  rintro e V1 ⟨rfl, hb1⟩
  have hs1 := hb1.size
  have rP1 := (Turn.of_below (F := fun _ => False) hb1).range rP0 (by omega) id
  have hbw1 := hb0.trans (hb1.mono hb0.size)
  have lP1 : P0 < V1.heap.size := by omega
  clear hb0 hb1 rP0 hs0 hs1
  have h40 := hdB_len dh pn n hdl
  have HD := Lib.hid (hdC_len dh pn n hdl)
  have HCP : Hid ((hdC dh pn n)[32]? = some (.int .u32 pn)) := Lib.hid (by rw [hdC, List.getElem?_append_right (by rw [ints_length, hdl]; omega), ints_length, hdl]; rfl)
  have HCN : Hid ((hdC dh pn n)[33]? = some (.int .u32 n)) := Lib.hid (by rw [hdC, List.getElem?_append_right (by rw [ints_length, hdl]; omega), ints_length, hdl]; rfl)
  have hbb := hdB_byts dh pn n hdb
  have e32 : (hdB dh pn n).take 32 = dh := by unfold hdB; rw [List.append_assoc, List.take_append_of_le_length (by omega), List.take_of_length_le (by omega)]
  have hcl := hdB_cells dh pn n hdl
  have HB := hbytes_any dh pn n V1 hdl
  obtain ⟨bs, hbs⟩ : ∃ bs, bs = hdB dh pn n := ⟨_, rfl⟩
  rw [← hbs] at h40 hbb e32 hcl HB
  have H40 := Lib.hid h40
  clear hbs
  go_wp2_with (refine wpList_load_mid rfl 26 _ rfl P0 0 rfl _ _ rP1 Tryd.underlying26 rfl (by rw [HD.out]; exact hinf) ?_)
  refine HB.mono ?_
  rintro e V2 ⟨v2, rfl, hown2, hb2⟩
  obtain ⟨Aw, c0, rfl, hc0, _, _⟩ := own_slice hown2
  have zA := SlRead.of_own hown2
  obtain ⟨b0, o0, rfl, hl0, hcel⟩ := zA (by simp; omega)
  have rP2 := (Turn.of_below (F := fun _ => False) hb2).range rP1 lP1 id
  have hbw2 := hbw1.trans (hb2.mono hbw1.size)
  have lP2 : P0 < V2.heap.size := Nat.lt_of_lt_of_le lP1 hb2.size
  clear rP1 hown2 hb2 hbw1 lP1 HB
  go_upto_region 5 with (fail)
  have hsl32 : ∀ w, (Instr.sliceAt 27 (.slice (some ⟨b0, o0, none⟩) 40 c0) none (some (.int .i64 32)) none).run Tryd.prog w = .ok (.slice (some ⟨b0, o0, none⟩) 32 c0) w := fun w => sliceAt_hkH (P := Tryd.prog) Tryd.underlying27 (by kernel_rfl) (some ⟨b0, o0, none⟩) 40 c0 32 (by omega) w
  have z32 : SlRead V2 (some ⟨b0, o0, none⟩) (ints .u8 dh) := by rw [← e32]; exact SlRead.take zA 32
  have zP : SlRead V2 (some ⟨P0, 0, none⟩) (ints .u8 dh) := fun h0 => ⟨P0, 0, rfl, lP2, fun j u hj => rP2 j u (by rw [hdC, List.getElem?_append_left (List.getElem?_eq_some_iff.1 hj).1]; exact hj)⟩
  refine wp_region_noPanic ?_
  refine wp_region_held_drew (S := fun Y => Below V2.heap.size V2 Y) (by kernel_rfl) (Below.drewNr (w := V2) 1) (fun hHeld => ?_)
  refine held_move 0 (Go.Operand.tmp 6) (some 22) (.slice (some ⟨b0, o0, none⟩) 40 c0) (by kernel_rfl) (by kernel_rfl) (by kernel_rfl) (by kernel_rfl) (by kernel_rfl) (fun _ _ _ _ _ h => h) hHeld ?_
  refine held_any 1 (Go.Op.call { callee := Go.Callee.builtin Go.Builtin.len, args := #[Go.Operand.tmp 22], argTypes := #[27] }) (some 23) (.int .i64 40) (by kernel_rfl) (by kernel_rfl) (by kernel_rfl) (by kernel_rfl) (fun _ _ _ _ _ h => h) hHeld (fun o ho w _ => exec_len (vx := .slice (some ⟨b0, o0, none⟩) 40 c0) ho rfl (by kernel_rfl) (len_slice _ 5 _ Tryd.underlying27 (some ⟨b0, o0, none⟩) 40 c0 _)) ?_
  refine held_bin 2 Go.BinOp.neq 3 (Go.Operand.tmp 23) (Go.Operand.const (Go.Value.int Go.IntKind.i64 40)) 3 (some 24) (.int .i64 40) (Go.Value.int Go.IntKind.i64 40) (.bool false) (by kernel_rfl) (by kernel_rfl) (fun w => neq_int _ _ _ w _ _ _ _ (by decide)) (by kernel_rfl) (by kernel_rfl) (by kernel_rfl) (fun _ _ _ _ _ h => h) hHeld ?_
  refine held_move 3 (Go.Operand.tmp 24) (some 25) (.bool false) (by kernel_rfl) (by kernel_rfl) (by kernel_rfl) (by kernel_rfl) (by kernel_rfl) (fun _ _ _ _ _ h => h) hHeld ?_
  refine held_move 4 (Go.Operand.tmp 6) (some 26) (.slice (some ⟨b0, o0, none⟩) 40 c0) (by kernel_rfl) (by kernel_rfl) (by kernel_rfl) (by kernel_rfl) (by kernel_rfl) (fun _ _ _ _ _ h => h) hHeld ?_
  refine held_slice 5 27 (Go.Operand.tmp 26) none (some (Go.Operand.const (Go.Value.int Go.IntKind.i64 32))) none (some 27) (.slice (some ⟨b0, o0, none⟩) 40 c0) none (some (Go.Value.int Go.IntKind.i64 32)) none (.slice (some ⟨b0, o0, none⟩) 32 c0) (by kernel_rfl) (by kernel_rfl) (hsl32) (by kernel_rfl) (by kernel_rfl) (by kernel_rfl) (fun _ _ _ _ _ h => h) hHeld ?_
  refine held_field 6 26 (Go.Operand.tmp 2) 0 (some 28) (.pointer (some ⟨P0, 0, none⟩)) (.pointer (some ⟨P0, 0, none⟩)) (by kernel_rfl) (by kernel_rfl) (fun w => by kernel_rfl) (by kernel_rfl) (by kernel_rfl) (by kernel_rfl) (fun _ _ _ _ _ h => h) hHeld ?_
  refine held_slice 7 23 (Go.Operand.tmp 28) none none none (some 29) (.pointer (some ⟨P0, 0, none⟩)) none none none (.slice (some ⟨P0, 0, none⟩) 32 32) (by kernel_rfl) (by kernel_rfl) (slice_dh P0) (by kernel_rfl) (by kernel_rfl) (by kernel_rfl) (fun _ _ _ _ _ h => h) hHeld ?_
  refine held_call 8 11 #[Go.Operand.tmp 27, Go.Operand.tmp 29] #[27, 27] (some 30) #[.slice (some ⟨b0, o0, none⟩) 32 c0, .slice (some ⟨P0, 0, none⟩) 32 32] _ (by kernel_rfl) (by kernel_rfl) (by kernel_rfl) (by kernel_rfl) (same32 _ _ _ _ _ _ hdl (z32.below hHeld) (zP.below hHeld)) ?_
  rintro e Y1 ⟨rfl, m1, rfl⟩
  refine ⟨_, rfl, hHeld.trans ((Below.drewNr m1).mono hHeld.size), fun hHeld => ?_⟩
  refine held_any 9 (Go.Op.unOp Go.UnOp.not 4 (Go.Operand.tmp 30)) (some 31) (.bool false) (by kernel_rfl) (by kernel_rfl) (by kernel_rfl) (by kernel_rfl) (fun _ _ _ _ _ h => h) hHeld (fun oo ho w _ => by unfold execOp; simp only [ho]; kernel_rfl) ?_
  refine held_pick 10 (Go.Operand.tmp 25) (Go.Operand.const (Go.Value.bool true)) (Go.Operand.tmp 31) (some 32) false (.bool false) (by kernel_rfl) (by kernel_rfl) (by kernel_rfl) (by kernel_rfl) (by kernel_rfl) (by kernel_rfl) (fun _ _ _ _ _ h => h) hHeld ?_
  refine wpAnyH_done (by kernel_rfl) ?_ _
  refine NoPanic.normal ?_
  simp only [put_list, List.set_cons_zero, List.set_cons_succ]
  generalize World.drewN _ m1 = Y1 at *
  have rP := (Turn.of_below (F := fun _ => False) hHeld).range rP2 lP2 id
  have zA2 := zA.below hHeld
  have hbw3 := hbw2.trans (hHeld.mono hbw2.size)
  have lP3 : P0 < Y1.heap.size := Nat.lt_of_lt_of_le lP2 hHeld.size
  have hcel3 : ∀ j v, (ints .u8 bs)[j]? = some v → Y1.cell? ⟨b0, o0 + j, none⟩ = some v := fun j v hv => (hHeld.cell (p := ⟨b0, o0 + j, none⟩) hl0).trans (hcel j v hv)
  clear hHeld rP2 zA z32 zP hbw2 lP2 hl0 hcel
  go_wp2_with fail
  go_loopw [7, 8, 9] (fun x y i wr => ∃ (m : Nat) (z : Int), z = (m : Int) - 1 ∧ m ≤ 4 ∧ i = .int .i64 z ∧ x = .int .u32 (n / (256 ^ m : Nat)) ∧ y = .int .u32 (pn / (256 ^ m : Nat)) ∧ wr = Y1) (fun _ _ i _ => (intOf i + 1).toNat)
  case atStart => exact ⟨4, 3, rfl, by omega, rfl, congrArg (Value.int .u32) (by simp; omega), congrArg (Value.int .u32) (by simp; omega), rfl⟩
  case round =>
    obtain ⟨m, z, hz, hm, rfl, rfl, rfl, rfl⟩ := hrel
    by_cases h0 : m = 0
    · subst h0
      obtain rfl : z = -1 := by omega
      have en : n / ((256 ^ 0 : Nat) : Int) = n := by simp
      have ep : pn / ((256 ^ 0 : Nat) : Int) = pn := by simp
      rw [en, ep]
      clear en ep hz hm hcl hcel3
      have hnum := number_any cut 40 wr (by omega)
      have hc40 : 0 ≤ cut % 40 ∧ cut % 40 < 40 := by omega
      obtain ⟨c, hc⟩ : ∃ c : Nat, cut % 40 = (c : Int) := ⟨(cut % 40).toNat, by omega⟩
      rw [hc] at hnum hc40
      have hc4 : c < 40 := by omega
      clear hc hc40
      have hbc : (bs.take c).length = c := by simp; omega
      have hbx : Byts (bs.take c) := fun x h => hbb x (List.mem_of_mem_take h)
      have hsl : ∀ w, (Instr.sliceAt 27 (.slice (some ⟨b0, o0, none⟩) 40 c0) none (some (.int .i64 (c : Int))) none).run Tryd.prog w = .ok (.slice (some ⟨b0, o0, none⟩) c c0) w := fun w => sliceAt_hkH (P := Tryd.prog) Tryd.underlying27 (by kernel_rfl) (some ⟨b0, o0, none⟩) 40 c0 c (by omega) w
      have hzr : hdR (bs.take c) = hdC zdh 0 0 := by unfold hdR; rw [if_neg (by omega)]
      have hzr2 : hdR ((bs.take c).take 40) = hdC zdh 0 0 := by unfold hdR; rw [if_neg (by simp; omega)]
      have hmin : min 40 c = c := by omega
      have hout := hdO_below c hc4
      have HR : ∀ Y, Below wr.heap.size wr Y → Calls Tryd.prog 7 #[.slice (some ⟨b0, o0, none⟩) c c0] Y fun e w' => ∃ u, e = .returned (.tuple #[.agg (hdC zdh 0 0).toArray, u]) ∧ TellR E (some (2, if c < 32 then 0 else if c < 36 then 32 else 36)) u w' ∧ Below Y.heap.size Y w' := fun Y hY => by
        have h := hread_any E (some ⟨b0, o0, none⟩) (bs.take c) c0 Y ((zA2.take c).below hY) hbx (by omega) (hE.below (hbw3.trans (hY.mono hbw3.size)))
        rw [hbc, hzr, hout] at h
        exact h
      have HC : ∀ Y, Below wr.heap.size wr Y → Calls Tryd.prog 9 #[.slice (some ⟨b0, o0, none⟩) c c0] Y fun e w' => ∃ u, e = .returned (.tuple #[.agg (hdC zdh 0 0).toArray, .slice none 0 0, u]) ∧ TellR E (some (2, if c < 32 then 0 else if c < 36 then 32 else 36)) u w' ∧ Below Y.heap.size Y w' := fun Y hY => by
        have h := hcut_any E (some ⟨b0, o0, none⟩) (bs.take c) c0 Y ((zA2.take c).below hY) (by omega) hbx (by omega) (hE.below (hbw3.trans (hY.mono hbw3.size)))
        rw [hbc, hzr2, hmin, hout] at h
        exact h.mono fun e w' hh => by
          obtain ⟨r, u, rfl, ht, hr, hb⟩ := hh
          unfold RestP at hr
          rw [if_neg (by omega)] at hr
          subst hr
          exact ⟨u, rfl, ht, hb⟩
      clear hbc hbx hzr hzr2 hmin hout zA2
      go_wp2_with fail
      refine hnum.mono ?_
      rintro e Va ⟨rfl, ma, rfl⟩
      have hba : Below wr.heap.size wr (wr.drewN ma) := Below.drewNr ma
      generalize World.drewN _ ma = Va at *
      have rPa := (Turn.of_below (F := fun _ => False) hba).range rP lP3 id
      have hbwa := hbw3.trans (hba.mono hbw3.size)
      have lPa : P0 < Va.heap.size := Nat.lt_of_lt_of_le lP3 hba.size
      clear hnum
      go_wp2_with fail
      refine (HR Va hba).mono ?_
      rintro e Vb ⟨u1, rfl, ht1, hbb1⟩
      have rPb := (Turn.of_below (F := fun _ => False) hbb1).range rPa lPa id
      have hbwb := hbwa.trans (hbb1.mono hbwa.size)
      have hbab := hba.trans (hbb1.mono hba.size)
      have lPb : P0 < Vb.heap.size := Nat.lt_of_lt_of_le lPa hbb1.size
      clear rPa hbwa hba lPa hbb1 HR
      go_upto_region 16 with (refine wpList_store_row rfl 26 _ _ rfl Vb.heap.size (hdC zdh 0 0).toArray rfl (by kernel_rfl) _ _ (heap_alloc_new _ _) (by kernel_rfl) rfl (all_oneCell_toArray (hdC_one _ _ _)) ?_)
      refine wp_world (fun V => Below Vb.heap.size Vb V) (by rw [alloc_setRow]; exact below_alc Vb _) ?_
      intro Vc hbc
      have rPc := (Turn.of_below (F := fun _ => False) hbc).range rPb lPb id
      have hbwc := hbwb.trans (hbc.mono hbwb.size)
      have hbac := hbab.trans (hbc.mono hbab.size)
      have lPc : P0 < Vc.heap.size := Nat.lt_of_lt_of_le lPb hbc.size
      have ht1c := ht1.below hbc
      clear rPb hbwb hbab lPb hbc ht1
      go_wp2_with fail
      refine (HC Vc hbac).mono ?_
      rintro e Vf ⟨u2, rfl, ht2, hbf⟩
      have rPf := (Turn.of_below (F := fun _ => False) hbf).range rPc lPc id
      have hbwf := hbwc.trans (hbf.mono hbwc.size)
      have lPf : P0 < Vf.heap.size := Nat.lt_of_lt_of_le lPc hbf.size
      have ht1f := ht1c.below hbf
      clear rPc hbwc hbac lPc hbf ht1c HC
      go_upto_region 17 with (refine wpList_store_row rfl 26 _ _ rfl Vf.heap.size (hdC zdh 0 0).toArray rfl (by kernel_rfl) _ _ (heap_alloc_new _ _) (by kernel_rfl) rfl (all_oneCell_toArray (hdC_one _ _ _)) ?_)
      refine wp_world (fun V => Below Vf.heap.size Vf V) (by rw [alloc_setRow]; exact below_alc Vf _) ?_
      intro Vd hbd
      have rPd := (Turn.of_below (F := fun _ => False) hbd).range rPf lPf id
      have hbwd := hbwf.trans (hbd.mono hbwf.size)
      have lPd : P0 < Vd.heap.size := Nat.lt_of_lt_of_le lPf hbd.size
      have ht1d := ht1f.below hbd
      have ht2d := ht2.below hbd
      clear rPf hbwf lPf hbd ht1f ht2 rP hbw3 lP3
      by_cases h32 : c < 32
      · rw [if_pos h32] at ht1d ht2d
        have d1 : ¬ (32 ≤ (c : Int)) := by omega
        have d2 : ¬ (36 ≤ (c : Int)) := by omega
        clear h32 hc4 hsl
        have HSm : ∀ (v : Value) (Y : World), Below w.heap.size w Y → TellR E (some (2, 0)) v Y → Calls Tryd.prog 14 #[v, .agg (frow 103 true 0)] Y fun e w' => e = .returned (.bool true) ∧ Below Y.heap.size Y w' := fun v Y hY h => same_tell E (some (2, 0)) v Y (hE.below hY) h
        go_wp2_with fail
        refine (placed_any 103 0 Vd (by decide)).mono ?_
        rintro e Ve ⟨rfl, hbe⟩
        obtain ⟨F3, hF3⟩ : ∃ F, F = Ve.heap.size := ⟨_, rfl⟩
        have rPe := (Turn.of_below (F := fun _ => False) hbe).range rPd lPd id
        have ht1e := ht1d.below hbe
        have ht2e := ht2d.below hbe
        have hbwe := hbwd.trans (hbe.mono hbwd.size)
        have hse := hbe.size
        clear rPd ht1d ht2d hbe hbwd
        go_upto_region 23 with (refine wpList_store_row rfl 34 _ _ rfl Ve.heap.size (frow 103 true 0) rfl rfl _ _ (heap_alloc_new _ _) (by kernel_rfl) rfl (frow_one _ _ _) ?_)
        refine wp_world (fun V => Below Ve.heap.size Ve V ∧ V.rangeAt F3 0 (frow 103 true 0).toList ∧ F3 < V.heap.size) ⟨by rw [alloc_setRow]; exact below_alc Ve _, by rw [alloc_setRow, hF3]; exact range_new (heap1_0 Ve _), by rw [alloc_setRow, hF3]; simp⟩ ?_
        rintro W ⟨hbf, rF, lF⟩
        rw [← hF3]
        have rP := (Turn.of_below (F := fun _ => False) hbf).range rPe (by omega) id
        have ht1 := ht1e.below hbf
        have ht2 := ht2e.below hbf
        have hbw := hbwe.trans (hbf.mono hbwe.size)
        have cP := rP 32 (.int .u32 pn) HCP.out
        have cN := rP 33 (.int .u32 n) HCN.out
        rw [Nat.zero_add] at cP cN
        clear rPe ht1e ht2e hbf hbwe hF3 hse
        simp only [put_none]
        refine wp_region_lit ?_
        refine wpList_run (by kernel_rfl) (.bool true) (W) (exec_move rfl (by kernel_rfl)) ?_
        refine wpList_run (by kernel_rfl) (.bool true) (W) (exec_move rfl (by kernel_rfl)) ?_
        refine wpList_runG (by kernel_rfl) (.int .u32 n) (W) (exec_move rfl (by kernel_rfl)) ?_
        refine wpList_runG (by kernel_rfl) (.pointer (some ⟨P0, 33, none⟩)) (W) (exec_field (vx := .pointer (some ⟨P0, 0, none⟩)) rfl (by kernel_rfl) (by kernel_rfl)) ?_
        simp only [put_list, List.set_cons_zero, List.set_cons_succ]
        refine wpList_runG (by kernel_rfl) (.int .u32 n) (W) (exec_load (vx := .pointer (some ⟨P0, 33, none⟩)) rfl (by kernel_rfl) (load_u32H P0 33 W _ cN)) ?_
        refine wpList_runG (by kernel_rfl) (.bool true) (W) (exec_bin (vx := .int .u32 n) (vy := .int .u32 n) rfl (by kernel_rfl) (eql_int _ _ _ _ _ _ _ _ (by simp))) ?_
        refine wpList_run (by kernel_rfl) (.bool true) (W) (exec_pick (b := true) rfl (by kernel_rfl) (by kernel_rfl)) ?_
        refine wpList_run (by kernel_rfl) (.bool true) (W) (exec_move rfl (by kernel_rfl)) ?_
        refine wpList_runG (by kernel_rfl) (.int .u32 pn) (W) (exec_move rfl (by kernel_rfl)) ?_
        simp only [put_list, List.set_cons_zero, List.set_cons_succ]
        refine wpList_runG (by kernel_rfl) (.pointer (some ⟨P0, 32, none⟩)) (W) (exec_field (vx := .pointer (some ⟨P0, 0, none⟩)) rfl (by kernel_rfl) (by kernel_rfl)) ?_
        refine wpList_runG (by kernel_rfl) (.int .u32 pn) (W) (exec_load (vx := .pointer (some ⟨P0, 32, none⟩)) rfl (by kernel_rfl) (load_u32H P0 32 W _ cP)) ?_
        refine wpList_runG (by kernel_rfl) (.bool true) (W) (exec_bin (vx := .int .u32 pn) (vy := .int .u32 pn) rfl (by kernel_rfl) (eql_int _ _ _ _ _ _ _ _ (by simp))) ?_
        refine wpList_run (by kernel_rfl) (.bool true) (W) (exec_pick (b := true) rfl (by kernel_rfl) (by kernel_rfl)) ?_
        refine wpList_run (by kernel_rfl) (.bool true) (W) (exec_move rfl (by kernel_rfl)) ?_
        simp only [put_list, List.set_cons_zero, List.set_cons_succ]
        refine wpList_runG (by kernel_rfl) (u1) (W) (exec_move rfl (by kernel_rfl)) ?_
        refine wpList_runG (by kernel_rfl) (.agg (frow 103 true 0)) (W) (exec_load (vx := .pointer (some ⟨F3, 0, none⟩)) rfl (by kernel_rfl) (load_rowF F3 W (frow 103 true 0) rF)) ?_
        simp only [put_list, List.set_cons_zero, List.set_cons_succ]
        refine wpList_call (by kernel_rfl) 14 #[Go.Operand.tmp 92, Go.Operand.tmp 93] #[30, 34] #[u1, .agg (frow 103 true 0)] _ rfl (by kernel_rfl) (by kernel_rfl) (HSm u1 W hbw ht1) ?_
        rintro e Y1 ⟨rfl, hb1⟩
        refine ⟨_, rfl, ?_⟩
        have rF1 := (Turn.of_below (F := fun _ => False) hb1).range rF lF id
        refine wpList_run (by kernel_rfl) (.bool true) (Y1) (exec_pick (b := true) rfl (by kernel_rfl) (by kernel_rfl)) ?_
        refine wpList_run (by kernel_rfl) (.bool true) (Y1) (exec_move rfl (by kernel_rfl)) ?_
        refine wpList_runG (by kernel_rfl) (u2) (Y1) (exec_move rfl (by kernel_rfl)) ?_
        simp only [put_list, List.set_cons_zero, List.set_cons_succ]
        refine wpList_runG (by kernel_rfl) (.agg (frow 103 true 0)) (Y1) (exec_load (vx := .pointer (some ⟨F3, 0, none⟩)) rfl (by kernel_rfl) (load_rowF F3 Y1 (frow 103 true 0) rF1)) ?_
        simp only [put_list, List.set_cons_zero, List.set_cons_succ]
        refine wpList_call (by kernel_rfl) 14 #[Go.Operand.tmp 97, Go.Operand.tmp 98] #[30, 34] #[u2, .agg (frow 103 true 0)] _ rfl (by kernel_rfl) (by kernel_rfl) (HSm u2 Y1 (hbw.trans (hb1.mono hbw.size)) (ht2.below hb1)) ?_
        rintro e Y2 ⟨rfl, hb2⟩
        refine ⟨_, rfl, ?_⟩
        refine wpList_run (by kernel_rfl) (.bool true) (Y2) (exec_pick (b := true) rfl (by kernel_rfl) (by kernel_rfl)) ?_
        refine wpList_run (by kernel_rfl) (.bool true) (Y2) (exec_move rfl (by kernel_rfl)) ?_
        refine wpList_runG (by kernel_rfl) (.slice none 0 0) (Y2) (exec_move rfl (by kernel_rfl)) ?_
        refine wpList_runG (by kernel_rfl) (.int .i64 0) (Y2) (exec_len (x := Go.Operand.tmp 102) (t := 27) (ty := 3) (vx := .slice none 0 0) (by kernel_rfl) (by kernel_rfl) (by kernel_rfl) (len_slice _ 5 _ Tryd.underlying27 none 0 0 _)) ?_
        simp only [put_list, List.set_cons_zero, List.set_cons_succ]
        refine wpList_runG (by kernel_rfl) (.bool true) (Y2) (exec_bin (vx := .int .i64 0) (vy := Go.Value.int Go.IntKind.i64 0) rfl (by kernel_rfl) (eql_int _ _ _ _ _ _ _ _ (by simp))) ?_
        refine wpList_run (by kernel_rfl) (.bool true) (Y2) (exec_pick (b := true) rfl (by kernel_rfl) (by kernel_rfl)) ?_
        refine wpList_run (by kernel_rfl) (.bool true) (Y2) (exec_assign rfl (by kernel_rfl)) ?_
        refine wpList_nil ?_
        simp only [put_list, List.set_cons_zero, List.set_cons_succ]
        have HF := Lib.hid (hbw.trans ((hb1.trans (hb2.mono hb1.size)).mono hbw.size))
        go_wp2_with fail
        go_ret
        exact ⟨rfl, HF.out⟩
      by_cases h36 : c < 36
      · rw [if_neg h32, if_pos h36] at ht1d ht2d
        have d1 : 32 ≤ (c : Int) := by omega
        have d2 : ¬ (36 ≤ (c : Int)) := by omega
        clear h32 h36 hc4 hsl
        have HSm : ∀ (v : Value) (Y : World), Below w.heap.size w Y → TellR E (some (2, 32)) v Y → Calls Tryd.prog 14 #[v, .agg (frow 103 true 32)] Y fun e w' => e = .returned (.bool true) ∧ Below Y.heap.size Y w' := fun v Y hY h => same_tell E (some (2, 32)) v Y (hE.below hY) h
        go_wp2_with fail
        refine (placed_any 103 32 Vd (by decide)).mono ?_
        rintro e Ve ⟨rfl, hbe⟩
        obtain ⟨F3, hF3⟩ : ∃ F, F = Ve.heap.size := ⟨_, rfl⟩
        have rPe := (Turn.of_below (F := fun _ => False) hbe).range rPd lPd id
        have ht1e := ht1d.below hbe
        have ht2e := ht2d.below hbe
        have hbwe := hbwd.trans (hbe.mono hbwd.size)
        have hse := hbe.size
        clear rPd ht1d ht2d hbe hbwd
        go_upto_region 23 with (refine wpList_store_row rfl 34 _ _ rfl Ve.heap.size (frow 103 true 32) rfl rfl _ _ (heap_alloc_new _ _) (by kernel_rfl) rfl (frow_one _ _ _) ?_)
        refine wp_world (fun V => Below Ve.heap.size Ve V ∧ V.rangeAt F3 0 (frow 103 true 32).toList ∧ F3 < V.heap.size) ⟨by rw [alloc_setRow]; exact below_alc Ve _, by rw [alloc_setRow, hF3]; exact range_new (heap1_0 Ve _), by rw [alloc_setRow, hF3]; simp⟩ ?_
        rintro W ⟨hbf, rF, lF⟩
        rw [← hF3]
        have rP := (Turn.of_below (F := fun _ => False) hbf).range rPe (by omega) id
        have ht1 := ht1e.below hbf
        have ht2 := ht2e.below hbf
        have hbw := hbwe.trans (hbf.mono hbwe.size)
        have cP := rP 32 (.int .u32 pn) HCP.out
        have cN := rP 33 (.int .u32 n) HCN.out
        rw [Nat.zero_add] at cP cN
        clear rPe ht1e ht2e hbf hbwe hF3 hse
        simp only [put_none]
        refine wp_region_lit ?_
        refine wpList_run (by kernel_rfl) (.bool true) (W) (exec_move rfl (by kernel_rfl)) ?_
        refine wpList_run (by kernel_rfl) (.bool true) (W) (exec_move rfl (by kernel_rfl)) ?_
        refine wpList_runG (by kernel_rfl) (.int .u32 n) (W) (exec_move rfl (by kernel_rfl)) ?_
        refine wpList_runG (by kernel_rfl) (.pointer (some ⟨P0, 33, none⟩)) (W) (exec_field (vx := .pointer (some ⟨P0, 0, none⟩)) rfl (by kernel_rfl) (by kernel_rfl)) ?_
        simp only [put_list, List.set_cons_zero, List.set_cons_succ]
        refine wpList_runG (by kernel_rfl) (.int .u32 n) (W) (exec_load (vx := .pointer (some ⟨P0, 33, none⟩)) rfl (by kernel_rfl) (load_u32H P0 33 W _ cN)) ?_
        refine wpList_runG (by kernel_rfl) (.bool true) (W) (exec_bin (vx := .int .u32 n) (vy := .int .u32 n) rfl (by kernel_rfl) (eql_int _ _ _ _ _ _ _ _ (by simp))) ?_
        refine wpList_run (by kernel_rfl) (.bool true) (W) (exec_pick (b := true) rfl (by kernel_rfl) (by kernel_rfl)) ?_
        refine wpList_run (by kernel_rfl) (.bool true) (W) (exec_move rfl (by kernel_rfl)) ?_
        refine wpList_runG (by kernel_rfl) (.int .u32 pn) (W) (exec_move rfl (by kernel_rfl)) ?_
        simp only [put_list, List.set_cons_zero, List.set_cons_succ]
        refine wpList_runG (by kernel_rfl) (.pointer (some ⟨P0, 32, none⟩)) (W) (exec_field (vx := .pointer (some ⟨P0, 0, none⟩)) rfl (by kernel_rfl) (by kernel_rfl)) ?_
        refine wpList_runG (by kernel_rfl) (.int .u32 pn) (W) (exec_load (vx := .pointer (some ⟨P0, 32, none⟩)) rfl (by kernel_rfl) (load_u32H P0 32 W _ cP)) ?_
        refine wpList_runG (by kernel_rfl) (.bool true) (W) (exec_bin (vx := .int .u32 pn) (vy := .int .u32 pn) rfl (by kernel_rfl) (eql_int _ _ _ _ _ _ _ _ (by simp))) ?_
        refine wpList_run (by kernel_rfl) (.bool true) (W) (exec_pick (b := true) rfl (by kernel_rfl) (by kernel_rfl)) ?_
        refine wpList_run (by kernel_rfl) (.bool true) (W) (exec_move rfl (by kernel_rfl)) ?_
        simp only [put_list, List.set_cons_zero, List.set_cons_succ]
        refine wpList_runG (by kernel_rfl) (u1) (W) (exec_move rfl (by kernel_rfl)) ?_
        refine wpList_runG (by kernel_rfl) (.agg (frow 103 true 32)) (W) (exec_load (vx := .pointer (some ⟨F3, 0, none⟩)) rfl (by kernel_rfl) (load_rowF F3 W (frow 103 true 32) rF)) ?_
        simp only [put_list, List.set_cons_zero, List.set_cons_succ]
        refine wpList_call (by kernel_rfl) 14 #[Go.Operand.tmp 92, Go.Operand.tmp 93] #[30, 34] #[u1, .agg (frow 103 true 32)] _ rfl (by kernel_rfl) (by kernel_rfl) (HSm u1 W hbw ht1) ?_
        rintro e Y1 ⟨rfl, hb1⟩
        refine ⟨_, rfl, ?_⟩
        have rF1 := (Turn.of_below (F := fun _ => False) hb1).range rF lF id
        refine wpList_run (by kernel_rfl) (.bool true) (Y1) (exec_pick (b := true) rfl (by kernel_rfl) (by kernel_rfl)) ?_
        refine wpList_run (by kernel_rfl) (.bool true) (Y1) (exec_move rfl (by kernel_rfl)) ?_
        refine wpList_runG (by kernel_rfl) (u2) (Y1) (exec_move rfl (by kernel_rfl)) ?_
        simp only [put_list, List.set_cons_zero, List.set_cons_succ]
        refine wpList_runG (by kernel_rfl) (.agg (frow 103 true 32)) (Y1) (exec_load (vx := .pointer (some ⟨F3, 0, none⟩)) rfl (by kernel_rfl) (load_rowF F3 Y1 (frow 103 true 32) rF1)) ?_
        simp only [put_list, List.set_cons_zero, List.set_cons_succ]
        refine wpList_call (by kernel_rfl) 14 #[Go.Operand.tmp 97, Go.Operand.tmp 98] #[30, 34] #[u2, .agg (frow 103 true 32)] _ rfl (by kernel_rfl) (by kernel_rfl) (HSm u2 Y1 (hbw.trans (hb1.mono hbw.size)) (ht2.below hb1)) ?_
        rintro e Y2 ⟨rfl, hb2⟩
        refine ⟨_, rfl, ?_⟩
        refine wpList_run (by kernel_rfl) (.bool true) (Y2) (exec_pick (b := true) rfl (by kernel_rfl) (by kernel_rfl)) ?_
        refine wpList_run (by kernel_rfl) (.bool true) (Y2) (exec_move rfl (by kernel_rfl)) ?_
        refine wpList_runG (by kernel_rfl) (.slice none 0 0) (Y2) (exec_move rfl (by kernel_rfl)) ?_
        refine wpList_runG (by kernel_rfl) (.int .i64 0) (Y2) (exec_len (x := Go.Operand.tmp 102) (t := 27) (ty := 3) (vx := .slice none 0 0) (by kernel_rfl) (by kernel_rfl) (by kernel_rfl) (len_slice _ 5 _ Tryd.underlying27 none 0 0 _)) ?_
        simp only [put_list, List.set_cons_zero, List.set_cons_succ]
        refine wpList_runG (by kernel_rfl) (.bool true) (Y2) (exec_bin (vx := .int .i64 0) (vy := Go.Value.int Go.IntKind.i64 0) rfl (by kernel_rfl) (eql_int _ _ _ _ _ _ _ _ (by simp))) ?_
        refine wpList_run (by kernel_rfl) (.bool true) (Y2) (exec_pick (b := true) rfl (by kernel_rfl) (by kernel_rfl)) ?_
        refine wpList_run (by kernel_rfl) (.bool true) (Y2) (exec_assign rfl (by kernel_rfl)) ?_
        refine wpList_nil ?_
        simp only [put_list, List.set_cons_zero, List.set_cons_succ]
        have HF := Lib.hid (hbw.trans ((hb1.trans (hb2.mono hb1.size)).mono hbw.size))
        go_wp2_with fail
        go_ret
        exact ⟨rfl, HF.out⟩
      · rw [if_neg h32, if_neg h36] at ht1d ht2d
        have d1 : 32 ≤ (c : Int) := by omega
        have d2 : 36 ≤ (c : Int) := by omega
        clear h32 h36 hc4 hsl
        have HSm : ∀ (v : Value) (Y : World), Below w.heap.size w Y → TellR E (some (2, 36)) v Y → Calls Tryd.prog 14 #[v, .agg (frow 103 true 36)] Y fun e w' => e = .returned (.bool true) ∧ Below Y.heap.size Y w' := fun v Y hY h => same_tell E (some (2, 36)) v Y (hE.below hY) h
        go_wp2_with fail
        refine (placed_any 103 36 Vd (by decide)).mono ?_
        rintro e Ve ⟨rfl, hbe⟩
        obtain ⟨F3, hF3⟩ : ∃ F, F = Ve.heap.size := ⟨_, rfl⟩
        have rPe := (Turn.of_below (F := fun _ => False) hbe).range rPd lPd id
        have ht1e := ht1d.below hbe
        have ht2e := ht2d.below hbe
        have hbwe := hbwd.trans (hbe.mono hbwd.size)
        have hse := hbe.size
        clear rPd ht1d ht2d hbe hbwd
        go_upto_region 23 with (refine wpList_store_row rfl 34 _ _ rfl Ve.heap.size (frow 103 true 36) rfl rfl _ _ (heap_alloc_new _ _) (by kernel_rfl) rfl (frow_one _ _ _) ?_)
        refine wp_world (fun V => Below Ve.heap.size Ve V ∧ V.rangeAt F3 0 (frow 103 true 36).toList ∧ F3 < V.heap.size) ⟨by rw [alloc_setRow]; exact below_alc Ve _, by rw [alloc_setRow, hF3]; exact range_new (heap1_0 Ve _), by rw [alloc_setRow, hF3]; simp⟩ ?_
        rintro W ⟨hbf, rF, lF⟩
        rw [← hF3]
        have rP := (Turn.of_below (F := fun _ => False) hbf).range rPe (by omega) id
        have ht1 := ht1e.below hbf
        have ht2 := ht2e.below hbf
        have hbw := hbwe.trans (hbf.mono hbwe.size)
        have cP := rP 32 (.int .u32 pn) HCP.out
        have cN := rP 33 (.int .u32 n) HCN.out
        rw [Nat.zero_add] at cP cN
        clear rPe ht1e ht2e hbf hbwe hF3 hse
        simp only [put_none]
        refine wp_region_lit ?_
        refine wpList_run (by kernel_rfl) (.bool true) (W) (exec_move rfl (by kernel_rfl)) ?_
        refine wpList_run (by kernel_rfl) (.bool true) (W) (exec_move rfl (by kernel_rfl)) ?_
        refine wpList_runG (by kernel_rfl) (.int .u32 n) (W) (exec_move rfl (by kernel_rfl)) ?_
        refine wpList_runG (by kernel_rfl) (.pointer (some ⟨P0, 33, none⟩)) (W) (exec_field (vx := .pointer (some ⟨P0, 0, none⟩)) rfl (by kernel_rfl) (by kernel_rfl)) ?_
        simp only [put_list, List.set_cons_zero, List.set_cons_succ]
        refine wpList_runG (by kernel_rfl) (.int .u32 n) (W) (exec_load (vx := .pointer (some ⟨P0, 33, none⟩)) rfl (by kernel_rfl) (load_u32H P0 33 W _ cN)) ?_
        refine wpList_runG (by kernel_rfl) (.bool true) (W) (exec_bin (vx := .int .u32 n) (vy := .int .u32 n) rfl (by kernel_rfl) (eql_int _ _ _ _ _ _ _ _ (by simp))) ?_
        refine wpList_run (by kernel_rfl) (.bool true) (W) (exec_pick (b := true) rfl (by kernel_rfl) (by kernel_rfl)) ?_
        refine wpList_run (by kernel_rfl) (.bool true) (W) (exec_move rfl (by kernel_rfl)) ?_
        refine wpList_runG (by kernel_rfl) (.int .u32 pn) (W) (exec_move rfl (by kernel_rfl)) ?_
        simp only [put_list, List.set_cons_zero, List.set_cons_succ]
        refine wpList_runG (by kernel_rfl) (.pointer (some ⟨P0, 32, none⟩)) (W) (exec_field (vx := .pointer (some ⟨P0, 0, none⟩)) rfl (by kernel_rfl) (by kernel_rfl)) ?_
        refine wpList_runG (by kernel_rfl) (.int .u32 pn) (W) (exec_load (vx := .pointer (some ⟨P0, 32, none⟩)) rfl (by kernel_rfl) (load_u32H P0 32 W _ cP)) ?_
        refine wpList_runG (by kernel_rfl) (.bool true) (W) (exec_bin (vx := .int .u32 pn) (vy := .int .u32 pn) rfl (by kernel_rfl) (eql_int _ _ _ _ _ _ _ _ (by simp))) ?_
        refine wpList_run (by kernel_rfl) (.bool true) (W) (exec_pick (b := true) rfl (by kernel_rfl) (by kernel_rfl)) ?_
        refine wpList_run (by kernel_rfl) (.bool true) (W) (exec_move rfl (by kernel_rfl)) ?_
        simp only [put_list, List.set_cons_zero, List.set_cons_succ]
        refine wpList_runG (by kernel_rfl) (u1) (W) (exec_move rfl (by kernel_rfl)) ?_
        refine wpList_runG (by kernel_rfl) (.agg (frow 103 true 36)) (W) (exec_load (vx := .pointer (some ⟨F3, 0, none⟩)) rfl (by kernel_rfl) (load_rowF F3 W (frow 103 true 36) rF)) ?_
        simp only [put_list, List.set_cons_zero, List.set_cons_succ]
        refine wpList_call (by kernel_rfl) 14 #[Go.Operand.tmp 92, Go.Operand.tmp 93] #[30, 34] #[u1, .agg (frow 103 true 36)] _ rfl (by kernel_rfl) (by kernel_rfl) (HSm u1 W hbw ht1) ?_
        rintro e Y1 ⟨rfl, hb1⟩
        refine ⟨_, rfl, ?_⟩
        have rF1 := (Turn.of_below (F := fun _ => False) hb1).range rF lF id
        refine wpList_run (by kernel_rfl) (.bool true) (Y1) (exec_pick (b := true) rfl (by kernel_rfl) (by kernel_rfl)) ?_
        refine wpList_run (by kernel_rfl) (.bool true) (Y1) (exec_move rfl (by kernel_rfl)) ?_
        refine wpList_runG (by kernel_rfl) (u2) (Y1) (exec_move rfl (by kernel_rfl)) ?_
        simp only [put_list, List.set_cons_zero, List.set_cons_succ]
        refine wpList_runG (by kernel_rfl) (.agg (frow 103 true 36)) (Y1) (exec_load (vx := .pointer (some ⟨F3, 0, none⟩)) rfl (by kernel_rfl) (load_rowF F3 Y1 (frow 103 true 36) rF1)) ?_
        simp only [put_list, List.set_cons_zero, List.set_cons_succ]
        refine wpList_call (by kernel_rfl) 14 #[Go.Operand.tmp 97, Go.Operand.tmp 98] #[30, 34] #[u2, .agg (frow 103 true 36)] _ rfl (by kernel_rfl) (by kernel_rfl) (HSm u2 Y1 (hbw.trans (hb1.mono hbw.size)) (ht2.below hb1)) ?_
        rintro e Y2 ⟨rfl, hb2⟩
        refine ⟨_, rfl, ?_⟩
        refine wpList_run (by kernel_rfl) (.bool true) (Y2) (exec_pick (b := true) rfl (by kernel_rfl) (by kernel_rfl)) ?_
        refine wpList_run (by kernel_rfl) (.bool true) (Y2) (exec_move rfl (by kernel_rfl)) ?_
        refine wpList_runG (by kernel_rfl) (.slice none 0 0) (Y2) (exec_move rfl (by kernel_rfl)) ?_
        refine wpList_runG (by kernel_rfl) (.int .i64 0) (Y2) (exec_len (x := Go.Operand.tmp 102) (t := 27) (ty := 3) (vx := .slice none 0 0) (by kernel_rfl) (by kernel_rfl) (by kernel_rfl) (len_slice _ 5 _ Tryd.underlying27 none 0 0 _)) ?_
        simp only [put_list, List.set_cons_zero, List.set_cons_succ]
        refine wpList_runG (by kernel_rfl) (.bool true) (Y2) (exec_bin (vx := .int .i64 0) (vy := Go.Value.int Go.IntKind.i64 0) rfl (by kernel_rfl) (eql_int _ _ _ _ _ _ _ _ (by simp))) ?_
        refine wpList_run (by kernel_rfl) (.bool true) (Y2) (exec_pick (b := true) rfl (by kernel_rfl) (by kernel_rfl)) ?_
        refine wpList_run (by kernel_rfl) (.bool true) (Y2) (exec_assign rfl (by kernel_rfl)) ?_
        refine wpList_nil ?_
        simp only [put_list, List.set_cons_zero, List.set_cons_succ]
        have HF := Lib.hid (hbw.trans ((hb1.trans (hb2.mono hb1.size)).mono hbw.size))
        go_wp2_with fail
        go_ret
        exact ⟨rfl, HF.out⟩
    · obtain ⟨j, rfl⟩ : ∃ j, m = j + 1 := ⟨m - 1, by omega⟩
      obtain rfl : z = (j : Int) := by omega
      obtain ⟨q, x, q2, hx, hq, hq2, hqx, hqb, hxb⟩ := le4_at n hn j (by omega)
      obtain ⟨r, y, r2, hy, hr, hr2, hry, hrb, hyb⟩ := le4_at pn hp j (by omega)
      have hc1 := hcel3 (32 + j) (.int .u8 y) (ints_get .u8 bs _ _ ((hcl j (by omega)).1.trans hy))
      have hc2 := hcel3 (36 + j) (.int .u8 x) (ints_get .u8 bs _ _ ((hcl j (by omega)).2.trans hx))
      rw [← hq, ← hr]
      have HQ := Lib.hid (And.intro hq2 (And.intro hqx (And.intro hr2 hry)))
      have m1 : q * 256 % 4294967296 = q * 256 := by omega
      have m2 : r * 256 % 4294967296 = r * 256 := by omega
      have o1 := or8 q x hqb hxb
      have o2 := or8 r y hrb hyb
      have hj4 : (j : Int) < 4 := by omega
      have hj0 : 0 ≤ (j : Int) := by omega
      clear hq hr hq2 hqx hr2 hry hx hy hz hcel3 hcl
      go_wp2_with fail
      go_roundw
      case rel => exact ⟨j, (j : Int) - 1, rfl, by omega, by go_num, congrArg (Value.int .u32) (by rw [← HQ.out.1, HQ.out.2.1]), congrArg (Value.int .u32) (by rw [← HQ.out.2.2.1, HQ.out.2.2.2]), trivial⟩
      case measure => simp [intOf] <;> omega
end Go.Proofs.YtgdnolondfnbkaaDoor
