import Derived.Test.YtgdnolondfnbkaaDoorHeh
import Derived.Test.YtgdnolondfnbkaaDoorDra
/-
  The document's ReadHeader.
-/
namespace Go.Proofs.YtgdnolondfnbkaaDoor
open Go.RowKit

theorem heap_eq (w : World) (o : Obj) (k : Nat) (h : k = w.heap.size) : (w.alloc o).heap[k]? = some o := by subst h; exact heap_alloc_new _ _
theorem row_turn {F : Nat → Prop} {w V : World} (h : Turn F w V) {g : Nat} (hg : F g) (cs : Array Value) : Turn F w (V.setRow g cs) :=
  ⟨h.os, h.tape, h.output, by simpa [World.setRow] using h.size, fun q hq hF => (setRow_other V g q cs (fun e => hF (by subst e; exact hg))).trans (h.block q hq hF)⟩
theorem results_two_rowsH {P : Program} {fn : Func} {p q : Tmp} {ty ty2 : TypeId} (h : fn.results = #[.cell p ty, .cell q ty2]) (tmps : Array Value) (w : World) (g g2 : Nat) (t t2 : TypeId) (cs cs2 : Array Value) (fr fr2 : Nat × Nat) (d d2 : TypeDesc)
    (hp : tmps.getD p undef = .pointer (some ⟨g, 0, none⟩)) (hg : w.heap[g]? = some (.cells cs t fr)) (hq : tmps.getD q undef = .pointer (some ⟨g2, 0, none⟩)) (hg2 : w.heap[g2]? = some (.cells cs2 t2 fr2))
    (hu : P.underlying ty = some d) (hd : (match d with | .struct _ | .array _ _ => true | _ => false) = true) (hi : (P.info? ty).map (·.size) = some cs.size)
    (hu2 : P.underlying ty2 = some d2) (hd2 : (match d2 with | .struct _ | .array _ _ => true | _ => false) = true) (hi2 : (P.info? ty2).map (·.size) = some cs2.size) :
    (results fn tmps).run P w = .ok (.tuple #[.agg cs, .agg cs2]) w := by
  have hp' : tmps[p]?.getD undef = .pointer (some ⟨g, 0, none⟩) := by simpa using hp
  have hq' : tmps[q]?.getD undef = .pointer (some ⟨g2, 0, none⟩) := by simpa using hq
  simp [results, h, hp', hq', asAddr, run_loadVar_row w g t ty cs fr d hg hu hd hi, run_loadVar_row w g2 t2 ty2 cs2 fr2 d2 hg2 hu2 hd2 hi2]
set_option maxRecDepth 100000 in
set_option maxHeartbeats 6400000 in
theorem drhead_of (A : Option Addr) (xs : List Int) (ca : Nat) (w : World) (hA : SlRead w A (ints .u8 xs)) (hca : xs.length ≤ ca) (hAlt : 0 < xs.length → ∀ a, A = some a → a.block < w.heap.size) (ys : List Int) (n1 n2 : Int) (p1 p2 p3 : Nat) (c1 c2 c3 : Int) (l1 l2 l3 : Bool) (z1 z2 z3 : Int) (fc : Int) (fl : Bool) (fz : Int)
    (hK : ∀ X W, DrS W X A xs 0 ca 0 false 0 → Calls Tryd.prog 21 #[.pointer (some ⟨X, 0, none⟩)] W fun e w' => e = .returned (.agg (ints .u8 (keyL ys)).toArray) ∧ DrS w' X A xs p1 ca c1 l1 z1 ∧ Turn (· = X) W w')
    (hU1 : ∀ X W, DrS W X A xs p1 ca c1 l1 z1 → Calls Tryd.prog 22 #[.pointer (some ⟨X, 0, none⟩)] W fun e w' => e = .returned (.int .u32 n1) ∧ DrS w' X A xs p2 ca c2 l2 z2 ∧ Turn (· = X) W w')
    (hU2 : ∀ X W, DrS W X A xs p2 ca c2 l2 z2 → Calls Tryd.prog 22 #[.pointer (some ⟨X, 0, none⟩)] W fun e w' => e = .returned (.int .u32 n2) ∧ DrS w' X A xs p3 ca c3 l3 z3 ∧ Turn (· = X) W w')
    (hO : ∀ X W, DrS W X A xs p3 ca c3 l3 z3 → Calls Tryd.prog 23 #[.pointer (some ⟨X, 0, none⟩)] W fun e w' => e = .returned (.agg (frow fc fl fz)) ∧ Turn (· = X) W w') :
    Calls Tryd.prog 8 #[.slice A xs.length ca] w fun e w' => e = .returned (.tuple #[.agg (if fc = 0 then hdC (keyL ys) n1 n2 else hdC zdh 0 0).toArray, .agg (frow fc fl fz)]) ∧ Below w.heap.size w w' := by
  have hinf : (Tryd.prog.info? 26).map (·.size) = some 34 := by kernel_rfl
  have hkl := keyL_len ys
  obtain ⟨hv, hhv⟩ : ∃ hv, hv = (if fc = 0 then hdC (keyL ys) n1 n2 else hdC zdh 0 0) := ⟨_, rfl⟩
  rw [← hhv]
  have HV := Lib.hid hhv
  clear hhv
  go_enter Tryd.func8, Tryd.ntmps8
  go_upto_region 2 with (fail)
  obtain ⟨Zh, hZh⟩ : ∃ Z, Z = w.heap.size := ⟨_, rfl⟩
  obtain ⟨Zf, hZf⟩ : ∃ Z, Z = Zh + 1 := ⟨_, rfl⟩
  obtain ⟨X, hX⟩ : ∃ Z, Z = Zf + 1 := ⟨_, rfl⟩
  refine wp_world (fun V => Below w.heap.size w V ∧ V.heap[Zh]? = some (.cells (hdC zdh 0 0).toArray 26 (0, 0)) ∧ V.heap[Zf]? = some (.cells (frow 0 false 0) 34 (0, 0)) ∧ DrS V X A xs 0 ca 0 false 0 ∧ V.heap.size = X + 1) ?_ ?_
  · subst hX hZf hZh
    have hbb : Below w.heap.size w (((w.alloc (.cells (hdC zdh 0 0).toArray 26)).alloc (.cells (frow 0 false 0) 34)).alloc (.cells #[.slice A xs.length ca, .int .i64 0, .int .i64 0, .bool false, .int .i64 0] 56)) := ((below_alc w _).alloc (by simp) _).alloc (by simp; omega) _
    have hAr := hA.below hbb
    refine ⟨hbb, ?_, ?_, ⟨⟨?_, ?_, ?_, hAr, fun h0 a ha => by have := hAlt h0 a ha; omega, Nat.zero_le _, hca⟩, ?_, fun o => ?_⟩, by simp⟩
    · exact (heap_alloc_old _ _ (by simp; omega)).trans ((heap_alloc_old _ _ (by simp)).trans ((heap_alloc_new _ _).trans rfl))
    · exact (heap_alloc_old _ _ (by simp)).trans ((heap_eq _ _ _ (by simp)).trans rfl)
    · simp [go_sem]
    · simp [go_sem]
    · simp [go_sem]
    · intro j v hv
      rcases j with _ | _ | _ | j
      · simp [frow] at hv; subst hv; simp [go_sem]
      · simp [frow] at hv; subst hv; simp [go_sem]
      · simp [frow] at hv; subst hv; simp [go_sem]
      · simp [frow] at hv
    · simp [go_sem]
  rintro V ⟨hbV, hZh0, hZf0, hD0, hVs⟩
  rw [← hZh, ← hZf, ← hX]
  have hnum : w.heap.size ≤ Zh ∧ Zh < Zf ∧ Zf < X ∧ X < V.heap.size := by omega
  clear hZh hZf hX hVs hA
  go_wp2_with fail
  refine (hK X V hD0).mono ?_
  rintro e V1 ⟨rfl, hD1, ht1⟩
  have hs1 := ht1.size
  have hZh1 := (ht1.block Zh (by omega) (by omega)).trans hZh0
  have hZf1 := (ht1.block Zf (by omega) (by omega)).trans hZf0
  have hb1 : Below w.heap.size w V1 := ht1.below hbV hbV.size (fun q hq => by omega)
  clear hK hD0 ht1 hZh0 hZf0 hbV
  go_upto_region 3 with (first | (refine wpList_build rfl 26 _ rfl #[(0, .agg (ints .u8 (keyL ys)).toArray)] (by kernel_rfl) (.agg (hdC (keyL ys) 0 0).toArray) (fun _ => by kernel_rfl) ?_) | (refine wpList_store_row rfl 26 _ _ rfl V1.heap.size (hdC (keyL ys) 0 0).toArray rfl rfl _ _ (heap_alloc_new _ _) (by kernel_rfl) (by kernel_rfl) (all_oneCell_toArray (hdC_one _ _ _)) ?_))
  obtain ⟨HH, hHH⟩ : ∃ H, H = V1.heap.size := ⟨_, rfl⟩
  refine wp_world (fun V => Below w.heap.size w V ∧ V.heap[Zh]? = some (.cells (hdC zdh 0 0).toArray 26 (0, 0)) ∧ V.heap[Zf]? = some (.cells (frow 0 false 0) 34 (0, 0)) ∧ DrS V X A xs p1 ca c1 l1 z1 ∧ HdM V HH (keyL ys) 0 0) ?_ ?_
  · rw [alloc_setRow, hHH]
    have hbb := below_alc V1 (.cells (hdC (keyL ys) 0 0).toArray 26)
    exact ⟨hb1.trans (hbb.mono hb1.size), (hbb.block Zh (by omega)).trans hZh1, (hbb.block Zf (by omega)).trans hZf1, hD1.below hbb, ⟨range_new (heap1_0 V1 _), fun o => by simp [go_sem], hkl⟩⟩
  clear hZh1 hZf1 hD1 hb1
  rintro V2 ⟨hb2, hZh2, hZf2, hD2, hm2⟩
  rw [← hHH]
  have hnH : X < HH := by omega
  have hmX : ¬ HH = X := by omega
  have hHl := hm2.lt
  clear hHH hs1
  go_wp2_with fail
  refine (hU1 X V2 hD2).mono ?_
  rintro e V3 ⟨rfl, hD3, ht3⟩
  have hs3 := ht3.size
  have hZh3 := (ht3.block Zh (by omega) (by omega)).trans hZh2
  have hZf3 := (ht3.block Zf (by omega) (by omega)).trans hZf2
  have hm3 := hm2.turn ht3 hmX
  have hb3 : Below w.heap.size w V3 := ht3.below hb2 hb2.size (fun q hq => by omega)
  clear hU1 hD2 ht3 hZh2 hZf2 hm2 hb2
  have c32 := hm3.r 32 (.int .u32 0) (by rw [hdC, List.getElem?_append_right (by rw [ints_length, hkl]; omega), ints_length, hkl]; rfl)
  rw [Nat.zero_add] at c32
  have f32 := hm3.f 32
  have hst := hm3.word 32 n1 (.inl ⟨rfl, rfl, rfl⟩)
  go_upto_region 4 with (fail)
  refine wp_world (fun V => Below w.heap.size w V ∧ V.heap[Zh]? = some (.cells (hdC zdh 0 0).toArray 26 (0, 0)) ∧ V.heap[Zf]? = some (.cells (frow 0 false 0) 34 (0, 0)) ∧ DrS V X A xs p2 ca c2 l2 z2 ∧ HdM V HH (keyL ys) n1 0 ∧ V3.heap.size ≤ V.heap.size) ?_ ?_
  · have ht := hst.2
    exact ⟨ht.below hb3 hb3.size (fun q hq => by omega), (ht.block Zh (by omega) (by omega)).trans hZh3, (ht.block Zf (by omega) (by omega)).trans hZf3, hD3.turn0 ht (by omega) (fun h0 a ha => by have := hAlt h0 a ha; omega), hst.1, ht.size⟩
  clear hZh3 hZf3 hD3 hb3 hm3 c32 f32 hst
  rintro V4 ⟨hb4, hZh4, hZf4, hD4, hm4, hs4⟩
  go_wp2_with fail
  refine (hU2 X V4 hD4).mono ?_
  rintro e V5 ⟨rfl, hD5, ht5⟩
  have hs5 := ht5.size
  have hZh5 := (ht5.block Zh (by omega) (by omega)).trans hZh4
  have hZf5 := (ht5.block Zf (by omega) (by omega)).trans hZf4
  have hm5 := hm4.turn ht5 hmX
  have hb5 : Below w.heap.size w V5 := ht5.below hb4 hb4.size (fun q hq => by omega)
  clear hU2 hD4 ht5 hZh4 hZf4 hm4 hb4
  have c33 := hm5.r 33 (.int .u32 0) (by rw [hdC, List.getElem?_append_right (by rw [ints_length, hkl]; omega), ints_length, hkl]; rfl)
  rw [Nat.zero_add] at c33
  have f33 := hm5.f 33
  have hst := hm5.word 33 n2 (.inr ⟨rfl, rfl, rfl⟩)
  go_upto_region 5 with (fail)
  refine wp_world (fun V => Below w.heap.size w V ∧ V.heap[Zh]? = some (.cells (hdC zdh 0 0).toArray 26 (0, 0)) ∧ V.heap[Zf]? = some (.cells (frow 0 false 0) 34 (0, 0)) ∧ DrS V X A xs p3 ca c3 l3 z3 ∧ HdM V HH (keyL ys) n1 n2 ∧ V5.heap.size ≤ V.heap.size) ?_ ?_
  · have ht := hst.2
    exact ⟨ht.below hb5 hb5.size (fun q hq => by omega), (ht.block Zh (by omega) (by omega)).trans hZh5, (ht.block Zf (by omega) (by omega)).trans hZf5, hD5.turn0 ht (by omega) (fun h0 a ha => by have := hAlt h0 a ha; omega), hst.1, ht.size⟩
  clear hZh5 hZf5 hD5 hb5 hm5 c33 f33 hst
  rintro V6 ⟨hb6, hZh6, hZf6, hD6, hm6, hs6⟩
  go_wp2_with fail
  refine (hO X V6 hD6).mono ?_
  rintro e V7 ⟨rfl, ht7⟩
  have hs7 := ht7.size
  have hZh7 := (ht7.block Zh (by omega) (by omega)).trans hZh6
  have hZf7 := (ht7.block Zf (by omega) (by omega)).trans hZf6
  have hm7 := hm6.turn ht7 hmX
  have hb7 : Below w.heap.size w V7 := ht7.below hb6 hb6.size (fun q hq => by omega)
  clear hO hD6 ht7 hZh6 hZf6 hm6 hb6
  obtain ⟨FB, hFB⟩ : ∃ H, H = V7.heap.size := ⟨_, rfl⟩
  go_upto_region 6 with (refine wpList_store_row rfl 34 _ _ rfl V7.heap.size (frow fc fl fz) rfl rfl _ _ (heap_alloc_new _ _) (by kernel_rfl) rfl (frow_one _ _ _) ?_)
  refine wp_world (fun V => Below w.heap.size w V ∧ V.heap[Zh]? = some (.cells (hdC zdh 0 0).toArray 26 (0, 0)) ∧ V.heap[Zf]? = some (.cells (frow 0 false 0) 34 (0, 0)) ∧ HdM V HH (keyL ys) n1 n2 ∧ V.rangeAt FB 0 (frow fc fl fz).toList ∧ FB < V.heap.size) ?_ ?_
  · rw [alloc_setRow, hFB]
    have hbb := below_alc V7 (.cells (frow fc fl fz) 34)
    have hm8 := hm7.turn (Turn.of_below (F := fun _ => False) hbb) id
    exact ⟨hb7.trans (hbb.mono hb7.size), (hbb.block Zh (by omega)).trans hZh7, (hbb.block Zf (by omega)).trans hZf7, hm8, range_new (heap1_0 V7 _), by simp⟩
  rintro V8 ⟨hb8, hZh8, hZf8, hm8, hfb8, hfbl8⟩
  rw [← hFB]
  have hnF : HH < FB := by omega
  clear hZh7 hZf7 hm7 hb7 hFB hs7 hs6 hs5 hs4 hs3
  go_wp2_with (refine wpList_load_mid rfl 34 _ rfl FB 0 rfl _ _ hfb8 Tryd.underlying34 rfl (info_F _ _ _) ?_)
  by_cases hfc : fc = 0
  · refine (bad_no fc fl fz V8 hfc).mono ?_
    rintro e W5 ⟨rfl, hb9⟩
    have HFC := Lib.hid hfc
    clear hfc
    have hzh := (hb9.block Zh (by omega)).trans hZh8
    have hzf := (hb9.block Zf (by omega)).trans hZf8
    have hm := hm8.turn (Turn.of_below (F := fun _ => False) hb9) id
    have hfb := (Turn.of_below (F := fun _ => False) hb9).range hfb8 hfbl8 id
    have hfbl : FB < W5.heap.size := Nat.lt_of_lt_of_le hfbl8 hb9.size
    have hbw := hb8.trans (hb9.mono hb8.size)
    have hcl : (hdC (keyL ys) n1 n2).length = 34 := hdC_len _ _ _ hkl
    have hone := hdC_one (keyL ys) n1 n2
    obtain ⟨hs, hhs⟩ : ∃ hs, hs = hdC (keyL ys) n1 n2 := ⟨_, rfl⟩
    rw [← hhs] at hcl hone
    have HS := Lib.hid hhs
    have HL := Lib.hid hcl
    have HO := Lib.hid hone
    have hmr := hm.r
    have hml := hm.lt
    rw [← hhs] at hmr
    clear hb8 hb9 hZh8 hZf8 hm8 hfb8 hfbl8 hhs hcl hone
    go_upto_region 8 with (fail)
    refine wp_region_noPanic ?_
    refine wp_region_held_drew (S := fun V => Turn (fun q => q = Zh ∨ q = Zf) W5 V) (by kernel_rfl) (Turn.of_below (Below.drewNr (w := W5) 1)) (fun hHeld => ?_)
    refine held_load 0 26 (Go.Operand.tmp 5) (some 25) (HH) (0) (hs) _ (by kernel_rfl) (by kernel_rfl) (fun w h => h.range hmr hml (by omega)) Tryd.underlying26 rfl (by rw [HL.out]; exact hinf) (by kernel_rfl) (by kernel_rfl) (by kernel_rfl) (fun _ _ _ _ _ h => h) hHeld ?_
    refine held_load 1 34 (Go.Operand.tmp 6) (some 26) (FB) (0) ((frow fc fl fz).toList) _ (by kernel_rfl) (by kernel_rfl) (fun w h => h.range hfb hfbl (by omega)) Tryd.underlying34 rfl (info_F _ _ _) (by kernel_rfl) (by kernel_rfl) (by kernel_rfl) (fun _ _ _ _ _ h => h) hHeld ?_
    refine held_skip 2 (Go.Op.store 26 (Go.Operand.tmp 2) (Go.Operand.tmp 25)) none (W5.drew.setRow Zh hs.toArray) (by kernel_rfl) (by kernel_rfl) (fun o ho => exec_store (vx := .pointer (some ⟨Zh, 0, none⟩)) (vy := .agg hs.toArray) ho (by kernel_rfl) (store_rowH _ _ _ _ _ _ hzh (by rw [List.size_toArray, HL.out]; exact hinf) (by simp [HL.out, hdC_len _ _ _ zdh_len]) (all_oneCell_toArray HO.out))) (row_turn hHeld (.inl rfl) _) ?_
    intro hHeld
    refine held_skip 3 (Go.Op.store 34 (Go.Operand.tmp 3) (Go.Operand.tmp 26)) none ((W5.drew.setRow Zh hs.toArray).setRow Zf (frow fc fl fz)) (by kernel_rfl) (by kernel_rfl) (fun o ho => exec_store (vx := .pointer (some ⟨Zf, 0, none⟩)) (vy := .agg (frow fc fl fz)) ho (by kernel_rfl) (store_rowH _ _ _ _ _ _ ((setRow_other _ Zh Zf _ (by omega)).trans hzf) (by kernel_rfl) rfl (frow_one _ _ _))) (row_turn hHeld (.inr rfl) _) ?_
    intro hHeld
    refine wpAnyH_done (by kernel_rfl) ?_ _
    refine NoPanic.normal ?_
    simp only [put_list, put_none, List.set_cons_zero, List.set_cons_succ]
    have hbF : Below w.heap.size w ((W5.drew.setRow Zh hs.toArray).setRow Zf (frow fc fl fz)) := hHeld.below hbw hbw.size (fun q hq => by omega)
    have rzf := setRow_heap (W5.drew.setRow Zh hs.toArray) Zf _ (frow fc fl fz) _ _ ((setRow_other _ Zh Zf _ (by omega)).trans hzf)
    have rzh := (setRow_other (W5.drew.setRow Zh hs.toArray) Zf Zh (frow fc fl fz) (by omega)).trans (setRow_heap W5.drew Zh _ hs.toArray _ _ hzh)
    have HF := Lib.hid hbF
    clear hbF hHeld
    go_wp2_with fail
    refine bodyPost_ret (results_two_rowsH rfl _ _ _ _ _ _ _ _ _ _ _ _ rfl rzh rfl rzf Tryd.underlying26 rfl (by rw [List.size_toArray, HL.out]; exact hinf) Tryd.underlying34 rfl (by kernel_rfl)) rfl ?_
    rw [HV.out, if_pos HFC.out, ← HS.out]
    exact ⟨rfl, HF.out⟩
  · refine (bad_yes fc fl fz V8 hfc).mono ?_
    rintro e W5 ⟨rfl, hb9⟩
    have HFC := Lib.hid hfc
    clear hfc
    have hzh := (hb9.block Zh (by omega)).trans hZh8
    have hzf := (hb9.block Zf (by omega)).trans hZf8
    have hfb := (Turn.of_below (F := fun _ => False) hb9).range hfb8 hfbl8 id
    have hfbl : FB < W5.heap.size := Nat.lt_of_lt_of_le hfbl8 hb9.size
    have hbw := hb8.trans (hb9.mono hb8.size)
    clear hb8 hb9 hZh8 hZf8 hm8 hfb8 hfbl8
    go_upto_region 7 with (fail)
    refine wp_region_noPanic ?_
    refine wp_region_held_drew (S := fun V => Turn (fun q => q = Zh ∨ q = Zf) W5 V) (by kernel_rfl) (Turn.of_below (Below.drewNr (w := W5) 1)) (fun hHeld => ?_)
    refine held_build 0 26 #[] (some 23) #[] (.agg (hdC zdh 0 0).toArray) (by kernel_rfl) (by kernel_rfl) (fun w => by kernel_rfl) (by kernel_rfl) (by kernel_rfl) (by kernel_rfl) (fun _ _ _ _ _ h => h) hHeld ?_
    refine held_load 1 34 (Go.Operand.tmp 6) (some 24) (FB) (0) ((frow fc fl fz).toList) _ (by kernel_rfl) (by kernel_rfl) (fun w h => h.range hfb hfbl (by omega)) Tryd.underlying34 rfl (info_F _ _ _) (by kernel_rfl) (by kernel_rfl) (by kernel_rfl) (fun _ _ _ _ _ h => h) hHeld ?_
    refine held_skip 2 (Go.Op.store 26 (Go.Operand.tmp 2) (Go.Operand.tmp 23)) none (W5.drew.setRow Zh (hdC zdh 0 0).toArray) (by kernel_rfl) (by kernel_rfl) (fun o ho => exec_store (vx := .pointer (some ⟨Zh, 0, none⟩)) (vy := .agg (hdC zdh 0 0).toArray) ho (by kernel_rfl) (store_rowH _ _ _ _ _ _ hzh (hinf) (rfl) (all_oneCell_toArray (hdC_one _ _ _)))) (row_turn hHeld (.inl rfl) _) ?_
    intro hHeld
    refine held_skip 3 (Go.Op.store 34 (Go.Operand.tmp 3) (Go.Operand.tmp 24)) none ((W5.drew.setRow Zh (hdC zdh 0 0).toArray).setRow Zf (frow fc fl fz)) (by kernel_rfl) (by kernel_rfl) (fun o ho => exec_store (vx := .pointer (some ⟨Zf, 0, none⟩)) (vy := .agg (frow fc fl fz)) ho (by kernel_rfl) (store_rowH _ _ _ _ _ _ ((setRow_other _ Zh Zf _ (by omega)).trans hzf) (by kernel_rfl) rfl (frow_one _ _ _))) (row_turn hHeld (.inr rfl) _) ?_
    intro hHeld
    refine wpAnyH_done (by kernel_rfl) ?_ _
    refine NoPanic.normal ?_
    simp only [put_list, put_none, List.set_cons_zero, List.set_cons_succ]
    have hbF : Below w.heap.size w ((W5.drew.setRow Zh (hdC zdh 0 0).toArray).setRow Zf (frow fc fl fz)) := hHeld.below hbw hbw.size (fun q hq => by omega)
    have rzf := setRow_heap (W5.drew.setRow Zh (hdC zdh 0 0).toArray) Zf _ (frow fc fl fz) _ _ ((setRow_other _ Zh Zf _ (by omega)).trans hzf)
    have rzh := (setRow_other (W5.drew.setRow Zh (hdC zdh 0 0).toArray) Zf Zh (frow fc fl fz) (by omega)).trans (setRow_heap W5.drew Zh _ (hdC zdh 0 0).toArray _ _ hzh)
    have HF := Lib.hid hbF
    clear hbF hHeld
    go_wp2_with fail
    refine bodyPost_ret (results_two_rowsH rfl _ _ _ _ _ _ _ _ _ _ _ _ rfl rzh rfl rzf Tryd.underlying26 rfl (hinf) Tryd.underlying34 rfl (by kernel_rfl)) rfl ?_
    rw [HV.out, if_neg HFC.out]
    exact ⟨rfl, HF.out⟩
theorem drhead_any (A : Option Addr) (xs : List Int) (ca : Nat) (w : World) (hA : SlRead w A (ints .u8 xs)) (hca : xs.length ≤ ca) (hx : Byts xs) (hl : xs.length ≤ 1000) :
    Calls Tryd.prog 8 #[.slice A xs.length ca] w fun e w' => e = .returned (.tuple #[.agg (hdR xs).toArray, .agg (fltR (hdO xs.length))]) ∧ Below w.heap.size w w' := by
  have hAlt : 0 < xs.length → ∀ a, A = some a → a.block < w.heap.size := fun h0 a ha => by
    obtain ⟨b, o, e, hb, _⟩ := hA (by simpa using h0)
    rw [ha] at e
    injection e with e
    subst e
    exact hb
  have bad : ∀ (X : Nat) (W : World) (p : Nat) (cc : Int) (pl : Bool) (z : Int), cc ≠ 0 → DrS W X A xs p ca cc pl z → Calls Tryd.prog 22 #[.pointer (some ⟨X, 0, none⟩)] W fun e w' => e = .returned (.int .u32 0) ∧ DrS w' X A xs p ca cc pl z ∧ Turn (· = X) W w' := fun X W p cc pl z hc h => (du32_bad h hc).mono fun _ _ hh => ⟨hh.1, h.below hh.2, Turn.of_below hh.2⟩
  unfold hdR hdO
  by_cases h32 : xs.length < 32
  · have H := drhead_of A xs ca w hA hca hAlt [] 0 0 0 0 0 103 103 103 true true true ((0 : Nat) : Int) ((0 : Nat) : Int) ((0 : Nat) : Int) 103 true ((0 : Nat) : Int) (fun X W h => by rw [keyL_nil]; exact dkey_no h (by omega) (by omega)) (fun X W h => bad X W _ _ _ _ (by decide) h) (fun X W h => bad X W _ _ _ _ (by decide) h) (fun X W h => over_bad h (by decide))
    rw [if_neg (by decide)] at H
    rw [if_neg (by omega), if_pos h32]
    exact H
  have hk : ((xs.drop 0).take 32).length = 32 := by simp; omega
  have e0 : (xs.drop 0).take 32 = xs.take 32 := rfl
  by_cases h36 : xs.length < 36
  · have H := drhead_of A xs ca w hA hca hAlt ((xs.drop 0).take 32) 0 0 32 32 32 0 103 103 false true true 0 ((32 : Nat) : Int) ((32 : Nat) : Int) 103 true ((32 : Nat) : Int) (fun X W h => by rw [keyL_all _ hk]; exact dkey_ok h (by omega) (by omega)) (fun X W h => du32_no h (by omega) (by omega)) (fun X W h => bad X W _ _ _ _ (by decide) h) (fun X W h => over_bad h (by decide))
    rw [if_neg (by decide)] at H
    rw [if_neg (by omega), if_neg h32, if_pos h36]
    exact H
  by_cases h40 : xs.length < 40
  · have H := drhead_of A xs ca w hA hca hAlt ((xs.drop 0).take 32) (wordI xs 32) 0 32 36 36 0 0 103 false false true 0 0 ((36 : Nat) : Int) 103 true ((36 : Nat) : Int) (fun X W h => by rw [keyL_all _ hk]; exact dkey_ok h (by omega) (by omega)) (fun X W h => du32_ok h hx (by omega) (by omega)) (fun X W h => du32_no h (by omega) (by omega)) (fun X W h => over_bad h (by decide))
    rw [if_neg (by decide)] at H
    rw [if_neg (by omega), if_neg h32, if_neg h36, if_pos h40]
    exact H
  by_cases h4 : xs.length = 40
  · have H := drhead_of A xs ca w hA hca hAlt ((xs.drop 0).take 32) (wordI xs 32) (wordI xs 36) 32 36 40 0 0 0 false false false 0 0 0 0 false 0 (fun X W h => by rw [keyL_all _ hk]; exact dkey_ok h (by omega) (by omega)) (fun X W h => du32_ok h hx (by omega) (by omega)) (fun X W h => du32_ok h hx (by omega) (by omega)) (fun X W h => over_end h (by omega))
    rw [if_pos rfl, keyL_all _ hk] at H
    rw [if_pos h4, if_neg h32, if_neg h36, if_neg h40, if_pos h4]
    exact H
  · have H := drhead_of A xs ca w hA hca hAlt ((xs.drop 0).take 32) (wordI xs 32) (wordI xs 36) 32 36 40 0 0 0 false false false 0 0 0 104 true ((40 : Nat) : Int) (fun X W h => by rw [keyL_all _ hk]; exact dkey_ok h (by omega) (by omega)) (fun X W h => du32_ok h hx (by omega) (by omega)) (fun X W h => du32_ok h hx (by omega) (by omega)) (fun X W h => over_trail h (by omega))
    rw [if_neg (by decide)] at H
    rw [if_neg h4, if_neg h32, if_neg h36, if_neg h40, if_neg h4]
    exact H
end Go.Proofs.YtgdnolondfnbkaaDoor
