import Derived.Test.YtffkjbbhbpaacaaDoorFrd
import Derived.Test.YtffkjbbhbpaacaaDoorDrb
/-
  The document's ReadRequest, ReadResponse.
  The document's ReadRequest, ReadResponse: any bytes.
-/
namespace Go.Proofs.YtffkjbbhbpaacaaDoor
open Go.RowKit

theorem heap_eq (w : World) (o : Obj) (k : Nat) (h : k = w.heap.size) : (w.alloc o).heap[k]? = some o := by subst h; exact heap_alloc_new _ _
theorem row_turn {F : Nat → Prop} {w V : World} (h : Turn F w V) {g : Nat} (hg : F g) (cs : Array Value) : Turn F w (V.setRow g cs) :=
  ⟨h.os, h.tape, h.output, by simpa [World.setRow] using h.size, fun q hq hF => (setRow_other V g q cs (fun e => hF (by subst e; exact hg))).trans (h.block q hq hF)⟩
theorem store_rowH {P : Program} (ty : TypeId) (w : World) (g : Nat) (t : TypeId) (old cells : Array Value) (hg : w.heap[g]? = some (.cells old t (0, 0))) (hi : (P.info? ty).map (·.size) = some cells.size) (hold : old.size = cells.size) (h1 : cells.all (·.oneCell') = true) :
    (Instr.storeAt ty (.pointer (some ⟨g, 0, none⟩)) (.agg cells)).run P w = .ok () (w.setRow g cells) := by
  simp only [Instr.storeAt, Instr.sureAddr, Sem.run_bind, Sem.run_pure, Result.andThen_ok, run_storeVar_row w g t ty old cells hg hi hold h1]
theorem results_two_rowsH {P : Program} {fn : Func} {p q : Tmp} {ty ty2 : TypeId} (h : fn.results = #[.cell p ty, .cell q ty2]) (tmps : Array Value) (w : World) (g g2 : Nat) (t t2 : TypeId) (cs cs2 : Array Value) (fr fr2 : Nat × Nat) (d d2 : TypeDesc)
    (hp : tmps.getD p undef = .pointer (some ⟨g, 0, none⟩)) (hg : w.heap[g]? = some (.cells cs t fr)) (hq : tmps.getD q undef = .pointer (some ⟨g2, 0, none⟩)) (hg2 : w.heap[g2]? = some (.cells cs2 t2 fr2))
    (hu : P.underlying ty = some d) (hd : (match d with | .struct _ | .array _ _ => true | _ => false) = true) (hi : (P.info? ty).map (·.size) = some cs.size)
    (hu2 : P.underlying ty2 = some d2) (hd2 : (match d2 with | .struct _ | .array _ _ => true | _ => false) = true) (hi2 : (P.info? ty2).map (·.size) = some cs2.size) :
    (results fn tmps).run P w = .ok (.tuple #[.agg cs, .agg cs2]) w := by
  have hp' : tmps[p]?.getD undef = .pointer (some ⟨g, 0, none⟩) := by simpa using hp
  have hq' : tmps[q]?.getD undef = .pointer (some ⟨g2, 0, none⟩) := by simpa using hq
  simp [results, h, hp', hq', asAddr, run_loadVar_row w g t ty cs fr d hg hu hd hi, run_loadVar_row w g2 t2 ty2 cs2 fr2 d2 hg2 hu2 hd2 hi2]
theorem frow_list (c : Int) (p : Bool) (z : Int) : (frow c p z).toList.toArray = frow c p z := rfl
/-- a fault told -/
def fltR (o : Option (Nat × Int)) : Array Value := match o with | none => frow 0 false 0 | some (j, z) => frow (101 + (j : Int)) true z
theorem fR_zf : (ints .u8 (List.replicate 32 0)).toArray = arr8 32 zf := by kernel_rfl
theorem fR_bF (xs : List Int) (p : Nat) (hx : Byts xs) (h : p + 32 ≤ xs.length) : (ints .u8 ((xs.drop p).take 32)).toArray = arr8 32 (bF xs p) := by rw [bF_row xs p hx h]; rfl
set_option maxRecDepth 100000 in
set_option maxHeartbeats 6400000 in
theorem drq_of (A : Option Addr) (xs : List Int) (ca : Nat) (w : World) (hA : SlRead w A (ints .u8 xs)) (hca : xs.length ≤ ca) (op n1 n2 : Int) (g : Nat → BitVec 8) (m : Nat) (ds : List Int) (p1 p3 p4 p5 p6 : Nat) (c1 c3 c4 c5 c6 : Int) (l1 l3 l4 l5 l6 : Bool) (z1 z3 z4 z5 z6 : Int) (fc : Int) (fl : Bool) (fz : Int)
    (h1 : ∀ X W, DrS W X A xs 0 ca 0 false 0 → Calls Tryd.prog 43 #[.pointer (some ⟨X, 0, none⟩)] W fun e w' => e = .returned (.int .i64 op) ∧ DrS w' X A xs p1 ca c1 l1 z1 ∧ Turn (· = X) W w')
    (hbad : ¬ (op < 1 ∨ 6 < op))
    (h3 : ∀ X W, DrS W X A xs p1 ca c1 l1 z1 → Calls Tryd.prog 71 #[.pointer (some ⟨X, 0, none⟩)] W fun e w' => e = .returned (.agg (arr8 32 g)) ∧ DrS w' X A xs p3 ca c3 l3 z3 ∧ Turn (· = X) W w')
    (h4 : ∀ X W, DrS W X A xs p3 ca c3 l3 z3 → Calls Tryd.prog 45 #[.pointer (some ⟨X, 0, none⟩)] W fun e w' => e = .returned (.int .u32 n1) ∧ DrS w' X A xs p4 ca c4 l4 z4 ∧ Turn (· = X) W w')
    (h5 : ∀ X W, DrS W X A xs p4 ca c4 l4 z4 → Calls Tryd.prog 45 #[.pointer (some ⟨X, 0, none⟩)] W fun e w' => e = .returned (.int .u32 n2) ∧ DrS w' X A xs p5 ca c5 l5 z5 ∧ Turn (· = X) W w')
    (h6 : ∀ X W, DrS W X A xs p5 ca c5 l5 z5 → Calls Tryd.prog 46 #[.pointer (some ⟨X, 0, none⟩), .int .i64 200] W fun e w' => (∃ AD cD, e = .returned (.slice AD m cD) ∧ w'.ownsRow W.heap.size 5 1 (.slice AD m cD) m (ints .u8 ds)) ∧ DrS w' X A xs p6 ca c6 l6 z6 ∧ Turn (· = X) W w')
    (h7 : ∀ X W, DrS W X A xs p6 ca c6 l6 z6 → Calls Tryd.prog 47 #[.pointer (some ⟨X, 0, none⟩)] W fun e w' => e = .returned (.agg (frow fc fl fz)) ∧ Turn (· = X) W w') :
    Calls Tryd.prog 48 #[.slice A xs.length ca] w fun e w' => ∃ r, e = .returned (.tuple #[.agg r, .agg (frow fc fl fz)]) ∧ ((fc = 0 ∧ ∃ AD cD, r = rqA op g n1 n2 (.slice AD m cD) ∧ w'.ownsRow w.heap.size 5 1 (.slice AD m cD) m (ints .u8 ds)) ∨ (fc ≠ 0 ∧ r = rqA 0 zf 0 0 (.slice none 0 0))) ∧ Below w.heap.size w w' := by
  have hAlt := sl_lt hA
  go_enter Tryd.func48, Tryd.ntmps48
  go_upto_region 2 with (fail)
  obtain ⟨Zh, hZh⟩ : ∃ Z, Z = w.heap.size := ⟨_, rfl⟩
  obtain ⟨Zf, hZf⟩ : ∃ Z, Z = Zh + 1 := ⟨_, rfl⟩
  obtain ⟨X, hX⟩ : ∃ Z, Z = Zf + 1 := ⟨_, rfl⟩
  refine wp_world (fun V => Below w.heap.size w V ∧ V.heap[Zh]? = some (.cells (rqA 0 zf 0 0 (.slice none 0 0)) 40 (0, 0)) ∧ V.heap[Zf]? = some (.cells (frow 0 false 0) 64 (0, 0)) ∧ DrS V X A xs 0 ca 0 false 0 ∧ V.heap.size = X + 1) ?_ ?_
  · subst hX hZf hZh
    have hbb : Below w.heap.size w (((w.alloc (.cells (rqA 0 zf 0 0 (.slice none 0 0)) 40)).alloc (.cells (frow 0 false 0) 64)).alloc (.cells #[.slice A xs.length ca, .int .i64 0, .int .i64 0, .bool false, .int .i64 0] 96)) := ((below_alc w _).alloc (by simp) _).alloc (by simp; omega) _
    have hAr := hA.below hbb
    refine ⟨hbb, ?_, ?_, ⟨⟨?_, ?_, ?_, hAr, fun h0 a ha => by have := hAlt h0 a ha; omega, Nat.zero_le _, hca⟩, ?_, fun o => ?_⟩, by simp⟩
    · exact (heap_alloc_old _ _ (by simp; omega)).trans ((heap_alloc_old _ _ (by simp)).trans ((heap_alloc_new _ _).trans rfl))
    · exact (heap_alloc_old _ _ (by simp)).trans ((heap_eq _ _ _ (by simp)).trans rfl)
    · simp [go_sem]
    · simp [go_sem]
    · simp [go_sem]
    · intro j v hv
      rcases j with _ | _ | _ | j
      · simp [frow] at hv; subst hv; simp [go_sem]
      · simp [frow] at hv; subst hv; simp [go_sem]
      · simp [frow] at hv; subst hv; simp [go_sem]
      · simp [frow] at hv
    · simp [go_sem]
  rintro V ⟨hb, hzh, hzf, hD, hVs⟩
  rw [← hZh, ← hZf, ← hX]
  have hnum : w.heap.size ≤ Zh ∧ Zh < Zf ∧ Zf < X := by omega
  have hXV : X < V.heap.size := by omega
  clear hZh hZf hX hVs hA
  go_wp2_with fail
  refine (h1 X V hD).mono ?_
  rintro e V1 ⟨rfl, hD1, ht⟩
  have hs1 := ht.size
  replace hzh := (ht.block Zh (by omega) (by omega)).trans hzh
  replace hzf := (ht.block Zf (by omega) (by omega)).trans hzf
  replace hb : Below w.heap.size w V1 := ht.below hb hb.size (fun q hq => by omega)
  clear h1 hD ht
  obtain ⟨HH, hHH⟩ : ∃ H, H = V1.heap.size := ⟨_, rfl⟩
  go_upto_region 3 with (first | (refine wpList_build rfl 40 _ rfl #[(0, .int .i64 op)] (by kernel_rfl) (.agg (rqA op zf 0 0 (.slice none 0 0))) (fun _ => by kernel_rfl) ?_) | (refine wpList_store_row rfl 40 _ _ rfl V1.heap.size (rqA op zf 0 0 (.slice none 0 0)) rfl rfl _ _ (heap_alloc_new _ _) (rq_info _ _ _ _ _) (by kernel_rfl) (rq_one _ _ _ _ _ _ _) ?_))
  refine wp_world (fun V => Below w.heap.size w V ∧ V.heap[Zh]? = some (.cells (rqA 0 zf 0 0 (.slice none 0 0)) 40 (0, 0)) ∧ V.heap[Zf]? = some (.cells (frow 0 false 0) 64 (0, 0)) ∧ DrS V X A xs p1 ca c1 l1 z1 ∧ V.heap[HH]? = some (.cells (rqA op zf 0 0 (.slice none 0 0)) 40 (0, 0))) ?_ ?_
  · rw [alloc_setRow, hHH]
    have hbb := below_alc V1 (.cells (rqA op zf 0 0 (.slice none 0 0)) 40)
    exact ⟨hb.trans (hbb.mono hb.size), heap_below hzh hbb, heap_below hzf hbb, hD1.below hbb, heap1_0 V1 _⟩
  clear hb hzh hzf hD1
  rintro V2 ⟨hb, hzh, hzf, hD, hq⟩
  rw [← hHH]
  have hmX : ¬ HH = X := by omega
  have hnH : X < HH := by omega
  clear hHH hs1 hXV
  have cop := cell_heap hq (rq_c0 _ _ _ _ _)
  have b1 : ¬ op < 1 := fun h => hbad (.inl h)
  have b2 : ¬ 6 < op := fun h => hbad (.inr h)
  go_wp2_with fail
  refine (h3 X V2 hD).mono ?_
  rintro e V4 ⟨rfl, hD', ht⟩
  have hq' := (ht.block HH (lt_heap hq) hmX).trans hq
  replace hzh := (ht.block Zh (lt_heap hzh) (by omega)).trans hzh
  replace hzf := (ht.block Zf (lt_heap hzf) (by omega)).trans hzf
  replace hb : Below w.heap.size w V4 := ht.below hb hb.size (fun q hq => by omega)
  clear hq ht hD h3
  have hst := heap_setCells_same HH 40 (arr8 32 g).toList V4 1 _ hq'
  have hsz : (arr8 32 g).toList = (List.range 32).map fun i => v8 (g i) := by simp [arr8]
  rw [hsz, rq_setB, ← hsz] at hst
  have hsT : Turn (· = HH) V4 (V4.setCells HH 1 (arr8 32 g).toList) := Turn.of_grown (grown_setCells V4 HH 1 _) (fun k hk => (Option.some.inj hk).symm)
  have hth := rq_there hq'
  have hinf2 : (Tryd.prog.info? 37).map (·.size) = some (arr8 32 g).size := by simp only [arr8_size]; kernel_rfl
  go_upto_region 6 with (refine wpList_store_mid rfl 37 _ _ rfl HH 1 (arr8 32 g) rfl rfl (by rw [arr8_size]; exact hth) hinf2 (arr8_one _ _) ?_)
  refine wp_world (fun V => Below w.heap.size w V ∧ V.heap[Zh]? = some (.cells (rqA 0 zf 0 0 (.slice none 0 0)) 40 (0, 0)) ∧ V.heap[Zf]? = some (.cells (frow 0 false 0) 64 (0, 0)) ∧ DrS V X A xs p3 ca c3 l3 z3 ∧ V.heap[HH]? = some (.cells (rqA op g 0 0 (.slice none 0 0)) 40 (0, 0))) ⟨hsT.below hb hb.size (fun q hq => by omega), (hsT.block Zh (lt_heap hzh) (by omega)).trans hzh, (hsT.block Zf (lt_heap hzf) (by omega)).trans hzf, hD'.turn0 hsT (by omega) (fun h0 a ha => by have := hAlt h0 a ha; omega), hst⟩ ?_
  clear hb hzh hzf hD' hq' hst hsT hth hinf2 hsz
  rintro V5 ⟨hb, hzh, hzf, hD, hq⟩
  go_wp2_with fail
  refine (h4 X V5 hD).mono ?_
  rintro e V6 ⟨rfl, hD', ht⟩
  have hq' := (ht.block HH (lt_heap hq) hmX).trans hq
  replace hzh := (ht.block Zh (lt_heap hzh) (by omega)).trans hzh
  replace hzf := (ht.block Zf (lt_heap hzf) (by omega)).trans hzf
  replace hb : Below w.heap.size w V6 := ht.below hb hb.size (fun q hq => by omega)
  clear hq ht hD h4
  have hst := heap_setCell_same V6 HH 33 _ _ (.int .u32 n1) hq'
  rw [rq_set33] at hst
  have hsT := set_turnH V6 HH 33 (.int .u32 n1)
  have cc := cell_heap hq' (rq_c33 _ _ _ _ _)
  have ff := thaw_heap hq' 33
  go_upto_region 7 with (fail)
  refine wp_world (fun V => Below w.heap.size w V ∧ V.heap[Zh]? = some (.cells (rqA 0 zf 0 0 (.slice none 0 0)) 40 (0, 0)) ∧ V.heap[Zf]? = some (.cells (frow 0 false 0) 64 (0, 0)) ∧ DrS V X A xs p4 ca c4 l4 z4 ∧ V.heap[HH]? = some (.cells (rqA op g n1 0 (.slice none 0 0)) 40 (0, 0))) ⟨hsT.below hb hb.size (fun q hq => by omega), (hsT.block Zh (lt_heap hzh) (by omega)).trans hzh, (hsT.block Zf (lt_heap hzf) (by omega)).trans hzf, hD'.turn0 hsT (by omega) (fun h0 a ha => by have := hAlt h0 a ha; omega), hst⟩ ?_
  clear hb hzh hzf hD' hq' hst hsT cc ff
  rintro V7 ⟨hb, hzh, hzf, hD, hq⟩
  go_wp2_with fail
  refine (h5 X V7 hD).mono ?_
  rintro e V8 ⟨rfl, hD', ht⟩
  have hq' := (ht.block HH (lt_heap hq) hmX).trans hq
  replace hzh := (ht.block Zh (lt_heap hzh) (by omega)).trans hzh
  replace hzf := (ht.block Zf (lt_heap hzf) (by omega)).trans hzf
  replace hb : Below w.heap.size w V8 := ht.below hb hb.size (fun q hq => by omega)
  clear hq ht hD h5
  have hst := heap_setCell_same V8 HH 34 _ _ (.int .u32 n2) hq'
  rw [rq_set34] at hst
  have hsT := set_turnH V8 HH 34 (.int .u32 n2)
  have cc := cell_heap hq' (rq_c34 _ _ _ _ _)
  have ff := thaw_heap hq' 34
  go_upto_region 8 with (fail)
  refine wp_world (fun V => Below w.heap.size w V ∧ V.heap[Zh]? = some (.cells (rqA 0 zf 0 0 (.slice none 0 0)) 40 (0, 0)) ∧ V.heap[Zf]? = some (.cells (frow 0 false 0) 64 (0, 0)) ∧ DrS V X A xs p5 ca c5 l5 z5 ∧ V.heap[HH]? = some (.cells (rqA op g n1 n2 (.slice none 0 0)) 40 (0, 0))) ⟨hsT.below hb hb.size (fun q hq => by omega), (hsT.block Zh (lt_heap hzh) (by omega)).trans hzh, (hsT.block Zf (lt_heap hzf) (by omega)).trans hzf, hD'.turn0 hsT (by omega) (fun h0 a ha => by have := hAlt h0 a ha; omega), hst⟩ ?_
  clear hb hzh hzf hD' hq' hst hsT cc ff
  rintro V9 ⟨hb, hzh, hzf, hD, hq⟩
  go_wp2_with fail
  refine (h6 X V9 hD).mono ?_
  rintro e V10 ⟨⟨AD, cD, rfl, hown⟩, hD', ht⟩
  have hHl := lt_heap hq
  have hown := ownsRow_lower hown (show HH + 1 ≤ V9.heap.size by omega)
  have hq' := (ht.block HH (lt_heap hq) hmX).trans hq
  replace hzh := (ht.block Zh (lt_heap hzh) (by omega)).trans hzh
  replace hzf := (ht.block Zf (lt_heap hzf) (by omega)).trans hzf
  replace hb : Below w.heap.size w V10 := ht.below hb hb.size (fun q hq => by omega)
  clear hq ht hD h6
  have hst := heap_setCell_same V10 HH 35 _ _ (.slice AD m cD) hq'
  rw [rq_set35] at hst
  have hsT := set_turnH V10 HH 35 (.slice AD m cD)
  have cc := cell_heap hq' (rq_c35 _ _ _ _ _)
  have ff := thaw_heap hq' 35
  have hown' := own_kept (w' := V10.setCell ⟨HH, 35, none⟩ (.slice AD m cD)) hown (fun k hk => heap_setCell_other _ _ k _ (show k ≠ HH from fun e => by have := own_lowlt hown hk; omega))
  go_upto_region 9 with (fail)
  refine wp_world (fun V => Below w.heap.size w V ∧ V.heap[Zh]? = some (.cells (rqA 0 zf 0 0 (.slice none 0 0)) 40 (0, 0)) ∧ V.heap[Zf]? = some (.cells (frow 0 false 0) 64 (0, 0)) ∧ DrS V X A xs p6 ca c6 l6 z6 ∧ V.heap[HH]? = some (.cells (rqA op g n1 n2 (.slice AD m cD)) 40 (0, 0)) ∧ V.ownsRow (HH + 1) 5 1 (.slice AD m cD) m (ints .u8 ds)) ⟨hsT.below hb hb.size (fun q hq => by omega), (hsT.block Zh (lt_heap hzh) (by omega)).trans hzh, (hsT.block Zf (lt_heap hzf) (by omega)).trans hzf, hD'.turn0 hsT (by omega) (fun h0 a ha => by have := hAlt h0 a ha; omega), hst, hown'⟩ ?_
  clear hb hzh hzf hD' hq' hst hsT cc ff hown hown'
  rintro V11 ⟨hb, hzh, hzf, hD, hq, hown⟩
  go_wp2_with fail
  refine (h7 X V11 hD).mono ?_
  rintro e W7 ⟨rfl, ht⟩
  replace hown := own_kept hown (fun k hk => ht.block k (own_lowlt hown hk).2 (fun e => by have := own_lowlt hown hk; omega))
  have hq' := (ht.block HH (lt_heap hq) hmX).trans hq
  replace hzh := (ht.block Zh (lt_heap hzh) (by omega)).trans hzh
  replace hzf := (ht.block Zf (lt_heap hzf) (by omega)).trans hzf
  replace hb : Below w.heap.size w W7 := ht.below hb hb.size (fun q hq => by omega)
  clear hq ht hD h7
  obtain ⟨FB, hFB⟩ : ∃ H, H = W7.heap.size := ⟨_, rfl⟩
  go_upto_region 10 with (refine wpList_store_row rfl 64 _ _ rfl W7.heap.size (frow fc fl fz) rfl rfl _ _ (heap_alloc_new _ _) (by kernel_rfl) rfl (frow_one _ _ _) ?_)
  refine wp_world (fun V => Below w.heap.size w V ∧ V.heap[Zh]? = some (.cells (rqA 0 zf 0 0 (.slice none 0 0)) 40 (0, 0)) ∧ V.heap[Zf]? = some (.cells (frow 0 false 0) 64 (0, 0)) ∧ V.heap[HH]? = some (.cells (rqA op g n1 n2 (.slice AD m cD)) 40 (0, 0)) ∧ V.ownsRow (HH + 1) 5 1 (.slice AD m cD) m (ints .u8 ds) ∧ V.heap[FB]? = some (.cells (frow fc fl fz) 64 (0, 0))) ?_ ?_
  · rw [alloc_setRow, hFB]
    have hbb := below_alc W7 (.cells (frow fc fl fz) 64)
    exact ⟨hb.trans (hbb.mono hb.size), heap_below hzh hbb, heap_below hzf hbb, heap_below hq' hbb, own_kept hown (fun k hk => hbb.block k (own_lowlt hown hk).2), heap1_0 W7 _⟩
  have hHl := lt_heap hq'
  have hnF : HH < FB := by omega
  clear hb hzh hzf hq' hown hHl
  rintro V8 ⟨hb, hzh, hzf, hq, hown, hfb⟩
  rw [← hFB]
  clear hFB
  go_wp2_with (refine wpList_load_row rfl 64 _ rfl FB rfl _ _ _ _ hfb Tryd.underlying64 rfl (by kernel_rfl) ?_)
  by_cases hfc : fc = 0
  · refine (bad_no fc fl fz V8 hfc).mono ?_
    rintro e W5 ⟨rfl, hb9⟩
    have HFC := Lib.hid hfc
    clear hfc
    replace hzh := heap_below hzh hb9
    replace hzf := heap_below hzf hb9
    replace hq := heap_below hq hb9
    replace hfb := heap_below hfb hb9
    replace hown := own_kept hown (fun k hk => hb9.block k (own_lowlt hown hk).2)
    replace hb := hb.trans (hb9.mono hb.size)
    clear hb9
    have hfl := lt_heap hfb
    have hql := lt_heap hq
    have hfr : W5.rangeAt FB 0 (frow fc fl fz).toList := range_new hfb
    have hqr : W5.rangeAt HH 0 (rqA op g n1 n2 (.slice AD m cD)).toList := range_new hq
    have hqs : (Tryd.prog.info? 40).map (·.size) = some (rqA op g n1 n2 (.slice AD m cD)).toList.length := by rw [Array.length_toList]; exact (rq_info _ _ _ _ _)
    go_upto_region 12 with (fail)
    refine wp_region_noPanic ?_
    refine wp_region_held_drew (S := fun V => Turn (fun q => q = Zh ∨ q = Zf) W5 V) (by kernel_rfl) (Turn.of_below (Below.drewNr (w := W5) 1)) (fun hHeld => ?_)
    refine held_load 0 40 (Go.Operand.tmp 5) (some 41) (HH) (0) ((rqA op g n1 n2 (.slice AD m cD)).toList) _ (by kernel_rfl) (by kernel_rfl) (fun w h => h.range hqr hql (by omega)) Tryd.underlying40 rfl hqs (by kernel_rfl) (by kernel_rfl) (by kernel_rfl) (fun _ _ _ _ _ h => h) hHeld ?_
    refine held_load 1 64 (Go.Operand.tmp 6) (some 42) (FB) (0) ((frow fc fl fz).toList) _ (by kernel_rfl) (by kernel_rfl) (fun w h => h.range hfr hfl (by omega)) Tryd.underlying64 rfl (info_F _ _ _) (by kernel_rfl) (by kernel_rfl) (by kernel_rfl) (fun _ _ _ _ _ h => h) hHeld ?_
    refine held_skip 2 (Go.Op.store 40 (Go.Operand.tmp 2) (Go.Operand.tmp 41)) none (W5.drew.setRow Zh (rqA op g n1 n2 (.slice AD m cD))) (by kernel_rfl) (by kernel_rfl) (fun o ho => exec_store (vx := .pointer (some ⟨Zh, 0, none⟩)) (vy := .agg (rqA op g n1 n2 (.slice AD m cD))) ho (by kernel_rfl) (store_rowH _ _ _ _ _ _ hzh (rq_info _ _ _ _ _) (rq_szs _ _ _ _ _ _ _ _ _ _) (rq_one _ _ _ _ _ _ _))) (row_turn hHeld (.inl rfl) _) ?_
    intro hHeld
    refine held_skip 3 (Go.Op.store 64 (Go.Operand.tmp 3) (Go.Operand.tmp 42)) none ((W5.drew.setRow Zh (rqA op g n1 n2 (.slice AD m cD))).setRow Zf (frow fc fl fz)) (by kernel_rfl) (by kernel_rfl) (fun o ho => exec_store (vx := .pointer (some ⟨Zf, 0, none⟩)) (vy := .agg (frow fc fl fz)) ho (by kernel_rfl) (store_rowH _ _ _ _ _ _ ((setRow_other _ Zh Zf _ (by omega)).trans hzf) (by kernel_rfl) rfl (frow_one _ _ _))) (row_turn hHeld (.inr rfl) _) ?_
    intro hHeld
    refine wpAnyH_done (by kernel_rfl) ?_ _
    refine NoPanic.normal ?_
    simp only [put_list, put_none, List.set_cons_zero, List.set_cons_succ]
    have hbF : Below w.heap.size w ((W5.drew.setRow Zh (rqA op g n1 n2 (.slice AD m cD))).setRow Zf (frow fc fl fz)) := hHeld.below hb hb.size (fun q hq => by omega)
    have rzf := setRow_heap (W5.drew.setRow Zh (rqA op g n1 n2 (.slice AD m cD))) Zf _ (frow fc fl fz) _ _ ((setRow_other _ Zh Zf _ (by omega)).trans hzf)
    have rzh := (setRow_other (W5.drew.setRow Zh (rqA op g n1 n2 (.slice AD m cD))) Zf Zh (frow fc fl fz) (by omega)).trans (setRow_heap W5.drew Zh _ (rqA op g n1 n2 (.slice AD m cD)) _ _ hzh)
    have hownF := own_kept (w' := (W5.drew.setRow Zh (rqA op g n1 n2 (.slice AD m cD))).setRow Zf (frow fc fl fz)) hown (fun k hk => hHeld.block k (own_lowlt hown hk).2 (fun e => by have := own_lowlt hown hk; omega))
    have HF := Lib.hid (And.intro hbF (ownsRow_lower hownF (show w.heap.size ≤ HH + 1 by omega)))
    clear hownF
    clear hbF hHeld hown hfr hfb hq
    go_wp2_with fail
    refine bodyPost_ret (results_two_rowsH rfl _ _ _ _ _ _ _ _ _ _ _ _ rfl rzh rfl rzf Tryd.underlying40 rfl (rq_info _ _ _ _ _) Tryd.underlying64 rfl (by kernel_rfl)) rfl ?_
    exact ⟨_, rfl, .inl ⟨HFC.out, _, _, rfl, HF.out.2⟩, HF.out.1⟩
  · refine (bad_yes fc fl fz V8 hfc).mono ?_
    rintro e W5 ⟨rfl, hb9⟩
    have HFC := Lib.hid hfc
    clear hfc
    replace hzh := heap_below hzh hb9
    replace hzf := heap_below hzf hb9
    replace hq := heap_below hq hb9
    replace hfb := heap_below hfb hb9
    replace hown := own_kept hown (fun k hk => hb9.block k (own_lowlt hown hk).2)
    replace hb := hb.trans (hb9.mono hb.size)
    clear hb9
    have hfl := lt_heap hfb
    have hql := lt_heap hq
    have hfr : W5.rangeAt FB 0 (frow fc fl fz).toList := range_new hfb
    go_upto_region 11 with (fail)
    refine wp_region_noPanic ?_
    refine wp_region_held_drew (S := fun V => Turn (fun q => q = Zh ∨ q = Zf) W5 V) (by kernel_rfl) (Turn.of_below (Below.drewNr (w := W5) 1)) (fun hHeld => ?_)
    refine held_build 0 40 #[] (some 39) #[] (.agg (rqA 0 zf 0 0 (.slice none 0 0))) (by kernel_rfl) (by kernel_rfl) (fun w => by kernel_rfl) (by kernel_rfl) (by kernel_rfl) (by kernel_rfl) (fun _ _ _ _ _ h => h) hHeld ?_
    refine held_load 1 64 (Go.Operand.tmp 6) (some 40) (FB) (0) ((frow fc fl fz).toList) _ (by kernel_rfl) (by kernel_rfl) (fun w h => h.range hfr hfl (by omega)) Tryd.underlying64 rfl (info_F _ _ _) (by kernel_rfl) (by kernel_rfl) (by kernel_rfl) (fun _ _ _ _ _ h => h) hHeld ?_
    refine held_skip 2 (Go.Op.store 40 (Go.Operand.tmp 2) (Go.Operand.tmp 39)) none (W5.drew.setRow Zh (rqA 0 zf 0 0 (.slice none 0 0))) (by kernel_rfl) (by kernel_rfl) (fun o ho => exec_store (vx := .pointer (some ⟨Zh, 0, none⟩)) (vy := .agg (rqA 0 zf 0 0 (.slice none 0 0))) ho (by kernel_rfl) (store_rowH _ _ _ _ _ _ hzh (rq_info _ _ _ _ _) (rq_szs _ _ _ _ _ _ _ _ _ _) (rq_one _ _ _ _ _ _ _))) (row_turn hHeld (.inl rfl) _) ?_
    intro hHeld
    refine held_skip 3 (Go.Op.store 64 (Go.Operand.tmp 3) (Go.Operand.tmp 40)) none ((W5.drew.setRow Zh (rqA 0 zf 0 0 (.slice none 0 0))).setRow Zf (frow fc fl fz)) (by kernel_rfl) (by kernel_rfl) (fun o ho => exec_store (vx := .pointer (some ⟨Zf, 0, none⟩)) (vy := .agg (frow fc fl fz)) ho (by kernel_rfl) (store_rowH _ _ _ _ _ _ ((setRow_other _ Zh Zf _ (by omega)).trans hzf) (by kernel_rfl) rfl (frow_one _ _ _))) (row_turn hHeld (.inr rfl) _) ?_
    intro hHeld
    refine wpAnyH_done (by kernel_rfl) ?_ _
    refine NoPanic.normal ?_
    simp only [put_list, put_none, List.set_cons_zero, List.set_cons_succ]
    have hbF : Below w.heap.size w ((W5.drew.setRow Zh (rqA 0 zf 0 0 (.slice none 0 0))).setRow Zf (frow fc fl fz)) := hHeld.below hb hb.size (fun q hq => by omega)
    have rzf := setRow_heap (W5.drew.setRow Zh (rqA 0 zf 0 0 (.slice none 0 0))) Zf _ (frow fc fl fz) _ _ ((setRow_other _ Zh Zf _ (by omega)).trans hzf)
    have rzh := (setRow_other (W5.drew.setRow Zh (rqA 0 zf 0 0 (.slice none 0 0))) Zf Zh (frow fc fl fz) (by omega)).trans (setRow_heap W5.drew Zh _ (rqA 0 zf 0 0 (.slice none 0 0)) _ _ hzh)
    have HF := Lib.hid hbF
    clear hbF hHeld hown hfr hfb hq
    go_wp2_with fail
    refine bodyPost_ret (results_two_rowsH rfl _ _ _ _ _ _ _ _ _ _ _ _ rfl rzh rfl rzf Tryd.underlying40 rfl (rq_info _ _ _ _ _) Tryd.underlying64 rfl (by kernel_rfl)) rfl ?_
    exact ⟨_, rfl, .inr ⟨HFC.out, rfl⟩, HF.out⟩
set_option maxRecDepth 100000 in
set_option maxHeartbeats 6400000 in
theorem drq_bad (A : Option Addr) (xs : List Int) (ca : Nat) (w : World) (hA : SlRead w A (ints .u8 xs)) (hca : xs.length ≤ ca) (op n1 n2 : Int) (g : Nat → BitVec 8) (m : Nat) (ds : List Int) (p1 p2 p3 p4 p5 p6 : Nat) (c1 c2 c3 c4 c5 c6 : Int) (l1 l2 l3 l4 l5 l6 : Bool) (z1 z2 z3 z4 z5 z6 : Int) (fc : Int) (fl : Bool) (fz : Int)
    (h1 : ∀ X W, DrS W X A xs 0 ca 0 false 0 → Calls Tryd.prog 43 #[.pointer (some ⟨X, 0, none⟩)] W fun e w' => e = .returned (.int .i64 op) ∧ DrS w' X A xs p1 ca c1 l1 z1 ∧ Turn (· = X) W w')
    (hbad : op < 1 ∨ 6 < op)
    (h2 : ∀ X W, DrS W X A xs p1 ca c1 l1 z1 → Calls Tryd.prog 44 #[.pointer (some ⟨X, 0, none⟩), .int .i64 105, .int .i64 0] W fun e w' => e = .returned (.tuple #[]) ∧ DrS w' X A xs p2 ca c2 l2 z2 ∧ Turn (· = X) W w')
    (h3 : ∀ X W, DrS W X A xs p2 ca c2 l2 z2 → Calls Tryd.prog 71 #[.pointer (some ⟨X, 0, none⟩)] W fun e w' => e = .returned (.agg (arr8 32 g)) ∧ DrS w' X A xs p3 ca c3 l3 z3 ∧ Turn (· = X) W w')
    (h4 : ∀ X W, DrS W X A xs p3 ca c3 l3 z3 → Calls Tryd.prog 45 #[.pointer (some ⟨X, 0, none⟩)] W fun e w' => e = .returned (.int .u32 n1) ∧ DrS w' X A xs p4 ca c4 l4 z4 ∧ Turn (· = X) W w')
    (h5 : ∀ X W, DrS W X A xs p4 ca c4 l4 z4 → Calls Tryd.prog 45 #[.pointer (some ⟨X, 0, none⟩)] W fun e w' => e = .returned (.int .u32 n2) ∧ DrS w' X A xs p5 ca c5 l5 z5 ∧ Turn (· = X) W w')
    (h6 : ∀ X W, DrS W X A xs p5 ca c5 l5 z5 → Calls Tryd.prog 46 #[.pointer (some ⟨X, 0, none⟩), .int .i64 200] W fun e w' => (∃ AD cD, e = .returned (.slice AD m cD) ∧ w'.ownsRow W.heap.size 5 1 (.slice AD m cD) m (ints .u8 ds)) ∧ DrS w' X A xs p6 ca c6 l6 z6 ∧ Turn (· = X) W w')
    (h7 : ∀ X W, DrS W X A xs p6 ca c6 l6 z6 → Calls Tryd.prog 47 #[.pointer (some ⟨X, 0, none⟩)] W fun e w' => e = .returned (.agg (frow fc fl fz)) ∧ Turn (· = X) W w') :
    Calls Tryd.prog 48 #[.slice A xs.length ca] w fun e w' => ∃ r, e = .returned (.tuple #[.agg r, .agg (frow fc fl fz)]) ∧ ((fc = 0 ∧ ∃ AD cD, r = rqA op g n1 n2 (.slice AD m cD) ∧ w'.ownsRow w.heap.size 5 1 (.slice AD m cD) m (ints .u8 ds)) ∨ (fc ≠ 0 ∧ r = rqA 0 zf 0 0 (.slice none 0 0))) ∧ Below w.heap.size w w' := by
  have hAlt := sl_lt hA
  go_enter Tryd.func48, Tryd.ntmps48
  go_upto_region 2 with (fail)
  obtain ⟨Zh, hZh⟩ : ∃ Z, Z = w.heap.size := ⟨_, rfl⟩
  obtain ⟨Zf, hZf⟩ : ∃ Z, Z = Zh + 1 := ⟨_, rfl⟩
  obtain ⟨X, hX⟩ : ∃ Z, Z = Zf + 1 := ⟨_, rfl⟩
  refine wp_world (fun V => Below w.heap.size w V ∧ V.heap[Zh]? = some (.cells (rqA 0 zf 0 0 (.slice none 0 0)) 40 (0, 0)) ∧ V.heap[Zf]? = some (.cells (frow 0 false 0) 64 (0, 0)) ∧ DrS V X A xs 0 ca 0 false 0 ∧ V.heap.size = X + 1) ?_ ?_
  · subst hX hZf hZh
    have hbb : Below w.heap.size w (((w.alloc (.cells (rqA 0 zf 0 0 (.slice none 0 0)) 40)).alloc (.cells (frow 0 false 0) 64)).alloc (.cells #[.slice A xs.length ca, .int .i64 0, .int .i64 0, .bool false, .int .i64 0] 96)) := ((below_alc w _).alloc (by simp) _).alloc (by simp; omega) _
    have hAr := hA.below hbb
    refine ⟨hbb, ?_, ?_, ⟨⟨?_, ?_, ?_, hAr, fun h0 a ha => by have := hAlt h0 a ha; omega, Nat.zero_le _, hca⟩, ?_, fun o => ?_⟩, by simp⟩
    · exact (heap_alloc_old _ _ (by simp; omega)).trans ((heap_alloc_old _ _ (by simp)).trans ((heap_alloc_new _ _).trans rfl))
    · exact (heap_alloc_old _ _ (by simp)).trans ((heap_eq _ _ _ (by simp)).trans rfl)
    · simp [go_sem]
    · simp [go_sem]
    · simp [go_sem]
    · intro j v hv
      rcases j with _ | _ | _ | j
      · simp [frow] at hv; subst hv; simp [go_sem]
      · simp [frow] at hv; subst hv; simp [go_sem]
      · simp [frow] at hv; subst hv; simp [go_sem]
      · simp [frow] at hv
    · simp [go_sem]
  rintro V ⟨hb, hzh, hzf, hD, hVs⟩
  rw [← hZh, ← hZf, ← hX]
  have hnum : w.heap.size ≤ Zh ∧ Zh < Zf ∧ Zf < X := by omega
  have hXV : X < V.heap.size := by omega
  clear hZh hZf hX hVs hA
  go_wp2_with fail
  refine (h1 X V hD).mono ?_
  rintro e V1 ⟨rfl, hD1, ht⟩
  have hs1 := ht.size
  replace hzh := (ht.block Zh (by omega) (by omega)).trans hzh
  replace hzf := (ht.block Zf (by omega) (by omega)).trans hzf
  replace hb : Below w.heap.size w V1 := ht.below hb hb.size (fun q hq => by omega)
  clear h1 hD ht
  obtain ⟨HH, hHH⟩ : ∃ H, H = V1.heap.size := ⟨_, rfl⟩
  go_upto_region 3 with (first | (refine wpList_build rfl 40 _ rfl #[(0, .int .i64 op)] (by kernel_rfl) (.agg (rqA op zf 0 0 (.slice none 0 0))) (fun _ => by kernel_rfl) ?_) | (refine wpList_store_row rfl 40 _ _ rfl V1.heap.size (rqA op zf 0 0 (.slice none 0 0)) rfl rfl _ _ (heap_alloc_new _ _) (rq_info _ _ _ _ _) (by kernel_rfl) (rq_one _ _ _ _ _ _ _) ?_))
  refine wp_world (fun V => Below w.heap.size w V ∧ V.heap[Zh]? = some (.cells (rqA 0 zf 0 0 (.slice none 0 0)) 40 (0, 0)) ∧ V.heap[Zf]? = some (.cells (frow 0 false 0) 64 (0, 0)) ∧ DrS V X A xs p1 ca c1 l1 z1 ∧ V.heap[HH]? = some (.cells (rqA op zf 0 0 (.slice none 0 0)) 40 (0, 0))) ?_ ?_
  · rw [alloc_setRow, hHH]
    have hbb := below_alc V1 (.cells (rqA op zf 0 0 (.slice none 0 0)) 40)
    exact ⟨hb.trans (hbb.mono hb.size), heap_below hzh hbb, heap_below hzf hbb, hD1.below hbb, heap1_0 V1 _⟩
  clear hb hzh hzf hD1
  rintro V2 ⟨hb, hzh, hzf, hD, hq⟩
  rw [← hHH]
  have hmX : ¬ HH = X := by omega
  have hnH : X < HH := by omega
  clear hHH hs1 hXV
  have cop := cell_heap hq (rq_c0 _ _ _ _ _)
  by_cases b1 : op < 1
  · clear hbad
    go_wp2_with fail
    refine (h2 X V2 hD).mono ?_
    rintro e V3 ⟨rfl, hD', ht⟩
    have hq' := (ht.block HH (lt_heap hq) hmX).trans hq
    replace hzh := (ht.block Zh (lt_heap hzh) (by omega)).trans hzh
    replace hzf := (ht.block Zf (lt_heap hzf) (by omega)).trans hzf
    replace hb : Below w.heap.size w V3 := ht.below hb hb.size (fun q hq => by omega)
    clear hq ht hD
    replace hD := hD'
    replace hq := hq'
    clear hD' hq'
    go_wp2_with fail
    refine (h3 X V3 hD).mono ?_
    rintro e V4 ⟨rfl, hD', ht⟩
    have hq' := (ht.block HH (lt_heap hq) hmX).trans hq
    replace hzh := (ht.block Zh (lt_heap hzh) (by omega)).trans hzh
    replace hzf := (ht.block Zf (lt_heap hzf) (by omega)).trans hzf
    replace hb : Below w.heap.size w V4 := ht.below hb hb.size (fun q hq => by omega)
    clear hq ht hD h3
    have hst := heap_setCells_same HH 40 (arr8 32 g).toList V4 1 _ hq'
    have hsz : (arr8 32 g).toList = (List.range 32).map fun i => v8 (g i) := by simp [arr8]
    rw [hsz, rq_setB, ← hsz] at hst
    have hsT : Turn (· = HH) V4 (V4.setCells HH 1 (arr8 32 g).toList) := Turn.of_grown (grown_setCells V4 HH 1 _) (fun k hk => (Option.some.inj hk).symm)
    have hth := rq_there hq'
    have hinf2 : (Tryd.prog.info? 37).map (·.size) = some (arr8 32 g).size := by simp only [arr8_size]; kernel_rfl
    go_upto_region 6 with (refine wpList_store_mid rfl 37 _ _ rfl HH 1 (arr8 32 g) rfl rfl (by rw [arr8_size]; exact hth) hinf2 (arr8_one _ _) ?_)
    refine wp_world (fun V => Below w.heap.size w V ∧ V.heap[Zh]? = some (.cells (rqA 0 zf 0 0 (.slice none 0 0)) 40 (0, 0)) ∧ V.heap[Zf]? = some (.cells (frow 0 false 0) 64 (0, 0)) ∧ DrS V X A xs p3 ca c3 l3 z3 ∧ V.heap[HH]? = some (.cells (rqA op g 0 0 (.slice none 0 0)) 40 (0, 0))) ⟨hsT.below hb hb.size (fun q hq => by omega), (hsT.block Zh (lt_heap hzh) (by omega)).trans hzh, (hsT.block Zf (lt_heap hzf) (by omega)).trans hzf, hD'.turn0 hsT (by omega) (fun h0 a ha => by have := hAlt h0 a ha; omega), hst⟩ ?_
    clear hb hzh hzf hD' hq' hst hsT hth hinf2 hsz
    rintro V5 ⟨hb, hzh, hzf, hD, hq⟩
    go_wp2_with fail
    refine (h4 X V5 hD).mono ?_
    rintro e V6 ⟨rfl, hD', ht⟩
    have hq' := (ht.block HH (lt_heap hq) hmX).trans hq
    replace hzh := (ht.block Zh (lt_heap hzh) (by omega)).trans hzh
    replace hzf := (ht.block Zf (lt_heap hzf) (by omega)).trans hzf
    replace hb : Below w.heap.size w V6 := ht.below hb hb.size (fun q hq => by omega)
    clear hq ht hD h4
    have hst := heap_setCell_same V6 HH 33 _ _ (.int .u32 n1) hq'
    rw [rq_set33] at hst
    have hsT := set_turnH V6 HH 33 (.int .u32 n1)
    have cc := cell_heap hq' (rq_c33 _ _ _ _ _)
    have ff := thaw_heap hq' 33
    go_upto_region 7 with (fail)
    refine wp_world (fun V => Below w.heap.size w V ∧ V.heap[Zh]? = some (.cells (rqA 0 zf 0 0 (.slice none 0 0)) 40 (0, 0)) ∧ V.heap[Zf]? = some (.cells (frow 0 false 0) 64 (0, 0)) ∧ DrS V X A xs p4 ca c4 l4 z4 ∧ V.heap[HH]? = some (.cells (rqA op g n1 0 (.slice none 0 0)) 40 (0, 0))) ⟨hsT.below hb hb.size (fun q hq => by omega), (hsT.block Zh (lt_heap hzh) (by omega)).trans hzh, (hsT.block Zf (lt_heap hzf) (by omega)).trans hzf, hD'.turn0 hsT (by omega) (fun h0 a ha => by have := hAlt h0 a ha; omega), hst⟩ ?_
    clear hb hzh hzf hD' hq' hst hsT cc ff
    rintro V7 ⟨hb, hzh, hzf, hD, hq⟩
    go_wp2_with fail
    refine (h5 X V7 hD).mono ?_
    rintro e V8 ⟨rfl, hD', ht⟩
    have hq' := (ht.block HH (lt_heap hq) hmX).trans hq
    replace hzh := (ht.block Zh (lt_heap hzh) (by omega)).trans hzh
    replace hzf := (ht.block Zf (lt_heap hzf) (by omega)).trans hzf
    replace hb : Below w.heap.size w V8 := ht.below hb hb.size (fun q hq => by omega)
    clear hq ht hD h5
    have hst := heap_setCell_same V8 HH 34 _ _ (.int .u32 n2) hq'
    rw [rq_set34] at hst
    have hsT := set_turnH V8 HH 34 (.int .u32 n2)
    have cc := cell_heap hq' (rq_c34 _ _ _ _ _)
    have ff := thaw_heap hq' 34
    go_upto_region 8 with (fail)
    refine wp_world (fun V => Below w.heap.size w V ∧ V.heap[Zh]? = some (.cells (rqA 0 zf 0 0 (.slice none 0 0)) 40 (0, 0)) ∧ V.heap[Zf]? = some (.cells (frow 0 false 0) 64 (0, 0)) ∧ DrS V X A xs p5 ca c5 l5 z5 ∧ V.heap[HH]? = some (.cells (rqA op g n1 n2 (.slice none 0 0)) 40 (0, 0))) ⟨hsT.below hb hb.size (fun q hq => by omega), (hsT.block Zh (lt_heap hzh) (by omega)).trans hzh, (hsT.block Zf (lt_heap hzf) (by omega)).trans hzf, hD'.turn0 hsT (by omega) (fun h0 a ha => by have := hAlt h0 a ha; omega), hst⟩ ?_
    clear hb hzh hzf hD' hq' hst hsT cc ff
    rintro V9 ⟨hb, hzh, hzf, hD, hq⟩
    go_wp2_with fail
    refine (h6 X V9 hD).mono ?_
    rintro e V10 ⟨⟨AD, cD, rfl, hown⟩, hD', ht⟩
    have hHl := lt_heap hq
    have hown := ownsRow_lower hown (show HH + 1 ≤ V9.heap.size by omega)
    have hq' := (ht.block HH (lt_heap hq) hmX).trans hq
    replace hzh := (ht.block Zh (lt_heap hzh) (by omega)).trans hzh
    replace hzf := (ht.block Zf (lt_heap hzf) (by omega)).trans hzf
    replace hb : Below w.heap.size w V10 := ht.below hb hb.size (fun q hq => by omega)
    clear hq ht hD h6
    have hst := heap_setCell_same V10 HH 35 _ _ (.slice AD m cD) hq'
    rw [rq_set35] at hst
    have hsT := set_turnH V10 HH 35 (.slice AD m cD)
    have cc := cell_heap hq' (rq_c35 _ _ _ _ _)
    have ff := thaw_heap hq' 35
    have hown' := own_kept (w' := V10.setCell ⟨HH, 35, none⟩ (.slice AD m cD)) hown (fun k hk => heap_setCell_other _ _ k _ (show k ≠ HH from fun e => by have := own_lowlt hown hk; omega))
    go_upto_region 9 with (fail)
    refine wp_world (fun V => Below w.heap.size w V ∧ V.heap[Zh]? = some (.cells (rqA 0 zf 0 0 (.slice none 0 0)) 40 (0, 0)) ∧ V.heap[Zf]? = some (.cells (frow 0 false 0) 64 (0, 0)) ∧ DrS V X A xs p6 ca c6 l6 z6 ∧ V.heap[HH]? = some (.cells (rqA op g n1 n2 (.slice AD m cD)) 40 (0, 0)) ∧ V.ownsRow (HH + 1) 5 1 (.slice AD m cD) m (ints .u8 ds)) ⟨hsT.below hb hb.size (fun q hq => by omega), (hsT.block Zh (lt_heap hzh) (by omega)).trans hzh, (hsT.block Zf (lt_heap hzf) (by omega)).trans hzf, hD'.turn0 hsT (by omega) (fun h0 a ha => by have := hAlt h0 a ha; omega), hst, hown'⟩ ?_
    clear hb hzh hzf hD' hq' hst hsT cc ff hown hown'
    rintro V11 ⟨hb, hzh, hzf, hD, hq, hown⟩
    go_wp2_with fail
    refine (h7 X V11 hD).mono ?_
    rintro e W7 ⟨rfl, ht⟩
    replace hown := own_kept hown (fun k hk => ht.block k (own_lowlt hown hk).2 (fun e => by have := own_lowlt hown hk; omega))
    have hq' := (ht.block HH (lt_heap hq) hmX).trans hq
    replace hzh := (ht.block Zh (lt_heap hzh) (by omega)).trans hzh
    replace hzf := (ht.block Zf (lt_heap hzf) (by omega)).trans hzf
    replace hb : Below w.heap.size w W7 := ht.below hb hb.size (fun q hq => by omega)
    clear hq ht hD h7
    obtain ⟨FB, hFB⟩ : ∃ H, H = W7.heap.size := ⟨_, rfl⟩
    go_upto_region 10 with (refine wpList_store_row rfl 64 _ _ rfl W7.heap.size (frow fc fl fz) rfl rfl _ _ (heap_alloc_new _ _) (by kernel_rfl) rfl (frow_one _ _ _) ?_)
    refine wp_world (fun V => Below w.heap.size w V ∧ V.heap[Zh]? = some (.cells (rqA 0 zf 0 0 (.slice none 0 0)) 40 (0, 0)) ∧ V.heap[Zf]? = some (.cells (frow 0 false 0) 64 (0, 0)) ∧ V.heap[HH]? = some (.cells (rqA op g n1 n2 (.slice AD m cD)) 40 (0, 0)) ∧ V.ownsRow (HH + 1) 5 1 (.slice AD m cD) m (ints .u8 ds) ∧ V.heap[FB]? = some (.cells (frow fc fl fz) 64 (0, 0))) ?_ ?_
    · rw [alloc_setRow, hFB]
      have hbb := below_alc W7 (.cells (frow fc fl fz) 64)
      exact ⟨hb.trans (hbb.mono hb.size), heap_below hzh hbb, heap_below hzf hbb, heap_below hq' hbb, own_kept hown (fun k hk => hbb.block k (own_lowlt hown hk).2), heap1_0 W7 _⟩
    have hHl := lt_heap hq'
    have hnF : HH < FB := by omega
    clear hb hzh hzf hq' hown hHl
    rintro V8 ⟨hb, hzh, hzf, hq, hown, hfb⟩
    rw [← hFB]
    clear hFB
    go_wp2_with (refine wpList_load_row rfl 64 _ rfl FB rfl _ _ _ _ hfb Tryd.underlying64 rfl (by kernel_rfl) ?_)
    by_cases hfc : fc = 0
    · refine (bad_no fc fl fz V8 hfc).mono ?_
      rintro e W5 ⟨rfl, hb9⟩
      have HFC := Lib.hid hfc
      clear hfc
      replace hzh := heap_below hzh hb9
      replace hzf := heap_below hzf hb9
      replace hq := heap_below hq hb9
      replace hfb := heap_below hfb hb9
      replace hown := own_kept hown (fun k hk => hb9.block k (own_lowlt hown hk).2)
      replace hb := hb.trans (hb9.mono hb.size)
      clear hb9
      have hfl := lt_heap hfb
      have hql := lt_heap hq
      have hfr : W5.rangeAt FB 0 (frow fc fl fz).toList := range_new hfb
      have hqr : W5.rangeAt HH 0 (rqA op g n1 n2 (.slice AD m cD)).toList := range_new hq
      have hqs : (Tryd.prog.info? 40).map (·.size) = some (rqA op g n1 n2 (.slice AD m cD)).toList.length := by rw [Array.length_toList]; exact (rq_info _ _ _ _ _)
      go_upto_region 12 with (fail)
      refine wp_region_noPanic ?_
      refine wp_region_held_drew (S := fun V => Turn (fun q => q = Zh ∨ q = Zf) W5 V) (by kernel_rfl) (Turn.of_below (Below.drewNr (w := W5) 1)) (fun hHeld => ?_)
      refine held_load 0 40 (Go.Operand.tmp 5) (some 41) (HH) (0) ((rqA op g n1 n2 (.slice AD m cD)).toList) _ (by kernel_rfl) (by kernel_rfl) (fun w h => h.range hqr hql (by omega)) Tryd.underlying40 rfl hqs (by kernel_rfl) (by kernel_rfl) (by kernel_rfl) (fun _ _ _ _ _ h => h) hHeld ?_
      refine held_load 1 64 (Go.Operand.tmp 6) (some 42) (FB) (0) ((frow fc fl fz).toList) _ (by kernel_rfl) (by kernel_rfl) (fun w h => h.range hfr hfl (by omega)) Tryd.underlying64 rfl (info_F _ _ _) (by kernel_rfl) (by kernel_rfl) (by kernel_rfl) (fun _ _ _ _ _ h => h) hHeld ?_
      refine held_skip 2 (Go.Op.store 40 (Go.Operand.tmp 2) (Go.Operand.tmp 41)) none (W5.drew.setRow Zh (rqA op g n1 n2 (.slice AD m cD))) (by kernel_rfl) (by kernel_rfl) (fun o ho => exec_store (vx := .pointer (some ⟨Zh, 0, none⟩)) (vy := .agg (rqA op g n1 n2 (.slice AD m cD))) ho (by kernel_rfl) (store_rowH _ _ _ _ _ _ hzh (rq_info _ _ _ _ _) (rq_szs _ _ _ _ _ _ _ _ _ _) (rq_one _ _ _ _ _ _ _))) (row_turn hHeld (.inl rfl) _) ?_
      intro hHeld
      refine held_skip 3 (Go.Op.store 64 (Go.Operand.tmp 3) (Go.Operand.tmp 42)) none ((W5.drew.setRow Zh (rqA op g n1 n2 (.slice AD m cD))).setRow Zf (frow fc fl fz)) (by kernel_rfl) (by kernel_rfl) (fun o ho => exec_store (vx := .pointer (some ⟨Zf, 0, none⟩)) (vy := .agg (frow fc fl fz)) ho (by kernel_rfl) (store_rowH _ _ _ _ _ _ ((setRow_other _ Zh Zf _ (by omega)).trans hzf) (by kernel_rfl) rfl (frow_one _ _ _))) (row_turn hHeld (.inr rfl) _) ?_
      intro hHeld
      refine wpAnyH_done (by kernel_rfl) ?_ _
      refine NoPanic.normal ?_
      simp only [put_list, put_none, List.set_cons_zero, List.set_cons_succ]
      have hbF : Below w.heap.size w ((W5.drew.setRow Zh (rqA op g n1 n2 (.slice AD m cD))).setRow Zf (frow fc fl fz)) := hHeld.below hb hb.size (fun q hq => by omega)
      have rzf := setRow_heap (W5.drew.setRow Zh (rqA op g n1 n2 (.slice AD m cD))) Zf _ (frow fc fl fz) _ _ ((setRow_other _ Zh Zf _ (by omega)).trans hzf)
      have rzh := (setRow_other (W5.drew.setRow Zh (rqA op g n1 n2 (.slice AD m cD))) Zf Zh (frow fc fl fz) (by omega)).trans (setRow_heap W5.drew Zh _ (rqA op g n1 n2 (.slice AD m cD)) _ _ hzh)
      have hownF := own_kept (w' := (W5.drew.setRow Zh (rqA op g n1 n2 (.slice AD m cD))).setRow Zf (frow fc fl fz)) hown (fun k hk => hHeld.block k (own_lowlt hown hk).2 (fun e => by have := own_lowlt hown hk; omega))
      have HF := Lib.hid (And.intro hbF (ownsRow_lower hownF (show w.heap.size ≤ HH + 1 by omega)))
      clear hownF
      clear hbF hHeld hown hfr hfb hq
      go_wp2_with fail
      refine bodyPost_ret (results_two_rowsH rfl _ _ _ _ _ _ _ _ _ _ _ _ rfl rzh rfl rzf Tryd.underlying40 rfl (rq_info _ _ _ _ _) Tryd.underlying64 rfl (by kernel_rfl)) rfl ?_
      exact ⟨_, rfl, .inl ⟨HFC.out, _, _, rfl, HF.out.2⟩, HF.out.1⟩
    · refine (bad_yes fc fl fz V8 hfc).mono ?_
      rintro e W5 ⟨rfl, hb9⟩
      have HFC := Lib.hid hfc
      clear hfc
      replace hzh := heap_below hzh hb9
      replace hzf := heap_below hzf hb9
      replace hq := heap_below hq hb9
      replace hfb := heap_below hfb hb9
      replace hown := own_kept hown (fun k hk => hb9.block k (own_lowlt hown hk).2)
      replace hb := hb.trans (hb9.mono hb.size)
      clear hb9
      have hfl := lt_heap hfb
      have hql := lt_heap hq
      have hfr : W5.rangeAt FB 0 (frow fc fl fz).toList := range_new hfb
      go_upto_region 11 with (fail)
      refine wp_region_noPanic ?_
      refine wp_region_held_drew (S := fun V => Turn (fun q => q = Zh ∨ q = Zf) W5 V) (by kernel_rfl) (Turn.of_below (Below.drewNr (w := W5) 1)) (fun hHeld => ?_)
      refine held_build 0 40 #[] (some 39) #[] (.agg (rqA 0 zf 0 0 (.slice none 0 0))) (by kernel_rfl) (by kernel_rfl) (fun w => by kernel_rfl) (by kernel_rfl) (by kernel_rfl) (by kernel_rfl) (fun _ _ _ _ _ h => h) hHeld ?_
      refine held_load 1 64 (Go.Operand.tmp 6) (some 40) (FB) (0) ((frow fc fl fz).toList) _ (by kernel_rfl) (by kernel_rfl) (fun w h => h.range hfr hfl (by omega)) Tryd.underlying64 rfl (info_F _ _ _) (by kernel_rfl) (by kernel_rfl) (by kernel_rfl) (fun _ _ _ _ _ h => h) hHeld ?_
      refine held_skip 2 (Go.Op.store 40 (Go.Operand.tmp 2) (Go.Operand.tmp 39)) none (W5.drew.setRow Zh (rqA 0 zf 0 0 (.slice none 0 0))) (by kernel_rfl) (by kernel_rfl) (fun o ho => exec_store (vx := .pointer (some ⟨Zh, 0, none⟩)) (vy := .agg (rqA 0 zf 0 0 (.slice none 0 0))) ho (by kernel_rfl) (store_rowH _ _ _ _ _ _ hzh (rq_info _ _ _ _ _) (rq_szs _ _ _ _ _ _ _ _ _ _) (rq_one _ _ _ _ _ _ _))) (row_turn hHeld (.inl rfl) _) ?_
      intro hHeld
      refine held_skip 3 (Go.Op.store 64 (Go.Operand.tmp 3) (Go.Operand.tmp 40)) none ((W5.drew.setRow Zh (rqA 0 zf 0 0 (.slice none 0 0))).setRow Zf (frow fc fl fz)) (by kernel_rfl) (by kernel_rfl) (fun o ho => exec_store (vx := .pointer (some ⟨Zf, 0, none⟩)) (vy := .agg (frow fc fl fz)) ho (by kernel_rfl) (store_rowH _ _ _ _ _ _ ((setRow_other _ Zh Zf _ (by omega)).trans hzf) (by kernel_rfl) rfl (frow_one _ _ _))) (row_turn hHeld (.inr rfl) _) ?_
      intro hHeld
      refine wpAnyH_done (by kernel_rfl) ?_ _
      refine NoPanic.normal ?_
      simp only [put_list, put_none, List.set_cons_zero, List.set_cons_succ]
      have hbF : Below w.heap.size w ((W5.drew.setRow Zh (rqA 0 zf 0 0 (.slice none 0 0))).setRow Zf (frow fc fl fz)) := hHeld.below hb hb.size (fun q hq => by omega)
      have rzf := setRow_heap (W5.drew.setRow Zh (rqA 0 zf 0 0 (.slice none 0 0))) Zf _ (frow fc fl fz) _ _ ((setRow_other _ Zh Zf _ (by omega)).trans hzf)
      have rzh := (setRow_other (W5.drew.setRow Zh (rqA 0 zf 0 0 (.slice none 0 0))) Zf Zh (frow fc fl fz) (by omega)).trans (setRow_heap W5.drew Zh _ (rqA 0 zf 0 0 (.slice none 0 0)) _ _ hzh)
      have HF := Lib.hid hbF
      clear hbF hHeld hown hfr hfb hq
      go_wp2_with fail
      refine bodyPost_ret (results_two_rowsH rfl _ _ _ _ _ _ _ _ _ _ _ _ rfl rzh rfl rzf Tryd.underlying40 rfl (rq_info _ _ _ _ _) Tryd.underlying64 rfl (by kernel_rfl)) rfl ?_
      exact ⟨_, rfl, .inr ⟨HFC.out, rfl⟩, HF.out⟩
  · have b2 : 6 < op := by omega
    clear hbad
    go_wp2_with fail
    refine (h2 X V2 hD).mono ?_
    rintro e V3 ⟨rfl, hD', ht⟩
    have hq' := (ht.block HH (lt_heap hq) hmX).trans hq
    replace hzh := (ht.block Zh (lt_heap hzh) (by omega)).trans hzh
    replace hzf := (ht.block Zf (lt_heap hzf) (by omega)).trans hzf
    replace hb : Below w.heap.size w V3 := ht.below hb hb.size (fun q hq => by omega)
    clear hq ht hD
    replace hD := hD'
    replace hq := hq'
    clear hD' hq'
    go_wp2_with fail
    refine (h3 X V3 hD).mono ?_
    rintro e V4 ⟨rfl, hD', ht⟩
    have hq' := (ht.block HH (lt_heap hq) hmX).trans hq
    replace hzh := (ht.block Zh (lt_heap hzh) (by omega)).trans hzh
    replace hzf := (ht.block Zf (lt_heap hzf) (by omega)).trans hzf
    replace hb : Below w.heap.size w V4 := ht.below hb hb.size (fun q hq => by omega)
    clear hq ht hD h3
    have hst := heap_setCells_same HH 40 (arr8 32 g).toList V4 1 _ hq'
    have hsz : (arr8 32 g).toList = (List.range 32).map fun i => v8 (g i) := by simp [arr8]
    rw [hsz, rq_setB, ← hsz] at hst
    have hsT : Turn (· = HH) V4 (V4.setCells HH 1 (arr8 32 g).toList) := Turn.of_grown (grown_setCells V4 HH 1 _) (fun k hk => (Option.some.inj hk).symm)
    have hth := rq_there hq'
    have hinf2 : (Tryd.prog.info? 37).map (·.size) = some (arr8 32 g).size := by simp only [arr8_size]; kernel_rfl
    go_upto_region 6 with (refine wpList_store_mid rfl 37 _ _ rfl HH 1 (arr8 32 g) rfl rfl (by rw [arr8_size]; exact hth) hinf2 (arr8_one _ _) ?_)
    refine wp_world (fun V => Below w.heap.size w V ∧ V.heap[Zh]? = some (.cells (rqA 0 zf 0 0 (.slice none 0 0)) 40 (0, 0)) ∧ V.heap[Zf]? = some (.cells (frow 0 false 0) 64 (0, 0)) ∧ DrS V X A xs p3 ca c3 l3 z3 ∧ V.heap[HH]? = some (.cells (rqA op g 0 0 (.slice none 0 0)) 40 (0, 0))) ⟨hsT.below hb hb.size (fun q hq => by omega), (hsT.block Zh (lt_heap hzh) (by omega)).trans hzh, (hsT.block Zf (lt_heap hzf) (by omega)).trans hzf, hD'.turn0 hsT (by omega) (fun h0 a ha => by have := hAlt h0 a ha; omega), hst⟩ ?_
    clear hb hzh hzf hD' hq' hst hsT hth hinf2 hsz
    rintro V5 ⟨hb, hzh, hzf, hD, hq⟩
    go_wp2_with fail
    refine (h4 X V5 hD).mono ?_
    rintro e V6 ⟨rfl, hD', ht⟩
    have hq' := (ht.block HH (lt_heap hq) hmX).trans hq
    replace hzh := (ht.block Zh (lt_heap hzh) (by omega)).trans hzh
    replace hzf := (ht.block Zf (lt_heap hzf) (by omega)).trans hzf
    replace hb : Below w.heap.size w V6 := ht.below hb hb.size (fun q hq => by omega)
    clear hq ht hD h4
    have hst := heap_setCell_same V6 HH 33 _ _ (.int .u32 n1) hq'
    rw [rq_set33] at hst
    have hsT := set_turnH V6 HH 33 (.int .u32 n1)
    have cc := cell_heap hq' (rq_c33 _ _ _ _ _)
    have ff := thaw_heap hq' 33
    go_upto_region 7 with (fail)
    refine wp_world (fun V => Below w.heap.size w V ∧ V.heap[Zh]? = some (.cells (rqA 0 zf 0 0 (.slice none 0 0)) 40 (0, 0)) ∧ V.heap[Zf]? = some (.cells (frow 0 false 0) 64 (0, 0)) ∧ DrS V X A xs p4 ca c4 l4 z4 ∧ V.heap[HH]? = some (.cells (rqA op g n1 0 (.slice none 0 0)) 40 (0, 0))) ⟨hsT.below hb hb.size (fun q hq => by omega), (hsT.block Zh (lt_heap hzh) (by omega)).trans hzh, (hsT.block Zf (lt_heap hzf) (by omega)).trans hzf, hD'.turn0 hsT (by omega) (fun h0 a ha => by have := hAlt h0 a ha; omega), hst⟩ ?_
    clear hb hzh hzf hD' hq' hst hsT cc ff
    rintro V7 ⟨hb, hzh, hzf, hD, hq⟩
    go_wp2_with fail
    refine (h5 X V7 hD).mono ?_
    rintro e V8 ⟨rfl, hD', ht⟩
    have hq' := (ht.block HH (lt_heap hq) hmX).trans hq
    replace hzh := (ht.block Zh (lt_heap hzh) (by omega)).trans hzh
    replace hzf := (ht.block Zf (lt_heap hzf) (by omega)).trans hzf
    replace hb : Below w.heap.size w V8 := ht.below hb hb.size (fun q hq => by omega)
    clear hq ht hD h5
    have hst := heap_setCell_same V8 HH 34 _ _ (.int .u32 n2) hq'
    rw [rq_set34] at hst
    have hsT := set_turnH V8 HH 34 (.int .u32 n2)
    have cc := cell_heap hq' (rq_c34 _ _ _ _ _)
    have ff := thaw_heap hq' 34
    go_upto_region 8 with (fail)
    refine wp_world (fun V => Below w.heap.size w V ∧ V.heap[Zh]? = some (.cells (rqA 0 zf 0 0 (.slice none 0 0)) 40 (0, 0)) ∧ V.heap[Zf]? = some (.cells (frow 0 false 0) 64 (0, 0)) ∧ DrS V X A xs p5 ca c5 l5 z5 ∧ V.heap[HH]? = some (.cells (rqA op g n1 n2 (.slice none 0 0)) 40 (0, 0))) ⟨hsT.below hb hb.size (fun q hq => by omega), (hsT.block Zh (lt_heap hzh) (by omega)).trans hzh, (hsT.block Zf (lt_heap hzf) (by omega)).trans hzf, hD'.turn0 hsT (by omega) (fun h0 a ha => by have := hAlt h0 a ha; omega), hst⟩ ?_
    clear hb hzh hzf hD' hq' hst hsT cc ff
    rintro V9 ⟨hb, hzh, hzf, hD, hq⟩
    go_wp2_with fail
    refine (h6 X V9 hD).mono ?_
    rintro e V10 ⟨⟨AD, cD, rfl, hown⟩, hD', ht⟩
    have hHl := lt_heap hq
    have hown := ownsRow_lower hown (show HH + 1 ≤ V9.heap.size by omega)
    have hq' := (ht.block HH (lt_heap hq) hmX).trans hq
    replace hzh := (ht.block Zh (lt_heap hzh) (by omega)).trans hzh
    replace hzf := (ht.block Zf (lt_heap hzf) (by omega)).trans hzf
    replace hb : Below w.heap.size w V10 := ht.below hb hb.size (fun q hq => by omega)
    clear hq ht hD h6
    have hst := heap_setCell_same V10 HH 35 _ _ (.slice AD m cD) hq'
    rw [rq_set35] at hst
    have hsT := set_turnH V10 HH 35 (.slice AD m cD)
    have cc := cell_heap hq' (rq_c35 _ _ _ _ _)
    have ff := thaw_heap hq' 35
    have hown' := own_kept (w' := V10.setCell ⟨HH, 35, none⟩ (.slice AD m cD)) hown (fun k hk => heap_setCell_other _ _ k _ (show k ≠ HH from fun e => by have := own_lowlt hown hk; omega))
    go_upto_region 9 with (fail)
    refine wp_world (fun V => Below w.heap.size w V ∧ V.heap[Zh]? = some (.cells (rqA 0 zf 0 0 (.slice none 0 0)) 40 (0, 0)) ∧ V.heap[Zf]? = some (.cells (frow 0 false 0) 64 (0, 0)) ∧ DrS V X A xs p6 ca c6 l6 z6 ∧ V.heap[HH]? = some (.cells (rqA op g n1 n2 (.slice AD m cD)) 40 (0, 0)) ∧ V.ownsRow (HH + 1) 5 1 (.slice AD m cD) m (ints .u8 ds)) ⟨hsT.below hb hb.size (fun q hq => by omega), (hsT.block Zh (lt_heap hzh) (by omega)).trans hzh, (hsT.block Zf (lt_heap hzf) (by omega)).trans hzf, hD'.turn0 hsT (by omega) (fun h0 a ha => by have := hAlt h0 a ha; omega), hst, hown'⟩ ?_
    clear hb hzh hzf hD' hq' hst hsT cc ff hown hown'
    rintro V11 ⟨hb, hzh, hzf, hD, hq, hown⟩
    go_wp2_with fail
    refine (h7 X V11 hD).mono ?_
    rintro e W7 ⟨rfl, ht⟩
    replace hown := own_kept hown (fun k hk => ht.block k (own_lowlt hown hk).2 (fun e => by have := own_lowlt hown hk; omega))
    have hq' := (ht.block HH (lt_heap hq) hmX).trans hq
    replace hzh := (ht.block Zh (lt_heap hzh) (by omega)).trans hzh
    replace hzf := (ht.block Zf (lt_heap hzf) (by omega)).trans hzf
    replace hb : Below w.heap.size w W7 := ht.below hb hb.size (fun q hq => by omega)
    clear hq ht hD h7
    obtain ⟨FB, hFB⟩ : ∃ H, H = W7.heap.size := ⟨_, rfl⟩
    go_upto_region 10 with (refine wpList_store_row rfl 64 _ _ rfl W7.heap.size (frow fc fl fz) rfl rfl _ _ (heap_alloc_new _ _) (by kernel_rfl) rfl (frow_one _ _ _) ?_)
    refine wp_world (fun V => Below w.heap.size w V ∧ V.heap[Zh]? = some (.cells (rqA 0 zf 0 0 (.slice none 0 0)) 40 (0, 0)) ∧ V.heap[Zf]? = some (.cells (frow 0 false 0) 64 (0, 0)) ∧ V.heap[HH]? = some (.cells (rqA op g n1 n2 (.slice AD m cD)) 40 (0, 0)) ∧ V.ownsRow (HH + 1) 5 1 (.slice AD m cD) m (ints .u8 ds) ∧ V.heap[FB]? = some (.cells (frow fc fl fz) 64 (0, 0))) ?_ ?_
    · rw [alloc_setRow, hFB]
      have hbb := below_alc W7 (.cells (frow fc fl fz) 64)
      exact ⟨hb.trans (hbb.mono hb.size), heap_below hzh hbb, heap_below hzf hbb, heap_below hq' hbb, own_kept hown (fun k hk => hbb.block k (own_lowlt hown hk).2), heap1_0 W7 _⟩
    have hHl := lt_heap hq'
    have hnF : HH < FB := by omega
    clear hb hzh hzf hq' hown hHl
    rintro V8 ⟨hb, hzh, hzf, hq, hown, hfb⟩
    rw [← hFB]
    clear hFB
    go_wp2_with (refine wpList_load_row rfl 64 _ rfl FB rfl _ _ _ _ hfb Tryd.underlying64 rfl (by kernel_rfl) ?_)
    by_cases hfc : fc = 0
    · refine (bad_no fc fl fz V8 hfc).mono ?_
      rintro e W5 ⟨rfl, hb9⟩
      have HFC := Lib.hid hfc
      clear hfc
      replace hzh := heap_below hzh hb9
      replace hzf := heap_below hzf hb9
      replace hq := heap_below hq hb9
      replace hfb := heap_below hfb hb9
      replace hown := own_kept hown (fun k hk => hb9.block k (own_lowlt hown hk).2)
      replace hb := hb.trans (hb9.mono hb.size)
      clear hb9
      have hfl := lt_heap hfb
      have hql := lt_heap hq
      have hfr : W5.rangeAt FB 0 (frow fc fl fz).toList := range_new hfb
      have hqr : W5.rangeAt HH 0 (rqA op g n1 n2 (.slice AD m cD)).toList := range_new hq
      have hqs : (Tryd.prog.info? 40).map (·.size) = some (rqA op g n1 n2 (.slice AD m cD)).toList.length := by rw [Array.length_toList]; exact (rq_info _ _ _ _ _)
      go_upto_region 12 with (fail)
      refine wp_region_noPanic ?_
      refine wp_region_held_drew (S := fun V => Turn (fun q => q = Zh ∨ q = Zf) W5 V) (by kernel_rfl) (Turn.of_below (Below.drewNr (w := W5) 1)) (fun hHeld => ?_)
      refine held_load 0 40 (Go.Operand.tmp 5) (some 41) (HH) (0) ((rqA op g n1 n2 (.slice AD m cD)).toList) _ (by kernel_rfl) (by kernel_rfl) (fun w h => h.range hqr hql (by omega)) Tryd.underlying40 rfl hqs (by kernel_rfl) (by kernel_rfl) (by kernel_rfl) (fun _ _ _ _ _ h => h) hHeld ?_
      refine held_load 1 64 (Go.Operand.tmp 6) (some 42) (FB) (0) ((frow fc fl fz).toList) _ (by kernel_rfl) (by kernel_rfl) (fun w h => h.range hfr hfl (by omega)) Tryd.underlying64 rfl (info_F _ _ _) (by kernel_rfl) (by kernel_rfl) (by kernel_rfl) (fun _ _ _ _ _ h => h) hHeld ?_
      refine held_skip 2 (Go.Op.store 40 (Go.Operand.tmp 2) (Go.Operand.tmp 41)) none (W5.drew.setRow Zh (rqA op g n1 n2 (.slice AD m cD))) (by kernel_rfl) (by kernel_rfl) (fun o ho => exec_store (vx := .pointer (some ⟨Zh, 0, none⟩)) (vy := .agg (rqA op g n1 n2 (.slice AD m cD))) ho (by kernel_rfl) (store_rowH _ _ _ _ _ _ hzh (rq_info _ _ _ _ _) (rq_szs _ _ _ _ _ _ _ _ _ _) (rq_one _ _ _ _ _ _ _))) (row_turn hHeld (.inl rfl) _) ?_
      intro hHeld
      refine held_skip 3 (Go.Op.store 64 (Go.Operand.tmp 3) (Go.Operand.tmp 42)) none ((W5.drew.setRow Zh (rqA op g n1 n2 (.slice AD m cD))).setRow Zf (frow fc fl fz)) (by kernel_rfl) (by kernel_rfl) (fun o ho => exec_store (vx := .pointer (some ⟨Zf, 0, none⟩)) (vy := .agg (frow fc fl fz)) ho (by kernel_rfl) (store_rowH _ _ _ _ _ _ ((setRow_other _ Zh Zf _ (by omega)).trans hzf) (by kernel_rfl) rfl (frow_one _ _ _))) (row_turn hHeld (.inr rfl) _) ?_
      intro hHeld
      refine wpAnyH_done (by kernel_rfl) ?_ _
      refine NoPanic.normal ?_
      simp only [put_list, put_none, List.set_cons_zero, List.set_cons_succ]
      have hbF : Below w.heap.size w ((W5.drew.setRow Zh (rqA op g n1 n2 (.slice AD m cD))).setRow Zf (frow fc fl fz)) := hHeld.below hb hb.size (fun q hq => by omega)
      have rzf := setRow_heap (W5.drew.setRow Zh (rqA op g n1 n2 (.slice AD m cD))) Zf _ (frow fc fl fz) _ _ ((setRow_other _ Zh Zf _ (by omega)).trans hzf)
      have rzh := (setRow_other (W5.drew.setRow Zh (rqA op g n1 n2 (.slice AD m cD))) Zf Zh (frow fc fl fz) (by omega)).trans (setRow_heap W5.drew Zh _ (rqA op g n1 n2 (.slice AD m cD)) _ _ hzh)
      have hownF := own_kept (w' := (W5.drew.setRow Zh (rqA op g n1 n2 (.slice AD m cD))).setRow Zf (frow fc fl fz)) hown (fun k hk => hHeld.block k (own_lowlt hown hk).2 (fun e => by have := own_lowlt hown hk; omega))
      have HF := Lib.hid (And.intro hbF (ownsRow_lower hownF (show w.heap.size ≤ HH + 1 by omega)))
      clear hownF
      clear hbF hHeld hown hfr hfb hq
      go_wp2_with fail
      refine bodyPost_ret (results_two_rowsH rfl _ _ _ _ _ _ _ _ _ _ _ _ rfl rzh rfl rzf Tryd.underlying40 rfl (rq_info _ _ _ _ _) Tryd.underlying64 rfl (by kernel_rfl)) rfl ?_
      exact ⟨_, rfl, .inl ⟨HFC.out, _, _, rfl, HF.out.2⟩, HF.out.1⟩
    · refine (bad_yes fc fl fz V8 hfc).mono ?_
      rintro e W5 ⟨rfl, hb9⟩
      have HFC := Lib.hid hfc
      clear hfc
      replace hzh := heap_below hzh hb9
      replace hzf := heap_below hzf hb9
      replace hq := heap_below hq hb9
      replace hfb := heap_below hfb hb9
      replace hown := own_kept hown (fun k hk => hb9.block k (own_lowlt hown hk).2)
      replace hb := hb.trans (hb9.mono hb.size)
      clear hb9
      have hfl := lt_heap hfb
      have hql := lt_heap hq
      have hfr : W5.rangeAt FB 0 (frow fc fl fz).toList := range_new hfb
      go_upto_region 11 with (fail)
      refine wp_region_noPanic ?_
      refine wp_region_held_drew (S := fun V => Turn (fun q => q = Zh ∨ q = Zf) W5 V) (by kernel_rfl) (Turn.of_below (Below.drewNr (w := W5) 1)) (fun hHeld => ?_)
      refine held_build 0 40 #[] (some 39) #[] (.agg (rqA 0 zf 0 0 (.slice none 0 0))) (by kernel_rfl) (by kernel_rfl) (fun w => by kernel_rfl) (by kernel_rfl) (by kernel_rfl) (by kernel_rfl) (fun _ _ _ _ _ h => h) hHeld ?_
      refine held_load 1 64 (Go.Operand.tmp 6) (some 40) (FB) (0) ((frow fc fl fz).toList) _ (by kernel_rfl) (by kernel_rfl) (fun w h => h.range hfr hfl (by omega)) Tryd.underlying64 rfl (info_F _ _ _) (by kernel_rfl) (by kernel_rfl) (by kernel_rfl) (fun _ _ _ _ _ h => h) hHeld ?_
      refine held_skip 2 (Go.Op.store 40 (Go.Operand.tmp 2) (Go.Operand.tmp 39)) none (W5.drew.setRow Zh (rqA 0 zf 0 0 (.slice none 0 0))) (by kernel_rfl) (by kernel_rfl) (fun o ho => exec_store (vx := .pointer (some ⟨Zh, 0, none⟩)) (vy := .agg (rqA 0 zf 0 0 (.slice none 0 0))) ho (by kernel_rfl) (store_rowH _ _ _ _ _ _ hzh (rq_info _ _ _ _ _) (rq_szs _ _ _ _ _ _ _ _ _ _) (rq_one _ _ _ _ _ _ _))) (row_turn hHeld (.inl rfl) _) ?_
      intro hHeld
      refine held_skip 3 (Go.Op.store 64 (Go.Operand.tmp 3) (Go.Operand.tmp 40)) none ((W5.drew.setRow Zh (rqA 0 zf 0 0 (.slice none 0 0))).setRow Zf (frow fc fl fz)) (by kernel_rfl) (by kernel_rfl) (fun o ho => exec_store (vx := .pointer (some ⟨Zf, 0, none⟩)) (vy := .agg (frow fc fl fz)) ho (by kernel_rfl) (store_rowH _ _ _ _ _ _ ((setRow_other _ Zh Zf _ (by omega)).trans hzf) (by kernel_rfl) rfl (frow_one _ _ _))) (row_turn hHeld (.inr rfl) _) ?_
      intro hHeld
      refine wpAnyH_done (by kernel_rfl) ?_ _
      refine NoPanic.normal ?_
      simp only [put_list, put_none, List.set_cons_zero, List.set_cons_succ]
      have hbF : Below w.heap.size w ((W5.drew.setRow Zh (rqA 0 zf 0 0 (.slice none 0 0))).setRow Zf (frow fc fl fz)) := hHeld.below hb hb.size (fun q hq => by omega)
      have rzf := setRow_heap (W5.drew.setRow Zh (rqA 0 zf 0 0 (.slice none 0 0))) Zf _ (frow fc fl fz) _ _ ((setRow_other _ Zh Zf _ (by omega)).trans hzf)
      have rzh := (setRow_other (W5.drew.setRow Zh (rqA 0 zf 0 0 (.slice none 0 0))) Zf Zh (frow fc fl fz) (by omega)).trans (setRow_heap W5.drew Zh _ (rqA 0 zf 0 0 (.slice none 0 0)) _ _ hzh)
      have HF := Lib.hid hbF
      clear hbF hHeld hown hfr hfb hq
      go_wp2_with fail
      refine bodyPost_ret (results_two_rowsH rfl _ _ _ _ _ _ _ _ _ _ _ _ rfl rzh rfl rzf Tryd.underlying40 rfl (rq_info _ _ _ _ _) Tryd.underlying64 rfl (by kernel_rfl)) rfl ?_
      exact ⟨_, rfl, .inr ⟨HFC.out, rfl⟩, HF.out⟩
set_option maxRecDepth 100000 in
set_option maxHeartbeats 6400000 in
theorem drs_of (A : Option Addr) (xs : List Int) (ca : Nat) (w : World) (hA : SlRead w A (ints .u8 xs)) (hca : xs.length ≤ ca) (op n2 : Int) (m : Nat) (ds : List Int) (p1 p5 p6 : Nat) (c1 c5 c6 : Int) (l1 l5 l6 : Bool) (z1 z5 z6 : Int) (fc : Int) (fl : Bool) (fz : Int)
    (h1 : ∀ X W, DrS W X A xs 0 ca 0 false 0 → Calls Tryd.prog 43 #[.pointer (some ⟨X, 0, none⟩)] W fun e w' => e = .returned (.int .i64 op) ∧ DrS w' X A xs p1 ca c1 l1 z1 ∧ Turn (· = X) W w')
    (hbad : ¬ (19 < op))
    (h5 : ∀ X W, DrS W X A xs p1 ca c1 l1 z1 → Calls Tryd.prog 45 #[.pointer (some ⟨X, 0, none⟩)] W fun e w' => e = .returned (.int .u32 n2) ∧ DrS w' X A xs p5 ca c5 l5 z5 ∧ Turn (· = X) W w')
    (h6 : ∀ X W, DrS W X A xs p5 ca c5 l5 z5 → Calls Tryd.prog 46 #[.pointer (some ⟨X, 0, none⟩), .int .i64 200] W fun e w' => (∃ AD cD, e = .returned (.slice AD m cD) ∧ w'.ownsRow W.heap.size 5 1 (.slice AD m cD) m (ints .u8 ds)) ∧ DrS w' X A xs p6 ca c6 l6 z6 ∧ Turn (· = X) W w')
    (h7 : ∀ X W, DrS W X A xs p6 ca c6 l6 z6 → Calls Tryd.prog 47 #[.pointer (some ⟨X, 0, none⟩)] W fun e w' => e = .returned (.agg (frow fc fl fz)) ∧ Turn (· = X) W w') :
    Calls Tryd.prog 25 #[.slice A xs.length ca] w fun e w' => ∃ r, e = .returned (.tuple #[.agg r, .agg (frow fc fl fz)]) ∧ ((fc = 0 ∧ ∃ AD cD, r = rsA op n2 (.slice AD m cD) ∧ w'.ownsRow w.heap.size 5 1 (.slice AD m cD) m (ints .u8 ds)) ∨ (fc ≠ 0 ∧ r = rsA 0 0 (.slice none 0 0))) ∧ Below w.heap.size w w' := by
  have hAlt := sl_lt hA
  go_enter Tryd.func25, Tryd.ntmps25
  go_upto_region 2 with (fail)
  obtain ⟨Zh, hZh⟩ : ∃ Z, Z = w.heap.size := ⟨_, rfl⟩
  obtain ⟨Zf, hZf⟩ : ∃ Z, Z = Zh + 1 := ⟨_, rfl⟩
  obtain ⟨X, hX⟩ : ∃ Z, Z = Zf + 1 := ⟨_, rfl⟩
  refine wp_world (fun V => Below w.heap.size w V ∧ V.heap[Zh]? = some (.cells (rsA 0 0 (.slice none 0 0)) 47 (0, 0)) ∧ V.heap[Zf]? = some (.cells (frow 0 false 0) 64 (0, 0)) ∧ DrS V X A xs 0 ca 0 false 0 ∧ V.heap.size = X + 1) ?_ ?_
  · subst hX hZf hZh
    have hbb : Below w.heap.size w (((w.alloc (.cells (rsA 0 0 (.slice none 0 0)) 47)).alloc (.cells (frow 0 false 0) 64)).alloc (.cells #[.slice A xs.length ca, .int .i64 0, .int .i64 0, .bool false, .int .i64 0] 96)) := ((below_alc w _).alloc (by simp) _).alloc (by simp; omega) _
    have hAr := hA.below hbb
    refine ⟨hbb, ?_, ?_, ⟨⟨?_, ?_, ?_, hAr, fun h0 a ha => by have := hAlt h0 a ha; omega, Nat.zero_le _, hca⟩, ?_, fun o => ?_⟩, by simp⟩
    · exact (heap_alloc_old _ _ (by simp; omega)).trans ((heap_alloc_old _ _ (by simp)).trans ((heap_alloc_new _ _).trans rfl))
    · exact (heap_alloc_old _ _ (by simp)).trans ((heap_eq _ _ _ (by simp)).trans rfl)
    · simp [go_sem]
    · simp [go_sem]
    · simp [go_sem]
    · intro j v hv
      rcases j with _ | _ | _ | j
      · simp [frow] at hv; subst hv; simp [go_sem]
      · simp [frow] at hv; subst hv; simp [go_sem]
      · simp [frow] at hv; subst hv; simp [go_sem]
      · simp [frow] at hv
    · simp [go_sem]
  rintro V ⟨hb, hzh, hzf, hD, hVs⟩
  rw [← hZh, ← hZf, ← hX]
  have hnum : w.heap.size ≤ Zh ∧ Zh < Zf ∧ Zf < X := by omega
  have hXV : X < V.heap.size := by omega
  clear hZh hZf hX hVs hA
  go_wp2_with fail
  refine (h1 X V hD).mono ?_
  rintro e V1 ⟨rfl, hD1, ht⟩
  have hs1 := ht.size
  replace hzh := (ht.block Zh (by omega) (by omega)).trans hzh
  replace hzf := (ht.block Zf (by omega) (by omega)).trans hzf
  replace hb : Below w.heap.size w V1 := ht.below hb hb.size (fun q hq => by omega)
  clear h1 hD ht
  obtain ⟨HH, hHH⟩ : ∃ H, H = V1.heap.size := ⟨_, rfl⟩
  go_upto_region 3 with (first | (refine wpList_build rfl 47 _ rfl #[(0, .int .i64 op)] (by kernel_rfl) (.agg (rsA op 0 (.slice none 0 0))) (fun _ => by kernel_rfl) ?_) | (refine wpList_store_row rfl 47 _ _ rfl V1.heap.size (rsA op 0 (.slice none 0 0)) rfl rfl _ _ (heap_alloc_new _ _) (rs_info _ _ _) (by kernel_rfl) (rs_one _ _ _ _ _) ?_))
  refine wp_world (fun V => Below w.heap.size w V ∧ V.heap[Zh]? = some (.cells (rsA 0 0 (.slice none 0 0)) 47 (0, 0)) ∧ V.heap[Zf]? = some (.cells (frow 0 false 0) 64 (0, 0)) ∧ DrS V X A xs p1 ca c1 l1 z1 ∧ V.heap[HH]? = some (.cells (rsA op 0 (.slice none 0 0)) 47 (0, 0))) ?_ ?_
  · rw [alloc_setRow, hHH]
    have hbb := below_alc V1 (.cells (rsA op 0 (.slice none 0 0)) 47)
    exact ⟨hb.trans (hbb.mono hb.size), heap_below hzh hbb, heap_below hzf hbb, hD1.below hbb, heap1_0 V1 _⟩
  clear hb hzh hzf hD1
  rintro V2 ⟨hb, hzh, hzf, hD, hq⟩
  rw [← hHH]
  have hmX : ¬ HH = X := by omega
  have hnH : X < HH := by omega
  clear hHH hs1 hXV
  have cop := cell_heap hq (rs_c0 _ _ _)
  go_wp2_with fail
  refine (h5 X V2 hD).mono ?_
  rintro e V4 ⟨rfl, hD', ht⟩
  have hq' := (ht.block HH (lt_heap hq) hmX).trans hq
  replace hzh := (ht.block Zh (lt_heap hzh) (by omega)).trans hzh
  replace hzf := (ht.block Zf (lt_heap hzf) (by omega)).trans hzf
  replace hb : Below w.heap.size w V4 := ht.below hb hb.size (fun q hq => by omega)
  clear hq ht hD h5
  have hst := heap_setCell_same V4 HH 1 _ _ (.int .u32 n2) hq'
  rw [rs_set1] at hst
  have hsT := set_turnH V4 HH 1 (.int .u32 n2)
  have cc := cell_heap hq' (rs_c1 _ _ _)
  have ff := thaw_heap hq' 1
  go_upto_region 6 with (fail)
  refine wp_world (fun V => Below w.heap.size w V ∧ V.heap[Zh]? = some (.cells (rsA 0 0 (.slice none 0 0)) 47 (0, 0)) ∧ V.heap[Zf]? = some (.cells (frow 0 false 0) 64 (0, 0)) ∧ DrS V X A xs p5 ca c5 l5 z5 ∧ V.heap[HH]? = some (.cells (rsA op n2 (.slice none 0 0)) 47 (0, 0))) ⟨hsT.below hb hb.size (fun q hq => by omega), (hsT.block Zh (lt_heap hzh) (by omega)).trans hzh, (hsT.block Zf (lt_heap hzf) (by omega)).trans hzf, hD'.turn0 hsT (by omega) (fun h0 a ha => by have := hAlt h0 a ha; omega), hst⟩ ?_
  clear hb hzh hzf hD' hq' hst hsT cc ff
  rintro V5 ⟨hb, hzh, hzf, hD, hq⟩
  go_wp2_with fail
  refine (h6 X V5 hD).mono ?_
  rintro e V6 ⟨⟨AD, cD, rfl, hown⟩, hD', ht⟩
  have hHl := lt_heap hq
  have hown := ownsRow_lower hown (show HH + 1 ≤ V5.heap.size by omega)
  have hq' := (ht.block HH (lt_heap hq) hmX).trans hq
  replace hzh := (ht.block Zh (lt_heap hzh) (by omega)).trans hzh
  replace hzf := (ht.block Zf (lt_heap hzf) (by omega)).trans hzf
  replace hb : Below w.heap.size w V6 := ht.below hb hb.size (fun q hq => by omega)
  clear hq ht hD h6
  have hst := heap_setCell_same V6 HH 2 _ _ (.slice AD m cD) hq'
  rw [rs_set2] at hst
  have hsT := set_turnH V6 HH 2 (.slice AD m cD)
  have cc := cell_heap hq' (rs_c2 _ _ _)
  have ff := thaw_heap hq' 2
  have hown' := own_kept (w' := V6.setCell ⟨HH, 2, none⟩ (.slice AD m cD)) hown (fun k hk => heap_setCell_other _ _ k _ (show k ≠ HH from fun e => by have := own_lowlt hown hk; omega))
  go_upto_region 7 with (fail)
  refine wp_world (fun V => Below w.heap.size w V ∧ V.heap[Zh]? = some (.cells (rsA 0 0 (.slice none 0 0)) 47 (0, 0)) ∧ V.heap[Zf]? = some (.cells (frow 0 false 0) 64 (0, 0)) ∧ DrS V X A xs p6 ca c6 l6 z6 ∧ V.heap[HH]? = some (.cells (rsA op n2 (.slice AD m cD)) 47 (0, 0)) ∧ V.ownsRow (HH + 1) 5 1 (.slice AD m cD) m (ints .u8 ds)) ⟨hsT.below hb hb.size (fun q hq => by omega), (hsT.block Zh (lt_heap hzh) (by omega)).trans hzh, (hsT.block Zf (lt_heap hzf) (by omega)).trans hzf, hD'.turn0 hsT (by omega) (fun h0 a ha => by have := hAlt h0 a ha; omega), hst, hown'⟩ ?_
  clear hb hzh hzf hD' hq' hst hsT cc ff hown hown'
  rintro V7 ⟨hb, hzh, hzf, hD, hq, hown⟩
  go_wp2_with fail
  refine (h7 X V7 hD).mono ?_
  rintro e W7 ⟨rfl, ht⟩
  replace hown := own_kept hown (fun k hk => ht.block k (own_lowlt hown hk).2 (fun e => by have := own_lowlt hown hk; omega))
  have hq' := (ht.block HH (lt_heap hq) hmX).trans hq
  replace hzh := (ht.block Zh (lt_heap hzh) (by omega)).trans hzh
  replace hzf := (ht.block Zf (lt_heap hzf) (by omega)).trans hzf
  replace hb : Below w.heap.size w W7 := ht.below hb hb.size (fun q hq => by omega)
  clear hq ht hD h7
  obtain ⟨FB, hFB⟩ : ∃ H, H = W7.heap.size := ⟨_, rfl⟩
  go_upto_region 8 with (refine wpList_store_row rfl 64 _ _ rfl W7.heap.size (frow fc fl fz) rfl rfl _ _ (heap_alloc_new _ _) (by kernel_rfl) rfl (frow_one _ _ _) ?_)
  refine wp_world (fun V => Below w.heap.size w V ∧ V.heap[Zh]? = some (.cells (rsA 0 0 (.slice none 0 0)) 47 (0, 0)) ∧ V.heap[Zf]? = some (.cells (frow 0 false 0) 64 (0, 0)) ∧ V.heap[HH]? = some (.cells (rsA op n2 (.slice AD m cD)) 47 (0, 0)) ∧ V.ownsRow (HH + 1) 5 1 (.slice AD m cD) m (ints .u8 ds) ∧ V.heap[FB]? = some (.cells (frow fc fl fz) 64 (0, 0))) ?_ ?_
  · rw [alloc_setRow, hFB]
    have hbb := below_alc W7 (.cells (frow fc fl fz) 64)
    exact ⟨hb.trans (hbb.mono hb.size), heap_below hzh hbb, heap_below hzf hbb, heap_below hq' hbb, own_kept hown (fun k hk => hbb.block k (own_lowlt hown hk).2), heap1_0 W7 _⟩
  have hHl := lt_heap hq'
  have hnF : HH < FB := by omega
  clear hb hzh hzf hq' hown hHl
  rintro V8 ⟨hb, hzh, hzf, hq, hown, hfb⟩
  rw [← hFB]
  clear hFB
  go_wp2_with (refine wpList_load_row rfl 64 _ rfl FB rfl _ _ _ _ hfb Tryd.underlying64 rfl (by kernel_rfl) ?_)
  by_cases hfc : fc = 0
  · refine (bad_no fc fl fz V8 hfc).mono ?_
    rintro e W5 ⟨rfl, hb9⟩
    have HFC := Lib.hid hfc
    clear hfc
    replace hzh := heap_below hzh hb9
    replace hzf := heap_below hzf hb9
    replace hq := heap_below hq hb9
    replace hfb := heap_below hfb hb9
    replace hown := own_kept hown (fun k hk => hb9.block k (own_lowlt hown hk).2)
    replace hb := hb.trans (hb9.mono hb.size)
    clear hb9
    have hfl := lt_heap hfb
    have hql := lt_heap hq
    have hfr : W5.rangeAt FB 0 (frow fc fl fz).toList := range_new hfb
    have hqr : W5.rangeAt HH 0 (rsA op n2 (.slice AD m cD)).toList := range_new hq
    have hqs : (Tryd.prog.info? 47).map (·.size) = some (rsA op n2 (.slice AD m cD)).toList.length := by rw [Array.length_toList]; exact (rs_info _ _ _)
    go_upto_region 10 with (fail)
    refine wp_region_noPanic ?_
    refine wp_region_held_drew (S := fun V => Turn (fun q => q = Zh ∨ q = Zf) W5 V) (by kernel_rfl) (Turn.of_below (Below.drewNr (w := W5) 1)) (fun hHeld => ?_)
    refine held_load 0 47 (Go.Operand.tmp 5) (some 30) (HH) (0) ((rsA op n2 (.slice AD m cD)).toList) _ (by kernel_rfl) (by kernel_rfl) (fun w h => h.range hqr hql (by omega)) Tryd.underlying47 rfl hqs (by kernel_rfl) (by kernel_rfl) (by kernel_rfl) (fun _ _ _ _ _ h => h) hHeld ?_
    refine held_load 1 64 (Go.Operand.tmp 6) (some 31) (FB) (0) ((frow fc fl fz).toList) _ (by kernel_rfl) (by kernel_rfl) (fun w h => h.range hfr hfl (by omega)) Tryd.underlying64 rfl (info_F _ _ _) (by kernel_rfl) (by kernel_rfl) (by kernel_rfl) (fun _ _ _ _ _ h => h) hHeld ?_
    refine held_skip 2 (Go.Op.store 47 (Go.Operand.tmp 2) (Go.Operand.tmp 30)) none (W5.drew.setRow Zh (rsA op n2 (.slice AD m cD))) (by kernel_rfl) (by kernel_rfl) (fun o ho => exec_store (vx := .pointer (some ⟨Zh, 0, none⟩)) (vy := .agg (rsA op n2 (.slice AD m cD))) ho (by kernel_rfl) (store_rowH _ _ _ _ _ _ hzh (rs_info _ _ _) rfl (rs_one _ _ _ _ _))) (row_turn hHeld (.inl rfl) _) ?_
    intro hHeld
    refine held_skip 3 (Go.Op.store 64 (Go.Operand.tmp 3) (Go.Operand.tmp 31)) none ((W5.drew.setRow Zh (rsA op n2 (.slice AD m cD))).setRow Zf (frow fc fl fz)) (by kernel_rfl) (by kernel_rfl) (fun o ho => exec_store (vx := .pointer (some ⟨Zf, 0, none⟩)) (vy := .agg (frow fc fl fz)) ho (by kernel_rfl) (store_rowH _ _ _ _ _ _ ((setRow_other _ Zh Zf _ (by omega)).trans hzf) (by kernel_rfl) rfl (frow_one _ _ _))) (row_turn hHeld (.inr rfl) _) ?_
    intro hHeld
    refine wpAnyH_done (by kernel_rfl) ?_ _
    refine NoPanic.normal ?_
    simp only [put_list, put_none, List.set_cons_zero, List.set_cons_succ]
    have hbF : Below w.heap.size w ((W5.drew.setRow Zh (rsA op n2 (.slice AD m cD))).setRow Zf (frow fc fl fz)) := hHeld.below hb hb.size (fun q hq => by omega)
    have rzf := setRow_heap (W5.drew.setRow Zh (rsA op n2 (.slice AD m cD))) Zf _ (frow fc fl fz) _ _ ((setRow_other _ Zh Zf _ (by omega)).trans hzf)
    have rzh := (setRow_other (W5.drew.setRow Zh (rsA op n2 (.slice AD m cD))) Zf Zh (frow fc fl fz) (by omega)).trans (setRow_heap W5.drew Zh _ (rsA op n2 (.slice AD m cD)) _ _ hzh)
    have hownF := own_kept (w' := (W5.drew.setRow Zh (rsA op n2 (.slice AD m cD))).setRow Zf (frow fc fl fz)) hown (fun k hk => hHeld.block k (own_lowlt hown hk).2 (fun e => by have := own_lowlt hown hk; omega))
    have HF := Lib.hid (And.intro hbF (ownsRow_lower hownF (show w.heap.size ≤ HH + 1 by omega)))
    clear hownF
    clear hbF hHeld hown hfr hfb hq
    go_wp2_with fail
    refine bodyPost_ret (results_two_rowsH rfl _ _ _ _ _ _ _ _ _ _ _ _ rfl rzh rfl rzf Tryd.underlying47 rfl (rs_info _ _ _) Tryd.underlying64 rfl (by kernel_rfl)) rfl ?_
    exact ⟨_, rfl, .inl ⟨HFC.out, _, _, rfl, HF.out.2⟩, HF.out.1⟩
  · refine (bad_yes fc fl fz V8 hfc).mono ?_
    rintro e W5 ⟨rfl, hb9⟩
    have HFC := Lib.hid hfc
    clear hfc
    replace hzh := heap_below hzh hb9
    replace hzf := heap_below hzf hb9
    replace hq := heap_below hq hb9
    replace hfb := heap_below hfb hb9
    replace hown := own_kept hown (fun k hk => hb9.block k (own_lowlt hown hk).2)
    replace hb := hb.trans (hb9.mono hb.size)
    clear hb9
    have hfl := lt_heap hfb
    have hql := lt_heap hq
    have hfr : W5.rangeAt FB 0 (frow fc fl fz).toList := range_new hfb
    go_upto_region 9 with (fail)
    refine wp_region_noPanic ?_
    refine wp_region_held_drew (S := fun V => Turn (fun q => q = Zh ∨ q = Zf) W5 V) (by kernel_rfl) (Turn.of_below (Below.drewNr (w := W5) 1)) (fun hHeld => ?_)
    refine held_build 0 47 #[] (some 28) #[] (.agg (rsA 0 0 (.slice none 0 0))) (by kernel_rfl) (by kernel_rfl) (fun w => by kernel_rfl) (by kernel_rfl) (by kernel_rfl) (by kernel_rfl) (fun _ _ _ _ _ h => h) hHeld ?_
    refine held_load 1 64 (Go.Operand.tmp 6) (some 29) (FB) (0) ((frow fc fl fz).toList) _ (by kernel_rfl) (by kernel_rfl) (fun w h => h.range hfr hfl (by omega)) Tryd.underlying64 rfl (info_F _ _ _) (by kernel_rfl) (by kernel_rfl) (by kernel_rfl) (fun _ _ _ _ _ h => h) hHeld ?_
    refine held_skip 2 (Go.Op.store 47 (Go.Operand.tmp 2) (Go.Operand.tmp 28)) none (W5.drew.setRow Zh (rsA 0 0 (.slice none 0 0))) (by kernel_rfl) (by kernel_rfl) (fun o ho => exec_store (vx := .pointer (some ⟨Zh, 0, none⟩)) (vy := .agg (rsA 0 0 (.slice none 0 0))) ho (by kernel_rfl) (store_rowH _ _ _ _ _ _ hzh (rs_info _ _ _) rfl (rs_one _ _ _ _ _))) (row_turn hHeld (.inl rfl) _) ?_
    intro hHeld
    refine held_skip 3 (Go.Op.store 64 (Go.Operand.tmp 3) (Go.Operand.tmp 29)) none ((W5.drew.setRow Zh (rsA 0 0 (.slice none 0 0))).setRow Zf (frow fc fl fz)) (by kernel_rfl) (by kernel_rfl) (fun o ho => exec_store (vx := .pointer (some ⟨Zf, 0, none⟩)) (vy := .agg (frow fc fl fz)) ho (by kernel_rfl) (store_rowH _ _ _ _ _ _ ((setRow_other _ Zh Zf _ (by omega)).trans hzf) (by kernel_rfl) rfl (frow_one _ _ _))) (row_turn hHeld (.inr rfl) _) ?_
    intro hHeld
    refine wpAnyH_done (by kernel_rfl) ?_ _
    refine NoPanic.normal ?_
    simp only [put_list, put_none, List.set_cons_zero, List.set_cons_succ]
    have hbF : Below w.heap.size w ((W5.drew.setRow Zh (rsA 0 0 (.slice none 0 0))).setRow Zf (frow fc fl fz)) := hHeld.below hb hb.size (fun q hq => by omega)
    have rzf := setRow_heap (W5.drew.setRow Zh (rsA 0 0 (.slice none 0 0))) Zf _ (frow fc fl fz) _ _ ((setRow_other _ Zh Zf _ (by omega)).trans hzf)
    have rzh := (setRow_other (W5.drew.setRow Zh (rsA 0 0 (.slice none 0 0))) Zf Zh (frow fc fl fz) (by omega)).trans (setRow_heap W5.drew Zh _ (rsA 0 0 (.slice none 0 0)) _ _ hzh)
    have HF := Lib.hid hbF
    clear hbF hHeld hown hfr hfb hq
    go_wp2_with fail
    refine bodyPost_ret (results_two_rowsH rfl _ _ _ _ _ _ _ _ _ _ _ _ rfl rzh rfl rzf Tryd.underlying47 rfl (rs_info _ _ _) Tryd.underlying64 rfl (by kernel_rfl)) rfl ?_
    exact ⟨_, rfl, .inr ⟨HFC.out, rfl⟩, HF.out⟩
set_option maxRecDepth 100000 in
set_option maxHeartbeats 6400000 in
theorem drs_bad (A : Option Addr) (xs : List Int) (ca : Nat) (w : World) (hA : SlRead w A (ints .u8 xs)) (hca : xs.length ≤ ca) (op n2 : Int) (m : Nat) (ds : List Int) (p1 p2 p5 p6 : Nat) (c1 c2 c5 c6 : Int) (l1 l2 l5 l6 : Bool) (z1 z2 z5 z6 : Int) (fc : Int) (fl : Bool) (fz : Int)
    (h1 : ∀ X W, DrS W X A xs 0 ca 0 false 0 → Calls Tryd.prog 43 #[.pointer (some ⟨X, 0, none⟩)] W fun e w' => e = .returned (.int .i64 op) ∧ DrS w' X A xs p1 ca c1 l1 z1 ∧ Turn (· = X) W w')
    (hbad : 19 < op)
    (h2 : ∀ X W, DrS W X A xs p1 ca c1 l1 z1 → Calls Tryd.prog 44 #[.pointer (some ⟨X, 0, none⟩), .int .i64 105, .int .i64 0] W fun e w' => e = .returned (.tuple #[]) ∧ DrS w' X A xs p2 ca c2 l2 z2 ∧ Turn (· = X) W w')
    (h5 : ∀ X W, DrS W X A xs p2 ca c2 l2 z2 → Calls Tryd.prog 45 #[.pointer (some ⟨X, 0, none⟩)] W fun e w' => e = .returned (.int .u32 n2) ∧ DrS w' X A xs p5 ca c5 l5 z5 ∧ Turn (· = X) W w')
    (h6 : ∀ X W, DrS W X A xs p5 ca c5 l5 z5 → Calls Tryd.prog 46 #[.pointer (some ⟨X, 0, none⟩), .int .i64 200] W fun e w' => (∃ AD cD, e = .returned (.slice AD m cD) ∧ w'.ownsRow W.heap.size 5 1 (.slice AD m cD) m (ints .u8 ds)) ∧ DrS w' X A xs p6 ca c6 l6 z6 ∧ Turn (· = X) W w')
    (h7 : ∀ X W, DrS W X A xs p6 ca c6 l6 z6 → Calls Tryd.prog 47 #[.pointer (some ⟨X, 0, none⟩)] W fun e w' => e = .returned (.agg (frow fc fl fz)) ∧ Turn (· = X) W w') :
    Calls Tryd.prog 25 #[.slice A xs.length ca] w fun e w' => ∃ r, e = .returned (.tuple #[.agg r, .agg (frow fc fl fz)]) ∧ ((fc = 0 ∧ ∃ AD cD, r = rsA op n2 (.slice AD m cD) ∧ w'.ownsRow w.heap.size 5 1 (.slice AD m cD) m (ints .u8 ds)) ∨ (fc ≠ 0 ∧ r = rsA 0 0 (.slice none 0 0))) ∧ Below w.heap.size w w' := by
  have hAlt := sl_lt hA
  go_enter Tryd.func25, Tryd.ntmps25
  go_upto_region 2 with (fail)
  obtain ⟨Zh, hZh⟩ : ∃ Z, Z = w.heap.size := ⟨_, rfl⟩
  obtain ⟨Zf, hZf⟩ : ∃ Z, Z = Zh + 1 := ⟨_, rfl⟩
  obtain ⟨X, hX⟩ : ∃ Z, Z = Zf + 1 := ⟨_, rfl⟩
  refine wp_world (fun V => Below w.heap.size w V ∧ V.heap[Zh]? = some (.cells (rsA 0 0 (.slice none 0 0)) 47 (0, 0)) ∧ V.heap[Zf]? = some (.cells (frow 0 false 0) 64 (0, 0)) ∧ DrS V X A xs 0 ca 0 false 0 ∧ V.heap.size = X + 1) ?_ ?_
  · subst hX hZf hZh
    have hbb : Below w.heap.size w (((w.alloc (.cells (rsA 0 0 (.slice none 0 0)) 47)).alloc (.cells (frow 0 false 0) 64)).alloc (.cells #[.slice A xs.length ca, .int .i64 0, .int .i64 0, .bool false, .int .i64 0] 96)) := ((below_alc w _).alloc (by simp) _).alloc (by simp; omega) _
    have hAr := hA.below hbb
    refine ⟨hbb, ?_, ?_, ⟨⟨?_, ?_, ?_, hAr, fun h0 a ha => by have := hAlt h0 a ha; omega, Nat.zero_le _, hca⟩, ?_, fun o => ?_⟩, by simp⟩
    · exact (heap_alloc_old _ _ (by simp; omega)).trans ((heap_alloc_old _ _ (by simp)).trans ((heap_alloc_new _ _).trans rfl))
    · exact (heap_alloc_old _ _ (by simp)).trans ((heap_eq _ _ _ (by simp)).trans rfl)
    · simp [go_sem]
    · simp [go_sem]
    · simp [go_sem]
    · intro j v hv
      rcases j with _ | _ | _ | j
      · simp [frow] at hv; subst hv; simp [go_sem]
      · simp [frow] at hv; subst hv; simp [go_sem]
      · simp [frow] at hv; subst hv; simp [go_sem]
      · simp [frow] at hv
    · simp [go_sem]
  rintro V ⟨hb, hzh, hzf, hD, hVs⟩
  rw [← hZh, ← hZf, ← hX]
  have hnum : w.heap.size ≤ Zh ∧ Zh < Zf ∧ Zf < X := by omega
  have hXV : X < V.heap.size := by omega
  clear hZh hZf hX hVs hA
  go_wp2_with fail
  refine (h1 X V hD).mono ?_
  rintro e V1 ⟨rfl, hD1, ht⟩
  have hs1 := ht.size
  replace hzh := (ht.block Zh (by omega) (by omega)).trans hzh
  replace hzf := (ht.block Zf (by omega) (by omega)).trans hzf
  replace hb : Below w.heap.size w V1 := ht.below hb hb.size (fun q hq => by omega)
  clear h1 hD ht
  obtain ⟨HH, hHH⟩ : ∃ H, H = V1.heap.size := ⟨_, rfl⟩
  go_upto_region 3 with (first | (refine wpList_build rfl 47 _ rfl #[(0, .int .i64 op)] (by kernel_rfl) (.agg (rsA op 0 (.slice none 0 0))) (fun _ => by kernel_rfl) ?_) | (refine wpList_store_row rfl 47 _ _ rfl V1.heap.size (rsA op 0 (.slice none 0 0)) rfl rfl _ _ (heap_alloc_new _ _) (rs_info _ _ _) (by kernel_rfl) (rs_one _ _ _ _ _) ?_))
  refine wp_world (fun V => Below w.heap.size w V ∧ V.heap[Zh]? = some (.cells (rsA 0 0 (.slice none 0 0)) 47 (0, 0)) ∧ V.heap[Zf]? = some (.cells (frow 0 false 0) 64 (0, 0)) ∧ DrS V X A xs p1 ca c1 l1 z1 ∧ V.heap[HH]? = some (.cells (rsA op 0 (.slice none 0 0)) 47 (0, 0))) ?_ ?_
  · rw [alloc_setRow, hHH]
    have hbb := below_alc V1 (.cells (rsA op 0 (.slice none 0 0)) 47)
    exact ⟨hb.trans (hbb.mono hb.size), heap_below hzh hbb, heap_below hzf hbb, hD1.below hbb, heap1_0 V1 _⟩
  clear hb hzh hzf hD1
  rintro V2 ⟨hb, hzh, hzf, hD, hq⟩
  rw [← hHH]
  have hmX : ¬ HH = X := by omega
  have hnH : X < HH := by omega
  clear hHH hs1 hXV
  have cop := cell_heap hq (rs_c0 _ _ _)
  go_wp2_with fail
  refine (h2 X V2 hD).mono ?_
  rintro e V3 ⟨rfl, hD', ht⟩
  have hq' := (ht.block HH (lt_heap hq) hmX).trans hq
  replace hzh := (ht.block Zh (lt_heap hzh) (by omega)).trans hzh
  replace hzf := (ht.block Zf (lt_heap hzf) (by omega)).trans hzf
  replace hb : Below w.heap.size w V3 := ht.below hb hb.size (fun q hq => by omega)
  clear hq ht hD
  replace hD := hD'
  replace hq := hq'
  clear hD' hq'
  go_wp2_with fail
  refine (h5 X V3 hD).mono ?_
  rintro e V4 ⟨rfl, hD', ht⟩
  have hq' := (ht.block HH (lt_heap hq) hmX).trans hq
  replace hzh := (ht.block Zh (lt_heap hzh) (by omega)).trans hzh
  replace hzf := (ht.block Zf (lt_heap hzf) (by omega)).trans hzf
  replace hb : Below w.heap.size w V4 := ht.below hb hb.size (fun q hq => by omega)
  clear hq ht hD h5
  have hst := heap_setCell_same V4 HH 1 _ _ (.int .u32 n2) hq'
  rw [rs_set1] at hst
  have hsT := set_turnH V4 HH 1 (.int .u32 n2)
  have cc := cell_heap hq' (rs_c1 _ _ _)
  have ff := thaw_heap hq' 1
  go_upto_region 6 with (fail)
  refine wp_world (fun V => Below w.heap.size w V ∧ V.heap[Zh]? = some (.cells (rsA 0 0 (.slice none 0 0)) 47 (0, 0)) ∧ V.heap[Zf]? = some (.cells (frow 0 false 0) 64 (0, 0)) ∧ DrS V X A xs p5 ca c5 l5 z5 ∧ V.heap[HH]? = some (.cells (rsA op n2 (.slice none 0 0)) 47 (0, 0))) ⟨hsT.below hb hb.size (fun q hq => by omega), (hsT.block Zh (lt_heap hzh) (by omega)).trans hzh, (hsT.block Zf (lt_heap hzf) (by omega)).trans hzf, hD'.turn0 hsT (by omega) (fun h0 a ha => by have := hAlt h0 a ha; omega), hst⟩ ?_
  clear hb hzh hzf hD' hq' hst hsT cc ff
  rintro V5 ⟨hb, hzh, hzf, hD, hq⟩
  go_wp2_with fail
  refine (h6 X V5 hD).mono ?_
  rintro e V6 ⟨⟨AD, cD, rfl, hown⟩, hD', ht⟩
  have hHl := lt_heap hq
  have hown := ownsRow_lower hown (show HH + 1 ≤ V5.heap.size by omega)
  have hq' := (ht.block HH (lt_heap hq) hmX).trans hq
  replace hzh := (ht.block Zh (lt_heap hzh) (by omega)).trans hzh
  replace hzf := (ht.block Zf (lt_heap hzf) (by omega)).trans hzf
  replace hb : Below w.heap.size w V6 := ht.below hb hb.size (fun q hq => by omega)
  clear hq ht hD h6
  have hst := heap_setCell_same V6 HH 2 _ _ (.slice AD m cD) hq'
  rw [rs_set2] at hst
  have hsT := set_turnH V6 HH 2 (.slice AD m cD)
  have cc := cell_heap hq' (rs_c2 _ _ _)
  have ff := thaw_heap hq' 2
  have hown' := own_kept (w' := V6.setCell ⟨HH, 2, none⟩ (.slice AD m cD)) hown (fun k hk => heap_setCell_other _ _ k _ (show k ≠ HH from fun e => by have := own_lowlt hown hk; omega))
  go_upto_region 7 with (fail)
  refine wp_world (fun V => Below w.heap.size w V ∧ V.heap[Zh]? = some (.cells (rsA 0 0 (.slice none 0 0)) 47 (0, 0)) ∧ V.heap[Zf]? = some (.cells (frow 0 false 0) 64 (0, 0)) ∧ DrS V X A xs p6 ca c6 l6 z6 ∧ V.heap[HH]? = some (.cells (rsA op n2 (.slice AD m cD)) 47 (0, 0)) ∧ V.ownsRow (HH + 1) 5 1 (.slice AD m cD) m (ints .u8 ds)) ⟨hsT.below hb hb.size (fun q hq => by omega), (hsT.block Zh (lt_heap hzh) (by omega)).trans hzh, (hsT.block Zf (lt_heap hzf) (by omega)).trans hzf, hD'.turn0 hsT (by omega) (fun h0 a ha => by have := hAlt h0 a ha; omega), hst, hown'⟩ ?_
  clear hb hzh hzf hD' hq' hst hsT cc ff hown hown'
  rintro V7 ⟨hb, hzh, hzf, hD, hq, hown⟩
  go_wp2_with fail
  refine (h7 X V7 hD).mono ?_
  rintro e W7 ⟨rfl, ht⟩
  replace hown := own_kept hown (fun k hk => ht.block k (own_lowlt hown hk).2 (fun e => by have := own_lowlt hown hk; omega))
  have hq' := (ht.block HH (lt_heap hq) hmX).trans hq
  replace hzh := (ht.block Zh (lt_heap hzh) (by omega)).trans hzh
  replace hzf := (ht.block Zf (lt_heap hzf) (by omega)).trans hzf
  replace hb : Below w.heap.size w W7 := ht.below hb hb.size (fun q hq => by omega)
  clear hq ht hD h7
  obtain ⟨FB, hFB⟩ : ∃ H, H = W7.heap.size := ⟨_, rfl⟩
  go_upto_region 8 with (refine wpList_store_row rfl 64 _ _ rfl W7.heap.size (frow fc fl fz) rfl rfl _ _ (heap_alloc_new _ _) (by kernel_rfl) rfl (frow_one _ _ _) ?_)
  refine wp_world (fun V => Below w.heap.size w V ∧ V.heap[Zh]? = some (.cells (rsA 0 0 (.slice none 0 0)) 47 (0, 0)) ∧ V.heap[Zf]? = some (.cells (frow 0 false 0) 64 (0, 0)) ∧ V.heap[HH]? = some (.cells (rsA op n2 (.slice AD m cD)) 47 (0, 0)) ∧ V.ownsRow (HH + 1) 5 1 (.slice AD m cD) m (ints .u8 ds) ∧ V.heap[FB]? = some (.cells (frow fc fl fz) 64 (0, 0))) ?_ ?_
  · rw [alloc_setRow, hFB]
    have hbb := below_alc W7 (.cells (frow fc fl fz) 64)
    exact ⟨hb.trans (hbb.mono hb.size), heap_below hzh hbb, heap_below hzf hbb, heap_below hq' hbb, own_kept hown (fun k hk => hbb.block k (own_lowlt hown hk).2), heap1_0 W7 _⟩
  have hHl := lt_heap hq'
  have hnF : HH < FB := by omega
  clear hb hzh hzf hq' hown hHl
  rintro V8 ⟨hb, hzh, hzf, hq, hown, hfb⟩
  rw [← hFB]
  clear hFB
  go_wp2_with (refine wpList_load_row rfl 64 _ rfl FB rfl _ _ _ _ hfb Tryd.underlying64 rfl (by kernel_rfl) ?_)
  by_cases hfc : fc = 0
  · refine (bad_no fc fl fz V8 hfc).mono ?_
    rintro e W5 ⟨rfl, hb9⟩
    have HFC := Lib.hid hfc
    clear hfc
    replace hzh := heap_below hzh hb9
    replace hzf := heap_below hzf hb9
    replace hq := heap_below hq hb9
    replace hfb := heap_below hfb hb9
    replace hown := own_kept hown (fun k hk => hb9.block k (own_lowlt hown hk).2)
    replace hb := hb.trans (hb9.mono hb.size)
    clear hb9
    have hfl := lt_heap hfb
    have hql := lt_heap hq
    have hfr : W5.rangeAt FB 0 (frow fc fl fz).toList := range_new hfb
    have hqr : W5.rangeAt HH 0 (rsA op n2 (.slice AD m cD)).toList := range_new hq
    have hqs : (Tryd.prog.info? 47).map (·.size) = some (rsA op n2 (.slice AD m cD)).toList.length := by rw [Array.length_toList]; exact (rs_info _ _ _)
    go_upto_region 10 with (fail)
    refine wp_region_noPanic ?_
    refine wp_region_held_drew (S := fun V => Turn (fun q => q = Zh ∨ q = Zf) W5 V) (by kernel_rfl) (Turn.of_below (Below.drewNr (w := W5) 1)) (fun hHeld => ?_)
    refine held_load 0 47 (Go.Operand.tmp 5) (some 30) (HH) (0) ((rsA op n2 (.slice AD m cD)).toList) _ (by kernel_rfl) (by kernel_rfl) (fun w h => h.range hqr hql (by omega)) Tryd.underlying47 rfl hqs (by kernel_rfl) (by kernel_rfl) (by kernel_rfl) (fun _ _ _ _ _ h => h) hHeld ?_
    refine held_load 1 64 (Go.Operand.tmp 6) (some 31) (FB) (0) ((frow fc fl fz).toList) _ (by kernel_rfl) (by kernel_rfl) (fun w h => h.range hfr hfl (by omega)) Tryd.underlying64 rfl (info_F _ _ _) (by kernel_rfl) (by kernel_rfl) (by kernel_rfl) (fun _ _ _ _ _ h => h) hHeld ?_
    refine held_skip 2 (Go.Op.store 47 (Go.Operand.tmp 2) (Go.Operand.tmp 30)) none (W5.drew.setRow Zh (rsA op n2 (.slice AD m cD))) (by kernel_rfl) (by kernel_rfl) (fun o ho => exec_store (vx := .pointer (some ⟨Zh, 0, none⟩)) (vy := .agg (rsA op n2 (.slice AD m cD))) ho (by kernel_rfl) (store_rowH _ _ _ _ _ _ hzh (rs_info _ _ _) rfl (rs_one _ _ _ _ _))) (row_turn hHeld (.inl rfl) _) ?_
    intro hHeld
    refine held_skip 3 (Go.Op.store 64 (Go.Operand.tmp 3) (Go.Operand.tmp 31)) none ((W5.drew.setRow Zh (rsA op n2 (.slice AD m cD))).setRow Zf (frow fc fl fz)) (by kernel_rfl) (by kernel_rfl) (fun o ho => exec_store (vx := .pointer (some ⟨Zf, 0, none⟩)) (vy := .agg (frow fc fl fz)) ho (by kernel_rfl) (store_rowH _ _ _ _ _ _ ((setRow_other _ Zh Zf _ (by omega)).trans hzf) (by kernel_rfl) rfl (frow_one _ _ _))) (row_turn hHeld (.inr rfl) _) ?_
    intro hHeld
    refine wpAnyH_done (by kernel_rfl) ?_ _
    refine NoPanic.normal ?_
    simp only [put_list, put_none, List.set_cons_zero, List.set_cons_succ]
    have hbF : Below w.heap.size w ((W5.drew.setRow Zh (rsA op n2 (.slice AD m cD))).setRow Zf (frow fc fl fz)) := hHeld.below hb hb.size (fun q hq => by omega)
    have rzf := setRow_heap (W5.drew.setRow Zh (rsA op n2 (.slice AD m cD))) Zf _ (frow fc fl fz) _ _ ((setRow_other _ Zh Zf _ (by omega)).trans hzf)
    have rzh := (setRow_other (W5.drew.setRow Zh (rsA op n2 (.slice AD m cD))) Zf Zh (frow fc fl fz) (by omega)).trans (setRow_heap W5.drew Zh _ (rsA op n2 (.slice AD m cD)) _ _ hzh)
    have hownF := own_kept (w' := (W5.drew.setRow Zh (rsA op n2 (.slice AD m cD))).setRow Zf (frow fc fl fz)) hown (fun k hk => hHeld.block k (own_lowlt hown hk).2 (fun e => by have := own_lowlt hown hk; omega))
    have HF := Lib.hid (And.intro hbF (ownsRow_lower hownF (show w.heap.size ≤ HH + 1 by omega)))
    clear hownF
    clear hbF hHeld hown hfr hfb hq
    go_wp2_with fail
    refine bodyPost_ret (results_two_rowsH rfl _ _ _ _ _ _ _ _ _ _ _ _ rfl rzh rfl rzf Tryd.underlying47 rfl (rs_info _ _ _) Tryd.underlying64 rfl (by kernel_rfl)) rfl ?_
    exact ⟨_, rfl, .inl ⟨HFC.out, _, _, rfl, HF.out.2⟩, HF.out.1⟩
  · refine (bad_yes fc fl fz V8 hfc).mono ?_
    rintro e W5 ⟨rfl, hb9⟩
    have HFC := Lib.hid hfc
    clear hfc
    replace hzh := heap_below hzh hb9
    replace hzf := heap_below hzf hb9
    replace hq := heap_below hq hb9
    replace hfb := heap_below hfb hb9
    replace hown := own_kept hown (fun k hk => hb9.block k (own_lowlt hown hk).2)
    replace hb := hb.trans (hb9.mono hb.size)
    clear hb9
    have hfl := lt_heap hfb
    have hql := lt_heap hq
    have hfr : W5.rangeAt FB 0 (frow fc fl fz).toList := range_new hfb
    go_upto_region 9 with (fail)
    refine wp_region_noPanic ?_
    refine wp_region_held_drew (S := fun V => Turn (fun q => q = Zh ∨ q = Zf) W5 V) (by kernel_rfl) (Turn.of_below (Below.drewNr (w := W5) 1)) (fun hHeld => ?_)
    refine held_build 0 47 #[] (some 28) #[] (.agg (rsA 0 0 (.slice none 0 0))) (by kernel_rfl) (by kernel_rfl) (fun w => by kernel_rfl) (by kernel_rfl) (by kernel_rfl) (by kernel_rfl) (fun _ _ _ _ _ h => h) hHeld ?_
    refine held_load 1 64 (Go.Operand.tmp 6) (some 29) (FB) (0) ((frow fc fl fz).toList) _ (by kernel_rfl) (by kernel_rfl) (fun w h => h.range hfr hfl (by omega)) Tryd.underlying64 rfl (info_F _ _ _) (by kernel_rfl) (by kernel_rfl) (by kernel_rfl) (fun _ _ _ _ _ h => h) hHeld ?_
    refine held_skip 2 (Go.Op.store 47 (Go.Operand.tmp 2) (Go.Operand.tmp 28)) none (W5.drew.setRow Zh (rsA 0 0 (.slice none 0 0))) (by kernel_rfl) (by kernel_rfl) (fun o ho => exec_store (vx := .pointer (some ⟨Zh, 0, none⟩)) (vy := .agg (rsA 0 0 (.slice none 0 0))) ho (by kernel_rfl) (store_rowH _ _ _ _ _ _ hzh (rs_info _ _ _) rfl (rs_one _ _ _ _ _))) (row_turn hHeld (.inl rfl) _) ?_
    intro hHeld
    refine held_skip 3 (Go.Op.store 64 (Go.Operand.tmp 3) (Go.Operand.tmp 29)) none ((W5.drew.setRow Zh (rsA 0 0 (.slice none 0 0))).setRow Zf (frow fc fl fz)) (by kernel_rfl) (by kernel_rfl) (fun o ho => exec_store (vx := .pointer (some ⟨Zf, 0, none⟩)) (vy := .agg (frow fc fl fz)) ho (by kernel_rfl) (store_rowH _ _ _ _ _ _ ((setRow_other _ Zh Zf _ (by omega)).trans hzf) (by kernel_rfl) rfl (frow_one _ _ _))) (row_turn hHeld (.inr rfl) _) ?_
    intro hHeld
    refine wpAnyH_done (by kernel_rfl) ?_ _
    refine NoPanic.normal ?_
    simp only [put_list, put_none, List.set_cons_zero, List.set_cons_succ]
    have hbF : Below w.heap.size w ((W5.drew.setRow Zh (rsA 0 0 (.slice none 0 0))).setRow Zf (frow fc fl fz)) := hHeld.below hb hb.size (fun q hq => by omega)
    have rzf := setRow_heap (W5.drew.setRow Zh (rsA 0 0 (.slice none 0 0))) Zf _ (frow fc fl fz) _ _ ((setRow_other _ Zh Zf _ (by omega)).trans hzf)
    have rzh := (setRow_other (W5.drew.setRow Zh (rsA 0 0 (.slice none 0 0))) Zf Zh (frow fc fl fz) (by omega)).trans (setRow_heap W5.drew Zh _ (rsA 0 0 (.slice none 0 0)) _ _ hzh)
    have HF := Lib.hid hbF
    clear hbF hHeld hown hfr hfb hq
    go_wp2_with fail
    refine bodyPost_ret (results_two_rowsH rfl _ _ _ _ _ _ _ _ _ _ _ _ rfl rzh rfl rzf Tryd.underlying47 rfl (rs_info _ _ _) Tryd.underlying64 rfl (by kernel_rfl)) rfl ?_
    exact ⟨_, rfl, .inr ⟨HFC.out, rfl⟩, HF.out⟩
section
variable {w : World} {X : Nat} {A : Option Addr} {xs : List Int} {p c : Nat} {cc : Int} {pl : Bool} {z : Int}
theorem bad_u32 (hc : cc ≠ 0) (X : Nat) (W : World) (h : DrS W X A xs p c cc pl z) : Calls Tryd.prog 45 #[.pointer (some ⟨X, 0, none⟩)] W fun e w' => e = .returned (.int .u32 0) ∧ DrS w' X A xs p c cc pl z ∧ Turn (· = X) W w' := (du32_bad h hc).mono fun _ _ hh => ⟨hh.1, h.below hh.2, Turn.of_below hh.2⟩
theorem bad_key (hc : cc ≠ 0) (X : Nat) (W : World) (h : DrS W X A xs p c cc pl z) : Calls Tryd.prog 71 #[.pointer (some ⟨X, 0, none⟩)] W fun e w' => e = .returned (.agg (arr8 32 zf)) ∧ DrS w' X A xs p c cc pl z ∧ Turn (· = X) W w' := by
  rw [← fR_zf]
  exact dkey_bad h hc
theorem nil_list {W : World} {Q : World → Prop} {f : FuncId} {args : Array Value} (h : Calls Tryd.prog f args W fun e w' => e = .returned (.slice none 0 0) ∧ Q w') : Calls Tryd.prog f args W fun e w' => (∃ AD cD, e = .returned (.slice AD 0 cD) ∧ w'.ownsRow W.heap.size 5 1 (.slice AD 0 cD) 0 (ints .u8 [])) ∧ Q w' :=
  h.mono fun _ _ hh => ⟨⟨none, 0, hh.1, World.ownsRow_nil _ _ _ _⟩, hh.2⟩
theorem bad_list (hc : cc ≠ 0) (X : Nat) (W : World) (h : DrS W X A xs p c cc pl z) : Calls Tryd.prog 46 #[.pointer (some ⟨X, 0, none⟩), .int .i64 200] W fun e w' => (∃ AD cD, e = .returned (.slice AD 0 cD) ∧ w'.ownsRow W.heap.size 5 1 (.slice AD 0 cD) 0 (ints .u8 [])) ∧ DrS w' X A xs p c cc pl z ∧ Turn (· = X) W w' := nil_list (dlist_bad h hc 200)
end
theorem drq_any (A : Option Addr) (xs : List Int) (ca : Nat) (w : World) (hA : SlRead w A (ints .u8 xs)) (hca : xs.length ≤ ca) (hx : Byts xs) (hl : xs.length ≤ 1000) :
    Calls Tryd.prog 48 #[.slice A xs.length ca] w fun e w' => ∃ r, e = .returned (.tuple #[.agg r, .agg (fltR (reqO xs))]) ∧ RqP xs w.heap.size r w' ∧ Below w.heap.size w w' := by
  by_cases q1 : xs.length < 1
  · have hU := fun X W (h : DrS W X A xs 0 ca 0 false 0) => du8_no h (by omega) (by omega)
    have H := drq_bad A xs ca w hA hca 0 0 0 zf 0 [] 0 0 0 0 0 0 103 103 103 103 103 103 true true true true true true ((0 : Nat) : Int) ((0 : Nat) : Int) ((0 : Nat) : Int) ((0 : Nat) : Int) ((0 : Nat) : Int) ((0 : Nat) : Int) 103 true ((0 : Nat) : Int) hU (.inl (by decide)) (fun X W h => (fail_no h (by decide) 105 0).mono fun _ _ hh => ⟨hh.1, h.below hh.2, Turn.of_below hh.2⟩) (fun X W h => bad_key (by decide) X W h) (fun X W h => bad_u32 (by decide) X W h) (fun X W h => bad_u32 (by decide) X W h) (fun X W h => bad_list (by decide) X W h) (fun X W h => over_bad h (by decide))
    have hO : reqO xs = some (2, 0) := by unfold reqO; rw [if_pos q1]
    refine H.mono ?_
    rintro e w' ⟨r, rfl, hr, hb⟩
    refine ⟨r, by rw [hO]; rfl, .inr ⟨by rw [hO]; exact (fun h => nomatch h), ?_⟩, hb⟩
    rcases hr with ⟨h0, _⟩ | ⟨_, h⟩
    · exact absurd h0 (by decide)
    · exact h
  have hU := fun X W (h : DrS W X A xs 0 ca 0 false 0) => du8_ok h hx (by omega) (by omega)
  by_cases q2 : byteI xs 0 < 1 ∨ 6 < byteI xs 0
  · have H := drq_bad A xs ca w hA hca (byteI xs 0) 0 0 zf 0 [] 1 1 1 1 1 1 0 105 105 105 105 105 false true true true true true 0 0 0 0 0 0 105 true 0 hU q2 (fun X W h => fail_ok h 105 0 (by decide)) (fun X W h => bad_key (by decide) X W h) (fun X W h => bad_u32 (by decide) X W h) (fun X W h => bad_u32 (by decide) X W h) (fun X W h => bad_list (by decide) X W h) (fun X W h => over_bad h (by decide))
    have hO : reqO xs = some (4, 0) := by unfold reqO; rw [if_neg q1, if_pos q2]
    refine H.mono ?_
    rintro e w' ⟨r, rfl, hr, hb⟩
    refine ⟨r, by rw [hO]; rfl, .inr ⟨by rw [hO]; exact (fun h => nomatch h), ?_⟩, hb⟩
    rcases hr with ⟨h0, _⟩ | ⟨_, h⟩
    · exact absurd h0 (by decide)
    · exact h
  by_cases q3 : xs.length < 33
  · have H := drq_of A xs ca w hA hca (byteI xs 0) 0 0 zf 0 [] 1 1 1 1 1 0 103 103 103 103 false true true true true 0 ((1 : Nat) : Int) ((1 : Nat) : Int) ((1 : Nat) : Int) ((1 : Nat) : Int) 103 true ((1 : Nat) : Int) hU q2 (fun X W h => by rw [← fR_zf]; exact dkey_no h (by omega) (by omega)) (fun X W h => bad_u32 (by decide) X W h) (fun X W h => bad_u32 (by decide) X W h) (fun X W h => bad_list (by decide) X W h) (fun X W h => over_bad h (by decide))
    have hO : reqO xs = some (2, 1) := by unfold reqO; rw [if_neg q1, if_neg q2, if_pos q3]
    refine H.mono ?_
    rintro e w' ⟨r, rfl, hr, hb⟩
    refine ⟨r, by rw [hO]; rfl, .inr ⟨by rw [hO]; exact (fun h => nomatch h), ?_⟩, hb⟩
    rcases hr with ⟨h0, _⟩ | ⟨_, h⟩
    · exact absurd h0 (by decide)
    · exact h
  by_cases q4 : xs.length < 37
  · have H := drq_of A xs ca w hA hca (byteI xs 0) 0 0 (bF xs 1) 0 [] 1 33 33 33 33 0 0 103 103 103 false false true true true 0 0 ((33 : Nat) : Int) ((33 : Nat) : Int) ((33 : Nat) : Int) 103 true ((33 : Nat) : Int) hU q2 (fun X W h => by rw [← fR_bF xs 1 hx (by omega)]; exact dkey_ok h (by omega) (by omega)) (fun X W h => du32_no h (by omega) (by omega)) (fun X W h => bad_u32 (by decide) X W h) (fun X W h => bad_list (by decide) X W h) (fun X W h => over_bad h (by decide))
    have hO : reqO xs = some (2, 33) := by unfold reqO; rw [if_neg q1, if_neg q2, if_neg q3, if_pos q4]
    refine H.mono ?_
    rintro e w' ⟨r, rfl, hr, hb⟩
    refine ⟨r, by rw [hO]; rfl, .inr ⟨by rw [hO]; exact (fun h => nomatch h), ?_⟩, hb⟩
    rcases hr with ⟨h0, _⟩ | ⟨_, h⟩
    · exact absurd h0 (by decide)
    · exact h
  by_cases q5 : xs.length < 41
  · have H := drq_of A xs ca w hA hca (byteI xs 0) (wordI xs 33) 0 (bF xs 1) 0 [] 1 33 37 37 37 0 0 0 103 103 false false false true true 0 0 0 ((37 : Nat) : Int) ((37 : Nat) : Int) 103 true ((37 : Nat) : Int) hU q2 (fun X W h => by rw [← fR_bF xs 1 hx (by omega)]; exact dkey_ok h (by omega) (by omega)) (fun X W h => du32_ok h hx (by omega) (by omega)) (fun X W h => du32_no h (by omega) (by omega)) (fun X W h => bad_list (by decide) X W h) (fun X W h => over_bad h (by decide))
    have hO : reqO xs = some (2, 37) := by unfold reqO; rw [if_neg q1, if_neg q2, if_neg q3, if_neg q4, if_pos q5]
    refine H.mono ?_
    rintro e w' ⟨r, rfl, hr, hb⟩
    refine ⟨r, by rw [hO]; rfl, .inr ⟨by rw [hO]; exact (fun h => nomatch h), ?_⟩, hb⟩
    rcases hr with ⟨h0, _⟩ | ⟨_, h⟩
    · exact absurd h0 (by decide)
    · exact h
  by_cases q6 : xs.length < 41 + 4
  · have H := drq_of A xs ca w hA hca (byteI xs 0) (wordI xs 33) (wordI xs 37) (bF xs 1) 0 [] 1 33 37 41 41 0 0 0 0 103 false false false false true 0 0 0 0 ((41 : Nat) : Int) 103 true ((41 : Nat) : Int) hU q2 (fun X W h => by rw [← fR_bF xs 1 hx (by omega)]; exact dkey_ok h (by omega) (by omega)) (fun X W h => du32_ok h hx (by omega) (by omega)) (fun X W h => du32_ok h hx (by omega) (by omega)) (fun X W h => nil_list (dlist_no4 h (by omega) 200 (by omega))) (fun X W h => over_bad h (by decide))
    have hO : reqO xs = some (2, ((41 : Nat) : Int)) := by unfold reqO lstO; rw [if_neg q1, if_neg q2, if_neg q3, if_neg q4, if_neg q5, if_pos q6]
    refine H.mono ?_
    rintro e w' ⟨r, rfl, hr, hb⟩
    refine ⟨r, by rw [hO]; rfl, .inr ⟨by rw [hO]; exact (fun h => nomatch h), ?_⟩, hb⟩
    rcases hr with ⟨h0, _⟩ | ⟨_, h⟩
    · exact absurd h0 (by decide)
    · exact h
  by_cases q7 : 200 < wordI xs 41
  · have H := drq_of A xs ca w hA hca (byteI xs 0) (wordI xs 33) (wordI xs 37) (bF xs 1) 0 [] 1 33 37 41 (41 + 4) 0 0 0 0 102 false false false false true 0 0 0 0 ((41 : Nat) : Int) 102 true ((41 : Nat) : Int) hU q2 (fun X W h => by rw [← fR_bF xs 1 hx (by omega)]; exact dkey_ok h (by omega) (by omega)) (fun X W h => du32_ok h hx (by omega) (by omega)) (fun X W h => du32_ok h hx (by omega) (by omega)) (fun X W h => nil_list (dlist_big h hx (by omega) 200 (by omega) (by omega))) (fun X W h => over_bad h (by decide))
    have hO : reqO xs = some (1, ((41 : Nat) : Int)) := by unfold reqO lstO; rw [if_neg q1, if_neg q2, if_neg q3, if_neg q4, if_neg q5, if_neg q6, if_pos q7]
    refine H.mono ?_
    rintro e w' ⟨r, rfl, hr, hb⟩
    refine ⟨r, by rw [hO]; rfl, .inr ⟨by rw [hO]; exact (fun h => nomatch h), ?_⟩, hb⟩
    rcases hr with ⟨h0, _⟩ | ⟨_, h⟩
    · exact absurd h0 (by decide)
    · exact h
  by_cases q8 : (xs.length : Int) - (41 : Nat) - 4 < wordI xs 41
  · have H := drq_of A xs ca w hA hca (byteI xs 0) (wordI xs 33) (wordI xs 37) (bF xs 1) 0 [] 1 33 37 41 (41 + 4) 0 0 0 0 103 false false false false true 0 0 0 0 ((41 : Nat) : Int) 103 true ((41 : Nat) : Int) hU q2 (fun X W h => by rw [← fR_bF xs 1 hx (by omega)]; exact dkey_ok h (by omega) (by omega)) (fun X W h => du32_ok h hx (by omega) (by omega)) (fun X W h => du32_ok h hx (by omega) (by omega)) (fun X W h => nil_list (dlist_long h hx (by omega) 200 (by omega) ⟨by omega, q8⟩)) (fun X W h => over_bad h (by decide))
    have hO : reqO xs = some (2, ((41 : Nat) : Int)) := by unfold reqO lstO; rw [if_neg q1, if_neg q2, if_neg q3, if_neg q4, if_neg q5, if_neg q6, if_neg q7, if_pos q8]
    refine H.mono ?_
    rintro e w' ⟨r, rfl, hr, hb⟩
    refine ⟨r, by rw [hO]; rfl, .inr ⟨by rw [hO]; exact (fun h => nomatch h), ?_⟩, hb⟩
    rcases hr with ⟨h0, _⟩ | ⟨_, h⟩
    · exact absurd h0 (by decide)
    · exact h
  obtain ⟨m, hm⟩ : ∃ m : Nat, wordI xs 41 = m := ⟨(wordI xs 41).toNat, by have := hx.word 41; omega⟩
  have hLs := fun X W (h : DrS W X A xs 41 ca 0 false 0) => (dlist_ok h hx (by omega) m (by omega) 200 hm (by omega)).mono fun e w' (hh : ∃ v, e = .returned v ∧ _ ∧ DrS w' X A xs (41 + 4 + m) ca 0 false 0 ∧ _) => show (∃ AD cD, e = .returned (.slice AD m cD) ∧ w'.ownsRow W.heap.size 5 1 (.slice AD m cD) m (ints .u8 ((xs.drop (41 + 4)).take m))) ∧ DrS w' X A xs (41 + 4 + m) ca 0 false 0 ∧ Turn (· = X) W w' from by
    obtain ⟨v, h1, hown, h2, h3⟩ := hh
    obtain ⟨AD, cD, rfl, _⟩ := ownsRow_form hown
    exact ⟨⟨AD, cD, h1, hown⟩, h2, h3⟩
  by_cases q9 : 41 + 4 + m < xs.length
  · have H := drq_of A xs ca w hA hca (byteI xs 0) (wordI xs 33) (wordI xs 37) (bF xs 1) m ((xs.drop (41 + 4)).take m) 1 33 37 41 (41 + 4 + m) 0 0 0 0 0 false false false false false 0 0 0 0 0 104 true ((41 + 4 + m : Nat) : Int) hU q2 (fun X W h => by rw [← fR_bF xs 1 hx (by omega)]; exact dkey_ok h (by omega) (by omega)) (fun X W h => du32_ok h hx (by omega) (by omega)) (fun X W h => du32_ok h hx (by omega) (by omega)) hLs (fun X W h => over_trail h q9)
    have hO : reqO xs = some (3, ((41 + 4 + m : Nat) : Int)) := by unfold reqO lstO; rw [if_neg q1, if_neg q2, if_neg q3, if_neg q4, if_neg q5, if_neg q6, if_neg q7, if_neg q8, if_pos (by omega)]; exact congrArg (fun z => some (3, z)) (by omega)
    refine H.mono ?_
    rintro e w' ⟨r, rfl, hr, hb⟩
    refine ⟨r, by rw [hO]; rfl, .inr ⟨by rw [hO]; exact (fun h => nomatch h), ?_⟩, hb⟩
    rcases hr with ⟨h0, _⟩ | ⟨_, h⟩
    · exact absurd h0 (by decide)
    · exact h
  · have H := drq_of A xs ca w hA hca (byteI xs 0) (wordI xs 33) (wordI xs 37) (bF xs 1) m ((xs.drop (41 + 4)).take m) 1 33 37 41 (41 + 4 + m) 0 0 0 0 0 false false false false false 0 0 0 0 0 0 false 0 hU q2 (fun X W h => by rw [← fR_bF xs 1 hx (by omega)]; exact dkey_ok h (by omega) (by omega)) (fun X W h => du32_ok h hx (by omega) (by omega)) (fun X W h => du32_ok h hx (by omega) (by omega)) hLs (fun X W h => over_end h (by omega))
    have hO : reqO xs = none := by unfold reqO lstO; rw [if_neg q1, if_neg q2, if_neg q3, if_neg q4, if_neg q5, if_neg q6, if_neg q7, if_neg q8, if_neg (by omega)]
    refine H.mono ?_
    rintro e w' ⟨r, rfl, hr, hb⟩
    refine ⟨r, by rw [hO]; rfl, .inl ⟨hO, ?_⟩, hb⟩
    rcases hr with ⟨_, AD, cD, h, hown⟩ | ⟨h, _⟩
    · have h6 : (xs.drop (41 + 4)).take m = xs.drop 45 := List.take_of_length_le (by simp; omega)
      rw [h6] at hown
      rw [show xs.length - 45 = m by omega]
      exact ⟨_, h, hown⟩
    · exact absurd rfl h
theorem drs_any (A : Option Addr) (xs : List Int) (ca : Nat) (w : World) (hA : SlRead w A (ints .u8 xs)) (hca : xs.length ≤ ca) (hx : Byts xs) (hl : xs.length ≤ 1000) :
    Calls Tryd.prog 25 #[.slice A xs.length ca] w fun e w' => ∃ r, e = .returned (.tuple #[.agg r, .agg (fltR (rspO xs))]) ∧ RsP xs w.heap.size r w' ∧ Below w.heap.size w w' := by
  by_cases q1 : xs.length < 1
  · have hU := fun X W (h : DrS W X A xs 0 ca 0 false 0) => du8_no h (by omega) (by omega)
    have H := drs_of A xs ca w hA hca 0 0 0 [] 0 0 0 103 103 103 true true true ((0 : Nat) : Int) ((0 : Nat) : Int) ((0 : Nat) : Int) 103 true ((0 : Nat) : Int) hU (by decide) (fun X W h => bad_u32 (by decide) X W h) (fun X W h => bad_list (by decide) X W h) (fun X W h => over_bad h (by decide))
    have hO : rspO xs = some (2, 0) := by unfold rspO; rw [if_pos q1]
    refine H.mono ?_
    rintro e w' ⟨r, rfl, hr, hb⟩
    refine ⟨r, by rw [hO]; rfl, .inr ⟨by rw [hO]; exact (fun h => nomatch h), ?_⟩, hb⟩
    rcases hr with ⟨h0, _⟩ | ⟨_, h⟩
    · exact absurd h0 (by decide)
    · exact h
  have hU := fun X W (h : DrS W X A xs 0 ca 0 false 0) => du8_ok h hx (by omega) (by omega)
  by_cases q2 : byteI xs 0 < 0 ∨ 19 < byteI xs 0
  · have H := drs_bad A xs ca w hA hca (byteI xs 0) 0 0 [] 1 1 1 1 0 105 105 105 false true true true 0 0 0 0 105 true 0 hU (by have := (hx.at_ 0).1; omega) (fun X W h => fail_ok h 105 0 (by decide)) (fun X W h => bad_u32 (by decide) X W h) (fun X W h => bad_list (by decide) X W h) (fun X W h => over_bad h (by decide))
    have hO : rspO xs = some (4, 0) := by unfold rspO; rw [if_neg q1, if_pos q2]
    refine H.mono ?_
    rintro e w' ⟨r, rfl, hr, hb⟩
    refine ⟨r, by rw [hO]; rfl, .inr ⟨by rw [hO]; exact (fun h => nomatch h), ?_⟩, hb⟩
    rcases hr with ⟨h0, _⟩ | ⟨_, h⟩
    · exact absurd h0 (by decide)
    · exact h
  by_cases q5 : xs.length < 5
  · have H := drs_of A xs ca w hA hca (byteI xs 0) 0 0 [] 1 1 1 0 103 103 false true true 0 ((1 : Nat) : Int) ((1 : Nat) : Int) 103 true ((1 : Nat) : Int) hU (fun h => q2 (.inr h)) (fun X W h => du32_no h (by omega) (by omega)) (fun X W h => bad_list (by decide) X W h) (fun X W h => over_bad h (by decide))
    have hO : rspO xs = some (2, 1) := by unfold rspO; rw [if_neg q1, if_neg q2, if_pos q5]
    refine H.mono ?_
    rintro e w' ⟨r, rfl, hr, hb⟩
    refine ⟨r, by rw [hO]; rfl, .inr ⟨by rw [hO]; exact (fun h => nomatch h), ?_⟩, hb⟩
    rcases hr with ⟨h0, _⟩ | ⟨_, h⟩
    · exact absurd h0 (by decide)
    · exact h
  by_cases q6 : xs.length < 5 + 4
  · have H := drs_of A xs ca w hA hca (byteI xs 0) (wordI xs 1) 0 [] 1 5 5 0 0 103 false false true 0 0 ((5 : Nat) : Int) 103 true ((5 : Nat) : Int) hU (fun h => q2 (.inr h)) (fun X W h => du32_ok h hx (by omega) (by omega)) (fun X W h => nil_list (dlist_no4 h (by omega) 200 (by omega))) (fun X W h => over_bad h (by decide))
    have hO : rspO xs = some (2, ((5 : Nat) : Int)) := by unfold rspO lstO; rw [if_neg q1, if_neg q2, if_neg q5, if_pos q6]
    refine H.mono ?_
    rintro e w' ⟨r, rfl, hr, hb⟩
    refine ⟨r, by rw [hO]; rfl, .inr ⟨by rw [hO]; exact (fun h => nomatch h), ?_⟩, hb⟩
    rcases hr with ⟨h0, _⟩ | ⟨_, h⟩
    · exact absurd h0 (by decide)
    · exact h
  by_cases q7 : 200 < wordI xs 5
  · have H := drs_of A xs ca w hA hca (byteI xs 0) (wordI xs 1) 0 [] 1 5 (5 + 4) 0 0 102 false false true 0 0 ((5 : Nat) : Int) 102 true ((5 : Nat) : Int) hU (fun h => q2 (.inr h)) (fun X W h => du32_ok h hx (by omega) (by omega)) (fun X W h => nil_list (dlist_big h hx (by omega) 200 (by omega) (by omega))) (fun X W h => over_bad h (by decide))
    have hO : rspO xs = some (1, ((5 : Nat) : Int)) := by unfold rspO lstO; rw [if_neg q1, if_neg q2, if_neg q5, if_neg q6, if_pos q7]
    refine H.mono ?_
    rintro e w' ⟨r, rfl, hr, hb⟩
    refine ⟨r, by rw [hO]; rfl, .inr ⟨by rw [hO]; exact (fun h => nomatch h), ?_⟩, hb⟩
    rcases hr with ⟨h0, _⟩ | ⟨_, h⟩
    · exact absurd h0 (by decide)
    · exact h
  by_cases q8 : (xs.length : Int) - (5 : Nat) - 4 < wordI xs 5
  · have H := drs_of A xs ca w hA hca (byteI xs 0) (wordI xs 1) 0 [] 1 5 (5 + 4) 0 0 103 false false true 0 0 ((5 : Nat) : Int) 103 true ((5 : Nat) : Int) hU (fun h => q2 (.inr h)) (fun X W h => du32_ok h hx (by omega) (by omega)) (fun X W h => nil_list (dlist_long h hx (by omega) 200 (by omega) ⟨by omega, q8⟩)) (fun X W h => over_bad h (by decide))
    have hO : rspO xs = some (2, ((5 : Nat) : Int)) := by unfold rspO lstO; rw [if_neg q1, if_neg q2, if_neg q5, if_neg q6, if_neg q7, if_pos q8]
    refine H.mono ?_
    rintro e w' ⟨r, rfl, hr, hb⟩
    refine ⟨r, by rw [hO]; rfl, .inr ⟨by rw [hO]; exact (fun h => nomatch h), ?_⟩, hb⟩
    rcases hr with ⟨h0, _⟩ | ⟨_, h⟩
    · exact absurd h0 (by decide)
    · exact h
  obtain ⟨m, hm⟩ : ∃ m : Nat, wordI xs 5 = m := ⟨(wordI xs 5).toNat, by have := hx.word 5; omega⟩
  have hLs := fun X W (h : DrS W X A xs 5 ca 0 false 0) => (dlist_ok h hx (by omega) m (by omega) 200 hm (by omega)).mono fun e w' (hh : ∃ v, e = .returned v ∧ _ ∧ DrS w' X A xs (5 + 4 + m) ca 0 false 0 ∧ _) => show (∃ AD cD, e = .returned (.slice AD m cD) ∧ w'.ownsRow W.heap.size 5 1 (.slice AD m cD) m (ints .u8 ((xs.drop (5 + 4)).take m))) ∧ DrS w' X A xs (5 + 4 + m) ca 0 false 0 ∧ Turn (· = X) W w' from by
    obtain ⟨v, h1, hown, h2, h3⟩ := hh
    obtain ⟨AD, cD, rfl, _⟩ := ownsRow_form hown
    exact ⟨⟨AD, cD, h1, hown⟩, h2, h3⟩
  by_cases q9 : 5 + 4 + m < xs.length
  · have H := drs_of A xs ca w hA hca (byteI xs 0) (wordI xs 1) m ((xs.drop (5 + 4)).take m) 1 5 (5 + 4 + m) 0 0 0 false false false 0 0 0 104 true ((5 + 4 + m : Nat) : Int) hU (fun h => q2 (.inr h)) (fun X W h => du32_ok h hx (by omega) (by omega)) hLs (fun X W h => over_trail h q9)
    have hO : rspO xs = some (3, ((5 + 4 + m : Nat) : Int)) := by unfold rspO lstO; rw [if_neg q1, if_neg q2, if_neg q5, if_neg q6, if_neg q7, if_neg q8, if_pos (by omega)]; exact congrArg (fun z => some (3, z)) (by omega)
    refine H.mono ?_
    rintro e w' ⟨r, rfl, hr, hb⟩
    refine ⟨r, by rw [hO]; rfl, .inr ⟨by rw [hO]; exact (fun h => nomatch h), ?_⟩, hb⟩
    rcases hr with ⟨h0, _⟩ | ⟨_, h⟩
    · exact absurd h0 (by decide)
    · exact h
  · have H := drs_of A xs ca w hA hca (byteI xs 0) (wordI xs 1) m ((xs.drop (5 + 4)).take m) 1 5 (5 + 4 + m) 0 0 0 false false false 0 0 0 0 false 0 hU (fun h => q2 (.inr h)) (fun X W h => du32_ok h hx (by omega) (by omega)) hLs (fun X W h => over_end h (by omega))
    have hO : rspO xs = none := by unfold rspO lstO; rw [if_neg q1, if_neg q2, if_neg q5, if_neg q6, if_neg q7, if_neg q8, if_neg (by omega)]
    refine H.mono ?_
    rintro e w' ⟨r, rfl, hr, hb⟩
    refine ⟨r, by rw [hO]; rfl, .inl ⟨hO, ?_⟩, hb⟩
    rcases hr with ⟨_, AD, cD, h, hown⟩ | ⟨h, _⟩
    · have h6 : (xs.drop (5 + 4)).take m = xs.drop 9 := List.take_of_length_le (by simp; omega)
      rw [h6] at hown
      rw [show xs.length - 9 = m by omega]
      exact ⟨_, h, hown⟩
    · exact absurd rfl h
end Go.Proofs.YtffkjbbhbpaacaaDoor
