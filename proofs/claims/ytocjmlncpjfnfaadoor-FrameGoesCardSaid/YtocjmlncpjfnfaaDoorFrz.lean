import Derived.Test.YtocjmlncpjfnfaaDoorFri
import Derived.Test.YtocjmlncpjfnfaaDoorBlu
import Derived.Test.YtocjmlncpjfnfaaDoorRsm
/-
  frame: execute, over what the store's methods do.
  frame: stat; Serve, over what execute does.
  FrameGoes: ask.
  FrameGoes: what is asked, answered, over the store.
  FrameGoes: what stays while it asks.
  FrameGoes: the walk.
-/
namespace Go.Proofs.YtocjmlncpjfnfaaDoor
open Go.RowKit

section
variable {W : World} {PM : World → Prop} {F : Nat → Prop}
theorem row_one (V : World) (g : Nat) (cs : Array Value) : Turn (· = g) V (V.setRow g cs) := row_turn (F := (· = g)) (Turn.of_below (Below.refl _ _)) rfl cs
theorem heap1_1 (w : World) (a b : Obj) : ((w.alloc a).alloc b).heap[w.heap.size + 1]? = some b := heap2_1 w a b
theorem heap1_2 (w : World) (a b c : Obj) : (((w.alloc a).alloc b).alloc c).heap[w.heap.size + 1 + 1]? = some c := by
  have := heap1_0 ((w.alloc a).alloc b) c
  simpa using this
theorem size_alloc2 (w : World) (a b : Obj) : ((w.alloc a).alloc b).heap.size = w.heap.size + 1 + 1 := by simp
theorem turn_new {w V V' : World} {F : Nat → Prop} {g : Nat} (h : Turn F w V) (k : Turn (· = g) V V') (hg : w.heap.size ≤ g) : Turn F w V' :=
  h.trans k (fun q hq => .inr (by have e : q = g := hq; omega))
theorem cvt_i64u (z : Int) (w : World) : (convert 3 24 (.int .i64 z)).run Tryd.prog w = .ok (.int .u32 (IntKind.u32.wrap z)) w := by
  have h1 := Tryd.underlying3
  have h2 := Tryd.underlying24
  simp [convert, run_underlying h1, run_underlying h2, Conv.intToInt]
set_option maxRecDepth 100000 in
set_option maxHeartbeats 3200000 in
theorem exec_open (S : Value) (f : Nat → BitVec 8) (off n : Int) (hoff : 0 ≤ off ∧ off < 4294967296) (hn : 0 ≤ n ∧ n < 4294967296) (B : Option Addr) (lB cB : Nat) (u : Value) (hst : ∀ V V' g cs, PM V → V.heap[g]? = some (.cells cs 29 (0, 0)) → W.heap.size ≤ g → Turn (· = g) V V' → PM V') (hF : ∀ q, F q → q < W.heap.size)
    (HM : ∀ V, Below W.heap.size W V → Calls Tryd.prog 79 #[S, .agg (arr8 32 f), .int .i64 n] V fun r V' => r = .returned (u) ∧ PM V' ∧ Turn F V V') :
    Calls Tryd.prog 62 #[S, .agg (rqA 1 f off n (.slice B lB cB))] W fun e w' => e = .returned (.tuple #[.agg (rsA 0 0 (.slice none 0 0)), u]) ∧ PM w' ∧ Turn F W w' := by
  have hcv1 := fun w => cvt_u32k off hoff w
  have hcv2 := fun w => cvt_u32k n hn w
  go_enter Tryd.func62, Tryd.ntmps62
  go_upto_region 3 with (fail)
  obtain ⟨Q, hQ⟩ : ∃ H, H = W.heap.size := ⟨_, rfl⟩
  obtain ⟨Z, hZ⟩ : ∃ H, H = W.heap.size + 1 := ⟨_, rfl⟩
  obtain ⟨P, hP⟩ : ∃ H, H = W.heap.size + 1 + 1 := ⟨_, rfl⟩
  refine wp_world (fun V => Below W.heap.size W V ∧ V.heap[Q]? = some (.cells (rqA 1 f off n (.slice B lB cB)) 27 (0, 0)) ∧ V.heap[Z]? = some (.cells (rsA 0 0 (.slice none 0 0)) 29 (0, 0)) ∧ V.heap[P]? = some (.cells (rsA 0 0 (.slice none 0 0)) 29 (0, 0))) ?_ ?_
  · refine ⟨((below_alc W _).alloc (by simp) _).alloc (by simp; omega) _, ?_, ?_, ?_⟩
    · rw [hQ]; exact (heap_alloc_old _ _ (by simp; omega)).trans ((heap_alloc_old _ _ (by simp)).trans (heap_alloc_new _ _))
    · rw [hZ]; exact (heap_alloc_old _ _ (by simp)).trans (heap1_1 _ _ _)
    · rw [hP]; exact heap1_2 _ _ _ _
  rintro V ⟨hb, h_Q, h_Z, h_P⟩
  rw [← hP, ← hZ, ← hQ]
  have hnum : W.heap.size ≤ Q ∧ Q < Z ∧ Z < P := by omega
  clear hQ hZ hP
  have c0 := cell_heap h_Q (rq_c0 _ _ _ _ _)
  have c33 := cell_heap h_Q (rq_c33 _ _ _ _ _)
  have c34 := cell_heap h_Q (rq_c34 _ _ _ _ _)
  have c35 := cell_heap h_Q (rq_c35 _ _ _ _ _)
  go_quiet (fail)
  go_upto_region 6 with (fail)
  refine wp_world (fun U => Below W.heap.size W U ∧ U.heap[Q]? = some (.cells (rqA 1 f off n (.slice B lB cB)) 27 (0, 0)) ∧ U.heap[Z]? = some (.cells (rsA 0 0 (.slice none 0 0)) 29 (0, 0)) ∧ U.heap[P]? = some (.cells (rsA 0 0 (.slice none 0 0)) 29 (0, 0))) (by first | exact ⟨hb, h_Q, h_Z, h_P⟩ | exact ⟨hb.trans ((Below.drewNr _).mono hb.size), h_Q, h_Z, h_P⟩) ?_
  clear hb h_Q h_Z h_P c0 c33 c34 c35 hcv1 hcv2 V
  rintro V ⟨hb, h_Q, h_Z, h_P⟩
  have c35 := cell_heap h_Q (rq_c35 _ _ _ _ _)
  have hrg := rq_blob h_Q
  have hinf : (Tryd.prog.info? 23).map (·.size) = some (arr8 32 f).toList.length := by simp only [Array.length_toList, arr8_size]; kernel_rfl
  have HC := HM V hb
  have HFF := Lib.hid hF
  have HST := Lib.hid hst
  clear hF hst HM
  go_wp2_with (refine wpList_load_mid rfl 23 _ rfl Q 1 rfl _ _ hrg Tryd.underlying23 rfl hinf ?_)
  refine HC.mono ?_
  rintro e V1 ⟨rfl, hpm, ht⟩
  have g_Z := (ht.block Z (lt_heap h_Z) (fun h => by have := HFF.out _ h; omega)).trans h_Z
  have g_P := (ht.block P (lt_heap h_P) (fun h => by have := HFF.out _ h; omega)).trans h_P
  have htW : Turn F W V1 := (Turn.of_below hb).trans ht (fun q hq => .inl hq)
  clear HC ht hb h_Q h_Z h_P c35 hrg hinf
  have hTz : Turn (· = Z) V1 (V1.setRow Z (rsA 0 0 (.slice none 0 0))) := row_one _ _ _
  have HF := Lib.hid (And.intro (HST.out _ _ Z _ hpm g_Z (by omega) hTz) (turn_new htW hTz (by omega)))
  clear hpm htW hTz
  go_wp2_with (first | (refine wpList_load_row rfl 29 _ rfl P rfl _ _ _ _ g_P Tryd.underlying29 rfl (rs_info _ _ _) ?_) | (refine wpList_store_row rfl 29 _ _ rfl Z (rsA 0 0 (.slice none 0 0)) rfl rfl _ _ g_Z (rs_info _ _ _) rfl (rs_one _ _ _ _ _) ?_))
  refine bodyPost_ret (results_row_tmp rfl _ _ Z _ _ _ _ rfl (setRow_heap _ _ _ _ _ _ g_Z) _ rfl Tryd.underlying29 rfl (rs_info _ _ _)) rfl ?_
  exact ⟨rfl, HF.out⟩
set_option maxRecDepth 100000 in
set_option maxHeartbeats 3200000 in
theorem exec_put (S : Value) (f : Nat → BitVec 8) (off n : Int) (hoff : 0 ≤ off ∧ off < 4294967296) (hn : 0 ≤ n ∧ n < 4294967296) (B : Option Addr) (lB cB : Nat) (m : Int) (u : Value) (yb : List Int) (hB : SlRead W B (ints .u8 yb)) (hst : ∀ V V' g cs, PM V → V.heap[g]? = some (.cells cs 29 (0, 0)) → W.heap.size ≤ g → Turn (· = g) V V' → PM V') (hF : ∀ q, F q → q < W.heap.size)
    (HM : ∀ V, Below W.heap.size W V → SlRead V B (ints .u8 yb) → Calls Tryd.prog 80 #[S, .agg (arr8 32 f), .int .i64 off, .slice B lB cB] V fun r V' => r = .returned (.tuple #[.int .i64 m, u]) ∧ PM V' ∧ Turn F V V') :
    Calls Tryd.prog 62 #[S, .agg (rqA 2 f off n (.slice B lB cB))] W fun e w' => e = .returned (.tuple #[.agg (rsA 0 (IntKind.u32.wrap m) (.slice none 0 0)), u]) ∧ PM w' ∧ Turn F W w' := by
  have hcv1 := fun w => cvt_u32k off hoff w
  have hcv2 := fun w => cvt_u32k n hn w
  go_enter Tryd.func62, Tryd.ntmps62
  go_upto_region 3 with (fail)
  obtain ⟨Q, hQ⟩ : ∃ H, H = W.heap.size := ⟨_, rfl⟩
  obtain ⟨Z, hZ⟩ : ∃ H, H = W.heap.size + 1 := ⟨_, rfl⟩
  obtain ⟨P, hP⟩ : ∃ H, H = W.heap.size + 1 + 1 := ⟨_, rfl⟩
  refine wp_world (fun V => Below W.heap.size W V ∧ V.heap[Q]? = some (.cells (rqA 2 f off n (.slice B lB cB)) 27 (0, 0)) ∧ V.heap[Z]? = some (.cells (rsA 0 0 (.slice none 0 0)) 29 (0, 0)) ∧ V.heap[P]? = some (.cells (rsA 0 0 (.slice none 0 0)) 29 (0, 0))) ?_ ?_
  · refine ⟨((below_alc W _).alloc (by simp) _).alloc (by simp; omega) _, ?_, ?_, ?_⟩
    · rw [hQ]; exact (heap_alloc_old _ _ (by simp; omega)).trans ((heap_alloc_old _ _ (by simp)).trans (heap_alloc_new _ _))
    · rw [hZ]; exact (heap_alloc_old _ _ (by simp)).trans (heap1_1 _ _ _)
    · rw [hP]; exact heap1_2 _ _ _ _
  rintro V ⟨hb, h_Q, h_Z, h_P⟩
  rw [← hP, ← hZ, ← hQ]
  have hnum : W.heap.size ≤ Q ∧ Q < Z ∧ Z < P := by omega
  clear hQ hZ hP
  have c0 := cell_heap h_Q (rq_c0 _ _ _ _ _)
  have c33 := cell_heap h_Q (rq_c33 _ _ _ _ _)
  have c34 := cell_heap h_Q (rq_c34 _ _ _ _ _)
  have c35 := cell_heap h_Q (rq_c35 _ _ _ _ _)
  go_quiet (fail)
  go_upto_region 8 with (fail)
  refine wp_world (fun U => Below W.heap.size W U ∧ U.heap[Q]? = some (.cells (rqA 2 f off n (.slice B lB cB)) 27 (0, 0)) ∧ U.heap[Z]? = some (.cells (rsA 0 0 (.slice none 0 0)) 29 (0, 0)) ∧ U.heap[P]? = some (.cells (rsA 0 0 (.slice none 0 0)) 29 (0, 0))) (by first | exact ⟨hb, h_Q, h_Z, h_P⟩ | exact ⟨hb.trans ((Below.drewNr _).mono hb.size), h_Q, h_Z, h_P⟩) ?_
  clear hb h_Q h_Z h_P c0 c33 c34 c35 hcv1 hcv2 V
  rintro V ⟨hb, h_Q, h_Z, h_P⟩
  have c35 := cell_heap h_Q (rq_c35 _ _ _ _ _)
  have hrg := rq_blob h_Q
  have hinf : (Tryd.prog.info? 23).map (·.size) = some (arr8 32 f).toList.length := by simp only [Array.length_toList, arr8_size]; kernel_rfl
  have HC := HM V hb (hB.below hb)
  have HFF := Lib.hid hF
  have HST := Lib.hid hst
  clear hF hst HM
  go_wp2_with (refine wpList_load_mid rfl 23 _ rfl Q 1 rfl _ _ hrg Tryd.underlying23 rfl hinf ?_)
  refine HC.mono ?_
  rintro e V1 ⟨rfl, hpm, ht⟩
  have g_Z := (ht.block Z (lt_heap h_Z) (fun h => by have := HFF.out _ h; omega)).trans h_Z
  have g_P := (ht.block P (lt_heap h_P) (fun h => by have := HFF.out _ h; omega)).trans h_P
  have htW : Turn F W V1 := (Turn.of_below hb).trans ht (fun q hq => .inl hq)
  clear HC ht hb h_Q h_Z h_P c35 hrg hinf
  have cc := cell_heap g_P (rs_c1 _ _ _)
  have ff := thaw_heap g_P 1
  have hcv := cvt_i64u m
  go_upto_region 18 with (fail)
  have hset := heap_setCell_same V1 P 1 _ _ (.int .u32 (IntKind.u32.wrap m)) g_P
  rw [rs_set1] at hset
  have hT := set_turnH V1 P 1 (.int .u32 (IntKind.u32.wrap m))
  refine wp_world (fun U => PM U ∧ Turn F W U ∧ U.heap[Z]? = some (.cells (rsA 0 0 (.slice none 0 0)) 29 (0, 0)) ∧ U.heap[P]? = some (.cells (rsA 0 (IntKind.u32.wrap m) (.slice none 0 0)) 29 (0, 0))) ⟨HST.out _ _ P _ hpm g_P (by omega) hT, turn_new htW hT (by omega), (hT.block Z (lt_heap g_Z) (by omega)).trans g_Z, hset⟩ ?_
  clear hpm htW g_Z g_P cc ff hcv hset hT V1
  rintro V1 ⟨hpm, htW, g_Z, g_P⟩
  have hTz : Turn (· = Z) V1 (V1.setRow Z (rsA 0 (IntKind.u32.wrap m) (.slice none 0 0))) := row_one _ _ _
  have HF := Lib.hid (And.intro (HST.out _ _ Z _ hpm g_Z (by omega) hTz) (turn_new htW hTz (by omega)))
  clear hpm htW hTz
  go_wp2_with (first | (refine wpList_load_row rfl 29 _ rfl P rfl _ _ _ _ g_P Tryd.underlying29 rfl (rs_info _ _ _) ?_) | (refine wpList_store_row rfl 29 _ _ rfl Z (rsA 0 (IntKind.u32.wrap m) (.slice none 0 0)) rfl rfl _ _ g_Z (rs_info _ _ _) rfl (rs_one _ _ _ _ _) ?_))
  refine bodyPost_ret (results_row_tmp rfl _ _ Z _ _ _ _ rfl (setRow_heap _ _ _ _ _ _ g_Z) _ rfl Tryd.underlying29 rfl (rs_info _ _ _)) rfl ?_
  exact ⟨rfl, HF.out⟩
set_option maxRecDepth 100000 in
set_option maxHeartbeats 3200000 in
theorem exec_commit (S : Value) (f : Nat → BitVec 8) (off n : Int) (hoff : 0 ≤ off ∧ off < 4294967296) (hn : 0 ≤ n ∧ n < 4294967296) (B : Option Addr) (lB cB : Nat) (u : Value) (hst : ∀ V V' g cs, PM V → V.heap[g]? = some (.cells cs 29 (0, 0)) → W.heap.size ≤ g → Turn (· = g) V V' → PM V') (hF : ∀ q, F q → q < W.heap.size)
    (HM : ∀ V, Below W.heap.size W V → Calls Tryd.prog 81 #[S, .agg (arr8 32 f)] V fun r V' => r = .returned (u) ∧ PM V' ∧ Turn F V V') :
    Calls Tryd.prog 62 #[S, .agg (rqA 3 f off n (.slice B lB cB))] W fun e w' => e = .returned (.tuple #[.agg (rsA 0 0 (.slice none 0 0)), u]) ∧ PM w' ∧ Turn F W w' := by
  have hcv1 := fun w => cvt_u32k off hoff w
  have hcv2 := fun w => cvt_u32k n hn w
  go_enter Tryd.func62, Tryd.ntmps62
  go_upto_region 3 with (fail)
  obtain ⟨Q, hQ⟩ : ∃ H, H = W.heap.size := ⟨_, rfl⟩
  obtain ⟨Z, hZ⟩ : ∃ H, H = W.heap.size + 1 := ⟨_, rfl⟩
  obtain ⟨P, hP⟩ : ∃ H, H = W.heap.size + 1 + 1 := ⟨_, rfl⟩
  refine wp_world (fun V => Below W.heap.size W V ∧ V.heap[Q]? = some (.cells (rqA 3 f off n (.slice B lB cB)) 27 (0, 0)) ∧ V.heap[Z]? = some (.cells (rsA 0 0 (.slice none 0 0)) 29 (0, 0)) ∧ V.heap[P]? = some (.cells (rsA 0 0 (.slice none 0 0)) 29 (0, 0))) ?_ ?_
  · refine ⟨((below_alc W _).alloc (by simp) _).alloc (by simp; omega) _, ?_, ?_, ?_⟩
    · rw [hQ]; exact (heap_alloc_old _ _ (by simp; omega)).trans ((heap_alloc_old _ _ (by simp)).trans (heap_alloc_new _ _))
    · rw [hZ]; exact (heap_alloc_old _ _ (by simp)).trans (heap1_1 _ _ _)
    · rw [hP]; exact heap1_2 _ _ _ _
  rintro V ⟨hb, h_Q, h_Z, h_P⟩
  rw [← hP, ← hZ, ← hQ]
  have hnum : W.heap.size ≤ Q ∧ Q < Z ∧ Z < P := by omega
  clear hQ hZ hP
  have c0 := cell_heap h_Q (rq_c0 _ _ _ _ _)
  have c33 := cell_heap h_Q (rq_c33 _ _ _ _ _)
  have c34 := cell_heap h_Q (rq_c34 _ _ _ _ _)
  have c35 := cell_heap h_Q (rq_c35 _ _ _ _ _)
  go_quiet (fail)
  go_upto_region 11 with (fail)
  refine wp_world (fun U => Below W.heap.size W U ∧ U.heap[Q]? = some (.cells (rqA 3 f off n (.slice B lB cB)) 27 (0, 0)) ∧ U.heap[Z]? = some (.cells (rsA 0 0 (.slice none 0 0)) 29 (0, 0)) ∧ U.heap[P]? = some (.cells (rsA 0 0 (.slice none 0 0)) 29 (0, 0))) (by first | exact ⟨hb, h_Q, h_Z, h_P⟩ | exact ⟨hb.trans ((Below.drewNr _).mono hb.size), h_Q, h_Z, h_P⟩) ?_
  clear hb h_Q h_Z h_P c0 c33 c34 c35 hcv1 hcv2 V
  rintro V ⟨hb, h_Q, h_Z, h_P⟩
  have c35 := cell_heap h_Q (rq_c35 _ _ _ _ _)
  have hrg := rq_blob h_Q
  have hinf : (Tryd.prog.info? 23).map (·.size) = some (arr8 32 f).toList.length := by simp only [Array.length_toList, arr8_size]; kernel_rfl
  have HC := HM V hb
  have HFF := Lib.hid hF
  have HST := Lib.hid hst
  clear hF hst HM
  go_wp2_with (refine wpList_load_mid rfl 23 _ rfl Q 1 rfl _ _ hrg Tryd.underlying23 rfl hinf ?_)
  refine HC.mono ?_
  rintro e V1 ⟨rfl, hpm, ht⟩
  have g_Z := (ht.block Z (lt_heap h_Z) (fun h => by have := HFF.out _ h; omega)).trans h_Z
  have g_P := (ht.block P (lt_heap h_P) (fun h => by have := HFF.out _ h; omega)).trans h_P
  have htW : Turn F W V1 := (Turn.of_below hb).trans ht (fun q hq => .inl hq)
  clear HC ht hb h_Q h_Z h_P c35 hrg hinf
  have hTz : Turn (· = Z) V1 (V1.setRow Z (rsA 0 0 (.slice none 0 0))) := row_one _ _ _
  have HF := Lib.hid (And.intro (HST.out _ _ Z _ hpm g_Z (by omega) hTz) (turn_new htW hTz (by omega)))
  clear hpm htW hTz
  go_wp2_with (first | (refine wpList_load_row rfl 29 _ rfl P rfl _ _ _ _ g_P Tryd.underlying29 rfl (rs_info _ _ _) ?_) | (refine wpList_store_row rfl 29 _ _ rfl Z (rsA 0 0 (.slice none 0 0)) rfl rfl _ _ g_Z (rs_info _ _ _) rfl (rs_one _ _ _ _ _) ?_))
  refine bodyPost_ret (results_row_tmp rfl _ _ Z _ _ _ _ rfl (setRow_heap _ _ _ _ _ _ g_Z) _ rfl Tryd.underlying29 rfl (rs_info _ _ _)) rfl ?_
  exact ⟨rfl, HF.out⟩
set_option maxRecDepth 100000 in
set_option maxHeartbeats 3200000 in
theorem exec_get (S : Value) (f : Nat → BitVec 8) (off n : Int) (hoff : 0 ≤ off ∧ off < 4294967296) (hn : 0 ≤ n ∧ n < 4294967296) (B : Option Addr) (lB cB : Nat) (lD : Nat) (ds : List Int) (u : Value) (hst : ∀ V V' g cs, PM V → V.heap[g]? = some (.cells cs 29 (0, 0)) → W.heap.size ≤ g → Turn (· = g) V V' → PM V') (hF : ∀ q, F q → q < W.heap.size)
    (HM : ∀ V, Below W.heap.size W V → Calls Tryd.prog 82 #[S, .agg (arr8 32 f), .int .i64 off, .int .i64 n] V fun r V' => ∃ D cD, r = .returned (.tuple #[.slice D lD cD, u]) ∧ SlRead V' D (ints .u8 ds) ∧ (∀ x, D = some x → V.heap.size ≤ x.block) ∧ PM V' ∧ Turn F V V') :
    Calls Tryd.prog 62 #[S, .agg (rqA 4 f off n (.slice B lB cB))] W fun e w' => ∃ D cD, e = .returned (.tuple #[.agg (rsA 0 0 (.slice D lD cD)), u]) ∧ SlRead w' D (ints .u8 ds) ∧ PM w' ∧ Turn F W w' := by
  have hcv1 := fun w => cvt_u32k off hoff w
  have hcv2 := fun w => cvt_u32k n hn w
  go_enter Tryd.func62, Tryd.ntmps62
  go_upto_region 3 with (fail)
  obtain ⟨Q, hQ⟩ : ∃ H, H = W.heap.size := ⟨_, rfl⟩
  obtain ⟨Z, hZ⟩ : ∃ H, H = W.heap.size + 1 := ⟨_, rfl⟩
  obtain ⟨P, hP⟩ : ∃ H, H = W.heap.size + 1 + 1 := ⟨_, rfl⟩
  refine wp_world (fun V => Below W.heap.size W V ∧ V.heap[Q]? = some (.cells (rqA 4 f off n (.slice B lB cB)) 27 (0, 0)) ∧ V.heap[Z]? = some (.cells (rsA 0 0 (.slice none 0 0)) 29 (0, 0)) ∧ V.heap[P]? = some (.cells (rsA 0 0 (.slice none 0 0)) 29 (0, 0))) ?_ ?_
  · refine ⟨((below_alc W _).alloc (by simp) _).alloc (by simp; omega) _, ?_, ?_, ?_⟩
    · rw [hQ]; exact (heap_alloc_old _ _ (by simp; omega)).trans ((heap_alloc_old _ _ (by simp)).trans (heap_alloc_new _ _))
    · rw [hZ]; exact (heap_alloc_old _ _ (by simp)).trans (heap1_1 _ _ _)
    · rw [hP]; exact heap1_2 _ _ _ _
  rintro V ⟨hb, h_Q, h_Z, h_P⟩
  rw [← hP, ← hZ, ← hQ]
  have hnum : W.heap.size ≤ Q ∧ Q < Z ∧ Z < P := by omega
  clear hQ hZ hP
  have c0 := cell_heap h_Q (rq_c0 _ _ _ _ _)
  have c33 := cell_heap h_Q (rq_c33 _ _ _ _ _)
  have c34 := cell_heap h_Q (rq_c34 _ _ _ _ _)
  have c35 := cell_heap h_Q (rq_c35 _ _ _ _ _)
  go_quiet (fail)
  go_upto_region 13 with (fail)
  refine wp_world (fun U => Below W.heap.size W U ∧ U.heap[Q]? = some (.cells (rqA 4 f off n (.slice B lB cB)) 27 (0, 0)) ∧ U.heap[Z]? = some (.cells (rsA 0 0 (.slice none 0 0)) 29 (0, 0)) ∧ U.heap[P]? = some (.cells (rsA 0 0 (.slice none 0 0)) 29 (0, 0))) (by first | exact ⟨hb, h_Q, h_Z, h_P⟩ | exact ⟨hb.trans ((Below.drewNr _).mono hb.size), h_Q, h_Z, h_P⟩) ?_
  clear hb h_Q h_Z h_P c0 c33 c34 c35 hcv1 hcv2 V
  rintro V ⟨hb, h_Q, h_Z, h_P⟩
  have c35 := cell_heap h_Q (rq_c35 _ _ _ _ _)
  have hrg := rq_blob h_Q
  have hinf : (Tryd.prog.info? 23).map (·.size) = some (arr8 32 f).toList.length := by simp only [Array.length_toList, arr8_size]; kernel_rfl
  have HC := HM V hb
  have HFF := Lib.hid hF
  have HST := Lib.hid hst
  clear hF hst HM
  go_wp2_with (refine wpList_load_mid rfl 23 _ rfl Q 1 rfl _ _ hrg Tryd.underlying23 rfl hinf ?_)
  refine HC.mono ?_
  rintro e V1 ⟨D, cD, rfl, hD, hDn, hpm, ht⟩
  have g_Z := (ht.block Z (lt_heap h_Z) (fun h => by have := HFF.out _ h; omega)).trans h_Z
  have g_P := (ht.block P (lt_heap h_P) (fun h => by have := HFF.out _ h; omega)).trans h_P
  have htW : Turn F W V1 := (Turn.of_below hb).trans ht (fun q hq => .inl hq)
  have hDb : ∀ x, D = some x → Z < x.block ∧ P < x.block := fun x hx => by have h1 := hDn x hx; have h2 := lt_heap h_Z; have h3 := lt_heap h_P; omega
  clear HC ht hb h_Q h_Z h_P c35 hrg hinf
  have cc := cell_heap g_P (rs_c2 _ _ _)
  have ff := thaw_heap g_P 2
  go_upto_region 18 with (fail)
  have hset := heap_setCell_same V1 P 2 _ _ (.slice D lD cD) g_P
  rw [rs_set2] at hset
  have hT := set_turnH V1 P 2 (.slice D lD cD)
  refine wp_world (fun U => SlRead U D (ints .u8 ds) ∧ PM U ∧ Turn F W U ∧ U.heap[Z]? = some (.cells (rsA 0 0 (.slice none 0 0)) 29 (0, 0)) ∧ U.heap[P]? = some (.cells (rsA 0 0 (.slice D lD cD)) 29 (0, 0))) ⟨hD.turn hT (fun _ a ha e => by have := (hDb a ha).2; omega), HST.out _ _ P _ hpm g_P (by omega) hT, turn_new htW hT (by omega), (hT.block Z (lt_heap g_Z) (by omega)).trans g_Z, hset⟩ ?_
  clear hD hpm htW g_Z g_P cc ff hset hT hDn V1
  rintro V1 ⟨hD, hpm, htW, g_Z, g_P⟩
  have hTz : Turn (· = Z) V1 (V1.setRow Z (rsA 0 0 (.slice D lD cD))) := row_one _ _ _
  have HF := Lib.hid (And.intro (hD.turn hTz (fun _ a ha e => by have := (hDb a ha).1; omega)) (And.intro (HST.out _ _ Z _ hpm g_Z (by omega) hTz) (turn_new htW hTz (by omega))))
  clear hD hDb hpm htW hTz
  go_wp2_with (first | (refine wpList_load_row rfl 29 _ rfl P rfl _ _ _ _ g_P Tryd.underlying29 rfl (rs_info _ _ _) ?_) | (refine wpList_store_row rfl 29 _ _ rfl Z (rsA 0 0 (.slice D lD cD)) rfl rfl _ _ g_Z (rs_info _ _ _) rfl (rs_one _ _ _ _ _) ?_))
  refine bodyPost_ret (results_row_tmp rfl _ _ Z _ _ _ _ rfl (setRow_heap _ _ _ _ _ _ g_Z) _ rfl Tryd.underlying29 rfl (rs_info _ _ _)) rfl ?_
  exact ⟨D, cD, rfl, HF.out⟩
set_option maxRecDepth 100000 in
set_option maxHeartbeats 3200000 in
theorem exec_delete (S : Value) (f : Nat → BitVec 8) (off n : Int) (hoff : 0 ≤ off ∧ off < 4294967296) (hn : 0 ≤ n ∧ n < 4294967296) (B : Option Addr) (lB cB : Nat) (u : Value) (hst : ∀ V V' g cs, PM V → V.heap[g]? = some (.cells cs 29 (0, 0)) → W.heap.size ≤ g → Turn (· = g) V V' → PM V') (hF : ∀ q, F q → q < W.heap.size)
    (HM : ∀ V, Below W.heap.size W V → Calls Tryd.prog 84 #[S, .agg (arr8 32 f)] V fun r V' => r = .returned (u) ∧ PM V' ∧ Turn F V V') :
    Calls Tryd.prog 62 #[S, .agg (rqA 6 f off n (.slice B lB cB))] W fun e w' => e = .returned (.tuple #[.agg (rsA 0 0 (.slice none 0 0)), u]) ∧ PM w' ∧ Turn F W w' := by
  have hcv1 := fun w => cvt_u32k off hoff w
  have hcv2 := fun w => cvt_u32k n hn w
  go_enter Tryd.func62, Tryd.ntmps62
  go_upto_region 3 with (fail)
  obtain ⟨Q, hQ⟩ : ∃ H, H = W.heap.size := ⟨_, rfl⟩
  obtain ⟨Z, hZ⟩ : ∃ H, H = W.heap.size + 1 := ⟨_, rfl⟩
  obtain ⟨P, hP⟩ : ∃ H, H = W.heap.size + 1 + 1 := ⟨_, rfl⟩
  refine wp_world (fun V => Below W.heap.size W V ∧ V.heap[Q]? = some (.cells (rqA 6 f off n (.slice B lB cB)) 27 (0, 0)) ∧ V.heap[Z]? = some (.cells (rsA 0 0 (.slice none 0 0)) 29 (0, 0)) ∧ V.heap[P]? = some (.cells (rsA 0 0 (.slice none 0 0)) 29 (0, 0))) ?_ ?_
  · refine ⟨((below_alc W _).alloc (by simp) _).alloc (by simp; omega) _, ?_, ?_, ?_⟩
    · rw [hQ]; exact (heap_alloc_old _ _ (by simp; omega)).trans ((heap_alloc_old _ _ (by simp)).trans (heap_alloc_new _ _))
    · rw [hZ]; exact (heap_alloc_old _ _ (by simp)).trans (heap1_1 _ _ _)
    · rw [hP]; exact heap1_2 _ _ _ _
  rintro V ⟨hb, h_Q, h_Z, h_P⟩
  rw [← hP, ← hZ, ← hQ]
  have hnum : W.heap.size ≤ Q ∧ Q < Z ∧ Z < P := by omega
  clear hQ hZ hP
  have c0 := cell_heap h_Q (rq_c0 _ _ _ _ _)
  have c33 := cell_heap h_Q (rq_c33 _ _ _ _ _)
  have c34 := cell_heap h_Q (rq_c34 _ _ _ _ _)
  have c35 := cell_heap h_Q (rq_c35 _ _ _ _ _)
  go_quiet (fail)
  go_upto_region 17 with (fail)
  refine wp_world (fun U => Below W.heap.size W U ∧ U.heap[Q]? = some (.cells (rqA 6 f off n (.slice B lB cB)) 27 (0, 0)) ∧ U.heap[Z]? = some (.cells (rsA 0 0 (.slice none 0 0)) 29 (0, 0)) ∧ U.heap[P]? = some (.cells (rsA 0 0 (.slice none 0 0)) 29 (0, 0))) (by first | exact ⟨hb, h_Q, h_Z, h_P⟩ | exact ⟨hb.trans ((Below.drewNr _).mono hb.size), h_Q, h_Z, h_P⟩) ?_
  clear hb h_Q h_Z h_P c0 c33 c34 c35 hcv1 hcv2 V
  rintro V ⟨hb, h_Q, h_Z, h_P⟩
  have c35 := cell_heap h_Q (rq_c35 _ _ _ _ _)
  have hrg := rq_blob h_Q
  have hinf : (Tryd.prog.info? 23).map (·.size) = some (arr8 32 f).toList.length := by simp only [Array.length_toList, arr8_size]; kernel_rfl
  have HC := HM V hb
  have HFF := Lib.hid hF
  have HST := Lib.hid hst
  clear hF hst HM
  go_wp2_with (refine wpList_load_mid rfl 23 _ rfl Q 1 rfl _ _ hrg Tryd.underlying23 rfl hinf ?_)
  refine HC.mono ?_
  rintro e V1 ⟨rfl, hpm, ht⟩
  have g_Z := (ht.block Z (lt_heap h_Z) (fun h => by have := HFF.out _ h; omega)).trans h_Z
  have g_P := (ht.block P (lt_heap h_P) (fun h => by have := HFF.out _ h; omega)).trans h_P
  have htW : Turn F W V1 := (Turn.of_below hb).trans ht (fun q hq => .inl hq)
  clear HC ht hb h_Q h_Z h_P c35 hrg hinf
  have hTz : Turn (· = Z) V1 (V1.setRow Z (rsA 0 0 (.slice none 0 0))) := row_one _ _ _
  have HF := Lib.hid (And.intro (HST.out _ _ Z _ hpm g_Z (by omega) hTz) (turn_new htW hTz (by omega)))
  clear hpm htW hTz
  go_wp2_with (first | (refine wpList_load_row rfl 29 _ rfl P rfl _ _ _ _ g_P Tryd.underlying29 rfl (rs_info _ _ _) ?_) | (refine wpList_store_row rfl 29 _ _ rfl Z (rsA 0 0 (.slice none 0 0)) rfl rfl _ _ g_Z (rs_info _ _ _) rfl (rs_one _ _ _ _ _) ?_))
  refine bodyPost_ret (results_row_tmp rfl _ _ Z _ _ _ _ rfl (setRow_heap _ _ _ _ _ _ g_Z) _ rfl Tryd.underlying29 rfl (rs_info _ _ _)) rfl ?_
  exact ⟨rfl, HF.out⟩
end
section
variable {W : World} {PM : World → Prop} {F : Nat → Prop}
theorem bsl_1 (x : Int) (w : World) : (Instr.buildSlice 25 1 #[(0, .int .u8 x)]).run Tryd.prog w = .ok (.slice (some ⟨w.heap.size, 0, none⟩) 1 1) (w.alloc (.cells #[.int .u8 x] 5)) := by kernel_rfl
theorem rs_build12 (n : Int) (A : Option Addr) (l c : Nat) (w : World) : (Instr.build 29 #[(1, .int .u32 n), (2, .slice A l c)]).run Tryd.prog w = .ok (.agg (rsA 0 n (.slice A l c))) w := by kernel_rfl
set_option maxRecDepth 100000 in
set_option maxHeartbeats 3200000 in
theorem stat_of (S : Value) (f : Nat → BitVec 8) (m : Int) (d : Bool) (u : Value) (mu x : Int) (hmu : IntKind.u32.wrap m = mu) (hx : (if d then (1 : Int) else 0) = x) (hst : ∀ V V' g cs, PM V → V.heap[g]? = some (.cells cs 29 (0, 0)) → W.heap.size ≤ g → Turn (· = g) V V' → PM V') (hbl : ∀ V V', PM V → Below V.heap.size V V' → PM V') (hF : ∀ q, F q → q < W.heap.size)
    (HM : ∀ V, Below W.heap.size W V → Calls Tryd.prog 89 #[S, .agg (arr8 32 f)] V fun r V' => r = .returned (.tuple #[.int .i64 m, .bool d, u]) ∧ PM V' ∧ Turn F V V') :
    Calls Tryd.prog 83 #[S, .agg (arr8 32 f)] W fun e w' => ∃ G, e = .returned (.tuple #[.agg (rsA 0 mu (.slice (some ⟨G, 0, none⟩) 1 1)), u]) ∧ w'.heap[G]? = some (.cells #[.int .u8 x] 5 (0, 0)) ∧ W.heap.size ≤ G ∧ PM w' ∧ Turn F W w' := by
  go_enter Tryd.func83, Tryd.ntmps83
  go_upto_region 1 with (fail)
  obtain ⟨Q, hQ⟩ : ∃ H, H = W.heap.size := ⟨_, rfl⟩
  obtain ⟨Z, hZ⟩ : ∃ H, H = W.heap.size + 1 := ⟨_, rfl⟩
  refine wp_world (fun V => Below W.heap.size W V ∧ V.heap[Q]? = some (.cells (arr8 32 f) 23 (0, 0)) ∧ V.heap[Z]? = some (.cells (rsA 0 0 (.slice none 0 0)) 29 (0, 0))) ⟨(below_alc W _).alloc (by simp) _, by rw [hQ]; exact heap2_0 _ _ _, by rw [hZ]; exact heap2_1 _ _ _⟩ ?_
  rintro V ⟨hb, h_Q, h_Z⟩
  rw [← hZ, ← hQ]
  have hnum : W.heap.size ≤ Q ∧ Q < Z := by omega
  clear hQ hZ
  have hinf : (Tryd.prog.info? 23).map (·.size) = some (arr8 32 f).size := by simp only [arr8_size]; kernel_rfl
  have HC := HM V hb
  have HFF := Lib.hid hF
  have HST := Lib.hid hst
  have HBL := Lib.hid hbl
  clear hF hst HM hbl
  go_wp2_with (refine wpList_load_row rfl 23 _ rfl Q rfl _ _ _ _ h_Q Tryd.underlying23 rfl hinf ?_)
  refine HC.mono ?_
  rintro e V1 ⟨rfl, hpm, ht⟩
  have g_Z := (ht.block Z (lt_heap h_Z) (fun h => by have := HFF.out _ h; omega)).trans h_Z
  have htW : Turn F W V1 := (Turn.of_below hb).trans ht (fun q hq => .inl hq)
  have hs1 : W.heap.size ≤ V1.heap.size := htW.size
  clear HC ht hb h_Q h_Z hinf
  have hcv : ∀ w, (convert 3 24 (.int .i64 m)).run Tryd.prog w = .ok (.int .u32 mu) w := fun w => by rw [← hmu]; exact cvt_i64u m w
  clear hmu
  obtain ⟨VA, hVA⟩ : ∃ U, U = V1.alloc (.cells #[.int .u8 x] 5) := ⟨_, rfl⟩
  have hbA : Below V1.heap.size V1 VA := by rw [hVA]; exact below_alc _ _
  have h_G : VA.heap[V1.heap.size]? = some (.cells #[.int .u8 x] 5 (0, 0)) := by rw [hVA]; exact heap1_0 _ _
  obtain ⟨G, hG⟩ : ∃ G, G = V1.heap.size := ⟨_, rfl⟩
  have hbs : (Instr.buildSlice 25 1 #[(0, .int .u8 x)]).run Tryd.prog V1 = .ok (.slice (some ⟨G, 0, none⟩) 1 1) VA := by rw [hVA, hG]; exact bsl_1 x V1
  have hZG : Z < G := by rw [hG]; exact lt_heap g_Z
  have h_Z := heap_below g_Z hbA
  rw [← hG] at h_G
  have hTz : Turn (· = Z) VA (VA.setRow Z (rsA 0 mu (.slice (some ⟨G, 0, none⟩) 1 1))) := row_one _ _ _
  have HF := Lib.hid (And.intro ((hTz.block G (lt_heap h_G) (by omega)).trans h_G) (And.intro (show W.heap.size ≤ G by omega) (And.intro (HST.out _ _ Z _ (HBL.out _ _ hpm hbA) h_Z (by omega) hTz) (turn_new (htW.trans (Turn.of_below (F := F) hbA) (fun q hq => .inl hq)) hTz (by omega)))))
  clear hbA h_G g_Z hpm htW hTz hs1 hbs
  rcases d with _ | _
  · obtain rfl : x = 0 := hx.symm
    subst hVA hG
    go_wp2_with (first | (refine wpList_build rfl 29 _ rfl #[(1, .int .u32 mu), (2, .slice (some ⟨V1.heap.size, 0, none⟩) 1 1)] (by kernel_rfl) (.agg (rsA 0 mu (.slice (some ⟨V1.heap.size, 0, none⟩) 1 1))) (fun w => rs_build12 _ _ _ _ w) ?_) | (refine wpList_store_row rfl 29 _ _ rfl Z (rsA 0 mu (.slice (some ⟨V1.heap.size, 0, none⟩) 1 1)) rfl rfl _ _ h_Z (rs_info _ _ _) rfl (rs_one _ _ _ _ _) ?_))
    refine bodyPost_ret (results_row_tmp rfl _ _ Z _ _ _ _ rfl (setRow_heap _ _ _ _ _ _ h_Z) _ rfl Tryd.underlying29 rfl (rs_info _ _ _)) rfl ?_
    exact ⟨V1.heap.size, rfl, HF.out⟩
  · obtain rfl : x = 1 := hx.symm
    subst hVA hG
    go_wp2_with (first | (refine wpList_build rfl 29 _ rfl #[(1, .int .u32 mu), (2, .slice (some ⟨V1.heap.size, 0, none⟩) 1 1)] (by kernel_rfl) (.agg (rsA 0 mu (.slice (some ⟨V1.heap.size, 0, none⟩) 1 1))) (fun w => rs_build12 _ _ _ _ w) ?_) | (refine wpList_store_row rfl 29 _ _ rfl Z (rsA 0 mu (.slice (some ⟨V1.heap.size, 0, none⟩) 1 1)) rfl rfl _ _ h_Z (rs_info _ _ _) rfl (rs_one _ _ _ _ _) ?_))
    refine bodyPost_ret (results_row_tmp rfl _ _ Z _ _ _ _ rfl (setRow_heap _ _ _ _ _ _ h_Z) _ rfl Tryd.underlying29 rfl (rs_info _ _ _)) rfl ?_
    exact ⟨V1.heap.size, rfl, HF.out⟩
set_option maxRecDepth 100000 in
set_option maxHeartbeats 3200000 in
theorem exec_stat (S : Value) (f : Nat → BitVec 8) (off n : Int) (hoff : 0 ≤ off ∧ off < 4294967296) (hn : 0 ≤ n ∧ n < 4294967296) (B : Option Addr) (lB cB : Nat) (m : Int) (d : Bool) (u : Value) (mu x : Int) (hmu : IntKind.u32.wrap m = mu) (hx : (if d then (1 : Int) else 0) = x) (hst : ∀ V V' g cs, PM V → V.heap[g]? = some (.cells cs 29 (0, 0)) → W.heap.size ≤ g → Turn (· = g) V V' → PM V') (hbl : ∀ V V', PM V → Below V.heap.size V V' → PM V') (hF : ∀ q, F q → q < W.heap.size)
    (HM : ∀ V, Below W.heap.size W V → Calls Tryd.prog 89 #[S, .agg (arr8 32 f)] V fun r V' => r = .returned (.tuple #[.int .i64 m, .bool d, u]) ∧ PM V' ∧ Turn F V V') :
    Calls Tryd.prog 62 #[S, .agg (rqA 5 f off n (.slice B lB cB))] W fun e w' => ∃ G, e = .returned (.tuple #[.agg (rsA 0 mu (.slice (some ⟨G, 0, none⟩) 1 1)), u]) ∧ w'.heap[G]? = some (.cells #[.int .u8 x] 5 (0, 0)) ∧ PM w' ∧ Turn F W w' := by
  have hcv1 := fun w => cvt_u32k off hoff w
  have hcv2 := fun w => cvt_u32k n hn w
  go_enter Tryd.func62, Tryd.ntmps62
  go_upto_region 3 with (fail)
  obtain ⟨Q, hQ⟩ : ∃ H, H = W.heap.size := ⟨_, rfl⟩
  obtain ⟨Z, hZ⟩ : ∃ H, H = W.heap.size + 1 := ⟨_, rfl⟩
  obtain ⟨P, hP⟩ : ∃ H, H = W.heap.size + 1 + 1 := ⟨_, rfl⟩
  refine wp_world (fun V => Below W.heap.size W V ∧ V.heap[Q]? = some (.cells (rqA 5 f off n (.slice B lB cB)) 27 (0, 0)) ∧ V.heap[Z]? = some (.cells (rsA 0 0 (.slice none 0 0)) 29 (0, 0)) ∧ V.heap[P]? = some (.cells (rsA 0 0 (.slice none 0 0)) 29 (0, 0))) ?_ ?_
  · refine ⟨((below_alc W _).alloc (by simp) _).alloc (by simp; omega) _, ?_, ?_, ?_⟩
    · rw [hQ]; exact (heap_alloc_old _ _ (by simp; omega)).trans ((heap_alloc_old _ _ (by simp)).trans (heap_alloc_new _ _))
    · rw [hZ]; exact (heap_alloc_old _ _ (by simp)).trans (heap1_1 _ _ _)
    · rw [hP]; exact heap1_2 _ _ _ _
  rintro V ⟨hb, h_Q, h_Z, h_P⟩
  rw [← hP, ← hZ, ← hQ]
  have hnum : W.heap.size ≤ Q ∧ Q < Z ∧ Z < P := by omega
  clear hQ hZ hP
  have c0 := cell_heap h_Q (rq_c0 _ _ _ _ _)
  have c33 := cell_heap h_Q (rq_c33 _ _ _ _ _)
  have c34 := cell_heap h_Q (rq_c34 _ _ _ _ _)
  have c35 := cell_heap h_Q (rq_c35 _ _ _ _ _)
  go_quiet (fail)
  go_upto_region 15 with (fail)
  refine wp_world (fun U => Below W.heap.size W U ∧ U.heap[Q]? = some (.cells (rqA 5 f off n (.slice B lB cB)) 27 (0, 0)) ∧ U.heap[Z]? = some (.cells (rsA 0 0 (.slice none 0 0)) 29 (0, 0)) ∧ U.heap[P]? = some (.cells (rsA 0 0 (.slice none 0 0)) 29 (0, 0))) (by first | exact ⟨hb, h_Q, h_Z, h_P⟩ | exact ⟨hb.trans ((Below.drewNr _).mono hb.size), h_Q, h_Z, h_P⟩) ?_
  clear hb h_Q h_Z h_P c0 c33 c34 c35 hcv1 hcv2 V
  rintro V ⟨hb, h_Q, h_Z, h_P⟩
  have c35 := cell_heap h_Q (rq_c35 _ _ _ _ _)
  have hrg := rq_blob h_Q
  have hinf : (Tryd.prog.info? 23).map (·.size) = some (arr8 32 f).toList.length := by simp only [Array.length_toList, arr8_size]; kernel_rfl
  have HC := stat_of (W := V) S f m d u mu x hmu hx (fun V1 V2 g cs h1 h2 h3 h4 => hst V1 V2 g cs h1 h2 (Nat.le_trans hb.size h3) h4) hbl (fun q hq => Nat.lt_of_lt_of_le (hF q hq) hb.size) (fun V2 hb2 => HM V2 (hb.trans (hb2.mono hb.size)))
  have HFF := Lib.hid hF
  have HST := Lib.hid hst
  clear hF hst HM hbl hmu hx
  go_wp2_with (refine wpList_load_mid rfl 23 _ rfl Q 1 rfl _ _ hrg Tryd.underlying23 rfl hinf ?_)
  refine HC.mono ?_
  rintro e V1 ⟨G, rfl, h_G, hGl, hpm, ht⟩
  have g_Z := (ht.block Z (lt_heap h_Z) (fun h => by have := HFF.out _ h; omega)).trans h_Z
  have g_P := (ht.block P (lt_heap h_P) (fun h => by have := HFF.out _ h; omega)).trans h_P
  have htW : Turn F W V1 := (Turn.of_below hb).trans ht (fun q hq => .inl hq)
  have hGb : Z < G ∧ P < G := by have h2 := lt_heap h_Z; have h3 := lt_heap h_P; omega
  clear HC ht hb h_Q h_Z h_P c35 hrg hinf hGl
  go_upto_region 18 with (refine wpList_store_row rfl 29 _ _ rfl P (rsA 0 mu (.slice (some ⟨G, 0, none⟩) 1 1)) rfl rfl _ _ g_P (rs_info _ _ _) rfl (rs_one _ _ _ _ _) ?_)
  have hTp : Turn (· = P) V1 (V1.setRow P (rsA 0 mu (.slice (some ⟨G, 0, none⟩) 1 1))) := row_one _ _ _
  refine wp_world (fun U => U.heap[G]? = some (.cells #[.int .u8 x] 5 (0, 0)) ∧ PM U ∧ Turn F W U ∧ U.heap[Z]? = some (.cells (rsA 0 0 (.slice none 0 0)) 29 (0, 0)) ∧ U.heap[P]? = some (.cells (rsA 0 mu (.slice (some ⟨G, 0, none⟩) 1 1)) 29 (0, 0))) ⟨(hTp.block G (lt_heap h_G) (by omega)).trans h_G, HST.out _ _ P _ hpm g_P (by omega) hTp, turn_new htW hTp (by omega), (hTp.block Z (lt_heap g_Z) (by omega)).trans g_Z, setRow_heap _ _ _ _ _ _ g_P⟩ ?_
  clear h_G hpm htW g_Z g_P hTp V1
  rintro V1 ⟨h_G, hpm, htW, g_Z, g_P⟩
  have hTz : Turn (· = Z) V1 (V1.setRow Z (rsA 0 mu (.slice (some ⟨G, 0, none⟩) 1 1))) := row_one _ _ _
  have HF := Lib.hid (And.intro ((hTz.block G (lt_heap h_G) (by omega)).trans h_G) (And.intro (HST.out _ _ Z _ hpm g_Z (by omega) hTz) (turn_new htW hTz (by omega))))
  clear h_G hpm htW hTz
  go_wp2_with (first | (refine wpList_load_row rfl 29 _ rfl P rfl _ _ _ _ g_P Tryd.underlying29 rfl (rs_info _ _ _) ?_) | (refine wpList_store_row rfl 29 _ _ rfl Z (rsA 0 mu (.slice (some ⟨G, 0, none⟩) 1 1)) rfl rfl _ _ g_Z (rs_info _ _ _) rfl (rs_one _ _ _ _ _) ?_))
  refine bodyPost_ret (results_row_tmp rfl _ _ Z _ _ _ _ rfl (setRow_heap _ _ _ _ _ _ g_Z) _ rfl Tryd.underlying29 rfl (rs_info _ _ _)) rfl ?_
  exact ⟨G, rfl, HF.out⟩
set_option maxRecDepth 100000 in
set_option maxHeartbeats 3200000 in
theorem serve_ok (E : Nat → Addr) (S : Value) (op : Int) (f : Nat → BitVec 8) (off n : Int) (ys : List Int) (m l : Nat) (A : Option Addr) (c : Nat) (hE : ErrsAt E W) (hA : SlRead W A (ints .u8 (rqB op f off n ys))) (hm : 45 + ys.length = m) (hk0 : ys.length = l) (hy : Byts ys) (hl : l ≤ 200) (ho : 1 ≤ op ∧ op ≤ 6) (h1 : 0 ≤ off ∧ off < 4294967296) (h2 : 0 ≤ n ∧ n < 4294967296) (n' : Int) (ds : List Int) (ld : Nat) (hds : ds.length = ld) (hdl : ld ≤ 100000) (m' : Nat) (hm' : 9 + ds.length = m')
    (hbl : ∀ V V', PM V → Below V.heap.size V V' → PM V') (hF : ∀ q, F q → q < W.heap.size)
    (HX : ∀ V B cb, Below W.heap.size W V → SlRead V B (ints .u8 ys) → (∀ x, B = some x → W.heap.size ≤ x.block) → l ≤ cb → Calls Tryd.prog 62 #[S, .agg (rqA op f off n (.slice B l cb))] V fun e V' => ∃ D cD, e = .returned (.tuple #[.agg (rsA 0 n' (.slice D ld cD)), .nilIface]) ∧ SlRead V' D (ints .u8 ds) ∧ PM V' ∧ Turn F V V') :
    Calls Tryd.prog 27 #[S, .slice A m c] W fun e w' => ∃ A' c', e = .returned (.slice A' m' c') ∧ SlRead w' A' (ints .u8 (rsB 0 n' ds)) ∧ (∀ x, A' = some x → W.heap.size ≤ x.block) ∧ m' ≤ c' ∧ PM w' ∧ Turn F W w' := by
  have hr := req_yes E A op f off n ys m l c W hA hm hk0 hy hl hE ho h1 h2
  clear hA hy
  go_enter Tryd.func27, Tryd.ntmps27
  go_wp2_with fail
  refine hr.mono ?_
  rintro e V1 ⟨B, cb, rfl, hB, hBn, hcb, hb⟩
  go_upto_region 2 with (refine wpList_store_row rfl 27 _ _ rfl V1.heap.size (rqA op f off n (.slice B l cb)) rfl rfl _ _ (heap_alloc_new _ _) (rq_info _ _ _ _ _) (by kernel_rfl) (rq_one _ _ _ _ _ _ _) ?_)
  obtain ⟨R, hR⟩ : ∃ R, R = V1.heap.size := ⟨_, rfl⟩
  refine wp_world (fun V => Below W.heap.size W V ∧ SlRead V B (ints .u8 ys) ∧ V.heap[R]? = some (.cells (rqA op f off n (.slice B l cb)) 27 (0, 0))) ?_ ?_
  · rw [alloc_setRow, hR]
    have hbb := below_alc V1 (.cells (rqA op f off n (.slice B l cb)) 27)
    exact ⟨hb.trans (hbb.mono hb.size), hB.below hbb, heap1_0 _ _⟩
  rw [← hR]
  clear hr hb hB hR
  rintro V ⟨hb, hB, h_R⟩
  have HC := HX V B cb hb hB hBn hcb
  have HBL := Lib.hid hbl
  have HFF := Lib.hid hF
  clear hbl hF HX hBn hcb
  go_wp2_with (refine wpList_load_row rfl 27 _ rfl R rfl _ _ _ _ h_R Tryd.underlying27 rfl (rq_info _ _ _ _ _) ?_)
  refine HC.mono ?_
  rintro e V2 ⟨D, cD, rfl, hX, hpm, ht⟩
  have htW : Turn F W V2 := (Turn.of_below hb).trans ht (fun q hq => .inl hq)
  clear HC ht hb hB h_R
  go_upto_region 5 with (refine wpList_store_row rfl 29 _ _ rfl V2.heap.size (rsA 0 n' (.slice D ld cD)) rfl rfl _ _ (heap_alloc_new _ _) (rs_info _ _ _) (by kernel_rfl) (rs_one _ _ _ _ _) ?_)
  obtain ⟨R, hR⟩ : ∃ R, R = V2.heap.size := ⟨_, rfl⟩
  have hbb := below_alc V2 (.cells (rsA 0 n' (.slice D ld cD)) 29)
  refine wp_world (fun U => PM U ∧ Turn F W U ∧ SlRead U D (ints .u8 ds) ∧ U.heap[R]? = some (.cells (rsA 0 n' (.slice D ld cD)) 29 (0, 0))) ?_ ?_
  · rw [alloc_setRow, hR]
    exact ⟨HBL.out _ _ hpm hbb, htW.trans (Turn.of_below (F := F) hbb) (fun q hq => .inl hq), hX.below hbb, heap1_0 _ _⟩
  rw [← hR]
  clear hpm htW hX hR hbb
  rintro V ⟨hpm, htW, hX, h_R⟩
  have HC := rsp_w 0 n' D ds ld cD m' V hX hds hm' hdl
  clear hX
  go_wp2_with (refine wpList_load_row rfl 29 _ rfl R rfl _ _ _ _ h_R Tryd.underlying29 rfl (rs_info _ _ _) ?_)
  refine HC.mono ?_
  rintro e U ⟨A', c', rfl, hA', hc', hn', hbU⟩
  have HG := Lib.hid (And.intro hA' (And.intro (fun x hx => Nat.le_trans htW.size (hn' x hx)) (And.intro hc' (And.intro (HBL.out _ _ hpm hbU) (htW.trans (Turn.of_below (F := F) hbU) (fun q hq => .inl hq))))))
  clear HC hA' hc' hn' hpm htW hbU h_R
  go_wp2_with fail
  go_ret
  exact ⟨A', c', rfl, HG.out⟩
set_option maxRecDepth 100000 in
set_option maxHeartbeats 3200000 in
theorem serve_err (E : Nat → Addr) (S : Value) (op : Int) (f : Nat → BitVec 8) (off n : Int) (ys : List Int) (m l : Nat) (A : Option Addr) (c : Nat) (hE : ErrsAt E W) (hA : SlRead W A (ints .u8 (rqB op f off n ys))) (hm : 45 + ys.length = m) (hk0 : ys.length = l) (hy : Byts ys) (hl : l ≤ 200) (ho : 1 ≤ op ∧ op ≤ 6) (h1 : 0 ≤ off ∧ off < 4294967296) (h2 : 0 ≤ n ∧ n < 4294967296) (k : Nat) (hk : k < 19)
    (hbl : ∀ V V', PM V → Below V.heap.size V V' → PM V') (hF : ∀ q, F q → q < W.heap.size)
    (HX : ∀ V B cb, Below W.heap.size W V → SlRead V B (ints .u8 ys) → (∀ x, B = some x → W.heap.size ≤ x.block) → l ≤ cb → Calls Tryd.prog 62 #[S, .agg (rqA op f off n (.slice B l cb))] V fun e V' => ∃ c0 n0 D lD cD, e = .returned (.tuple #[.agg (rsA c0 n0 (.slice D lD cD)), errV (E k)]) ∧ ErrsAt E V' ∧ PM V' ∧ Turn F V V') :
    Calls Tryd.prog 27 #[S, .slice A m c] W fun e w' => ∃ A' c', e = .returned (.slice A' 9 c') ∧ SlRead w' A' (ints .u8 (rsB ((k : Int) + 1) 0 [])) ∧ (∀ x, A' = some x → W.heap.size ≤ x.block) ∧ 9 ≤ c' ∧ PM w' ∧ Turn F W w' := by
  have hr := req_yes E A op f off n ys m l c W hA hm hk0 hy hl hE ho h1 h2
  clear hA hy
  go_enter Tryd.func27, Tryd.ntmps27
  go_wp2_with fail
  refine hr.mono ?_
  rintro e V1 ⟨B, cb, rfl, hB, hBn, hcb, hb⟩
  go_upto_region 2 with (refine wpList_store_row rfl 27 _ _ rfl V1.heap.size (rqA op f off n (.slice B l cb)) rfl rfl _ _ (heap_alloc_new _ _) (rq_info _ _ _ _ _) (by kernel_rfl) (rq_one _ _ _ _ _ _ _) ?_)
  obtain ⟨R, hR⟩ : ∃ R, R = V1.heap.size := ⟨_, rfl⟩
  refine wp_world (fun V => Below W.heap.size W V ∧ SlRead V B (ints .u8 ys) ∧ V.heap[R]? = some (.cells (rqA op f off n (.slice B l cb)) 27 (0, 0))) ?_ ?_
  · rw [alloc_setRow, hR]
    have hbb := below_alc V1 (.cells (rqA op f off n (.slice B l cb)) 27)
    exact ⟨hb.trans (hbb.mono hb.size), hB.below hbb, heap1_0 _ _⟩
  rw [← hR]
  clear hr hb hB hR
  rintro V ⟨hb, hB, h_R⟩
  have HC := HX V B cb hb hB hBn hcb
  have HBL := Lib.hid hbl
  have HFF := Lib.hid hF
  clear hbl hF HX hBn hcb
  go_wp2_with (refine wpList_load_row rfl 27 _ rfl R rfl _ _ _ _ h_R Tryd.underlying27 rfl (rq_info _ _ _ _ _) ?_)
  refine HC.mono ?_
  rintro e V2 ⟨c0, n0, D, lD, cD, rfl, hX, hpm, ht⟩
  have htW : Turn F W V2 := (Turn.of_below hb).trans ht (fun q hq => .inl hq)
  clear HC ht hb hB h_R
  go_upto_region 5 with (refine wpList_store_row rfl 29 _ _ rfl V2.heap.size (rsA c0 n0 (.slice D lD cD)) rfl rfl _ _ (heap_alloc_new _ _) (rs_info _ _ _) (by kernel_rfl) (rs_one _ _ _ _ _) ?_)
  obtain ⟨R, hR⟩ : ∃ R, R = V2.heap.size := ⟨_, rfl⟩
  have hbb := below_alc V2 (.cells (rsA c0 n0 (.slice D lD cD)) 29)
  refine wp_world (fun U => PM U ∧ Turn F W U ∧ ErrsAt E U ∧ U.heap[R]? = some (.cells (rsA c0 n0 (.slice D lD cD)) 29 (0, 0))) ?_ ?_
  · rw [alloc_setRow, hR]
    exact ⟨HBL.out _ _ hpm hbb, htW.trans (Turn.of_below (F := F) hbb) (fun q hq => .inl hq), hX.below hbb, heap1_0 _ _⟩
  rw [← hR]
  clear hpm htW hX hR hbb
  rintro V ⟨hpm, htW, hX, h_R⟩
  have HC := failure_of (errV (E k)) ((k : Int) + 1) V (code_e E k hk V hX)
  clear hX h_R
  go_wp2_with fail
  refine HC.mono ?_
  rintro e U ⟨v, rfl, hown, hbU⟩
  obtain ⟨A', c', rfl, hA', hc', hn'⟩ := own_form hown (rsB_len _ _ _)
  rw [rsB_len] at hc' ⊢
  have HG := Lib.hid (And.intro hA' (And.intro (fun x hx => Nat.le_trans htW.size (hn' x hx)) (And.intro hc' (And.intro (HBL.out _ _ hpm hbU) (htW.trans (Turn.of_below (F := F) hbU) (fun q hq => .inl hq))))))
  clear HC hown hA' hc' hn' hpm htW hbU
  go_wp2_with fail
  go_ret
  exact ⟨A', c', rfl, HG.out⟩
end
theorem exec_allocS {ev : Operand → Value} {oo : Oper} {w : World} (ho : oo.op = .alloc 29) : (execOp ev oo).run Tryd.prog w = .ok (.value (.pointer (some ⟨w.heap.size, 0, none⟩))) (w.alloc (.cells (rsA 0 0 (.slice none 0 0)) 29)) := by
  obtain ⟨dst, op, ty, pos, aft, gd⟩ := oo
  simp only at ho
  subst ho
  kernel_rfl
section
variable {W : World} {PM : World → Prop} {F : Nat → Prop}
set_option maxRecDepth 100000 in
set_option maxHeartbeats 3200000 in
theorem ask_of (E : Nat → Addr) (b7 b8 S0 : Nat) (g : Nat → BitVec 8) (op : Int) (f : Nat → BitVec 8) (off n : Int) (A : Option Addr) (ys : List Int) (l c m : Nat) (code n' : Int) (ds : List Int) (ld m' : Nat)
    (h7 : W.heap[b7]? = some (.cells (arr8 32 g) 23 (0, 0))) (h8 : W.heap[b8]? = some (.cells #[.pointer (some ⟨S0, 0, none⟩)] 58 (0, 0))) (hA : SlRead W A (ints .u8 ys)) (hk0 : ys.length = l) (hm : 45 + ys.length = m) (hl : l ≤ 200) (hds : ds.length = ld) (hm' : 9 + ds.length = m') (hdl : ld ≤ 200) (hdb : Byts ds) (hco : 0 ≤ code ∧ code ≤ 19) (hn' : 0 ≤ n' ∧ n' < 4294967296)
    (hst : ∀ V V' g cs, PM V → V.heap[g]? = some (.cells cs 29 (0, 0)) → W.heap.size ≤ g → Turn (· = g) V V' → PM V') (hbl : ∀ V V', PM V → Below V.heap.size V V' → PM V') (hF : ∀ q, F q → q < W.heap.size) (hn8 : ¬ F b8) (hPE : ∀ V, PM V → ErrsAt E V)
    (HS : ∀ V A c, Below W.heap.size W V → SlRead V A (ints .u8 (rqB op g off n ys)) → Calls Tryd.prog 27 #[.pointer (some ⟨S0, 0, none⟩), .slice A m c] V fun e V' => ∃ A' c', e = .returned (.slice A' m' c') ∧ SlRead V' A' (ints .u8 (rsB code n' ds)) ∧ PM V' ∧ Turn F V V') :
    Calls Tryd.prog 26 #[.agg (rqA op f off n (.slice A l c)), .pointer (some ⟨b7, 0, none⟩), .pointer (some ⟨b8, 0, none⟩)] W fun e w' => ∃ B cb, e = .returned (.tuple #[.agg (rsA code n' (.slice B ld cb)), .bool true]) ∧ SlRead w' B (ints .u8 ds) ∧ (∀ x, B = some x → W.heap.size ≤ x.block) ∧ ld ≤ cb ∧ PM w' ∧ Turn F W w' := by
  go_enter Tryd.func26, Tryd.ntmps26
  go_upto_region 1 with (fail)
  obtain ⟨Q, hQ⟩ : ∃ H, H = W.heap.size := ⟨_, rfl⟩
  obtain ⟨Z, hZ⟩ : ∃ H, H = W.heap.size + 1 := ⟨_, rfl⟩
  refine wp_world (fun V => Below W.heap.size W V ∧ V.heap[Q]? = some (.cells (rqA op f off n (.slice A l c)) 27 (0, 0)) ∧ V.heap[Z]? = some (.cells (rsA 0 0 (.slice none 0 0)) 29 (0, 0))) ⟨(below_alc W _).alloc (by simp) _, by rw [hQ]; exact heap2_0 _ _ _, by rw [hZ]; exact heap2_1 _ _ _⟩ ?_
  rintro V ⟨hb, h_Q, h_Z⟩
  rw [← hZ, ← hQ]
  have hnum : W.heap.size ≤ Q ∧ Q < Z := by omega
  have hbQ : b7 < W.heap.size ∧ b8 < W.heap.size := ⟨lt_heap h7, lt_heap h8⟩
  have h_7 := heap_below h7 hb
  have h_8 := heap_below h8 hb
  have h_A := hA.below hb
  have hAl := sl_lt hA
  have hth := rq_there h_Q
  have hinf : (Tryd.prog.info? 23).map (·.size) = some (arr8 32 g).size := by simp only [arr8_size]; kernel_rfl
  have hsz : (arr8 32 g).toList = (List.range 32).map fun i => v8 (g i) := by simp [arr8]
  have hset := heap_setCells_same Q 27 (arr8 32 g).toList V 1 _ h_Q
  rw [hsz, rq_setB, ← hsz] at hset
  have hsT : Turn (· = Q) V (V.setCells Q 1 (arr8 32 g).toList) := Turn.of_grown (grown_setCells V Q 1 _) (fun k hk => (Option.some.inj hk).symm)
  clear hQ hZ h7 h8 hA hsz
  go_upto_region 2 with (first | (refine wpList_load_row rfl 23 _ rfl b7 rfl _ _ _ _ h_7 Tryd.underlying23 rfl hinf ?_) | (refine wpList_store_mid rfl 23 _ _ rfl Q 1 (arr8 32 g) rfl rfl (by rw [arr8_size]; exact hth) hinf (arr8_one _ _) ?_))
  refine wp_world (fun U => Below W.heap.size W U ∧ U.heap[Q]? = some (.cells (rqA op g off n (.slice A l c)) 27 (0, 0)) ∧ U.heap[Z]? = some (.cells (rsA 0 0 (.slice none 0 0)) 29 (0, 0)) ∧ U.heap[b8]? = some (.cells #[.pointer (some ⟨S0, 0, none⟩)] 58 (0, 0)) ∧ SlRead U A (ints .u8 ys)) ⟨hsT.below hb hb.size (fun q e => by omega), hset, (hsT.block Z (lt_heap h_Z) (by omega)).trans h_Z, (hsT.block b8 (lt_heap h_8) (by omega)).trans h_8, h_A.turn hsT (fun h0 a ha e => by have := hAl (by simpa using h0) a ha; omega)⟩ ?_
  clear hb h_Q h_Z h_7 h_8 h_A hset hsT hth hinf hAl V
  rintro V ⟨hb, h_Q, h_Z, h_8, h_A⟩
  obtain ⟨P0, hP0⟩ : ∃ P : World → Prop, P = (fun X : World => Below W.heap.size W X ∧ X.heap[Z]? = some (.cells (rsA 0 0 (.slice none 0 0)) 29 (0, 0)) ∧ SlRead X A (ints .u8 ys)) := ⟨_, rfl⟩
  obtain ⟨P1, hP1⟩ : ∃ P : Option Addr → World → Prop, P = (fun (B1 : Option Addr) (X : World) => Below W.heap.size W X ∧ X.heap[Z]? = some (.cells (rsA 0 0 (.slice none 0 0)) 29 (0, 0)) ∧ SlRead X B1 (ints .u8 (rqB op g off n ys))) := ⟨_, rfl⟩
  obtain ⟨P2, hP2⟩ : ∃ P : Option Addr → World → Prop, P = (fun (B2 : Option Addr) (X : World) => PM X ∧ Turn F W X ∧ X.heap[Z]? = some (.cells (rsA 0 0 (.slice none 0 0)) 29 (0, 0)) ∧ SlRead X B2 (ints .u8 (rsB code n' ds))) := ⟨_, rfl⟩
  obtain ⟨P3, hP3⟩ : ∃ P : Option Addr → World → Prop, P = (fun (B : Option Addr) (X : World) => PM X ∧ Turn F W X ∧ X.heap[Z]? = some (.cells (rsA 0 0 (.slice none 0 0)) 29 (0, 0)) ∧ SlRead X B (ints .u8 ds)) := ⟨_, rfl⟩
  have s0 : ∀ X Y, P0 X → Below X.heap.size X Y → P0 Y := by rw [hP0]; exact fun X Y h b => ⟨h.1.trans (b.mono h.1.size), heap_below h.2.1 b, h.2.2.below b⟩
  have s1 : ∀ B1 X Y, P1 B1 X → Below X.heap.size X Y → P1 B1 Y := by rw [hP1]; exact fun B1 X Y h b => ⟨h.1.trans (b.mono h.1.size), heap_below h.2.1 b, h.2.2.below b⟩
  have s2 : ∀ B1 X Y, P2 B1 X → Below X.heap.size X Y → P2 B1 Y := by rw [hP2]; exact fun B1 X Y h b => ⟨hbl _ _ h.1 b, h.2.1.trans (Turn.of_below (F := F) b) (fun q hq => .inl hq), heap_below h.2.2.1 b, h.2.2.2.below b⟩
  have s3 : ∀ B1 X Y, P3 B1 X → Below X.heap.size X Y → P3 B1 Y := by rw [hP3]; exact fun B1 X Y h b => ⟨hbl _ _ h.1 b, h.2.1.trans (Turn.of_below (F := F) b) (fun q hq => .inl hq), heap_below h.2.2.1 b, h.2.2.2.below b⟩
  have k0 : ∀ X, P0 X → Calls Tryd.prog 10 #[.agg (rqA op g off n (.slice A l c))] X fun e Y => ∃ B1 c1, e = .returned (.slice B1 m c1) ∧ P1 B1 Y ∧ Below X.heap.size X Y := by
    rw [hP0, hP1]
    exact fun X h => (req_w op g off n A ys l c m X h.2.2 hk0 hm (by omega)).mono fun e Y ⟨B1, c1, e1, hB, _, _, b⟩ => ⟨B1, c1, e1, ⟨h.1.trans (b.mono h.1.size), heap_below h.2.1 b, hB⟩, b⟩
  have k1 : ∀ X B1 c1, P1 B1 X → Calls Tryd.prog 27 #[.pointer (some ⟨S0, 0, none⟩), .slice B1 m c1] X fun e Y => ∃ B2 c2, e = .returned (.slice B2 m' c2) ∧ P2 B2 Y ∧ Turn F X Y := by
    rw [hP1, hP2]
    exact fun X B1 c1 h => (HS X B1 c1 h.1 h.2.2).mono fun e Y ⟨B2, c2, e1, hB, hp, ht⟩ => ⟨B2, c2, e1, ⟨hp, (Turn.of_below h.1).trans ht (fun q hq => .inl hq), (ht.block Z (lt_heap h.2.1) (fun hh => by have := hF _ hh; omega)).trans h.2.1, hB⟩, ht⟩
  have k2 : ∀ X B2 c2, P2 B2 X → Calls Tryd.prog 16 #[.slice B2 m' c2] X fun e Y => ∃ B cb, e = .returned (.tuple #[.agg (rsA code n' (.slice B ld cb)), .nilIface]) ∧ P3 B Y ∧ (∀ x, B = some x → X.heap.size ≤ x.block) ∧ ld ≤ cb ∧ Below X.heap.size X Y := by
    rw [hP2, hP3]
    exact fun X B2 c2 h => (rsp_yes E B2 code n' ds m' ld c2 X h.2.2.2 hm' hds hdb hdl (hPE _ h.1) hco hn').mono fun e Y ⟨B, cb, e1, hB, hn, hc, b⟩ => ⟨B, cb, e1, ⟨hbl _ _ h.1 b, h.2.1.trans (Turn.of_below (F := F) b) (fun q hq => .inl hq), heap_below h.2.2.1 b, hB⟩, hn, hc, b⟩
  have z0 : ∀ X, P0 X → W.heap.size ≤ X.heap.size := by rw [hP0]; exact fun X h => h.1.size
  have z1 : ∀ B1 X, P1 B1 X → W.heap.size ≤ X.heap.size := by rw [hP1]; exact fun B1 X h => h.1.size
  have z2 : ∀ B1 X, P2 B1 X → W.heap.size ≤ X.heap.size ∧ Z < X.heap.size := by rw [hP2]; exact fun B1 X h => ⟨h.2.1.size, lt_heap h.2.2.1⟩
  have z3 : ∀ B1 X, P3 B1 X → W.heap.size ≤ X.heap.size := by rw [hP3]; exact fun B1 X h => h.2.1.size
  have fin : ∀ B X R rw', P3 B X → X.heap[R]? = some (.cells (rsA 0 0 (.slice none 0 0)) 29 (0, 0)) → W.heap.size ≤ R → Z < R → (0 < ds.length → ∀ a, B = some a → a.block ≠ R) → P3 B (X.setRow R rw') := by
    rw [hP3]
    intro B X R rw' h hR hlo hz hne
    have hT := row_one X R rw'
    exact ⟨hst _ _ R _ h.1 hR hlo hT, turn_new h.2.1 hT hlo, (hT.block Z (lt_heap h.2.2.1) (by omega)).trans h.2.2.1, h.2.2.2.turn hT (fun h0 a ha e => hne (by simpa using h0) a ha e)⟩
  have l3 : ∀ B X, P3 B X → 0 < ds.length → ∀ a, B = some a → a.block < X.heap.size := by rw [hP3]; exact fun B X h h0 a ha => sl_lt h.2.2.2 h0 a ha
  have hp0 : P0 V := by rw [hP0]; exact ⟨hb, h_Z, h_A⟩
  have hZV : Z < V.heap.size := lt_heap h_Z
  have hOut := Lib.hid hP3
  have HFF := Lib.hid hF
  have HST := Lib.hid hst
  have HPE := Lib.hid hPE
  have HN := Lib.hid (And.intro hds hdl)
  clear hb h_Z h_A hP0 hP1 hP2 hP3 HS hst hbl hPE hds hm' hdl hdb hco hn' hk0 hm
  go_upto_region 2 with (fail)
  try simp only [put_none]
  have hWD : Below V.heap.size V V.drew := Below.drewNr (w := V) 1
  obtain ⟨WD, hWDe⟩ : ∃ X, X = V.drew := ⟨_, rfl⟩
  rw [← hWDe] at hWD
  have hpD := s0 _ _ hp0 hWD
  have c8 : WD.cell? ⟨b8, 0, none⟩ = some (.pointer (some ⟨S0, 0, none⟩)) := cell_heap (heap_below h_8 hWD) rfl
  have hl8 : b8 < WD.heap.size := cell_lt c8
  have hrq : WD.rangeAt Q 0 (rqA op g off n (.slice A l c)).toList := range_new (heap_below h_Q hWD)
  have hlQ : Q < WD.heap.size := Nat.lt_of_lt_of_le (lt_heap h_Q) hWD.size
  have hnQ : ¬ F Q := fun h => by have := HFF.out _ h; omega
  have hZD : Z < WD.heap.size := Nat.lt_of_lt_of_le hZV hWD.size
  clear h_8 h_Q hp0 hZV

  refine region_cutG (fun a a' w' => ∃ R B cb B1 c1 B2 c2, a' = ((((((((((a.put (some 11) (.pointer (some ⟨S0, 0, none⟩))).put (some 12) (.agg (rqA op g off n (.slice A l c)))).put (some 13) (.slice B1 m c1)).put (some 14) (.slice B2 m' c2)).put (some 15) (.tuple #[.agg (rsA code n' (.slice B ld cb)), .nilIface])).put (some 10) (.tuple #[.agg (rsA code n' (.slice B ld cb)), .nilIface])).put (some 16) (.agg (rsA code n' (.slice B ld cb)))).put (some 17) (.nilIface)).put (some 6) (.pointer (some ⟨R, 0, none⟩))).put (some 7) (.nilIface)) ∧ P3 B w' ∧ w'.heap[R]? = some (.cells (rsA code n' (.slice B ld cb)) 29 (0, 0)) ∧ (∀ x, B = some x → W.heap.size ≤ x.block ∧ Z < x.block) ∧ ld ≤ cb ∧ Z < R) ?_ ?_
  · refine wp_region_noPanic ?_
    refine wp_region_held_drew (S := fun U => Turn F WD U) (by kernel_rfl) (by rw [hWDe]; exact Turn.of_below (Below.refl _ _)) (fun hHeld => ?_)
    rw [← hWDe] at hHeld ⊢
    have hS0 : Turn F WD WD := Turn.of_below (Below.refl _ _)
    refine held_cell 0 58 (Go.Operand.tmp 2) (some 11) (.pointer (some ⟨b8, 0, none⟩)) (.pointer (some ⟨S0, 0, none⟩)) (by kernel_rfl) (by kernel_rfl) (fun U hU => load_slice b8 0 U 58 (fun w => by kernel_rfl) _ ((hU.cell hl8 hn8).trans c8)) (by kernel_rfl) (by kernel_rfl) (by kernel_rfl) (fun _ _ _ _ _ h => h) hHeld ?_
    refine held_load 1 27 (Go.Operand.tmp 3) (some 12) (Q) (0) ((rqA op g off n (.slice A l c)).toList) _ (by kernel_rfl) (by kernel_rfl) (fun w h => h.range hrq hlQ hnQ) Tryd.underlying27 rfl (by rw [Array.length_toList]; exact rq_info _ _ _ _ _) (by kernel_rfl) (by kernel_rfl) (by kernel_rfl) (fun _ _ _ _ _ h => h) hHeld ?_
    refine held_ready [2, 8] (by kernel_rfl) (by simp) (rdy_call 2 10 #[Go.Operand.tmp 12] #[27] (some 13) #[.agg (rqA op g off n (.slice A l c))] _ (by kernel_rfl) (by kernel_rfl) (by kernel_rfl) (k0 WD hpD) ?_ (rdy_run 8 (.alloc 29) 0 (some 6) (.pointer (some ⟨WD.heap.size, 0, none⟩)) (WD.alloc (.cells (rsA 0 0 (.slice none 0 0)) 29)) (by kernel_rfl) (by kernel_rfl) (fun o ho _ => exec_allocS ho) (hS0.trans (Turn.of_below (F := F) (below_alc WD _)) (fun q hq => .inl hq)) ?_ AllReadyH.nil))
    · rintro e Y00 ⟨B1, c1, rfl, hpY00, hbY00⟩
      have hSY00 : Turn F WD Y00 := hS0.trans (Turn.of_below (F := F) hbY00) (fun q hq => .inl hq)
      refine ⟨_, rfl, hSY00, fun _ => ?_⟩
      refine held_ready [3, 8] (by kernel_rfl) (by simp) (rdy_call 3 27 #[Go.Operand.tmp 11, Go.Operand.tmp 13] #[58, 25] (some 14) #[.pointer (some ⟨S0, 0, none⟩), .slice B1 m c1] _ (by kernel_rfl) (by kernel_rfl) (by kernel_rfl) (k1 Y00 B1 c1 hpY00) ?_ (rdy_run 8 (.alloc 29) 0 (some 6) (.pointer (some ⟨Y00.heap.size, 0, none⟩)) (Y00.alloc (.cells (rsA 0 0 (.slice none 0 0)) 29)) (by kernel_rfl) (by kernel_rfl) (fun o ho _ => exec_allocS ho) (hSY00.trans (Turn.of_below (F := F) (below_alc Y00 _)) (fun q hq => .inl hq)) ?_ AllReadyH.nil))
      · rintro e Y11 ⟨B2, c2, rfl, hpY11, htY11⟩
        have hSY11 : Turn F WD Y11 := hSY00.trans htY11 (fun q hq => .inl hq)
        refine ⟨_, rfl, hSY11, fun _ => ?_⟩
        refine held_ready [4, 8] (by kernel_rfl) (by simp) (rdy_call 4 16 #[Go.Operand.tmp 14] #[25] (some 15) #[.slice B2 m' c2] _ (by kernel_rfl) (by kernel_rfl) (by kernel_rfl) (k2 Y11 B2 c2 hpY11) ?_ (rdy_run 8 (.alloc 29) 0 (some 6) (.pointer (some ⟨Y11.heap.size, 0, none⟩)) (Y11.alloc (.cells (rsA 0 0 (.slice none 0 0)) 29)) (by kernel_rfl) (by kernel_rfl) (fun o ho _ => exec_allocS ho) (hSY11.trans (Turn.of_below (F := F) (below_alc Y11 _)) (fun q hq => .inl hq)) ?_ AllReadyH.nil))
        · rintro e Y22 ⟨B, cb, rfl, hpY22, hnY22, hcY22, hbY22⟩
          have hSY22 : Turn F WD Y22 := hSY11.trans (Turn.of_below (F := F) hbY22) (fun q hq => .inl hq)
          refine ⟨_, rfl, hSY22, fun _ => ?_⟩
          have hHeld := hSY22
          refine held_move 5 (Go.Operand.tmp 15) (some 10) (.tuple #[.agg (rsA code n' (.slice B ld cb)), .nilIface]) (by kernel_rfl) (by kernel_rfl) (by kernel_rfl) (by kernel_rfl) (by kernel_rfl) (fun _ _ _ _ _ h => h) hHeld ?_
          refine held_any 6 (Go.Op.extract (Go.Operand.tmp 10) 0) (some 16) (.agg (rsA code n' (.slice B ld cb))) (by kernel_rfl) (by kernel_rfl) (by kernel_rfl) (by kernel_rfl) (fun _ _ _ _ _ h => h) hHeld (fun o ho w _ => exec_extract (vx := .tuple #[.agg (rsA code n' (.slice B ld cb)), .nilIface]) ho (by kernel_rfl) (by kernel_rfl)) ?_
          refine held_any 7 (Go.Op.extract (Go.Operand.tmp 10) 1) (some 17) (.nilIface) (by kernel_rfl) (by kernel_rfl) (by kernel_rfl) (by kernel_rfl) (fun _ _ _ _ _ h => h) hHeld (fun o ho w _ => exec_extract (vx := .tuple #[.agg (rsA code n' (.slice B ld cb)), .nilIface]) ho (by kernel_rfl) (by kernel_rfl)) ?_
          have hRne : 0 < ds.length → ∀ a, B = some a → a.block ≠ Y22.heap.size := fun h0 a ha => by have := l3 B Y22 hpY22 h0 a ha; omega
          have hRW : W.heap.size ≤ Y22.heap.size := z3 B Y22 hpY22
          have hZR : Z < Y22.heap.size := Nat.lt_of_lt_of_le hZD hSY22.size
          have hRD : WD.heap.size ≤ Y22.heap.size := hSY22.size
          refine held_run 8 (Go.Op.alloc 29) 0 (some 6) (.pointer (some ⟨Y22.heap.size, 0, none⟩)) (Y22.alloc (.cells (rsA 0 0 (.slice none 0 0)) 29)) (by kernel_rfl) (by kernel_rfl) (by kernel_rfl) (fun o ho ht => exec_allocS ho) (hHeld.trans (Turn.of_below (F := F) (below_alc Y22 _)) (fun q hq => .inl hq)) ?_
          intro hHeld
          refine held_skip 9 (Go.Op.store 29 (Go.Operand.tmp 6) (Go.Operand.tmp 16)) none ((Y22.alloc (.cells (rsA 0 0 (.slice none 0 0)) 29)).setRow Y22.heap.size (rsA code n' (.slice B ld cb))) (by kernel_rfl) (by kernel_rfl) (fun o ho => exec_store (vx := .pointer (some ⟨Y22.heap.size, 0, none⟩)) (vy := .agg (rsA code n' (.slice B ld cb))) ho (by kernel_rfl) (store_rowH 29 _ Y22.heap.size _ _ _ (heap1_0 Y22 _) (rs_info _ _ _) rfl (rs_one _ _ _ _ _))) (turn_new hHeld (row_one _ _ _) hRD) ?_
          intro hHeld
          refine held_assign 10 (Go.Operand.tmp 17) (some 7) (.nilIface) (by kernel_rfl) (by kernel_rfl) (by kernel_rfl) (by kernel_rfl) (by kernel_rfl) (fun _ _ _ _ _ h => h) hHeld ?_
          refine wpAnyH_done (by kernel_rfl) ?_ _
          refine NoPanic.normal ?_
          try simp only [Act.put, List.setIfInBounds_toArray, List.set_cons_zero, List.set_cons_succ]
          exact ⟨by trivial, Y22.heap.size, B, cb, B1, c1, B2, c2, rfl, fin B (Y22.alloc (.cells (rsA 0 0 (.slice none 0 0)) 29)) Y22.heap.size (rsA code n' (.slice B ld cb)) (s3 _ _ _ hpY22 (below_alc Y22 _)) (heap1_0 Y22 _) hRW hZR hRne, setRow_heap _ _ _ _ _ _ (heap1_0 Y22 _), fun x hx => ⟨by have h1 := hnY22 x hx; have h2 := z2 B2 Y11 hpY11; omega, by have h1 := hnY22 x hx; have h2 := z2 B2 Y11 hpY11; omega⟩, hcY22, hZR⟩
        · intro _
          obtain ⟨A22, hA22⟩ : ∃ Y, Y = Y11.alloc (.cells (rsA 0 0 (.slice none 0 0)) 29) := ⟨_, rfl⟩
          have hbA22 : Below Y11.heap.size Y11 A22 := by rw [hA22]; exact below_alc _ _
          obtain ⟨R, hRe⟩ : ∃ R, R = Y11.heap.size := ⟨_, rfl⟩
          have hrA22 : A22.heap[R]? = some (.cells (rsA 0 0 (.slice none 0 0)) 29 (0, 0)) := by rw [hA22, hRe]; exact heap1_0 _ _
          rw [← hA22, ← hRe]
          have hRW : W.heap.size ≤ R := by rw [hRe]; exact (z2 B2 Y11 hpY11).1
          have hZR : Z < R := by rw [hRe]; exact Nat.lt_of_lt_of_le hZD hSY11.size
          have hRD : WD.heap.size ≤ R := by rw [hRe]; exact hSY11.size
          have hSA22 : Turn F WD A22 := hSY11.trans (Turn.of_below (F := F) hbA22) (fun q hq => .inl hq)
          have hpA22 := s2 _ _ _ hpY11 hbA22
          clear hA22 hRe
          refine held_call 4 16 #[Go.Operand.tmp 14] #[25] (some 15) #[.slice B2 m' c2] _ (by kernel_rfl) (by kernel_rfl) (by kernel_rfl) (by kernel_rfl) (k2 A22 B2 c2 hpA22) ?_
          rintro e Y2a3 ⟨B, cb, rfl, hpY2a3, hnY2a3, hcY2a3, hbY2a3⟩
          have hSY2a3 : Turn F WD Y2a3 := hSA22.trans (Turn.of_below (F := F) hbY2a3) (fun q hq => .inl hq)
          have hrY2a3 := heap_below hrA22 hbY2a3
          refine ⟨_, rfl, hSY2a3, fun _ => ?_⟩
          have hHeld := hSY2a3
          refine held_move 5 (Go.Operand.tmp 15) (some 10) (.tuple #[.agg (rsA code n' (.slice B ld cb)), .nilIface]) (by kernel_rfl) (by kernel_rfl) (by kernel_rfl) (by kernel_rfl) (by kernel_rfl) (fun _ _ _ _ _ h => h) hHeld ?_
          refine held_any 6 (Go.Op.extract (Go.Operand.tmp 10) 0) (some 16) (.agg (rsA code n' (.slice B ld cb))) (by kernel_rfl) (by kernel_rfl) (by kernel_rfl) (by kernel_rfl) (fun _ _ _ _ _ h => h) hHeld (fun o ho w _ => exec_extract (vx := .tuple #[.agg (rsA code n' (.slice B ld cb)), .nilIface]) ho (by kernel_rfl) (by kernel_rfl)) ?_
          refine held_any 7 (Go.Op.extract (Go.Operand.tmp 10) 1) (some 17) (.nilIface) (by kernel_rfl) (by kernel_rfl) (by kernel_rfl) (by kernel_rfl) (fun _ _ _ _ _ h => h) hHeld (fun o ho w _ => exec_extract (vx := .tuple #[.agg (rsA code n' (.slice B ld cb)), .nilIface]) ho (by kernel_rfl) (by kernel_rfl)) ?_
          have hRne : 0 < ds.length → ∀ a, B = some a → a.block ≠ R := fun _ a ha => by have h1 := hnY2a3 a ha; have h2 : R < A22.heap.size := lt_heap hrA22; omega
          refine held_skip 9 (Go.Op.store 29 (Go.Operand.tmp 6) (Go.Operand.tmp 16)) none (Y2a3.setRow R (rsA code n' (.slice B ld cb))) (by kernel_rfl) (by kernel_rfl) (fun o ho => exec_store (vx := .pointer (some ⟨R, 0, none⟩)) (vy := .agg (rsA code n' (.slice B ld cb))) ho (by kernel_rfl) (store_rowH 29 _ R _ _ _ hrY2a3 (rs_info _ _ _) rfl (rs_one _ _ _ _ _))) (turn_new hHeld (row_one _ _ _) hRD) ?_
          intro hHeld
          refine held_assign 10 (Go.Operand.tmp 17) (some 7) (.nilIface) (by kernel_rfl) (by kernel_rfl) (by kernel_rfl) (by kernel_rfl) (by kernel_rfl) (fun _ _ _ _ _ h => h) hHeld ?_
          refine wpAnyH_done (by kernel_rfl) ?_ _
          refine NoPanic.normal ?_
          try simp only [Act.put, List.setIfInBounds_toArray, List.set_cons_zero, List.set_cons_succ]
          exact ⟨by trivial, R, B, cb, B1, c1, B2, c2, rfl, fin B Y2a3 R (rsA code n' (.slice B ld cb)) hpY2a3 hrY2a3 hRW hZR hRne, setRow_heap _ _ _ _ _ _ hrY2a3, fun x hx => ⟨by have h1 := hnY2a3 x hx; have h2 := z2 B2 A22 hpA22; omega, by have h1 := hnY2a3 x hx; have h2 := z2 B2 A22 hpA22; omega⟩, hcY2a3, hZR⟩
      · intro _
        obtain ⟨A11, hA11⟩ : ∃ Y, Y = Y00.alloc (.cells (rsA 0 0 (.slice none 0 0)) 29) := ⟨_, rfl⟩
        have hbA11 : Below Y00.heap.size Y00 A11 := by rw [hA11]; exact below_alc _ _
        obtain ⟨R, hRe⟩ : ∃ R, R = Y00.heap.size := ⟨_, rfl⟩
        have hrA11 : A11.heap[R]? = some (.cells (rsA 0 0 (.slice none 0 0)) 29 (0, 0)) := by rw [hA11, hRe]; exact heap1_0 _ _
        rw [← hA11, ← hRe]
        have hRW : W.heap.size ≤ R := by rw [hRe]; exact z1 B1 Y00 hpY00
        have hZR : Z < R := by rw [hRe]; exact Nat.lt_of_lt_of_le hZD hSY00.size
        have hRD : WD.heap.size ≤ R := by rw [hRe]; exact hSY00.size
        have hSA11 : Turn F WD A11 := hSY00.trans (Turn.of_below (F := F) hbA11) (fun q hq => .inl hq)
        have hpA11 := s1 _ _ _ hpY00 hbA11
        clear hA11 hRe
        refine held_call 3 27 #[Go.Operand.tmp 11, Go.Operand.tmp 13] #[58, 25] (some 14) #[.pointer (some ⟨S0, 0, none⟩), .slice B1 m c1] _ (by kernel_rfl) (by kernel_rfl) (by kernel_rfl) (by kernel_rfl) (k1 A11 B1 c1 hpA11) ?_
        rintro e Y1a2 ⟨B2, c2, rfl, hpY1a2, htY1a2⟩
        have hSY1a2 : Turn F WD Y1a2 := hSA11.trans htY1a2 (fun q hq => .inl hq)
        have hrY1a2 := (htY1a2.block R (lt_heap hrA11) (fun hh => by have := HFF.out _ hh; omega)).trans hrA11
        refine ⟨_, rfl, hSY1a2, fun _ => ?_⟩
        refine held_call 4 16 #[Go.Operand.tmp 14] #[25] (some 15) #[.slice B2 m' c2] _ (by kernel_rfl) (by kernel_rfl) (by kernel_rfl) (by kernel_rfl) (k2 Y1a2 B2 c2 hpY1a2) ?_
        rintro e Y2a3 ⟨B, cb, rfl, hpY2a3, hnY2a3, hcY2a3, hbY2a3⟩
        have hSY2a3 : Turn F WD Y2a3 := hSY1a2.trans (Turn.of_below (F := F) hbY2a3) (fun q hq => .inl hq)
        have hrY2a3 := heap_below hrY1a2 hbY2a3
        refine ⟨_, rfl, hSY2a3, fun _ => ?_⟩
        have hHeld := hSY2a3
        refine held_move 5 (Go.Operand.tmp 15) (some 10) (.tuple #[.agg (rsA code n' (.slice B ld cb)), .nilIface]) (by kernel_rfl) (by kernel_rfl) (by kernel_rfl) (by kernel_rfl) (by kernel_rfl) (fun _ _ _ _ _ h => h) hHeld ?_
        refine held_any 6 (Go.Op.extract (Go.Operand.tmp 10) 0) (some 16) (.agg (rsA code n' (.slice B ld cb))) (by kernel_rfl) (by kernel_rfl) (by kernel_rfl) (by kernel_rfl) (fun _ _ _ _ _ h => h) hHeld (fun o ho w _ => exec_extract (vx := .tuple #[.agg (rsA code n' (.slice B ld cb)), .nilIface]) ho (by kernel_rfl) (by kernel_rfl)) ?_
        refine held_any 7 (Go.Op.extract (Go.Operand.tmp 10) 1) (some 17) (.nilIface) (by kernel_rfl) (by kernel_rfl) (by kernel_rfl) (by kernel_rfl) (fun _ _ _ _ _ h => h) hHeld (fun o ho w _ => exec_extract (vx := .tuple #[.agg (rsA code n' (.slice B ld cb)), .nilIface]) ho (by kernel_rfl) (by kernel_rfl)) ?_
        have hRne : 0 < ds.length → ∀ a, B = some a → a.block ≠ R := fun _ a ha => by have h1 := hnY2a3 a ha; have h2 : R < Y1a2.heap.size := lt_heap hrY1a2; omega
        refine held_skip 9 (Go.Op.store 29 (Go.Operand.tmp 6) (Go.Operand.tmp 16)) none (Y2a3.setRow R (rsA code n' (.slice B ld cb))) (by kernel_rfl) (by kernel_rfl) (fun o ho => exec_store (vx := .pointer (some ⟨R, 0, none⟩)) (vy := .agg (rsA code n' (.slice B ld cb))) ho (by kernel_rfl) (store_rowH 29 _ R _ _ _ hrY2a3 (rs_info _ _ _) rfl (rs_one _ _ _ _ _))) (turn_new hHeld (row_one _ _ _) hRD) ?_
        intro hHeld
        refine held_assign 10 (Go.Operand.tmp 17) (some 7) (.nilIface) (by kernel_rfl) (by kernel_rfl) (by kernel_rfl) (by kernel_rfl) (by kernel_rfl) (fun _ _ _ _ _ h => h) hHeld ?_
        refine wpAnyH_done (by kernel_rfl) ?_ _
        refine NoPanic.normal ?_
        try simp only [Act.put, List.setIfInBounds_toArray, List.set_cons_zero, List.set_cons_succ]
        exact ⟨by trivial, R, B, cb, B1, c1, B2, c2, rfl, fin B Y2a3 R (rsA code n' (.slice B ld cb)) hpY2a3 hrY2a3 hRW hZR hRne, setRow_heap _ _ _ _ _ _ hrY2a3, fun x hx => ⟨by have h1 := hnY2a3 x hx; have h2 := z2 B2 Y1a2 hpY1a2; omega, by have h1 := hnY2a3 x hx; have h2 := z2 B2 Y1a2 hpY1a2; omega⟩, hcY2a3, hZR⟩
    · intro _
      obtain ⟨A00, hA00⟩ : ∃ Y, Y = WD.alloc (.cells (rsA 0 0 (.slice none 0 0)) 29) := ⟨_, rfl⟩
      have hbA00 : Below WD.heap.size WD A00 := by rw [hA00]; exact below_alc _ _
      obtain ⟨R, hRe⟩ : ∃ R, R = WD.heap.size := ⟨_, rfl⟩
      have hrA00 : A00.heap[R]? = some (.cells (rsA 0 0 (.slice none 0 0)) 29 (0, 0)) := by rw [hA00, hRe]; exact heap1_0 _ _
      rw [← hA00, ← hRe]
      have hRW : W.heap.size ≤ R := by rw [hRe]; exact z0 WD hpD
      have hZR : Z < R := by rw [hRe]; exact Nat.lt_of_lt_of_le hZD hS0.size
      have hRD : WD.heap.size ≤ R := by rw [hRe]; exact hS0.size
      have hSA00 : Turn F WD A00 := hS0.trans (Turn.of_below (F := F) hbA00) (fun q hq => .inl hq)
      have hpA00 := s0 _ _ hpD hbA00
      clear hA00 hRe
      refine held_call 2 10 #[Go.Operand.tmp 12] #[27] (some 13) #[.agg (rqA op g off n (.slice A l c))] _ (by kernel_rfl) (by kernel_rfl) (by kernel_rfl) (by kernel_rfl) (k0 A00 hpA00) ?_
      rintro e Y0a1 ⟨B1, c1, rfl, hpY0a1, hbY0a1⟩
      have hSY0a1 : Turn F WD Y0a1 := hSA00.trans (Turn.of_below (F := F) hbY0a1) (fun q hq => .inl hq)
      have hrY0a1 := heap_below hrA00 hbY0a1
      refine ⟨_, rfl, hSY0a1, fun _ => ?_⟩
      refine held_call 3 27 #[Go.Operand.tmp 11, Go.Operand.tmp 13] #[58, 25] (some 14) #[.pointer (some ⟨S0, 0, none⟩), .slice B1 m c1] _ (by kernel_rfl) (by kernel_rfl) (by kernel_rfl) (by kernel_rfl) (k1 Y0a1 B1 c1 hpY0a1) ?_
      rintro e Y1a2 ⟨B2, c2, rfl, hpY1a2, htY1a2⟩
      have hSY1a2 : Turn F WD Y1a2 := hSY0a1.trans htY1a2 (fun q hq => .inl hq)
      have hrY1a2 := (htY1a2.block R (lt_heap hrY0a1) (fun hh => by have := HFF.out _ hh; omega)).trans hrY0a1
      refine ⟨_, rfl, hSY1a2, fun _ => ?_⟩
      refine held_call 4 16 #[Go.Operand.tmp 14] #[25] (some 15) #[.slice B2 m' c2] _ (by kernel_rfl) (by kernel_rfl) (by kernel_rfl) (by kernel_rfl) (k2 Y1a2 B2 c2 hpY1a2) ?_
      rintro e Y2a3 ⟨B, cb, rfl, hpY2a3, hnY2a3, hcY2a3, hbY2a3⟩
      have hSY2a3 : Turn F WD Y2a3 := hSY1a2.trans (Turn.of_below (F := F) hbY2a3) (fun q hq => .inl hq)
      have hrY2a3 := heap_below hrY1a2 hbY2a3
      refine ⟨_, rfl, hSY2a3, fun _ => ?_⟩
      have hHeld := hSY2a3
      refine held_move 5 (Go.Operand.tmp 15) (some 10) (.tuple #[.agg (rsA code n' (.slice B ld cb)), .nilIface]) (by kernel_rfl) (by kernel_rfl) (by kernel_rfl) (by kernel_rfl) (by kernel_rfl) (fun _ _ _ _ _ h => h) hHeld ?_
      refine held_any 6 (Go.Op.extract (Go.Operand.tmp 10) 0) (some 16) (.agg (rsA code n' (.slice B ld cb))) (by kernel_rfl) (by kernel_rfl) (by kernel_rfl) (by kernel_rfl) (fun _ _ _ _ _ h => h) hHeld (fun o ho w _ => exec_extract (vx := .tuple #[.agg (rsA code n' (.slice B ld cb)), .nilIface]) ho (by kernel_rfl) (by kernel_rfl)) ?_
      refine held_any 7 (Go.Op.extract (Go.Operand.tmp 10) 1) (some 17) (.nilIface) (by kernel_rfl) (by kernel_rfl) (by kernel_rfl) (by kernel_rfl) (fun _ _ _ _ _ h => h) hHeld (fun o ho w _ => exec_extract (vx := .tuple #[.agg (rsA code n' (.slice B ld cb)), .nilIface]) ho (by kernel_rfl) (by kernel_rfl)) ?_
      have hRne : 0 < ds.length → ∀ a, B = some a → a.block ≠ R := fun _ a ha => by have h1 := hnY2a3 a ha; have h2 : R < Y1a2.heap.size := lt_heap hrY1a2; omega
      refine held_skip 9 (Go.Op.store 29 (Go.Operand.tmp 6) (Go.Operand.tmp 16)) none (Y2a3.setRow R (rsA code n' (.slice B ld cb))) (by kernel_rfl) (by kernel_rfl) (fun o ho => exec_store (vx := .pointer (some ⟨R, 0, none⟩)) (vy := .agg (rsA code n' (.slice B ld cb))) ho (by kernel_rfl) (store_rowH 29 _ R _ _ _ hrY2a3 (rs_info _ _ _) rfl (rs_one _ _ _ _ _))) (turn_new hHeld (row_one _ _ _) hRD) ?_
      intro hHeld
      refine held_assign 10 (Go.Operand.tmp 17) (some 7) (.nilIface) (by kernel_rfl) (by kernel_rfl) (by kernel_rfl) (by kernel_rfl) (by kernel_rfl) (fun _ _ _ _ _ h => h) hHeld ?_
      refine wpAnyH_done (by kernel_rfl) ?_ _
      refine NoPanic.normal ?_
      try simp only [Act.put, List.setIfInBounds_toArray, List.set_cons_zero, List.set_cons_succ]
      exact ⟨by trivial, R, B, cb, B1, c1, B2, c2, rfl, fin B Y2a3 R (rsA code n' (.slice B ld cb)) hpY2a3 hrY2a3 hRW hZR hRne, setRow_heap _ _ _ _ _ _ hrY2a3, fun x hx => ⟨by have h1 := hnY2a3 x hx; have h2 := z2 B2 Y1a2 hpY1a2; omega, by have h1 := hnY2a3 x hx; have h2 := z2 B2 Y1a2 hpY1a2; omega⟩, hcY2a3, hZR⟩
  rintro a' V4 ⟨R, B, cb, B1, c1, B2, c2, rfl, hp3, h_R, hBn, hcb, hZR⟩
  simp only [put_list, List.set_cons_zero, List.set_cons_succ]
  rw [hOut.out] at hp3
  obtain ⟨hpm, htW, h_Z, hB⟩ := hp3
  clear s0 s1 s2 s3 k0 k1 k2 z0 z1 z2 z3 fin l3 hpD c8 hl8 hrq hlQ hnQ hZD hWD hWDe hOut
  go_upto_region 3 with (fail)
  try simp only [put_none]
  have hrR : V4.rangeAt R 0 (rsA code n' (.slice B ld cb)).toList := range_new h_R
  have hlR := lt_heap h_R
  have hlZ := lt_heap h_Z
  have hnR : ¬ R = Z := fun e => by omega
  have hTz : Turn (· = Z) V4 (V4.drew.setRow Z (rsA code n' (.slice B ld cb))) := row_turn (F := (· = Z)) (Turn.of_below (Below.drewNr (w := V4) 1)) rfl _
  have HFN := Lib.hid (And.intro (hB.turn hTz (fun _ a ha e => by have := (hBn a ha).2; omega)) (And.intro (fun x hx => (hBn x hx).1) (And.intro hcb (And.intro (HST.out _ _ Z _ hpm h_Z (by omega) hTz) (turn_new htW hTz (by omega))))))
  clear hB hBn hcb hpm htW hTz
  refine wp_region_noPanic ?_
  refine wp_region_held_drew (S := fun U => Turn (· = Z) V4 U) (by kernel_rfl) (Turn.of_below (Below.drewNr (w := V4) 1)) (fun hHeld => ?_)
  refine held_load 0 29 (Go.Operand.tmp 6) (some 18) (R) (0) ((rsA code n' (.slice B ld cb)).toList) _ (by kernel_rfl) (by kernel_rfl) (fun w h => h.range hrR hlR hnR) Tryd.underlying29 rfl (by rw [Array.length_toList]; exact rs_info _ _ _) (by kernel_rfl) (by kernel_rfl) (by kernel_rfl) (fun _ _ _ _ _ h => h) hHeld ?_
  refine held_move 1 (Go.Operand.tmp 7) (some 19) (.nilIface) (by kernel_rfl) (by kernel_rfl) (by kernel_rfl) (by kernel_rfl) (by kernel_rfl) (fun _ _ _ _ _ h => h) hHeld ?_
  refine held_bin 2 Go.BinOp.eql 38 (Go.Operand.tmp 19) (Go.Operand.const Go.Value.nilIface) 38 (some 20) (.nilIface) (Go.Value.nilIface) (.bool true) (by kernel_rfl) (by kernel_rfl) (fun w => by kernel_rfl) (by kernel_rfl) (by kernel_rfl) (by kernel_rfl) (fun _ _ _ _ _ h => h) hHeld ?_
  refine held_skip 3 (Go.Op.store 29 (Go.Operand.tmp 4) (Go.Operand.tmp 18)) none (V4.drew.setRow Z (rsA code n' (.slice B ld cb))) (by kernel_rfl) (by kernel_rfl) (fun o ho => exec_store (vx := .pointer (some ⟨Z, 0, none⟩)) (vy := .agg (rsA code n' (.slice B ld cb))) ho (by kernel_rfl) (store_rowH 29 _ Z _ _ _ h_Z (rs_info _ _ _) rfl (rs_one _ _ _ _ _))) (row_turn (F := (· = Z)) hHeld rfl _) ?_
  intro hHeld
  refine held_assign 4 (Go.Operand.tmp 20) (some 5) (.bool true) (by kernel_rfl) (by kernel_rfl) (by kernel_rfl) (by kernel_rfl) (by kernel_rfl) (fun _ _ _ _ _ h => h) hHeld ?_
  refine wpAnyH_done (by kernel_rfl) ?_ _
  refine NoPanic.normal ?_
  try simp only [Act.put, List.setIfInBounds_toArray, List.set_cons_zero, List.set_cons_succ]
  have hzf := setRow_heap V4.drew Z _ (rsA code n' (.slice B ld cb)) _ _ h_Z
  clear hHeld
  go_wp2_with fail
  refine bodyPost_ret (results_row_tmp rfl _ _ Z _ _ _ _ rfl hzf _ rfl Tryd.underlying29 rfl (rs_info _ _ _)) rfl ?_
  exact ⟨B, cb, rfl, HFN.out⟩
end
theorem wrap_u (m : Int) (h : 0 ≤ m ∧ m < 4294967296) : IntKind.u32.wrap m = m := by
  simp [IntKind.wrap, IntKind.signed, IntKind.bits]
  omega
theorem one_read {W : World} {G : Nat} {x : Int} (h : W.heap[G]? = some (.cells #[.int .u8 x] 5 (0, 0))) : SlRead W (some ⟨G, 0, none⟩) (ints .u8 [x]) := fun _ => ⟨G, 0, rfl, lt_heap h, fun j u hu => by have := range_new (cs := [.int .u8 x]) h j u hu; exact this⟩
theorem few_nil : Few [] := ⟨by simp, fun _ _ h => nomatch h⟩
section
variable {E : Nat → Addr} {w0 W : World} {S : Nat} {q l : Int} {U : Value} {es : List Be}
theorem Sto.resp (h : Sto E w0 W S q l U es) {V : World} {g : Nat} {cs : Array Value} (hg : W.heap[g]? = some (.cells cs 29 (0, 0))) (hlo : w0.heap.size ≤ g) (ht : Turn (· = g) W V) : Sto E w0 V S q l U es :=
  h.keep (ht.below h.be h.be.size (fun q e => by have e : q = g := e; omega)) (fun k hk => ht.block k (h.st.lt hk) (fun e => by
    have e : k = g := e
    subst e
    exact h.st.not hg (by decide) (by decide) (by decide) (by decide) hk))
theorem Sto.size (h : Sto E w0 W S q l U es) : w0.heap.size ≤ W.heap.size := h.be.size
set_option maxHeartbeats 1600000 in
theorem ask_statN (b7 b8 : Nat) (k : Nat → BitVec 8)  (h7 : W.heap[b7]? = some (.cells (arr8 32 k) 23 (0, 0))) (h8 : W.heap[b8]? = some (.cells #[.pointer (some ⟨S, 0, none⟩)] 58 (0, 0))) (h : Sto E w0 W S q l U []) :
    Calls Tryd.prog 26 #[.agg (rqA 5 zf 0 0 (.slice none 0 0)), .pointer (some ⟨b7, 0, none⟩), .pointer (some ⟨b8, 0, none⟩)] W fun r w' => ∃ B cb, r = .returned (.tuple #[.agg (rsA 14 0 (.slice B 0 cb)), .bool true]) ∧ SlRead w' B (ints .u8 []) ∧ (∀ x, B = some x → W.heap.size ≤ x.block) ∧ 0 ≤ cb ∧ (Sto E w0 w' S q l U []) ∧ Turn (stF S U []) W w' := by
  refine ask_of (PM := fun V => Sto E w0 V S q l U []) (F := stF S U []) E b7 b8 S k 5 zf 0 0 none [] 0 0 _ 14 0 [] 0 _ h7 h8 (by exact SlRead.nil_) rfl rfl (by omega) rfl rfl (by omega) (fun _ hx => nomatch hx) (by omega) (by omega) ?_ ?_ (fun k hk => h.st.lt hk) (fun hk => h.st.not h8 (by decide) (by decide) (by decide) (by decide) hk) ?_ ?_
  · exact fun V V' g cs hp hg hlo ht => hp.resp hg (Nat.le_trans h.size hlo) ht
  · exact fun V V' hp hb => hp.below hb
  · exact fun V hp => hp.errs
  · intro V A1 c1 hbV hA1
    have hV := h.below hbV
    refine (serve_err (F := stF S U []) (PM := fun V => Sto E w0 V S q l U []) E _ 5 k 0 0 [] _ 0 A1 c1 hV.errs hA1 rfl rfl (fun _ hx => nomatch hx) (by omega) (by omega) (by omega) (by omega) 13 (by omega) (fun V V' hp hb => hp.below hb) (fun k hk => hV.st.lt hk) (fun V2 B2 cb2 hb2 hB2 hBn2 hcb2 => ?_)).mono (fun e V' hh => by
      obtain ⟨A', c', e1, hA', _, _, hp, ht⟩ := hh
      exact ⟨A', c', e1, hA', hp, ht⟩)
    have h2 := hV.below hb2
    have hle := hbV.size
    have hle2 := hb2.size
    have hsz := h.size
    refine (exec_stat (W := V2) (F := stF S U []) (PM := fun V => Sto E w0 V S q l U []) _ k 0 0 (by omega) (by omega) _ _ _ 0 false (errV (E 13)) 0 0 (by decide) rfl (fun V V' g cs hp hg hlo ht => hp.resp hg (by omega) ht) (fun V V' hp hb => hp.below hb) (fun k hk => h2.st.lt hk) (fun V3 hb3 => s_statN (h2.below hb3) k (by simp) rfl)).mono ?_
    rintro e V' ⟨G, rfl, _, hp, ht⟩
    exact ⟨_, _, _, _, _, rfl, hp.errs, hp, ht⟩
set_option maxHeartbeats 1600000 in
theorem ask_open (b7 b8 : Nat) (k : Nat → BitVec 8) (n : Int) (h7 : W.heap[b7]? = some (.cells (arr8 32 k) 23 (0, 0))) (h8 : W.heap[b8]? = some (.cells #[.pointer (some ⟨S, 0, none⟩)] 58 (0, 0))) (h : Sto E w0 W S q l U []) (hn : 1 ≤ n ∧ n ≤ 30000) (hq : n ≤ q) :
    Calls Tryd.prog 26 #[.agg (rqA 1 zf 0 n (.slice none 0 0)), .pointer (some ⟨b7, 0, none⟩), .pointer (some ⟨b8, 0, none⟩)] W fun r w' => ∃ B cb, r = .returned (.tuple #[.agg (rsA 0 0 (.slice B 0 cb)), .bool true]) ∧ SlRead w' B (ints .u8 []) ∧ (∀ x, B = some x → W.heap.size ≤ x.block) ∧ 0 ≤ cb ∧ (∃ U' g, Sto E w0 w' S q l U' [newB g k n]) ∧ Turn (stF S U []) W w' := by
  refine ask_of (PM := fun V => ∃ U' g, Sto E w0 V S q l U' [newB g k n]) (F := stF S U []) E b7 b8 S k 1 zf 0 n none [] 0 0 _ 0 0 [] 0 _ h7 h8 (by exact SlRead.nil_) rfl rfl (by omega) rfl rfl (by omega) (fun _ hx => nomatch hx) (by omega) (by omega) ?_ ?_ (fun k hk => h.st.lt hk) (fun hk => h.st.not h8 (by decide) (by decide) (by decide) (by decide) hk) ?_ ?_
  · exact fun V V' g cs ⟨x0, x1, hp⟩ hg hlo ht => ⟨x0, x1, hp.resp hg (Nat.le_trans h.size hlo) ht⟩
  · exact fun V V' ⟨x0, x1, hp⟩ hb => ⟨x0, x1, hp.below hb⟩
  · exact fun V ⟨x0, x1, hp⟩ => hp.errs
  · intro V A1 c1 hbV hA1
    have hV := h.below hbV
    refine (serve_ok (F := stF S U []) (PM := fun V => ∃ U' g, Sto E w0 V S q l U' [newB g k n]) E _ 1 k 0 n [] _ 0 A1 c1 hV.errs hA1 rfl rfl (fun _ hx => nomatch hx) (by omega) (by omega) (by omega) (by omega) 0 [] 0 rfl (by omega) _ rfl (fun V V' ⟨x0, x1, hp⟩ hb => ⟨x0, x1, hp.below hb⟩) (fun k hk => hV.st.lt hk) (fun V2 B2 cb2 hb2 hB2 hBn2 hcb2 => ?_)).mono (fun e V' hh => by
      obtain ⟨A', c', e1, hA', _, _, hp, ht⟩ := hh
      exact ⟨A', c', e1, hA', hp, ht⟩)
    have h2 := hV.below hb2
    have hle := hbV.size
    have hle2 := hb2.size
    have hsz := h.size
    refine (exec_open (W := V2) (F := stF S U []) (PM := fun V => ∃ U' g, Sto E w0 V S q l U' [newB g k n]) _ k 0 n (by omega) (by omega) _ _ _ .nilIface (fun V V' g cs ⟨x0, x1, hp⟩ hg hlo ht => ⟨x0, x1, hp.resp hg (by omega) ht⟩) (fun k hk => h2.st.lt hk) (fun V3 hb3 => (s_ok (h2.below hb3) k n (by omega) (by omega) (by simp) few_nil rfl (by simpa [sumN] using hq)).mono ?_)).mono ?_
    · rintro r V' ⟨rfl, U', g, _, hp, ht, _⟩
      exact ⟨rfl, ⟨U', g, hp⟩, ht⟩
    · rintro e V' ⟨rfl, hp, ht⟩
      exact ⟨none, 0, rfl, SlRead.nil_, hp, ht⟩
set_option maxHeartbeats 1600000 in
theorem ask_put (b7 b8 : Nat) (k : Nat → BitVec 8) (off : Nat) (A : Option Addr) (ys : List Int) (m c : Nat) {e : Be} (h7 : W.heap[b7]? = some (.cells (arr8 32 k) 23 (0, 0))) (h8 : W.heap[b8]? = some (.cells #[.pointer (some ⟨S, 0, none⟩)] 58 (0, 0))) (h : Sto E w0 W S q l U [e]) (hA : SlRead W A (ints .u8 ys)) (hm : ys.length = m) (hm2 : m ≤ 200) (hy : Byts ys) (hf : [e].findIdx? (Be.is k) = some 0) (hd : e.done = false) (hoff : off ≤ e.bs.length) (hfit : (off : Int) + m ≤ e.n) (hen : 0 ≤ e.n ∧ e.n ≤ 30000) (hbn : (e.bs.length : Int) ≤ e.n) :
    Calls Tryd.prog 26 #[.agg (rqA 2 zf (off : Int) 0 (.slice A m c)), .pointer (some ⟨b7, 0, none⟩), .pointer (some ⟨b8, 0, none⟩)] W fun r w' => ∃ B cb, r = .returned (.tuple #[.agg (rsA 0 ((over e.bs off ys).length : Int) (.slice B 0 cb)), .bool true]) ∧ SlRead w' B (ints .u8 []) ∧ (∀ x, B = some x → W.heap.size ≤ x.block) ∧ 0 ≤ cb ∧ (∃ D', Sto E w0 w' S q l U [putB e D' off ys]) ∧ Turn (stF S U [e]) W w' := by
  refine ask_of (PM := fun V => ∃ D', Sto E w0 V S q l U [putB e D' off ys]) (F := stF S U [e]) E b7 b8 S k 2 zf (off : Int) 0 A ys m c _ 0 ((over e.bs off ys).length : Int) [] 0 _ h7 h8 hA hm rfl (by omega) rfl rfl (by omega) (fun _ hx => nomatch hx) (by omega) (by have := over_len e.bs ys off hoff; omega) ?_ ?_ (fun k hk => h.st.lt hk) (fun hk => h.st.not h8 (by decide) (by decide) (by decide) (by decide) hk) ?_ ?_
  · exact fun V V' g cs ⟨x0, hp⟩ hg hlo ht => ⟨x0, hp.resp hg (Nat.le_trans h.size hlo) ht⟩
  · exact fun V V' ⟨x0, hp⟩ hb => ⟨x0, hp.below hb⟩
  · exact fun V ⟨x0, hp⟩ => hp.errs
  · intro V A1 c1 hbV hA1
    have hV := h.below hbV
    refine (serve_ok (F := stF S U [e]) (PM := fun V => ∃ D', Sto E w0 V S q l U [putB e D' off ys]) E _ 2 k (off : Int) 0 ys _ m A1 c1 hV.errs hA1 rfl hm hy (by omega) (by omega) (by omega) (by omega) _ [] 0 rfl (by omega) _ rfl (fun V V' ⟨x0, hp⟩ hb => ⟨x0, hp.below hb⟩) (fun k hk => hV.st.lt hk) (fun V2 B2 cb2 hb2 hB2 hBn2 hcb2 => ?_)).mono (fun e V' hh => by
      obtain ⟨A', c', e1, hA', _, _, hp, ht⟩ := hh
      exact ⟨A', c', e1, hA', hp, ht⟩)
    have h2 := hV.below hb2
    have hle := hbV.size
    have hle2 := hb2.size
    have hsz := h.size
    have hex := (exec_put (W := V2) (F := stF S U [e]) (PM := fun V => ∃ D', Sto E w0 V S q l U [putB e D' off ys]) (.pointer (some ⟨S, 0, none⟩)) k (off : Int) 0 (by omega) (by omega) B2 m cb2 ((over e.bs off ys).length : Int) .nilIface ys hB2 (fun V V' g cs ⟨x0, hp⟩ hg hlo ht => ⟨x0, hp.resp hg (by omega) ht⟩) (fun k hk => h2.st.lt hk) (fun V3 hb3 hB3 => (s_put (h2.below hb3) k B2 ys m cb2 off hm hcb2 hB3 (fun b o e1 hk => by have h4 := hBn2 _ e1; have h5 := hV.st.lt hk; have h6 : V.heap.size ≤ b := h4; omega) (by simp) hf rfl hd hoff hfit hen hbn).mono ?_))
    · rw [wrap_u _ (by have := over_len e.bs ys off hoff; omega)] at hex
      refine hex.mono ?_
      rintro e1 V' ⟨rfl, hp, ht⟩
      exact ⟨none, 0, rfl, SlRead.nil_, hp, ht⟩
    · rintro r V' ⟨rfl, D', hp, ht, _⟩
      exact ⟨rfl, ⟨D', hp⟩, ht⟩
set_option maxHeartbeats 1600000 in
theorem ask_getS (b7 b8 : Nat) (k : Nat → BitVec 8) {e : Be} (h7 : W.heap[b7]? = some (.cells (arr8 32 k) 23 (0, 0))) (h8 : W.heap[b8]? = some (.cells #[.pointer (some ⟨S, 0, none⟩)] 58 (0, 0))) (h : Sto E w0 W S q l U [e]) (hf : [e].findIdx? (Be.is k) = some 0) (hd : e.done = false) :
    Calls Tryd.prog 26 #[.agg (rqA 4 zf 0 1 (.slice none 0 0)), .pointer (some ⟨b7, 0, none⟩), .pointer (some ⟨b8, 0, none⟩)] W fun r w' => ∃ B cb, r = .returned (.tuple #[.agg (rsA 17 0 (.slice B 0 cb)), .bool true]) ∧ SlRead w' B (ints .u8 []) ∧ (∀ x, B = some x → W.heap.size ≤ x.block) ∧ 0 ≤ cb ∧ (Sto E w0 w' S q l U [e.used]) ∧ Turn (stF S U [e]) W w' := by
  refine ask_of (PM := fun V => Sto E w0 V S q l U [e.used]) (F := stF S U [e]) E b7 b8 S k 4 zf 0 1 none [] 0 0 _ 17 0 [] 0 _ h7 h8 (by exact SlRead.nil_) rfl rfl (by omega) rfl rfl (by omega) (fun _ hx => nomatch hx) (by omega) (by omega) ?_ ?_ (fun k hk => h.st.lt hk) (fun hk => h.st.not h8 (by decide) (by decide) (by decide) (by decide) hk) ?_ ?_
  · exact fun V V' g cs hp hg hlo ht => hp.resp hg (Nat.le_trans h.size hlo) ht
  · exact fun V V' hp hb => hp.below hb
  · exact fun V hp => hp.errs
  · intro V A1 c1 hbV hA1
    have hV := h.below hbV
    refine (serve_err (F := stF S U [e]) (PM := fun V => Sto E w0 V S q l U [e.used]) E _ 4 k 0 1 [] _ 0 A1 c1 hV.errs hA1 rfl rfl (fun _ hx => nomatch hx) (by omega) (by omega) (by omega) (by omega) 16 (by omega) (fun V V' hp hb => hp.below hb) (fun k hk => hV.st.lt hk) (fun V2 B2 cb2 hb2 hB2 hBn2 hcb2 => ?_)).mono (fun e V' hh => by
      obtain ⟨A', c', e1, hA', _, _, hp, ht⟩ := hh
      exact ⟨A', c', e1, hA', hp, ht⟩)
    have h2 := hV.below hb2
    have hle := hbV.size
    have hle2 := hb2.size
    have hsz := h.size
    refine (exec_get (W := V2) (F := stF S U [e]) (PM := fun V => Sto E w0 V S q l U [e.used]) _ k 0 1 (by omega) (by omega) _ _ _ 0 [] (errV (E 16)) (fun V V' g cs hp hg hlo ht => hp.resp hg (by omega) ht) (fun k hk => h2.st.lt hk) (fun V3 hb3 => (s_getS (h2.below hb3) k (by simp) hf rfl hd 0 1).mono ?_)).mono ?_
    · rintro r V' ⟨rfl, hp, ht⟩
      exact ⟨none, 0, rfl, SlRead.nil_, (fun _ hx => nomatch hx), hp, ht⟩
    · rintro e V' ⟨D, cD, rfl, _, hp, ht⟩
      exact ⟨_, _, _, _, _, rfl, hp.errs, hp, ht⟩
set_option maxHeartbeats 1600000 in
theorem ask_commit (b7 b8 : Nat) (k : Nat → BitVec 8) {e : Be} (zs : List (BitVec 8)) (h7 : W.heap[b7]? = some (.cells (arr8 32 k) 23 (0, 0))) (h8 : W.heap[b8]? = some (.cells #[.pointer (some ⟨S, 0, none⟩)] 58 (0, 0))) (h : Sto E w0 W S q l U [e]) (hK : KAt w0) (hf : [e].findIdx? (Be.is k) = some 0) (hd : e.done = false) (hys : e.bs = bys zs) (hn : (e.bs.length : Int) = e.n) (hn2 : e.n ≤ 30000) (hq : (idl (shaOf zs) == idl k) = true) :
    Calls Tryd.prog 26 #[.agg (rqA 3 zf 0 0 (.slice none 0 0)), .pointer (some ⟨b7, 0, none⟩), .pointer (some ⟨b8, 0, none⟩)] W fun r w' => ∃ B cb, r = .returned (.tuple #[.agg (rsA 0 0 (.slice B 0 cb)), .bool true]) ∧ SlRead w' B (ints .u8 []) ∧ (∀ x, B = some x → W.heap.size ≤ x.block) ∧ 0 ≤ cb ∧ (Sto E w0 w' S q l U [doneB e]) ∧ Turn (stF S U [e]) W w' := by
  refine ask_of (PM := fun V => Sto E w0 V S q l U [doneB e]) (F := stF S U [e]) E b7 b8 S k 3 zf 0 0 none [] 0 0 _ 0 0 [] 0 _ h7 h8 (by exact SlRead.nil_) rfl rfl (by omega) rfl rfl (by omega) (fun _ hx => nomatch hx) (by omega) (by omega) ?_ ?_ (fun k hk => h.st.lt hk) (fun hk => h.st.not h8 (by decide) (by decide) (by decide) (by decide) hk) ?_ ?_
  · exact fun V V' g cs hp hg hlo ht => hp.resp hg (Nat.le_trans h.size hlo) ht
  · exact fun V V' hp hb => hp.below hb
  · exact fun V hp => hp.errs
  · intro V A1 c1 hbV hA1
    have hV := h.below hbV
    refine (serve_ok (F := stF S U [e]) (PM := fun V => Sto E w0 V S q l U [doneB e]) E _ 3 k 0 0 [] _ 0 A1 c1 hV.errs hA1 rfl rfl (fun _ hx => nomatch hx) (by omega) (by omega) (by omega) (by omega) 0 [] 0 rfl (by omega) _ rfl (fun V V' hp hb => hp.below hb) (fun k hk => hV.st.lt hk) (fun V2 B2 cb2 hb2 hB2 hBn2 hcb2 => ?_)).mono (fun e V' hh => by
      obtain ⟨A', c', e1, hA', _, _, hp, ht⟩ := hh
      exact ⟨A', c', e1, hA', hp, ht⟩)
    have h2 := hV.below hb2
    have hle := hbV.size
    have hle2 := hb2.size
    have hsz := h.size
    refine (exec_commit (W := V2) (F := stF S U [e]) (PM := fun V => Sto E w0 V S q l U [doneB e]) _ k 0 0 (by omega) (by omega) _ _ _ .nilIface (fun V V' g cs hp hg hlo ht => hp.resp hg (by omega) ht) (fun k hk => h2.st.lt hk) (fun V3 hb3 => s_commit (h2.below hb3) hK k (by simp) hf rfl hd zs hys hn hn2 hq)).mono ?_
    rintro e V' ⟨rfl, hp, ht⟩
    exact ⟨none, 0, rfl, SlRead.nil_, hp, ht⟩
set_option maxHeartbeats 1600000 in
theorem ask_get (b7 b8 : Nat) (k : Nat → BitVec 8) (off n : Nat) {e : Be} (h7 : W.heap[b7]? = some (.cells (arr8 32 k) 23 (0, 0))) (h8 : W.heap[b8]? = some (.cells #[.pointer (some ⟨S, 0, none⟩)] 58 (0, 0))) (h : Sto E w0 W S q l U [e]) (hf : [e].findIdx? (Be.is k) = some 0) (hd : e.done = true) (hn : n ≤ 200) (hfit : off + n ≤ e.bs.length) (hbn : (e.bs.length : Int) = e.n) (hen : e.n ≤ 30000) (hby : Byts e.bs) :
    Calls Tryd.prog 26 #[.agg (rqA 4 zf (off : Int) (n : Int) (.slice none 0 0)), .pointer (some ⟨b7, 0, none⟩), .pointer (some ⟨b8, 0, none⟩)] W fun r w' => ∃ B cb, r = .returned (.tuple #[.agg (rsA 0 0 (.slice B n cb)), .bool true]) ∧ SlRead w' B (ints .u8 ((e.bs.drop off).take n)) ∧ (∀ x, B = some x → W.heap.size ≤ x.block) ∧ n ≤ cb ∧ (Sto E w0 w' S q l U [e.used]) ∧ Turn (stF S U [e]) W w' := by
  have hcl : ((e.bs.drop off).take n).length = n := by simp; omega
  refine ask_of (PM := fun V => Sto E w0 V S q l U [e.used]) (F := stF S U [e]) E b7 b8 S k 4 zf (off : Int) (n : Int) none [] 0 0 _ 0 0 ((e.bs.drop off).take n) n _ h7 h8 (by exact SlRead.nil_) rfl rfl (by omega) hcl rfl (by omega) ((hby.rest off).cut n) (by omega) (by omega) ?_ ?_ (fun k hk => h.st.lt hk) (fun hk => h.st.not h8 (by decide) (by decide) (by decide) (by decide) hk) ?_ ?_
  · exact fun V V' g cs hp hg hlo ht => hp.resp hg (Nat.le_trans h.size hlo) ht
  · exact fun V V' hp hb => hp.below hb
  · exact fun V hp => hp.errs
  · intro V A1 c1 hbV hA1
    have hV := h.below hbV
    refine (serve_ok (F := stF S U [e]) (PM := fun V => Sto E w0 V S q l U [e.used]) E _ 4 k (off : Int) (n : Int) [] _ 0 A1 c1 hV.errs hA1 rfl rfl (fun _ hx => nomatch hx) (by omega) (by omega) (by omega) (by omega) 0 ((e.bs.drop off).take n) n hcl (by omega) _ rfl (fun V V' hp hb => hp.below hb) (fun k hk => hV.st.lt hk) (fun V2 B2 cb2 hb2 hB2 hBn2 hcb2 => ?_)).mono (fun e V' hh => by
      obtain ⟨A', c', e1, hA', _, _, hp, ht⟩ := hh
      exact ⟨A', c', e1, hA', hp, ht⟩)
    have h2 := hV.below hb2
    have hle := hbV.size
    have hle2 := hb2.size
    have hsz := h.size
    refine (exec_get (W := V2) (F := stF S U [e]) (PM := fun V => Sto E w0 V S q l U [e.used]) _ k (off : Int) (n : Int) (by omega) (by omega) _ _ _ n ((e.bs.drop off).take n) .nilIface (fun V V' g cs hp hg hlo ht => hp.resp hg (by omega) ht) (fun k hk => h2.st.lt hk) (fun V3 hb3 => (s_get (h2.below hb3) k (by simp) hf rfl hd off n hn hfit hbn hen).mono ?_)).mono ?_
    · rintro r V' ⟨D, cD, rfl, hp, ht, hown⟩
      obtain ⟨_, _, he, _, _, h9⟩ := own_slice hown
      cases he
      exact ⟨D, cD, rfl, SlRead.of_own hown, fun x hx => (h9 x hx).1, hp, ht⟩
    · rintro e1 V' ⟨D, cD, rfl, hD, hp, ht⟩
      exact ⟨D, cD, rfl, hD, hp, ht⟩
set_option maxHeartbeats 1600000 in
theorem ask_stat (b7 b8 : Nat) (k : Nat → BitVec 8) {e : Be} (h7 : W.heap[b7]? = some (.cells (arr8 32 k) 23 (0, 0))) (h8 : W.heap[b8]? = some (.cells #[.pointer (some ⟨S, 0, none⟩)] 58 (0, 0))) (h : Sto E w0 W S q l U [e]) (hf : [e].findIdx? (Be.is k) = some 0) (hd : e.done = true) (hbn : e.bs.length ≤ 30000) :
    Calls Tryd.prog 26 #[.agg (rqA 5 zf 0 0 (.slice none 0 0)), .pointer (some ⟨b7, 0, none⟩), .pointer (some ⟨b8, 0, none⟩)] W fun r w' => ∃ B cb, r = .returned (.tuple #[.agg (rsA 0 (e.bs.length : Int) (.slice B 1 cb)), .bool true]) ∧ SlRead w' B (ints .u8 [1]) ∧ (∀ x, B = some x → W.heap.size ≤ x.block) ∧ 1 ≤ cb ∧ (Sto E w0 w' S q l U [e.used]) ∧ Turn (stF S U [e]) W w' := by
  refine ask_of (PM := fun V => Sto E w0 V S q l U [e.used]) (F := stF S U [e]) E b7 b8 S k 5 zf 0 0 none [] 0 0 _ 0 (e.bs.length : Int) [1] 1 _ h7 h8 (by exact SlRead.nil_) rfl rfl (by omega) rfl rfl (by omega) (fun x hx => by rw [List.mem_singleton.1 hx]; omega) (by omega) (by omega) ?_ ?_ (fun k hk => h.st.lt hk) (fun hk => h.st.not h8 (by decide) (by decide) (by decide) (by decide) hk) ?_ ?_
  · exact fun V V' g cs hp hg hlo ht => hp.resp hg (Nat.le_trans h.size hlo) ht
  · exact fun V V' hp hb => hp.below hb
  · exact fun V hp => hp.errs
  · intro V A1 c1 hbV hA1
    have hV := h.below hbV
    refine (serve_ok (F := stF S U [e]) (PM := fun V => Sto E w0 V S q l U [e.used]) E _ 5 k 0 0 [] _ 0 A1 c1 hV.errs hA1 rfl rfl (fun _ hx => nomatch hx) (by omega) (by omega) (by omega) (by omega) (e.bs.length : Int) [1] 1 rfl (by omega) _ rfl (fun V V' hp hb => hp.below hb) (fun k hk => hV.st.lt hk) (fun V2 B2 cb2 hb2 hB2 hBn2 hcb2 => ?_)).mono (fun e V' hh => by
      obtain ⟨A', c', e1, hA', _, _, hp, ht⟩ := hh
      exact ⟨A', c', e1, hA', hp, ht⟩)
    have h2 := hV.below hb2
    have hle := hbV.size
    have hle2 := hb2.size
    have hsz := h.size
    have hex := exec_stat (W := V2) (F := stF S U [e]) (PM := fun V => Sto E w0 V S q l U [e.used]) (.pointer (some ⟨S, 0, none⟩)) k 0 0 (by omega) (by omega) B2 0 cb2 (e.bs.length : Int) e.done .nilIface (e.bs.length : Int) 1 (wrap_u _ (by omega)) (by rw [hd]; rfl) (fun V V' g cs hp hg hlo ht => hp.resp hg (by omega) ht) (fun V V' hp hb => hp.below hb) (fun k hk => h2.st.lt hk) (fun V3 hb3 => s_stat (h2.below hb3) k (by simp) hf rfl)
    refine hex.mono ?_
    rintro e1 V' ⟨G, rfl, hG, hp, ht⟩
    exact ⟨_, _, rfl, one_read hG, hp, ht⟩
set_option maxHeartbeats 1600000 in
theorem ask_delete (b7 b8 : Nat) (k : Nat → BitVec 8) {e : Be} (h7 : W.heap[b7]? = some (.cells (arr8 32 k) 23 (0, 0))) (h8 : W.heap[b8]? = some (.cells #[.pointer (some ⟨S, 0, none⟩)] 58 (0, 0))) (h : Sto E w0 W S q l U [e]) (hf : Be.is k e = true) :
    Calls Tryd.prog 26 #[.agg (rqA 6 zf 0 0 (.slice none 0 0)), .pointer (some ⟨b7, 0, none⟩), .pointer (some ⟨b8, 0, none⟩)] W fun r w' => ∃ B cb, r = .returned (.tuple #[.agg (rsA 0 0 (.slice B 0 cb)), .bool true]) ∧ SlRead w' B (ints .u8 []) ∧ (∀ x, B = some x → W.heap.size ≤ x.block) ∧ 0 ≤ cb ∧ (∃ U', Sto E w0 w' S q l U' []) ∧ Turn (stF S U [e]) W w' := by
  refine ask_of (PM := fun V => ∃ U', Sto E w0 V S q l U' []) (F := stF S U [e]) E b7 b8 S k 6 zf 0 0 none [] 0 0 _ 0 0 [] 0 _ h7 h8 (by exact SlRead.nil_) rfl rfl (by omega) rfl rfl (by omega) (fun _ hx => nomatch hx) (by omega) (by omega) ?_ ?_ (fun k hk => h.st.lt hk) (fun hk => h.st.not h8 (by decide) (by decide) (by decide) (by decide) hk) ?_ ?_
  · exact fun V V' g cs ⟨x0, hp⟩ hg hlo ht => ⟨x0, hp.resp hg (Nat.le_trans h.size hlo) ht⟩
  · exact fun V V' ⟨x0, hp⟩ hb => ⟨x0, hp.below hb⟩
  · exact fun V ⟨x0, hp⟩ => hp.errs
  · intro V A1 c1 hbV hA1
    have hV := h.below hbV
    refine (serve_ok (F := stF S U [e]) (PM := fun V => ∃ U', Sto E w0 V S q l U' []) E _ 6 k 0 0 [] _ 0 A1 c1 hV.errs hA1 rfl rfl (fun _ hx => nomatch hx) (by omega) (by omega) (by omega) (by omega) 0 [] 0 rfl (by omega) _ rfl (fun V V' ⟨x0, hp⟩ hb => ⟨x0, hp.below hb⟩) (fun k hk => hV.st.lt hk) (fun V2 B2 cb2 hb2 hB2 hBn2 hcb2 => ?_)).mono (fun e V' hh => by
      obtain ⟨A', c', e1, hA', _, _, hp, ht⟩ := hh
      exact ⟨A', c', e1, hA', hp, ht⟩)
    have h2 := hV.below hb2
    have hle := hbV.size
    have hle2 := hb2.size
    have hsz := h.size
    refine (exec_delete (W := V2) (F := stF S U [e]) (PM := fun V => ∃ U', Sto E w0 V S q l U' []) _ k 0 0 (by omega) (by omega) _ _ _ .nilIface (fun V V' g cs ⟨x0, hp⟩ hg hlo ht => ⟨x0, hp.resp hg (by omega) ht⟩) (fun k hk => h2.st.lt hk) (fun V3 hb3 => (s_delete (h2.below hb3) k hf).mono ?_)).mono ?_
    · rintro r V' ⟨rfl, U', hp, ht⟩
      exact ⟨rfl, ⟨U', hp⟩, ht⟩
    · rintro e1 V' ⟨rfl, hp, ht⟩
      exact ⟨none, 0, rfl, SlRead.nil_, hp, ht⟩
end
/-- the file's bytes -/
def fileZ (z : Int) (L : Nat) : List (BitVec 8) := (fileL z L).map UInt8.toBitVec
theorem fileZ_len (z : Int) (L : Nat) : (fileZ z L).length = L := by simp [fileZ, fileL_len]
theorem n8_uF (u : UInt8) : cellB u = .int .u8 (n8 u.toBitVec) := by
  unfold cellB
  rw [n8N]
  rfl
theorem fileZ_cells (z : Int) (L : Nat) : bcells (fileL z L) = ints .u8 (bys (fileZ z L)) := by
  unfold bcells fileZ
  rw [bys_ints, List.map_map]
  exact List.map_congr_left fun u _ => n8_uF u
theorem bys_byts (zs : List (BitVec 8)) : Byts (bys zs) := fun x hx => by
  unfold bys at hx
  obtain ⟨b, _, rfl⟩ := List.mem_map.1 hx
  have := b.isLt
  rw [n8N]
  omega
/-- what stays while it asks -/
structure GoS (E : Nat → Addr) (w w0 W : World) (S b7 b8 R : Nat) (k : Nat → BitVec 8) (A : Option Addr) (xs : List Int) (row : Array Value) (U : Value) (es : List Be) : Prop where
  s : Sto E w0 W S 2000 1000 U es
  h7 : W.heap[b7]? = some (.cells (arr8 32 k) 23 (0, 0))
  h8 : W.heap[b8]? = some (.cells #[.pointer (some ⟨S, 0, none⟩)] 58 (0, 0))
  hR : W.heap[R]? = some (.cells row 29 (0, 0))
  f : SlRead W A (ints .u8 xs)
  fl : 0 < xs.length → ∀ a, A = some a → a.block < w0.heap.size
  b : Below w.heap.size w W
  n : w.heap.size ≤ w0.heap.size
  r7 : b7 ≠ R
  r8 : b8 ≠ R
  rl : w0.heap.size ≤ R
section
variable {E : Nat → Addr} {w w0 W : World} {S b7 b8 R : Nat} {k : Nat → BitVec 8} {A : Option Addr} {xs : List Int} {row : Array Value} {U : Value} {es : List Be}
theorem GoS.step (h : GoS E w w0 W S b7 b8 R k A xs row U es) {W' : World} {U' : Value} {es' : List Be} (hs : Sto E w0 W' S 2000 1000 U' es') (ht : Turn (stF S U es) W W') : GoS E w w0 W' S b7 b8 R k A xs row U' es' :=
  ⟨hs, (ht.block b7 (lt_heap h.h7) (fun y => h.s.st.not h.h7 (by decide) (by decide) (by decide) (by decide) y)).trans h.h7,
   (ht.block b8 (lt_heap h.h8) (fun y => h.s.st.not h.h8 (by decide) (by decide) (by decide) (by decide) y)).trans h.h8,
   (ht.block R (lt_heap h.hR) (fun y => h.s.st.not h.hR (by decide) (by decide) (by decide) (by decide) y)).trans h.hR,
   h.f.turn ht (fun h0 a ha y => by have h1 := h.fl (by simpa using h0) a ha; have h2 := h.s.lo _ y; omega), h.fl,
   ht.below h.b h.b.size (fun q y => Nat.le_trans h.n (h.s.lo q y)), h.n, h.r7, h.r8, h.rl⟩
theorem GoS.below (h : GoS E w w0 W S b7 b8 R k A xs row U es) {W' : World} (hb : Below W.heap.size W W') : GoS E w w0 W' S b7 b8 R k A xs row U es :=
  ⟨h.s.below hb, heap_below h.h7 hb, heap_below h.h8 hb, heap_below h.hR hb, h.f.below hb, h.fl, h.b.trans (hb.mono h.b.size), h.n, h.r7, h.r8, h.rl⟩
/-- the response is laid anew -/
theorem GoS.put (h : GoS E w w0 W S b7 b8 R k A xs row U es) (row' : Array Value) : GoS E w w0 (W.setRow R row') S b7 b8 R k A xs row' U es := by
  have hT := row_one W R row'
  exact ⟨h.s.resp h.hR h.rl hT, (hT.block b7 (lt_heap h.h7) h.r7).trans h.h7, (hT.block b8 (lt_heap h.h8) h.r8).trans h.h8, setRow_heap _ _ _ _ _ _ h.hR,
   h.f.turn hT (fun h0 a ha y => by have h1 := h.fl (by simpa using h0) a ha; have h2 := h.rl; have e : a.block = R := y; omega), h.fl,
   hT.below h.b h.b.size (fun q e => by have e : q = R := e; have h1 := h.rl; have h2 := h.n; omega), h.n, h.r7, h.r8, h.rl⟩
end
theorem code_14 (E : Nat → Addr) (w : World) (h : ErrsAt E w) : Calls Tryd.prog 28 #[errV (E 13)] w fun e w' => e = .returned (.int .i64 14) ∧ Below w.heap.size w w' := code_e E 13 (by decide) w h
theorem code_17 (E : Nat → Addr) (w : World) (h : ErrsAt E w) : Calls Tryd.prog 28 #[errV (E 16)] w fun e w' => e = .returned (.int .i64 17) ∧ Below w.heap.size w w' := code_e E 16 (by decide) w h
theorem minT (a L : Nat) (h : a < L) : ∃ T : Nat, a < T ∧ T ≤ L ∧ T ≤ a + 200 ∧ (T = a + 200 ∨ T = L) ∧ (if (L : Int) < (a : Int) + 200 then (L : Int) else (a : Int) + 200) = (T : Int) := by
  rcases Nat.lt_or_ge L (a + 200) with h1 | h1
  · exact ⟨L, h, Nat.le_refl _, by omega, .inr rfl, by rw [if_pos (by omega)]⟩
  · exact ⟨a + 200, by omega, h1, Nat.le_refl _, .inl rfl, by rw [if_neg (by omega)]; omega⟩
theorem cvt_u32n (a : Nat) (h : a ≤ 2000) (w : World) : (convert 3 24 (.int .i64 (a : Int))).run Tryd.prog w = .ok (.int .u32 (a : Int)) w := by
  have := cvt_i64u (a : Int) w
  rwa [wrap_u _ (by omega)] at this
theorem natT (T : Nat) (h : T ≤ 100000) : 0 ≤ (T : Int) ∧ (T : Int) < 4294967296 := by omega
theorem wrapT (a : Nat) (h : a ≤ 2000) : wrap64 ((a : Int) + 200) = (a : Int) + 200 := by unfold wrap64; omega
theorem is_kid {e : Be} {k : Nat → BitVec 8} (h : e.f = k) : Be.is k e = true := by
  unfold Be.is
  rw [h]
  simp
theorem over_takeA (l : List Int) (a m : Nat) (h : a + m ≤ l.length) : over (l.take a) a ((l.drop a).take m) = l.take (a + m) := by
  unfold over
  have h1 : (l.take a).take a = l.take a := by rw [List.take_take, Nat.min_self]
  have h2 : (l.take a).drop (a + ((l.drop a).take m).length) = [] := List.drop_of_length_le (by simp; omega)
  rw [h1, h2, List.append_nil, List.take_add]
theorem minG (a L : Nat) (h : a < L) (hL : L ≤ 600) : ∃ m : Nat, 1 ≤ m ∧ m ≤ 200 ∧ a + m ≤ L ∧ (m = 200 ∨ a + m = L) ∧ wrap64 ((L : Int) - (a : Int)) = (L : Int) - (a : Int) ∧ (if (L : Int) - (a : Int) < 200 then (L : Int) - (a : Int) else 200) = (m : Int) := by
  have hw : wrap64 ((L : Int) - (a : Int)) = (L : Int) - (a : Int) := by unfold wrap64; omega
  rcases Nat.lt_or_ge (L - a) 200 with h1 | h1
  · exact ⟨L - a, by omega, by omega, by omega, .inr (by omega), hw, by rw [if_pos (by omega)]; omega⟩
  · exact ⟨200, by omega, by omega, by omega, .inl rfl, hw, by rw [if_neg (by omega)]; rfl⟩
theorem own_turnF {F : Nat → Prop} {w w' : World} {base n size : Nat} {t : TypeId} {v : Value} {xs : List Value} (h : w.ownsRow base t size v n xs) (ht : Turn F w w') (hF : ∀ q, F q → q < base) : w'.ownsRow base t size v n xs :=
  ownsRow_via h fun g h1 h2 => ht.block g h2 (fun y => by have := hF g y; omega)
section
variable {E : Nat → Addr} {w w0 W : World} {S b7 b8 R : Nat} {k : Nat → BitVec 8} {A : Option Addr} {xs : List Int} {row : Array Value} {U : Value} {es : List Be}
/-- what lies behind a number may be turned -/
theorem GoS.grow (h : GoS E w w0 W S b7 b8 R k A xs row U es) {W' : World} {F : Nat → Prop} {b0 : Nat} (ht : Turn F W W') (hF : ∀ q, F q → b0 ≤ q) (h0 : ∀ q, stF S U es q → q < b0) (k7 : b7 < b0) (k8 : b8 < b0) (kR : R < b0) : GoS E w w0 W' S b7 b8 R k A xs row U es := by
  have hw0 : w0.heap.size ≤ b0 := by have := h.rl; omega
  have hn := h.n
  exact ⟨h.s.keep (ht.below h.s.be h.s.be.size (fun q y => by have := hF q y; omega)) (fun q hq => ht.block q (h.s.st.lt hq) (fun y => by have := hF q y; have := h0 q hq; omega)),
   (ht.block b7 (lt_heap h.h7) (fun y => by have := hF b7 y; omega)).trans h.h7, (ht.block b8 (lt_heap h.h8) (fun y => by have := hF b8 y; omega)).trans h.h8,
   (ht.block R (lt_heap h.hR) (fun y => by have := hF R y; omega)).trans h.hR,
   h.f.turn ht (fun h1 a ha y => by have h2 := h.fl (by simpa using h1) a ha; have := hF _ y; omega), h.fl,
   ht.below h.b h.b.size (fun q y => by have := hF q y; omega), h.n, h.r7, h.r8, h.rl⟩
end
theorem err_zero (E : Nat → Addr) (w : World) (h : ErrsAt E w) : Calls Tryd.prog 31 #[.int .i64 0] w fun e w' => e = .returned .nilIface ∧ Below w.heap.size w w' := by
  have hb : Below w.heap.size w (w.alloc (.cells (errRow E) 38)) := (Below.refl _ _).alloc (Nat.le_refl _) _
  have hli := errlist_any E w h
  clear h
  go_enter Tryd.func31, Tryd.ntmps31
  go_wp2_with fail
  refine hli.mono ?_
  rintro e W ⟨rfl, hW⟩
  rw [← hW] at hb
  have HB := Lib.hid hb
  clear hli hW hb
  go_wp2_with fail
  go_ret
  exact ⟨rfl, HB.out⟩
theorem take_more (l : List Int) (a m L : Nat) (hl : l.length = L) (h : a + m ≤ L) (h2 : m ≤ 200) (hm : m = 200 ∨ a + m = L) : l.take a ++ (l.drop a).take m = l.take (a + 200) := by
  rw [← List.take_add]
  rcases hm with rfl | h1
  · rfl
  · rw [h1, List.take_of_length_le (by omega), List.take_of_length_le (by omega)]
theorem same_bG (A B : Option Addr) (xs : List Int) (m ca cb : Nat) (w : World) (hA : SlRead w A (ints .u8 xs)) (hB : SlRead w B (ints .u8 xs)) (hm : xs.length = m) (hx : m ≤ 100000000) :
    Calls Tryd.prog 9 #[.slice A m ca, .slice B m cb] w fun e w' => e = .returned (.bool true) ∧ Below w.heap.size w w' := by
  subst hm
  refine (same_eqH A B xs ca cb w hA hB hx).mono ?_
  rintro e w' ⟨rfl, k, rfl⟩
  exact ⟨rfl, Below.drewNr k⟩
theorem cut_byts (zs : List (BitVec 8)) (l : List Int) (h : l = bys zs) : Byts l := by rw [h]; exact bys_byts zs
theorem one_cell {W : World} {B : Option Addr} {x : Int} (h : SlRead W B (ints .u8 [x])) : ∃ b o, B = some ⟨b, o, none⟩ ∧ W.cell? ⟨b, o, none⟩ = some (.int .u8 x) := by
  obtain ⟨b, o, e, _, hr⟩ := h (by simp)
  exact ⟨b, o, e, by have := hr 0 (.int .u8 x) (by simp [ints]); simpa using this⟩
set_option maxRecDepth 100000 in
set_option maxHeartbeats 12800000 in
theorem goes_walk (E : Nat → Addr) (n size : Int) (w : World) (hE : ErrsAt E w) (hK : KAt w) :
    Calls Tryd.prog 5 #[.int .i64 n, .int .i64 size] w fun e w' => e = .returned (.bool true) ∧ Below w.heap.size w w' := by
  obtain ⟨L, hL⟩ : ∃ L : Nat, size % 600 = (L : Int) - 1 := ⟨(size % 600 + 1).toNat, by have := Int.emod_nonneg size (show (600 : Int) ≠ 0 by decide); omega⟩
  have hL1 : 1 ≤ L ∧ L ≤ 600 := by have h1 := Int.emod_nonneg size (show (600 : Int) ≠ 0 by decide); have h2 := Int.emod_lt_of_pos size (show (0 : Int) < 600 by decide); omega
  have HN := fun w => num_b size 600 ((L : Int) - 1) w (by decide) hL
  have hw1 : wrap64 ((L : Int) - 1 + 1) = (L : Int) := by unfold wrap64; omega
  have HK := Lib.hid hK
  clear hL hK
  go_enter Tryd.func5, Tryd.ntmps5
  have HC := ffirst_any E w hE
  have HE0 := Lib.hid hE
  clear hE
  go_wp2_with fail
  refine HC.mono ?_
  rintro e V1 ⟨rfl, hb1⟩
  clear HC
  have HC := HN V1
  clear HN
  go_wp2_with fail
  refine HC.mono ?_
  rintro e V2 ⟨rfl, hb2⟩
  have hb := hb1.trans (hb2.mono hb1.size)
  clear HC hb1 hb2
  have HC := file_any n L (by omega) V2
  go_upto_region 5 with (fail)
  clear hw1
  go_wp2_with fail
  refine HC.mono ?_
  rintro e V3 ⟨A, c, rfl, hown, hb3⟩
  obtain ⟨_, _, hce, hcL, _⟩ := own_slice hown
  cases hce
  have HCL := Lib.hid hcL
  clear hcL
  obtain ⟨zs, hzs⟩ : ∃ zs, zs = fileZ n L := ⟨_, rfl⟩
  have hzl : zs.length = L := by rw [hzs]; exact fileZ_len n L
  have hA : SlRead V3 A (ints .u8 (bys zs)) := by rw [hzs, ← fileZ_cells]; exact SlRead.of_own hown
  replace hb := hb.trans (hb3.mono hb.size)
  have HZ := Lib.hid hzl
  clear HC hown hb3 hzs
  have HC := dsum_any A zs c V3 hA (by omega)
  rw [hzl] at HC
  clear hzl
  go_wp2_with fail
  refine HC.mono ?_
  rintro e V4 ⟨rfl, hb4⟩
  replace hA := hA.below hb4
  replace hb := hb.trans (hb4.mono hb.size)
  clear HC hb4
  obtain ⟨k, hk⟩ : ∃ k, k = shaOf zs := ⟨_, rfl⟩
  rw [← hk]
  have HKK := Lib.hid hk
  clear hk
  have hinf : (Tryd.prog.info? 23).map (·.size) = some (arr8 32 k).size := by simp only [arr8_size]; kernel_rfl
  go_upto_region 7 with (refine wpList_store_row rfl 23 _ _ rfl V4.heap.size (arr8 32 k) rfl rfl _ _ (heap_alloc_new _ _) hinf (by simp only [arr8_size]; kernel_rfl) (arr8_one _ _) ?_)
  obtain ⟨b7, hb7⟩ : ∃ b, b = V4.heap.size := ⟨_, rfl⟩
  refine wp_world (fun V => Below w.heap.size w V ∧ SlRead V A (ints .u8 (bys zs)) ∧ V.heap[b7]? = some (.cells (arr8 32 k) 23 (0, 0))) ?_ ?_
  · rw [alloc_setRow, hb7]
    have hbb := below_alc V4 (.cells (arr8 32 k) 23)
    exact ⟨hb.trans (hbb.mono hb.size), hA.below hbb, heap1_0 _ _⟩
  rw [← hb7]
  clear hb hA hb7 hinf
  rintro V5 ⟨hb, hA, h7⟩
  have HC := s_new (q := 2000) (l := 1000) (HE0.out.below hb) (by omega)
  go_wp2_with fail
  refine HC.mono ?_
  rintro e V6 ⟨rfl, hs6⟩
  obtain ⟨S, hS⟩ : ∃ S, S = V5.heap.size := ⟨_, rfl⟩
  rw [← hS] at hs6
  go_upto_region 8 with (fail)
  obtain ⟨b8, hb8⟩ : ∃ b, b = V6.heap.size := ⟨_, rfl⟩
  refine wp_world (fun V => Sto E V5 V S 2000 1000 (.slice none 0 0) [] ∧ V.heap[b7]? = some (.cells (arr8 32 k) 23 (0, 0)) ∧ V.heap[b8]? = some (.cells #[.pointer (some ⟨S, 0, none⟩)] 58 (0, 0)) ∧ SlRead V A (ints .u8 (bys zs)) ∧ Below V5.heap.size V5 V) ?_ ?_
  · have hbT := below_alc V6 (.cells #[.pointer (some ⟨V5.heap.size, 0, none⟩)] 58)
    have hb56 : Below V5.heap.size V5 V6 := hs6.be
    refine ⟨hs6.below hbT, heap_below (heap_below h7 hb56) hbT, ?_, (hA.below hb56).below hbT, hb56.trans (hbT.mono hb56.size)⟩
    rw [hb8, hS]
    exact heap1_0 _ _
  rintro V7 ⟨hs, h7n, h8, hA', hb57⟩
  rw [← hb8]
  try rw [← hS]
  have hAl := sl_lt hA
  have hn : w.heap.size ≤ V5.heap.size := hb.size
  have HB5 := Lib.hid hb
  clear HC hs6 hS hb8 hA hb h7
  have hA := hA'
  have h7 := h7n
  clear hA' h7n
  have c8 := cell_heap (i := 0) h8 rfl
  have HC := ask_statN b7 b8 k h7 h8 hs
  go_upto_region 11 with (fail)
  have hcf : ∀ (w : World) (args : Array Value), True := fun _ _ => trivial
  clear hcf c8
  go_wp2_with (refine wpList_build rfl 27 _ rfl #[(0, .int .i64 5)] (by kernel_rfl) (.agg (rqA 5 zf 0 0 (.slice none 0 0))) (fun _ => by kernel_rfl) ?_)
  refine HC.mono ?_
  rintro e V8 ⟨B1, c1, rfl, _, _, _, hs8, ht8⟩
  have h7' := (ht8.block b7 (lt_heap h7) (fun y => hs.st.not h7 (by decide) (by decide) (by decide) (by decide) y)).trans h7
  have h8' := (ht8.block b8 (lt_heap h8) (fun y => hs.st.not h8 (by decide) (by decide) (by decide) (by decide) y)).trans h8
  have hA' := hA.turn ht8 (fun h0 a ha y => by have h1 := hAl (by simpa using h0) a ha; have h2 := hs.lo _ y; omega)
  have hb8' : Below w.heap.size w V8 := (ht8.below hb57 hb57.size (fun q y => hs.lo q y)) |> fun x => HB5.out.trans (x.mono hn)
  obtain ⟨R, hR⟩ : ∃ R, R = V8.heap.size := ⟨_, rfl⟩
  have hb58 : V5.heap.size ≤ V8.heap.size := hs8.size
  have hlt7 := lt_heap h7'
  have hlt8 := lt_heap h8'
  clear HC hs ht8 h7 h8 hA hb57
  go_upto_region 12 with (refine wpList_store_row rfl 29 _ _ rfl V8.heap.size (rsA 14 0 (.slice B1 0 c1)) rfl rfl _ _ (heap_alloc_new _ _) (rs_info _ _ _) (by kernel_rfl) (rs_one _ _ _ _ _) ?_)
  refine wp_world (fun V => GoS E w V5 V S b7 b8 R k A (bys zs) (rsA 14 0 (.slice B1 0 c1)) (.slice none 0 0) []) ?_ ?_
  · rw [alloc_setRow, hR]
    have hbb := below_alc V8 (.cells (rsA 14 0 (.slice B1 0 c1)) 29)
    exact ⟨hs8.below hbb, heap_below h7' hbb, heap_below h8' hbb, heap1_0 _ _, hA'.below hbb, hAl, hb8'.trans (hbb.mono hb8'.size), hn, by omega, by omega, hb58⟩
  rw [← hR]
  clear h7' h8' hA' hb8' hR hb58 hlt7 hlt8 hs8 hAl
  rintro V9 hG
  have c0 := cell_heap hG.hR (rs_c0 _ _ _)
  have hRl := lt_heap hG.hR
  have HE9 := Lib.hid hG.s.errs
  have cE : V9.cell? ⟨0, 0, none⟩ = some (errV (E 13)) := HE9.out.c 13 (by decide)
  try simp only [put_none]
  refine wp_region_noPanic ?_
  refine wp_region_held_drew (S := fun V => Below V9.heap.size V9 V) (by kernel_rfl) (Below.drewNr (w := V9) 1) (fun hHeld => ?_)
  refine held_move 0 (Go.Operand.tmp 11) (some 37) (.bool true) (by kernel_rfl) (by kernel_rfl) (by kernel_rfl) (by kernel_rfl) (by kernel_rfl) (fun _ _ _ _ _ h => h) hHeld ?_
  refine held_any 1 (Go.Op.unOp Go.UnOp.not 4 (Go.Operand.tmp 37)) (some 38) (.bool false) (by kernel_rfl) (by kernel_rfl) (by kernel_rfl) (by kernel_rfl) (fun _ _ _ _ _ h => h) hHeld (fun o ho w _ => exec_un (vx := .bool true) ho (by kernel_rfl) (by kernel_rfl)) ?_
  refine held_move 2 (Go.Operand.tmp 38) (some 39) (.bool false) (by kernel_rfl) (by kernel_rfl) (by kernel_rfl) (by kernel_rfl) (by kernel_rfl) (fun _ _ _ _ _ h => h) hHeld ?_
  refine held_field 3 29 (Go.Operand.tmp 10) 0 (some 40) (.pointer (some ⟨R, 0, none⟩)) (.pointer (some ⟨R, 0, none⟩)) (by kernel_rfl) (by kernel_rfl) (fun w => by kernel_rfl) (by kernel_rfl) (by kernel_rfl) (by kernel_rfl) (fun _ _ _ _ _ h => h) hHeld ?_
  refine held_cell 4 3 (Go.Operand.tmp 40) (some 41) (.pointer (some ⟨R, 0, none⟩)) (.int .i64 14) (by kernel_rfl) (by kernel_rfl) (fun V hV => load_i64 R 0 V _ ((hV.cell (p := ⟨R, 0, none⟩) hRl).trans c0)) (by kernel_rfl) (by kernel_rfl) (by kernel_rfl) (fun _ _ _ _ _ h => h) hHeld ?_
  refine held_cell 5 38 (Go.Operand.global 0) (some 42) (.pointer (some ⟨0, 0, none⟩)) (errV (E 13)) (by kernel_rfl) (by kernel_rfl) (fun V hV => load_err 0 0 V _ ((hV.cell (p := ⟨0, 0, none⟩) (cell_lt cE)).trans cE)) (by kernel_rfl) (by kernel_rfl) (by kernel_rfl) (fun _ _ _ _ _ h => h) hHeld ?_
  refine held_call 6 28 #[Go.Operand.tmp 42] #[38] (some 43) #[errV (E 13)] _ (by kernel_rfl) (by kernel_rfl) (by kernel_rfl) (by kernel_rfl) (code_14 E _ (HE9.out.below hHeld)) ?_
  rintro e VX ⟨rfl, hbX⟩
  refine ⟨_, rfl, hHeld.trans (hbX.mono hHeld.size), fun hHeld => ?_⟩
  refine held_bin 7 Go.BinOp.neq 3 (Go.Operand.tmp 41) (Go.Operand.tmp 43) 3 (some 44) (.int .i64 14) (.int .i64 14) (.bool false) (by kernel_rfl) (by kernel_rfl) (fun w => neq_int _ _ _ w _ _ _ false (by simp)) (by kernel_rfl) (by kernel_rfl) (by kernel_rfl) (fun _ _ _ _ _ h => h) hHeld ?_
  refine held_pick 8 (Go.Operand.tmp 39) (Go.Operand.const (Go.Value.bool true)) (Go.Operand.tmp 44) (some 45) false (.bool false) (by kernel_rfl) (by kernel_rfl) (by kernel_rfl) (by kernel_rfl) (by kernel_rfl) (by kernel_rfl) (fun _ _ _ _ _ h => h) hHeld ?_
  refine wpAnyH_done (by kernel_rfl) ?_ _
  refine NoPanic.normal ?_
  try simp only [Act.put, List.setIfInBounds_toArray, List.set_cons_zero, List.set_cons_succ]
  have HG := Lib.hid (hG.below hHeld)
  clear c0 hRl HE9 cE hHeld hG
  obtain ⟨V10, hV10⟩ : ∃ V, V = VX := ⟨_, rfl⟩
  rw [← hV10] at HG ⊢
  clear hV10
  have hcu : ∀ w, (convert 3 24 (.int .i64 (L : Int))).run Tryd.prog w = .ok (.int .u32 (L : Int)) w := fun w => by
    have := cvt_i64u (L : Int) w
    rwa [wrap_u _ (by omega)] at this
  have HC := ask_open b7 b8 k (L : Int) HG.out.h7 HG.out.h8 HG.out.s (by omega) (by omega)
  go_wp2_with (refine wpList_build rfl 27 _ rfl #[(0, .int .i64 1), (3, .int .u32 (L : Int))] (by kernel_rfl) (.agg (rqA 1 zf 0 (L : Int) (.slice none 0 0))) (fun _ => by kernel_rfl) ?_)
  refine HC.mono ?_
  rintro e V11 ⟨B2, c2, rfl, _, _, _, ⟨U, g, hs⟩, ht⟩
  have hG := HG.out.step hs ht
  have h_R := hG.hR
  have HG2 := Lib.hid hG
  clear HC hs ht hG HG
  go_upto_region 15 with (refine wpList_store_row rfl 29 _ _ rfl R (rsA 0 0 (.slice B2 0 c2)) rfl rfl _ _ h_R (rs_info _ _ _) rfl (rs_one _ _ _ _ _) ?_)
  refine wp_world (fun V => GoS E w V5 V S b7 b8 R k A (bys zs) (rsA 0 0 (.slice B2 0 c2)) U [newB g k (L : Int)]) (HG2.out.put _) ?_
  clear HG2 h_R hcu
  rintro V12 hG
  have c0 := cell_heap hG.hR (rs_c0 _ _ _)
  have HG := Lib.hid hG
  clear hG
  try simp only [put_none]
  go_wp2_with fail
  clear c0
  go_loopw [12] (fun i wr => ∃ (a : Nat) (n0 : Int) (B0 : Option Addr) (c0 : Nat) (e : Be), a ≤ L + 199 ∧ i = .int .i64 (a : Int) ∧ GoS E w V5 wr S b7 b8 R k A (bys zs) (rsA 0 n0 (.slice B0 0 c0)) U [e] ∧ e.f = k ∧ e.n = (L : Int) ∧ e.done = false ∧ e.bs = (bys zs).take a) (fun i _ => L + 200 - (intOf i).toNat)
  case atStart => exact ⟨0, 0, B2, c2, _, by omega, rfl, HG.out, rfl, rfl, rfl, rfl⟩
  clear HG
  case round =>
    obtain ⟨a, n0, B0, cb0, e, ha, rfl, hG, hef, hen, hed, heb⟩ := hrel
    by_cases hlt : a < L
    · obtain ⟨T, hT1, hT2, hT3, hT4, hmin⟩ := minT a L hlt
      have hww := wrapT a (by have := hL1.2; exact Nat.le_trans ha (by omega))
      have hltI : (a : Int) < (L : Int) := Int.ofNat_lt.2 hlt
      have HG := Lib.hid hG
      have HE := Lib.hid (And.intro hef (And.intro hen (And.intro hed heb)))
      have HT := Lib.hid (And.intro hT1 (And.intro hT2 (And.intro hT3 (And.intro hT4 ha))))
      have HL1 := Lib.hid hL1
      clear hG hef hen hed heb hT1 hT2 hT3 hT4 ha hlt hL1
      go_upto_region 21 with (fail)
      have hxl : (bys zs).length = L := by rw [bys_length]; exact HZ.out
      obtain ⟨m, hm⟩ : ∃ m : Nat, T = a + m := ⟨T - a, by have := HT.out.1; omega⟩
      have hTT := HT.out
      have hLL := HL1.out
      have hcr := cut_read (c := c) HG.out.f (by rw [hxl]; exact HCL.out) a m (by rw [hxl]; omega)
      rw [hxl] at hcr
      have hsl := hcr.1
      have hrd := hcr.2
      rw [show (a : Int) + (m : Int) = (T : Int) by rw [hm]; rfl] at hsl
      have hcu : ∀ w, (convert 3 24 (.int .i64 (a : Int))).run Tryd.prog w = .ok (.int .u32 (a : Int)) w := fun w => cvt_u32n a (by omega) w
      have hyl : (((bys zs).drop a).take m).length = m := by rw [List.length_take, List.length_drop, hxl]; omega
      have hel : e.bs.length = a := by rw [HE.out.2.2.2, List.length_take, hxl]; omega
      have hen := HE.out.2.1
      have hbe : over e.bs a (((bys zs).drop a).take m) = (bys zs).take T := by rw [HE.out.2.2.2, over_takeA _ _ _ (by rw [hxl]; omega), hm]
      have hHC := ask_put b7 b8 k a (cutA A a c) (((bys zs).drop a).take m) m (c - a) HG.out.h7 HG.out.h8 HG.out.s hrd hyl (by omega) (((bys_byts zs).rest a).cut m) (find_one e k (is_kid HE.out.1)) HE.out.2.2.1 (by omega) (by rw [hen]; omega) (by rw [hen]; omega) (by rw [hen, hel]; omega)
      have hlT : ((bys zs).take T).length = T := by rw [List.length_take, hxl]; omega
      rw [hbe, hlT] at hHC
      have HC := hHC
      generalize cutA A a c = A2 at HC hsl
      generalize c - a = ca at HC hsl
      have HM := Lib.hid (And.intro hm hbe)
      clear hcr hrd hyl hel hen hbe hHC hlT hm hTT hLL hxl hww hmin
      go_wp2_with (refine wpList_build rfl 27 _ rfl #[(0, .int .i64 2), (2, .int .u32 (a : Int)), (4, .slice A2 m ca)] (by kernel_rfl) (.agg (rqA 2 zf (a : Int) 0 (.slice A2 m ca))) (fun _ => by kernel_rfl) ?_)
      refine HC.mono ?_
      rintro e1 V13 ⟨B3, c3, rfl, _, _, _, ⟨D', hs⟩, ht⟩
      have hG := HG.out.step hs ht
      have h_R := hG.hR
      have HG2 := Lib.hid hG
      clear HC hs ht hG HG hsl hcu
      go_upto_region 22 with (refine wpList_store_row rfl 29 _ _ rfl R (rsA 0 (T : Int) (.slice B3 0 c3)) rfl rfl _ _ h_R (rs_info _ _ _) rfl (rs_one _ _ _ _ _) ?_)
      obtain ⟨e2, he2⟩ : ∃ e2, e2 = putB e D' a (((bys zs).drop a).take m) := ⟨_, rfl⟩
      refine wp_world (fun V => GoS E w V5 V S b7 b8 R k A (bys zs) (rsA 0 (T : Int) (.slice B3 0 c3)) U [e2]) (by rw [he2]; exact HG2.out.put _) ?_
      have HE2 : Hid (e2.f = k ∧ e2.n = (L : Int) ∧ e2.done = false ∧ e2.bs = (bys zs).take (a + 200)) := Lib.hid (by
        rw [he2]
        refine ⟨HE.out.1, HE.out.2.1, rfl, ?_⟩
        show over e.bs a (((bys zs).drop a).take m) = _
        rw [HM.out.2]
        rcases HT.out.2.2.2.1 with h | h
        · rw [h]
        · have hz : (bys zs).length = L := by rw [bys_length]; exact HZ.out
          rw [List.take_of_length_le (by rw [hz, h]; exact Nat.le_refl _), List.take_of_length_le (by rw [hz, ← h]; exact HT.out.2.2.1)])
      clear HG2 h_R he2 HE HM
      rintro V14 hG
      have c0 := cell_heap hG.hR (rs_c0 _ _ _)
      have c1 := cell_heap hG.hR (rs_c1 _ _ _)
      have hcv := fun w => cvt_u32k (T : Int) (natT T (Nat.le_trans HT.out.2.1 (Nat.le_trans HL1.out.2 (by omega)))) w
      have HG := Lib.hid hG
      clear hG
      try simp only [put_none]
      go_upto_region 19 with (fail)
      clear c0 c1 hcv
      refine wp_region_lit ?_
      try simp only [put_list, List.set_cons_zero, List.set_cons_succ]
      refine wpList_run (by kernel_rfl) (.int .i64 (a : Int)) (V14) (exec_move rfl (by kernel_rfl)) ?_
      try simp only [put_list, List.set_cons_zero, List.set_cons_succ]
      refine wpList_run (by kernel_rfl) (.int .i64 ((a : Int) + 200)) (V14) (exec_bin (vx := .int .i64 (a : Int)) (vy := Go.Value.int Go.IntKind.i64 200) rfl (by kernel_rfl) (add_int _ _ _ V14 _ _ _ rfl (by omega) (by have := HT.out.2.2.2.2; have := HL1.out.2; omega))) ?_
      try simp only [put_list, List.set_cons_zero, List.set_cons_succ]
      refine wpList_run (by kernel_rfl) (.int .i64 ((a : Int) + 200)) (V14) (exec_assign rfl (by kernel_rfl)) ?_
      refine wpList_nil ?_
      simp only [put_list, List.set_cons_zero, List.set_cons_succ]
      go_wp2_with fail
      refine ⟨⟨a + 200, (T : Int), B3, c3, e2, by have := HT.out.1; have := HT.out.2.1; omega, by go_num, HG.out, HE2.out⟩, ?_⟩
      have h1 := HT.out.1
      have h2 := HT.out.2.1
      clear HT HL1
      simp [intOf]
      omega
    · have hltI : ¬ (a : Int) < (L : Int) := fun h => hlt (Int.ofNat_lt.1 h)
      have hall : e.bs = bys zs := by
        rw [heb]
        exact List.take_of_length_le (by rw [bys_length, HZ.out]; exact Nat.not_lt.1 hlt)
      have HG := Lib.hid hG
      have HE := Lib.hid (And.intro hef (And.intro hen (And.intro hed hall)))
      clear hG hef hen hed heb hall hlt ha
      go_upto_region 24 with (fail)
      have HC := ask_getS b7 b8 k HG.out.h7 HG.out.h8 HG.out.s (find_one e k (is_kid HE.out.1)) HE.out.2.2.1
      go_wp2_with (refine wpList_build rfl 27 _ rfl #[(0, .int .i64 4), (3, .int .u32 1)] (by kernel_rfl) (.agg (rqA 4 zf 0 1 (.slice none 0 0))) (fun _ => by kernel_rfl) ?_)
      refine HC.mono ?_
      rintro e1 V15 ⟨B4, c4, rfl, _, _, _, hs, ht⟩
      have hG := HG.out.step hs ht
      have h_R := hG.hR
      have HG2 := Lib.hid hG
      clear HC hs ht hG HG hltI
      go_upto_region 25 with (refine wpList_store_row rfl 29 _ _ rfl R (rsA 17 0 (.slice B4 0 c4)) rfl rfl _ _ h_R (rs_info _ _ _) rfl (rs_one _ _ _ _ _) ?_)
      refine wp_world (fun V => GoS E w V5 V S b7 b8 R k A (bys zs) (rsA 17 0 (.slice B4 0 c4)) U [e.used]) (HG2.out.put _) ?_
      clear HG2 h_R
      rintro V16 hG
      have c0 := cell_heap hG.hR (rs_c0 _ _ _)
      have c2x := cell_heap hG.hR (rs_c2 _ _ _)
      have hRl := lt_heap hG.hR
      have HE16 := Lib.hid hG.s.errs
      have cE : V16.cell? ⟨1, 0, none⟩ = some (errV (E 16)) := HE16.out.c 16 (by decide)
      try simp only [put_none]
      refine wp_region_noPanic ?_
      refine wp_region_held_drew (S := fun V => Below V16.heap.size V16 V) (by kernel_rfl) (Below.drewNr (w := V16) 1) (fun hHeld => ?_)
      refine held_move 0 (Go.Operand.tmp 11) (some 102) (.bool true) (by kernel_rfl) (by kernel_rfl) (by kernel_rfl) (by kernel_rfl) (by kernel_rfl) (fun _ _ _ _ _ h => h) hHeld ?_
      refine held_any 1 (Go.Op.unOp Go.UnOp.not 4 (Go.Operand.tmp 102)) (some 103) (.bool false) (by kernel_rfl) (by kernel_rfl) (by kernel_rfl) (by kernel_rfl) (fun _ _ _ _ _ h => h) hHeld (fun o ho w _ => exec_un (vx := .bool true) ho (by kernel_rfl) (by kernel_rfl)) ?_
      refine held_move 2 (Go.Operand.tmp 103) (some 104) (.bool false) (by kernel_rfl) (by kernel_rfl) (by kernel_rfl) (by kernel_rfl) (by kernel_rfl) (fun _ _ _ _ _ h => h) hHeld ?_
      refine held_field 3 29 (Go.Operand.tmp 10) 0 (some 105) (.pointer (some ⟨R, 0, none⟩)) (.pointer (some ⟨R, 0, none⟩)) (by kernel_rfl) (by kernel_rfl) (fun w => by kernel_rfl) (by kernel_rfl) (by kernel_rfl) (by kernel_rfl) (fun _ _ _ _ _ h => h) hHeld ?_
      refine held_cell 4 3 (Go.Operand.tmp 105) (some 106) (.pointer (some ⟨R, 0, none⟩)) (.int .i64 17) (by kernel_rfl) (by kernel_rfl) (fun V hV => load_i64 R 0 V _ ((hV.cell (p := ⟨R, 0, none⟩) hRl).trans c0)) (by kernel_rfl) (by kernel_rfl) (by kernel_rfl) (fun _ _ _ _ _ h => h) hHeld ?_
      refine held_cell 5 38 (Go.Operand.global 1) (some 107) (.pointer (some ⟨1, 0, none⟩)) (errV (E 16)) (by kernel_rfl) (by kernel_rfl) (fun V hV => load_err 1 0 V _ ((hV.cell (p := ⟨1, 0, none⟩) (cell_lt cE)).trans cE)) (by kernel_rfl) (by kernel_rfl) (by kernel_rfl) (fun _ _ _ _ _ h => h) hHeld ?_
      refine held_call 6 28 #[Go.Operand.tmp 107] #[38] (some 108) #[errV (E 16)] _ (by kernel_rfl) (by kernel_rfl) (by kernel_rfl) (by kernel_rfl) (code_17 E _ (HE16.out.below hHeld)) ?_
      rintro e1 VX ⟨rfl, hbX⟩
      refine ⟨_, rfl, hHeld.trans (hbX.mono hHeld.size), fun hHeld => ?_⟩
      refine held_bin 7 Go.BinOp.neq 3 (Go.Operand.tmp 106) (Go.Operand.tmp 108) 3 (some 109) (.int .i64 17) (.int .i64 17) (.bool false) (by kernel_rfl) (by kernel_rfl) (fun w => neq_int _ _ _ w _ _ _ false (by simp)) (by kernel_rfl) (by kernel_rfl) (by kernel_rfl) (fun _ _ _ _ _ h => h) hHeld ?_
      refine held_pick 8 (Go.Operand.tmp 104) (Go.Operand.const (Go.Value.bool true)) (Go.Operand.tmp 109) (some 110) false (.bool false) (by kernel_rfl) (by kernel_rfl) (by kernel_rfl) (by kernel_rfl) (by kernel_rfl) (by kernel_rfl) (fun _ _ _ _ _ h => h) hHeld ?_
      refine held_move 9 (Go.Operand.tmp 110) (some 111) (.bool false) (by kernel_rfl) (by kernel_rfl) (by kernel_rfl) (by kernel_rfl) (by kernel_rfl) (fun _ _ _ _ _ h => h) hHeld ?_
      refine held_field 10 29 (Go.Operand.tmp 10) 2 (some 112) (.pointer (some ⟨R, 0, none⟩)) (.pointer (some ⟨R, 2, none⟩)) (by kernel_rfl) (by kernel_rfl) (fun w => by kernel_rfl) (by kernel_rfl) (by kernel_rfl) (by kernel_rfl) (fun _ _ _ _ _ h => h) hHeld ?_
      refine held_cell 11 25 (Go.Operand.tmp 112) (some 113) (.pointer (some ⟨R, 2, none⟩)) (.slice B4 0 c4) (by kernel_rfl) (by kernel_rfl) (fun V hV => load_slice R 2 V 25 (fun w => by kernel_rfl) _ ((hV.cell (p := ⟨R, 2, none⟩) hRl).trans c2x)) (by kernel_rfl) (by kernel_rfl) (by kernel_rfl) (fun _ _ _ _ _ h => h) hHeld ?_
      refine held_any 12 (Go.Op.call { callee := Go.Callee.builtin Go.Builtin.len, args := #[Go.Operand.tmp 113], argTypes := #[25] }) (some 114) (.int .i64 0) (by kernel_rfl) (by kernel_rfl) (by kernel_rfl) (by kernel_rfl) (fun _ _ _ _ _ h => h) hHeld (fun o ho w _ => exec_lenA (vx := .slice B4 0 c4) ho (by kernel_rfl) (fun _ => len_slice _ 5 _ Tryd.underlying25 B4 0 c4 _)) ?_
      refine held_bin 13 Go.BinOp.neq 3 (Go.Operand.tmp 114) (Go.Operand.const (Go.Value.int Go.IntKind.i64 0)) 3 (some 115) (.int .i64 0) (Go.Value.int Go.IntKind.i64 0) (.bool false) (by kernel_rfl) (by kernel_rfl) (fun w => neq_int _ _ _ w _ _ _ false (by simp)) (by kernel_rfl) (by kernel_rfl) (by kernel_rfl) (fun _ _ _ _ _ h => h) hHeld ?_
      refine held_pick 14 (Go.Operand.tmp 111) (Go.Operand.const (Go.Value.bool true)) (Go.Operand.tmp 115) (some 116) false (.bool false) (by kernel_rfl) (by kernel_rfl) (by kernel_rfl) (by kernel_rfl) (by kernel_rfl) (by kernel_rfl) (fun _ _ _ _ _ h => h) hHeld ?_
      refine wpAnyH_done (by kernel_rfl) ?_ _
      refine NoPanic.normal ?_
      try simp only [Act.put, List.setIfInBounds_toArray, List.set_cons_zero, List.set_cons_succ]
      have HG := Lib.hid (hG.below hHeld)
      clear c0 c2x hRl HE16 cE hHeld hG
      obtain ⟨V17, hV17⟩ : ∃ V, V = VX := ⟨_, rfl⟩
      rw [← hV17] at HG ⊢
      clear hV17
      have hKw : KAt V5 := HK.out.below HB5.out
      have hlen : (e.bs.length : Int) = e.n := by rw [HE.out.2.2.2, bys_length, HZ.out, HE.out.2.1]
      have hen := HE.out.2.1
      have hl2 := hL1.2
      have HC := ask_commit b7 b8 k (e := e.used) zs HG.out.h7 HG.out.h8 HG.out.s hKw (find_one e.used k (is_kid (e := e.used) HE.out.1)) HE.out.2.2.1 HE.out.2.2.2 hlen (by show e.n ≤ 30000; omega) (by rw [← HKK.out]; exact beq_self_eq_true _)
      clear hKw hlen hen hl2
      go_wp2_with (refine wpList_build rfl 27 _ rfl #[(0, .int .i64 3)] (by kernel_rfl) (.agg (rqA 3 zf 0 0 (.slice none 0 0))) (fun _ => by kernel_rfl) ?_)
      refine HC.mono ?_
      rintro e1 V18 ⟨B5, c5, rfl, _, _, _, hs, ht⟩
      have hG := HG.out.step hs ht
      have h_R := hG.hR
      have HG2 := Lib.hid hG
      clear HC hs ht hG HG
      go_upto_region 28 with (refine wpList_store_row rfl 29 _ _ rfl R (rsA 0 0 (.slice B5 0 c5)) rfl rfl _ _ h_R (rs_info _ _ _) rfl (rs_one _ _ _ _ _) ?_)
      obtain ⟨e3, he3⟩ : ∃ e3, e3 = doneB e.used := ⟨_, rfl⟩
      have HE3 : Hid (e3.f = k ∧ e3.n = (L : Int) ∧ e3.done = true ∧ e3.bs = bys zs ∧ e3.used = e3) := Lib.hid (by rw [he3]; exact ⟨HE.out.1, HE.out.2.1, rfl, HE.out.2.2.2, rfl⟩)
      refine wp_world (fun V => GoS E w V5 V S b7 b8 R k A (bys zs) (rsA 0 0 (.slice B5 0 c5)) U [e3]) (by rw [he3]; exact HG2.out.put _) ?_
      clear HG2 h_R he3 HE
      rintro V19 hG
      have c0 := cell_heap hG.hR (rs_c0 _ _ _)
      have hFb : ∀ q, stF S U [e3] q → q < V19.heap.size := fun q hq => hG.s.st.lt hq
      have hlt7 := lt_heap hG.h7
      have hlt8 := lt_heap hG.h8
      have hltR := lt_heap hG.hR
      obtain ⟨b0, hb0⟩ : ∃ b, b = V19.heap.size := ⟨_, rfl⟩
      rw [← hb0] at hFb hlt7 hlt8 hltR
      have HG := Lib.hid (And.intro hG (Nat.le_of_eq hb0))
      have HB := Lib.hid (And.intro hFb (And.intro hlt7 (And.intro hlt8 hltR)))
      clear hG hb0 hFb hlt7 hlt8 hltR
      try simp only [put_none]
      go_wp2_with fail
      clear c0
      go_loopw [14, 15] (fun x i wr => ∃ (a : Nat) (v : Value) (n0 : Nat) (B0 : Option Addr) (c0 : Nat), v = x ∧ a ≤ L + 199 ∧ i = .int .i64 (a : Int) ∧ GoS E w V5 wr S b7 b8 R k A (bys zs) (rsA 0 0 (.slice B0 n0 c0)) U [e3] ∧ b0 ≤ wr.heap.size ∧ wr.ownsRow b0 5 1 v ((bys zs).take a).length (ints .u8 ((bys zs).take a))) (fun _ i _ => L + 200 - (intOf i).toNat)
      case atStart => exact ⟨0, _, 0, B5, c5, rfl, by omega, rfl, HG.out.1, HG.out.2, by rw [List.take_zero]; exact World.ownsRow_nil _ _ _ _⟩
      clear HG
      case round =>
        obtain ⟨a, v, n0, B0, cb0, rfl, ha, rfl, hG, hb0, hown⟩ := hrel
        by_cases hlt : a < L
        · obtain ⟨m, hm1, hm2, hm3, hm4, hws, hmin⟩ := minG a L hlt hL1.2
          have hltI : (a : Int) < (L : Int) := Int.ofNat_lt.2 hlt
          have hcu : ∀ w, (convert 3 24 (.int .i64 (a : Int))).run Tryd.prog w = .ok (.int .u32 (a : Int)) w := fun w => cvt_u32n a (by have := hL1.2; omega) w
          have hcm : ∀ w, (convert 3 24 (.int .i64 (m : Int))).run Tryd.prog w = .ok (.int .u32 (m : Int)) w := fun w => cvt_u32n m (by omega) w
          have hzl : (bys zs).length = L := by rw [bys_length]; exact HZ.out
          have HC := ask_get b7 b8 k a m (e := e3) hG.h7 hG.h8 hG.s (find_one e3 k (is_kid HE3.out.1)) HE3.out.2.2.1 hm2 (by rw [HE3.out.2.2.2.1, hzl]; exact hm3) (by rw [HE3.out.2.2.2.1, hzl, HE3.out.2.1]) (by rw [HE3.out.2.1]; have := hL1.2; omega) (cut_byts zs _ HE3.out.2.2.2.1)
          rw [HE3.out.2.2.2.1] at HC
          have HG := Lib.hid (And.intro hG (And.intro hb0 hown))
          have HM := Lib.hid (And.intro hm1 (And.intro hm3 (And.intro hm4 (And.intro hlt hm2))))
          have HL1 := Lib.hid hL1
          clear hG hb0 hown hm1 hm2 hm3 hm4 hzl hlt ha hL1
          go_wp2_with (refine wpList_build rfl 27 _ rfl #[(0, .int .i64 4), (2, .int .u32 (a : Int)), (3, .int .u32 (m : Int))] (by kernel_rfl) (.agg (rqA 4 zf (a : Int) (m : Int) (.slice none 0 0))) (fun _ => by kernel_rfl) ?_)
          refine HC.mono ?_
          rintro e1 V20 ⟨B6, c6, rfl, hB6, hB6n, _, hs, ht⟩
          rw [HE3.out.2.2.2.2] at hs
          have hG := HG.out.1.step hs ht
          have hown := own_turnF HG.out.2.2 ht HB.out.1
          have hb0 := Nat.le_trans HG.out.2.1 ht.size
          have h_R := hG.hR
          have hlR := lt_heap HG.out.1.hR
          have hT := row_one V20 R (rsA 0 0 (.slice B6 m c6))
          have hBt : SlRead (V20.setRow R (rsA 0 0 (.slice B6 m c6))) B6 (ints .u8 (((bys zs).drop a).take m)) := hB6.turn hT (fun _ x hx y => by have h1 := hB6n x hx; have e : x.block = R := y; omega)
          have hownT := own_turnF hown hT (fun q y => by have e : q = R := y; rw [e]; exact HB.out.2.2.2)
          have hbT := Nat.le_trans hb0 hT.size
          have HG2 := Lib.hid (And.intro hG (And.intro hBt (And.intro hownT hbT)))
          clear HC hs ht hG HG hcu hcm hws hmin hB6 hB6n hown hb0 hlR hT hBt hownT hbT
          go_upto_region 35 with (refine wpList_store_row rfl 29 _ _ rfl R (rsA 0 0 (.slice B6 m c6)) rfl rfl _ _ h_R (rs_info _ _ _) rfl (rs_one _ _ _ _ _) ?_)
          refine wp_world (fun V => GoS E w V5 V S b7 b8 R k A (bys zs) (rsA 0 0 (.slice B6 m c6)) U [e3] ∧ SlRead V B6 (ints .u8 (((bys zs).drop a).take m)) ∧ V.ownsRow b0 5 1 v ((bys zs).take a).length (ints .u8 ((bys zs).take a)) ∧ b0 ≤ V.heap.size) ⟨HG2.out.1.put _, HG2.out.2⟩ ?_
          clear HG2 h_R
          rintro V21 hG
          have c0 := cell_heap hG.1.hR (rs_c0 _ _ _)
          have HG := Lib.hid hG
          clear hG
          try simp only [put_none]
          go_upto_region 37 with (fail)
          clear c0 hltI
          have c2x := cell_heap HG.out.1.hR (rs_c2 _ _ _)
          have hzl : (bys zs).length = L := by rw [bys_length]; exact HZ.out
          refine wp_region_lit ?_
          try simp only [put_list, List.set_cons_zero, List.set_cons_succ]
          refine wpList_run (by kernel_rfl) (v) (V21) (exec_move rfl (by kernel_rfl)) ?_
          try simp only [put_list, List.set_cons_zero, List.set_cons_succ]
          refine wpList_run (by kernel_rfl) (.pointer (some ⟨R, 2, none⟩)) (V21) (exec_field (vx := .pointer (some ⟨R, 0, none⟩)) rfl (by kernel_rfl) (by kernel_rfl)) ?_
          try simp only [put_list, List.set_cons_zero, List.set_cons_succ]
          refine wpList_run (by kernel_rfl) (.slice B6 m c6) (V21) (exec_load (vx := .pointer (some ⟨R, 2, none⟩)) rfl (by kernel_rfl) (load_slice R 2 V21 25 (fun w => by kernel_rfl) _ c2x)) ?_
          try simp only [put_list, List.set_cons_zero, List.set_cons_succ]
          refine push_intsP rfl _ _ rfl V21 b0 v ((bys zs).take a) B6 (((bys zs).drop a).take m) m c6 (by kernel_rfl) (by kernel_rfl) (by rw [List.length_take, List.length_drop, hzl]; have := HM.out.2.1; omega) HG.out.2.2.1 HG.out.2.1 HG.out.2.2.2 (by simp only [List.length_take, List.length_drop, hzl]; have := HL1.out; omega) ?_
          intro v2 V22 hown2 hg _
          try simp only [put_list, List.set_cons_zero, List.set_cons_succ]
          try simp only [put_list, List.set_cons_zero, List.set_cons_succ]
          refine wpList_run (by kernel_rfl) (v2) (V22) (exec_assign rfl (by kernel_rfl)) ?_
          refine wpList_nil ?_
          simp only [put_list, List.set_cons_zero, List.set_cons_succ]
          have hG' : GoS E w V5 V22 S b7 b8 R k A (bys zs) (rsA 0 0 (.slice B6 m c6)) U [e3] := HG.out.1.grow (Turn.of_grown hg (F := fun q => some q = v.ownBlock) (fun _ h => h.symm)) (fun q y => (own_lowlt HG.out.2.2.1 y.symm).1) HB.out.1 HB.out.2.1 HB.out.2.2.1 HB.out.2.2.2
          have hbS : b0 ≤ V22.heap.size := Nat.le_trans HG.out.2.2.2 hg.size
          rw [take_more (bys zs) a m L hzl HM.out.2.1 HM.out.2.2.2.2 HM.out.2.2.1] at hown2
          have HG3 := Lib.hid (And.intro hG' (And.intro hbS hown2))
          clear HG c2x hzl hown2 hg hG' hbS
          try simp only [put_list, List.set_cons_zero, List.set_cons_succ]
          go_upto_region 33 with (fail)
          refine wp_region_lit ?_
          try simp only [put_list, List.set_cons_zero, List.set_cons_succ]
          refine wpList_run (by kernel_rfl) (.int .i64 (a : Int)) (V22) (exec_move rfl (by kernel_rfl)) ?_
          try simp only [put_list, List.set_cons_zero, List.set_cons_succ]
          refine wpList_run (by kernel_rfl) (.int .i64 ((a : Int) + 200)) (V22) (exec_bin (vx := .int .i64 (a : Int)) (vy := Go.Value.int Go.IntKind.i64 200) rfl (by kernel_rfl) (add_int _ _ _ V22 _ _ _ rfl (by omega) (by have := HM.out.2.2.2.1; have := HL1.out.2; omega))) ?_
          try simp only [put_list, List.set_cons_zero, List.set_cons_succ]
          refine wpList_run (by kernel_rfl) (.int .i64 ((a : Int) + 200)) (V22) (exec_assign rfl (by kernel_rfl)) ?_
          refine wpList_nil ?_
          simp only [put_list, List.set_cons_zero, List.set_cons_succ]
          go_wp2_with fail
          refine ⟨⟨a + 200, v2, m, B6, c6, rfl, by have := HM.out.2.2.2.1; omega, by go_num, HG3.out.1, HG3.out.2.1, HG3.out.2.2⟩, ?_⟩
          have h1 := HM.out.2.2.2.1
          clear HM HL1 HG3
          simp [intOf]
          omega
        · have hltI : ¬ (a : Int) < (L : Int) := fun h => hlt (Int.ofNat_lt.1 h)
          have hall : (bys zs).take a = bys zs := List.take_of_length_le (by rw [bys_length, HZ.out]; exact Nat.not_lt.1 hlt)
          have hzl : (bys zs).length = L := by rw [bys_length]; exact HZ.out
          rw [hall, hzl] at hown
          obtain ⟨Ao, co, rfl, _, _, _⟩ := own_slice hown
          have HG := Lib.hid (And.intro hG (And.intro hb0 hown))
          clear hG hb0 hown hall hlt ha hzl
          have hbn : e3.bs.length = L := by rw [HE3.out.2.2.2.1, bys_length]; exact HZ.out
          have HC := ask_stat b7 b8 k (e := e3) HG.out.1.h7 HG.out.1.h8 HG.out.1.s (find_one e3 k (is_kid HE3.out.1)) HE3.out.2.2.1 (by rw [hbn]; have := hL1.2; omega)
          rw [hbn, HE3.out.2.2.2.2] at HC
          clear hbn
          go_wp2_with (refine wpList_build rfl 27 _ rfl #[(0, .int .i64 5)] (by kernel_rfl) (.agg (rqA 5 zf 0 0 (.slice none 0 0))) (fun _ => by kernel_rfl) ?_)
          refine HC.mono ?_
          rintro e1 V20 ⟨B6, c6, rfl, hB6, hB6n, _, hs, ht⟩
          have hG := HG.out.1.step hs ht
          have hown := own_turnF HG.out.2.2 ht HB.out.1
          have h_R := hG.hR
          have hlR := lt_heap HG.out.1.hR
          have hT := row_one V20 R (rsA 0 (L : Int) (.slice B6 1 c6))
          have hBt : SlRead (V20.setRow R (rsA 0 (L : Int) (.slice B6 1 c6))) B6 (ints .u8 [1]) := hB6.turn hT (fun _ x hx y => by have h1 := hB6n x hx; have e : x.block = R := y; omega)
          have hownT := own_turnF hown hT (fun q y => by have e : q = R := y; rw [e]; exact HB.out.2.2.2)
          have HG2 := Lib.hid (And.intro hG (And.intro hBt hownT))
          clear HC hs ht hG HG hltI hB6 hB6n hown hlR hT hBt hownT
          go_upto_region 39 with (refine wpList_store_row rfl 29 _ _ rfl R (rsA 0 (L : Int) (.slice B6 1 c6)) rfl rfl _ _ h_R (rs_info _ _ _) rfl (rs_one _ _ _ _ _) ?_)
          refine wp_world (fun V => GoS E w V5 V S b7 b8 R k A (bys zs) (rsA 0 (L : Int) (.slice B6 1 c6)) U [e3] ∧ SlRead V B6 (ints .u8 [1]) ∧ V.ownsRow b0 5 1 (.slice Ao L co) L (ints .u8 (bys zs))) ⟨HG2.out.1.put _, HG2.out.2⟩ ?_
          clear HG2 h_R
          rintro V21 hG
          have c0 := cell_heap hG.1.hR (rs_c0 _ _ _)
          have c1 := cell_heap hG.1.hR (rs_c1 _ _ _)
          have c2x := cell_heap hG.1.hR (rs_c2 _ _ _)
          obtain ⟨gb, go, rfl, c3⟩ := one_cell hG.2.1
          have hcv := fun w => cvt_u32k (L : Int) (natT L (Nat.le_trans hL1.2 (by omega))) w
          have HG := Lib.hid (And.intro hG.1 hG.2.2)
          clear hG
          try simp only [put_none]
          go_upto_region 41 with (fail)
          clear c0 c1 c2x c3 hcv
          have HC := ask_delete b7 b8 k (e := e3) HG.out.1.h7 HG.out.1.h8 HG.out.1.s (is_kid HE3.out.1)
          go_wp2_with (refine wpList_build rfl 27 _ rfl #[(0, .int .i64 6)] (by kernel_rfl) (.agg (rqA 6 zf 0 0 (.slice none 0 0))) (fun _ => by kernel_rfl) ?_)
          refine HC.mono ?_
          rintro e1 V22 ⟨B7, c7, rfl, _, _, _, ⟨U', hs⟩, ht⟩
          have hG := HG.out.1.step hs ht
          have hown := own_turnF HG.out.2 ht HB.out.1
          have h_R := hG.hR
          have hT := row_one V22 R (rsA 0 0 (.slice B7 0 c7))
          have hownT := own_turnF hown hT (fun q y => by have e : q = R := y; rw [e]; exact HB.out.2.2.2)
          have HG2 := Lib.hid (And.intro hG hownT)
          clear HC hs ht hG HG hown hT hownT
          go_upto_region 42 with (refine wpList_store_row rfl 29 _ _ rfl R (rsA 0 0 (.slice B7 0 c7)) rfl rfl _ _ h_R (rs_info _ _ _) rfl (rs_one _ _ _ _ _) ?_)
          refine wp_world (fun V => GoS E w V5 V S b7 b8 R k A (bys zs) (rsA 0 0 (.slice B7 0 c7)) U' [] ∧ V.ownsRow b0 5 1 (.slice Ao L co) L (ints .u8 (bys zs))) ⟨HG2.out.1.put _, HG2.out.2⟩ ?_
          clear HG2 h_R
          rintro V23 hG
          have c0 := cell_heap hG.1.hR (rs_c0 _ _ _)
          have c8 := cell_heap (i := 0) hG.1.h8 rfl
          have hAo : SlRead V23 Ao (ints .u8 (bys zs)) := own_read1 hG.2
          have hAf := hG.1.f
          have hEr := hG.1.s.errs
          have hus := s_used hG.1.s (by simp) few_nil
          have hbW := hG.1.b
          have hzl : (bys zs).length = L := by rw [bys_length]; exact HZ.out
          clear hG
          try simp only [put_none]
          refine wp_region_lit ?_
          try simp only [put_list, List.set_cons_zero, List.set_cons_succ]
          refine wpList_run (by kernel_rfl) (.bool true) (V23) (exec_move rfl (by kernel_rfl)) ?_
          try simp only [put_list, List.set_cons_zero, List.set_cons_succ]
          refine wpList_run (by kernel_rfl) (.bool true) (V23) (exec_move rfl (by kernel_rfl)) ?_
          try simp only [put_list, List.set_cons_zero, List.set_cons_succ]
          refine wpList_runG (by kernel_rfl) (.bool true) (V23) (exec_move rfl (by kernel_rfl)) ?_
          try simp only [put_list, List.set_cons_zero, List.set_cons_succ]
          refine wpList_run (by kernel_rfl) (.bool true) (V23) (exec_pick (b := true) rfl (by kernel_rfl) (by kernel_rfl)) ?_
          try simp only [put_list, List.set_cons_zero, List.set_cons_succ]
          refine wpList_run (by kernel_rfl) (.bool true) (V23) (exec_move rfl (by kernel_rfl)) ?_
          try simp only [put_list, List.set_cons_zero, List.set_cons_succ]
          refine wpList_runG (by kernel_rfl) (.pointer (some ⟨R, 0, none⟩)) (V23) (exec_field (vx := .pointer (some ⟨R, 0, none⟩)) rfl (by kernel_rfl) (by kernel_rfl)) ?_
          try simp only [put_list, List.set_cons_zero, List.set_cons_succ]
          refine wpList_runG (by kernel_rfl) (.int .i64 0) (V23) (exec_load (vx := .pointer (some ⟨R, 0, none⟩)) rfl (by kernel_rfl) (load_i64 R 0 V23 _ c0)) ?_
          try simp only [put_list, List.set_cons_zero, List.set_cons_succ]
          refine wpList_runG (by kernel_rfl) (.bool true) (V23) (exec_bin (vx := .int .i64 0) (vy := Go.Value.int Go.IntKind.i64 0) rfl (by kernel_rfl) (by kernel_rfl)) ?_
          try simp only [put_list, List.set_cons_zero, List.set_cons_succ]
          refine wpList_run (by kernel_rfl) (.bool true) (V23) (exec_pick (b := true) rfl (by kernel_rfl) (by kernel_rfl)) ?_
          try simp only [put_list, List.set_cons_zero, List.set_cons_succ]
          refine wpList_run (by kernel_rfl) (.bool true) (V23) (exec_move rfl (by kernel_rfl)) ?_
          try simp only [put_list, List.set_cons_zero, List.set_cons_succ]
          refine wpList_runG (by kernel_rfl) (.pointer (some ⟨S, 0, none⟩)) (V23) (exec_load (vx := .pointer (some ⟨b8, 0, none⟩)) rfl (by kernel_rfl) (load_slice b8 0 V23 58 (fun w => by kernel_rfl) _ c8)) ?_
          refine wpList_call (by kernel_rfl) 29 #[Go.Operand.tmp 208] #[58] #[.pointer (some ⟨S, 0, none⟩)] _ rfl (by kernel_rfl) (by kernel_rfl) (hus) ?_
          rintro e1 V24 ⟨rfl, e24⟩
          rw [e24]
          clear e24
          refine ⟨_, rfl, ?_⟩
          try simp only [put_list, List.set_cons_zero, List.set_cons_succ]
          refine wpList_runG (by kernel_rfl) (.bool true) (V23) (exec_bin (vx := .int .i64 (sumN [])) (vy := Go.Value.int Go.IntKind.i64 0) rfl (by kernel_rfl) (by kernel_rfl)) ?_
          try simp only [put_list, List.set_cons_zero, List.set_cons_succ]
          refine wpList_run (by kernel_rfl) (.bool true) (V23) (exec_pick (b := true) rfl (by kernel_rfl) (by kernel_rfl)) ?_
          try simp only [put_list, List.set_cons_zero, List.set_cons_succ]
          refine wpList_run (by kernel_rfl) (.bool true) (V23) (exec_move rfl (by kernel_rfl)) ?_
          try simp only [put_list, List.set_cons_zero, List.set_cons_succ]
          refine wpList_runG (by kernel_rfl) (.slice Ao L co) (V23) (exec_move rfl (by kernel_rfl)) ?_
          try simp only [put_list, List.set_cons_zero, List.set_cons_succ]
          refine wpList_runG (by kernel_rfl) (.slice A L c) (V23) (exec_move rfl (by kernel_rfl)) ?_
          refine wpList_call (by kernel_rfl) 9 #[Go.Operand.tmp 213, Go.Operand.tmp 214] #[25, 25] #[.slice Ao L co, .slice A L c] _ rfl (by kernel_rfl) (by kernel_rfl) (same_bG Ao A (bys zs) L co c V23 hAo hAf hzl (by have := hL1.2; omega)) ?_
          rintro e1 V25 ⟨rfl, hbS⟩
          refine ⟨_, rfl, ?_⟩
          try simp only [put_list, List.set_cons_zero, List.set_cons_succ]
          refine wpList_run (by kernel_rfl) (.bool true) (V25) (exec_pick (b := true) rfl (by kernel_rfl) (by kernel_rfl)) ?_
          try simp only [put_list, List.set_cons_zero, List.set_cons_succ]
          refine wpList_run (by kernel_rfl) (.bool true) (V25) (exec_move rfl (by kernel_rfl)) ?_
          refine wpList_call (by kernel_rfl) 31 #[Go.Operand.const (Go.Value.int Go.IntKind.i64 0)] #[3] #[Go.Value.int Go.IntKind.i64 0] _ rfl (by kernel_rfl) (by kernel_rfl) (err_zero E V25 (hEr.below hbS)) ?_
          rintro e1 V26 ⟨rfl, hbE⟩
          refine ⟨_, rfl, ?_⟩
          refine wpList_call (by kernel_rfl) 30 #[Go.Operand.tmp 218, Go.Operand.const (Go.Value.int Go.IntKind.i64 0)] #[38, 3] #[.nilIface, Go.Value.int Go.IntKind.i64 0] _ rfl (by kernel_rfl) (by kernel_rfl) (is_any E .nilIface 0 0 (.inl ⟨rfl, rfl⟩) V26 ((hEr.below hbS).below hbE)) ?_
          rintro e1 V27 ⟨rfl, hbI⟩
          refine ⟨_, rfl, ?_⟩
          try simp only [put_list, List.set_cons_zero, List.set_cons_succ]
          refine wpList_run (by kernel_rfl) (.bool true) (V27) (exec_pick (b := true) rfl (by kernel_rfl) (by kernel_rfl)) ?_
          try simp only [put_list, List.set_cons_zero, List.set_cons_succ]
          refine wpList_run (by kernel_rfl) (.bool true) (V27) (exec_assign rfl (by kernel_rfl)) ?_
          refine wpList_nil ?_
          simp only [put_list, List.set_cons_zero, List.set_cons_succ]
          go_wp2_with fail
          go_ret
          exact ⟨rfl, hbW.trans ((hbS.trans ((hbE.mono hbS.size).trans (hbI.mono (Nat.le_trans hbS.size hbE.size)))).mono hbW.size)⟩
end Go.Proofs.YtocjmlncpjfnfaaDoor
