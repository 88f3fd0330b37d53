import Derived.Test.YtffkjbbhbpaacaaDoorFrf
/-
  The document's Serve, over what the store's method does.
-/
namespace Go.Proofs.YtffkjbbhbpaacaaDoor
open Go.RowKit
theorem own_form {w : World} {base n : Nat} {v : Value} {ys : List Int} (h : w.ownsRow base 5 1 v n (ints .u8 ys)) (hn : ys.length = n) : ∃ A c, v = .slice A ys.length c ∧ SlRead w A (ints .u8 ys) ∧ ys.length ≤ c ∧ ∀ a, A = some a → base ≤ a.block := by
  obtain ⟨A, c, rfl, h1, _, h2⟩ := own_slice h
  subst hn
  exact ⟨A, c, rfl, SlRead.of_own h, h1, fun a ha => (h2 a ha).1⟩
theorem RqP.back {op : Int} {f : Nat → BitVec 8} {off n : Int} {ys : List Int} {a : Nat} {r : Array Value} {w : World} (h : RqP (rqB op f off n ys) a r w) (ho : 1 ≤ op ∧ op ≤ 6) (hl : ys.length ≤ 200) (h1 : 0 ≤ off ∧ off < 4294967296) (h2 : 0 ≤ n ∧ n < 4294967296) :
    ∃ B c, r = rqA op f off n (.slice B ys.length c) ∧ SlRead w B (ints .u8 ys) ∧ ys.length ≤ c ∧ ∀ x, B = some x → a ≤ x.block := by
  rcases h with ⟨_, D, rfl, hw⟩ | ⟨hn, _⟩
  · rw [rqB_ys, rqB_len, Nat.add_sub_cancel_left] at hw
    obtain ⟨B, c, rfl, hB, hc, hb⟩ := own_form hw rfl
    refine ⟨B, c, ?_, hB, hc, hb⟩
    rw [rqB_op, rqB_off _ _ _ _ _ h1, rqB_n _ _ _ _ _ h2, rq_ext _ _ f _ _ _ (fun i hi => rqB_f op f off n ys i hi)]
    rw [show op % 256 = op by omega]
  · exact absurd (reqO_ok op f off n ys ho hl) hn
theorem RsP.back {code n : Int} {ys : List Int} {a : Nat} {r : Array Value} {w : World} (h : RsP (rsB code n ys) a r w) (ho : 0 ≤ code ∧ code ≤ 19) (hl : ys.length ≤ 200) (h2 : 0 ≤ n ∧ n < 4294967296) :
    ∃ B c, r = rsA code n (.slice B ys.length c) ∧ SlRead w B (ints .u8 ys) ∧ ys.length ≤ c ∧ ∀ x, B = some x → a ≤ x.block := by
  rcases h with ⟨_, D, rfl, hw⟩ | ⟨hn, _⟩
  · rw [rsB_ys, rsB_len, Nat.add_sub_cancel_left] at hw
    obtain ⟨B, c, rfl, hB, hc, hb⟩ := own_form hw rfl
    refine ⟨B, c, ?_, hB, hc, hb⟩
    rw [rsB_code, rsB_n _ _ _ h2, show code % 256 = code by omega]
  · exact absurd (rspO_ok code n ys ho hl) hn
theorem drq_yes (A : Option Addr) (op : Int) (f : Nat → BitVec 8) (off n : Int) (ys : List Int) (m l c : Nat) (w : World) (hA : SlRead w A (ints .u8 (rqB op f off n ys))) (hm : 45 + ys.length = m) (hk : ys.length = l) (hy : Byts ys) (hl : l ≤ 200) (hmc : m ≤ c) (ho : 1 ≤ op ∧ op ≤ 6) (h1 : 0 ≤ off ∧ off < 4294967296) (h2 : 0 ≤ n ∧ n < 4294967296) :
    Calls Tryd.prog 48 #[.slice A m c] w fun e w' => ∃ B cb, e = .returned (.tuple #[.agg (rqA op f off n (.slice B l cb)), .agg (frow 0 false 0)]) ∧ SlRead w' B (ints .u8 ys) ∧ (∀ x, B = some x → w.heap.size ≤ x.block) ∧ l ≤ cb ∧ Below w.heap.size w w' := by
  subst hk
  have hh := drq_any A (rqB op f off n ys) c w hA (by rw [rqB_len, hm]; exact hmc) (rqB_byts hy) (by rw [rqB_len]; omega)
  rw [rqB_len, hm] at hh
  refine hh.mono ?_
  rintro e w' ⟨r, rfl, hp, hb⟩
  rw [reqO_ok op f off n ys ho hl]
  obtain ⟨B, cb, rfl, hB, hc, hb2⟩ := hp.back ho hl h1 h2
  exact ⟨B, cb, rfl, hB, hb2, hc, hb⟩
theorem drs_yesD (A : Option Addr) (code n : Int) (ys : List Int) (m l c : Nat) (w : World) (hA : SlRead w A (ints .u8 (rsB code n ys))) (hm : 9 + ys.length = m) (hk : ys.length = l) (hmc : m ≤ c) (hy : Byts ys) (hl : l ≤ 200) (ho : 0 ≤ code ∧ code ≤ 19) (h2 : 0 ≤ n ∧ n < 4294967296) :
    Calls Tryd.prog 25 #[.slice A m c] w fun e w' => ∃ B cb, e = .returned (.tuple #[.agg (rsA code n (.slice B l cb)), .agg (frow 0 false 0)]) ∧ SlRead w' B (ints .u8 ys) ∧ (∀ x, B = some x → w.heap.size ≤ x.block) ∧ l ≤ cb ∧ Below w.heap.size w w' := by
  subst hk
  have hh := drs_any A (rsB code n ys) c w hA (by rw [rsB_len, hm]; exact hmc) (rsB_byts hy) (by rw [rsB_len]; omega)
  rw [rsB_len, hm] at hh
  refine hh.mono ?_
  rintro e w' ⟨r, rfl, hp, hb⟩
  rw [rspO_ok code n ys ho hl]
  obtain ⟨B, cb, rfl, hB, hc, hb2⟩ := hp.back ho hl h2
  exact ⟨B, cb, rfl, hB, hb2, hc, hb⟩
theorem dreq_wD (op : Int) (f : Nat → BitVec 8) (off n : Int) (A : Option Addr) (ys : List Int) (l c m : Nat) (w : World) (hA : SlRead w A (ints .u8 ys)) (hk : ys.length = l) (hm : 45 + ys.length = m) (hl : l ≤ 100000) :
    Calls Tryd.prog 27 #[.agg (rqA op f off n (.slice A l c))] w fun e w' => ∃ B cb, e = .returned (.slice B m cb) ∧ SlRead w' B (ints .u8 (rqB op f off n ys)) ∧ m ≤ cb ∧ Below w.heap.size w w' := by
  subst hk
  refine (dreq_any op f off n A ys c w hA hl).mono ?_
  rintro e w' ⟨v, rfl, hown, hb⟩
  obtain ⟨B, cb, rfl, hB, hc, h2⟩ := own_form hown (rqB_len _ _ _ _ _)
  rw [rqB_len, hm] at hc ⊢
  exact ⟨B, cb, rfl, hB, hc, hb⟩
theorem drsp_wD (code n : Int) (A : Option Addr) (ys : List Int) (l c m : Nat) (w : World) (hA : SlRead w A (ints .u8 ys)) (hk : ys.length = l) (hm : 9 + ys.length = m) (hl : l ≤ 100000) :
    Calls Tryd.prog 49 #[.agg (rsA code n (.slice A l c))] w fun e w' => ∃ B cb, e = .returned (.slice B m cb) ∧ SlRead w' B (ints .u8 (rsB code n ys)) ∧ m ≤ cb ∧ Below w.heap.size w w' := by
  subst hk
  refine (dresp_any code n A ys c w hA hl).mono ?_
  rintro e w' ⟨v, rfl, hown, hb⟩
  obtain ⟨B, cb, rfl, hB, hc, h2⟩ := own_form hown (rsB_len _ _ _)
  rw [rsB_len, hm] at hc ⊢
  exact ⟨B, cb, rfl, hB, hc, hb⟩
theorem dcode_0 (w : World) : Calls Tryd.prog 50 #[.int .i64 0] w fun e w' => e = .returned (.int .i64 0) ∧ Below w.heap.size w w' := by
  go_enter Tryd.func50, Tryd.ntmps50
  go_wp2_with fail
  go_ret
  exact ⟨rfl, Below.refl _ _⟩
theorem dcode_114 (w : World) : Calls Tryd.prog 50 #[.int .i64 114] w fun e w' => e = .returned (.int .i64 14) ∧ Below w.heap.size w w' := by
  go_enter Tryd.func50, Tryd.ntmps50
  go_wp2_with fail
  go_ret
  exact ⟨rfl, Below.refl _ _⟩
theorem dcode_115 (w : World) : Calls Tryd.prog 50 #[.int .i64 115] w fun e w' => e = .returned (.int .i64 15) ∧ Below w.heap.size w w' := by
  go_enter Tryd.func50, Tryd.ntmps50
  go_wp2_with fail
  go_ret
  exact ⟨rfl, Below.refl _ _⟩
theorem dcode_116 (w : World) : Calls Tryd.prog 50 #[.int .i64 116] w fun e w' => e = .returned (.int .i64 16) ∧ Below w.heap.size w w' := by
  go_enter Tryd.func50, Tryd.ntmps50
  go_wp2_with fail
  go_ret
  exact ⟨rfl, Below.refl _ _⟩
theorem dcode_117 (w : World) : Calls Tryd.prog 50 #[.int .i64 117] w fun e w' => e = .returned (.int .i64 17) ∧ Below w.heap.size w w' := by
  go_enter Tryd.func50, Tryd.ntmps50
  go_wp2_with fail
  go_ret
  exact ⟨rfl, Below.refl _ _⟩
theorem load_u32D (b o : Nat) {v : Value} (w : World) (h : w.cell? ⟨b, o, none⟩ = some v) : (Instr.loadAt 38 (.pointer (some ⟨b, o, none⟩))).run Tryd.prog w = .ok v w := by
  have h2 := Tryd.underlying38
  go_simp
theorem load_rsR (X : Nat) (cs : Array Value) (w : World) (h : w.heap[X]? = some (.cells cs 47 (0, 0))) (hl : cs.size = 3 := by rfl) : (Instr.loadAt 47 (.pointer (some ⟨X, 0, none⟩))).run Tryd.prog w = .ok (.agg cs) w := by
  have := load_row 47 X 0 cs.toList _ Tryd.underlying47 rfl (by rw [Array.length_toList, hl]; kernel_rfl) w (range_new (cs := cs.toList) (by simpa using h))
  simpa using this
theorem store_i64R (g o : Nat) (z : Int) (w : World) {u : Value} (h : w.cell? ⟨g, o, none⟩ = some u) (hf : w.frozen? ⟨g, o, none⟩ = false) : (Instr.storeAt 3 (.pointer (some ⟨g, o, none⟩)) (.int .i64 z)).run Tryd.prog w = .ok () (w.setCell ⟨g, o, none⟩ (.int .i64 z)) := by
  have h2 := Tryd.underlying3
  go_simp
theorem store_u32R (g o : Nat) (z : Int) (w : World) {u : Value} (h : w.cell? ⟨g, o, none⟩ = some u) (hf : w.frozen? ⟨g, o, none⟩ = false) : (Instr.storeAt 38 (.pointer (some ⟨g, o, none⟩)) (.int .u32 z)).run Tryd.prog w = .ok () (w.setCell ⟨g, o, none⟩ (.int .u32 z)) := by
  have h2 := Tryd.underlying38
  go_simp
theorem store_slR (b o : Nat) (v : Value) (w : World) {u : Value} (h : w.cell? ⟨b, o, none⟩ = some u) (hf : w.frozen? ⟨b, o, none⟩ = false) {A : Option Addr} {n c : Nat} (hv : v = .slice A n c := by rfl) : (Instr.storeAt 25 (.pointer (some ⟨b, o, none⟩)) v).run Tryd.prog w = .ok () (w.setCell ⟨b, o, none⟩ v) := by
  subst hv
  have h2 := Tryd.underlying25
  go_simp
theorem SlRead.turnR {w w' : World} {b o X : Nat} {xs : List Value} (h : SlRead w (some ⟨b, o, none⟩) xs) (ht : Turn (· = X) w w') (hb : b ≠ X) : SlRead w' (some ⟨b, o, none⟩) xs := by
  intro hx
  obtain ⟨b', o', e, hl, hc⟩ := h hx
  cases e
  refine ⟨b, o, rfl, Nat.lt_of_lt_of_le hl ht.size, fun j u hu => ?_⟩
  rw [World.cell?_of_block (ht.block b hl hb)]
  exact hc j u hu
theorem one_newR (w : World) (x : Int) : SlRead (w.alloc (.cells #[.int .u8 x] 5)) (some ⟨w.heap.size, 0, none⟩) (ints .u8 [x]) := fun _ => ⟨w.heap.size, 0, rfl, by simp, fun j u hu => by
  have := range_new (cs := [.int .u8 x]) (heap1_0 w (.cells #[.int .u8 x] 5)) j u hu
  exact this⟩
theorem serve_two (w : World) (a b : Array Value) (r1 r2 : Array Value) {t u : TypeId} : Below w.heap.size w ((((w.alloc (.cells a t)).alloc (.cells b u)).setRow w.heap.size r1).setRow (w.heap.size + 1) r2) :=
  setRow_below (setRow_below (((Below.refl _ _).alloc (Nat.le_refl _) _).alloc (by simp) _) _ (Nat.le_refl _) _) _ (by omega) _
set_option maxRecDepth 100000 in
set_option maxHeartbeats 3200000 in
theorem dserve_stat14 (S : Nat) (A : Option Addr) (f : Nat → BitVec 8) (off n : Int) (ys : List Int) (m l c : Nat) {w : World} {PM : World → Prop} {F : Nat → Prop} (hA : SlRead w A (ints .u8 (rqB 5 f off n ys))) (hm : 45 + ys.length = m) (hk : ys.length = l) (hmc : m ≤ c) (hy : Byts ys) (hl : l ≤ 200) (h1 : 0 ≤ off ∧ off < 4294967296) (h2 : 0 ≤ n ∧ n < 4294967296)
    (hPb : ∀ V V', PM V → Below V.heap.size V V' → PM V') (hPs : ∀ V V' g cs, PM V → V.heap[g]? = some (.cells cs 47 (0, 0)) → w.heap.size ≤ g → Turn (· = g) V V' → PM V') (hF : ∀ q, F q → q < w.heap.size)
    (HM : ∀ V D cD, Below w.heap.size w V → SlRead V D (ints .u8 ys) → (∀ x, D = some x → w.heap.size ≤ x.block) → l ≤ cD → Calls Tryd.prog 24 #[.pointer (some ⟨S, 0, none⟩), .agg (arr8 32 f)] V fun r V' => r = .returned (.tuple #[.int .i64 0, .bool false, .int .i64 114]) ∧ PM V' ∧ Turn F V V') :
    Calls Tryd.prog 26 #[.pointer (some ⟨S, 0, none⟩), .slice A m c] w fun r w' => ∃ B cb, r = .returned (.slice B 9 cb) ∧ SlRead w' B (ints .u8 (rsB 14 0 [])) ∧ 9 ≤ cb ∧ PM w' ∧ Turn F w w' := by
  have HRQ := Lib.hid (drq_yes A 5 f off n ys m l c w hA hm hk hy hl hmc (by omega) h1 h2)
  have HY := Lib.hid (And.intro hPb (And.intro hPs (And.intro hF HM)))
  clear hA hPb hPs HM hF hm hk hy
  go_enter Tryd.func26, Tryd.ntmps26
  go_upto_region 1 with (fail)
  refine wp_region_lit ?_
  try simp only [put_list, List.set_cons_zero, List.set_cons_succ]
  refine wpList_run (by kernel_rfl) (.slice A m c) (w) (exec_move rfl (by kernel_rfl)) ?_
  refine wpList_call (by kernel_rfl) 48 #[Go.Operand.tmp 12] #[25] #[.slice A m c] _ rfl (by kernel_rfl) (by kernel_rfl) (HRQ.out) ?_
  rintro r w1 ⟨D, cD, rfl, hD, hDn, hcD, hb1⟩
  refine ⟨_, rfl, ?_⟩
  try simp only [put_list, List.set_cons_zero, List.set_cons_succ]
  refine wpList_run (by kernel_rfl) (.tuple #[.agg (rqA 5 f off n (.slice D l cD)), .agg (frow 0 false 0)]) (w1) (exec_move rfl (by kernel_rfl)) ?_
  try simp only [put_list, List.set_cons_zero, List.set_cons_succ]
  refine wpList_run (by kernel_rfl) (.agg (rqA 5 f off n (.slice D l cD))) (w1) (exec_extract (vx := .tuple #[.agg (rqA 5 f off n (.slice D l cD)), .agg (frow 0 false 0)]) rfl (by kernel_rfl) (by kernel_rfl)) ?_
  try simp only [put_list, List.set_cons_zero, List.set_cons_succ]
  refine wpList_run (by kernel_rfl) (.agg (frow 0 false 0)) (w1) (exec_extract (vx := .tuple #[.agg (rqA 5 f off n (.slice D l cD)), .agg (frow 0 false 0)]) rfl (by kernel_rfl) (by kernel_rfl)) ?_
  try simp only [put_list, List.set_cons_zero, List.set_cons_succ]
  refine wpList_allocV (by kernel_rfl) 40 (by kernel_rfl) (rqA 0 zf 0 0 (.slice none 0 0)) (fun _ => by kernel_rfl) ?_
  try simp only [put_list, List.set_cons_zero, List.set_cons_succ]
  refine wpList_allocV (by kernel_rfl) 64 (by kernel_rfl) (frow 0 false 0) (fun _ => by kernel_rfl) ?_
  try simp only [put_list, List.set_cons_zero, List.set_cons_succ]
  rw [show (w1.alloc (.cells (rqA 0 zf 0 0 (.slice none 0 0)) 40)).heap.size = w1.heap.size + 1 by simp]
  refine wpList_store_row (by kernel_rfl) 40 (Go.Operand.tmp 5) (Go.Operand.tmp 14) (by kernel_rfl) w1.heap.size (rqA 5 f off n (.slice D l cD)) (by kernel_rfl) (by kernel_rfl) _ _ (heap2_0 _ _ _) (rq_info _ _ _ _ _) (rq_szs _ _ _ _ _ _ _ _ _ _) (rq_one _ _ _ _ _ _ _) ?_
  refine wpList_store_row (by kernel_rfl) 64 (Go.Operand.tmp 6) (Go.Operand.tmp 15) (by kernel_rfl) (w1.heap.size + 1) (frow 0 false 0) (by kernel_rfl) (by kernel_rfl) _ _ ((setRow_other _ _ _ _ (by omega)).trans (heap2_1 _ _ _)) (by kernel_rfl) rfl (by kernel_rfl) ?_
  refine wpList_nil ?_
  simp only [put_none]
  go_upto_region 2 with (fail)
  obtain ⟨Q, hQ⟩ : ∃ x, x = w1.heap.size := ⟨_, rfl⟩
  refine wp_world (fun V => Below w1.heap.size w1 V ∧ V.heap[Q]? = some (.cells (rqA 5 f off n (.slice D l cD)) 40 (0, 0)) ∧ V.heap[Q + 1]? = some (.cells (frow 0 false 0) 64 (0, 0))) ?_ ?_
  · rw [hQ]
    refine ⟨serve_two w1 _ _ _ _, ?_, ?_⟩
    · exact (setRow_other _ _ _ _ (by omega)).trans (setRow_heap _ _ _ _ _ _ (heap2_0 _ _ _))
    · exact setRow_heap _ _ _ _ _ _ ((setRow_other _ _ _ _ (by omega)).trans (heap2_1 _ _ _))
  rw [← hQ]
  have HQ := Lib.hid hQ
  rintro w2 ⟨hb2, h_Q, h_F⟩
  have HB2 : Hid (Below w.heap.size w w2) := Lib.hid (hb1.trans ((by rw [← hQ]; exact hb2 : Below w1.heap.size w1 w2).mono hb1.size))
  have hD2 := hD.below (by rw [← hQ]; exact hb2 : Below w1.heap.size w1 w2)
  have hQw : w.heap.size ≤ Q := by rw [hQ]; exact hb1.size
  clear hb2 hb1 hD hQ HRQ
  try simp only [put_none]
  go_upto_region 7 with (first | (refine wpList_load_row rfl 64 _ rfl (Q + 1) rfl _ _ _ _ h_F Tryd.underlying64 rfl (by kernel_rfl) ?_) | (go_at_call 28; refine (bad_no 0 false 0 w2 rfl).mono ?_; rintro r w3 ⟨rfl, hb3⟩))
  obtain ⟨X, hX⟩ : ∃ x, x = w3.heap.size := ⟨_, rfl⟩
  refine wp_world (fun V => Below w.heap.size w V ∧ V.heap[Q]? = some (.cells (rqA 5 f off n (.slice D l cD)) 40 (0, 0)) ∧ V.heap[X]? = some (.cells (rsA 0 0 (.slice none 0 0)) 47 (0, 0)) ∧ SlRead V D (ints .u8 ys)) ?_ ?_
  · rw [hX]
    exact ⟨(HB2.out.trans (hb3.mono HB2.out.size)).trans ((below_alc w3 _).mono (Nat.le_trans HB2.out.size hb3.size)), heap_below (heap_below h_Q hb3) (below_alc w3 _), heap1_0 w3 _, (hD2.below hb3).below (below_alc w3 _)⟩
  rw [← hX]
  have hXQ : Q < X := by rw [hX]; exact Nat.lt_of_lt_of_le (lt_heap h_Q) hb3.size
  clear hX hb3 h_Q h_F hD2 HB2
  rintro w4 ⟨hb4, h_Q, h_X, hD4⟩
  have c0 := cell_heap h_Q (rq_c0 _ _ _ _ _)
  have hM := HY.out.2.2.2 w4 D cD hb4 hD4 hDn hcD
  clear hD4 hDn hcD
  go_upto_region 18 with (fail)
  refine wp_region_lit ?_
  try simp only [put_list, List.set_cons_zero, List.set_cons_succ]
  refine wpList_run (by kernel_rfl) (.pointer (some ⟨S, 0, none⟩)) (w4) (exec_move rfl (by kernel_rfl)) ?_
  try simp only [put_list, List.set_cons_zero, List.set_cons_succ]
  refine wpList_run (by kernel_rfl) (.pointer (some ⟨Q, 1, none⟩)) (w4) (exec_field (vx := .pointer (some ⟨Q, 0, none⟩)) rfl (by kernel_rfl) (by kernel_rfl)) ?_
  try simp only [put_list, List.set_cons_zero, List.set_cons_succ]
  refine wpList_run (by kernel_rfl) (.agg (arr8 32 f)) (w4) (exec_load (vx := .pointer (some ⟨Q, 1, none⟩)) rfl (by kernel_rfl) (load_rowQ w4 Q f (rq_blob h_Q))) ?_
  refine wpList_call (by kernel_rfl) 24 #[Go.Operand.tmp 73, Go.Operand.tmp 75] #[54, 37] #[.pointer (some ⟨S, 0, none⟩), .agg (arr8 32 f)] _ rfl (by kernel_rfl) (by kernel_rfl) (hM) ?_
  rintro r w5 ⟨rfl, hP5, hT5⟩
  refine ⟨_, rfl, ?_⟩
  try simp only [put_list, List.set_cons_zero, List.set_cons_succ]
  refine wpList_run (by kernel_rfl) (.tuple #[.int .i64 0, .bool false, .int .i64 114]) (w5) (exec_move rfl (by kernel_rfl)) ?_
  try simp only [put_list, List.set_cons_zero, List.set_cons_succ]
  refine wpList_run (by kernel_rfl) (.int .i64 0) (w5) (exec_extract (vx := .tuple #[.int .i64 0, .bool false, .int .i64 114]) rfl (by kernel_rfl) (by kernel_rfl)) ?_
  try simp only [put_list, List.set_cons_zero, List.set_cons_succ]
  refine wpList_run (by kernel_rfl) (.bool false) (w5) (exec_extract (vx := .tuple #[.int .i64 0, .bool false, .int .i64 114]) rfl (by kernel_rfl) (by kernel_rfl)) ?_
  try simp only [put_list, List.set_cons_zero, List.set_cons_succ]
  refine wpList_run (by kernel_rfl) (.int .i64 114) (w5) (exec_extract (vx := .tuple #[.int .i64 0, .bool false, .int .i64 114]) rfl (by kernel_rfl) (by kernel_rfl)) ?_
  try simp only [put_list, List.set_cons_zero, List.set_cons_succ]
  refine wpList_run (by kernel_rfl) (.int .i64 0) (w5) (exec_assign rfl (by kernel_rfl)) ?_
  try simp only [put_list, List.set_cons_zero, List.set_cons_succ]
  refine wpList_run (by kernel_rfl) (.bool false) (w5) (exec_assign rfl (by kernel_rfl)) ?_
  try simp only [put_list, List.set_cons_zero, List.set_cons_succ]
  refine wpList_run (by kernel_rfl) (.int .i64 114) (w5) (exec_assign rfl (by kernel_rfl)) ?_
  refine wpList_nil ?_
  simp only [put_list, List.set_cons_zero, List.set_cons_succ]
  have h_X5 : w5.heap[X]? = some (.cells (rsA 0 0 (.slice none 0 0)) 47 (0, 0)) := (hT5.block X (lt_heap h_X) (fun y => by have := HY.out.2.2.1 X y; omega)).trans h_X
  have hTT := (Turn.of_below (F := F) hb4).trans hT5 (fun q hq => .inl hq)
  clear c0 h_Q h_X hb4 hT5
  have HZ := Lib.hid (And.intro hP5 hTT)
  clear hP5 hTT
  go_upto_region 25 with (fail)
  refine wp_region_lit ?_
  try simp only [put_list, List.set_cons_zero, List.set_cons_succ]
  refine wpList_run (by kernel_rfl) (.int .i64 114) (w5) (exec_move rfl (by kernel_rfl)) ?_
  refine wpList_call (by kernel_rfl) 50 #[Go.Operand.tmp 93] #[3] #[.int .i64 114] _ rfl (by kernel_rfl) (by kernel_rfl) (dcode_114 w5) ?_
  rintro r w8 ⟨rfl, hb8⟩
  refine ⟨_, rfl, ?_⟩
  try simp only [put_list, List.set_cons_zero, List.set_cons_succ]
  refine wpList_run (by kernel_rfl) (.pointer (some ⟨X, 0, none⟩)) (w8) (exec_field (vx := .pointer (some ⟨X, 0, none⟩)) rfl (by kernel_rfl) (by kernel_rfl)) ?_
  have h_X8 := heap_below h_X5 hb8
  refine wpList_skip rfl ((w8.setCell ⟨X, 0, none⟩ (.int .i64 14))) (exec_store (vx := .pointer (some ⟨X, 0, none⟩)) (vy := .int .i64 14) rfl (by kernel_rfl) (store_i64R X 0 _ w8 (cell_heap h_X8 (rs_c0 _ _ _)) (thaw_heap h_X8 _))) ?_
  refine wpList_nil ?_
  try simp only [put_list, put_none, List.set_cons_zero, List.set_cons_succ]
  have h_X9 : (w8.setCell ⟨X, 0, none⟩ (.int .i64 14)).heap[X]? = some (.cells (rsA 14 0 (.slice none 0 0)) 47 (0, 0)) := heap_setCell_same w8 X 0 _ _ _ h_X8
  have hT9 : Turn (· = X) w8 (w8.setCell ⟨X, 0, none⟩ (.int .i64 14)) := set_turnH w8 X 0 _
  go_upto_region 26 with (fail)
  obtain ⟨w9, hw9⟩ : ∃ W, W = w8.setCell ⟨X, 0, none⟩ (.int .i64 14) := ⟨_, rfl⟩
  rw [← hw9] at h_X9 hT9 ⊢
  clear hw9
  refine wp_region_lit ?_
  try simp only [put_list, List.set_cons_zero, List.set_cons_succ]
  refine wpList_run (by kernel_rfl) (.int .i64 0) (w9) (exec_move rfl (by kernel_rfl)) ?_
  try simp only [put_list, List.set_cons_zero, List.set_cons_succ]
  refine wpList_run (by kernel_rfl) (.int .u32 0) (w9) (exec_cvt (vx := .int .i64 0) rfl (by kernel_rfl) (by kernel_rfl)) ?_
  try simp only [put_list, List.set_cons_zero, List.set_cons_succ]
  refine wpList_run (by kernel_rfl) (.pointer (some ⟨X, 1, none⟩)) (w9) (exec_field (vx := .pointer (some ⟨X, 0, none⟩)) rfl (by kernel_rfl) (by kernel_rfl)) ?_
  refine wpList_skip rfl ((w9.setCell ⟨X, 1, none⟩ (.int .u32 0))) (exec_store (vx := .pointer (some ⟨X, 1, none⟩)) (vy := .int .u32 0) rfl (by kernel_rfl) (store_u32R X 1 _ w9 (cell_heap h_X9 (rs_c1 _ _ _)) (thaw_heap h_X9 _))) ?_
  refine wpList_nil ?_
  try simp only [put_list, put_none, List.set_cons_zero, List.set_cons_succ]
  have h_XA : (w9.setCell ⟨X, 1, none⟩ (.int .u32 0)).heap[X]? = some (.cells (rsA 14 0 (.slice none 0 0)) 47 (0, 0)) := heap_setCell_same w9 X 1 _ _ _ h_X9
  have hTA : Turn (· = X) w9 (w9.setCell ⟨X, 1, none⟩ (.int .u32 0)) := set_turnH w9 X 1 _
  go_upto_region 27 with (fail)
  obtain ⟨wA, hwA⟩ : ∃ W, W = w9.setCell ⟨X, 1, none⟩ (.int .u32 0) := ⟨_, rfl⟩
  rw [← hwA] at h_XA hTA ⊢
  clear hwA
  refine wp_region_lit ?_
  try simp only [put_list, List.set_cons_zero, List.set_cons_succ]
  refine wpList_run (by kernel_rfl) (.agg (rsA 14 0 (.slice none 0 0))) (wA) (exec_load (vx := .pointer (some ⟨X, 0, none⟩)) rfl (by kernel_rfl) (load_rsR X _ wA h_XA)) ?_
  refine wpList_call (by kernel_rfl) 49 #[Go.Operand.tmp 99] #[47] #[.agg (rsA 14 0 (.slice none 0 0))] _ rfl (by kernel_rfl) (by kernel_rfl) (drsp_wD 14 0 none [] 0 0 9 wA (by exact SlRead.nil_) rfl rfl (by omega)) ?_
  rintro r wB ⟨Bo, co, rfl, hBo, hco, hbB⟩
  refine ⟨_, rfl, ?_⟩
  try simp only [put_list, List.set_cons_zero, List.set_cons_succ]
  refine wpList_run (by kernel_rfl) (.slice Bo 9 co) (wB) (exec_assign rfl (by kernel_rfl)) ?_
  refine wpList_nil ?_
  simp only [put_list, List.set_cons_zero, List.set_cons_succ]
  go_wp2_with fail
  go_ret
  have hX0 : w.heap.size ≤ X := by omega
  have q1 := HY.out.1 _ _ HZ.out.1 hb8
  have q2 := HY.out.2.1 _ _ X _ q1 h_X8 hX0 hT9
  have q3 := HY.out.2.1 _ _ X _ q2 h_X9 hX0 hTA
  have q4 := HY.out.1 _ _ q3 hbB
  exact ⟨Bo, co, rfl, hBo, hco, q4, ((((HZ.out.2.trans (Turn.of_below (F := fun _ => False) hb8) (fun _ y => y.elim)).trans hT9 (fun q hq => .inr (by rw [show q = X from hq]; exact hX0))).trans hTA (fun q hq => .inr (by rw [show q = X from hq]; exact hX0))).trans (Turn.of_below (F := fun _ => False) hbB) (fun _ y => y.elim))⟩
set_option maxRecDepth 100000 in
set_option maxHeartbeats 3200000 in
theorem dserve_statF (S : Nat) (A : Option Addr) (f : Nat → BitVec 8) (off n : Int) (ys : List Int) (m l c : Nat) (nres : Int) (hcvn : ∀ w, (convert 3 38 (.int .i64 nres)).run Tryd.prog w = .ok (.int .u32 nres) w) {w : World} {PM : World → Prop} {F : Nat → Prop} (hA : SlRead w A (ints .u8 (rqB 5 f off n ys))) (hm : 45 + ys.length = m) (hk : ys.length = l) (hmc : m ≤ c) (hy : Byts ys) (hl : l ≤ 200) (h1 : 0 ≤ off ∧ off < 4294967296) (h2 : 0 ≤ n ∧ n < 4294967296)
    (hPb : ∀ V V', PM V → Below V.heap.size V V' → PM V') (hPs : ∀ V V' g cs, PM V → V.heap[g]? = some (.cells cs 47 (0, 0)) → w.heap.size ≤ g → Turn (· = g) V V' → PM V') (hF : ∀ q, F q → q < w.heap.size)
    (HM : ∀ V D cD, Below w.heap.size w V → SlRead V D (ints .u8 ys) → (∀ x, D = some x → w.heap.size ≤ x.block) → l ≤ cD → Calls Tryd.prog 24 #[.pointer (some ⟨S, 0, none⟩), .agg (arr8 32 f)] V fun r V' => r = .returned (.tuple #[.int .i64 nres, .bool false, .int .i64 0]) ∧ PM V' ∧ Turn F V V') :
    Calls Tryd.prog 26 #[.pointer (some ⟨S, 0, none⟩), .slice A m c] w fun r w' => ∃ B cb, r = .returned (.slice B 10 cb) ∧ SlRead w' B (ints .u8 (rsB 0 nres [0])) ∧ 10 ≤ cb ∧ PM w' ∧ Turn F w w' := by
  have HRQ := Lib.hid (drq_yes A 5 f off n ys m l c w hA hm hk hy hl hmc (by omega) h1 h2)
  have HY := Lib.hid (And.intro hPb (And.intro hPs (And.intro hF HM)))
  clear hA hPb hPs HM hF hm hk hy
  go_enter Tryd.func26, Tryd.ntmps26
  go_upto_region 1 with (fail)
  refine wp_region_lit ?_
  try simp only [put_list, List.set_cons_zero, List.set_cons_succ]
  refine wpList_run (by kernel_rfl) (.slice A m c) (w) (exec_move rfl (by kernel_rfl)) ?_
  refine wpList_call (by kernel_rfl) 48 #[Go.Operand.tmp 12] #[25] #[.slice A m c] _ rfl (by kernel_rfl) (by kernel_rfl) (HRQ.out) ?_
  rintro r w1 ⟨D, cD, rfl, hD, hDn, hcD, hb1⟩
  refine ⟨_, rfl, ?_⟩
  try simp only [put_list, List.set_cons_zero, List.set_cons_succ]
  refine wpList_run (by kernel_rfl) (.tuple #[.agg (rqA 5 f off n (.slice D l cD)), .agg (frow 0 false 0)]) (w1) (exec_move rfl (by kernel_rfl)) ?_
  try simp only [put_list, List.set_cons_zero, List.set_cons_succ]
  refine wpList_run (by kernel_rfl) (.agg (rqA 5 f off n (.slice D l cD))) (w1) (exec_extract (vx := .tuple #[.agg (rqA 5 f off n (.slice D l cD)), .agg (frow 0 false 0)]) rfl (by kernel_rfl) (by kernel_rfl)) ?_
  try simp only [put_list, List.set_cons_zero, List.set_cons_succ]
  refine wpList_run (by kernel_rfl) (.agg (frow 0 false 0)) (w1) (exec_extract (vx := .tuple #[.agg (rqA 5 f off n (.slice D l cD)), .agg (frow 0 false 0)]) rfl (by kernel_rfl) (by kernel_rfl)) ?_
  try simp only [put_list, List.set_cons_zero, List.set_cons_succ]
  refine wpList_allocV (by kernel_rfl) 40 (by kernel_rfl) (rqA 0 zf 0 0 (.slice none 0 0)) (fun _ => by kernel_rfl) ?_
  try simp only [put_list, List.set_cons_zero, List.set_cons_succ]
  refine wpList_allocV (by kernel_rfl) 64 (by kernel_rfl) (frow 0 false 0) (fun _ => by kernel_rfl) ?_
  try simp only [put_list, List.set_cons_zero, List.set_cons_succ]
  rw [show (w1.alloc (.cells (rqA 0 zf 0 0 (.slice none 0 0)) 40)).heap.size = w1.heap.size + 1 by simp]
  refine wpList_store_row (by kernel_rfl) 40 (Go.Operand.tmp 5) (Go.Operand.tmp 14) (by kernel_rfl) w1.heap.size (rqA 5 f off n (.slice D l cD)) (by kernel_rfl) (by kernel_rfl) _ _ (heap2_0 _ _ _) (rq_info _ _ _ _ _) (rq_szs _ _ _ _ _ _ _ _ _ _) (rq_one _ _ _ _ _ _ _) ?_
  refine wpList_store_row (by kernel_rfl) 64 (Go.Operand.tmp 6) (Go.Operand.tmp 15) (by kernel_rfl) (w1.heap.size + 1) (frow 0 false 0) (by kernel_rfl) (by kernel_rfl) _ _ ((setRow_other _ _ _ _ (by omega)).trans (heap2_1 _ _ _)) (by kernel_rfl) rfl (by kernel_rfl) ?_
  refine wpList_nil ?_
  simp only [put_none]
  go_upto_region 2 with (fail)
  obtain ⟨Q, hQ⟩ : ∃ x, x = w1.heap.size := ⟨_, rfl⟩
  refine wp_world (fun V => Below w1.heap.size w1 V ∧ V.heap[Q]? = some (.cells (rqA 5 f off n (.slice D l cD)) 40 (0, 0)) ∧ V.heap[Q + 1]? = some (.cells (frow 0 false 0) 64 (0, 0))) ?_ ?_
  · rw [hQ]
    refine ⟨serve_two w1 _ _ _ _, ?_, ?_⟩
    · exact (setRow_other _ _ _ _ (by omega)).trans (setRow_heap _ _ _ _ _ _ (heap2_0 _ _ _))
    · exact setRow_heap _ _ _ _ _ _ ((setRow_other _ _ _ _ (by omega)).trans (heap2_1 _ _ _))
  rw [← hQ]
  have HQ := Lib.hid hQ
  rintro w2 ⟨hb2, h_Q, h_F⟩
  have HB2 : Hid (Below w.heap.size w w2) := Lib.hid (hb1.trans ((by rw [← hQ]; exact hb2 : Below w1.heap.size w1 w2).mono hb1.size))
  have hD2 := hD.below (by rw [← hQ]; exact hb2 : Below w1.heap.size w1 w2)
  have hQw : w.heap.size ≤ Q := by rw [hQ]; exact hb1.size
  clear hb2 hb1 hD hQ HRQ
  try simp only [put_none]
  go_upto_region 7 with (first | (refine wpList_load_row rfl 64 _ rfl (Q + 1) rfl _ _ _ _ h_F Tryd.underlying64 rfl (by kernel_rfl) ?_) | (go_at_call 28; refine (bad_no 0 false 0 w2 rfl).mono ?_; rintro r w3 ⟨rfl, hb3⟩))
  obtain ⟨X, hX⟩ : ∃ x, x = w3.heap.size := ⟨_, rfl⟩
  refine wp_world (fun V => Below w.heap.size w V ∧ V.heap[Q]? = some (.cells (rqA 5 f off n (.slice D l cD)) 40 (0, 0)) ∧ V.heap[X]? = some (.cells (rsA 0 0 (.slice none 0 0)) 47 (0, 0)) ∧ SlRead V D (ints .u8 ys)) ?_ ?_
  · rw [hX]
    exact ⟨(HB2.out.trans (hb3.mono HB2.out.size)).trans ((below_alc w3 _).mono (Nat.le_trans HB2.out.size hb3.size)), heap_below (heap_below h_Q hb3) (below_alc w3 _), heap1_0 w3 _, (hD2.below hb3).below (below_alc w3 _)⟩
  rw [← hX]
  have hXQ : Q < X := by rw [hX]; exact Nat.lt_of_lt_of_le (lt_heap h_Q) hb3.size
  clear hX hb3 h_Q h_F hD2 HB2
  rintro w4 ⟨hb4, h_Q, h_X, hD4⟩
  have c0 := cell_heap h_Q (rq_c0 _ _ _ _ _)
  have hM := HY.out.2.2.2 w4 D cD hb4 hD4 hDn hcD
  clear hD4 hDn hcD
  go_upto_region 18 with (fail)
  refine wp_region_lit ?_
  try simp only [put_list, List.set_cons_zero, List.set_cons_succ]
  refine wpList_run (by kernel_rfl) (.pointer (some ⟨S, 0, none⟩)) (w4) (exec_move rfl (by kernel_rfl)) ?_
  try simp only [put_list, List.set_cons_zero, List.set_cons_succ]
  refine wpList_run (by kernel_rfl) (.pointer (some ⟨Q, 1, none⟩)) (w4) (exec_field (vx := .pointer (some ⟨Q, 0, none⟩)) rfl (by kernel_rfl) (by kernel_rfl)) ?_
  try simp only [put_list, List.set_cons_zero, List.set_cons_succ]
  refine wpList_run (by kernel_rfl) (.agg (arr8 32 f)) (w4) (exec_load (vx := .pointer (some ⟨Q, 1, none⟩)) rfl (by kernel_rfl) (load_rowQ w4 Q f (rq_blob h_Q))) ?_
  refine wpList_call (by kernel_rfl) 24 #[Go.Operand.tmp 73, Go.Operand.tmp 75] #[54, 37] #[.pointer (some ⟨S, 0, none⟩), .agg (arr8 32 f)] _ rfl (by kernel_rfl) (by kernel_rfl) (hM) ?_
  rintro r w5 ⟨rfl, hP5, hT5⟩
  refine ⟨_, rfl, ?_⟩
  try simp only [put_list, List.set_cons_zero, List.set_cons_succ]
  refine wpList_run (by kernel_rfl) (.tuple #[.int .i64 nres, .bool false, .int .i64 0]) (w5) (exec_move rfl (by kernel_rfl)) ?_
  try simp only [put_list, List.set_cons_zero, List.set_cons_succ]
  refine wpList_run (by kernel_rfl) (.int .i64 nres) (w5) (exec_extract (vx := .tuple #[.int .i64 nres, .bool false, .int .i64 0]) rfl (by kernel_rfl) (by kernel_rfl)) ?_
  try simp only [put_list, List.set_cons_zero, List.set_cons_succ]
  refine wpList_run (by kernel_rfl) (.bool false) (w5) (exec_extract (vx := .tuple #[.int .i64 nres, .bool false, .int .i64 0]) rfl (by kernel_rfl) (by kernel_rfl)) ?_
  try simp only [put_list, List.set_cons_zero, List.set_cons_succ]
  refine wpList_run (by kernel_rfl) (.int .i64 0) (w5) (exec_extract (vx := .tuple #[.int .i64 nres, .bool false, .int .i64 0]) rfl (by kernel_rfl) (by kernel_rfl)) ?_
  try simp only [put_list, List.set_cons_zero, List.set_cons_succ]
  refine wpList_run (by kernel_rfl) (.int .i64 nres) (w5) (exec_assign rfl (by kernel_rfl)) ?_
  try simp only [put_list, List.set_cons_zero, List.set_cons_succ]
  refine wpList_run (by kernel_rfl) (.bool false) (w5) (exec_assign rfl (by kernel_rfl)) ?_
  try simp only [put_list, List.set_cons_zero, List.set_cons_succ]
  refine wpList_run (by kernel_rfl) (.int .i64 0) (w5) (exec_assign rfl (by kernel_rfl)) ?_
  refine wpList_nil ?_
  simp only [put_list, List.set_cons_zero, List.set_cons_succ]
  have h_X5 : w5.heap[X]? = some (.cells (rsA 0 0 (.slice none 0 0)) 47 (0, 0)) := (hT5.block X (lt_heap h_X) (fun y => by have := HY.out.2.2.1 X y; omega)).trans h_X
  have hTT := (Turn.of_below (F := F) hb4).trans hT5 (fun q hq => .inl hq)
  clear c0 h_Q h_X hb4 hT5
  have HZ := Lib.hid (And.intro hP5 hTT)
  clear hP5 hTT
  go_upto_region 20 with (fail)
  refine wp_region_lit ?_
  try simp only [put_list, List.set_cons_zero, List.set_cons_succ]
  refine wpList_run (by kernel_rfl) (.slice (some ⟨w5.heap.size, 0, none⟩) 1 1) ((w5.alloc (.cells #[.int .u8 0] 5))) (exec_bsl (vs := #[(0, Go.Value.int Go.IntKind.u8 0)]) rfl (by kernel_rfl) (by kernel_rfl)) ?_
  try simp only [put_list, List.set_cons_zero, List.set_cons_succ]
  refine wpList_run (by kernel_rfl) (.pointer (some ⟨X, 2, none⟩)) ((w5.alloc (.cells #[.int .u8 0] 5))) (exec_field (vx := .pointer (some ⟨X, 0, none⟩)) rfl (by kernel_rfl) (by kernel_rfl)) ?_
  have h_Y6 := heap_below h_X5 (below_alc w5 (.cells #[.int .u8 0] 5))
  refine wpList_skip rfl (((w5.alloc (.cells #[.int .u8 0] 5)).setCell ⟨X, 2, none⟩ (.slice (some ⟨w5.heap.size, 0, none⟩) 1 1))) (exec_store (vx := .pointer (some ⟨X, 2, none⟩)) (vy := .slice (some ⟨w5.heap.size, 0, none⟩) 1 1) rfl (by kernel_rfl) (store_slR X 2 _ (w5.alloc (.cells #[.int .u8 0] 5)) (cell_heap h_Y6 (rs_c2 _ _ _)) (thaw_heap h_Y6 _))) ?_
  refine wpList_nil ?_
  try simp only [put_list, put_none, List.set_cons_zero, List.set_cons_succ]
  obtain ⟨Gd6, hGd6⟩ : ∃ x, x = w5.heap.size := ⟨_, rfl⟩
  have h_X6 : ((w5.alloc (.cells #[.int .u8 0] 5)).setCell ⟨X, 2, none⟩ (.slice (some ⟨w5.heap.size, 0, none⟩) 1 1)).heap[X]? = some (.cells (rsA 0 0 (.slice (some ⟨w5.heap.size, 0, none⟩) 1 1)) 47 (0, 0)) := heap_setCell_same _ X 2 _ _ _ h_Y6
  have hT6 : Turn (· = X) (w5.alloc (.cells #[.int .u8 0] 5)) ((w5.alloc (.cells #[.int .u8 0] 5)).setCell ⟨X, 2, none⟩ (.slice (some ⟨w5.heap.size, 0, none⟩) 1 1)) := set_turnH _ X 2 _
  have hGX6 : X < w5.heap.size := lt_heap h_X5
  have hr6 : SlRead ((w5.alloc (.cells #[.int .u8 0] 5)).setCell ⟨X, 2, none⟩ (.slice (some ⟨w5.heap.size, 0, none⟩) 1 1)) (some ⟨w5.heap.size, 0, none⟩) (ints .u8 [0]) := SlRead.turnR (one_newR w5 0) hT6 (by show w5.heap.size ≠ X; omega)
  have HZ6 : Hid (PM ((w5.alloc (.cells #[.int .u8 0] 5)).setCell ⟨X, 2, none⟩ (.slice (some ⟨w5.heap.size, 0, none⟩) 1 1)) ∧ Turn F w ((w5.alloc (.cells #[.int .u8 0] 5)).setCell ⟨X, 2, none⟩ (.slice (some ⟨w5.heap.size, 0, none⟩) 1 1))) := Lib.hid ⟨HY.out.2.1 _ _ X _ (HY.out.1 _ _ HZ.out.1 (below_alc w5 _)) h_Y6 (by omega) hT6, (HZ.out.2.trans (Turn.of_below (F := fun _ => False) (below_alc w5 _)) (fun _ y => y.elim)).trans hT6 (fun q hq => .inr (by rw [show q = X from hq]; omega))⟩
  go_upto_region 21 with (fail)
  obtain ⟨w6, hN6⟩ : ∃ W, W = (w5.alloc (.cells #[.int .u8 0] 5)).setCell ⟨X, 2, none⟩ (.slice (some ⟨w5.heap.size, 0, none⟩) 1 1) := ⟨_, rfl⟩
  rw [← hN6] at h_X6 hr6 HZ6 ⊢
  rw [← hGd6] at h_X6 hr6 hGX6 ⊢
  clear hN6 hT6 h_Y6 hGd6
  go_upto_region 25 with (fail)
  refine wp_region_lit ?_
  try simp only [put_list, List.set_cons_zero, List.set_cons_succ]
  refine wpList_run (by kernel_rfl) (.int .i64 0) (w6) (exec_move rfl (by kernel_rfl)) ?_
  refine wpList_call (by kernel_rfl) 50 #[Go.Operand.tmp 93] #[3] #[.int .i64 0] _ rfl (by kernel_rfl) (by kernel_rfl) (dcode_0 w6) ?_
  rintro r w8 ⟨rfl, hb8⟩
  refine ⟨_, rfl, ?_⟩
  try simp only [put_list, List.set_cons_zero, List.set_cons_succ]
  refine wpList_run (by kernel_rfl) (.pointer (some ⟨X, 0, none⟩)) (w8) (exec_field (vx := .pointer (some ⟨X, 0, none⟩)) rfl (by kernel_rfl) (by kernel_rfl)) ?_
  have h_X8 := heap_below h_X6 hb8
  refine wpList_skip rfl ((w8.setCell ⟨X, 0, none⟩ (.int .i64 0))) (exec_store (vx := .pointer (some ⟨X, 0, none⟩)) (vy := .int .i64 0) rfl (by kernel_rfl) (store_i64R X 0 _ w8 (cell_heap h_X8 (rs_c0 _ _ _)) (thaw_heap h_X8 _))) ?_
  refine wpList_nil ?_
  try simp only [put_list, put_none, List.set_cons_zero, List.set_cons_succ]
  have h_X9 : (w8.setCell ⟨X, 0, none⟩ (.int .i64 0)).heap[X]? = some (.cells (rsA 0 0 (.slice (some ⟨Gd6, 0, none⟩) 1 1)) 47 (0, 0)) := heap_setCell_same w8 X 0 _ _ _ h_X8
  have hT9 : Turn (· = X) w8 (w8.setCell ⟨X, 0, none⟩ (.int .i64 0)) := set_turnH w8 X 0 _
  go_upto_region 26 with (fail)
  obtain ⟨w9, hw9⟩ : ∃ W, W = w8.setCell ⟨X, 0, none⟩ (.int .i64 0) := ⟨_, rfl⟩
  rw [← hw9] at h_X9 hT9 ⊢
  clear hw9
  refine wp_region_lit ?_
  try simp only [put_list, List.set_cons_zero, List.set_cons_succ]
  refine wpList_run (by kernel_rfl) (.int .i64 nres) (w9) (exec_move rfl (by kernel_rfl)) ?_
  try simp only [put_list, List.set_cons_zero, List.set_cons_succ]
  refine wpList_run (by kernel_rfl) (.int .u32 nres) (w9) (exec_cvt (vx := .int .i64 nres) rfl (by kernel_rfl) (hcvn w9)) ?_
  try simp only [put_list, List.set_cons_zero, List.set_cons_succ]
  refine wpList_run (by kernel_rfl) (.pointer (some ⟨X, 1, none⟩)) (w9) (exec_field (vx := .pointer (some ⟨X, 0, none⟩)) rfl (by kernel_rfl) (by kernel_rfl)) ?_
  refine wpList_skip rfl ((w9.setCell ⟨X, 1, none⟩ (.int .u32 nres))) (exec_store (vx := .pointer (some ⟨X, 1, none⟩)) (vy := .int .u32 nres) rfl (by kernel_rfl) (store_u32R X 1 _ w9 (cell_heap h_X9 (rs_c1 _ _ _)) (thaw_heap h_X9 _))) ?_
  refine wpList_nil ?_
  try simp only [put_list, put_none, List.set_cons_zero, List.set_cons_succ]
  have h_XA : (w9.setCell ⟨X, 1, none⟩ (.int .u32 nres)).heap[X]? = some (.cells (rsA 0 nres (.slice (some ⟨Gd6, 0, none⟩) 1 1)) 47 (0, 0)) := heap_setCell_same w9 X 1 _ _ _ h_X9
  have hTA : Turn (· = X) w9 (w9.setCell ⟨X, 1, none⟩ (.int .u32 nres)) := set_turnH w9 X 1 _
  go_upto_region 27 with (fail)
  obtain ⟨wA, hwA⟩ : ∃ W, W = w9.setCell ⟨X, 1, none⟩ (.int .u32 nres) := ⟨_, rfl⟩
  rw [← hwA] at h_XA hTA ⊢
  clear hwA
  have hrA : SlRead wA (some ⟨Gd6, 0, none⟩) (ints .u8 [0]) := SlRead.turnR (SlRead.turnR (hr6.below hb8) hT9 (by show Gd6 ≠ X; omega)) hTA (by show Gd6 ≠ X; omega)
  refine wp_region_lit ?_
  try simp only [put_list, List.set_cons_zero, List.set_cons_succ]
  refine wpList_run (by kernel_rfl) (.agg (rsA 0 nres (.slice (some ⟨Gd6, 0, none⟩) 1 1))) (wA) (exec_load (vx := .pointer (some ⟨X, 0, none⟩)) rfl (by kernel_rfl) (load_rsR X _ wA h_XA)) ?_
  refine wpList_call (by kernel_rfl) 49 #[Go.Operand.tmp 99] #[47] #[.agg (rsA 0 nres (.slice (some ⟨Gd6, 0, none⟩) 1 1))] _ rfl (by kernel_rfl) (by kernel_rfl) (drsp_wD 0 nres (some ⟨Gd6, 0, none⟩) [0] 1 1 10 wA hrA rfl rfl (by omega)) ?_
  rintro r wB ⟨Bo, co, rfl, hBo, hco, hbB⟩
  refine ⟨_, rfl, ?_⟩
  try simp only [put_list, List.set_cons_zero, List.set_cons_succ]
  refine wpList_run (by kernel_rfl) (.slice Bo 10 co) (wB) (exec_assign rfl (by kernel_rfl)) ?_
  refine wpList_nil ?_
  simp only [put_list, List.set_cons_zero, List.set_cons_succ]
  go_wp2_with fail
  go_ret
  have hX0 : w.heap.size ≤ X := by omega
  have q1 := HY.out.1 _ _ HZ6.out.1 hb8
  have q2 := HY.out.2.1 _ _ X _ q1 h_X8 hX0 hT9
  have q3 := HY.out.2.1 _ _ X _ q2 h_X9 hX0 hTA
  have q4 := HY.out.1 _ _ q3 hbB
  exact ⟨Bo, co, rfl, hBo, hco, q4, ((((HZ6.out.2.trans (Turn.of_below (F := fun _ => False) hb8) (fun _ y => y.elim)).trans hT9 (fun q hq => .inr (by rw [show q = X from hq]; exact hX0))).trans hTA (fun q hq => .inr (by rw [show q = X from hq]; exact hX0))).trans (Turn.of_below (F := fun _ => False) hbB) (fun _ y => y.elim))⟩
set_option maxRecDepth 100000 in
set_option maxHeartbeats 3200000 in
theorem dserve_statT (S : Nat) (A : Option Addr) (f : Nat → BitVec 8) (off n : Int) (ys : List Int) (m l c : Nat) (nres : Int) (hcvn : ∀ w, (convert 3 38 (.int .i64 nres)).run Tryd.prog w = .ok (.int .u32 nres) w) {w : World} {PM : World → Prop} {F : Nat → Prop} (hA : SlRead w A (ints .u8 (rqB 5 f off n ys))) (hm : 45 + ys.length = m) (hk : ys.length = l) (hmc : m ≤ c) (hy : Byts ys) (hl : l ≤ 200) (h1 : 0 ≤ off ∧ off < 4294967296) (h2 : 0 ≤ n ∧ n < 4294967296)
    (hPb : ∀ V V', PM V → Below V.heap.size V V' → PM V') (hPs : ∀ V V' g cs, PM V → V.heap[g]? = some (.cells cs 47 (0, 0)) → w.heap.size ≤ g → Turn (· = g) V V' → PM V') (hF : ∀ q, F q → q < w.heap.size)
    (HM : ∀ V D cD, Below w.heap.size w V → SlRead V D (ints .u8 ys) → (∀ x, D = some x → w.heap.size ≤ x.block) → l ≤ cD → Calls Tryd.prog 24 #[.pointer (some ⟨S, 0, none⟩), .agg (arr8 32 f)] V fun r V' => r = .returned (.tuple #[.int .i64 nres, .bool true, .int .i64 0]) ∧ PM V' ∧ Turn F V V') :
    Calls Tryd.prog 26 #[.pointer (some ⟨S, 0, none⟩), .slice A m c] w fun r w' => ∃ B cb, r = .returned (.slice B 10 cb) ∧ SlRead w' B (ints .u8 (rsB 0 nres [1])) ∧ 10 ≤ cb ∧ PM w' ∧ Turn F w w' := by
  have HRQ := Lib.hid (drq_yes A 5 f off n ys m l c w hA hm hk hy hl hmc (by omega) h1 h2)
  have HY := Lib.hid (And.intro hPb (And.intro hPs (And.intro hF HM)))
  clear hA hPb hPs HM hF hm hk hy
  go_enter Tryd.func26, Tryd.ntmps26
  go_upto_region 1 with (fail)
  refine wp_region_lit ?_
  try simp only [put_list, List.set_cons_zero, List.set_cons_succ]
  refine wpList_run (by kernel_rfl) (.slice A m c) (w) (exec_move rfl (by kernel_rfl)) ?_
  refine wpList_call (by kernel_rfl) 48 #[Go.Operand.tmp 12] #[25] #[.slice A m c] _ rfl (by kernel_rfl) (by kernel_rfl) (HRQ.out) ?_
  rintro r w1 ⟨D, cD, rfl, hD, hDn, hcD, hb1⟩
  refine ⟨_, rfl, ?_⟩
  try simp only [put_list, List.set_cons_zero, List.set_cons_succ]
  refine wpList_run (by kernel_rfl) (.tuple #[.agg (rqA 5 f off n (.slice D l cD)), .agg (frow 0 false 0)]) (w1) (exec_move rfl (by kernel_rfl)) ?_
  try simp only [put_list, List.set_cons_zero, List.set_cons_succ]
  refine wpList_run (by kernel_rfl) (.agg (rqA 5 f off n (.slice D l cD))) (w1) (exec_extract (vx := .tuple #[.agg (rqA 5 f off n (.slice D l cD)), .agg (frow 0 false 0)]) rfl (by kernel_rfl) (by kernel_rfl)) ?_
  try simp only [put_list, List.set_cons_zero, List.set_cons_succ]
  refine wpList_run (by kernel_rfl) (.agg (frow 0 false 0)) (w1) (exec_extract (vx := .tuple #[.agg (rqA 5 f off n (.slice D l cD)), .agg (frow 0 false 0)]) rfl (by kernel_rfl) (by kernel_rfl)) ?_
  try simp only [put_list, List.set_cons_zero, List.set_cons_succ]
  refine wpList_allocV (by kernel_rfl) 40 (by kernel_rfl) (rqA 0 zf 0 0 (.slice none 0 0)) (fun _ => by kernel_rfl) ?_
  try simp only [put_list, List.set_cons_zero, List.set_cons_succ]
  refine wpList_allocV (by kernel_rfl) 64 (by kernel_rfl) (frow 0 false 0) (fun _ => by kernel_rfl) ?_
  try simp only [put_list, List.set_cons_zero, List.set_cons_succ]
  rw [show (w1.alloc (.cells (rqA 0 zf 0 0 (.slice none 0 0)) 40)).heap.size = w1.heap.size + 1 by simp]
  refine wpList_store_row (by kernel_rfl) 40 (Go.Operand.tmp 5) (Go.Operand.tmp 14) (by kernel_rfl) w1.heap.size (rqA 5 f off n (.slice D l cD)) (by kernel_rfl) (by kernel_rfl) _ _ (heap2_0 _ _ _) (rq_info _ _ _ _ _) (rq_szs _ _ _ _ _ _ _ _ _ _) (rq_one _ _ _ _ _ _ _) ?_
  refine wpList_store_row (by kernel_rfl) 64 (Go.Operand.tmp 6) (Go.Operand.tmp 15) (by kernel_rfl) (w1.heap.size + 1) (frow 0 false 0) (by kernel_rfl) (by kernel_rfl) _ _ ((setRow_other _ _ _ _ (by omega)).trans (heap2_1 _ _ _)) (by kernel_rfl) rfl (by kernel_rfl) ?_
  refine wpList_nil ?_
  simp only [put_none]
  go_upto_region 2 with (fail)
  obtain ⟨Q, hQ⟩ : ∃ x, x = w1.heap.size := ⟨_, rfl⟩
  refine wp_world (fun V => Below w1.heap.size w1 V ∧ V.heap[Q]? = some (.cells (rqA 5 f off n (.slice D l cD)) 40 (0, 0)) ∧ V.heap[Q + 1]? = some (.cells (frow 0 false 0) 64 (0, 0))) ?_ ?_
  · rw [hQ]
    refine ⟨serve_two w1 _ _ _ _, ?_, ?_⟩
    · exact (setRow_other _ _ _ _ (by omega)).trans (setRow_heap _ _ _ _ _ _ (heap2_0 _ _ _))
    · exact setRow_heap _ _ _ _ _ _ ((setRow_other _ _ _ _ (by omega)).trans (heap2_1 _ _ _))
  rw [← hQ]
  have HQ := Lib.hid hQ
  rintro w2 ⟨hb2, h_Q, h_F⟩
  have HB2 : Hid (Below w.heap.size w w2) := Lib.hid (hb1.trans ((by rw [← hQ]; exact hb2 : Below w1.heap.size w1 w2).mono hb1.size))
  have hD2 := hD.below (by rw [← hQ]; exact hb2 : Below w1.heap.size w1 w2)
  have hQw : w.heap.size ≤ Q := by rw [hQ]; exact hb1.size
  clear hb2 hb1 hD hQ HRQ
  try simp only [put_none]
  go_upto_region 7 with (first | (refine wpList_load_row rfl 64 _ rfl (Q + 1) rfl _ _ _ _ h_F Tryd.underlying64 rfl (by kernel_rfl) ?_) | (go_at_call 28; refine (bad_no 0 false 0 w2 rfl).mono ?_; rintro r w3 ⟨rfl, hb3⟩))
  obtain ⟨X, hX⟩ : ∃ x, x = w3.heap.size := ⟨_, rfl⟩
  refine wp_world (fun V => Below w.heap.size w V ∧ V.heap[Q]? = some (.cells (rqA 5 f off n (.slice D l cD)) 40 (0, 0)) ∧ V.heap[X]? = some (.cells (rsA 0 0 (.slice none 0 0)) 47 (0, 0)) ∧ SlRead V D (ints .u8 ys)) ?_ ?_
  · rw [hX]
    exact ⟨(HB2.out.trans (hb3.mono HB2.out.size)).trans ((below_alc w3 _).mono (Nat.le_trans HB2.out.size hb3.size)), heap_below (heap_below h_Q hb3) (below_alc w3 _), heap1_0 w3 _, (hD2.below hb3).below (below_alc w3 _)⟩
  rw [← hX]
  have hXQ : Q < X := by rw [hX]; exact Nat.lt_of_lt_of_le (lt_heap h_Q) hb3.size
  clear hX hb3 h_Q h_F hD2 HB2
  rintro w4 ⟨hb4, h_Q, h_X, hD4⟩
  have c0 := cell_heap h_Q (rq_c0 _ _ _ _ _)
  have hM := HY.out.2.2.2 w4 D cD hb4 hD4 hDn hcD
  clear hD4 hDn hcD
  go_upto_region 18 with (fail)
  refine wp_region_lit ?_
  try simp only [put_list, List.set_cons_zero, List.set_cons_succ]
  refine wpList_run (by kernel_rfl) (.pointer (some ⟨S, 0, none⟩)) (w4) (exec_move rfl (by kernel_rfl)) ?_
  try simp only [put_list, List.set_cons_zero, List.set_cons_succ]
  refine wpList_run (by kernel_rfl) (.pointer (some ⟨Q, 1, none⟩)) (w4) (exec_field (vx := .pointer (some ⟨Q, 0, none⟩)) rfl (by kernel_rfl) (by kernel_rfl)) ?_
  try simp only [put_list, List.set_cons_zero, List.set_cons_succ]
  refine wpList_run (by kernel_rfl) (.agg (arr8 32 f)) (w4) (exec_load (vx := .pointer (some ⟨Q, 1, none⟩)) rfl (by kernel_rfl) (load_rowQ w4 Q f (rq_blob h_Q))) ?_
  refine wpList_call (by kernel_rfl) 24 #[Go.Operand.tmp 73, Go.Operand.tmp 75] #[54, 37] #[.pointer (some ⟨S, 0, none⟩), .agg (arr8 32 f)] _ rfl (by kernel_rfl) (by kernel_rfl) (hM) ?_
  rintro r w5 ⟨rfl, hP5, hT5⟩
  refine ⟨_, rfl, ?_⟩
  try simp only [put_list, List.set_cons_zero, List.set_cons_succ]
  refine wpList_run (by kernel_rfl) (.tuple #[.int .i64 nres, .bool true, .int .i64 0]) (w5) (exec_move rfl (by kernel_rfl)) ?_
  try simp only [put_list, List.set_cons_zero, List.set_cons_succ]
  refine wpList_run (by kernel_rfl) (.int .i64 nres) (w5) (exec_extract (vx := .tuple #[.int .i64 nres, .bool true, .int .i64 0]) rfl (by kernel_rfl) (by kernel_rfl)) ?_
  try simp only [put_list, List.set_cons_zero, List.set_cons_succ]
  refine wpList_run (by kernel_rfl) (.bool true) (w5) (exec_extract (vx := .tuple #[.int .i64 nres, .bool true, .int .i64 0]) rfl (by kernel_rfl) (by kernel_rfl)) ?_
  try simp only [put_list, List.set_cons_zero, List.set_cons_succ]
  refine wpList_run (by kernel_rfl) (.int .i64 0) (w5) (exec_extract (vx := .tuple #[.int .i64 nres, .bool true, .int .i64 0]) rfl (by kernel_rfl) (by kernel_rfl)) ?_
  try simp only [put_list, List.set_cons_zero, List.set_cons_succ]
  refine wpList_run (by kernel_rfl) (.int .i64 nres) (w5) (exec_assign rfl (by kernel_rfl)) ?_
  try simp only [put_list, List.set_cons_zero, List.set_cons_succ]
  refine wpList_run (by kernel_rfl) (.bool true) (w5) (exec_assign rfl (by kernel_rfl)) ?_
  try simp only [put_list, List.set_cons_zero, List.set_cons_succ]
  refine wpList_run (by kernel_rfl) (.int .i64 0) (w5) (exec_assign rfl (by kernel_rfl)) ?_
  refine wpList_nil ?_
  simp only [put_list, List.set_cons_zero, List.set_cons_succ]
  have h_X5 : w5.heap[X]? = some (.cells (rsA 0 0 (.slice none 0 0)) 47 (0, 0)) := (hT5.block X (lt_heap h_X) (fun y => by have := HY.out.2.2.1 X y; omega)).trans h_X
  have hTT := (Turn.of_below (F := F) hb4).trans hT5 (fun q hq => .inl hq)
  clear c0 h_Q h_X hb4 hT5
  have HZ := Lib.hid (And.intro hP5 hTT)
  clear hP5 hTT
  go_upto_region 20 with (fail)
  refine wp_region_lit ?_
  try simp only [put_list, List.set_cons_zero, List.set_cons_succ]
  refine wpList_run (by kernel_rfl) (.slice (some ⟨w5.heap.size, 0, none⟩) 1 1) ((w5.alloc (.cells #[.int .u8 0] 5))) (exec_bsl (vs := #[(0, Go.Value.int Go.IntKind.u8 0)]) rfl (by kernel_rfl) (by kernel_rfl)) ?_
  try simp only [put_list, List.set_cons_zero, List.set_cons_succ]
  refine wpList_run (by kernel_rfl) (.pointer (some ⟨X, 2, none⟩)) ((w5.alloc (.cells #[.int .u8 0] 5))) (exec_field (vx := .pointer (some ⟨X, 0, none⟩)) rfl (by kernel_rfl) (by kernel_rfl)) ?_
  have h_Y6 := heap_below h_X5 (below_alc w5 (.cells #[.int .u8 0] 5))
  refine wpList_skip rfl (((w5.alloc (.cells #[.int .u8 0] 5)).setCell ⟨X, 2, none⟩ (.slice (some ⟨w5.heap.size, 0, none⟩) 1 1))) (exec_store (vx := .pointer (some ⟨X, 2, none⟩)) (vy := .slice (some ⟨w5.heap.size, 0, none⟩) 1 1) rfl (by kernel_rfl) (store_slR X 2 _ (w5.alloc (.cells #[.int .u8 0] 5)) (cell_heap h_Y6 (rs_c2 _ _ _)) (thaw_heap h_Y6 _))) ?_
  refine wpList_nil ?_
  try simp only [put_list, put_none, List.set_cons_zero, List.set_cons_succ]
  obtain ⟨Gd6, hGd6⟩ : ∃ x, x = w5.heap.size := ⟨_, rfl⟩
  have h_X6 : ((w5.alloc (.cells #[.int .u8 0] 5)).setCell ⟨X, 2, none⟩ (.slice (some ⟨w5.heap.size, 0, none⟩) 1 1)).heap[X]? = some (.cells (rsA 0 0 (.slice (some ⟨w5.heap.size, 0, none⟩) 1 1)) 47 (0, 0)) := heap_setCell_same _ X 2 _ _ _ h_Y6
  have hT6 : Turn (· = X) (w5.alloc (.cells #[.int .u8 0] 5)) ((w5.alloc (.cells #[.int .u8 0] 5)).setCell ⟨X, 2, none⟩ (.slice (some ⟨w5.heap.size, 0, none⟩) 1 1)) := set_turnH _ X 2 _
  have hGX6 : X < w5.heap.size := lt_heap h_X5
  have hr6 : SlRead ((w5.alloc (.cells #[.int .u8 0] 5)).setCell ⟨X, 2, none⟩ (.slice (some ⟨w5.heap.size, 0, none⟩) 1 1)) (some ⟨w5.heap.size, 0, none⟩) (ints .u8 [0]) := SlRead.turnR (one_newR w5 0) hT6 (by show w5.heap.size ≠ X; omega)
  have HZ6 : Hid (PM ((w5.alloc (.cells #[.int .u8 0] 5)).setCell ⟨X, 2, none⟩ (.slice (some ⟨w5.heap.size, 0, none⟩) 1 1)) ∧ Turn F w ((w5.alloc (.cells #[.int .u8 0] 5)).setCell ⟨X, 2, none⟩ (.slice (some ⟨w5.heap.size, 0, none⟩) 1 1))) := Lib.hid ⟨HY.out.2.1 _ _ X _ (HY.out.1 _ _ HZ.out.1 (below_alc w5 _)) h_Y6 (by omega) hT6, (HZ.out.2.trans (Turn.of_below (F := fun _ => False) (below_alc w5 _)) (fun _ y => y.elim)).trans hT6 (fun q hq => .inr (by rw [show q = X from hq]; omega))⟩
  go_upto_region 21 with (fail)
  obtain ⟨w6, hN6⟩ : ∃ W, W = (w5.alloc (.cells #[.int .u8 0] 5)).setCell ⟨X, 2, none⟩ (.slice (some ⟨w5.heap.size, 0, none⟩) 1 1) := ⟨_, rfl⟩
  rw [← hN6] at h_X6 hr6 HZ6 ⊢
  rw [← hGd6] at h_X6 hr6 hGX6 ⊢
  clear hN6 hT6 h_Y6 hGd6
  go_upto_region 22 with (fail)
  refine wp_region_lit ?_
  try simp only [put_list, List.set_cons_zero, List.set_cons_succ]
  refine wpList_run (by kernel_rfl) (.slice (some ⟨w6.heap.size, 0, none⟩) 1 1) ((w6.alloc (.cells #[.int .u8 1] 5))) (exec_bsl (vs := #[(0, Go.Value.int Go.IntKind.u8 1)]) rfl (by kernel_rfl) (by kernel_rfl)) ?_
  try simp only [put_list, List.set_cons_zero, List.set_cons_succ]
  refine wpList_run (by kernel_rfl) (.pointer (some ⟨X, 2, none⟩)) ((w6.alloc (.cells #[.int .u8 1] 5))) (exec_field (vx := .pointer (some ⟨X, 0, none⟩)) rfl (by kernel_rfl) (by kernel_rfl)) ?_
  have h_Y7 := heap_below h_X6 (below_alc w6 (.cells #[.int .u8 1] 5))
  refine wpList_skip rfl (((w6.alloc (.cells #[.int .u8 1] 5)).setCell ⟨X, 2, none⟩ (.slice (some ⟨w6.heap.size, 0, none⟩) 1 1))) (exec_store (vx := .pointer (some ⟨X, 2, none⟩)) (vy := .slice (some ⟨w6.heap.size, 0, none⟩) 1 1) rfl (by kernel_rfl) (store_slR X 2 _ (w6.alloc (.cells #[.int .u8 1] 5)) (cell_heap h_Y7 (rs_c2 _ _ _)) (thaw_heap h_Y7 _))) ?_
  refine wpList_nil ?_
  try simp only [put_list, put_none, List.set_cons_zero, List.set_cons_succ]
  obtain ⟨Gd7, hGd7⟩ : ∃ x, x = w6.heap.size := ⟨_, rfl⟩
  have h_X7 : ((w6.alloc (.cells #[.int .u8 1] 5)).setCell ⟨X, 2, none⟩ (.slice (some ⟨w6.heap.size, 0, none⟩) 1 1)).heap[X]? = some (.cells (rsA 0 0 (.slice (some ⟨w6.heap.size, 0, none⟩) 1 1)) 47 (0, 0)) := heap_setCell_same _ X 2 _ _ _ h_Y7
  have hT7 : Turn (· = X) (w6.alloc (.cells #[.int .u8 1] 5)) ((w6.alloc (.cells #[.int .u8 1] 5)).setCell ⟨X, 2, none⟩ (.slice (some ⟨w6.heap.size, 0, none⟩) 1 1)) := set_turnH _ X 2 _
  have hGX7 : X < w6.heap.size := lt_heap h_X6
  have hr7 : SlRead ((w6.alloc (.cells #[.int .u8 1] 5)).setCell ⟨X, 2, none⟩ (.slice (some ⟨w6.heap.size, 0, none⟩) 1 1)) (some ⟨w6.heap.size, 0, none⟩) (ints .u8 [1]) := SlRead.turnR (one_newR w6 1) hT7 (by show w6.heap.size ≠ X; omega)
  have HZ7 : Hid (PM ((w6.alloc (.cells #[.int .u8 1] 5)).setCell ⟨X, 2, none⟩ (.slice (some ⟨w6.heap.size, 0, none⟩) 1 1)) ∧ Turn F w ((w6.alloc (.cells #[.int .u8 1] 5)).setCell ⟨X, 2, none⟩ (.slice (some ⟨w6.heap.size, 0, none⟩) 1 1))) := Lib.hid ⟨HY.out.2.1 _ _ X _ (HY.out.1 _ _ HZ6.out.1 (below_alc w6 _)) h_Y7 (by omega) hT7, (HZ6.out.2.trans (Turn.of_below (F := fun _ => False) (below_alc w6 _)) (fun _ y => y.elim)).trans hT7 (fun q hq => .inr (by rw [show q = X from hq]; omega))⟩
  go_upto_region 25 with (fail)
  obtain ⟨w7, hN7⟩ : ∃ W, W = (w6.alloc (.cells #[.int .u8 1] 5)).setCell ⟨X, 2, none⟩ (.slice (some ⟨w6.heap.size, 0, none⟩) 1 1) := ⟨_, rfl⟩
  rw [← hN7] at h_X7 hr7 HZ7 ⊢
  rw [← hGd7] at h_X7 hr7 hGX7 ⊢
  clear hN7 hT7 h_Y7 hGd7
  go_upto_region 25 with (fail)
  refine wp_region_lit ?_
  try simp only [put_list, List.set_cons_zero, List.set_cons_succ]
  refine wpList_run (by kernel_rfl) (.int .i64 0) (w7) (exec_move rfl (by kernel_rfl)) ?_
  refine wpList_call (by kernel_rfl) 50 #[Go.Operand.tmp 93] #[3] #[.int .i64 0] _ rfl (by kernel_rfl) (by kernel_rfl) (dcode_0 w7) ?_
  rintro r w8 ⟨rfl, hb8⟩
  refine ⟨_, rfl, ?_⟩
  try simp only [put_list, List.set_cons_zero, List.set_cons_succ]
  refine wpList_run (by kernel_rfl) (.pointer (some ⟨X, 0, none⟩)) (w8) (exec_field (vx := .pointer (some ⟨X, 0, none⟩)) rfl (by kernel_rfl) (by kernel_rfl)) ?_
  have h_X8 := heap_below h_X7 hb8
  refine wpList_skip rfl ((w8.setCell ⟨X, 0, none⟩ (.int .i64 0))) (exec_store (vx := .pointer (some ⟨X, 0, none⟩)) (vy := .int .i64 0) rfl (by kernel_rfl) (store_i64R X 0 _ w8 (cell_heap h_X8 (rs_c0 _ _ _)) (thaw_heap h_X8 _))) ?_
  refine wpList_nil ?_
  try simp only [put_list, put_none, List.set_cons_zero, List.set_cons_succ]
  have h_X9 : (w8.setCell ⟨X, 0, none⟩ (.int .i64 0)).heap[X]? = some (.cells (rsA 0 0 (.slice (some ⟨Gd7, 0, none⟩) 1 1)) 47 (0, 0)) := heap_setCell_same w8 X 0 _ _ _ h_X8
  have hT9 : Turn (· = X) w8 (w8.setCell ⟨X, 0, none⟩ (.int .i64 0)) := set_turnH w8 X 0 _
  go_upto_region 26 with (fail)
  obtain ⟨w9, hw9⟩ : ∃ W, W = w8.setCell ⟨X, 0, none⟩ (.int .i64 0) := ⟨_, rfl⟩
  rw [← hw9] at h_X9 hT9 ⊢
  clear hw9
  refine wp_region_lit ?_
  try simp only [put_list, List.set_cons_zero, List.set_cons_succ]
  refine wpList_run (by kernel_rfl) (.int .i64 nres) (w9) (exec_move rfl (by kernel_rfl)) ?_
  try simp only [put_list, List.set_cons_zero, List.set_cons_succ]
  refine wpList_run (by kernel_rfl) (.int .u32 nres) (w9) (exec_cvt (vx := .int .i64 nres) rfl (by kernel_rfl) (hcvn w9)) ?_
  try simp only [put_list, List.set_cons_zero, List.set_cons_succ]
  refine wpList_run (by kernel_rfl) (.pointer (some ⟨X, 1, none⟩)) (w9) (exec_field (vx := .pointer (some ⟨X, 0, none⟩)) rfl (by kernel_rfl) (by kernel_rfl)) ?_
  refine wpList_skip rfl ((w9.setCell ⟨X, 1, none⟩ (.int .u32 nres))) (exec_store (vx := .pointer (some ⟨X, 1, none⟩)) (vy := .int .u32 nres) rfl (by kernel_rfl) (store_u32R X 1 _ w9 (cell_heap h_X9 (rs_c1 _ _ _)) (thaw_heap h_X9 _))) ?_
  refine wpList_nil ?_
  try simp only [put_list, put_none, List.set_cons_zero, List.set_cons_succ]
  have h_XA : (w9.setCell ⟨X, 1, none⟩ (.int .u32 nres)).heap[X]? = some (.cells (rsA 0 nres (.slice (some ⟨Gd7, 0, none⟩) 1 1)) 47 (0, 0)) := heap_setCell_same w9 X 1 _ _ _ h_X9
  have hTA : Turn (· = X) w9 (w9.setCell ⟨X, 1, none⟩ (.int .u32 nres)) := set_turnH w9 X 1 _
  go_upto_region 27 with (fail)
  obtain ⟨wA, hwA⟩ : ∃ W, W = w9.setCell ⟨X, 1, none⟩ (.int .u32 nres) := ⟨_, rfl⟩
  rw [← hwA] at h_XA hTA ⊢
  clear hwA
  have hrA : SlRead wA (some ⟨Gd7, 0, none⟩) (ints .u8 [1]) := SlRead.turnR (SlRead.turnR (hr7.below hb8) hT9 (by show Gd7 ≠ X; omega)) hTA (by show Gd7 ≠ X; omega)
  refine wp_region_lit ?_
  try simp only [put_list, List.set_cons_zero, List.set_cons_succ]
  refine wpList_run (by kernel_rfl) (.agg (rsA 0 nres (.slice (some ⟨Gd7, 0, none⟩) 1 1))) (wA) (exec_load (vx := .pointer (some ⟨X, 0, none⟩)) rfl (by kernel_rfl) (load_rsR X _ wA h_XA)) ?_
  refine wpList_call (by kernel_rfl) 49 #[Go.Operand.tmp 99] #[47] #[.agg (rsA 0 nres (.slice (some ⟨Gd7, 0, none⟩) 1 1))] _ rfl (by kernel_rfl) (by kernel_rfl) (drsp_wD 0 nres (some ⟨Gd7, 0, none⟩) [1] 1 1 10 wA hrA rfl rfl (by omega)) ?_
  rintro r wB ⟨Bo, co, rfl, hBo, hco, hbB⟩
  refine ⟨_, rfl, ?_⟩
  try simp only [put_list, List.set_cons_zero, List.set_cons_succ]
  refine wpList_run (by kernel_rfl) (.slice Bo 10 co) (wB) (exec_assign rfl (by kernel_rfl)) ?_
  refine wpList_nil ?_
  simp only [put_list, List.set_cons_zero, List.set_cons_succ]
  go_wp2_with fail
  go_ret
  have hX0 : w.heap.size ≤ X := by omega
  have q1 := HY.out.1 _ _ HZ7.out.1 hb8
  have q2 := HY.out.2.1 _ _ X _ q1 h_X8 hX0 hT9
  have q3 := HY.out.2.1 _ _ X _ q2 h_X9 hX0 hTA
  have q4 := HY.out.1 _ _ q3 hbB
  exact ⟨Bo, co, rfl, hBo, hco, q4, ((((HZ7.out.2.trans (Turn.of_below (F := fun _ => False) hb8) (fun _ y => y.elim)).trans hT9 (fun q hq => .inr (by rw [show q = X from hq]; exact hX0))).trans hTA (fun q hq => .inr (by rw [show q = X from hq]; exact hX0))).trans (Turn.of_below (F := fun _ => False) hbB) (fun _ y => y.elim))⟩
set_option maxRecDepth 100000 in
set_option maxHeartbeats 3200000 in
theorem dserve_open0 (S : Nat) (A : Option Addr) (f : Nat → BitVec 8) (off n : Int) (ys : List Int) (m l c : Nat) {w : World} {PM : World → Prop} {F : Nat → Prop} (hA : SlRead w A (ints .u8 (rqB 1 f off n ys))) (hm : 45 + ys.length = m) (hk : ys.length = l) (hmc : m ≤ c) (hy : Byts ys) (hl : l ≤ 200) (h1 : 0 ≤ off ∧ off < 4294967296) (h2 : 0 ≤ n ∧ n < 4294967296)
    (hPb : ∀ V V', PM V → Below V.heap.size V V' → PM V') (hPs : ∀ V V' g cs, PM V → V.heap[g]? = some (.cells cs 47 (0, 0)) → w.heap.size ≤ g → Turn (· = g) V V' → PM V') (hF : ∀ q, F q → q < w.heap.size)
    (HM : ∀ V D cD, Below w.heap.size w V → SlRead V D (ints .u8 ys) → (∀ x, D = some x → w.heap.size ≤ x.block) → l ≤ cD → Calls Tryd.prog 21 #[.pointer (some ⟨S, 0, none⟩), .agg (arr8 32 f), .int .i64 n] V fun r V' => r = .returned (.int .i64 0) ∧ PM V' ∧ Turn F V V') :
    Calls Tryd.prog 26 #[.pointer (some ⟨S, 0, none⟩), .slice A m c] w fun r w' => ∃ B cb, r = .returned (.slice B 9 cb) ∧ SlRead w' B (ints .u8 (rsB 0 0 [])) ∧ 9 ≤ cb ∧ PM w' ∧ Turn F w w' := by
  have HRQ := Lib.hid (drq_yes A 1 f off n ys m l c w hA hm hk hy hl hmc (by omega) h1 h2)
  have HY := Lib.hid (And.intro hPb (And.intro hPs (And.intro hF HM)))
  clear hA hPb hPs HM hF hm hk hy
  go_enter Tryd.func26, Tryd.ntmps26
  go_upto_region 1 with (fail)
  refine wp_region_lit ?_
  try simp only [put_list, List.set_cons_zero, List.set_cons_succ]
  refine wpList_run (by kernel_rfl) (.slice A m c) (w) (exec_move rfl (by kernel_rfl)) ?_
  refine wpList_call (by kernel_rfl) 48 #[Go.Operand.tmp 12] #[25] #[.slice A m c] _ rfl (by kernel_rfl) (by kernel_rfl) (HRQ.out) ?_
  rintro r w1 ⟨D, cD, rfl, hD, hDn, hcD, hb1⟩
  refine ⟨_, rfl, ?_⟩
  try simp only [put_list, List.set_cons_zero, List.set_cons_succ]
  refine wpList_run (by kernel_rfl) (.tuple #[.agg (rqA 1 f off n (.slice D l cD)), .agg (frow 0 false 0)]) (w1) (exec_move rfl (by kernel_rfl)) ?_
  try simp only [put_list, List.set_cons_zero, List.set_cons_succ]
  refine wpList_run (by kernel_rfl) (.agg (rqA 1 f off n (.slice D l cD))) (w1) (exec_extract (vx := .tuple #[.agg (rqA 1 f off n (.slice D l cD)), .agg (frow 0 false 0)]) rfl (by kernel_rfl) (by kernel_rfl)) ?_
  try simp only [put_list, List.set_cons_zero, List.set_cons_succ]
  refine wpList_run (by kernel_rfl) (.agg (frow 0 false 0)) (w1) (exec_extract (vx := .tuple #[.agg (rqA 1 f off n (.slice D l cD)), .agg (frow 0 false 0)]) rfl (by kernel_rfl) (by kernel_rfl)) ?_
  try simp only [put_list, List.set_cons_zero, List.set_cons_succ]
  refine wpList_allocV (by kernel_rfl) 40 (by kernel_rfl) (rqA 0 zf 0 0 (.slice none 0 0)) (fun _ => by kernel_rfl) ?_
  try simp only [put_list, List.set_cons_zero, List.set_cons_succ]
  refine wpList_allocV (by kernel_rfl) 64 (by kernel_rfl) (frow 0 false 0) (fun _ => by kernel_rfl) ?_
  try simp only [put_list, List.set_cons_zero, List.set_cons_succ]
  rw [show (w1.alloc (.cells (rqA 0 zf 0 0 (.slice none 0 0)) 40)).heap.size = w1.heap.size + 1 by simp]
  refine wpList_store_row (by kernel_rfl) 40 (Go.Operand.tmp 5) (Go.Operand.tmp 14) (by kernel_rfl) w1.heap.size (rqA 1 f off n (.slice D l cD)) (by kernel_rfl) (by kernel_rfl) _ _ (heap2_0 _ _ _) (rq_info _ _ _ _ _) (rq_szs _ _ _ _ _ _ _ _ _ _) (rq_one _ _ _ _ _ _ _) ?_
  refine wpList_store_row (by kernel_rfl) 64 (Go.Operand.tmp 6) (Go.Operand.tmp 15) (by kernel_rfl) (w1.heap.size + 1) (frow 0 false 0) (by kernel_rfl) (by kernel_rfl) _ _ ((setRow_other _ _ _ _ (by omega)).trans (heap2_1 _ _ _)) (by kernel_rfl) rfl (by kernel_rfl) ?_
  refine wpList_nil ?_
  simp only [put_none]
  go_upto_region 2 with (fail)
  obtain ⟨Q, hQ⟩ : ∃ x, x = w1.heap.size := ⟨_, rfl⟩
  refine wp_world (fun V => Below w1.heap.size w1 V ∧ V.heap[Q]? = some (.cells (rqA 1 f off n (.slice D l cD)) 40 (0, 0)) ∧ V.heap[Q + 1]? = some (.cells (frow 0 false 0) 64 (0, 0))) ?_ ?_
  · rw [hQ]
    refine ⟨serve_two w1 _ _ _ _, ?_, ?_⟩
    · exact (setRow_other _ _ _ _ (by omega)).trans (setRow_heap _ _ _ _ _ _ (heap2_0 _ _ _))
    · exact setRow_heap _ _ _ _ _ _ ((setRow_other _ _ _ _ (by omega)).trans (heap2_1 _ _ _))
  rw [← hQ]
  have HQ := Lib.hid hQ
  rintro w2 ⟨hb2, h_Q, h_F⟩
  have HB2 : Hid (Below w.heap.size w w2) := Lib.hid (hb1.trans ((by rw [← hQ]; exact hb2 : Below w1.heap.size w1 w2).mono hb1.size))
  have hD2 := hD.below (by rw [← hQ]; exact hb2 : Below w1.heap.size w1 w2)
  have hQw : w.heap.size ≤ Q := by rw [hQ]; exact hb1.size
  clear hb2 hb1 hD hQ HRQ
  try simp only [put_none]
  go_upto_region 7 with (first | (refine wpList_load_row rfl 64 _ rfl (Q + 1) rfl _ _ _ _ h_F Tryd.underlying64 rfl (by kernel_rfl) ?_) | (go_at_call 28; refine (bad_no 0 false 0 w2 rfl).mono ?_; rintro r w3 ⟨rfl, hb3⟩))
  obtain ⟨X, hX⟩ : ∃ x, x = w3.heap.size := ⟨_, rfl⟩
  refine wp_world (fun V => Below w.heap.size w V ∧ V.heap[Q]? = some (.cells (rqA 1 f off n (.slice D l cD)) 40 (0, 0)) ∧ V.heap[X]? = some (.cells (rsA 0 0 (.slice none 0 0)) 47 (0, 0)) ∧ SlRead V D (ints .u8 ys)) ?_ ?_
  · rw [hX]
    exact ⟨(HB2.out.trans (hb3.mono HB2.out.size)).trans ((below_alc w3 _).mono (Nat.le_trans HB2.out.size hb3.size)), heap_below (heap_below h_Q hb3) (below_alc w3 _), heap1_0 w3 _, (hD2.below hb3).below (below_alc w3 _)⟩
  rw [← hX]
  have hXQ : Q < X := by rw [hX]; exact Nat.lt_of_lt_of_le (lt_heap h_Q) hb3.size
  clear hX hb3 h_Q h_F hD2 HB2
  rintro w4 ⟨hb4, h_Q, h_X, hD4⟩
  have c0 := cell_heap h_Q (rq_c0 _ _ _ _ _)
  have hM := HY.out.2.2.2 w4 D cD hb4 hD4 hDn hcD
  clear hD4 hDn hcD
  go_upto_region 9 with (fail)
  refine wp_region_lit ?_
  try simp only [put_list, List.set_cons_zero, List.set_cons_succ]
  refine wpList_run (by kernel_rfl) (.pointer (some ⟨S, 0, none⟩)) (w4) (exec_move rfl (by kernel_rfl)) ?_
  try simp only [put_list, List.set_cons_zero, List.set_cons_succ]
  refine wpList_run (by kernel_rfl) (.pointer (some ⟨Q, 1, none⟩)) (w4) (exec_field (vx := .pointer (some ⟨Q, 0, none⟩)) rfl (by kernel_rfl) (by kernel_rfl)) ?_
  try simp only [put_list, List.set_cons_zero, List.set_cons_succ]
  refine wpList_run (by kernel_rfl) (.agg (arr8 32 f)) (w4) (exec_load (vx := .pointer (some ⟨Q, 1, none⟩)) rfl (by kernel_rfl) (load_rowQ w4 Q f (rq_blob h_Q))) ?_
  try simp only [put_list, List.set_cons_zero, List.set_cons_succ]
  refine wpList_run (by kernel_rfl) (.pointer (some ⟨Q, 34, none⟩)) (w4) (exec_field (vx := .pointer (some ⟨Q, 0, none⟩)) rfl (by kernel_rfl) (by kernel_rfl)) ?_
  try simp only [put_list, List.set_cons_zero, List.set_cons_succ]
  refine wpList_run (by kernel_rfl) (.int .u32 n) (w4) (exec_load (vx := .pointer (some ⟨Q, 34, none⟩)) rfl (by kernel_rfl) (load_u32D Q 34 w4 (cell_heap h_Q (rq_c34 _ _ _ _ _)))) ?_
  try simp only [put_list, List.set_cons_zero, List.set_cons_succ]
  refine wpList_run (by kernel_rfl) (.int .i64 n) (w4) (exec_cvt (vx := .int .u32 n) rfl (by kernel_rfl) (cvt_u32k n h2 w4)) ?_
  refine wpList_call (by kernel_rfl) 21 #[Go.Operand.tmp 27, Go.Operand.tmp 29, Go.Operand.tmp 32] #[54, 37, 3] #[.pointer (some ⟨S, 0, none⟩), .agg (arr8 32 f), .int .i64 n] _ rfl (by kernel_rfl) (by kernel_rfl) (hM) ?_
  rintro r w5 ⟨rfl, hP5, hT5⟩
  refine ⟨_, rfl, ?_⟩
  try simp only [put_list, List.set_cons_zero, List.set_cons_succ]
  refine wpList_run (by kernel_rfl) (.int .i64 0) (w5) (exec_assign rfl (by kernel_rfl)) ?_
  refine wpList_nil ?_
  simp only [put_list, List.set_cons_zero, List.set_cons_succ]
  have h_X5 : w5.heap[X]? = some (.cells (rsA 0 0 (.slice none 0 0)) 47 (0, 0)) := (hT5.block X (lt_heap h_X) (fun y => by have := HY.out.2.2.1 X y; omega)).trans h_X
  have hTT := (Turn.of_below (F := F) hb4).trans hT5 (fun q hq => .inl hq)
  clear c0 h_Q h_X hb4 hT5
  have HZ := Lib.hid (And.intro hP5 hTT)
  clear hP5 hTT
  go_upto_region 25 with (fail)
  refine wp_region_lit ?_
  try simp only [put_list, List.set_cons_zero, List.set_cons_succ]
  refine wpList_run (by kernel_rfl) (.int .i64 0) (w5) (exec_move rfl (by kernel_rfl)) ?_
  refine wpList_call (by kernel_rfl) 50 #[Go.Operand.tmp 93] #[3] #[.int .i64 0] _ rfl (by kernel_rfl) (by kernel_rfl) (dcode_0 w5) ?_
  rintro r w8 ⟨rfl, hb8⟩
  refine ⟨_, rfl, ?_⟩
  try simp only [put_list, List.set_cons_zero, List.set_cons_succ]
  refine wpList_run (by kernel_rfl) (.pointer (some ⟨X, 0, none⟩)) (w8) (exec_field (vx := .pointer (some ⟨X, 0, none⟩)) rfl (by kernel_rfl) (by kernel_rfl)) ?_
  have h_X8 := heap_below h_X5 hb8
  refine wpList_skip rfl ((w8.setCell ⟨X, 0, none⟩ (.int .i64 0))) (exec_store (vx := .pointer (some ⟨X, 0, none⟩)) (vy := .int .i64 0) rfl (by kernel_rfl) (store_i64R X 0 _ w8 (cell_heap h_X8 (rs_c0 _ _ _)) (thaw_heap h_X8 _))) ?_
  refine wpList_nil ?_
  try simp only [put_list, put_none, List.set_cons_zero, List.set_cons_succ]
  have h_X9 : (w8.setCell ⟨X, 0, none⟩ (.int .i64 0)).heap[X]? = some (.cells (rsA 0 0 (.slice none 0 0)) 47 (0, 0)) := heap_setCell_same w8 X 0 _ _ _ h_X8
  have hT9 : Turn (· = X) w8 (w8.setCell ⟨X, 0, none⟩ (.int .i64 0)) := set_turnH w8 X 0 _
  go_upto_region 26 with (fail)
  obtain ⟨w9, hw9⟩ : ∃ W, W = w8.setCell ⟨X, 0, none⟩ (.int .i64 0) := ⟨_, rfl⟩
  rw [← hw9] at h_X9 hT9 ⊢
  clear hw9
  refine wp_region_lit ?_
  try simp only [put_list, List.set_cons_zero, List.set_cons_succ]
  refine wpList_run (by kernel_rfl) (.int .i64 0) (w9) (exec_move rfl (by kernel_rfl)) ?_
  try simp only [put_list, List.set_cons_zero, List.set_cons_succ]
  refine wpList_run (by kernel_rfl) (.int .u32 0) (w9) (exec_cvt (vx := .int .i64 0) rfl (by kernel_rfl) (by kernel_rfl)) ?_
  try simp only [put_list, List.set_cons_zero, List.set_cons_succ]
  refine wpList_run (by kernel_rfl) (.pointer (some ⟨X, 1, none⟩)) (w9) (exec_field (vx := .pointer (some ⟨X, 0, none⟩)) rfl (by kernel_rfl) (by kernel_rfl)) ?_
  refine wpList_skip rfl ((w9.setCell ⟨X, 1, none⟩ (.int .u32 0))) (exec_store (vx := .pointer (some ⟨X, 1, none⟩)) (vy := .int .u32 0) rfl (by kernel_rfl) (store_u32R X 1 _ w9 (cell_heap h_X9 (rs_c1 _ _ _)) (thaw_heap h_X9 _))) ?_
  refine wpList_nil ?_
  try simp only [put_list, put_none, List.set_cons_zero, List.set_cons_succ]
  have h_XA : (w9.setCell ⟨X, 1, none⟩ (.int .u32 0)).heap[X]? = some (.cells (rsA 0 0 (.slice none 0 0)) 47 (0, 0)) := heap_setCell_same w9 X 1 _ _ _ h_X9
  have hTA : Turn (· = X) w9 (w9.setCell ⟨X, 1, none⟩ (.int .u32 0)) := set_turnH w9 X 1 _
  go_upto_region 27 with (fail)
  obtain ⟨wA, hwA⟩ : ∃ W, W = w9.setCell ⟨X, 1, none⟩ (.int .u32 0) := ⟨_, rfl⟩
  rw [← hwA] at h_XA hTA ⊢
  clear hwA
  refine wp_region_lit ?_
  try simp only [put_list, List.set_cons_zero, List.set_cons_succ]
  refine wpList_run (by kernel_rfl) (.agg (rsA 0 0 (.slice none 0 0))) (wA) (exec_load (vx := .pointer (some ⟨X, 0, none⟩)) rfl (by kernel_rfl) (load_rsR X _ wA h_XA)) ?_
  refine wpList_call (by kernel_rfl) 49 #[Go.Operand.tmp 99] #[47] #[.agg (rsA 0 0 (.slice none 0 0))] _ rfl (by kernel_rfl) (by kernel_rfl) (drsp_wD 0 0 none [] 0 0 9 wA (by exact SlRead.nil_) rfl rfl (by omega)) ?_
  rintro r wB ⟨Bo, co, rfl, hBo, hco, hbB⟩
  refine ⟨_, rfl, ?_⟩
  try simp only [put_list, List.set_cons_zero, List.set_cons_succ]
  refine wpList_run (by kernel_rfl) (.slice Bo 9 co) (wB) (exec_assign rfl (by kernel_rfl)) ?_
  refine wpList_nil ?_
  simp only [put_list, List.set_cons_zero, List.set_cons_succ]
  go_wp2_with fail
  go_ret
  have hX0 : w.heap.size ≤ X := by omega
  have q1 := HY.out.1 _ _ HZ.out.1 hb8
  have q2 := HY.out.2.1 _ _ X _ q1 h_X8 hX0 hT9
  have q3 := HY.out.2.1 _ _ X _ q2 h_X9 hX0 hTA
  have q4 := HY.out.1 _ _ q3 hbB
  exact ⟨Bo, co, rfl, hBo, hco, q4, ((((HZ.out.2.trans (Turn.of_below (F := fun _ => False) hb8) (fun _ y => y.elim)).trans hT9 (fun q hq => .inr (by rw [show q = X from hq]; exact hX0))).trans hTA (fun q hq => .inr (by rw [show q = X from hq]; exact hX0))).trans (Turn.of_below (F := fun _ => False) hbB) (fun _ y => y.elim))⟩
set_option maxRecDepth 100000 in
set_option maxHeartbeats 3200000 in
theorem dserve_open15 (S : Nat) (A : Option Addr) (f : Nat → BitVec 8) (off n : Int) (ys : List Int) (m l c : Nat) {w : World} {PM : World → Prop} {F : Nat → Prop} (hA : SlRead w A (ints .u8 (rqB 1 f off n ys))) (hm : 45 + ys.length = m) (hk : ys.length = l) (hmc : m ≤ c) (hy : Byts ys) (hl : l ≤ 200) (h1 : 0 ≤ off ∧ off < 4294967296) (h2 : 0 ≤ n ∧ n < 4294967296)
    (hPb : ∀ V V', PM V → Below V.heap.size V V' → PM V') (hPs : ∀ V V' g cs, PM V → V.heap[g]? = some (.cells cs 47 (0, 0)) → w.heap.size ≤ g → Turn (· = g) V V' → PM V') (hF : ∀ q, F q → q < w.heap.size)
    (HM : ∀ V D cD, Below w.heap.size w V → SlRead V D (ints .u8 ys) → (∀ x, D = some x → w.heap.size ≤ x.block) → l ≤ cD → Calls Tryd.prog 21 #[.pointer (some ⟨S, 0, none⟩), .agg (arr8 32 f), .int .i64 n] V fun r V' => r = .returned (.int .i64 115) ∧ PM V' ∧ Turn F V V') :
    Calls Tryd.prog 26 #[.pointer (some ⟨S, 0, none⟩), .slice A m c] w fun r w' => ∃ B cb, r = .returned (.slice B 9 cb) ∧ SlRead w' B (ints .u8 (rsB 15 0 [])) ∧ 9 ≤ cb ∧ PM w' ∧ Turn F w w' := by
  have HRQ := Lib.hid (drq_yes A 1 f off n ys m l c w hA hm hk hy hl hmc (by omega) h1 h2)
  have HY := Lib.hid (And.intro hPb (And.intro hPs (And.intro hF HM)))
  clear hA hPb hPs HM hF hm hk hy
  go_enter Tryd.func26, Tryd.ntmps26
  go_upto_region 1 with (fail)
  refine wp_region_lit ?_
  try simp only [put_list, List.set_cons_zero, List.set_cons_succ]
  refine wpList_run (by kernel_rfl) (.slice A m c) (w) (exec_move rfl (by kernel_rfl)) ?_
  refine wpList_call (by kernel_rfl) 48 #[Go.Operand.tmp 12] #[25] #[.slice A m c] _ rfl (by kernel_rfl) (by kernel_rfl) (HRQ.out) ?_
  rintro r w1 ⟨D, cD, rfl, hD, hDn, hcD, hb1⟩
  refine ⟨_, rfl, ?_⟩
  try simp only [put_list, List.set_cons_zero, List.set_cons_succ]
  refine wpList_run (by kernel_rfl) (.tuple #[.agg (rqA 1 f off n (.slice D l cD)), .agg (frow 0 false 0)]) (w1) (exec_move rfl (by kernel_rfl)) ?_
  try simp only [put_list, List.set_cons_zero, List.set_cons_succ]
  refine wpList_run (by kernel_rfl) (.agg (rqA 1 f off n (.slice D l cD))) (w1) (exec_extract (vx := .tuple #[.agg (rqA 1 f off n (.slice D l cD)), .agg (frow 0 false 0)]) rfl (by kernel_rfl) (by kernel_rfl)) ?_
  try simp only [put_list, List.set_cons_zero, List.set_cons_succ]
  refine wpList_run (by kernel_rfl) (.agg (frow 0 false 0)) (w1) (exec_extract (vx := .tuple #[.agg (rqA 1 f off n (.slice D l cD)), .agg (frow 0 false 0)]) rfl (by kernel_rfl) (by kernel_rfl)) ?_
  try simp only [put_list, List.set_cons_zero, List.set_cons_succ]
  refine wpList_allocV (by kernel_rfl) 40 (by kernel_rfl) (rqA 0 zf 0 0 (.slice none 0 0)) (fun _ => by kernel_rfl) ?_
  try simp only [put_list, List.set_cons_zero, List.set_cons_succ]
  refine wpList_allocV (by kernel_rfl) 64 (by kernel_rfl) (frow 0 false 0) (fun _ => by kernel_rfl) ?_
  try simp only [put_list, List.set_cons_zero, List.set_cons_succ]
  rw [show (w1.alloc (.cells (rqA 0 zf 0 0 (.slice none 0 0)) 40)).heap.size = w1.heap.size + 1 by simp]
  refine wpList_store_row (by kernel_rfl) 40 (Go.Operand.tmp 5) (Go.Operand.tmp 14) (by kernel_rfl) w1.heap.size (rqA 1 f off n (.slice D l cD)) (by kernel_rfl) (by kernel_rfl) _ _ (heap2_0 _ _ _) (rq_info _ _ _ _ _) (rq_szs _ _ _ _ _ _ _ _ _ _) (rq_one _ _ _ _ _ _ _) ?_
  refine wpList_store_row (by kernel_rfl) 64 (Go.Operand.tmp 6) (Go.Operand.tmp 15) (by kernel_rfl) (w1.heap.size + 1) (frow 0 false 0) (by kernel_rfl) (by kernel_rfl) _ _ ((setRow_other _ _ _ _ (by omega)).trans (heap2_1 _ _ _)) (by kernel_rfl) rfl (by kernel_rfl) ?_
  refine wpList_nil ?_
  simp only [put_none]
  go_upto_region 2 with (fail)
  obtain ⟨Q, hQ⟩ : ∃ x, x = w1.heap.size := ⟨_, rfl⟩
  refine wp_world (fun V => Below w1.heap.size w1 V ∧ V.heap[Q]? = some (.cells (rqA 1 f off n (.slice D l cD)) 40 (0, 0)) ∧ V.heap[Q + 1]? = some (.cells (frow 0 false 0) 64 (0, 0))) ?_ ?_
  · rw [hQ]
    refine ⟨serve_two w1 _ _ _ _, ?_, ?_⟩
    · exact (setRow_other _ _ _ _ (by omega)).trans (setRow_heap _ _ _ _ _ _ (heap2_0 _ _ _))
    · exact setRow_heap _ _ _ _ _ _ ((setRow_other _ _ _ _ (by omega)).trans (heap2_1 _ _ _))
  rw [← hQ]
  have HQ := Lib.hid hQ
  rintro w2 ⟨hb2, h_Q, h_F⟩
  have HB2 : Hid (Below w.heap.size w w2) := Lib.hid (hb1.trans ((by rw [← hQ]; exact hb2 : Below w1.heap.size w1 w2).mono hb1.size))
  have hD2 := hD.below (by rw [← hQ]; exact hb2 : Below w1.heap.size w1 w2)
  have hQw : w.heap.size ≤ Q := by rw [hQ]; exact hb1.size
  clear hb2 hb1 hD hQ HRQ
  try simp only [put_none]
  go_upto_region 7 with (first | (refine wpList_load_row rfl 64 _ rfl (Q + 1) rfl _ _ _ _ h_F Tryd.underlying64 rfl (by kernel_rfl) ?_) | (go_at_call 28; refine (bad_no 0 false 0 w2 rfl).mono ?_; rintro r w3 ⟨rfl, hb3⟩))
  obtain ⟨X, hX⟩ : ∃ x, x = w3.heap.size := ⟨_, rfl⟩
  refine wp_world (fun V => Below w.heap.size w V ∧ V.heap[Q]? = some (.cells (rqA 1 f off n (.slice D l cD)) 40 (0, 0)) ∧ V.heap[X]? = some (.cells (rsA 0 0 (.slice none 0 0)) 47 (0, 0)) ∧ SlRead V D (ints .u8 ys)) ?_ ?_
  · rw [hX]
    exact ⟨(HB2.out.trans (hb3.mono HB2.out.size)).trans ((below_alc w3 _).mono (Nat.le_trans HB2.out.size hb3.size)), heap_below (heap_below h_Q hb3) (below_alc w3 _), heap1_0 w3 _, (hD2.below hb3).below (below_alc w3 _)⟩
  rw [← hX]
  have hXQ : Q < X := by rw [hX]; exact Nat.lt_of_lt_of_le (lt_heap h_Q) hb3.size
  clear hX hb3 h_Q h_F hD2 HB2
  rintro w4 ⟨hb4, h_Q, h_X, hD4⟩
  have c0 := cell_heap h_Q (rq_c0 _ _ _ _ _)
  have hM := HY.out.2.2.2 w4 D cD hb4 hD4 hDn hcD
  clear hD4 hDn hcD
  go_upto_region 9 with (fail)
  refine wp_region_lit ?_
  try simp only [put_list, List.set_cons_zero, List.set_cons_succ]
  refine wpList_run (by kernel_rfl) (.pointer (some ⟨S, 0, none⟩)) (w4) (exec_move rfl (by kernel_rfl)) ?_
  try simp only [put_list, List.set_cons_zero, List.set_cons_succ]
  refine wpList_run (by kernel_rfl) (.pointer (some ⟨Q, 1, none⟩)) (w4) (exec_field (vx := .pointer (some ⟨Q, 0, none⟩)) rfl (by kernel_rfl) (by kernel_rfl)) ?_
  try simp only [put_list, List.set_cons_zero, List.set_cons_succ]
  refine wpList_run (by kernel_rfl) (.agg (arr8 32 f)) (w4) (exec_load (vx := .pointer (some ⟨Q, 1, none⟩)) rfl (by kernel_rfl) (load_rowQ w4 Q f (rq_blob h_Q))) ?_
  try simp only [put_list, List.set_cons_zero, List.set_cons_succ]
  refine wpList_run (by kernel_rfl) (.pointer (some ⟨Q, 34, none⟩)) (w4) (exec_field (vx := .pointer (some ⟨Q, 0, none⟩)) rfl (by kernel_rfl) (by kernel_rfl)) ?_
  try simp only [put_list, List.set_cons_zero, List.set_cons_succ]
  refine wpList_run (by kernel_rfl) (.int .u32 n) (w4) (exec_load (vx := .pointer (some ⟨Q, 34, none⟩)) rfl (by kernel_rfl) (load_u32D Q 34 w4 (cell_heap h_Q (rq_c34 _ _ _ _ _)))) ?_
  try simp only [put_list, List.set_cons_zero, List.set_cons_succ]
  refine wpList_run (by kernel_rfl) (.int .i64 n) (w4) (exec_cvt (vx := .int .u32 n) rfl (by kernel_rfl) (cvt_u32k n h2 w4)) ?_
  refine wpList_call (by kernel_rfl) 21 #[Go.Operand.tmp 27, Go.Operand.tmp 29, Go.Operand.tmp 32] #[54, 37, 3] #[.pointer (some ⟨S, 0, none⟩), .agg (arr8 32 f), .int .i64 n] _ rfl (by kernel_rfl) (by kernel_rfl) (hM) ?_
  rintro r w5 ⟨rfl, hP5, hT5⟩
  refine ⟨_, rfl, ?_⟩
  try simp only [put_list, List.set_cons_zero, List.set_cons_succ]
  refine wpList_run (by kernel_rfl) (.int .i64 115) (w5) (exec_assign rfl (by kernel_rfl)) ?_
  refine wpList_nil ?_
  simp only [put_list, List.set_cons_zero, List.set_cons_succ]
  have h_X5 : w5.heap[X]? = some (.cells (rsA 0 0 (.slice none 0 0)) 47 (0, 0)) := (hT5.block X (lt_heap h_X) (fun y => by have := HY.out.2.2.1 X y; omega)).trans h_X
  have hTT := (Turn.of_below (F := F) hb4).trans hT5 (fun q hq => .inl hq)
  clear c0 h_Q h_X hb4 hT5
  have HZ := Lib.hid (And.intro hP5 hTT)
  clear hP5 hTT
  go_upto_region 25 with (fail)
  refine wp_region_lit ?_
  try simp only [put_list, List.set_cons_zero, List.set_cons_succ]
  refine wpList_run (by kernel_rfl) (.int .i64 115) (w5) (exec_move rfl (by kernel_rfl)) ?_
  refine wpList_call (by kernel_rfl) 50 #[Go.Operand.tmp 93] #[3] #[.int .i64 115] _ rfl (by kernel_rfl) (by kernel_rfl) (dcode_115 w5) ?_
  rintro r w8 ⟨rfl, hb8⟩
  refine ⟨_, rfl, ?_⟩
  try simp only [put_list, List.set_cons_zero, List.set_cons_succ]
  refine wpList_run (by kernel_rfl) (.pointer (some ⟨X, 0, none⟩)) (w8) (exec_field (vx := .pointer (some ⟨X, 0, none⟩)) rfl (by kernel_rfl) (by kernel_rfl)) ?_
  have h_X8 := heap_below h_X5 hb8
  refine wpList_skip rfl ((w8.setCell ⟨X, 0, none⟩ (.int .i64 15))) (exec_store (vx := .pointer (some ⟨X, 0, none⟩)) (vy := .int .i64 15) rfl (by kernel_rfl) (store_i64R X 0 _ w8 (cell_heap h_X8 (rs_c0 _ _ _)) (thaw_heap h_X8 _))) ?_
  refine wpList_nil ?_
  try simp only [put_list, put_none, List.set_cons_zero, List.set_cons_succ]
  have h_X9 : (w8.setCell ⟨X, 0, none⟩ (.int .i64 15)).heap[X]? = some (.cells (rsA 15 0 (.slice none 0 0)) 47 (0, 0)) := heap_setCell_same w8 X 0 _ _ _ h_X8
  have hT9 : Turn (· = X) w8 (w8.setCell ⟨X, 0, none⟩ (.int .i64 15)) := set_turnH w8 X 0 _
  go_upto_region 26 with (fail)
  obtain ⟨w9, hw9⟩ : ∃ W, W = w8.setCell ⟨X, 0, none⟩ (.int .i64 15) := ⟨_, rfl⟩
  rw [← hw9] at h_X9 hT9 ⊢
  clear hw9
  refine wp_region_lit ?_
  try simp only [put_list, List.set_cons_zero, List.set_cons_succ]
  refine wpList_run (by kernel_rfl) (.int .i64 0) (w9) (exec_move rfl (by kernel_rfl)) ?_
  try simp only [put_list, List.set_cons_zero, List.set_cons_succ]
  refine wpList_run (by kernel_rfl) (.int .u32 0) (w9) (exec_cvt (vx := .int .i64 0) rfl (by kernel_rfl) (by kernel_rfl)) ?_
  try simp only [put_list, List.set_cons_zero, List.set_cons_succ]
  refine wpList_run (by kernel_rfl) (.pointer (some ⟨X, 1, none⟩)) (w9) (exec_field (vx := .pointer (some ⟨X, 0, none⟩)) rfl (by kernel_rfl) (by kernel_rfl)) ?_
  refine wpList_skip rfl ((w9.setCell ⟨X, 1, none⟩ (.int .u32 0))) (exec_store (vx := .pointer (some ⟨X, 1, none⟩)) (vy := .int .u32 0) rfl (by kernel_rfl) (store_u32R X 1 _ w9 (cell_heap h_X9 (rs_c1 _ _ _)) (thaw_heap h_X9 _))) ?_
  refine wpList_nil ?_
  try simp only [put_list, put_none, List.set_cons_zero, List.set_cons_succ]
  have h_XA : (w9.setCell ⟨X, 1, none⟩ (.int .u32 0)).heap[X]? = some (.cells (rsA 15 0 (.slice none 0 0)) 47 (0, 0)) := heap_setCell_same w9 X 1 _ _ _ h_X9
  have hTA : Turn (· = X) w9 (w9.setCell ⟨X, 1, none⟩ (.int .u32 0)) := set_turnH w9 X 1 _
  go_upto_region 27 with (fail)
  obtain ⟨wA, hwA⟩ : ∃ W, W = w9.setCell ⟨X, 1, none⟩ (.int .u32 0) := ⟨_, rfl⟩
  rw [← hwA] at h_XA hTA ⊢
  clear hwA
  refine wp_region_lit ?_
  try simp only [put_list, List.set_cons_zero, List.set_cons_succ]
  refine wpList_run (by kernel_rfl) (.agg (rsA 15 0 (.slice none 0 0))) (wA) (exec_load (vx := .pointer (some ⟨X, 0, none⟩)) rfl (by kernel_rfl) (load_rsR X _ wA h_XA)) ?_
  refine wpList_call (by kernel_rfl) 49 #[Go.Operand.tmp 99] #[47] #[.agg (rsA 15 0 (.slice none 0 0))] _ rfl (by kernel_rfl) (by kernel_rfl) (drsp_wD 15 0 none [] 0 0 9 wA (by exact SlRead.nil_) rfl rfl (by omega)) ?_
  rintro r wB ⟨Bo, co, rfl, hBo, hco, hbB⟩
  refine ⟨_, rfl, ?_⟩
  try simp only [put_list, List.set_cons_zero, List.set_cons_succ]
  refine wpList_run (by kernel_rfl) (.slice Bo 9 co) (wB) (exec_assign rfl (by kernel_rfl)) ?_
  refine wpList_nil ?_
  simp only [put_list, List.set_cons_zero, List.set_cons_succ]
  go_wp2_with fail
  go_ret
  have hX0 : w.heap.size ≤ X := by omega
  have q1 := HY.out.1 _ _ HZ.out.1 hb8
  have q2 := HY.out.2.1 _ _ X _ q1 h_X8 hX0 hT9
  have q3 := HY.out.2.1 _ _ X _ q2 h_X9 hX0 hTA
  have q4 := HY.out.1 _ _ q3 hbB
  exact ⟨Bo, co, rfl, hBo, hco, q4, ((((HZ.out.2.trans (Turn.of_below (F := fun _ => False) hb8) (fun _ y => y.elim)).trans hT9 (fun q hq => .inr (by rw [show q = X from hq]; exact hX0))).trans hTA (fun q hq => .inr (by rw [show q = X from hq]; exact hX0))).trans (Turn.of_below (F := fun _ => False) hbB) (fun _ y => y.elim))⟩
set_option maxRecDepth 100000 in
set_option maxHeartbeats 3200000 in
theorem dserve_put (S : Nat) (A : Option Addr) (f : Nat → BitVec 8) (off n : Int) (ys : List Int) (m l c : Nat) (nres : Int) (hcvn : ∀ w, (convert 3 38 (.int .i64 nres)).run Tryd.prog w = .ok (.int .u32 nres) w) {w : World} {PM : World → Prop} {F : Nat → Prop} (hA : SlRead w A (ints .u8 (rqB 2 f off n ys))) (hm : 45 + ys.length = m) (hk : ys.length = l) (hmc : m ≤ c) (hy : Byts ys) (hl : l ≤ 200) (h1 : 0 ≤ off ∧ off < 4294967296) (h2 : 0 ≤ n ∧ n < 4294967296)
    (hPb : ∀ V V', PM V → Below V.heap.size V V' → PM V') (hPs : ∀ V V' g cs, PM V → V.heap[g]? = some (.cells cs 47 (0, 0)) → w.heap.size ≤ g → Turn (· = g) V V' → PM V') (hF : ∀ q, F q → q < w.heap.size)
    (HM : ∀ V D cD, Below w.heap.size w V → SlRead V D (ints .u8 ys) → (∀ x, D = some x → w.heap.size ≤ x.block) → l ≤ cD → Calls Tryd.prog 22 #[.pointer (some ⟨S, 0, none⟩), .agg (arr8 32 f), .int .i64 off, .slice D l cD] V fun r V' => r = .returned (.tuple #[.int .i64 nres, .int .i64 0]) ∧ PM V' ∧ Turn F V V') :
    Calls Tryd.prog 26 #[.pointer (some ⟨S, 0, none⟩), .slice A m c] w fun r w' => ∃ B cb, r = .returned (.slice B 9 cb) ∧ SlRead w' B (ints .u8 (rsB 0 nres [])) ∧ 9 ≤ cb ∧ PM w' ∧ Turn F w w' := by
  have HRQ := Lib.hid (drq_yes A 2 f off n ys m l c w hA hm hk hy hl hmc (by omega) h1 h2)
  have HY := Lib.hid (And.intro hPb (And.intro hPs (And.intro hF HM)))
  clear hA hPb hPs HM hF hm hk hy
  go_enter Tryd.func26, Tryd.ntmps26
  go_upto_region 1 with (fail)
  refine wp_region_lit ?_
  try simp only [put_list, List.set_cons_zero, List.set_cons_succ]
  refine wpList_run (by kernel_rfl) (.slice A m c) (w) (exec_move rfl (by kernel_rfl)) ?_
  refine wpList_call (by kernel_rfl) 48 #[Go.Operand.tmp 12] #[25] #[.slice A m c] _ rfl (by kernel_rfl) (by kernel_rfl) (HRQ.out) ?_
  rintro r w1 ⟨D, cD, rfl, hD, hDn, hcD, hb1⟩
  refine ⟨_, rfl, ?_⟩
  try simp only [put_list, List.set_cons_zero, List.set_cons_succ]
  refine wpList_run (by kernel_rfl) (.tuple #[.agg (rqA 2 f off n (.slice D l cD)), .agg (frow 0 false 0)]) (w1) (exec_move rfl (by kernel_rfl)) ?_
  try simp only [put_list, List.set_cons_zero, List.set_cons_succ]
  refine wpList_run (by kernel_rfl) (.agg (rqA 2 f off n (.slice D l cD))) (w1) (exec_extract (vx := .tuple #[.agg (rqA 2 f off n (.slice D l cD)), .agg (frow 0 false 0)]) rfl (by kernel_rfl) (by kernel_rfl)) ?_
  try simp only [put_list, List.set_cons_zero, List.set_cons_succ]
  refine wpList_run (by kernel_rfl) (.agg (frow 0 false 0)) (w1) (exec_extract (vx := .tuple #[.agg (rqA 2 f off n (.slice D l cD)), .agg (frow 0 false 0)]) rfl (by kernel_rfl) (by kernel_rfl)) ?_
  try simp only [put_list, List.set_cons_zero, List.set_cons_succ]
  refine wpList_allocV (by kernel_rfl) 40 (by kernel_rfl) (rqA 0 zf 0 0 (.slice none 0 0)) (fun _ => by kernel_rfl) ?_
  try simp only [put_list, List.set_cons_zero, List.set_cons_succ]
  refine wpList_allocV (by kernel_rfl) 64 (by kernel_rfl) (frow 0 false 0) (fun _ => by kernel_rfl) ?_
  try simp only [put_list, List.set_cons_zero, List.set_cons_succ]
  rw [show (w1.alloc (.cells (rqA 0 zf 0 0 (.slice none 0 0)) 40)).heap.size = w1.heap.size + 1 by simp]
  refine wpList_store_row (by kernel_rfl) 40 (Go.Operand.tmp 5) (Go.Operand.tmp 14) (by kernel_rfl) w1.heap.size (rqA 2 f off n (.slice D l cD)) (by kernel_rfl) (by kernel_rfl) _ _ (heap2_0 _ _ _) (rq_info _ _ _ _ _) (rq_szs _ _ _ _ _ _ _ _ _ _) (rq_one _ _ _ _ _ _ _) ?_
  refine wpList_store_row (by kernel_rfl) 64 (Go.Operand.tmp 6) (Go.Operand.tmp 15) (by kernel_rfl) (w1.heap.size + 1) (frow 0 false 0) (by kernel_rfl) (by kernel_rfl) _ _ ((setRow_other _ _ _ _ (by omega)).trans (heap2_1 _ _ _)) (by kernel_rfl) rfl (by kernel_rfl) ?_
  refine wpList_nil ?_
  simp only [put_none]
  go_upto_region 2 with (fail)
  obtain ⟨Q, hQ⟩ : ∃ x, x = w1.heap.size := ⟨_, rfl⟩
  refine wp_world (fun V => Below w1.heap.size w1 V ∧ V.heap[Q]? = some (.cells (rqA 2 f off n (.slice D l cD)) 40 (0, 0)) ∧ V.heap[Q + 1]? = some (.cells (frow 0 false 0) 64 (0, 0))) ?_ ?_
  · rw [hQ]
    refine ⟨serve_two w1 _ _ _ _, ?_, ?_⟩
    · exact (setRow_other _ _ _ _ (by omega)).trans (setRow_heap _ _ _ _ _ _ (heap2_0 _ _ _))
    · exact setRow_heap _ _ _ _ _ _ ((setRow_other _ _ _ _ (by omega)).trans (heap2_1 _ _ _))
  rw [← hQ]
  have HQ := Lib.hid hQ
  rintro w2 ⟨hb2, h_Q, h_F⟩
  have HB2 : Hid (Below w.heap.size w w2) := Lib.hid (hb1.trans ((by rw [← hQ]; exact hb2 : Below w1.heap.size w1 w2).mono hb1.size))
  have hD2 := hD.below (by rw [← hQ]; exact hb2 : Below w1.heap.size w1 w2)
  have hQw : w.heap.size ≤ Q := by rw [hQ]; exact hb1.size
  clear hb2 hb1 hD hQ HRQ
  try simp only [put_none]
  go_upto_region 7 with (first | (refine wpList_load_row rfl 64 _ rfl (Q + 1) rfl _ _ _ _ h_F Tryd.underlying64 rfl (by kernel_rfl) ?_) | (go_at_call 28; refine (bad_no 0 false 0 w2 rfl).mono ?_; rintro r w3 ⟨rfl, hb3⟩))
  obtain ⟨X, hX⟩ : ∃ x, x = w3.heap.size := ⟨_, rfl⟩
  refine wp_world (fun V => Below w.heap.size w V ∧ V.heap[Q]? = some (.cells (rqA 2 f off n (.slice D l cD)) 40 (0, 0)) ∧ V.heap[X]? = some (.cells (rsA 0 0 (.slice none 0 0)) 47 (0, 0)) ∧ SlRead V D (ints .u8 ys)) ?_ ?_
  · rw [hX]
    exact ⟨(HB2.out.trans (hb3.mono HB2.out.size)).trans ((below_alc w3 _).mono (Nat.le_trans HB2.out.size hb3.size)), heap_below (heap_below h_Q hb3) (below_alc w3 _), heap1_0 w3 _, (hD2.below hb3).below (below_alc w3 _)⟩
  rw [← hX]
  have hXQ : Q < X := by rw [hX]; exact Nat.lt_of_lt_of_le (lt_heap h_Q) hb3.size
  clear hX hb3 h_Q h_F hD2 HB2
  rintro w4 ⟨hb4, h_Q, h_X, hD4⟩
  have c0 := cell_heap h_Q (rq_c0 _ _ _ _ _)
  have hM := HY.out.2.2.2 w4 D cD hb4 hD4 hDn hcD
  clear hD4 hDn hcD
  go_upto_region 11 with (fail)
  refine wp_region_lit ?_
  try simp only [put_list, List.set_cons_zero, List.set_cons_succ]
  refine wpList_run (by kernel_rfl) (.pointer (some ⟨S, 0, none⟩)) (w4) (exec_move rfl (by kernel_rfl)) ?_
  try simp only [put_list, List.set_cons_zero, List.set_cons_succ]
  refine wpList_run (by kernel_rfl) (.pointer (some ⟨Q, 1, none⟩)) (w4) (exec_field (vx := .pointer (some ⟨Q, 0, none⟩)) rfl (by kernel_rfl) (by kernel_rfl)) ?_
  try simp only [put_list, List.set_cons_zero, List.set_cons_succ]
  refine wpList_run (by kernel_rfl) (.agg (arr8 32 f)) (w4) (exec_load (vx := .pointer (some ⟨Q, 1, none⟩)) rfl (by kernel_rfl) (load_rowQ w4 Q f (rq_blob h_Q))) ?_
  try simp only [put_list, List.set_cons_zero, List.set_cons_succ]
  refine wpList_run (by kernel_rfl) (.pointer (some ⟨Q, 33, none⟩)) (w4) (exec_field (vx := .pointer (some ⟨Q, 0, none⟩)) rfl (by kernel_rfl) (by kernel_rfl)) ?_
  try simp only [put_list, List.set_cons_zero, List.set_cons_succ]
  refine wpList_run (by kernel_rfl) (.int .u32 off) (w4) (exec_load (vx := .pointer (some ⟨Q, 33, none⟩)) rfl (by kernel_rfl) (load_u32D Q 33 w4 (cell_heap h_Q (rq_c33 _ _ _ _ _)))) ?_
  try simp only [put_list, List.set_cons_zero, List.set_cons_succ]
  refine wpList_run (by kernel_rfl) (.int .i64 off) (w4) (exec_cvt (vx := .int .u32 off) rfl (by kernel_rfl) (cvt_u32k off h1 w4)) ?_
  try simp only [put_list, List.set_cons_zero, List.set_cons_succ]
  refine wpList_run (by kernel_rfl) (.pointer (some ⟨Q, 35, none⟩)) (w4) (exec_field (vx := .pointer (some ⟨Q, 0, none⟩)) rfl (by kernel_rfl) (by kernel_rfl)) ?_
  try simp only [put_list, List.set_cons_zero, List.set_cons_succ]
  refine wpList_run (by kernel_rfl) (.slice D l cD) (w4) (exec_load (vx := .pointer (some ⟨Q, 35, none⟩)) rfl (by kernel_rfl) (load_slice Q 35 w4 25 (fun w => by kernel_rfl) _ (cell_heap h_Q (rq_c35 _ _ _ _ _)))) ?_
  refine wpList_call (by kernel_rfl) 22 #[Go.Operand.tmp 37, Go.Operand.tmp 39, Go.Operand.tmp 42, Go.Operand.tmp 44] #[54, 37, 3, 25] #[.pointer (some ⟨S, 0, none⟩), .agg (arr8 32 f), .int .i64 off, .slice D l cD] _ rfl (by kernel_rfl) (by kernel_rfl) (hM) ?_
  rintro r w5 ⟨rfl, hP5, hT5⟩
  refine ⟨_, rfl, ?_⟩
  try simp only [put_list, List.set_cons_zero, List.set_cons_succ]
  refine wpList_run (by kernel_rfl) (.tuple #[.int .i64 nres, .int .i64 0]) (w5) (exec_move rfl (by kernel_rfl)) ?_
  try simp only [put_list, List.set_cons_zero, List.set_cons_succ]
  refine wpList_run (by kernel_rfl) (.int .i64 nres) (w5) (exec_extract (vx := .tuple #[.int .i64 nres, .int .i64 0]) rfl (by kernel_rfl) (by kernel_rfl)) ?_
  try simp only [put_list, List.set_cons_zero, List.set_cons_succ]
  refine wpList_run (by kernel_rfl) (.int .i64 0) (w5) (exec_extract (vx := .tuple #[.int .i64 nres, .int .i64 0]) rfl (by kernel_rfl) (by kernel_rfl)) ?_
  try simp only [put_list, List.set_cons_zero, List.set_cons_succ]
  refine wpList_run (by kernel_rfl) (.int .i64 nres) (w5) (exec_assign rfl (by kernel_rfl)) ?_
  try simp only [put_list, List.set_cons_zero, List.set_cons_succ]
  refine wpList_run (by kernel_rfl) (.int .i64 0) (w5) (exec_assign rfl (by kernel_rfl)) ?_
  refine wpList_nil ?_
  simp only [put_list, List.set_cons_zero, List.set_cons_succ]
  have h_X5 : w5.heap[X]? = some (.cells (rsA 0 0 (.slice none 0 0)) 47 (0, 0)) := (hT5.block X (lt_heap h_X) (fun y => by have := HY.out.2.2.1 X y; omega)).trans h_X
  have hTT := (Turn.of_below (F := F) hb4).trans hT5 (fun q hq => .inl hq)
  clear c0 h_Q h_X hb4 hT5
  have HZ := Lib.hid (And.intro hP5 hTT)
  clear hP5 hTT
  go_upto_region 25 with (fail)
  refine wp_region_lit ?_
  try simp only [put_list, List.set_cons_zero, List.set_cons_succ]
  refine wpList_run (by kernel_rfl) (.int .i64 0) (w5) (exec_move rfl (by kernel_rfl)) ?_
  refine wpList_call (by kernel_rfl) 50 #[Go.Operand.tmp 93] #[3] #[.int .i64 0] _ rfl (by kernel_rfl) (by kernel_rfl) (dcode_0 w5) ?_
  rintro r w8 ⟨rfl, hb8⟩
  refine ⟨_, rfl, ?_⟩
  try simp only [put_list, List.set_cons_zero, List.set_cons_succ]
  refine wpList_run (by kernel_rfl) (.pointer (some ⟨X, 0, none⟩)) (w8) (exec_field (vx := .pointer (some ⟨X, 0, none⟩)) rfl (by kernel_rfl) (by kernel_rfl)) ?_
  have h_X8 := heap_below h_X5 hb8
  refine wpList_skip rfl ((w8.setCell ⟨X, 0, none⟩ (.int .i64 0))) (exec_store (vx := .pointer (some ⟨X, 0, none⟩)) (vy := .int .i64 0) rfl (by kernel_rfl) (store_i64R X 0 _ w8 (cell_heap h_X8 (rs_c0 _ _ _)) (thaw_heap h_X8 _))) ?_
  refine wpList_nil ?_
  try simp only [put_list, put_none, List.set_cons_zero, List.set_cons_succ]
  have h_X9 : (w8.setCell ⟨X, 0, none⟩ (.int .i64 0)).heap[X]? = some (.cells (rsA 0 0 (.slice none 0 0)) 47 (0, 0)) := heap_setCell_same w8 X 0 _ _ _ h_X8
  have hT9 : Turn (· = X) w8 (w8.setCell ⟨X, 0, none⟩ (.int .i64 0)) := set_turnH w8 X 0 _
  go_upto_region 26 with (fail)
  obtain ⟨w9, hw9⟩ : ∃ W, W = w8.setCell ⟨X, 0, none⟩ (.int .i64 0) := ⟨_, rfl⟩
  rw [← hw9] at h_X9 hT9 ⊢
  clear hw9
  refine wp_region_lit ?_
  try simp only [put_list, List.set_cons_zero, List.set_cons_succ]
  refine wpList_run (by kernel_rfl) (.int .i64 nres) (w9) (exec_move rfl (by kernel_rfl)) ?_
  try simp only [put_list, List.set_cons_zero, List.set_cons_succ]
  refine wpList_run (by kernel_rfl) (.int .u32 nres) (w9) (exec_cvt (vx := .int .i64 nres) rfl (by kernel_rfl) (hcvn w9)) ?_
  try simp only [put_list, List.set_cons_zero, List.set_cons_succ]
  refine wpList_run (by kernel_rfl) (.pointer (some ⟨X, 1, none⟩)) (w9) (exec_field (vx := .pointer (some ⟨X, 0, none⟩)) rfl (by kernel_rfl) (by kernel_rfl)) ?_
  refine wpList_skip rfl ((w9.setCell ⟨X, 1, none⟩ (.int .u32 nres))) (exec_store (vx := .pointer (some ⟨X, 1, none⟩)) (vy := .int .u32 nres) rfl (by kernel_rfl) (store_u32R X 1 _ w9 (cell_heap h_X9 (rs_c1 _ _ _)) (thaw_heap h_X9 _))) ?_
  refine wpList_nil ?_
  try simp only [put_list, put_none, List.set_cons_zero, List.set_cons_succ]
  have h_XA : (w9.setCell ⟨X, 1, none⟩ (.int .u32 nres)).heap[X]? = some (.cells (rsA 0 nres (.slice none 0 0)) 47 (0, 0)) := heap_setCell_same w9 X 1 _ _ _ h_X9
  have hTA : Turn (· = X) w9 (w9.setCell ⟨X, 1, none⟩ (.int .u32 nres)) := set_turnH w9 X 1 _
  go_upto_region 27 with (fail)
  obtain ⟨wA, hwA⟩ : ∃ W, W = w9.setCell ⟨X, 1, none⟩ (.int .u32 nres) := ⟨_, rfl⟩
  rw [← hwA] at h_XA hTA ⊢
  clear hwA
  refine wp_region_lit ?_
  try simp only [put_list, List.set_cons_zero, List.set_cons_succ]
  refine wpList_run (by kernel_rfl) (.agg (rsA 0 nres (.slice none 0 0))) (wA) (exec_load (vx := .pointer (some ⟨X, 0, none⟩)) rfl (by kernel_rfl) (load_rsR X _ wA h_XA)) ?_
  refine wpList_call (by kernel_rfl) 49 #[Go.Operand.tmp 99] #[47] #[.agg (rsA 0 nres (.slice none 0 0))] _ rfl (by kernel_rfl) (by kernel_rfl) (drsp_wD 0 nres none [] 0 0 9 wA (by exact SlRead.nil_) rfl rfl (by omega)) ?_
  rintro r wB ⟨Bo, co, rfl, hBo, hco, hbB⟩
  refine ⟨_, rfl, ?_⟩
  try simp only [put_list, List.set_cons_zero, List.set_cons_succ]
  refine wpList_run (by kernel_rfl) (.slice Bo 9 co) (wB) (exec_assign rfl (by kernel_rfl)) ?_
  refine wpList_nil ?_
  simp only [put_list, List.set_cons_zero, List.set_cons_succ]
  go_wp2_with fail
  go_ret
  have hX0 : w.heap.size ≤ X := by omega
  have q1 := HY.out.1 _ _ HZ.out.1 hb8
  have q2 := HY.out.2.1 _ _ X _ q1 h_X8 hX0 hT9
  have q3 := HY.out.2.1 _ _ X _ q2 h_X9 hX0 hTA
  have q4 := HY.out.1 _ _ q3 hbB
  exact ⟨Bo, co, rfl, hBo, hco, q4, ((((HZ.out.2.trans (Turn.of_below (F := fun _ => False) hb8) (fun _ y => y.elim)).trans hT9 (fun q hq => .inr (by rw [show q = X from hq]; exact hX0))).trans hTA (fun q hq => .inr (by rw [show q = X from hq]; exact hX0))).trans (Turn.of_below (F := fun _ => False) hbB) (fun _ y => y.elim))⟩
set_option maxRecDepth 100000 in
set_option maxHeartbeats 3200000 in
theorem dserve_commit (S : Nat) (A : Option Addr) (f : Nat → BitVec 8) (off n : Int) (ys : List Int) (m l c : Nat) {w : World} {PM : World → Prop} {F : Nat → Prop} (hA : SlRead w A (ints .u8 (rqB 3 f off n ys))) (hm : 45 + ys.length = m) (hk : ys.length = l) (hmc : m ≤ c) (hy : Byts ys) (hl : l ≤ 200) (h1 : 0 ≤ off ∧ off < 4294967296) (h2 : 0 ≤ n ∧ n < 4294967296)
    (hPb : ∀ V V', PM V → Below V.heap.size V V' → PM V') (hPs : ∀ V V' g cs, PM V → V.heap[g]? = some (.cells cs 47 (0, 0)) → w.heap.size ≤ g → Turn (· = g) V V' → PM V') (hF : ∀ q, F q → q < w.heap.size)
    (HM : ∀ V D cD, Below w.heap.size w V → SlRead V D (ints .u8 ys) → (∀ x, D = some x → w.heap.size ≤ x.block) → l ≤ cD → Calls Tryd.prog 23 #[.pointer (some ⟨S, 0, none⟩), .agg (arr8 32 f)] V fun r V' => r = .returned (.int .i64 0) ∧ PM V' ∧ Turn F V V') :
    Calls Tryd.prog 26 #[.pointer (some ⟨S, 0, none⟩), .slice A m c] w fun r w' => ∃ B cb, r = .returned (.slice B 9 cb) ∧ SlRead w' B (ints .u8 (rsB 0 0 [])) ∧ 9 ≤ cb ∧ PM w' ∧ Turn F w w' := by
  have HRQ := Lib.hid (drq_yes A 3 f off n ys m l c w hA hm hk hy hl hmc (by omega) h1 h2)
  have HY := Lib.hid (And.intro hPb (And.intro hPs (And.intro hF HM)))
  clear hA hPb hPs HM hF hm hk hy
  go_enter Tryd.func26, Tryd.ntmps26
  go_upto_region 1 with (fail)
  refine wp_region_lit ?_
  try simp only [put_list, List.set_cons_zero, List.set_cons_succ]
  refine wpList_run (by kernel_rfl) (.slice A m c) (w) (exec_move rfl (by kernel_rfl)) ?_
  refine wpList_call (by kernel_rfl) 48 #[Go.Operand.tmp 12] #[25] #[.slice A m c] _ rfl (by kernel_rfl) (by kernel_rfl) (HRQ.out) ?_
  rintro r w1 ⟨D, cD, rfl, hD, hDn, hcD, hb1⟩
  refine ⟨_, rfl, ?_⟩
  try simp only [put_list, List.set_cons_zero, List.set_cons_succ]
  refine wpList_run (by kernel_rfl) (.tuple #[.agg (rqA 3 f off n (.slice D l cD)), .agg (frow 0 false 0)]) (w1) (exec_move rfl (by kernel_rfl)) ?_
  try simp only [put_list, List.set_cons_zero, List.set_cons_succ]
  refine wpList_run (by kernel_rfl) (.agg (rqA 3 f off n (.slice D l cD))) (w1) (exec_extract (vx := .tuple #[.agg (rqA 3 f off n (.slice D l cD)), .agg (frow 0 false 0)]) rfl (by kernel_rfl) (by kernel_rfl)) ?_
  try simp only [put_list, List.set_cons_zero, List.set_cons_succ]
  refine wpList_run (by kernel_rfl) (.agg (frow 0 false 0)) (w1) (exec_extract (vx := .tuple #[.agg (rqA 3 f off n (.slice D l cD)), .agg (frow 0 false 0)]) rfl (by kernel_rfl) (by kernel_rfl)) ?_
  try simp only [put_list, List.set_cons_zero, List.set_cons_succ]
  refine wpList_allocV (by kernel_rfl) 40 (by kernel_rfl) (rqA 0 zf 0 0 (.slice none 0 0)) (fun _ => by kernel_rfl) ?_
  try simp only [put_list, List.set_cons_zero, List.set_cons_succ]
  refine wpList_allocV (by kernel_rfl) 64 (by kernel_rfl) (frow 0 false 0) (fun _ => by kernel_rfl) ?_
  try simp only [put_list, List.set_cons_zero, List.set_cons_succ]
  rw [show (w1.alloc (.cells (rqA 0 zf 0 0 (.slice none 0 0)) 40)).heap.size = w1.heap.size + 1 by simp]
  refine wpList_store_row (by kernel_rfl) 40 (Go.Operand.tmp 5) (Go.Operand.tmp 14) (by kernel_rfl) w1.heap.size (rqA 3 f off n (.slice D l cD)) (by kernel_rfl) (by kernel_rfl) _ _ (heap2_0 _ _ _) (rq_info _ _ _ _ _) (rq_szs _ _ _ _ _ _ _ _ _ _) (rq_one _ _ _ _ _ _ _) ?_
  refine wpList_store_row (by kernel_rfl) 64 (Go.Operand.tmp 6) (Go.Operand.tmp 15) (by kernel_rfl) (w1.heap.size + 1) (frow 0 false 0) (by kernel_rfl) (by kernel_rfl) _ _ ((setRow_other _ _ _ _ (by omega)).trans (heap2_1 _ _ _)) (by kernel_rfl) rfl (by kernel_rfl) ?_
  refine wpList_nil ?_
  simp only [put_none]
  go_upto_region 2 with (fail)
  obtain ⟨Q, hQ⟩ : ∃ x, x = w1.heap.size := ⟨_, rfl⟩
  refine wp_world (fun V => Below w1.heap.size w1 V ∧ V.heap[Q]? = some (.cells (rqA 3 f off n (.slice D l cD)) 40 (0, 0)) ∧ V.heap[Q + 1]? = some (.cells (frow 0 false 0) 64 (0, 0))) ?_ ?_
  · rw [hQ]
    refine ⟨serve_two w1 _ _ _ _, ?_, ?_⟩
    · exact (setRow_other _ _ _ _ (by omega)).trans (setRow_heap _ _ _ _ _ _ (heap2_0 _ _ _))
    · exact setRow_heap _ _ _ _ _ _ ((setRow_other _ _ _ _ (by omega)).trans (heap2_1 _ _ _))
  rw [← hQ]
  have HQ := Lib.hid hQ
  rintro w2 ⟨hb2, h_Q, h_F⟩
  have HB2 : Hid (Below w.heap.size w w2) := Lib.hid (hb1.trans ((by rw [← hQ]; exact hb2 : Below w1.heap.size w1 w2).mono hb1.size))
  have hD2 := hD.below (by rw [← hQ]; exact hb2 : Below w1.heap.size w1 w2)
  have hQw : w.heap.size ≤ Q := by rw [hQ]; exact hb1.size
  clear hb2 hb1 hD hQ HRQ
  try simp only [put_none]
  go_upto_region 7 with (first | (refine wpList_load_row rfl 64 _ rfl (Q + 1) rfl _ _ _ _ h_F Tryd.underlying64 rfl (by kernel_rfl) ?_) | (go_at_call 28; refine (bad_no 0 false 0 w2 rfl).mono ?_; rintro r w3 ⟨rfl, hb3⟩))
  obtain ⟨X, hX⟩ : ∃ x, x = w3.heap.size := ⟨_, rfl⟩
  refine wp_world (fun V => Below w.heap.size w V ∧ V.heap[Q]? = some (.cells (rqA 3 f off n (.slice D l cD)) 40 (0, 0)) ∧ V.heap[X]? = some (.cells (rsA 0 0 (.slice none 0 0)) 47 (0, 0)) ∧ SlRead V D (ints .u8 ys)) ?_ ?_
  · rw [hX]
    exact ⟨(HB2.out.trans (hb3.mono HB2.out.size)).trans ((below_alc w3 _).mono (Nat.le_trans HB2.out.size hb3.size)), heap_below (heap_below h_Q hb3) (below_alc w3 _), heap1_0 w3 _, (hD2.below hb3).below (below_alc w3 _)⟩
  rw [← hX]
  have hXQ : Q < X := by rw [hX]; exact Nat.lt_of_lt_of_le (lt_heap h_Q) hb3.size
  clear hX hb3 h_Q h_F hD2 HB2
  rintro w4 ⟨hb4, h_Q, h_X, hD4⟩
  have c0 := cell_heap h_Q (rq_c0 _ _ _ _ _)
  have hM := HY.out.2.2.2 w4 D cD hb4 hD4 hDn hcD
  clear hD4 hDn hcD
  go_upto_region 13 with (fail)
  refine wp_region_lit ?_
  try simp only [put_list, List.set_cons_zero, List.set_cons_succ]
  refine wpList_run (by kernel_rfl) (.pointer (some ⟨S, 0, none⟩)) (w4) (exec_move rfl (by kernel_rfl)) ?_
  try simp only [put_list, List.set_cons_zero, List.set_cons_succ]
  refine wpList_run (by kernel_rfl) (.pointer (some ⟨Q, 1, none⟩)) (w4) (exec_field (vx := .pointer (some ⟨Q, 0, none⟩)) rfl (by kernel_rfl) (by kernel_rfl)) ?_
  try simp only [put_list, List.set_cons_zero, List.set_cons_succ]
  refine wpList_run (by kernel_rfl) (.agg (arr8 32 f)) (w4) (exec_load (vx := .pointer (some ⟨Q, 1, none⟩)) rfl (by kernel_rfl) (load_rowQ w4 Q f (rq_blob h_Q))) ?_
  refine wpList_call (by kernel_rfl) 23 #[Go.Operand.tmp 50, Go.Operand.tmp 52] #[54, 37] #[.pointer (some ⟨S, 0, none⟩), .agg (arr8 32 f)] _ rfl (by kernel_rfl) (by kernel_rfl) (hM) ?_
  rintro r w5 ⟨rfl, hP5, hT5⟩
  refine ⟨_, rfl, ?_⟩
  try simp only [put_list, List.set_cons_zero, List.set_cons_succ]
  refine wpList_run (by kernel_rfl) (.int .i64 0) (w5) (exec_assign rfl (by kernel_rfl)) ?_
  refine wpList_nil ?_
  simp only [put_list, List.set_cons_zero, List.set_cons_succ]
  have h_X5 : w5.heap[X]? = some (.cells (rsA 0 0 (.slice none 0 0)) 47 (0, 0)) := (hT5.block X (lt_heap h_X) (fun y => by have := HY.out.2.2.1 X y; omega)).trans h_X
  have hTT := (Turn.of_below (F := F) hb4).trans hT5 (fun q hq => .inl hq)
  clear c0 h_Q h_X hb4 hT5
  have HZ := Lib.hid (And.intro hP5 hTT)
  clear hP5 hTT
  go_upto_region 25 with (fail)
  refine wp_region_lit ?_
  try simp only [put_list, List.set_cons_zero, List.set_cons_succ]
  refine wpList_run (by kernel_rfl) (.int .i64 0) (w5) (exec_move rfl (by kernel_rfl)) ?_
  refine wpList_call (by kernel_rfl) 50 #[Go.Operand.tmp 93] #[3] #[.int .i64 0] _ rfl (by kernel_rfl) (by kernel_rfl) (dcode_0 w5) ?_
  rintro r w8 ⟨rfl, hb8⟩
  refine ⟨_, rfl, ?_⟩
  try simp only [put_list, List.set_cons_zero, List.set_cons_succ]
  refine wpList_run (by kernel_rfl) (.pointer (some ⟨X, 0, none⟩)) (w8) (exec_field (vx := .pointer (some ⟨X, 0, none⟩)) rfl (by kernel_rfl) (by kernel_rfl)) ?_
  have h_X8 := heap_below h_X5 hb8
  refine wpList_skip rfl ((w8.setCell ⟨X, 0, none⟩ (.int .i64 0))) (exec_store (vx := .pointer (some ⟨X, 0, none⟩)) (vy := .int .i64 0) rfl (by kernel_rfl) (store_i64R X 0 _ w8 (cell_heap h_X8 (rs_c0 _ _ _)) (thaw_heap h_X8 _))) ?_
  refine wpList_nil ?_
  try simp only [put_list, put_none, List.set_cons_zero, List.set_cons_succ]
  have h_X9 : (w8.setCell ⟨X, 0, none⟩ (.int .i64 0)).heap[X]? = some (.cells (rsA 0 0 (.slice none 0 0)) 47 (0, 0)) := heap_setCell_same w8 X 0 _ _ _ h_X8
  have hT9 : Turn (· = X) w8 (w8.setCell ⟨X, 0, none⟩ (.int .i64 0)) := set_turnH w8 X 0 _
  go_upto_region 26 with (fail)
  obtain ⟨w9, hw9⟩ : ∃ W, W = w8.setCell ⟨X, 0, none⟩ (.int .i64 0) := ⟨_, rfl⟩
  rw [← hw9] at h_X9 hT9 ⊢
  clear hw9
  refine wp_region_lit ?_
  try simp only [put_list, List.set_cons_zero, List.set_cons_succ]
  refine wpList_run (by kernel_rfl) (.int .i64 0) (w9) (exec_move rfl (by kernel_rfl)) ?_
  try simp only [put_list, List.set_cons_zero, List.set_cons_succ]
  refine wpList_run (by kernel_rfl) (.int .u32 0) (w9) (exec_cvt (vx := .int .i64 0) rfl (by kernel_rfl) (by kernel_rfl)) ?_
  try simp only [put_list, List.set_cons_zero, List.set_cons_succ]
  refine wpList_run (by kernel_rfl) (.pointer (some ⟨X, 1, none⟩)) (w9) (exec_field (vx := .pointer (some ⟨X, 0, none⟩)) rfl (by kernel_rfl) (by kernel_rfl)) ?_
  refine wpList_skip rfl ((w9.setCell ⟨X, 1, none⟩ (.int .u32 0))) (exec_store (vx := .pointer (some ⟨X, 1, none⟩)) (vy := .int .u32 0) rfl (by kernel_rfl) (store_u32R X 1 _ w9 (cell_heap h_X9 (rs_c1 _ _ _)) (thaw_heap h_X9 _))) ?_
  refine wpList_nil ?_
  try simp only [put_list, put_none, List.set_cons_zero, List.set_cons_succ]
  have h_XA : (w9.setCell ⟨X, 1, none⟩ (.int .u32 0)).heap[X]? = some (.cells (rsA 0 0 (.slice none 0 0)) 47 (0, 0)) := heap_setCell_same w9 X 1 _ _ _ h_X9
  have hTA : Turn (· = X) w9 (w9.setCell ⟨X, 1, none⟩ (.int .u32 0)) := set_turnH w9 X 1 _
  go_upto_region 27 with (fail)
  obtain ⟨wA, hwA⟩ : ∃ W, W = w9.setCell ⟨X, 1, none⟩ (.int .u32 0) := ⟨_, rfl⟩
  rw [← hwA] at h_XA hTA ⊢
  clear hwA
  refine wp_region_lit ?_
  try simp only [put_list, List.set_cons_zero, List.set_cons_succ]
  refine wpList_run (by kernel_rfl) (.agg (rsA 0 0 (.slice none 0 0))) (wA) (exec_load (vx := .pointer (some ⟨X, 0, none⟩)) rfl (by kernel_rfl) (load_rsR X _ wA h_XA)) ?_
  refine wpList_call (by kernel_rfl) 49 #[Go.Operand.tmp 99] #[47] #[.agg (rsA 0 0 (.slice none 0 0))] _ rfl (by kernel_rfl) (by kernel_rfl) (drsp_wD 0 0 none [] 0 0 9 wA (by exact SlRead.nil_) rfl rfl (by omega)) ?_
  rintro r wB ⟨Bo, co, rfl, hBo, hco, hbB⟩
  refine ⟨_, rfl, ?_⟩
  try simp only [put_list, List.set_cons_zero, List.set_cons_succ]
  refine wpList_run (by kernel_rfl) (.slice Bo 9 co) (wB) (exec_assign rfl (by kernel_rfl)) ?_
  refine wpList_nil ?_
  simp only [put_list, List.set_cons_zero, List.set_cons_succ]
  go_wp2_with fail
  go_ret
  have hX0 : w.heap.size ≤ X := by omega
  have q1 := HY.out.1 _ _ HZ.out.1 hb8
  have q2 := HY.out.2.1 _ _ X _ q1 h_X8 hX0 hT9
  have q3 := HY.out.2.1 _ _ X _ q2 h_X9 hX0 hTA
  have q4 := HY.out.1 _ _ q3 hbB
  exact ⟨Bo, co, rfl, hBo, hco, q4, ((((HZ.out.2.trans (Turn.of_below (F := fun _ => False) hb8) (fun _ y => y.elim)).trans hT9 (fun q hq => .inr (by rw [show q = X from hq]; exact hX0))).trans hTA (fun q hq => .inr (by rw [show q = X from hq]; exact hX0))).trans (Turn.of_below (F := fun _ => False) hbB) (fun _ y => y.elim))⟩
set_option maxRecDepth 100000 in
set_option maxHeartbeats 3200000 in
theorem dserve_put14 (S : Nat) (A : Option Addr) (f : Nat → BitVec 8) (off n : Int) (ys : List Int) (m l c : Nat) {w : World} {PM : World → Prop} {F : Nat → Prop} (hA : SlRead w A (ints .u8 (rqB 2 f off n ys))) (hm : 45 + ys.length = m) (hk : ys.length = l) (hmc : m ≤ c) (hy : Byts ys) (hl : l ≤ 200) (h1 : 0 ≤ off ∧ off < 4294967296) (h2 : 0 ≤ n ∧ n < 4294967296)
    (hPb : ∀ V V', PM V → Below V.heap.size V V' → PM V') (hPs : ∀ V V' g cs, PM V → V.heap[g]? = some (.cells cs 47 (0, 0)) → w.heap.size ≤ g → Turn (· = g) V V' → PM V') (hF : ∀ q, F q → q < w.heap.size)
    (HM : ∀ V D cD, Below w.heap.size w V → SlRead V D (ints .u8 ys) → (∀ x, D = some x → w.heap.size ≤ x.block) → l ≤ cD → Calls Tryd.prog 22 #[.pointer (some ⟨S, 0, none⟩), .agg (arr8 32 f), .int .i64 off, .slice D l cD] V fun r V' => r = .returned (.tuple #[.int .i64 0, .int .i64 114]) ∧ PM V' ∧ Turn F V V') :
    Calls Tryd.prog 26 #[.pointer (some ⟨S, 0, none⟩), .slice A m c] w fun r w' => ∃ B cb, r = .returned (.slice B 9 cb) ∧ SlRead w' B (ints .u8 (rsB 14 0 [])) ∧ 9 ≤ cb ∧ PM w' ∧ Turn F w w' := by
  have HRQ := Lib.hid (drq_yes A 2 f off n ys m l c w hA hm hk hy hl hmc (by omega) h1 h2)
  have HY := Lib.hid (And.intro hPb (And.intro hPs (And.intro hF HM)))
  clear hA hPb hPs HM hF hm hk hy
  go_enter Tryd.func26, Tryd.ntmps26
  go_upto_region 1 with (fail)
  refine wp_region_lit ?_
  try simp only [put_list, List.set_cons_zero, List.set_cons_succ]
  refine wpList_run (by kernel_rfl) (.slice A m c) (w) (exec_move rfl (by kernel_rfl)) ?_
  refine wpList_call (by kernel_rfl) 48 #[Go.Operand.tmp 12] #[25] #[.slice A m c] _ rfl (by kernel_rfl) (by kernel_rfl) (HRQ.out) ?_
  rintro r w1 ⟨D, cD, rfl, hD, hDn, hcD, hb1⟩
  refine ⟨_, rfl, ?_⟩
  try simp only [put_list, List.set_cons_zero, List.set_cons_succ]
  refine wpList_run (by kernel_rfl) (.tuple #[.agg (rqA 2 f off n (.slice D l cD)), .agg (frow 0 false 0)]) (w1) (exec_move rfl (by kernel_rfl)) ?_
  try simp only [put_list, List.set_cons_zero, List.set_cons_succ]
  refine wpList_run (by kernel_rfl) (.agg (rqA 2 f off n (.slice D l cD))) (w1) (exec_extract (vx := .tuple #[.agg (rqA 2 f off n (.slice D l cD)), .agg (frow 0 false 0)]) rfl (by kernel_rfl) (by kernel_rfl)) ?_
  try simp only [put_list, List.set_cons_zero, List.set_cons_succ]
  refine wpList_run (by kernel_rfl) (.agg (frow 0 false 0)) (w1) (exec_extract (vx := .tuple #[.agg (rqA 2 f off n (.slice D l cD)), .agg (frow 0 false 0)]) rfl (by kernel_rfl) (by kernel_rfl)) ?_
  try simp only [put_list, List.set_cons_zero, List.set_cons_succ]
  refine wpList_allocV (by kernel_rfl) 40 (by kernel_rfl) (rqA 0 zf 0 0 (.slice none 0 0)) (fun _ => by kernel_rfl) ?_
  try simp only [put_list, List.set_cons_zero, List.set_cons_succ]
  refine wpList_allocV (by kernel_rfl) 64 (by kernel_rfl) (frow 0 false 0) (fun _ => by kernel_rfl) ?_
  try simp only [put_list, List.set_cons_zero, List.set_cons_succ]
  rw [show (w1.alloc (.cells (rqA 0 zf 0 0 (.slice none 0 0)) 40)).heap.size = w1.heap.size + 1 by simp]
  refine wpList_store_row (by kernel_rfl) 40 (Go.Operand.tmp 5) (Go.Operand.tmp 14) (by kernel_rfl) w1.heap.size (rqA 2 f off n (.slice D l cD)) (by kernel_rfl) (by kernel_rfl) _ _ (heap2_0 _ _ _) (rq_info _ _ _ _ _) (rq_szs _ _ _ _ _ _ _ _ _ _) (rq_one _ _ _ _ _ _ _) ?_
  refine wpList_store_row (by kernel_rfl) 64 (Go.Operand.tmp 6) (Go.Operand.tmp 15) (by kernel_rfl) (w1.heap.size + 1) (frow 0 false 0) (by kernel_rfl) (by kernel_rfl) _ _ ((setRow_other _ _ _ _ (by omega)).trans (heap2_1 _ _ _)) (by kernel_rfl) rfl (by kernel_rfl) ?_
  refine wpList_nil ?_
  simp only [put_none]
  go_upto_region 2 with (fail)
  obtain ⟨Q, hQ⟩ : ∃ x, x = w1.heap.size := ⟨_, rfl⟩
  refine wp_world (fun V => Below w1.heap.size w1 V ∧ V.heap[Q]? = some (.cells (rqA 2 f off n (.slice D l cD)) 40 (0, 0)) ∧ V.heap[Q + 1]? = some (.cells (frow 0 false 0) 64 (0, 0))) ?_ ?_
  · rw [hQ]
    refine ⟨serve_two w1 _ _ _ _, ?_, ?_⟩
    · exact (setRow_other _ _ _ _ (by omega)).trans (setRow_heap _ _ _ _ _ _ (heap2_0 _ _ _))
    · exact setRow_heap _ _ _ _ _ _ ((setRow_other _ _ _ _ (by omega)).trans (heap2_1 _ _ _))
  rw [← hQ]
  have HQ := Lib.hid hQ
  rintro w2 ⟨hb2, h_Q, h_F⟩
  have HB2 : Hid (Below w.heap.size w w2) := Lib.hid (hb1.trans ((by rw [← hQ]; exact hb2 : Below w1.heap.size w1 w2).mono hb1.size))
  have hD2 := hD.below (by rw [← hQ]; exact hb2 : Below w1.heap.size w1 w2)
  have hQw : w.heap.size ≤ Q := by rw [hQ]; exact hb1.size
  clear hb2 hb1 hD hQ HRQ
  try simp only [put_none]
  go_upto_region 7 with (first | (refine wpList_load_row rfl 64 _ rfl (Q + 1) rfl _ _ _ _ h_F Tryd.underlying64 rfl (by kernel_rfl) ?_) | (go_at_call 28; refine (bad_no 0 false 0 w2 rfl).mono ?_; rintro r w3 ⟨rfl, hb3⟩))
  obtain ⟨X, hX⟩ : ∃ x, x = w3.heap.size := ⟨_, rfl⟩
  refine wp_world (fun V => Below w.heap.size w V ∧ V.heap[Q]? = some (.cells (rqA 2 f off n (.slice D l cD)) 40 (0, 0)) ∧ V.heap[X]? = some (.cells (rsA 0 0 (.slice none 0 0)) 47 (0, 0)) ∧ SlRead V D (ints .u8 ys)) ?_ ?_
  · rw [hX]
    exact ⟨(HB2.out.trans (hb3.mono HB2.out.size)).trans ((below_alc w3 _).mono (Nat.le_trans HB2.out.size hb3.size)), heap_below (heap_below h_Q hb3) (below_alc w3 _), heap1_0 w3 _, (hD2.below hb3).below (below_alc w3 _)⟩
  rw [← hX]
  have hXQ : Q < X := by rw [hX]; exact Nat.lt_of_lt_of_le (lt_heap h_Q) hb3.size
  clear hX hb3 h_Q h_F hD2 HB2
  rintro w4 ⟨hb4, h_Q, h_X, hD4⟩
  have c0 := cell_heap h_Q (rq_c0 _ _ _ _ _)
  have hM := HY.out.2.2.2 w4 D cD hb4 hD4 hDn hcD
  clear hD4 hDn hcD
  go_upto_region 11 with (fail)
  refine wp_region_lit ?_
  try simp only [put_list, List.set_cons_zero, List.set_cons_succ]
  refine wpList_run (by kernel_rfl) (.pointer (some ⟨S, 0, none⟩)) (w4) (exec_move rfl (by kernel_rfl)) ?_
  try simp only [put_list, List.set_cons_zero, List.set_cons_succ]
  refine wpList_run (by kernel_rfl) (.pointer (some ⟨Q, 1, none⟩)) (w4) (exec_field (vx := .pointer (some ⟨Q, 0, none⟩)) rfl (by kernel_rfl) (by kernel_rfl)) ?_
  try simp only [put_list, List.set_cons_zero, List.set_cons_succ]
  refine wpList_run (by kernel_rfl) (.agg (arr8 32 f)) (w4) (exec_load (vx := .pointer (some ⟨Q, 1, none⟩)) rfl (by kernel_rfl) (load_rowQ w4 Q f (rq_blob h_Q))) ?_
  try simp only [put_list, List.set_cons_zero, List.set_cons_succ]
  refine wpList_run (by kernel_rfl) (.pointer (some ⟨Q, 33, none⟩)) (w4) (exec_field (vx := .pointer (some ⟨Q, 0, none⟩)) rfl (by kernel_rfl) (by kernel_rfl)) ?_
  try simp only [put_list, List.set_cons_zero, List.set_cons_succ]
  refine wpList_run (by kernel_rfl) (.int .u32 off) (w4) (exec_load (vx := .pointer (some ⟨Q, 33, none⟩)) rfl (by kernel_rfl) (load_u32D Q 33 w4 (cell_heap h_Q (rq_c33 _ _ _ _ _)))) ?_
  try simp only [put_list, List.set_cons_zero, List.set_cons_succ]
  refine wpList_run (by kernel_rfl) (.int .i64 off) (w4) (exec_cvt (vx := .int .u32 off) rfl (by kernel_rfl) (cvt_u32k off h1 w4)) ?_
  try simp only [put_list, List.set_cons_zero, List.set_cons_succ]
  refine wpList_run (by kernel_rfl) (.pointer (some ⟨Q, 35, none⟩)) (w4) (exec_field (vx := .pointer (some ⟨Q, 0, none⟩)) rfl (by kernel_rfl) (by kernel_rfl)) ?_
  try simp only [put_list, List.set_cons_zero, List.set_cons_succ]
  refine wpList_run (by kernel_rfl) (.slice D l cD) (w4) (exec_load (vx := .pointer (some ⟨Q, 35, none⟩)) rfl (by kernel_rfl) (load_slice Q 35 w4 25 (fun w => by kernel_rfl) _ (cell_heap h_Q (rq_c35 _ _ _ _ _)))) ?_
  refine wpList_call (by kernel_rfl) 22 #[Go.Operand.tmp 37, Go.Operand.tmp 39, Go.Operand.tmp 42, Go.Operand.tmp 44] #[54, 37, 3, 25] #[.pointer (some ⟨S, 0, none⟩), .agg (arr8 32 f), .int .i64 off, .slice D l cD] _ rfl (by kernel_rfl) (by kernel_rfl) (hM) ?_
  rintro r w5 ⟨rfl, hP5, hT5⟩
  refine ⟨_, rfl, ?_⟩
  try simp only [put_list, List.set_cons_zero, List.set_cons_succ]
  refine wpList_run (by kernel_rfl) (.tuple #[.int .i64 0, .int .i64 114]) (w5) (exec_move rfl (by kernel_rfl)) ?_
  try simp only [put_list, List.set_cons_zero, List.set_cons_succ]
  refine wpList_run (by kernel_rfl) (.int .i64 0) (w5) (exec_extract (vx := .tuple #[.int .i64 0, .int .i64 114]) rfl (by kernel_rfl) (by kernel_rfl)) ?_
  try simp only [put_list, List.set_cons_zero, List.set_cons_succ]
  refine wpList_run (by kernel_rfl) (.int .i64 114) (w5) (exec_extract (vx := .tuple #[.int .i64 0, .int .i64 114]) rfl (by kernel_rfl) (by kernel_rfl)) ?_
  try simp only [put_list, List.set_cons_zero, List.set_cons_succ]
  refine wpList_run (by kernel_rfl) (.int .i64 0) (w5) (exec_assign rfl (by kernel_rfl)) ?_
  try simp only [put_list, List.set_cons_zero, List.set_cons_succ]
  refine wpList_run (by kernel_rfl) (.int .i64 114) (w5) (exec_assign rfl (by kernel_rfl)) ?_
  refine wpList_nil ?_
  simp only [put_list, List.set_cons_zero, List.set_cons_succ]
  have h_X5 : w5.heap[X]? = some (.cells (rsA 0 0 (.slice none 0 0)) 47 (0, 0)) := (hT5.block X (lt_heap h_X) (fun y => by have := HY.out.2.2.1 X y; omega)).trans h_X
  have hTT := (Turn.of_below (F := F) hb4).trans hT5 (fun q hq => .inl hq)
  clear c0 h_Q h_X hb4 hT5
  have HZ := Lib.hid (And.intro hP5 hTT)
  clear hP5 hTT
  go_upto_region 25 with (fail)
  refine wp_region_lit ?_
  try simp only [put_list, List.set_cons_zero, List.set_cons_succ]
  refine wpList_run (by kernel_rfl) (.int .i64 114) (w5) (exec_move rfl (by kernel_rfl)) ?_
  refine wpList_call (by kernel_rfl) 50 #[Go.Operand.tmp 93] #[3] #[.int .i64 114] _ rfl (by kernel_rfl) (by kernel_rfl) (dcode_114 w5) ?_
  rintro r w8 ⟨rfl, hb8⟩
  refine ⟨_, rfl, ?_⟩
  try simp only [put_list, List.set_cons_zero, List.set_cons_succ]
  refine wpList_run (by kernel_rfl) (.pointer (some ⟨X, 0, none⟩)) (w8) (exec_field (vx := .pointer (some ⟨X, 0, none⟩)) rfl (by kernel_rfl) (by kernel_rfl)) ?_
  have h_X8 := heap_below h_X5 hb8
  refine wpList_skip rfl ((w8.setCell ⟨X, 0, none⟩ (.int .i64 14))) (exec_store (vx := .pointer (some ⟨X, 0, none⟩)) (vy := .int .i64 14) rfl (by kernel_rfl) (store_i64R X 0 _ w8 (cell_heap h_X8 (rs_c0 _ _ _)) (thaw_heap h_X8 _))) ?_
  refine wpList_nil ?_
  try simp only [put_list, put_none, List.set_cons_zero, List.set_cons_succ]
  have h_X9 : (w8.setCell ⟨X, 0, none⟩ (.int .i64 14)).heap[X]? = some (.cells (rsA 14 0 (.slice none 0 0)) 47 (0, 0)) := heap_setCell_same w8 X 0 _ _ _ h_X8
  have hT9 : Turn (· = X) w8 (w8.setCell ⟨X, 0, none⟩ (.int .i64 14)) := set_turnH w8 X 0 _
  go_upto_region 26 with (fail)
  obtain ⟨w9, hw9⟩ : ∃ W, W = w8.setCell ⟨X, 0, none⟩ (.int .i64 14) := ⟨_, rfl⟩
  rw [← hw9] at h_X9 hT9 ⊢
  clear hw9
  refine wp_region_lit ?_
  try simp only [put_list, List.set_cons_zero, List.set_cons_succ]
  refine wpList_run (by kernel_rfl) (.int .i64 0) (w9) (exec_move rfl (by kernel_rfl)) ?_
  try simp only [put_list, List.set_cons_zero, List.set_cons_succ]
  refine wpList_run (by kernel_rfl) (.int .u32 0) (w9) (exec_cvt (vx := .int .i64 0) rfl (by kernel_rfl) (by kernel_rfl)) ?_
  try simp only [put_list, List.set_cons_zero, List.set_cons_succ]
  refine wpList_run (by kernel_rfl) (.pointer (some ⟨X, 1, none⟩)) (w9) (exec_field (vx := .pointer (some ⟨X, 0, none⟩)) rfl (by kernel_rfl) (by kernel_rfl)) ?_
  refine wpList_skip rfl ((w9.setCell ⟨X, 1, none⟩ (.int .u32 0))) (exec_store (vx := .pointer (some ⟨X, 1, none⟩)) (vy := .int .u32 0) rfl (by kernel_rfl) (store_u32R X 1 _ w9 (cell_heap h_X9 (rs_c1 _ _ _)) (thaw_heap h_X9 _))) ?_
  refine wpList_nil ?_
  try simp only [put_list, put_none, List.set_cons_zero, List.set_cons_succ]
  have h_XA : (w9.setCell ⟨X, 1, none⟩ (.int .u32 0)).heap[X]? = some (.cells (rsA 14 0 (.slice none 0 0)) 47 (0, 0)) := heap_setCell_same w9 X 1 _ _ _ h_X9
  have hTA : Turn (· = X) w9 (w9.setCell ⟨X, 1, none⟩ (.int .u32 0)) := set_turnH w9 X 1 _
  go_upto_region 27 with (fail)
  obtain ⟨wA, hwA⟩ : ∃ W, W = w9.setCell ⟨X, 1, none⟩ (.int .u32 0) := ⟨_, rfl⟩
  rw [← hwA] at h_XA hTA ⊢
  clear hwA
  refine wp_region_lit ?_
  try simp only [put_list, List.set_cons_zero, List.set_cons_succ]
  refine wpList_run (by kernel_rfl) (.agg (rsA 14 0 (.slice none 0 0))) (wA) (exec_load (vx := .pointer (some ⟨X, 0, none⟩)) rfl (by kernel_rfl) (load_rsR X _ wA h_XA)) ?_
  refine wpList_call (by kernel_rfl) 49 #[Go.Operand.tmp 99] #[47] #[.agg (rsA 14 0 (.slice none 0 0))] _ rfl (by kernel_rfl) (by kernel_rfl) (drsp_wD 14 0 none [] 0 0 9 wA (by exact SlRead.nil_) rfl rfl (by omega)) ?_
  rintro r wB ⟨Bo, co, rfl, hBo, hco, hbB⟩
  refine ⟨_, rfl, ?_⟩
  try simp only [put_list, List.set_cons_zero, List.set_cons_succ]
  refine wpList_run (by kernel_rfl) (.slice Bo 9 co) (wB) (exec_assign rfl (by kernel_rfl)) ?_
  refine wpList_nil ?_
  simp only [put_list, List.set_cons_zero, List.set_cons_succ]
  go_wp2_with fail
  go_ret
  have hX0 : w.heap.size ≤ X := by omega
  have q1 := HY.out.1 _ _ HZ.out.1 hb8
  have q2 := HY.out.2.1 _ _ X _ q1 h_X8 hX0 hT9
  have q3 := HY.out.2.1 _ _ X _ q2 h_X9 hX0 hTA
  have q4 := HY.out.1 _ _ q3 hbB
  exact ⟨Bo, co, rfl, hBo, hco, q4, ((((HZ.out.2.trans (Turn.of_below (F := fun _ => False) hb8) (fun _ y => y.elim)).trans hT9 (fun q hq => .inr (by rw [show q = X from hq]; exact hX0))).trans hTA (fun q hq => .inr (by rw [show q = X from hq]; exact hX0))).trans (Turn.of_below (F := fun _ => False) hbB) (fun _ y => y.elim))⟩
set_option maxRecDepth 100000 in
set_option maxHeartbeats 3200000 in
theorem dserve_put17 (S : Nat) (A : Option Addr) (f : Nat → BitVec 8) (off n : Int) (ys : List Int) (m l c : Nat) {w : World} {PM : World → Prop} {F : Nat → Prop} (hA : SlRead w A (ints .u8 (rqB 2 f off n ys))) (hm : 45 + ys.length = m) (hk : ys.length = l) (hmc : m ≤ c) (hy : Byts ys) (hl : l ≤ 200) (h1 : 0 ≤ off ∧ off < 4294967296) (h2 : 0 ≤ n ∧ n < 4294967296)
    (hPb : ∀ V V', PM V → Below V.heap.size V V' → PM V') (hPs : ∀ V V' g cs, PM V → V.heap[g]? = some (.cells cs 47 (0, 0)) → w.heap.size ≤ g → Turn (· = g) V V' → PM V') (hF : ∀ q, F q → q < w.heap.size)
    (HM : ∀ V D cD, Below w.heap.size w V → SlRead V D (ints .u8 ys) → (∀ x, D = some x → w.heap.size ≤ x.block) → l ≤ cD → Calls Tryd.prog 22 #[.pointer (some ⟨S, 0, none⟩), .agg (arr8 32 f), .int .i64 off, .slice D l cD] V fun r V' => r = .returned (.tuple #[.int .i64 0, .int .i64 117]) ∧ PM V' ∧ Turn F V V') :
    Calls Tryd.prog 26 #[.pointer (some ⟨S, 0, none⟩), .slice A m c] w fun r w' => ∃ B cb, r = .returned (.slice B 9 cb) ∧ SlRead w' B (ints .u8 (rsB 17 0 [])) ∧ 9 ≤ cb ∧ PM w' ∧ Turn F w w' := by
  have HRQ := Lib.hid (drq_yes A 2 f off n ys m l c w hA hm hk hy hl hmc (by omega) h1 h2)
  have HY := Lib.hid (And.intro hPb (And.intro hPs (And.intro hF HM)))
  clear hA hPb hPs HM hF hm hk hy
  go_enter Tryd.func26, Tryd.ntmps26
  go_upto_region 1 with (fail)
  refine wp_region_lit ?_
  try simp only [put_list, List.set_cons_zero, List.set_cons_succ]
  refine wpList_run (by kernel_rfl) (.slice A m c) (w) (exec_move rfl (by kernel_rfl)) ?_
  refine wpList_call (by kernel_rfl) 48 #[Go.Operand.tmp 12] #[25] #[.slice A m c] _ rfl (by kernel_rfl) (by kernel_rfl) (HRQ.out) ?_
  rintro r w1 ⟨D, cD, rfl, hD, hDn, hcD, hb1⟩
  refine ⟨_, rfl, ?_⟩
  try simp only [put_list, List.set_cons_zero, List.set_cons_succ]
  refine wpList_run (by kernel_rfl) (.tuple #[.agg (rqA 2 f off n (.slice D l cD)), .agg (frow 0 false 0)]) (w1) (exec_move rfl (by kernel_rfl)) ?_
  try simp only [put_list, List.set_cons_zero, List.set_cons_succ]
  refine wpList_run (by kernel_rfl) (.agg (rqA 2 f off n (.slice D l cD))) (w1) (exec_extract (vx := .tuple #[.agg (rqA 2 f off n (.slice D l cD)), .agg (frow 0 false 0)]) rfl (by kernel_rfl) (by kernel_rfl)) ?_
  try simp only [put_list, List.set_cons_zero, List.set_cons_succ]
  refine wpList_run (by kernel_rfl) (.agg (frow 0 false 0)) (w1) (exec_extract (vx := .tuple #[.agg (rqA 2 f off n (.slice D l cD)), .agg (frow 0 false 0)]) rfl (by kernel_rfl) (by kernel_rfl)) ?_
  try simp only [put_list, List.set_cons_zero, List.set_cons_succ]
  refine wpList_allocV (by kernel_rfl) 40 (by kernel_rfl) (rqA 0 zf 0 0 (.slice none 0 0)) (fun _ => by kernel_rfl) ?_
  try simp only [put_list, List.set_cons_zero, List.set_cons_succ]
  refine wpList_allocV (by kernel_rfl) 64 (by kernel_rfl) (frow 0 false 0) (fun _ => by kernel_rfl) ?_
  try simp only [put_list, List.set_cons_zero, List.set_cons_succ]
  rw [show (w1.alloc (.cells (rqA 0 zf 0 0 (.slice none 0 0)) 40)).heap.size = w1.heap.size + 1 by simp]
  refine wpList_store_row (by kernel_rfl) 40 (Go.Operand.tmp 5) (Go.Operand.tmp 14) (by kernel_rfl) w1.heap.size (rqA 2 f off n (.slice D l cD)) (by kernel_rfl) (by kernel_rfl) _ _ (heap2_0 _ _ _) (rq_info _ _ _ _ _) (rq_szs _ _ _ _ _ _ _ _ _ _) (rq_one _ _ _ _ _ _ _) ?_
  refine wpList_store_row (by kernel_rfl) 64 (Go.Operand.tmp 6) (Go.Operand.tmp 15) (by kernel_rfl) (w1.heap.size + 1) (frow 0 false 0) (by kernel_rfl) (by kernel_rfl) _ _ ((setRow_other _ _ _ _ (by omega)).trans (heap2_1 _ _ _)) (by kernel_rfl) rfl (by kernel_rfl) ?_
  refine wpList_nil ?_
  simp only [put_none]
  go_upto_region 2 with (fail)
  obtain ⟨Q, hQ⟩ : ∃ x, x = w1.heap.size := ⟨_, rfl⟩
  refine wp_world (fun V => Below w1.heap.size w1 V ∧ V.heap[Q]? = some (.cells (rqA 2 f off n (.slice D l cD)) 40 (0, 0)) ∧ V.heap[Q + 1]? = some (.cells (frow 0 false 0) 64 (0, 0))) ?_ ?_
  · rw [hQ]
    refine ⟨serve_two w1 _ _ _ _, ?_, ?_⟩
    · exact (setRow_other _ _ _ _ (by omega)).trans (setRow_heap _ _ _ _ _ _ (heap2_0 _ _ _))
    · exact setRow_heap _ _ _ _ _ _ ((setRow_other _ _ _ _ (by omega)).trans (heap2_1 _ _ _))
  rw [← hQ]
  have HQ := Lib.hid hQ
  rintro w2 ⟨hb2, h_Q, h_F⟩
  have HB2 : Hid (Below w.heap.size w w2) := Lib.hid (hb1.trans ((by rw [← hQ]; exact hb2 : Below w1.heap.size w1 w2).mono hb1.size))
  have hD2 := hD.below (by rw [← hQ]; exact hb2 : Below w1.heap.size w1 w2)
  have hQw : w.heap.size ≤ Q := by rw [hQ]; exact hb1.size
  clear hb2 hb1 hD hQ HRQ
  try simp only [put_none]
  go_upto_region 7 with (first | (refine wpList_load_row rfl 64 _ rfl (Q + 1) rfl _ _ _ _ h_F Tryd.underlying64 rfl (by kernel_rfl) ?_) | (go_at_call 28; refine (bad_no 0 false 0 w2 rfl).mono ?_; rintro r w3 ⟨rfl, hb3⟩))
  obtain ⟨X, hX⟩ : ∃ x, x = w3.heap.size := ⟨_, rfl⟩
  refine wp_world (fun V => Below w.heap.size w V ∧ V.heap[Q]? = some (.cells (rqA 2 f off n (.slice D l cD)) 40 (0, 0)) ∧ V.heap[X]? = some (.cells (rsA 0 0 (.slice none 0 0)) 47 (0, 0)) ∧ SlRead V D (ints .u8 ys)) ?_ ?_
  · rw [hX]
    exact ⟨(HB2.out.trans (hb3.mono HB2.out.size)).trans ((below_alc w3 _).mono (Nat.le_trans HB2.out.size hb3.size)), heap_below (heap_below h_Q hb3) (below_alc w3 _), heap1_0 w3 _, (hD2.below hb3).below (below_alc w3 _)⟩
  rw [← hX]
  have hXQ : Q < X := by rw [hX]; exact Nat.lt_of_lt_of_le (lt_heap h_Q) hb3.size
  clear hX hb3 h_Q h_F hD2 HB2
  rintro w4 ⟨hb4, h_Q, h_X, hD4⟩
  have c0 := cell_heap h_Q (rq_c0 _ _ _ _ _)
  have hM := HY.out.2.2.2 w4 D cD hb4 hD4 hDn hcD
  clear hD4 hDn hcD
  go_upto_region 11 with (fail)
  refine wp_region_lit ?_
  try simp only [put_list, List.set_cons_zero, List.set_cons_succ]
  refine wpList_run (by kernel_rfl) (.pointer (some ⟨S, 0, none⟩)) (w4) (exec_move rfl (by kernel_rfl)) ?_
  try simp only [put_list, List.set_cons_zero, List.set_cons_succ]
  refine wpList_run (by kernel_rfl) (.pointer (some ⟨Q, 1, none⟩)) (w4) (exec_field (vx := .pointer (some ⟨Q, 0, none⟩)) rfl (by kernel_rfl) (by kernel_rfl)) ?_
  try simp only [put_list, List.set_cons_zero, List.set_cons_succ]
  refine wpList_run (by kernel_rfl) (.agg (arr8 32 f)) (w4) (exec_load (vx := .pointer (some ⟨Q, 1, none⟩)) rfl (by kernel_rfl) (load_rowQ w4 Q f (rq_blob h_Q))) ?_
  try simp only [put_list, List.set_cons_zero, List.set_cons_succ]
  refine wpList_run (by kernel_rfl) (.pointer (some ⟨Q, 33, none⟩)) (w4) (exec_field (vx := .pointer (some ⟨Q, 0, none⟩)) rfl (by kernel_rfl) (by kernel_rfl)) ?_
  try simp only [put_list, List.set_cons_zero, List.set_cons_succ]
  refine wpList_run (by kernel_rfl) (.int .u32 off) (w4) (exec_load (vx := .pointer (some ⟨Q, 33, none⟩)) rfl (by kernel_rfl) (load_u32D Q 33 w4 (cell_heap h_Q (rq_c33 _ _ _ _ _)))) ?_
  try simp only [put_list, List.set_cons_zero, List.set_cons_succ]
  refine wpList_run (by kernel_rfl) (.int .i64 off) (w4) (exec_cvt (vx := .int .u32 off) rfl (by kernel_rfl) (cvt_u32k off h1 w4)) ?_
  try simp only [put_list, List.set_cons_zero, List.set_cons_succ]
  refine wpList_run (by kernel_rfl) (.pointer (some ⟨Q, 35, none⟩)) (w4) (exec_field (vx := .pointer (some ⟨Q, 0, none⟩)) rfl (by kernel_rfl) (by kernel_rfl)) ?_
  try simp only [put_list, List.set_cons_zero, List.set_cons_succ]
  refine wpList_run (by kernel_rfl) (.slice D l cD) (w4) (exec_load (vx := .pointer (some ⟨Q, 35, none⟩)) rfl (by kernel_rfl) (load_slice Q 35 w4 25 (fun w => by kernel_rfl) _ (cell_heap h_Q (rq_c35 _ _ _ _ _)))) ?_
  refine wpList_call (by kernel_rfl) 22 #[Go.Operand.tmp 37, Go.Operand.tmp 39, Go.Operand.tmp 42, Go.Operand.tmp 44] #[54, 37, 3, 25] #[.pointer (some ⟨S, 0, none⟩), .agg (arr8 32 f), .int .i64 off, .slice D l cD] _ rfl (by kernel_rfl) (by kernel_rfl) (hM) ?_
  rintro r w5 ⟨rfl, hP5, hT5⟩
  refine ⟨_, rfl, ?_⟩
  try simp only [put_list, List.set_cons_zero, List.set_cons_succ]
  refine wpList_run (by kernel_rfl) (.tuple #[.int .i64 0, .int .i64 117]) (w5) (exec_move rfl (by kernel_rfl)) ?_
  try simp only [put_list, List.set_cons_zero, List.set_cons_succ]
  refine wpList_run (by kernel_rfl) (.int .i64 0) (w5) (exec_extract (vx := .tuple #[.int .i64 0, .int .i64 117]) rfl (by kernel_rfl) (by kernel_rfl)) ?_
  try simp only [put_list, List.set_cons_zero, List.set_cons_succ]
  refine wpList_run (by kernel_rfl) (.int .i64 117) (w5) (exec_extract (vx := .tuple #[.int .i64 0, .int .i64 117]) rfl (by kernel_rfl) (by kernel_rfl)) ?_
  try simp only [put_list, List.set_cons_zero, List.set_cons_succ]
  refine wpList_run (by kernel_rfl) (.int .i64 0) (w5) (exec_assign rfl (by kernel_rfl)) ?_
  try simp only [put_list, List.set_cons_zero, List.set_cons_succ]
  refine wpList_run (by kernel_rfl) (.int .i64 117) (w5) (exec_assign rfl (by kernel_rfl)) ?_
  refine wpList_nil ?_
  simp only [put_list, List.set_cons_zero, List.set_cons_succ]
  have h_X5 : w5.heap[X]? = some (.cells (rsA 0 0 (.slice none 0 0)) 47 (0, 0)) := (hT5.block X (lt_heap h_X) (fun y => by have := HY.out.2.2.1 X y; omega)).trans h_X
  have hTT := (Turn.of_below (F := F) hb4).trans hT5 (fun q hq => .inl hq)
  clear c0 h_Q h_X hb4 hT5
  have HZ := Lib.hid (And.intro hP5 hTT)
  clear hP5 hTT
  go_upto_region 25 with (fail)
  refine wp_region_lit ?_
  try simp only [put_list, List.set_cons_zero, List.set_cons_succ]
  refine wpList_run (by kernel_rfl) (.int .i64 117) (w5) (exec_move rfl (by kernel_rfl)) ?_
  refine wpList_call (by kernel_rfl) 50 #[Go.Operand.tmp 93] #[3] #[.int .i64 117] _ rfl (by kernel_rfl) (by kernel_rfl) (dcode_117 w5) ?_
  rintro r w8 ⟨rfl, hb8⟩
  refine ⟨_, rfl, ?_⟩
  try simp only [put_list, List.set_cons_zero, List.set_cons_succ]
  refine wpList_run (by kernel_rfl) (.pointer (some ⟨X, 0, none⟩)) (w8) (exec_field (vx := .pointer (some ⟨X, 0, none⟩)) rfl (by kernel_rfl) (by kernel_rfl)) ?_
  have h_X8 := heap_below h_X5 hb8
  refine wpList_skip rfl ((w8.setCell ⟨X, 0, none⟩ (.int .i64 17))) (exec_store (vx := .pointer (some ⟨X, 0, none⟩)) (vy := .int .i64 17) rfl (by kernel_rfl) (store_i64R X 0 _ w8 (cell_heap h_X8 (rs_c0 _ _ _)) (thaw_heap h_X8 _))) ?_
  refine wpList_nil ?_
  try simp only [put_list, put_none, List.set_cons_zero, List.set_cons_succ]
  have h_X9 : (w8.setCell ⟨X, 0, none⟩ (.int .i64 17)).heap[X]? = some (.cells (rsA 17 0 (.slice none 0 0)) 47 (0, 0)) := heap_setCell_same w8 X 0 _ _ _ h_X8
  have hT9 : Turn (· = X) w8 (w8.setCell ⟨X, 0, none⟩ (.int .i64 17)) := set_turnH w8 X 0 _
  go_upto_region 26 with (fail)
  obtain ⟨w9, hw9⟩ : ∃ W, W = w8.setCell ⟨X, 0, none⟩ (.int .i64 17) := ⟨_, rfl⟩
  rw [← hw9] at h_X9 hT9 ⊢
  clear hw9
  refine wp_region_lit ?_
  try simp only [put_list, List.set_cons_zero, List.set_cons_succ]
  refine wpList_run (by kernel_rfl) (.int .i64 0) (w9) (exec_move rfl (by kernel_rfl)) ?_
  try simp only [put_list, List.set_cons_zero, List.set_cons_succ]
  refine wpList_run (by kernel_rfl) (.int .u32 0) (w9) (exec_cvt (vx := .int .i64 0) rfl (by kernel_rfl) (by kernel_rfl)) ?_
  try simp only [put_list, List.set_cons_zero, List.set_cons_succ]
  refine wpList_run (by kernel_rfl) (.pointer (some ⟨X, 1, none⟩)) (w9) (exec_field (vx := .pointer (some ⟨X, 0, none⟩)) rfl (by kernel_rfl) (by kernel_rfl)) ?_
  refine wpList_skip rfl ((w9.setCell ⟨X, 1, none⟩ (.int .u32 0))) (exec_store (vx := .pointer (some ⟨X, 1, none⟩)) (vy := .int .u32 0) rfl (by kernel_rfl) (store_u32R X 1 _ w9 (cell_heap h_X9 (rs_c1 _ _ _)) (thaw_heap h_X9 _))) ?_
  refine wpList_nil ?_
  try simp only [put_list, put_none, List.set_cons_zero, List.set_cons_succ]
  have h_XA : (w9.setCell ⟨X, 1, none⟩ (.int .u32 0)).heap[X]? = some (.cells (rsA 17 0 (.slice none 0 0)) 47 (0, 0)) := heap_setCell_same w9 X 1 _ _ _ h_X9
  have hTA : Turn (· = X) w9 (w9.setCell ⟨X, 1, none⟩ (.int .u32 0)) := set_turnH w9 X 1 _
  go_upto_region 27 with (fail)
  obtain ⟨wA, hwA⟩ : ∃ W, W = w9.setCell ⟨X, 1, none⟩ (.int .u32 0) := ⟨_, rfl⟩
  rw [← hwA] at h_XA hTA ⊢
  clear hwA
  refine wp_region_lit ?_
  try simp only [put_list, List.set_cons_zero, List.set_cons_succ]
  refine wpList_run (by kernel_rfl) (.agg (rsA 17 0 (.slice none 0 0))) (wA) (exec_load (vx := .pointer (some ⟨X, 0, none⟩)) rfl (by kernel_rfl) (load_rsR X _ wA h_XA)) ?_
  refine wpList_call (by kernel_rfl) 49 #[Go.Operand.tmp 99] #[47] #[.agg (rsA 17 0 (.slice none 0 0))] _ rfl (by kernel_rfl) (by kernel_rfl) (drsp_wD 17 0 none [] 0 0 9 wA (by exact SlRead.nil_) rfl rfl (by omega)) ?_
  rintro r wB ⟨Bo, co, rfl, hBo, hco, hbB⟩
  refine ⟨_, rfl, ?_⟩
  try simp only [put_list, List.set_cons_zero, List.set_cons_succ]
  refine wpList_run (by kernel_rfl) (.slice Bo 9 co) (wB) (exec_assign rfl (by kernel_rfl)) ?_
  refine wpList_nil ?_
  simp only [put_list, List.set_cons_zero, List.set_cons_succ]
  go_wp2_with fail
  go_ret
  have hX0 : w.heap.size ≤ X := by omega
  have q1 := HY.out.1 _ _ HZ.out.1 hb8
  have q2 := HY.out.2.1 _ _ X _ q1 h_X8 hX0 hT9
  have q3 := HY.out.2.1 _ _ X _ q2 h_X9 hX0 hTA
  have q4 := HY.out.1 _ _ q3 hbB
  exact ⟨Bo, co, rfl, hBo, hco, q4, ((((HZ.out.2.trans (Turn.of_below (F := fun _ => False) hb8) (fun _ y => y.elim)).trans hT9 (fun q hq => .inr (by rw [show q = X from hq]; exact hX0))).trans hTA (fun q hq => .inr (by rw [show q = X from hq]; exact hX0))).trans (Turn.of_below (F := fun _ => False) hbB) (fun _ y => y.elim))⟩
set_option maxRecDepth 100000 in
set_option maxHeartbeats 3200000 in
theorem dserve_commit14 (S : Nat) (A : Option Addr) (f : Nat → BitVec 8) (off n : Int) (ys : List Int) (m l c : Nat) {w : World} {PM : World → Prop} {F : Nat → Prop} (hA : SlRead w A (ints .u8 (rqB 3 f off n ys))) (hm : 45 + ys.length = m) (hk : ys.length = l) (hmc : m ≤ c) (hy : Byts ys) (hl : l ≤ 200) (h1 : 0 ≤ off ∧ off < 4294967296) (h2 : 0 ≤ n ∧ n < 4294967296)
    (hPb : ∀ V V', PM V → Below V.heap.size V V' → PM V') (hPs : ∀ V V' g cs, PM V → V.heap[g]? = some (.cells cs 47 (0, 0)) → w.heap.size ≤ g → Turn (· = g) V V' → PM V') (hF : ∀ q, F q → q < w.heap.size)
    (HM : ∀ V D cD, Below w.heap.size w V → SlRead V D (ints .u8 ys) → (∀ x, D = some x → w.heap.size ≤ x.block) → l ≤ cD → Calls Tryd.prog 23 #[.pointer (some ⟨S, 0, none⟩), .agg (arr8 32 f)] V fun r V' => r = .returned (.int .i64 114) ∧ PM V' ∧ Turn F V V') :
    Calls Tryd.prog 26 #[.pointer (some ⟨S, 0, none⟩), .slice A m c] w fun r w' => ∃ B cb, r = .returned (.slice B 9 cb) ∧ SlRead w' B (ints .u8 (rsB 14 0 [])) ∧ 9 ≤ cb ∧ PM w' ∧ Turn F w w' := by
  have HRQ := Lib.hid (drq_yes A 3 f off n ys m l c w hA hm hk hy hl hmc (by omega) h1 h2)
  have HY := Lib.hid (And.intro hPb (And.intro hPs (And.intro hF HM)))
  clear hA hPb hPs HM hF hm hk hy
  go_enter Tryd.func26, Tryd.ntmps26
  go_upto_region 1 with (fail)
  refine wp_region_lit ?_
  try simp only [put_list, List.set_cons_zero, List.set_cons_succ]
  refine wpList_run (by kernel_rfl) (.slice A m c) (w) (exec_move rfl (by kernel_rfl)) ?_
  refine wpList_call (by kernel_rfl) 48 #[Go.Operand.tmp 12] #[25] #[.slice A m c] _ rfl (by kernel_rfl) (by kernel_rfl) (HRQ.out) ?_
  rintro r w1 ⟨D, cD, rfl, hD, hDn, hcD, hb1⟩
  refine ⟨_, rfl, ?_⟩
  try simp only [put_list, List.set_cons_zero, List.set_cons_succ]
  refine wpList_run (by kernel_rfl) (.tuple #[.agg (rqA 3 f off n (.slice D l cD)), .agg (frow 0 false 0)]) (w1) (exec_move rfl (by kernel_rfl)) ?_
  try simp only [put_list, List.set_cons_zero, List.set_cons_succ]
  refine wpList_run (by kernel_rfl) (.agg (rqA 3 f off n (.slice D l cD))) (w1) (exec_extract (vx := .tuple #[.agg (rqA 3 f off n (.slice D l cD)), .agg (frow 0 false 0)]) rfl (by kernel_rfl) (by kernel_rfl)) ?_
  try simp only [put_list, List.set_cons_zero, List.set_cons_succ]
  refine wpList_run (by kernel_rfl) (.agg (frow 0 false 0)) (w1) (exec_extract (vx := .tuple #[.agg (rqA 3 f off n (.slice D l cD)), .agg (frow 0 false 0)]) rfl (by kernel_rfl) (by kernel_rfl)) ?_
  try simp only [put_list, List.set_cons_zero, List.set_cons_succ]
  refine wpList_allocV (by kernel_rfl) 40 (by kernel_rfl) (rqA 0 zf 0 0 (.slice none 0 0)) (fun _ => by kernel_rfl) ?_
  try simp only [put_list, List.set_cons_zero, List.set_cons_succ]
  refine wpList_allocV (by kernel_rfl) 64 (by kernel_rfl) (frow 0 false 0) (fun _ => by kernel_rfl) ?_
  try simp only [put_list, List.set_cons_zero, List.set_cons_succ]
  rw [show (w1.alloc (.cells (rqA 0 zf 0 0 (.slice none 0 0)) 40)).heap.size = w1.heap.size + 1 by simp]
  refine wpList_store_row (by kernel_rfl) 40 (Go.Operand.tmp 5) (Go.Operand.tmp 14) (by kernel_rfl) w1.heap.size (rqA 3 f off n (.slice D l cD)) (by kernel_rfl) (by kernel_rfl) _ _ (heap2_0 _ _ _) (rq_info _ _ _ _ _) (rq_szs _ _ _ _ _ _ _ _ _ _) (rq_one _ _ _ _ _ _ _) ?_
  refine wpList_store_row (by kernel_rfl) 64 (Go.Operand.tmp 6) (Go.Operand.tmp 15) (by kernel_rfl) (w1.heap.size + 1) (frow 0 false 0) (by kernel_rfl) (by kernel_rfl) _ _ ((setRow_other _ _ _ _ (by omega)).trans (heap2_1 _ _ _)) (by kernel_rfl) rfl (by kernel_rfl) ?_
  refine wpList_nil ?_
  simp only [put_none]
  go_upto_region 2 with (fail)
  obtain ⟨Q, hQ⟩ : ∃ x, x = w1.heap.size := ⟨_, rfl⟩
  refine wp_world (fun V => Below w1.heap.size w1 V ∧ V.heap[Q]? = some (.cells (rqA 3 f off n (.slice D l cD)) 40 (0, 0)) ∧ V.heap[Q + 1]? = some (.cells (frow 0 false 0) 64 (0, 0))) ?_ ?_
  · rw [hQ]
    refine ⟨serve_two w1 _ _ _ _, ?_, ?_⟩
    · exact (setRow_other _ _ _ _ (by omega)).trans (setRow_heap _ _ _ _ _ _ (heap2_0 _ _ _))
    · exact setRow_heap _ _ _ _ _ _ ((setRow_other _ _ _ _ (by omega)).trans (heap2_1 _ _ _))
  rw [← hQ]
  have HQ := Lib.hid hQ
  rintro w2 ⟨hb2, h_Q, h_F⟩
  have HB2 : Hid (Below w.heap.size w w2) := Lib.hid (hb1.trans ((by rw [← hQ]; exact hb2 : Below w1.heap.size w1 w2).mono hb1.size))
  have hD2 := hD.below (by rw [← hQ]; exact hb2 : Below w1.heap.size w1 w2)
  have hQw : w.heap.size ≤ Q := by rw [hQ]; exact hb1.size
  clear hb2 hb1 hD hQ HRQ
  try simp only [put_none]
  go_upto_region 7 with (first | (refine wpList_load_row rfl 64 _ rfl (Q + 1) rfl _ _ _ _ h_F Tryd.underlying64 rfl (by kernel_rfl) ?_) | (go_at_call 28; refine (bad_no 0 false 0 w2 rfl).mono ?_; rintro r w3 ⟨rfl, hb3⟩))
  obtain ⟨X, hX⟩ : ∃ x, x = w3.heap.size := ⟨_, rfl⟩
  refine wp_world (fun V => Below w.heap.size w V ∧ V.heap[Q]? = some (.cells (rqA 3 f off n (.slice D l cD)) 40 (0, 0)) ∧ V.heap[X]? = some (.cells (rsA 0 0 (.slice none 0 0)) 47 (0, 0)) ∧ SlRead V D (ints .u8 ys)) ?_ ?_
  · rw [hX]
    exact ⟨(HB2.out.trans (hb3.mono HB2.out.size)).trans ((below_alc w3 _).mono (Nat.le_trans HB2.out.size hb3.size)), heap_below (heap_below h_Q hb3) (below_alc w3 _), heap1_0 w3 _, (hD2.below hb3).below (below_alc w3 _)⟩
  rw [← hX]
  have hXQ : Q < X := by rw [hX]; exact Nat.lt_of_lt_of_le (lt_heap h_Q) hb3.size
  clear hX hb3 h_Q h_F hD2 HB2
  rintro w4 ⟨hb4, h_Q, h_X, hD4⟩
  have c0 := cell_heap h_Q (rq_c0 _ _ _ _ _)
  have hM := HY.out.2.2.2 w4 D cD hb4 hD4 hDn hcD
  clear hD4 hDn hcD
  go_upto_region 13 with (fail)
  refine wp_region_lit ?_
  try simp only [put_list, List.set_cons_zero, List.set_cons_succ]
  refine wpList_run (by kernel_rfl) (.pointer (some ⟨S, 0, none⟩)) (w4) (exec_move rfl (by kernel_rfl)) ?_
  try simp only [put_list, List.set_cons_zero, List.set_cons_succ]
  refine wpList_run (by kernel_rfl) (.pointer (some ⟨Q, 1, none⟩)) (w4) (exec_field (vx := .pointer (some ⟨Q, 0, none⟩)) rfl (by kernel_rfl) (by kernel_rfl)) ?_
  try simp only [put_list, List.set_cons_zero, List.set_cons_succ]
  refine wpList_run (by kernel_rfl) (.agg (arr8 32 f)) (w4) (exec_load (vx := .pointer (some ⟨Q, 1, none⟩)) rfl (by kernel_rfl) (load_rowQ w4 Q f (rq_blob h_Q))) ?_
  refine wpList_call (by kernel_rfl) 23 #[Go.Operand.tmp 50, Go.Operand.tmp 52] #[54, 37] #[.pointer (some ⟨S, 0, none⟩), .agg (arr8 32 f)] _ rfl (by kernel_rfl) (by kernel_rfl) (hM) ?_
  rintro r w5 ⟨rfl, hP5, hT5⟩
  refine ⟨_, rfl, ?_⟩
  try simp only [put_list, List.set_cons_zero, List.set_cons_succ]
  refine wpList_run (by kernel_rfl) (.int .i64 114) (w5) (exec_assign rfl (by kernel_rfl)) ?_
  refine wpList_nil ?_
  simp only [put_list, List.set_cons_zero, List.set_cons_succ]
  have h_X5 : w5.heap[X]? = some (.cells (rsA 0 0 (.slice none 0 0)) 47 (0, 0)) := (hT5.block X (lt_heap h_X) (fun y => by have := HY.out.2.2.1 X y; omega)).trans h_X
  have hTT := (Turn.of_below (F := F) hb4).trans hT5 (fun q hq => .inl hq)
  clear c0 h_Q h_X hb4 hT5
  have HZ := Lib.hid (And.intro hP5 hTT)
  clear hP5 hTT
  go_upto_region 25 with (fail)
  refine wp_region_lit ?_
  try simp only [put_list, List.set_cons_zero, List.set_cons_succ]
  refine wpList_run (by kernel_rfl) (.int .i64 114) (w5) (exec_move rfl (by kernel_rfl)) ?_
  refine wpList_call (by kernel_rfl) 50 #[Go.Operand.tmp 93] #[3] #[.int .i64 114] _ rfl (by kernel_rfl) (by kernel_rfl) (dcode_114 w5) ?_
  rintro r w8 ⟨rfl, hb8⟩
  refine ⟨_, rfl, ?_⟩
  try simp only [put_list, List.set_cons_zero, List.set_cons_succ]
  refine wpList_run (by kernel_rfl) (.pointer (some ⟨X, 0, none⟩)) (w8) (exec_field (vx := .pointer (some ⟨X, 0, none⟩)) rfl (by kernel_rfl) (by kernel_rfl)) ?_
  have h_X8 := heap_below h_X5 hb8
  refine wpList_skip rfl ((w8.setCell ⟨X, 0, none⟩ (.int .i64 14))) (exec_store (vx := .pointer (some ⟨X, 0, none⟩)) (vy := .int .i64 14) rfl (by kernel_rfl) (store_i64R X 0 _ w8 (cell_heap h_X8 (rs_c0 _ _ _)) (thaw_heap h_X8 _))) ?_
  refine wpList_nil ?_
  try simp only [put_list, put_none, List.set_cons_zero, List.set_cons_succ]
  have h_X9 : (w8.setCell ⟨X, 0, none⟩ (.int .i64 14)).heap[X]? = some (.cells (rsA 14 0 (.slice none 0 0)) 47 (0, 0)) := heap_setCell_same w8 X 0 _ _ _ h_X8
  have hT9 : Turn (· = X) w8 (w8.setCell ⟨X, 0, none⟩ (.int .i64 14)) := set_turnH w8 X 0 _
  go_upto_region 26 with (fail)
  obtain ⟨w9, hw9⟩ : ∃ W, W = w8.setCell ⟨X, 0, none⟩ (.int .i64 14) := ⟨_, rfl⟩
  rw [← hw9] at h_X9 hT9 ⊢
  clear hw9
  refine wp_region_lit ?_
  try simp only [put_list, List.set_cons_zero, List.set_cons_succ]
  refine wpList_run (by kernel_rfl) (.int .i64 0) (w9) (exec_move rfl (by kernel_rfl)) ?_
  try simp only [put_list, List.set_cons_zero, List.set_cons_succ]
  refine wpList_run (by kernel_rfl) (.int .u32 0) (w9) (exec_cvt (vx := .int .i64 0) rfl (by kernel_rfl) (by kernel_rfl)) ?_
  try simp only [put_list, List.set_cons_zero, List.set_cons_succ]
  refine wpList_run (by kernel_rfl) (.pointer (some ⟨X, 1, none⟩)) (w9) (exec_field (vx := .pointer (some ⟨X, 0, none⟩)) rfl (by kernel_rfl) (by kernel_rfl)) ?_
  refine wpList_skip rfl ((w9.setCell ⟨X, 1, none⟩ (.int .u32 0))) (exec_store (vx := .pointer (some ⟨X, 1, none⟩)) (vy := .int .u32 0) rfl (by kernel_rfl) (store_u32R X 1 _ w9 (cell_heap h_X9 (rs_c1 _ _ _)) (thaw_heap h_X9 _))) ?_
  refine wpList_nil ?_
  try simp only [put_list, put_none, List.set_cons_zero, List.set_cons_succ]
  have h_XA : (w9.setCell ⟨X, 1, none⟩ (.int .u32 0)).heap[X]? = some (.cells (rsA 14 0 (.slice none 0 0)) 47 (0, 0)) := heap_setCell_same w9 X 1 _ _ _ h_X9
  have hTA : Turn (· = X) w9 (w9.setCell ⟨X, 1, none⟩ (.int .u32 0)) := set_turnH w9 X 1 _
  go_upto_region 27 with (fail)
  obtain ⟨wA, hwA⟩ : ∃ W, W = w9.setCell ⟨X, 1, none⟩ (.int .u32 0) := ⟨_, rfl⟩
  rw [← hwA] at h_XA hTA ⊢
  clear hwA
  refine wp_region_lit ?_
  try simp only [put_list, List.set_cons_zero, List.set_cons_succ]
  refine wpList_run (by kernel_rfl) (.agg (rsA 14 0 (.slice none 0 0))) (wA) (exec_load (vx := .pointer (some ⟨X, 0, none⟩)) rfl (by kernel_rfl) (load_rsR X _ wA h_XA)) ?_
  refine wpList_call (by kernel_rfl) 49 #[Go.Operand.tmp 99] #[47] #[.agg (rsA 14 0 (.slice none 0 0))] _ rfl (by kernel_rfl) (by kernel_rfl) (drsp_wD 14 0 none [] 0 0 9 wA (by exact SlRead.nil_) rfl rfl (by omega)) ?_
  rintro r wB ⟨Bo, co, rfl, hBo, hco, hbB⟩
  refine ⟨_, rfl, ?_⟩
  try simp only [put_list, List.set_cons_zero, List.set_cons_succ]
  refine wpList_run (by kernel_rfl) (.slice Bo 9 co) (wB) (exec_assign rfl (by kernel_rfl)) ?_
  refine wpList_nil ?_
  simp only [put_list, List.set_cons_zero, List.set_cons_succ]
  go_wp2_with fail
  go_ret
  have hX0 : w.heap.size ≤ X := by omega
  have q1 := HY.out.1 _ _ HZ.out.1 hb8
  have q2 := HY.out.2.1 _ _ X _ q1 h_X8 hX0 hT9
  have q3 := HY.out.2.1 _ _ X _ q2 h_X9 hX0 hTA
  have q4 := HY.out.1 _ _ q3 hbB
  exact ⟨Bo, co, rfl, hBo, hco, q4, ((((HZ.out.2.trans (Turn.of_below (F := fun _ => False) hb8) (fun _ y => y.elim)).trans hT9 (fun q hq => .inr (by rw [show q = X from hq]; exact hX0))).trans hTA (fun q hq => .inr (by rw [show q = X from hq]; exact hX0))).trans (Turn.of_below (F := fun _ => False) hbB) (fun _ y => y.elim))⟩
set_option maxRecDepth 100000 in
set_option maxHeartbeats 3200000 in
theorem dserve_commit16 (S : Nat) (A : Option Addr) (f : Nat → BitVec 8) (off n : Int) (ys : List Int) (m l c : Nat) {w : World} {PM : World → Prop} {F : Nat → Prop} (hA : SlRead w A (ints .u8 (rqB 3 f off n ys))) (hm : 45 + ys.length = m) (hk : ys.length = l) (hmc : m ≤ c) (hy : Byts ys) (hl : l ≤ 200) (h1 : 0 ≤ off ∧ off < 4294967296) (h2 : 0 ≤ n ∧ n < 4294967296)
    (hPb : ∀ V V', PM V → Below V.heap.size V V' → PM V') (hPs : ∀ V V' g cs, PM V → V.heap[g]? = some (.cells cs 47 (0, 0)) → w.heap.size ≤ g → Turn (· = g) V V' → PM V') (hF : ∀ q, F q → q < w.heap.size)
    (HM : ∀ V D cD, Below w.heap.size w V → SlRead V D (ints .u8 ys) → (∀ x, D = some x → w.heap.size ≤ x.block) → l ≤ cD → Calls Tryd.prog 23 #[.pointer (some ⟨S, 0, none⟩), .agg (arr8 32 f)] V fun r V' => r = .returned (.int .i64 116) ∧ PM V' ∧ Turn F V V') :
    Calls Tryd.prog 26 #[.pointer (some ⟨S, 0, none⟩), .slice A m c] w fun r w' => ∃ B cb, r = .returned (.slice B 9 cb) ∧ SlRead w' B (ints .u8 (rsB 16 0 [])) ∧ 9 ≤ cb ∧ PM w' ∧ Turn F w w' := by
  have HRQ := Lib.hid (drq_yes A 3 f off n ys m l c w hA hm hk hy hl hmc (by omega) h1 h2)
  have HY := Lib.hid (And.intro hPb (And.intro hPs (And.intro hF HM)))
  clear hA hPb hPs HM hF hm hk hy
  go_enter Tryd.func26, Tryd.ntmps26
  go_upto_region 1 with (fail)
  refine wp_region_lit ?_
  try simp only [put_list, List.set_cons_zero, List.set_cons_succ]
  refine wpList_run (by kernel_rfl) (.slice A m c) (w) (exec_move rfl (by kernel_rfl)) ?_
  refine wpList_call (by kernel_rfl) 48 #[Go.Operand.tmp 12] #[25] #[.slice A m c] _ rfl (by kernel_rfl) (by kernel_rfl) (HRQ.out) ?_
  rintro r w1 ⟨D, cD, rfl, hD, hDn, hcD, hb1⟩
  refine ⟨_, rfl, ?_⟩
  try simp only [put_list, List.set_cons_zero, List.set_cons_succ]
  refine wpList_run (by kernel_rfl) (.tuple #[.agg (rqA 3 f off n (.slice D l cD)), .agg (frow 0 false 0)]) (w1) (exec_move rfl (by kernel_rfl)) ?_
  try simp only [put_list, List.set_cons_zero, List.set_cons_succ]
  refine wpList_run (by kernel_rfl) (.agg (rqA 3 f off n (.slice D l cD))) (w1) (exec_extract (vx := .tuple #[.agg (rqA 3 f off n (.slice D l cD)), .agg (frow 0 false 0)]) rfl (by kernel_rfl) (by kernel_rfl)) ?_
  try simp only [put_list, List.set_cons_zero, List.set_cons_succ]
  refine wpList_run (by kernel_rfl) (.agg (frow 0 false 0)) (w1) (exec_extract (vx := .tuple #[.agg (rqA 3 f off n (.slice D l cD)), .agg (frow 0 false 0)]) rfl (by kernel_rfl) (by kernel_rfl)) ?_
  try simp only [put_list, List.set_cons_zero, List.set_cons_succ]
  refine wpList_allocV (by kernel_rfl) 40 (by kernel_rfl) (rqA 0 zf 0 0 (.slice none 0 0)) (fun _ => by kernel_rfl) ?_
  try simp only [put_list, List.set_cons_zero, List.set_cons_succ]
  refine wpList_allocV (by kernel_rfl) 64 (by kernel_rfl) (frow 0 false 0) (fun _ => by kernel_rfl) ?_
  try simp only [put_list, List.set_cons_zero, List.set_cons_succ]
  rw [show (w1.alloc (.cells (rqA 0 zf 0 0 (.slice none 0 0)) 40)).heap.size = w1.heap.size + 1 by simp]
  refine wpList_store_row (by kernel_rfl) 40 (Go.Operand.tmp 5) (Go.Operand.tmp 14) (by kernel_rfl) w1.heap.size (rqA 3 f off n (.slice D l cD)) (by kernel_rfl) (by kernel_rfl) _ _ (heap2_0 _ _ _) (rq_info _ _ _ _ _) (rq_szs _ _ _ _ _ _ _ _ _ _) (rq_one _ _ _ _ _ _ _) ?_
  refine wpList_store_row (by kernel_rfl) 64 (Go.Operand.tmp 6) (Go.Operand.tmp 15) (by kernel_rfl) (w1.heap.size + 1) (frow 0 false 0) (by kernel_rfl) (by kernel_rfl) _ _ ((setRow_other _ _ _ _ (by omega)).trans (heap2_1 _ _ _)) (by kernel_rfl) rfl (by kernel_rfl) ?_
  refine wpList_nil ?_
  simp only [put_none]
  go_upto_region 2 with (fail)
  obtain ⟨Q, hQ⟩ : ∃ x, x = w1.heap.size := ⟨_, rfl⟩
  refine wp_world (fun V => Below w1.heap.size w1 V ∧ V.heap[Q]? = some (.cells (rqA 3 f off n (.slice D l cD)) 40 (0, 0)) ∧ V.heap[Q + 1]? = some (.cells (frow 0 false 0) 64 (0, 0))) ?_ ?_
  · rw [hQ]
    refine ⟨serve_two w1 _ _ _ _, ?_, ?_⟩
    · exact (setRow_other _ _ _ _ (by omega)).trans (setRow_heap _ _ _ _ _ _ (heap2_0 _ _ _))
    · exact setRow_heap _ _ _ _ _ _ ((setRow_other _ _ _ _ (by omega)).trans (heap2_1 _ _ _))
  rw [← hQ]
  have HQ := Lib.hid hQ
  rintro w2 ⟨hb2, h_Q, h_F⟩
  have HB2 : Hid (Below w.heap.size w w2) := Lib.hid (hb1.trans ((by rw [← hQ]; exact hb2 : Below w1.heap.size w1 w2).mono hb1.size))
  have hD2 := hD.below (by rw [← hQ]; exact hb2 : Below w1.heap.size w1 w2)
  have hQw : w.heap.size ≤ Q := by rw [hQ]; exact hb1.size
  clear hb2 hb1 hD hQ HRQ
  try simp only [put_none]
  go_upto_region 7 with (first | (refine wpList_load_row rfl 64 _ rfl (Q + 1) rfl _ _ _ _ h_F Tryd.underlying64 rfl (by kernel_rfl) ?_) | (go_at_call 28; refine (bad_no 0 false 0 w2 rfl).mono ?_; rintro r w3 ⟨rfl, hb3⟩))
  obtain ⟨X, hX⟩ : ∃ x, x = w3.heap.size := ⟨_, rfl⟩
  refine wp_world (fun V => Below w.heap.size w V ∧ V.heap[Q]? = some (.cells (rqA 3 f off n (.slice D l cD)) 40 (0, 0)) ∧ V.heap[X]? = some (.cells (rsA 0 0 (.slice none 0 0)) 47 (0, 0)) ∧ SlRead V D (ints .u8 ys)) ?_ ?_
  · rw [hX]
    exact ⟨(HB2.out.trans (hb3.mono HB2.out.size)).trans ((below_alc w3 _).mono (Nat.le_trans HB2.out.size hb3.size)), heap_below (heap_below h_Q hb3) (below_alc w3 _), heap1_0 w3 _, (hD2.below hb3).below (below_alc w3 _)⟩
  rw [← hX]
  have hXQ : Q < X := by rw [hX]; exact Nat.lt_of_lt_of_le (lt_heap h_Q) hb3.size
  clear hX hb3 h_Q h_F hD2 HB2
  rintro w4 ⟨hb4, h_Q, h_X, hD4⟩
  have c0 := cell_heap h_Q (rq_c0 _ _ _ _ _)
  have hM := HY.out.2.2.2 w4 D cD hb4 hD4 hDn hcD
  clear hD4 hDn hcD
  go_upto_region 13 with (fail)
  refine wp_region_lit ?_
  try simp only [put_list, List.set_cons_zero, List.set_cons_succ]
  refine wpList_run (by kernel_rfl) (.pointer (some ⟨S, 0, none⟩)) (w4) (exec_move rfl (by kernel_rfl)) ?_
  try simp only [put_list, List.set_cons_zero, List.set_cons_succ]
  refine wpList_run (by kernel_rfl) (.pointer (some ⟨Q, 1, none⟩)) (w4) (exec_field (vx := .pointer (some ⟨Q, 0, none⟩)) rfl (by kernel_rfl) (by kernel_rfl)) ?_
  try simp only [put_list, List.set_cons_zero, List.set_cons_succ]
  refine wpList_run (by kernel_rfl) (.agg (arr8 32 f)) (w4) (exec_load (vx := .pointer (some ⟨Q, 1, none⟩)) rfl (by kernel_rfl) (load_rowQ w4 Q f (rq_blob h_Q))) ?_
  refine wpList_call (by kernel_rfl) 23 #[Go.Operand.tmp 50, Go.Operand.tmp 52] #[54, 37] #[.pointer (some ⟨S, 0, none⟩), .agg (arr8 32 f)] _ rfl (by kernel_rfl) (by kernel_rfl) (hM) ?_
  rintro r w5 ⟨rfl, hP5, hT5⟩
  refine ⟨_, rfl, ?_⟩
  try simp only [put_list, List.set_cons_zero, List.set_cons_succ]
  refine wpList_run (by kernel_rfl) (.int .i64 116) (w5) (exec_assign rfl (by kernel_rfl)) ?_
  refine wpList_nil ?_
  simp only [put_list, List.set_cons_zero, List.set_cons_succ]
  have h_X5 : w5.heap[X]? = some (.cells (rsA 0 0 (.slice none 0 0)) 47 (0, 0)) := (hT5.block X (lt_heap h_X) (fun y => by have := HY.out.2.2.1 X y; omega)).trans h_X
  have hTT := (Turn.of_below (F := F) hb4).trans hT5 (fun q hq => .inl hq)
  clear c0 h_Q h_X hb4 hT5
  have HZ := Lib.hid (And.intro hP5 hTT)
  clear hP5 hTT
  go_upto_region 25 with (fail)
  refine wp_region_lit ?_
  try simp only [put_list, List.set_cons_zero, List.set_cons_succ]
  refine wpList_run (by kernel_rfl) (.int .i64 116) (w5) (exec_move rfl (by kernel_rfl)) ?_
  refine wpList_call (by kernel_rfl) 50 #[Go.Operand.tmp 93] #[3] #[.int .i64 116] _ rfl (by kernel_rfl) (by kernel_rfl) (dcode_116 w5) ?_
  rintro r w8 ⟨rfl, hb8⟩
  refine ⟨_, rfl, ?_⟩
  try simp only [put_list, List.set_cons_zero, List.set_cons_succ]
  refine wpList_run (by kernel_rfl) (.pointer (some ⟨X, 0, none⟩)) (w8) (exec_field (vx := .pointer (some ⟨X, 0, none⟩)) rfl (by kernel_rfl) (by kernel_rfl)) ?_
  have h_X8 := heap_below h_X5 hb8
  refine wpList_skip rfl ((w8.setCell ⟨X, 0, none⟩ (.int .i64 16))) (exec_store (vx := .pointer (some ⟨X, 0, none⟩)) (vy := .int .i64 16) rfl (by kernel_rfl) (store_i64R X 0 _ w8 (cell_heap h_X8 (rs_c0 _ _ _)) (thaw_heap h_X8 _))) ?_
  refine wpList_nil ?_
  try simp only [put_list, put_none, List.set_cons_zero, List.set_cons_succ]
  have h_X9 : (w8.setCell ⟨X, 0, none⟩ (.int .i64 16)).heap[X]? = some (.cells (rsA 16 0 (.slice none 0 0)) 47 (0, 0)) := heap_setCell_same w8 X 0 _ _ _ h_X8
  have hT9 : Turn (· = X) w8 (w8.setCell ⟨X, 0, none⟩ (.int .i64 16)) := set_turnH w8 X 0 _
  go_upto_region 26 with (fail)
  obtain ⟨w9, hw9⟩ : ∃ W, W = w8.setCell ⟨X, 0, none⟩ (.int .i64 16) := ⟨_, rfl⟩
  rw [← hw9] at h_X9 hT9 ⊢
  clear hw9
  refine wp_region_lit ?_
  try simp only [put_list, List.set_cons_zero, List.set_cons_succ]
  refine wpList_run (by kernel_rfl) (.int .i64 0) (w9) (exec_move rfl (by kernel_rfl)) ?_
  try simp only [put_list, List.set_cons_zero, List.set_cons_succ]
  refine wpList_run (by kernel_rfl) (.int .u32 0) (w9) (exec_cvt (vx := .int .i64 0) rfl (by kernel_rfl) (by kernel_rfl)) ?_
  try simp only [put_list, List.set_cons_zero, List.set_cons_succ]
  refine wpList_run (by kernel_rfl) (.pointer (some ⟨X, 1, none⟩)) (w9) (exec_field (vx := .pointer (some ⟨X, 0, none⟩)) rfl (by kernel_rfl) (by kernel_rfl)) ?_
  refine wpList_skip rfl ((w9.setCell ⟨X, 1, none⟩ (.int .u32 0))) (exec_store (vx := .pointer (some ⟨X, 1, none⟩)) (vy := .int .u32 0) rfl (by kernel_rfl) (store_u32R X 1 _ w9 (cell_heap h_X9 (rs_c1 _ _ _)) (thaw_heap h_X9 _))) ?_
  refine wpList_nil ?_
  try simp only [put_list, put_none, List.set_cons_zero, List.set_cons_succ]
  have h_XA : (w9.setCell ⟨X, 1, none⟩ (.int .u32 0)).heap[X]? = some (.cells (rsA 16 0 (.slice none 0 0)) 47 (0, 0)) := heap_setCell_same w9 X 1 _ _ _ h_X9
  have hTA : Turn (· = X) w9 (w9.setCell ⟨X, 1, none⟩ (.int .u32 0)) := set_turnH w9 X 1 _
  go_upto_region 27 with (fail)
  obtain ⟨wA, hwA⟩ : ∃ W, W = w9.setCell ⟨X, 1, none⟩ (.int .u32 0) := ⟨_, rfl⟩
  rw [← hwA] at h_XA hTA ⊢
  clear hwA
  refine wp_region_lit ?_
  try simp only [put_list, List.set_cons_zero, List.set_cons_succ]
  refine wpList_run (by kernel_rfl) (.agg (rsA 16 0 (.slice none 0 0))) (wA) (exec_load (vx := .pointer (some ⟨X, 0, none⟩)) rfl (by kernel_rfl) (load_rsR X _ wA h_XA)) ?_
  refine wpList_call (by kernel_rfl) 49 #[Go.Operand.tmp 99] #[47] #[.agg (rsA 16 0 (.slice none 0 0))] _ rfl (by kernel_rfl) (by kernel_rfl) (drsp_wD 16 0 none [] 0 0 9 wA (by exact SlRead.nil_) rfl rfl (by omega)) ?_
  rintro r wB ⟨Bo, co, rfl, hBo, hco, hbB⟩
  refine ⟨_, rfl, ?_⟩
  try simp only [put_list, List.set_cons_zero, List.set_cons_succ]
  refine wpList_run (by kernel_rfl) (.slice Bo 9 co) (wB) (exec_assign rfl (by kernel_rfl)) ?_
  refine wpList_nil ?_
  simp only [put_list, List.set_cons_zero, List.set_cons_succ]
  go_wp2_with fail
  go_ret
  have hX0 : w.heap.size ≤ X := by omega
  have q1 := HY.out.1 _ _ HZ.out.1 hb8
  have q2 := HY.out.2.1 _ _ X _ q1 h_X8 hX0 hT9
  have q3 := HY.out.2.1 _ _ X _ q2 h_X9 hX0 hTA
  have q4 := HY.out.1 _ _ q3 hbB
  exact ⟨Bo, co, rfl, hBo, hco, q4, ((((HZ.out.2.trans (Turn.of_below (F := fun _ => False) hb8) (fun _ y => y.elim)).trans hT9 (fun q hq => .inr (by rw [show q = X from hq]; exact hX0))).trans hTA (fun q hq => .inr (by rw [show q = X from hq]; exact hX0))).trans (Turn.of_below (F := fun _ => False) hbB) (fun _ y => y.elim))⟩
set_option maxRecDepth 100000 in
set_option maxHeartbeats 3200000 in
theorem dserve_delete0 (S : Nat) (A : Option Addr) (f : Nat → BitVec 8) (off n : Int) (ys : List Int) (m l c : Nat) {w : World} {PM : World → Prop} {F : Nat → Prop} (hA : SlRead w A (ints .u8 (rqB 6 f off n ys))) (hm : 45 + ys.length = m) (hk : ys.length = l) (hmc : m ≤ c) (hy : Byts ys) (hl : l ≤ 200) (h1 : 0 ≤ off ∧ off < 4294967296) (h2 : 0 ≤ n ∧ n < 4294967296)
    (hPb : ∀ V V', PM V → Below V.heap.size V V' → PM V') (hPs : ∀ V V' g cs, PM V → V.heap[g]? = some (.cells cs 47 (0, 0)) → w.heap.size ≤ g → Turn (· = g) V V' → PM V') (hF : ∀ q, F q → q < w.heap.size)
    (HM : ∀ V D cD, Below w.heap.size w V → SlRead V D (ints .u8 ys) → (∀ x, D = some x → w.heap.size ≤ x.block) → l ≤ cD → Calls Tryd.prog 19 #[.pointer (some ⟨S, 0, none⟩), .agg (arr8 32 f)] V fun r V' => r = .returned (.int .i64 0) ∧ PM V' ∧ Turn F V V') :
    Calls Tryd.prog 26 #[.pointer (some ⟨S, 0, none⟩), .slice A m c] w fun r w' => ∃ B cb, r = .returned (.slice B 9 cb) ∧ SlRead w' B (ints .u8 (rsB 0 0 [])) ∧ 9 ≤ cb ∧ PM w' ∧ Turn F w w' := by
  have HRQ := Lib.hid (drq_yes A 6 f off n ys m l c w hA hm hk hy hl hmc (by omega) h1 h2)
  have HY := Lib.hid (And.intro hPb (And.intro hPs (And.intro hF HM)))
  clear hA hPb hPs HM hF hm hk hy
  go_enter Tryd.func26, Tryd.ntmps26
  go_upto_region 1 with (fail)
  refine wp_region_lit ?_
  try simp only [put_list, List.set_cons_zero, List.set_cons_succ]
  refine wpList_run (by kernel_rfl) (.slice A m c) (w) (exec_move rfl (by kernel_rfl)) ?_
  refine wpList_call (by kernel_rfl) 48 #[Go.Operand.tmp 12] #[25] #[.slice A m c] _ rfl (by kernel_rfl) (by kernel_rfl) (HRQ.out) ?_
  rintro r w1 ⟨D, cD, rfl, hD, hDn, hcD, hb1⟩
  refine ⟨_, rfl, ?_⟩
  try simp only [put_list, List.set_cons_zero, List.set_cons_succ]
  refine wpList_run (by kernel_rfl) (.tuple #[.agg (rqA 6 f off n (.slice D l cD)), .agg (frow 0 false 0)]) (w1) (exec_move rfl (by kernel_rfl)) ?_
  try simp only [put_list, List.set_cons_zero, List.set_cons_succ]
  refine wpList_run (by kernel_rfl) (.agg (rqA 6 f off n (.slice D l cD))) (w1) (exec_extract (vx := .tuple #[.agg (rqA 6 f off n (.slice D l cD)), .agg (frow 0 false 0)]) rfl (by kernel_rfl) (by kernel_rfl)) ?_
  try simp only [put_list, List.set_cons_zero, List.set_cons_succ]
  refine wpList_run (by kernel_rfl) (.agg (frow 0 false 0)) (w1) (exec_extract (vx := .tuple #[.agg (rqA 6 f off n (.slice D l cD)), .agg (frow 0 false 0)]) rfl (by kernel_rfl) (by kernel_rfl)) ?_
  try simp only [put_list, List.set_cons_zero, List.set_cons_succ]
  refine wpList_allocV (by kernel_rfl) 40 (by kernel_rfl) (rqA 0 zf 0 0 (.slice none 0 0)) (fun _ => by kernel_rfl) ?_
  try simp only [put_list, List.set_cons_zero, List.set_cons_succ]
  refine wpList_allocV (by kernel_rfl) 64 (by kernel_rfl) (frow 0 false 0) (fun _ => by kernel_rfl) ?_
  try simp only [put_list, List.set_cons_zero, List.set_cons_succ]
  rw [show (w1.alloc (.cells (rqA 0 zf 0 0 (.slice none 0 0)) 40)).heap.size = w1.heap.size + 1 by simp]
  refine wpList_store_row (by kernel_rfl) 40 (Go.Operand.tmp 5) (Go.Operand.tmp 14) (by kernel_rfl) w1.heap.size (rqA 6 f off n (.slice D l cD)) (by kernel_rfl) (by kernel_rfl) _ _ (heap2_0 _ _ _) (rq_info _ _ _ _ _) (rq_szs _ _ _ _ _ _ _ _ _ _) (rq_one _ _ _ _ _ _ _) ?_
  refine wpList_store_row (by kernel_rfl) 64 (Go.Operand.tmp 6) (Go.Operand.tmp 15) (by kernel_rfl) (w1.heap.size + 1) (frow 0 false 0) (by kernel_rfl) (by kernel_rfl) _ _ ((setRow_other _ _ _ _ (by omega)).trans (heap2_1 _ _ _)) (by kernel_rfl) rfl (by kernel_rfl) ?_
  refine wpList_nil ?_
  simp only [put_none]
  go_upto_region 2 with (fail)
  obtain ⟨Q, hQ⟩ : ∃ x, x = w1.heap.size := ⟨_, rfl⟩
  refine wp_world (fun V => Below w1.heap.size w1 V ∧ V.heap[Q]? = some (.cells (rqA 6 f off n (.slice D l cD)) 40 (0, 0)) ∧ V.heap[Q + 1]? = some (.cells (frow 0 false 0) 64 (0, 0))) ?_ ?_
  · rw [hQ]
    refine ⟨serve_two w1 _ _ _ _, ?_, ?_⟩
    · exact (setRow_other _ _ _ _ (by omega)).trans (setRow_heap _ _ _ _ _ _ (heap2_0 _ _ _))
    · exact setRow_heap _ _ _ _ _ _ ((setRow_other _ _ _ _ (by omega)).trans (heap2_1 _ _ _))
  rw [← hQ]
  have HQ := Lib.hid hQ
  rintro w2 ⟨hb2, h_Q, h_F⟩
  have HB2 : Hid (Below w.heap.size w w2) := Lib.hid (hb1.trans ((by rw [← hQ]; exact hb2 : Below w1.heap.size w1 w2).mono hb1.size))
  have hD2 := hD.below (by rw [← hQ]; exact hb2 : Below w1.heap.size w1 w2)
  have hQw : w.heap.size ≤ Q := by rw [hQ]; exact hb1.size
  clear hb2 hb1 hD hQ HRQ
  try simp only [put_none]
  go_upto_region 7 with (first | (refine wpList_load_row rfl 64 _ rfl (Q + 1) rfl _ _ _ _ h_F Tryd.underlying64 rfl (by kernel_rfl) ?_) | (go_at_call 28; refine (bad_no 0 false 0 w2 rfl).mono ?_; rintro r w3 ⟨rfl, hb3⟩))
  obtain ⟨X, hX⟩ : ∃ x, x = w3.heap.size := ⟨_, rfl⟩
  refine wp_world (fun V => Below w.heap.size w V ∧ V.heap[Q]? = some (.cells (rqA 6 f off n (.slice D l cD)) 40 (0, 0)) ∧ V.heap[X]? = some (.cells (rsA 0 0 (.slice none 0 0)) 47 (0, 0)) ∧ SlRead V D (ints .u8 ys)) ?_ ?_
  · rw [hX]
    exact ⟨(HB2.out.trans (hb3.mono HB2.out.size)).trans ((below_alc w3 _).mono (Nat.le_trans HB2.out.size hb3.size)), heap_below (heap_below h_Q hb3) (below_alc w3 _), heap1_0 w3 _, (hD2.below hb3).below (below_alc w3 _)⟩
  rw [← hX]
  have hXQ : Q < X := by rw [hX]; exact Nat.lt_of_lt_of_le (lt_heap h_Q) hb3.size
  clear hX hb3 h_Q h_F hD2 HB2
  rintro w4 ⟨hb4, h_Q, h_X, hD4⟩
  have c0 := cell_heap h_Q (rq_c0 _ _ _ _ _)
  have hM := HY.out.2.2.2 w4 D cD hb4 hD4 hDn hcD
  clear hD4 hDn hcD
  go_upto_region 24 with (fail)
  refine wp_region_lit ?_
  try simp only [put_list, List.set_cons_zero, List.set_cons_succ]
  refine wpList_run (by kernel_rfl) (.pointer (some ⟨S, 0, none⟩)) (w4) (exec_move rfl (by kernel_rfl)) ?_
  try simp only [put_list, List.set_cons_zero, List.set_cons_succ]
  refine wpList_run (by kernel_rfl) (.pointer (some ⟨Q, 1, none⟩)) (w4) (exec_field (vx := .pointer (some ⟨Q, 0, none⟩)) rfl (by kernel_rfl) (by kernel_rfl)) ?_
  try simp only [put_list, List.set_cons_zero, List.set_cons_succ]
  refine wpList_run (by kernel_rfl) (.agg (arr8 32 f)) (w4) (exec_load (vx := .pointer (some ⟨Q, 1, none⟩)) rfl (by kernel_rfl) (load_rowQ w4 Q f (rq_blob h_Q))) ?_
  refine wpList_call (by kernel_rfl) 19 #[Go.Operand.tmp 89, Go.Operand.tmp 91] #[54, 37] #[.pointer (some ⟨S, 0, none⟩), .agg (arr8 32 f)] _ rfl (by kernel_rfl) (by kernel_rfl) (hM) ?_
  rintro r w5 ⟨rfl, hP5, hT5⟩
  refine ⟨_, rfl, ?_⟩
  try simp only [put_list, List.set_cons_zero, List.set_cons_succ]
  refine wpList_run (by kernel_rfl) (.int .i64 0) (w5) (exec_assign rfl (by kernel_rfl)) ?_
  refine wpList_nil ?_
  simp only [put_list, List.set_cons_zero, List.set_cons_succ]
  have h_X5 : w5.heap[X]? = some (.cells (rsA 0 0 (.slice none 0 0)) 47 (0, 0)) := (hT5.block X (lt_heap h_X) (fun y => by have := HY.out.2.2.1 X y; omega)).trans h_X
  have hTT := (Turn.of_below (F := F) hb4).trans hT5 (fun q hq => .inl hq)
  clear c0 h_Q h_X hb4 hT5
  have HZ := Lib.hid (And.intro hP5 hTT)
  clear hP5 hTT
  go_upto_region 25 with (fail)
  refine wp_region_lit ?_
  try simp only [put_list, List.set_cons_zero, List.set_cons_succ]
  refine wpList_run (by kernel_rfl) (.int .i64 0) (w5) (exec_move rfl (by kernel_rfl)) ?_
  refine wpList_call (by kernel_rfl) 50 #[Go.Operand.tmp 93] #[3] #[.int .i64 0] _ rfl (by kernel_rfl) (by kernel_rfl) (dcode_0 w5) ?_
  rintro r w8 ⟨rfl, hb8⟩
  refine ⟨_, rfl, ?_⟩
  try simp only [put_list, List.set_cons_zero, List.set_cons_succ]
  refine wpList_run (by kernel_rfl) (.pointer (some ⟨X, 0, none⟩)) (w8) (exec_field (vx := .pointer (some ⟨X, 0, none⟩)) rfl (by kernel_rfl) (by kernel_rfl)) ?_
  have h_X8 := heap_below h_X5 hb8
  refine wpList_skip rfl ((w8.setCell ⟨X, 0, none⟩ (.int .i64 0))) (exec_store (vx := .pointer (some ⟨X, 0, none⟩)) (vy := .int .i64 0) rfl (by kernel_rfl) (store_i64R X 0 _ w8 (cell_heap h_X8 (rs_c0 _ _ _)) (thaw_heap h_X8 _))) ?_
  refine wpList_nil ?_
  try simp only [put_list, put_none, List.set_cons_zero, List.set_cons_succ]
  have h_X9 : (w8.setCell ⟨X, 0, none⟩ (.int .i64 0)).heap[X]? = some (.cells (rsA 0 0 (.slice none 0 0)) 47 (0, 0)) := heap_setCell_same w8 X 0 _ _ _ h_X8
  have hT9 : Turn (· = X) w8 (w8.setCell ⟨X, 0, none⟩ (.int .i64 0)) := set_turnH w8 X 0 _
  go_upto_region 26 with (fail)
  obtain ⟨w9, hw9⟩ : ∃ W, W = w8.setCell ⟨X, 0, none⟩ (.int .i64 0) := ⟨_, rfl⟩
  rw [← hw9] at h_X9 hT9 ⊢
  clear hw9
  refine wp_region_lit ?_
  try simp only [put_list, List.set_cons_zero, List.set_cons_succ]
  refine wpList_run (by kernel_rfl) (.int .i64 0) (w9) (exec_move rfl (by kernel_rfl)) ?_
  try simp only [put_list, List.set_cons_zero, List.set_cons_succ]
  refine wpList_run (by kernel_rfl) (.int .u32 0) (w9) (exec_cvt (vx := .int .i64 0) rfl (by kernel_rfl) (by kernel_rfl)) ?_
  try simp only [put_list, List.set_cons_zero, List.set_cons_succ]
  refine wpList_run (by kernel_rfl) (.pointer (some ⟨X, 1, none⟩)) (w9) (exec_field (vx := .pointer (some ⟨X, 0, none⟩)) rfl (by kernel_rfl) (by kernel_rfl)) ?_
  refine wpList_skip rfl ((w9.setCell ⟨X, 1, none⟩ (.int .u32 0))) (exec_store (vx := .pointer (some ⟨X, 1, none⟩)) (vy := .int .u32 0) rfl (by kernel_rfl) (store_u32R X 1 _ w9 (cell_heap h_X9 (rs_c1 _ _ _)) (thaw_heap h_X9 _))) ?_
  refine wpList_nil ?_
  try simp only [put_list, put_none, List.set_cons_zero, List.set_cons_succ]
  have h_XA : (w9.setCell ⟨X, 1, none⟩ (.int .u32 0)).heap[X]? = some (.cells (rsA 0 0 (.slice none 0 0)) 47 (0, 0)) := heap_setCell_same w9 X 1 _ _ _ h_X9
  have hTA : Turn (· = X) w9 (w9.setCell ⟨X, 1, none⟩ (.int .u32 0)) := set_turnH w9 X 1 _
  go_upto_region 27 with (fail)
  obtain ⟨wA, hwA⟩ : ∃ W, W = w9.setCell ⟨X, 1, none⟩ (.int .u32 0) := ⟨_, rfl⟩
  rw [← hwA] at h_XA hTA ⊢
  clear hwA
  refine wp_region_lit ?_
  try simp only [put_list, List.set_cons_zero, List.set_cons_succ]
  refine wpList_run (by kernel_rfl) (.agg (rsA 0 0 (.slice none 0 0))) (wA) (exec_load (vx := .pointer (some ⟨X, 0, none⟩)) rfl (by kernel_rfl) (load_rsR X _ wA h_XA)) ?_
  refine wpList_call (by kernel_rfl) 49 #[Go.Operand.tmp 99] #[47] #[.agg (rsA 0 0 (.slice none 0 0))] _ rfl (by kernel_rfl) (by kernel_rfl) (drsp_wD 0 0 none [] 0 0 9 wA (by exact SlRead.nil_) rfl rfl (by omega)) ?_
  rintro r wB ⟨Bo, co, rfl, hBo, hco, hbB⟩
  refine ⟨_, rfl, ?_⟩
  try simp only [put_list, List.set_cons_zero, List.set_cons_succ]
  refine wpList_run (by kernel_rfl) (.slice Bo 9 co) (wB) (exec_assign rfl (by kernel_rfl)) ?_
  refine wpList_nil ?_
  simp only [put_list, List.set_cons_zero, List.set_cons_succ]
  go_wp2_with fail
  go_ret
  have hX0 : w.heap.size ≤ X := by omega
  have q1 := HY.out.1 _ _ HZ.out.1 hb8
  have q2 := HY.out.2.1 _ _ X _ q1 h_X8 hX0 hT9
  have q3 := HY.out.2.1 _ _ X _ q2 h_X9 hX0 hTA
  have q4 := HY.out.1 _ _ q3 hbB
  exact ⟨Bo, co, rfl, hBo, hco, q4, ((((HZ.out.2.trans (Turn.of_below (F := fun _ => False) hb8) (fun _ y => y.elim)).trans hT9 (fun q hq => .inr (by rw [show q = X from hq]; exact hX0))).trans hTA (fun q hq => .inr (by rw [show q = X from hq]; exact hX0))).trans (Turn.of_below (F := fun _ => False) hbB) (fun _ y => y.elim))⟩
set_option maxRecDepth 100000 in
set_option maxHeartbeats 3200000 in
theorem dserve_delete14 (S : Nat) (A : Option Addr) (f : Nat → BitVec 8) (off n : Int) (ys : List Int) (m l c : Nat) {w : World} {PM : World → Prop} {F : Nat → Prop} (hA : SlRead w A (ints .u8 (rqB 6 f off n ys))) (hm : 45 + ys.length = m) (hk : ys.length = l) (hmc : m ≤ c) (hy : Byts ys) (hl : l ≤ 200) (h1 : 0 ≤ off ∧ off < 4294967296) (h2 : 0 ≤ n ∧ n < 4294967296)
    (hPb : ∀ V V', PM V → Below V.heap.size V V' → PM V') (hPs : ∀ V V' g cs, PM V → V.heap[g]? = some (.cells cs 47 (0, 0)) → w.heap.size ≤ g → Turn (· = g) V V' → PM V') (hF : ∀ q, F q → q < w.heap.size)
    (HM : ∀ V D cD, Below w.heap.size w V → SlRead V D (ints .u8 ys) → (∀ x, D = some x → w.heap.size ≤ x.block) → l ≤ cD → Calls Tryd.prog 19 #[.pointer (some ⟨S, 0, none⟩), .agg (arr8 32 f)] V fun r V' => r = .returned (.int .i64 114) ∧ PM V' ∧ Turn F V V') :
    Calls Tryd.prog 26 #[.pointer (some ⟨S, 0, none⟩), .slice A m c] w fun r w' => ∃ B cb, r = .returned (.slice B 9 cb) ∧ SlRead w' B (ints .u8 (rsB 14 0 [])) ∧ 9 ≤ cb ∧ PM w' ∧ Turn F w w' := by
  have HRQ := Lib.hid (drq_yes A 6 f off n ys m l c w hA hm hk hy hl hmc (by omega) h1 h2)
  have HY := Lib.hid (And.intro hPb (And.intro hPs (And.intro hF HM)))
  clear hA hPb hPs HM hF hm hk hy
  go_enter Tryd.func26, Tryd.ntmps26
  go_upto_region 1 with (fail)
  refine wp_region_lit ?_
  try simp only [put_list, List.set_cons_zero, List.set_cons_succ]
  refine wpList_run (by kernel_rfl) (.slice A m c) (w) (exec_move rfl (by kernel_rfl)) ?_
  refine wpList_call (by kernel_rfl) 48 #[Go.Operand.tmp 12] #[25] #[.slice A m c] _ rfl (by kernel_rfl) (by kernel_rfl) (HRQ.out) ?_
  rintro r w1 ⟨D, cD, rfl, hD, hDn, hcD, hb1⟩
  refine ⟨_, rfl, ?_⟩
  try simp only [put_list, List.set_cons_zero, List.set_cons_succ]
  refine wpList_run (by kernel_rfl) (.tuple #[.agg (rqA 6 f off n (.slice D l cD)), .agg (frow 0 false 0)]) (w1) (exec_move rfl (by kernel_rfl)) ?_
  try simp only [put_list, List.set_cons_zero, List.set_cons_succ]
  refine wpList_run (by kernel_rfl) (.agg (rqA 6 f off n (.slice D l cD))) (w1) (exec_extract (vx := .tuple #[.agg (rqA 6 f off n (.slice D l cD)), .agg (frow 0 false 0)]) rfl (by kernel_rfl) (by kernel_rfl)) ?_
  try simp only [put_list, List.set_cons_zero, List.set_cons_succ]
  refine wpList_run (by kernel_rfl) (.agg (frow 0 false 0)) (w1) (exec_extract (vx := .tuple #[.agg (rqA 6 f off n (.slice D l cD)), .agg (frow 0 false 0)]) rfl (by kernel_rfl) (by kernel_rfl)) ?_
  try simp only [put_list, List.set_cons_zero, List.set_cons_succ]
  refine wpList_allocV (by kernel_rfl) 40 (by kernel_rfl) (rqA 0 zf 0 0 (.slice none 0 0)) (fun _ => by kernel_rfl) ?_
  try simp only [put_list, List.set_cons_zero, List.set_cons_succ]
  refine wpList_allocV (by kernel_rfl) 64 (by kernel_rfl) (frow 0 false 0) (fun _ => by kernel_rfl) ?_
  try simp only [put_list, List.set_cons_zero, List.set_cons_succ]
  rw [show (w1.alloc (.cells (rqA 0 zf 0 0 (.slice none 0 0)) 40)).heap.size = w1.heap.size + 1 by simp]
  refine wpList_store_row (by kernel_rfl) 40 (Go.Operand.tmp 5) (Go.Operand.tmp 14) (by kernel_rfl) w1.heap.size (rqA 6 f off n (.slice D l cD)) (by kernel_rfl) (by kernel_rfl) _ _ (heap2_0 _ _ _) (rq_info _ _ _ _ _) (rq_szs _ _ _ _ _ _ _ _ _ _) (rq_one _ _ _ _ _ _ _) ?_
  refine wpList_store_row (by kernel_rfl) 64 (Go.Operand.tmp 6) (Go.Operand.tmp 15) (by kernel_rfl) (w1.heap.size + 1) (frow 0 false 0) (by kernel_rfl) (by kernel_rfl) _ _ ((setRow_other _ _ _ _ (by omega)).trans (heap2_1 _ _ _)) (by kernel_rfl) rfl (by kernel_rfl) ?_
  refine wpList_nil ?_
  simp only [put_none]
  go_upto_region 2 with (fail)
  obtain ⟨Q, hQ⟩ : ∃ x, x = w1.heap.size := ⟨_, rfl⟩
  refine wp_world (fun V => Below w1.heap.size w1 V ∧ V.heap[Q]? = some (.cells (rqA 6 f off n (.slice D l cD)) 40 (0, 0)) ∧ V.heap[Q + 1]? = some (.cells (frow 0 false 0) 64 (0, 0))) ?_ ?_
  · rw [hQ]
    refine ⟨serve_two w1 _ _ _ _, ?_, ?_⟩
    · exact (setRow_other _ _ _ _ (by omega)).trans (setRow_heap _ _ _ _ _ _ (heap2_0 _ _ _))
    · exact setRow_heap _ _ _ _ _ _ ((setRow_other _ _ _ _ (by omega)).trans (heap2_1 _ _ _))
  rw [← hQ]
  have HQ := Lib.hid hQ
  rintro w2 ⟨hb2, h_Q, h_F⟩
  have HB2 : Hid (Below w.heap.size w w2) := Lib.hid (hb1.trans ((by rw [← hQ]; exact hb2 : Below w1.heap.size w1 w2).mono hb1.size))
  have hD2 := hD.below (by rw [← hQ]; exact hb2 : Below w1.heap.size w1 w2)
  have hQw : w.heap.size ≤ Q := by rw [hQ]; exact hb1.size
  clear hb2 hb1 hD hQ HRQ
  try simp only [put_none]
  go_upto_region 7 with (first | (refine wpList_load_row rfl 64 _ rfl (Q + 1) rfl _ _ _ _ h_F Tryd.underlying64 rfl (by kernel_rfl) ?_) | (go_at_call 28; refine (bad_no 0 false 0 w2 rfl).mono ?_; rintro r w3 ⟨rfl, hb3⟩))
  obtain ⟨X, hX⟩ : ∃ x, x = w3.heap.size := ⟨_, rfl⟩
  refine wp_world (fun V => Below w.heap.size w V ∧ V.heap[Q]? = some (.cells (rqA 6 f off n (.slice D l cD)) 40 (0, 0)) ∧ V.heap[X]? = some (.cells (rsA 0 0 (.slice none 0 0)) 47 (0, 0)) ∧ SlRead V D (ints .u8 ys)) ?_ ?_
  · rw [hX]
    exact ⟨(HB2.out.trans (hb3.mono HB2.out.size)).trans ((below_alc w3 _).mono (Nat.le_trans HB2.out.size hb3.size)), heap_below (heap_below h_Q hb3) (below_alc w3 _), heap1_0 w3 _, (hD2.below hb3).below (below_alc w3 _)⟩
  rw [← hX]
  have hXQ : Q < X := by rw [hX]; exact Nat.lt_of_lt_of_le (lt_heap h_Q) hb3.size
  clear hX hb3 h_Q h_F hD2 HB2
  rintro w4 ⟨hb4, h_Q, h_X, hD4⟩
  have c0 := cell_heap h_Q (rq_c0 _ _ _ _ _)
  have hM := HY.out.2.2.2 w4 D cD hb4 hD4 hDn hcD
  clear hD4 hDn hcD
  go_upto_region 24 with (fail)
  refine wp_region_lit ?_
  try simp only [put_list, List.set_cons_zero, List.set_cons_succ]
  refine wpList_run (by kernel_rfl) (.pointer (some ⟨S, 0, none⟩)) (w4) (exec_move rfl (by kernel_rfl)) ?_
  try simp only [put_list, List.set_cons_zero, List.set_cons_succ]
  refine wpList_run (by kernel_rfl) (.pointer (some ⟨Q, 1, none⟩)) (w4) (exec_field (vx := .pointer (some ⟨Q, 0, none⟩)) rfl (by kernel_rfl) (by kernel_rfl)) ?_
  try simp only [put_list, List.set_cons_zero, List.set_cons_succ]
  refine wpList_run (by kernel_rfl) (.agg (arr8 32 f)) (w4) (exec_load (vx := .pointer (some ⟨Q, 1, none⟩)) rfl (by kernel_rfl) (load_rowQ w4 Q f (rq_blob h_Q))) ?_
  refine wpList_call (by kernel_rfl) 19 #[Go.Operand.tmp 89, Go.Operand.tmp 91] #[54, 37] #[.pointer (some ⟨S, 0, none⟩), .agg (arr8 32 f)] _ rfl (by kernel_rfl) (by kernel_rfl) (hM) ?_
  rintro r w5 ⟨rfl, hP5, hT5⟩
  refine ⟨_, rfl, ?_⟩
  try simp only [put_list, List.set_cons_zero, List.set_cons_succ]
  refine wpList_run (by kernel_rfl) (.int .i64 114) (w5) (exec_assign rfl (by kernel_rfl)) ?_
  refine wpList_nil ?_
  simp only [put_list, List.set_cons_zero, List.set_cons_succ]
  have h_X5 : w5.heap[X]? = some (.cells (rsA 0 0 (.slice none 0 0)) 47 (0, 0)) := (hT5.block X (lt_heap h_X) (fun y => by have := HY.out.2.2.1 X y; omega)).trans h_X
  have hTT := (Turn.of_below (F := F) hb4).trans hT5 (fun q hq => .inl hq)
  clear c0 h_Q h_X hb4 hT5
  have HZ := Lib.hid (And.intro hP5 hTT)
  clear hP5 hTT
  go_upto_region 25 with (fail)
  refine wp_region_lit ?_
  try simp only [put_list, List.set_cons_zero, List.set_cons_succ]
  refine wpList_run (by kernel_rfl) (.int .i64 114) (w5) (exec_move rfl (by kernel_rfl)) ?_
  refine wpList_call (by kernel_rfl) 50 #[Go.Operand.tmp 93] #[3] #[.int .i64 114] _ rfl (by kernel_rfl) (by kernel_rfl) (dcode_114 w5) ?_
  rintro r w8 ⟨rfl, hb8⟩
  refine ⟨_, rfl, ?_⟩
  try simp only [put_list, List.set_cons_zero, List.set_cons_succ]
  refine wpList_run (by kernel_rfl) (.pointer (some ⟨X, 0, none⟩)) (w8) (exec_field (vx := .pointer (some ⟨X, 0, none⟩)) rfl (by kernel_rfl) (by kernel_rfl)) ?_
  have h_X8 := heap_below h_X5 hb8
  refine wpList_skip rfl ((w8.setCell ⟨X, 0, none⟩ (.int .i64 14))) (exec_store (vx := .pointer (some ⟨X, 0, none⟩)) (vy := .int .i64 14) rfl (by kernel_rfl) (store_i64R X 0 _ w8 (cell_heap h_X8 (rs_c0 _ _ _)) (thaw_heap h_X8 _))) ?_
  refine wpList_nil ?_
  try simp only [put_list, put_none, List.set_cons_zero, List.set_cons_succ]
  have h_X9 : (w8.setCell ⟨X, 0, none⟩ (.int .i64 14)).heap[X]? = some (.cells (rsA 14 0 (.slice none 0 0)) 47 (0, 0)) := heap_setCell_same w8 X 0 _ _ _ h_X8
  have hT9 : Turn (· = X) w8 (w8.setCell ⟨X, 0, none⟩ (.int .i64 14)) := set_turnH w8 X 0 _
  go_upto_region 26 with (fail)
  obtain ⟨w9, hw9⟩ : ∃ W, W = w8.setCell ⟨X, 0, none⟩ (.int .i64 14) := ⟨_, rfl⟩
  rw [← hw9] at h_X9 hT9 ⊢
  clear hw9
  refine wp_region_lit ?_
  try simp only [put_list, List.set_cons_zero, List.set_cons_succ]
  refine wpList_run (by kernel_rfl) (.int .i64 0) (w9) (exec_move rfl (by kernel_rfl)) ?_
  try simp only [put_list, List.set_cons_zero, List.set_cons_succ]
  refine wpList_run (by kernel_rfl) (.int .u32 0) (w9) (exec_cvt (vx := .int .i64 0) rfl (by kernel_rfl) (by kernel_rfl)) ?_
  try simp only [put_list, List.set_cons_zero, List.set_cons_succ]
  refine wpList_run (by kernel_rfl) (.pointer (some ⟨X, 1, none⟩)) (w9) (exec_field (vx := .pointer (some ⟨X, 0, none⟩)) rfl (by kernel_rfl) (by kernel_rfl)) ?_
  refine wpList_skip rfl ((w9.setCell ⟨X, 1, none⟩ (.int .u32 0))) (exec_store (vx := .pointer (some ⟨X, 1, none⟩)) (vy := .int .u32 0) rfl (by kernel_rfl) (store_u32R X 1 _ w9 (cell_heap h_X9 (rs_c1 _ _ _)) (thaw_heap h_X9 _))) ?_
  refine wpList_nil ?_
  try simp only [put_list, put_none, List.set_cons_zero, List.set_cons_succ]
  have h_XA : (w9.setCell ⟨X, 1, none⟩ (.int .u32 0)).heap[X]? = some (.cells (rsA 14 0 (.slice none 0 0)) 47 (0, 0)) := heap_setCell_same w9 X 1 _ _ _ h_X9
  have hTA : Turn (· = X) w9 (w9.setCell ⟨X, 1, none⟩ (.int .u32 0)) := set_turnH w9 X 1 _
  go_upto_region 27 with (fail)
  obtain ⟨wA, hwA⟩ : ∃ W, W = w9.setCell ⟨X, 1, none⟩ (.int .u32 0) := ⟨_, rfl⟩
  rw [← hwA] at h_XA hTA ⊢
  clear hwA
  refine wp_region_lit ?_
  try simp only [put_list, List.set_cons_zero, List.set_cons_succ]
  refine wpList_run (by kernel_rfl) (.agg (rsA 14 0 (.slice none 0 0))) (wA) (exec_load (vx := .pointer (some ⟨X, 0, none⟩)) rfl (by kernel_rfl) (load_rsR X _ wA h_XA)) ?_
  refine wpList_call (by kernel_rfl) 49 #[Go.Operand.tmp 99] #[47] #[.agg (rsA 14 0 (.slice none 0 0))] _ rfl (by kernel_rfl) (by kernel_rfl) (drsp_wD 14 0 none [] 0 0 9 wA (by exact SlRead.nil_) rfl rfl (by omega)) ?_
  rintro r wB ⟨Bo, co, rfl, hBo, hco, hbB⟩
  refine ⟨_, rfl, ?_⟩
  try simp only [put_list, List.set_cons_zero, List.set_cons_succ]
  refine wpList_run (by kernel_rfl) (.slice Bo 9 co) (wB) (exec_assign rfl (by kernel_rfl)) ?_
  refine wpList_nil ?_
  simp only [put_list, List.set_cons_zero, List.set_cons_succ]
  go_wp2_with fail
  go_ret
  have hX0 : w.heap.size ≤ X := by omega
  have q1 := HY.out.1 _ _ HZ.out.1 hb8
  have q2 := HY.out.2.1 _ _ X _ q1 h_X8 hX0 hT9
  have q3 := HY.out.2.1 _ _ X _ q2 h_X9 hX0 hTA
  have q4 := HY.out.1 _ _ q3 hbB
  exact ⟨Bo, co, rfl, hBo, hco, q4, ((((HZ.out.2.trans (Turn.of_below (F := fun _ => False) hb8) (fun _ y => y.elim)).trans hT9 (fun q hq => .inr (by rw [show q = X from hq]; exact hX0))).trans hTA (fun q hq => .inr (by rw [show q = X from hq]; exact hX0))).trans (Turn.of_below (F := fun _ => False) hbB) (fun _ y => y.elim))⟩
end Go.Proofs.YtffkjbbhbpaacaaDoor
