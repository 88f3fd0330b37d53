import Derived.Test.YtegijahkiopncaaDoorBlu
import Derived.Test.YtegijahkiopncaaDoorNum
/-
  courierlaw20: BlobSpoils.
-/
namespace Go.Proofs.YtegijahkiopncaaDoor
open Go.RowKit
theorem is_kid {e : Be} {k : Nat → BitVec 8} (h : e.f = k) : Be.is k e = true := by
  unfold Be.is
  rw [h]
  simp
theorem over_nil (l : List Int) : over [] 0 l = l := by simp [over]
theorem stF_one {S : Nat} {V : Value} {e : Be} {x : Nat} (h : stF S V [e] x) : x = S ∨ V.ownBlock = some x ∨ x = e.g ∨ e.D.ownBlock = some x := by
  rcases h with h | h | ⟨j, y, hy, h⟩
  · exact .inl h
  · exact .inr (.inl h)
  · rcases j with _ | j
    · obtain rfl := Option.some.inj hy
      exact .inr (.inr h)
    · simp at hy
theorem SlRead.turned {W W' : World} {bb o : Nat} {xs : List Value} {G : Nat → Prop} (h : SlRead W (some ⟨bb, o, none⟩) xs) (ht : Turn G W W') (hn : ¬ G bb) : SlRead W' (some ⟨bb, o, none⟩) xs := fun hp => by
  obtain ⟨b', o', e1, hlt, hc⟩ := h hp
  simp only [Option.some.injEq, Addr.mk.injEq, and_true] at e1
  obtain ⟨rfl, rfl⟩ := e1
  exact ⟨bb, o, rfl, Nat.lt_of_lt_of_le hlt ht.size, fun j u hu => (ht.cell hlt hn).trans (hc j u hu)⟩
theorem SlRead.set {W : World} {bb k : Nat} {xs : List Int} {z : Int} (h : SlRead W (some ⟨bb, 0, none⟩) (ints .u8 xs)) (hk : k < xs.length) : SlRead (W.setCell ⟨bb, k, none⟩ (.int .u8 z)) (some ⟨bb, 0, none⟩) (ints .u8 (xs.set k z)) := fun hp => by
  obtain ⟨b', o', e1, hlt, hc⟩ := h (by simp [ints]; omega)
  simp only [Option.some.injEq, Addr.mk.injEq, and_true] at e1
  obtain ⟨rfl, rfl⟩ := e1
  refine ⟨bb, 0, rfl, by have := (set_turnH W bb k (.int .u8 z)).size; omega, fun j u hu => ?_⟩
  rw [Nat.zero_add]
  have hck := hc k (.int .u8 xs[k]) (by simp [ints, hk])
  rw [Nat.zero_add] at hck
  have e2 : ints .u8 (xs.set k z) = (ints .u8 xs).set k (.int .u8 z) := by simp [ints, List.map_set]
  rw [e2, List.getElem?_set] at hu
  by_cases hj : k = j
  · subst hj
    rw [if_pos rfl, if_pos (by simpa [ints] using hk)] at hu
    obtain rfl := Option.some.inj hu
    exact World.cell?_setCell_same W _ _ hck
  · rw [if_neg hj] at hu
    have := hc j u hu
    rw [Nat.zero_add] at this
    exact (W.cell?_setCell_other ⟨bb, k, none⟩ ⟨bb, j, none⟩ _ (fun y => hj (congrArg Addr.off y))).trans this
theorem slice_hi {P : Program} {t e : TypeId} (hu : P.underlying t = some (.slice e)) (hs : (P.info? e).map (·.size) = some 1) (A : Option Addr) (n cap m : Nat) (hm : m ≤ cap) (w : World) :
    (Instr.slice t (.slice A n cap) none (some (.int .i64 (m : Int))) none).run P w = .ok (.slice A m cap) w := by
  have e2 : P.elem t = e := by simp [Program.elem, hu]
  rw [run_slice_h (P := P) w t A n cap (by rw [e2]; exact hu) .i64 (m : Int) (by omega) (by omega), e2]
  obtain ⟨i, hi, hz⟩ := Option.map_eq_some_iff.1 hs
  simp [sizeOf, typeInfo, hi, hz, Result.andThen, sliced]
  intro _
  cases A with
  | none => rfl
  | some ad => simp [Addr.add]
set_option maxRecDepth 100000 in
set_option maxHeartbeats 4000000 in
theorem spoils_walk (E : Nat → Addr) (a at' : Int) (behind : Bool) (w : World) (hE : ErrsAt E w) (hK : KAt w) : Calls Tryd.prog 5 #[.int .i64 a, .int .i64 at', .bool behind] w fun e w' => e = .returned (.bool true) ∧ Below w.heap.size w w' := by
  have hfi := first_b E w hE
  obtain ⟨aa, haa, ha6⟩ := exists_mod a 6 (by omega)
  have hnu := fun W => number_nat a 6 aa W (by omega) haa
  obtain ⟨n, hn⟩ : ∃ n, n = 20 + 40 * aa := ⟨_, rfl⟩
  obtain ⟨ys, hys⟩ : ∃ x, x = ysOf aa := ⟨_, rfl⟩
  obtain ⟨kid, hkid⟩ : ∃ x, x = shaOf ys := ⟨_, rfl⟩
  have hct := Lib.hid (fun W => content_any aa (by omega) W)
  rw [← hys, ← hkid, ← hn] at hct
  have HN : Hid (20 ≤ n ∧ n ≤ 300 ∧ ys.length = n ∧ kid = shaOf ys) := ⟨by omega, by omega, by rw [hys, ysOf_len, hn], hkid⟩
  obtain ⟨za, hza⟩ : ∃ z, z = a := ⟨_, rfl⟩
  rw [← hza] at hnu ⊢
  have HE := Lib.hid (And.intro hE hK)
  clear hE hK hn hys hkid haa ha6 hza
  go_enter Tryd.func5, Tryd.ntmps5
  go_upto_region 4 with (go_at_call 8; refine hfi.mono ?_; rintro e w1 ⟨rfl, hb1⟩; have HB1 := Lib.hid hb1; clear hb1 hfi)
  refine wp_region_lit ?_
  try simp only [put_list, List.set_cons_zero, List.set_cons_succ]
  refine wpList_run (by kernel_rfl) (.int .i64 za) (w1) (exec_move rfl (by kernel_rfl)) ?_
  refine wpList_call (by kernel_rfl) 10 #[Go.Operand.tmp 24, Go.Operand.const (Go.Value.int Go.IntKind.i64 6)] #[3, 3] #[.int .i64 za, Go.Value.int Go.IntKind.i64 6] _ rfl (by kernel_rfl) (by kernel_rfl) (hnu w1) ?_
  rintro r Y ⟨rfl, q1, rfl⟩
  refine ⟨_, rfl, ?_⟩
  refine wpList_call (by kernel_rfl) 9 #[Go.Operand.tmp 25] #[3] #[.int .i64 (aa : Int)] _ rfl (by kernel_rfl) (by kernel_rfl) (hct.out (w1.drewN q1)) ?_
  rintro r w2 ⟨A, c, rfl, hown, hb2⟩
  refine ⟨_, rfl, ?_⟩
  try simp only [put_list, List.set_cons_zero, List.set_cons_succ]
  refine wpList_run (by kernel_rfl) (.tuple #[.slice A n c, .agg (arr8 32 kid)]) (w2) (exec_move rfl (by kernel_rfl)) ?_
  try simp only [put_list, List.set_cons_zero, List.set_cons_succ]
  refine wpList_run (by kernel_rfl) (.slice A n c) (w2) (exec_extract (vx := .tuple #[.slice A n c, .agg (arr8 32 kid)]) rfl (by kernel_rfl) (by kernel_rfl)) ?_
  try simp only [put_list, List.set_cons_zero, List.set_cons_succ]
  refine wpList_run (by kernel_rfl) (.agg (arr8 32 kid)) (w2) (exec_extract (vx := .tuple #[.slice A n c, .agg (arr8 32 kid)]) rfl (by kernel_rfl) (by kernel_rfl)) ?_
  try simp only [put_list, List.set_cons_zero, List.set_cons_succ]
  refine wpList_allocV (by kernel_rfl) 26 (by kernel_rfl) (arr8 32 k0) (fun _ => by kernel_rfl) ?_
  try simp only [put_list, List.set_cons_zero, List.set_cons_succ]
  refine wpList_run (by kernel_rfl) (.slice A n c) ((w2.alloc (.cells (arr8 32 k0) 26))) (exec_assign rfl (by kernel_rfl)) ?_
  try simp only [put_list, List.set_cons_zero, List.set_cons_succ]
  refine wpList_store_row (by kernel_rfl) 26 (Go.Operand.tmp 9) (Go.Operand.tmp 28) (by kernel_rfl) w2.heap.size (arr8 32 kid) (by kernel_rfl) (by kernel_rfl) _ _ (heap_alloc_new _ _) (by rw [arr8_size]; kernel_rfl) (by rw [arr8_size, arr8_size]) arr8_all ?_
  rw [alloc_setRow]
  refine wpList_nil ?_
  simp only [put_none]
  go_upto_region 5 with (fail)
  obtain ⟨X, hXe⟩ : ∃ X, X = w2.heap.size := ⟨_, rfl⟩
  rw [← hXe]
  have hbw1 := HB1.out
  have hbq : Below w.heap.size w w2 := (below_drewN hbw1 q1).trans (hb2.mono hbw1.size)
  refine wp_world (fun W => Hid (Below w.heap.size w W ∧ W.ownsRow 0 5 1 (.slice A n c) n (ints .u8 (bys ys)) ∧ W.heap[X]? = some (.cells (arr8 32 kid) 26 (0, 0)))) ⟨hbq.trans ((below_alc w2 _).mono hbq.size), ownsRow_lower (own_keep hown fun k hk => (below_alc w2 _).block k (hown.lt k hk).2) (Nat.zero_le _), by rw [hXe]; exact heap1_0 w2 _⟩ ?_
  clear hbw1 hbq hXe hown hb2 HB1
  intro W0 HW
  obtain ⟨hb0, hown0, hX0⟩ := HW.out
  have HX := Lib.hid hX0
  have HB0 := Lib.hid hb0
  have HA : Hid (SlRead W0 A (ints .u8 (bys ys)) ∧ n ≤ c ∧ (∀ b o, A = some ⟨b, o, none⟩ → b < W0.heap.size)) := by
    obtain ⟨A', c', e1, h1, _, h2⟩ := own_slice hown0
    simp only [Value.slice.injEq, true_and] at e1
    obtain ⟨rfl, rfl⟩ := e1
    exact ⟨own_read1 hown0, h1, fun b o e => (h2 _ e).2⟩
  have hE0 := HE.out.1.below hb0
  have HK := Lib.hid (HE.out.2.below hb0)
  have hnew := Lib.hid (s_new (q := 1000) (l := 3) hE0 (by decide))
  obtain ⟨S, hSe⟩ : ∃ S, S = W0.heap.size := ⟨_, rfl⟩
  rw [← hSe] at hnew
  clear hSe hE0 hb0 hown0 hX0 HW w1 w2
  go_upto_region 6 with (go_at_call 11; refine hnew.out.mono ?_; rintro r W1 ⟨rfl, hS⟩; clear hnew)
  refine wp_region_lit ?_
  try simp only [put_list, List.set_cons_zero, List.set_cons_succ]
  refine wpList_run (by kernel_rfl) (.pointer (some ⟨S, 0, none⟩)) (W1) (exec_move rfl (by kernel_rfl)) ?_
  try simp only [put_list, List.set_cons_zero, List.set_cons_succ]
  refine wpList_run (by kernel_rfl) (.bool false) (W1) (exec_bin (vx := .pointer (some ⟨S, 0, none⟩)) (vy := Go.Value.pointer none) rfl (by kernel_rfl) (by kernel_rfl)) ?_
  try simp only [put_list, List.set_cons_zero, List.set_cons_succ]
  refine wpList_run (by kernel_rfl) (.bool false) (W1) (exec_move rfl (by kernel_rfl)) ?_
  try simp only [put_list, List.set_cons_zero, List.set_cons_succ]
  refine wpList_runG (by kernel_rfl) (.pointer (some ⟨S, 0, none⟩)) (W1) (exec_move rfl (by kernel_rfl)) ?_
  try simp only [put_list, List.set_cons_zero, List.set_cons_succ]
  refine wpList_runG (by kernel_rfl) (.agg (arr8 32 kid)) (W1) (exec_load (vx := .pointer (some ⟨X, 0, none⟩)) rfl (by kernel_rfl) (load_idB W1 X kid (range_new (cs := (arr8 32 kid).toList) (by simpa using heap_below HX.out hS.be)))) ?_
  try simp only [put_list, List.set_cons_zero, List.set_cons_succ]
  refine wpList_runG (by kernel_rfl) (.slice A n c) (W1) (exec_move rfl (by kernel_rfl)) ?_
  try simp only [put_list, List.set_cons_zero, List.set_cons_succ]
  refine wpList_runG (by kernel_rfl) (.int .i64 (n : Int)) (W1) (exec_len (x := Go.Operand.tmp 35) (t := 24) (ty := 3) (vx := .slice A n c) (by kernel_rfl) (by kernel_rfl) (by kernel_rfl) (by kernel_rfl)) ?_
  refine wpList_call (by kernel_rfl) 12 #[Go.Operand.tmp 33, Go.Operand.tmp 34, Go.Operand.tmp 36] #[30, 26, 3] #[.pointer (some ⟨S, 0, none⟩), .agg (arr8 32 kid), .int .i64 (n : Int)] _ rfl (by kernel_rfl) (by kernel_rfl) (s_ok hS kid (n : Int) (by have := HN.out; omega) (by have := HN.out; omega) (by simp) few_nil rfl (by have := HN.out; rw [sum_nil]; omega)) ?_
  rintro r W2 ⟨rfl, V, g, _, hS2, _, _⟩
  clear hS
  have hS : Sto E W0 W2 S 1000 3 V [newB g kid (n : Int)] := hS2
  clear hS2
  refine ⟨_, rfl, ?_⟩
  try simp only [put_list, List.set_cons_zero, List.set_cons_succ]
  refine wpList_runG (by kernel_rfl) (.bool false) (W2) (exec_bin (vx := .nilIface) (vy := Go.Value.nilIface) rfl (by kernel_rfl) (by kernel_rfl)) ?_
  try simp only [put_list, List.set_cons_zero, List.set_cons_succ]
  refine wpList_run (by kernel_rfl) (.bool false) (W2) (exec_pick (b := false) rfl (by kernel_rfl) (by kernel_rfl)) ?_
  try simp only [put_list, List.set_cons_zero, List.set_cons_succ]
  refine wpList_run (by kernel_rfl) (.bool false) (W2) (exec_move rfl (by kernel_rfl)) ?_
  try simp only [put_list, List.set_cons_zero, List.set_cons_succ]
  refine wpList_runG (by kernel_rfl) (.pointer (some ⟨S, 0, none⟩)) (W2) (exec_move rfl (by kernel_rfl)) ?_
  try simp only [put_list, List.set_cons_zero, List.set_cons_succ]
  refine wpList_runG (by kernel_rfl) (.agg (arr8 32 kid)) (W2) (exec_load (vx := .pointer (some ⟨X, 0, none⟩)) rfl (by kernel_rfl) (load_idB W2 X kid (range_new (cs := (arr8 32 kid).toList) (by simpa using heap_below HX.out hS.be)))) ?_
  refine wpList_call (by kernel_rfl) 23 #[Go.Operand.tmp 41, Go.Operand.tmp 42, Go.Operand.const (Go.Value.int Go.IntKind.i64 0)] #[30, 26, 3] #[.pointer (some ⟨S, 0, none⟩), .agg (arr8 32 kid), Go.Value.int Go.IntKind.i64 0] _ rfl (by kernel_rfl) (by kernel_rfl) (s_spoilN hS kid (by simp) (find_one _ _ (is_kid rfl)) rfl rfl 0) ?_
  rintro r W3 ⟨rfl, hS2, _⟩
  clear hS
  have hS := hS2
  clear hS2
  refine ⟨_, rfl, ?_⟩
  try simp only [put_list, List.set_cons_zero, List.set_cons_succ]
  refine wpList_run (by kernel_rfl) (.bool false) (W3) (exec_pick (b := false) rfl (by kernel_rfl) (by kernel_rfl)) ?_
  refine wpList_nil ?_
  simp only [put_list, List.set_cons_zero, List.set_cons_succ]
  have hput := Lib.hid (s_put hS kid A (bys ys) n c 0 (by simp [HN.out.2.2.1]) HA.out.2.1 (HA.out.1.below hS.be) (fun b o e hx => by have h1 := HA.out.2.2 b o e; have h2 := hS.lo b hx; omega) (by simp) (find_one _ _ (is_kid rfl)) rfl rfl (by simp) (by show (0 : Int) + n ≤ n; omega) (by have := HN.out; show 0 ≤ (n : Int) ∧ (n : Int) ≤ 30000; omega) (by simp))
  go_upto_region 11 with (first | (refine wpList_load_row rfl 26 _ rfl X rfl _ _ _ _ (heap_below HX.out hS.be) Tryd.underlying26 rfl (by rw [arr8_size]; kernel_rfl) ?_) | (go_at_call 14; refine hput.out.mono ?_; rintro r W4 ⟨rfl, hq⟩; have HP := Lib.hid hq; clear hq hput))
  obtain ⟨D, hS2, _, hD⟩ := HP.out
  replace hS : Sto E W0 W4 S 1000 3 V [⟨g, kid, (n : Int), D, bys ys, false, 0⟩] := by rw [← over_nil (bys ys)]; exact hS2
  clear hS2 hD HP
  obtain ⟨k, hk, hkn⟩ := exists_mod at' (n : Int) (by have := HN.out; omega)
  have hnk := fun W => number_nat at' (n : Int) k W (by have := HN.out; omega) hk
  have hkn2 : k < n := by omega
  have hby := Lib.hid (fun W (h : SlRead W A (ints .u8 (bys ys))) => bytes_any A (bys ys) c W h (by rw [bys_length]; have := HN.out; omega))
  have hbyl : (bys ys).length = n := by rw [bys_length]; exact HN.out.2.2.1
  rw [hbyl] at hby
  clear hkn hk hbyl
  go_upto_region 12 with (go_at_call 10; refine (hnk _).mono ?_; rintro r Y ⟨rfl, q5, rfl⟩; clear hnk)
  replace hS := hS.drewN q5
  generalize W4.drewN q5 = W5 at *
  go_upto_region 13 with (go_at_call 24; refine (hby.out _ (HA.out.1.below hS.be)).mono ?_; rintro r W4b ⟨v, rfl, hown, hb4⟩; have H4 := Lib.hid (And.intro hown hb4); clear hown hb4 hby)
  obtain ⟨hown, hb4⟩ := H4.out
  obtain ⟨bb, cb, rfl, hbb⟩ : ∃ bb cb, v = .slice (some ⟨bb, 0, none⟩) n cb ∧ W5.heap.size ≤ bb := by
    rcases hown.2 with ⟨_, h0⟩ | ⟨g', c', cur, e1, h1, _⟩
    · have := HN.out
      omega
    · exact ⟨g', c', e1, h1⟩
  have HCB : Hid (n ≤ cb) := by
    obtain ⟨A', c', e1, h1, _⟩ := own_slice hown
    simp only [Value.slice.injEq, true_and] at e1
    rw [e1.2]
    exact h1
  have HB4 : Hid (∀ (bs : List Int) (done : Bool) (i : Int), ¬ stF S V [⟨g, kid, (n : Int), D, bs, done, i⟩] bb) := fun bs done i hx => by
    have h1 : stF S V [⟨g, kid, (n : Int), D, bys ys, false, 0⟩] bb := by
      rcases stF_one hx with h | h | h | h
      · exact .inl h
      · exact .inr (.inl h)
      · exact .inr (.inr ⟨0, _, rfl, .inl h⟩)
      · exact .inr (.inr ⟨0, _, rfl, .inr h⟩)
    have := hS.st.lt h1
    omega
  have hW0b : W0.heap.size ≤ bb := Nat.le_trans hS.be.size hbb
  replace hS := hS.below hb4
  obtain ⟨y, hy⟩ : ∃ y, ys[k]? = some y := ⟨ys[k]'(by rw [HN.out.2.2.1]; exact hkn2), List.getElem?_eq_getElem _⟩
  have hcell : W4b.cell? ⟨bb, k, none⟩ = some (.int .u8 (n8 y)) := by
    have := hown.cells (g := bb) rfl k (v8 y) (by rw [bys_ints, List.getElem?_map, hy]; rfl)
    rw [Addr.add_lit] at this
    simpa using this
  have hfz : W4b.frozen? ⟨bb, k, none⟩ = false := by
    obtain ⟨cur, hc⟩ := own_cells hown (k := bb) rfl
    exact thaw_heap hc k
  obtain ⟨zs, hzs⟩ : ∃ z, z = ys.set k (y ^^^ 1#8) := ⟨_, rfl⟩
  have HZ : Hid (zs.length = n ∧ (bys ys).set k (spo (n8 y)) = bys zs ∧ (bys ys)[k]? = some (n8 y)) := by
    refine ⟨by rw [hzs, List.length_set]; exact HN.out.2.2.1, ?_, ?_⟩
    · rw [hzs, spo_n8]
      simp [bys, List.map_set]
    · simp [bys, hy]
  have hbad0 := own_read1 hown
  have hki : (k : Int) < (n : Int) := by omega
  have HS5 := Lib.hid (And.intro hS (And.intro hbad0 (And.intro hW0b hkn2)))
  clear hS hbad0 hW0b hown hb4 hbb hy hzs H4 hkn2
  go_upto_region 14 with (fail)
  refine wp_world (fun W => Hid (Sto E W0 W S 1000 3 V [⟨g, kid, (n : Int), D, bys ys, false, 0⟩] ∧ SlRead W (some ⟨bb, 0, none⟩) (ints .u8 (bys zs)))) ?_ ?_
  · obtain ⟨hS, hbad0, hW0b, hkn2⟩ := HS5.out
    refine ⟨hS.keep ((set_turnH W4b bb k _).below hS.be hS.be.size (fun q e => by rw [e]; exact hW0b)) (fun x hx => heap_setCell_other W4b ⟨bb, k, none⟩ x _ (fun e => HB4.out _ _ _ (by rw [← show x = bb from e]; exact hx))), ?_⟩
    rw [← HZ.out.2.1]
    exact hbad0.set (by rw [bys_length, HN.out.2.2.1]; exact hkn2)
  clear hcell hfz hki HS5
  intro W5b HW
  obtain ⟨hS, hbad⟩ := HW.out
  clear HW
  obtain ⟨b, hbv⟩ : ∃ b, b = (idl (shaOf zs) == idl kid) := ⟨_, rfl⟩
  have HBv := Lib.hid hbv
  have hsum := Lib.hid (dsum_any (some ⟨bb, 0, none⟩) zs cb W5b.drew (fun h => hbad h) (by rw [HZ.out.1]; have := HN.out; omega))
  rw [HZ.out.1] at hsum
  clear hbv
  refine wp_region_noPanic ?_
  refine wp_region_held_drew (S := fun W => W.heap[X]? = some (.cells (arr8 32 kid) 26 (0, 0))) (by kernel_rfl) ((heap_below HX.out hS.drew.be)) (fun hHeld => ?_)
  refine held_move 0 (Go.Operand.tmp 14) (some 68) (.slice (some ⟨bb, 0, none⟩) n cb) (by kernel_rfl) (by kernel_rfl) (by kernel_rfl) (by kernel_rfl) (by kernel_rfl) (fun _ _ _ _ _ h => h) hHeld ?_
  refine held_cell 2 26 (Go.Operand.tmp 9) (some 70) (.pointer (some ⟨X, 0, none⟩)) (.agg (arr8 32 kid)) (by kernel_rfl) (by kernel_rfl) (fun W hw => load_idB W X kid (range_new (cs := (arr8 32 kid).toList) (by simpa using hw))) (by kernel_rfl) (by kernel_rfl) (by kernel_rfl) (fun _ _ _ _ _ h => h) hHeld ?_
  refine held_call 1 25 #[Go.Operand.tmp 68] #[24] (some 69) #[.slice (some ⟨bb, 0, none⟩) n cb] _ (by kernel_rfl) (by kernel_rfl) (by kernel_rfl) (by kernel_rfl) (hsum.out) ?_
  rintro r W6 ⟨rfl, hb6⟩
  refine ⟨_, rfl, heap_below hHeld hb6, fun hHeld => ?_⟩
  refine held_any 3 (Go.Op.binOp Go.BinOp.eql 26 (Go.Operand.tmp 69) (Go.Operand.tmp 70) 26) (some 71) (.bool b) (by kernel_rfl) (by kernel_rfl) (by kernel_rfl) (by kernel_rfl) (fun _ _ _ _ _ h => h) hHeld (fun o ho w hw => exec_eqrow (k := .eql) (cx := arr8 32 (shaOf zs)) (cy := arr8 32 kid) (b := b) (.inl rfl) ho (by kernel_rfl) (by kernel_rfl) (by rw [HBv.out]; exact eq_ids (shaOf zs) kid w)) ?_
  refine wpAnyH_done (by kernel_rfl) ?_ _
  refine NoPanic.normal ?_
  try simp only [Act.put, List.setIfInBounds_toArray, List.set_cons_zero, List.set_cons_succ]
  replace hS := hS.drew.below hb6
  have hbad6 : SlRead W6 (some ⟨bb, 0, none⟩) (ints .u8 (bys zs)) := SlRead.below (w := W5b.drew) (fun h => hbad h) hb6
  have hbad := hbad6
  clear hbad6 hb6 hsum hHeld
  cases b with
  | true =>
    go_wp2_with fail
    go_ret
    exact ⟨rfl, HB0.out.trans (hS.be.mono HB0.out.size)⟩
  | false =>
    go_upto_region 16 with (fail)
    cases behind with
    | true =>
      refine wp_region_lit ?_
      try simp only [put_list, List.set_cons_zero, List.set_cons_succ]
      refine wpList_run (by kernel_rfl) (.bool true) (W6) (exec_move rfl (by kernel_rfl)) ?_
      try simp only [put_list, List.set_cons_zero, List.set_cons_succ]
      refine wpList_run (by kernel_rfl) (.bool true) (W6) (exec_move rfl (by kernel_rfl)) ?_
      try simp only [put_list, List.set_cons_zero, List.set_cons_succ]
      refine wpList_runG (by kernel_rfl) (.pointer (some ⟨S, 0, none⟩)) (W6) (exec_move rfl (by kernel_rfl)) ?_
      try simp only [put_list, List.set_cons_zero, List.set_cons_succ]
      refine wpList_runG (by kernel_rfl) (.agg (arr8 32 kid)) (W6) (exec_load (vx := .pointer (some ⟨X, 0, none⟩)) rfl (by kernel_rfl) (load_idB W6 X kid (range_new (cs := (arr8 32 kid).toList) (by simpa using heap_below HX.out hS.be)))) ?_
      refine wpList_call (by kernel_rfl) 16 #[Go.Operand.tmp 75, Go.Operand.tmp 76] #[30, 26] #[.pointer (some ⟨S, 0, none⟩), .agg (arr8 32 kid)] _ rfl (by kernel_rfl) (by kernel_rfl) (s_commit hS HK.out kid (by simp) (find_one _ _ (is_kid rfl)) rfl rfl ys rfl (by simp [HN.out.2.2.1]) (by have := HN.out; show (n : Int) ≤ 30000; omega) (by rw [HN.out.2.2.2]; exact beq_self_eq_true _)) ?_
      rintro r W7 ⟨rfl, hS2, ht⟩
      replace hbad := hbad.turned ht (HB4.out _ _ _)
      clear hS ht
      have hS : Sto E W0 W7 S 1000 3 V [⟨g, kid, (n : Int), D, bys ys, true, 0⟩] := hS2
      clear hS2
      refine ⟨_, rfl, ?_⟩
      try simp only [put_list, List.set_cons_zero, List.set_cons_succ]
      refine wpList_runG (by kernel_rfl) (.bool false) (W7) (exec_bin (vx := .nilIface) (vy := Go.Value.nilIface) rfl (by kernel_rfl) (by kernel_rfl)) ?_
      try simp only [put_list, List.set_cons_zero, List.set_cons_succ]
      refine wpList_run (by kernel_rfl) (.bool false) (W7) (exec_pick (b := true) rfl (by kernel_rfl) (by kernel_rfl)) ?_
      refine wpList_nil ?_
      simp only [put_list, List.set_cons_zero, List.set_cons_succ]
      have hspo := Lib.hid (s_spoil hS kid (by simp) (find_one _ _ (is_kid rfl)) rfl k (n8 y) HZ.out.2.2 (by show (bys ys).length ≤ 30000; rw [bys_length]; have := HN.out; omega))
      obtain ⟨t, ht, ht100⟩ := exists_mod at' 100 (by omega)
      have hnt := fun W => number_nat at' 100 t W (by omega) ht
      obtain ⟨m2, hm2⟩ : ∃ m2, m2 = min t n := ⟨_, rfl⟩
      have HM : Hid (m2 ≤ 100 ∧ m2 ≤ n) := ⟨by omega, by omega⟩
      have hmin : ∀ w, (Builtin.min_ #[3, 3] 3 #[.int .i64 (t : Int), .int .i64 (n : Int)]).run Tryd.prog w = .ok (.int .i64 (m2 : Int)) w := fun w => by
        rw [run_min_int2]
        congr 2
        split <;> omega
      clear ht ht100 hm2
      go_upto_region 21 with (first | (refine wpList_load_row rfl 26 _ rfl X rfl _ _ _ _ (heap_below HX.out hS.be) Tryd.underlying26 rfl (by rw [arr8_size]; kernel_rfl) ?_) | (go_at_call 23; refine hspo.out.mono ?_; rintro r W8 ⟨rfl, hq⟩; have HQ := Lib.hid hq; clear hq hspo))
      obtain ⟨hS2, ht⟩ := HQ.out
      replace hbad := hbad.turned ht (HB4.out _ _ _)
      replace hS : Sto E W0 W8 S 1000 3 V [⟨g, kid, (n : Int), D, bys zs, true, 0⟩] := by rw [← HZ.out.2.1]; exact hS2
      clear hS2 ht HQ
      go_upto_region 22 with (go_at_call 10; refine (hnt _).mono ?_; rintro r Y ⟨rfl, q8, rfl⟩; clear hnt)
      replace hS := hS.drewN q8
      replace hbad : SlRead (W8.drewN q8) (some ⟨bb, 0, none⟩) (ints .u8 (bys zs)) := fun h => hbad h
      generalize W8.drewN q8 = W8b at *
      have hget := Lib.hid (s_get hS kid (by simp) (find_one _ _ (is_kid rfl)) rfl rfl 0 m2 (by have := HM.out; omega) (by show 0 + m2 ≤ (bys zs).length; rw [bys_length, HZ.out.1]; have := HM.out; omega) (by show ((bys zs).length : Int) = n; rw [bys_length, HZ.out.1]) (by have := HN.out; show (n : Int) ≤ 30000; omega))
      go_upto_region 23 with (first | (refine wpList_load_row rfl 26 _ rfl X rfl _ _ _ _ (heap_below HX.out hS.be) Tryd.underlying26 rfl (by rw [arr8_size]; kernel_rfl) ?_) | (go_at_call 15; refine hget.out.mono ?_; rintro r W9 ⟨Ag, cg, rfl, hq⟩; have HQ := Lib.hid hq; clear hq hget))
      obtain ⟨hS2, ht, hog⟩ := HQ.out
      replace hbad := hbad.turned ht (HB4.out _ _ _)
      clear hS ht
      have hS := hS2
      clear hS2
      have hsame : Quiets Tryd.prog 18 #[.slice Ag m2 cg, .slice (some ⟨bb, 0, none⟩) m2 cb] W9 (.bool true) := by
        have hl1 : ((bys zs).take m2).length = m2 := by rw [List.length_take, bys_length, HZ.out.1]; have := HM.out; omega
        have h1 : SlRead W9 Ag (ints .u8 ((bys zs).take m2)) := own_read1 hog
        have h2 : SlRead W9 (some ⟨bb, 0, none⟩) (ints .u8 ((bys zs).take m2)) := by
          rw [← ints_take]
          exact hbad.take m2
        have h3 := sameBytes_any Ag (some ⟨bb, 0, none⟩) _ _ cg cb W9 h1 h2 (by rw [hl1]; have := HM.out; omega) (by rw [hl1]; have := HM.out; omega)
        rw [hl1, decide_eq_true rfl] at h3
        exact h3
      have hm2c : m2 ≤ cb := by have := HM.out; have := HCB.out; omega
      clear hog HQ
      refine wp_region_lit ?_
      try simp only [put_list, List.set_cons_zero, List.set_cons_succ]
      refine wpList_run (by kernel_rfl) (.bool true) (W9) (exec_move rfl (by kernel_rfl)) ?_
      try simp only [put_list, List.set_cons_zero, List.set_cons_succ]
      refine wpList_run (by kernel_rfl) (.bool true) (W9) (exec_move rfl (by kernel_rfl)) ?_
      try simp only [put_list, List.set_cons_zero, List.set_cons_succ]
      refine wpList_runG (by kernel_rfl) (.nilIface) (W9) (exec_move rfl (by kernel_rfl)) ?_
      try simp only [put_list, List.set_cons_zero, List.set_cons_succ]
      refine wpList_runG (by kernel_rfl) (.bool true) (W9) (exec_bin (vx := .nilIface) (vy := Go.Value.nilIface) rfl (by kernel_rfl) (by kernel_rfl)) ?_
      try simp only [put_list, List.set_cons_zero, List.set_cons_succ]
      refine wpList_run (by kernel_rfl) (.bool true) (W9) (exec_pick (b := true) rfl (by kernel_rfl) (by kernel_rfl)) ?_
      try simp only [put_list, List.set_cons_zero, List.set_cons_succ]
      refine wpList_run (by kernel_rfl) (.bool true) (W9) (exec_move rfl (by kernel_rfl)) ?_
      try simp only [put_list, List.set_cons_zero, List.set_cons_succ]
      refine wpList_runG (by kernel_rfl) (.slice Ag m2 cg) (W9) (exec_move rfl (by kernel_rfl)) ?_
      try simp only [put_list, List.set_cons_zero, List.set_cons_succ]
      refine wpList_runG (by kernel_rfl) (.slice (some ⟨bb, 0, none⟩) n cb) (W9) (exec_move rfl (by kernel_rfl)) ?_
      try simp only [put_list, List.set_cons_zero, List.set_cons_succ]
      refine wpList_runG (by kernel_rfl) (.int .i64 (m2 : Int)) (W9) (exec_move rfl (by kernel_rfl)) ?_
      try simp only [put_list, List.set_cons_zero, List.set_cons_succ]
      refine wpList_runG (by kernel_rfl) (.slice (some ⟨bb, 0, none⟩) m2 cb) (W9) (exec_slice (vx := .slice (some ⟨bb, 0, none⟩) n cb) (l := none) (h := some (.int .i64 (m2 : Int))) (m := none) rfl (by kernel_rfl) (slice_hi Tryd.underlying24 (by kernel_rfl) _ n cb m2 (by omega) _)) ?_
      refine wpList_call (by kernel_rfl) 18 #[Go.Operand.tmp 104, Go.Operand.tmp 107] #[24, 24] #[.slice Ag m2 cg, .slice (some ⟨bb, 0, none⟩) m2 cb] _ rfl (by kernel_rfl) (by kernel_rfl) (hsame) ?_
      rintro r Y ⟨rfl, q9, rfl⟩
      refine ⟨_, rfl, ?_⟩
      try simp only [put_list, List.set_cons_zero, List.set_cons_succ]
      refine wpList_run (by kernel_rfl) (.bool true) ((W9.drewN q9)) (exec_pick (b := true) rfl (by kernel_rfl) (by kernel_rfl)) ?_
      try simp only [put_list, List.set_cons_zero, List.set_cons_succ]
      refine wpList_run (by kernel_rfl) (.bool true) ((W9.drewN q9)) (exec_assign rfl (by kernel_rfl)) ?_
      refine wpList_nil ?_
      simp only [put_list, List.set_cons_zero, List.set_cons_succ]
      go_wp2_with fail
      go_ret
      exact ⟨rfl, HB0.out.trans ((hS.drewN q9).be.mono HB0.out.size)⟩
    | false =>
      refine wp_region_lit ?_
      try simp only [put_list, List.set_cons_zero, List.set_cons_succ]
      refine wpList_run (by kernel_rfl) (.bool false) (W6) (exec_move rfl (by kernel_rfl)) ?_
      try simp only [put_list, List.set_cons_zero, List.set_cons_succ]
      refine wpList_run (by kernel_rfl) (.bool false) (W6) (exec_move rfl (by kernel_rfl)) ?_
      refine wpList_off (by kernel_rfl) ?_
      refine wpList_off (by kernel_rfl) ?_
      refine wpList_off (by kernel_rfl) ?_
      refine wpList_off (by kernel_rfl) ?_
      try simp only [put_list, List.set_cons_zero, List.set_cons_succ]
      refine wpList_run (by kernel_rfl) (Go.Value.bool false) (W6) (exec_pick (b := false) rfl (by kernel_rfl) (by kernel_rfl)) ?_
      refine wpList_nil ?_
      simp only [put_list, List.set_cons_zero, List.set_cons_succ]
      have hspo := Lib.hid (s_spoil hS kid (by simp) (find_one _ _ (is_kid rfl)) rfl k (n8 y) HZ.out.2.2 (by show (bys ys).length ≤ 30000; rw [bys_length]; have := HN.out; omega))
      go_upto_region 24 with (first | (refine wpList_load_row rfl 26 _ rfl X rfl _ _ _ _ (heap_below HX.out hS.be) Tryd.underlying26 rfl (by rw [arr8_size]; kernel_rfl) ?_) | (go_at_call 23; refine hspo.out.mono ?_; rintro r W7 ⟨rfl, hq⟩; have HQ := Lib.hid hq; clear hq hspo))
      obtain ⟨hS2, ht⟩ := HQ.out
      replace hS : Sto E W0 W7 S 1000 3 V [⟨g, kid, (n : Int), D, bys zs, false, 0⟩] := by rw [← HZ.out.2.1]; exact hS2
      clear hS2 ht HQ hbad
      refine wp_region_lit ?_
      try simp only [put_list, List.set_cons_zero, List.set_cons_succ]
      refine wpList_run (by kernel_rfl) (.pointer (some ⟨S, 0, none⟩)) (W7) (exec_move rfl (by kernel_rfl)) ?_
      try simp only [put_list, List.set_cons_zero, List.set_cons_succ]
      refine wpList_run (by kernel_rfl) (.agg (arr8 32 kid)) (W7) (exec_load (vx := .pointer (some ⟨X, 0, none⟩)) rfl (by kernel_rfl) (load_idB W7 X kid (range_new (cs := (arr8 32 kid).toList) (by simpa using heap_below HX.out hS.be)))) ?_
      refine wpList_call (by kernel_rfl) 16 #[Go.Operand.tmp 110, Go.Operand.tmp 111] #[30, 26] #[.pointer (some ⟨S, 0, none⟩), .agg (arr8 32 kid)] _ rfl (by kernel_rfl) (by kernel_rfl) (s_commitX hS HK.out kid (by simp) (find_one _ _ (is_kid rfl)) rfl rfl zs rfl (by simp [HZ.out.1]) (by have := HN.out; show (n : Int) ≤ 30000; omega) HBv.out.symm) ?_
      rintro r W8 ⟨rfl, hS2, _⟩
      clear hS
      have hS := hS2
      clear hS2
      refine ⟨_, rfl, ?_⟩
      refine wpList_call (by kernel_rfl) 13 #[Go.Operand.tmp 112, Go.Operand.const (Go.Value.int Go.IntKind.i64 116)] #[33, 3] #[errV (E 15), Go.Value.int Go.IntKind.i64 116] _ rfl (by kernel_rfl) (by kernel_rfl) (is_yes E 15 (by decide) W8 hS.errs) ?_
      rintro r W9 ⟨rfl, hb⟩
      have hS2 := hS.below hb
      clear hS hb
      have hS := hS2
      clear hS2
      refine ⟨_, rfl, ?_⟩
      try simp only [put_list, List.set_cons_zero, List.set_cons_succ]
      refine wpList_run (by kernel_rfl) (.bool false) (W9) (exec_un (vx := .bool true) rfl (by kernel_rfl) (by kernel_rfl)) ?_
      try simp only [put_list, List.set_cons_zero, List.set_cons_succ]
      refine wpList_run (by kernel_rfl) (.bool false) (W9) (exec_move rfl (by kernel_rfl)) ?_
      try simp only [put_list, List.set_cons_zero, List.set_cons_succ]
      refine wpList_runG (by kernel_rfl) (.pointer (some ⟨S, 0, none⟩)) (W9) (exec_move rfl (by kernel_rfl)) ?_
      try simp only [put_list, List.set_cons_zero, List.set_cons_succ]
      refine wpList_runG (by kernel_rfl) (.agg (arr8 32 kid)) (W9) (exec_load (vx := .pointer (some ⟨X, 0, none⟩)) rfl (by kernel_rfl) (load_idB W9 X kid (range_new (cs := (arr8 32 kid).toList) (by simpa using heap_below HX.out hS.be)))) ?_
      refine wpList_call (by kernel_rfl) 26 #[Go.Operand.tmp 116, Go.Operand.tmp 117] #[30, 26] #[.pointer (some ⟨S, 0, none⟩), .agg (arr8 32 kid)] _ rfl (by kernel_rfl) (by kernel_rfl) (s_delete hS kid (is_kid rfl)) ?_
      rintro r Wa ⟨rfl, V2, hS2, _⟩
      clear hS
      have hS := hS2
      clear hS2
      refine ⟨_, rfl, ?_⟩
      try simp only [put_list, List.set_cons_zero, List.set_cons_succ]
      refine wpList_runG (by kernel_rfl) (.bool false) (Wa) (exec_bin (vx := .nilIface) (vy := Go.Value.nilIface) rfl (by kernel_rfl) (by kernel_rfl)) ?_
      try simp only [put_list, List.set_cons_zero, List.set_cons_succ]
      refine wpList_run (by kernel_rfl) (.bool false) (Wa) (exec_pick (b := false) rfl (by kernel_rfl) (by kernel_rfl)) ?_
      try simp only [put_list, List.set_cons_zero, List.set_cons_succ]
      refine wpList_run (by kernel_rfl) (.bool false) (Wa) (exec_move rfl (by kernel_rfl)) ?_
      try simp only [put_list, List.set_cons_zero, List.set_cons_succ]
      refine wpList_runG (by kernel_rfl) (.pointer (some ⟨S, 0, none⟩)) (Wa) (exec_move rfl (by kernel_rfl)) ?_
      try simp only [put_list, List.set_cons_zero, List.set_cons_succ]
      refine wpList_runG (by kernel_rfl) (.agg (arr8 32 kid)) (Wa) (exec_load (vx := .pointer (some ⟨X, 0, none⟩)) rfl (by kernel_rfl) (load_idB Wa X kid (range_new (cs := (arr8 32 kid).toList) (by simpa using heap_below HX.out hS.be)))) ?_
      refine wpList_call (by kernel_rfl) 26 #[Go.Operand.tmp 122, Go.Operand.tmp 123] #[30, 26] #[.pointer (some ⟨S, 0, none⟩), .agg (arr8 32 kid)] _ rfl (by kernel_rfl) (by kernel_rfl) (s_deleteN hS kid (by simp) rfl) ?_
      rintro r Wb ⟨rfl, hS2, _⟩
      clear hS
      have hS := hS2
      clear hS2
      refine ⟨_, rfl, ?_⟩
      refine wpList_call (by kernel_rfl) 13 #[Go.Operand.tmp 124, Go.Operand.const (Go.Value.int Go.IntKind.i64 114)] #[33, 3] #[errV (E 13), Go.Value.int Go.IntKind.i64 114] _ rfl (by kernel_rfl) (by kernel_rfl) (is_yes E 13 (by decide) Wb hS.errs) ?_
      rintro r Wc ⟨rfl, hb⟩
      have hS2 := hS.below hb
      clear hS hb
      have hS := hS2
      clear hS2
      refine ⟨_, rfl, ?_⟩
      try simp only [put_list, List.set_cons_zero, List.set_cons_succ]
      refine wpList_runG (by kernel_rfl) (.bool false) (Wc) (exec_un (vx := .bool true) rfl (by kernel_rfl) (by kernel_rfl)) ?_
      try simp only [put_list, List.set_cons_zero, List.set_cons_succ]
      refine wpList_run (by kernel_rfl) (.bool false) (Wc) (exec_pick (b := false) rfl (by kernel_rfl) (by kernel_rfl)) ?_
      refine wpList_nil ?_
      simp only [put_list, List.set_cons_zero, List.set_cons_succ]
      have hop := Lib.hid (s_ok hS kid (n : Int) (by have := HN.out; omega) (by have := HN.out; omega) (by simp) few_nil rfl (by have := HN.out; rw [sum_nil]; omega))
      go_upto_region 28 with (first | (refine wpList_load_row rfl 26 _ rfl X rfl _ _ _ _ (heap_below HX.out hS.be) Tryd.underlying26 rfl (by rw [arr8_size]; kernel_rfl) ?_) | (go_at_call 12; refine hop.out.mono ?_; rintro r Wd ⟨rfl, V3, g3, _, hS2, _, _⟩; clear hS; have hS : Sto E W0 Wd S 1000 3 V3 [newB g3 kid (n : Int)] := hS2; clear hS2 hop))
      have hput := Lib.hid (s_put hS kid A (bys ys) n c 0 (by simp [HN.out.2.2.1]) HA.out.2.1 (HA.out.1.below hS.be) (fun b o e hx => by have h1 := HA.out.2.2 b o e; have h2 := hS.lo b hx; omega) (by simp) (find_one _ _ (is_kid rfl)) rfl rfl (by simp) (by show (0 : Int) + n ≤ n; omega) (by have := HN.out; show 0 ≤ (n : Int) ∧ (n : Int) ≤ 30000; omega) (by simp))
      go_upto_region 29 with (first | (refine wpList_load_row rfl 26 _ rfl X rfl _ _ _ _ (heap_below HX.out hS.be) Tryd.underlying26 rfl (by rw [arr8_size]; kernel_rfl) ?_) | (go_at_call 14; refine hput.out.mono ?_; rintro r We ⟨rfl, hq⟩; have HP := Lib.hid hq; clear hq hput))
      obtain ⟨D3, hS2, _, _⟩ := HP.out
      replace hS : Sto E W0 We S 1000 3 V3 [⟨g3, kid, (n : Int), D3, bys ys, false, 0⟩] := by rw [← over_nil (bys ys)]; exact hS2
      clear hS2 HP
      refine wp_region_lit ?_
      try simp only [put_list, List.set_cons_zero, List.set_cons_succ]
      refine wpList_run (by kernel_rfl) (.bool true) (We) (exec_move rfl (by kernel_rfl)) ?_
      try simp only [put_list, List.set_cons_zero, List.set_cons_succ]
      refine wpList_run (by kernel_rfl) (.bool true) (We) (exec_move rfl (by kernel_rfl)) ?_
      try simp only [put_list, List.set_cons_zero, List.set_cons_succ]
      refine wpList_runG (by kernel_rfl) (.nilIface) (We) (exec_move rfl (by kernel_rfl)) ?_
      try simp only [put_list, List.set_cons_zero, List.set_cons_succ]
      refine wpList_runG (by kernel_rfl) (.bool true) (We) (exec_bin (vx := .nilIface) (vy := Go.Value.nilIface) rfl (by kernel_rfl) (by kernel_rfl)) ?_
      try simp only [put_list, List.set_cons_zero, List.set_cons_succ]
      refine wpList_run (by kernel_rfl) (.bool true) (We) (exec_pick (b := true) rfl (by kernel_rfl) (by kernel_rfl)) ?_
      try simp only [put_list, List.set_cons_zero, List.set_cons_succ]
      refine wpList_run (by kernel_rfl) (.bool true) (We) (exec_move rfl (by kernel_rfl)) ?_
      try simp only [put_list, List.set_cons_zero, List.set_cons_succ]
      refine wpList_runG (by kernel_rfl) (.pointer (some ⟨S, 0, none⟩)) (We) (exec_move rfl (by kernel_rfl)) ?_
      try simp only [put_list, List.set_cons_zero, List.set_cons_succ]
      refine wpList_runG (by kernel_rfl) (.agg (arr8 32 kid)) (We) (exec_load (vx := .pointer (some ⟨X, 0, none⟩)) rfl (by kernel_rfl) (load_idB We X kid (range_new (cs := (arr8 32 kid).toList) (by simpa using heap_below HX.out hS.be)))) ?_
      refine wpList_call (by kernel_rfl) 16 #[Go.Operand.tmp 147, Go.Operand.tmp 148] #[30, 26] #[.pointer (some ⟨S, 0, none⟩), .agg (arr8 32 kid)] _ rfl (by kernel_rfl) (by kernel_rfl) (s_commit hS HK.out kid (by simp) (find_one _ _ (is_kid rfl)) rfl rfl ys rfl (by simp [HN.out.2.2.1]) (by have := HN.out; show (n : Int) ≤ 30000; omega) (by rw [HN.out.2.2.2]; exact beq_self_eq_true _)) ?_
      rintro r Wf ⟨rfl, hS2, _⟩
      clear hS
      have hS := hS2
      clear hS2
      refine ⟨_, rfl, ?_⟩
      try simp only [put_list, List.set_cons_zero, List.set_cons_succ]
      refine wpList_runG (by kernel_rfl) (.bool true) (Wf) (exec_bin (vx := .nilIface) (vy := Go.Value.nilIface) rfl (by kernel_rfl) (by kernel_rfl)) ?_
      try simp only [put_list, List.set_cons_zero, List.set_cons_succ]
      refine wpList_run (by kernel_rfl) (.bool true) (Wf) (exec_pick (b := true) rfl (by kernel_rfl) (by kernel_rfl)) ?_
      try simp only [put_list, List.set_cons_zero, List.set_cons_succ]
      refine wpList_run (by kernel_rfl) (.bool true) (Wf) (exec_assign rfl (by kernel_rfl)) ?_
      refine wpList_nil ?_
      simp only [put_list, List.set_cons_zero, List.set_cons_succ]
      go_wp2_with fail
      go_ret
      exact ⟨rfl, HB0.out.trans (hS.be.mono HB0.out.size)⟩
end Go.Proofs.YtegijahkiopncaaDoor
