import Derived.Test.YtegijahkiopncaaDoorBlu
import Derived.Test.YtegijahkiopncaaDoorNum
import Derived.Deep.MidRow
/-
  courierlaw20: BlobOwn.
-/
namespace Go.Proofs.YtegijahkiopncaaDoor
open Go.RowKit
theorem is_kid {e : Be} {k : Nat → BitVec 8} (h : e.f = k) : Be.is k e = true := by
  unfold Be.is
  rw [h]
  simp
theorem over_nil (l : List Int) : over [] 0 l = l := by simp [over]
theorem stF_one {S : Nat} {V : Value} {e : Be} {x : Nat} (h : stF S V [e] x) : x = S ∨ V.ownBlock = some x ∨ x = e.g ∨ e.D.ownBlock = some x := by
  rcases h with h | h | ⟨j, y, hy, h⟩
  · exact .inl h
  · exact .inr (.inl h)
  · rcases j with _ | j
    · obtain rfl := Option.some.inj hy
      exact .inr (.inr h)
    · simp at hy
theorem SlRead.turned {W W' : World} {bb o : Nat} {xs : List Value} {G : Nat → Prop} (h : SlRead W (some ⟨bb, o, none⟩) xs) (ht : Turn G W W') (hn : ¬ G bb) : SlRead W' (some ⟨bb, o, none⟩) xs := fun hp => by
  obtain ⟨b', o', e1, hlt, hc⟩ := h hp
  simp only [Option.some.injEq, Addr.mk.injEq, and_true] at e1
  obtain ⟨rfl, rfl⟩ := e1
  exact ⟨bb, o, rfl, Nat.lt_of_lt_of_le hlt ht.size, fun j u hu => (ht.cell hlt hn).trans (hc j u hu)⟩
theorem SlRead.set {W : World} {bb k : Nat} {xs : List Int} {z : Int} (h : SlRead W (some ⟨bb, 0, none⟩) (ints .u8 xs)) (hk : k < xs.length) : SlRead (W.setCell ⟨bb, k, none⟩ (.int .u8 z)) (some ⟨bb, 0, none⟩) (ints .u8 (xs.set k z)) := fun hp => by
  obtain ⟨b', o', e1, hlt, hc⟩ := h (by simp [ints]; omega)
  simp only [Option.some.injEq, Addr.mk.injEq, and_true] at e1
  obtain ⟨rfl, rfl⟩ := e1
  refine ⟨bb, 0, rfl, by have := (set_turnH W bb k (.int .u8 z)).size; omega, fun j u hu => ?_⟩
  rw [Nat.zero_add]
  have hck := hc k (.int .u8 xs[k]) (by simp [ints, hk])
  rw [Nat.zero_add] at hck
  have e2 : ints .u8 (xs.set k z) = (ints .u8 xs).set k (.int .u8 z) := by simp [ints, List.map_set]
  rw [e2, List.getElem?_set] at hu
  by_cases hj : k = j
  · subst hj
    rw [if_pos rfl, if_pos (by simpa [ints] using hk)] at hu
    obtain rfl := Option.some.inj hu
    exact World.cell?_setCell_same W _ _ hck
  · rw [if_neg hj] at hu
    have := hc j u hu
    rw [Nat.zero_add] at this
    exact (W.cell?_setCell_other ⟨bb, k, none⟩ ⟨bb, j, none⟩ _ (fun y => hj (congrArg Addr.off y))).trans this
theorem slice_hi {P : Program} {t e : TypeId} (hu : P.underlying t = some (.slice e)) (hs : (P.info? e).map (·.size) = some 1) (A : Option Addr) (n cap m : Nat) (hm : m ≤ cap) (w : World) :
    (Instr.slice t (.slice A n cap) none (some (.int .i64 (m : Int))) none).run P w = .ok (.slice A m cap) w := by
  have e2 : P.elem t = e := by simp [Program.elem, hu]
  rw [run_slice_h (P := P) w t A n cap (by rw [e2]; exact hu) .i64 (m : Int) (by omega) (by omega), e2]
  obtain ⟨i, hi, hz⟩ := Option.map_eq_some_iff.1 hs
  simp [sizeOf, typeInfo, hi, hz, Result.andThen, sliced]
  intro _
  cases A with
  | none => rfl
  | some ad => simp [Addr.add]
theorem len_l (ty : TypeId) (A : Option Addr) (c : Nat) (w : World) : (Builtin.len_ #[48] ty #[.slice A 1 c]).run Tryd.prog w = .ok (.int .i64 1) w := by
  simp [Builtin.len_]
  rfl
theorem idx_l (r c : Nat) (w : World) : (Instr.indexAt 48 (.slice (some ⟨r, 0, none⟩) 1 c) (.int .i64 0)).run Tryd.prog w = .ok (.pointer (some ⟨r, 0, none⟩)) w := by
  have hu := Tryd.underlying48
  have e2 : Tryd.prog.elem 48 = 26 := by simp [Program.elem, hu]
  rw [run_indexAt_slice (h := by rw [e2]; exact hu), if_pos (by omega)]
  obtain ⟨i, hi, hz⟩ := Option.map_eq_some_iff.1 (show (Tryd.prog.info? 26).map (·.size) = some 32 by kernel_rfl)
  simp [e2, sizeOf, typeInfo, hi, hz, Result.andThen]
  rfl
theorem all_kid {E : Nat → Addr} {w0 W : World} {S : Nat} {q l : Int} {V : Value} {e : Be} {k : Nat → BitVec 8} (h : Sto E w0 W S q l V [e]) (hf : e.f = k) : Calls Tryd.prog 22 #[.pointer (some ⟨S, 0, none⟩)] W fun r W' => ∃ b c, r = .returned (.slice (some ⟨b, 0, none⟩) 1 c) ∧ W'.rangeAt b 0 (arr8 32 k).toList ∧ W.heap.size ≤ b ∧ (∃ cs, W'.heap[b]? = some (.cells cs 26 (0, 0)) ∧ 32 ≤ cs.size) ∧ Below W.heap.size W W' := by
  refine (s_all h (by simp)).mono ?_
  rintro r W' ⟨v, rfl, ho, hb⟩
  rcases id ho.2 with ⟨_, h0⟩ | ⟨g, c, cur, rfl, hge, hg, hnc, _, hcs, _⟩
  · simp at h0
  · refine ⟨g, c, rfl, fun j v hv => ?_, hge, ⟨cur, hg, ?_⟩, hb⟩
    · have h1 := ho.cells (g := g) rfl j v (by simpa [idsOf, hf] using hv)
      rw [Addr.add_lit] at h1
      exact h1
    · have : 1 ≤ c := by simpa using hnc
      omega
set_option maxRecDepth 100000 in
set_option maxHeartbeats 4000000 in
theorem own_walk (E : Nat → Addr) (a at' : Int) (w : World) (hE : ErrsAt E w) (hK : KAt w) : Calls Tryd.prog 7 #[.int .i64 a, .int .i64 at'] w fun e w' => e = .returned (.bool true) ∧ Below w.heap.size w w' := by
  have hfi := first_b E w hE
  obtain ⟨aa, haa, ha6⟩ := exists_mod a 6 (by omega)
  have hnu := fun W => number_nat a 6 aa W (by omega) haa
  obtain ⟨n, hn⟩ : ∃ n, n = 20 + 40 * aa := ⟨_, rfl⟩
  obtain ⟨ys, hys⟩ : ∃ x, x = ysOf aa := ⟨_, rfl⟩
  obtain ⟨kid, hkid⟩ : ∃ x, x = shaOf ys := ⟨_, rfl⟩
  have hct := Lib.hid (fun W => content_any aa (by omega) W)
  rw [← hys, ← hkid, ← hn] at hct
  have HN : Hid (20 ≤ n ∧ n ≤ 300 ∧ ys.length = n ∧ kid = shaOf ys) := ⟨by omega, by omega, by rw [hys, ysOf_len, hn], hkid⟩
  obtain ⟨za, hza⟩ : ∃ z, z = a := ⟨_, rfl⟩
  rw [← hza] at hnu ⊢
  have HE := Lib.hid (And.intro hE hK)
  clear hE hK hn hys hkid haa ha6 hza
  go_enter Tryd.func7, Tryd.ntmps7
  go_upto_region 4 with (go_at_call 8; refine hfi.mono ?_; rintro e w1 ⟨rfl, hb1⟩; have HB1 := Lib.hid hb1; clear hb1 hfi)
  refine wp_region_lit ?_
  try simp only [put_list, List.set_cons_zero, List.set_cons_succ]
  refine wpList_run (by kernel_rfl) (.int .i64 za) (w1) (exec_move rfl (by kernel_rfl)) ?_
  refine wpList_call (by kernel_rfl) 10 #[Go.Operand.tmp 24, Go.Operand.const (Go.Value.int Go.IntKind.i64 6)] #[3, 3] #[.int .i64 za, Go.Value.int Go.IntKind.i64 6] _ rfl (by kernel_rfl) (by kernel_rfl) (hnu w1) ?_
  rintro r Y ⟨rfl, q1, rfl⟩
  refine ⟨_, rfl, ?_⟩
  refine wpList_call (by kernel_rfl) 9 #[Go.Operand.tmp 25] #[3] #[.int .i64 (aa : Int)] _ rfl (by kernel_rfl) (by kernel_rfl) (hct.out (w1.drewN q1)) ?_
  rintro r w2 ⟨A, c, rfl, hown, hb2⟩
  refine ⟨_, rfl, ?_⟩
  try simp only [put_list, List.set_cons_zero, List.set_cons_succ]
  refine wpList_run (by kernel_rfl) (.tuple #[.slice A n c, .agg (arr8 32 kid)]) (w2) (exec_move rfl (by kernel_rfl)) ?_
  try simp only [put_list, List.set_cons_zero, List.set_cons_succ]
  refine wpList_run (by kernel_rfl) (.slice A n c) (w2) (exec_extract (vx := .tuple #[.slice A n c, .agg (arr8 32 kid)]) rfl (by kernel_rfl) (by kernel_rfl)) ?_
  try simp only [put_list, List.set_cons_zero, List.set_cons_succ]
  refine wpList_run (by kernel_rfl) (.agg (arr8 32 kid)) (w2) (exec_extract (vx := .tuple #[.slice A n c, .agg (arr8 32 kid)]) rfl (by kernel_rfl) (by kernel_rfl)) ?_
  try simp only [put_list, List.set_cons_zero, List.set_cons_succ]
  refine wpList_allocV (by kernel_rfl) 26 (by kernel_rfl) (arr8 32 k0) (fun _ => by kernel_rfl) ?_
  try simp only [put_list, List.set_cons_zero, List.set_cons_succ]
  refine wpList_run (by kernel_rfl) (.slice A n c) ((w2.alloc (.cells (arr8 32 k0) 26))) (exec_assign rfl (by kernel_rfl)) ?_
  try simp only [put_list, List.set_cons_zero, List.set_cons_succ]
  refine wpList_store_row (by kernel_rfl) 26 (Go.Operand.tmp 7) (Go.Operand.tmp 28) (by kernel_rfl) w2.heap.size (arr8 32 kid) (by kernel_rfl) (by kernel_rfl) _ _ (heap_alloc_new _ _) (by rw [arr8_size]; kernel_rfl) (by rw [arr8_size, arr8_size]) arr8_all ?_
  rw [alloc_setRow]
  refine wpList_nil ?_
  simp only [put_none]
  go_upto_region 5 with (fail)
  obtain ⟨X, hXe⟩ : ∃ X, X = w2.heap.size := ⟨_, rfl⟩
  rw [← hXe]
  have hbw1 := HB1.out
  have hbq : Below w.heap.size w w2 := (below_drewN hbw1 q1).trans (hb2.mono hbw1.size)
  refine wp_world (fun W => Hid (Below w.heap.size w W ∧ W.ownsRow 0 5 1 (.slice A n c) n (ints .u8 (bys ys)) ∧ W.heap[X]? = some (.cells (arr8 32 kid) 26 (0, 0)))) ⟨hbq.trans ((below_alc w2 _).mono hbq.size), ownsRow_lower (own_keep hown fun k hk => (below_alc w2 _).block k (hown.lt k hk).2) (Nat.zero_le _), by rw [hXe]; exact heap1_0 w2 _⟩ ?_
  clear hbw1 hbq hXe hown hb2 HB1
  intro W0 HW
  obtain ⟨hb0, hown0, hX0⟩ := HW.out
  have HX := Lib.hid hX0
  have HB0 := Lib.hid hb0
  have HA : Hid (SlRead W0 A (ints .u8 (bys ys)) ∧ n ≤ c ∧ (∀ b o, A = some ⟨b, o, none⟩ → b < W0.heap.size)) := by
    obtain ⟨A', c', e1, h1, _, h2⟩ := own_slice hown0
    simp only [Value.slice.injEq, true_and] at e1
    obtain ⟨rfl, rfl⟩ := e1
    exact ⟨own_read1 hown0, h1, fun b o e => (h2 _ e).2⟩
  have hE0 := HE.out.1.below hb0
  have HK := Lib.hid (HE.out.2.below hb0)
  have hnew := Lib.hid (s_new (q := 1000) (l := 3) hE0 (by decide))
  obtain ⟨S, hSe⟩ : ∃ S, S = W0.heap.size := ⟨_, rfl⟩
  rw [← hSe] at hnew
  clear hSe hE0 hb0 hown0 hX0 HW w1 w2
  go_upto_region 6 with (go_at_call 11; refine hnew.out.mono ?_; rintro r W1 ⟨rfl, hS⟩; clear hnew)
  refine wp_region_lit ?_
  try simp only [put_list, List.set_cons_zero, List.set_cons_succ]
  refine wpList_run (by kernel_rfl) (.pointer (some ⟨S, 0, none⟩)) (W1) (exec_move rfl (by kernel_rfl)) ?_
  try simp only [put_list, List.set_cons_zero, List.set_cons_succ]
  refine wpList_run (by kernel_rfl) (.bool false) (W1) (exec_bin (vx := .pointer (some ⟨S, 0, none⟩)) (vy := Go.Value.pointer none) rfl (by kernel_rfl) (by kernel_rfl)) ?_
  try simp only [put_list, List.set_cons_zero, List.set_cons_succ]
  refine wpList_run (by kernel_rfl) (.bool false) (W1) (exec_move rfl (by kernel_rfl)) ?_
  try simp only [put_list, List.set_cons_zero, List.set_cons_succ]
  refine wpList_runG (by kernel_rfl) (.pointer (some ⟨S, 0, none⟩)) (W1) (exec_move rfl (by kernel_rfl)) ?_
  try simp only [put_list, List.set_cons_zero, List.set_cons_succ]
  refine wpList_runG (by kernel_rfl) (.agg (arr8 32 kid)) (W1) (exec_load (vx := .pointer (some ⟨X, 0, none⟩)) rfl (by kernel_rfl) (load_idB W1 X kid (range_new (cs := (arr8 32 kid).toList) (by simpa using heap_below HX.out hS.be)))) ?_
  try simp only [put_list, List.set_cons_zero, List.set_cons_succ]
  refine wpList_runG (by kernel_rfl) (.slice A n c) (W1) (exec_move rfl (by kernel_rfl)) ?_
  try simp only [put_list, List.set_cons_zero, List.set_cons_succ]
  refine wpList_runG (by kernel_rfl) (.int .i64 (n : Int)) (W1) (exec_len (x := Go.Operand.tmp 35) (t := 24) (ty := 3) (vx := .slice A n c) (by kernel_rfl) (by kernel_rfl) (by kernel_rfl) (by kernel_rfl)) ?_
  refine wpList_call (by kernel_rfl) 12 #[Go.Operand.tmp 33, Go.Operand.tmp 34, Go.Operand.tmp 36] #[30, 26, 3] #[.pointer (some ⟨S, 0, none⟩), .agg (arr8 32 kid), .int .i64 (n : Int)] _ rfl (by kernel_rfl) (by kernel_rfl) (s_ok hS kid (n : Int) (by have := HN.out; omega) (by have := HN.out; omega) (by simp) few_nil rfl (by have := HN.out; rw [sum_nil]; omega)) ?_
  rintro r W2 ⟨rfl, V, g, _, hS2, _, _⟩
  clear hS
  have hS : Sto E W0 W2 S 1000 3 V [newB g kid (n : Int)] := hS2
  clear hS2
  refine ⟨_, rfl, ?_⟩
  try simp only [put_list, List.set_cons_zero, List.set_cons_succ]
  refine wpList_runG (by kernel_rfl) (.bool false) (W2) (exec_bin (vx := .nilIface) (vy := Go.Value.nilIface) rfl (by kernel_rfl) (by kernel_rfl)) ?_
  try simp only [put_list, List.set_cons_zero, List.set_cons_succ]
  refine wpList_run (by kernel_rfl) (.bool false) (W2) (exec_pick (b := false) rfl (by kernel_rfl) (by kernel_rfl)) ?_
  refine wpList_nil ?_
  simp only [put_list, List.set_cons_zero, List.set_cons_succ]
  have hby := Lib.hid (bytes_any A (bys ys) c W2 (HA.out.1.below hS.be) (by rw [bys_length]; have := HN.out; omega))
  have hbyl : (bys ys).length = n := by rw [bys_length]; exact HN.out.2.2.1
  rw [hbyl] at hby
  clear hbyl
  go_upto_region 9 with (go_at_call 24; refine hby.out.mono ?_; rintro r W3 ⟨v, rfl, hown, hb3⟩; clear hby)
  obtain ⟨bb, cb, rfl, hbb⟩ : ∃ bb cb, v = .slice (some ⟨bb, 0, none⟩) n cb ∧ W2.heap.size ≤ bb := by
    rcases hown.2 with ⟨_, h0⟩ | ⟨g', c', cur, e1, h1, _⟩
    · have := HN.out
      omega
    · exact ⟨g', c', e1, h1⟩
  have hcb : n ≤ cb := by
    obtain ⟨A', c', e1, h1, _⟩ := own_slice hown
    simp only [Value.slice.injEq, true_and] at e1
    rw [e1.2]
    exact h1
  have hbl3 : bb < W3.heap.size := (hown.lt bb rfl).2
  have hnot : ∀ x, stF S V [newB g kid (n : Int)] x → x ≠ bb := fun x hx => by have := hS.st.lt hx; omega
  have hW0b : W0.heap.size ≤ bb := Nat.le_trans hS.be.size hbb
  replace hS := hS.below hb3
  have hput := Lib.hid (s_put hS kid (some ⟨bb, 0, none⟩) (bys ys) n cb 0 (by simp [HN.out.2.2.1]) hcb (own_read1 hown) (fun b o e hx => hnot b hx (by simp only [Option.some.injEq, Addr.mk.injEq] at e; exact e.1.symm)) (by simp) (find_one _ _ (is_kid rfl)) rfl rfl (by simp) (by show (0 : Int) + n ≤ n; omega) (by have := HN.out; show 0 ≤ (n : Int) ∧ (n : Int) ≤ 30000; omega) (by simp))
  have HO := Lib.hid (And.intro hown (And.intro hbl3 (And.intro hnot hW0b)))
  clear hown hbl3 hnot hW0b hbb hb3 hcb
  go_upto_region 12 with (first | (refine wpList_load_row rfl 26 _ rfl X rfl _ _ _ _ (heap_below HX.out hS.be) Tryd.underlying26 rfl (by rw [arr8_size]; kernel_rfl) ?_) | (go_at_call 14; refine hput.out.mono ?_; rintro r W4 ⟨rfl, hq⟩; have HP := Lib.hid hq; clear hq hput))
  obtain ⟨D, hS2, ht4, hD⟩ := HP.out
  obtain ⟨hown, hbl3, hnot, hW0b⟩ := HO.out
  have hnb : ¬ stF S V [newB g kid (n : Int)] bb := fun hx => hnot bb hx rfl
  have HB4 : Hid (∀ (bs : List Int) (done : Bool) (i : Int), ¬ stF S V [⟨g, kid, (n : Int), D, bs, done, i⟩] bb) := fun bs done i hx => by
    rcases stF_one hx with h | h | h | h
    · exact hnb (.inl h)
    · exact hnb (.inr (.inl h))
    · exact hnb (.inr (.inr ⟨0, _, rfl, .inl h⟩))
    · rcases hD bb h with h | h
      · cases h
      · omega
  have hown4 := own_keep hown fun x hx => by
    obtain rfl : bb = x := Option.some.inj hx
    exact ht4.block bb hbl3 hnb
  replace hS : Sto E W0 W4 S 1000 3 V [⟨g, kid, (n : Int), D, bys ys, false, 0⟩] := by rw [← over_nil (bys ys)]; exact hS2
  obtain ⟨k, hk, hkn⟩ := exists_mod at' (n : Int) (by have := HN.out; omega)
  have hnk := fun W => number_nat at' (n : Int) k W (by have := HN.out; omega) hk
  have hkn2 : k < n := by omega
  obtain ⟨y, hy⟩ : ∃ y, ys[k]? = some y := ⟨ys[k]'(by rw [HN.out.2.2.1]; exact hkn2), List.getElem?_eq_getElem _⟩
  have hcell : W4.cell? ⟨bb, k, none⟩ = some (.int .u8 (n8 y)) := by
    have := hown4.cells (g := bb) rfl k (v8 y) (by rw [bys_ints, List.getElem?_map, hy]; rfl)
    rw [Addr.add_lit] at this
    simpa using this
  have hfz : W4.frozen? ⟨bb, k, none⟩ = false := by
    obtain ⟨cur, hc⟩ := own_cells hown4 (k := bb) rfl
    exact thaw_heap hc k
  have HS4 := Lib.hid (And.intro hS hW0b)
  clear hS hS2 ht4 hD hown hbl3 hnot hW0b hnb hown4 hk hkn hy HO HP
  have hki : (k : Int) < (n : Int) := by omega
  have hcell' : ∀ q, (W4.drewN q).cell? ⟨bb, k, none⟩ = some (.int .u8 (n8 y)) := fun _ => hcell
  have hfz' : ∀ q, (W4.drewN q).frozen? ⟨bb, k, none⟩ = false := fun _ => hfz
  go_upto_region 14 with (go_at_call 10; refine (hnk _).mono ?_; rintro r Y ⟨rfl, q5, rfl⟩; clear hnk)
  refine wp_world (fun W => Hid (Sto E W0 W S 1000 3 V [⟨g, kid, (n : Int), D, bys ys, false, 0⟩])) ?_ ?_
  · obtain ⟨hS, hW0b⟩ := HS4.out
    refine Sto.keep (hS.drewN q5) ((set_turnH _ bb k _).below (hS.drewN q5).be (hS.drewN q5).be.size (fun q e => by rw [e]; exact hW0b)) (fun x hx => heap_setCell_other (W4.drewN q5) ⟨bb, k, none⟩ x _ (fun e => HB4.out _ _ _ (by rw [← show x = bb from e]; exact hx)))
  clear hcell hfz hki HS4 hcell' hfz' hkn2
  intro W5 HW
  have hS := HW.out
  clear HW
  have hcom := Lib.hid (s_commit hS HK.out kid (by simp) (find_one _ _ (is_kid rfl)) rfl rfl ys rfl (by simp [HN.out.2.2.1]) (by have := HN.out; show (n : Int) ≤ 30000; omega) (by rw [HN.out.2.2.2]; exact beq_self_eq_true _))
  obtain ⟨m2, hm2⟩ : ∃ m2, m2 = min n 200 := ⟨_, rfl⟩
  have HM : Hid (m2 ≤ 200 ∧ m2 ≤ n ∧ 20 ≤ m2) := by have := HN.out; exact ⟨by omega, by omega, by omega⟩
  have hmin : ∀ w, (Builtin.min_ #[3, 3] 3 #[.int .i64 (n : Int), .int .i64 200]).run Tryd.prog w = .ok (.int .i64 (m2 : Int)) w := fun w => by
    rw [run_min_int2]
    congr 2
    split <;> omega
  clear hm2
  go_upto_region 17 with (first | (refine wpList_load_row rfl 26 _ rfl X rfl _ _ _ _ (heap_below HX.out hS.be) Tryd.underlying26 rfl (by rw [arr8_size]; kernel_rfl) ?_) | (go_at_call 16; refine hcom.out.mono ?_; rintro r W6 ⟨rfl, hq⟩; have HQ := Lib.hid hq; clear hq hcom))
  have hS6 : Sto E W0 W6 S 1000 3 V [⟨g, kid, (n : Int), D, bys ys, true, 0⟩] := HQ.out.1
  clear hS HQ hmin
  have hS := hS6
  clear hS6
  have hget := Lib.hid (s_get hS kid (by simp) (find_one _ _ (is_kid rfl)) rfl rfl 0 m2 (by have := HM.out; omega) (by show 0 + m2 ≤ (bys ys).length; rw [bys_length, HN.out.2.2.1]; have := HM.out; omega) (by show ((bys ys).length : Int) = n; rw [bys_length, HN.out.2.2.1]) (by have := HN.out; show (n : Int) ≤ 30000; omega))
  go_upto_region 18 with (first | (refine wpList_load_row rfl 26 _ rfl X rfl _ _ _ _ (heap_below HX.out hS.be) Tryd.underlying26 rfl (by rw [arr8_size]; kernel_rfl) ?_) | (go_at_call 15; refine hget.out.mono ?_; rintro r W8 ⟨Ag, cg, rfl, hq⟩; have HQ := Lib.hid hq; clear hq hget))
  obtain ⟨hS2, ht, hog⟩ := HQ.out
  have hlo := fun x (hx : stF S V [⟨g, kid, (n : Int), D, bys ys, true, 0⟩] x) => hS.st.lt hx
  have hW68 := hS.be.size
  clear hS
  have hS : Sto E W0 W8 S 1000 3 V [⟨g, kid, (n : Int), D, bys ys, true, 0⟩] := hS2
  have hl1 : ((bys ys).take m2).length = m2 := by rw [List.length_take, bys_length, HN.out.2.2.1]; have := HM.out; omega
  have hall2 : ∀ W, Below W0.heap.size W0 W → SlRead W A (ints .u8 ((bys ys).take m2)) := fun W hb => by
    rw [← ints_take]
    exact (HA.out.1.below hb).take m2
  have HAL := Lib.hid hall2
  have hsame : Quiets Tryd.prog 18 #[.slice Ag m2 cg, .slice A m2 c] W8 (.bool true) := by
    have h3 := sameBytes_any Ag A ((bys ys).take m2) _ cg c W8 (own_read1 hog) (hall2 W8 hS.be) (by rw [hl1]; have := HM.out; omega) (by rw [hl1]; have := HM.out; omega)
    rw [hl1, decide_eq_true rfl] at h3
    exact h3
  have hm2c : m2 ≤ c := by have := HM.out; have := HA.out.2.1; omega
  obtain ⟨gb, cgb, hAg, hgb⟩ : ∃ gb cgb, Value.slice Ag m2 cg = .slice (some ⟨gb, 0, none⟩) m2 cgb ∧ W6.heap.size ≤ gb := by
    rcases hog.2 with ⟨_, h0⟩ | ⟨g', c', cur, e1, h1, _⟩
    · have := HM.out
      omega
    · exact ⟨g', c', e1, h1⟩
  simp only [Value.slice.injEq, true_and] at hAg
  obtain ⟨rfl, hcgb⟩ := hAg
  clear hcgb
  obtain ⟨z0, hz0⟩ : ∃ z, ((bys ys).take m2)[0]? = some z := ⟨((bys ys).take m2)[0]'(by rw [hl1]; have := HM.out; omega), List.getElem?_eq_getElem _⟩
  have hcell : W8.cell? ⟨gb, 0, none⟩ = some (.int .u8 z0) := by
    have := hog.cells (g := gb) rfl 0 (.int .u8 z0) (by simp only [List.drop_zero, ints, List.getElem?_map, hz0]; rfl)
    rw [Addr.add_lit] at this
    simpa using this
  have hfz : W8.frozen? ⟨gb, 0, none⟩ = false := by
    obtain ⟨cur, hc⟩ := own_cells hog (k := gb) rfl
    exact thaw_heap hc 0
  have HGB : Hid (∀ x, stF S V [⟨g, kid, (n : Int), D, bys ys, true, 0⟩] x → x ≠ gb) := fun x hx => by have := hlo x hx; omega
  have HW0g : Hid (W0.heap.size ≤ gb) := Nat.le_trans hW68 hgb
  clear hS2 ht hog HQ hlo hW68 hz0 hgb hl1 hall2
  refine wp_region_lit ?_
  try simp only [put_list, List.set_cons_zero, List.set_cons_succ]
  refine wpList_run (by kernel_rfl) (.nilIface) (W8) (exec_move rfl (by kernel_rfl)) ?_
  try simp only [put_list, List.set_cons_zero, List.set_cons_succ]
  refine wpList_run (by kernel_rfl) (.bool false) (W8) (exec_bin (vx := .nilIface) (vy := Go.Value.nilIface) rfl (by kernel_rfl) (by kernel_rfl)) ?_
  try simp only [put_list, List.set_cons_zero, List.set_cons_succ]
  refine wpList_run (by kernel_rfl) (.bool false) (W8) (exec_move rfl (by kernel_rfl)) ?_
  try simp only [put_list, List.set_cons_zero, List.set_cons_succ]
  refine wpList_runG (by kernel_rfl) (.slice (some ⟨gb, 0, none⟩) m2 cg) (W8) (exec_move rfl (by kernel_rfl)) ?_
  try simp only [put_list, List.set_cons_zero, List.set_cons_succ]
  refine wpList_runG (by kernel_rfl) (.slice A n c) (W8) (exec_move rfl (by kernel_rfl)) ?_
  try simp only [put_list, List.set_cons_zero, List.set_cons_succ]
  refine wpList_runG (by kernel_rfl) (.int .i64 (m2 : Int)) (W8) (exec_move rfl (by kernel_rfl)) ?_
  try simp only [put_list, List.set_cons_zero, List.set_cons_succ]
  refine wpList_runG (by kernel_rfl) (.slice A m2 c) (W8) (exec_slice (vx := .slice A n c) (l := none) (h := some (.int .i64 (m2 : Int))) (m := none) rfl (by kernel_rfl) (slice_hi Tryd.underlying24 (by kernel_rfl) _ n c m2 (by omega) _)) ?_
  refine wpList_call (by kernel_rfl) 18 #[Go.Operand.tmp 80, Go.Operand.tmp 83] #[24, 24] #[.slice (some ⟨gb, 0, none⟩) m2 cg, .slice A m2 c] _ rfl (by kernel_rfl) (by kernel_rfl) (hsame) ?_
  rintro r Y ⟨rfl, q9, rfl⟩
  refine ⟨_, rfl, ?_⟩
  try simp only [put_list, List.set_cons_zero, List.set_cons_succ]
  refine wpList_runG (by kernel_rfl) (.bool false) ((W8.drewN q9)) (exec_un (vx := .bool true) rfl (by kernel_rfl) (by kernel_rfl)) ?_
  try simp only [put_list, List.set_cons_zero, List.set_cons_succ]
  refine wpList_run (by kernel_rfl) (.bool false) ((W8.drewN q9)) (exec_pick (b := false) rfl (by kernel_rfl) (by kernel_rfl)) ?_
  refine wpList_nil ?_
  simp only [put_list, List.set_cons_zero, List.set_cons_succ]
  have hS9 := hS.drewN q9
  have hcell' : (W8.drewN q9).cell? ⟨gb, 0, none⟩ = some (.int .u8 z0) := hcell
  have hfz' : (W8.drewN q9).frozen? ⟨gb, 0, none⟩ = false := hfz
  clear hS hcell hfz
  generalize W8.drewN q9 = W9 at *
  have HS9 := Lib.hid hS9
  have h0m : (0 : Int) < (m2 : Int) := by have := HM.out; omega
  clear hS9 hsame
  go_upto_region 21 with (fail)
  refine wp_world (fun W => Hid (Sto E W0 W S 1000 3 V [⟨g, kid, (n : Int), D, bys ys, true, 0⟩])) ?_ ?_
  · exact HS9.out.keep ((set_turnH W9 gb 0 _).below HS9.out.be HS9.out.be.size (fun q e => by rw [e]; exact HW0g.out)) (fun x hx => heap_setCell_other W9 ⟨gb, 0, none⟩ x _ (fun e => HGB.out x hx e))
  clear hcell' hfz' h0m HS9
  intro Wc HW
  have hS := HW.out
  clear HW
  have hget2 := Lib.hid (s_get hS kid (by simp) (find_one _ _ (is_kid rfl)) rfl rfl 0 m2 (by have := HM.out; omega) (by show 0 + m2 ≤ (bys ys).length; rw [bys_length, HN.out.2.2.1]; have := HM.out; omega) (by show ((bys ys).length : Int) = n; rw [bys_length, HN.out.2.2.1]) (by have := HN.out; show (n : Int) ≤ 30000; omega))
  go_upto_region 22 with (first | (refine wpList_load_row rfl 26 _ rfl X rfl _ _ _ _ (heap_below HX.out hS.be) Tryd.underlying26 rfl (by rw [arr8_size]; kernel_rfl) ?_) | (go_at_call 15; refine hget2.out.mono ?_; rintro r Wd ⟨A2, c2, rfl, hq⟩; have HQ := Lib.hid hq; clear hq hget2))
  obtain ⟨hS2, _, hog⟩ := HQ.out
  clear hS
  have hS : Sto E W0 Wd S 1000 3 V [⟨g, kid, (n : Int), D, bys ys, true, 0⟩] := hS2
  have HRD : Hid (SlRead Wd A2 (ints .u8 ((bys ys).take m2))) := own_read1 hog
  clear hS2 hog HQ
  have hall := Lib.hid (all_kid hS (k := kid) rfl)
  go_upto_region 25 with (go_at_call 22; refine hall.out.mono ?_; rintro r Wb ⟨lb, cl, rfl, hq⟩; have HQ := Lib.hid hq; clear hq hall)
  obtain ⟨_, hge1, ⟨cs1, hc1, hs1⟩, hb1⟩ := HQ.out
  have hth : Wb.there lb 0 (arr8 32 k0).size := fun j hj => by
    rw [arr8_size] at hj
    exact ⟨Option.isSome_of_eq_some (cell_heap (i := 0 + j) hc1 (Array.getElem?_eq_getElem (by omega))), thaw_heap hc1 _⟩
  have hsto : (Instr.storeAt 26 (.pointer (some ⟨lb, 0, none⟩)) (.agg (arr8 32 k0))).run Tryd.prog Wb = .ok () (Wb.setCells lb 0 (arr8 32 k0).toList) := run_storeAt_mid Wb lb 0 26 (arr8 32 k0) hth (by rw [arr8_size]; kernel_rfl) arr8_all
  have HLB := Lib.hid (And.intro hS (And.intro hge1 hb1))
  clear hS hge1 hc1 hs1 hb1 hth HQ
  refine wp_region_lit ?_
  try simp only [put_list, List.set_cons_zero, List.set_cons_succ]
  refine wpList_run (by kernel_rfl) (.slice (some ⟨lb, 0, none⟩) 1 cl) (Wb) (exec_move rfl (by kernel_rfl)) ?_
  try simp only [put_list, List.set_cons_zero, List.set_cons_succ]
  refine wpList_run (by kernel_rfl) (.agg (arr8 32 k0)) (Wb) (exec_build (vs := #[]) rfl (by kernel_rfl) (by kernel_rfl)) ?_
  try simp only [put_list, List.set_cons_zero, List.set_cons_succ]
  refine wpList_run (by kernel_rfl) (.pointer (some ⟨lb, 0, none⟩)) (Wb) (exec_index (vx := .slice (some ⟨lb, 0, none⟩) 1 cl) (vy := Go.Value.int Go.IntKind.i64 0) rfl (by kernel_rfl) (idx_l lb cl _)) ?_
  refine wpList_skip rfl ((Wb.setCells lb 0 (arr8 32 k0).toList)) (exec_store (vx := .pointer (some ⟨lb, 0, none⟩)) (vy := .agg (arr8 32 k0)) rfl (by kernel_rfl) (hsto)) ?_
  refine wpList_nil ?_
  try simp only [put_list, put_none, List.set_cons_zero, List.set_cons_succ]
  clear hsto
  go_upto_region 26 with (fail)
  refine wp_world (fun W => Hid (Sto E W0 W S 1000 3 V [⟨g, kid, (n : Int), D, bys ys, true, 0⟩] ∧ SlRead W A2 (ints .u8 ((bys ys).take m2)))) ?_ ?_
  · obtain ⟨hS, hge1, hb1⟩ := HLB.out
    have hS1 := hS.below hb1
    have ht : Turn (· = lb) Wb (Wb.setCells lb 0 (arr8 32 k0).toList) := Turn.of_grown (grown_setCells Wb lb 0 _) (fun _ hk => (Option.some.inj hk).symm)
    have hlt : ∀ x, stF S V [⟨g, kid, (n : Int), D, bys ys, true, 0⟩] x → x ≠ lb := fun x hx => by have := hS.st.lt hx; omega
    refine ⟨hS1.keep (ht.below hS1.be hS1.be.size (fun q e => by rw [e]; exact Nat.le_trans hS.be.size hge1)) (fun x hx => ht.block x (hS1.st.lt hx) (fun e => hlt x hx e)), fun hp => ?_⟩
    obtain ⟨b', o', e1, hlt2, hc⟩ := HRD.out hp
    refine ⟨b', o', e1, Nat.lt_of_lt_of_le hlt2 (Nat.le_trans hb1.size ht.size), fun j u hu => ?_⟩
    exact (ht.cell (Nat.lt_of_lt_of_le hlt2 hb1.size) (fun (e : b' = lb) => by omega)).trans ((hb1.cell (p := ⟨b', o' + j, none⟩) hlt2).trans (hc j u hu))
  clear HLB HRD
  intro We HW
  obtain ⟨hS, hrd⟩ := HW.out
  clear HW
  have hall := Lib.hid (all_kid hS (k := kid) rfl)
  have HSE := Lib.hid (And.intro hS hrd)
  clear hS hrd
  go_upto_region 27 with (go_at_call 22; refine hall.out.mono ?_; rintro r Wf ⟨mb, cm, rfl, hq⟩; have HQ := Lib.hid hq; clear hq hall)
  obtain ⟨hmr0, _, _, hb1⟩ := HQ.out
  have hS : Sto E W0 Wf S 1000 3 V [⟨g, kid, (n : Int), D, bys ys, true, 0⟩] := HSE.out.1.below hb1
  have hmr : Wf.drew.rangeAt mb 0 (arr8 32 kid).toList := fun j v hv => hmr0 j v hv
  have hl1 : ((bys ys).take m2).length = m2 := by rw [List.length_take, bys_length, HN.out.2.2.1]; have := HM.out; omega
  have hsame : Quiets Tryd.prog 18 #[.slice A2 m2 c2, .slice A m2 c] Wf.drew (.bool true) := by
    have h1 : SlRead Wf A2 (ints .u8 ((bys ys).take m2)) := HSE.out.2.below hb1
    have h3 := sameBytes_any A2 A ((bys ys).take m2) _ c2 c Wf.drew (fun h => h1 h) (fun h => HAL.out Wf hS.be h) (by rw [hl1]; have := HM.out; omega) (by rw [hl1]; have := HM.out; omega)
    rw [hl1, decide_eq_true rfl] at h3
    exact h3
  clear hmr0 hb1 HQ HSE hl1
  refine wp_region_noPanic ?_
  refine wp_region_held_drew (S := fun W => W.heap[X]? = some (.cells (arr8 32 kid) 26 (0, 0)) ∧ W.rangeAt mb 0 (arr8 32 kid).toList) (by kernel_rfl) (⟨heap_below HX.out hS.drew.be, hmr⟩) (fun hHeld => ?_)
  refine held_move 0 (Go.Operand.tmp 5) (some 110) (.bool true) (by kernel_rfl) (by kernel_rfl) (by kernel_rfl) (by kernel_rfl) (by kernel_rfl) (fun _ _ _ _ _ h => h) hHeld ?_
  refine held_move 1 (Go.Operand.tmp 110) (some 111) (.bool true) (by kernel_rfl) (by kernel_rfl) (by kernel_rfl) (by kernel_rfl) (by kernel_rfl) (fun _ _ _ _ _ h => h) hHeld ?_
  refine held_move 2 (Go.Operand.tmp 17) (some 112) (.nilIface) (by kernel_rfl) (by kernel_rfl) (by kernel_rfl) (by kernel_rfl) (by kernel_rfl) (fun _ _ _ _ _ h => h) hHeld ?_
  refine held_bin 3 Go.BinOp.eql 33 (Go.Operand.tmp 112) (Go.Operand.const Go.Value.nilIface) 33 (some 113) (.nilIface) (Go.Value.nilIface) (.bool true) (by kernel_rfl) (by kernel_rfl) (fun w => by kernel_rfl) (by kernel_rfl) (by kernel_rfl) (by kernel_rfl) (fun _ _ _ _ _ h => h) hHeld ?_
  refine held_pick 4 (Go.Operand.tmp 111) (Go.Operand.tmp 113) (Go.Operand.const (Go.Value.bool false)) (some 114) true (.bool true) (by kernel_rfl) (by kernel_rfl) (by kernel_rfl) (by kernel_rfl) (by kernel_rfl) (by kernel_rfl) (fun _ _ _ _ _ h => h) hHeld ?_
  refine held_move 5 (Go.Operand.tmp 114) (some 115) (.bool true) (by kernel_rfl) (by kernel_rfl) (by kernel_rfl) (by kernel_rfl) (by kernel_rfl) (fun _ _ _ _ _ h => h) hHeld ?_
  refine held_move 6 (Go.Operand.tmp 16) (some 116) (.slice A2 m2 c2) (by kernel_rfl) (by kernel_rfl) (by kernel_rfl) (by kernel_rfl) (by kernel_rfl) (fun _ _ _ _ _ h => h) hHeld ?_
  refine held_move 7 (Go.Operand.tmp 6) (some 117) (.slice A n c) (by kernel_rfl) (by kernel_rfl) (by kernel_rfl) (by kernel_rfl) (by kernel_rfl) (fun _ _ _ _ _ h => h) hHeld ?_
  refine held_move 8 (Go.Operand.tmp 13) (some 118) (.int .i64 (m2 : Int)) (by kernel_rfl) (by kernel_rfl) (by kernel_rfl) (by kernel_rfl) (by kernel_rfl) (fun _ _ _ _ _ h => h) hHeld ?_
  refine held_slice 9 24 (Go.Operand.tmp 117) none (some (Go.Operand.tmp 118)) none (some 119) (.slice A n c) none (some (.int .i64 (m2 : Int))) none (.slice A m2 c) (by kernel_rfl) (by kernel_rfl) (fun w => slice_hi Tryd.underlying24 (by kernel_rfl) _ n c m2 (by omega) w) (by kernel_rfl) (by kernel_rfl) (by kernel_rfl) (fun _ _ _ _ _ h => h) hHeld ?_
  refine held_call 10 18 #[Go.Operand.tmp 116, Go.Operand.tmp 119] #[24, 24] (some 120) #[.slice A2 m2 c2, .slice A m2 c] _ (by kernel_rfl) (by kernel_rfl) (by kernel_rfl) (by kernel_rfl) (hsame) ?_
  rintro r Y ⟨rfl, q9, rfl⟩
  refine ⟨_, rfl, ⟨hHeld.1, hHeld.2⟩, fun hHeld => ?_⟩
  refine held_pick 11 (Go.Operand.tmp 115) (Go.Operand.tmp 120) (Go.Operand.const (Go.Value.bool false)) (some 121) true (.bool true) (by kernel_rfl) (by kernel_rfl) (by kernel_rfl) (by kernel_rfl) (by kernel_rfl) (by kernel_rfl) (fun _ _ _ _ _ h => h) hHeld ?_
  refine held_move 12 (Go.Operand.tmp 121) (some 122) (.bool true) (by kernel_rfl) (by kernel_rfl) (by kernel_rfl) (by kernel_rfl) (by kernel_rfl) (fun _ _ _ _ _ h => h) hHeld ?_
  refine held_move 13 (Go.Operand.tmp 19) (some 123) (.slice (some ⟨mb, 0, none⟩) 1 cm) (by kernel_rfl) (by kernel_rfl) (by kernel_rfl) (by kernel_rfl) (by kernel_rfl) (fun _ _ _ _ _ h => h) hHeld ?_
  refine held_any 14 (Go.Op.call { callee := Go.Callee.builtin Go.Builtin.len, args := #[Go.Operand.tmp 123], argTypes := #[48] }) (some 124) (.int .i64 1) (by kernel_rfl) (by kernel_rfl) (by kernel_rfl) (by kernel_rfl) (fun _ _ _ _ _ h => h) hHeld (fun o ho w hw => exec_len (vx := .slice (some ⟨mb, 0, none⟩) 1 cm) ho rfl (by kernel_rfl) (len_l _ (some ⟨mb, 0, none⟩) cm w)) ?_
  refine held_bin 15 Go.BinOp.eql 3 (Go.Operand.tmp 124) (Go.Operand.const (Go.Value.int Go.IntKind.i64 1)) 3 (some 125) (.int .i64 1) (Go.Value.int Go.IntKind.i64 1) (.bool true) (by kernel_rfl) (by kernel_rfl) (fun w => by kernel_rfl) (by kernel_rfl) (by kernel_rfl) (by kernel_rfl) (fun _ _ _ _ _ h => h) hHeld ?_
  refine held_pick 16 (Go.Operand.tmp 122) (Go.Operand.tmp 125) (Go.Operand.const (Go.Value.bool false)) (some 126) true (.bool true) (by kernel_rfl) (by kernel_rfl) (by kernel_rfl) (by kernel_rfl) (by kernel_rfl) (by kernel_rfl) (fun _ _ _ _ _ h => h) hHeld ?_
  refine held_move 17 (Go.Operand.tmp 126) (some 127) (.bool true) (by kernel_rfl) (by kernel_rfl) (by kernel_rfl) (by kernel_rfl) (by kernel_rfl) (fun _ _ _ _ _ h => h) hHeld ?_
  refine held_move 18 (Go.Operand.tmp 19) (some 128) (.slice (some ⟨mb, 0, none⟩) 1 cm) (by kernel_rfl) (by kernel_rfl) (by kernel_rfl) (by kernel_rfl) (by kernel_rfl) (fun _ _ _ _ _ h => h) hHeld ?_
  refine held_index 19 48 (Go.Operand.tmp 128) (Go.Operand.const (Go.Value.int Go.IntKind.i64 0)) (some 129) (.slice (some ⟨mb, 0, none⟩) 1 cm) (Go.Value.int Go.IntKind.i64 0) (.pointer (some ⟨mb, 0, none⟩)) (by kernel_rfl) (by kernel_rfl) (fun w => idx_l mb cm w) (by kernel_rfl) (by kernel_rfl) (by kernel_rfl) (fun _ _ _ _ _ h => h) hHeld ?_
  refine held_cell 20 26 (Go.Operand.tmp 129) (some 130) (.pointer (some ⟨mb, 0, none⟩)) (.agg (arr8 32 kid)) (by kernel_rfl) (by kernel_rfl) (fun W hw => load_idB W mb kid hw.2) (by kernel_rfl) (by kernel_rfl) (by kernel_rfl) (fun _ _ _ _ _ h => h) hHeld ?_
  refine held_cell 21 26 (Go.Operand.tmp 7) (some 131) (.pointer (some ⟨X, 0, none⟩)) (.agg (arr8 32 kid)) (by kernel_rfl) (by kernel_rfl) (fun W hw => load_idB W X kid (range_new (cs := (arr8 32 kid).toList) (by simpa using hw.1))) (by kernel_rfl) (by kernel_rfl) (by kernel_rfl) (fun _ _ _ _ _ h => h) hHeld ?_
  refine held_any 22 (Go.Op.binOp Go.BinOp.eql 26 (Go.Operand.tmp 130) (Go.Operand.tmp 131) 26) (some 132) (.bool true) (by kernel_rfl) (by kernel_rfl) (by kernel_rfl) (by kernel_rfl) (fun _ _ _ _ _ h => h) hHeld (fun o ho w hw => exec_eqrow (k := .eql) (cx := arr8 32 kid) (cy := arr8 32 kid) (b := true) (.inl rfl) ho (by kernel_rfl) (by kernel_rfl) (by have := eq_ids kid kid w; rwa [beq_self_eq_true] at this)) ?_
  refine held_pick 23 (Go.Operand.tmp 127) (Go.Operand.tmp 132) (Go.Operand.const (Go.Value.bool false)) (some 133) true (.bool true) (by kernel_rfl) (by kernel_rfl) (by kernel_rfl) (by kernel_rfl) (by kernel_rfl) (by kernel_rfl) (fun _ _ _ _ _ h => h) hHeld ?_
  refine held_assign 24 (Go.Operand.tmp 133) (some 4) (.bool true) (by kernel_rfl) (by kernel_rfl) (by kernel_rfl) (by kernel_rfl) (by kernel_rfl) (fun _ _ _ _ _ h => h) hHeld ?_
  refine wpAnyH_done (by kernel_rfl) ?_ _
  refine NoPanic.normal ?_
  try simp only [Act.put, List.setIfInBounds_toArray, List.set_cons_zero, List.set_cons_succ]
  have HF := Lib.hid (HB0.out.trans ((below_drewN hS.drew.be q9).mono HB0.out.size))
  clear hS hmr hHeld hm2c
  go_wp2_with fail
  go_ret
  exact ⟨rfl, HF.out⟩
end Go.Proofs.YtegijahkiopncaaDoor
