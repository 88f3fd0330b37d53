import Derived.Test.YtocjmlncpjfnfaaDoorFrg
/-
  frame: the number of a placed error; what is not read is answered; first.
  FrameBack: the walk.
-/
namespace Go.Proofs.YtocjmlncpjfnfaaDoor
open Go.RowKit

theorem assert_atF (b : Nat) (w : World) : (Instr.typeAssert (atV b) 38 92 true).run Tryd.prog w = .ok (.tuple #[.pointer (some ⟨b, 0, none⟩), .bool true]) w := by kernel_rfl
theorem bare_at (b : Nat) (z : Int) (x : Addr) (w : World) (h : AtAt b z (errV x) w) : Calls Tryd.prog 63 #[atV b] w fun e w' => e = .returned (errV x) ∧ w' = w := by
  have has := assert_atF b
  have has2 := assert_errF x
  have h1 := h.e
  clear h
  go_enter Tryd.func63, Tryd.ntmps63
  go_wp2_with fail
  go_loopw [0, 5] (fun x0 i wr => ((x0 = atV b ∧ i = .int .i64 0) ∨ (x0 = errV x ∧ i = .int .i64 1)) ∧ wr = w) (fun _ i _ => 2 - (intOf i).toNat)
  case atStart => exact ⟨.inl ⟨rfl, rfl⟩, rfl⟩
  case round =>
    obtain ⟨⟨rfl, rfl⟩ | ⟨rfl, rfl⟩, rfl⟩ := hrel
    · go_wp2_with fail
      go_roundw
      case rel => exact ⟨.inr ⟨rfl, rfl⟩, trivial⟩
      case measure => simp [intOf]
    · go_wp2_with fail
      go_ret
      exact ⟨rfl, rfl⟩
set_option maxRecDepth 100000 in
theorem code_at (E : Nat → Addr) (k : Nat) (hk : k < 19) (b : Nat) (z : Int) (w : World) (h : ErrsAt E w) (ha : AtAt b z (errV (E k)) w) :
    Calls Tryd.prog 28 #[atV b] w fun e w' => e = .returned (.int .i64 ((k : Int) + 1)) ∧ Below w.heap.size w w' := by
  have hb : Below w.heap.size w (w.alloc (.cells (errRow E) 38)) := (Below.refl _ _).alloc (Nat.le_refl _) _
  have h1 := h.below hb
  have hba := bare_at b z (E k) w ha
  have hli := errlist_any E w h
  clear ha
  go_enter Tryd.func28, Tryd.ntmps28
  go_upto_region 5 with (first | (go_at_call 63; refine hba.mono ?_; rintro e w ⟨rfl, rfl⟩; clear hba) | (go_at_call 55; refine hli.mono ?_; rintro e W ⟨rfl, rfl⟩; clear hli))
  have hc : ∀ j, j < 19 → (w.alloc (.cells (errRow E) 38)).cell? ⟨w.heap.size, j, none⟩ = some (errV (E j)) := fun j hj => by rw [World.cell?_alloc_new]; exact errRow_get E j hj
  generalize w.alloc (.cells (errRow E) 38) = W at *
  clear h
  generalize hO : w.heap.size = O at *
  have HO := Lib.hid hO; clear hO
  go_loopw [11] (fun i wr => ∃ j : Nat, j ≤ k ∧ i = .int .i64 j ∧ wr = W) (fun i _ => 19 - (intOf i).toNat)
  case atStart => exact ⟨0, by omega, rfl, rfl⟩
  case round =>
    obtain ⟨j, hj, rfl, rfl⟩ := hrel
    have cj := hc j (by omega)
    have hal := eql_err (E k) (E j) wr (h1.b k hk) (h1.b j (by omega))
    have hj0 : (j : Int) < 19 := by omega
    have hw1 : wrap64 ((j : Int) + 1) = (j : Int) + 1 := by unfold wrap64; omega
    by_cases e : j = k
    · subst e
      rw [show decide (E j = E j) = true by simp] at hal
      go_wp2_with fail
      go_ret
      exact ⟨rfl, by rw [HO.out]; exact hb⟩
    · rw [show decide (E k = E j) = false by simp; exact fun h => e (h1.n k hk j (by omega) h).symm] at hal
      go_wp2_with fail
      go_roundw
      case rel => exact ⟨j + 1, by omega, by go_num, trivial⟩
      case measure => simp [intOf]; omega
theorem rs_build1 (c : Int) (w : World) : (Instr.build 29 #[(0, .int .i64 c)]).run Tryd.prog w = .ok (.agg (rsA c 0 (.slice none 0 0))) w := by kernel_rfl
/-- what failed is answered by its number -/
theorem failure_of (v : Value) (k : Int) (w : World) (hc : Calls Tryd.prog 28 #[v] w fun e w' => e = .returned (.int .i64 k) ∧ Below w.heap.size w w') :
    Calls Tryd.prog 61 #[v] w fun e w' => ∃ u, e = .returned u ∧ w'.ownsRow w.heap.size 5 1 u 9 (ints .u8 (rsB k 0 [])) ∧ Below w.heap.size w w' := by
  go_enter Tryd.func61, Tryd.ntmps61
  go_wp2_with fail
  refine hc.mono ?_
  rintro e W ⟨rfl, hb⟩
  have hr := fresp_any k 0 none [] 0 W SlRead.nil_ (by simp)
  have HB := Lib.hid hb
  clear hc hb
  go_wp2_with (refine wpList_build rfl 29 _ rfl #[(0, .int .i64 k)] (by kernel_rfl) (.agg (rsA k 0 (.slice none 0 0))) (fun w => rs_build1 k w) ?_)
  refine hr.mono ?_
  rintro e V ⟨u, rfl, hown, hbV⟩
  have HF := Lib.hid (And.intro (ownsRow_lower hown HB.out.size) (HB.out.trans (hbV.mono HB.out.size)))
  clear hr hown hbV
  go_wp2_with fail
  go_ret
  exact ⟨u, rfl, HF.out⟩

set_option maxRecDepth 100000 in
theorem serve_bad (E : Nat → Addr) (S : Value) (A : Option Addr) (xs : List Int) (c : Nat) (w : World) (hA : SlRead w A (ints .u8 xs)) (hx : Byts xs) (hl : xs.length ≤ 1000) (hE : ErrsAt E w) (k : Nat) (z : Int) (ho : reqO xs = some (k, z)) :
    Calls Tryd.prog 27 #[S, .slice A xs.length c] w fun e w' => ∃ u, e = .returned u ∧ w'.ownsRow w.heap.size 5 1 u 9 (ints .u8 (rsB ((k : Int) + 1) 0 [])) ∧ Below w.heap.size w w' := by
  have hr := freq_read E A xs c w hA hx hl hE
  go_enter Tryd.func27, Tryd.ntmps27
  go_wp2_with fail
  refine hr.mono ?_
  rintro e W ⟨r, v, rfl, hp, ht, hb⟩
  have hz : r = rqA 0 zf 0 0 (.slice none 0 0) := by
    rcases hp with ⟨h, _⟩ | ⟨_, h⟩
    · rw [ho] at h; cases h
    · exact h
  subst hz
  rw [ho] at ht
  obtain ⟨hk, bt, rfl, hat⟩ := ht
  clear hr hp ho
  go_upto_region 3 with (refine wpList_store_row rfl 27 _ _ rfl W.heap.size (rqA 0 zf 0 0 (.slice none 0 0)) rfl rfl _ _ (heap_alloc_new _ _) (rq_info _ _ _ _ _) (by kernel_rfl) (rq_one _ _ _ _ _ _ _) ?_)
  refine wp_world (fun V => Below w.heap.size w V ∧ AtAt bt z (errV (E k)) V) ?_ ?_
  · rw [alloc_setRow]
    have hbb := below_alc W (.cells (rqA 0 zf 0 0 (.slice none 0 0)) 27)
    exact ⟨hb.trans (hbb.mono hb.size), hat.below hbb⟩
  rintro V ⟨hbV, hatV⟩
  have hf := failure_of (atV bt) ((k : Int) + 1) V (code_at E k hk bt z V (hE.below hbV) hatV)
  have HB := Lib.hid hbV
  clear hb hat hbV hatV
  go_wp2_with fail
  refine hf.mono ?_
  rintro e U ⟨u, rfl, hown, hbU⟩
  have HF := Lib.hid (And.intro (ownsRow_lower hown HB.out.size) (HB.out.trans (hbU.mono HB.out.size)))
  clear hf hown hbU
  go_wp2_with fail
  go_ret
  exact ⟨u, rfl, HF.out⟩
theorem err_one (E : Nat → Addr) (w : World) (h : ErrsAt E w) : Calls Tryd.prog 31 #[.int .i64 1] w fun e w' => e = .returned (errV (E 0)) ∧ Below w.heap.size w w' := by
  have hb : Below w.heap.size w (w.alloc (.cells (errRow E) 38)) := (Below.refl _ _).alloc (Nat.le_refl _) _
  have hli := errlist_any E w h
  clear h
  go_enter Tryd.func31, Tryd.ntmps31
  go_wp2_with fail
  refine hli.mono ?_
  rintro e W ⟨rfl, hW⟩
  have hc : W.cell? ⟨w.heap.size, 0, none⟩ = some (errV (E 0)) := by rw [hW, World.cell?_alloc_new]; exact errRow_get E 0 (by decide)
  rw [← hW] at hb
  have HB := Lib.hid hb
  clear hli hW hb
  go_wp2_with fail
  go_ret
  exact ⟨rfl, HB.out⟩
set_option maxRecDepth 100000 in
set_option maxHeartbeats 800000 in
theorem ffirst_any (E : Nat → Addr) (w : World) (hE : ErrsAt E w) : Calls Tryd.prog 6 #[] w fun e w' => e = .returned (.bool true) ∧ Below w.heap.size w w' := by
  have hn := new_b 100 5 (by omega) w
  go_enter Tryd.func6, Tryd.ntmps6
  go_wp2_with fail
  refine hn.mono ?_
  rintro e W ⟨rfl, _, hb⟩
  have hs := serve_bad E (.pointer (some ⟨w.heap.size, 0, none⟩)) none [] 0 W SlRead.nil_ (fun _ h => nomatch h) (by simp) (hE.below hb) 2 0 rfl
  have HE := Lib.hid hE
  clear hn hE
  go_wp2_with fail
  refine hs.mono ?_
  rintro e V ⟨u, rfl, hown, hbV⟩
  obtain ⟨A, c, rfl, _⟩ := own_slice (n := 9) hown
  obtain ⟨b, o, rfl, hbl, hcell⟩ := own_read hown (by decide)
  have c0 := hcell 0 (.int .u8 3) rfl
  rw [Nat.add_zero] at c0
  have hbw := hb.trans (hbV.mono hb.size)
  have hEV := HE.out.below hbw
  have cE := hEV.c 0 (by decide)
  have g0 : gE 0 = 2 := rfl
  rw [g0] at cE
  have h1 := code_e E 0 (by decide) V hEV
  have HB := Lib.hid hbw
  have HV := Lib.hid hEV
  clear hs hown hcell hb hbV hbw hEV g0
  go_wp2_with fail
  refine h1.mono ?_
  rintro e V1 ⟨rfl, hb1⟩
  have HB1 := Lib.hid (HB.out.trans (hb1.mono HB.out.size))
  have HV1 := Lib.hid (HV.out.below hb1)
  have h2 := code_nil V1
  clear h1 hb1 cE c0
  go_wp2_with fail
  refine h2.mono ?_
  rintro e V2 ⟨rfl, rfl⟩
  have h3 := err_one E V2 HV1.out
  clear h2
  go_wp2_with fail
  refine h3.mono ?_
  rintro e V3 ⟨rfl, hb3⟩
  have h4 := is_any E (errV (E 0)) 101 101 (.inr ⟨0, by decide, rfl, rfl⟩) V3 (HV1.out.below hb3)
  have HB3 := Lib.hid (HB1.out.trans (hb3.mono HB1.out.size))
  clear h3 hb3
  go_wp2_with fail
  refine h4.mono ?_
  rintro e V4 ⟨rfl, hb4⟩
  have HB4 := Lib.hid (HB3.out.trans (hb4.mono HB3.out.size))
  clear h4 hb4
  go_wp2_with fail
  go_ret
  exact ⟨rfl, HB4.out⟩
theorem region_cutG {P : Program} {c : Code} {Q : Exit → Act → World → Prop} {a : Act} {w : World} (R : Act → Act → World → Prop) (h : c.wp P (fun ex a' w' => ex = .normal ∧ R a a' w') a w) (k : ∀ a' w', R a a' w' → Q .normal a' w') : c.wp P Q a w :=
  wp_mono h fun _ _ _ ⟨h1, h2⟩ => h1 ▸ k _ _ h2
section
variable {P : Program} {md : Region.Mode} {ops : Array Oper} {Q : Exit → Act → World → Prop} {S : World → Prop} {fuel : Nat} {listed : Array Bool} {a : Act} {w : World}
/-- one of several that are ready: it makes a world -/
theorem rdy_run {rs : List Nat} (i : Nat) (op : Op) (ty : TypeId) (dst : Option Tmp) (v : Value) (w' : World) (hi : ops[i]?.map (fun o => (o.op, o.dst, Region.wanted o (yielded ops a.tmps))) = some (op, dst, true)) (hty : ops[i]?.map (·.type) = some ty)
    (hrun : ∀ o, o.op = op → o.type = ty → (execOp a.eval o).run P w = .ok (.value v) w') (hS : S w')
    (h : S w' → wpAnyH P md ops Q S fuel (listed.setIfInBounds i true) (a.put dst v) w') (rest : AllReadyH P md ops Q S fuel listed a w rs) : AllReadyH P md ops Q S fuel listed a w (i :: rs) := by
  obtain ⟨oi, ho, he⟩ := Option.map_eq_some_iff.1 hi
  simp only [Prod.mk.injEq] at he
  refine AllReadyH.cons ho (fun K hK => ?_) rest
  rw [if_pos he.2.2]
  have hr := hrun oi he.1 (by rw [ho] at hty; exact Option.some.inj hty)
  unfold Oper.wp
  rw [hr]
  rw [← he.2.1] at h
  exact hK _ _ hS h
end
theorem num_b (x n z : Int) (w : World) (hn : 0 < n ∧ n ≤ 4611686018427387904) (hz : x % n = z) : Calls Tryd.prog 13 #[.int .i64 x, .int .i64 n] w fun e w' => e = .returned (.int .i64 z) ∧ Below w.heap.size w w' := by
  subst hz
  refine (number_any x n w hn).mono ?_
  rintro e w' ⟨rfl, k, rfl⟩
  exact ⟨rfl, Below.drewNr k⟩
theorem exec_allocQ {ev : Operand → Value} {oo : Oper} {w : World} (ho : oo.op = .alloc 27) : (execOp ev oo).run Tryd.prog w = .ok (.value (.pointer (some ⟨w.heap.size, 0, none⟩))) (w.alloc (.cells (rqA 0 zf 0 0 (.slice none 0 0)) 27)) := by
  obtain ⟨dst, op, ty, pos, aft, gd⟩ := oo
  simp only at ho
  subst ho
  kernel_rfl
theorem rq_build5 (op : Int) (f : Nat → BitVec 8) (off n : Int) (A : Option Addr) (l c : Nat) (w : World) : (Instr.build 27 #[(0, .int .i64 op), (1, .agg (arr8 32 f)), (2, .int .u32 off), (3, .int .u32 n), (4, .slice A l c)]).run Tryd.prog w = .ok (.agg (rqA op f off n (.slice A l c))) w := by kernel_rfl
theorem rs_build3 (code n : Int) (A : Option Addr) (l c : Nat) (w : World) : (Instr.build 29 #[(0, .int .i64 code), (1, .int .u32 n), (2, .slice A l c)]).run Tryd.prog w = .ok (.agg (rsA code n (.slice A l c))) w := by kernel_rfl
theorem ld_q (g : Nat) (cs : Array Value) (W : World) (hi : (Tryd.prog.info? 27).map (·.size) = some cs.size) (h : W.heap[g]? = some (.cells cs 27 (0, 0))) : (Instr.loadAt 27 (.pointer (some ⟨g, 0, none⟩))).run Tryd.prog W = .ok (.agg cs) W := by
  simp only [Instr.loadAt, Instr.sureAddr, Sem.run_bind, Sem.run_pure, Result.andThen_ok, run_loadVar_row W g 27 27 cs (0, 0) _ h Tryd.underlying27 rfl hi]
theorem ld_s (g : Nat) (cs : Array Value) (W : World) (hi : (Tryd.prog.info? 29).map (·.size) = some cs.size) (h : W.heap[g]? = some (.cells cs 29 (0, 0))) : (Instr.loadAt 29 (.pointer (some ⟨g, 0, none⟩))).run Tryd.prog W = .ok (.agg cs) W := by
  simp only [Instr.loadAt, Instr.sureAddr, Sem.run_bind, Sem.run_pure, Result.andThen_ok, run_loadVar_row W g 29 29 cs (0, 0) _ h Tryd.underlying29 rfl hi]
theorem store_rowR (t : TypeId) (w : World) (g : Nat) (cells : Array Value) (old : Array Value) (h : w.heap[g]? = some (.cells old t (0, 0))) (hi : (Tryd.prog.info? t).map (·.size) = some cells.size) (hs : old.size = cells.size) (h1 : cells.all (·.oneCell') = true) : (Instr.storeAt t (.pointer (some ⟨g, 0, none⟩)) (.agg cells)).run Tryd.prog w = .ok () (w.setRow g cells) := store_rowH t w g t old cells h hi hs h1
/-- what was read is what was written -/
theorem RqP.back {op : Int} {f : Nat → BitVec 8} {off n : Int} {ys : List Int} {a : Nat} {r : Array Value} {w : World} (h : RqP (rqB op f off n ys) a r w) (ho : 1 ≤ op ∧ op ≤ 6) (hl : ys.length ≤ 200) (h1 : 0 ≤ off ∧ off < 4294967296) (h2 : 0 ≤ n ∧ n < 4294967296) :
    ∃ B c, r = rqA op f off n (.slice B ys.length c) ∧ SlRead w B (ints .u8 ys) ∧ ys.length ≤ c ∧ ∀ x, B = some x → a ≤ x.block := by
  rcases h with ⟨_, D, rfl, hw⟩ | ⟨hn, _⟩
  · rw [rqB_ys, rqB_len, Nat.add_sub_cancel_left] at hw
    obtain ⟨B, c, rfl, hB, hc, hb⟩ := own_form hw rfl
    refine ⟨B, c, ?_, hB, hc, hb⟩
    rw [rqB_op, rqB_off _ _ _ _ _ h1, rqB_n _ _ _ _ _ h2, rq_ext _ _ f _ _ _ (fun i hi => rqB_f op f off n ys i hi)]
    rw [show op % 256 = op by omega]
  · exact absurd (reqO_ok op f off n ys ho hl) hn
theorem RsP.back {code n : Int} {ys : List Int} {a : Nat} {r : Array Value} {w : World} (h : RsP (rsB code n ys) a r w) (ho : 0 ≤ code ∧ code ≤ 19) (hl : ys.length ≤ 200) (h2 : 0 ≤ n ∧ n < 4294967296) :
    ∃ B c, r = rsA code n (.slice B ys.length c) ∧ SlRead w B (ints .u8 ys) ∧ ys.length ≤ c ∧ ∀ x, B = some x → a ≤ x.block := by
  rcases h with ⟨_, D, rfl, hw⟩ | ⟨hn, _⟩
  · rw [rsB_ys, rsB_len, Nat.add_sub_cancel_left] at hw
    obtain ⟨B, c, rfl, hB, hc, hb⟩ := own_form hw rfl
    refine ⟨B, c, ?_, hB, hc, hb⟩
    rw [rsB_code, rsB_n _ _ _ h2, show code % 256 = code by omega]
  · exact absurd (rspO_ok code n ys ho hl) hn
/-- what is refused: its zeros, its error -/
theorem RqP.no {xs : List Int} {a k : Nat} {z : Int} {r : Array Value} {w : World} (h : RqP xs a r w) (ho : reqO xs = some (k, z)) : r = rqA 0 zf 0 0 (.slice none 0 0) := by
  rcases h with ⟨h1, _⟩ | ⟨_, h2⟩
  · rw [ho] at h1; cases h1
  · exact h2
theorem RsP.no {xs : List Int} {a k : Nat} {z : Int} {r : Array Value} {w : World} (h : RsP xs a r w) (ho : rspO xs = some (k, z)) : r = rsA 0 0 (.slice none 0 0) := by
  rcases h with ⟨h1, _⟩ | ⟨_, h2⟩
  · rw [ho] at h1; cases h1
  · exact h2
/-- reading what is refused -/
theorem req_no (E : Nat → Addr) (A : Option Addr) (xs : List Int) (m c : Nat) (w : World) (hA : SlRead w A (ints .u8 xs)) (hm : xs.length = m) (hx : Byts xs) (hl : m ≤ 1000) (hE : ErrsAt E w) (k : Nat) (z : Int) (ho : reqO xs = some (k, z)) :
    Calls Tryd.prog 14 #[.slice A m c] w fun e w' => ∃ b, e = .returned (.tuple #[.agg (rqA 0 zf 0 0 (.slice none 0 0)), atV b]) ∧ AtAt b z (errV (E k)) w' ∧ Below w.heap.size w w' := by
  subst hm
  refine (freq_read E A xs c w hA hx hl hE).mono ?_
  rintro e w' ⟨r, u, rfl, hp, ht, hb⟩
  rw [ho] at ht
  obtain ⟨_, b, rfl, hat⟩ := ht
  exact ⟨b, by rw [hp.no ho], hat, hb⟩
theorem rsp_no (E : Nat → Addr) (A : Option Addr) (xs : List Int) (m c : Nat) (w : World) (hA : SlRead w A (ints .u8 xs)) (hm : xs.length = m) (hx : Byts xs) (hl : m ≤ 1000) (hE : ErrsAt E w) (k : Nat) (z : Int) (ho : rspO xs = some (k, z)) :
    Calls Tryd.prog 16 #[.slice A m c] w fun e w' => ∃ b, e = .returned (.tuple #[.agg (rsA 0 0 (.slice none 0 0)), atV b]) ∧ AtAt b z (errV (E k)) w' ∧ Below w.heap.size w w' := by
  subst hm
  refine (fresp_read E A xs c w hA hx hl hE).mono ?_
  rintro e w' ⟨r, u, rfl, hp, ht, hb⟩
  rw [ho] at ht
  obtain ⟨_, b, rfl, hat⟩ := ht
  exact ⟨b, by rw [hp.no ho], hat, hb⟩
theorem req_yes (E : Nat → Addr) (A : Option Addr) (op : Int) (f : Nat → BitVec 8) (off n : Int) (ys : List Int) (m l c : Nat) (w : World) (hA : SlRead w A (ints .u8 (rqB op f off n ys))) (hm : 45 + ys.length = m) (hk : ys.length = l) (hy : Byts ys) (hl : l ≤ 200) (hE : ErrsAt E w) (ho : 1 ≤ op ∧ op ≤ 6) (h1 : 0 ≤ off ∧ off < 4294967296) (h2 : 0 ≤ n ∧ n < 4294967296) :
    Calls Tryd.prog 14 #[.slice A m c] w fun e w' => ∃ B cb, e = .returned (.tuple #[.agg (rqA op f off n (.slice B l cb)), .nilIface]) ∧ SlRead w' B (ints .u8 ys) ∧ (∀ x, B = some x → w.heap.size ≤ x.block) ∧ l ≤ cb ∧ Below w.heap.size w w' := by
  subst hk
  have hh := freq_read E A (rqB op f off n ys) c w hA (rqB_byts hy) (by rw [rqB_len]; omega) hE
  rw [rqB_len, hm] at hh
  refine hh.mono ?_
  rintro e w' ⟨r, u, rfl, hp, ht, hb⟩
  rw [reqO_ok op f off n ys ho hl] at ht
  obtain rfl : u = .nilIface := ht
  obtain ⟨B, cb, rfl, hB, hc, hb2⟩ := hp.back ho hl h1 h2
  exact ⟨B, cb, rfl, hB, hb2, hc, hb⟩
theorem rsp_yes (E : Nat → Addr) (A : Option Addr) (code n : Int) (ys : List Int) (m l c : Nat) (w : World) (hA : SlRead w A (ints .u8 (rsB code n ys))) (hm : 9 + ys.length = m) (hk : ys.length = l) (hy : Byts ys) (hl : l ≤ 200) (hE : ErrsAt E w) (ho : 0 ≤ code ∧ code ≤ 19) (h2 : 0 ≤ n ∧ n < 4294967296) :
    Calls Tryd.prog 16 #[.slice A m c] w fun e w' => ∃ B cb, e = .returned (.tuple #[.agg (rsA code n (.slice B l cb)), .nilIface]) ∧ SlRead w' B (ints .u8 ys) ∧ (∀ x, B = some x → w.heap.size ≤ x.block) ∧ l ≤ cb ∧ Below w.heap.size w w' := by
  subst hk
  have hh := fresp_read E A (rsB code n ys) c w hA (rsB_byts hy) (by rw [rsB_len]; omega) hE
  rw [rsB_len, hm] at hh
  refine hh.mono ?_
  rintro e w' ⟨r, u, rfl, hp, ht, hb⟩
  rw [rspO_ok code n ys ho hl] at ht
  obtain rfl : u = .nilIface := ht
  obtain ⟨B, cb, rfl, hB, hc, hb2⟩ := hp.back ho hl h2
  exact ⟨B, cb, rfl, hB, hb2, hc, hb⟩
/-- writing: the slice that comes out -/
theorem req_w (op : Int) (f : Nat → BitVec 8) (off n : Int) (A : Option Addr) (ys : List Int) (l c m : Nat) (w : World) (hA : SlRead w A (ints .u8 ys)) (hk : ys.length = l) (hm : 45 + ys.length = m) (hl : l ≤ 100000) :
    Calls Tryd.prog 10 #[.agg (rqA op f off n (.slice A l c))] w fun e w' => ∃ B cb, e = .returned (.slice B m cb) ∧ SlRead w' B (ints .u8 (rqB op f off n ys)) ∧ m ≤ cb ∧ (∀ x, B = some x → w.heap.size ≤ x.block) ∧ Below w.heap.size w w' := by
  subst hk
  refine (freq_any op f off n A ys c w hA hl).mono ?_
  rintro e w' ⟨v, rfl, hown, hb⟩
  obtain ⟨B, cb, rfl, hB, hc, h2⟩ := own_form hown (rqB_len _ _ _ _ _)
  rw [rqB_len, hm] at hc ⊢
  exact ⟨B, cb, rfl, hB, hc, h2, hb⟩
theorem rsp_w (code n : Int) (A : Option Addr) (ys : List Int) (l c m : Nat) (w : World) (hA : SlRead w A (ints .u8 ys)) (hk : ys.length = l) (hm : 9 + ys.length = m) (hl : l ≤ 100000) :
    Calls Tryd.prog 11 #[.agg (rsA code n (.slice A l c))] w fun e w' => ∃ B cb, e = .returned (.slice B m cb) ∧ SlRead w' B (ints .u8 (rsB code n ys)) ∧ m ≤ cb ∧ (∀ x, B = some x → w.heap.size ≤ x.block) ∧ Below w.heap.size w w' := by
  subst hk
  refine (fresp_any code n A ys c w hA hl).mono ?_
  rintro e w' ⟨v, rfl, hown, hb⟩
  obtain ⟨B, cb, rfl, hB, hc, h2⟩ := own_form hown (rsB_len _ _ _)
  rw [rsB_len, hm] at hc ⊢
  exact ⟨B, cb, rfl, hB, hc, h2, hb⟩
theorem fault_at3 (E : Nat → Addr) (b : Nat) (z : Int) (w : World) (h : ErrsAt E w) (hr : AtAt b z (errV (E 2)) w) : Calls Tryd.prog 21 #[atV b] w fun e w' => e = .returned (.agg #[.int .i64 103, .bool true, .int .i64 z]) ∧ Below w.heap.size w w' := faulta_any E b 2 z (by decide) w h hr
theorem heap_size_setCell (w : World) (a : Addr) (v : Value) : (w.setCell a v).heap.size = w.heap.size := by simp [World.setCell]
theorem put_turnF {w w0 w' : World} {N : Nat} {v : Value} (ho : ∀ g, v.ownBlock = some g → N ≤ g) (hb : Below w.heap.size w w0) (hg : w0.grownBy w' v.ownBlock) : Turn (fun q => N ≤ q) w w' :=
  (Turn.of_below hb).trans (Turn.of_grown (F := fun q => N ≤ q) hg (fun k hk => ho k hk)) (fun _ hq => .inl hq)
theorem at_neQ {W : World} {b g : Nat} {z : Int} {x : Addr} {op : Int} {f : Nat → BitVec 8} {off n : Int} {D : Value} {t : TypeId} (h : AtAt b z (errV x) W) (hg : W.heap[g]? = some (.cells (rqA op f off n D) t (0, 0))) : b ≠ g := fun e => by
  have h1 := h.e
  rw [e] at h1
  have h2 : W.cell? ⟨g, 1, none⟩ = some (v8 (f 0)) := rq_blob hg 0 _ rfl
  rw [h1] at h2
  cases h2
theorem at_neR {W : World} {b g : Nat} {z : Int} {x : Addr} {code n : Int} {D : Value} {t : TypeId} (h : AtAt b z (errV x) W) (hg : W.heap[g]? = some (.cells (rsA code n D) t (0, 0))) : b ≠ g := fun e => by
  have h1 := h.e
  rw [e, cell_heap hg (rs_c1 _ _ _)] at h1
  cases h1
theorem at_set {W : World} {b g : Nat} {z : Int} {v : Value} (h : AtAt b z v W) (hn : b ≠ g) (i : Nat) (u : Value) : AtAt b z v (W.setCell ⟨g, i, none⟩ u) := by
  have e := heap_setCell_other W ⟨g, i, none⟩ b u hn
  exact ⟨(World.cell?_of_block e).trans h.p, (World.cell?_of_block e).trans h.e⟩
theorem made_201 : madeCells #[.int .u8 0] 201 = (ints .u8 (List.replicate 201 0)).toArray := by kernel_rfl
theorem zeros_byts (n : Nat) : Byts (List.replicate n 0) := fun x hx => by
  rw [(List.mem_replicate.1 hx).2]
  omega
end Go.Proofs.YtocjmlncpjfnfaaDoor
