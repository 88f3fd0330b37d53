import Derived.Test.YtplmliomhpgfpaaDoorMfst
import Derived.Test.YtplmliomhpgfpaaDoorAzr
namespace Go.Proofs.YtplmliomhpgfpaaDoor
open Go.RowKit

section
variable {P : Program} {md : Region.Mode} {ops : Array Oper} {Q : Exit → Act → World → Prop} {S : World → Prop} {fuel : Nat} {listed : Array Bool} {a : Act} {w : World}
/-- one of the operations that are ready: an append whose run is known -/
theorem rdy_app {rs : List Nat} (i : Nat) (s x : Operand) (t tn ty : TypeId) (dst : Option Tmp) (vs vx v' : Value) (w' : World)
    (hi : ops[i]?.map (fun o => (o.op, o.dst, Region.wanted o (yielded ops a.tmps))) = some (.call { callee := .builtin .append, args := #[s, x], argTypes := #[t, tn] }, dst, true)) (hty : ops[i]?.map (·.type) = some ty)
    (hx : (a.eval s, a.eval x) = (vs, vx)) (hrun : (Builtin.append_ #[t, tn] ty #[vs, vx]).run P w = .ok v' w') (hS : S w')
    (h : S w' → wpAnyH P md ops Q S fuel (listed.setIfInBounds i true) (a.put dst v') w') (rest : AllReadyH P md ops Q S fuel listed a w rs) : AllReadyH P md ops Q S fuel listed a w (i :: rs) := by
  obtain ⟨oi, ho, he⟩ := Option.map_eq_some_iff.1 hi
  obtain ⟨oj, hoj, htj⟩ := Option.map_eq_some_iff.1 hty
  obtain rfl := Option.some.inj (ho.symm.trans hoj)
  simp only [Prod.mk.injEq] at he hx
  refine AllReadyH.cons ho (fun K hK => ?_) rest
  rw [if_pos he.2.2]
  unfold Oper.wp
  simp only [execOp, he.1, resolve, invoke, builtin, Sem.run_bind, Sem.run_pure, Result.andThen_ok, List.map_toArray, List.map_cons, List.map_nil, hx.1, hx.2, htj, hrun]
  rw [Oper.upon_value, he.2.1]
  exact hK.out _ _ hS h
end
theorem own_grown {w w' : World} {base : Nat} {e : TypeId} {v : Value} {n : Nat} {xs : List Value} (h : w.ownsRow base e 1 v n xs) (hb : base ≤ w.heap.size) (hg : w.grownBy w' v.ownBlock) : Below base w w' :=
  (Below.refl _ _).grown hg hb (fun j hj => (h.lt j hj).1)
theorem zeros_bys (ks : List (BitVec 8)) (m : Nat) : ints .u8 (bys ks) ++ List.replicate m (Value.int .u8 0) = ints .u8 (bys (ks ++ List.replicate m 0#8)) := by
  simp [ints, bys]
  right; rfl
theorem msum_sing (g : Nat) (A : Option Addr) (ks : List (BitVec 8)) (ca : Nat) (B : Option Addr) (ys : List (BitVec 8)) (cb : Nat) (w : World) (hA : SlRead w A (ints .u8 (bys ks))) (hca : ks.length ≤ ca) (hla : ks.length ≤ 4611686018427387904)
    (hs : SlRead w (some ⟨g, 0, none⟩) [.slice B ys.length cb]) (hB : SlRead w B (ints .u8 (bys ys))) (hcb : ys.length ≤ cb) (hlb : ys.length ≤ 4611686018427387904) (hk : KAt w) :
    Calls Tryd.prog 13 #[.slice A ks.length ca, .slice (some ⟨g, 0, none⟩) 1 1] w fun e w' => e = .returned (.agg (arr8 32 (macOf ks ys))) ∧ Below w.heap.size w w' := by
  have := msum_any A ks ca (some ⟨g, 0, none⟩) [(B, ys, cb)] 1 w hA hca hla hs (by intro a ha; simp at ha; subst ha; exact ⟨hB, hcb, hlb⟩) (by simp) hk
  rwa [show flat [(B, ys, cb)] = ys by simp [flat]] at this
theorem macOf_long (ks ys : List (BitVec 8)) (h : 64 < ks.length) : macOf (lst 32 (shaOf ks)) ys = macOf ks ys := by
  have e : keyOf (lst 32 (shaOf ks)) = keyOf ks := by
    unfold keyOf
    rw [if_pos h, if_neg (by simp)]
  have e1 : inP (lst 32 (shaOf ks)) = inP ks := by funext i; simp only [inP, e]
  have e2 : outP (lst 32 (shaOf ks)) = outP ks := by funext i; simp only [outP, e]
  simp only [macOf, e1, e2]
theorem macOf_short (ks ys : List (BitVec 8)) (m : Nat) (h : ks.length + m ≤ 64) : macOf (ks ++ List.replicate m 0#8) ys = macOf ks ys := by
  have e1 : keyOf (ks ++ List.replicate m 0#8) = ks ++ List.replicate m 0#8 := by
    unfold keyOf
    rw [if_neg (by simp; omega)]
  have e2 : keyOf ks = ks := by
    unfold keyOf
    rw [if_neg (by omega)]
  have eg : ∀ i, (ks ++ List.replicate m 0#8).getD i 0#8 = ks.getD i 0#8 := by
    intro i
    simp only [List.getD_eq_getElem?_getD]
    by_cases hi : i < ks.length
    · rw [List.getElem?_append_left hi]
    · rw [List.getElem?_append_right (by omega), List.getElem?_eq_none (l := ks) (by omega), List.getElem?_replicate]
      split <;> rfl
  have e3 : inP (ks ++ List.replicate m 0#8) = inP ks := by funext i; simp only [inP, e1, e2, eg]
  have e4 : outP (ks ++ List.replicate m 0#8) = outP ks := by funext i; simp only [outP, e1, e2, eg]
  simp only [macOf, e3, e4]

theorem wpList_append_run_g {P : Program} {w : World} {ops : Array Oper} {rest : List Oper} {o : Oper} {a : Act} {Q : Exit → Act → World → Prop} (hw : Region.wanted o (yielded ops a.tmps) = true) (s x : Operand) (t tn : TypeId)
    (ho : o.op = .call { callee := .builtin .append, args := #[s, x], argTypes := #[t, tn] }) (vs vx : Value) (hs : a.eval s = vs) (hx : a.eval x = vx)
    (v' : Value) (w' : World) (hr : (Builtin.append_ #[t, tn] o.type #[vs, vx]).run P w = .ok v' w') (h : wpList P ops Q rest (a.put o.dst v') w') : wpList P ops Q (o :: rest) a w :=
  BigFrame.wpList_want hw fun _ hK => Lib.wp_append_run w s x t tn ho vs vx hs hx v' w' hr (hK _ _ h)

/-- in the last region -/
structure MkF (w : World) (Ak : Option Addr) (ks : List (BitVec 8)) (B : Option Addr) (ys : List (BitVec 8)) (GA : Option Addr) (hs : List (BitVec 8)) (W : World) : Prop where
  r : SlRead W Ak (ints .u8 (bys ks))
  rb : SlRead W B (ints .u8 (bys ys))
  g : SlRead W GA (ints .u8 (bys hs))
  k : KAt W
  b : Below w.heap.size w W
theorem MkF.below {w : World} {Ak : Option Addr} {ks : List (BitVec 8)} {B : Option Addr} {ys : List (BitVec 8)} {GA : Option Addr} {hs : List (BitVec 8)} {W W' : World} (x : MkF w Ak ks B ys GA hs W) (hb : Below W.heap.size W W') : MkF w Ak ks B ys GA hs W' :=
  ⟨x.r.below hb, x.rb.below hb, x.g.below hb, x.k.below hb, x.b.trans (hb.mono x.b.size)⟩

set_option maxRecDepth 100000 in
set_option maxHeartbeats 1600000 in
theorem keys_walk (A : Option Addr) (ks : List (BitVec 8)) (ca : Nat) (B : Option Addr) (ys : List (BitVec 8)) (cb : Nat) (z : Int) (w : World) (hA : SlRead w A (ints .u8 (bys ks))) (hmk : ks.length ≤ 9223372036854775807)
    (hB : SlRead w B (ints .u8 (bys ys))) (hcb : ys.length ≤ cb) (hmb : ys.length ≤ 9223372036854775807) (hk : KAt w) :
    Calls Tryd.prog 7 #[.slice A ks.length ca, .slice B ys.length cb, .int .i64 z] w fun e w' => e = .returned (.bool true) ∧ Below w.heap.size w w' := by
  obtain ⟨i0, hi, hz0, hz1, hz2⟩ := info_parts Tryd.info5
  go_enter Tryd.func7, Tryd.ntmps7
  go_wp2_with fail
  refine (first_any _ hk).mono ?_
  rintro e W ⟨rfl, hb⟩
  by_cases h200 : 200 < ks.length
  · have hb0 : decide ((200 : Int) < (ks.length : Int)) = true := by simp; omega
    go_wp2_with fail
    go_ret
    exact ⟨rfl, hb⟩
  have hb0 : decide ((200 : Int) < (ks.length : Int)) = false := by simp; omega
  by_cases h100 : 100 < ys.length
  · have hb2 : decide ((100 : Int) < (ys.length : Int)) = true := by simp; omega
    go_wp2_with fail
    go_ret
    exact ⟨rfl, hb⟩
  have hb2 : decide ((100 : Int) < (ys.length : Int)) = false := by simp; omega
  have hby := bytes_any A (bys ks) ca W (hA.below hb) (by simp; omega)
  rw [bys_length] at hby
  have hBW := hB.below hb
  have hkW := hk.below hb
  go_wp2_with fail
  refine hby.mono ?_
  rintro e W1 ⟨v, rfl, hown, hb1⟩
  obtain ⟨Ak, ck, rfl, hck0⟩ := ownsRow_form hown
  have hck : ks.length ≤ ck := by
    rcases Nat.eq_zero_or_pos ks.length with h | h
    · omega
    · exact hck0 h
  have hr1 := SlRead.of_own hown
  have hB1 := hBW.below hb1
  have hk1 := hkW.below hb1
  have hb1' := hb.trans (hb1.mono hb.size)
  clear hown hby hBW hkW hb hA hB hk hb1 hck0
  have alc : ∀ (W : World) (o : Obj), Below W.heap.size W (W.alloc o) := fun W o => (Below.refl _ _).alloc (Nat.le_refl _) _
  by_cases h64 : 64 < ks.length
  · have hb64 : decide ((64 : Int) < (ks.length : Int)) = true := by simp; omega
    go_wp2_with fail
    refine (dsum_any Ak ks ck W1 hr1 (by omega)).mono ?_
    rintro e W2 ⟨rfl, hb2'⟩
    have hr2 := hr1.below hb2'
    have hB2 := hB1.below hb2'
    have hk2 := hk1.below hb2'
    have hb3' := hb1'.trans (hb2'.mono hb1'.size)
    clear hr1 hB1 hk1 hb1' hb2'
    go_upto_region 9 with (first | (refine wpList_store_row rfl 32 _ _ rfl _ _ rfl rfl _ _ (heap_alloc_new _ _) (by kernel_rfl) (by simp) (arr8_one _ _) ?_; rw [alloc_setRow]))
    generalize hGA : W2.heap.size = GA at *
    have hb4 : Below W2.heap.size W2 (W2.alloc (.cells (arr8 32 (shaOf ks)) 32)) := (Below.refl _ _).alloc (Nat.le_refl _) _
    have hg4 : (W2.alloc (.cells (arr8 32 (shaOf ks)) 32)).rowIs GA 32 32 (fun i => v8 (shaOf ks i)) := rowIs_new _ _ _ _ _ _ hGA.symm (by simp) (fun i hi => arr8_get 32 _ i hi)
    generalize W2.alloc (.cells (arr8 32 (shaOf ks)) 32) = W4 at *
    have hr4 := hr2.below hb4
    have hB4 := hB2.below hb4
    have hk4 := hk2.below hb4
    have hb4' := hb3'.trans (hb4.mono hb3'.size)
    have hg4' := slread_row hg4
    clear hr2 hB2 hk2 hb3' hb4 hGA hg4
    have hM2 := macOf_long ks ys h64
    generalize hF : macOf ks ys = F at *
    have HM := Lib.hid hF; have HM2 := Lib.hid hM2
    clear hF hM2
    refine wp_region_noPanic ?_
    refine wp_region_held_drew (S := MkF w Ak ks B ys (some ⟨GA, 0, none⟩) (lst 32 (shaOf ks))) (by kernel_rfl) ⟨hr4.below (Below.drewNr 1), hB4.below (Below.drewNr 1), hg4'.below (Below.drewNr 1), hk4.of_block rfl, hb4'.drew⟩ (fun hHeld => ?_)
    clear hr4 hB4 hk4 hb4' hg4'
    refine held_move 0 (.tmp 7) (some 29) (.bool true) (by kernel_rfl) (by kernel_rfl) (by kernel_rfl) (by kernel_rfl) (by kernel_rfl) (fun _ _ _ _ _ h => h) hHeld ?_
    refine held_move 1 (.tmp 29) (some 30) (.bool true) (by kernel_rfl) (by kernel_rfl) (by kernel_rfl) (by kernel_rfl) (by kernel_rfl) (fun _ _ _ _ _ h => h) hHeld ?_
    refine held_move 2 (.tmp 8) (some 31) (.slice Ak ks.length ck) (by kernel_rfl) (by kernel_rfl) (by kernel_rfl) (by kernel_rfl) (by kernel_rfl) (fun _ _ _ _ _ h => h) hHeld ?_
    refine held_move 3 (.tmp 1) (some 32) (.slice B ys.length cb) (by kernel_rfl) (by kernel_rfl) (by kernel_rfl) (by kernel_rfl) (by kernel_rfl) (fun _ _ _ _ _ h => h) hHeld ?_
    refine held_slice 6 32 (.tmp 9) none none none (some 35) (.pointer (some ⟨GA, 0, none⟩)) none none none (.slice (some ⟨GA, 0, none⟩) 32 32) (by kernel_rfl) (by kernel_rfl) (sliceAt_arr (P := Tryd.prog) 32 Tryd.underlying32 (show (Tryd.prog.info? 5).map (·.size) = some 1 by kernel_rfl) GA (by omega)) (by kernel_rfl) (by kernel_rfl) (by kernel_rfl) (fun _ _ _ _ _ h => h) hHeld ?_
    refine held_move 7 (.tmp 1) (some 36) (.slice B ys.length cb) (by kernel_rfl) (by kernel_rfl) (by kernel_rfl) (by kernel_rfl) (by kernel_rfl) (fun _ _ _ _ _ h => h) hHeld ?_
    refine held_ready [4, 8] (by kernel_rfl) (by simp) (rdy_bsl 4 46 22 (.tmp 32) (some 33) (.slice B ys.length cb) (by kernel_rfl) (by kernel_rfl) (bsl_sl _ _ _ _) (hHeld.below (alc _ _)) ?_ (rdy_bsl 8 46 22 (.tmp 36) (some 37) (.slice B ys.length cb) (by kernel_rfl) (by kernel_rfl) (bsl_sl _ _ _ _) (hHeld.below (alc _ _)) ?_ AllReadyH.nil))
    · intro hHeld
      have hs4 := SlRead.one_new (W := W4.drew) (.slice B ys.length cb) 22
      have hm1 := msum_sing (W4.drew.heap.size) Ak ks ck B ys cb (W4.drew.alloc (.cells #[.slice B ys.length cb] 22)) hHeld.r hck (by omega) hs4 hHeld.rb hcb (by omega) hHeld.k
      rw [HM.out] at hm1
      refine held_ready [5, 8] (by kernel_rfl) (by simp) (rdy_call 5 13 #[.tmp 31, .tmp 33] #[22, 46] (some 34) #[.slice Ak ks.length ck, .slice (some ⟨W4.drew.heap.size, 0, none⟩) 1 1] _ (by kernel_rfl) (by kernel_rfl) (by kernel_rfl) (hm1) ?_ (rdy_bsl 8 46 22 (.tmp 36) (some 37) (.slice B ys.length cb) (by kernel_rfl) (by kernel_rfl) (bsl_sl _ _ _ _) (hHeld.below (alc _ _)) ?_ AllReadyH.nil))
      · rintro e Y2 ⟨rfl, hbY2⟩
        refine ⟨_, rfl, hHeld.below hbY2, fun hHeld => ?_⟩
        have hs4 := hs4.below hbY2
        refine held_ready [8] (by kernel_rfl) (by simp) (rdy_bsl 8 46 22 (.tmp 36) (some 37) (.slice B ys.length cb) (by kernel_rfl) (by kernel_rfl) (bsl_sl _ _ _ _) (hHeld.below (alc _ _)) ?_ AllReadyH.nil)
        intro hHeld
        have hs4 := hs4.below (alc Y2 (.cells #[.slice B ys.length cb] 22))
        have hs8 := SlRead.one_new (W := Y2) (.slice B ys.length cb) 22
        have hm2 := msum_sing (Y2.heap.size) (some ⟨GA, 0, none⟩) (lst 32 (shaOf ks)) 32 B ys cb (Y2.alloc (.cells #[.slice B ys.length cb] 22)) hHeld.g (by simp) (by simp) hs8 hHeld.rb hcb (by omega) hHeld.k
        rw [lst_length, HM2.out] at hm2
        refine held_call 9 13 #[.tmp 35, .tmp 37] #[22, 46] (some 38) #[.slice (some ⟨GA, 0, none⟩) 32 32, .slice (some ⟨Y2.heap.size, 0, none⟩) 1 1] _ (by kernel_rfl) (by kernel_rfl) (by kernel_rfl) (by kernel_rfl) (hm2) ?_
        rintro e Y4 ⟨rfl, hbY4⟩
        refine ⟨_, rfl, hHeld.below hbY4, fun hHeld => ?_⟩
        have hs4 := hs4.below hbY4
        have hs8 := hs8.below hbY4
        refine held_eql 10 32 (.tmp 34) (.tmp 38) 32 (some 39) (arr8 32 F) (arr8 32 F) true (by kernel_rfl) (by kernel_rfl) (by kernel_rfl) (by kernel_rfl) (equal32 _) (by kernel_rfl) (by kernel_rfl) (by kernel_rfl) (fun _ _ _ _ _ h => h) hHeld ?_
        refine held_pick 11 (.tmp 30) (.tmp 39) (.const (.bool false)) (some 40) true (.bool true) (by kernel_rfl) (by kernel_rfl) (by kernel_rfl) (by kernel_rfl) (by kernel_rfl) (by kernel_rfl) (fun _ _ _ _ _ h => h) hHeld ?_
        refine held_assign 12 (.tmp 40) (some 6) (.bool true) (by kernel_rfl) (by kernel_rfl) (by kernel_rfl) (by kernel_rfl) (by kernel_rfl) (fun _ _ _ _ _ h => h) hHeld ?_
        refine wpAnyH_done (by kernel_rfl) ?_ _
        refine NoPanic.normal ?_
        simp only [Act.put, List.setIfInBounds_toArray, List.set_cons_zero, List.set_cons_succ]
        go_wp2_with fail
        go_ret
        exact ⟨rfl, hHeld.b⟩
      · intro hHeld
        have hs4 := hs4.below (alc (W4.drew.alloc (.cells #[.slice B ys.length cb] 22)) (.cells #[.slice B ys.length cb] 22))
        have hs8 := SlRead.one_new (W := (W4.drew.alloc (.cells #[.slice B ys.length cb] 22))) (.slice B ys.length cb) 22
        have hm1 := msum_sing (W4.drew.heap.size) Ak ks ck B ys cb ((W4.drew.alloc (.cells #[.slice B ys.length cb] 22)).alloc (.cells #[.slice B ys.length cb] 22)) hHeld.r hck (by omega) hs4 hHeld.rb hcb (by omega) hHeld.k
        rw [HM.out] at hm1
        refine held_call 5 13 #[.tmp 31, .tmp 33] #[22, 46] (some 34) #[.slice Ak ks.length ck, .slice (some ⟨W4.drew.heap.size, 0, none⟩) 1 1] _ (by kernel_rfl) (by kernel_rfl) (by kernel_rfl) (by kernel_rfl) (hm1) ?_
        rintro e Y6 ⟨rfl, hbY6⟩
        refine ⟨_, rfl, hHeld.below hbY6, fun hHeld => ?_⟩
        have hs4 := hs4.below hbY6
        have hs8 := hs8.below hbY6
        have hm2 := msum_sing ((W4.drew.alloc (.cells #[.slice B ys.length cb] 22)).heap.size) (some ⟨GA, 0, none⟩) (lst 32 (shaOf ks)) 32 B ys cb Y6 hHeld.g (by simp) (by simp) hs8 hHeld.rb hcb (by omega) hHeld.k
        rw [lst_length, HM2.out] at hm2
        refine held_call 9 13 #[.tmp 35, .tmp 37] #[22, 46] (some 38) #[.slice (some ⟨GA, 0, none⟩) 32 32, .slice (some ⟨(W4.drew.alloc (.cells #[.slice B ys.length cb] 22)).heap.size, 0, none⟩) 1 1] _ (by kernel_rfl) (by kernel_rfl) (by kernel_rfl) (by kernel_rfl) (hm2) ?_
        rintro e Y7 ⟨rfl, hbY7⟩
        refine ⟨_, rfl, hHeld.below hbY7, fun hHeld => ?_⟩
        have hs4 := hs4.below hbY7
        have hs8 := hs8.below hbY7
        refine held_eql 10 32 (.tmp 34) (.tmp 38) 32 (some 39) (arr8 32 F) (arr8 32 F) true (by kernel_rfl) (by kernel_rfl) (by kernel_rfl) (by kernel_rfl) (equal32 _) (by kernel_rfl) (by kernel_rfl) (by kernel_rfl) (fun _ _ _ _ _ h => h) hHeld ?_
        refine held_pick 11 (.tmp 30) (.tmp 39) (.const (.bool false)) (some 40) true (.bool true) (by kernel_rfl) (by kernel_rfl) (by kernel_rfl) (by kernel_rfl) (by kernel_rfl) (by kernel_rfl) (fun _ _ _ _ _ h => h) hHeld ?_
        refine held_assign 12 (.tmp 40) (some 6) (.bool true) (by kernel_rfl) (by kernel_rfl) (by kernel_rfl) (by kernel_rfl) (by kernel_rfl) (fun _ _ _ _ _ h => h) hHeld ?_
        refine wpAnyH_done (by kernel_rfl) ?_ _
        refine NoPanic.normal ?_
        simp only [Act.put, List.setIfInBounds_toArray, List.set_cons_zero, List.set_cons_succ]
        go_wp2_with fail
        go_ret
        exact ⟨rfl, hHeld.b⟩
    · intro hHeld
      have hs8 := SlRead.one_new (W := W4.drew) (.slice B ys.length cb) 22
      refine held_ready [4] (by kernel_rfl) (by simp) (rdy_bsl 4 46 22 (.tmp 32) (some 33) (.slice B ys.length cb) (by kernel_rfl) (by kernel_rfl) (bsl_sl _ _ _ _) (hHeld.below (alc _ _)) ?_ AllReadyH.nil)
      intro hHeld
      have hs8 := hs8.below (alc (W4.drew.alloc (.cells #[.slice B ys.length cb] 22)) (.cells #[.slice B ys.length cb] 22))
      have hs4 := SlRead.one_new (W := (W4.drew.alloc (.cells #[.slice B ys.length cb] 22))) (.slice B ys.length cb) 22
      have hm1 := msum_sing ((W4.drew.alloc (.cells #[.slice B ys.length cb] 22)).heap.size) Ak ks ck B ys cb ((W4.drew.alloc (.cells #[.slice B ys.length cb] 22)).alloc (.cells #[.slice B ys.length cb] 22)) hHeld.r hck (by omega) hs4 hHeld.rb hcb (by omega) hHeld.k
      rw [HM.out] at hm1
      refine held_call 5 13 #[.tmp 31, .tmp 33] #[22, 46] (some 34) #[.slice Ak ks.length ck, .slice (some ⟨(W4.drew.alloc (.cells #[.slice B ys.length cb] 22)).heap.size, 0, none⟩) 1 1] _ (by kernel_rfl) (by kernel_rfl) (by kernel_rfl) (by kernel_rfl) (hm1) ?_
      rintro e Y10 ⟨rfl, hbY10⟩
      refine ⟨_, rfl, hHeld.below hbY10, fun hHeld => ?_⟩
      have hs8 := hs8.below hbY10
      have hs4 := hs4.below hbY10
      have hm2 := msum_sing (W4.drew.heap.size) (some ⟨GA, 0, none⟩) (lst 32 (shaOf ks)) 32 B ys cb Y10 hHeld.g (by simp) (by simp) hs8 hHeld.rb hcb (by omega) hHeld.k
      rw [lst_length, HM2.out] at hm2
      refine held_call 9 13 #[.tmp 35, .tmp 37] #[22, 46] (some 38) #[.slice (some ⟨GA, 0, none⟩) 32 32, .slice (some ⟨W4.drew.heap.size, 0, none⟩) 1 1] _ (by kernel_rfl) (by kernel_rfl) (by kernel_rfl) (by kernel_rfl) (hm2) ?_
      rintro e Y11 ⟨rfl, hbY11⟩
      refine ⟨_, rfl, hHeld.below hbY11, fun hHeld => ?_⟩
      have hs8 := hs8.below hbY11
      have hs4 := hs4.below hbY11
      refine held_eql 10 32 (.tmp 34) (.tmp 38) 32 (some 39) (arr8 32 F) (arr8 32 F) true (by kernel_rfl) (by kernel_rfl) (by kernel_rfl) (by kernel_rfl) (equal32 _) (by kernel_rfl) (by kernel_rfl) (by kernel_rfl) (fun _ _ _ _ _ h => h) hHeld ?_
      refine held_pick 11 (.tmp 30) (.tmp 39) (.const (.bool false)) (some 40) true (.bool true) (by kernel_rfl) (by kernel_rfl) (by kernel_rfl) (by kernel_rfl) (by kernel_rfl) (by kernel_rfl) (fun _ _ _ _ _ h => h) hHeld ?_
      refine held_assign 12 (.tmp 40) (some 6) (.bool true) (by kernel_rfl) (by kernel_rfl) (by kernel_rfl) (by kernel_rfl) (by kernel_rfl) (fun _ _ _ _ _ h => h) hHeld ?_
      refine wpAnyH_done (by kernel_rfl) ?_ _
      refine NoPanic.normal ?_
      simp only [Act.put, List.setIfInBounds_toArray, List.set_cons_zero, List.set_cons_succ]
      go_wp2_with fail
      go_ret
      exact ⟨rfl, hHeld.b⟩
  · have hb64 : decide ((64 : Int) < (ks.length : Int)) = false := by simp; omega
    obtain ⟨m, hm1, hm2⟩ := exists_mod z (65 - (ks.length : Int)) (by omega)
    go_wp2_with fail
    refine (number_nat z _ m W1 (by omega) hm1).mono ?_
    rintro e Wn ⟨rfl, mn, rfl⟩
    have hr4 := hr1.below (Below.drewNr mn)
    have hB4 := hB1.below (Below.drewNr mn)
    have hk4 : KAt (W1.drewN mn) := hk1.of_block rfl
    have hb4' := hb1'.trans (Below.drewNr mn)
    generalize W1.drewN mn = W4 at *
    clear hr1 hB1 hk1 hb1' hm1
    have hM2 := macOf_short ks ys m (by omega)
    generalize hF : macOf ks ys = F at *
    have HM := Lib.hid hF; have HM2 := Lib.hid hM2
    clear hF hM2
    have hms := msum_one Ak ks ck B ys cb W4 hr4 hck (by omega) hB4 hcb (by omega) hk4
    rw [HM.out] at hms
    go_wp2_with fail
    refine hms.mono ?_
    rintro e W5 ⟨rfl, hb5⟩
    have hr5 := hr4.below hb5
    have hB5 := hB4.below hb5
    have hk5 := hk4.below hb5
    have hb5' := hb4'.trans (hb5.mono hb4'.size)
    clear hms hr4 hB4 hk4 hb4' hb5
    have hby := bytes_any Ak (bys ks) ck W5 hr5 (by simp; omega)
    rw [bys_length] at hby
    go_wp2_with fail
    refine hby.mono ?_
    rintro e W6 ⟨v6, rfl, hown, hb6⟩
    have hB6 := hB5.below hb6
    have hk6 := hk5.below hb6
    have hb6' := hb5'.trans (hb6.mono hb5'.size)
    obtain ⟨v7, W7, hr7, ho7, hg7⟩ := run_zeros_own (P := Tryd.prog) W6 22 3 22 5 i0 .i64 Tryd.underlying22 Tryd.underlying3 hi hz0 hz1 hz2 W5.heap.size v6 ks.length _ hown m (by omega) hb6.size
    have hb7 := own_grown hown hb6.size hg7
    obtain ⟨A7, c7, rfl, hc7⟩ := ownsRow_form ho7
    have hz := SlRead.of_own ho7
    rw [zeros_bys] at hz
    have hB7 := hB5.below (hb6.trans hb7)
    have hk7 := hk5.below (hb6.trans hb7)
    have hb7' := hb6'.trans (hb7.mono hb5'.size)
    clear hby hown hB6 hk6 hb6 hb6' hg7 ho7 hb7 hr5 hB5 hk5 hb5'
    have hms := msum_one A7 (ks ++ List.replicate m 0#8) c7 B ys cb W7 hz (by simp; omega) (by simp; omega) hB7 hcb (by omega) hk7
    rw [show (ks ++ List.replicate m 0#8).length = ks.length + m by simp, HM2.out] at hms
    go_wp2_with (at_builtin; refine wpList_append_run_g (by kernel_rfl) _ _ _ _ rfl _ _ rfl rfl _ _ hr7 ?_)
    refine hms.mono ?_
    rintro e W8 ⟨rfl, hb8⟩
    have hb8' := hb7'.trans (hb8.mono hb7'.size)
    clear hms hz hB7 hk7 hb7' hr7 hb8
    go_wp2_with (first | (refine wpList_eql_row (by kernel_rfl) 32 32 _ _ rfl (arr8 32 F) (arr8 32 F) rfl rfl true (by kernel_rfl) (equal32 F) ?_))
    go_ret
    exact ⟨rfl, hb8'⟩
end Go.Proofs.YtplmliomhpgfpaaDoor
