import Derived.Test.YtccchhfcoicgcaaDoorMcd
import Derived.Test.YtccchhfcoicgcaaDoorMky
namespace Go.Proofs.YtccchhfcoicgcaaDoor
open Go.RowKit

theorem keepB {W0 W W' : World} (h : Below W0.heap.size W0 W) (hb : Below W.heap.size W W') : Below W0.heap.size W0 W' := h.trans (hb.mono h.size)
/-- bytes appended to a row of one's own, as an equation -/
theorem run_many (ty : TypeId) (W : World) (base : Nat) (v : Value) (xs : List (BitVec 8)) (B : Option Addr) (ys : List (BitVec 8)) (cb : Nat)
    (hown : W.ownsRow base 5 1 v xs.length (ints .u8 (bys xs))) (hB : SlRead W B (ints .u8 (bys ys))) (hbase : base ≤ W.heap.size) (hl : xs.length + ys.length ≤ 140737488352000) :
    ∃ v' w', (Builtin.append_ #[33, 33] ty #[v, .slice B ys.length cb]).run Tryd.prog W = .ok v' w' ∧ w'.ownsRow base 5 1 v' (xs ++ ys).length (ints .u8 (bys (xs ++ ys))) ∧ Below base W w' ∧ W.grownBy w' v.ownBlock ∧ (v'.ownBlock = v.ownBlock ∨ v'.ownBlock = some W.heap.size) := by
  obtain ⟨i0, hi, hz0, hz1, hz2⟩ := info_parts Tryd.info5
  have e : ints .u8 (bys xs) ++ ints .u8 (bys ys) = ints .u8 (bys (xs ++ ys)) := by simp [ints, bys]
  cases B with
  | none =>
    have hy : ys = [] := by
      rcases ys with _ | ⟨y, r⟩
      · rfl
      · obtain ⟨b, o', e1, _⟩ := hB (by simp)
        cases e1
    subst hy
    exact ⟨v, W, run_append_none0 W base 33 ty 5 i0 1 Tryd.underlying33 hi v _ _ hown cb, by simpa using hown, Below.refl _ _, ⟨rfl, rfl, rfl, Nat.le_refl _, fun _ _ _ => rfl⟩, .inl rfl⟩
  | some ad =>
    obtain ⟨v', w', hr, h2, h3, _, h5⟩ := run_append_own_at (P := Tryd.prog) W base 33 ty 5 i0 (.int .u8 0) 1 1 Tryd.underlying33 hi hz0 hz1 hz2 rfl (by decide) v _ _ hown ad ys.length cb (ints .u8 (bys ys)) (by simp) (by
      intro j u hu
      have hn : 0 < (ints .u8 (bys ys)).length := by
        have := (List.getElem?_eq_some_iff.1 hu).1
        omega
      obtain ⟨b', o', e1, _, hc⟩ := hB hn
      obtain rfl : ad = ⟨b', o', none⟩ := by simpa using e1
      rw [add_eq]
      exact hc j u hu) (ints_one .u8 _) (by unfold maxLen; omega) (by omega) hbase
    rw [e] at h2
    exact ⟨v', w', hr, by simpa using h2, (Below.refl _ _).grown h3 hbase (fun j hj => (hown.lt j hj).1), h3, h5⟩
/-- a made byte's cell, kept -/
theorem SlRead.grownS {W w' : World} {row : Option Nat} {b : Nat} {vs : List Value} (h : SlRead W (some ⟨b, 0, none⟩) vs) (hg : W.grownBy w' row) (hne : some b ≠ row) : SlRead w' (some ⟨b, 0, none⟩) vs := by
  intro hn
  obtain ⟨b', o', e, hlt, hc⟩ := h hn
  obtain ⟨rfl, rfl⟩ : b = b' ∧ 0 = o' := by simpa using e
  exact ⟨b, 0, rfl, Nat.lt_of_lt_of_le hlt hg.size, fun j u hj => (World.cell?_of_block (hg.block b hlt hne)).trans (hc j u hj)⟩

section
variable {P : Program} {md : Region.Mode} {ops : Array Oper} {Q : Exit → Act → World → Prop} {S : World → Prop} {fuel : Nat} {listed : Array Bool} {a : Act} {w : World}
theorem rdy_alloc {rs : List Nat} (i : Nat) (t : TypeId) (dst : Option Tmp) (z : Array Value)
    (hi : ops[i]?.map (fun o => (o.op, o.dst, Region.wanted o (yielded ops a.tmps))) = some (.alloc t, dst, true)) (hz : ∀ w, (zeroValue t).run P w = .ok (.agg z) w) (hS : S (w.alloc (.cells z t)))
    (h : S (w.alloc (.cells z t)) → wpAnyH P md ops Q S fuel (listed.setIfInBounds i true) (a.put dst (.pointer (some ⟨w.heap.size, 0, none⟩))) (w.alloc (.cells z t))) (rest : AllReadyH P md ops Q S fuel listed a w rs) : AllReadyH P md ops Q S fuel listed a w (i :: rs) := by
  obtain ⟨oi, ho, he⟩ := Option.map_eq_some_iff.1 hi
  simp only [Prod.mk.injEq] at he
  refine AllReadyH.cons ho (fun K hK => ?_) rest
  rw [if_pos he.2.2]
  unfold Oper.wp
  simp [execOp, he.1, Instr.alloc, hz, newVar, newRow, Value.cells, Result.andThen]
  rw [Oper.upon_value, he.2.1]
  exact hK.out _ _ hS h
theorem rdy_storeR {rs : List Nat} (i : Nat) (ty : TypeId) (x y : Operand) (g : Nat) (cells : Array Value) (t : TypeId) (old : Array Value)
    (hi : ops[i]?.map (fun o => (o.op, o.dst, Region.wanted o (yielded ops a.tmps))) = some (.store ty x y, none, true)) (hxy : (a.eval x, a.eval y) = (.pointer (some ⟨g, 0, none⟩), .agg cells))
    (hg : w.heap[g]? = some (.cells old t (0, 0))) (hs : (P.info? ty).map (·.size) = some cells.size) (hold : old.size = cells.size) (h1 : cells.all (·.oneCell') = true) (hS : S (w.setRow g cells))
    (h : S (w.setRow g cells) → wpAnyH P md ops Q S fuel (listed.setIfInBounds i true) (a.put none undef) (w.setRow g cells)) (rest : AllReadyH P md ops Q S fuel listed a w rs) : AllReadyH P md ops Q S fuel listed a w (i :: rs) := by
  obtain ⟨oi, ho, he⟩ := Option.map_eq_some_iff.1 hi
  simp only [Prod.mk.injEq] at he hxy
  refine AllReadyH.cons ho (fun K hK => ?_) rest
  rw [if_pos he.2.2]
  refine wp_store_row ty x y he.1 g cells hxy.1 hxy.2 t old hg hs hold h1 ?_
  rw [he.2.1]
  exact hK.out _ _ hS h
end

section
variable {P : Program} {md : Region.Mode} {ops : Array Oper} {Q : Exit → Act → World → Prop} {S : World → Prop} {fuel : Nat} {listed : Array Bool} {a : Act} {w : World}
theorem held_convD (i : Nat) (t t' : TypeId) (x : Operand) (dst : Option Tmp) (v v' : Value) (hi : ops[i]?.map (fun o => (o.op, o.dst, Region.wanted o (yielded ops a.tmps))) = some (.convert t t' x, dst, true))
    (hx : a.eval x = v) (he : ∀ w, (convert t t' v).run P w = .ok v' w) (hs : Region.noSelect ops = true) (hf : Region.free md ops listed i = true) (hr : (Region.ready md ops listed).contains i = true)
    (hQ : ∀ c a v d w, Q (.panic c) (a.put d v) w → Q (.panic c) a w) (hw : S w)
    (h : wpAnyH P md ops Q S fuel (listed.setIfInBounds i true) (a.put dst v') w) : wpAnyH P md ops Q S (fuel + 1) listed a w :=
  held_any i _ dst v' hi hs hf hr hQ hw (fun o ho w _ => by unfold execOp; simp [ho, hx, he, Result.andThen]) h
end
theorem region_cut {P : Program} {c : Code} {Q : Exit → Act → World → Prop} {a : Act} {w : World} (R : Act → Act → World → Prop) (h : c.wp P (fun ex a' w' => ex = .normal ∧ R a a' w') a w) (k : ∀ a' w', R a a' w' → Q .normal a' w') : c.wp P Q a w :=
  wp_mono h fun _ _ _ ⟨h1, h2⟩ => h1 ▸ k _ _ h2
theorem slread_lt {W : World} {b : Nat} {vs : List Value} (h : SlRead W (some ⟨b, 0, none⟩) vs) (hn : 0 < vs.length) : b < W.heap.size := by
  obtain ⟨b', o', e, hlt, _⟩ := h hn
  obtain ⟨rfl, rfl⟩ : b = b' ∧ 0 = o' := by simpa using e
  exact hlt
theorem conv_bt (k : Nat) (w : World) : (convert 3 5 (.int .i64 ((k : Int) + 1))).run Tryd.prog w = .ok (.int .u8 (n8 (BitVec.ofNat 8 (k + 1)))) w := by
  have h1 := Tryd.underlying3
  have h2 := Tryd.underlying5
  rw [← byte_of]
  go_simp
  rfl

set_option maxRecDepth 100000 in
set_option maxHeartbeats 3200000 in
theorem dder_any (A : Option Addr) (salt : List (BitVec 8)) (ca : Nat) (B : Option Addr) (key : List (BitVec 8)) (cb : Nat) (C : Option Addr) (info : List (BitVec 8)) (cc n : Nat) (w : World)
    (hA : SlRead w A (ints .u8 (bys salt))) (hla : salt.length ≤ 140737488300000) (hB : SlRead w B (ints .u8 (bys key))) (hlb : key.length ≤ 140737488300000)
    (hC : SlRead w C (ints .u8 (bys info))) (hlc : info.length ≤ 140737488300000) (hn : n ≤ 8160) :
    Calls Tryd.prog 14 #[.slice A salt.length ca, .slice B key.length cb, .slice C info.length cc, .int .i64 n] w fun e w' => ∃ O co, e = .returned (.tuple #[.slice O n co, .bool true]) ∧ SlRead w' O (ints .u8 (bys (hkdf salt key info n))) ∧ Below w.heap.size w w' := by
  obtain ⟨i0, hi, hz0, hz1, hz2⟩ := info_parts Tryd.info5
  have hn0 : decide ((n : Int) < 0) = false := by simp
  have hn1 : decide ((8160 : Int) < (n : Int)) = false := by simp; omega
  go_enter Tryd.func14, Tryd.ntmps14
  by_cases hs : salt.length = 0
  · have hsb : ((salt.length : Int) == 0) = true := by simp [hs]
    go_upto_region 5 with (at_make; refine wpList_make_row _ rfl _ _ 33 rfl 5 i0 (.int .u8 0) Tryd.underlying33 hi hz0 hz1 rfl .i64 .i64 32 rfl rfl (by rw [hz2]; omega) (by omega) ?_)
    generalize hO : w.heap.size = O at *
    refine wp_world (fun W => Below O w W ∧ SlRead W (some ⟨O, 0, none⟩) (ints .u8 (bys (lst 32 (fun _ => 0#8))))) ?_ ?_
    · refine ⟨by rw [← hO]; exact (Below.refl _ _).alloc (Nat.le_refl _) _, slread_row (t := 5) ?_⟩
      have := (World.rowIs_made w (.int .u8 0) 32 5).congr (g := fun _ => v8 0#8) (fun i hi => rfl)
      rw [hO] at this
      exact this
    rintro W0 ⟨hb, hS0⟩
    rw [← hO] at hb
    have hms := dmac_any (some ⟨O, 0, none⟩) (lst 32 (fun _ => 0#8)) 32 B key cb W0 hS0 (by simp) (hB.below hb) (by omega)
    rw [lst_length, show lst 32 (fun _ => 0#8) = saltOf salt by unfold saltOf; rw [if_pos hs]] at hms
    clear hS0
    go_wp2_with fail
    refine hms.mono ?_
    rintro e W1 ⟨rfl, hb1⟩
    have hB1 := hb.trans (hb1.mono hb.size)
    clear hms hb hb1
    have hsec : secOf salt key = lst 32 (macOf (saltOf salt) key) := rfl
    have HSEC := Lib.hid hsec; clear hsec
    generalize macOf (saltOf salt) key = mm at *
    go_upto_region 6 with (refine wpList_store_row rfl 31 _ _ rfl _ _ rfl rfl _ _ (heap_alloc_new _ _) (by kernel_rfl) (by simp) (arr8_one _ _) ?_; rw [alloc_setRow])
    generalize hG : W1.heap.size = G at *
    have hg2 : (W1.alloc (.cells (arr8 32 mm) 31)).rowIs G 31 32 (fun i => v8 (mm i)) := rowIs_new _ _ _ _ _ _ hG.symm (by simp) (fun i hi => arr8_get 32 _ i hi)
    have hB2 := hB1.alloc hB1.size (.cells (arr8 32 mm) 31)
    generalize W1.alloc (.cells (arr8 32 mm) 31) = W2 at *
    clear hB1 hG
    generalize hBB : W2.heap.size = BB at *
    have HBB := Lib.hid hBB
    have hGB : G < BB := by rw [← hBB]; exact hg2.lt
    have hwB : w.heap.size ≤ BB := by rw [← hBB]; exact hB2.size
    have hBB2 : BB ≤ W2.heap.size := by rw [hBB]; omega
    clear hBB
    have hslG := fun w' => sliceAt_arr (P := Tryd.prog) 32 Tryd.underlying31 (show (Tryd.prog.info? 5).map (·.size) = some 1 by kernel_rfl) G (by omega) w'
    go_wp2_with fail
    go_loopw [11, 12, 13] (fun v l i wr => ∃ (k : Nat) (Al : Option Addr) (cl : Nat), 32 * k < n + 32 ∧ i = .int .i64 ((k : Int) + 1) ∧ wr.ownsRow BB 5 1 v (hkOut (lst 32 mm) info k).length (ints .u8 (bys (hkOut (lst 32 mm) info k))) ∧ l = .slice Al (hkT (lst 32 mm) info k).length cl ∧ SlRead wr Al (ints .u8 (bys (hkT (lst 32 mm) info k))) ∧ Below w.heap.size w wr ∧ wr.rowIs G 31 32 (fun i => v8 (mm i)) ∧ BB ≤ wr.heap.size) (fun v _ _ _ => match v with | .slice _ len _ => n + 32 - len | _ => 0)
    case atStart => exact ⟨0, none, 0, by omega, rfl, World.ownsRow_nil _ _ _ _, rfl, SlRead.nil_, hB2, hg2, hBB2⟩
    clear hB2 hg2 hBB2
    case round =>
      obtain ⟨k, Al, cl, hk1, rfl, hown, rfl, hsl, hb, hg, hBs⟩ := hrel
      obtain ⟨Av, cv, rfl, hcv⟩ := ownsRow_form hown
      have hol := hkOut_len (lst 32 mm) info k
      by_cases hlt : 32 * k < n
      · have hlt0 : decide (((hkOut (lst 32 mm) info k).length : Int) < (n : Int)) = true := by simp; omega
        go_upto_region 10 with (fail)
        have hTl : (hkT (lst 32 mm) info k).length ≤ 32 := by cases k with | zero => simp [hkT] | succ k => rw [hkT_len]; omega
        have hk255 : k < 256 := by omega
        have hcvb := conv_bt k
        have hTk : hkT (lst 32 mm) info (k + 1) = lst 32 (macOf (lst 32 mm) (hkT (lst 32 mm) info k ++ info ++ [BitVec.ofNat 8 (k + 1)])) := by rw [List.append_assoc]; rfl
        have hOk : hkOut (lst 32 mm) info (k + 1) = hkOut (lst 32 mm) info k ++ hkT (lst 32 mm) info (k + 1) := rfl
        have HTK := Lib.hid hTk; have HOK := Lib.hid hOk; have HOL := Lib.hid hol
        clear hTk hOk hol
        generalize hkT (lst 32 mm) info k = Tk at *
        generalize BitVec.ofNat 8 (k + 1) = bt at *
        generalize hF : macOf (lst 32 mm) (Tk ++ info ++ [bt]) = F at *
        have HF := Lib.hid hF; clear hF
        have alc : ∀ (W : World) (o : Obj), Below W.heap.size W (W.alloc o) := fun W o => (Below.refl _ _).alloc (Nat.le_refl _) _
        have hslT : SlRead wr.drew Al (ints .u8 (bys Tk)) := hsl.below (Below.drewNr 1)
        have hCr : SlRead wr.drew C (ints .u8 (bys info)) := hC.below (hb.trans ((Below.drewNr (w := wr) 1).mono hb.size))
        have hgS : SlRead wr.drew (some ⟨G, 0, none⟩) (ints .u8 (bys (lst 32 mm))) := (slread_row hg).below (Below.drewNr 1)
        refine region_cut (fun a a' w' => ∃ v35 v36 v37 v38 v39 v40 v41 v42 v43 D, a' = ((((((((((a.put (some 34) (.slice (some ⟨G, 0, none⟩) 32 32)).put (some 35) v35).put (some 36) v36).put (some 37) v37).put (some 38) v38).put (some 39) v39).put (some 40) v40).put (some 41) v41).put (some 42) v42).put (some 43) v43).put (some 14) (.pointer (some ⟨D, 0, none⟩)) ∧ Below wr.heap.size wr w' ∧ w'.rowIs D 31 32 (fun i => v8 (F i)) ∧ wr.heap.size ≤ D) ?_ ?_
        · refine wp_region_noPanic ?_
          refine wp_region_held_drew (S := fun W' => Below wr.drew.heap.size wr.drew W') (by kernel_rfl) (Below.refl _ _) (fun hHeld => ?_)
          refine held_slice 0 31 (.tmp 10) none none none (some 34) (.pointer (some ⟨G, 0, none⟩)) none none none (.slice (some ⟨G, 0, none⟩) 32 32) (by kernel_rfl) (by kernel_rfl) (hslG) (by kernel_rfl) (by kernel_rfl) (by kernel_rfl) (fun _ _ _ _ _ h => h) hHeld ?_
          refine held_move 1 (.tmp 12) (some 35) (.slice Al Tk.length cl) (by kernel_rfl) (by kernel_rfl) (by kernel_rfl) (by kernel_rfl) (by kernel_rfl) (fun _ _ _ _ _ h => h) hHeld ?_
          refine held_move 3 (.tmp 2) (some 37) (.slice C info.length cc) (by kernel_rfl) (by kernel_rfl) (by kernel_rfl) (by kernel_rfl) (by kernel_rfl) (fun _ _ _ _ _ h => h) hHeld ?_
          refine held_move 5 (.tmp 13) (some 39) (.int .i64 ((k : Int) + 1)) (by kernel_rfl) (by kernel_rfl) (by kernel_rfl) (by kernel_rfl) (by kernel_rfl) (fun _ _ _ _ _ h => h) hHeld ?_
          refine held_convD 6 3 5 (.tmp 39) (some 40) (.int .i64 ((k : Int) + 1)) (.int .u8 (n8 bt)) (by kernel_rfl) (by kernel_rfl) hcvb (by kernel_rfl) (by kernel_rfl) (by kernel_rfl) (fun _ _ _ _ _ h => h) hHeld ?_
          have hby := bytes_any Al (bys Tk) cl wr.drew (hslT.below hHeld) (by simp; omega)
          rw [bys_length] at hby
          have hRb := hHeld.size
          have hRD : wr.drew.heap.size ≤ wr.drew.heap.size := hHeld.size
          refine held_ready [2, 7, 10] (by kernel_rfl) (by simp) (rdy_call 2 17 #[.tmp 35] #[33] (some 36) #[.slice Al Tk.length cl] _ (by kernel_rfl) (by kernel_rfl) (by kernel_rfl) (hby) ?_ (rdy_bsl 7 33 5 (.tmp 40) (some 41) (.int .u8 (n8 bt)) (by kernel_rfl) (by kernel_rfl) (bsl_u8 _ _) (keepB hHeld (alc _ _)) ?_ (rdy_alloc 10 31 (some 14) (Array.replicate 32 (.int .u8 0)) (by kernel_rfl) (fun _ => by kernel_rfl) (keepB hHeld (alc _ _)) ?_ AllReadyH.nil)))
          · rintro e Y1 ⟨vY1, rfl, hown1, hbY1⟩
            refine ⟨_, rfl, keepB hHeld hbY1, fun hHeld => ?_⟩
            have hbase := hbY1.size
            obtain ⟨vP1_1, P1_1, hrP1_1, hoP1_1, hb0P1_1, hgP1_1, hatP1_1⟩ := run_many 33 Y1 _ _ Tk C info cc hown1 (hCr.below hHeld) hbase (by first | omega | (simp; omega))
            have hbSP1_1 := hHeld.trans (hb0P1_1.mono hRb)
            have hne : some Y1.heap.size ≠ vY1.ownBlock := fun e => by have h1 := (hown1.lt _ e.symm).2; omega
            have hRD : wr.drew.heap.size ≤ Y1.heap.size := hHeld.size
            refine held_ready [4, 7, 10] (by kernel_rfl) (by simp) (rdy_app 4 (.tmp 36) (.tmp 37) 33 33 33 (some 38) (vY1) (.slice C info.length cc) (vP1_1) P1_1 (by kernel_rfl) (by kernel_rfl) (by kernel_rfl) (hrP1_1) (hbSP1_1) ?_ (rdy_bsl 7 33 5 (.tmp 40) (some 41) (.int .u8 (n8 bt)) (by kernel_rfl) (by kernel_rfl) (bsl_u8 _ _) (keepB hHeld (alc _ _)) ?_ (rdy_alloc 10 31 (some 14) (Array.replicate 32 (.int .u8 0)) (by kernel_rfl) (fun _ => by kernel_rfl) (keepB hHeld (alc _ _)) ?_ AllReadyH.nil)))
            · intro hHeld
              have hbase := Nat.le_trans hbase hgP1_1.size
              have hown1 := hoP1_1
              have hne : some P1_1.heap.size ≠ vP1_1.ownBlock := fun e => by have h1 := (hown1.lt _ e.symm).2; omega
              have hRD : wr.drew.heap.size ≤ P1_1.heap.size := hHeld.size
              refine held_ready [7, 10] (by kernel_rfl) (by simp) (rdy_bsl 7 33 5 (.tmp 40) (some 41) (.int .u8 (n8 bt)) (by kernel_rfl) (by kernel_rfl) (bsl_u8 _ _) (keepB hHeld (alc _ _)) ?_ (rdy_alloc 10 31 (some 14) (Array.replicate 32 (.int .u8 0)) (by kernel_rfl) (fun _ => by kernel_rfl) (keepB hHeld (alc _ _)) ?_ AllReadyH.nil))
              · intro hHeld
                have hbase := Nat.le_trans hbase ((alc P1_1 (.cells #[.int .u8 (n8 bt)] 5))).size
                have hown1 := ownsRow_via hown1 (fun g _ hl => ((alc P1_1 (.cells #[.int .u8 (n8 bt)] 5))).block g hl)
                have hs7 := SlRead.one_new (W := P1_1) (.int .u8 (n8 bt)) 5
                obtain ⟨vP3_2, P3_2, hrP3_2, hoP3_2, hb0P3_2, hgP3_2, hatP3_2⟩ := run_many 33 (P1_1.alloc (.cells #[.int .u8 (n8 bt)] 5)) _ _ (Tk ++ info) (some ⟨P1_1.heap.size, 0, none⟩) [bt] 1 hown1 hs7 hbase (by first | omega | (simp; omega))
                have hbSP3_2 := hHeld.trans (hb0P3_2.mono hRb)
                obtain ⟨AP3_2, cP3_2, rfl, hcP3_2⟩ := ownsRow_form hoP3_2
                have hRD : wr.drew.heap.size ≤ (P1_1.alloc (.cells #[.int .u8 (n8 bt)] 5)).heap.size := hHeld.size
                refine held_ready [8, 10] (by kernel_rfl) (by simp) (rdy_app 8 (.tmp 38) (.tmp 41) 33 33 33 (some 42) (vP1_1) (.slice (some ⟨P1_1.heap.size, 0, none⟩) 1 1) (.slice AP3_2 (Tk ++ info ++ [bt]).length cP3_2) P3_2 (by kernel_rfl) (by kernel_rfl) (by kernel_rfl) (hrP3_2) (hbSP3_2) ?_ (rdy_alloc 10 31 (some 14) (Array.replicate 32 (.int .u8 0)) (by kernel_rfl) (fun _ => by kernel_rfl) (keepB hHeld (alc _ _)) ?_ AllReadyH.nil))
                · intro hHeld
                  have hown1 := hoP3_2
                  have hz := SlRead.of_own hown1
                  have hdm := dmac_any (some ⟨G, 0, none⟩) (lst 32 mm) 32 AP3_2 (Tk ++ info ++ [bt]) cP3_2 P3_2 (hgS.below hHeld) (by simp) hz (by simp; omega)
                  rw [lst_length, HF.out] at hdm
                  have hRD : wr.drew.heap.size ≤ P3_2.heap.size := hHeld.size
                  refine held_ready [9, 10] (by kernel_rfl) (by simp) (rdy_call 9 13 #[.tmp 34, .tmp 42] #[33, 33] (some 43) #[.slice (some ⟨G, 0, none⟩) 32 32, .slice AP3_2 (Tk ++ info ++ [bt]).length cP3_2] _ (by kernel_rfl) (by kernel_rfl) (by kernel_rfl) (hdm) ?_ (rdy_alloc 10 31 (some 14) (Array.replicate 32 (.int .u8 0)) (by kernel_rfl) (fun _ => by kernel_rfl) (keepB hHeld (alc _ _)) ?_ AllReadyH.nil))
                  · rintro e Y5 ⟨rfl, hbY5⟩
                    refine ⟨_, rfl, keepB hHeld hbY5, fun hHeld => ?_⟩
                    have hz := hz.below hbY5
                    have hRD : wr.drew.heap.size ≤ Y5.heap.size := hHeld.size
                    refine held_ready [10] (by kernel_rfl) (by simp) (rdy_alloc 10 31 (some 14) (Array.replicate 32 (.int .u8 0)) (by kernel_rfl) (fun _ => by kernel_rfl) (keepB hHeld (alc _ _)) ?_ AllReadyH.nil)
                    intro hHeld
                    have hz := hz.below (alc Y5 (.cells (Array.replicate 32 (.int .u8 0)) 31))
                    have hD : (Y5.alloc (.cells (Array.replicate 32 (.int .u8 0)) 31)).rowIs Y5.heap.size 31 32 (fun _ => .int .u8 0) := rowIs_new _ _ _ _ _ _ rfl (by simp) (fun i hi => by simp [hi])
                    have hRD : wr.drew.heap.size ≤ Y5.heap.size := hRD
                    obtain ⟨od, hd1, hd2, _⟩ := hD
                    refine held_ready [11] (by kernel_rfl) (by simp) (rdy_storeR 11 31 (.tmp 14) (.tmp 43) (Y5.heap.size) (arr8 32 F) 31 od (by kernel_rfl) (by kernel_rfl) hd1 (by kernel_rfl) (by rw [hd2, arr8_size]) (arr8_one _ _) (below_setRow hHeld hRD (arr8 32 F)) ?_ AllReadyH.nil)
                    intro hHeld
                    have hfin := rowIs_arr (setRow_heap (Y5.alloc (.cells (Array.replicate 32 (.int .u8 0)) 31)) (Y5.heap.size) _ (arr8 32 F) _ _ hd1) (by simp) (fun i hi => arr8_get 32 F i hi)
                    refine wpAnyH_done (by kernel_rfl) ?_ _
                    refine NoPanic.normal ?_
                    simp only [Act.put, List.setIfInBounds_toArray, List.set_cons_zero, List.set_cons_succ]
                    exact ⟨trivial, _, _, _, _, _, _, _, _, _, _, rfl, (Below.drewNr (w := wr) 1).trans hHeld, hfin, hRD⟩
                  · intro hHeld
                    have hz := hz.below (alc P3_2 (.cells (Array.replicate 32 (.int .u8 0)) 31))
                    have hD : (P3_2.alloc (.cells (Array.replicate 32 (.int .u8 0)) 31)).rowIs P3_2.heap.size 31 32 (fun _ => .int .u8 0) := rowIs_new _ _ _ _ _ _ rfl (by simp) (fun i hi => by simp [hi])
                    have hRD : wr.drew.heap.size ≤ P3_2.heap.size := hRD
                    have hdm := dmac_any (some ⟨G, 0, none⟩) (lst 32 mm) 32 AP3_2 (Tk ++ info ++ [bt]) cP3_2 (P3_2.alloc (.cells (Array.replicate 32 (.int .u8 0)) 31)) (hgS.below hHeld) (by simp) hz (by simp; omega)
                    rw [lst_length, HF.out] at hdm
                    refine held_call 9 13 #[.tmp 34, .tmp 42] #[33, 33] (some 43) #[.slice (some ⟨G, 0, none⟩) 32 32, .slice AP3_2 (Tk ++ info ++ [bt]).length cP3_2] _ (by kernel_rfl) (by kernel_rfl) (by kernel_rfl) (by kernel_rfl) (hdm) ?_
                    rintro e Y9 ⟨rfl, hbY9⟩
                    refine ⟨_, rfl, keepB hHeld hbY9, fun hHeld => ?_⟩
                    have hz := hz.below hbY9
                    have hD := hD.of_block ((hbY9).block _ hD.lt)
                    obtain ⟨od, hd1, hd2, _⟩ := hD
                    refine held_ready [11] (by kernel_rfl) (by simp) (rdy_storeR 11 31 (.tmp 14) (.tmp 43) (P3_2.heap.size) (arr8 32 F) 31 od (by kernel_rfl) (by kernel_rfl) hd1 (by kernel_rfl) (by rw [hd2, arr8_size]) (arr8_one _ _) (below_setRow hHeld hRD (arr8 32 F)) ?_ AllReadyH.nil)
                    intro hHeld
                    have hfin := rowIs_arr (setRow_heap Y9 (P3_2.heap.size) _ (arr8 32 F) _ _ hd1) (by simp) (fun i hi => arr8_get 32 F i hi)
                    refine wpAnyH_done (by kernel_rfl) ?_ _
                    refine NoPanic.normal ?_
                    simp only [Act.put, List.setIfInBounds_toArray, List.set_cons_zero, List.set_cons_succ]
                    exact ⟨trivial, _, _, _, _, _, _, _, _, _, _, rfl, (Below.drewNr (w := wr) 1).trans hHeld, hfin, hRD⟩
                · intro hHeld
                  have hbase := Nat.le_trans hbase ((alc (P1_1.alloc (.cells #[.int .u8 (n8 bt)] 5)) (.cells (Array.replicate 32 (.int .u8 0)) 31))).size
                  have hown1 := ownsRow_via hown1 (fun g _ hl => ((alc (P1_1.alloc (.cells #[.int .u8 (n8 bt)] 5)) (.cells (Array.replicate 32 (.int .u8 0)) 31))).block g hl)
                  have hs7 := hs7.below (alc (P1_1.alloc (.cells #[.int .u8 (n8 bt)] 5)) (.cells (Array.replicate 32 (.int .u8 0)) 31))
                  have hD : ((P1_1.alloc (.cells #[.int .u8 (n8 bt)] 5)).alloc (.cells (Array.replicate 32 (.int .u8 0)) 31)).rowIs (P1_1.alloc (.cells #[.int .u8 (n8 bt)] 5)).heap.size 31 32 (fun _ => .int .u8 0) := rowIs_new _ _ _ _ _ _ rfl (by simp) (fun i hi => by simp [hi])
                  have hRD : wr.drew.heap.size ≤ (P1_1.alloc (.cells #[.int .u8 (n8 bt)] 5)).heap.size := hRD
                  obtain ⟨vP11_2, P11_2, hrP11_2, hoP11_2, hb0P11_2, hgP11_2, hatP11_2⟩ := run_many 33 ((P1_1.alloc (.cells #[.int .u8 (n8 bt)] 5)).alloc (.cells (Array.replicate 32 (.int .u8 0)) 31)) _ _ (Tk ++ info) (some ⟨P1_1.heap.size, 0, none⟩) [bt] 1 hown1 hs7 hbase (by first | omega | (simp; omega))
                  have hbSP11_2 := hHeld.trans (hb0P11_2.mono hRb)
                  obtain ⟨AP11_2, cP11_2, rfl, hcP11_2⟩ := ownsRow_form hoP11_2
                  have hoffP11_2 := ownsRow_off hown1 hD (by decide)
                  refine held_ready [8] (by kernel_rfl) (by simp) (rdy_app 8 (.tmp 38) (.tmp 41) 33 33 33 (some 42) (vP1_1) (.slice (some ⟨P1_1.heap.size, 0, none⟩) 1 1) (.slice AP11_2 (Tk ++ info ++ [bt]).length cP11_2) P11_2 (by kernel_rfl) (by kernel_rfl) (by kernel_rfl) (hrP11_2) (hbSP11_2) ?_ AllReadyH.nil)
                  intro hHeld
                  have hD := hD.of_block (hgP11_2.block _ hD.lt hoffP11_2)
                  have hown1 := hoP11_2
                  have hz := SlRead.of_own hown1
                  have hdm := dmac_any (some ⟨G, 0, none⟩) (lst 32 mm) 32 AP11_2 (Tk ++ info ++ [bt]) cP11_2 P11_2 (hgS.below hHeld) (by simp) hz (by simp; omega)
                  rw [lst_length, HF.out] at hdm
                  refine held_call 9 13 #[.tmp 34, .tmp 42] #[33, 33] (some 43) #[.slice (some ⟨G, 0, none⟩) 32 32, .slice AP11_2 (Tk ++ info ++ [bt]).length cP11_2] _ (by kernel_rfl) (by kernel_rfl) (by kernel_rfl) (by kernel_rfl) (hdm) ?_
                  rintro e Y13 ⟨rfl, hbY13⟩
                  refine ⟨_, rfl, keepB hHeld hbY13, fun hHeld => ?_⟩
                  have hD := hD.of_block ((hbY13).block _ hD.lt)
                  have hz := hz.below hbY13
                  obtain ⟨od, hd1, hd2, _⟩ := hD
                  refine held_ready [11] (by kernel_rfl) (by simp) (rdy_storeR 11 31 (.tmp 14) (.tmp 43) ((P1_1.alloc (.cells #[.int .u8 (n8 bt)] 5)).heap.size) (arr8 32 F) 31 od (by kernel_rfl) (by kernel_rfl) hd1 (by kernel_rfl) (by rw [hd2, arr8_size]) (arr8_one _ _) (below_setRow hHeld hRD (arr8 32 F)) ?_ AllReadyH.nil)
                  intro hHeld
                  have hfin := rowIs_arr (setRow_heap Y13 ((P1_1.alloc (.cells #[.int .u8 (n8 bt)] 5)).heap.size) _ (arr8 32 F) _ _ hd1) (by simp) (fun i hi => arr8_get 32 F i hi)
                  refine wpAnyH_done (by kernel_rfl) ?_ _
                  refine NoPanic.normal ?_
                  simp only [Act.put, List.setIfInBounds_toArray, List.set_cons_zero, List.set_cons_succ]
                  exact ⟨trivial, _, _, _, _, _, _, _, _, _, _, rfl, (Below.drewNr (w := wr) 1).trans hHeld, hfin, hRD⟩
              · intro hHeld
                have hbase := Nat.le_trans hbase ((alc P1_1 (.cells (Array.replicate 32 (.int .u8 0)) 31))).size
                have hown1 := ownsRow_via hown1 (fun g _ hl => ((alc P1_1 (.cells (Array.replicate 32 (.int .u8 0)) 31))).block g hl)
                have hD : (P1_1.alloc (.cells (Array.replicate 32 (.int .u8 0)) 31)).rowIs P1_1.heap.size 31 32 (fun _ => .int .u8 0) := rowIs_new _ _ _ _ _ _ rfl (by simp) (fun i hi => by simp [hi])
                have hRD : wr.drew.heap.size ≤ P1_1.heap.size := hRD
                have hne : some (P1_1.alloc (.cells (Array.replicate 32 (.int .u8 0)) 31)).heap.size ≠ vP1_1.ownBlock := fun e => by have h1 := (hown1.lt _ e.symm).2; omega
                refine held_ready [7] (by kernel_rfl) (by simp) (rdy_bsl 7 33 5 (.tmp 40) (some 41) (.int .u8 (n8 bt)) (by kernel_rfl) (by kernel_rfl) (bsl_u8 _ _) (keepB hHeld (alc _ _)) ?_ AllReadyH.nil)
                intro hHeld
                have hbase := Nat.le_trans hbase ((alc (P1_1.alloc (.cells (Array.replicate 32 (.int .u8 0)) 31)) (.cells #[.int .u8 (n8 bt)] 5))).size
                have hown1 := ownsRow_via hown1 (fun g _ hl => ((alc (P1_1.alloc (.cells (Array.replicate 32 (.int .u8 0)) 31)) (.cells #[.int .u8 (n8 bt)] 5))).block g hl)
                have hD := hD.of_block (((alc (P1_1.alloc (.cells (Array.replicate 32 (.int .u8 0)) 31)) (.cells #[.int .u8 (n8 bt)] 5))).block _ hD.lt)
                have hs7 := SlRead.one_new (W := (P1_1.alloc (.cells (Array.replicate 32 (.int .u8 0)) 31))) (.int .u8 (n8 bt)) 5
                obtain ⟨vP16_2, P16_2, hrP16_2, hoP16_2, hb0P16_2, hgP16_2, hatP16_2⟩ := run_many 33 ((P1_1.alloc (.cells (Array.replicate 32 (.int .u8 0)) 31)).alloc (.cells #[.int .u8 (n8 bt)] 5)) _ _ (Tk ++ info) (some ⟨(P1_1.alloc (.cells (Array.replicate 32 (.int .u8 0)) 31)).heap.size, 0, none⟩) [bt] 1 hown1 hs7 hbase (by first | omega | (simp; omega))
                have hbSP16_2 := hHeld.trans (hb0P16_2.mono hRb)
                obtain ⟨AP16_2, cP16_2, rfl, hcP16_2⟩ := ownsRow_form hoP16_2
                have hoffP16_2 := ownsRow_off hown1 hD (by decide)
                refine held_ready [8] (by kernel_rfl) (by simp) (rdy_app 8 (.tmp 38) (.tmp 41) 33 33 33 (some 42) (vP1_1) (.slice (some ⟨(P1_1.alloc (.cells (Array.replicate 32 (.int .u8 0)) 31)).heap.size, 0, none⟩) 1 1) (.slice AP16_2 (Tk ++ info ++ [bt]).length cP16_2) P16_2 (by kernel_rfl) (by kernel_rfl) (by kernel_rfl) (hrP16_2) (hbSP16_2) ?_ AllReadyH.nil)
                intro hHeld
                have hD := hD.of_block (hgP16_2.block _ hD.lt hoffP16_2)
                have hown1 := hoP16_2
                have hz := SlRead.of_own hown1
                have hdm := dmac_any (some ⟨G, 0, none⟩) (lst 32 mm) 32 AP16_2 (Tk ++ info ++ [bt]) cP16_2 P16_2 (hgS.below hHeld) (by simp) hz (by simp; omega)
                rw [lst_length, HF.out] at hdm
                refine held_call 9 13 #[.tmp 34, .tmp 42] #[33, 33] (some 43) #[.slice (some ⟨G, 0, none⟩) 32 32, .slice AP16_2 (Tk ++ info ++ [bt]).length cP16_2] _ (by kernel_rfl) (by kernel_rfl) (by kernel_rfl) (by kernel_rfl) (hdm) ?_
                rintro e Y18 ⟨rfl, hbY18⟩
                refine ⟨_, rfl, keepB hHeld hbY18, fun hHeld => ?_⟩
                have hD := hD.of_block ((hbY18).block _ hD.lt)
                have hz := hz.below hbY18
                obtain ⟨od, hd1, hd2, _⟩ := hD
                refine held_ready [11] (by kernel_rfl) (by simp) (rdy_storeR 11 31 (.tmp 14) (.tmp 43) (P1_1.heap.size) (arr8 32 F) 31 od (by kernel_rfl) (by kernel_rfl) hd1 (by kernel_rfl) (by rw [hd2, arr8_size]) (arr8_one _ _) (below_setRow hHeld hRD (arr8 32 F)) ?_ AllReadyH.nil)
                intro hHeld
                have hfin := rowIs_arr (setRow_heap Y18 (P1_1.heap.size) _ (arr8 32 F) _ _ hd1) (by simp) (fun i hi => arr8_get 32 F i hi)
                refine wpAnyH_done (by kernel_rfl) ?_ _
                refine NoPanic.normal ?_
                simp only [Act.put, List.setIfInBounds_toArray, List.set_cons_zero, List.set_cons_succ]
                exact ⟨trivial, _, _, _, _, _, _, _, _, _, _, rfl, (Below.drewNr (w := wr) 1).trans hHeld, hfin, hRD⟩
            · intro hHeld
              have hown1 := ownsRow_via hown1 (fun g _ hl => ((alc Y1 (.cells #[.int .u8 (n8 bt)] 5))).block g hl)
              have hbase := Nat.le_trans hbase ((alc Y1 (.cells #[.int .u8 (n8 bt)] 5))).size
              have hs7 := SlRead.one_new (W := Y1) (.int .u8 (n8 bt)) 5
              obtain ⟨vP20_1, P20_1, hrP20_1, hoP20_1, hb0P20_1, hgP20_1, hatP20_1⟩ := run_many 33 (Y1.alloc (.cells #[.int .u8 (n8 bt)] 5)) _ _ Tk C info cc hown1 (hCr.below hHeld) hbase (by first | omega | (simp; omega))
              have hbSP20_1 := hHeld.trans (hb0P20_1.mono hRb)
              have hlt7 := slread_lt hs7 (by simp)
              have hRD : wr.drew.heap.size ≤ (Y1.alloc (.cells #[.int .u8 (n8 bt)] 5)).heap.size := hHeld.size
              refine held_ready [4, 10] (by kernel_rfl) (by simp) (rdy_app 4 (.tmp 36) (.tmp 37) 33 33 33 (some 38) (vY1) (.slice C info.length cc) (vP20_1) P20_1 (by kernel_rfl) (by kernel_rfl) (by kernel_rfl) (hrP20_1) (hbSP20_1) ?_ (rdy_alloc 10 31 (some 14) (Array.replicate 32 (.int .u8 0)) (by kernel_rfl) (fun _ => by kernel_rfl) (keepB hHeld (alc _ _)) ?_ AllReadyH.nil))
              · intro hHeld
                have hbase := Nat.le_trans hbase hgP20_1.size
                have hs7 := hs7.grownS hgP20_1 hne
                have hne : some (Y1.heap.size) ≠ vP20_1.ownBlock := by
                  rcases hatP20_1 with h | h
                  · rw [h]; exact hne
                  · rw [h]; intro e; have h1 := Option.some.inj e; omega
                have hown1 := hoP20_1
                obtain ⟨vP21_2, P21_2, hrP21_2, hoP21_2, hb0P21_2, hgP21_2, hatP21_2⟩ := run_many 33 P20_1 _ _ (Tk ++ info) (some ⟨Y1.heap.size, 0, none⟩) [bt] 1 hown1 hs7 hbase (by first | omega | (simp; omega))
                have hbSP21_2 := hHeld.trans (hb0P21_2.mono hRb)
                obtain ⟨AP21_2, cP21_2, rfl, hcP21_2⟩ := ownsRow_form hoP21_2
                have hRD : wr.drew.heap.size ≤ P20_1.heap.size := hHeld.size
                refine held_ready [8, 10] (by kernel_rfl) (by simp) (rdy_app 8 (.tmp 38) (.tmp 41) 33 33 33 (some 42) (vP20_1) (.slice (some ⟨Y1.heap.size, 0, none⟩) 1 1) (.slice AP21_2 (Tk ++ info ++ [bt]).length cP21_2) P21_2 (by kernel_rfl) (by kernel_rfl) (by kernel_rfl) (hrP21_2) (hbSP21_2) ?_ (rdy_alloc 10 31 (some 14) (Array.replicate 32 (.int .u8 0)) (by kernel_rfl) (fun _ => by kernel_rfl) (keepB hHeld (alc _ _)) ?_ AllReadyH.nil))
                · intro hHeld
                  have hown1 := hoP21_2
                  have hz := SlRead.of_own hown1
                  have hdm := dmac_any (some ⟨G, 0, none⟩) (lst 32 mm) 32 AP21_2 (Tk ++ info ++ [bt]) cP21_2 P21_2 (hgS.below hHeld) (by simp) hz (by simp; omega)
                  rw [lst_length, HF.out] at hdm
                  have hRD : wr.drew.heap.size ≤ P21_2.heap.size := hHeld.size
                  refine held_ready [9, 10] (by kernel_rfl) (by simp) (rdy_call 9 13 #[.tmp 34, .tmp 42] #[33, 33] (some 43) #[.slice (some ⟨G, 0, none⟩) 32 32, .slice AP21_2 (Tk ++ info ++ [bt]).length cP21_2] _ (by kernel_rfl) (by kernel_rfl) (by kernel_rfl) (hdm) ?_ (rdy_alloc 10 31 (some 14) (Array.replicate 32 (.int .u8 0)) (by kernel_rfl) (fun _ => by kernel_rfl) (keepB hHeld (alc _ _)) ?_ AllReadyH.nil))
                  · rintro e Y23 ⟨rfl, hbY23⟩
                    refine ⟨_, rfl, keepB hHeld hbY23, fun hHeld => ?_⟩
                    have hz := hz.below hbY23
                    have hRD : wr.drew.heap.size ≤ Y23.heap.size := hHeld.size
                    refine held_ready [10] (by kernel_rfl) (by simp) (rdy_alloc 10 31 (some 14) (Array.replicate 32 (.int .u8 0)) (by kernel_rfl) (fun _ => by kernel_rfl) (keepB hHeld (alc _ _)) ?_ AllReadyH.nil)
                    intro hHeld
                    have hz := hz.below (alc Y23 (.cells (Array.replicate 32 (.int .u8 0)) 31))
                    have hD : (Y23.alloc (.cells (Array.replicate 32 (.int .u8 0)) 31)).rowIs Y23.heap.size 31 32 (fun _ => .int .u8 0) := rowIs_new _ _ _ _ _ _ rfl (by simp) (fun i hi => by simp [hi])
                    have hRD : wr.drew.heap.size ≤ Y23.heap.size := hRD
                    obtain ⟨od, hd1, hd2, _⟩ := hD
                    refine held_ready [11] (by kernel_rfl) (by simp) (rdy_storeR 11 31 (.tmp 14) (.tmp 43) (Y23.heap.size) (arr8 32 F) 31 od (by kernel_rfl) (by kernel_rfl) hd1 (by kernel_rfl) (by rw [hd2, arr8_size]) (arr8_one _ _) (below_setRow hHeld hRD (arr8 32 F)) ?_ AllReadyH.nil)
                    intro hHeld
                    have hfin := rowIs_arr (setRow_heap (Y23.alloc (.cells (Array.replicate 32 (.int .u8 0)) 31)) (Y23.heap.size) _ (arr8 32 F) _ _ hd1) (by simp) (fun i hi => arr8_get 32 F i hi)
                    refine wpAnyH_done (by kernel_rfl) ?_ _
                    refine NoPanic.normal ?_
                    simp only [Act.put, List.setIfInBounds_toArray, List.set_cons_zero, List.set_cons_succ]
                    exact ⟨trivial, _, _, _, _, _, _, _, _, _, _, rfl, (Below.drewNr (w := wr) 1).trans hHeld, hfin, hRD⟩
                  · intro hHeld
                    have hz := hz.below (alc P21_2 (.cells (Array.replicate 32 (.int .u8 0)) 31))
                    have hD : (P21_2.alloc (.cells (Array.replicate 32 (.int .u8 0)) 31)).rowIs P21_2.heap.size 31 32 (fun _ => .int .u8 0) := rowIs_new _ _ _ _ _ _ rfl (by simp) (fun i hi => by simp [hi])
                    have hRD : wr.drew.heap.size ≤ P21_2.heap.size := hRD
                    have hdm := dmac_any (some ⟨G, 0, none⟩) (lst 32 mm) 32 AP21_2 (Tk ++ info ++ [bt]) cP21_2 (P21_2.alloc (.cells (Array.replicate 32 (.int .u8 0)) 31)) (hgS.below hHeld) (by simp) hz (by simp; omega)
                    rw [lst_length, HF.out] at hdm
                    refine held_call 9 13 #[.tmp 34, .tmp 42] #[33, 33] (some 43) #[.slice (some ⟨G, 0, none⟩) 32 32, .slice AP21_2 (Tk ++ info ++ [bt]).length cP21_2] _ (by kernel_rfl) (by kernel_rfl) (by kernel_rfl) (by kernel_rfl) (hdm) ?_
                    rintro e Y27 ⟨rfl, hbY27⟩
                    refine ⟨_, rfl, keepB hHeld hbY27, fun hHeld => ?_⟩
                    have hz := hz.below hbY27
                    have hD := hD.of_block ((hbY27).block _ hD.lt)
                    obtain ⟨od, hd1, hd2, _⟩ := hD
                    refine held_ready [11] (by kernel_rfl) (by simp) (rdy_storeR 11 31 (.tmp 14) (.tmp 43) (P21_2.heap.size) (arr8 32 F) 31 od (by kernel_rfl) (by kernel_rfl) hd1 (by kernel_rfl) (by rw [hd2, arr8_size]) (arr8_one _ _) (below_setRow hHeld hRD (arr8 32 F)) ?_ AllReadyH.nil)
                    intro hHeld
                    have hfin := rowIs_arr (setRow_heap Y27 (P21_2.heap.size) _ (arr8 32 F) _ _ hd1) (by simp) (fun i hi => arr8_get 32 F i hi)
                    refine wpAnyH_done (by kernel_rfl) ?_ _
                    refine NoPanic.normal ?_
                    simp only [Act.put, List.setIfInBounds_toArray, List.set_cons_zero, List.set_cons_succ]
                    exact ⟨trivial, _, _, _, _, _, _, _, _, _, _, rfl, (Below.drewNr (w := wr) 1).trans hHeld, hfin, hRD⟩
                · intro hHeld
                  have hbase := Nat.le_trans hbase ((alc P20_1 (.cells (Array.replicate 32 (.int .u8 0)) 31))).size
                  have hs7 := hs7.below (alc P20_1 (.cells (Array.replicate 32 (.int .u8 0)) 31))
                  have hown1 := ownsRow_via hown1 (fun g _ hl => ((alc P20_1 (.cells (Array.replicate 32 (.int .u8 0)) 31))).block g hl)
                  have hD : (P20_1.alloc (.cells (Array.replicate 32 (.int .u8 0)) 31)).rowIs P20_1.heap.size 31 32 (fun _ => .int .u8 0) := rowIs_new _ _ _ _ _ _ rfl (by simp) (fun i hi => by simp [hi])
                  have hRD : wr.drew.heap.size ≤ P20_1.heap.size := hRD
                  obtain ⟨vP29_2, P29_2, hrP29_2, hoP29_2, hb0P29_2, hgP29_2, hatP29_2⟩ := run_many 33 (P20_1.alloc (.cells (Array.replicate 32 (.int .u8 0)) 31)) _ _ (Tk ++ info) (some ⟨Y1.heap.size, 0, none⟩) [bt] 1 hown1 hs7 hbase (by first | omega | (simp; omega))
                  have hbSP29_2 := hHeld.trans (hb0P29_2.mono hRb)
                  obtain ⟨AP29_2, cP29_2, rfl, hcP29_2⟩ := ownsRow_form hoP29_2
                  have hoffP29_2 := ownsRow_off hown1 hD (by decide)
                  refine held_ready [8] (by kernel_rfl) (by simp) (rdy_app 8 (.tmp 38) (.tmp 41) 33 33 33 (some 42) (vP20_1) (.slice (some ⟨Y1.heap.size, 0, none⟩) 1 1) (.slice AP29_2 (Tk ++ info ++ [bt]).length cP29_2) P29_2 (by kernel_rfl) (by kernel_rfl) (by kernel_rfl) (hrP29_2) (hbSP29_2) ?_ AllReadyH.nil)
                  intro hHeld
                  have hD := hD.of_block (hgP29_2.block _ hD.lt hoffP29_2)
                  have hown1 := hoP29_2
                  have hz := SlRead.of_own hown1
                  have hdm := dmac_any (some ⟨G, 0, none⟩) (lst 32 mm) 32 AP29_2 (Tk ++ info ++ [bt]) cP29_2 P29_2 (hgS.below hHeld) (by simp) hz (by simp; omega)
                  rw [lst_length, HF.out] at hdm
                  refine held_call 9 13 #[.tmp 34, .tmp 42] #[33, 33] (some 43) #[.slice (some ⟨G, 0, none⟩) 32 32, .slice AP29_2 (Tk ++ info ++ [bt]).length cP29_2] _ (by kernel_rfl) (by kernel_rfl) (by kernel_rfl) (by kernel_rfl) (hdm) ?_
                  rintro e Y31 ⟨rfl, hbY31⟩
                  refine ⟨_, rfl, keepB hHeld hbY31, fun hHeld => ?_⟩
                  have hD := hD.of_block ((hbY31).block _ hD.lt)
                  have hz := hz.below hbY31
                  obtain ⟨od, hd1, hd2, _⟩ := hD
                  refine held_ready [11] (by kernel_rfl) (by simp) (rdy_storeR 11 31 (.tmp 14) (.tmp 43) (P20_1.heap.size) (arr8 32 F) 31 od (by kernel_rfl) (by kernel_rfl) hd1 (by kernel_rfl) (by rw [hd2, arr8_size]) (arr8_one _ _) (below_setRow hHeld hRD (arr8 32 F)) ?_ AllReadyH.nil)
                  intro hHeld
                  have hfin := rowIs_arr (setRow_heap Y31 (P20_1.heap.size) _ (arr8 32 F) _ _ hd1) (by simp) (fun i hi => arr8_get 32 F i hi)
                  refine wpAnyH_done (by kernel_rfl) ?_ _
                  refine NoPanic.normal ?_
                  simp only [Act.put, List.setIfInBounds_toArray, List.set_cons_zero, List.set_cons_succ]
                  exact ⟨trivial, _, _, _, _, _, _, _, _, _, _, rfl, (Below.drewNr (w := wr) 1).trans hHeld, hfin, hRD⟩
              · intro hHeld
                have hown1 := ownsRow_via hown1 (fun g _ hl => ((alc (Y1.alloc (.cells #[.int .u8 (n8 bt)] 5)) (.cells (Array.replicate 32 (.int .u8 0)) 31))).block g hl)
                have hbase := Nat.le_trans hbase ((alc (Y1.alloc (.cells #[.int .u8 (n8 bt)] 5)) (.cells (Array.replicate 32 (.int .u8 0)) 31))).size
                have hs7 := hs7.below (alc (Y1.alloc (.cells #[.int .u8 (n8 bt)] 5)) (.cells (Array.replicate 32 (.int .u8 0)) 31))
                have hD : ((Y1.alloc (.cells #[.int .u8 (n8 bt)] 5)).alloc (.cells (Array.replicate 32 (.int .u8 0)) 31)).rowIs (Y1.alloc (.cells #[.int .u8 (n8 bt)] 5)).heap.size 31 32 (fun _ => .int .u8 0) := rowIs_new _ _ _ _ _ _ rfl (by simp) (fun i hi => by simp [hi])
                have hRD : wr.drew.heap.size ≤ (Y1.alloc (.cells #[.int .u8 (n8 bt)] 5)).heap.size := hRD
                obtain ⟨vP33_1, P33_1, hrP33_1, hoP33_1, hb0P33_1, hgP33_1, hatP33_1⟩ := run_many 33 ((Y1.alloc (.cells #[.int .u8 (n8 bt)] 5)).alloc (.cells (Array.replicate 32 (.int .u8 0)) 31)) _ _ Tk C info cc hown1 (hCr.below hHeld) hbase (by first | omega | (simp; omega))
                have hbSP33_1 := hHeld.trans (hb0P33_1.mono hRb)
                have hlt7 := slread_lt hs7 (by simp)
                have hoffP33_1 := ownsRow_off hown1 hD (by decide)
                refine held_ready [4] (by kernel_rfl) (by simp) (rdy_app 4 (.tmp 36) (.tmp 37) 33 33 33 (some 38) (vY1) (.slice C info.length cc) (vP33_1) P33_1 (by kernel_rfl) (by kernel_rfl) (by kernel_rfl) (hrP33_1) (hbSP33_1) ?_ AllReadyH.nil)
                intro hHeld
                have hbase := Nat.le_trans hbase hgP33_1.size
                have hs7 := hs7.grownS hgP33_1 hne
                have hD := hD.of_block (hgP33_1.block _ hD.lt hoffP33_1)
                have hne : some (Y1.heap.size) ≠ vP33_1.ownBlock := by
                  rcases hatP33_1 with h | h
                  · rw [h]; exact hne
                  · rw [h]; intro e; have h1 := Option.some.inj e; omega
                have hown1 := hoP33_1
                obtain ⟨vP34_2, P34_2, hrP34_2, hoP34_2, hb0P34_2, hgP34_2, hatP34_2⟩ := run_many 33 P33_1 _ _ (Tk ++ info) (some ⟨Y1.heap.size, 0, none⟩) [bt] 1 hown1 hs7 hbase (by first | omega | (simp; omega))
                have hbSP34_2 := hHeld.trans (hb0P34_2.mono hRb)
                obtain ⟨AP34_2, cP34_2, rfl, hcP34_2⟩ := ownsRow_form hoP34_2
                have hoffP34_2 := ownsRow_off hown1 hD (by decide)
                refine held_ready [8] (by kernel_rfl) (by simp) (rdy_app 8 (.tmp 38) (.tmp 41) 33 33 33 (some 42) (vP33_1) (.slice (some ⟨Y1.heap.size, 0, none⟩) 1 1) (.slice AP34_2 (Tk ++ info ++ [bt]).length cP34_2) P34_2 (by kernel_rfl) (by kernel_rfl) (by kernel_rfl) (hrP34_2) (hbSP34_2) ?_ AllReadyH.nil)
                intro hHeld
                have hD := hD.of_block (hgP34_2.block _ hD.lt hoffP34_2)
                have hown1 := hoP34_2
                have hz := SlRead.of_own hown1
                have hdm := dmac_any (some ⟨G, 0, none⟩) (lst 32 mm) 32 AP34_2 (Tk ++ info ++ [bt]) cP34_2 P34_2 (hgS.below hHeld) (by simp) hz (by simp; omega)
                rw [lst_length, HF.out] at hdm
                refine held_call 9 13 #[.tmp 34, .tmp 42] #[33, 33] (some 43) #[.slice (some ⟨G, 0, none⟩) 32 32, .slice AP34_2 (Tk ++ info ++ [bt]).length cP34_2] _ (by kernel_rfl) (by kernel_rfl) (by kernel_rfl) (by kernel_rfl) (hdm) ?_
                rintro e Y36 ⟨rfl, hbY36⟩
                refine ⟨_, rfl, keepB hHeld hbY36, fun hHeld => ?_⟩
                have hD := hD.of_block ((hbY36).block _ hD.lt)
                have hz := hz.below hbY36
                obtain ⟨od, hd1, hd2, _⟩ := hD
                refine held_ready [11] (by kernel_rfl) (by simp) (rdy_storeR 11 31 (.tmp 14) (.tmp 43) ((Y1.alloc (.cells #[.int .u8 (n8 bt)] 5)).heap.size) (arr8 32 F) 31 od (by kernel_rfl) (by kernel_rfl) hd1 (by kernel_rfl) (by rw [hd2, arr8_size]) (arr8_one _ _) (below_setRow hHeld hRD (arr8 32 F)) ?_ AllReadyH.nil)
                intro hHeld
                have hfin := rowIs_arr (setRow_heap Y36 ((Y1.alloc (.cells #[.int .u8 (n8 bt)] 5)).heap.size) _ (arr8 32 F) _ _ hd1) (by simp) (fun i hi => arr8_get 32 F i hi)
                refine wpAnyH_done (by kernel_rfl) ?_ _
                refine NoPanic.normal ?_
                simp only [Act.put, List.setIfInBounds_toArray, List.set_cons_zero, List.set_cons_succ]
                exact ⟨trivial, _, _, _, _, _, _, _, _, _, _, rfl, (Below.drewNr (w := wr) 1).trans hHeld, hfin, hRD⟩
            · intro hHeld
              have hown1 := ownsRow_via hown1 (fun g _ hl => ((alc Y1 (.cells (Array.replicate 32 (.int .u8 0)) 31))).block g hl)
              have hbase := Nat.le_trans hbase ((alc Y1 (.cells (Array.replicate 32 (.int .u8 0)) 31))).size
              have hD : (Y1.alloc (.cells (Array.replicate 32 (.int .u8 0)) 31)).rowIs Y1.heap.size 31 32 (fun _ => .int .u8 0) := rowIs_new _ _ _ _ _ _ rfl (by simp) (fun i hi => by simp [hi])
              have hRD : wr.drew.heap.size ≤ Y1.heap.size := hRD
              obtain ⟨vP38_1, P38_1, hrP38_1, hoP38_1, hb0P38_1, hgP38_1, hatP38_1⟩ := run_many 33 (Y1.alloc (.cells (Array.replicate 32 (.int .u8 0)) 31)) _ _ Tk C info cc hown1 (hCr.below hHeld) hbase (by first | omega | (simp; omega))
              have hbSP38_1 := hHeld.trans (hb0P38_1.mono hRb)
              have hoffP38_1 := ownsRow_off hown1 hD (by decide)
              have hne : some (Y1.alloc (.cells (Array.replicate 32 (.int .u8 0)) 31)).heap.size ≠ vY1.ownBlock := fun e => by have h1 := (hown1.lt _ e.symm).2; omega
              refine held_ready [4, 7] (by kernel_rfl) (by simp) (rdy_app 4 (.tmp 36) (.tmp 37) 33 33 33 (some 38) (vY1) (.slice C info.length cc) (vP38_1) P38_1 (by kernel_rfl) (by kernel_rfl) (by kernel_rfl) (hrP38_1) (hbSP38_1) ?_ (rdy_bsl 7 33 5 (.tmp 40) (some 41) (.int .u8 (n8 bt)) (by kernel_rfl) (by kernel_rfl) (bsl_u8 _ _) (keepB hHeld (alc _ _)) ?_ AllReadyH.nil))
              · intro hHeld
                have hbase := Nat.le_trans hbase hgP38_1.size
                have hD := hD.of_block (hgP38_1.block _ hD.lt hoffP38_1)
                have hown1 := hoP38_1
                have hne : some P38_1.heap.size ≠ vP38_1.ownBlock := fun e => by have h1 := (hown1.lt _ e.symm).2; omega
                refine held_ready [7] (by kernel_rfl) (by simp) (rdy_bsl 7 33 5 (.tmp 40) (some 41) (.int .u8 (n8 bt)) (by kernel_rfl) (by kernel_rfl) (bsl_u8 _ _) (keepB hHeld (alc _ _)) ?_ AllReadyH.nil)
                intro hHeld
                have hbase := Nat.le_trans hbase ((alc P38_1 (.cells #[.int .u8 (n8 bt)] 5))).size
                have hD := hD.of_block (((alc P38_1 (.cells #[.int .u8 (n8 bt)] 5))).block _ hD.lt)
                have hown1 := ownsRow_via hown1 (fun g _ hl => ((alc P38_1 (.cells #[.int .u8 (n8 bt)] 5))).block g hl)
                have hs7 := SlRead.one_new (W := P38_1) (.int .u8 (n8 bt)) 5
                obtain ⟨vP40_2, P40_2, hrP40_2, hoP40_2, hb0P40_2, hgP40_2, hatP40_2⟩ := run_many 33 (P38_1.alloc (.cells #[.int .u8 (n8 bt)] 5)) _ _ (Tk ++ info) (some ⟨P38_1.heap.size, 0, none⟩) [bt] 1 hown1 hs7 hbase (by first | omega | (simp; omega))
                have hbSP40_2 := hHeld.trans (hb0P40_2.mono hRb)
                obtain ⟨AP40_2, cP40_2, rfl, hcP40_2⟩ := ownsRow_form hoP40_2
                have hoffP40_2 := ownsRow_off hown1 hD (by decide)
                refine held_ready [8] (by kernel_rfl) (by simp) (rdy_app 8 (.tmp 38) (.tmp 41) 33 33 33 (some 42) (vP38_1) (.slice (some ⟨P38_1.heap.size, 0, none⟩) 1 1) (.slice AP40_2 (Tk ++ info ++ [bt]).length cP40_2) P40_2 (by kernel_rfl) (by kernel_rfl) (by kernel_rfl) (hrP40_2) (hbSP40_2) ?_ AllReadyH.nil)
                intro hHeld
                have hD := hD.of_block (hgP40_2.block _ hD.lt hoffP40_2)
                have hown1 := hoP40_2
                have hz := SlRead.of_own hown1
                have hdm := dmac_any (some ⟨G, 0, none⟩) (lst 32 mm) 32 AP40_2 (Tk ++ info ++ [bt]) cP40_2 P40_2 (hgS.below hHeld) (by simp) hz (by simp; omega)
                rw [lst_length, HF.out] at hdm
                refine held_call 9 13 #[.tmp 34, .tmp 42] #[33, 33] (some 43) #[.slice (some ⟨G, 0, none⟩) 32 32, .slice AP40_2 (Tk ++ info ++ [bt]).length cP40_2] _ (by kernel_rfl) (by kernel_rfl) (by kernel_rfl) (by kernel_rfl) (hdm) ?_
                rintro e Y42 ⟨rfl, hbY42⟩
                refine ⟨_, rfl, keepB hHeld hbY42, fun hHeld => ?_⟩
                have hD := hD.of_block ((hbY42).block _ hD.lt)
                have hz := hz.below hbY42
                obtain ⟨od, hd1, hd2, _⟩ := hD
                refine held_ready [11] (by kernel_rfl) (by simp) (rdy_storeR 11 31 (.tmp 14) (.tmp 43) (Y1.heap.size) (arr8 32 F) 31 od (by kernel_rfl) (by kernel_rfl) hd1 (by kernel_rfl) (by rw [hd2, arr8_size]) (arr8_one _ _) (below_setRow hHeld hRD (arr8 32 F)) ?_ AllReadyH.nil)
                intro hHeld
                have hfin := rowIs_arr (setRow_heap Y42 (Y1.heap.size) _ (arr8 32 F) _ _ hd1) (by simp) (fun i hi => arr8_get 32 F i hi)
                refine wpAnyH_done (by kernel_rfl) ?_ _
                refine NoPanic.normal ?_
                simp only [Act.put, List.setIfInBounds_toArray, List.set_cons_zero, List.set_cons_succ]
                exact ⟨trivial, _, _, _, _, _, _, _, _, _, _, rfl, (Below.drewNr (w := wr) 1).trans hHeld, hfin, hRD⟩
              · intro hHeld
                have hown1 := ownsRow_via hown1 (fun g _ hl => ((alc (Y1.alloc (.cells (Array.replicate 32 (.int .u8 0)) 31)) (.cells #[.int .u8 (n8 bt)] 5))).block g hl)
                have hbase := Nat.le_trans hbase ((alc (Y1.alloc (.cells (Array.replicate 32 (.int .u8 0)) 31)) (.cells #[.int .u8 (n8 bt)] 5))).size
                have hD := hD.of_block (((alc (Y1.alloc (.cells (Array.replicate 32 (.int .u8 0)) 31)) (.cells #[.int .u8 (n8 bt)] 5))).block _ hD.lt)
                have hs7 := SlRead.one_new (W := (Y1.alloc (.cells (Array.replicate 32 (.int .u8 0)) 31))) (.int .u8 (n8 bt)) 5
                obtain ⟨vP44_1, P44_1, hrP44_1, hoP44_1, hb0P44_1, hgP44_1, hatP44_1⟩ := run_many 33 ((Y1.alloc (.cells (Array.replicate 32 (.int .u8 0)) 31)).alloc (.cells #[.int .u8 (n8 bt)] 5)) _ _ Tk C info cc hown1 (hCr.below hHeld) hbase (by first | omega | (simp; omega))
                have hbSP44_1 := hHeld.trans (hb0P44_1.mono hRb)
                have hlt7 := slread_lt hs7 (by simp)
                have hoffP44_1 := ownsRow_off hown1 hD (by decide)
                refine held_ready [4] (by kernel_rfl) (by simp) (rdy_app 4 (.tmp 36) (.tmp 37) 33 33 33 (some 38) (vY1) (.slice C info.length cc) (vP44_1) P44_1 (by kernel_rfl) (by kernel_rfl) (by kernel_rfl) (hrP44_1) (hbSP44_1) ?_ AllReadyH.nil)
                intro hHeld
                have hbase := Nat.le_trans hbase hgP44_1.size
                have hD := hD.of_block (hgP44_1.block _ hD.lt hoffP44_1)
                have hs7 := hs7.grownS hgP44_1 hne
                have hne : some ((Y1.alloc (.cells (Array.replicate 32 (.int .u8 0)) 31)).heap.size) ≠ vP44_1.ownBlock := by
                  rcases hatP44_1 with h | h
                  · rw [h]; exact hne
                  · rw [h]; intro e; have h1 := Option.some.inj e; omega
                have hown1 := hoP44_1
                obtain ⟨vP45_2, P45_2, hrP45_2, hoP45_2, hb0P45_2, hgP45_2, hatP45_2⟩ := run_many 33 P44_1 _ _ (Tk ++ info) (some ⟨(Y1.alloc (.cells (Array.replicate 32 (.int .u8 0)) 31)).heap.size, 0, none⟩) [bt] 1 hown1 hs7 hbase (by first | omega | (simp; omega))
                have hbSP45_2 := hHeld.trans (hb0P45_2.mono hRb)
                obtain ⟨AP45_2, cP45_2, rfl, hcP45_2⟩ := ownsRow_form hoP45_2
                have hoffP45_2 := ownsRow_off hown1 hD (by decide)
                refine held_ready [8] (by kernel_rfl) (by simp) (rdy_app 8 (.tmp 38) (.tmp 41) 33 33 33 (some 42) (vP44_1) (.slice (some ⟨(Y1.alloc (.cells (Array.replicate 32 (.int .u8 0)) 31)).heap.size, 0, none⟩) 1 1) (.slice AP45_2 (Tk ++ info ++ [bt]).length cP45_2) P45_2 (by kernel_rfl) (by kernel_rfl) (by kernel_rfl) (hrP45_2) (hbSP45_2) ?_ AllReadyH.nil)
                intro hHeld
                have hD := hD.of_block (hgP45_2.block _ hD.lt hoffP45_2)
                have hown1 := hoP45_2
                have hz := SlRead.of_own hown1
                have hdm := dmac_any (some ⟨G, 0, none⟩) (lst 32 mm) 32 AP45_2 (Tk ++ info ++ [bt]) cP45_2 P45_2 (hgS.below hHeld) (by simp) hz (by simp; omega)
                rw [lst_length, HF.out] at hdm
                refine held_call 9 13 #[.tmp 34, .tmp 42] #[33, 33] (some 43) #[.slice (some ⟨G, 0, none⟩) 32 32, .slice AP45_2 (Tk ++ info ++ [bt]).length cP45_2] _ (by kernel_rfl) (by kernel_rfl) (by kernel_rfl) (by kernel_rfl) (hdm) ?_
                rintro e Y47 ⟨rfl, hbY47⟩
                refine ⟨_, rfl, keepB hHeld hbY47, fun hHeld => ?_⟩
                have hD := hD.of_block ((hbY47).block _ hD.lt)
                have hz := hz.below hbY47
                obtain ⟨od, hd1, hd2, _⟩ := hD
                refine held_ready [11] (by kernel_rfl) (by simp) (rdy_storeR 11 31 (.tmp 14) (.tmp 43) (Y1.heap.size) (arr8 32 F) 31 od (by kernel_rfl) (by kernel_rfl) hd1 (by kernel_rfl) (by rw [hd2, arr8_size]) (arr8_one _ _) (below_setRow hHeld hRD (arr8 32 F)) ?_ AllReadyH.nil)
                intro hHeld
                have hfin := rowIs_arr (setRow_heap Y47 (Y1.heap.size) _ (arr8 32 F) _ _ hd1) (by simp) (fun i hi => arr8_get 32 F i hi)
                refine wpAnyH_done (by kernel_rfl) ?_ _
                refine NoPanic.normal ?_
                simp only [Act.put, List.setIfInBounds_toArray, List.set_cons_zero, List.set_cons_succ]
                exact ⟨trivial, _, _, _, _, _, _, _, _, _, _, rfl, (Below.drewNr (w := wr) 1).trans hHeld, hfin, hRD⟩
          · intro hHeld
            have hs7 := SlRead.one_new (W := wr.drew) (.int .u8 (n8 bt)) 5
            have hby := bytes_any Al (bys Tk) cl (wr.drew.alloc (.cells #[.int .u8 (n8 bt)] 5)) (hslT.below hHeld) (by simp; omega)
            rw [bys_length] at hby
            have hRb := hHeld.size
            have hRD : wr.drew.heap.size ≤ (wr.drew.alloc (.cells #[.int .u8 (n8 bt)] 5)).heap.size := hHeld.size
            refine held_ready [2, 10] (by kernel_rfl) (by simp) (rdy_call 2 17 #[.tmp 35] #[33] (some 36) #[.slice Al Tk.length cl] _ (by kernel_rfl) (by kernel_rfl) (by kernel_rfl) (hby) ?_ (rdy_alloc 10 31 (some 14) (Array.replicate 32 (.int .u8 0)) (by kernel_rfl) (fun _ => by kernel_rfl) (keepB hHeld (alc _ _)) ?_ AllReadyH.nil))
            · rintro e Y50 ⟨vY50, rfl, hown1, hbY50⟩
              refine ⟨_, rfl, keepB hHeld hbY50, fun hHeld => ?_⟩
              have hs7 := hs7.below hbY50
              have hbase := hbY50.size
              have hne : some (wr.drew.heap.size) ≠ vY50.ownBlock := fun e => by have h1 := (hown1.lt _ e.symm).1; first | omega | (simp at h1; omega)
              obtain ⟨vP50_1, P50_1, hrP50_1, hoP50_1, hb0P50_1, hgP50_1, hatP50_1⟩ := run_many 33 Y50 _ _ Tk C info cc hown1 (hCr.below hHeld) hbase (by first | omega | (simp; omega))
              have hbSP50_1 := hHeld.trans (hb0P50_1.mono hRb)
              have hlt7 := slread_lt hs7 (by simp)
              have hRD : wr.drew.heap.size ≤ Y50.heap.size := hHeld.size
              refine held_ready [4, 10] (by kernel_rfl) (by simp) (rdy_app 4 (.tmp 36) (.tmp 37) 33 33 33 (some 38) (vY50) (.slice C info.length cc) (vP50_1) P50_1 (by kernel_rfl) (by kernel_rfl) (by kernel_rfl) (hrP50_1) (hbSP50_1) ?_ (rdy_alloc 10 31 (some 14) (Array.replicate 32 (.int .u8 0)) (by kernel_rfl) (fun _ => by kernel_rfl) (keepB hHeld (alc _ _)) ?_ AllReadyH.nil))
              · intro hHeld
                have hs7 := hs7.grownS hgP50_1 hne
                have hbase := Nat.le_trans hbase hgP50_1.size
                have hne : some (wr.drew.heap.size) ≠ vP50_1.ownBlock := by
                  rcases hatP50_1 with h | h
                  · rw [h]; exact hne
                  · rw [h]; intro e; have h1 := Option.some.inj e; omega
                have hown1 := hoP50_1
                obtain ⟨vP51_2, P51_2, hrP51_2, hoP51_2, hb0P51_2, hgP51_2, hatP51_2⟩ := run_many 33 P50_1 _ _ (Tk ++ info) (some ⟨wr.drew.heap.size, 0, none⟩) [bt] 1 hown1 hs7 hbase (by first | omega | (simp; omega))
                have hbSP51_2 := hHeld.trans (hb0P51_2.mono hRb)
                obtain ⟨AP51_2, cP51_2, rfl, hcP51_2⟩ := ownsRow_form hoP51_2
                have hRD : wr.drew.heap.size ≤ P50_1.heap.size := hHeld.size
                refine held_ready [8, 10] (by kernel_rfl) (by simp) (rdy_app 8 (.tmp 38) (.tmp 41) 33 33 33 (some 42) (vP50_1) (.slice (some ⟨wr.drew.heap.size, 0, none⟩) 1 1) (.slice AP51_2 (Tk ++ info ++ [bt]).length cP51_2) P51_2 (by kernel_rfl) (by kernel_rfl) (by kernel_rfl) (hrP51_2) (hbSP51_2) ?_ (rdy_alloc 10 31 (some 14) (Array.replicate 32 (.int .u8 0)) (by kernel_rfl) (fun _ => by kernel_rfl) (keepB hHeld (alc _ _)) ?_ AllReadyH.nil))
                · intro hHeld
                  have hown1 := hoP51_2
                  have hz := SlRead.of_own hown1
                  have hdm := dmac_any (some ⟨G, 0, none⟩) (lst 32 mm) 32 AP51_2 (Tk ++ info ++ [bt]) cP51_2 P51_2 (hgS.below hHeld) (by simp) hz (by simp; omega)
                  rw [lst_length, HF.out] at hdm
                  have hRD : wr.drew.heap.size ≤ P51_2.heap.size := hHeld.size
                  refine held_ready [9, 10] (by kernel_rfl) (by simp) (rdy_call 9 13 #[.tmp 34, .tmp 42] #[33, 33] (some 43) #[.slice (some ⟨G, 0, none⟩) 32 32, .slice AP51_2 (Tk ++ info ++ [bt]).length cP51_2] _ (by kernel_rfl) (by kernel_rfl) (by kernel_rfl) (hdm) ?_ (rdy_alloc 10 31 (some 14) (Array.replicate 32 (.int .u8 0)) (by kernel_rfl) (fun _ => by kernel_rfl) (keepB hHeld (alc _ _)) ?_ AllReadyH.nil))
                  · rintro e Y53 ⟨rfl, hbY53⟩
                    refine ⟨_, rfl, keepB hHeld hbY53, fun hHeld => ?_⟩
                    have hz := hz.below hbY53
                    have hRD : wr.drew.heap.size ≤ Y53.heap.size := hHeld.size
                    refine held_ready [10] (by kernel_rfl) (by simp) (rdy_alloc 10 31 (some 14) (Array.replicate 32 (.int .u8 0)) (by kernel_rfl) (fun _ => by kernel_rfl) (keepB hHeld (alc _ _)) ?_ AllReadyH.nil)
                    intro hHeld
                    have hz := hz.below (alc Y53 (.cells (Array.replicate 32 (.int .u8 0)) 31))
                    have hD : (Y53.alloc (.cells (Array.replicate 32 (.int .u8 0)) 31)).rowIs Y53.heap.size 31 32 (fun _ => .int .u8 0) := rowIs_new _ _ _ _ _ _ rfl (by simp) (fun i hi => by simp [hi])
                    have hRD : wr.drew.heap.size ≤ Y53.heap.size := hRD
                    obtain ⟨od, hd1, hd2, _⟩ := hD
                    refine held_ready [11] (by kernel_rfl) (by simp) (rdy_storeR 11 31 (.tmp 14) (.tmp 43) (Y53.heap.size) (arr8 32 F) 31 od (by kernel_rfl) (by kernel_rfl) hd1 (by kernel_rfl) (by rw [hd2, arr8_size]) (arr8_one _ _) (below_setRow hHeld hRD (arr8 32 F)) ?_ AllReadyH.nil)
                    intro hHeld
                    have hfin := rowIs_arr (setRow_heap (Y53.alloc (.cells (Array.replicate 32 (.int .u8 0)) 31)) (Y53.heap.size) _ (arr8 32 F) _ _ hd1) (by simp) (fun i hi => arr8_get 32 F i hi)
                    refine wpAnyH_done (by kernel_rfl) ?_ _
                    refine NoPanic.normal ?_
                    simp only [Act.put, List.setIfInBounds_toArray, List.set_cons_zero, List.set_cons_succ]
                    exact ⟨trivial, _, _, _, _, _, _, _, _, _, _, rfl, (Below.drewNr (w := wr) 1).trans hHeld, hfin, hRD⟩
                  · intro hHeld
                    have hz := hz.below (alc P51_2 (.cells (Array.replicate 32 (.int .u8 0)) 31))
                    have hD : (P51_2.alloc (.cells (Array.replicate 32 (.int .u8 0)) 31)).rowIs P51_2.heap.size 31 32 (fun _ => .int .u8 0) := rowIs_new _ _ _ _ _ _ rfl (by simp) (fun i hi => by simp [hi])
                    have hRD : wr.drew.heap.size ≤ P51_2.heap.size := hRD
                    have hdm := dmac_any (some ⟨G, 0, none⟩) (lst 32 mm) 32 AP51_2 (Tk ++ info ++ [bt]) cP51_2 (P51_2.alloc (.cells (Array.replicate 32 (.int .u8 0)) 31)) (hgS.below hHeld) (by simp) hz (by simp; omega)
                    rw [lst_length, HF.out] at hdm
                    refine held_call 9 13 #[.tmp 34, .tmp 42] #[33, 33] (some 43) #[.slice (some ⟨G, 0, none⟩) 32 32, .slice AP51_2 (Tk ++ info ++ [bt]).length cP51_2] _ (by kernel_rfl) (by kernel_rfl) (by kernel_rfl) (by kernel_rfl) (hdm) ?_
                    rintro e Y57 ⟨rfl, hbY57⟩
                    refine ⟨_, rfl, keepB hHeld hbY57, fun hHeld => ?_⟩
                    have hz := hz.below hbY57
                    have hD := hD.of_block ((hbY57).block _ hD.lt)
                    obtain ⟨od, hd1, hd2, _⟩ := hD
                    refine held_ready [11] (by kernel_rfl) (by simp) (rdy_storeR 11 31 (.tmp 14) (.tmp 43) (P51_2.heap.size) (arr8 32 F) 31 od (by kernel_rfl) (by kernel_rfl) hd1 (by kernel_rfl) (by rw [hd2, arr8_size]) (arr8_one _ _) (below_setRow hHeld hRD (arr8 32 F)) ?_ AllReadyH.nil)
                    intro hHeld
                    have hfin := rowIs_arr (setRow_heap Y57 (P51_2.heap.size) _ (arr8 32 F) _ _ hd1) (by simp) (fun i hi => arr8_get 32 F i hi)
                    refine wpAnyH_done (by kernel_rfl) ?_ _
                    refine NoPanic.normal ?_
                    simp only [Act.put, List.setIfInBounds_toArray, List.set_cons_zero, List.set_cons_succ]
                    exact ⟨trivial, _, _, _, _, _, _, _, _, _, _, rfl, (Below.drewNr (w := wr) 1).trans hHeld, hfin, hRD⟩
                · intro hHeld
                  have hs7 := hs7.below (alc P50_1 (.cells (Array.replicate 32 (.int .u8 0)) 31))
                  have hbase := Nat.le_trans hbase ((alc P50_1 (.cells (Array.replicate 32 (.int .u8 0)) 31))).size
                  have hown1 := ownsRow_via hown1 (fun g _ hl => ((alc P50_1 (.cells (Array.replicate 32 (.int .u8 0)) 31))).block g hl)
                  have hD : (P50_1.alloc (.cells (Array.replicate 32 (.int .u8 0)) 31)).rowIs P50_1.heap.size 31 32 (fun _ => .int .u8 0) := rowIs_new _ _ _ _ _ _ rfl (by simp) (fun i hi => by simp [hi])
                  have hRD : wr.drew.heap.size ≤ P50_1.heap.size := hRD
                  obtain ⟨vP59_2, P59_2, hrP59_2, hoP59_2, hb0P59_2, hgP59_2, hatP59_2⟩ := run_many 33 (P50_1.alloc (.cells (Array.replicate 32 (.int .u8 0)) 31)) _ _ (Tk ++ info) (some ⟨wr.drew.heap.size, 0, none⟩) [bt] 1 hown1 hs7 hbase (by first | omega | (simp; omega))
                  have hbSP59_2 := hHeld.trans (hb0P59_2.mono hRb)
                  obtain ⟨AP59_2, cP59_2, rfl, hcP59_2⟩ := ownsRow_form hoP59_2
                  have hoffP59_2 := ownsRow_off hown1 hD (by decide)
                  refine held_ready [8] (by kernel_rfl) (by simp) (rdy_app 8 (.tmp 38) (.tmp 41) 33 33 33 (some 42) (vP50_1) (.slice (some ⟨wr.drew.heap.size, 0, none⟩) 1 1) (.slice AP59_2 (Tk ++ info ++ [bt]).length cP59_2) P59_2 (by kernel_rfl) (by kernel_rfl) (by kernel_rfl) (hrP59_2) (hbSP59_2) ?_ AllReadyH.nil)
                  intro hHeld
                  have hD := hD.of_block (hgP59_2.block _ hD.lt hoffP59_2)
                  have hown1 := hoP59_2
                  have hz := SlRead.of_own hown1
                  have hdm := dmac_any (some ⟨G, 0, none⟩) (lst 32 mm) 32 AP59_2 (Tk ++ info ++ [bt]) cP59_2 P59_2 (hgS.below hHeld) (by simp) hz (by simp; omega)
                  rw [lst_length, HF.out] at hdm
                  refine held_call 9 13 #[.tmp 34, .tmp 42] #[33, 33] (some 43) #[.slice (some ⟨G, 0, none⟩) 32 32, .slice AP59_2 (Tk ++ info ++ [bt]).length cP59_2] _ (by kernel_rfl) (by kernel_rfl) (by kernel_rfl) (by kernel_rfl) (hdm) ?_
                  rintro e Y61 ⟨rfl, hbY61⟩
                  refine ⟨_, rfl, keepB hHeld hbY61, fun hHeld => ?_⟩
                  have hD := hD.of_block ((hbY61).block _ hD.lt)
                  have hz := hz.below hbY61
                  obtain ⟨od, hd1, hd2, _⟩ := hD
                  refine held_ready [11] (by kernel_rfl) (by simp) (rdy_storeR 11 31 (.tmp 14) (.tmp 43) (P50_1.heap.size) (arr8 32 F) 31 od (by kernel_rfl) (by kernel_rfl) hd1 (by kernel_rfl) (by rw [hd2, arr8_size]) (arr8_one _ _) (below_setRow hHeld hRD (arr8 32 F)) ?_ AllReadyH.nil)
                  intro hHeld
                  have hfin := rowIs_arr (setRow_heap Y61 (P50_1.heap.size) _ (arr8 32 F) _ _ hd1) (by simp) (fun i hi => arr8_get 32 F i hi)
                  refine wpAnyH_done (by kernel_rfl) ?_ _
                  refine NoPanic.normal ?_
                  simp only [Act.put, List.setIfInBounds_toArray, List.set_cons_zero, List.set_cons_succ]
                  exact ⟨trivial, _, _, _, _, _, _, _, _, _, _, rfl, (Below.drewNr (w := wr) 1).trans hHeld, hfin, hRD⟩
              · intro hHeld
                have hs7 := hs7.below (alc Y50 (.cells (Array.replicate 32 (.int .u8 0)) 31))
                have hown1 := ownsRow_via hown1 (fun g _ hl => ((alc Y50 (.cells (Array.replicate 32 (.int .u8 0)) 31))).block g hl)
                have hbase := Nat.le_trans hbase ((alc Y50 (.cells (Array.replicate 32 (.int .u8 0)) 31))).size
                have hD : (Y50.alloc (.cells (Array.replicate 32 (.int .u8 0)) 31)).rowIs Y50.heap.size 31 32 (fun _ => .int .u8 0) := rowIs_new _ _ _ _ _ _ rfl (by simp) (fun i hi => by simp [hi])
                have hRD : wr.drew.heap.size ≤ Y50.heap.size := hRD
                obtain ⟨vP63_1, P63_1, hrP63_1, hoP63_1, hb0P63_1, hgP63_1, hatP63_1⟩ := run_many 33 (Y50.alloc (.cells (Array.replicate 32 (.int .u8 0)) 31)) _ _ Tk C info cc hown1 (hCr.below hHeld) hbase (by first | omega | (simp; omega))
                have hbSP63_1 := hHeld.trans (hb0P63_1.mono hRb)
                have hlt7 := slread_lt hs7 (by simp)
                have hoffP63_1 := ownsRow_off hown1 hD (by decide)
                refine held_ready [4] (by kernel_rfl) (by simp) (rdy_app 4 (.tmp 36) (.tmp 37) 33 33 33 (some 38) (vY50) (.slice C info.length cc) (vP63_1) P63_1 (by kernel_rfl) (by kernel_rfl) (by kernel_rfl) (hrP63_1) (hbSP63_1) ?_ AllReadyH.nil)
                intro hHeld
                have hs7 := hs7.grownS hgP63_1 hne
                have hbase := Nat.le_trans hbase hgP63_1.size
                have hD := hD.of_block (hgP63_1.block _ hD.lt hoffP63_1)
                have hne : some (wr.drew.heap.size) ≠ vP63_1.ownBlock := by
                  rcases hatP63_1 with h | h
                  · rw [h]; exact hne
                  · rw [h]; intro e; have h1 := Option.some.inj e; omega
                have hown1 := hoP63_1
                obtain ⟨vP64_2, P64_2, hrP64_2, hoP64_2, hb0P64_2, hgP64_2, hatP64_2⟩ := run_many 33 P63_1 _ _ (Tk ++ info) (some ⟨wr.drew.heap.size, 0, none⟩) [bt] 1 hown1 hs7 hbase (by first | omega | (simp; omega))
                have hbSP64_2 := hHeld.trans (hb0P64_2.mono hRb)
                obtain ⟨AP64_2, cP64_2, rfl, hcP64_2⟩ := ownsRow_form hoP64_2
                have hoffP64_2 := ownsRow_off hown1 hD (by decide)
                refine held_ready [8] (by kernel_rfl) (by simp) (rdy_app 8 (.tmp 38) (.tmp 41) 33 33 33 (some 42) (vP63_1) (.slice (some ⟨wr.drew.heap.size, 0, none⟩) 1 1) (.slice AP64_2 (Tk ++ info ++ [bt]).length cP64_2) P64_2 (by kernel_rfl) (by kernel_rfl) (by kernel_rfl) (hrP64_2) (hbSP64_2) ?_ AllReadyH.nil)
                intro hHeld
                have hD := hD.of_block (hgP64_2.block _ hD.lt hoffP64_2)
                have hown1 := hoP64_2
                have hz := SlRead.of_own hown1
                have hdm := dmac_any (some ⟨G, 0, none⟩) (lst 32 mm) 32 AP64_2 (Tk ++ info ++ [bt]) cP64_2 P64_2 (hgS.below hHeld) (by simp) hz (by simp; omega)
                rw [lst_length, HF.out] at hdm
                refine held_call 9 13 #[.tmp 34, .tmp 42] #[33, 33] (some 43) #[.slice (some ⟨G, 0, none⟩) 32 32, .slice AP64_2 (Tk ++ info ++ [bt]).length cP64_2] _ (by kernel_rfl) (by kernel_rfl) (by kernel_rfl) (by kernel_rfl) (hdm) ?_
                rintro e Y66 ⟨rfl, hbY66⟩
                refine ⟨_, rfl, keepB hHeld hbY66, fun hHeld => ?_⟩
                have hD := hD.of_block ((hbY66).block _ hD.lt)
                have hz := hz.below hbY66
                obtain ⟨od, hd1, hd2, _⟩ := hD
                refine held_ready [11] (by kernel_rfl) (by simp) (rdy_storeR 11 31 (.tmp 14) (.tmp 43) (Y50.heap.size) (arr8 32 F) 31 od (by kernel_rfl) (by kernel_rfl) hd1 (by kernel_rfl) (by rw [hd2, arr8_size]) (arr8_one _ _) (below_setRow hHeld hRD (arr8 32 F)) ?_ AllReadyH.nil)
                intro hHeld
                have hfin := rowIs_arr (setRow_heap Y66 (Y50.heap.size) _ (arr8 32 F) _ _ hd1) (by simp) (fun i hi => arr8_get 32 F i hi)
                refine wpAnyH_done (by kernel_rfl) ?_ _
                refine NoPanic.normal ?_
                simp only [Act.put, List.setIfInBounds_toArray, List.set_cons_zero, List.set_cons_succ]
                exact ⟨trivial, _, _, _, _, _, _, _, _, _, _, rfl, (Below.drewNr (w := wr) 1).trans hHeld, hfin, hRD⟩
            · intro hHeld
              have hs7 := hs7.below (alc (wr.drew.alloc (.cells #[.int .u8 (n8 bt)] 5)) (.cells (Array.replicate 32 (.int .u8 0)) 31))
              have hD : ((wr.drew.alloc (.cells #[.int .u8 (n8 bt)] 5)).alloc (.cells (Array.replicate 32 (.int .u8 0)) 31)).rowIs (wr.drew.alloc (.cells #[.int .u8 (n8 bt)] 5)).heap.size 31 32 (fun _ => .int .u8 0) := rowIs_new _ _ _ _ _ _ rfl (by simp) (fun i hi => by simp [hi])
              have hRD : wr.drew.heap.size ≤ (wr.drew.alloc (.cells #[.int .u8 (n8 bt)] 5)).heap.size := hRD
              have hby := bytes_any Al (bys Tk) cl ((wr.drew.alloc (.cells #[.int .u8 (n8 bt)] 5)).alloc (.cells (Array.replicate 32 (.int .u8 0)) 31)) (hslT.below hHeld) (by simp; omega)
              rw [bys_length] at hby
              have hRb := hHeld.size
              refine held_call 2 17 #[.tmp 35] #[33] (some 36) #[.slice Al Tk.length cl] _ (by kernel_rfl) (by kernel_rfl) (by kernel_rfl) (by kernel_rfl) (hby) ?_
              rintro e Y69 ⟨vY69, rfl, hown1, hbY69⟩
              refine ⟨_, rfl, keepB hHeld hbY69, fun hHeld => ?_⟩
              have hs7 := hs7.below hbY69
              have hD := hD.of_block ((hbY69).block _ hD.lt)
              have hbase := hbY69.size
              have hne : some (wr.drew.heap.size) ≠ vY69.ownBlock := fun e => by have h1 := (hown1.lt _ e.symm).1; first | omega | (simp at h1; omega)
              obtain ⟨vP69_1, P69_1, hrP69_1, hoP69_1, hb0P69_1, hgP69_1, hatP69_1⟩ := run_many 33 Y69 _ _ Tk C info cc hown1 (hCr.below hHeld) hbase (by first | omega | (simp; omega))
              have hbSP69_1 := hHeld.trans (hb0P69_1.mono hRb)
              have hlt7 := slread_lt hs7 (by simp)
              have hoffP69_1 := ownsRow_off hown1 hD (by decide)
              refine held_ready [4] (by kernel_rfl) (by simp) (rdy_app 4 (.tmp 36) (.tmp 37) 33 33 33 (some 38) (vY69) (.slice C info.length cc) (vP69_1) P69_1 (by kernel_rfl) (by kernel_rfl) (by kernel_rfl) (hrP69_1) (hbSP69_1) ?_ AllReadyH.nil)
              intro hHeld
              have hs7 := hs7.grownS hgP69_1 hne
              have hD := hD.of_block (hgP69_1.block _ hD.lt hoffP69_1)
              have hbase := Nat.le_trans hbase hgP69_1.size
              have hne : some (wr.drew.heap.size) ≠ vP69_1.ownBlock := by
                rcases hatP69_1 with h | h
                · rw [h]; exact hne
                · rw [h]; intro e; have h1 := Option.some.inj e; omega
              have hown1 := hoP69_1
              obtain ⟨vP70_2, P70_2, hrP70_2, hoP70_2, hb0P70_2, hgP70_2, hatP70_2⟩ := run_many 33 P69_1 _ _ (Tk ++ info) (some ⟨wr.drew.heap.size, 0, none⟩) [bt] 1 hown1 hs7 hbase (by first | omega | (simp; omega))
              have hbSP70_2 := hHeld.trans (hb0P70_2.mono hRb)
              obtain ⟨AP70_2, cP70_2, rfl, hcP70_2⟩ := ownsRow_form hoP70_2
              have hoffP70_2 := ownsRow_off hown1 hD (by decide)
              refine held_ready [8] (by kernel_rfl) (by simp) (rdy_app 8 (.tmp 38) (.tmp 41) 33 33 33 (some 42) (vP69_1) (.slice (some ⟨wr.drew.heap.size, 0, none⟩) 1 1) (.slice AP70_2 (Tk ++ info ++ [bt]).length cP70_2) P70_2 (by kernel_rfl) (by kernel_rfl) (by kernel_rfl) (hrP70_2) (hbSP70_2) ?_ AllReadyH.nil)
              intro hHeld
              have hD := hD.of_block (hgP70_2.block _ hD.lt hoffP70_2)
              have hown1 := hoP70_2
              have hz := SlRead.of_own hown1
              have hdm := dmac_any (some ⟨G, 0, none⟩) (lst 32 mm) 32 AP70_2 (Tk ++ info ++ [bt]) cP70_2 P70_2 (hgS.below hHeld) (by simp) hz (by simp; omega)
              rw [lst_length, HF.out] at hdm
              refine held_call 9 13 #[.tmp 34, .tmp 42] #[33, 33] (some 43) #[.slice (some ⟨G, 0, none⟩) 32 32, .slice AP70_2 (Tk ++ info ++ [bt]).length cP70_2] _ (by kernel_rfl) (by kernel_rfl) (by kernel_rfl) (by kernel_rfl) (hdm) ?_
              rintro e Y72 ⟨rfl, hbY72⟩
              refine ⟨_, rfl, keepB hHeld hbY72, fun hHeld => ?_⟩
              have hD := hD.of_block ((hbY72).block _ hD.lt)
              have hz := hz.below hbY72
              obtain ⟨od, hd1, hd2, _⟩ := hD
              refine held_ready [11] (by kernel_rfl) (by simp) (rdy_storeR 11 31 (.tmp 14) (.tmp 43) ((wr.drew.alloc (.cells #[.int .u8 (n8 bt)] 5)).heap.size) (arr8 32 F) 31 od (by kernel_rfl) (by kernel_rfl) hd1 (by kernel_rfl) (by rw [hd2, arr8_size]) (arr8_one _ _) (below_setRow hHeld hRD (arr8 32 F)) ?_ AllReadyH.nil)
              intro hHeld
              have hfin := rowIs_arr (setRow_heap Y72 ((wr.drew.alloc (.cells #[.int .u8 (n8 bt)] 5)).heap.size) _ (arr8 32 F) _ _ hd1) (by simp) (fun i hi => arr8_get 32 F i hi)
              refine wpAnyH_done (by kernel_rfl) ?_ _
              refine NoPanic.normal ?_
              simp only [Act.put, List.setIfInBounds_toArray, List.set_cons_zero, List.set_cons_succ]
              exact ⟨trivial, _, _, _, _, _, _, _, _, _, _, rfl, (Below.drewNr (w := wr) 1).trans hHeld, hfin, hRD⟩
          · intro hHeld
            have hD : (wr.drew.alloc (.cells (Array.replicate 32 (.int .u8 0)) 31)).rowIs wr.drew.heap.size 31 32 (fun _ => .int .u8 0) := rowIs_new _ _ _ _ _ _ rfl (by simp) (fun i hi => by simp [hi])
            have hRD : wr.drew.heap.size ≤ wr.drew.heap.size := hRD
            have hby := bytes_any Al (bys Tk) cl (wr.drew.alloc (.cells (Array.replicate 32 (.int .u8 0)) 31)) (hslT.below hHeld) (by simp; omega)
            rw [bys_length] at hby
            have hRb := hHeld.size
            refine held_ready [2, 7] (by kernel_rfl) (by simp) (rdy_call 2 17 #[.tmp 35] #[33] (some 36) #[.slice Al Tk.length cl] _ (by kernel_rfl) (by kernel_rfl) (by kernel_rfl) (hby) ?_ (rdy_bsl 7 33 5 (.tmp 40) (some 41) (.int .u8 (n8 bt)) (by kernel_rfl) (by kernel_rfl) (bsl_u8 _ _) (keepB hHeld (alc _ _)) ?_ AllReadyH.nil))
            · rintro e Y75 ⟨vY75, rfl, hown1, hbY75⟩
              refine ⟨_, rfl, keepB hHeld hbY75, fun hHeld => ?_⟩
              have hD := hD.of_block ((hbY75).block _ hD.lt)
              have hbase := hbY75.size
              obtain ⟨vP75_1, P75_1, hrP75_1, hoP75_1, hb0P75_1, hgP75_1, hatP75_1⟩ := run_many 33 Y75 _ _ Tk C info cc hown1 (hCr.below hHeld) hbase (by first | omega | (simp; omega))
              have hbSP75_1 := hHeld.trans (hb0P75_1.mono hRb)
              have hoffP75_1 := ownsRow_off hown1 hD (by decide)
              have hne : some Y75.heap.size ≠ vY75.ownBlock := fun e => by have h1 := (hown1.lt _ e.symm).2; omega
              refine held_ready [4, 7] (by kernel_rfl) (by simp) (rdy_app 4 (.tmp 36) (.tmp 37) 33 33 33 (some 38) (vY75) (.slice C info.length cc) (vP75_1) P75_1 (by kernel_rfl) (by kernel_rfl) (by kernel_rfl) (hrP75_1) (hbSP75_1) ?_ (rdy_bsl 7 33 5 (.tmp 40) (some 41) (.int .u8 (n8 bt)) (by kernel_rfl) (by kernel_rfl) (bsl_u8 _ _) (keepB hHeld (alc _ _)) ?_ AllReadyH.nil))
              · intro hHeld
                have hD := hD.of_block (hgP75_1.block _ hD.lt hoffP75_1)
                have hbase := Nat.le_trans hbase hgP75_1.size
                have hown1 := hoP75_1
                have hne : some P75_1.heap.size ≠ vP75_1.ownBlock := fun e => by have h1 := (hown1.lt _ e.symm).2; omega
                refine held_ready [7] (by kernel_rfl) (by simp) (rdy_bsl 7 33 5 (.tmp 40) (some 41) (.int .u8 (n8 bt)) (by kernel_rfl) (by kernel_rfl) (bsl_u8 _ _) (keepB hHeld (alc _ _)) ?_ AllReadyH.nil)
                intro hHeld
                have hD := hD.of_block (((alc P75_1 (.cells #[.int .u8 (n8 bt)] 5))).block _ hD.lt)
                have hbase := Nat.le_trans hbase ((alc P75_1 (.cells #[.int .u8 (n8 bt)] 5))).size
                have hown1 := ownsRow_via hown1 (fun g _ hl => ((alc P75_1 (.cells #[.int .u8 (n8 bt)] 5))).block g hl)
                have hs7 := SlRead.one_new (W := P75_1) (.int .u8 (n8 bt)) 5
                obtain ⟨vP77_2, P77_2, hrP77_2, hoP77_2, hb0P77_2, hgP77_2, hatP77_2⟩ := run_many 33 (P75_1.alloc (.cells #[.int .u8 (n8 bt)] 5)) _ _ (Tk ++ info) (some ⟨P75_1.heap.size, 0, none⟩) [bt] 1 hown1 hs7 hbase (by first | omega | (simp; omega))
                have hbSP77_2 := hHeld.trans (hb0P77_2.mono hRb)
                obtain ⟨AP77_2, cP77_2, rfl, hcP77_2⟩ := ownsRow_form hoP77_2
                have hoffP77_2 := ownsRow_off hown1 hD (by decide)
                refine held_ready [8] (by kernel_rfl) (by simp) (rdy_app 8 (.tmp 38) (.tmp 41) 33 33 33 (some 42) (vP75_1) (.slice (some ⟨P75_1.heap.size, 0, none⟩) 1 1) (.slice AP77_2 (Tk ++ info ++ [bt]).length cP77_2) P77_2 (by kernel_rfl) (by kernel_rfl) (by kernel_rfl) (hrP77_2) (hbSP77_2) ?_ AllReadyH.nil)
                intro hHeld
                have hD := hD.of_block (hgP77_2.block _ hD.lt hoffP77_2)
                have hown1 := hoP77_2
                have hz := SlRead.of_own hown1
                have hdm := dmac_any (some ⟨G, 0, none⟩) (lst 32 mm) 32 AP77_2 (Tk ++ info ++ [bt]) cP77_2 P77_2 (hgS.below hHeld) (by simp) hz (by simp; omega)
                rw [lst_length, HF.out] at hdm
                refine held_call 9 13 #[.tmp 34, .tmp 42] #[33, 33] (some 43) #[.slice (some ⟨G, 0, none⟩) 32 32, .slice AP77_2 (Tk ++ info ++ [bt]).length cP77_2] _ (by kernel_rfl) (by kernel_rfl) (by kernel_rfl) (by kernel_rfl) (hdm) ?_
                rintro e Y79 ⟨rfl, hbY79⟩
                refine ⟨_, rfl, keepB hHeld hbY79, fun hHeld => ?_⟩
                have hD := hD.of_block ((hbY79).block _ hD.lt)
                have hz := hz.below hbY79
                obtain ⟨od, hd1, hd2, _⟩ := hD
                refine held_ready [11] (by kernel_rfl) (by simp) (rdy_storeR 11 31 (.tmp 14) (.tmp 43) (wr.drew.heap.size) (arr8 32 F) 31 od (by kernel_rfl) (by kernel_rfl) hd1 (by kernel_rfl) (by rw [hd2, arr8_size]) (arr8_one _ _) (below_setRow hHeld hRD (arr8 32 F)) ?_ AllReadyH.nil)
                intro hHeld
                have hfin := rowIs_arr (setRow_heap Y79 (wr.drew.heap.size) _ (arr8 32 F) _ _ hd1) (by simp) (fun i hi => arr8_get 32 F i hi)
                refine wpAnyH_done (by kernel_rfl) ?_ _
                refine NoPanic.normal ?_
                simp only [Act.put, List.setIfInBounds_toArray, List.set_cons_zero, List.set_cons_succ]
                exact ⟨trivial, _, _, _, _, _, _, _, _, _, _, rfl, (Below.drewNr (w := wr) 1).trans hHeld, hfin, hRD⟩
              · intro hHeld
                have hD := hD.of_block (((alc Y75 (.cells #[.int .u8 (n8 bt)] 5))).block _ hD.lt)
                have hown1 := ownsRow_via hown1 (fun g _ hl => ((alc Y75 (.cells #[.int .u8 (n8 bt)] 5))).block g hl)
                have hbase := Nat.le_trans hbase ((alc Y75 (.cells #[.int .u8 (n8 bt)] 5))).size
                have hs7 := SlRead.one_new (W := Y75) (.int .u8 (n8 bt)) 5
                obtain ⟨vP81_1, P81_1, hrP81_1, hoP81_1, hb0P81_1, hgP81_1, hatP81_1⟩ := run_many 33 (Y75.alloc (.cells #[.int .u8 (n8 bt)] 5)) _ _ Tk C info cc hown1 (hCr.below hHeld) hbase (by first | omega | (simp; omega))
                have hbSP81_1 := hHeld.trans (hb0P81_1.mono hRb)
                have hlt7 := slread_lt hs7 (by simp)
                have hoffP81_1 := ownsRow_off hown1 hD (by decide)
                refine held_ready [4] (by kernel_rfl) (by simp) (rdy_app 4 (.tmp 36) (.tmp 37) 33 33 33 (some 38) (vY75) (.slice C info.length cc) (vP81_1) P81_1 (by kernel_rfl) (by kernel_rfl) (by kernel_rfl) (hrP81_1) (hbSP81_1) ?_ AllReadyH.nil)
                intro hHeld
                have hD := hD.of_block (hgP81_1.block _ hD.lt hoffP81_1)
                have hbase := Nat.le_trans hbase hgP81_1.size
                have hs7 := hs7.grownS hgP81_1 hne
                have hne : some (Y75.heap.size) ≠ vP81_1.ownBlock := by
                  rcases hatP81_1 with h | h
                  · rw [h]; exact hne
                  · rw [h]; intro e; have h1 := Option.some.inj e; omega
                have hown1 := hoP81_1
                obtain ⟨vP82_2, P82_2, hrP82_2, hoP82_2, hb0P82_2, hgP82_2, hatP82_2⟩ := run_many 33 P81_1 _ _ (Tk ++ info) (some ⟨Y75.heap.size, 0, none⟩) [bt] 1 hown1 hs7 hbase (by first | omega | (simp; omega))
                have hbSP82_2 := hHeld.trans (hb0P82_2.mono hRb)
                obtain ⟨AP82_2, cP82_2, rfl, hcP82_2⟩ := ownsRow_form hoP82_2
                have hoffP82_2 := ownsRow_off hown1 hD (by decide)
                refine held_ready [8] (by kernel_rfl) (by simp) (rdy_app 8 (.tmp 38) (.tmp 41) 33 33 33 (some 42) (vP81_1) (.slice (some ⟨Y75.heap.size, 0, none⟩) 1 1) (.slice AP82_2 (Tk ++ info ++ [bt]).length cP82_2) P82_2 (by kernel_rfl) (by kernel_rfl) (by kernel_rfl) (hrP82_2) (hbSP82_2) ?_ AllReadyH.nil)
                intro hHeld
                have hD := hD.of_block (hgP82_2.block _ hD.lt hoffP82_2)
                have hown1 := hoP82_2
                have hz := SlRead.of_own hown1
                have hdm := dmac_any (some ⟨G, 0, none⟩) (lst 32 mm) 32 AP82_2 (Tk ++ info ++ [bt]) cP82_2 P82_2 (hgS.below hHeld) (by simp) hz (by simp; omega)
                rw [lst_length, HF.out] at hdm
                refine held_call 9 13 #[.tmp 34, .tmp 42] #[33, 33] (some 43) #[.slice (some ⟨G, 0, none⟩) 32 32, .slice AP82_2 (Tk ++ info ++ [bt]).length cP82_2] _ (by kernel_rfl) (by kernel_rfl) (by kernel_rfl) (by kernel_rfl) (hdm) ?_
                rintro e Y84 ⟨rfl, hbY84⟩
                refine ⟨_, rfl, keepB hHeld hbY84, fun hHeld => ?_⟩
                have hD := hD.of_block ((hbY84).block _ hD.lt)
                have hz := hz.below hbY84
                obtain ⟨od, hd1, hd2, _⟩ := hD
                refine held_ready [11] (by kernel_rfl) (by simp) (rdy_storeR 11 31 (.tmp 14) (.tmp 43) (wr.drew.heap.size) (arr8 32 F) 31 od (by kernel_rfl) (by kernel_rfl) hd1 (by kernel_rfl) (by rw [hd2, arr8_size]) (arr8_one _ _) (below_setRow hHeld hRD (arr8 32 F)) ?_ AllReadyH.nil)
                intro hHeld
                have hfin := rowIs_arr (setRow_heap Y84 (wr.drew.heap.size) _ (arr8 32 F) _ _ hd1) (by simp) (fun i hi => arr8_get 32 F i hi)
                refine wpAnyH_done (by kernel_rfl) ?_ _
                refine NoPanic.normal ?_
                simp only [Act.put, List.setIfInBounds_toArray, List.set_cons_zero, List.set_cons_succ]
                exact ⟨trivial, _, _, _, _, _, _, _, _, _, _, rfl, (Below.drewNr (w := wr) 1).trans hHeld, hfin, hRD⟩
            · intro hHeld
              have hD := hD.of_block (((alc (wr.drew.alloc (.cells (Array.replicate 32 (.int .u8 0)) 31)) (.cells #[.int .u8 (n8 bt)] 5))).block _ hD.lt)
              have hs7 := SlRead.one_new (W := (wr.drew.alloc (.cells (Array.replicate 32 (.int .u8 0)) 31))) (.int .u8 (n8 bt)) 5
              have hby := bytes_any Al (bys Tk) cl ((wr.drew.alloc (.cells (Array.replicate 32 (.int .u8 0)) 31)).alloc (.cells #[.int .u8 (n8 bt)] 5)) (hslT.below hHeld) (by simp; omega)
              rw [bys_length] at hby
              have hRb := hHeld.size
              refine held_call 2 17 #[.tmp 35] #[33] (some 36) #[.slice Al Tk.length cl] _ (by kernel_rfl) (by kernel_rfl) (by kernel_rfl) (by kernel_rfl) (hby) ?_
              rintro e Y87 ⟨vY87, rfl, hown1, hbY87⟩
              refine ⟨_, rfl, keepB hHeld hbY87, fun hHeld => ?_⟩
              have hD := hD.of_block ((hbY87).block _ hD.lt)
              have hs7 := hs7.below hbY87
              have hbase := hbY87.size
              have hne : some ((wr.drew.alloc (.cells (Array.replicate 32 (.int .u8 0)) 31)).heap.size) ≠ vY87.ownBlock := fun e => by have h1 := (hown1.lt _ e.symm).1; first | omega | (simp at h1; omega)
              obtain ⟨vP87_1, P87_1, hrP87_1, hoP87_1, hb0P87_1, hgP87_1, hatP87_1⟩ := run_many 33 Y87 _ _ Tk C info cc hown1 (hCr.below hHeld) hbase (by first | omega | (simp; omega))
              have hbSP87_1 := hHeld.trans (hb0P87_1.mono hRb)
              have hlt7 := slread_lt hs7 (by simp)
              have hoffP87_1 := ownsRow_off hown1 hD (by decide)
              refine held_ready [4] (by kernel_rfl) (by simp) (rdy_app 4 (.tmp 36) (.tmp 37) 33 33 33 (some 38) (vY87) (.slice C info.length cc) (vP87_1) P87_1 (by kernel_rfl) (by kernel_rfl) (by kernel_rfl) (hrP87_1) (hbSP87_1) ?_ AllReadyH.nil)
              intro hHeld
              have hD := hD.of_block (hgP87_1.block _ hD.lt hoffP87_1)
              have hs7 := hs7.grownS hgP87_1 hne
              have hbase := Nat.le_trans hbase hgP87_1.size
              have hne : some ((wr.drew.alloc (.cells (Array.replicate 32 (.int .u8 0)) 31)).heap.size) ≠ vP87_1.ownBlock := by
                rcases hatP87_1 with h | h
                · rw [h]; exact hne
                · rw [h]; intro e; have h1 := Option.some.inj e; omega
              have hown1 := hoP87_1
              obtain ⟨vP88_2, P88_2, hrP88_2, hoP88_2, hb0P88_2, hgP88_2, hatP88_2⟩ := run_many 33 P87_1 _ _ (Tk ++ info) (some ⟨(wr.drew.alloc (.cells (Array.replicate 32 (.int .u8 0)) 31)).heap.size, 0, none⟩) [bt] 1 hown1 hs7 hbase (by first | omega | (simp; omega))
              have hbSP88_2 := hHeld.trans (hb0P88_2.mono hRb)
              obtain ⟨AP88_2, cP88_2, rfl, hcP88_2⟩ := ownsRow_form hoP88_2
              have hoffP88_2 := ownsRow_off hown1 hD (by decide)
              refine held_ready [8] (by kernel_rfl) (by simp) (rdy_app 8 (.tmp 38) (.tmp 41) 33 33 33 (some 42) (vP87_1) (.slice (some ⟨(wr.drew.alloc (.cells (Array.replicate 32 (.int .u8 0)) 31)).heap.size, 0, none⟩) 1 1) (.slice AP88_2 (Tk ++ info ++ [bt]).length cP88_2) P88_2 (by kernel_rfl) (by kernel_rfl) (by kernel_rfl) (hrP88_2) (hbSP88_2) ?_ AllReadyH.nil)
              intro hHeld
              have hD := hD.of_block (hgP88_2.block _ hD.lt hoffP88_2)
              have hown1 := hoP88_2
              have hz := SlRead.of_own hown1
              have hdm := dmac_any (some ⟨G, 0, none⟩) (lst 32 mm) 32 AP88_2 (Tk ++ info ++ [bt]) cP88_2 P88_2 (hgS.below hHeld) (by simp) hz (by simp; omega)
              rw [lst_length, HF.out] at hdm
              refine held_call 9 13 #[.tmp 34, .tmp 42] #[33, 33] (some 43) #[.slice (some ⟨G, 0, none⟩) 32 32, .slice AP88_2 (Tk ++ info ++ [bt]).length cP88_2] _ (by kernel_rfl) (by kernel_rfl) (by kernel_rfl) (by kernel_rfl) (hdm) ?_
              rintro e Y90 ⟨rfl, hbY90⟩
              refine ⟨_, rfl, keepB hHeld hbY90, fun hHeld => ?_⟩
              have hD := hD.of_block ((hbY90).block _ hD.lt)
              have hz := hz.below hbY90
              obtain ⟨od, hd1, hd2, _⟩ := hD
              refine held_ready [11] (by kernel_rfl) (by simp) (rdy_storeR 11 31 (.tmp 14) (.tmp 43) (wr.drew.heap.size) (arr8 32 F) 31 od (by kernel_rfl) (by kernel_rfl) hd1 (by kernel_rfl) (by rw [hd2, arr8_size]) (arr8_one _ _) (below_setRow hHeld hRD (arr8 32 F)) ?_ AllReadyH.nil)
              intro hHeld
              have hfin := rowIs_arr (setRow_heap Y90 (wr.drew.heap.size) _ (arr8 32 F) _ _ hd1) (by simp) (fun i hi => arr8_get 32 F i hi)
              refine wpAnyH_done (by kernel_rfl) ?_ _
              refine NoPanic.normal ?_
              simp only [Act.put, List.setIfInBounds_toArray, List.set_cons_zero, List.set_cons_succ]
              exact ⟨trivial, _, _, _, _, _, _, _, _, _, _, rfl, (Below.drewNr (w := wr) 1).trans hHeld, hfin, hRD⟩
        · rintro a' W5 ⟨v35, v36, v37, v38, v39, v40, v41, v42, v43, D, rfl, hb5, hD5, hRD⟩
          simp only [Act.put, List.setIfInBounds_toArray, List.set_cons_zero, List.set_cons_succ]
          have hb5' := hb.trans (hb5.mono hb.size)
          have own5 := ownsRow_via hown (fun g _ hl => hb5.block g hl)
          have hg5 := hg.of_block (hb5.block _ hg.lt)
          have hBs5 : BB ≤ W5.heap.size := Nat.le_trans hBs hb5.size
          have hslD := fun w' => sliceAt_arr (P := Tryd.prog) 32 Tryd.underlying31 (show (Tryd.prog.info? 5).map (·.size) = some 1 by kernel_rfl) D (by omega) w'
          have hby := bytes_any (some ⟨D, 0, none⟩) (bys (lst 32 F)) 32 W5 (slread_row hD5) (by simp)
          rw [bys_length, lst_length] at hby
          clear hb hown hg hBs hb5 hD5 hRD hslT hCr hgS hsl
          go_wp2_with fail
          refine hby.mono ?_
          rintro e W6 ⟨v6, rfl, hown6, hb6⟩
          obtain ⟨A6, c6, rfl, hc6⟩ := ownsRow_form hown6
          have hs6 := SlRead.of_own hown6
          have own6 := ownsRow_via own5 (fun g _ hl => hb6.block g hl)
          have hg6 := hg5.of_block (hb6.block _ hg5.lt)
          have hb6' := hb5'.trans (hb6.mono hb5'.size)
          have hBs6 : BB ≤ W6.heap.size := Nat.le_trans hBs5 hb6.size
          have hne : (Value.slice A6 32 c6).ownBlock = none ∨ (Value.slice A6 32 c6).ownBlock ≠ (Value.slice Av (hkOut (lst 32 mm) info k).length cv).ownBlock := by
            cases h : (Value.slice A6 32 c6).ownBlock with
            | none => exact .inl rfl
            | some j =>
              right
              intro e
              have h1 := (hown6.lt j h).1
              have h2 := (own5.lt j e.symm).2
              omega
          clear hby hb5' own5 hg5 hBs5 hb6 hslD
          go_wp2_with (at_builtin; refine push_many rfl _ _ rfl W6 BB (.slice Av (hkOut (lst 32 mm) info k).length cv) (hkOut (lst 32 mm) info k) A6 (lst 32 F) c6 rfl rfl own6 hs6 hBs6 (by have := HOL.out; simp; omega) ?_; intro v7 W7 hown7 hbb7 hgr7 hat7)
          have hs7 := SlRead.of_own (hown6.kept hgr7 hne)
          have hg7 := hg6.of_block (hbb7.block _ (by omega))
          have hb7 := hb6'.trans (hbb7.mono (by omega))
          have hBs7 : BB ≤ W7.heap.size := Nat.le_trans hBs6 hbb7.size
          clear hown6 hs6 own6 hg6 hb6' hBs6 hbb7 hgr7 hat7 hne
          go_wp2_with fail
          go_roundw
          case rel => exact ⟨k + 1, A6, c6, by omega, by go_num, by rw [HOK.out, HTK.out]; exact hown7, by rw [HTK.out, lst_length], by rw [HTK.out]; exact hs7, hb7, hg7, hBs7⟩
          case measure =>
            obtain ⟨Av2, cv2, rfl, _⟩ := ownsRow_form hown7
            have := HOL.out
            simp only [List.length_append, lst_length]
            omega
      · have hlt0 : decide (((hkOut (lst 32 mm) info k).length : Int) < (n : Int)) = false := by simp; omega
        have hk2 : (n + 31) / 32 = k := by omega
        have hncv : n ≤ cv := by
          rcases Nat.eq_zero_or_pos (hkOut (lst 32 mm) info k).length with h | h
          · omega
          · have := hcv h; omega
        have hfin : SlRead wr Av (ints .u8 (bys (hkdf salt key info n))) := by
          unfold hkdf
          rw [hk2, HSEC.out, ← bys_take]
          exact (SlRead.of_own hown).take n
        have hslm : ∀ w, (Instr.slice 33 (.slice Av (hkOut (lst 32 mm) info k).length cv) none (some (.int .i64 (n : Int))) none).run Tryd.prog w = .ok (.slice Av n cv) w := fun w' => by
          have := sliceAt_h (P := Tryd.prog) Tryd.underlying33 (show (Tryd.prog.info? 5).map (·.size) = some 1 by kernel_rfl) Av (hkOut (lst 32 mm) info k).length cv n hncv w'
          rwa [run_sliceAt_slice (h := by rw [show Tryd.prog.elem 33 = 5 by simp [Program.elem, Tryd.underlying33]]; exact Tryd.underlying33)] at this
        clear hown hsl hg hk2
        go_wp2_with fail
        refine bodyPost_ret (results_tmp2 rfl _ _ _) rfl ?_
        exact ⟨Av, cv, rfl, hfin, hb⟩
  · have hsb : ((salt.length : Int) == 0) = false := by simpa using hs
    have hsa : saltOf salt = salt := by unfold saltOf; rw [if_neg hs]
    have hb : Below w.heap.size w w := Below.refl _ _
    go_upto_region 5 with (fail)
    generalize hvl : salt.length = sl at *
    have hms := dmac_any A salt ca B key cb w hA (by omega) hB (by omega)
    rw [hvl, ← hsa] at hms
    go_wp2_with fail
    refine hms.mono ?_
    rintro e W1 ⟨rfl, hb1⟩
    have hB1 := hb.trans (hb1.mono hb.size)
    clear hms hb hb1
    have hsec : secOf salt key = lst 32 (macOf (saltOf salt) key) := rfl
    have HSEC := Lib.hid hsec; clear hsec
    generalize macOf (saltOf salt) key = mm at *
    go_upto_region 6 with (refine wpList_store_row rfl 31 _ _ rfl _ _ rfl rfl _ _ (heap_alloc_new _ _) (by kernel_rfl) (by simp) (arr8_one _ _) ?_; rw [alloc_setRow])
    generalize hG : W1.heap.size = G at *
    have hg2 : (W1.alloc (.cells (arr8 32 mm) 31)).rowIs G 31 32 (fun i => v8 (mm i)) := rowIs_new _ _ _ _ _ _ hG.symm (by simp) (fun i hi => arr8_get 32 _ i hi)
    have hB2 := hB1.alloc hB1.size (.cells (arr8 32 mm) 31)
    generalize W1.alloc (.cells (arr8 32 mm) 31) = W2 at *
    clear hB1 hG
    generalize hBB : W2.heap.size = BB at *
    have HBB := Lib.hid hBB
    have hGB : G < BB := by rw [← hBB]; exact hg2.lt
    have hwB : w.heap.size ≤ BB := by rw [← hBB]; exact hB2.size
    have hBB2 : BB ≤ W2.heap.size := by rw [hBB]; omega
    clear hBB
    have hslG := fun w' => sliceAt_arr (P := Tryd.prog) 32 Tryd.underlying31 (show (Tryd.prog.info? 5).map (·.size) = some 1 by kernel_rfl) G (by omega) w'
    go_wp2_with fail
    go_loopw [11, 12, 13] (fun v l i wr => ∃ (k : Nat) (Al : Option Addr) (cl : Nat), 32 * k < n + 32 ∧ i = .int .i64 ((k : Int) + 1) ∧ wr.ownsRow BB 5 1 v (hkOut (lst 32 mm) info k).length (ints .u8 (bys (hkOut (lst 32 mm) info k))) ∧ l = .slice Al (hkT (lst 32 mm) info k).length cl ∧ SlRead wr Al (ints .u8 (bys (hkT (lst 32 mm) info k))) ∧ Below w.heap.size w wr ∧ wr.rowIs G 31 32 (fun i => v8 (mm i)) ∧ BB ≤ wr.heap.size) (fun v _ _ _ => match v with | .slice _ len _ => n + 32 - len | _ => 0)
    case atStart => exact ⟨0, none, 0, by omega, rfl, World.ownsRow_nil _ _ _ _, rfl, SlRead.nil_, hB2, hg2, hBB2⟩
    clear hB2 hg2 hBB2
    case round =>
      obtain ⟨k, Al, cl, hk1, rfl, hown, rfl, hsl, hb, hg, hBs⟩ := hrel
      obtain ⟨Av, cv, rfl, hcv⟩ := ownsRow_form hown
      have hol := hkOut_len (lst 32 mm) info k
      by_cases hlt : 32 * k < n
      · have hlt0 : decide (((hkOut (lst 32 mm) info k).length : Int) < (n : Int)) = true := by simp; omega
        go_upto_region 10 with (fail)
        have hTl : (hkT (lst 32 mm) info k).length ≤ 32 := by cases k with | zero => simp [hkT] | succ k => rw [hkT_len]; omega
        have hk255 : k < 256 := by omega
        have hcvb := conv_bt k
        have hTk : hkT (lst 32 mm) info (k + 1) = lst 32 (macOf (lst 32 mm) (hkT (lst 32 mm) info k ++ info ++ [BitVec.ofNat 8 (k + 1)])) := by rw [List.append_assoc]; rfl
        have hOk : hkOut (lst 32 mm) info (k + 1) = hkOut (lst 32 mm) info k ++ hkT (lst 32 mm) info (k + 1) := rfl
        have HTK := Lib.hid hTk; have HOK := Lib.hid hOk; have HOL := Lib.hid hol
        clear hTk hOk hol
        generalize hkT (lst 32 mm) info k = Tk at *
        generalize BitVec.ofNat 8 (k + 1) = bt at *
        generalize hF : macOf (lst 32 mm) (Tk ++ info ++ [bt]) = F at *
        have HF := Lib.hid hF; clear hF
        have alc : ∀ (W : World) (o : Obj), Below W.heap.size W (W.alloc o) := fun W o => (Below.refl _ _).alloc (Nat.le_refl _) _
        have hslT : SlRead wr.drew Al (ints .u8 (bys Tk)) := hsl.below (Below.drewNr 1)
        have hCr : SlRead wr.drew C (ints .u8 (bys info)) := hC.below (hb.trans ((Below.drewNr (w := wr) 1).mono hb.size))
        have hgS : SlRead wr.drew (some ⟨G, 0, none⟩) (ints .u8 (bys (lst 32 mm))) := (slread_row hg).below (Below.drewNr 1)
        refine region_cut (fun a a' w' => ∃ v35 v36 v37 v38 v39 v40 v41 v42 v43 D, a' = ((((((((((a.put (some 34) (.slice (some ⟨G, 0, none⟩) 32 32)).put (some 35) v35).put (some 36) v36).put (some 37) v37).put (some 38) v38).put (some 39) v39).put (some 40) v40).put (some 41) v41).put (some 42) v42).put (some 43) v43).put (some 14) (.pointer (some ⟨D, 0, none⟩)) ∧ Below wr.heap.size wr w' ∧ w'.rowIs D 31 32 (fun i => v8 (F i)) ∧ wr.heap.size ≤ D) ?_ ?_
        · refine wp_region_noPanic ?_
          refine wp_region_held_drew (S := fun W' => Below wr.drew.heap.size wr.drew W') (by kernel_rfl) (Below.refl _ _) (fun hHeld => ?_)
          refine held_slice 0 31 (.tmp 10) none none none (some 34) (.pointer (some ⟨G, 0, none⟩)) none none none (.slice (some ⟨G, 0, none⟩) 32 32) (by kernel_rfl) (by kernel_rfl) (hslG) (by kernel_rfl) (by kernel_rfl) (by kernel_rfl) (fun _ _ _ _ _ h => h) hHeld ?_
          refine held_move 1 (.tmp 12) (some 35) (.slice Al Tk.length cl) (by kernel_rfl) (by kernel_rfl) (by kernel_rfl) (by kernel_rfl) (by kernel_rfl) (fun _ _ _ _ _ h => h) hHeld ?_
          refine held_move 3 (.tmp 2) (some 37) (.slice C info.length cc) (by kernel_rfl) (by kernel_rfl) (by kernel_rfl) (by kernel_rfl) (by kernel_rfl) (fun _ _ _ _ _ h => h) hHeld ?_
          refine held_move 5 (.tmp 13) (some 39) (.int .i64 ((k : Int) + 1)) (by kernel_rfl) (by kernel_rfl) (by kernel_rfl) (by kernel_rfl) (by kernel_rfl) (fun _ _ _ _ _ h => h) hHeld ?_
          refine held_convD 6 3 5 (.tmp 39) (some 40) (.int .i64 ((k : Int) + 1)) (.int .u8 (n8 bt)) (by kernel_rfl) (by kernel_rfl) hcvb (by kernel_rfl) (by kernel_rfl) (by kernel_rfl) (fun _ _ _ _ _ h => h) hHeld ?_
          have hby := bytes_any Al (bys Tk) cl wr.drew (hslT.below hHeld) (by simp; omega)
          rw [bys_length] at hby
          have hRb := hHeld.size
          have hRD : wr.drew.heap.size ≤ wr.drew.heap.size := hHeld.size
          refine held_ready [2, 7, 10] (by kernel_rfl) (by simp) (rdy_call 2 17 #[.tmp 35] #[33] (some 36) #[.slice Al Tk.length cl] _ (by kernel_rfl) (by kernel_rfl) (by kernel_rfl) (hby) ?_ (rdy_bsl 7 33 5 (.tmp 40) (some 41) (.int .u8 (n8 bt)) (by kernel_rfl) (by kernel_rfl) (bsl_u8 _ _) (keepB hHeld (alc _ _)) ?_ (rdy_alloc 10 31 (some 14) (Array.replicate 32 (.int .u8 0)) (by kernel_rfl) (fun _ => by kernel_rfl) (keepB hHeld (alc _ _)) ?_ AllReadyH.nil)))
          · rintro e Y1 ⟨vY1, rfl, hown1, hbY1⟩
            refine ⟨_, rfl, keepB hHeld hbY1, fun hHeld => ?_⟩
            have hbase := hbY1.size
            obtain ⟨vP1_1, P1_1, hrP1_1, hoP1_1, hb0P1_1, hgP1_1, hatP1_1⟩ := run_many 33 Y1 _ _ Tk C info cc hown1 (hCr.below hHeld) hbase (by first | omega | (simp; omega))
            have hbSP1_1 := hHeld.trans (hb0P1_1.mono hRb)
            have hne : some Y1.heap.size ≠ vY1.ownBlock := fun e => by have h1 := (hown1.lt _ e.symm).2; omega
            have hRD : wr.drew.heap.size ≤ Y1.heap.size := hHeld.size
            refine held_ready [4, 7, 10] (by kernel_rfl) (by simp) (rdy_app 4 (.tmp 36) (.tmp 37) 33 33 33 (some 38) (vY1) (.slice C info.length cc) (vP1_1) P1_1 (by kernel_rfl) (by kernel_rfl) (by kernel_rfl) (hrP1_1) (hbSP1_1) ?_ (rdy_bsl 7 33 5 (.tmp 40) (some 41) (.int .u8 (n8 bt)) (by kernel_rfl) (by kernel_rfl) (bsl_u8 _ _) (keepB hHeld (alc _ _)) ?_ (rdy_alloc 10 31 (some 14) (Array.replicate 32 (.int .u8 0)) (by kernel_rfl) (fun _ => by kernel_rfl) (keepB hHeld (alc _ _)) ?_ AllReadyH.nil)))
            · intro hHeld
              have hbase := Nat.le_trans hbase hgP1_1.size
              have hown1 := hoP1_1
              have hne : some P1_1.heap.size ≠ vP1_1.ownBlock := fun e => by have h1 := (hown1.lt _ e.symm).2; omega
              have hRD : wr.drew.heap.size ≤ P1_1.heap.size := hHeld.size
              refine held_ready [7, 10] (by kernel_rfl) (by simp) (rdy_bsl 7 33 5 (.tmp 40) (some 41) (.int .u8 (n8 bt)) (by kernel_rfl) (by kernel_rfl) (bsl_u8 _ _) (keepB hHeld (alc _ _)) ?_ (rdy_alloc 10 31 (some 14) (Array.replicate 32 (.int .u8 0)) (by kernel_rfl) (fun _ => by kernel_rfl) (keepB hHeld (alc _ _)) ?_ AllReadyH.nil))
              · intro hHeld
                have hbase := Nat.le_trans hbase ((alc P1_1 (.cells #[.int .u8 (n8 bt)] 5))).size
                have hown1 := ownsRow_via hown1 (fun g _ hl => ((alc P1_1 (.cells #[.int .u8 (n8 bt)] 5))).block g hl)
                have hs7 := SlRead.one_new (W := P1_1) (.int .u8 (n8 bt)) 5
                obtain ⟨vP3_2, P3_2, hrP3_2, hoP3_2, hb0P3_2, hgP3_2, hatP3_2⟩ := run_many 33 (P1_1.alloc (.cells #[.int .u8 (n8 bt)] 5)) _ _ (Tk ++ info) (some ⟨P1_1.heap.size, 0, none⟩) [bt] 1 hown1 hs7 hbase (by first | omega | (simp; omega))
                have hbSP3_2 := hHeld.trans (hb0P3_2.mono hRb)
                obtain ⟨AP3_2, cP3_2, rfl, hcP3_2⟩ := ownsRow_form hoP3_2
                have hRD : wr.drew.heap.size ≤ (P1_1.alloc (.cells #[.int .u8 (n8 bt)] 5)).heap.size := hHeld.size
                refine held_ready [8, 10] (by kernel_rfl) (by simp) (rdy_app 8 (.tmp 38) (.tmp 41) 33 33 33 (some 42) (vP1_1) (.slice (some ⟨P1_1.heap.size, 0, none⟩) 1 1) (.slice AP3_2 (Tk ++ info ++ [bt]).length cP3_2) P3_2 (by kernel_rfl) (by kernel_rfl) (by kernel_rfl) (hrP3_2) (hbSP3_2) ?_ (rdy_alloc 10 31 (some 14) (Array.replicate 32 (.int .u8 0)) (by kernel_rfl) (fun _ => by kernel_rfl) (keepB hHeld (alc _ _)) ?_ AllReadyH.nil))
                · intro hHeld
                  have hown1 := hoP3_2
                  have hz := SlRead.of_own hown1
                  have hdm := dmac_any (some ⟨G, 0, none⟩) (lst 32 mm) 32 AP3_2 (Tk ++ info ++ [bt]) cP3_2 P3_2 (hgS.below hHeld) (by simp) hz (by simp; omega)
                  rw [lst_length, HF.out] at hdm
                  have hRD : wr.drew.heap.size ≤ P3_2.heap.size := hHeld.size
                  refine held_ready [9, 10] (by kernel_rfl) (by simp) (rdy_call 9 13 #[.tmp 34, .tmp 42] #[33, 33] (some 43) #[.slice (some ⟨G, 0, none⟩) 32 32, .slice AP3_2 (Tk ++ info ++ [bt]).length cP3_2] _ (by kernel_rfl) (by kernel_rfl) (by kernel_rfl) (hdm) ?_ (rdy_alloc 10 31 (some 14) (Array.replicate 32 (.int .u8 0)) (by kernel_rfl) (fun _ => by kernel_rfl) (keepB hHeld (alc _ _)) ?_ AllReadyH.nil))
                  · rintro e Y5 ⟨rfl, hbY5⟩
                    refine ⟨_, rfl, keepB hHeld hbY5, fun hHeld => ?_⟩
                    have hz := hz.below hbY5
                    have hRD : wr.drew.heap.size ≤ Y5.heap.size := hHeld.size
                    refine held_ready [10] (by kernel_rfl) (by simp) (rdy_alloc 10 31 (some 14) (Array.replicate 32 (.int .u8 0)) (by kernel_rfl) (fun _ => by kernel_rfl) (keepB hHeld (alc _ _)) ?_ AllReadyH.nil)
                    intro hHeld
                    have hz := hz.below (alc Y5 (.cells (Array.replicate 32 (.int .u8 0)) 31))
                    have hD : (Y5.alloc (.cells (Array.replicate 32 (.int .u8 0)) 31)).rowIs Y5.heap.size 31 32 (fun _ => .int .u8 0) := rowIs_new _ _ _ _ _ _ rfl (by simp) (fun i hi => by simp [hi])
                    have hRD : wr.drew.heap.size ≤ Y5.heap.size := hRD
                    obtain ⟨od, hd1, hd2, _⟩ := hD
                    refine held_ready [11] (by kernel_rfl) (by simp) (rdy_storeR 11 31 (.tmp 14) (.tmp 43) (Y5.heap.size) (arr8 32 F) 31 od (by kernel_rfl) (by kernel_rfl) hd1 (by kernel_rfl) (by rw [hd2, arr8_size]) (arr8_one _ _) (below_setRow hHeld hRD (arr8 32 F)) ?_ AllReadyH.nil)
                    intro hHeld
                    have hfin := rowIs_arr (setRow_heap (Y5.alloc (.cells (Array.replicate 32 (.int .u8 0)) 31)) (Y5.heap.size) _ (arr8 32 F) _ _ hd1) (by simp) (fun i hi => arr8_get 32 F i hi)
                    refine wpAnyH_done (by kernel_rfl) ?_ _
                    refine NoPanic.normal ?_
                    simp only [Act.put, List.setIfInBounds_toArray, List.set_cons_zero, List.set_cons_succ]
                    exact ⟨trivial, _, _, _, _, _, _, _, _, _, _, rfl, (Below.drewNr (w := wr) 1).trans hHeld, hfin, hRD⟩
                  · intro hHeld
                    have hz := hz.below (alc P3_2 (.cells (Array.replicate 32 (.int .u8 0)) 31))
                    have hD : (P3_2.alloc (.cells (Array.replicate 32 (.int .u8 0)) 31)).rowIs P3_2.heap.size 31 32 (fun _ => .int .u8 0) := rowIs_new _ _ _ _ _ _ rfl (by simp) (fun i hi => by simp [hi])
                    have hRD : wr.drew.heap.size ≤ P3_2.heap.size := hRD
                    have hdm := dmac_any (some ⟨G, 0, none⟩) (lst 32 mm) 32 AP3_2 (Tk ++ info ++ [bt]) cP3_2 (P3_2.alloc (.cells (Array.replicate 32 (.int .u8 0)) 31)) (hgS.below hHeld) (by simp) hz (by simp; omega)
                    rw [lst_length, HF.out] at hdm
                    refine held_call 9 13 #[.tmp 34, .tmp 42] #[33, 33] (some 43) #[.slice (some ⟨G, 0, none⟩) 32 32, .slice AP3_2 (Tk ++ info ++ [bt]).length cP3_2] _ (by kernel_rfl) (by kernel_rfl) (by kernel_rfl) (by kernel_rfl) (hdm) ?_
                    rintro e Y9 ⟨rfl, hbY9⟩
                    refine ⟨_, rfl, keepB hHeld hbY9, fun hHeld => ?_⟩
                    have hz := hz.below hbY9
                    have hD := hD.of_block ((hbY9).block _ hD.lt)
                    obtain ⟨od, hd1, hd2, _⟩ := hD
                    refine held_ready [11] (by kernel_rfl) (by simp) (rdy_storeR 11 31 (.tmp 14) (.tmp 43) (P3_2.heap.size) (arr8 32 F) 31 od (by kernel_rfl) (by kernel_rfl) hd1 (by kernel_rfl) (by rw [hd2, arr8_size]) (arr8_one _ _) (below_setRow hHeld hRD (arr8 32 F)) ?_ AllReadyH.nil)
                    intro hHeld
                    have hfin := rowIs_arr (setRow_heap Y9 (P3_2.heap.size) _ (arr8 32 F) _ _ hd1) (by simp) (fun i hi => arr8_get 32 F i hi)
                    refine wpAnyH_done (by kernel_rfl) ?_ _
                    refine NoPanic.normal ?_
                    simp only [Act.put, List.setIfInBounds_toArray, List.set_cons_zero, List.set_cons_succ]
                    exact ⟨trivial, _, _, _, _, _, _, _, _, _, _, rfl, (Below.drewNr (w := wr) 1).trans hHeld, hfin, hRD⟩
                · intro hHeld
                  have hbase := Nat.le_trans hbase ((alc (P1_1.alloc (.cells #[.int .u8 (n8 bt)] 5)) (.cells (Array.replicate 32 (.int .u8 0)) 31))).size
                  have hown1 := ownsRow_via hown1 (fun g _ hl => ((alc (P1_1.alloc (.cells #[.int .u8 (n8 bt)] 5)) (.cells (Array.replicate 32 (.int .u8 0)) 31))).block g hl)
                  have hs7 := hs7.below (alc (P1_1.alloc (.cells #[.int .u8 (n8 bt)] 5)) (.cells (Array.replicate 32 (.int .u8 0)) 31))
                  have hD : ((P1_1.alloc (.cells #[.int .u8 (n8 bt)] 5)).alloc (.cells (Array.replicate 32 (.int .u8 0)) 31)).rowIs (P1_1.alloc (.cells #[.int .u8 (n8 bt)] 5)).heap.size 31 32 (fun _ => .int .u8 0) := rowIs_new _ _ _ _ _ _ rfl (by simp) (fun i hi => by simp [hi])
                  have hRD : wr.drew.heap.size ≤ (P1_1.alloc (.cells #[.int .u8 (n8 bt)] 5)).heap.size := hRD
                  obtain ⟨vP11_2, P11_2, hrP11_2, hoP11_2, hb0P11_2, hgP11_2, hatP11_2⟩ := run_many 33 ((P1_1.alloc (.cells #[.int .u8 (n8 bt)] 5)).alloc (.cells (Array.replicate 32 (.int .u8 0)) 31)) _ _ (Tk ++ info) (some ⟨P1_1.heap.size, 0, none⟩) [bt] 1 hown1 hs7 hbase (by first | omega | (simp; omega))
                  have hbSP11_2 := hHeld.trans (hb0P11_2.mono hRb)
                  obtain ⟨AP11_2, cP11_2, rfl, hcP11_2⟩ := ownsRow_form hoP11_2
                  have hoffP11_2 := ownsRow_off hown1 hD (by decide)
                  refine held_ready [8] (by kernel_rfl) (by simp) (rdy_app 8 (.tmp 38) (.tmp 41) 33 33 33 (some 42) (vP1_1) (.slice (some ⟨P1_1.heap.size, 0, none⟩) 1 1) (.slice AP11_2 (Tk ++ info ++ [bt]).length cP11_2) P11_2 (by kernel_rfl) (by kernel_rfl) (by kernel_rfl) (hrP11_2) (hbSP11_2) ?_ AllReadyH.nil)
                  intro hHeld
                  have hD := hD.of_block (hgP11_2.block _ hD.lt hoffP11_2)
                  have hown1 := hoP11_2
                  have hz := SlRead.of_own hown1
                  have hdm := dmac_any (some ⟨G, 0, none⟩) (lst 32 mm) 32 AP11_2 (Tk ++ info ++ [bt]) cP11_2 P11_2 (hgS.below hHeld) (by simp) hz (by simp; omega)
                  rw [lst_length, HF.out] at hdm
                  refine held_call 9 13 #[.tmp 34, .tmp 42] #[33, 33] (some 43) #[.slice (some ⟨G, 0, none⟩) 32 32, .slice AP11_2 (Tk ++ info ++ [bt]).length cP11_2] _ (by kernel_rfl) (by kernel_rfl) (by kernel_rfl) (by kernel_rfl) (hdm) ?_
                  rintro e Y13 ⟨rfl, hbY13⟩
                  refine ⟨_, rfl, keepB hHeld hbY13, fun hHeld => ?_⟩
                  have hD := hD.of_block ((hbY13).block _ hD.lt)
                  have hz := hz.below hbY13
                  obtain ⟨od, hd1, hd2, _⟩ := hD
                  refine held_ready [11] (by kernel_rfl) (by simp) (rdy_storeR 11 31 (.tmp 14) (.tmp 43) ((P1_1.alloc (.cells #[.int .u8 (n8 bt)] 5)).heap.size) (arr8 32 F) 31 od (by kernel_rfl) (by kernel_rfl) hd1 (by kernel_rfl) (by rw [hd2, arr8_size]) (arr8_one _ _) (below_setRow hHeld hRD (arr8 32 F)) ?_ AllReadyH.nil)
                  intro hHeld
                  have hfin := rowIs_arr (setRow_heap Y13 ((P1_1.alloc (.cells #[.int .u8 (n8 bt)] 5)).heap.size) _ (arr8 32 F) _ _ hd1) (by simp) (fun i hi => arr8_get 32 F i hi)
                  refine wpAnyH_done (by kernel_rfl) ?_ _
                  refine NoPanic.normal ?_
                  simp only [Act.put, List.setIfInBounds_toArray, List.set_cons_zero, List.set_cons_succ]
                  exact ⟨trivial, _, _, _, _, _, _, _, _, _, _, rfl, (Below.drewNr (w := wr) 1).trans hHeld, hfin, hRD⟩
              · intro hHeld
                have hbase := Nat.le_trans hbase ((alc P1_1 (.cells (Array.replicate 32 (.int .u8 0)) 31))).size
                have hown1 := ownsRow_via hown1 (fun g _ hl => ((alc P1_1 (.cells (Array.replicate 32 (.int .u8 0)) 31))).block g hl)
                have hD : (P1_1.alloc (.cells (Array.replicate 32 (.int .u8 0)) 31)).rowIs P1_1.heap.size 31 32 (fun _ => .int .u8 0) := rowIs_new _ _ _ _ _ _ rfl (by simp) (fun i hi => by simp [hi])
                have hRD : wr.drew.heap.size ≤ P1_1.heap.size := hRD
                have hne : some (P1_1.alloc (.cells (Array.replicate 32 (.int .u8 0)) 31)).heap.size ≠ vP1_1.ownBlock := fun e => by have h1 := (hown1.lt _ e.symm).2; omega
                refine held_ready [7] (by kernel_rfl) (by simp) (rdy_bsl 7 33 5 (.tmp 40) (some 41) (.int .u8 (n8 bt)) (by kernel_rfl) (by kernel_rfl) (bsl_u8 _ _) (keepB hHeld (alc _ _)) ?_ AllReadyH.nil)
                intro hHeld
                have hbase := Nat.le_trans hbase ((alc (P1_1.alloc (.cells (Array.replicate 32 (.int .u8 0)) 31)) (.cells #[.int .u8 (n8 bt)] 5))).size
                have hown1 := ownsRow_via hown1 (fun g _ hl => ((alc (P1_1.alloc (.cells (Array.replicate 32 (.int .u8 0)) 31)) (.cells #[.int .u8 (n8 bt)] 5))).block g hl)
                have hD := hD.of_block (((alc (P1_1.alloc (.cells (Array.replicate 32 (.int .u8 0)) 31)) (.cells #[.int .u8 (n8 bt)] 5))).block _ hD.lt)
                have hs7 := SlRead.one_new (W := (P1_1.alloc (.cells (Array.replicate 32 (.int .u8 0)) 31))) (.int .u8 (n8 bt)) 5
                obtain ⟨vP16_2, P16_2, hrP16_2, hoP16_2, hb0P16_2, hgP16_2, hatP16_2⟩ := run_many 33 ((P1_1.alloc (.cells (Array.replicate 32 (.int .u8 0)) 31)).alloc (.cells #[.int .u8 (n8 bt)] 5)) _ _ (Tk ++ info) (some ⟨(P1_1.alloc (.cells (Array.replicate 32 (.int .u8 0)) 31)).heap.size, 0, none⟩) [bt] 1 hown1 hs7 hbase (by first | omega | (simp; omega))
                have hbSP16_2 := hHeld.trans (hb0P16_2.mono hRb)
                obtain ⟨AP16_2, cP16_2, rfl, hcP16_2⟩ := ownsRow_form hoP16_2
                have hoffP16_2 := ownsRow_off hown1 hD (by decide)
                refine held_ready [8] (by kernel_rfl) (by simp) (rdy_app 8 (.tmp 38) (.tmp 41) 33 33 33 (some 42) (vP1_1) (.slice (some ⟨(P1_1.alloc (.cells (Array.replicate 32 (.int .u8 0)) 31)).heap.size, 0, none⟩) 1 1) (.slice AP16_2 (Tk ++ info ++ [bt]).length cP16_2) P16_2 (by kernel_rfl) (by kernel_rfl) (by kernel_rfl) (hrP16_2) (hbSP16_2) ?_ AllReadyH.nil)
                intro hHeld
                have hD := hD.of_block (hgP16_2.block _ hD.lt hoffP16_2)
                have hown1 := hoP16_2
                have hz := SlRead.of_own hown1
                have hdm := dmac_any (some ⟨G, 0, none⟩) (lst 32 mm) 32 AP16_2 (Tk ++ info ++ [bt]) cP16_2 P16_2 (hgS.below hHeld) (by simp) hz (by simp; omega)
                rw [lst_length, HF.out] at hdm
                refine held_call 9 13 #[.tmp 34, .tmp 42] #[33, 33] (some 43) #[.slice (some ⟨G, 0, none⟩) 32 32, .slice AP16_2 (Tk ++ info ++ [bt]).length cP16_2] _ (by kernel_rfl) (by kernel_rfl) (by kernel_rfl) (by kernel_rfl) (hdm) ?_
                rintro e Y18 ⟨rfl, hbY18⟩
                refine ⟨_, rfl, keepB hHeld hbY18, fun hHeld => ?_⟩
                have hD := hD.of_block ((hbY18).block _ hD.lt)
                have hz := hz.below hbY18
                obtain ⟨od, hd1, hd2, _⟩ := hD
                refine held_ready [11] (by kernel_rfl) (by simp) (rdy_storeR 11 31 (.tmp 14) (.tmp 43) (P1_1.heap.size) (arr8 32 F) 31 od (by kernel_rfl) (by kernel_rfl) hd1 (by kernel_rfl) (by rw [hd2, arr8_size]) (arr8_one _ _) (below_setRow hHeld hRD (arr8 32 F)) ?_ AllReadyH.nil)
                intro hHeld
                have hfin := rowIs_arr (setRow_heap Y18 (P1_1.heap.size) _ (arr8 32 F) _ _ hd1) (by simp) (fun i hi => arr8_get 32 F i hi)
                refine wpAnyH_done (by kernel_rfl) ?_ _
                refine NoPanic.normal ?_
                simp only [Act.put, List.setIfInBounds_toArray, List.set_cons_zero, List.set_cons_succ]
                exact ⟨trivial, _, _, _, _, _, _, _, _, _, _, rfl, (Below.drewNr (w := wr) 1).trans hHeld, hfin, hRD⟩
            · intro hHeld
              have hown1 := ownsRow_via hown1 (fun g _ hl => ((alc Y1 (.cells #[.int .u8 (n8 bt)] 5))).block g hl)
              have hbase := Nat.le_trans hbase ((alc Y1 (.cells #[.int .u8 (n8 bt)] 5))).size
              have hs7 := SlRead.one_new (W := Y1) (.int .u8 (n8 bt)) 5
              obtain ⟨vP20_1, P20_1, hrP20_1, hoP20_1, hb0P20_1, hgP20_1, hatP20_1⟩ := run_many 33 (Y1.alloc (.cells #[.int .u8 (n8 bt)] 5)) _ _ Tk C info cc hown1 (hCr.below hHeld) hbase (by first | omega | (simp; omega))
              have hbSP20_1 := hHeld.trans (hb0P20_1.mono hRb)
              have hlt7 := slread_lt hs7 (by simp)
              have hRD : wr.drew.heap.size ≤ (Y1.alloc (.cells #[.int .u8 (n8 bt)] 5)).heap.size := hHeld.size
              refine held_ready [4, 10] (by kernel_rfl) (by simp) (rdy_app 4 (.tmp 36) (.tmp 37) 33 33 33 (some 38) (vY1) (.slice C info.length cc) (vP20_1) P20_1 (by kernel_rfl) (by kernel_rfl) (by kernel_rfl) (hrP20_1) (hbSP20_1) ?_ (rdy_alloc 10 31 (some 14) (Array.replicate 32 (.int .u8 0)) (by kernel_rfl) (fun _ => by kernel_rfl) (keepB hHeld (alc _ _)) ?_ AllReadyH.nil))
              · intro hHeld
                have hbase := Nat.le_trans hbase hgP20_1.size
                have hs7 := hs7.grownS hgP20_1 hne
                have hne : some (Y1.heap.size) ≠ vP20_1.ownBlock := by
                  rcases hatP20_1 with h | h
                  · rw [h]; exact hne
                  · rw [h]; intro e; have h1 := Option.some.inj e; omega
                have hown1 := hoP20_1
                obtain ⟨vP21_2, P21_2, hrP21_2, hoP21_2, hb0P21_2, hgP21_2, hatP21_2⟩ := run_many 33 P20_1 _ _ (Tk ++ info) (some ⟨Y1.heap.size, 0, none⟩) [bt] 1 hown1 hs7 hbase (by first | omega | (simp; omega))
                have hbSP21_2 := hHeld.trans (hb0P21_2.mono hRb)
                obtain ⟨AP21_2, cP21_2, rfl, hcP21_2⟩ := ownsRow_form hoP21_2
                have hRD : wr.drew.heap.size ≤ P20_1.heap.size := hHeld.size
                refine held_ready [8, 10] (by kernel_rfl) (by simp) (rdy_app 8 (.tmp 38) (.tmp 41) 33 33 33 (some 42) (vP20_1) (.slice (some ⟨Y1.heap.size, 0, none⟩) 1 1) (.slice AP21_2 (Tk ++ info ++ [bt]).length cP21_2) P21_2 (by kernel_rfl) (by kernel_rfl) (by kernel_rfl) (hrP21_2) (hbSP21_2) ?_ (rdy_alloc 10 31 (some 14) (Array.replicate 32 (.int .u8 0)) (by kernel_rfl) (fun _ => by kernel_rfl) (keepB hHeld (alc _ _)) ?_ AllReadyH.nil))
                · intro hHeld
                  have hown1 := hoP21_2
                  have hz := SlRead.of_own hown1
                  have hdm := dmac_any (some ⟨G, 0, none⟩) (lst 32 mm) 32 AP21_2 (Tk ++ info ++ [bt]) cP21_2 P21_2 (hgS.below hHeld) (by simp) hz (by simp; omega)
                  rw [lst_length, HF.out] at hdm
                  have hRD : wr.drew.heap.size ≤ P21_2.heap.size := hHeld.size
                  refine held_ready [9, 10] (by kernel_rfl) (by simp) (rdy_call 9 13 #[.tmp 34, .tmp 42] #[33, 33] (some 43) #[.slice (some ⟨G, 0, none⟩) 32 32, .slice AP21_2 (Tk ++ info ++ [bt]).length cP21_2] _ (by kernel_rfl) (by kernel_rfl) (by kernel_rfl) (hdm) ?_ (rdy_alloc 10 31 (some 14) (Array.replicate 32 (.int .u8 0)) (by kernel_rfl) (fun _ => by kernel_rfl) (keepB hHeld (alc _ _)) ?_ AllReadyH.nil))
                  · rintro e Y23 ⟨rfl, hbY23⟩
                    refine ⟨_, rfl, keepB hHeld hbY23, fun hHeld => ?_⟩
                    have hz := hz.below hbY23
                    have hRD : wr.drew.heap.size ≤ Y23.heap.size := hHeld.size
                    refine held_ready [10] (by kernel_rfl) (by simp) (rdy_alloc 10 31 (some 14) (Array.replicate 32 (.int .u8 0)) (by kernel_rfl) (fun _ => by kernel_rfl) (keepB hHeld (alc _ _)) ?_ AllReadyH.nil)
                    intro hHeld
                    have hz := hz.below (alc Y23 (.cells (Array.replicate 32 (.int .u8 0)) 31))
                    have hD : (Y23.alloc (.cells (Array.replicate 32 (.int .u8 0)) 31)).rowIs Y23.heap.size 31 32 (fun _ => .int .u8 0) := rowIs_new _ _ _ _ _ _ rfl (by simp) (fun i hi => by simp [hi])
                    have hRD : wr.drew.heap.size ≤ Y23.heap.size := hRD
                    obtain ⟨od, hd1, hd2, _⟩ := hD
                    refine held_ready [11] (by kernel_rfl) (by simp) (rdy_storeR 11 31 (.tmp 14) (.tmp 43) (Y23.heap.size) (arr8 32 F) 31 od (by kernel_rfl) (by kernel_rfl) hd1 (by kernel_rfl) (by rw [hd2, arr8_size]) (arr8_one _ _) (below_setRow hHeld hRD (arr8 32 F)) ?_ AllReadyH.nil)
                    intro hHeld
                    have hfin := rowIs_arr (setRow_heap (Y23.alloc (.cells (Array.replicate 32 (.int .u8 0)) 31)) (Y23.heap.size) _ (arr8 32 F) _ _ hd1) (by simp) (fun i hi => arr8_get 32 F i hi)
                    refine wpAnyH_done (by kernel_rfl) ?_ _
                    refine NoPanic.normal ?_
                    simp only [Act.put, List.setIfInBounds_toArray, List.set_cons_zero, List.set_cons_succ]
                    exact ⟨trivial, _, _, _, _, _, _, _, _, _, _, rfl, (Below.drewNr (w := wr) 1).trans hHeld, hfin, hRD⟩
                  · intro hHeld
                    have hz := hz.below (alc P21_2 (.cells (Array.replicate 32 (.int .u8 0)) 31))
                    have hD : (P21_2.alloc (.cells (Array.replicate 32 (.int .u8 0)) 31)).rowIs P21_2.heap.size 31 32 (fun _ => .int .u8 0) := rowIs_new _ _ _ _ _ _ rfl (by simp) (fun i hi => by simp [hi])
                    have hRD : wr.drew.heap.size ≤ P21_2.heap.size := hRD
                    have hdm := dmac_any (some ⟨G, 0, none⟩) (lst 32 mm) 32 AP21_2 (Tk ++ info ++ [bt]) cP21_2 (P21_2.alloc (.cells (Array.replicate 32 (.int .u8 0)) 31)) (hgS.below hHeld) (by simp) hz (by simp; omega)
                    rw [lst_length, HF.out] at hdm
                    refine held_call 9 13 #[.tmp 34, .tmp 42] #[33, 33] (some 43) #[.slice (some ⟨G, 0, none⟩) 32 32, .slice AP21_2 (Tk ++ info ++ [bt]).length cP21_2] _ (by kernel_rfl) (by kernel_rfl) (by kernel_rfl) (by kernel_rfl) (hdm) ?_
                    rintro e Y27 ⟨rfl, hbY27⟩
                    refine ⟨_, rfl, keepB hHeld hbY27, fun hHeld => ?_⟩
                    have hz := hz.below hbY27
                    have hD := hD.of_block ((hbY27).block _ hD.lt)
                    obtain ⟨od, hd1, hd2, _⟩ := hD
                    refine held_ready [11] (by kernel_rfl) (by simp) (rdy_storeR 11 31 (.tmp 14) (.tmp 43) (P21_2.heap.size) (arr8 32 F) 31 od (by kernel_rfl) (by kernel_rfl) hd1 (by kernel_rfl) (by rw [hd2, arr8_size]) (arr8_one _ _) (below_setRow hHeld hRD (arr8 32 F)) ?_ AllReadyH.nil)
                    intro hHeld
                    have hfin := rowIs_arr (setRow_heap Y27 (P21_2.heap.size) _ (arr8 32 F) _ _ hd1) (by simp) (fun i hi => arr8_get 32 F i hi)
                    refine wpAnyH_done (by kernel_rfl) ?_ _
                    refine NoPanic.normal ?_
                    simp only [Act.put, List.setIfInBounds_toArray, List.set_cons_zero, List.set_cons_succ]
                    exact ⟨trivial, _, _, _, _, _, _, _, _, _, _, rfl, (Below.drewNr (w := wr) 1).trans hHeld, hfin, hRD⟩
                · intro hHeld
                  have hbase := Nat.le_trans hbase ((alc P20_1 (.cells (Array.replicate 32 (.int .u8 0)) 31))).size
                  have hs7 := hs7.below (alc P20_1 (.cells (Array.replicate 32 (.int .u8 0)) 31))
                  have hown1 := ownsRow_via hown1 (fun g _ hl => ((alc P20_1 (.cells (Array.replicate 32 (.int .u8 0)) 31))).block g hl)
                  have hD : (P20_1.alloc (.cells (Array.replicate 32 (.int .u8 0)) 31)).rowIs P20_1.heap.size 31 32 (fun _ => .int .u8 0) := rowIs_new _ _ _ _ _ _ rfl (by simp) (fun i hi => by simp [hi])
                  have hRD : wr.drew.heap.size ≤ P20_1.heap.size := hRD
                  obtain ⟨vP29_2, P29_2, hrP29_2, hoP29_2, hb0P29_2, hgP29_2, hatP29_2⟩ := run_many 33 (P20_1.alloc (.cells (Array.replicate 32 (.int .u8 0)) 31)) _ _ (Tk ++ info) (some ⟨Y1.heap.size, 0, none⟩) [bt] 1 hown1 hs7 hbase (by first | omega | (simp; omega))
                  have hbSP29_2 := hHeld.trans (hb0P29_2.mono hRb)
                  obtain ⟨AP29_2, cP29_2, rfl, hcP29_2⟩ := ownsRow_form hoP29_2
                  have hoffP29_2 := ownsRow_off hown1 hD (by decide)
                  refine held_ready [8] (by kernel_rfl) (by simp) (rdy_app 8 (.tmp 38) (.tmp 41) 33 33 33 (some 42) (vP20_1) (.slice (some ⟨Y1.heap.size, 0, none⟩) 1 1) (.slice AP29_2 (Tk ++ info ++ [bt]).length cP29_2) P29_2 (by kernel_rfl) (by kernel_rfl) (by kernel_rfl) (hrP29_2) (hbSP29_2) ?_ AllReadyH.nil)
                  intro hHeld
                  have hD := hD.of_block (hgP29_2.block _ hD.lt hoffP29_2)
                  have hown1 := hoP29_2
                  have hz := SlRead.of_own hown1
                  have hdm := dmac_any (some ⟨G, 0, none⟩) (lst 32 mm) 32 AP29_2 (Tk ++ info ++ [bt]) cP29_2 P29_2 (hgS.below hHeld) (by simp) hz (by simp; omega)
                  rw [lst_length, HF.out] at hdm
                  refine held_call 9 13 #[.tmp 34, .tmp 42] #[33, 33] (some 43) #[.slice (some ⟨G, 0, none⟩) 32 32, .slice AP29_2 (Tk ++ info ++ [bt]).length cP29_2] _ (by kernel_rfl) (by kernel_rfl) (by kernel_rfl) (by kernel_rfl) (hdm) ?_
                  rintro e Y31 ⟨rfl, hbY31⟩
                  refine ⟨_, rfl, keepB hHeld hbY31, fun hHeld => ?_⟩
                  have hD := hD.of_block ((hbY31).block _ hD.lt)
                  have hz := hz.below hbY31
                  obtain ⟨od, hd1, hd2, _⟩ := hD
                  refine held_ready [11] (by kernel_rfl) (by simp) (rdy_storeR 11 31 (.tmp 14) (.tmp 43) (P20_1.heap.size) (arr8 32 F) 31 od (by kernel_rfl) (by kernel_rfl) hd1 (by kernel_rfl) (by rw [hd2, arr8_size]) (arr8_one _ _) (below_setRow hHeld hRD (arr8 32 F)) ?_ AllReadyH.nil)
                  intro hHeld
                  have hfin := rowIs_arr (setRow_heap Y31 (P20_1.heap.size) _ (arr8 32 F) _ _ hd1) (by simp) (fun i hi => arr8_get 32 F i hi)
                  refine wpAnyH_done (by kernel_rfl) ?_ _
                  refine NoPanic.normal ?_
                  simp only [Act.put, List.setIfInBounds_toArray, List.set_cons_zero, List.set_cons_succ]
                  exact ⟨trivial, _, _, _, _, _, _, _, _, _, _, rfl, (Below.drewNr (w := wr) 1).trans hHeld, hfin, hRD⟩
              · intro hHeld
                have hown1 := ownsRow_via hown1 (fun g _ hl => ((alc (Y1.alloc (.cells #[.int .u8 (n8 bt)] 5)) (.cells (Array.replicate 32 (.int .u8 0)) 31))).block g hl)
                have hbase := Nat.le_trans hbase ((alc (Y1.alloc (.cells #[.int .u8 (n8 bt)] 5)) (.cells (Array.replicate 32 (.int .u8 0)) 31))).size
                have hs7 := hs7.below (alc (Y1.alloc (.cells #[.int .u8 (n8 bt)] 5)) (.cells (Array.replicate 32 (.int .u8 0)) 31))
                have hD : ((Y1.alloc (.cells #[.int .u8 (n8 bt)] 5)).alloc (.cells (Array.replicate 32 (.int .u8 0)) 31)).rowIs (Y1.alloc (.cells #[.int .u8 (n8 bt)] 5)).heap.size 31 32 (fun _ => .int .u8 0) := rowIs_new _ _ _ _ _ _ rfl (by simp) (fun i hi => by simp [hi])
                have hRD : wr.drew.heap.size ≤ (Y1.alloc (.cells #[.int .u8 (n8 bt)] 5)).heap.size := hRD
                obtain ⟨vP33_1, P33_1, hrP33_1, hoP33_1, hb0P33_1, hgP33_1, hatP33_1⟩ := run_many 33 ((Y1.alloc (.cells #[.int .u8 (n8 bt)] 5)).alloc (.cells (Array.replicate 32 (.int .u8 0)) 31)) _ _ Tk C info cc hown1 (hCr.below hHeld) hbase (by first | omega | (simp; omega))
                have hbSP33_1 := hHeld.trans (hb0P33_1.mono hRb)
                have hlt7 := slread_lt hs7 (by simp)
                have hoffP33_1 := ownsRow_off hown1 hD (by decide)
                refine held_ready [4] (by kernel_rfl) (by simp) (rdy_app 4 (.tmp 36) (.tmp 37) 33 33 33 (some 38) (vY1) (.slice C info.length cc) (vP33_1) P33_1 (by kernel_rfl) (by kernel_rfl) (by kernel_rfl) (hrP33_1) (hbSP33_1) ?_ AllReadyH.nil)
                intro hHeld
                have hbase := Nat.le_trans hbase hgP33_1.size
                have hs7 := hs7.grownS hgP33_1 hne
                have hD := hD.of_block (hgP33_1.block _ hD.lt hoffP33_1)
                have hne : some (Y1.heap.size) ≠ vP33_1.ownBlock := by
                  rcases hatP33_1 with h | h
                  · rw [h]; exact hne
                  · rw [h]; intro e; have h1 := Option.some.inj e; omega
                have hown1 := hoP33_1
                obtain ⟨vP34_2, P34_2, hrP34_2, hoP34_2, hb0P34_2, hgP34_2, hatP34_2⟩ := run_many 33 P33_1 _ _ (Tk ++ info) (some ⟨Y1.heap.size, 0, none⟩) [bt] 1 hown1 hs7 hbase (by first | omega | (simp; omega))
                have hbSP34_2 := hHeld.trans (hb0P34_2.mono hRb)
                obtain ⟨AP34_2, cP34_2, rfl, hcP34_2⟩ := ownsRow_form hoP34_2
                have hoffP34_2 := ownsRow_off hown1 hD (by decide)
                refine held_ready [8] (by kernel_rfl) (by simp) (rdy_app 8 (.tmp 38) (.tmp 41) 33 33 33 (some 42) (vP33_1) (.slice (some ⟨Y1.heap.size, 0, none⟩) 1 1) (.slice AP34_2 (Tk ++ info ++ [bt]).length cP34_2) P34_2 (by kernel_rfl) (by kernel_rfl) (by kernel_rfl) (hrP34_2) (hbSP34_2) ?_ AllReadyH.nil)
                intro hHeld
                have hD := hD.of_block (hgP34_2.block _ hD.lt hoffP34_2)
                have hown1 := hoP34_2
                have hz := SlRead.of_own hown1
                have hdm := dmac_any (some ⟨G, 0, none⟩) (lst 32 mm) 32 AP34_2 (Tk ++ info ++ [bt]) cP34_2 P34_2 (hgS.below hHeld) (by simp) hz (by simp; omega)
                rw [lst_length, HF.out] at hdm
                refine held_call 9 13 #[.tmp 34, .tmp 42] #[33, 33] (some 43) #[.slice (some ⟨G, 0, none⟩) 32 32, .slice AP34_2 (Tk ++ info ++ [bt]).length cP34_2] _ (by kernel_rfl) (by kernel_rfl) (by kernel_rfl) (by kernel_rfl) (hdm) ?_
                rintro e Y36 ⟨rfl, hbY36⟩
                refine ⟨_, rfl, keepB hHeld hbY36, fun hHeld => ?_⟩
                have hD := hD.of_block ((hbY36).block _ hD.lt)
                have hz := hz.below hbY36
                obtain ⟨od, hd1, hd2, _⟩ := hD
                refine held_ready [11] (by kernel_rfl) (by simp) (rdy_storeR 11 31 (.tmp 14) (.tmp 43) ((Y1.alloc (.cells #[.int .u8 (n8 bt)] 5)).heap.size) (arr8 32 F) 31 od (by kernel_rfl) (by kernel_rfl) hd1 (by kernel_rfl) (by rw [hd2, arr8_size]) (arr8_one _ _) (below_setRow hHeld hRD (arr8 32 F)) ?_ AllReadyH.nil)
                intro hHeld
                have hfin := rowIs_arr (setRow_heap Y36 ((Y1.alloc (.cells #[.int .u8 (n8 bt)] 5)).heap.size) _ (arr8 32 F) _ _ hd1) (by simp) (fun i hi => arr8_get 32 F i hi)
                refine wpAnyH_done (by kernel_rfl) ?_ _
                refine NoPanic.normal ?_
                simp only [Act.put, List.setIfInBounds_toArray, List.set_cons_zero, List.set_cons_succ]
                exact ⟨trivial, _, _, _, _, _, _, _, _, _, _, rfl, (Below.drewNr (w := wr) 1).trans hHeld, hfin, hRD⟩
            · intro hHeld
              have hown1 := ownsRow_via hown1 (fun g _ hl => ((alc Y1 (.cells (Array.replicate 32 (.int .u8 0)) 31))).block g hl)
              have hbase := Nat.le_trans hbase ((alc Y1 (.cells (Array.replicate 32 (.int .u8 0)) 31))).size
              have hD : (Y1.alloc (.cells (Array.replicate 32 (.int .u8 0)) 31)).rowIs Y1.heap.size 31 32 (fun _ => .int .u8 0) := rowIs_new _ _ _ _ _ _ rfl (by simp) (fun i hi => by simp [hi])
              have hRD : wr.drew.heap.size ≤ Y1.heap.size := hRD
              obtain ⟨vP38_1, P38_1, hrP38_1, hoP38_1, hb0P38_1, hgP38_1, hatP38_1⟩ := run_many 33 (Y1.alloc (.cells (Array.replicate 32 (.int .u8 0)) 31)) _ _ Tk C info cc hown1 (hCr.below hHeld) hbase (by first | omega | (simp; omega))
              have hbSP38_1 := hHeld.trans (hb0P38_1.mono hRb)
              have hoffP38_1 := ownsRow_off hown1 hD (by decide)
              have hne : some (Y1.alloc (.cells (Array.replicate 32 (.int .u8 0)) 31)).heap.size ≠ vY1.ownBlock := fun e => by have h1 := (hown1.lt _ e.symm).2; omega
              refine held_ready [4, 7] (by kernel_rfl) (by simp) (rdy_app 4 (.tmp 36) (.tmp 37) 33 33 33 (some 38) (vY1) (.slice C info.length cc) (vP38_1) P38_1 (by kernel_rfl) (by kernel_rfl) (by kernel_rfl) (hrP38_1) (hbSP38_1) ?_ (rdy_bsl 7 33 5 (.tmp 40) (some 41) (.int .u8 (n8 bt)) (by kernel_rfl) (by kernel_rfl) (bsl_u8 _ _) (keepB hHeld (alc _ _)) ?_ AllReadyH.nil))
              · intro hHeld
                have hbase := Nat.le_trans hbase hgP38_1.size
                have hD := hD.of_block (hgP38_1.block _ hD.lt hoffP38_1)
                have hown1 := hoP38_1
                have hne : some P38_1.heap.size ≠ vP38_1.ownBlock := fun e => by have h1 := (hown1.lt _ e.symm).2; omega
                refine held_ready [7] (by kernel_rfl) (by simp) (rdy_bsl 7 33 5 (.tmp 40) (some 41) (.int .u8 (n8 bt)) (by kernel_rfl) (by kernel_rfl) (bsl_u8 _ _) (keepB hHeld (alc _ _)) ?_ AllReadyH.nil)
                intro hHeld
                have hbase := Nat.le_trans hbase ((alc P38_1 (.cells #[.int .u8 (n8 bt)] 5))).size
                have hD := hD.of_block (((alc P38_1 (.cells #[.int .u8 (n8 bt)] 5))).block _ hD.lt)
                have hown1 := ownsRow_via hown1 (fun g _ hl => ((alc P38_1 (.cells #[.int .u8 (n8 bt)] 5))).block g hl)
                have hs7 := SlRead.one_new (W := P38_1) (.int .u8 (n8 bt)) 5
                obtain ⟨vP40_2, P40_2, hrP40_2, hoP40_2, hb0P40_2, hgP40_2, hatP40_2⟩ := run_many 33 (P38_1.alloc (.cells #[.int .u8 (n8 bt)] 5)) _ _ (Tk ++ info) (some ⟨P38_1.heap.size, 0, none⟩) [bt] 1 hown1 hs7 hbase (by first | omega | (simp; omega))
                have hbSP40_2 := hHeld.trans (hb0P40_2.mono hRb)
                obtain ⟨AP40_2, cP40_2, rfl, hcP40_2⟩ := ownsRow_form hoP40_2
                have hoffP40_2 := ownsRow_off hown1 hD (by decide)
                refine held_ready [8] (by kernel_rfl) (by simp) (rdy_app 8 (.tmp 38) (.tmp 41) 33 33 33 (some 42) (vP38_1) (.slice (some ⟨P38_1.heap.size, 0, none⟩) 1 1) (.slice AP40_2 (Tk ++ info ++ [bt]).length cP40_2) P40_2 (by kernel_rfl) (by kernel_rfl) (by kernel_rfl) (hrP40_2) (hbSP40_2) ?_ AllReadyH.nil)
                intro hHeld
                have hD := hD.of_block (hgP40_2.block _ hD.lt hoffP40_2)
                have hown1 := hoP40_2
                have hz := SlRead.of_own hown1
                have hdm := dmac_any (some ⟨G, 0, none⟩) (lst 32 mm) 32 AP40_2 (Tk ++ info ++ [bt]) cP40_2 P40_2 (hgS.below hHeld) (by simp) hz (by simp; omega)
                rw [lst_length, HF.out] at hdm
                refine held_call 9 13 #[.tmp 34, .tmp 42] #[33, 33] (some 43) #[.slice (some ⟨G, 0, none⟩) 32 32, .slice AP40_2 (Tk ++ info ++ [bt]).length cP40_2] _ (by kernel_rfl) (by kernel_rfl) (by kernel_rfl) (by kernel_rfl) (hdm) ?_
                rintro e Y42 ⟨rfl, hbY42⟩
                refine ⟨_, rfl, keepB hHeld hbY42, fun hHeld => ?_⟩
                have hD := hD.of_block ((hbY42).block _ hD.lt)
                have hz := hz.below hbY42
                obtain ⟨od, hd1, hd2, _⟩ := hD
                refine held_ready [11] (by kernel_rfl) (by simp) (rdy_storeR 11 31 (.tmp 14) (.tmp 43) (Y1.heap.size) (arr8 32 F) 31 od (by kernel_rfl) (by kernel_rfl) hd1 (by kernel_rfl) (by rw [hd2, arr8_size]) (arr8_one _ _) (below_setRow hHeld hRD (arr8 32 F)) ?_ AllReadyH.nil)
                intro hHeld
                have hfin := rowIs_arr (setRow_heap Y42 (Y1.heap.size) _ (arr8 32 F) _ _ hd1) (by simp) (fun i hi => arr8_get 32 F i hi)
                refine wpAnyH_done (by kernel_rfl) ?_ _
                refine NoPanic.normal ?_
                simp only [Act.put, List.setIfInBounds_toArray, List.set_cons_zero, List.set_cons_succ]
                exact ⟨trivial, _, _, _, _, _, _, _, _, _, _, rfl, (Below.drewNr (w := wr) 1).trans hHeld, hfin, hRD⟩
              · intro hHeld
                have hown1 := ownsRow_via hown1 (fun g _ hl => ((alc (Y1.alloc (.cells (Array.replicate 32 (.int .u8 0)) 31)) (.cells #[.int .u8 (n8 bt)] 5))).block g hl)
                have hbase := Nat.le_trans hbase ((alc (Y1.alloc (.cells (Array.replicate 32 (.int .u8 0)) 31)) (.cells #[.int .u8 (n8 bt)] 5))).size
                have hD := hD.of_block (((alc (Y1.alloc (.cells (Array.replicate 32 (.int .u8 0)) 31)) (.cells #[.int .u8 (n8 bt)] 5))).block _ hD.lt)
                have hs7 := SlRead.one_new (W := (Y1.alloc (.cells (Array.replicate 32 (.int .u8 0)) 31))) (.int .u8 (n8 bt)) 5
                obtain ⟨vP44_1, P44_1, hrP44_1, hoP44_1, hb0P44_1, hgP44_1, hatP44_1⟩ := run_many 33 ((Y1.alloc (.cells (Array.replicate 32 (.int .u8 0)) 31)).alloc (.cells #[.int .u8 (n8 bt)] 5)) _ _ Tk C info cc hown1 (hCr.below hHeld) hbase (by first | omega | (simp; omega))
                have hbSP44_1 := hHeld.trans (hb0P44_1.mono hRb)
                have hlt7 := slread_lt hs7 (by simp)
                have hoffP44_1 := ownsRow_off hown1 hD (by decide)
                refine held_ready [4] (by kernel_rfl) (by simp) (rdy_app 4 (.tmp 36) (.tmp 37) 33 33 33 (some 38) (vY1) (.slice C info.length cc) (vP44_1) P44_1 (by kernel_rfl) (by kernel_rfl) (by kernel_rfl) (hrP44_1) (hbSP44_1) ?_ AllReadyH.nil)
                intro hHeld
                have hbase := Nat.le_trans hbase hgP44_1.size
                have hD := hD.of_block (hgP44_1.block _ hD.lt hoffP44_1)
                have hs7 := hs7.grownS hgP44_1 hne
                have hne : some ((Y1.alloc (.cells (Array.replicate 32 (.int .u8 0)) 31)).heap.size) ≠ vP44_1.ownBlock := by
                  rcases hatP44_1 with h | h
                  · rw [h]; exact hne
                  · rw [h]; intro e; have h1 := Option.some.inj e; omega
                have hown1 := hoP44_1
                obtain ⟨vP45_2, P45_2, hrP45_2, hoP45_2, hb0P45_2, hgP45_2, hatP45_2⟩ := run_many 33 P44_1 _ _ (Tk ++ info) (some ⟨(Y1.alloc (.cells (Array.replicate 32 (.int .u8 0)) 31)).heap.size, 0, none⟩) [bt] 1 hown1 hs7 hbase (by first | omega | (simp; omega))
                have hbSP45_2 := hHeld.trans (hb0P45_2.mono hRb)
                obtain ⟨AP45_2, cP45_2, rfl, hcP45_2⟩ := ownsRow_form hoP45_2
                have hoffP45_2 := ownsRow_off hown1 hD (by decide)
                refine held_ready [8] (by kernel_rfl) (by simp) (rdy_app 8 (.tmp 38) (.tmp 41) 33 33 33 (some 42) (vP44_1) (.slice (some ⟨(Y1.alloc (.cells (Array.replicate 32 (.int .u8 0)) 31)).heap.size, 0, none⟩) 1 1) (.slice AP45_2 (Tk ++ info ++ [bt]).length cP45_2) P45_2 (by kernel_rfl) (by kernel_rfl) (by kernel_rfl) (hrP45_2) (hbSP45_2) ?_ AllReadyH.nil)
                intro hHeld
                have hD := hD.of_block (hgP45_2.block _ hD.lt hoffP45_2)
                have hown1 := hoP45_2
                have hz := SlRead.of_own hown1
                have hdm := dmac_any (some ⟨G, 0, none⟩) (lst 32 mm) 32 AP45_2 (Tk ++ info ++ [bt]) cP45_2 P45_2 (hgS.below hHeld) (by simp) hz (by simp; omega)
                rw [lst_length, HF.out] at hdm
                refine held_call 9 13 #[.tmp 34, .tmp 42] #[33, 33] (some 43) #[.slice (some ⟨G, 0, none⟩) 32 32, .slice AP45_2 (Tk ++ info ++ [bt]).length cP45_2] _ (by kernel_rfl) (by kernel_rfl) (by kernel_rfl) (by kernel_rfl) (hdm) ?_
                rintro e Y47 ⟨rfl, hbY47⟩
                refine ⟨_, rfl, keepB hHeld hbY47, fun hHeld => ?_⟩
                have hD := hD.of_block ((hbY47).block _ hD.lt)
                have hz := hz.below hbY47
                obtain ⟨od, hd1, hd2, _⟩ := hD
                refine held_ready [11] (by kernel_rfl) (by simp) (rdy_storeR 11 31 (.tmp 14) (.tmp 43) (Y1.heap.size) (arr8 32 F) 31 od (by kernel_rfl) (by kernel_rfl) hd1 (by kernel_rfl) (by rw [hd2, arr8_size]) (arr8_one _ _) (below_setRow hHeld hRD (arr8 32 F)) ?_ AllReadyH.nil)
                intro hHeld
                have hfin := rowIs_arr (setRow_heap Y47 (Y1.heap.size) _ (arr8 32 F) _ _ hd1) (by simp) (fun i hi => arr8_get 32 F i hi)
                refine wpAnyH_done (by kernel_rfl) ?_ _
                refine NoPanic.normal ?_
                simp only [Act.put, List.setIfInBounds_toArray, List.set_cons_zero, List.set_cons_succ]
                exact ⟨trivial, _, _, _, _, _, _, _, _, _, _, rfl, (Below.drewNr (w := wr) 1).trans hHeld, hfin, hRD⟩
          · intro hHeld
            have hs7 := SlRead.one_new (W := wr.drew) (.int .u8 (n8 bt)) 5
            have hby := bytes_any Al (bys Tk) cl (wr.drew.alloc (.cells #[.int .u8 (n8 bt)] 5)) (hslT.below hHeld) (by simp; omega)
            rw [bys_length] at hby
            have hRb := hHeld.size
            have hRD : wr.drew.heap.size ≤ (wr.drew.alloc (.cells #[.int .u8 (n8 bt)] 5)).heap.size := hHeld.size
            refine held_ready [2, 10] (by kernel_rfl) (by simp) (rdy_call 2 17 #[.tmp 35] #[33] (some 36) #[.slice Al Tk.length cl] _ (by kernel_rfl) (by kernel_rfl) (by kernel_rfl) (hby) ?_ (rdy_alloc 10 31 (some 14) (Array.replicate 32 (.int .u8 0)) (by kernel_rfl) (fun _ => by kernel_rfl) (keepB hHeld (alc _ _)) ?_ AllReadyH.nil))
            · rintro e Y50 ⟨vY50, rfl, hown1, hbY50⟩
              refine ⟨_, rfl, keepB hHeld hbY50, fun hHeld => ?_⟩
              have hs7 := hs7.below hbY50
              have hbase := hbY50.size
              have hne : some (wr.drew.heap.size) ≠ vY50.ownBlock := fun e => by have h1 := (hown1.lt _ e.symm).1; first | omega | (simp at h1; omega)
              obtain ⟨vP50_1, P50_1, hrP50_1, hoP50_1, hb0P50_1, hgP50_1, hatP50_1⟩ := run_many 33 Y50 _ _ Tk C info cc hown1 (hCr.below hHeld) hbase (by first | omega | (simp; omega))
              have hbSP50_1 := hHeld.trans (hb0P50_1.mono hRb)
              have hlt7 := slread_lt hs7 (by simp)
              have hRD : wr.drew.heap.size ≤ Y50.heap.size := hHeld.size
              refine held_ready [4, 10] (by kernel_rfl) (by simp) (rdy_app 4 (.tmp 36) (.tmp 37) 33 33 33 (some 38) (vY50) (.slice C info.length cc) (vP50_1) P50_1 (by kernel_rfl) (by kernel_rfl) (by kernel_rfl) (hrP50_1) (hbSP50_1) ?_ (rdy_alloc 10 31 (some 14) (Array.replicate 32 (.int .u8 0)) (by kernel_rfl) (fun _ => by kernel_rfl) (keepB hHeld (alc _ _)) ?_ AllReadyH.nil))
              · intro hHeld
                have hs7 := hs7.grownS hgP50_1 hne
                have hbase := Nat.le_trans hbase hgP50_1.size
                have hne : some (wr.drew.heap.size) ≠ vP50_1.ownBlock := by
                  rcases hatP50_1 with h | h
                  · rw [h]; exact hne
                  · rw [h]; intro e; have h1 := Option.some.inj e; omega
                have hown1 := hoP50_1
                obtain ⟨vP51_2, P51_2, hrP51_2, hoP51_2, hb0P51_2, hgP51_2, hatP51_2⟩ := run_many 33 P50_1 _ _ (Tk ++ info) (some ⟨wr.drew.heap.size, 0, none⟩) [bt] 1 hown1 hs7 hbase (by first | omega | (simp; omega))
                have hbSP51_2 := hHeld.trans (hb0P51_2.mono hRb)
                obtain ⟨AP51_2, cP51_2, rfl, hcP51_2⟩ := ownsRow_form hoP51_2
                have hRD : wr.drew.heap.size ≤ P50_1.heap.size := hHeld.size
                refine held_ready [8, 10] (by kernel_rfl) (by simp) (rdy_app 8 (.tmp 38) (.tmp 41) 33 33 33 (some 42) (vP50_1) (.slice (some ⟨wr.drew.heap.size, 0, none⟩) 1 1) (.slice AP51_2 (Tk ++ info ++ [bt]).length cP51_2) P51_2 (by kernel_rfl) (by kernel_rfl) (by kernel_rfl) (hrP51_2) (hbSP51_2) ?_ (rdy_alloc 10 31 (some 14) (Array.replicate 32 (.int .u8 0)) (by kernel_rfl) (fun _ => by kernel_rfl) (keepB hHeld (alc _ _)) ?_ AllReadyH.nil))
                · intro hHeld
                  have hown1 := hoP51_2
                  have hz := SlRead.of_own hown1
                  have hdm := dmac_any (some ⟨G, 0, none⟩) (lst 32 mm) 32 AP51_2 (Tk ++ info ++ [bt]) cP51_2 P51_2 (hgS.below hHeld) (by simp) hz (by simp; omega)
                  rw [lst_length, HF.out] at hdm
                  have hRD : wr.drew.heap.size ≤ P51_2.heap.size := hHeld.size
                  refine held_ready [9, 10] (by kernel_rfl) (by simp) (rdy_call 9 13 #[.tmp 34, .tmp 42] #[33, 33] (some 43) #[.slice (some ⟨G, 0, none⟩) 32 32, .slice AP51_2 (Tk ++ info ++ [bt]).length cP51_2] _ (by kernel_rfl) (by kernel_rfl) (by kernel_rfl) (hdm) ?_ (rdy_alloc 10 31 (some 14) (Array.replicate 32 (.int .u8 0)) (by kernel_rfl) (fun _ => by kernel_rfl) (keepB hHeld (alc _ _)) ?_ AllReadyH.nil))
                  · rintro e Y53 ⟨rfl, hbY53⟩
                    refine ⟨_, rfl, keepB hHeld hbY53, fun hHeld => ?_⟩
                    have hz := hz.below hbY53
                    have hRD : wr.drew.heap.size ≤ Y53.heap.size := hHeld.size
                    refine held_ready [10] (by kernel_rfl) (by simp) (rdy_alloc 10 31 (some 14) (Array.replicate 32 (.int .u8 0)) (by kernel_rfl) (fun _ => by kernel_rfl) (keepB hHeld (alc _ _)) ?_ AllReadyH.nil)
                    intro hHeld
                    have hz := hz.below (alc Y53 (.cells (Array.replicate 32 (.int .u8 0)) 31))
                    have hD : (Y53.alloc (.cells (Array.replicate 32 (.int .u8 0)) 31)).rowIs Y53.heap.size 31 32 (fun _ => .int .u8 0) := rowIs_new _ _ _ _ _ _ rfl (by simp) (fun i hi => by simp [hi])
                    have hRD : wr.drew.heap.size ≤ Y53.heap.size := hRD
                    obtain ⟨od, hd1, hd2, _⟩ := hD
                    refine held_ready [11] (by kernel_rfl) (by simp) (rdy_storeR 11 31 (.tmp 14) (.tmp 43) (Y53.heap.size) (arr8 32 F) 31 od (by kernel_rfl) (by kernel_rfl) hd1 (by kernel_rfl) (by rw [hd2, arr8_size]) (arr8_one _ _) (below_setRow hHeld hRD (arr8 32 F)) ?_ AllReadyH.nil)
                    intro hHeld
                    have hfin := rowIs_arr (setRow_heap (Y53.alloc (.cells (Array.replicate 32 (.int .u8 0)) 31)) (Y53.heap.size) _ (arr8 32 F) _ _ hd1) (by simp) (fun i hi => arr8_get 32 F i hi)
                    refine wpAnyH_done (by kernel_rfl) ?_ _
                    refine NoPanic.normal ?_
                    simp only [Act.put, List.setIfInBounds_toArray, List.set_cons_zero, List.set_cons_succ]
                    exact ⟨trivial, _, _, _, _, _, _, _, _, _, _, rfl, (Below.drewNr (w := wr) 1).trans hHeld, hfin, hRD⟩
                  · intro hHeld
                    have hz := hz.below (alc P51_2 (.cells (Array.replicate 32 (.int .u8 0)) 31))
                    have hD : (P51_2.alloc (.cells (Array.replicate 32 (.int .u8 0)) 31)).rowIs P51_2.heap.size 31 32 (fun _ => .int .u8 0) := rowIs_new _ _ _ _ _ _ rfl (by simp) (fun i hi => by simp [hi])
                    have hRD : wr.drew.heap.size ≤ P51_2.heap.size := hRD
                    have hdm := dmac_any (some ⟨G, 0, none⟩) (lst 32 mm) 32 AP51_2 (Tk ++ info ++ [bt]) cP51_2 (P51_2.alloc (.cells (Array.replicate 32 (.int .u8 0)) 31)) (hgS.below hHeld) (by simp) hz (by simp; omega)
                    rw [lst_length, HF.out] at hdm
                    refine held_call 9 13 #[.tmp 34, .tmp 42] #[33, 33] (some 43) #[.slice (some ⟨G, 0, none⟩) 32 32, .slice AP51_2 (Tk ++ info ++ [bt]).length cP51_2] _ (by kernel_rfl) (by kernel_rfl) (by kernel_rfl) (by kernel_rfl) (hdm) ?_
                    rintro e Y57 ⟨rfl, hbY57⟩
                    refine ⟨_, rfl, keepB hHeld hbY57, fun hHeld => ?_⟩
                    have hz := hz.below hbY57
                    have hD := hD.of_block ((hbY57).block _ hD.lt)
                    obtain ⟨od, hd1, hd2, _⟩ := hD
                    refine held_ready [11] (by kernel_rfl) (by simp) (rdy_storeR 11 31 (.tmp 14) (.tmp 43) (P51_2.heap.size) (arr8 32 F) 31 od (by kernel_rfl) (by kernel_rfl) hd1 (by kernel_rfl) (by rw [hd2, arr8_size]) (arr8_one _ _) (below_setRow hHeld hRD (arr8 32 F)) ?_ AllReadyH.nil)
                    intro hHeld
                    have hfin := rowIs_arr (setRow_heap Y57 (P51_2.heap.size) _ (arr8 32 F) _ _ hd1) (by simp) (fun i hi => arr8_get 32 F i hi)
                    refine wpAnyH_done (by kernel_rfl) ?_ _
                    refine NoPanic.normal ?_
                    simp only [Act.put, List.setIfInBounds_toArray, List.set_cons_zero, List.set_cons_succ]
                    exact ⟨trivial, _, _, _, _, _, _, _, _, _, _, rfl, (Below.drewNr (w := wr) 1).trans hHeld, hfin, hRD⟩
                · intro hHeld
                  have hs7 := hs7.below (alc P50_1 (.cells (Array.replicate 32 (.int .u8 0)) 31))
                  have hbase := Nat.le_trans hbase ((alc P50_1 (.cells (Array.replicate 32 (.int .u8 0)) 31))).size
                  have hown1 := ownsRow_via hown1 (fun g _ hl => ((alc P50_1 (.cells (Array.replicate 32 (.int .u8 0)) 31))).block g hl)
                  have hD : (P50_1.alloc (.cells (Array.replicate 32 (.int .u8 0)) 31)).rowIs P50_1.heap.size 31 32 (fun _ => .int .u8 0) := rowIs_new _ _ _ _ _ _ rfl (by simp) (fun i hi => by simp [hi])
                  have hRD : wr.drew.heap.size ≤ P50_1.heap.size := hRD
                  obtain ⟨vP59_2, P59_2, hrP59_2, hoP59_2, hb0P59_2, hgP59_2, hatP59_2⟩ := run_many 33 (P50_1.alloc (.cells (Array.replicate 32 (.int .u8 0)) 31)) _ _ (Tk ++ info) (some ⟨wr.drew.heap.size, 0, none⟩) [bt] 1 hown1 hs7 hbase (by first | omega | (simp; omega))
                  have hbSP59_2 := hHeld.trans (hb0P59_2.mono hRb)
                  obtain ⟨AP59_2, cP59_2, rfl, hcP59_2⟩ := ownsRow_form hoP59_2
                  have hoffP59_2 := ownsRow_off hown1 hD (by decide)
                  refine held_ready [8] (by kernel_rfl) (by simp) (rdy_app 8 (.tmp 38) (.tmp 41) 33 33 33 (some 42) (vP50_1) (.slice (some ⟨wr.drew.heap.size, 0, none⟩) 1 1) (.slice AP59_2 (Tk ++ info ++ [bt]).length cP59_2) P59_2 (by kernel_rfl) (by kernel_rfl) (by kernel_rfl) (hrP59_2) (hbSP59_2) ?_ AllReadyH.nil)
                  intro hHeld
                  have hD := hD.of_block (hgP59_2.block _ hD.lt hoffP59_2)
                  have hown1 := hoP59_2
                  have hz := SlRead.of_own hown1
                  have hdm := dmac_any (some ⟨G, 0, none⟩) (lst 32 mm) 32 AP59_2 (Tk ++ info ++ [bt]) cP59_2 P59_2 (hgS.below hHeld) (by simp) hz (by simp; omega)
                  rw [lst_length, HF.out] at hdm
                  refine held_call 9 13 #[.tmp 34, .tmp 42] #[33, 33] (some 43) #[.slice (some ⟨G, 0, none⟩) 32 32, .slice AP59_2 (Tk ++ info ++ [bt]).length cP59_2] _ (by kernel_rfl) (by kernel_rfl) (by kernel_rfl) (by kernel_rfl) (hdm) ?_
                  rintro e Y61 ⟨rfl, hbY61⟩
                  refine ⟨_, rfl, keepB hHeld hbY61, fun hHeld => ?_⟩
                  have hD := hD.of_block ((hbY61).block _ hD.lt)
                  have hz := hz.below hbY61
                  obtain ⟨od, hd1, hd2, _⟩ := hD
                  refine held_ready [11] (by kernel_rfl) (by simp) (rdy_storeR 11 31 (.tmp 14) (.tmp 43) (P50_1.heap.size) (arr8 32 F) 31 od (by kernel_rfl) (by kernel_rfl) hd1 (by kernel_rfl) (by rw [hd2, arr8_size]) (arr8_one _ _) (below_setRow hHeld hRD (arr8 32 F)) ?_ AllReadyH.nil)
                  intro hHeld
                  have hfin := rowIs_arr (setRow_heap Y61 (P50_1.heap.size) _ (arr8 32 F) _ _ hd1) (by simp) (fun i hi => arr8_get 32 F i hi)
                  refine wpAnyH_done (by kernel_rfl) ?_ _
                  refine NoPanic.normal ?_
                  simp only [Act.put, List.setIfInBounds_toArray, List.set_cons_zero, List.set_cons_succ]
                  exact ⟨trivial, _, _, _, _, _, _, _, _, _, _, rfl, (Below.drewNr (w := wr) 1).trans hHeld, hfin, hRD⟩
              · intro hHeld
                have hs7 := hs7.below (alc Y50 (.cells (Array.replicate 32 (.int .u8 0)) 31))
                have hown1 := ownsRow_via hown1 (fun g _ hl => ((alc Y50 (.cells (Array.replicate 32 (.int .u8 0)) 31))).block g hl)
                have hbase := Nat.le_trans hbase ((alc Y50 (.cells (Array.replicate 32 (.int .u8 0)) 31))).size
                have hD : (Y50.alloc (.cells (Array.replicate 32 (.int .u8 0)) 31)).rowIs Y50.heap.size 31 32 (fun _ => .int .u8 0) := rowIs_new _ _ _ _ _ _ rfl (by simp) (fun i hi => by simp [hi])
                have hRD : wr.drew.heap.size ≤ Y50.heap.size := hRD
                obtain ⟨vP63_1, P63_1, hrP63_1, hoP63_1, hb0P63_1, hgP63_1, hatP63_1⟩ := run_many 33 (Y50.alloc (.cells (Array.replicate 32 (.int .u8 0)) 31)) _ _ Tk C info cc hown1 (hCr.below hHeld) hbase (by first | omega | (simp; omega))
                have hbSP63_1 := hHeld.trans (hb0P63_1.mono hRb)
                have hlt7 := slread_lt hs7 (by simp)
                have hoffP63_1 := ownsRow_off hown1 hD (by decide)
                refine held_ready [4] (by kernel_rfl) (by simp) (rdy_app 4 (.tmp 36) (.tmp 37) 33 33 33 (some 38) (vY50) (.slice C info.length cc) (vP63_1) P63_1 (by kernel_rfl) (by kernel_rfl) (by kernel_rfl) (hrP63_1) (hbSP63_1) ?_ AllReadyH.nil)
                intro hHeld
                have hs7 := hs7.grownS hgP63_1 hne
                have hbase := Nat.le_trans hbase hgP63_1.size
                have hD := hD.of_block (hgP63_1.block _ hD.lt hoffP63_1)
                have hne : some (wr.drew.heap.size) ≠ vP63_1.ownBlock := by
                  rcases hatP63_1 with h | h
                  · rw [h]; exact hne
                  · rw [h]; intro e; have h1 := Option.some.inj e; omega
                have hown1 := hoP63_1
                obtain ⟨vP64_2, P64_2, hrP64_2, hoP64_2, hb0P64_2, hgP64_2, hatP64_2⟩ := run_many 33 P63_1 _ _ (Tk ++ info) (some ⟨wr.drew.heap.size, 0, none⟩) [bt] 1 hown1 hs7 hbase (by first | omega | (simp; omega))
                have hbSP64_2 := hHeld.trans (hb0P64_2.mono hRb)
                obtain ⟨AP64_2, cP64_2, rfl, hcP64_2⟩ := ownsRow_form hoP64_2
                have hoffP64_2 := ownsRow_off hown1 hD (by decide)
                refine held_ready [8] (by kernel_rfl) (by simp) (rdy_app 8 (.tmp 38) (.tmp 41) 33 33 33 (some 42) (vP63_1) (.slice (some ⟨wr.drew.heap.size, 0, none⟩) 1 1) (.slice AP64_2 (Tk ++ info ++ [bt]).length cP64_2) P64_2 (by kernel_rfl) (by kernel_rfl) (by kernel_rfl) (hrP64_2) (hbSP64_2) ?_ AllReadyH.nil)
                intro hHeld
                have hD := hD.of_block (hgP64_2.block _ hD.lt hoffP64_2)
                have hown1 := hoP64_2
                have hz := SlRead.of_own hown1
                have hdm := dmac_any (some ⟨G, 0, none⟩) (lst 32 mm) 32 AP64_2 (Tk ++ info ++ [bt]) cP64_2 P64_2 (hgS.below hHeld) (by simp) hz (by simp; omega)
                rw [lst_length, HF.out] at hdm
                refine held_call 9 13 #[.tmp 34, .tmp 42] #[33, 33] (some 43) #[.slice (some ⟨G, 0, none⟩) 32 32, .slice AP64_2 (Tk ++ info ++ [bt]).length cP64_2] _ (by kernel_rfl) (by kernel_rfl) (by kernel_rfl) (by kernel_rfl) (hdm) ?_
                rintro e Y66 ⟨rfl, hbY66⟩
                refine ⟨_, rfl, keepB hHeld hbY66, fun hHeld => ?_⟩
                have hD := hD.of_block ((hbY66).block _ hD.lt)
                have hz := hz.below hbY66
                obtain ⟨od, hd1, hd2, _⟩ := hD
                refine held_ready [11] (by kernel_rfl) (by simp) (rdy_storeR 11 31 (.tmp 14) (.tmp 43) (Y50.heap.size) (arr8 32 F) 31 od (by kernel_rfl) (by kernel_rfl) hd1 (by kernel_rfl) (by rw [hd2, arr8_size]) (arr8_one _ _) (below_setRow hHeld hRD (arr8 32 F)) ?_ AllReadyH.nil)
                intro hHeld
                have hfin := rowIs_arr (setRow_heap Y66 (Y50.heap.size) _ (arr8 32 F) _ _ hd1) (by simp) (fun i hi => arr8_get 32 F i hi)
                refine wpAnyH_done (by kernel_rfl) ?_ _
                refine NoPanic.normal ?_
                simp only [Act.put, List.setIfInBounds_toArray, List.set_cons_zero, List.set_cons_succ]
                exact ⟨trivial, _, _, _, _, _, _, _, _, _, _, rfl, (Below.drewNr (w := wr) 1).trans hHeld, hfin, hRD⟩
            · intro hHeld
              have hs7 := hs7.below (alc (wr.drew.alloc (.cells #[.int .u8 (n8 bt)] 5)) (.cells (Array.replicate 32 (.int .u8 0)) 31))
              have hD : ((wr.drew.alloc (.cells #[.int .u8 (n8 bt)] 5)).alloc (.cells (Array.replicate 32 (.int .u8 0)) 31)).rowIs (wr.drew.alloc (.cells #[.int .u8 (n8 bt)] 5)).heap.size 31 32 (fun _ => .int .u8 0) := rowIs_new _ _ _ _ _ _ rfl (by simp) (fun i hi => by simp [hi])
              have hRD : wr.drew.heap.size ≤ (wr.drew.alloc (.cells #[.int .u8 (n8 bt)] 5)).heap.size := hRD
              have hby := bytes_any Al (bys Tk) cl ((wr.drew.alloc (.cells #[.int .u8 (n8 bt)] 5)).alloc (.cells (Array.replicate 32 (.int .u8 0)) 31)) (hslT.below hHeld) (by simp; omega)
              rw [bys_length] at hby
              have hRb := hHeld.size
              refine held_call 2 17 #[.tmp 35] #[33] (some 36) #[.slice Al Tk.length cl] _ (by kernel_rfl) (by kernel_rfl) (by kernel_rfl) (by kernel_rfl) (hby) ?_
              rintro e Y69 ⟨vY69, rfl, hown1, hbY69⟩
              refine ⟨_, rfl, keepB hHeld hbY69, fun hHeld => ?_⟩
              have hs7 := hs7.below hbY69
              have hD := hD.of_block ((hbY69).block _ hD.lt)
              have hbase := hbY69.size
              have hne : some (wr.drew.heap.size) ≠ vY69.ownBlock := fun e => by have h1 := (hown1.lt _ e.symm).1; first | omega | (simp at h1; omega)
              obtain ⟨vP69_1, P69_1, hrP69_1, hoP69_1, hb0P69_1, hgP69_1, hatP69_1⟩ := run_many 33 Y69 _ _ Tk C info cc hown1 (hCr.below hHeld) hbase (by first | omega | (simp; omega))
              have hbSP69_1 := hHeld.trans (hb0P69_1.mono hRb)
              have hlt7 := slread_lt hs7 (by simp)
              have hoffP69_1 := ownsRow_off hown1 hD (by decide)
              refine held_ready [4] (by kernel_rfl) (by simp) (rdy_app 4 (.tmp 36) (.tmp 37) 33 33 33 (some 38) (vY69) (.slice C info.length cc) (vP69_1) P69_1 (by kernel_rfl) (by kernel_rfl) (by kernel_rfl) (hrP69_1) (hbSP69_1) ?_ AllReadyH.nil)
              intro hHeld
              have hs7 := hs7.grownS hgP69_1 hne
              have hD := hD.of_block (hgP69_1.block _ hD.lt hoffP69_1)
              have hbase := Nat.le_trans hbase hgP69_1.size
              have hne : some (wr.drew.heap.size) ≠ vP69_1.ownBlock := by
                rcases hatP69_1 with h | h
                · rw [h]; exact hne
                · rw [h]; intro e; have h1 := Option.some.inj e; omega
              have hown1 := hoP69_1
              obtain ⟨vP70_2, P70_2, hrP70_2, hoP70_2, hb0P70_2, hgP70_2, hatP70_2⟩ := run_many 33 P69_1 _ _ (Tk ++ info) (some ⟨wr.drew.heap.size, 0, none⟩) [bt] 1 hown1 hs7 hbase (by first | omega | (simp; omega))
              have hbSP70_2 := hHeld.trans (hb0P70_2.mono hRb)
              obtain ⟨AP70_2, cP70_2, rfl, hcP70_2⟩ := ownsRow_form hoP70_2
              have hoffP70_2 := ownsRow_off hown1 hD (by decide)
              refine held_ready [8] (by kernel_rfl) (by simp) (rdy_app 8 (.tmp 38) (.tmp 41) 33 33 33 (some 42) (vP69_1) (.slice (some ⟨wr.drew.heap.size, 0, none⟩) 1 1) (.slice AP70_2 (Tk ++ info ++ [bt]).length cP70_2) P70_2 (by kernel_rfl) (by kernel_rfl) (by kernel_rfl) (hrP70_2) (hbSP70_2) ?_ AllReadyH.nil)
              intro hHeld
              have hD := hD.of_block (hgP70_2.block _ hD.lt hoffP70_2)
              have hown1 := hoP70_2
              have hz := SlRead.of_own hown1
              have hdm := dmac_any (some ⟨G, 0, none⟩) (lst 32 mm) 32 AP70_2 (Tk ++ info ++ [bt]) cP70_2 P70_2 (hgS.below hHeld) (by simp) hz (by simp; omega)
              rw [lst_length, HF.out] at hdm
              refine held_call 9 13 #[.tmp 34, .tmp 42] #[33, 33] (some 43) #[.slice (some ⟨G, 0, none⟩) 32 32, .slice AP70_2 (Tk ++ info ++ [bt]).length cP70_2] _ (by kernel_rfl) (by kernel_rfl) (by kernel_rfl) (by kernel_rfl) (hdm) ?_
              rintro e Y72 ⟨rfl, hbY72⟩
              refine ⟨_, rfl, keepB hHeld hbY72, fun hHeld => ?_⟩
              have hD := hD.of_block ((hbY72).block _ hD.lt)
              have hz := hz.below hbY72
              obtain ⟨od, hd1, hd2, _⟩ := hD
              refine held_ready [11] (by kernel_rfl) (by simp) (rdy_storeR 11 31 (.tmp 14) (.tmp 43) ((wr.drew.alloc (.cells #[.int .u8 (n8 bt)] 5)).heap.size) (arr8 32 F) 31 od (by kernel_rfl) (by kernel_rfl) hd1 (by kernel_rfl) (by rw [hd2, arr8_size]) (arr8_one _ _) (below_setRow hHeld hRD (arr8 32 F)) ?_ AllReadyH.nil)
              intro hHeld
              have hfin := rowIs_arr (setRow_heap Y72 ((wr.drew.alloc (.cells #[.int .u8 (n8 bt)] 5)).heap.size) _ (arr8 32 F) _ _ hd1) (by simp) (fun i hi => arr8_get 32 F i hi)
              refine wpAnyH_done (by kernel_rfl) ?_ _
              refine NoPanic.normal ?_
              simp only [Act.put, List.setIfInBounds_toArray, List.set_cons_zero, List.set_cons_succ]
              exact ⟨trivial, _, _, _, _, _, _, _, _, _, _, rfl, (Below.drewNr (w := wr) 1).trans hHeld, hfin, hRD⟩
          · intro hHeld
            have hD : (wr.drew.alloc (.cells (Array.replicate 32 (.int .u8 0)) 31)).rowIs wr.drew.heap.size 31 32 (fun _ => .int .u8 0) := rowIs_new _ _ _ _ _ _ rfl (by simp) (fun i hi => by simp [hi])
            have hRD : wr.drew.heap.size ≤ wr.drew.heap.size := hRD
            have hby := bytes_any Al (bys Tk) cl (wr.drew.alloc (.cells (Array.replicate 32 (.int .u8 0)) 31)) (hslT.below hHeld) (by simp; omega)
            rw [bys_length] at hby
            have hRb := hHeld.size
            refine held_ready [2, 7] (by kernel_rfl) (by simp) (rdy_call 2 17 #[.tmp 35] #[33] (some 36) #[.slice Al Tk.length cl] _ (by kernel_rfl) (by kernel_rfl) (by kernel_rfl) (hby) ?_ (rdy_bsl 7 33 5 (.tmp 40) (some 41) (.int .u8 (n8 bt)) (by kernel_rfl) (by kernel_rfl) (bsl_u8 _ _) (keepB hHeld (alc _ _)) ?_ AllReadyH.nil))
            · rintro e Y75 ⟨vY75, rfl, hown1, hbY75⟩
              refine ⟨_, rfl, keepB hHeld hbY75, fun hHeld => ?_⟩
              have hD := hD.of_block ((hbY75).block _ hD.lt)
              have hbase := hbY75.size
              obtain ⟨vP75_1, P75_1, hrP75_1, hoP75_1, hb0P75_1, hgP75_1, hatP75_1⟩ := run_many 33 Y75 _ _ Tk C info cc hown1 (hCr.below hHeld) hbase (by first | omega | (simp; omega))
              have hbSP75_1 := hHeld.trans (hb0P75_1.mono hRb)
              have hoffP75_1 := ownsRow_off hown1 hD (by decide)
              have hne : some Y75.heap.size ≠ vY75.ownBlock := fun e => by have h1 := (hown1.lt _ e.symm).2; omega
              refine held_ready [4, 7] (by kernel_rfl) (by simp) (rdy_app 4 (.tmp 36) (.tmp 37) 33 33 33 (some 38) (vY75) (.slice C info.length cc) (vP75_1) P75_1 (by kernel_rfl) (by kernel_rfl) (by kernel_rfl) (hrP75_1) (hbSP75_1) ?_ (rdy_bsl 7 33 5 (.tmp 40) (some 41) (.int .u8 (n8 bt)) (by kernel_rfl) (by kernel_rfl) (bsl_u8 _ _) (keepB hHeld (alc _ _)) ?_ AllReadyH.nil))
              · intro hHeld
                have hD := hD.of_block (hgP75_1.block _ hD.lt hoffP75_1)
                have hbase := Nat.le_trans hbase hgP75_1.size
                have hown1 := hoP75_1
                have hne : some P75_1.heap.size ≠ vP75_1.ownBlock := fun e => by have h1 := (hown1.lt _ e.symm).2; omega
                refine held_ready [7] (by kernel_rfl) (by simp) (rdy_bsl 7 33 5 (.tmp 40) (some 41) (.int .u8 (n8 bt)) (by kernel_rfl) (by kernel_rfl) (bsl_u8 _ _) (keepB hHeld (alc _ _)) ?_ AllReadyH.nil)
                intro hHeld
                have hD := hD.of_block (((alc P75_1 (.cells #[.int .u8 (n8 bt)] 5))).block _ hD.lt)
                have hbase := Nat.le_trans hbase ((alc P75_1 (.cells #[.int .u8 (n8 bt)] 5))).size
                have hown1 := ownsRow_via hown1 (fun g _ hl => ((alc P75_1 (.cells #[.int .u8 (n8 bt)] 5))).block g hl)
                have hs7 := SlRead.one_new (W := P75_1) (.int .u8 (n8 bt)) 5
                obtain ⟨vP77_2, P77_2, hrP77_2, hoP77_2, hb0P77_2, hgP77_2, hatP77_2⟩ := run_many 33 (P75_1.alloc (.cells #[.int .u8 (n8 bt)] 5)) _ _ (Tk ++ info) (some ⟨P75_1.heap.size, 0, none⟩) [bt] 1 hown1 hs7 hbase (by first | omega | (simp; omega))
                have hbSP77_2 := hHeld.trans (hb0P77_2.mono hRb)
                obtain ⟨AP77_2, cP77_2, rfl, hcP77_2⟩ := ownsRow_form hoP77_2
                have hoffP77_2 := ownsRow_off hown1 hD (by decide)
                refine held_ready [8] (by kernel_rfl) (by simp) (rdy_app 8 (.tmp 38) (.tmp 41) 33 33 33 (some 42) (vP75_1) (.slice (some ⟨P75_1.heap.size, 0, none⟩) 1 1) (.slice AP77_2 (Tk ++ info ++ [bt]).length cP77_2) P77_2 (by kernel_rfl) (by kernel_rfl) (by kernel_rfl) (hrP77_2) (hbSP77_2) ?_ AllReadyH.nil)
                intro hHeld
                have hD := hD.of_block (hgP77_2.block _ hD.lt hoffP77_2)
                have hown1 := hoP77_2
                have hz := SlRead.of_own hown1
                have hdm := dmac_any (some ⟨G, 0, none⟩) (lst 32 mm) 32 AP77_2 (Tk ++ info ++ [bt]) cP77_2 P77_2 (hgS.below hHeld) (by simp) hz (by simp; omega)
                rw [lst_length, HF.out] at hdm
                refine held_call 9 13 #[.tmp 34, .tmp 42] #[33, 33] (some 43) #[.slice (some ⟨G, 0, none⟩) 32 32, .slice AP77_2 (Tk ++ info ++ [bt]).length cP77_2] _ (by kernel_rfl) (by kernel_rfl) (by kernel_rfl) (by kernel_rfl) (hdm) ?_
                rintro e Y79 ⟨rfl, hbY79⟩
                refine ⟨_, rfl, keepB hHeld hbY79, fun hHeld => ?_⟩
                have hD := hD.of_block ((hbY79).block _ hD.lt)
                have hz := hz.below hbY79
                obtain ⟨od, hd1, hd2, _⟩ := hD
                refine held_ready [11] (by kernel_rfl) (by simp) (rdy_storeR 11 31 (.tmp 14) (.tmp 43) (wr.drew.heap.size) (arr8 32 F) 31 od (by kernel_rfl) (by kernel_rfl) hd1 (by kernel_rfl) (by rw [hd2, arr8_size]) (arr8_one _ _) (below_setRow hHeld hRD (arr8 32 F)) ?_ AllReadyH.nil)
                intro hHeld
                have hfin := rowIs_arr (setRow_heap Y79 (wr.drew.heap.size) _ (arr8 32 F) _ _ hd1) (by simp) (fun i hi => arr8_get 32 F i hi)
                refine wpAnyH_done (by kernel_rfl) ?_ _
                refine NoPanic.normal ?_
                simp only [Act.put, List.setIfInBounds_toArray, List.set_cons_zero, List.set_cons_succ]
                exact ⟨trivial, _, _, _, _, _, _, _, _, _, _, rfl, (Below.drewNr (w := wr) 1).trans hHeld, hfin, hRD⟩
              · intro hHeld
                have hD := hD.of_block (((alc Y75 (.cells #[.int .u8 (n8 bt)] 5))).block _ hD.lt)
                have hown1 := ownsRow_via hown1 (fun g _ hl => ((alc Y75 (.cells #[.int .u8 (n8 bt)] 5))).block g hl)
                have hbase := Nat.le_trans hbase ((alc Y75 (.cells #[.int .u8 (n8 bt)] 5))).size
                have hs7 := SlRead.one_new (W := Y75) (.int .u8 (n8 bt)) 5
                obtain ⟨vP81_1, P81_1, hrP81_1, hoP81_1, hb0P81_1, hgP81_1, hatP81_1⟩ := run_many 33 (Y75.alloc (.cells #[.int .u8 (n8 bt)] 5)) _ _ Tk C info cc hown1 (hCr.below hHeld) hbase (by first | omega | (simp; omega))
                have hbSP81_1 := hHeld.trans (hb0P81_1.mono hRb)
                have hlt7 := slread_lt hs7 (by simp)
                have hoffP81_1 := ownsRow_off hown1 hD (by decide)
                refine held_ready [4] (by kernel_rfl) (by simp) (rdy_app 4 (.tmp 36) (.tmp 37) 33 33 33 (some 38) (vY75) (.slice C info.length cc) (vP81_1) P81_1 (by kernel_rfl) (by kernel_rfl) (by kernel_rfl) (hrP81_1) (hbSP81_1) ?_ AllReadyH.nil)
                intro hHeld
                have hD := hD.of_block (hgP81_1.block _ hD.lt hoffP81_1)
                have hbase := Nat.le_trans hbase hgP81_1.size
                have hs7 := hs7.grownS hgP81_1 hne
                have hne : some (Y75.heap.size) ≠ vP81_1.ownBlock := by
                  rcases hatP81_1 with h | h
                  · rw [h]; exact hne
                  · rw [h]; intro e; have h1 := Option.some.inj e; omega
                have hown1 := hoP81_1
                obtain ⟨vP82_2, P82_2, hrP82_2, hoP82_2, hb0P82_2, hgP82_2, hatP82_2⟩ := run_many 33 P81_1 _ _ (Tk ++ info) (some ⟨Y75.heap.size, 0, none⟩) [bt] 1 hown1 hs7 hbase (by first | omega | (simp; omega))
                have hbSP82_2 := hHeld.trans (hb0P82_2.mono hRb)
                obtain ⟨AP82_2, cP82_2, rfl, hcP82_2⟩ := ownsRow_form hoP82_2
                have hoffP82_2 := ownsRow_off hown1 hD (by decide)
                refine held_ready [8] (by kernel_rfl) (by simp) (rdy_app 8 (.tmp 38) (.tmp 41) 33 33 33 (some 42) (vP81_1) (.slice (some ⟨Y75.heap.size, 0, none⟩) 1 1) (.slice AP82_2 (Tk ++ info ++ [bt]).length cP82_2) P82_2 (by kernel_rfl) (by kernel_rfl) (by kernel_rfl) (hrP82_2) (hbSP82_2) ?_ AllReadyH.nil)
                intro hHeld
                have hD := hD.of_block (hgP82_2.block _ hD.lt hoffP82_2)
                have hown1 := hoP82_2
                have hz := SlRead.of_own hown1
                have hdm := dmac_any (some ⟨G, 0, none⟩) (lst 32 mm) 32 AP82_2 (Tk ++ info ++ [bt]) cP82_2 P82_2 (hgS.below hHeld) (by simp) hz (by simp; omega)
                rw [lst_length, HF.out] at hdm
                refine held_call 9 13 #[.tmp 34, .tmp 42] #[33, 33] (some 43) #[.slice (some ⟨G, 0, none⟩) 32 32, .slice AP82_2 (Tk ++ info ++ [bt]).length cP82_2] _ (by kernel_rfl) (by kernel_rfl) (by kernel_rfl) (by kernel_rfl) (hdm) ?_
                rintro e Y84 ⟨rfl, hbY84⟩
                refine ⟨_, rfl, keepB hHeld hbY84, fun hHeld => ?_⟩
                have hD := hD.of_block ((hbY84).block _ hD.lt)
                have hz := hz.below hbY84
                obtain ⟨od, hd1, hd2, _⟩ := hD
                refine held_ready [11] (by kernel_rfl) (by simp) (rdy_storeR 11 31 (.tmp 14) (.tmp 43) (wr.drew.heap.size) (arr8 32 F) 31 od (by kernel_rfl) (by kernel_rfl) hd1 (by kernel_rfl) (by rw [hd2, arr8_size]) (arr8_one _ _) (below_setRow hHeld hRD (arr8 32 F)) ?_ AllReadyH.nil)
                intro hHeld
                have hfin := rowIs_arr (setRow_heap Y84 (wr.drew.heap.size) _ (arr8 32 F) _ _ hd1) (by simp) (fun i hi => arr8_get 32 F i hi)
                refine wpAnyH_done (by kernel_rfl) ?_ _
                refine NoPanic.normal ?_
                simp only [Act.put, List.setIfInBounds_toArray, List.set_cons_zero, List.set_cons_succ]
                exact ⟨trivial, _, _, _, _, _, _, _, _, _, _, rfl, (Below.drewNr (w := wr) 1).trans hHeld, hfin, hRD⟩
            · intro hHeld
              have hD := hD.of_block (((alc (wr.drew.alloc (.cells (Array.replicate 32 (.int .u8 0)) 31)) (.cells #[.int .u8 (n8 bt)] 5))).block _ hD.lt)
              have hs7 := SlRead.one_new (W := (wr.drew.alloc (.cells (Array.replicate 32 (.int .u8 0)) 31))) (.int .u8 (n8 bt)) 5
              have hby := bytes_any Al (bys Tk) cl ((wr.drew.alloc (.cells (Array.replicate 32 (.int .u8 0)) 31)).alloc (.cells #[.int .u8 (n8 bt)] 5)) (hslT.below hHeld) (by simp; omega)
              rw [bys_length] at hby
              have hRb := hHeld.size
              refine held_call 2 17 #[.tmp 35] #[33] (some 36) #[.slice Al Tk.length cl] _ (by kernel_rfl) (by kernel_rfl) (by kernel_rfl) (by kernel_rfl) (hby) ?_
              rintro e Y87 ⟨vY87, rfl, hown1, hbY87⟩
              refine ⟨_, rfl, keepB hHeld hbY87, fun hHeld => ?_⟩
              have hD := hD.of_block ((hbY87).block _ hD.lt)
              have hs7 := hs7.below hbY87
              have hbase := hbY87.size
              have hne : some ((wr.drew.alloc (.cells (Array.replicate 32 (.int .u8 0)) 31)).heap.size) ≠ vY87.ownBlock := fun e => by have h1 := (hown1.lt _ e.symm).1; first | omega | (simp at h1; omega)
              obtain ⟨vP87_1, P87_1, hrP87_1, hoP87_1, hb0P87_1, hgP87_1, hatP87_1⟩ := run_many 33 Y87 _ _ Tk C info cc hown1 (hCr.below hHeld) hbase (by first | omega | (simp; omega))
              have hbSP87_1 := hHeld.trans (hb0P87_1.mono hRb)
              have hlt7 := slread_lt hs7 (by simp)
              have hoffP87_1 := ownsRow_off hown1 hD (by decide)
              refine held_ready [4] (by kernel_rfl) (by simp) (rdy_app 4 (.tmp 36) (.tmp 37) 33 33 33 (some 38) (vY87) (.slice C info.length cc) (vP87_1) P87_1 (by kernel_rfl) (by kernel_rfl) (by kernel_rfl) (hrP87_1) (hbSP87_1) ?_ AllReadyH.nil)
              intro hHeld
              have hD := hD.of_block (hgP87_1.block _ hD.lt hoffP87_1)
              have hs7 := hs7.grownS hgP87_1 hne
              have hbase := Nat.le_trans hbase hgP87_1.size
              have hne : some ((wr.drew.alloc (.cells (Array.replicate 32 (.int .u8 0)) 31)).heap.size) ≠ vP87_1.ownBlock := by
                rcases hatP87_1 with h | h
                · rw [h]; exact hne
                · rw [h]; intro e; have h1 := Option.some.inj e; omega
              have hown1 := hoP87_1
              obtain ⟨vP88_2, P88_2, hrP88_2, hoP88_2, hb0P88_2, hgP88_2, hatP88_2⟩ := run_many 33 P87_1 _ _ (Tk ++ info) (some ⟨(wr.drew.alloc (.cells (Array.replicate 32 (.int .u8 0)) 31)).heap.size, 0, none⟩) [bt] 1 hown1 hs7 hbase (by first | omega | (simp; omega))
              have hbSP88_2 := hHeld.trans (hb0P88_2.mono hRb)
              obtain ⟨AP88_2, cP88_2, rfl, hcP88_2⟩ := ownsRow_form hoP88_2
              have hoffP88_2 := ownsRow_off hown1 hD (by decide)
              refine held_ready [8] (by kernel_rfl) (by simp) (rdy_app 8 (.tmp 38) (.tmp 41) 33 33 33 (some 42) (vP87_1) (.slice (some ⟨(wr.drew.alloc (.cells (Array.replicate 32 (.int .u8 0)) 31)).heap.size, 0, none⟩) 1 1) (.slice AP88_2 (Tk ++ info ++ [bt]).length cP88_2) P88_2 (by kernel_rfl) (by kernel_rfl) (by kernel_rfl) (hrP88_2) (hbSP88_2) ?_ AllReadyH.nil)
              intro hHeld
              have hD := hD.of_block (hgP88_2.block _ hD.lt hoffP88_2)
              have hown1 := hoP88_2
              have hz := SlRead.of_own hown1
              have hdm := dmac_any (some ⟨G, 0, none⟩) (lst 32 mm) 32 AP88_2 (Tk ++ info ++ [bt]) cP88_2 P88_2 (hgS.below hHeld) (by simp) hz (by simp; omega)
              rw [lst_length, HF.out] at hdm
              refine held_call 9 13 #[.tmp 34, .tmp 42] #[33, 33] (some 43) #[.slice (some ⟨G, 0, none⟩) 32 32, .slice AP88_2 (Tk ++ info ++ [bt]).length cP88_2] _ (by kernel_rfl) (by kernel_rfl) (by kernel_rfl) (by kernel_rfl) (hdm) ?_
              rintro e Y90 ⟨rfl, hbY90⟩
              refine ⟨_, rfl, keepB hHeld hbY90, fun hHeld => ?_⟩
              have hD := hD.of_block ((hbY90).block _ hD.lt)
              have hz := hz.below hbY90
              obtain ⟨od, hd1, hd2, _⟩ := hD
              refine held_ready [11] (by kernel_rfl) (by simp) (rdy_storeR 11 31 (.tmp 14) (.tmp 43) (wr.drew.heap.size) (arr8 32 F) 31 od (by kernel_rfl) (by kernel_rfl) hd1 (by kernel_rfl) (by rw [hd2, arr8_size]) (arr8_one _ _) (below_setRow hHeld hRD (arr8 32 F)) ?_ AllReadyH.nil)
              intro hHeld
              have hfin := rowIs_arr (setRow_heap Y90 (wr.drew.heap.size) _ (arr8 32 F) _ _ hd1) (by simp) (fun i hi => arr8_get 32 F i hi)
              refine wpAnyH_done (by kernel_rfl) ?_ _
              refine NoPanic.normal ?_
              simp only [Act.put, List.setIfInBounds_toArray, List.set_cons_zero, List.set_cons_succ]
              exact ⟨trivial, _, _, _, _, _, _, _, _, _, _, rfl, (Below.drewNr (w := wr) 1).trans hHeld, hfin, hRD⟩
        · rintro a' W5 ⟨v35, v36, v37, v38, v39, v40, v41, v42, v43, D, rfl, hb5, hD5, hRD⟩
          simp only [Act.put, List.setIfInBounds_toArray, List.set_cons_zero, List.set_cons_succ]
          have hb5' := hb.trans (hb5.mono hb.size)
          have own5 := ownsRow_via hown (fun g _ hl => hb5.block g hl)
          have hg5 := hg.of_block (hb5.block _ hg.lt)
          have hBs5 : BB ≤ W5.heap.size := Nat.le_trans hBs hb5.size
          have hslD := fun w' => sliceAt_arr (P := Tryd.prog) 32 Tryd.underlying31 (show (Tryd.prog.info? 5).map (·.size) = some 1 by kernel_rfl) D (by omega) w'
          have hby := bytes_any (some ⟨D, 0, none⟩) (bys (lst 32 F)) 32 W5 (slread_row hD5) (by simp)
          rw [bys_length, lst_length] at hby
          clear hb hown hg hBs hb5 hD5 hRD hslT hCr hgS hsl
          go_wp2_with fail
          refine hby.mono ?_
          rintro e W6 ⟨v6, rfl, hown6, hb6⟩
          obtain ⟨A6, c6, rfl, hc6⟩ := ownsRow_form hown6
          have hs6 := SlRead.of_own hown6
          have own6 := ownsRow_via own5 (fun g _ hl => hb6.block g hl)
          have hg6 := hg5.of_block (hb6.block _ hg5.lt)
          have hb6' := hb5'.trans (hb6.mono hb5'.size)
          have hBs6 : BB ≤ W6.heap.size := Nat.le_trans hBs5 hb6.size
          have hne : (Value.slice A6 32 c6).ownBlock = none ∨ (Value.slice A6 32 c6).ownBlock ≠ (Value.slice Av (hkOut (lst 32 mm) info k).length cv).ownBlock := by
            cases h : (Value.slice A6 32 c6).ownBlock with
            | none => exact .inl rfl
            | some j =>
              right
              intro e
              have h1 := (hown6.lt j h).1
              have h2 := (own5.lt j e.symm).2
              omega
          clear hby hb5' own5 hg5 hBs5 hb6 hslD
          go_wp2_with (at_builtin; refine push_many rfl _ _ rfl W6 BB (.slice Av (hkOut (lst 32 mm) info k).length cv) (hkOut (lst 32 mm) info k) A6 (lst 32 F) c6 rfl rfl own6 hs6 hBs6 (by have := HOL.out; simp; omega) ?_; intro v7 W7 hown7 hbb7 hgr7 hat7)
          have hs7 := SlRead.of_own (hown6.kept hgr7 hne)
          have hg7 := hg6.of_block (hbb7.block _ (by omega))
          have hb7 := hb6'.trans (hbb7.mono (by omega))
          have hBs7 : BB ≤ W7.heap.size := Nat.le_trans hBs6 hbb7.size
          clear hown6 hs6 own6 hg6 hb6' hBs6 hbb7 hgr7 hat7 hne
          go_wp2_with fail
          go_roundw
          case rel => exact ⟨k + 1, A6, c6, by omega, by go_num, by rw [HOK.out, HTK.out]; exact hown7, by rw [HTK.out, lst_length], by rw [HTK.out]; exact hs7, hb7, hg7, hBs7⟩
          case measure =>
            obtain ⟨Av2, cv2, rfl, _⟩ := ownsRow_form hown7
            have := HOL.out
            simp only [List.length_append, lst_length]
            omega
      · have hlt0 : decide (((hkOut (lst 32 mm) info k).length : Int) < (n : Int)) = false := by simp; omega
        have hk2 : (n + 31) / 32 = k := by omega
        have hncv : n ≤ cv := by
          rcases Nat.eq_zero_or_pos (hkOut (lst 32 mm) info k).length with h | h
          · omega
          · have := hcv h; omega
        have hfin : SlRead wr Av (ints .u8 (bys (hkdf salt key info n))) := by
          unfold hkdf
          rw [hk2, HSEC.out, ← bys_take]
          exact (SlRead.of_own hown).take n
        have hslm : ∀ w, (Instr.slice 33 (.slice Av (hkOut (lst 32 mm) info k).length cv) none (some (.int .i64 (n : Int))) none).run Tryd.prog w = .ok (.slice Av n cv) w := fun w' => by
          have := sliceAt_h (P := Tryd.prog) Tryd.underlying33 (show (Tryd.prog.info? 5).map (·.size) = some 1 by kernel_rfl) Av (hkOut (lst 32 mm) info k).length cv n hncv w'
          rwa [run_sliceAt_slice (h := by rw [show Tryd.prog.elem 33 = 5 by simp [Program.elem, Tryd.underlying33]]; exact Tryd.underlying33)] at this
        clear hown hsl hg hk2
        go_wp2_with fail
        refine bodyPost_ret (results_tmp2 rfl _ _ _) rfl ?_
        exact ⟨Av, cv, rfl, hfin, hb⟩
end Go.Proofs.YtccchhfcoicgcaaDoor
