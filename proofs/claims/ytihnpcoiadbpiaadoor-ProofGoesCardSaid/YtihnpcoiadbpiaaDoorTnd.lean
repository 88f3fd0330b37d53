import Derived.Test.YtihnpcoiadbpiaaDoorTsp
import Derived.Test.YtihnpcoiadbpiaaDoorApp
import Derived.Test.YtihnpcoiadbpiaaDoorRsm
import Derived.Test.YtihnpcoiadbpiaaDoorShl
namespace Go.Proofs.YtihnpcoiadbpiaaDoor
open Go.RowKit

theorem owes_bslx {P : Program} {ops : Array Oper} {l : List Sp} {a : Act} {w : World} (i : Nat) (dst : Option Tmp) (anc : List Nat) (says : Value → World → Prop) (t e : TypeId) (n : Nat) (ps : Array (Nat × Operand)) (hop : ∀ v, ops[i]?.map (fun o => (o.op, Region.wanted o (yielded ops (fr l anc a v).tmps))) = some (.buildSlice t n ps, true))
    (hm : ∀ y w1 w2, says y w1 → Cells w1 w2 → says y w2)
    (h : ∀ v w', Below w.heap.size w w' → Opens l anc v w' → ∃ vs cs, (ps.map fun x => (x.1, (fr l anc a v).eval x.2)) = vs ∧ (∀ w : World, (Instr.buildSlice t n vs).run P w = .ok (.slice (some ⟨w.heap.size, 0, none⟩) n n) (w.alloc (.cells cs e))) ∧ says (.slice (some ⟨w'.heap.size, 0, none⟩) n n) (w'.alloc (.cells cs e))) : Owes P ops l a w (Sp.o i dst anc says) :=
  owes_pure_o i dst anc says _ hop hm fun v w' hb ho => by
    obtain ⟨vs, cs, h1, h2, h3⟩ := h v w' hb ho
    exact ⟨_, _, fun o hop => by
      unfold execOp
      simp only [hop, h1, Sem.run_bind, h2 w']
      rfl, (Below.refl _ _).alloc hb.size _, .of_below ((Below.refl _ _).alloc (Nat.le_refl _) _), h3⟩
/-- a slice of slices, the first of them one new byte -/
def Pcs (z : BitVec 8) (rest : List Value) (n : Nat) (v : Value) (w : World) : Prop := ∃ g g0, v = .slice (some ⟨g, 0, none⟩) n n ∧ SlRead w (some ⟨g, 0, none⟩) (.slice (some ⟨g0, 0, none⟩) 1 1 :: rest) ∧ SlRead w (some ⟨g0, 0, none⟩) [.int .u8 (n8 z)]
theorem Pcs.mono {z : BitVec 8} {rest : List Value} {n : Nat} : ∀ y w1 w2, Pcs z rest n y w1 → Cells w1 w2 → Pcs z rest n y w2 := by
  rintro y w1 w2 ⟨g, g0, h1, h2, h3⟩ hb
  exact ⟨g, g0, h1, h2.cells hb, h3.cells hb⟩

def nodeOf (l r : Nat → BitVec 8) : Nat → BitVec 8 := shaOf (1#8 :: (lst 32 l ++ lst 32 r))
set_option maxRecDepth 100000 in
set_option maxHeartbeats 800000 in
theorem node_any (l r : Nat → BitVec 8) (w : World) (hk : KAt w) :
    Calls Tryd.prog 28 #[.agg (arr8 32 l), .agg (arr8 32 r)] w fun e w' => e = .returned (.agg (arr8 32 (nodeOf l r))) ∧ Below w.heap.size w w' := by
  go_enter Tryd.func28, Tryd.ntmps28
  go_upto_region 1 with (fail)
  refine wp_world (fun W => Below w.heap.size w W ∧ W.rowIs w.heap.size 24 32 (fun i => v8 (l i)) ∧ W.rowIs (w.heap.size + 1) 24 32 (fun i => v8 (r i)) ∧ W.rowIs (w.heap.size + 2) 24 32 (fun _ => .int .u8 0)) ?_ ?_
  · refine ⟨by go_grown, ?_, ?_, ?_⟩
    · exact ((rowIs_new w (arr8 32 l) 24 w.heap.size 32 _ rfl (by simp) (fun i hi => arr8_get 32 l i hi)).alloc _).alloc _
    · exact (rowIs_new (w.alloc _) (arr8 32 r) 24 (w.heap.size + 1) 32 _ (by simp) (by simp) (fun i hi => arr8_get 32 r i hi)).alloc _
    · exact rowIs_new ((w.alloc _).alloc _) (Array.replicate 32 (.int .u8 0)) 24 (w.heap.size + 2) 32 (fun _ => .int .u8 0) (by simp) (by simp) (fun i hi => by simp [hi])
  rintro W ⟨hb, hc, hd, hx⟩
  have hkW : KAt W.drew := (hk.below hb).of_block rfl
  clear hk
  generalize hB : w.heap.size = B at *
  have HB := Lib.hid hB; clear hB
  have hcS : SlRead W.drew (some ⟨B, 0, none⟩) (ints .u8 (bys (lst 32 l))) := slread_row hc
  have hdS : SlRead W.drew (some ⟨B + 1, 0, none⟩) (ints .u8 (bys (lst 32 r))) := slread_row hd
  have HS : ∀ w', Below W.drew.heap.size W.drew w' → ∀ g g0, SlRead w' (some ⟨g, 0, none⟩) [.slice (some ⟨g0, 0, none⟩) 1 1, .slice (some ⟨B, 0, none⟩) 32 32, .slice (some ⟨B + 1, 0, none⟩) 32 32] → SlRead w' (some ⟨g0, 0, none⟩) [.int .u8 (n8 1#8)] →
      Calls Tryd.prog 32 #[.slice (some ⟨g, 0, none⟩) 3 3] w' fun e w'' => e = .returned (.agg (arr8 32 (nodeOf l r))) ∧ Below w'.heap.size w' w'' := by
    intro w' hb g g0 h1 h2
    have h := suml_any (some ⟨g, 0, none⟩) [(some ⟨g0, 0, none⟩, [1#8], 1), (some ⟨B, 0, none⟩, lst 32 l, 32), (some ⟨B + 1, 0, none⟩, lst 32 r, 32)] 3 w' (by simpa [slv] using h1) (by
      intro a ha
      simp at ha
      rcases ha with rfl | rfl | rfl
      · exact ⟨h2, by simp, by simp⟩
      · exact ⟨hcS.below hb, by simp, by simp⟩
      · exact ⟨hdS.below hb, by simp, by simp⟩) (by simp) (hkW.below hb)
    rwa [show flat [(some ⟨g0, 0, none⟩, [1#8], 1), (some ⟨B, 0, none⟩, lst 32 l, 32), (some ⟨B + 1, 0, none⟩, lst 32 r, 32)] = 1#8 :: (lst 32 l ++ lst 32 r) by simp [flat]] at h
  generalize hF : nodeOf l r = F at *
  have HF := Lib.hid hF; clear hF
  refine wp_region_spec_tail 5 [Sp.o 0 (some 5) [] (SlV [.int .u8 (n8 1#8)] 1),
    Sp.k 1 (some 6) [] (.slice (some ⟨B, 0, none⟩) 32 32),
    Sp.k 2 (some 7) [] (.slice (some ⟨B + 1, 0, none⟩) 32 32),
    Sp.o 3 (some 8) [0, 1, 2] (Pcs 1#8 [.slice (some ⟨B, 0, none⟩) 32 32, .slice (some ⟨B + 1, 0, none⟩) 32 32] 3),
    Sp.k 4 (some 9) [3] (.agg (arr8 32 F))] (by kernel_rfl) (by kernel_rfl)
    ⟨owes_bsl 0 (some 5) [] (SlV [.int .u8 (n8 1#8)] 1) 70 5 1 #[(0, Go.Operand.const (Go.Value.int Go.IntKind.u8 1))] (#[(0, Go.Value.int Go.IntKind.u8 1)]) (#[Go.Value.int Go.IntKind.u8 1]) (fun v => by kernel_rfl) (fun v => by kernel_rfl) (fun w => by kernel_rfl) SlV.mono (fun w' hb => ⟨_, rfl, SlRead.new_row _ _ _ rfl⟩),
    owes_slice 1 (some 6) [] (.slice (some ⟨B, 0, none⟩) 32 32) 24 (Go.Operand.tmp 2) none none none (.pointer (some ⟨B, 0, none⟩)) none none none (fun v => by kernel_rfl) (fun v => by kernel_rfl) (sliceAt_arr (P := Tryd.prog) 32 Tryd.underlying24 (show (Tryd.prog.info? 5).map (·.size) = some 1 by kernel_rfl) (B) (by omega)),
    owes_slice 2 (some 7) [] (.slice (some ⟨B + 1, 0, none⟩) 32 32) 24 (Go.Operand.tmp 3) none none none (.pointer (some ⟨B + 1, 0, none⟩)) none none none (fun v => by kernel_rfl) (fun v => by kernel_rfl) (sliceAt_arr (P := Tryd.prog) 32 Tryd.underlying24 (show (Tryd.prog.info? 5).map (·.size) = some 1 by kernel_rfl) (B + 1) (by omega)),
    owes_bslx 3 (some 8) [0, 1, 2] (Pcs 1#8 [.slice (some ⟨B, 0, none⟩) 32 32, .slice (some ⟨B + 1, 0, none⟩) 32 32] 3) 78 70 3 #[(0, Go.Operand.tmp 5), (1, Go.Operand.tmp 6), (2, Go.Operand.tmp 7)] (fun v => by kernel_rfl) Pcs.mono (fun v w' hb ho => by
        obtain ⟨g0, e0, r0⟩ := ho.get 0 _ _ (SlV [.int .u8 (n8 1#8)] 1) rfl rfl
        exact ⟨#[(0, .slice (some ⟨g0, 0, none⟩) 1 1), (1, .slice (some ⟨B, 0, none⟩) 32 32), (2, .slice (some ⟨B + 1, 0, none⟩) 32 32)], #[.slice (some ⟨g0, 0, none⟩) 1 1, .slice (some ⟨B, 0, none⟩) 32 32, .slice (some ⟨B + 1, 0, none⟩) 32 32], Eq.trans (b := #[(0, v 0), (1, .slice (some ⟨B, 0, none⟩) 32 32), (2, .slice (some ⟨B + 1, 0, none⟩) 32 32)]) (by kernel_rfl) (by rw [e0]), fun w => by kernel_rfl, _, g0, rfl, SlRead.new_row _ _ _ rfl, r0.below ((Below.refl _ _).alloc (Nat.le_refl _) _)⟩),
    owes_call 4 (some 9) [3] (.agg (arr8 32 F)) 32 #[Go.Operand.tmp 8] #[78] (fun v => by kernel_rfl) (fun _ _ => by kernel_rfl) (fun v w' hb ho => by
        obtain ⟨g3, q3, e3, r3, t3⟩ := ho.get 3 _ _ (Pcs 1#8 [.slice (some ⟨B, 0, none⟩) 32 32, .slice (some ⟨B + 1, 0, none⟩) 32 32] 3) rfl rfl
        exact ⟨#[.slice (some ⟨g3, 0, none⟩) 3 3], Eq.trans (b := #[v 3]) (by kernel_rfl) (by rw [e3]), (HS w' hb _ _ r3 t3).mono (fun _ _ h => h)⟩), trivial⟩ ?_
  intro v w' hb' hall
  clear hall HS hcS hdS
  have hbb : Below B w w' := hb.trans ((Below.drewNr (w := W) 1).trans (hb'.mono (show B ≤ W.heap.size by have := hc.lt; omega)))
  simp only [putsK_k, putsK_o, putsK_nil, Act.put, List.setIfInBounds_toArray, List.set_cons_zero, List.set_cons_succ]
  simp only [List.drop_succ_cons, List.drop_zero]
  have hx2 := hx.of_block (hb'.block _ hx.lt)
  obtain ⟨ox, hx3, hx4, _⟩ := hx2
  have hbs := below_setRow (g := B + 2) hbb (by omega) (arr8 32 F)
  clear hbb hb'
  refine wpList_store_row rfl 24 _ _ rfl (B + 2) (arr8 32 F) rfl rfl _ _ hx3 (by kernel_rfl) (by simpa using hx4) (arr8_one _ _) ?_
  go_wp2_with fail
  refine bodyPost_ret (results_cell_row rfl _ _ _ _ _ _ _ rfl (setRow_heap _ _ _ _ _ _ hx3) Tryd.underlying24 rfl (by kernel_rfl)) rfl ?_
  rw [HB.out, HF.out]
  exact ⟨rfl, hbs⟩

set_option maxRecDepth 100000 in
set_option maxHeartbeats 800000 in
theorem dnode_any (l r : Nat → BitVec 8) (w : World) :
    Calls Tryd.prog 29 #[.agg (arr8 32 l), .agg (arr8 32 r)] w fun e w' => e = .returned (.agg (arr8 32 (nodeOf l r))) ∧ Below w.heap.size w w' := by
  go_enter Tryd.func29, Tryd.ntmps29
  go_upto_region 1 with (fail)
  refine wp_world (fun W => Below w.heap.size w W ∧ W.rowIs w.heap.size 24 32 (fun i => v8 (l i)) ∧ W.rowIs (w.heap.size + 1) 24 32 (fun i => v8 (r i)) ∧ W.rowIs (w.heap.size + 2) 24 32 (fun _ => .int .u8 0)) ?_ ?_
  · refine ⟨by go_grown, ?_, ?_, ?_⟩
    · exact ((rowIs_new w (arr8 32 l) 24 w.heap.size 32 _ rfl (by simp) (fun i hi => arr8_get 32 l i hi)).alloc _).alloc _
    · exact (rowIs_new (w.alloc _) (arr8 32 r) 24 (w.heap.size + 1) 32 _ (by simp) (by simp) (fun i hi => arr8_get 32 r i hi)).alloc _
    · exact rowIs_new ((w.alloc _).alloc _) (Array.replicate 32 (.int .u8 0)) 24 (w.heap.size + 2) 32 (fun _ => .int .u8 0) (by simp) (by simp) (fun i hi => by simp [hi])
  rintro W ⟨hb, hc, hd, hx⟩
  generalize hB : w.heap.size = B at *
  have HB := Lib.hid hB; clear hB
  have hcS : SlRead W.drew (some ⟨B, 0, none⟩) (ints .u8 (bys (lst 32 l))) := slread_row hc
  have hdS : SlRead W.drew (some ⟨B + 1, 0, none⟩) (ints .u8 (bys (lst 32 r))) := slread_row hd
  have hsl := fun b w' => sliceAt_arr (P := Tryd.prog) 32 Tryd.underlying24 (show (Tryd.prog.info? 5).map (·.size) = some 1 by kernel_rfl) b (by omega) w'
  have alc : ∀ (W : World) (o : Obj), Below W.heap.size W (W.alloc o) := fun W o => (Below.refl _ _).alloc (Nat.le_refl _) _
  have hWz : W.drew.heap.size = W.heap.size := rfl
  have HWZ := Lib.hid hWz; clear hWz
  have hBW : B + 2 < W.drew.heap.size := hx.lt
  have hxd : W.drew.rowIs (B + 2) 24 32 (fun _ => .int .u8 0) := hx
  have hbd : Below B w W.drew := hb.trans (Below.drewNr (w := W) 1)
  clear hb hc hd hx
  generalize hF : nodeOf l r = F at *
  have HF := Lib.hid hF; clear hF
  refine wp_region_noPanic ?_
  refine wp_region_held_drew (S := fun W' => Below B w W') (by kernel_rfl) hbd (fun hHeld => ?_)
  generalize W.drew = WD at *
  refine held_slice 1 24 (.tmp 2) none none none (some 6) (.pointer (some ⟨B, 0, none⟩)) none none none (.slice (some ⟨B, 0, none⟩) 32 32) (by kernel_rfl) (by kernel_rfl) (hsl B) (by kernel_rfl) (by kernel_rfl) (by kernel_rfl) (fun _ _ _ _ _ h => h) hHeld ?_
  refine held_slice 3 24 (.tmp 3) none none none (some 8) (.pointer (some ⟨B + 1, 0, none⟩)) none none none (.slice (some ⟨B + 1, 0, none⟩) 32 32) (by kernel_rfl) (by kernel_rfl) (hsl (B + 1)) (by kernel_rfl) (by kernel_rfl) (by kernel_rfl) (fun _ _ _ _ _ h => h) hHeld ?_
  refine held_ready [0] (by kernel_rfl) (by simp) (rdy_bsl 0 70 5 (.const (.int .u8 1)) (some 5) (.int .u8 1) (by kernel_rfl) (by kernel_rfl) (bsl_u8 _ _) (hHeld.trans ((alc _ _).mono (by omega))) ?_ AllReadyH.nil)
  intro _
  have hE := alc WD (.cells #[.int .u8 1] 5)
  have hown : (WD.alloc (.cells #[.int .u8 1] 5)).ownsRow WD.heap.size 5 1 (.slice (some ⟨WD.heap.size, 0, none⟩) 1 1) [1#8].length (ints .u8 (bys [1#8])) :=
    ⟨rfl, .inr ⟨WD.heap.size, 1, #[.int .u8 1], rfl, Nat.le_refl _, heap_alloc_new _ _, by decide, by decide, rfl, rfl⟩⟩
  obtain ⟨v2, W2, hr2, ho2, hb2, _, _⟩ := run_many 70 (WD.alloc (.cells #[.int .u8 1] 5)) WD.heap.size _ [1#8] (some ⟨B, 0, none⟩) (lst 32 l) 32 hown (hcS.below hE) (by simp) (by simp)
  have hS2 : Below WD.heap.size WD W2 := hE.trans hb2
  have hT2 : Below B w W2 := hbd.trans (hS2.mono (by omega))
  rw [lst_length] at hr2
  refine held_ready [2] (by kernel_rfl) (by simp) (rdy_app 2 (.tmp 5) (.tmp 6) 70 70 70 (some 7) _ _ v2 W2 (by kernel_rfl) (by kernel_rfl) (by kernel_rfl) hr2 hT2 ?_ AllReadyH.nil)
  intro hHeld2
  obtain ⟨v4, W4, hr4, ho4, hb4, _, _⟩ := run_many 70 W2 WD.heap.size v2 ([1#8] ++ lst 32 l) (some ⟨B + 1, 0, none⟩) (lst 32 r) 32 ho2 (hdS.below hS2) hS2.size (by simp)
  have hS4 : Below WD.heap.size WD W4 := hS2.trans hb4
  have hT4 : Below B w W4 := hbd.trans (hS4.mono (by omega))
  rw [lst_length] at hr4
  refine held_ready [4] (by kernel_rfl) (by simp) (rdy_app 4 (.tmp 7) (.tmp 8) 70 70 70 (some 9) _ _ v4 W4 (by kernel_rfl) (by kernel_rfl) (by kernel_rfl) hr4 hT4 ?_ AllReadyH.nil)
  intro hHeld4
  obtain ⟨A4, c4, rfl, hc4⟩ := ownsRow_form ho4
  have hr := SlRead.of_own ho4
  have hds := dsum_any A4 ([1#8] ++ lst 32 l ++ lst 32 r) c4 W4 hr (by simp)
  rw [show shaOf ([1#8] ++ lst 32 l ++ lst 32 r) = F by rw [← HF.out]; rfl] at hds
  refine held_call 5 30 #[.tmp 9] #[70] (some 10) _ _ (by kernel_rfl) (by kernel_rfl) (by kernel_rfl) (by kernel_rfl) hds ?_
  rintro e W5 ⟨rfl, hb5⟩
  have hS5 : Below WD.heap.size WD W5 := hS4.trans (hb5.mono hS4.size)
  have hT5 : Below B w W5 := hbd.trans (hS5.mono (by omega))
  refine ⟨_, rfl, hT5, fun hHeld5 => ?_⟩
  obtain ⟨ox, hx3, hx4, _⟩ := hxd.of_block (hS5.block _ hxd.lt)
  have hS6 : Below B w (W5.setRow (B + 2) (arr8 32 F)) := below_setRow (hbd.trans (hS5.mono (by omega))) (by omega) _
  refine held_ready [6] (by kernel_rfl) (by simp) (rdy_storeR 6 24 (.tmp 4) (.tmp 10) (B + 2) (arr8 32 F) 24 ox (by kernel_rfl) (by kernel_rfl) hx3 (by kernel_rfl) (by rw [hx4, arr8_size]) (arr8_one _ _) hS6 ?_ AllReadyH.nil)
  intro _
  refine wpAnyH_done (by kernel_rfl) ?_ _
  refine NoPanic.normal ?_
  simp only [Act.put, List.setIfInBounds_toArray, List.set_cons_zero, List.set_cons_succ]
  go_wp2_with fail
  refine bodyPost_ret (results_cell_row rfl _ _ _ _ _ _ _ rfl (setRow_heap _ _ _ _ _ _ hx3) Tryd.underlying24 rfl (by kernel_rfl)) rfl ?_
  rw [HB.out, HF.out]
  exact ⟨rfl, hS6⟩
end Go.Proofs.YtihnpcoiadbpiaaDoor
