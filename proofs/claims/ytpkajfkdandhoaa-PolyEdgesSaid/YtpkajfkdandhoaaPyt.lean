import Derived.Test.YtpkajfkdandhoaaPyc
/-
  poly's product of limbs, and the least number, in memory.
-/
namespace Go.Proofs.Ytpkajfkdandhoaa
open Go.RowKit

/-- two boxes, the result's cell, the sums, and the rest -/
structure P4 (w : World) (B : Nat) (f g o : Nat → Nat) (W : World) : Prop where
  x : L5 W B f
  y : L5 W (B + 1) g
  r : W.rowIs (B + 1 + 1) 39 5 (fun _ => .int .u64 0)
  o : L5 W (B + 1 + 1 + 1) o
  b : Below B w W
theorem P4.put {w : World} {B : Nat} {f g o : Nat → Nat} {W : World} (h : P4 w B f g o W) (i x : Nat) : P4 w B f g (updN o i x) (W.setCell ⟨B + 1 + 1 + 1, i, none⟩ (.int .u64 (n64 x))) :=
  ⟨h.x.setOther (a := ⟨B + 1 + 1 + 1, i, none⟩) (by simp only; omega) _, h.y.setOther (a := ⟨B + 1 + 1 + 1, i, none⟩) (by simp only; omega) _, h.r.setOther (a := ⟨B + 1 + 1 + 1, i, none⟩) (by simp only; omega) _, L5.put h.o i x, h.b.setCell (by simp only; omega) _⟩
theorem mix_lt (k : Nat) (h : k < 25) : mix k < 5 := by unfold mix; split <;> omega

set_option maxRecDepth 100000 in
set_option maxHeartbeats 1600000 in
theorem times_any (f g : Nat → Nat) (w : World) (hf : ∀ i, i < 5 → f i < 268435456) (hg : ∀ i, i < 5 → g i < 134217728) :
    Calls Try.prog 17 #[.agg (arrN .u64 5 f), .agg (arrN .u64 5 g)] w fun e w' => e = .returned (.agg (arrN .u64 5 (carried (mulTo f g 25)))) ∧ Below w.heap.size w w' := by
  have hX : ∀ i j, i < 5 → j < 5 → f i * g j ≤ 36028797018963968 := fun i j hi hj => by
    have := Nat.mul_le_mul (Nat.le_of_lt (hf i hi)) (Nat.le_of_lt (hg j hj)); omega
  have HL := Lib.hid (fun k (hk : k ≤ 25) t => mulTo_le f g _ hX k hk t)
  have HM := Lib.hid (fun k (hk : k < 25) => mterm_le f g _ hX k hk)
  have HF := Lib.hid hf; have HG := Lib.hid hg; clear hf hg hX
  go_enter Try.func17, Try.ntmps17
  go_upto_region 2 with (fail)
  refine wp_world (P4 w w.heap.size f g (mulTo f g 0)) ?_ ?_
  · refine ⟨?_, ?_, ?_, ?_, ?_⟩
    · exact (((rowIs_new _ _ _ _ _ _ (by simp) (by simp) (fun i hi => arrN_get .u64 5 f i hi)).alloc _).alloc _).alloc _
    · exact ((rowIs_new _ _ _ _ _ _ (by simp) (by simp) (fun i hi => arrN_get .u64 5 g i hi)).alloc _).alloc _
    · exact (rowIs_new _ _ _ _ _ _ (by simp) (by rfl) zero5).alloc _
    · exact rowIs_new _ _ _ _ _ _ (by simp) (by rfl) zero5
    · go_grown
  intro W0 H0
  generalize hB : w.heap.size = B at H0 ⊢
  have HB := Lib.hid hB; clear hB
  have hx := rowIs_heapN H0.x
  generalize hzf : arrN .u64 5 f = zf at *
  have hzf1 : zf.size = 5 := by rw [← hzf]; simp
  have HZF := Lib.hid (fun i (hi : i < 5) => (by rw [← hzf]; exact arrN_get .u64 5 f i hi : zf[i]? = some (.int .u64 (n64 (f i)))))
  clear hzf
  go_wp2_with (refine wpList_load_row rfl 39 _ rfl _ rfl _ _ _ _ hx Try.underlying39 rfl (by rw [hzf1]; kernel_rfl) ?_)
  clear hx
  go_loopw [11] (fun i wr => ∃ k : Nat, k ≤ 5 ∧ i = .int .i64 k ∧ P4 w B f g (mulTo f g (5 * k)) wr) (fun i _ => 5 - (intOf i).toNat)
  case atStart => exact ⟨0, by omega, rfl, H0⟩
  clear H0
  case round =>
    obtain ⟨k, hk, rfl, hs⟩ := hrel
    by_cases hlt : k < 5
    · have hix := index_arr (P := Try.prog) Try.underlying39 (show Try.prog.underlying 37 = some (.int .u64) by kernel_rfl) (show (Try.prog.info? 37).map (·.size) = some 1 by kernel_rfl) zf k hlt _ (HZF.out k hlt)
      have hy := rowIs_heapN hs.y
      generalize hzg : arrN .u64 5 g = zg at *
      have HZG := Lib.hid (fun i (hi : i < 5) => (by rw [← hzg]; exact arrN_get .u64 5 g i hi : zg[i]? = some (.int .u64 (n64 (g i)))))
      have hzg1 : zg.size = 5 := by rw [← hzg]; simp
      clear hzg
      go_wp2_with (refine wpList_load_row rfl 39 _ rfl _ rfl _ _ _ _ hy Try.underlying39 rfl (by rw [hzg1]; kernel_rfl) ?_)
      clear hy hix
      go_loopw [16] (fun i wr => ∃ q : Nat, q ≤ 5 ∧ i = .int .i64 q ∧ P4 w B f g (mulTo f g (5 * k + q)) wr) (fun i _ => 5 - (intOf i).toNat)
      case atStart => exact ⟨0, by omega, rfl, hs⟩
      clear hs
      case round =>
        obtain ⟨q, hq, rfl, hs⟩ := hrel
        by_cases hlt2 : q < 5
        · have hiy := index_arr (P := Try.prog) Try.underlying39 (show Try.prog.underlying 37 = some (.int .u64) by kernel_rfl) (show (Try.prog.info? 37).map (·.size) = some 1 by kernel_rfl) zg q hlt2 _ (HZG.out q hlt2)
          have hm5 := mix_lt (5 * k + q) (by omega)
          have cx := hs.o.cell (i := mix (5 * k + q)) hm5
          have fx := hs.o.frozen (mix (5 * k + q))
          have b1 := HL.out (5 * k + q) (by omega) (mix (5 * k + q))
          have b2 := HM.out (5 * k + q) (by omega)
          have E := Lib.hid (mulTo_succ f g (5 * k + q))
          have ed : (5 * k + q) / 5 = k := by omega
          have er : (5 * k + q) % 5 = q := by omega
          have bb : (5 * k + q) * (5 * 36028797018963968) ≤ 25 * (5 * 36028797018963968) := Nat.mul_le_mul_right _ (by omega)
          generalize hx : mulTo f g (5 * k + q) (mix (5 * k + q)) = x at *
          generalize hG : mulTo f g (5 * k + q) = G at *
          have bx := Nat.le_trans b1 bb
          clear bb b1
          have HS := Lib.hid (hs.put (mix (5 * k + q)) (x + mterm f g (5 * k + q)))
          by_cases hsum : k + q < 5
          · have e1 : mix (5 * k + q) = k + q := by unfold mix; rw [ed, er, if_pos hsum]
            have e2 : mterm f g (5 * k + q) = f k * g q := by unfold mterm; rw [ed, er, if_pos hsum]
            rw [e1] at cx fx HS E hm5
            rw [e2] at HS E b2
            have h0 := w64_mul (f k) (g q) (by omega)
            have h1 := w64_add x (f k * g q) (by omega)
            have hd : decide ((k : Int) + (q : Int) < 5) = true := by simp; omega
            clear hs hx hG e1 e2 ed er b2 bx
            go_wp2_with fail
            go_roundw
            case rel => exact ⟨q + 1, by omega, by go_num, by rw [show 5 * k + (q + 1) = 5 * k + q + 1 by omega, E.out]; exact HS.out⟩
            case measure => simp [intOf]; omega
          · have e1 : mix (5 * k + q) = k + q - 5 := by unfold mix; rw [ed, er, if_neg hsum]
            have e2 : mterm f g (5 * k + q) = 5 * f k * g q := by unfold mterm; rw [ed, er, if_neg hsum]
            rw [e1] at cx fx HS E hm5
            rw [e2] at HS E b2
            have bf := HF.out k hlt
            have h00 : IntKind.u64.wrap (5 * n64 (f k)) = n64 (5 * f k) := w64_mul 5 (f k) (by omega)
            have h0 := w64_mul (5 * f k) (g q) (by omega)
            have h1 := w64_add x (5 * f k * g q) (by omega)
            have hd : decide ((k : Int) + (q : Int) < 5) = false := by simp; omega
            clear hs hx hG e1 e2 ed er b2 bx bf
            go_wp2_with fail
            go_roundw
            case rel => exact ⟨q + 1, by omega, by go_num, by rw [show 5 * k + (q + 1) = 5 * k + q + 1 by omega, E.out]; exact HS.out⟩
            case measure => simp [intOf]; omega
        · have hk8 : q = 5 := by omega
          rw [hk8] at hs ⊢
          clear hk8
          go_wp2_with fail
          go_roundw
          case rel => exact ⟨k + 1, by omega, by go_num, hs⟩
          case measure => simp [intOf]; omega
    · have hk8 : k = 5 := by omega
      rw [hk8] at hs ⊢
      clear hk8
      have hh := rowIs_heapN hs.o
      obtain ⟨old, hr1, hr2, _⟩ := hs.r
      have hbd := HL.out 25 (by omega)
      have hcall : Hid (∀ W, Calls Try.prog 23 #[.agg (arrN .u64 5 (mulTo f g 25))] W fun e w' => e = .returned (.agg (arrN .u64 5 (carried (mulTo f g 25)))) ∧ Below W.heap.size W w') := Lib.hid (fun W => carried_any (mulTo f g 25) W (fun i _ => by have := hbd i; omega))
      clear hbd
      generalize hz0 : arrN .u64 5 (mulTo f g (5 * 5)) = z0 at *
      have hz00 : z0.size = 5 := by rw [← hz0]; simp
      clear hz0
      generalize hz : arrN .u64 5 (carried (mulTo f g 25)) = z at *
      have hz1 : z.size = 5 := by rw [← hz]; simp
      have hz2 : z.all (·.oneCell') = true := by rw [← hz]; exact arrN_one _ _ _
      have hlt1 : B + 1 + 1 < wr.heap.size := by
        rcases Nat.lt_or_ge (B + 1 + 1) wr.heap.size with hl | hl
        · exact hl
        · rw [Array.getElem?_eq_none hl] at hr1; cases hr1
      have hsb := hs.b
      have HZ := Lib.hid hz
      clear hs hz
      go_wp2_with (refine wpList_load_row rfl 39 _ rfl _ rfl _ _ _ _ hh Try.underlying39 rfl (by rw [hz00]; kernel_rfl) ?_)
      refine (hcall.out _).mono ?_
      rintro e w1 ⟨rfl, hb1⟩
      have hr1' : w1.heap[B + 1 + 1]? = some (.cells old 39 (0, 0)) := (hb1.block _ hlt1).trans hr1
      have hb2 : Below B w w1 := hsb.trans (hb1.mono (by omega))
      have hb := below_setRow (g := B + 1 + 1) hb2 (by omega) z
      have hres : (w1.setRow (B + 1 + 1) z).heap[B + 1 + 1]? = some (.cells z 39 (0, 0)) := setRow_heap _ _ _ _ _ _ hr1'
      clear hr1 hh hb1 hb2 hsb hcall
      go_wp2_with (refine wpList_store_row rfl 39 _ _ rfl _ _ rfl rfl _ _ hr1' (by rw [hz1]; kernel_rfl) (by rw [hz1]; exact hr2) hz2 ?_)
      refine bodyPost_ret (results_cell_row rfl _ _ _ _ _ _ _ rfl hres Try.underlying39 rfl (by rw [hz1]; kernel_rfl)) rfl ?_
      rw [HB.out, HZ.out]
      exact ⟨rfl, hb⟩

/-- a box, the result's cell, the sums, and the rest -/
structure P5 (w : World) (B : Nat) (f o : Nat → Nat) (D : Nat) (W : World) : Prop where
  x : L5 W B f
  r : W.rowIs (B + 1) 39 5 (fun _ => .int .u64 0)
  h : B + 1 < D
  o : L5 W D o
  b : Below B w W
theorem P5.put {w : World} {B : Nat} {f o : Nat → Nat} {D : Nat} {W : World} (h : P5 w B f o D W) (i x : Nat) : P5 w B f (updN o i x) D (W.setCell ⟨D, i, none⟩ (.int .u64 (n64 x))) :=
  ⟨h.x.setOther (a := ⟨D, i, none⟩) (by have := h.h; simp only; omega) _, h.r.setOther (a := ⟨D, i, none⟩) (by have := h.h; simp only; omega) _, h.h, L5.put h.o i x, h.b.setCell (by have := h.h; simp only; omega) _⟩
theorem P5.drew {w : World} {B : Nat} {f o : Nat → Nat} {D : Nat} {W : World} (h : P5 w B f o D W) : P5 w B f o D W.drew := ⟨h.x, h.r, h.h, h.o, h.b.drew⟩
def lessTo0 (f : Nat → Nat) (_ : Nat) : Nat → Nat := f
/-- the carries behind 5 more: limb by limb -/
def lessTo (f : Nat → Nat) : Nat → Nat → Nat
  | 0 => updN f 0 (f 0 + 5)
  | k + 1 => updN (updN (lessTo f k) (k + 1) (lessTo f k (k + 1) + lessTo f k k / 67108864)) k (lessTo f k k % 67108864)
theorem lessTo_lt (f : Nat → Nat) (h : ∀ i, i < 5 → f i < 67108864) : ∀ k i, i < 5 → lessTo f k i < 134217728
  | 0, i, hi => by
    have a := h i hi
    have b := h 0 (by omega)
    simp only [lessTo, updN]; split <;> omega
  | k + 1, i, hi => by
    have a := lessTo_lt f h k i hi
    have rest : ∀ k j, k < j → j < 5 → lessTo f k j = f j := by
      intro k
      induction k with
      | zero => intro j h1 _; simp only [lessTo, updN]; rw [if_neg (by omega)]
      | succ k ih => intro j h1 h2; simp only [lessTo, updN]; rw [if_neg (by omega), if_neg (by omega)]; exact ih j (by omega) h2
    simp only [lessTo, updN]
    split
    · omega
    · split
      · rename_i h1
        have b := h (k + 1) (by omega)
        have c := lessTo_lt f h k k (by omega)
        rw [rest k (k + 1) (by omega) (by omega)]
        omega
      · exact a
theorem lessTo_val (f : Nat → Nat) (h : ∀ i, i < 5 → f i < 67108864) : val5 (lessTo f 4) = val5 f + 5 ∧ ∀ i, i < 4 → lessTo f 4 i < 67108864 := by
  have h0 := h 0 (by omega)
  have h1 := h 1 (by omega)
  have h2 := h 2 (by omega)
  have h3 := h 3 (by omega)
  have h4 := h 4 (by omega)
  constructor
  · simp [lessTo, updN, val5]
    omega
  · intro i hi
    rcases i with _ | _ | _ | _ | i
    · simp [lessTo, updN]; omega
    · simp [lessTo, updN]; omega
    · simp [lessTo, updN]; omega
    · simp [lessTo, updN]; omega
    · omega
/-- the least number -/
def least (f : Nat → Nat) : Nat → Nat := if lessTo (carried f) 4 4 / 67108864 = 0 then carried f else updN (lessTo (carried f) 4) 4 (lessTo (carried f) 4 4 % 67108864)
theorem least_val (f : Nat → Nat) (h : Near f) : val5 (least f) = val5 f % p5 ∧ ∀ i, i < 5 → least f i < 67108864 := by
  obtain ⟨hv, hl⟩ := carried_low f h
  obtain ⟨e, hlo⟩ := lessTo_val (carried f) hl
  have em := carried_mod f
  have l0 := hlo 0 (by omega)
  have l1 := hlo 1 (by omega)
  have l2 := hlo 2 (by omega)
  have l3 := hlo 3 (by omega)
  unfold least
  split
  · rename_i h0
    refine ⟨?_, hl⟩
    have : val5 (lessTo (carried f) 4) < 1361129467683753853853498429727072845824 := by unfold val5; omega
    rw [← em, Nat.mod_eq_of_lt]
    unfold p5; omega
  · rename_i h0
    have hge : 1361129467683753853853498429727072845824 ≤ val5 (lessTo (carried f) 4) := by unfold val5; omega
    have hx : val5 (updN (lessTo (carried f) 4) 4 (lessTo (carried f) 4 4 % 67108864)) + 1361129467683753853853498429727072845824 = val5 (lessTo (carried f) 4) := by
      have b : lessTo (carried f) 4 4 < 134217728 := lessTo_lt _ hl 4 4 (by omega)
      unfold val5 updN
      simp
      omega
    constructor
    · rw [← em, show val5 (carried f) = val5 (updN (lessTo (carried f) 4) 4 (lessTo (carried f) 4 4 % 67108864)) + p5 by unfold p5; omega, Nat.add_mod_right]
      exact (Nat.mod_eq_of_lt (by unfold p5; omega)).symm
    · intro i hi
      unfold updN
      split
      · exact Nat.mod_lt _ (by omega)
      · exact hlo i (by omega)

set_option maxRecDepth 100000 in
set_option maxHeartbeats 1600000 in
theorem reduced_any (f : Nat → Nat) (w : World) (hf : Near f) :
    Calls Try.prog 19 #[.agg (arrN .u64 5 f)] w fun e w' => e = .returned (.agg (arrN .u64 5 (least f))) ∧ Below w.heap.size w w' := by
  have HL := Lib.hid (lessTo_lt (carried f) (carried_low f hf).2)
  have hcall : Hid (∀ W, Calls Try.prog 23 #[.agg (arrN .u64 5 f)] W fun e w' => e = .returned (.agg (arrN .u64 5 (carried f))) ∧ Below W.heap.size W w') := Lib.hid (fun W => carried_any f W (fun i hi => by have := hf.lt i hi; omega))
  have HE : Hid (least f = if lessTo (carried f) 4 4 / 67108864 = 0 then carried f else updN (lessTo (carried f) 4) 4 (lessTo (carried f) 4 4 % 67108864)) := Lib.hid rfl
  clear hf
  obtain ⟨F, hF⟩ : ∃ F, F = carried f := ⟨_, rfl⟩
  rw [← hF] at hcall HL HE
  clear hF
  go_enter Try.func19, Try.ntmps19
  go_upto_region 1 with (fail)
  refine wp_world (P2 w w.heap.size f) ?_ ?_
  · refine ⟨?_, ?_, ?_⟩
    · exact (rowIs_new _ _ _ _ _ _ (by simp) (by simp) (fun i hi => arrN_get .u64 5 f i hi)).alloc _
    · exact rowIs_new _ _ _ _ _ _ (by simp) (by rfl) zero5
    · go_grown
  intro W0 H0
  generalize hB : w.heap.size = B at H0 ⊢
  have HB := Lib.hid hB; clear hB
  have h1 := rowIs_heapN H0.x
  have h4 : B + 1 < W0.heap.size := H0.r.lt
  go_wp2_with (refine wpList_load_row rfl 39 _ rfl _ rfl _ _ _ _ h1 Try.underlying39 rfl (by kernel_rfl) ?_)
  refine (hcall.out _).mono ?_
  rintro e w1 ⟨rfl, hb1⟩
  have g1 : w1.heap[B]? = some (.cells (arrN .u64 5 f) 39 (0, 0)) := (hb1.block _ (by omega)).trans h1
  have g2 : w1.rowIs (B + 1) 39 5 (fun _ => .int .u64 0) := H0.r.of_block (hb1.block _ h4)
  have g3 : Below B w w1 := H0.b.trans (hb1.mono (by omega))
  have g4 : B + 1 < w1.heap.size := Nat.lt_of_lt_of_le h4 hb1.size
  clear h1 h4 hb1 hcall H0
  go_upto_region 2 with (refine wpList_store_row rfl 39 _ _ rfl _ _ rfl rfl _ _ g1 (by kernel_rfl) (by rfl) (arrN_one _ _ _) ?_)
  have k1 : (w1.setRow B (arrN .u64 5 F)).heap[B]? = some (.cells (arrN .u64 5 F) 39 (0, 0)) := setRow_heap _ _ _ _ _ _ g1
  have kx : L5 (w1.setRow B (arrN .u64 5 F)) B F := rowIs_arr k1 (by simp) (fun i hi => arrN_get .u64 5 F i hi)
  have kr : (w1.setRow B (arrN .u64 5 F)).rowIs (B + 1) 39 5 (fun _ => .int .u64 0) := g2.of_block (setRow_other _ _ _ _ (by omega))
  have kb : Below B w (w1.setRow B (arrN .u64 5 F)) := below_setRow g3 (by omega) _
  have kz : B + 1 < (w1.setRow B (arrN .u64 5 F)).heap.size := by simpa [World.setRow] using g4
  generalize (w1.setRow B (arrN .u64 5 F)) = W2 at *
  clear g1 g2 g3 g4
  go_upto_region 3 with (first | (refine wpList_load_row rfl 39 _ rfl _ rfl _ _ _ _ k1 Try.underlying39 rfl (by kernel_rfl) ?_) | (refine wpList_store_row rfl 39 _ _ rfl _ (arrN .u64 5 F) rfl rfl _ _ (heap_alloc_new _ _) (by kernel_rfl) (by rfl) (arrN_one _ _ _) ?_; rw [alloc_setRow]))
  refine wp_world (P5 w B F (lessTo0 F 0) W2.heap.size) ?_ ?_
  · refine ⟨kx.alloc _, kr.alloc _, kz, ?_, ?_⟩
    · exact rowIs_new _ _ _ _ _ _ rfl (by simp) (fun i hi => arrN_get .u64 5 F i hi)
    · exact kb.alloc (by have := kb.size; omega) _
  generalize W2.heap.size = D
  clear k1 kx kr kb kz W2
  intro W3 hs
  have c0 := hs.o.cell (i := 0) (by omega)
  have f0 := hs.o.frozen 0
  have b0 := HL.out 0 0 (by omega)
  have h0 : IntKind.u64.wrap (n64 (lessTo0 F 0 0) + 5) = n64 (lessTo0 F 0 0 + 5) := w64_add (lessTo0 F 0 0) 5 (by have : lessTo0 F 0 0 + 5 = lessTo F 0 0 := rfl; omega)
  have hs2 : P5 w B F (lessTo F 0) D _ := hs.put 0 (lessTo0 F 0 0 + 5)
  clear hs
  go_wp2_with fail
  go_loopw [12] (fun i wr => ∃ k : Nat, k ≤ 4 ∧ i = .int .i64 k ∧ P5 w B F (lessTo F k) D wr) (fun i _ => 4 - (intOf i).toNat)
  case atStart => exact ⟨0, by omega, rfl, hs2⟩
  clear hs2 h0 c0 f0 b0
  case round =>
    obtain ⟨k, hk, rfl, hs⟩ := hrel
    by_cases hlt : k < 4
    · have cx := hs.o.cell (i := k) (by omega)
      have cy := hs.o.cell (i := k + 1) (by omega)
      have fx := hs.o.frozen k
      have fy := hs.o.frozen (k + 1)
      have b1 := HL.out k k (by omega)
      have b2 := HL.out k (k + 1) (by omega)
      have E : Hid (lessTo F (k + 1) = updN (updN (lessTo F k) (k + 1) (lessTo F k (k + 1) + lessTo F k k / 67108864)) k (lessTo F k k % 67108864)) := Lib.hid rfl
      obtain ⟨G, hG⟩ : ∃ G, G = lessTo F k := ⟨_, rfl⟩
      rw [← hG] at cx cy b1 b2 hs E
      clear hG
      have h1 := n64_shr26 (G k)
      have h2 := w64_add (G (k + 1)) (G k / 67108864) (by omega)
      have h3 := n64_mask26 (G k) (by omega)
      have HS := Lib.hid ((hs.put (k + 1) (G (k + 1) + G k / 67108864)).drew.put k (G k % 67108864))
      clear hs b1 b2
      go_wp2_with fail
      go_region
      go_wp2_with fail
      go_roundw
      case rel => exact ⟨k + 1, by omega, by go_num, by rw [E.out]; exact HS.out⟩
      case measure => simp [intOf]; omega
    · have hk8 : k = 4 := by omega
      rw [hk8] at hs ⊢
      clear hk8
      have c4 := hs.o.cell (i := 4) (by omega)
      have f4 := hs.o.frozen 4
      have b4 := HL.out 4 4 (by omega)
      have h1 := n64_shr26 (lessTo F 4 4)
      have h2 := n64_mask26 (lessTo F 4 4) (by omega)
      obtain ⟨old, hr1, hr2, _⟩ := hs.r
      by_cases hz : lessTo F 4 4 / 67108864 = 0
      · have hd : (n64 (lessTo F 4 4 / 67108864) == 0) = true := by rw [hz]; rfl
        have hd2 : (n64 (lessTo F 4 4 / 67108864)) = 0 := by rw [hz]; rfl
        have hh := rowIs_heapN hs.x
        have hb := below_setRow (g := B + 1) hs.b (by omega) (arrN .u64 5 F)
        have hres : (wr.setRow (B + 1) (arrN .u64 5 F)).heap[B + 1]? = some (.cells (arrN .u64 5 F) 39 (0, 0)) := setRow_heap _ _ _ _ _ _ hr1
        rw [if_pos hz] at HE
        clear hs hz b4
        go_wp2_with (first | (refine wpList_load_row rfl 39 _ rfl _ rfl _ _ _ _ hh Try.underlying39 rfl (by kernel_rfl) ?_) | (refine wpList_store_row rfl 39 _ _ rfl _ _ rfl rfl _ _ hr1 (by kernel_rfl) (by simpa using hr2) (arrN_one _ _ _) ?_))
        refine bodyPost_ret (results_cell_row rfl _ _ _ _ _ _ _ rfl hres Try.underlying39 rfl (by kernel_rfl)) rfl ?_
        rw [HB.out, HE.out]
        exact ⟨rfl, hb⟩
      · have hd : (n64 (lessTo F 4 4 / 67108864) == 0) = false := by unfold n64; simp; omega
        have hs2 := hs.put 4 (lessTo F 4 4 % 67108864)
        rw [if_neg hz] at HE
        have hh := rowIs_heapN hs2.o
        have hr1' := hs2.r
        obtain ⟨old, hr1, hr2, _⟩ := hs2.r
        have HS2 := Lib.hid hs2
        clear hs hz b4 hs2
        go_upto_region 13 with (fail)
        have hs2 := HS2.out
        generalize wr.setCell ⟨D, 4, none⟩ (.int .u64 (n64 (lessTo F 4 4 % 67108864))) = wr2 at *
        generalize updN (lessTo F 4) 4 (lessTo F 4 4 % 67108864) = G2 at *
        have hb := below_setRow (g := B + 1) hs2.b (by omega) (arrN .u64 5 G2)
        have hres : (wr2.setRow (B + 1) (arrN .u64 5 G2)).heap[B + 1]? = some (.cells (arrN .u64 5 G2) 39 (0, 0)) := setRow_heap _ _ _ _ _ _ hr1
        clear hs2 HS2 c4 f4 hd h1 h2
        go_wp2_with (first | (refine wpList_load_row rfl 39 _ rfl _ rfl _ _ _ _ hh Try.underlying39 rfl (by kernel_rfl) ?_) | (refine wpList_store_row rfl 39 _ _ rfl _ _ rfl rfl _ _ hr1 (by kernel_rfl) (by simpa using hr2) (arrN_one _ _ _) ?_))
        refine bodyPost_ret (results_cell_row rfl _ _ _ _ _ _ _ rfl hres Try.underlying39 rfl (by kernel_rfl)) rfl ?_
        rw [HB.out, HE.out]
        exact ⟨rfl, hb⟩
end Go.Proofs.Ytpkajfkdandhoaa
