import Derived.Test.YtpkajfkdandhoaaPyw
/-
  poly's carries, products, and the least number, in memory.
-/
namespace Go.Proofs.Ytpkajfkdandhoaa
open Go.RowKit

def passN (f : Nat → Nat) : Nat → Nat → Nat
  | 0 => f
  | k + 1 => pass (passN f k)
theorem pass_le (f : Nat → Nat) (h : ∀ i, i < 5 → f i ≤ 9223372036854775807) : ∀ i, i < 5 → pass f i ≤ 9223372036854775807 := by
  intro i hi
  have c := passTo_carry f _ h 5 (by omega)
  rcases Nat.eq_zero_or_pos i with rfl | h0
  · have := pass_zero f; omega
  · have := pass_high f i h0 hi; omega
theorem passN_le (f : Nat → Nat) (h : ∀ i, i < 5 → f i ≤ 9223372036854775807) : ∀ k i, i < 5 → passN f k i ≤ 9223372036854775807
  | 0, i, hi => h i hi
  | k + 1, i, hi => pass_le _ (passN_le f h k) i hi
theorem updN_twice (f : Nat → Nat) (k x y : Nat) : updN (updN f k x) k y = updN f k y := by
  funext j; unfold updN; split <;> rfl
/-- a box, the result's cell, and the rest -/
structure P2 (w : World) (B : Nat) (f : Nat → Nat) (W : World) : Prop where
  x : L5 W B f
  r : W.rowIs (B + 1) 39 5 (fun _ => .int .u64 0)
  b : Below B w W
theorem P2.put {w : World} {B : Nat} {f : Nat → Nat} {W : World} (h : P2 w B f W) (i x : Nat) : P2 w B (updN f i x) (W.setCell ⟨B, i, none⟩ (.int .u64 (n64 x))) :=
  ⟨L5.put h.x i x, h.r.setOther (a := ⟨B, i, none⟩) (by simp only; omega) _, h.b.setCell (by simp only; omega) _⟩

set_option maxRecDepth 100000 in
set_option maxHeartbeats 1600000 in
theorem carried_any (f : Nat → Nat) (w : World) (hf : ∀ i, i < 5 → f i ≤ 9223372036854775807) :
    Calls Try.prog 23 #[.agg (arrN .u64 5 f)] w fun e w' => e = .returned (.agg (arrN .u64 5 (carried f))) ∧ Below w.heap.size w w' := by
  have HF := Lib.hid (passN_le f hf); clear hf
  go_enter Try.func23, Try.ntmps23
  go_wp2_with fail
  go_loopw [5] (fun i wr => ∃ k : Nat, k ≤ 2 ∧ i = .int .i64 k ∧ P2 w w.heap.size (passN f k) wr) (fun i _ => 2 - (intOf i).toNat)
  case atStart =>
    refine ⟨0, by omega, rfl, ?_, ?_, ?_⟩
    · exact (rowIs_new _ _ _ _ _ _ (by simp) (by simp) (fun i hi => arrN_get .u64 5 f i hi)).alloc _
    · exact rowIs_new _ _ _ _ _ _ (by simp) (by rfl) zero5
    · go_grown
  case round =>
    obtain ⟨k, hk, rfl, hs⟩ := hrel
    generalize hB : w.heap.size = B at hs ⊢
    have HB := Lib.hid hB; clear hB
    by_cases hlt : k < 2
    · have HL := Lib.hid (HF.out k)
      obtain ⟨F, hF⟩ : ∃ F, F = passN f k := ⟨_, rfl⟩
      rw [← hF] at hs
      have HL2 : Hid (∀ i, i < 5 → F i ≤ 9223372036854775807) := Lib.hid (by rw [hF]; exact HL.out)
      have HFF := Lib.hid hF; clear hF HL
      go_wp2_with fail
      go_loopw [3, 7] (fun c i wr => ∃ q : Nat, q ≤ 5 ∧ c = .int .u64 (n64 (passTo F q).2) ∧ i = .int .i64 q ∧ P2 w B (passTo F q).1 wr) (fun _ i _ => 5 - (intOf i).toNat)
      case atStart => exact ⟨0, by omega, rfl, rfl, hs⟩
      clear hs
      case round =>
        obtain ⟨q, hq, rfl, rfl, hs⟩ := hrel
        by_cases hlt2 : q < 5
        · have cx := hs.x.cell (i := q) hlt2
          have fx := hs.x.frozen q
          have b1 := passTo_carry F _ HL2.out q (by omega)
          have b2 := HL2.out q hlt2
          have e0 := passTo_rest F q q (Nat.le_refl _)
          have E : Hid ((passTo F (q + 1)) = (updN (passTo F q).1 q (((passTo F q).1 q + (passTo F q).2) % 67108864), ((passTo F q).1 q + (passTo F q).2) / 67108864)) := Lib.hid rfl
          obtain ⟨x, hx⟩ : ∃ x, x = (passTo F q).1 q := ⟨_, rfl⟩
          obtain ⟨c, hc⟩ : ∃ c, c = (passTo F q).2 := ⟨_, rfl⟩
          obtain ⟨G, hG⟩ : ∃ G, G = (passTo F q).1 := ⟨_, rfl⟩
          have E2 : Hid (passTo F (q + 1) = (updN G q ((x + c) % 67108864), (x + c) / 67108864)) := Lib.hid (by rw [E.out, hG, hx, hc])
          rw [← hx] at cx e0
          rw [← hc] at b1 ⊢
          rw [← hG] at hs
          have h1 := n64_add x c (by rw [e0]; omega)
          have h2 := w64_add x c (by rw [e0]; omega)
          have h3 := n64_mask26 (x + c) (by rw [e0]; omega)
          have h4 := n64_shr26 (x + c)
          have HS := Lib.hid ((hs.put q (x + c)).put q ((x + c) % 67108864))
          rw [updN_twice] at HS
          clear hs e0 hx hc hG b1 b2 E
          go_wp2_with fail
          go_roundw
          case rel => exact ⟨q + 1, by omega, by rw [E2.out], by go_num, by rw [E2.out]; exact HS.out⟩
          case measure => simp [intOf]; omega
        · have hk8 : q = 5 := by omega
          rw [hk8] at hs ⊢
          clear hk8
          have c0 := hs.x.cell (i := 0) (by omega)
          have f0 := hs.x.frozen 0
          have b1 := passTo_carry F _ HL2.out 5 (by omega)
          have b2 := passTo_low F 5 0 (by omega)
          have E : Hid (passN f (k + 1) = updN (passTo F 5).1 0 ((passTo F 5).1 0 + 5 * (passTo F 5).2)) := Lib.hid (by show pass (passN f k) = _; rw [← HFF.out]; rfl)
          obtain ⟨x, hx⟩ : ∃ x, x = (passTo F 5).1 0 := ⟨_, rfl⟩
          obtain ⟨c, hc⟩ : ∃ c, c = (passTo F 5).2 := ⟨_, rfl⟩
          obtain ⟨G, hG⟩ : ∃ G, G = (passTo F 5).1 := ⟨_, rfl⟩
          have E2 : Hid (passN f (k + 1) = updN G 0 (x + 5 * c)) := Lib.hid (by rw [E.out, hG, hx, hc])
          rw [← hx] at c0 b2
          rw [← hc] at b1 ⊢
          rw [← hG] at hs
          have h0 : IntKind.u64.wrap (5 * n64 c) = n64 (5 * c) := w64_mul 5 c (by omega)
          have h1 := w64_add x (5 * c) (by omega)
          have HS := Lib.hid (hs.put 0 (x + 5 * c))
          clear hs hx hc hG b1 b2 E
          go_wp2_with fail
          go_roundw
          case rel => exact ⟨k + 1, by omega, by go_num, by rw [E2.out]; exact HS.out⟩
          case measure => simp [intOf]; omega
    · have hk8 : k = 2 := by omega
      rw [hk8] at hs
      clear hk8
      have hh := rowIs_heapN hs.x
      obtain ⟨old, hr1, hr2, _⟩ := hs.r
      rw [show passN f 2 = carried f from rfl] at hh
      generalize hz : arrN .u64 5 (carried f) = z at *
      have hz1 : z.size = 5 := by rw [← hz]; simp
      have hz2 : z.all (·.oneCell') = true := by rw [← hz]; exact arrN_one _ _ _
      have HZ := Lib.hid hz; clear hz
      have hb := below_setRow (g := B + 1) hs.b (by omega) z
      have hres : (wr.setRow (B + 1) z).heap[B + 1]? = some (.cells z 39 (0, 0)) := setRow_heap _ _ _ _ _ _ hr1
      clear hs
      go_wp2_with (first | (refine wpList_load_row rfl 39 _ rfl _ rfl _ _ _ _ hh Try.underlying39 rfl (by kernel_rfl) ?_) | (refine wpList_store_row rfl 39 _ _ rfl _ _ rfl rfl _ _ hr1 (by kernel_rfl) (by rw [hz1]; exact hr2) hz2 ?_))
      refine bodyPost_ret (results_cell_row rfl _ _ _ _ _ _ _ rfl hres Try.underlying39 rfl (by kernel_rfl)) rfl ?_
      rw [HB.out, HZ.out]
      exact ⟨rfl, hb⟩
end Go.Proofs.Ytpkajfkdandhoaa
