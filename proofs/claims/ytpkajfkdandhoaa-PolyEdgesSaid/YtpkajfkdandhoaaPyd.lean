import Derived.Test.YtpkajfkdandhoaaPys
/-
  The document's numbers of seventeen bytes: a sum, a product, in memory.
-/
namespace Go.Proofs.Ytpkajfkdandhoaa
open Go.RowKit

theorem w32_add (x y : Nat) (h : x + y < 4294967296) : IntKind.u32.wrap (n64 x + n64 y) = n64 (x + y) := by
  unfold n64; simp [IntKind.wrap, IntKind.signed, IntKind.bits]; omega
theorem w32_mul (x y : Nat) (h : x * y < 4294967296) : IntKind.u32.wrap (n64 x * n64 y) = n64 (x * y) := by
  unfold n64
  rw [← Int.natCast_mul]
  simp only [IntKind.wrap, IntKind.signed, IntKind.bits]
  simp
  omega
theorem m32_255 (x : Nat) (h : x < 4294967296) : bits .and .u32 (n64 x) 255 = n64 (x % 256) := by
  have := u32_and_nat x 255 h (by omega)
  rw [show ((255 : Nat) : Int) = 255 from rfl] at this
  unfold n64
  rw [this]
  exact congrArg _ (Nat.and_two_pow_sub_one_eq_mod x 8)
theorem m32_3 (x : Nat) (h : x < 4294967296) : bits .and .u32 (n64 x) 3 = n64 (x % 4) := by
  have := u32_and_nat x 3 h (by omega)
  rw [show ((3 : Nat) : Int) = 3 from rfl] at this
  unfold n64
  rw [this]
  exact congrArg _ (Nat.and_two_pow_sub_one_eq_mod x 2)
theorem n64_shr2 (x : Nat) : n64 x / 4 = n64 (x / 4) := by unfold n64; omega

/-- sums with a carry that came in -/
theorem carry_in (c0 : Nat) (f : Nat → Nat) (j : Nat) : ((c0 + num f j) / 256 ^ j + f j) / 256 = (c0 + num f (j + 1)) / 256 ^ (j + 1) ∧ ((c0 + num f j) / 256 ^ j + f j) % 256 = dg (c0 + num f (j + 1)) j := by
  rw [num_succ, ← Nat.add_assoc]
  unfold dg
  rw [div_add]
  refine ⟨?_, rfl⟩
  rw [Nat.pow_succ, ← Nat.div_div_eq_div_mul, div_add]
theorem in_later (c0 : Nat) (f : Nat → Nat) (i : Nat) : ∀ m, i + 1 ≤ m → dg (c0 + num f m) i = dg (c0 + num f (i + 1)) i
  | 0, h => by omega
  | m + 1, h => by
    by_cases e : m = i
    · rw [e]
    · rw [num_succ, ← Nat.add_assoc, dg_add _ _ _ _ (by omega)]; exact in_later c0 f i m (by omega)
/-- seventeen digits in a block -/
abbrev L17 (w : World) (b : Nat) (f : Nat → Nat) : Prop := w.rowIs b 46 17 (fun i => .int .u32 (n64 (f i)))
theorem L17.put {w : World} {b : Nat} {f : Nat → Nat} (h : L17 w b f) (i x : Nat) : L17 (w.setCell ⟨b, i, none⟩ (.int .u32 (n64 x))) b (updN f i x) := by
  refine (h.set i _).congr fun j _ => ?_
  unfold updN
  split <;> simp [*]
theorem zero17u : ∀ i, i < 17 → (Array.replicate 17 (Value.int IntKind.u32 0))[i]? = some (.int .u32 0) := by
  intro i hi; simp [hi]
/-- two boxes, the result's cell, and the rest -/
structure D3 (w : World) (B : Nat) (f g : Nat → Nat) (W : World) : Prop where
  x : L17 W B f
  y : L17 W (B + 1) g
  r : W.rowIs (B + 1 + 1) 46 17 (fun _ => .int .u32 0)
  b : Below B w W
theorem D3.put {w : World} {B : Nat} {f g : Nat → Nat} {W : World} (h : D3 w B f g W) (i x : Nat) : D3 w B (updN f i x) g (W.setCell ⟨B, i, none⟩ (.int .u32 (n64 x))) :=
  ⟨L17.put h.x i x, h.y.setOther (a := ⟨B, i, none⟩) (by simp only; omega) _, h.r.setOther (a := ⟨B, i, none⟩) (by simp only; omega) _, h.b.setCell (by simp only; omega) _⟩
theorem D3.drew {w : World} {B : Nat} {f g : Nat → Nat} {W : World} (h : D3 w B f g W) : D3 w B f g W.drew := ⟨h.x, h.y, h.r, h.b.drew⟩
theorem D3.drewN {w : World} {B : Nat} {f g : Nat → Nat} {W : World} (h : D3 w B f g W) (m : Nat) : D3 w B f g (W.drewN m) := ⟨h.x, h.y, h.r, h.b.trans (Below.drewNr m)⟩
theorem D3.congr {w : World} {B : Nat} {f f' g : Nat → Nat} {W : World} (h : D3 w B f g W) (e : ∀ i, i < 17 → f i = f' i) : D3 w B f' g W := ⟨h.x.congr fun i hi => by rw [e i hi], h.y, h.r, h.b⟩
/-- the digits so far -/
def digTo (f g : Nat → Nat) (k t : Nat) : Nat := if t < k then dg (0 + num (fun t => f t + g t) 17) t else f t

set_option maxRecDepth 100000 in
set_option maxHeartbeats 1600000 in
theorem plus_any (f g : Nat → Nat) (w : World) (hf : ∀ i, i < 17 → f i < 65536) (hg : ∀ i, i < 17 → g i < 65536) :
    Calls Try.prog 21 #[.agg (arrN .u32 17 f), .agg (arrN .u32 17 g)] w fun e w' => e = .returned (.agg (arrN .u32 17 (dg (num (fun t => f t + g t) 17)))) ∧ Below w.heap.size w w' := by
  have HU := Lib.hid (fun k (hk : k ≤ 17) => num_le (fun t => f t + g t) 131072 k (fun i hi => by have := hf i (by omega); have := hg i (by omega); omega))
  have HF := Lib.hid hf; have HG := Lib.hid hg; clear hf hg
  go_enter Try.func21, Try.ntmps21
  go_wp2_with fail
  go_loopw [5, 6] (fun u i wr => ∃ k : Nat, k ≤ 17 ∧ i = .int .i64 k ∧ u = .int .u32 (n64 ((0 + num (fun t => f t + g t) k) / 256 ^ k)) ∧ D3 w w.heap.size (digTo f g k) g wr) (fun _ i _ => 17 - (intOf i).toNat)
  case atStart =>
    refine ⟨0, by omega, rfl, by simp [num, sm]; rfl, ?_, ?_, ?_, ?_⟩
    · exact (((rowIs_new _ _ _ _ _ _ (by simp) (by simp) (fun i hi => arrN_get .u32 17 f i hi)).alloc _).alloc _).congr fun i _ => by simp [digTo]
    · exact (rowIs_new _ _ _ _ _ _ (by simp) (by simp) (fun i hi => arrN_get .u32 17 g i hi)).alloc _
    · exact rowIs_new _ _ _ _ _ _ (by simp) (by rfl) zero17u
    · go_grown
  case round =>
    obtain ⟨k, hk, rfl, rfl, hs⟩ := hrel
    generalize hB : w.heap.size = B at hs ⊢
    have HB := Lib.hid hB; clear hB
    by_cases hlt : k < 17
    · have cx := hs.x.cell (i := k) hlt
      have cy := hs.y.cell (i := k) hlt
      have fx := hs.x.frozen k
      have e1 : digTo f g k k = f k := by unfold digTo; rw [if_neg (by omega)]
      rw [e1] at cx
      have b1 := HF.out k hlt
      have b2 := HG.out k hlt
      obtain ⟨c1, c2⟩ := carry_in 0 (fun t => f t + g t) k
      have c3 := HU.out k hk
      rw [Nat.zero_add] at c1 c2 ⊢
      obtain ⟨u, hu⟩ : ∃ u, u = num (fun t => f t + g t) k / 256 ^ k := ⟨_, rfl⟩
      rw [← hu] at c1 c2 c3 ⊢
      have a1 := w32_add u (f k) (by omega)
      have a2 := w32_add (u + f k) (g k) (by omega)
      have a3 := m32_255 (u + f k + g k) (by omega)
      have a4 := n64_shr8 (u + f k + g k)
      have HC1 : Hid ((u + f k + g k) / 256 = (0 + num (fun t => f t + g t) (k + 1)) / 256 ^ (k + 1)) := Lib.hid (by rw [← c1, Nat.add_assoc])
      have hdig : (u + f k + g k) % 256 = dg (0 + num (fun t => f t + g t) 17) k := by
        rw [in_later 0 (fun t => f t + g t) k 17 (by omega), ← c2, Nat.add_assoc]
      have HS : Hid (∀ m, D3 w B (digTo f g (k + 1)) g ((wr.drewN m).setCell ⟨B, k, none⟩ (.int .u32 (n64 ((u + f k + g k) % 256))))) := Lib.hid fun m => ((hs.drewN m).put k _).congr fun i _ => by
        unfold updN digTo
        by_cases e : i = k
        · rw [if_pos e, if_pos (by omega), hdig, e]
        · rw [if_neg e]
          by_cases e2 : i < k
          · rw [if_pos e2, if_pos (by omega)]
          · rw [if_neg e2, if_neg (by omega)]
      clear hs hu c1 c2 c3 e1 hdig b1 b2
      go_wp2_with fail
      go_quiet (fail)
      go_wp2_with fail
      go_roundw
      case rel => exact ⟨k + 1, by omega, by go_num, by rw [← HC1.out], HS.out _⟩
      case measure => simp [intOf]; omega
    · have hk8 : k = 17 := by omega
      rw [hk8] at hs ⊢
      clear hk8
      have hh := rowIs_heapN hs.x
      obtain ⟨old, hr1, hr2, _⟩ := hs.r
      have e : arrN .u32 17 (digTo f g 17) = arrN .u32 17 (dg (num (fun t => f t + g t) 17)) := arrN_congr .u32 17 fun i hi => by unfold digTo; rw [if_pos hi, Nat.zero_add]
      rw [e] at hh
      obtain ⟨F, hF⟩ : ∃ F, F = dg (num (fun t => f t + g t) 17) := ⟨_, rfl⟩
      rw [← hF] at hh
      have HFF := Lib.hid hF
      have hb := below_setRow (g := B + 1 + 1) hs.b (by omega) (arrN .u32 17 F)
      have hres : (wr.setRow (B + 1 + 1) (arrN .u32 17 F)).heap[B + 1 + 1]? = some (.cells (arrN .u32 17 F) 46 (0, 0)) := setRow_heap _ _ _ _ _ _ hr1
      clear hs e hF
      go_wp2_with (first | (refine wpList_load_row rfl 46 _ rfl _ rfl _ _ _ _ hh Try.underlying46 rfl (by kernel_rfl) ?_) | (refine wpList_store_row rfl 46 _ _ rfl _ _ rfl rfl _ _ hr1 (by kernel_rfl) (by simpa using hr2) (arrN_one _ _ _) ?_))
      refine bodyPost_ret (results_cell_row rfl _ _ _ _ _ _ _ rfl hres Try.underlying46 rfl (by kernel_rfl)) rfl ?_
      rw [HB.out, ← HFF.out]
      exact ⟨rfl, hb⟩
end Go.Proofs.Ytpkajfkdandhoaa
