import Derived.Test.YtpkajfkdandhoaaAr
import Derived.Test.YtpkajfkdandhoaaPym
import Derived.StillTailTactics
/-
  poly's limbs in memory: words of 64 bits as plain numbers; a sum of limbs, the carries.
-/
namespace Go.Proofs.Ytpkajfkdandhoaa
open Go.RowKit

/-- a number without a sign, as the walk sees it; closed to simp -/
def n64 (x : Nat) : Int := (x : Int)
theorem n64_lo (x : Nat) : 0 ≤ n64 x := by unfold n64; omega
theorem n64_hi (x m : Nat) (h : x < m) : n64 x < (m : Int) := by unfold n64; omega
theorem n64_add (x y : Nat) (h : x + y < 18446744073709551616) : (n64 x + n64 y) % 18446744073709551616 = n64 (x + y) := by unfold n64; omega
theorem w64_add (x y : Nat) (h : x + y < 18446744073709551616) : IntKind.u64.wrap (n64 x + n64 y) = n64 (x + y) := by rw [← n64_add x y h]; simp [IntKind.wrap, IntKind.signed, IntKind.bits]
theorem n64_mul (x y : Nat) (h : x * y < 18446744073709551616) : (n64 x * n64 y) % 18446744073709551616 = n64 (x * y) := by
  unfold n64
  rw [← Int.natCast_mul]
  omega
theorem w64_mul (x y : Nat) (h : x * y < 18446744073709551616) : IntKind.u64.wrap (n64 x * n64 y) = n64 (x * y) := by rw [← n64_mul x y h]; simp [IntKind.wrap, IntKind.signed, IntKind.bits]
theorem n64_mask26 (x : Nat) (h : x < 18446744073709551616) : bits .and .u64 (n64 x) 67108863 = n64 (x % 67108864) := by
  have := u64_and_nat x 67108863 h (by omega)
  rw [show ((67108863 : Nat) : Int) = 67108863 from rfl] at this
  unfold n64
  rw [this]
  exact congrArg _ (Nat.and_two_pow_sub_one_eq_mod x 26)
theorem n64_shr26 (x : Nat) : n64 x / 67108864 = n64 (x / 67108864) := by unfold n64; omega
theorem n64_or (x y : Nat) (hx : x < 18446744073709551616) (hy : y < 18446744073709551616) : bits .or .u64 (n64 x) (n64 y) = n64 (x ||| y) := u64_or_nat x y hx hy

/-- an array of numbers as a value's cells -/
def arrN (k : IntKind) (n : Nat) (f : Nat → Nat) : Array Value := ((List.range n).map fun i => Value.int k (n64 (f i))).toArray
@[simp] theorem arrN_size (k : IntKind) (n : Nat) (f : Nat → Nat) : (arrN k n f).size = n := by simp [arrN]
theorem arrN_get (k : IntKind) (n : Nat) (f : Nat → Nat) (i : Nat) (h : i < n) : (arrN k n f)[i]? = some (.int k (n64 (f i))) := by simp [arrN, h]
theorem arrN_congr (k : IntKind) (n : Nat) {f g : Nat → Nat} (h : ∀ i, i < n → f i = g i) : arrN k n f = arrN k n g := by
  unfold arrN
  congr 1
  exact List.map_congr_left fun i hi => by rw [h i (by simpa using hi)]
theorem arrN_one (k : IntKind) (n : Nat) (f : Nat → Nat) : (arrN k n f).all (·.oneCell') = true := by
  rw [Array.all_eq_true_iff_forall_mem]
  intro v hv
  simp [arrN] at hv
  obtain ⟨i, _, rfl⟩ := hv
  rfl
theorem rowIs_heapN {w : World} {b : Nat} {t : TypeId} {n : Nat} {k : IntKind} {f : Nat → Nat} (h : w.rowIs b t n (fun i => .int k (n64 (f i)))) : w.heap[b]? = some (.cells (arrN k n f) t (0, 0)) := by
  obtain ⟨c, hb, hn, hc⟩ := h
  rw [hb]
  have : c = arrN k n f := by
    apply Array.ext
    · simp [hn]
    · intro i h1 h2
      have e1 := hc i (by omega)
      have e2 := arrN_get k n f i (by omega)
      rw [Array.getElem?_eq_getElem h1] at e1
      rw [Array.getElem?_eq_getElem h2] at e2
      exact Option.some.inj (e1.trans e2.symm)
  rw [this]
theorem zero_rowN (k : IntKind) (n : Nat) : ∀ i, i < n → (Array.replicate n (Value.int k 0))[i]? = some (.int k (n64 ((fun _ => 0 : Nat → Nat) i))) := by
  intro i hi; simp [hi]; rfl
/-- five limbs in a block -/
abbrev L5 (w : World) (b : Nat) (f : Nat → Nat) : Prop := w.rowIs b 39 5 (fun i => .int .u64 (n64 (f i)))
theorem L5.put {w : World} {b : Nat} {f : Nat → Nat} (h : L5 w b f) (i x : Nat) : L5 (w.setCell ⟨b, i, none⟩ (.int .u64 (n64 x))) b (updN f i x) := by
  refine (h.set i _).congr fun j _ => ?_
  unfold updN
  split <;> simp [*]

/-- two boxes, the result's cell, and the rest -/
structure P3 (w : World) (B : Nat) (f g : Nat → Nat) (W : World) : Prop where
  x : L5 W B f
  y : L5 W (B + 1) g
  r : W.rowIs (B + 1 + 1) 39 5 (fun _ => .int .u64 0)
  b : Below B w W
theorem P3.put {w : World} {B : Nat} {f g : Nat → Nat} {W : World} (h : P3 w B f g W) (i x : Nat) : P3 w B (updN f i x) g (W.setCell ⟨B, i, none⟩ (.int .u64 (n64 x))) :=
  ⟨L5.put h.x i x, h.y.setOther (a := ⟨B, i, none⟩) (by simp only; omega) _, h.r.setOther (a := ⟨B, i, none⟩) (by simp only; omega) _, h.b.setCell (by simp only; omega) _⟩
theorem P3.drew {w : World} {B : Nat} {f g : Nat → Nat} {W : World} (h : P3 w B f g W) : P3 w B f g W.drew := ⟨h.x, h.y, h.r, h.b.drew⟩
theorem P3.drewN {w : World} {B : Nat} {f g : Nat → Nat} {W : World} (h : P3 w B f g W) (m : Nat) : P3 w B f g (W.drewN m) := ⟨h.x, h.y, h.r, h.b.trans (Below.drewNr m)⟩
theorem zero5 : ∀ i, i < 5 → (#[Value.int IntKind.u64 0, .int .u64 0, .int .u64 0, .int .u64 0, .int .u64 0] : Array Value)[i]? = some (.int .u64 0) := by
  intro i hi
  rcases i with _ | _ | _ | _ | _ | i
  all_goals first | rfl | omega
def addTo (f g : Nat → Nat) : Nat → Nat → Nat
  | 0 => f
  | k + 1 => updN (addTo f g k) k (addTo f g k k + g k)
theorem addTo_get (f g : Nat → Nat) : ∀ k i, addTo f g k i = if i < k then f i + g i else f i
  | 0, i => by simp [addTo]
  | k + 1, i => by
    simp only [addTo, updN]
    rw [addTo_get f g k k, addTo_get f g k i]
    by_cases h : i = k
    · subst h; simp
    · simp only [h, if_false]
      by_cases h2 : i < k
      · rw [if_pos h2, if_pos (by omega)]
      · rw [if_neg h2, if_neg (by omega)]

set_option maxRecDepth 100000 in
set_option maxHeartbeats 1600000 in
theorem padd_any (f g : Nat → Nat) (w : World) (hf : ∀ i, i < 5 → f i < 9223372036854775808) (hg : ∀ i, i < 5 → g i < 9223372036854775808) :
    Calls Try.prog 15 #[.agg (arrN .u64 5 f), .agg (arrN .u64 5 g)] w fun e w' => e = .returned (.agg (arrN .u64 5 (fun i => f i + g i))) ∧ Below w.heap.size w w' := by
  have HF := Lib.hid hf; have HG := Lib.hid hg; clear hf hg
  go_enter Try.func15, Try.ntmps15
  go_wp2_with fail
  go_loopw [6] (fun i wr => ∃ k : Nat, k ≤ 5 ∧ i = .int .i64 k ∧ P3 w w.heap.size (addTo f g k) g wr) (fun i _ => 5 - (intOf i).toNat)
  case atStart =>
    refine ⟨0, by omega, rfl, ?_, ?_, ?_, ?_⟩
    · exact ((rowIs_new _ _ _ _ _ _ (by simp) (by simp) (fun i hi => arrN_get .u64 5 f i hi)).alloc _).alloc _
    · exact (rowIs_new _ _ _ _ _ _ (by simp) (by simp) (fun i hi => arrN_get .u64 5 g i hi)).alloc _
    · exact rowIs_new _ _ _ _ _ _ (by simp) (by rfl) zero5
    · go_grown
  case round =>
    obtain ⟨k, hk, rfl, hs⟩ := hrel
    generalize hB : w.heap.size = B at hs ⊢
    have HB := Lib.hid hB; clear hB
    by_cases hlt : k < 5
    · have cx := hs.x.cell (i := k) hlt
      have cy := hs.y.cell (i := k) hlt
      have fx := hs.x.frozen k
      have b1 := HF.out k hlt
      have b2 := HG.out k hlt
      have e1 : addTo f g k k = f k := by rw [addTo_get, if_neg (by omega)]
      have hadd := w64_add (addTo f g k k) (g k) (by rw [e1]; omega)
      clear e1
      have HS := Lib.hid (hs.put k (addTo f g k k + g k)).drew
      clear hs
      go_wp2_with fail
      go_region
      go_wp2_with fail
      go_roundw
      case rel => exact ⟨k + 1, by omega, by go_num, HS.out⟩
      case measure => simp [intOf]; omega
    · have hk8 : k = 5 := by omega
      rw [hk8] at hs
      clear hk8
      have hh := rowIs_heapN hs.x
      obtain ⟨old, hr1, hr2, _⟩ := hs.r
      rw [arrN_congr .u64 5 (fun i hi => (addTo_get f g 5 i).trans (if_pos hi))] at hh
      generalize hz : arrN .u64 5 (fun i => f i + g i) = z at *
      have hz1 : z.size = 5 := by rw [← hz]; simp
      have hz2 : z.all (·.oneCell') = true := by rw [← hz]; exact arrN_one _ _ _
      have HZ := Lib.hid hz; clear hz
      have hb := below_setRow (g := B + 1 + 1) hs.b (by omega) z
      have hres : (wr.setRow (B + 1 + 1) z).heap[B + 1 + 1]? = some (.cells z 39 (0, 0)) := setRow_heap _ _ _ _ _ _ hr1
      clear hs
      go_wp2_with (first | (refine wpList_load_row rfl 39 _ rfl _ rfl _ _ _ _ hh Try.underlying39 rfl (by kernel_rfl) ?_) | (refine wpList_store_row rfl 39 _ _ rfl _ _ rfl rfl _ _ hr1 (by kernel_rfl) (by rw [hz1]; exact hr2) hz2 ?_))
      refine bodyPost_ret (results_cell_row rfl _ _ _ _ _ _ _ rfl hres Try.underlying39 rfl (by kernel_rfl)) rfl ?_
      rw [HB.out, HZ.out]
      exact ⟨rfl, hb⟩
end Go.Proofs.Ytpkajfkdandhoaa
