import Derived.Test.YtpkajfkdandhoaaPyt
import Derived.Test.YtpkajfkdandhoaaPyo
import Derived.Test.YtpkajfkdandhoaaCpy
/-
  poly: numbers out of bytes, in memory.
-/
namespace Go.Proofs.Ytpkajfkdandhoaa
open Go.RowKit

theorem n8_64 (x : BitVec 8) : n8 x = n64 x.toNat := by
  have := x.isLt
  unfold n8 n32 n64
  simp only [BitVec.toNat_setWidth]
  omega
theorem n8_wrap (x : BitVec 8) : IntKind.u64.wrap (n8 x) = n64 x.toNat := by
  have := x.isLt
  rw [n8_64]
  unfold n64
  simp [IntKind.wrap, IntKind.signed, IntKind.bits]
  omega
theorem w64_shl (x s : Nat) (h : x * 2 ^ s < 18446744073709551616) : IntKind.u64.wrap (n64 x * 2 ^ s) = n64 (x * 2 ^ s) := by
  have := w64_mul x (2 ^ s) h
  rwa [show n64 (2 ^ s) = 2 ^ s by unfold n64; simp] at this
theorem n64_ne (x : Nat) (h : x ≠ 0) : (n64 x != 0) = true := by unfold n64; simp; omega
/-- the number of bytes -/
def numB (g : Nat → BitVec 8) (n : Nat) : Nat := num (fun i => (g i).toNat) n
theorem numB_lt (g : Nat → BitVec 8) (n : Nat) : numB g n < 256 ^ n := num_lt _ n fun i _ => (g i).isLt
theorem numB_succ (g : Nat → BitVec 8) (n : Nat) : numB g (n + 1) = numB g n + (g n).toNat * 256 ^ n := rfl
/-- the result's cell, the limbs, and the rest -/
structure PF (w : World) (B : Nat) (f : Nat → Nat) (W : World) : Prop where
  r : W.rowIs B 39 5 (fun _ => .int .u64 0)
  x : L5 W (B + 1) f
  b : Below B w W
theorem PF.put {w : World} {B : Nat} {f : Nat → Nat} {W : World} (h : PF w B f W) (i x : Nat) : PF w B (updN f i x) (W.setCell ⟨B + 1, i, none⟩ (.int .u64 (n64 x))) :=
  ⟨h.r.setOther (a := ⟨B + 1, i, none⟩) (by simp only; omega) _, L5.put h.x i x, h.b.setCell (by simp only; omega) _⟩
theorem PF.congr {w : World} {B : Nat} {f g : Nat → Nat} {W : World} (h : PF w B f W) (e : ∀ i, i < 5 → f i = g i) : PF w B g W :=
  ⟨h.r, h.x.congr fun i hi => by rw [e i hi], h.b⟩

set_option maxRecDepth 100000 in
set_option maxHeartbeats 1600000 in
theorem fromBytes_any (b n c : Nat) (g : Nat → BitVec 8) (w : World) (hn : n ≤ 17) (h17 : 16 < n → (g 16).toNat < 4) (hlt : b < w.heap.size) (hc : ∀ i, i < n → w.cell? ⟨b, i, none⟩ = some (v8 (g i))) :
    Calls Try.prog 22 #[.slice (some ⟨b, 0, none⟩) n c] w fun e w' => e = .returned (.agg (arrN .u64 5 (limb (numB g n)))) ∧ Below w.heap.size w w' := by
  have HC := Lib.hid hc; have H17 := Lib.hid h17; clear hc h17
  go_enter Try.func22, Try.ntmps22
  go_wp2_with fail
  go_loopw [12] (fun i wr => ∃ k : Nat, k ≤ n ∧ i = .int .i64 k ∧ PF w w.heap.size (limb (numB g k)) wr) (fun i _ => n - (intOf i).toNat)
  case atStart =>
    refine ⟨0, by omega, rfl, ?_, ?_, ?_⟩
    · exact (rowIs_new _ _ _ _ _ _ (by simp) (by rfl) zero5).alloc _
    · refine rowIs_new _ _ _ _ _ _ (by simp) (by rfl) (fun i hi => ?_)
      rw [zero5 i hi]
      rw [show limb (numB g 0) i = 0 by simp [numB, num, sm, limb]]
      rfl
    · go_grown
  case round =>
    obtain ⟨k, hk, rfl, hs⟩ := hrel
    generalize hB : w.heap.size = B at hs hlt ⊢
    have HB := Lib.hid hB; clear hB
    by_cases hlt2 : k < n
    · have hcb : wr.cell? ⟨b, k, none⟩ = some (v8 (g k)) := (hs.b.cell (p := ⟨b, k, none⟩) hlt).trans (HC.out k hlt2)
      have hx := (g k).isLt
      have hx16 : k = 16 → (g k).toNat < 4 := fun e => by subst e; exact H17.out hlt2
      have HW := Lib.hid (limb_with (numB g k) k (g k).toNat (numB_lt g k) (by omega) (by omega) hx16)
      have HN := Lib.hid (numB_succ g k)
      have hb0 := limb_lt (numB g k)
      have hw8 := n8_wrap (g k)
      obtain ⟨x, hX⟩ : ∃ x, x = (g k).toNat := ⟨_, rfl⟩
      rw [← hX] at hx hx16 HW HN hw8
      obtain ⟨N, hN⟩ : ∃ N, N = numB g k := ⟨_, rfl⟩
      rw [← hN] at HW HN hb0 hs
      obtain ⟨q, hqn⟩ : ∃ q : Nat, q = 8 * k / 26 := ⟨_, rfl⟩
      obtain ⟨s, hsn⟩ : ∃ s : Nat, s = 8 * k % 26 := ⟨_, rfl⟩
      have hq5 : q < 5 := by omega
      have hs26 : s < 26 := by omega
      have hx17 : 4 ≤ q → x * 2 ^ s / 67108864 = 0 := by
        intro h4
        have : k = 13 ∨ k = 14 ∨ k = 15 ∨ k = 16 := by omega
        rcases this with rfl | rfl | rfl | rfl
        · rw [show s = 0 by omega]; omega
        · rw [show s = 8 by omega]; omega
        · rw [show s = 16 by omega]; omega
        · rw [show s = 24 by omega]; have := hx16 rfl; omega
      have HE : Hid (withByte (limb N) k x = updN (updN (limb N) q (limb N q ||| x * 2 ^ s % 67108864)) (q + 1) (limb N (q + 1) ||| x * 2 ^ s / 67108864)) := Lib.hid (by unfold withByte; rw [← hqn, ← hsn])
      have hz1 : limb N (q + 1) = 0 := by rw [hN]; exact limb_high _ k _ (numB_lt g k) (by omega)
      have hq : (8 * (k : Int)) / 26 = q := by omega
      have hsI : (8 * (k : Int)) % 26 = s := by omega
      have hp : x * 2 ^ s ≤ 256 * 67108864 := Nat.mul_le_mul (by omega) (by rw [show (67108864 : Nat) = 2 ^ 26 from rfl]; exact Nat.pow_le_pow_right (by omega) (by omega))
      have hsh := w64_shl x s (by omega)
      have hma := n64_mask26 (x * 2 ^ s) (by omega)
      have hsr := n64_shr26 (x * 2 ^ s)
      have cq := hs.x.cell (i := q) hq5
      have fq := hs.x.frozen q
      have fq1 := hs.x.frozen (q + 1)
      have hor := n64_or (limb N q) (x * 2 ^ s % 67108864) (by have := hb0 q; omega) (by omega)
      have hs2 := hs.put q (limb N q ||| x * 2 ^ s % 67108864)
      by_cases hr : x * 2 ^ s / 67108864 = 0
      · have hd : (n64 (x * 2 ^ s / 67108864) != 0) = false := by rw [hr]; rfl
        have HS : Hid (PF w B (limb (numB g (k + 1))) (wr.setCell ⟨B + 1, q, none⟩ (.int .u64 (n64 (limb N q ||| x * 2 ^ s % 67108864))))) := Lib.hid (by
          rw [HN.out]
          refine hs2.congr fun i hi => ?_
          rw [HW.out i hi, HE.out, hr, hz1]
          unfold updN
          by_cases h1 : i = q + 1
          · rw [if_pos h1, if_neg (by omega), h1, hz1]; rfl
          · rw [if_neg h1])
        clear hr hs hs2 hx16 hx17 hz1 hN hX hb0 hp hqn hsn HE HW HN
        go_wp2_with fail
        go_roundw
        case rel => exact ⟨k + 1, by omega, by go_num, HS.out⟩
        case measure => simp [intOf]; omega
      · have hd := n64_ne _ hr
        have hq4 : q + 1 < 5 := by
          rcases Nat.lt_or_ge q 4 with h | h
          · omega
          · exact absurd (hx17 h) hr
        have cq1 := hs.x.cell (i := q + 1) hq4
        have hor1 := n64_or (limb N (q + 1)) (x * 2 ^ s / 67108864) (by have := hb0 (q + 1); omega) (by omega)
        have HS : Hid (PF w B (limb (numB g (k + 1))) ((wr.setCell ⟨B + 1, q, none⟩ (.int .u64 (n64 (limb N q ||| x * 2 ^ s % 67108864)))).setCell ⟨B + 1, q + 1, none⟩ (.int .u64 (n64 (limb N (q + 1) ||| x * 2 ^ s / 67108864))))) := Lib.hid (by
          rw [HN.out]
          refine (hs2.put (q + 1) _).congr fun i hi => ?_
          rw [HW.out i hi, HE.out])
        clear hr hs hs2 hx16 hx17 hz1 hN hX hb0 hp hqn hsn HE HW HN
        go_wp2_with fail
        go_roundw
        case rel => exact ⟨k + 1, by omega, by go_num, HS.out⟩
        case measure => simp [intOf]; omega
    · have hk8 : k = n := by omega
      rw [hk8] at hs ⊢
      clear hk8
      have hh := rowIs_heapN hs.x
      obtain ⟨old, hr1, hr2, _⟩ := hs.r
      obtain ⟨F, hF⟩ : ∃ F, F = limb (numB g n) := ⟨_, rfl⟩
      rw [← hF] at hh
      have HFF := Lib.hid hF; clear hF
      have hb := below_setRow (g := B) hs.b (by omega) (arrN .u64 5 F)
      have hres : (wr.setRow B (arrN .u64 5 F)).heap[B]? = some (.cells (arrN .u64 5 F) 39 (0, 0)) := setRow_heap _ _ _ _ _ _ hr1
      clear hs
      go_wp2_with (first | (refine wpList_load_row rfl 39 _ rfl _ rfl _ _ _ _ hh Try.underlying39 rfl (by kernel_rfl) ?_) | (refine wpList_store_row rfl 39 _ _ rfl _ _ rfl rfl _ _ hr1 (by kernel_rfl) (by simpa using hr2) (arrN_one _ _ _) ?_))
      refine bodyPost_ret (results_cell_row rfl _ _ _ _ _ _ _ rfl hres Try.underlying39 rfl (by kernel_rfl)) rfl ?_
      rw [HB.out, ← HFF.out]
      exact ⟨rfl, hb⟩

/-- at most sixteen bytes with a 1 behind them, as a number -/
def blockG (K : List (BitVec 8)) (i : Nat) : BitVec 8 := if i < K.length then K.getD i 0#8 else if i = K.length then 1#8 else 0#8
def blockN (K : List (BitVec 8)) : Nat := numB (blockG K) 17
theorem zero17 : ∀ i, i < 17 → (Array.replicate 17 (Value.int IntKind.u8 0))[i]? = some (v8 ((fun _ => 0#8 : Nat → BitVec 8) i)) := by
  intro i hi; simp [hi]; rfl

set_option maxRecDepth 100000 in
set_option maxHeartbeats 1600000 in
theorem block_any (A : Option Addr) (K : List (BitVec 8)) (cap : Nat) (w : World) (hK : K.length ≤ 16) (hS : SlRead w A (ints .u8 (bys K))) :
    Calls Try.prog 16 #[.slice A K.length cap] w fun e w' => e = .returned (.agg (arrN .u64 5 (limb (blockN K)))) ∧ Below w.heap.size w w' := by
  have hsl := sliceAt_all (P := Try.prog) 17 Try.underlying50 (show (Try.prog.info? 5).map (·.size) = some 1 by kernel_rfl)
  go_enter Try.func16, Try.ntmps16
  go_upto_region 2 with (fail)
  refine wp_world (fun W => W.rowIs w.heap.size 39 5 (fun _ => .int .u64 0) ∧ W.rowIs (w.heap.size + 1) 50 17 (fun i => v8 ((fun _ => 0#8 : Nat → BitVec 8) i)) ∧ Below w.heap.size w W ∧ SlRead W A (ints .u8 (bys K))) ?_ ?_
  · refine ⟨?_, ?_, ?_, ?_⟩
    · exact (rowIs_new _ _ _ _ _ _ (by simp) (by rfl) zero5).alloc _
    · exact rowIs_new _ _ _ _ _ _ (by simp) (by rfl) zero17
    · go_grown
    · exact hS.below (by go_grown)
  rintro W0 ⟨h1, h2, h3, h4⟩
  generalize hB : w.heap.size = B at h1 h2 h3 ⊢
  have HB := Lib.hid hB; clear hB hS
  have hslB := hsl (B + 1) (by omega)
  clear hsl
  go_upto_region 3 with (refine wpList_copy_row rfl (.tmp 4) (.tmp 5) 24 24 rfl 5 Try.underlying24 (by kernel_rfl) (B + 1) 17 _ _ _ rfl rfl 50 (fun _ => 0#8) h2 K rfl (by omega) h4 ?_; rintro W1 hrow hon; have hck := hrow.cell (i := K.length) (by omega); have hfk := hrow.frozen K.length)
  have hrow2 : (W1.setCell ⟨B + 1, K.length, none⟩ (.int .u8 1)).rowIs (B + 1) 50 17 (fun i => v8 (blockG K i)) := by
    refine (hrow.set K.length _).congr fun i _ => ?_
    unfold blockG
    by_cases e : i = K.length
    · rw [if_pos e, if_neg (by omega), if_pos e]; rfl
    · rw [if_neg e]
      by_cases e2 : i < K.length
      · rw [if_pos e2, if_pos e2]
      · rw [if_neg e2, if_neg e2, if_neg e]
  have hres0 : (W1.setCell ⟨B + 1, K.length, none⟩ (.int .u8 1)).rowIs B 39 5 (fun _ => .int .u64 0) := (hon.row h1 (by omega)).setOther (a := ⟨B + 1, K.length, none⟩) (by simp only; omega) _
  have hb0 : Below B w (W1.setCell ⟨B + 1, K.length, none⟩ (.int .u8 1)) := (h3.trans (hon.below (by omega) (by rw [← HB.out]; exact h3.size))).setCell (by simp only; omega) _
  generalize W1.setCell ⟨B + 1, K.length, none⟩ (.int .u8 1) = W2 at *
  clear hrow hon h1 h2 h3 h4 hck hfk W1 W0
  have hcall := fromBytes_any (B + 1) 17 17 (blockG K) W2 (by omega) (fun _ => by unfold blockG; split; omega; split <;> decide) hrow2.lt (fun i hi => hrow2.cell hi)
  have hbl : numB (blockG K) 17 = blockN K := rfl
  rw [hbl] at hcall
  have HC := Lib.hid hcall
  obtain ⟨old, hr1, hr2, _⟩ := hres0
  have hlt1 : B < W2.heap.size := by
    rcases Nat.lt_or_ge B W2.heap.size with hl | hl
    · exact hl
    · rw [Array.getElem?_eq_none hl] at hr1; cases hr1
  clear hcall hbl hrow2
  go_wp2_with fail
  refine HC.out.mono ?_
  rintro e w1 ⟨rfl, hb1⟩
  have hr1' : w1.heap[B]? = some (.cells old 39 (0, 0)) := (hb1.block _ hlt1).trans hr1
  have hb2 : Below B w w1 := hb0.trans (hb1.mono (by omega))
  have hb := below_setRow (g := B) hb2 (by omega) (arrN .u64 5 (limb (blockN K)))
  have hres : (w1.setRow B (arrN .u64 5 (limb (blockN K)))).heap[B]? = some (.cells (arrN .u64 5 (limb (blockN K))) 39 (0, 0)) := setRow_heap _ _ _ _ _ _ hr1'
  clear hr1 hb1 hb2 hb0 HC
  go_wp2_with (refine wpList_store_row rfl 39 _ _ rfl _ _ rfl rfl _ _ hr1' (by kernel_rfl) (by simpa using hr2) (arrN_one _ _ _) ?_)
  refine bodyPost_ret (results_cell_row rfl _ _ _ _ _ _ _ rfl hres Try.underlying39 rfl (by kernel_rfl)) rfl ?_
  rw [HB.out]
  exact ⟨rfl, hb⟩

/-! ### the key's first half -/
def clampB (i : Nat) (x : BitVec 8) : BitVec 8 := if i = 3 ∨ i = 7 ∨ i = 11 ∨ i = 15 then x &&& 15#8 else if i = 4 ∨ i = 8 ∨ i = 12 then x &&& 252#8 else x
/-- the key's first half without the bits that are cleared, as a number -/
def keyR (key : Nat → BitVec 8) : Nat := numB (fun i => clampB i (key i)) 16
theorem n8_and15 (x : BitVec 8) : bits .and .u8 (n8 x) 15 = n8 (x &&& 15#8) := by
  have := u8_and_nat x.toNat 15 x.isLt (by omega)
  rw [n8_64, n8_64]
  unfold n64
  rw [BitVec.toNat_and]
  exact this
theorem n8_and252 (x : BitVec 8) : bits .and .u8 (n8 x) 252 = n8 (x &&& 252#8) := by
  have := u8_and_nat x.toNat 252 x.isLt (by omega)
  rw [n8_64, n8_64]
  unfold n64
  rw [BitVec.toNat_and]
  exact this

/-- the half behind k places of the first row, behind k of the second -/
def half1 (key : Nat → BitVec 8) (k i : Nat) : BitVec 8 := if i % 4 = 3 ∧ i / 4 < k then key i &&& 15#8 else key i
def half2 (key : Nat → BitVec 8) (k i : Nat) : BitVec 8 := if i % 4 = 0 ∧ 0 < i ∧ i / 4 ≤ k then half1 key 4 i &&& 252#8 else half1 key 4 i
theorem half2_end (key : Nat → BitVec 8) (i : Nat) (h : i < 16) : half2 key 3 i = clampB i (key i) := by
  unfold half2 half1 clampB
  by_cases e : i = 3 ∨ i = 7 ∨ i = 11 ∨ i = 15
  · rw [if_neg (by omega), if_pos (by omega), if_pos e]
  · rw [if_neg e]
    by_cases e2 : i = 4 ∨ i = 8 ∨ i = 12
    · rw [if_pos (by omega), if_neg (by omega), if_pos e2]
    · rw [if_neg (by omega), if_neg (by omega), if_neg e2]
/-- the box of the key, the result's cell, the half -/
structure PH (w : World) (B : Nat) (key h : Nat → BitVec 8) (W : World) : Prop where
  r : W.rowIs (B + 1) 39 5 (fun _ => .int .u64 0)
  x : W.rowIs (B + 2) 26 16 (fun i => v8 (h i))
  b : Below B w W
theorem zero16 : ∀ i, i < 16 → (Array.replicate 16 (Value.int IntKind.u8 0))[i]? = some (v8 ((fun _ => 0#8 : Nat → BitVec 8) i)) := by
  intro i hi; simp [hi]; rfl

set_option maxRecDepth 100000 in
set_option maxHeartbeats 1600000 in
theorem factor_any (key : Nat → BitVec 8) (w : World) :
    Calls Try.prog 14 #[.agg (arr8 32 key)] w fun e w' => e = .returned (.agg (arrN .u64 5 (limb (keyR key)))) ∧ Below w.heap.size w w' := by
  have hslA := sliceAt_all (P := Try.prog) 16 Try.underlying26 (show (Try.prog.info? 5).map (·.size) = some 1 by kernel_rfl)
  have hslK := sliceAt_arr_h (P := Try.prog) 32 Try.underlying23 (show (Try.prog.info? 5).map (·.size) = some 1 by kernel_rfl)
  go_enter Try.func14, Try.ntmps14
  go_upto_region 2 with (fail)
  refine wp_world (fun W => W.rowIs w.heap.size 23 32 (fun i => v8 (key i)) ∧ W.rowIs (w.heap.size + 1) 39 5 (fun _ => .int .u64 0) ∧ W.rowIs (w.heap.size + 2) 26 16 (fun i => v8 ((fun _ => 0#8 : Nat → BitVec 8) i)) ∧ Below w.heap.size w W) ?_ ?_
  · refine ⟨?_, ?_, ?_, ?_⟩
    · exact ((rowIs_new _ _ _ _ _ _ (by simp) (by simp) (fun i hi => arr8_get 32 key i hi)).alloc _).alloc _
    · exact (rowIs_new _ _ _ _ _ _ (by simp) (by rfl) zero5).alloc _
    · exact rowIs_new _ _ _ _ _ _ (by simp) (by rfl) zero16
    · go_grown
  rintro W0 ⟨h0, h1, h2, h3⟩
  generalize hB : w.heap.size = B at h0 h1 h2 h3 ⊢
  have HB := Lib.hid hB; clear hB
  have hA := hslA (B + 2) (by omega)
  have hK := hslK B 16 (by omega) (by omega)
  rw [show ((16 : Nat) : Int) = 16 from rfl] at hK
  clear hslA hslK
  refine wp_region_still_tail 2 (by kernel_rfl) (by kernel_rfl) ?_
  simp only [List.take_succ_cons, List.take_zero, List.drop_succ_cons, List.drop_zero]
  refine wpStill_sliceAt rfl 26 _ none none none rfl (.pointer (some ⟨B + 2, 0, none⟩)) none none none _ rfl (hA _) ?_
  refine wpStill_sliceAt rfl 23 _ none (some (.const (.int .i64 16))) none rfl (.pointer (some ⟨B, 0, none⟩)) none (some (.int .i64 16)) none _ rfl (hK _) ?_
  refine wpStill_nil ?_
  change wpList _ _ _ _ _ W0.drew
  have hSK : SlRead W0.drew (some ⟨B, 0, none⟩) (ints .u8 (bys (lst 16 key))) := by
    have := (slread_row h0).below (Below.drewNr 1)
    have t := this
    intro _
    refine ⟨B, 0, rfl, h0.lt, fun j u hj => ?_⟩
    rw [bys_ints] at hj
    have hjn : j < 16 := by
      have := (List.getElem?_eq_some_iff.1 hj).1
      simpa using this
    rw [Nat.zero_add, show W0.drew.cell? ⟨B, j, none⟩ = W0.cell? ⟨B, j, none⟩ from rfl, h0.cell (by omega), ← hj]
    simp [lst, hjn]
  refine wpList_copy_row rfl _ _ 24 24 rfl 5 Try.underlying24 (by kernel_rfl) (B + 2) 16 (some ⟨B, 0, none⟩) 16 32 rfl rfl 26 (fun _ => 0#8) h2 (lst 16 key) (by simp) (by omega) hSK ?_
  intro W1 hr hon
  have hW1 : PH w B key (half1 key 0) W1 := by
    refine ⟨hon.row (w := W0.drew) h1 (by omega), hr.congr fun i hi => ?_, h3.trans ((Below.drewNr (w := W0) 1).mono (by rw [← HB.out]; exact h3.size) |>.trans (hon.below (by omega) (by rw [← HB.out]; exact h3.size)))⟩
    rw [if_pos (by simpa using hi)]
    simp only [half1, Nat.not_lt_zero, and_false, if_false]
    simp [lst, hi]
  clear hr hon hSK h0 h1 h2 h3 hK hA
  go_wp2_with fail
  go_loopw [12] (fun i wr => ∃ k : Nat, k ≤ 4 ∧ i = .int .i64 k ∧ PH w B key (half1 key k) wr) (fun i _ => 4 - (intOf i).toNat)
  case atStart => exact ⟨0, by omega, rfl, hW1⟩
  clear hW1
  case round =>
    obtain ⟨k, hk, rfl, hs⟩ := hrel
    by_cases hlt : k < 4
    · have hix := index_arr (P := Try.prog) Try.underlying48 (show Try.prog.underlying 3 = some (.int .i64) by kernel_rfl) (show (Try.prog.info? 3).map (·.size) = some 1 by kernel_rfl) #[.int .i64 3, .int .i64 7, .int .i64 11, .int .i64 15] k hlt (.int .i64 ((4 * k + 3 : Nat) : Int)) (by rcases k with _ | _ | _ | _ | k; all_goals first | rfl | omega)
      have cx := hs.x.cell (i := 4 * k + 3) (by omega)
      have fx := hs.x.frozen (4 * k + 3)
      obtain ⟨p, hp⟩ : ∃ p, p = 4 * k + 3 := ⟨_, rfl⟩
      have hp16 : p < 16 := by omega
      have HS : Hid (PH w B key (half1 key (k + 1)) (wr.setCell ⟨B + 2, 4 * k + 3, none⟩ (v8 (half1 key k (4 * k + 3) &&& 15#8)))) := Lib.hid ⟨hs.r.setOther (a := ⟨B + 2, 4 * k + 3, none⟩) (by simp only; omega) _, (hs.x.set (4 * k + 3) _).congr fun i hi => by
        unfold half1
        by_cases e : i = 4 * k + 3
        · rw [if_pos e, if_neg (by omega), if_pos (by omega), e]
        · rw [if_neg e]
          by_cases e2 : i % 4 = 3 ∧ i / 4 < k
          · rw [if_pos e2, if_pos (by omega)]
          · rw [if_neg e2, if_neg (by omega)], hs.b.setCell (by simp only; omega) _⟩
      have hand := n8_and15 (half1 key k p)
      rw [← hp] at hix cx fx HS
      generalize half1 key k p = x at *
      clear hs hp
      go_wp2_with fail
      go_roundw
      case rel => exact ⟨k + 1, by omega, by go_num, HS.out⟩
      case measure => simp [intOf]; omega
    · have hk8 : k = 4 := by omega
      rw [hk8] at hs ⊢
      clear hk8 hlt hk
      go_wp2_with fail
      go_loopw [22] (fun i wr => ∃ k : Nat, k ≤ 3 ∧ i = .int .i64 k ∧ PH w B key (half2 key k) wr) (fun i _ => 3 - (intOf i).toNat)
      case atStart => exact ⟨0, by omega, rfl, hs.r, hs.x.congr (fun i _ => by unfold half2; rw [if_neg (by omega)]), hs.b⟩
      clear hs
      case round =>
        obtain ⟨k, hk, rfl, hs⟩ := hrel
        by_cases hlt : k < 3
        · have hix := index_arr (P := Try.prog) Try.underlying49 (show Try.prog.underlying 3 = some (.int .i64) by kernel_rfl) (show (Try.prog.info? 3).map (·.size) = some 1 by kernel_rfl) #[.int .i64 4, .int .i64 8, .int .i64 12] k hlt (.int .i64 ((4 * k + 4 : Nat) : Int)) (by rcases k with _ | _ | _ | k; all_goals first | rfl | omega)
          have cx := hs.x.cell (i := 4 * k + 4) (by omega)
          have fx := hs.x.frozen (4 * k + 4)
          obtain ⟨p, hp⟩ : ∃ p, p = 4 * k + 4 := ⟨_, rfl⟩
          have hp16 : p < 16 := by omega
          have HS : Hid (PH w B key (half2 key (k + 1)) (wr.setCell ⟨B + 2, 4 * k + 4, none⟩ (v8 (half2 key k (4 * k + 4) &&& 252#8)))) := Lib.hid ⟨hs.r.setOther (a := ⟨B + 2, 4 * k + 4, none⟩) (by simp only; omega) _, (hs.x.set (4 * k + 4) _).congr fun i hi => by
            unfold half2
            by_cases e : i = 4 * k + 4
            · rw [if_pos e, if_neg (by omega), if_pos (by omega), e]
            · rw [if_neg e]
              by_cases e2 : i % 4 = 0 ∧ 0 < i ∧ i / 4 ≤ k
              · rw [if_pos e2, if_pos (by omega)]
              · rw [if_neg e2, if_neg (by omega)], hs.b.setCell (by simp only; omega) _⟩
          have hand := n8_and252 (half2 key k p)
          rw [← hp] at hix cx fx HS
          generalize half2 key k p = x at *
          clear hs hp
          go_wp2_with fail
          go_roundw
          case rel => exact ⟨k + 1, by omega, by go_num, HS.out⟩
          case measure => simp [intOf]; omega
        · have hk8 : k = 3 := by omega
          rw [hk8] at hs ⊢
          clear hk8 hlt hk
          have hA := sliceAt_all (P := Try.prog) 16 Try.underlying26 (show (Try.prog.info? 5).map (·.size) = some 1 by kernel_rfl) (B + 2) (by omega)
          have hrow2 : wr.rowIs (B + 2) 26 16 (fun i => v8 (clampB i (key i))) := hs.x.congr fun i hi => by rw [half2_end key i hi]
          have hres0 := hs.r
          have hb0 := hs.b
          have hcall := fromBytes_any (B + 2) 16 16 (fun i => clampB i (key i)) wr (by omega) (fun h => by omega) hrow2.lt (fun i hi => hrow2.cell hi)
          have hbl : numB (fun i => clampB i (key i)) 16 = keyR key := rfl
          rw [hbl] at hcall
          have HC := Lib.hid hcall
          obtain ⟨old, hr1, hr2, _⟩ := hres0
          have hlt1 : B + 1 < wr.heap.size := by
            rcases Nat.lt_or_ge (B + 1) wr.heap.size with hl | hl
            · exact hl
            · rw [Array.getElem?_eq_none hl] at hr1; cases hr1
          clear hcall hbl hrow2 hs
          go_wp2_with fail
          refine HC.out.mono ?_
          rintro e w1 ⟨rfl, hb1⟩
          have hr1' : w1.heap[B + 1]? = some (.cells old 39 (0, 0)) := (hb1.block _ hlt1).trans hr1
          have hb2 : Below B w w1 := hb0.trans (hb1.mono (by omega))
          have hb := below_setRow (g := B + 1) hb2 (by omega) (arrN .u64 5 (limb (keyR key)))
          have hres : (w1.setRow (B + 1) (arrN .u64 5 (limb (keyR key)))).heap[B + 1]? = some (.cells (arrN .u64 5 (limb (keyR key))) 39 (0, 0)) := setRow_heap _ _ _ _ _ _ hr1'
          clear hr1 hb1 hb2 hb0 HC hA
          go_wp2_with (refine wpList_store_row rfl 39 _ _ rfl _ _ rfl rfl _ _ hr1' (by kernel_rfl) (by simpa using hr2) (arrN_one _ _ _) ?_)
          refine bodyPost_ret (results_cell_row rfl _ _ _ _ _ _ _ rfl hres Try.underlying39 rfl (by kernel_rfl)) rfl ?_
          rw [HB.out]
          exact ⟨rfl, hb⟩
end Go.Proofs.Ytpkajfkdandhoaa
